/- Package bitmap: plain mathematics: bits of words. -/
import Derived.RowKit
namespace Go.Grommet

/-- A word with one bit laid. -/
def setB (v j : Nat) (is : Bool) : Nat := if is then (v &&& (18446744073709551615 - 2 ^ j)) ||| 2 ^ j else v &&& (18446744073709551615 - 2 ^ j)

theorem pow_lt64 {j : Nat} (h : j < 64) : 2 ^ j < 18446744073709551616 := by
  have := Nat.pow_lt_pow_right (a := 2) (by decide) h
  exact this
theorem mask_bit {j : Nat} (hj : j < 64) (i : Nat) : (18446744073709551615 - 2 ^ j).testBit i = (decide (i < 64) && !decide (i = j)) := by
  have hp := pow_lt64 hj
  have e : 18446744073709551615 - 2 ^ j = 2 ^ 64 - (2 ^ j + 1) := by omega
  rw [e, Nat.testBit_two_pow_sub_succ hp, Nat.testBit_two_pow]
  congr 2
  exact decide_eq_decide.2 ⟨fun h => h.symm, fun h => h.symm⟩
theorem bit_far {v : Nat} (hv : v < 18446744073709551616) {i : Nat} (h : 64 ≤ i) : v.testBit i = false :=
  Nat.testBit_lt_two_pow (Nat.lt_of_lt_of_le hv (Nat.pow_le_pow_right (n := 2) (by decide) h))
theorem setB_bit {v j : Nat} (is : Bool) (hj : j < 64) (hv : v < 18446744073709551616) (i : Nat) : (setB v j is).testBit i = if i = j then is else v.testBit i := by
  have hm := mask_bit hj i
  have key : (v &&& (18446744073709551615 - 2 ^ j)).testBit i = (v.testBit i && !decide (i = j)) := by
    rw [Nat.testBit_and, hm]
    by_cases h : i < 64
    · simp [h]
    · rw [bit_far hv (by omega)]; simp
  unfold setB
  cases is with
  | false =>
    rw [if_neg (by decide), key]
    by_cases h : i = j <;> simp [h]
  | true =>
    rw [if_pos rfl, Nat.testBit_or, key, Nat.testBit_two_pow]
    by_cases h : i = j
    · simp [h]
    · have : ¬ j = i := fun e => h e.symm
      simp [h, this]
theorem setB_small {v j : Nat} (is : Bool) (hj : j < 64) (hv : v < 18446744073709551616) : setB v j is < 18446744073709551616 := by
  have h1 : v &&& (18446744073709551615 - 2 ^ j) < 2 ^ 64 := Nat.lt_of_le_of_lt Nat.and_le_left hv
  unfold setB
  split
  · exact Nat.or_lt_two_pow h1 (pow_lt64 hj)
  · exact h1
theorem and_bit (v j : Nat) : (v &&& 2 ^ j = 0) ↔ v.testBit j = false := by
  constructor
  · intro h
    have e : (v &&& 2 ^ j).testBit j = false := by rw [h, Nat.zero_testBit]
    rw [Nat.testBit_and, Nat.testBit_two_pow] at e
    simpa using e
  · intro h
    apply Nat.eq_of_testBit_eq
    intro i
    rw [Nat.testBit_and, Nat.testBit_two_pow, Nat.zero_testBit]
    by_cases e : j = i
    · subst e; simp [h]
    · simp [e]
theorem div_bit (v j : Nat) : v / 2 ^ j % 2 = (v.testBit j).toNat := by
  rw [← Nat.toNat_testBit]

/-- How many of the first n are so. -/
def cntF (f : Nat → Bool) : Nat → Nat
  | 0 => 0
  | n + 1 => cntF f n + (f n).toNat
theorem cntF_add (f : Nat → Bool) (m : Nat) : ∀ n, cntF f (m + n) = cntF f m + cntF (fun i => f (m + i)) n
  | 0 => rfl
  | n + 1 => by
    show cntF f (m + n) + (f (m + n)).toNat = cntF f m + (cntF (fun i => f (m + i)) n + (f (m + n)).toNat)
    rw [cntF_add f m n]; omega
theorem cntF_congr {f g : Nat → Bool} : ∀ n, (∀ i, i < n → f i = g i) → cntF f n = cntF g n
  | 0, _ => rfl
  | n + 1, h => by
    show cntF f n + (f n).toNat = cntF g n + (g n).toNat
    rw [cntF_congr n (fun i hi => h i (by omega)), h n (by omega)]
theorem cntF_none : ∀ n, cntF (fun _ => false) n = 0
  | 0 => rfl
  | n + 1 => by show cntF (fun _ => false) n + _ = 0; rw [cntF_none n]; rfl
theorem cntF_le (f : Nat → Bool) : ∀ n, cntF f n ≤ n
  | 0 => Nat.le_refl _
  | n + 1 => by
    show cntF f n + (f n).toNat ≤ _
    have := cntF_le f n
    have : (f n).toNat ≤ 1 := by cases f n <;> decide
    omega
theorem cntF_clip (f : Nat → Bool) (m k : Nat) (h : m ≤ k) : cntF (fun i => decide (i < m) && f i) k = cntF f m := by
  obtain ⟨d, rfl⟩ : ∃ d, k = m + d := ⟨k - m, by omega⟩
  rw [cntF_add]
  have e1 : cntF (fun i => decide (i < m) && f i) m = cntF f m := cntF_congr m (fun i hi => by simp [hi])
  have e2 : cntF (fun i => decide (m + i < m) && f (m + i)) d = 0 := by
    rw [cntF_congr (g := fun _ => false) d (fun i _ => by simp; omega), cntF_none]
  rw [e1, e2]; rfl
/-- One of them is turned. -/
theorem cntF_turn {f g : Nat → Bool} {k : Nat} (hne : ∀ i, i ≠ k → g i = f i) : ∀ n, k < n → cntF g n + (f k).toNat = cntF f n + (g k).toNat
  | 0, h => by omega
  | n + 1, h => by
    show cntF g n + (g n).toNat + (f k).toNat = cntF f n + (f n).toNat + (g k).toNat
    by_cases e : k = n
    · subst e
      rw [cntF_congr (f := g) (g := f) k (fun i hi => hne i (by omega))]; omega
    · have := cntF_turn hne n (by omega)
      rw [hne n (fun x => e x.symm)]; omega

theorem and_split (k : Nat) (A a B b : Nat) (ha : a < 2 ^ k) (hb : b < 2 ^ k) : (2 ^ k * A + a) &&& (2 ^ k * B + b) = 2 ^ k * (A &&& B) + (a &&& b) := by
  apply Nat.eq_of_testBit_eq
  intro i
  rw [Nat.testBit_and, Nat.testBit_two_pow_mul_add _ ha, Nat.testBit_two_pow_mul_add _ hb, Nat.testBit_two_pow_mul_add _ (Nat.and_lt_two_pow _ hb)]
  split <;> rw [Nat.testBit_and]

/-- Ones are counted, as the library counts them, up to the bytes. -/
def gp (M0 M1 M2 x : Nat) : Nat :=
  let a := (x / 2 &&& M0) + (x &&& M0)
  let b := (a / 4 &&& M1) + (a &&& M1)
  (b / 16 + b) &&& M2
theorem gp_byte : ∀ b : Fin 256, gp 85 51 15 b.1 = cntF b.1.testBit 8 := by decide +kernel
theorem half_byte : ∀ (c : Fin 2) (b : Fin 256), (c.1 * 128 + b.1 / 2) &&& 85 = (b.1 / 2 &&& 85) := by decide +kernel
theorem quart_byte : ∀ (c : Fin 4) (b : Fin 256), (c.1 * 64 + b.1 / 4) &&& 51 = (b.1 / 4 &&& 51) := by decide +kernel
theorem nib_byte : ∀ (c : Fin 7) (b : Fin 120), (c.1 * 16 + b.1 / 16 + b.1) &&& 15 = (b.1 / 16 + b.1) &&& 15 := by decide +kernel
theorem gp_split (M0 M1 M2 hi lo : Nat) (hlo : lo < 256) (h1 : M1 % 16 ≤ 3) :
    gp (256 * M0 + 85) (256 * M1 + 51) (256 * M2 + 15) (256 * hi + lo) = 256 * gp M0 M1 M2 hi + gp 85 51 15 lo := by
  have s := fun (A a B b : Nat) (ha : a < 256) (hb : b < 256) => and_split 8 A a B b ha hb
  have ea : ((256 * hi + lo) / 2 &&& (256 * M0 + 85)) = 256 * (hi / 2 &&& M0) + (lo / 2 &&& 85) := by
    have e : (256 * hi + lo) / 2 = 256 * (hi / 2) + ((hi % 2) * 128 + lo / 2) := by omega
    rw [e, s _ _ _ _ (by omega) (by decide)]
    have := half_byte ⟨hi % 2, by omega⟩ ⟨lo, hlo⟩
    simp only at this
    rw [this]
  have eb : ((256 * hi + lo) &&& (256 * M0 + 85)) = 256 * (hi &&& M0) + (lo &&& 85) := s _ _ _ _ hlo (by decide)
  unfold gp
  simp only
  rw [ea, eb]
  have ha1 : lo / 2 &&& 85 ≤ 85 := Nat.and_le_right
  have ha2 : lo &&& 85 ≤ 85 := Nat.and_le_right
  generalize lo / 2 &&& 85 = u at ha1 ⊢
  generalize lo &&& 85 = v at ha2 ⊢
  generalize hi / 2 &&& M0 = U
  generalize hi &&& M0 = V
  have e0 : 256 * U + u + (256 * V + v) = 256 * (U + V) + (u + v) := by omega
  rw [e0]
  have hl : u + v < 256 := by omega
  generalize u + v = p at hl ⊢
  generalize U + V = P
  have ec : ((256 * P + p) / 4 &&& (256 * M1 + 51)) = 256 * (P / 4 &&& M1) + (p / 4 &&& 51) := by
    have e : (256 * P + p) / 4 = 256 * (P / 4) + ((P % 4) * 64 + p / 4) := by omega
    rw [e, s _ _ _ _ (by omega) (by decide)]
    have := quart_byte ⟨P % 4, by omega⟩ ⟨p, hl⟩
    simp only at this
    rw [this]
  have ed : ((256 * P + p) &&& (256 * M1 + 51)) = 256 * (P &&& M1) + (p &&& 51) := s _ _ _ _ hl (by decide)
  rw [ec, ed]
  have nib : ∀ X, (X &&& M1) % 16 ≤ 3 := by
    intro X
    have e := and_split 4 (X / 16) (X % 16) (M1 / 16) (M1 % 16) (by omega) (by omega)
    rw [show 2 ^ 4 * (X / 16) + X % 16 = X from by omega, show 2 ^ 4 * (M1 / 16) + M1 % 16 = M1 from by omega] at e
    have := Nat.and_le_right (n := X % 16) (m := M1 % 16)
    omega
  have n1 := nib (P / 4)
  have n2 := nib P
  have q1 : p / 4 &&& 51 ≤ 51 := Nat.and_le_right
  have q2 : p &&& 51 ≤ 51 := Nat.and_le_right
  generalize p / 4 &&& 51 = x at q1 ⊢
  generalize p &&& 51 = y at q2 ⊢
  generalize P / 4 &&& M1 = X at n1 ⊢
  generalize P &&& M1 = Y at n2 ⊢
  have e1 : 256 * X + x + (256 * Y + y) = 256 * (X + Y) + (x + y) := by omega
  rw [e1]
  have hq : x + y < 120 := by omega
  have hQ : (X + Y) % 16 < 7 := by omega
  generalize x + y = q at hq ⊢
  generalize X + Y = Q at hQ ⊢
  have e2 : (256 * Q + q) / 16 + (256 * Q + q) = 256 * (Q / 16 + Q) + ((Q % 16) * 16 + q / 16 + q) := by omega
  rw [e2, s _ _ _ _ (by omega) (by decide)]
  have := nib_byte ⟨Q % 16, hQ⟩ ⟨q, hq⟩
  simp only at this
  rw [this]
theorem cnt_byte (hi lo n : Nat) (hlo : lo < 256) : cntF (256 * hi + lo).testBit (8 + n) = cntF lo.testBit 8 + cntF hi.testBit n := by
  rw [cntF_add]
  have e : ∀ i, (256 * hi + lo).testBit i = if i < 8 then lo.testBit i else hi.testBit (i - 8) := fun i => Nat.testBit_two_pow_mul_add hi (i := 8) hlo i
  congr 1
  · exact cntF_congr 8 (fun i hi => by rw [e, if_pos hi])
  · exact cntF_congr n (fun i _ => by show (256 * hi + lo).testBit (8 + i) = _; rw [e, if_neg (by omega)]; congr 1; omega)

/-- How many bits of a word are 1. -/
def popW (x : Nat) : Nat := cntF x.testBit 64
def popS (x : Nat) : Nat :=
  let c := gp 6148914691236517205 3689348814741910323 1085102592571150095 x
  let d := c + c / 256
  let e := d + d / 65536
  let f := e + e / 4294967296
  f % 128
theorem popS_eq (x : Nat) (h : x < 18446744073709551616) : popS x = popW x := by
  obtain ⟨b0, x1, h0, r0, k0⟩ : ∃ b y, b < 256 ∧ x = 256 * y + b ∧ y < 72057594037927936 := ⟨x % 256, x / 256, by omega, by omega, by omega⟩
  obtain ⟨b1, x2, h1, r1, k1⟩ : ∃ b y, b < 256 ∧ x1 = 256 * y + b ∧ y < 281474976710656 := ⟨x1 % 256, x1 / 256, by omega, by omega, by omega⟩
  obtain ⟨b2, x3, h2, r2, k2⟩ : ∃ b y, b < 256 ∧ x2 = 256 * y + b ∧ y < 1099511627776 := ⟨x2 % 256, x2 / 256, by omega, by omega, by omega⟩
  obtain ⟨b3, x4, h3, r3, k3⟩ : ∃ b y, b < 256 ∧ x3 = 256 * y + b ∧ y < 4294967296 := ⟨x3 % 256, x3 / 256, by omega, by omega, by omega⟩
  obtain ⟨b4, x5, h4, r4, k4⟩ : ∃ b y, b < 256 ∧ x4 = 256 * y + b ∧ y < 16777216 := ⟨x4 % 256, x4 / 256, by omega, by omega, by omega⟩
  obtain ⟨b5, x6, h5, r5, k5⟩ : ∃ b y, b < 256 ∧ x5 = 256 * y + b ∧ y < 65536 := ⟨x5 % 256, x5 / 256, by omega, by omega, by omega⟩
  obtain ⟨b6, b7, h6, r6, h7⟩ : ∃ b y, b < 256 ∧ x6 = 256 * y + b ∧ y < 256 := ⟨x6 % 256, x6 / 256, by omega, by omega, by omega⟩
  have g := fun (b : Nat) (hb : b < 256) => gp_byte ⟨b, hb⟩
  simp only at g
  have c := fun (b : Nat) => cntF_le b.testBit 8
  have E : gp 6148914691236517205 3689348814741910323 1085102592571150095 x =
      256 * (256 * (256 * (256 * (256 * (256 * (256 * cntF b7.testBit 8 + cntF b6.testBit 8) + cntF b5.testBit 8) + cntF b4.testBit 8) + cntF b3.testBit 8) + cntF b2.testBit 8) + cntF b1.testBit 8) + cntF b0.testBit 8 := by
    subst r0 r1 r2 r3 r4 r5 r6
    rw [gp_split 24019198012642645 14411518807585587 4238682002231055 _ b0 h0 (by decide), g b0 h0,
      gp_split 93824992236885 56294995342131 16557351571215 _ b1 h1 (by decide), g b1 h1,
      gp_split 366503875925 219902325555 64677154575 _ b2 h2 (by decide), g b2 h2,
      gp_split 1431655765 858993459 252645135 _ b3 h3 (by decide), g b3 h3,
      gp_split 5592405 3355443 986895 _ b4 h4 (by decide), g b4 h4,
      gp_split 21845 13107 3855 _ b5 h5 (by decide), g b5 h5,
      gp_split 85 51 15 _ b6 h6 (by decide), g b6 h6, g b7 h7]
  have P : popW x = cntF b0.testBit 8 + (cntF b1.testBit 8 + (cntF b2.testBit 8 + (cntF b3.testBit 8 + (cntF b4.testBit 8 + (cntF b5.testBit 8 + (cntF b6.testBit 8 + cntF b7.testBit 8)))))) := by
    subst r0 r1 r2 r3 r4 r5 r6
    unfold popW
    rw [show 64 = 8 + 56 from rfl, cnt_byte _ _ _ h0, show 56 = 8 + 48 from rfl, cnt_byte _ _ _ h1, show 48 = 8 + 40 from rfl, cnt_byte _ _ _ h2, show 40 = 8 + 32 from rfl, cnt_byte _ _ _ h3,
      show 32 = 8 + 24 from rfl, cnt_byte _ _ _ h4, show 24 = 8 + 16 from rfl, cnt_byte _ _ _ h5, show 16 = 8 + 8 from rfl, cnt_byte _ _ _ h6]
  rw [P]
  unfold popS
  simp only
  rw [E]
  have l0 := c b0; have l1 := c b1; have l2 := c b2; have l3 := c b3; have l4 := c b4; have l5 := c b5; have l6 := c b6; have l7 := c b7
  generalize cntF b0.testBit 8 = p0 at *; generalize cntF b1.testBit 8 = p1 at *; generalize cntF b2.testBit 8 = p2 at *; generalize cntF b3.testBit 8 = p3 at *
  generalize cntF b4.testBit 8 = p4 at *; generalize cntF b5.testBit 8 = p5 at *; generalize cntF b6.testBit 8 = p6 at *; generalize cntF b7.testBit 8 = p7 at *
  clear E P g c r0 r1 r2 r3 r4 r5 r6 k0 k1 k2 k3 k4 k5 h h0 h1 h2 h3 h4 h5 h6 h7
  have d1 : (256 * (256 * (256 * (256 * (256 * (256 * (256 * p7 + p6) + p5) + p4) + p3) + p2) + p1) + p0) / 256 = 256 * (256 * (256 * (256 * (256 * (256 * p7 + p6) + p5) + p4) + p3) + p2) + p1 := by omega
  rw [d1]
  have d2 : 256 * (256 * (256 * (256 * (256 * (256 * (256 * p7 + p6) + p5) + p4) + p3) + p2) + p1) + p0 + (256 * (256 * (256 * (256 * (256 * (256 * p7 + p6) + p5) + p4) + p3) + p2) + p1) =
      65536 * (65536 * (65536 * (256 * p7 + (p7 + p6)) + (256 * (p6 + p5) + (p5 + p4))) + (256 * (p4 + p3) + (p3 + p2))) + (256 * (p2 + p1) + (p1 + p0)) := by omega
  rw [d2]
  generalize hA : 256 * p7 + (p7 + p6) = A
  generalize hB : 256 * (p6 + p5) + (p5 + p4) = B
  generalize hC : 256 * (p4 + p3) + (p3 + p2) = C
  generalize hD : 256 * (p2 + p1) + (p1 + p0) = D
  have bD : D < 65536 := by omega
  have bC : C < 65536 := by omega
  have bB : B < 65536 := by omega
  have d3 : (65536 * (65536 * (65536 * A + B) + C) + D) / 65536 = 65536 * (65536 * A + B) + C := by omega
  rw [d3]
  have d4 : 65536 * (65536 * (65536 * A + B) + C) + D + (65536 * (65536 * A + B) + C) = 4294967296 * (65536 * A + (A + B)) + (65536 * (B + C) + (C + D)) := by omega
  rw [d4]
  have bX : 65536 * (B + C) + (C + D) < 4294967296 := by omega
  have d5 : (4294967296 * (65536 * A + (A + B)) + (65536 * (B + C) + (C + D))) / 4294967296 = 65536 * A + (A + B) := by omega
  rw [d5]
  omega

/-- The least bit that is 1. -/
theorem low_bit (t m : Nat) (ht : t < 64) (h : 2 ^ t * (2 * m + 1) < 18446744073709551616) : (2 ^ t * (2 * m + 1)) &&& (18446744073709551616 - 2 ^ t * (2 * m + 1)) = 2 ^ t := by
  have hp : 0 < 2 ^ t := Nat.pow_pos (by decide)
  have ex : 2 ^ t * (2 * m + 1) = 2 ^ (t + 1) * m + 2 ^ t := by rw [Nat.pow_succ, Nat.mul_add, Nat.mul_one, Nat.mul_assoc]
  have hlt : 2 ^ t < 2 ^ (t + 1) := by rw [Nat.pow_succ]; omega
  rw [ex] at h ⊢
  have en : 18446744073709551616 - (2 ^ (t + 1) * m + 2 ^ t) = 2 ^ 64 - ((2 ^ (t + 1) * m + (2 ^ t - 1)) + 1) := by omega
  apply Nat.eq_of_testBit_eq
  intro i
  rw [en, Nat.testBit_and, Nat.testBit_two_pow_sub_succ (by omega), Nat.testBit_two_pow_mul_add _ hlt, Nat.testBit_two_pow_mul_add _ (by omega : 2 ^ t - 1 < 2 ^ (t + 1)), Nat.testBit_two_pow, Nat.testBit_two_pow_sub_one]
  by_cases h1 : i < t + 1
  · rw [if_pos h1, if_pos h1]
    by_cases h2 : t = i
    · subst h2; simp [ht]
    · simp [h2]
  · rw [if_neg h1, if_neg h1]
    have : ¬ t = i := by omega
    cases hb : m.testBit (i - (t + 1)) <;> simp [this]
/-- A word that is not 0. -/
theorem odd_part : ∀ (f x : Nat), x ≠ 0 → x < 2 ^ f → ∃ t m, x = 2 ^ t * (2 * m + 1) ∧ t < f
  | 0, x, h0, h => by omega
  | f + 1, x, h0, h => by
    by_cases hx : x % 2 = 1
    · exact ⟨0, x / 2, by omega, by omega⟩
    · obtain ⟨t, m, e, ht⟩ := odd_part f (x / 2) (by omega) (by rw [Nat.pow_succ] at h; omega)
      refine ⟨t + 1, m, ?_, by omega⟩
      rw [Nat.pow_succ, Nat.mul_right_comm, ← e]; omega
theorem odd_bit (t m i : Nat) (h : i < t) : (2 ^ t * (2 * m + 1)).testBit i = false := by
  rw [show 2 ^ t * (2 * m + 1) = 2 ^ t * (2 * m + 1) + 0 from rfl, Nat.testBit_two_pow_mul_add _ (Nat.pow_pos (by decide)), if_pos h]; simp
theorem odd_here (t m : Nat) : (2 ^ t * (2 * m + 1)).testBit t = true := by
  rw [show 2 ^ t * (2 * m + 1) = 2 ^ t * (2 * m + 1) + 0 from rfl, Nat.testBit_two_pow_mul_add _ (Nat.pow_pos (by decide)), if_neg (by omega)]; simp [Nat.testBit_zero]

/-- The bits of the n-th word that are of a map of so many. -/
def ownM (many n : Nat) : Nat := 18446744073709551615 / 2 ^ ((n + 1) * 64 - many)
theorem ownM_bit (many n j : Nat) (hj : j < 64) : (ownM many n).testBit j = decide (n * 64 + j < many) := by
  unfold ownM
  rw [Nat.testBit_div_two_pow, show 18446744073709551615 = 2 ^ 64 - 1 from rfl, Nat.testBit_two_pow_sub_one]
  exact decide_eq_decide.2 ⟨fun h => by omega, fun h => by omega⟩
theorem ownM_small (many n : Nat) : ownM many n < 18446744073709551616 := by
  unfold ownM
  exact Nat.lt_of_le_of_lt (Nat.div_le_self _ _) (by decide)
theorem pop_own (w many n : Nat) : popW (w &&& ownM many n) = cntF (fun j => decide (n * 64 + j < many) && w.testBit j) 64 := by
  unfold popW
  refine cntF_congr 64 (fun i hi => ?_)
  rw [Nat.testBit_and, ownM_bit _ _ _ hi, Bool.and_comm]
/-- The bits of a word that are a map's own, and 0. -/
def nghts (many n w : Nat) : Nat := ownM many n &&& (18446744073709551615 - w)
theorem nghts_small (many n w : Nat) : nghts many n w < 18446744073709551616 := Nat.lt_of_le_of_lt Nat.and_le_left (ownM_small _ _)
theorem nghts_bit (many n w j : Nat) (hw : w < 18446744073709551616) (hj : j < 64) : (nghts many n w).testBit j = (decide (n * 64 + j < many) && !w.testBit j) := by
  unfold nghts
  rw [Nat.testBit_and, ownM_bit _ _ _ hj, show 18446744073709551615 - w = 2 ^ 64 - (w + 1) from by omega, Nat.testBit_two_pow_sub_succ hw]
  simp [hj]
end Go.Grommet
