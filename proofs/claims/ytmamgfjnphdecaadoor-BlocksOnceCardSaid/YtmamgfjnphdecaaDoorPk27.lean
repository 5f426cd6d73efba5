/- Texts of ours, packed. -/
import Derived.RangeFuncFrom
import Derived.Test.YtmamgfjnphdecaaDoorPk26
import Derived.Test.YtmamgfjnphdecaaDoorPk24
import Derived.Test.YtmamgfjnphdecaaDoorPk3
section
/- Package blocks: what an inode's words tell, as a map of places, and what taking and giving make of it. -/
namespace Go.Proofs.YtmamgfjnphdecaaDoor
open Go.RowKit Go.Grommet
set_option linter.unusedVariables false

/-- Where the word of a place stands (12: the Chain's own), in a geometry of one worker. -/
def slotA (I n k C : Nat) : Nat := if k < 4 then 492 + 16 * n + k else if k = 12 then 496 + 16 * n else 488 + 16 * I + 8 * C + (k - 4)
def putP (P : Nat → Nat → Nat) (n k v : Nat) : Nat → Nat → Nat := fun i j => if i = n ∧ j = k then v else P i j
theorem putP_same (P : Nat → Nat → Nat) (n k v : Nat) : putP P n k v n k = v := by unfold putP; rw [if_pos ⟨rfl, rfl⟩]
theorem putP_ne (P : Nat → Nat → Nat) {n k i j : Nat} (v : Nat) (h : ¬ (i = n ∧ j = k)) : putP P n k v i j = P i j := by unfold putP; rw [if_neg h]
theorem putP_other (P : Nat → Nat → Nat) {n k i : Nat} (v : Nat) (h : i ≠ n) : putP P n k v i = P i := by funext j; exact putP_ne P v (fun e => h e.1)

/-- Words tell a map of places: no block is told twice, the bit map says just what is told (and 0), all else is as it was. -/
structure Lk (I B : Nat) (ns : Nat → Prop) (f0 f : Nat → Nat) (P : Nat → Nat → Nat) : Prop where
  rg : ∀ n, ns n → 1 ≤ n ∧ n < I
  lt : ∀ n k, ns n → k ≤ 12 → P n k < B
  one : ∀ n n' k k', ns n → ns n' → k ≤ 12 → k' ≤ 12 → P n k ≠ 0 → P n k = P n' k' → n = n' ∧ k = k'
  ch0 : ∀ n k, ns n → P n 12 = 0 → 4 ≤ k → k < 12 → P n k = 0
  dir : ∀ n k, ns n → k < 4 → f (492 + 16 * n + k) = P n k
  chn : ∀ n, ns n → f (496 + 16 * n) = P n 12
  chd : ∀ n k, ns n → P n 12 ≠ 0 → 4 ≤ k → k < 12 → f (488 + 16 * I + 8 * P n 12 + (k - 4)) = P n k
  bit : ∀ m, m < 64 → ((f 480).testBit m = true ↔ m = 0 ∨ ∃ n k, ns n ∧ k ≤ 12 ∧ P n k = m)
  rest : ∀ a, a < 488 + 16 * I → a ≠ 480 → (∀ n, ns n → ¬ (492 + 16 * n ≤ a ∧ a ≤ 496 + 16 * n)) → f a = f0 a

theorem Lk.free {I B : Nat} {ns : Nat → Prop} {f0 f : Nat → Nat} {P : Nat → Nat → Nat} (h : Lk I B ns f0 f P) {m : Nat} (hm : m < 64) (hf : (f 480).testBit m = false) : m ≠ 0 ∧ ∀ n k, ns n → k ≤ 12 → P n k ≠ m := by
  have := h.bit m hm
  rw [hf] at this
  refine ⟨fun e => ?_, fun n k hn hk e => ?_⟩
  · have := this.2 (.inl e); cases this
  · have := this.2 (.inr ⟨n, k, hn, hk, e⟩); cases this

theorem Lk.put {I B : Nat} {ns : Nat → Prop} {f0 f f' : Nat → Nat} {P : Nat → Nat → Nat} (h : Lk I B ns f0 f P) (hs : f 480 < 18446744073709551616) {n k m t : Nat} (hn : ns n) (hk : k ≤ 12) (hm : m < B) (hB : B ≤ 64) (hfree : (f 480).testBit m = false) (h0 : P n k = 0) (hc : 4 ≤ k → k < 12 → P n 12 ≠ 0) (ht : slotA I n k (P n 12) = t)
    (hf' : ∀ a, f' a = if a = t then m else if 488 + 16 * I + 8 * m ≤ a ∧ a < 488 + 16 * I + 8 * m + 8 then 0 else if a = 480 then setB (f 480) m true else f a) : Lk I B ns f0 f' (putP P n k m) := by
  obtain ⟨m0, hne⟩ := h.free (by omega) hfree
  have hnI := h.rg n hn
  have hCB := h.lt n 12 hn (Nat.le_refl _)
  have htc : (k < 4 ∧ t = 492 + 16 * n + k) ∨ (k = 12 ∧ t = 496 + 16 * n) ∨ (4 ≤ k ∧ k < 12 ∧ t = 488 + 16 * I + 8 * P n 12 + (k - 4)) := by
    unfold slotA at ht
    split at ht
    · omega
    · split at ht <;> omega
  refine ⟨h.rg, fun i j hi hj => ?_, fun i i' j j' hi hi' hj hj' hnz he => ?_, fun i j hi hz h4 h12 => ?_, fun i j hi hj => ?_, fun i hi => ?_, fun i j hi hz h4 h12 => ?_, fun j hj => ?_, fun a ha h480 hno => ?_⟩
  · by_cases e : i = n ∧ j = k
    · rw [show putP P n k m i j = m from by unfold putP; rw [if_pos e]]; exact hm
    · rw [putP_ne P m e]; exact h.lt i j hi hj
  · by_cases e : i = n ∧ j = k
    · by_cases e' : i' = n ∧ j' = k
      · exact ⟨e.1.trans e'.1.symm, e.2.trans e'.2.symm⟩
      · rw [show putP P n k m i j = m from by unfold putP; rw [if_pos e], putP_ne P m e'] at he
        exact absurd he.symm (hne i' j' hi' hj')
    · rw [putP_ne P m e] at hnz he
      by_cases e' : i' = n ∧ j' = k
      · rw [show putP P n k m i' j' = m from by unfold putP; rw [if_pos e']] at he
        exact absurd he (hne i j hi hj)
      · rw [putP_ne P m e'] at he
        exact h.one i i' j j' hi hi' hj hj' hnz he
  · by_cases e : i = n ∧ 12 = k
    · rw [show putP P n k m i 12 = m from by unfold putP; rw [if_pos e]] at hz
      exact absurd hz m0
    · rw [putP_ne P m e] at hz
      by_cases e' : i = n ∧ j = k
      · exact absurd (by rw [← e'.1]; exact hz) (hc (by omega) (by omega))
      · rw [putP_ne P m e']; exact h.ch0 i j hi hz h4 h12
  · have hiI := h.rg i hi
    rw [hf']
    by_cases e : i = n ∧ j = k
    · rw [if_pos (by obtain ⟨rfl, rfl⟩ := e; omega), show putP P n k m i j = m from by unfold putP; rw [if_pos e]]
    · rw [if_neg (by omega), if_neg (by omega), if_neg (by omega), putP_ne P m e]; exact h.dir i j hi hj
  · have hiI := h.rg i hi
    rw [hf']
    by_cases e : i = n ∧ 12 = k
    · rw [if_pos (by obtain ⟨rfl, rfl⟩ := e; omega), show putP P n k m i 12 = m from by unfold putP; rw [if_pos e]]
    · rw [if_neg (by omega), if_neg (by omega), if_neg (by omega), putP_ne P m e]; exact h.chn i hi
  · have hiI := h.rg i hi
    rw [hf']
    by_cases e : i = n ∧ 12 = k
    · have e2 : putP P n k m i 12 = m := by unfold putP; rw [if_pos e]
      rw [e2, putP_ne P m (by omega), if_neg (by omega), if_pos (by omega)]
      refine (h.ch0 i j hi ?_ h4 h12).symm
      rw [e.1, e.2]; exact h0
    · have e1 : putP P n k m i 12 = P i 12 := putP_ne P m e
      rw [e1] at hz ⊢
      have hCm := hne i 12 hi (Nat.le_refl _)
      have hib := h.lt i 12 hi (Nat.le_refl _)
      by_cases e' : i = n ∧ j = k
      · obtain ⟨rfl, rfl⟩ := e'
        rw [if_pos (by omega), putP_same]
      · rw [putP_ne P m e']
        have hat : 488 + 16 * I + 8 * P i 12 + (j - 4) ≠ t := by
          rcases htc with ⟨_, rfl⟩ | ⟨_, rfl⟩ | ⟨k4, k12, rfl⟩
          · omega
          · omega
          · intro ee
            have e3 : P i 12 = P n 12 := by omega
            have e4 := h.one i n 12 12 hi hn (Nat.le_refl _) (Nat.le_refl _) hz e3
            omega
        rw [if_neg hat, if_neg (by omega), if_neg (by omega)]
        exact h.chd i j hi hz h4 h12
  · rw [hf', if_neg (by omega), if_neg (by omega), if_pos rfl, setB_bit true (by omega) hs]
    by_cases e : j = m
    · rw [if_pos e]
      exact ⟨fun _ => .inr ⟨n, k, hn, hk, by rw [putP_same, e]⟩, fun _ => rfl⟩
    · rw [if_neg e, h.bit j hj]
      constructor
      · rintro (hz | ⟨i, q, hi, hq, rfl⟩)
        · exact .inl hz
        · by_cases e' : i = n ∧ q = k
          · exact .inl (by rw [e'.1, e'.2]; exact h0)
          · exact .inr ⟨i, q, hi, hq, putP_ne P m e'⟩
      · rintro (hz | ⟨i, q, hi, hq, hp⟩)
        · exact .inl hz
        · by_cases e' : i = n ∧ q = k
          · rw [show putP P n k m i q = m from by unfold putP; rw [if_pos e']] at hp
            exact absurd hp.symm e
          · rw [putP_ne P m e'] at hp
            exact .inr ⟨i, q, hi, hq, hp⟩
  · have := hno n hn
    rw [hf', if_neg (by omega), if_neg (by omega), if_neg h480]
    exact h.rest a ha h480 hno

theorem Lk.give {I B : Nat} {ns : Nat → Prop} {f0 f f' : Nat → Nat} {P : Nat → Nat → Nat} (h : Lk I B ns f0 f P) (hs : f 480 < 18446744073709551616) {n k m t : Nat} (hn : ns n) (hk : k ≤ 12) (hm : P n k = m) (m0 : m ≠ 0) (hB : B ≤ 64) (hb : k = 12 → ∀ j, 4 ≤ j → j < 12 → P n j = 0) (ht : slotA I n k (P n 12) = t)
    (hf' : ∀ a, f' a = if a = t then 0 else if a = 480 then setB (f 480) m false else f a) : Lk I B ns f0 f' (putP P n k 0) := by
  have hnI := h.rg n hn
  have hCB := h.lt n 12 hn (Nat.le_refl _)
  have hmB := h.lt n k hn hk
  have htc : (k < 4 ∧ t = 492 + 16 * n + k) ∨ (k = 12 ∧ t = 496 + 16 * n) ∨ (4 ≤ k ∧ k < 12 ∧ t = 488 + 16 * I + 8 * P n 12 + (k - 4)) := by
    unfold slotA at ht
    split at ht
    · omega
    · split at ht <;> omega
  refine ⟨h.rg, fun i j hi hj => ?_, fun i i' j j' hi hi' hj hj' hnz he => ?_, fun i j hi hz h4 h12 => ?_, fun i j hi hj => ?_, fun i hi => ?_, fun i j hi hz h4 h12 => ?_, fun j hj => ?_, fun a ha h480 hno => ?_⟩
  · by_cases e : i = n ∧ j = k
    · rw [show putP P n k 0 i j = 0 from by unfold putP; rw [if_pos e]]; omega
    · rw [putP_ne P 0 e]; exact h.lt i j hi hj
  · by_cases e : i = n ∧ j = k
    · rw [show putP P n k 0 i j = 0 from by unfold putP; rw [if_pos e]] at hnz
      exact absurd rfl hnz
    · rw [putP_ne P 0 e] at hnz he
      by_cases e' : i' = n ∧ j' = k
      · rw [show putP P n k 0 i' j' = 0 from by unfold putP; rw [if_pos e']] at he
        exact absurd he hnz
      · rw [putP_ne P 0 e'] at he
        exact h.one i i' j j' hi hi' hj hj' hnz he
  · by_cases e' : i = n ∧ j = k
    · unfold putP; rw [if_pos e']
    · rw [putP_ne P 0 e']
      by_cases e : i = n ∧ 12 = k
      · rw [e.1]; exact hb e.2.symm j h4 h12
      · rw [putP_ne P 0 e] at hz
        exact h.ch0 i j hi hz h4 h12
  · have hiI := h.rg i hi
    rw [hf']
    by_cases e : i = n ∧ j = k
    · rw [if_pos (by obtain ⟨rfl, rfl⟩ := e; omega)]; unfold putP; rw [if_pos e]
    · rw [if_neg (by omega), if_neg (by omega), putP_ne P 0 e]; exact h.dir i j hi hj
  · have hiI := h.rg i hi
    rw [hf']
    by_cases e : i = n ∧ 12 = k
    · rw [if_pos (by obtain ⟨rfl, rfl⟩ := e; omega)]; unfold putP; rw [if_pos e]
    · rw [if_neg (by omega), if_neg (by omega), putP_ne P 0 e]; exact h.chn i hi
  · have hiI := h.rg i hi
    rw [hf']
    by_cases e : i = n ∧ 12 = k
    · rw [show putP P n k 0 i 12 = 0 from by unfold putP; rw [if_pos e]] at hz
      exact absurd rfl hz
    · have e1 : putP P n k 0 i 12 = P i 12 := putP_ne P 0 e
      rw [e1] at hz ⊢
      have hib := h.lt i 12 hi (Nat.le_refl _)
      by_cases e' : i = n ∧ j = k
      · obtain ⟨rfl, rfl⟩ := e'
        rw [if_pos (by omega), putP_same]
      · rw [putP_ne P 0 e']
        have hat : 488 + 16 * I + 8 * P i 12 + (j - 4) ≠ t := by
          rcases htc with ⟨_, rfl⟩ | ⟨_, rfl⟩ | ⟨k4, k12, rfl⟩
          · omega
          · omega
          · intro ee
            have e3 : P i 12 = P n 12 := by omega
            have e4 := h.one i n 12 12 hi hn (Nat.le_refl _) (Nat.le_refl _) hz e3
            omega
        rw [if_neg hat, if_neg (by omega)]
        exact h.chd i j hi hz h4 h12
  · rw [hf', if_neg (by omega), if_pos rfl, setB_bit false (by omega) hs]
    by_cases e : j = m
    · rw [if_pos e]
      constructor
      · intro x; cases x
      · rintro (hz | ⟨i, q, hi, hq, hp⟩)
        · exact absurd (e.symm.trans hz) m0
        · by_cases e' : i = n ∧ q = k
          · rw [show putP P n k 0 i q = 0 from by unfold putP; rw [if_pos e']] at hp
            exact absurd (e.symm.trans hp.symm) m0
          · rw [putP_ne P 0 e'] at hp
            have e5 : P i q = P n k := by rw [hp, hm, e]
            exact absurd (h.one i n q k hi hn hq hk (by rw [hp, e]; exact m0) e5) e'
    · rw [if_neg e, h.bit j hj]
      constructor
      · rintro (hz | ⟨i, q, hi, hq, rfl⟩)
        · exact .inl hz
        · by_cases e' : i = n ∧ q = k
          · exact absurd (by rw [e'.1, e'.2]; exact hm) e
          · exact .inr ⟨i, q, hi, hq, putP_ne P 0 e'⟩
      · rintro (hz | ⟨i, q, hi, hq, hp⟩)
        · exact .inl hz
        · by_cases e' : i = n ∧ q = k
          · rw [show putP P n k 0 i q = 0 from by unfold putP; rw [if_pos e']] at hp
            exact .inl hp.symm
          · rw [putP_ne P 0 e'] at hp
            exact .inr ⟨i, q, hi, hq, hp⟩
  · have := hno n hn
    rw [hf', if_neg (by omega), if_neg h480]
    exact h.rest a ha h480 hno

/-- What is seen behind each of view's ways to turn words. -/
theorem got_zeroL {xs : List Nat} {P : Nat} {L : List (Nat × Nat)} (a : Nat) : ∀ i, L.length + i ≤ 96 → P + i ≤ xs.length → gotV xs (zeroL xs P L i) a = if P ≤ a ∧ a < P + i then 0 else gotV xs L a
  | 0, _, _ => by rw [if_neg (by omega)]; rfl
  | i + 1, h, hx => by
    have hz := zeroL_length xs P L i
    show gotV xs (putI xs (zeroL xs P L i) ((P + i : Nat) : Int) 0) a = _
    unfold putI
    rw [if_pos (by omega), Int.toNat_natCast, got_put (.inl (by omega)), got_zeroL a i (by omega) (by omega)]
    by_cases e : a = P + i
    · rw [if_pos e, if_pos (by omega)]
    · rw [if_neg e]
      by_cases e2 : P ≤ a ∧ a < P + i
      · rw [if_pos e2, if_pos (by omega)]
      · rw [if_neg e2, if_neg (by omega)]
theorem got_setM {xs : List Nat} {L : List (Nat × Nat)} {A m i : Nat} {is : Bool} (hl : L.length < 96) (hi : i < m) (ha : A + i / 64 < xs.length) (a : Nat) : gotV xs (setMI xs L A m (i : Int) is) a = if a = A + i / 64 then setB (gotV xs L (A + i / 64)) (i % 64) is else gotV xs L a := by
  have hin : inB (i : Int) m = true := by unfold inB; simp; omega
  unfold setMI putI
  rw [hin, if_pos rfl, Int.toNat_natCast, if_pos (by omega), Int.toNat_natCast, got_put (.inl hl)]

theorem wl_setL {xs : List Nat} {L : List (Nat × Nat)} (h : Wl xs.length L) (t v : Nat) (ht : t < xs.length) (hv : v < 18446744073709551616) : Wl xs.length (setL xs L (t : Int) v) := by
  unfold setL
  split
  · split
    · exact h
    · rw [Int.toNat_natCast]; exact h.put ht hv
  · exact h
theorem wl_putI {xs : List Nat} {L : List (Nat × Nat)} (h : Wl xs.length L) (t v : Nat) (hv : v < 18446744073709551616) : Wl xs.length (putI xs L (t : Int) v) := by
  unfold putI
  split
  · rw [Int.toNat_natCast]; exact h.put (by omega) hv
  · exact h
theorem wl_zeroL {xs : List Nat} {P : Nat} {L : List (Nat × Nat)} (h : Wl xs.length L) : ∀ i, Wl xs.length (zeroL xs P L i)
  | 0 => h
  | i + 1 => wl_putI (wl_zeroL h i) (P + i) 0 (by omega)
theorem wl_setM {xs : List Nat} {L : List (Nat × Nat)} (hx : ∀ n ∈ xs, n < 18446744073709551616) (h : Wl xs.length L) (A m i : Nat) (is : Bool) : Wl xs.length (setMI xs L A m (i : Int) is) := by
  unfold setMI
  split
  · exact wl_putI h _ _ (setB_small is (Nat.mod_lt _ (by omega)) (gotV_small hx h.val _))
  · exact h

theorem got_takeL {xs : List Nat} {L : List (Nat × Nat)} {I B m t : Nat} (hl : L.length ≤ 80) (hm : m < B) (hB : B ≤ 64) (hx : 488 + 16 * I + 8 * B ≤ xs.length) (ht : t < xs.length) (a : Nat) :
    gotV xs (takeL xs L 1 I B m (t : Int)) a = if a = t then m else if 488 + 16 * I + 8 * m ≤ a ∧ a < 488 + 16 * I + 8 * m + 8 then 0 else if a = 480 then setB (gotV xs L 480) m true else gotV xs L a := by
  unfold takeL
  have hz := zeroL_length xs (280 + 208 * 1 + 16 * I + 8 * m) (setMI xs L (272 + 208 * 1) B (m : Int) true) 8
  have hz2 := bm_set_length (xs := xs) (L := L) (A := 272 + 208 * 1) (m := B) (i := (m : Int)) (is := true)
  rw [setL_got ht (by omega), got_zeroL a 8 (by omega) (by omega), got_setM (by omega) hm (by omega), show 272 + 208 * 1 + m / 64 = 480 from by omega, Nat.mod_eq_of_lt (show m < 64 by omega)]
theorem wl_takeL {xs : List Nat} {L : List (Nat × Nat)} {I B m t : Nat} (hx : ∀ n ∈ xs, n < 18446744073709551616) (h : Wl xs.length L) (hm : m < 18446744073709551616) (ht : t < xs.length) : Wl xs.length (takeL xs L 1 I B m (t : Int)) := by
  unfold takeL
  exact wl_setL (wl_zeroL (wl_setM hx h _ _ _ _) _) _ _ ht hm

theorem mbit_480 {xs : List Nat} {L : List (Nat × Nat)} {m : Nat} (hm : m < 64) : mbit xs L (272 + 208 * 1) m = (gotV xs L 480).testBit m := by
  unfold mbit
  rw [show 272 + 208 * 1 + m / 64 = 480 from by omega, Nat.mod_eq_of_lt hm]
theorem giveL_yes {xs : List Nat} {L : List (Nat × Nat)} {B m : Nat} (h1 : 1 ≤ m) (hm : m < B) (hB : B ≤ 64) (hb : (gotV xs L 480).testBit m = true) : giveL xs L (272 + 208 * 1) B (m : Int) = setMI xs L (272 + 208 * 1) B (m : Int) false := by
  unfold giveL
  rw [if_neg (by omega), Int.toNat_natCast, mbit_480 (by omega), hb, if_pos rfl]
theorem giveE_yes {xs : List Nat} {L : List (Nat × Nat)} {B m : Nat} (h1 : 1 ≤ m) (hm : m < B) (hB : B ≤ 64) (hb : (gotV xs L 480).testBit m = true) (hl : L.length < 96) (hx : 481 ≤ xs.length) : giveE xs L (272 + 208 * 1) B (m : Int) = 0 := by
  unfold giveE
  rw [if_neg (by omega), Int.toNat_natCast, mbit_480 (by omega), hb, if_pos rfl, setM_ok hl hm (by omega)]
theorem got_giveBL {xs : List Nat} {L : List (Nat × Nat)} {B m t : Nat} (h1 : 1 ≤ m) (hm : m < B) (hB : B ≤ 64) (hb : (gotV xs L 480).testBit m = true) (hl : L.length ≤ 90) (hx : 481 ≤ xs.length) (ht : t < xs.length) (a : Nat) :
    gotV xs (setL xs (giveL xs L (272 + 208 * 1) B (m : Int)) (t : Int) 0) a = if a = t then 0 else if a = 480 then setB (gotV xs L 480) m false else gotV xs L a := by
  have hz2 := bm_set_length (xs := xs) (L := L) (A := 272 + 208 * 1) (m := B) (i := (m : Int)) (is := false)
  rw [giveL_yes h1 hm hB hb, setL_got ht (by omega), got_setM (by omega) hm (by omega), show 272 + 208 * 1 + m / 64 = 480 from by omega, Nat.mod_eq_of_lt (show m < 64 by omega)]
theorem len_giveBL {xs : List Nat} {L : List (Nat × Nat)} {B m t : Nat} : (giveL xs L (272 + 208 * 1) B (m : Int)).length ≤ L.length + 1 ∧ (setL xs (giveL xs L (272 + 208 * 1) B (m : Int)) (t : Int) 0).length ≤ L.length + 2 := by
  have h1 := setL_len xs (giveL xs L (272 + 208 * 1) B (m : Int)) (t : Int) 0
  have h2 : (giveL xs L (272 + 208 * 1) B (m : Int)).length ≤ L.length + 1 := by
    unfold giveL
    split
    · omega
    · split
      · exact bm_set_length
      · omega
  omega
theorem wl_giveBL {xs : List Nat} {L : List (Nat × Nat)} {B m t : Nat} (hx : ∀ n ∈ xs, n < 18446744073709551616) (h : Wl xs.length L) (ht : t < xs.length) : Wl xs.length (setL xs (giveL xs L (272 + 208 * 1) B (m : Int)) (t : Int) 0) := by
  refine wl_setL ?_ _ _ ht (by omega)
  unfold giveL
  split
  · exact h
  · split
    · exact wl_setM hx h _ _ _ _
    · exact h

/-- How many places are told. -/
def nzc (p : Nat → Nat) : Nat := cntF (fun j => p j != 0) 13
def lst (p : Nat → Nat) : List Nat := ((List.range 13).map p).filter (· != 0)
theorem lst_len_aux (p : Nat → Nat) : ∀ n, (((List.range n).map p).filter (· != 0)).length = cntF (fun j => p j != 0) n
  | 0 => rfl
  | n + 1 => by
    rw [List.range_succ, List.map_append, List.filter_append, List.length_append, lst_len_aux p n]
    show _ = cntF (fun j => p j != 0) n + (p n != 0).toNat
    cases hp : (p n != 0)
    · simp [hp]
    · simp [hp]
theorem lst_len (p : Nat → Nat) : (lst p).length = nzc p := lst_len_aux p 13
theorem nzc_put {P : Nat → Nat → Nat} {n k m : Nat} (hk : k ≤ 12) (h0 : P n k = 0) (hm : m ≠ 0) : nzc (putP P n k m n) = nzc (P n) + 1 := by
  have := cntF_turn (f := fun j => P n j != 0) (g := fun j => putP P n k m n j != 0) (k := k) (fun i hi => by rw [putP_ne P m (fun e => hi e.2)]) 13 (by omega)
  simp only [putP_same, h0] at this
  rw [show (m != 0) = true from by simpa using hm] at this
  unfold nzc
  simpa using this
theorem nzc_give {P : Nat → Nat → Nat} {n k : Nat} (hk : k ≤ 12) (h0 : P n k ≠ 0) : nzc (putP P n k 0 n) + 1 = nzc (P n) := by
  have := cntF_turn (f := fun j => P n j != 0) (g := fun j => putP P n k 0 n j != 0) (k := k) (fun i hi => by rw [putP_ne P 0 (fun e => hi e.2)]) 13 (by omega)
  simp only [putP_same] at this
  rw [show (P n k != 0) = true from by simpa using h0] at this
  unfold nzc
  simpa using this
theorem mem_lst {p : Nat → Nat} {v : Nat} (h : v ∈ lst p) : v ≠ 0 ∧ ∃ k, k ≤ 12 ∧ p k = v := by
  unfold lst at h
  rw [List.mem_filter] at h
  obtain ⟨h1, h2⟩ := h
  rw [List.mem_map] at h1
  obtain ⟨k, hk, rfl⟩ := h1
  exact ⟨by simpa using h2, k, by have := List.mem_range.1 hk; omega, rfl⟩
end Go.Proofs.YtmamgfjnphdecaaDoor
end
section
/- Package blocks: places. -/
namespace Go.Proofs.YtmamgfjnphdecaaDoor
open Go.RowKit Go.Grommet Go.Shelf
attribute [local go_sem] Oper.semAt_some

theorem bmPlaces (w : World) (k : Int) : Calls Tryd.prog 49 #[.int .i64 k] w fun e w' => e = .returned (.func (.func 68) #[] #[.pointer (some ⟨w.heap.size, 0, none⟩)]) ∧ w' = w.alloc (.cells #[.int .i64 k] 3) := by
  go_enter Tryd.func49, Tryd.ntmps49
  go_wp2
  go_ret
  exact ⟨rfl, rfl⟩

def encP (fr N : Nat) (x : Fin N) : Array Value := #[.int .i64 ((fr + x.1 : Nat) : Int)]

set_option maxRecDepth 100000 in
set_option maxHeartbeats 400000 in
theorem places_stops (d : Nat) (w : World) (pp fr N : Nat) (hpp : w.heap[pp]? = some (.cells #[.int .i64 (fr : Int)] 3 (0, 0))) (hN : fr + N = 12) :
    SeqStopsK Fence.wide d Tryd.prog 68 #[.pointer (some ⟨pp, 0, none⟩)] (encP fr N) (fun _ _ => True) (fun ys => ys = List.finRange N) (fun ys => ∃ k, k < N ∧ ys = (List.finRange N).take (k + 1)) N w := by
  intro l J Jx W hW hJ hJx hY h0
  have hbs := (Array.getElem?_eq_some_iff.1 hpp).1
  replace hpp := (hW.block pp hbs).trans hpp
  have HJA := Lib.hid hJ
  have HY := Lib.hid hY
  have HJ := Lib.hid h0
  clear hW hJ hJx hY h0 hbs
  refine callsIn_of_wp Tryd.func68 rfl trivial ?_ rfl
  simp only [Tryd.ntmps68, List.size_toArray, List.length_cons, List.length_nil, Nat.reduceAdd, Nat.reduceSub, Array.replicate_succ, Array.replicate_zero, List.push_toArray, List.append_toArray, List.nil_append, List.cons_append]
  have c1 : W.cell? ⟨pp, 0, none⟩ = some (.int .i64 (fr : Int)) := by simp [World.cell?, hpp]
  clear hpp
  gi_wp2_with fail
  gi_loopw [3] (fun p wr => ∃ k : Nat, k ≤ N ∧ p = .int .i64 ((fr + k : Nat) : Int) ∧ Hid (J ((List.finRange N).take k) wr)) (fun p _ => 12 - (intOf p).toNat)
  case atStart => exact ⟨0, Nat.zero_le _, rfl, HJ⟩
  case round =>
    obtain ⟨k, hk, rfl, hR⟩ := hrel
    clear HJ c1
    obtain ⟨A, eA⟩ : ∃ A, fr + k = A := ⟨_, rfl⟩
    by_cases hlt : k < N
    · have hN1 : Hid ((List.finRange N).take (k + 1) = (List.finRange N).take k ++ [⟨k, hlt⟩]) := Lib.hid (by
        rw [List.take_add_one]; simp [hlt])
      have hy0 := HY.out _ ⟨k, hlt⟩ wr hR.out (by simp; omega)
      unfold encP at hy0
      simp only at hy0
      rw [eA] at hy0 ⊢
      have hlt' : (A : Int) < 12 := by omega
      have wk1 : IntKind.i64.wrap ((A : Int) + 1) = (A : Int) + 1 := IntWalk.i64_in _ ⟨by omega, by omega⟩
      obtain ⟨fn, tmps, assign, body, hy, hR2⟩ := hy0
      clear hR
      gi_wp2_with fail
      refine ⟨fun h => (by cases h), ?_⟩
      refine hR2.mono ?_
      clear hR2 hy
      rintro e W' (⟨rfl, hJ', _⟩ | ⟨rfl, hJx'⟩)
      · have HJ' := Lib.hid hJ'
        clear hJ'
        gi_wp2
        go_roundw
        case rel => exact ⟨k + 1, by omega, by rw [← Nat.add_assoc, eA]; go_num, Lib.hid (by rw [hN1.out]; exact HJ'.out)⟩
        case measure => simp [intOf]; omega
      · have HJ' := Lib.hid hJx'
        clear hJx'
        gi_wp2
        refine bodyPost_ret (results_none rfl _ _ _) rfl ?_
        exact ⟨⟨_, rfl⟩, .inr ⟨_, ⟨k, hlt, rfl⟩, by rw [hN1.out]; exact HJ'.out⟩⟩
    · obtain rfl : k = N := by omega
      rw [eA]
      have hge : ¬ ((A : Int) < 12) := by omega
      have HJ8 := Lib.hid (show J (List.finRange k) wr by have := hR.out; rwa [List.take_of_length_le (by simp)] at this)
      clear hR
      gi_wp2
      go_end0
      exact ⟨⟨_, rfl⟩, .inl HJ8.out⟩
end Go.Proofs.YtmamgfjnphdecaaDoor
end
section
/- Package blocks: a round of isBare. -/
namespace Go.Proofs.YtmamgfjnphdecaaDoor
open Go.RowKit Go.Grommet Go.Shelf
attribute [local go_sem] Oper.semAt_some
set_option linter.unusedVariables false

def noDefer (ops : Array Oper) : Bool := ops.all fun o => match o.op with | .defer _ => false | _ => true
structure BareL (w : World) (XM g a b c n f0 f1 f2 f3 f4 f5 f6 f7 f8 f9 : Nat) (v : Bool) (W : World) : Prop where
  b0 : W.heap[w.heap.size]? = some (.cells #[.pointer (some ⟨XM, 0, none⟩)] 32 (0, 0))
  b1 : W.heap[w.heap.size + 1]? = some (.cells #[.int .u64 (f0 : Int), .int .u64 (f1 : Int), .int .u64 (f2 : Int), .int .u64 (f3 : Int), .int .u64 (f4 : Int), .int .u64 (f5 : Int), .int .u64 (f6 : Int), .int .u64 (f7 : Int), .int .u64 (f8 : Int), .int .u64 (f9 : Int)] 71 (0, 0))
  b2 : W.heap[w.heap.size + 2]? = some (.cells #[.bool v] 4 (0, 0))
  bm : BM XM g a b c n W
  grown : w.grownBy W none
  size : w.heap.size + 4 ≤ W.heap.size
theorem BareL.own {w W W' : World} {XM g a b c n f0 f1 f2 f3 f4 f5 f6 f7 f8 f9 : Nat} {v : Bool} {row : Option Nat} (hX : XM < w.heap.size) (hs : BareL w XM g a b c n f0 f1 f2 f3 f4 f5 f6 f7 f8 f9 v W) (hgr : W.grownBy W' row) (hr : ∀ r, row = some r → w.heap.size + 4 ≤ r) : BareL w XM g a b c n f0 f1 f2 f3 f4 f5 f6 f7 f8 f9 v W' := by
  have hb : ∀ k, k < w.heap.size + 4 → W'.heap[k]? = W.heap[k]? := fun k hk => hgr.block _ (by have := hs.size; omega) (by intro e; have := (hr _ e.symm); omega)
  exact ⟨(hb _ (by omega)).trans hs.b0, (hb _ (by omega)).trans hs.b1, (hb _ (by omega)).trans hs.b2, ⟨(hb _ (by omega)).trans hs.bm.box⟩, grown_new hs.grown hgr (fun j e => by have := (hr j e); omega), Nat.le_trans hs.size hgr.size⟩
theorem BareL.put {w W : World} {XM g a b c n f0 f1 f2 f3 f4 f5 f6 f7 f8 f9 : Nat} {v : Bool} (h : BareL w XM g a b c n f0 f1 f2 f3 f4 f5 f6 f7 f8 f9 v W) (hX : XM < w.heap.size) (v' : Bool) :
    KeepsOthers W (W.setCell ⟨w.heap.size + 2, 0, none⟩ (.bool v')) ∧ BareL w XM g a b c n f0 f1 f2 f3 f4 f5 f6 f7 f8 f9 v' (W.setCell ⟨w.heap.size + 2, 0, none⟩ (.bool v')) := by
  have hsz := h.size
  have hg1 := grown_setCell W ⟨w.heap.size + 2, 0, none⟩ (.bool v')
  have k1 : (W.setCell ⟨w.heap.size + 2, 0, none⟩ (.bool v')).heap[w.heap.size + 2]? = some (.cells #[.bool v'] 4 (0, 0)) := by have := heap_setCell_at (o := 0) h.b2 (.bool v'); simpa using this
  have hb : ∀ k, k < w.heap.size + 2 → (W.setCell ⟨w.heap.size + 2, 0, none⟩ (.bool v')).heap[k]? = W.heap[k]? := fun k hk => hg1.block k (by omega) (by simp; omega)
  exact ⟨KeepsOthers.setCell _ _ _, (hb _ (by omega)).trans h.b0, (hb _ (by omega)).trans h.b1, k1, ⟨(hb _ (by omega)).trans h.bm.box⟩, grown_new h.grown hg1 (fun j e => by cases e; show _ ≤ w.heap.size + 2; omega), Nat.le_trans hsz hg1.size⟩
theorem BareL.cells {w wx : World} {XM g a b c n f0 f1 f2 f3 f4 f5 f6 f7 f8 f9 B : Nat} {v : Bool} (h : BareL w XM g a b c n f0 f1 f2 f3 f4 f5 f6 f7 f8 f9 v wx) (hB : w.heap.size = B) : wx.cell? ⟨B, 0, none⟩ = some (.pointer (some ⟨XM, 0, none⟩)) ∧ wx.cell? ⟨B + 1, 0, none⟩ = some (.int .u64 (f0 : Int)) ∧ wx.cell? ⟨B + 1, 1, none⟩ = some (.int .u64 (f1 : Int)) ∧ wx.cell? ⟨B + 1, 2, none⟩ = some (.int .u64 (f2 : Int)) ∧ wx.cell? ⟨B + 1, 3, none⟩ = some (.int .u64 (f3 : Int)) ∧ wx.cell? ⟨B + 1, 4, none⟩ = some (.int .u64 (f4 : Int)) ∧ wx.cell? ⟨B + 1, 5, none⟩ = some (.int .u64 (f5 : Int)) ∧ wx.cell? ⟨B + 1, 6, none⟩ = some (.int .u64 (f6 : Int)) ∧ wx.cell? ⟨B + 1, 7, none⟩ = some (.int .u64 (f7 : Int)) ∧ wx.cell? ⟨B + 1, 8, none⟩ = some (.int .u64 (f8 : Int)) ∧ wx.cell? ⟨B + 1, 9, none⟩ = some (.int .u64 (f9 : Int)) ∧ wx.cell? ⟨XM, 0, none⟩ = some (.pointer (some ⟨g, 0, none⟩)) ∧ wx.cell? ⟨XM, 1, none⟩ = some (.int .i64 (a : Int)) ∧ wx.cell? ⟨XM, 2, none⟩ = some (.int .i64 (b : Int)) ∧ wx.cell? ⟨XM, 3, none⟩ = some (.int .i64 (c : Int)) ∧ wx.cell? ⟨XM, 4, none⟩ = some (.int .i64 (n : Int)) := by
  have q0 := h.b0
  have q1 := h.b1
  rw [hB] at q0 q1
  obtain ⟨m0, m1, m2, m3, m4⟩ := h.bm.cells
  refine ⟨?_, ?_, ?_, ?_, ?_, ?_, ?_, ?_, ?_, ?_, ?_, m0, m1, m2, m3, m4⟩ <;> simp [World.cell?, q0, q1]
end Go.Proofs.YtmamgfjnphdecaaDoor
end
section
/- Package blocks: isBare. -/
namespace Go.Proofs.YtmamgfjnphdecaaDoor
open Go.RowKit Go.Grommet Go.Shelf
attribute [local go_sem] Oper.semAt_some
set_option linter.unusedVariables false

theorem bool_frozen {w : World} {B : Nat} {v : Bool} {T : TypeId} (h : w.heap[B]? = some (.cells #[.bool v] T (0, 0))) : w.frozen? ⟨B, 0, none⟩ = false := by simp [World.frozen?, h]
theorem bool_cell {w : World} {B : Nat} {v : Bool} {T : TypeId} (h : w.heap[B]? = some (.cells #[.bool v] T (0, 0))) : w.cell? ⟨B, 0, none⟩ = some (.bool v) := by simp [World.cell?, h]

set_option maxRecDepth 100000 in
set_option maxHeartbeats 2000000 in
theorem bmBare_any (XM g a b c n P : Nat) (f0 f1 f2 f3 f4 f5 f6 f7 f8 f9 : Nat) (V : Nat → Nat) (r : Bool) (w : World) (hm : BM XM g a b c n w) (h8 : f8 ≠ 0) (h8s : f8 ≤ 1000000) (hP : blockV (a : Int) (b : Int) (c : Int) (f8 : Int) = (P : Int)) (hPl : P ≤ 1000000)
    (HV : ∀ (i : Nat) (wx : World), w.grownBy wx none → Calls Tryd.prog 18 #[.pointer (some ⟨g, 0, none⟩), .int .i64 ((P + i : Nat) : Int)] wx fun e w' => e = .returned (.int .u64 (V i : Int)) ∧ w' = wx)
    (hr : (∀ i, i < 8 → V i = 0) ↔ r = true) :
    Calls Tryd.prog 48 #[.pointer (some ⟨XM, 0, none⟩), nv f0 f1 f2 f3 f4 f5 f6 f7 f8 f9] w fun e w' => e = .returned (.bool r) ∧ w.grownBy w' none := by
  have hXs := (Array.getElem?_eq_some_iff.1 hm.box).1
  have HV0 := Lib.hid HV
  have HPL := Lib.hid hPl
  have HC0 := Lib.hid (fun k (hk : 0 ≤ k ∧ k ≤ 900) wx (hB : BM XM g a b c n wx) => bmChained XM g a b c n P k f0 f1 f2 f3 f4 f5 f6 f7 f8 f9 wx hB h8 (by omega) hP hPl h8s hk)
  clear HV hPl
  refine (callsIn_wide (n := 9)).1 ?_
  refine callsIn_of_wp_marks Tryd.func48 rfl trivial ?_ rfl
  unfold nv at *
  simp only [Tryd.ntmps48, List.size_toArray, List.length_cons, List.length_nil, Nat.reduceAdd, Nat.reduceSub, Array.replicate_succ, Array.replicate_zero, List.push_toArray, List.append_toArray, List.nil_append, List.cons_append]
  gi_wp2_with fail
  refine ⟨trivial, (callsIn_wide.2 (bmPlaces _ 4)).mono ?_⟩
  rintro e w2 ⟨rfl, hw2⟩
  have g1 := World.grownBy_alloc w (.cells #[.pointer (some ⟨XM, 0, none⟩)] 32) none
  have n1 := heap_alloc_new w (.cells #[.pointer (some ⟨XM, 0, none⟩)] 32)
  have z1 : (w.alloc (.cells #[.pointer (some ⟨XM, 0, none⟩)] 32)).heap.size = w.heap.size + 1 := by simp
  generalize w.alloc (.cells #[.pointer (some ⟨XM, 0, none⟩)] 32) = u1 at *
  have g2 := World.grownBy_alloc u1 (.cells #[.int .u64 (f0 : Int), .int .u64 (f1 : Int), .int .u64 (f2 : Int), .int .u64 (f3 : Int), .int .u64 (f4 : Int), .int .u64 (f5 : Int), .int .u64 (f6 : Int), .int .u64 (f7 : Int), .int .u64 (f8 : Int), .int .u64 (f9 : Int)] 71) none
  have n2 := heap_alloc_new u1 (.cells #[.int .u64 (f0 : Int), .int .u64 (f1 : Int), .int .u64 (f2 : Int), .int .u64 (f3 : Int), .int .u64 (f4 : Int), .int .u64 (f5 : Int), .int .u64 (f6 : Int), .int .u64 (f7 : Int), .int .u64 (f8 : Int), .int .u64 (f9 : Int)] 71)
  have z2 : (u1.alloc (.cells #[.int .u64 (f0 : Int), .int .u64 (f1 : Int), .int .u64 (f2 : Int), .int .u64 (f3 : Int), .int .u64 (f4 : Int), .int .u64 (f5 : Int), .int .u64 (f6 : Int), .int .u64 (f7 : Int), .int .u64 (f8 : Int), .int .u64 (f9 : Int)] 71)).heap.size = w.heap.size + 2 := by simp [z1]
  generalize u1.alloc (.cells #[.int .u64 (f0 : Int), .int .u64 (f1 : Int), .int .u64 (f2 : Int), .int .u64 (f3 : Int), .int .u64 (f4 : Int), .int .u64 (f5 : Int), .int .u64 (f6 : Int), .int .u64 (f7 : Int), .int .u64 (f8 : Int), .int .u64 (f9 : Int)] 71) = u2 at *
  have g3 := World.grownBy_alloc u2 (.cells #[.bool false] 4) none
  have n3 := heap_alloc_new u2 (.cells #[.bool false] 4)
  have z3 : (u2.alloc (.cells #[.bool false] 4)).heap.size = w.heap.size + 3 := by simp [z2]
  generalize u2.alloc (.cells #[.bool false] 4) = u3 at *
  have g4 := World.grownBy_alloc u3 (.cells #[.int .i64 4] 3) none
  have hpp := heap_alloc_new u3 (.cells #[.int .i64 4] 3)
  have hs2 : (u3.alloc (.cells #[.int .i64 4] 3)).heap.size = w.heap.size + 4 := by simp [z3]
  rw [← hw2] at g4 hpp hs2
  clear hw2
  rw [z1] at n2
  rw [z2] at n3
  rw [z3] at hpp
  have gw := grown_trans (grown_trans (grown_trans g1 g2) g3) g4
  have hC : BareL w XM g a b c n f0 f1 f2 f3 f4 f5 f6 f7 f8 f9 false w2 :=
    ⟨((grown_trans (grown_trans g2 g3) g4).block _ (by omega) (by simp)).trans n1, ((grown_trans g3 g4).block _ (by omega) (by simp)).trans n2, (g4.block _ (by omega) (by simp)).trans n3, hm.grown gw, gw, by omega⟩
  try rw [z1]
  try rw [z2]
  try rw [z3]
  clear g1 g2 g3 g4 n1 n2 n3 gw hm
  gi_wp2_with fail
  generalize hB : w.heap.size = B at *
  simp only [Nat.add_assoc, Nat.reduceAdd]
  refine wpIn_rangeFunc_ownF (α := Fin 8) rfl (by omega) (gf := 68) (lb := #[.pointer (some ⟨B + 3, 0, none⟩)]) rfl trivial (enters_of Tryd.func68 (by kernel_rfl) rfl)
    (places_stops 8 w2 (B + 3) 4 8 hpp rfl)
    (fun _ _ => trivial) (fun _ _ _ _ _ _ _ _ => trivial) (Below.refl _ _) (fun _ => rfl)
    (fun (pre : List (Fin 8)) W => BareL w XM g a b c n f0 f1 f2 f3 f4 f5 f6 f7 f8 f9 false W ∧ ∀ y ∈ pre, V y.1 = 0)
    (fun c' pre W => c' = Code.ret ∧ BareL w XM g a b c n f0 f1 f2 f3 f4 f5 f6 f7 f8 f9 false W ∧ ∃ y ∈ pre, V y.1 ≠ 0)
    ?own ?own2 ⟨hC, fun _ h => by cases h⟩
    (fun x => { tmps := #[.pointer (some ⟨XM, 0, none⟩), .agg #[.int .u64 (f0 : Int), .int .u64 (f1 : Int), .int .u64 (f2 : Int), .int .u64 (f3 : Int), .int .u64 (f4 : Int), .int .u64 (f5 : Int), .int .u64 (f6 : Int), .int .u64 (f7 : Int), .int .u64 (f8 : Int), .int .u64 (f9 : Int)], .pointer (some ⟨B, 0, none⟩), .pointer (some ⟨B + 1, 0, none⟩), .pointer (some ⟨B + 2, 0, none⟩), .int .i64 ((4 + x.1 : Nat) : Int), .func (.func 68) #[] #[.pointer (some ⟨B + 3, 0, none⟩)], .int .i64 ((4 + x.1 : Nat) : Int), undef, undef, undef, undef, undef, undef, undef, undef, undef, undef], defers := [] }) ?assign ?body ?done ?stop
  case own =>
    rintro pre W W' row ⟨hs, hp⟩ hg hr
    exact ⟨BareL.own (by omega) hs hg (fun r e => by have := (hr r e).1; omega), hp⟩
  case own2 =>
    rintro c pre W W' row ⟨rfl, hs, hp⟩ hg hr
    exact ⟨rfl, BareL.own (by omega) hs hg (fun r e => by have := (hr r e).1; omega), hp⟩
  case assign =>
    intro l x W K hK
    unfold encP
    gi_wp2
    exact hK
  case body =>
    rintro l pre ⟨i, hi⟩ W ⟨hL, hp⟩ hlen
    replace hL : BareL w XM g a b c n f0 f1 f2 f3 f4 f5 f6 f7 f8 f9 false W := hL
    have HF := Lib.hid (show ∀ wx, W.drew.grownBy wx none → wx.cell? ⟨B, 0, none⟩ = some (.pointer (some ⟨XM, 0, none⟩)) ∧ wx.cell? ⟨B + 1, 0, none⟩ = some (.int .u64 (f0 : Int)) ∧ wx.cell? ⟨B + 1, 1, none⟩ = some (.int .u64 (f1 : Int)) ∧ wx.cell? ⟨B + 1, 2, none⟩ = some (.int .u64 (f2 : Int)) ∧ wx.cell? ⟨B + 1, 3, none⟩ = some (.int .u64 (f3 : Int)) ∧ wx.cell? ⟨B + 1, 4, none⟩ = some (.int .u64 (f4 : Int)) ∧ wx.cell? ⟨B + 1, 5, none⟩ = some (.int .u64 (f5 : Int)) ∧ wx.cell? ⟨B + 1, 6, none⟩ = some (.int .u64 (f6 : Int)) ∧ wx.cell? ⟨B + 1, 7, none⟩ = some (.int .u64 (f7 : Int)) ∧ wx.cell? ⟨B + 1, 8, none⟩ = some (.int .u64 (f8 : Int)) ∧ wx.cell? ⟨B + 1, 9, none⟩ = some (.int .u64 (f9 : Int)) ∧ wx.cell? ⟨XM, 0, none⟩ = some (.pointer (some ⟨g, 0, none⟩)) ∧ wx.cell? ⟨XM, 1, none⟩ = some (.int .i64 (a : Int)) ∧ wx.cell? ⟨XM, 2, none⟩ = some (.int .i64 (b : Int)) ∧ wx.cell? ⟨XM, 3, none⟩ = some (.int .i64 (c : Int)) ∧ wx.cell? ⟨XM, 4, none⟩ = some (.int .i64 (n : Int)) from fun wx hgx => (hL.own (by omega) (grown_trans (grown_drew (World.grownBy.refl W none)) hgx) (fun r e => by cases e)).cells hB)
    have HBM := Lib.hid (show ∀ wx, W.drew.grownBy wx none → BM XM g a b c n wx from fun wx hgx => (hL.bm.grown (grown_trans (grown_drew (World.grownBy.refl W none)) hgx)))
    have HC := Lib.hid (HC0.out ((4 + i : Nat) : Int) ⟨by omega, by omega⟩)
    rw [show (P : Int) + ((4 + i : Nat) : Int) - 4 = ((P + i : Nat) : Int) from by omega] at HC
    have HV := Lib.hid (show ∀ wx, W.drew.grownBy wx none → _ from fun wx hgx => HV0.out i wx (grown_trans (grown_trans hL.grown (grown_drew (World.grownBy.refl W none))) hgx))
    have hgr := Lib.hid (World.grownBy.refl W.drew none)
    have HSt := Lib.hid (show ∀ wx, W.drew.grownBy wx none → KeepsOthers W wx ∧ BareL w XM g a b c n f0 f1 f2 f3 f4 f5 f6 f7 f8 f9 false wx from fun wx hgx => ⟨KeepsOthers.of_grownBy (grown_trans (grown_drew (World.grownBy.refl W none)) hgx) (fun _ _ e => by cases e), hL.own (by omega) (grown_trans (grown_drew (World.grownBy.refl W none)) hgx) (fun r e => by cases e)⟩)
    obtain ⟨T, hT⟩ : ∃ T, P + i = T := ⟨_, rfl⟩
    obtain ⟨Z, hZ⟩ : ∃ Z, 4 + i = Z := ⟨_, rfl⟩
    rw [hT] at HC HV
    simp only [hZ] at HC ⊢
    by_cases hv0 : V i = 0
    · have HFIN := Lib.hid (show ∀ y ∈ pre ++ [(⟨i, hi⟩ : Fin 8)], V y.1 = 0 from fun y hy => by
        rcases List.mem_append.1 hy with hy | hy
        · exact hp y hy
        · obtain rfl : y = ⟨i, hi⟩ := by simpa using hy
          exact hv0)
      rw [hv0] at HV
      have HX1 := Lib.hid (show (((0 : Nat) : Int) != 0) = false from rfl)
      clear hL hp hv0
      gi_wp2_with fail
      have x1 := HX1.out
      refine wpIn_round_held (S := fun wx => W.drew.grownBy wx none) (by kernel_rfl) (by kernel_rfl) (hgr.out) (fun hS => ?_)
      refine wpAnyH_take (i := 0) (oi := { dst := some 8, op := Op.load 32 (Operand.tmp 2), type := 32, pos := "blocks.go:176", after := #[], guard := none }) (v := ?via48r3o0) rfl (by kernel_rfl) (by kernel_rfl) (by kernel_rfl) (fun _ _ _ h => h) (Or.inl ⟨by rfl, ?hia48r3o0⟩) hS ?_
      case hia48r3o0 => (intro wx hx; obtain ⟨c0, c1, c2, c3, c4, c5, c6, c7, c8, c9, c10, m0, m1, m2, m3, m4⟩ := HF.out _ hx; go_simp; (try with_reducible rfl))
      try simp only [Act.put, List.setIfInBounds_toArray, List.set_cons_zero, List.set_cons_succ]
      refine wpAnyH_take (i := 1) (oi := { dst := some 9, op := Op.nilCheck (Operand.tmp 8), type := 0, pos := "blocks.go:176", after := #[{ on := 0, ground := Ground.data }], guard := none }) (v := ?via48r3o1) rfl (by kernel_rfl) (by kernel_rfl) (by kernel_rfl) (fun _ _ _ h => h) (Or.inl ⟨by rfl, ?hia48r3o1⟩) hS ?_
      case hia48r3o1 => (intro wx hx; skip; go_simp; (try with_reducible rfl))
      try simp only [Act.put, List.setIfInBounds_toArray, List.set_cons_zero, List.set_cons_succ]
      refine wpAnyH_take (i := 2) (oi := { dst := some 10, op := Op.fieldAddr 75 (Operand.tmp 9) 0, type := 0, pos := "blocks.go:176", after := #[{ on := 1, ground := Ground.data }], guard := none }) (v := ?via48r3o2) rfl (by kernel_rfl) (by kernel_rfl) (by kernel_rfl) (fun _ _ _ h => h) (Or.inl ⟨by rfl, ?hia48r3o2⟩) hS ?_
      case hia48r3o2 => (intro wx hx; skip; go_simp; (try with_reducible rfl))
      try simp only [Act.put, List.setIfInBounds_toArray, List.set_cons_zero, List.set_cons_succ]
      refine wpAnyH_take (i := 3) (oi := { dst := some 11, op := Op.load 30 (Operand.tmp 10), type := 30, pos := "blocks.go:176", after := #[{ on := 2, ground := Ground.data }], guard := none }) (v := ?via48r3o3) rfl (by kernel_rfl) (by kernel_rfl) (by kernel_rfl) (fun _ _ _ h => h) (Or.inl ⟨by rfl, ?hia48r3o3⟩) hS ?_
      case hia48r3o3 => (intro wx hx; obtain ⟨c0, c1, c2, c3, c4, c5, c6, c7, c8, c9, c10, m0, m1, m2, m3, m4⟩ := HF.out _ hx; go_simp; (try with_reducible rfl))
      try simp only [Act.put, List.setIfInBounds_toArray, List.set_cons_zero, List.set_cons_succ]
      refine wpAnyH_take (i := 4) (oi := { dst := some 12, op := Op.load 32 (Operand.tmp 2), type := 32, pos := "blocks.go:176", after := #[], guard := none }) (v := ?via48r3o4) rfl (by kernel_rfl) (by kernel_rfl) (by kernel_rfl) (fun _ _ _ h => h) (Or.inl ⟨by rfl, ?hia48r3o4⟩) hS ?_
      case hia48r3o4 => (intro wx hx; obtain ⟨c0, c1, c2, c3, c4, c5, c6, c7, c8, c9, c10, m0, m1, m2, m3, m4⟩ := HF.out _ hx; go_simp; (try with_reducible rfl))
      try simp only [Act.put, List.setIfInBounds_toArray, List.set_cons_zero, List.set_cons_succ]
      refine wpAnyH_take (i := 5) (oi := { dst := some 13, op := Op.load 71 (Operand.tmp 3), type := 71, pos := "blocks.go:176", after := #[], guard := none }) (v := ?via48r3o5) rfl (by kernel_rfl) (by kernel_rfl) (by kernel_rfl) (fun _ _ _ h => h) (Or.inl ⟨by rfl, ?hia48r3o5⟩) hS ?_
      case hia48r3o5 => (intro wx hx; obtain ⟨c0, c1, c2, c3, c4, c5, c6, c7, c8, c9, c10, m0, m1, m2, m3, m4⟩ := HF.out _ hx; go_simp; (try with_reducible rfl))
      try simp only [Act.put, List.setIfInBounds_toArray, List.set_cons_zero, List.set_cons_succ]
      refine wpAnyH_take (i := 6) (oi := { dst := some 14, op := Op.move (Operand.tmp 5), type := 3, pos := "blocks.go:176", after := #[], guard := none }) (v := ?via48r3o6) rfl (by kernel_rfl) (by kernel_rfl) (by kernel_rfl) (fun _ _ _ h => h) (Or.inl ⟨by rfl, ?hia48r3o6⟩) hS ?_
      case hia48r3o6 => (intro wx hx; skip; go_simp; (try with_reducible rfl))
      try simp only [Act.put, List.setIfInBounds_toArray, List.set_cons_zero, List.set_cons_succ]
      refine wpAnyH_ready (rs := [7]) (by kernel_rfl) (by simp) ?_
      refine AllReadyH.cons (o := { dst := some 15, op := Op.call { callee := Callee.value (Operand.func 43), args := #[Operand.tmp 12, Operand.tmp 13, Operand.tmp 14], argTypes := #[32, 71, 3] }, type := 3, pos := "blocks.go:176", after := #[{ on := 4, ground := Ground.data }, { on := 5, ground := Ground.data }, { on := 6, ground := Ground.data }], guard := none }) rfl (fun K hK => ?_) AllReadyH.nil
      go_simp
      refine (HC.out _ (HBM.out _ hS)).mono ?_
      rintro e wA ⟨rfl, hgA⟩
      have hS1 := grown_trans hS hgA
      refine hK.out _ _ ?hsia48r3o7 (fun hS => ?_)
      case hsia48r3o7 => (exact hS1)
      clear hK K
      try simp only [Act.put, List.setIfInBounds_toArray, List.set_cons_zero, List.set_cons_succ]
      refine wpAnyH_ready (rs := [8]) (by kernel_rfl) (by simp) ?_
      refine AllReadyH.cons (o := { dst := some 16, op := Op.call { callee := Callee.value (Operand.func 18), args := #[Operand.tmp 11, Operand.tmp 15], argTypes := #[30, 3] }, type := 47, pos := "blocks.go:176", after := #[{ on := 3, ground := Ground.data }, { on := 7, ground := Ground.data }, { on := 7, ground := Ground.chain }], guard := none }) rfl (fun K hK => ?_) AllReadyH.nil
      go_simp
      refine (HV.out _ hS).mono ?_
      rintro e wB ⟨rfl, rfl⟩
      have hS1 := hS
      refine hK.out _ _ ?hsia48r3o8 (fun hS => ?_)
      case hsia48r3o8 => (exact hS1)
      clear hK K
      try simp only [Act.put, List.setIfInBounds_toArray, List.set_cons_zero, List.set_cons_succ]
      refine wpAnyH_take (i := 9) (oi := { dst := some 17, op := Op.binOp BinOp.neq 47 (Operand.tmp 16) (Operand.const (Value.int IntKind.u64 0)) 47, type := 4, pos := "blocks.go:176", after := #[{ on := 8, ground := Ground.data }], guard := none }) (v := ?via48r3o9) rfl (by kernel_rfl) (by kernel_rfl) (by kernel_rfl) (fun _ _ _ h => h) (Or.inl ⟨by rfl, ?hia48r3o9⟩) hS ?_
      case hia48r3o9 => (intro wx hx; skip; go_simp; (try with_reducible rfl))
      try simp only [Act.put, List.setIfInBounds_toArray, List.set_cons_zero, List.set_cons_succ]
      refine wpAnyH_done (by kernel_rfl) ?_ _
      refine onlyEnd_mk ?_
      obtain ⟨k1, k2⟩ := HSt.out _ hS
      clear hS
      have HE := Lib.hid (And.intro k1 k2)
      clear k1 k2
      gi_wp2
      exact ⟨HE.out.1, trivial, HE.out.2, HFIN.out⟩
    · have HFIN := Lib.hid (show ∃ y ∈ pre ++ [(⟨i, hi⟩ : Fin 8)], V y.1 ≠ 0 from ⟨⟨i, hi⟩, by simp, hv0⟩)
      have HX1 := Lib.hid (show ((V i : Int) != 0) = true by simpa using hv0)
      clear hL hp hv0
      gi_wp2_with fail
      have x1 := HX1.out
      refine wpIn_round_held (S := fun wx => W.drew.grownBy wx none) (by kernel_rfl) (by kernel_rfl) (hgr.out) (fun hS => ?_)
      refine wpAnyH_take (i := 0) (oi := { dst := some 8, op := Op.load 32 (Operand.tmp 2), type := 32, pos := "blocks.go:176", after := #[], guard := none }) (v := ?vib48r3o0) rfl (by kernel_rfl) (by kernel_rfl) (by kernel_rfl) (fun _ _ _ h => h) (Or.inl ⟨by rfl, ?hib48r3o0⟩) hS ?_
      case hib48r3o0 => (intro wx hx; obtain ⟨c0, c1, c2, c3, c4, c5, c6, c7, c8, c9, c10, m0, m1, m2, m3, m4⟩ := HF.out _ hx; go_simp; (try with_reducible rfl))
      try simp only [Act.put, List.setIfInBounds_toArray, List.set_cons_zero, List.set_cons_succ]
      refine wpAnyH_take (i := 1) (oi := { dst := some 9, op := Op.nilCheck (Operand.tmp 8), type := 0, pos := "blocks.go:176", after := #[{ on := 0, ground := Ground.data }], guard := none }) (v := ?vib48r3o1) rfl (by kernel_rfl) (by kernel_rfl) (by kernel_rfl) (fun _ _ _ h => h) (Or.inl ⟨by rfl, ?hib48r3o1⟩) hS ?_
      case hib48r3o1 => (intro wx hx; skip; go_simp; (try with_reducible rfl))
      try simp only [Act.put, List.setIfInBounds_toArray, List.set_cons_zero, List.set_cons_succ]
      refine wpAnyH_take (i := 2) (oi := { dst := some 10, op := Op.fieldAddr 75 (Operand.tmp 9) 0, type := 0, pos := "blocks.go:176", after := #[{ on := 1, ground := Ground.data }], guard := none }) (v := ?vib48r3o2) rfl (by kernel_rfl) (by kernel_rfl) (by kernel_rfl) (fun _ _ _ h => h) (Or.inl ⟨by rfl, ?hib48r3o2⟩) hS ?_
      case hib48r3o2 => (intro wx hx; skip; go_simp; (try with_reducible rfl))
      try simp only [Act.put, List.setIfInBounds_toArray, List.set_cons_zero, List.set_cons_succ]
      refine wpAnyH_take (i := 3) (oi := { dst := some 11, op := Op.load 30 (Operand.tmp 10), type := 30, pos := "blocks.go:176", after := #[{ on := 2, ground := Ground.data }], guard := none }) (v := ?vib48r3o3) rfl (by kernel_rfl) (by kernel_rfl) (by kernel_rfl) (fun _ _ _ h => h) (Or.inl ⟨by rfl, ?hib48r3o3⟩) hS ?_
      case hib48r3o3 => (intro wx hx; obtain ⟨c0, c1, c2, c3, c4, c5, c6, c7, c8, c9, c10, m0, m1, m2, m3, m4⟩ := HF.out _ hx; go_simp; (try with_reducible rfl))
      try simp only [Act.put, List.setIfInBounds_toArray, List.set_cons_zero, List.set_cons_succ]
      refine wpAnyH_take (i := 4) (oi := { dst := some 12, op := Op.load 32 (Operand.tmp 2), type := 32, pos := "blocks.go:176", after := #[], guard := none }) (v := ?vib48r3o4) rfl (by kernel_rfl) (by kernel_rfl) (by kernel_rfl) (fun _ _ _ h => h) (Or.inl ⟨by rfl, ?hib48r3o4⟩) hS ?_
      case hib48r3o4 => (intro wx hx; obtain ⟨c0, c1, c2, c3, c4, c5, c6, c7, c8, c9, c10, m0, m1, m2, m3, m4⟩ := HF.out _ hx; go_simp; (try with_reducible rfl))
      try simp only [Act.put, List.setIfInBounds_toArray, List.set_cons_zero, List.set_cons_succ]
      refine wpAnyH_take (i := 5) (oi := { dst := some 13, op := Op.load 71 (Operand.tmp 3), type := 71, pos := "blocks.go:176", after := #[], guard := none }) (v := ?vib48r3o5) rfl (by kernel_rfl) (by kernel_rfl) (by kernel_rfl) (fun _ _ _ h => h) (Or.inl ⟨by rfl, ?hib48r3o5⟩) hS ?_
      case hib48r3o5 => (intro wx hx; obtain ⟨c0, c1, c2, c3, c4, c5, c6, c7, c8, c9, c10, m0, m1, m2, m3, m4⟩ := HF.out _ hx; go_simp; (try with_reducible rfl))
      try simp only [Act.put, List.setIfInBounds_toArray, List.set_cons_zero, List.set_cons_succ]
      refine wpAnyH_take (i := 6) (oi := { dst := some 14, op := Op.move (Operand.tmp 5), type := 3, pos := "blocks.go:176", after := #[], guard := none }) (v := ?vib48r3o6) rfl (by kernel_rfl) (by kernel_rfl) (by kernel_rfl) (fun _ _ _ h => h) (Or.inl ⟨by rfl, ?hib48r3o6⟩) hS ?_
      case hib48r3o6 => (intro wx hx; skip; go_simp; (try with_reducible rfl))
      try simp only [Act.put, List.setIfInBounds_toArray, List.set_cons_zero, List.set_cons_succ]
      refine wpAnyH_ready (rs := [7]) (by kernel_rfl) (by simp) ?_
      refine AllReadyH.cons (o := { dst := some 15, op := Op.call { callee := Callee.value (Operand.func 43), args := #[Operand.tmp 12, Operand.tmp 13, Operand.tmp 14], argTypes := #[32, 71, 3] }, type := 3, pos := "blocks.go:176", after := #[{ on := 4, ground := Ground.data }, { on := 5, ground := Ground.data }, { on := 6, ground := Ground.data }], guard := none }) rfl (fun K hK => ?_) AllReadyH.nil
      go_simp
      refine (HC.out _ (HBM.out _ hS)).mono ?_
      rintro e wA ⟨rfl, hgA⟩
      have hS1 := grown_trans hS hgA
      refine hK.out _ _ ?hsib48r3o7 (fun hS => ?_)
      case hsib48r3o7 => (exact hS1)
      clear hK K
      try simp only [Act.put, List.setIfInBounds_toArray, List.set_cons_zero, List.set_cons_succ]
      refine wpAnyH_ready (rs := [8]) (by kernel_rfl) (by simp) ?_
      refine AllReadyH.cons (o := { dst := some 16, op := Op.call { callee := Callee.value (Operand.func 18), args := #[Operand.tmp 11, Operand.tmp 15], argTypes := #[30, 3] }, type := 47, pos := "blocks.go:176", after := #[{ on := 3, ground := Ground.data }, { on := 7, ground := Ground.data }, { on := 7, ground := Ground.chain }], guard := none }) rfl (fun K hK => ?_) AllReadyH.nil
      go_simp
      refine (HV.out _ hS).mono ?_
      rintro e wB ⟨rfl, rfl⟩
      have hS1 := hS
      refine hK.out _ _ ?hsib48r3o8 (fun hS => ?_)
      case hsib48r3o8 => (exact hS1)
      clear hK K
      try simp only [Act.put, List.setIfInBounds_toArray, List.set_cons_zero, List.set_cons_succ]
      refine wpAnyH_take (i := 9) (oi := { dst := some 17, op := Op.binOp BinOp.neq 47 (Operand.tmp 16) (Operand.const (Value.int IntKind.u64 0)) 47, type := 4, pos := "blocks.go:176", after := #[{ on := 8, ground := Ground.data }], guard := none }) (v := ?vib48r3o9) rfl (by kernel_rfl) (by kernel_rfl) (by kernel_rfl) (fun _ _ _ h => h) (Or.inl ⟨by rfl, ?hib48r3o9⟩) hS ?_
      case hib48r3o9 => (intro wx hx; skip; go_simp; (try with_reducible rfl))
      try simp only [Act.put, List.setIfInBounds_toArray, List.set_cons_zero, List.set_cons_succ]
      refine wpAnyH_done (by kernel_rfl) ?_ _
      refine onlyEnd_mk ?_
      obtain ⟨k1, k2⟩ := HSt.out _ hS
      have cB2 := k2.b2
      have hput := k2.put (by omega) false
      rw [hB] at cB2 hput
      have z2 := bool_frozen cB2
      have d2 := bool_cell cB2
      have hput := Lib.hid hput
      clear cB2
      gi_wp2
      exact ⟨k1.trans hput.out.1, rfl, hput.out.2, HFIN.out⟩
  case done =>
    rintro D ys W hD hys ⟨hL, hp⟩ hK
    subst hys
    replace hL : BareL w XM g a b c n f0 f1 f2 f3 f4 f5 f6 f7 f8 f9 false W := hL
    have hrt : r = true := hr.1 (fun i hi => hp ⟨i, hi⟩ (by simp))
    subst hrt
    have hput := hL.put (by omega) true
    have cB2 := hL.b2
    rw [hB] at cB2 hput
    have z2 : W.frozen? ⟨B + 2, 0, none⟩ = false := by simp [World.frozen?, cB2]
    have d2 : W.cell? ⟨B + 2, 0, none⟩ = some (.bool false) := by simp [World.cell?, cB2]
    have hput := Lib.hid hput
    clear hL hp cB2 hr
    gi_wp2
    obtain ⟨hk, hN2⟩ := hput.out
    refine leaves_marks (B := B) _ (D + 1) _ ⟨D, rfl, by omega, by omega, hk.same _ _ hK rfl, trivial⟩ ?_
    intro w' hw'
    have q2 := hw'.cells _ _ _ _ hN2.b2
    rw [hB] at q2
    have r2 : w'.cell? ⟨B + 2, 0, none⟩ = some (.bool true) := by simp [World.cell?, q2]
    exact ⟨.bool true, by simp [results, Tryd.results48, go_sem, r2], rfl, hw'.grown (by omega) hN2.grown⟩
  case stop =>
    rintro D c pre W hD ⟨k, hkN, rfl⟩ ⟨rfl, hL, y, hy, hne⟩ hK
    replace hL : BareL w XM g a b c n f0 f1 f2 f3 f4 f5 f6 f7 f8 f9 false W := hL
    have hrt : r = false := by
      cases r
      · rfl
      · exact absurd (hr.2 rfl y.1 y.2) hne
    subst hrt
    gi_wp2
    refine leaves_marks (B := B) _ (D + 1) _ ⟨D, rfl, by omega, by omega, hK, trivial⟩ ?_
    intro w' hw'
    have q2 := hw'.cells _ _ _ _ hL.b2
    rw [hB] at q2
    have r2 : w'.cell? ⟨B + 2, 0, none⟩ = some (.bool false) := by simp [World.cell?, q2]
    exact ⟨.bool false, by simp [results, Tryd.results48, go_sem, r2], rfl, hw'.grown (by omega) hL.grown⟩
theorem bmBare (kv km XM g a b c n P : Nat) (f0 f1 f2 f3 f4 f5 f6 f7 f8 f9 : Nat) (xs : List Nat) (L : List (Nat × Nat)) (r : Bool) (w0 w : World) (Ps : List Pr) (h : Grommet.Own w0 w Ps) (hv : Ps[kv]? = some (viewP g xs L)) (hm : Ps[km]? = some (bmP XM g a b c n)) (h8 : f8 ≠ 0) (h8s : f8 ≤ 1000000) (hP : blockV (a : Int) (b : Int) (c : Int) (f8 : Int) = (P : Int)) (hPl : P ≤ 1000000)
    (hr : (∀ i : Nat, i < 8 → gotI xs L ((P + i : Nat) : Int) = 0) ↔ r = true) :
    Calls Tryd.prog 48 #[.pointer (some ⟨XM, 0, none⟩), nv f0 f1 f2 f3 f4 f5 f6 f7 f8 f9] w fun e w' => e = .returned (.bool r) ∧ Grommet.Own w0 w' Ps :=
  (bmBare_any XM g a b c n P f0 f1 f2 f3 f4 f5 f6 f7 f8 f9 (fun i => gotI xs L ((P + i : Nat) : Int)) r w (BM.of h hm) h8 h8s hP hPl (fun i wx hg => GetH kv g xs L _ w0 wx Ps (h.quiet hg) hv) hr).mono fun e w' ⟨he, hg⟩ => ⟨he, h.quiet hg⟩
end Go.Proofs.YtmamgfjnphdecaaDoor
end
section
/- Things none of whose blocks is a loop's record; such a record may be turned beside them. -/
namespace Go.Grommet
open Go.RowKit

def isLoop : Obj → Bool
  | .loop _ => true
  | .deferred _ => true
  | _ => false
def Solid (P : Pr) : Prop := ∀ w F, P.holds w F → ∃ F', P.holds w F' ∧ (∀ i, F' i → F i) ∧ ∀ i, F' i → ∃ o, w.heap[i]? = some o ∧ isLoop o = false
theorem Own.beside {w0 w w' : World} {Ps : List Pr} (h : Own w0 w Ps) (hs : ∀ P ∈ Ps, Solid P) {r : Nat} (h0 : w0.heap.size ≤ r) {o : Obj} (ho : w.heap[r]? = some o) (hl : isLoop o = true) (hg : w.grownBy w' (some r)) : Own w0 w' Ps := by
  obtain ⟨Fs, h1, h2, h3, h4⟩ := h
  have hx : ∀ k, ∃ G : Nat → Prop, (∀ i, G i → Fs k i) ∧ (∀ P, Ps[k]? = some P → P.holds w G) ∧ (k < Ps.length → ∀ i, G i → ∃ o, w.heap[i]? = some o ∧ isLoop o = false) := by
    intro k
    by_cases hk : k < Ps.length
    · obtain ⟨G, g1, g2, g3⟩ := hs Ps[k] (List.getElem_mem hk) w (Fs k) (h1 k _ (List.getElem?_eq_getElem hk))
      exact ⟨G, g2, fun P hP => by rw [List.getElem?_eq_getElem hk] at hP; cases hP; exact g1, fun _ => g3⟩
    · exact ⟨Fs k, fun _ h => h, fun P hP => h1 k P hP, fun h => absurd h hk⟩
  refine ⟨fun k => (hx k).choose, fun k P hk => ?_, fun j k hj hk hne i hi hi' => h2 j k hj hk hne i ((hx j).choose_spec.1 i hi) ((hx k).choose_spec.1 i hi'), fun k hk i hi => h3 k hk i ((hx k).choose_spec.1 i hi), grown_new h4 hg (fun j e => by cases e; exact h0)⟩
  refine P.turn ((hx k).choose_spec.2.1 P hk) (Turn.of (F := fun i => i = r) hg (fun i e => by cases e; rfl)) (fun i hi e => ?_)
  subst e
  obtain ⟨o', ho', hl'⟩ := (hx k).choose_spec.2.2 (List.getElem?_eq_some_iff.1 hk).1 i hi
  rw [ho] at ho'
  cases ho'
  rw [hl] at hl'
  cases hl'
def objP (X : Nat) (o : Obj) : Pr where
  holds w F := w.heap[X]? = some o ∧ F X ∧ ∀ i, F i → i < w.heap.size
  turn := fun h ht hn => ⟨ht.obj h.1 (hn _ h.2.1), h.2.1, fun i hi => Nat.lt_of_lt_of_le (h.2.2 i hi) ht.size⟩
  old := fun h => h.2.2
/-- A loop's record beside solid things. -/
theorem Own.withObjs {w0 w : World} {Ps : List Pr} (h : Own w0 w Ps) (hs : ∀ P ∈ Ps, Solid P) {r : Nat} (h0 : w0.heap.size ≤ r) {o o' : Obj} (ho : w.heap[r]? = some o) (hl : isLoop o = true) (ho' : w.heap[r + 1]? = some o') (hl' : isLoop o' = true) : Own w0 w (Ps ++ [objP r o, objP (r + 1) o']) := by
  obtain ⟨Fs, h1, h2, h3, h4⟩ := h
  have hx : ∀ k, ∃ G : Nat → Prop, (∀ i, G i → Fs k i) ∧ (∀ P, Ps[k]? = some P → P.holds w G) ∧ (k < Ps.length → ∀ i, G i → ∃ o, w.heap[i]? = some o ∧ isLoop o = false) := by
    intro k
    by_cases hk : k < Ps.length
    · obtain ⟨G, g1, g2, g3⟩ := hs Ps[k] (List.getElem_mem hk) w (Fs k) (h1 k _ (List.getElem?_eq_getElem hk))
      exact ⟨G, g2, fun P hP => by rw [List.getElem?_eq_getElem hk] at hP; cases hP; exact g1, fun _ => g3⟩
    · exact ⟨Fs k, fun _ h => h, fun P hP => h1 k P hP, fun h => absurd h hk⟩
  obtain ⟨G, hG⟩ := Classical.axiomOfChoice hx
  have off : ∀ k, k < Ps.length → ∀ i, G k i → i ≠ r ∧ i ≠ r + 1 := by
    intro k hk i hi
    obtain ⟨q, hq, hql⟩ := (hG k).2.2 hk i hi
    refine ⟨fun e => ?_, fun e => ?_⟩
    · subst e; rw [ho] at hq; cases hq; rw [hl] at hql; cases hql
    · subst e; rw [ho'] at hq; cases hq; rw [hl'] at hql; cases hql
  obtain ⟨K, hK⟩ : ∃ K : Nat → Nat → Prop, ∀ k i, K k i ↔ if k < Ps.length then G k i else if k = Ps.length then i = r else i = r + 1 := ⟨fun k i => if k < Ps.length then G k i else if k = Ps.length then i = r else i = r + 1, fun _ _ => Iff.rfl⟩
  have hlen : (Ps ++ [objP r o, objP (r + 1) o']).length = Ps.length + 2 := by simp
  refine ⟨K, fun k P hP => ?_, fun j k hj hk hne i hi hi' => ?_, fun k hk i hi => ?_, h4⟩
  · have hkl := (List.getElem?_eq_some_iff.1 hP).1
    rw [hlen] at hkl
    by_cases hk : k < Ps.length
    · rw [List.getElem?_append_left hk] at hP
      have e : K k = G k := by funext i; rw [hK k i, if_pos hk]
      rw [e]
      exact (hG k).2.1 P hP
    · rw [List.getElem?_append_right (by omega)] at hP
      by_cases he : k = Ps.length
      · subst he
        rw [Nat.sub_self] at hP
        cases hP
        exact ⟨ho, by rw [hK, if_neg hk, if_pos rfl], fun i hi => by rw [hK, if_neg hk, if_pos rfl] at hi; subst hi; exact (Array.getElem?_eq_some_iff.1 ho).1⟩
      · obtain rfl : k = Ps.length + 1 := by omega
        rw [show Ps.length + 1 - Ps.length = 1 from by omega] at hP
        cases hP
        exact ⟨ho', by rw [hK, if_neg hk, if_neg he], fun i hi => by rw [hK, if_neg hk, if_neg he] at hi; subst hi; exact (Array.getElem?_eq_some_iff.1 ho').1⟩
  · rw [hlen] at hj hk
    rw [hK] at hi hi'
    by_cases a : j < Ps.length
    · rw [if_pos a] at hi
      have := off j a i hi
      by_cases b : k < Ps.length
      · rw [if_pos b] at hi'; exact h2 j k a b hne i ((hG j).1 i hi) ((hG k).1 i hi')
      · rw [if_neg b] at hi'
        split at hi' <;> omega
    · rw [if_neg a] at hi
      by_cases b : k < Ps.length
      · rw [if_pos b] at hi'
        have := off k b i hi'
        split at hi <;> omega
      · rw [if_neg b] at hi'
        split at hi <;> split at hi' <;> omega
  · rw [hlen] at hk
    rw [hK] at hi
    by_cases a : k < Ps.length
    · rw [if_pos a] at hi; exact h3 k a i ((hG k).1 i hi)
    · rw [if_neg a] at hi
      split at hi <;> omega
theorem solid_box (X : Nat) (T : TypeId) (cs : Array Value) : Solid (boxP X T cs) := fun w F h =>
  ⟨fun i => i = X, ⟨h.1, rfl, fun i e => by subst e; exact (Array.getElem?_eq_some_iff.1 h.1).1⟩, fun i e => by subst e; exact h.2.1, fun i e => by subst e; exact ⟨_, h.1, rfl⟩⟩
theorem row_block {w : World} {e : TypeId} {s n : Nat} {v : Value} {xs : List Value} (h : w.ownsRow 0 e s v n xs) (i : Nat) (hi : v.ownBlock = some i) : ∃ cur, w.heap[i]? = some (.cells cur e (0, 0)) := by
  obtain ⟨_, ⟨rfl, _⟩ | ⟨g, cap, cur, rfl, _, hc, _⟩⟩ := h
  · cases hi
  · cases hi; exact ⟨cur, hc⟩
end Go.Grommet
namespace Go.Proofs.YtmamgfjnphdecaaDoor
open Go.RowKit Go.Grommet
theorem solid_view (g : Nat) (xs : List Nat) (L : List (Nat × Nat)) : Solid (viewP g xs L) := by
  rintro w F ⟨ws, wr, mb, h⟩
  obtain ⟨es, c, hmb⟩ := h.num.lt
  have hsol : ∀ i, (i = g ∨ i = mb ∨ ws.ownBlock = some i ∨ wr.ownBlock = some i) → ∃ o, w.heap[i]? = some o ∧ isLoop o = false := by
    rintro i (rfl | rfl | hi | hi)
    · exact ⟨_, h.obj, rfl⟩
    · exact ⟨_, hmb, rfl⟩
    · obtain ⟨cur, hc⟩ := row_block h.words i hi; exact ⟨_, hc, rfl⟩
    · obtain ⟨cur, hc⟩ := row_block h.writes i hi; exact ⟨_, hc, rfl⟩
  refine ⟨fun i => i = g ∨ i = mb ∨ ws.ownBlock = some i ∨ wr.ownBlock = some i, ⟨ws, wr, mb, h.obj, h.words, h.writes, h.num, h.small, h.fits, h.good, fun i hi => ?_, .inl rfl, .inr (.inl rfl), fun i hi => .inr (.inr (.inl hi)), fun i hi => .inr (.inr (.inr hi))⟩, ?_, hsol⟩
  · obtain ⟨o, ho, _⟩ := hsol i hi
    exact (Array.getElem?_eq_some_iff.1 ho).1
  · rintro i (rfl | rfl | hi | hi)
    · exact h.fg
    · exact h.fm
    · exact h.fw i hi
    · exact h.fr i hi
end Go.Proofs.YtmamgfjnphdecaaDoor
end
section
/- A rule of our own: to range over an iterator that turns nothing of its own; the caller's relation is kept while the loop's record alone is turned. -/
namespace Go.Grommet
open Go Go.RowKit

variable {F : Fence} {n : Nat} {P : Program}

/-- The iterator's side. -/
def SeqPlain {α : Type} (F : Fence) (n : Nat) (P : Program) (g : Nat) (lb : Array Value) (encs : α → Array Value) (S Sp : List α → Prop) (N : List α → α → Prop) (w : World) : Prop :=
  ∀ (l : Nat) (J Jx : List α → World → Prop) (W : World), Below w.heap.size w W →
    (∀ pre x A, J pre A → N pre x → YieldAt F (n - 1) P l (encs x) A fun e B => (e = .returned (.bool true) ∧ J (pre ++ [x]) B) ∨ (e = .returned (.bool false) ∧ Jx (pre ++ [x]) B)) →
    J [] W → CallsIn F n P g (#[.func (.yield l) #[] #[]] ++ lb) W fun e B => (∃ v, e = .returned v) ∧ ((∃ xs, S xs ∧ J xs B) ∨ ∃ pre, Sp pre ∧ Jx pre B)
/-- Kept while new blocks are laid, and while a loop's record is turned. -/
def Calm {β : Type} (B : Nat) (I : β → World → Prop) : Prop := ∀ (s : β) (W W' : World) (row : Option Nat), I s W → W.grownBy W' row → (∀ r, row = some r → B ≤ r ∧ ∃ o : Obj, W.heap[r]? = some o ∧ isLoop o = true) → I s W'
theorem Calm.putObj {β : Type} {B : Nat} {I : β → World → Prop} (h : Calm B I) {s : β} {W : World} {l : Nat} {o : Obj} (o' : Obj) (hs : I s W) (hB : B ≤ l) (hl : W.heap[l]? = some o) (ho : isLoop o = true) : I s (W.putObj l o') :=
  h s W _ (some l) hs (grownBy_putObj' W l o') (fun r e => by cases e; exact ⟨hB, o, hl, ho⟩)
theorem Calm.alloc {β : Type} {B : Nat} {I : β → World → Prop} (h : Calm B I) {s : β} {W : World} (o : Obj) (hs : I s W) : I s (W.alloc o) :=
  h s W _ none hs (World.grownBy_alloc W o none) (fun r e => by cases e)

/-- What the loop has laid for itself: its record, and below it the block of its rounds' deferred calls. -/
structure Book (R : Nat) (lp : Loop) (W : World) : Prop where
  lp : W.heap[R + 1]? = some (.loop lp)
  marks : W.heap[R]? = some (.deferred (some []))
theorem Book.stay {R : Nat} {lp : Loop} {A B : World} (h : Book R lp A) (hs : ∀ (k : Nat) (o : Obj), A.heap[k]? = some o → o.isCells = false → o.isWalk = false → B.heap[k]? = some o) : Book R lp B := ⟨hs _ _ h.lp rfl rfl, hs _ _ h.marks rfl rfl⟩
theorem Book.turn {R : Nat} {lp : Loop} {A : World} (h : Book R lp A) (lp' : Loop) : Book R lp' (A.putObj (R + 1) (.loop lp')) :=
  ⟨World.putObj_heap_same (Array.getElem?_eq_some_iff.1 h.lp).1, (World.putObj_heap_other (by omega)).trans h.marks⟩
def lpOf (fn : FuncId) (tmps : Array Value) (ps : Array Tmp) (assign body : Code) (R : Nat) (st : LoopState) (pe : Option Code) : Loop := { state := st, pending := pe, fn, tmps, params := ps, assign, body, defers := R }

/-- How the body of a round may be left: with the loop's two blocks as they were. -/
def bookPost {α : Type} (R : Nat) (lp : Loop) (I : List α → World → Prop) (Ix : Code → List α → World → Prop) (xs : List α) : Exit → Act → World → Prop
  | .normal, _, W' => Book R lp W' ∧ I xs W'
  | .ret, _, W' => Book R lp W' ∧ Ix .ret xs W'
  | .exit id, _, W' => Book R lp W' ∧ Ix (.exit id) xs W'
  | .goto t, _, W' => Book R lp W' ∧ Ix (.goto t) xs W'
  | .panic _, _, _ => False
  | .outgrown, _, _ => False

theorem wpIn_range_plain {α : Type} {g : Operand} {ps : Array Tmp} {assign body : Code} {Q : Exit → Act → World → Prop} {a : Act} {w : World}
    (hro : F.round = none) (h1 : 1 ≤ n) {gf : Nat} {lb : Array Value} (hg : a.eval g = .func (.func gf) #[] lb) (hFg : F.fn gf) (eg : ∀ args w, (callFunc gf args).run P w = .ok (.enter gf args) w)
    {encs : α → Array Value} {S Sp : List α → Prop} {N : List α → α → Prop} {w0 : World} (hseq : SeqPlain F (n - 1) P gf lb encs S Sp N w0)
    (hb0 : Below w0.heap.size w0 w) (hps : ∀ x, (encs x).size = ps.size)
    (I : List α → World → Prop) (Ix : Code → List α → World → Prop) (hI : Calm w.heap.size I) (hIx : ∀ c, Calm w.heap.size (Ix c)) (h0 : I [] w) (a₁ : α → Act)
    (hassign : ∀ (l : Nat) (x : α) (W : World) (K : Act → World → Prop), K (a₁ x) W → assign.wpIn (F.inRound l) (n - 1 - 1) P (Exit.then K (fun _ _ _ => False)) { tmps := (ps.zip (encs x)).foldl (fun t (p, v) => t.setIfInBounds p v) a.tmps, defers := [] } W)
    (hbody : ∀ (l : Nat) (pre : List α) (x : α) (W : World), I pre W → N pre x → ∀ lp, Book w.heap.size lp W → body.wpIn (F.inRound l) (n - 1 - 1) P (bookPost w.heap.size lp I Ix (pre ++ [x])) (a₁ x) W)
    (hdone : ∀ (D : Nat) (xs : List α) (W : World), w.heap.size ≤ D → S xs → I xs W → W.heap[D]? = some (.deferred (some [])) → Q .normal { a with defers := { target := .collected D, args := #[] } :: a.defers } W)
    (hstop : ∀ (D : Nat) (c : Code) (pre : List α) (W : World), w.heap.size ≤ D → Sp pre → Ix c pre W → W.heap[D]? = some (.deferred (some [])) → c.wpIn F n P Q { a with defers := { target := .collected D, args := #[] } :: a.defers } W) :
    (Code.rangeFunc g ps assign body).wpIn F n P Q a w := by
  obtain ⟨R, hR⟩ : ∃ R, w.heap.size = R := ⟨_, rfl⟩
  rw [hR] at hI hIx hdone hstop hbody
  refine wpIn_rangeFunc fun fn hfn => ?_
  have hlaid : ∃ W1, (Instr.enterLoop fn a.tmps ps assign body F.round).run P w = .ok (R + 1, [{ target := .collected R, args := #[] }]) W1 ∧ Book R (lpOf fn a.tmps ps assign body R .ready none) W1 ∧ I [] W1 ∧ Below w0.heap.size w0 W1 ∧ R + 2 ≤ W1.heap.size := by
    refine ⟨_, by rw [hro]; exact run_enterLoop_outer _ _ _ _ _ |>.trans (by rw [hR]), ⟨?_, ?_⟩, hI.alloc _ (hI.alloc _ h0), hb0.trans ((((Below.refl _ w).alloc (Nat.le_refl _) _).alloc (by simp) _).mono hb0.size), by simp [hR]⟩
    · have := World.alloc_heap_new (w.alloc (.deferred (some []))) (.loop (lpOf fn a.tmps ps assign body R .ready none))
      rw [World.size_alloc, hR] at this
      exact this
    · have := World.alloc_heap_new w (.deferred (some []))
      rw [hR] at this
      exact (Below.heap_alloc _ _ _ (by simp [hR])).trans this
  obtain ⟨W1, hent, hB1, hI1, hb1, hs1⟩ := hlaid
  refine ⟨R + 1, _, W1, { target := .fn (.func gf) lb, args := #[.func (.yield (R + 1)) #[] #[]] }, W1, gf, #[.func (.yield (R + 1)) #[] #[]] ++ lb, W1, hent, by simp only [resolve, hg]; simp [go_sem], fun f' hf' => by simp [Target.leads] at hf'; subst hf'; exact hFg, by simp [invoke, go_sem, eg], fun _ => h1, ?_⟩
  refine (hseq (R + 1) (fun pre A => I pre A ∧ Book R (lpOf fn a.tmps ps assign body R .ready none) A) (fun pre A => ∃ c, Ix c pre A ∧ Book R (lpOf fn a.tmps ps assign body R .done (some c)) A) W1 hb1
    ?round ⟨hI1, hB1⟩).mono ?after
  case after =>
    rintro e B ⟨⟨v, rfl⟩, h | h⟩
    · obtain ⟨xs, hS, hi, hk⟩ := h
      exact ⟨none, _, run_endLoop hk.lp (by intro e; cases e), hdone R xs _ (Nat.le_refl _) hS (hI.putObj _ hi (by omega) hk.lp rfl) ((hk.turn _).marks)⟩
    · obtain ⟨pre, hS, c, hi, hk⟩ := h
      exact ⟨some c, _, run_endLoop hk.lp (by intro e; cases e), hstop R c pre _ (Nat.le_refl _) hS ((hIx c).putObj _ hi (by omega) hk.lp rfl) ((hk.turn _).marks)⟩
  case round =>
    rintro pre x A ⟨hi, hk⟩ hlen
    refine ⟨fn, _, assign, body, run_yield hk.lp (hps x), roundIn_of_wpIn hfn (hassign _ x A _ ⟨_, run_beginRound hk.lp rfl, ?_⟩)⟩
    have hk2 := hk.turn (lpOf fn a.tmps ps assign body R .busy none)
    have hi2 := hI.putObj (.loop (lpOf fn a.tmps ps assign body R .busy none)) hi (by omega) hk.lp rfl
    have hleave : ∀ {C : World} (c : Code), Book R (lpOf fn a.tmps ps assign body R .busy none) C → Ix c (pre ++ [x]) C →
        ∃ v B, (Instr.endRound (R + 1) (some c)).run P C = .ok v B ∧ ((Ending.returned v = .returned (.bool true) ∧ (I (pre ++ [x]) B ∧ Book R (lpOf fn a.tmps ps assign body R .ready none) B)) ∨ (Ending.returned v = .returned (.bool false) ∧ ∃ c, Ix c (pre ++ [x]) B ∧ Book R (lpOf fn a.tmps ps assign body R .done (some c)) B)) := fun c h hx =>
      ⟨_, _, run_endRound (some c) h.lp, .inr ⟨rfl, c, (hIx c).putObj _ hx (by omega) h.lp rfl, h.turn _⟩⟩
    refine wpIn_mono (hbody (R + 1) pre x _ hi2 hlen _ hk2) ?_
    intro e a3 C hp
    cases e with
    | normal =>
      obtain ⟨hk3, hi3⟩ := hp
      exact ⟨_, _, run_endRound none hk3.lp, .inl ⟨rfl, ⟨hI.putObj _ hi3 (by omega) hk3.lp rfl, hk3.turn _⟩⟩⟩
    | ret => exact hleave .ret hp.1 hp.2
    | exit id => exact hleave (.exit id) hp.1 hp.2
    | goto t => exact hleave (.goto t) hp.1 hp.2
    | panic ch => exact hp.elim
    | outgrown => exact hp.elim
end Go.Grommet
end
section
/- Package blocks: places, as a plain iterator. -/
namespace Go.Proofs.YtmamgfjnphdecaaDoor
open Go.RowKit Go.Grommet Go.Shelf
attribute [local go_sem] Oper.semAt_some

set_option maxRecDepth 100000 in
set_option maxHeartbeats 400000 in
theorem places_plain (d : Nat) (w : World) (pp fr N : Nat) (hpp : w.heap[pp]? = some (.cells #[.int .i64 (fr : Int)] 3 (0, 0))) (hN : fr + N = 12) :
    SeqPlain Fence.wide d Tryd.prog 68 #[.pointer (some ⟨pp, 0, none⟩)] (encP fr N) (fun ys => ys = List.finRange N) (fun ys => ∃ k, k < N ∧ ys = (List.finRange N).take (k + 1)) (fun pre x => pre.length = x.1) w := by
  intro l J Jx W hW hY h0
  have hbs := (Array.getElem?_eq_some_iff.1 hpp).1
  replace hpp := (hW.block pp hbs).trans hpp
  have HY := Lib.hid hY
  have HJ := Lib.hid h0
  clear hW hY h0 hbs
  refine callsIn_of_wp Tryd.func68 rfl trivial ?_ rfl
  simp only [Tryd.ntmps68, List.size_toArray, List.length_cons, List.length_nil, Nat.reduceAdd, Nat.reduceSub, Array.replicate_succ, Array.replicate_zero, List.push_toArray, List.append_toArray, List.nil_append, List.cons_append]
  have c1 : W.cell? ⟨pp, 0, none⟩ = some (.int .i64 (fr : Int)) := by simp [World.cell?, hpp]
  clear hpp
  gi_wp2_with fail
  gi_loopw [3] (fun p wr => ∃ k : Nat, k ≤ N ∧ p = .int .i64 ((fr + k : Nat) : Int) ∧ Hid (J ((List.finRange N).take k) wr)) (fun p _ => 12 - (intOf p).toNat)
  case atStart => exact ⟨0, Nat.zero_le _, rfl, HJ⟩
  case round =>
    obtain ⟨k, hk, rfl, hR⟩ := hrel
    clear HJ c1
    obtain ⟨A, eA⟩ : ∃ A, fr + k = A := ⟨_, rfl⟩
    by_cases hlt : k < N
    · have hN1 : Hid ((List.finRange N).take (k + 1) = (List.finRange N).take k ++ [⟨k, hlt⟩]) := Lib.hid (by
        rw [List.take_add_one]; simp [hlt])
      have hy0 := HY.out _ ⟨k, hlt⟩ wr hR.out (by simp; omega)
      unfold encP at hy0
      simp only at hy0
      rw [eA] at hy0 ⊢
      have hlt' : (A : Int) < 12 := by omega
      have wk1 : IntKind.i64.wrap ((A : Int) + 1) = (A : Int) + 1 := IntWalk.i64_in _ ⟨by omega, by omega⟩
      obtain ⟨fn, tmps, assign, body, hy, hR2⟩ := hy0
      clear hR
      gi_wp2_with fail
      refine ⟨fun h => (by cases h), ?_⟩
      refine hR2.mono ?_
      clear hR2 hy
      rintro e W' (⟨rfl, hJ'⟩ | ⟨rfl, hJx'⟩)
      · have HJ' := Lib.hid hJ'
        clear hJ'
        gi_wp2
        go_roundw
        case rel => exact ⟨k + 1, by omega, by rw [← Nat.add_assoc, eA]; go_num, Lib.hid (by rw [hN1.out]; exact HJ'.out)⟩
        case measure => simp [intOf]; omega
      · have HJ' := Lib.hid hJx'
        clear hJx'
        gi_wp2
        refine bodyPost_ret (results_none rfl _ _ _) rfl ?_
        exact ⟨⟨_, rfl⟩, .inr ⟨_, ⟨k, hlt, rfl⟩, by rw [hN1.out]; exact HJ'.out⟩⟩
    · obtain rfl : k = N := by omega
      rw [eA]
      have hge : ¬ ((A : Int) < 12) := by omega
      have HJ8 := Lib.hid (show J (List.finRange k) wr by have := hR.out; rwa [List.take_of_length_le (by simp)] at this)
      clear hR
      gi_wp2
      go_end0
      exact ⟨⟨_, rfl⟩, .inl HJ8.out⟩
end Go.Proofs.YtmamgfjnphdecaaDoor
end
section
/- Package blocks: Cut. -/
namespace Go.Proofs.YtmamgfjnphdecaaDoor
open Go.RowKit Go.Grommet Go.Shelf
attribute [local go_sem] Oper.semAt_some
set_option linter.unusedVariables false

theorem leaves_own {F : Fence} {n : Nat} {P : Program} {fn : Func} {tmps : Array Value} {R : Ending → World → Prop} {w0 w : World} {Ps : List Pr} {D : Nat} (hO : Grommet.Own w0 w Ps) (hs : ∀ P ∈ Ps, Solid P) (h0 : w0.heap.size ≤ D) (hD : w.heap[D]? = some (.deferred (some [])))
    (h : ∀ w', Grommet.Own w0 w' Ps → ∃ v, (results fn tmps).run P w' = .ok v w' ∧ R (.returned v) w') : LeavesInM F n P fn tmps R [{ target := .collected D, args := #[] }] .returning w := by
  refine ⟨by simp, .inl ⟨D, _, rfl, run_takeDeferred hD, ?_⟩⟩
  exact h _ (hO.beside hs h0 hD rfl (grownBy_putObj' w D _))
theorem Own.calm {w0 : World} {R : Nat} {β : Type} (Qs : β → List Pr) (hs : ∀ b, ∀ P ∈ Qs b, Solid P) (h0 : w0.heap.size ≤ R) : Go.Grommet.Calm R (fun (b : β) W => Grommet.Own w0 W (Qs b)) := by
  intro b W W' row h hg hr
  cases row with
  | none => exact h.quiet hg
  | some r =>
    obtain ⟨h1, o, h2, h3⟩ := hr r rfl
    exact h.beside (hs b) (by omega) h2 h3 hg
theorem objs_back {w0 w : World} {Ps : List Pr} {R : Nat} {lp : Loop} (h : Grommet.Own w0 w (Ps ++ [objP R (.deferred (some [])), objP (R + 1) (.loop lp)])) : Book R lp w ∧ Grommet.Own w0 w Ps := by
  refine ⟨⟨?_, ?_⟩, h.less⟩
  · obtain ⟨F, hF⟩ := h.get (Ps.length + 1) (by rw [List.getElem?_append_right (by omega)]; simp; rfl)
    exact hF.1
  · obtain ⟨F, hF⟩ := h.get Ps.length (by rw [List.getElem?_append_right (by omega)]; simp; rfl)
    exact hF.1
theorem box_last {w0 w : World} {Ps Qs : List Pr} {X : Nat} {T : TypeId} {v : Value} (h : Grommet.Own w0 w (Ps ++ boxP X T #[v] :: Qs)) : w.cell? ⟨X, 0, none⟩ = some v ∧ w.frozen? ⟨X, 0, none⟩ = false := by
  have := h.box Ps.length (by rw [List.getElem?_append_right (by omega)]; simp; rfl)
  simp [World.cell?, World.frozen?, this]
theorem box_put {w0 w : World} {Ps Qs : List Pr} {X : Nat} {T : TypeId} {v : Value} (h : Grommet.Own w0 w (Ps ++ boxP X T #[v] :: Qs)) (u : Value) : Grommet.Own w0 (w.setCell ⟨X, 0, none⟩ u) (Ps ++ boxP X T #[u] :: Qs) := by
  have := h.putBox Ps.length (by rw [List.getElem?_append_right (by omega)]; simp; rfl) 0 u
  rwa [List.set_append_right _ _ (Nat.le_refl _), Nat.sub_self] at this

set_option maxRecDepth 100000 in
set_option maxHeartbeats 2000000 in
theorem bmCut (XM k N : Nat) (Qs : Nat → List Pr) (w0 w : World) (h : Grommet.Own w0 w (Qs 0)) (hs : ∀ j, ∀ P ∈ Qs j, Solid P) (hN : k + N = 12)
    (HD : ∀ j, j < N → ∀ Rs wx, Grommet.Own w0 wx (Qs j ++ Rs) → Calls Tryd.prog 20 #[.pointer (some ⟨XM, 0, none⟩), .int .i64 ((k + j : Nat) : Int)] wx fun e w' => e = .returned (.int .i64 0) ∧ Grommet.Own w0 w' (Qs (j + 1) ++ Rs)) :
    Calls Tryd.prog 21 #[.pointer (some ⟨XM, 0, none⟩), .int .i64 (k : Int)] w fun e w' => e = .returned (.int .i64 0) ∧ Grommet.Own w0 w' (Qs N) := by
  have hO1 := h.addBox 32 #[.pointer (some ⟨XM, 0, none⟩)]
  have hO2 := hO1.addBox 33 #[.int .i64 0]
  have hO3 := hO2.addBox 3 #[.int .i64 (k : Int)]
  have hw0 := h.grown.size
  generalize hB : w.heap.size = B at *
  have z1 : (w.alloc (.cells #[.pointer (some ⟨XM, 0, none⟩)] 32)).heap.size = B + 1 := by simp [hB]
  have z2 : ((w.alloc (.cells #[.pointer (some ⟨XM, 0, none⟩)] 32)).alloc (.cells #[.int .i64 0] 33)).heap.size = B + 2 := by simp [hB]
  rw [z1] at hO2 hO3
  rw [z2] at hO3
  have c1 := (box_last (Ps := Qs 0) (Qs := []) hO1).1
  have c2 := box_last (Ps := Qs 0 ++ [boxP B 32 #[.pointer (some ⟨XM, 0, none⟩)]]) (Qs := []) hO2
  have c3 := box_last (Ps := Qs 0) (Qs := [boxP (B + 1) 33 #[.int .i64 0]]) (by rw [List.append_assoc] at hO2; exact hO2)
  have hO3 := Lib.hid hO3
  have HD := Lib.hid HD
  have hk0 : ¬ (k : Int) < 0 := by omega
  have hk1 : ¬ (12 : Int) < (k : Int) := by omega
  clear h hO1 hO2
  refine (callsIn_wide (n := 9)).1 ?_
  refine callsIn_of_wp_marks Tryd.func21 rfl trivial ?_ rfl
  simp only [Tryd.ntmps21, List.size_toArray, List.length_cons, List.length_nil, Nat.reduceAdd, Nat.reduceSub, Array.replicate_succ, Array.replicate_zero, List.push_toArray, List.append_toArray, List.nil_append, List.cons_append]
  gi_wp2_with fail
  refine ⟨trivial, (callsIn_wide.2 (bmPlaces _ k)).mono ?_⟩
  rintro e w2 ⟨rfl, hw2⟩
  rw [← hw2] at hO3
  rw [z2]
  have hz : w2.heap.size = B + 3 := by rw [hw2]; simp [z2]
  clear hw2 z1 z2 c1 c2 c3
  have hpp : w2.heap[B + 2]? = some (.cells #[.int .i64 (k : Int)] 3 (0, 0)) := hO3.out.box ((Qs 0).length + 2) (by rw [List.append_assoc, List.append_assoc, List.getElem?_append_right (by omega)]; simp)
  have hE : ∀ j (b1 : Value), Qs j ++ [boxP B 32 #[.pointer (some ⟨XM, 0, none⟩)], boxP (B + 1) 33 #[b1], boxP (B + 2) 3 #[.int .i64 (k : Int)]] = (Qs j ++ [boxP B 32 #[.pointer (some ⟨XM, 0, none⟩)]]) ++ boxP (B + 1) 33 #[b1] :: [boxP (B + 2) 3 #[.int .i64 (k : Int)]] := by intro j b1; simp
  have hsol : ∀ j (b1 : Value), ∀ P ∈ Qs j ++ [boxP B 32 #[.pointer (some ⟨XM, 0, none⟩)], boxP (B + 1) 33 #[b1], boxP (B + 2) 3 #[.int .i64 (k : Int)]], Solid P := by
    intro j b1 P hP
    rcases List.mem_append.1 hP with h | h
    · exact hs j P h
    · simp only [List.mem_cons, List.not_mem_nil, or_false] at h
      rcases h with rfl | rfl | rfl <;> exact solid_box _ _ _
  gi_wp2_with fail
  refine' wpIn_range_plain (α := Fin N) rfl (by omega) (gf := 68) (lb := #[.pointer (some ⟨B + 2, 0, none⟩)]) rfl trivial (enters_of Tryd.func68 (by kernel_rfl) rfl) (encs := encP k N)
    (places_plain 8 w2 (B + 2) k N hpp hN) (Below.refl _ _) (fun _ => rfl)
    (fun pre W => Grommet.Own w0 W (Qs pre.length ++ [boxP B 32 #[.pointer (some ⟨XM, 0, none⟩)], boxP (B + 1) 33 #[.int .i64 0], boxP (B + 2) 3 #[.int .i64 (k : Int)]])) (fun _ _ _ => False)
    (Own.calm (fun (pre : List (Fin N)) => Qs pre.length ++ [boxP B 32 #[.pointer (some ⟨XM, 0, none⟩)], boxP (B + 1) 33 #[.int .i64 0], boxP (B + 2) 3 #[.int .i64 (k : Int)]]) (fun b => hsol b.length _) (by omega)) (fun _ _ _ _ _ h => h.elim) (by simpa using hO3.out) _ ?assign ?body ?done ?stop
  case stop => intro _ _ _ _ _ _ h; exact h.elim
  case assign =>
    intro l x W K hK
    unfold encP
    gi_wp2
    exact hK
  case body =>
    rintro l pre ⟨i, hi⟩ W hL hlen lp hbk
    obtain rfl : pre.length = i := hlen
    replace hL : Grommet.Own w0 W (Qs pre.length ++ [boxP B 32 #[.pointer (some ⟨XM, 0, none⟩)], boxP (B + 1) 33 #[.int .i64 0], boxP (B + 2) 3 #[.int .i64 (k : Int)]]) := hL
    have c1 := (box_last (Ps := Qs pre.length) hL).1
    have hO2 := hL.withObjs (hsol _ _) (by omega) hbk.marks rfl hbk.lp rfl
    rw [List.append_assoc] at hO2
    have HDr := Lib.hid (HD.out _ hi _ _ hO2)
    clear hO2 hL
    gi_wp2_with fail
    refine ⟨trivial, (callsIn_wide.2 HDr.out).mono ?_⟩
    rintro e W' ⟨rfl, hO3⟩
    rw [← List.append_assoc] at hO3
    have hfin := Lib.hid (objs_back hO3)
    clear hO3 HDr
    gi_wp2
    exact ⟨hfin.out.1, by show Grommet.Own w0 W' (Qs (pre ++ [(⟨pre.length, hi⟩ : Fin N)]).length ++ _); rw [List.length_append]; exact hfin.out.2⟩
  case done =>
    rintro D ys W hD hys hL hK
    subst hys
    replace hL : Grommet.Own w0 W (Qs (List.finRange N).length ++ [boxP B 32 #[.pointer (some ⟨XM, 0, none⟩)], boxP (B + 1) 33 #[.int .i64 0], boxP (B + 2) 3 #[.int .i64 (k : Int)]]) := hL
    rw [List.length_finRange, hE] at hL
    obtain ⟨z1, z2⟩ := box_last hL
    have hput := Lib.hid (box_put hL (.int .i64 0))
    have hB1 := (Array.getElem?_eq_some_iff.1 hK).1
    have hK2 := Lib.hid (show (W.setCell ⟨B + 1, 0, none⟩ (.int .i64 0)).heap[D]? = some (.deferred (some [])) from ((grown_setCell W ⟨B + 1, 0, none⟩ (.int .i64 0)).block D hB1 (by simp; omega)).trans hK)
    clear hL hK
    gi_wp2
    refine leaves_own (Ps := (Qs N ++ [boxP B 32 #[.pointer (some ⟨XM, 0, none⟩)]]) ++ boxP (B + 1) 33 #[.int .i64 0] :: [boxP (B + 2) 3 #[.int .i64 (k : Int)]]) hput.out (by rw [← hE]; exact hsol _ _) (by omega) hK2.out ?_
    intro w' hw'
    have r2 := (box_last hw').1
    refine ⟨.int .i64 0, by simp [results, Tryd.results21, go_sem, r2], rfl, ?_⟩
    rw [← hE] at hw'
    exact hw'.less
end Go.Proofs.YtmamgfjnphdecaaDoor
end
section
/- Package blocks: List. -/
namespace Go.Grommet
open Go.RowKit
theorem solid_row (e s : Nat) (v : Value) (n : Nat) (xs : List Value) : Solid (rowP e s v n xs) := fun w F h =>
  ⟨fun i => v.ownBlock = some i, ⟨h.1, fun _ hi => hi, fun i hi => h.2.2 i (h.2.1 i hi)⟩, fun i hi => h.2.1 i hi, fun i hi => by obtain ⟨cur, hc⟩ := row_block h.1 i hi; exact ⟨_, hc, rfl⟩⟩
theorem Own.grows {w0 w w' : World} {Ps : List Pr} (h : Own w0 w Ps) (k : Nat) {e sz n n' : Nat} {v v' : Value} {xs ys : List Value} (hk : Ps[k]? = some (rowP e sz v n xs)) (hr : w'.ownsRow 0 e sz v' n' ys) (hg : w.grownBy w' v.ownBlock)
    (hb : ∀ g, v'.ownBlock = some g → v.ownBlock = some g ∨ w.heap.size ≤ g) : Own w0 w' (Ps.set k (rowP e sz v' n' ys)) := by
  obtain ⟨F, h1, h2⟩ := h.take k hk
  refine h2 _ _ ⟨fun i => v'.ownBlock = some i, ⟨hr, fun _ hi => hi, fun i hi => by obtain ⟨cur, hc⟩ := row_block hr i hi; exact (Array.getElem?_eq_some_iff.1 hc).1⟩, fun i hi => (hb i hi).imp (h1.2.1 i) id, Turn.of hg (fun i e => h1.2.1 i e)⟩
theorem Own.nilRow {w0 w : World} {Ps : List Pr} (h : Own w0 w Ps) (e size : Nat) : Own w0 w (Ps ++ [rowP e size (.slice none 0 0) 0 []]) :=
  h.add (F := fun _ => False) ⟨⟨by simp, .inl ⟨rfl, rfl⟩⟩, fun i hi => by simp [Value.ownBlock] at hi, fun _ h => h.elim⟩ (fun _ h => h.elim) (World.grownBy.refl _ _)
theorem Own.permute {w0 w : World} {Ps Qs : List Pr} (f : Nat → Nat) (h : Own w0 w Ps) (key : ∀ j, j < Qs.length → f j < Ps.length ∧ Qs[j]? = Ps[f j]?) (inj : ∀ i j, i < Qs.length → j < Qs.length → i ≠ j → f i ≠ f j) : Own w0 w Qs := by
  obtain ⟨Fs, h1, h2, h3, h4⟩ := h
  exact ⟨fun j => Fs (f j), fun k P hk => h1 _ P (by rw [← (key k (List.getElem?_eq_some_iff.1 hk).1).2]; exact hk), fun j k hj hk hne => h2 _ _ (key j hj).1 (key k hk).1 (inj j k hj hk hne), fun k hk => h3 _ (key k hk).1, h4⟩
end Go.Grommet
namespace Go.Proofs.YtmamgfjnphdecaaDoor
open Go.RowKit Go.Grommet Go.Shelf
attribute [local go_sem] Oper.semAt_some
set_option linter.unusedVariables false

def nzv (n : Nat) : Value := .int .i64 (n : Int)
theorem run_append_int (w : World) (base : Nat) (ty : TypeId) (v : Value) (k : Nat) (xs : List Value) (hown : w.ownsRow base 3 1 v k xs) (tmp : Nat) (y : Int) (ht : w.heap[tmp]? = some (.cells #[.int .i64 y] 3 (0, 0))) (hk : k ≤ 100000) (hb : base ≤ w.heap.size) :
    ∃ ad cap w', (Builtin.append_ #[51, 51] ty #[v, .slice (some ⟨tmp, 0, none⟩) 1 1]).run Tryd.prog w = .ok (.slice ad (k + 1) cap) w' ∧ w'.ownsRow base 3 1 (.slice ad (k + 1) cap) (k + 1) (xs ++ [.int .i64 y]) ∧ w.grownBy w' v.ownBlock ∧
      (∀ g, (Value.slice ad (k + 1) cap).ownBlock = some g → v.ownBlock = some g ∨ w.heap.size ≤ g) := by
  obtain ⟨i0, hi, hz0, hz1, hz2⟩ := info_parts infoInt
  obtain ⟨v', w', hr, h2, h3, h4⟩ := run_append_blk (P := Tryd.prog) w base 51 ty 3 i0 (.int .i64 0) 1 8 Tryd.underlying51 hi hz0 hz1 hz2 rfl (by decide) v k xs hown ⟨tmp, 0, none⟩ 1 1 [.int .i64 y] rfl (at_of_row ht).some (by intro u hu; simp at hu; subst hu; rfl) (by unfold maxLen; omega) (by omega) hb
  obtain ⟨ad', cap', rfl, _⟩ := row_slice h2
  exact ⟨ad', cap', w', hr, h2, h3, h4⟩
theorem wpListIn_app {F : Fence} {n : Nat} {w : World} {ops : Array Oper} {rest : List Oper} {o : Oper} {a : Act} {Q : Exit → Act → World → Prop} (hg : o.guard = none) (s x : Operand)
    (hop : o.op = Op.call { callee := Callee.builtin Builtin.append, args := #[s, x], argTypes := #[51, 51] }) (v : Value) (k : Nat) (xs : List Value) (hs : a.eval s = v) (hown : w.ownsRow 0 3 1 v k xs) (tmp : Nat) (y : Int) (hx : a.eval x = .slice (some ⟨tmp, 0, none⟩) 1 1)
    (ht : w.heap[tmp]? = some (.cells #[.int .i64 y] 3 (0, 0))) (hk : k ≤ 100000)
    (h : ∀ ad cap w', w'.ownsRow 0 3 1 (.slice ad (k + 1) cap) (k + 1) (xs ++ [.int .i64 y]) → w.grownBy w' v.ownBlock → (∀ g, (Value.slice ad (k + 1) cap).ownBlock = some g → v.ownBlock = some g ∨ w.heap.size ≤ g) → wpListIn F n Tryd.prog ops Q rest (a.put o.dst (.slice ad (k + 1) cap)) w') :
    wpListIn F n Tryd.prog ops Q (o :: rest) a w := by
  refine wpListIn_plain hg fun K hK' => ?_
  obtain ⟨ad', cap', w', hrun, r1, r2, r3⟩ := run_append_int w 0 o.type v k xs hown tmp y ht hk (Nat.zero_le _)
  unfold Oper.wpIn
  refine ⟨?_, ?_⟩
  · simp [Oper.about, hop, resolve, Target.leads, Sem.run_pure]
  · rw [Oper.semAt_plain F _ _ (by rw [hop]; intro c hc'; cases hc')]
    simp [execOp, hop, resolve, invoke, builtin, hs, hx, hrun, Result.andThen]
    exact hK' _ _ (h ad' cap' w' r1 r2 r3)
theorem lst_split (p : Nat → Nat) : lst p = (((List.range 12).map p).filter (· != 0)) ++ (if p 12 = 0 then [] else [p 12]) := by
  unfold lst
  rw [show (13 : Nat) = 12 + 1 from rfl, List.range_succ, List.map_append, List.filter_append]
  congr 1
  by_cases h : p 12 = 0
  · rw [if_pos h]; simp [h]
  · rw [if_neg h]; simp [h]
theorem fin_take (p : Nat → Nat) (n : Nat) : ((List.finRange n).map (fun x => p x.1)) = (List.range n).map p := by
  exact List.ext_getElem (by simp) (by intro i h1 h2; simp)

/-- The function's own variables, behind what there was. -/
def LP (Qs : List Pr) (B XM : Nat) (r1 v : Value) (n : Nat) (xs : List Value) : List Pr := Qs ++ [boxP B 32 #[.pointer (some ⟨XM, 0, none⟩)], boxP (B + 1) 51 #[r1], boxP (B + 2) 51 #[v], rowP 3 1 v n xs, boxP (B + 3) 3 #[.int .i64 0]]
theorem LP_at {Qs : List Pr} {B XM : Nat} {r1 v : Value} {n : Nat} {xs : List Value} (Rs : List Pr) : (LP Qs B XM r1 v n xs ++ Rs)[Qs.length]? = some (boxP B 32 #[.pointer (some ⟨XM, 0, none⟩)]) ∧ (LP Qs B XM r1 v n xs ++ Rs)[Qs.length + 1]? = some (boxP (B + 1) 51 #[r1]) ∧ (LP Qs B XM r1 v n xs ++ Rs)[Qs.length + 2]? = some (boxP (B + 2) 51 #[v]) ∧ (LP Qs B XM r1 v n xs ++ Rs)[Qs.length + 3]? = some (rowP 3 1 v n xs) ∧ (LP Qs B XM r1 v n xs ++ Rs)[Qs.length + 4]? = some (boxP (B + 3) 3 #[.int .i64 0]) := by
  unfold LP
  rw [List.append_assoc]
  refine ⟨?_, ?_, ?_, ?_, ?_⟩
  · rw [List.getElem?_append_right (Nat.le_refl _), Nat.sub_self]; rfl
  · rw [List.getElem?_append_right (by omega), show Qs.length + 1 - Qs.length = 1 from by omega]; rfl
  · rw [List.getElem?_append_right (by omega), show Qs.length + 2 - Qs.length = 2 from by omega]; rfl
  · rw [List.getElem?_append_right (by omega), show Qs.length + 3 - Qs.length = 3 from by omega]; rfl
  · rw [List.getElem?_append_right (by omega), show Qs.length + 4 - Qs.length = 4 from by omega]; rfl
theorem LP_m {w0 w : World} {Qs Rs : List Pr} {B XM : Nat} {r1 v : Value} {n : Nat} {xs : List Value} (h : Grommet.Own w0 w (LP Qs B XM r1 v n xs ++ Rs)) : w.cell? ⟨B, 0, none⟩ = some (.pointer (some ⟨XM, 0, none⟩)) := by
  have := h.box _ (LP_at Rs).1
  simp [World.cell?, this]
theorem LP_r {w0 w : World} {Qs Rs : List Pr} {B XM : Nat} {r1 v : Value} {n : Nat} {xs : List Value} (h : Grommet.Own w0 w (LP Qs B XM r1 v n xs ++ Rs)) : w.cell? ⟨B + 1, 0, none⟩ = some r1 ∧ w.frozen? ⟨B + 1, 0, none⟩ = false := by
  have := h.box _ (LP_at Rs).2.1
  simp [World.cell?, World.frozen?, this]
theorem LP_l {w0 w : World} {Qs Rs : List Pr} {B XM : Nat} {r1 v : Value} {n : Nat} {xs : List Value} (h : Grommet.Own w0 w (LP Qs B XM r1 v n xs ++ Rs)) : w.cell? ⟨B + 2, 0, none⟩ = some v ∧ w.frozen? ⟨B + 2, 0, none⟩ = false := by
  have := h.box _ (LP_at Rs).2.2.1
  simp [World.cell?, World.frozen?, this]
theorem LP_row {w0 w : World} {Qs Rs : List Pr} {B XM : Nat} {r1 v : Value} {n : Nat} {xs : List Value} (h : Grommet.Own w0 w (LP Qs B XM r1 v n xs ++ Rs)) : w.ownsRow 0 3 1 v n xs := h.row _ (LP_at Rs).2.2.2.1
theorem LP_set {Qs Rs : List Pr} {B XM : Nat} {r1 v : Value} {n : Nat} {xs : List Value} : (∀ u, (LP Qs B XM r1 v n xs ++ Rs).set (Qs.length + 1) (boxP (B + 1) 51 #[u]) = LP Qs B XM u v n xs ++ Rs) ∧ ∀ v' n' xs', ((LP Qs B XM r1 v n xs ++ Rs).set (Qs.length + 3) (rowP 3 1 v' n' xs')).set (Qs.length + 2) (boxP (B + 2) 51 #[v']) = LP Qs B XM r1 v' n' xs' ++ Rs := by
  unfold LP
  constructor
  · intro u
    rw [List.append_assoc, List.set_append_right _ _ (by omega), show Qs.length + 1 - Qs.length = 1 from by omega, List.append_assoc]; rfl
  · intro v' n' xs'
    rw [List.append_assoc, List.set_append_right _ _ (by omega), show Qs.length + 3 - Qs.length = 3 from by omega, List.set_append_right _ _ (by omega), show Qs.length + 2 - Qs.length = 2 from by omega, List.append_assoc]; rfl
theorem LP_put {w0 w : World} {Qs Rs : List Pr} {B XM : Nat} {r1 v : Value} {n : Nat} {xs : List Value} (h : Grommet.Own w0 w (LP Qs B XM r1 v n xs ++ Rs)) (u : Value) : Grommet.Own w0 (w.setCell ⟨B + 1, 0, none⟩ u) (LP Qs B XM u v n xs ++ Rs) := by
  have := h.putBox _ (LP_at Rs).2.1 0 u
  rw [← LP_set.1 u]; exact this
theorem LP_grow {w0 w w' : World} {Qs Rs : List Pr} {B XM : Nat} {r1 v v' : Value} {n n' : Nat} {xs ys : List Value} (h : Grommet.Own w0 w (LP Qs B XM r1 v n xs ++ Rs)) (hr : w'.ownsRow 0 3 1 v' n' ys) (hg : w.grownBy w' v.ownBlock)
    (hb : ∀ g, v'.ownBlock = some g → v.ownBlock = some g ∨ w.heap.size ≤ g) : Grommet.Own w0 (w'.setCell ⟨B + 2, 0, none⟩ v') (LP Qs B XM r1 v' n' ys ++ Rs) := by
  have h2 := (h.grows _ (LP_at Rs).2.2.2.1 hr hg hb).putBox (Qs.length + 2) (by rw [List.getElem?_set_ne (by omega)]; exact (LP_at Rs).2.2.1) 0 v'
  rw [← LP_set.2 v' n' ys]; exact h2
theorem LP_l' {w0 w w' : World} {Qs Rs : List Pr} {B XM : Nat} {r1 v v' : Value} {n n' : Nat} {xs ys : List Value} (h : Grommet.Own w0 w (LP Qs B XM r1 v n xs ++ Rs)) (hr : w'.ownsRow 0 3 1 v' n' ys) (hg : w.grownBy w' v.ownBlock)
    (hb : ∀ g, v'.ownBlock = some g → v.ownBlock = some g ∨ w.heap.size ≤ g) : w'.cell? ⟨B + 2, 0, none⟩ = some v ∧ w'.frozen? ⟨B + 2, 0, none⟩ = false := by
  have h2 := (h.grows _ (LP_at Rs).2.2.2.1 hr hg hb).box (Qs.length + 2) (by rw [List.getElem?_set_ne (by omega)]; exact (LP_at Rs).2.2.1)
  simp [World.cell?, World.frozen?, h2]
theorem LP_solid {Qs : List Pr} (hs : ∀ P ∈ Qs, Solid P) (B XM : Nat) (r1 v : Value) (n : Nat) (xs : List Value) : ∀ P ∈ LP Qs B XM r1 v n xs, Solid P := by
  intro P hP
  rcases List.mem_append.1 hP with h | h
  · exact hs P h
  · simp only [List.mem_cons, List.not_mem_nil, or_false] at h
    rcases h with rfl | rfl | rfl | rfl | rfl
    · exact solid_box _ _ _
    · exact solid_box _ _ _
    · exact solid_box _ _ _
    · exact solid_row _ _ _ _ _
    · exact solid_box _ _ _
theorem LP_out {w0 w : World} {Qs Rs : List Pr} {B XM : Nat} {r1 v : Value} {n : Nat} {xs : List Value} (h : Grommet.Own w0 w (LP Qs B XM r1 v n xs ++ Rs)) : Grommet.Own w0 w (Qs ++ [rowP 3 1 v n xs]) := by
  refine h.permute (fun j => if j < Qs.length then j else Qs.length + 3) (fun j hj => ?_) (fun i j hi hj hne => ?_)
  · rw [List.length_append] at hj
    simp only [List.length_cons, List.length_nil] at hj
    have h4 := (LP_at (Qs := Qs) (B := B) (XM := XM) (r1 := r1) (v := v) (n := n) (xs := xs) Rs).2.2.2.1
    by_cases e : j < Qs.length
    · rw [if_pos e]
      refine ⟨by unfold LP; simp; omega, ?_⟩
      unfold LP
      rw [List.append_assoc, List.getElem?_append_left e, List.getElem?_append_left e]
    · rw [if_neg e]
      refine ⟨(List.getElem?_eq_some_iff.1 h4).1, ?_⟩
      rw [h4, show j = Qs.length from by omega, List.getElem?_append_right (Nat.le_refl _), Nat.sub_self]; rfl
  · rw [List.length_append] at hi hj
    simp only [List.length_cons, List.length_nil] at hi hj
    split <;> split <;> omega

theorem _root_.Go.Grommet.Own.withObj' {w0 w : World} {Ps : List Pr} (h : Grommet.Own w0 w Ps) (hs : ∀ P ∈ Ps, Solid P) {r : Nat} (h0 : w0.heap.size ≤ r) {o : Obj} (ho : w.heap[r]? = some o) (hl : isLoop o = true) : Grommet.Own w0 w (Ps ++ [objP r o]) := by
  obtain ⟨Fs, h1, h2, h3, h4⟩ := h
  have hx : ∀ k, ∃ G : Nat → Prop, (∀ i, G i → Fs k i) ∧ (∀ P, Ps[k]? = some P → P.holds w G) ∧ (k < Ps.length → ∀ i, G i → ∃ o, w.heap[i]? = some o ∧ isLoop o = false) := by
    intro k
    by_cases hk : k < Ps.length
    · obtain ⟨G, g1, g2, g3⟩ := hs Ps[k] (List.getElem_mem hk) w (Fs k) (h1 k _ (List.getElem?_eq_getElem hk))
      exact ⟨G, g2, fun P hP => by rw [List.getElem?_eq_getElem hk] at hP; cases hP; exact g1, fun _ => g3⟩
    · exact ⟨Fs k, fun _ h => h, fun P hP => h1 k P hP, fun h => absurd h hk⟩
  obtain ⟨G, hG⟩ := Classical.axiomOfChoice hx
  have off : ∀ k, k < Ps.length → ∀ i, G k i → i ≠ r := by
    intro k hk i hi e
    obtain ⟨q, hq, hql⟩ := (hG k).2.2 hk i hi
    subst e; rw [ho] at hq; cases hq; rw [hl] at hql; cases hql
  obtain ⟨K, hK⟩ : ∃ K : Nat → Nat → Prop, ∀ k i, K k i ↔ if k < Ps.length then G k i else i = r := ⟨fun k i => if k < Ps.length then G k i else i = r, fun _ _ => Iff.rfl⟩
  have hlen : (Ps ++ [objP r o]).length = Ps.length + 1 := by simp
  refine ⟨K, fun k P hP => ?_, fun j k hj hk hne i hi hi' => ?_, fun k hk i hi => ?_, h4⟩
  · have hkl := (List.getElem?_eq_some_iff.1 hP).1
    rw [hlen] at hkl
    by_cases hk : k < Ps.length
    · rw [List.getElem?_append_left hk] at hP
      have e : K k = G k := by funext i; rw [hK k i, if_pos hk]
      rw [e]
      exact (hG k).2.1 P hP
    · obtain rfl : k = Ps.length := by omega
      rw [List.getElem?_append_right (by omega), Nat.sub_self] at hP
      cases hP
      exact ⟨ho, by rw [hK, if_neg hk], fun i hi => by rw [hK, if_neg hk] at hi; subst hi; exact (Array.getElem?_eq_some_iff.1 ho).1⟩
  · rw [hlen] at hj hk
    rw [hK] at hi hi'
    by_cases a : j < Ps.length
    · rw [if_pos a] at hi
      have := off j a i hi
      by_cases b : k < Ps.length
      · rw [if_pos b] at hi'; exact h2 j k a b hne i ((hG j).1 i hi) ((hG k).1 i hi')
      · rw [if_neg b] at hi'; omega
    · rw [if_neg a] at hi
      by_cases b : k < Ps.length
      · rw [if_pos b] at hi'
        have := off k b i hi'
        omega
      · omega
  · rw [hlen] at hk
    rw [hK] at hi
    by_cases a : k < Ps.length
    · rw [if_pos a] at hi; exact h3 k a i ((hG k).1 i hi)
    · rw [if_neg a] at hi; omega
theorem obj_last {w0 w : World} {Ps : List Pr} {R : Nat} {o : Obj} (h : Grommet.Own w0 w (Ps ++ [objP R o])) : w.heap[R]? = some o := by
  obtain ⟨F, hF⟩ := h.get Ps.length (by rw [List.getElem?_append_right (Nat.le_refl _), Nat.sub_self]; rfl)
  exact hF.1
/-- What the last region reads. -/
structure LS (XM g a b c n B : Nat) (w : World) : Prop where
  bm : BM XM g a b c n w
  box : w.heap[B]? = some (.cells #[.pointer (some ⟨XM, 0, none⟩)] 32 (0, 0))
theorem LS.grown {XM g a b c n B : Nat} {w w' : World} (h : LS XM g a b c n B w) (hg : w.grownBy w' none) : LS XM g a b c n B w' := ⟨h.bm.grown hg, (hg.block _ (Array.getElem?_eq_some_iff.1 h.box).1 (by simp)).trans h.box⟩
theorem LS.cells {XM g a b c n B : Nat} {w : World} (h : LS XM g a b c n B w) : w.cell? ⟨B, 0, none⟩ = some (.pointer (some ⟨XM, 0, none⟩)) ∧ w.cell? ⟨XM, 0, none⟩ = some (.pointer (some ⟨g, 0, none⟩)) ∧ w.cell? ⟨XM, 1, none⟩ = some (.int .i64 (a : Int)) ∧ w.cell? ⟨XM, 2, none⟩ = some (.int .i64 (b : Int)) ∧ w.cell? ⟨XM, 3, none⟩ = some (.int .i64 (c : Int)) ∧ w.cell? ⟨XM, 4, none⟩ = some (.int .i64 (n : Int)) :=
  ⟨by simp [World.cell?, h.box], h.bm.cells⟩

/-- What List's rounds keep. -/
def LI (w0 : World) (Qs : List Pr) (B XM : Nat) (p : Nat → Nat) (pre : List (Fin 12)) (W : World) : Prop :=
  ∃ ad n cp, n = ((pre.map (fun x => p x.1)).filter (· != 0)).length ∧ Grommet.Own w0 W (LP Qs B XM (.slice none 0 0) (.slice ad n cp) n ((((pre.map (fun x => p x.1)).filter (· != 0))).map nzv))
theorem LI.calm {w0 : World} {Qs : List Pr} (hs : ∀ P ∈ Qs, Solid P) (B XM : Nat) (p : Nat → Nat) {R : Nat} (h0 : w0.heap.size ≤ R) : Go.Grommet.Calm R (LI w0 Qs B XM p) := by
  rintro pre W W' row ⟨ad, n, cp, hn, h⟩ hg hr
  exact ⟨ad, n, cp, hn, Own.calm (β := Unit) (fun _ => LP Qs B XM (.slice none 0 0) (.slice ad n cp) n ((((pre.map (fun x => p x.1)).filter (· != 0))).map nzv)) (fun _ => LP_solid hs _ _ _ _ _ _) h0 () W W' row h hg hr⟩
theorem LI.zero {w0 W : World} {Qs : List Pr} {B XM : Nat} {p : Nat → Nat} {pre : List (Fin 12)} {x : Fin 12} (h : LI w0 Qs B XM p pre W) (hx : p x.1 = 0) : LI w0 Qs B XM p (pre ++ [x]) W := by
  obtain ⟨ad, n, cp, hn, h⟩ := h
  have e : ((pre ++ [x]).map (fun x => p x.1)).filter (· != 0) = (pre.map (fun x => p x.1)).filter (· != 0) := by rw [List.map_append, List.filter_append]; simp [hx]
  exact ⟨ad, n, cp, by rw [e]; exact hn, by rw [e]; exact h⟩

set_option maxRecDepth 100000 in
set_option maxHeartbeats 2000000 in
theorem bmList_zero (XM g a b c n0 : Nat) (p : Nat → Nat) (f0 f1 f2 f3 f4 f5 f6 f7 f8 f9 : Nat) (Qs : List Pr) (km : Nat) (w0 w : World) (h : Grommet.Own w0 w Qs) (hs : ∀ P ∈ Qs, Solid P) (hm : Qs[km]? = some (bmP XM g a b c n0)) (h8 : f8 = p 12) (h8z : f8 = 0) (h8l : f8 ≤ 1000000)
    (HA : ∀ (j : Nat), j < 12 → ∀ Rs wx, Grommet.Own w0 wx (Qs ++ Rs) → Calls Tryd.prog 14 #[.pointer (some ⟨XM, 0, none⟩), .int .i64 (j : Int)] wx fun e w' => e = .returned (.tuple #[.int .i64 (p j : Int), .int .i64 0]) ∧ Grommet.Own w0 w' (Qs ++ Rs))
    (HG : ∀ Rs wx, Grommet.Own w0 wx (Qs ++ Rs) → Calls Tryd.prog 33 #[.pointer (some ⟨g, 0, none⟩), gv (a : Int) (b : Int) (c : Int), .int .i64 (n0 : Int)] wx fun e w' => e = .returned (.tuple #[nv f0 f1 f2 f3 f4 f5 f6 f7 f8 f9, .int .i64 0]) ∧ Grommet.Own w0 w' (Qs ++ Rs)) :
    Calls Tryd.prog 22 #[.pointer (some ⟨XM, 0, none⟩)] w fun e w' => ∃ ad cp m, e = .returned (.slice ad m cp) ∧ m = (lst p).length ∧ Grommet.Own w0 w' (Qs ++ [rowP 3 1 (.slice ad m cp) m ((lst p).map nzv)]) := by
  have hO1 := h.addBox 32 #[.pointer (some ⟨XM, 0, none⟩)]
  have hO2 := hO1.addBox 51 #[.slice none 0 0]
  have hO3 := (hO2.addBox 51 #[.slice none 0 0]).nilRow 3 1
  have hO4 := hO3.addBox 3 #[.int .i64 0]
  have hw0 := h.grown.size
  generalize hB : w.heap.size = B at *
  have z1 : (w.alloc (.cells #[.pointer (some ⟨XM, 0, none⟩)] 32)).heap.size = B + 1 := by simp [hB]
  have z2 : ((w.alloc (.cells #[.pointer (some ⟨XM, 0, none⟩)] 32)).alloc (.cells #[.slice none 0 0] 51)).heap.size = B + 2 := by simp [hB]
  have z3 : (((w.alloc (.cells #[.pointer (some ⟨XM, 0, none⟩)] 32)).alloc (.cells #[.slice none 0 0] 51)).alloc (.cells #[.slice none 0 0] 51)).heap.size = B + 3 := by simp [hB]
  rw [z1, z2, z3] at hO4
  have hO4 : Hid (Grommet.Own w0 _ (LP Qs B XM (.slice none 0 0) (.slice none 0 0) 0 [])) := Lib.hid (by unfold LP; simp only [List.append_assoc, List.cons_append, List.nil_append] at hO4; exact hO4)
  have HA := Lib.hid HA
  have HG := Lib.hid HG
  have HB := Lib.hid (show ∀ wx Rs, Grommet.Own w0 wx (Qs ++ Rs) → BM XM g a b c n0 wx from fun wx Rs hO => BM.of (k := km) hO (app_old hm))
  have HLST0 := Lib.hid (lst_split p)
  have H8 : Hid (p 12 = 0) := Lib.hid (by omega)
  have HE : Hid (((f8 : Int) != 0) = false) := Lib.hid (by simp <;> omega)
  have h8l := Lib.hid h8l
  have H9 := Lib.hid h8
  clear h hO1 hO2 hO3 hm h8 h8z
  refine (callsIn_wide (n := 9)).1 ?_
  refine callsIn_of_wp_marks Tryd.func22 rfl trivial ?_ rfl
  simp only [Tryd.ntmps22, List.size_toArray, List.length_cons, List.length_nil, Nat.reduceAdd, Nat.reduceSub, Array.replicate_succ, Array.replicate_zero, List.push_toArray, List.append_toArray, List.nil_append, List.cons_append]
  gi_wp2_with fail
  refine ⟨trivial, (callsIn_wide.2 (bmPlaces _ 0)).mono ?_⟩
  rintro e w2 ⟨rfl, hw2⟩
  rw [← hw2] at hO4
  rw [z3]
  have hz : w2.heap.size = B + 4 := by rw [hw2]; simp [z3]
  clear hw2 z1 z2 z3
  have hpp : w2.heap[B + 3]? = some (.cells #[.int .i64 ((0 : Nat) : Int)] 3 (0, 0)) := hO4.out.box _ (by have := (LP_at (Qs := Qs) (B := B) (XM := XM) (r1 := .slice none 0 0) (v := .slice none 0 0) (n := 0) (xs := []) []).2.2.2.2; rw [List.append_nil] at this; exact this)
  gi_wp2_with fail
  refine' wpIn_range_plain (α := Fin 12) rfl (by omega) (gf := 68) (lb := #[.pointer (some ⟨B + 3, 0, none⟩)]) rfl trivial (enters_of Tryd.func68 (by kernel_rfl) rfl) (encs := encP 0 12)
    (places_plain 8 w2 (B + 3) 0 12 hpp rfl) (Below.refl _ _) (fun _ => rfl)
    (LI w0 Qs B XM p) (fun _ _ _ => False) (LI.calm hs B XM p (by omega)) (fun _ _ _ _ _ h => h.elim) ⟨_, _, _, rfl, hO4.out⟩ _ ?assign ?body ?done ?stop
  case stop => intro _ _ _ _ _ _ h; exact h.elim
  case assign =>
    intro l x W K hK
    unfold encP
    gi_wp2
    exact hK
  case body =>
    rintro l pre ⟨i, hi⟩ W hL hlen lp hbk
    replace hlen : pre.length = i := hlen
    obtain ⟨ad, n, cp, hn, hL⟩ := hL
    have hO2 := hL.withObjs (LP_solid hs _ _ _ _ _ _) (by omega) hbk.marks rfl hbk.lp rfl
    have c1 := LP_m hO2
    have hn12 : n ≤ 12 := by
      rw [hn]
      refine Nat.le_trans (List.length_filter_le _ _) ?_
      rw [List.length_map]; omega
    have hcast : ((0 + i : Nat) : Int) = (i : Int) := by omega
    unfold LP at hO2
    rw [List.append_assoc] at hO2
    have HAt := Lib.hid (HA.out i hi _ _ hO2)
    have Hn := Lib.hid hn
    clear hO2 hL hn
    obtain ⟨V, hV⟩ : ∃ V, p i = V := ⟨_, rfl⟩
    have HP : Hid (((pre ++ [(⟨i, hi⟩ : Fin 12)]).map (fun x => p x.1)).filter (· != 0) = (pre.map (fun x => p x.1)).filter (· != 0) ++ (if V = 0 then [] else [V])) := Lib.hid (by
      rw [List.map_append, List.filter_append, ← hV]
      congr 1
      by_cases e : p i = 0
      · rw [if_pos e]; simp [e]
      · rw [if_neg e]; simp [e])
    rw [hV] at HAt
    clear hV
    clear hcast
    by_cases hV0 : V = 0
    · have x0 : ((V : Int) != 0) = false := by simp [hV0]
      gi_wp2_with fail
      refine ⟨trivial, (callsIn_wide.2 HAt.out).mono ?_⟩
      rintro e W' ⟨rfl, hO3⟩
      rw [← List.append_assoc] at hO3
      have hb := objs_back hO3
      have hfin : Hid (Book w2.heap.size lp W' ∧ LI w0 Qs B XM p (pre ++ [(⟨i, hi⟩ : Fin 12)]) W') := Lib.hid ⟨hb.1, ad, n, cp, by
        rw [HP.out, if_pos hV0, List.append_nil]; exact Hn.out, by
        rw [HP.out, if_pos hV0, List.append_nil]; exact hb.2⟩
      clear hO3 HAt hb c1
      gi_wp2
      exact hfin.out
    · have x0 : ((V : Int) != 0) = true := by simpa using hV0
      gi_wp2_with fail
      refine ⟨trivial, (callsIn_wide.2 HAt.out).mono ?_⟩
      rintro e W' ⟨rfl, hO3⟩
      have hO3 : Grommet.Own w0 W' (LP Qs B XM (.slice none 0 0) (.slice ad n cp) n ((((pre.map (fun x => p x.1)).filter (· != 0))).map nzv) ++ [objP w2.heap.size (.deferred (some [])), objP (w2.heap.size + 1) (.loop lp)]) := by unfold LP; rw [List.append_assoc]; exact hO3
      obtain ⟨y1, y2⟩ := LP_l hO3
      have hOh := Lib.hid hO3
      have hOq := hO3.quiet (World.grownBy_alloc W' (.cells #[.int .i64 (V : Int)] 3) none)
      have hrow := LP_row hOq
      have hgrow := Lib.hid (fun (w' : World) v' n' ys (hr : w'.ownsRow 0 3 1 v' n' ys) hg hb => (LP_grow hOq (v' := v') hr hg hb : Grommet.Own w0 _ _))
      have hthaw := Lib.hid (fun (w' : World) v' n' ys (hr : w'.ownsRow 0 3 1 v' n' ys) hg hb => (LP_l' hOq (v' := v') hr hg hb))
      clear HAt c1 hO3 hOh hOq
      gi_wp2_with (gi_at_builtin; refine wpListIn_app rfl _ _ rfl (.slice ad n cp) n _ rfl hrow W'.heap.size (V : Int) rfl (heap_alloc_new W' _) (by omega) ?_)
      intro ad2 cp2 W2 r1 r2 r3
      have q1 := hgrow.out W2 _ _ _ r1 r2 (by simpa using r3)
      obtain ⟨q2, q3⟩ := hthaw.out W2 _ _ _ r1 r2 (by simpa using r3)
      have hb := objs_back q1
      have hfin : Hid (Book w2.heap.size lp (W2.setCell ⟨B + 2, 0, none⟩ (.slice ad2 (n + 1) cp2)) ∧ LI w0 Qs B XM p (pre ++ [(⟨i, hi⟩ : Fin 12)]) (W2.setCell ⟨B + 2, 0, none⟩ (.slice ad2 (n + 1) cp2))) := Lib.hid ⟨hb.1, ad2, n + 1, cp2, by
        rw [HP.out, if_neg hV0, List.length_append, List.length_singleton, ← Hn.out], by
        rw [HP.out, if_neg hV0, List.map_append]; exact hb.2⟩
      clear q1 r1 r2 r3 hb hgrow hthaw hrow
      gi_wp2
      exact hfin.out
  case done =>
    rintro D ys W hD hys ⟨ad, n, cp, hn, hL⟩ hK
    subst hys
    rw [fin_take] at hn hL
    have hn12 : n ≤ 12 := by
      rw [hn]
      exact Nat.le_trans (List.length_filter_le _ _) (by simp)
    have HLEN0 := Lib.hid hn
    obtain ⟨xs, hxs⟩ : ∃ xs, (((List.range 12).map p).filter (· != 0)) = xs := ⟨_, rfl⟩
    rw [hxs] at hn hL HLST0
    replace HLEN0 : Hid (n = xs.length) := Lib.hid (by rw [← hxs]; exact HLEN0.out)
    have hDB : B + 4 ≤ D := by omega
    have hOD := hL.withObj' (LP_solid hs _ _ _ _ _ _) (by omega) hK rfl
    have HB1 := Lib.hid (show ∀ wx Rs, Grommet.Own w0 wx ((LP Qs B XM (.slice none 0 0) (.slice ad n cp) n (xs.map nzv) ++ [objP D (.deferred (some []))]) ++ Rs) → LS XM g a b c n0 B wx from fun wx Rs hO => ⟨HB.out wx _ (by unfold LP at hO; simp only [List.append_assoc] at hO; exact hO), by rw [List.append_assoc] at hO; exact hO.box _ (LP_at _).1⟩)
    have HG1 := Lib.hid (show ∀ wx Rs, Grommet.Own w0 wx ((LP Qs B XM (.slice none 0 0) (.slice ad n cp) n (xs.map nzv) ++ [objP D (.deferred (some []))]) ++ Rs) → Calls Tryd.prog 33 #[.pointer (some ⟨g, 0, none⟩), gv (a : Int) (b : Int) (c : Int), .int .i64 (n0 : Int)] wx fun e w' => e = .returned (.tuple #[nv f0 f1 f2 f3 f4 f5 f6 f7 f8 f9, .int .i64 0]) ∧ Grommet.Own w0 w' ((LP Qs B XM (.slice none 0 0) (.slice ad n cp) n (xs.map nzv) ++ [objP D (.deferred (some []))]) ++ Rs) from fun wx Rs hO => by
      unfold LP at hO ⊢
      simp only [List.append_assoc] at hO ⊢
      exact HG.out _ _ hO)
    have hS0 := Lib.hid ((HB1.out W [] (by rw [List.append_nil]; exact hOD)).grown (grown_drew (World.grownBy.refl W none)))
    have hOr := Lib.hid (show Grommet.Own w0 W.drew ((LP Qs B XM (.slice none 0 0) (.slice ad n cp) n (xs.map nzv) ++ [objP D (.deferred (some []))]) ++ []) by rw [List.append_nil]; exact hOD.quiet (grown_drew (World.grownBy.refl _ _)))
    have HSOL := Lib.hid (fun r1 v n xs => LP_solid hs B XM r1 v n xs)
    have hD2 := Lib.hid (show w0.heap.size ≤ D by omega)
    clear hL hK hOD HG HA HB hn hxs
    unfold nv gv at *
    gi_wp2_with fail
    refine wpIn_region_held' (S := fun w' => LS XM g a b c n0 B w') (by kernel_rfl) (hS0.out) (fun hS => ?_)
    refine wpAnyH_take (i := 0) (oi := { dst := some 26, op := Op.load 32 (Operand.tmp 1), type := 32, pos := "blocks.go:211", after := #[], guard := none }) (v := ?vli22r9o0) rfl (by kernel_rfl) (by kernel_rfl) (by kernel_rfl) (fun _ _ _ h => h) (Or.inl ⟨by rfl, ?hli22r9o0⟩) hS ?_
    case hli22r9o0 => (intro wx hx; obtain ⟨c5, c0, c1, c2, c3, c4⟩ := LS.cells hx; go_simp; (try with_reducible rfl))
    try simp only [Act.put, List.setIfInBounds_toArray, List.set_cons_zero, List.set_cons_succ]
    refine wpAnyH_take (i := 1) (oi := { dst := some 27, op := Op.nilCheck (Operand.tmp 26), type := 0, pos := "blocks.go:211", after := #[{ on := 0, ground := Ground.data }], guard := none }) (v := ?vli22r9o1) rfl (by kernel_rfl) (by kernel_rfl) (by kernel_rfl) (fun _ _ _ h => h) (Or.inl ⟨by rfl, ?hli22r9o1⟩) hS ?_
    case hli22r9o1 => (intro wx hx; skip; go_simp; (try with_reducible rfl))
    try simp only [Act.put, List.setIfInBounds_toArray, List.set_cons_zero, List.set_cons_succ]
    refine wpAnyH_take (i := 2) (oi := { dst := some 28, op := Op.fieldAddr 75 (Operand.tmp 27) 0, type := 0, pos := "blocks.go:211", after := #[{ on := 1, ground := Ground.data }], guard := none }) (v := ?vli22r9o2) rfl (by kernel_rfl) (by kernel_rfl) (by kernel_rfl) (fun _ _ _ h => h) (Or.inl ⟨by rfl, ?hli22r9o2⟩) hS ?_
    case hli22r9o2 => (intro wx hx; skip; go_simp; (try with_reducible rfl))
    try simp only [Act.put, List.setIfInBounds_toArray, List.set_cons_zero, List.set_cons_succ]
    refine wpAnyH_take (i := 3) (oi := { dst := some 29, op := Op.load 30 (Operand.tmp 28), type := 30, pos := "blocks.go:211", after := #[{ on := 2, ground := Ground.data }], guard := none }) (v := ?vli22r9o3) rfl (by kernel_rfl) (by kernel_rfl) (by kernel_rfl) (fun _ _ _ h => h) (Or.inl ⟨by rfl, ?hli22r9o3⟩) hS ?_
    case hli22r9o3 => (intro wx hx; obtain ⟨c5, c0, c1, c2, c3, c4⟩ := LS.cells hx; go_simp; (try with_reducible rfl))
    try simp only [Act.put, List.setIfInBounds_toArray, List.set_cons_zero, List.set_cons_succ]
    refine wpAnyH_take (i := 4) (oi := { dst := some 30, op := Op.load 32 (Operand.tmp 1), type := 32, pos := "blocks.go:211", after := #[], guard := none }) (v := ?vli22r9o4) rfl (by kernel_rfl) (by kernel_rfl) (by kernel_rfl) (fun _ _ _ h => h) (Or.inl ⟨by rfl, ?hli22r9o4⟩) hS ?_
    case hli22r9o4 => (intro wx hx; obtain ⟨c5, c0, c1, c2, c3, c4⟩ := LS.cells hx; go_simp; (try with_reducible rfl))
    try simp only [Act.put, List.setIfInBounds_toArray, List.set_cons_zero, List.set_cons_succ]
    refine wpAnyH_take (i := 5) (oi := { dst := some 31, op := Op.nilCheck (Operand.tmp 30), type := 0, pos := "blocks.go:211", after := #[{ on := 4, ground := Ground.data }], guard := none }) (v := ?vli22r9o5) rfl (by kernel_rfl) (by kernel_rfl) (by kernel_rfl) (fun _ _ _ h => h) (Or.inl ⟨by rfl, ?hli22r9o5⟩) hS ?_
    case hli22r9o5 => (intro wx hx; skip; go_simp; (try with_reducible rfl))
    try simp only [Act.put, List.setIfInBounds_toArray, List.set_cons_zero, List.set_cons_succ]
    refine wpAnyH_take (i := 6) (oi := { dst := some 32, op := Op.fieldAddr 75 (Operand.tmp 31) 1, type := 0, pos := "blocks.go:211", after := #[{ on := 5, ground := Ground.data }], guard := none }) (v := ?vli22r9o6) rfl (by kernel_rfl) (by kernel_rfl) (by kernel_rfl) (fun _ _ _ h => h) (Or.inl ⟨by rfl, ?hli22r9o6⟩) hS ?_
    case hli22r9o6 => (intro wx hx; skip; go_simp; (try with_reducible rfl))
    try simp only [Act.put, List.setIfInBounds_toArray, List.set_cons_zero, List.set_cons_succ]
    refine wpAnyH_take (i := 7) (oi := { dst := some 33, op := Op.load 25 (Operand.tmp 32), type := 25, pos := "blocks.go:211", after := #[{ on := 6, ground := Ground.data }], guard := none }) (v := ?vli22r9o7) rfl (by kernel_rfl) (by kernel_rfl) (by kernel_rfl) (fun _ _ _ h => h) (Or.inl ⟨by rfl, ?hli22r9o7⟩) hS ?_
    case hli22r9o7 => (intro wx hx; obtain ⟨c5, c0, c1, c2, c3, c4⟩ := LS.cells hx; go_simp; (try with_reducible rfl))
    try simp only [Act.put, List.setIfInBounds_toArray, List.set_cons_zero, List.set_cons_succ]
    refine wpAnyH_take (i := 8) (oi := { dst := some 34, op := Op.load 32 (Operand.tmp 1), type := 32, pos := "blocks.go:211", after := #[], guard := none }) (v := ?vli22r9o8) rfl (by kernel_rfl) (by kernel_rfl) (by kernel_rfl) (fun _ _ _ h => h) (Or.inl ⟨by rfl, ?hli22r9o8⟩) hS ?_
    case hli22r9o8 => (intro wx hx; obtain ⟨c5, c0, c1, c2, c3, c4⟩ := LS.cells hx; go_simp; (try with_reducible rfl))
    try simp only [Act.put, List.setIfInBounds_toArray, List.set_cons_zero, List.set_cons_succ]
    refine wpAnyH_take (i := 9) (oi := { dst := some 35, op := Op.nilCheck (Operand.tmp 34), type := 0, pos := "blocks.go:211", after := #[{ on := 8, ground := Ground.data }], guard := none }) (v := ?vli22r9o9) rfl (by kernel_rfl) (by kernel_rfl) (by kernel_rfl) (fun _ _ _ h => h) (Or.inl ⟨by rfl, ?hli22r9o9⟩) hS ?_
    case hli22r9o9 => (intro wx hx; skip; go_simp; (try with_reducible rfl))
    try simp only [Act.put, List.setIfInBounds_toArray, List.set_cons_zero, List.set_cons_succ]
    refine wpAnyH_take (i := 10) (oi := { dst := some 36, op := Op.fieldAddr 75 (Operand.tmp 35) 2, type := 0, pos := "blocks.go:211", after := #[{ on := 9, ground := Ground.data }], guard := none }) (v := ?vli22r9o10) rfl (by kernel_rfl) (by kernel_rfl) (by kernel_rfl) (fun _ _ _ h => h) (Or.inl ⟨by rfl, ?hli22r9o10⟩) hS ?_
    case hli22r9o10 => (intro wx hx; skip; go_simp; (try with_reducible rfl))
    try simp only [Act.put, List.setIfInBounds_toArray, List.set_cons_zero, List.set_cons_succ]
    refine wpAnyH_take (i := 11) (oi := { dst := some 37, op := Op.load 3 (Operand.tmp 36), type := 3, pos := "blocks.go:211", after := #[{ on := 10, ground := Ground.data }], guard := none }) (v := ?vli22r9o11) rfl (by kernel_rfl) (by kernel_rfl) (by kernel_rfl) (fun _ _ _ h => h) (Or.inl ⟨by rfl, ?hli22r9o11⟩) hS ?_
    case hli22r9o11 => (intro wx hx; obtain ⟨c5, c0, c1, c2, c3, c4⟩ := LS.cells hx; go_simp; (try with_reducible rfl))
    try simp only [Act.put, List.setIfInBounds_toArray, List.set_cons_zero, List.set_cons_succ]
    refine wpAnyH_ready (rs := [12, 16]) (by kernel_rfl) (by simp) ?_
    refine AllReadyH.cons (o := { dst := some 38, op := Op.call { callee := Callee.value (Operand.func 33), args := #[Operand.tmp 29, Operand.tmp 33, Operand.tmp 37], argTypes := #[30, 25, 3] }, type := 72, pos := "blocks.go:211", after := #[{ on := 3, ground := Ground.data }, { on := 7, ground := Ground.data }, { on := 11, ground := Ground.data }], guard := none }) rfl (fun K hK => ?_) ?_
    ·
      go_simp
      refine (HG1.out _ _ hOr.out).mono ?_
      rintro e wB ⟨rfl, hOB⟩
      have hS1 := HB1.out _ _ hOB
      clear hOr
      have hOr := Lib.hid hOB
      clear hOB
      refine hK.out _ _ ?hslix122r9o12 (fun hS => ?_)
      case hslix122r9o12 => (exact hS1)
      clear hK K
      try simp only [Act.put, List.setIfInBounds_toArray, List.set_cons_zero, List.set_cons_succ]
      refine wpAnyH_take (i := 13) (oi := { dst := some 25, op := Op.move (Operand.tmp 38), type := 72, pos := "blocks.go:211", after := #[{ on := 12, ground := Ground.data }], guard := none }) (v := ?vlix122r9o13) rfl (by kernel_rfl) (by kernel_rfl) (by kernel_rfl) (fun _ _ _ h => h) (Or.inl ⟨by rfl, ?hlix122r9o13⟩) hS ?_
      case hlix122r9o13 => (intro wx hx; skip; go_simp; (try with_reducible rfl))
      try simp only [Act.put, List.setIfInBounds_toArray, List.set_cons_zero, List.set_cons_succ]
      refine wpAnyH_take (i := 14) (oi := { dst := some 39, op := Op.extract (Operand.tmp 25) 0, type := 71, pos := "blocks.go:211", after := #[{ on := 13, ground := Ground.data }], guard := none }) (v := ?vlix122r9o14) rfl (by kernel_rfl) (by kernel_rfl) (by kernel_rfl) (fun _ _ _ h => h) (Or.inl ⟨by rfl, ?hlix122r9o14⟩) hS ?_
      case hlix122r9o14 => (intro wx hx; skip; go_simp; (try with_reducible rfl))
      try simp only [Act.put, List.setIfInBounds_toArray, List.set_cons_zero, List.set_cons_succ]
      refine wpAnyH_take (i := 15) (oi := { dst := some 40, op := Op.extract (Operand.tmp 25) 1, type := 33, pos := "blocks.go:211", after := #[{ on := 13, ground := Ground.data }, { on := 17, ground := Ground.gcOnly Departure.lateStores }], guard := none }) (v := ?vlix122r9o15) rfl (by kernel_rfl) (by kernel_rfl) (by kernel_rfl) (fun _ _ _ h => h) (Or.inl ⟨by rfl, ?hlix122r9o15⟩) hS ?_
      case hlix122r9o15 => (intro wx hx; skip; go_simp; (try with_reducible rfl))
      try simp only [Act.put, List.setIfInBounds_toArray, List.set_cons_zero, List.set_cons_succ]
      refine wpAnyH_ready (rs := [16]) (by kernel_rfl) (by simp) ?_
      refine AllReadyH.cons (o := { dst := some 7, op := Op.alloc 71, type := 0, pos := "blocks.go:211", after := #[], guard := none }) rfl (fun K hK => ?_) AllReadyH.nil
      go_simp
      have hS1 := LS.grown hS (World.grownBy_alloc _ (.cells #[.int .u64 0, .int .u64 0, .int .u64 0, .int .u64 0, .int .u64 0, .int .u64 0, .int .u64 0, .int .u64 0, .int .u64 0, .int .u64 0] 71) none)
      have hOn := hOr.out.addBox 71 #[.int .u64 0, .int .u64 0, .int .u64 0, .int .u64 0, .int .u64 0, .int .u64 0, .int .u64 0, .int .u64 0, .int .u64 0, .int .u64 0]
      rw [List.append_assoc, List.nil_append] at hOn
      clear hOr
      first | (obtain ⟨N, hN⟩ : ∃ N, wB.heap.size = N := ⟨_, rfl⟩; obtain ⟨wz, hwz⟩ : ∃ wz, wB.alloc (.cells #[.int .u64 0, .int .u64 0, .int .u64 0, .int .u64 0, .int .u64 0, .int .u64 0, .int .u64 0, .int .u64 0, .int .u64 0, .int .u64 0] 71) = wz := ⟨_, rfl⟩; rw [hN, hwz] at hOn; rw [hwz] at hS1; (try rw [hwz]); (first | rw [hN] | rw [show W.heap.size = N from hN])) | (obtain ⟨N, hN⟩ : ∃ N, W.heap.size = N := ⟨_, rfl⟩; obtain ⟨wz, hwz⟩ : ∃ wz, (W.alloc (.cells #[.int .u64 0, .int .u64 0, .int .u64 0, .int .u64 0, .int .u64 0, .int .u64 0, .int .u64 0, .int .u64 0, .int .u64 0, .int .u64 0] 71)).drew = wz := ⟨_, rfl⟩; rw [show W.drew.alloc (.cells #[.int .u64 0, .int .u64 0, .int .u64 0, .int .u64 0, .int .u64 0, .int .u64 0, .int .u64 0, .int .u64 0, .int .u64 0, .int .u64 0] 71) = wz from hwz] at hOn hS1; rw [show W.drew.heap.size = N from hN] at hOn; rw [hwz, hN])
      have hOr := Lib.hid hOn
      clear hOn hwz hN
      refine hK.out _ _ ?hslix122r9o16 (fun hS => ?_)
      case hslix122r9o16 => (exact hS1)
      clear hK K
      try simp only [Act.put, List.setIfInBounds_toArray, List.set_cons_zero, List.set_cons_succ]
      refine wpAnyH_ready (rs := [17]) (by kernel_rfl) (by simp) ?_
      refine AllReadyH.cons (o := { dst := none, op := Op.store 71 (Operand.tmp 7) (Operand.tmp 39), type := 0, pos := "blocks.go:211", after := #[{ on := 16, ground := Ground.data }, { on := 14, ground := Ground.data }, { on := 12, ground := Ground.chain }, { on := 0, ground := Ground.phase }, { on := 1, ground := Ground.phase }, { on := 2, ground := Ground.phase }, { on := 3, ground := Ground.phase }, { on := 4, ground := Ground.phase }, { on := 5, ground := Ground.phase }, { on := 6, ground := Ground.phase }, { on := 7, ground := Ground.phase }, { on := 8, ground := Ground.phase }, { on := 9, ground := Ground.phase }, { on := 10, ground := Ground.phase }, { on := 11, ground := Ground.phase }, { on := 12, ground := Ground.phase }, { on := 13, ground := Ground.phase }, { on := 14, ground := Ground.phase }, { on := 15, ground := Ground.textOnly Departure.lateStores }, { on := 16, ground := Ground.phase }], guard := none }) rfl (fun K hK => ?_) AllReadyH.nil
      obtain ⟨⟨z0, z1, z2, z3, z4, z5, z6, z7, z8, z9⟩, q0, q1, q2, q3, q4, q5, q6, q7, q8, q9⟩ := node_zero hOr.out
      go_simp
      obtain ⟨wn, hwn, hOx⟩ := node_stored f0 f1 f2 f3 f4 f5 f6 f7 f8 f9 hOr.out
      rw [hwn]
      have hOn := Lib.hid hOx
      clear hwn hOx
      refine hK.out _ _ ?hs17 (fun hS => ?_)
      case hs17 => exact HB1.out _ _ hOn.out
      clear hK K hOr z0 z1 z2 z3 z4 z5 z6 z7 z8 z9 q0 q1 q2 q3 q4 q5 q6 q7 q8 q9
      have hOr := Lib.hid hOn.out
      clear hOn
      try simp only [Act.put, List.setIfInBounds_toArray, List.set_cons_zero, List.set_cons_succ]
      refine wpAnyH_take (i := 18) (oi := { dst := some 8, op := Op.assign (Operand.tmp 40), type := 33, pos := "blocks.go:211", after := #[{ on := 15, ground := Ground.data }, { on := 17, ground := Ground.chain }, { on := 0, ground := Ground.phase }, { on := 1, ground := Ground.phase }, { on := 2, ground := Ground.phase }, { on := 3, ground := Ground.phase }, { on := 4, ground := Ground.phase }, { on := 5, ground := Ground.phase }, { on := 6, ground := Ground.phase }, { on := 7, ground := Ground.phase }, { on := 8, ground := Ground.phase }, { on := 9, ground := Ground.phase }, { on := 10, ground := Ground.phase }, { on := 11, ground := Ground.phase }, { on := 12, ground := Ground.phase }, { on := 13, ground := Ground.phase }, { on := 14, ground := Ground.phase }, { on := 15, ground := Ground.phase }, { on := 16, ground := Ground.phase }, { on := 17, ground := Ground.phase }], guard := none }) (v := ?vlix122r9o18) rfl (by kernel_rfl) (by kernel_rfl) (by kernel_rfl) (fun _ _ _ h => h) (Or.inl ⟨by rfl, ?hlix122r9o18⟩) hS ?_
      case hlix122r9o18 => (intro wx hx; skip; go_simp; (try with_reducible rfl))
      try simp only [Act.put, List.setIfInBounds_toArray, List.set_cons_zero, List.set_cons_succ]
      refine wpAnyH_done (by kernel_rfl) ?_ _
      refine onlyEnd_mk ?_
      obtain ⟨z0, z1, z2, z3, z4, z5, z6, z7, z8, z9⟩ := node_have hOr.out
      have e8 := HE.out
      have hOE := Lib.hid (show Grommet.Own w0 wn (LP Qs B XM (.slice none 0 0) (.slice ad n cp) n (xs.map nzv) ++ [objP D (.deferred (some []))]) from hOr.out.less)
      obtain ⟨x1, x2⟩ := LP_r (Rs := [objP D (.deferred (some []))]) hOE.out
      obtain ⟨y1, y2⟩ := LP_l (Rs := [objP D (.deferred (some []))]) hOE.out
      have HLEN : Hid (n = (lst p).length) := Lib.hid (by rw [HLST0.out, if_pos H8.out, List.append_nil]; exact HLEN0.out)
      have HLST : Hid (lst p = xs) := Lib.hid (by rw [HLST0.out, if_pos H8.out, List.append_nil])
      clear hOr hS
      gi_wp2_with fail
      have hOF := LP_put (Rs := [objP D (.deferred (some []))]) hOE.out (.slice ad (n) cp)
      have hKF := Lib.hid (obj_last hOF)
      have hOF := Lib.hid hOF.less
      clear hOE
      gi_wp2
      refine leaves_own (D := D) hOF.out (HSOL.out _ _ _ _) hD2.out hKF.out ?_
      intro w' hw'
      have r2 := (LP_r (Rs := []) (by rw [List.append_nil]; exact hw')).1
      refine ⟨.slice ad (n) cp, by simp [results, Tryd.results22, go_sem, r2], ad, cp, n, rfl, HLEN.out, ?_⟩
      rw [HLST.out]
      (try rw [List.map_append])
      exact LP_out (Rs := []) (by rw [List.append_nil]; exact hw')
    refine AllReadyH.cons (o := { dst := some 7, op := Op.alloc 71, type := 0, pos := "blocks.go:211", after := #[], guard := none }) rfl (fun K hK => ?_) ?_
    ·
      go_simp
      have hS1 := LS.grown hS (World.grownBy_alloc _ (.cells #[.int .u64 0, .int .u64 0, .int .u64 0, .int .u64 0, .int .u64 0, .int .u64 0, .int .u64 0, .int .u64 0, .int .u64 0, .int .u64 0] 71) none)
      have hOn := hOr.out.addBox 71 #[.int .u64 0, .int .u64 0, .int .u64 0, .int .u64 0, .int .u64 0, .int .u64 0, .int .u64 0, .int .u64 0, .int .u64 0, .int .u64 0]
      rw [List.append_assoc, List.nil_append] at hOn
      clear hOr
      first | (obtain ⟨N, hN⟩ : ∃ N, wB.heap.size = N := ⟨_, rfl⟩; obtain ⟨wz, hwz⟩ : ∃ wz, wB.alloc (.cells #[.int .u64 0, .int .u64 0, .int .u64 0, .int .u64 0, .int .u64 0, .int .u64 0, .int .u64 0, .int .u64 0, .int .u64 0, .int .u64 0] 71) = wz := ⟨_, rfl⟩; rw [hN, hwz] at hOn; rw [hwz] at hS1; (try rw [hwz]); (first | rw [hN] | rw [show W.heap.size = N from hN])) | (obtain ⟨N, hN⟩ : ∃ N, W.heap.size = N := ⟨_, rfl⟩; obtain ⟨wz, hwz⟩ : ∃ wz, (W.alloc (.cells #[.int .u64 0, .int .u64 0, .int .u64 0, .int .u64 0, .int .u64 0, .int .u64 0, .int .u64 0, .int .u64 0, .int .u64 0, .int .u64 0] 71)).drew = wz := ⟨_, rfl⟩; rw [show W.drew.alloc (.cells #[.int .u64 0, .int .u64 0, .int .u64 0, .int .u64 0, .int .u64 0, .int .u64 0, .int .u64 0, .int .u64 0, .int .u64 0, .int .u64 0] 71) = wz from hwz] at hOn hS1; rw [show W.drew.heap.size = N from hN] at hOn; rw [hwz, hN])
      have hOr := Lib.hid hOn
      clear hOn hwz hN
      refine hK.out _ _ ?hslix322r9o16 (fun hS => ?_)
      case hslix322r9o16 => (exact hS1)
      clear hK K
      try simp only [Act.put, List.setIfInBounds_toArray, List.set_cons_zero, List.set_cons_succ]
      refine wpAnyH_ready (rs := [12]) (by kernel_rfl) (by simp) ?_
      refine AllReadyH.cons (o := { dst := some 38, op := Op.call { callee := Callee.value (Operand.func 33), args := #[Operand.tmp 29, Operand.tmp 33, Operand.tmp 37], argTypes := #[30, 25, 3] }, type := 72, pos := "blocks.go:211", after := #[{ on := 3, ground := Ground.data }, { on := 7, ground := Ground.data }, { on := 11, ground := Ground.data }], guard := none }) rfl (fun K hK => ?_) AllReadyH.nil
      go_simp
      refine (HG1.out _ _ hOr.out).mono ?_
      rintro e wB ⟨rfl, hOB⟩
      have hS1 := HB1.out _ _ hOB
      clear hOr
      have hOr := Lib.hid hOB
      clear hOB
      refine hK.out _ _ ?hslix322r9o12 (fun hS => ?_)
      case hslix322r9o12 => (exact hS1)
      clear hK K
      try simp only [Act.put, List.setIfInBounds_toArray, List.set_cons_zero, List.set_cons_succ]
      refine wpAnyH_take (i := 13) (oi := { dst := some 25, op := Op.move (Operand.tmp 38), type := 72, pos := "blocks.go:211", after := #[{ on := 12, ground := Ground.data }], guard := none }) (v := ?vlix322r9o13) rfl (by kernel_rfl) (by kernel_rfl) (by kernel_rfl) (fun _ _ _ h => h) (Or.inl ⟨by rfl, ?hlix322r9o13⟩) hS ?_
      case hlix322r9o13 => (intro wx hx; skip; go_simp; (try with_reducible rfl))
      try simp only [Act.put, List.setIfInBounds_toArray, List.set_cons_zero, List.set_cons_succ]
      refine wpAnyH_take (i := 14) (oi := { dst := some 39, op := Op.extract (Operand.tmp 25) 0, type := 71, pos := "blocks.go:211", after := #[{ on := 13, ground := Ground.data }], guard := none }) (v := ?vlix322r9o14) rfl (by kernel_rfl) (by kernel_rfl) (by kernel_rfl) (fun _ _ _ h => h) (Or.inl ⟨by rfl, ?hlix322r9o14⟩) hS ?_
      case hlix322r9o14 => (intro wx hx; skip; go_simp; (try with_reducible rfl))
      try simp only [Act.put, List.setIfInBounds_toArray, List.set_cons_zero, List.set_cons_succ]
      refine wpAnyH_take (i := 15) (oi := { dst := some 40, op := Op.extract (Operand.tmp 25) 1, type := 33, pos := "blocks.go:211", after := #[{ on := 13, ground := Ground.data }, { on := 17, ground := Ground.gcOnly Departure.lateStores }], guard := none }) (v := ?vlix322r9o15) rfl (by kernel_rfl) (by kernel_rfl) (by kernel_rfl) (fun _ _ _ h => h) (Or.inl ⟨by rfl, ?hlix322r9o15⟩) hS ?_
      case hlix322r9o15 => (intro wx hx; skip; go_simp; (try with_reducible rfl))
      try simp only [Act.put, List.setIfInBounds_toArray, List.set_cons_zero, List.set_cons_succ]
      refine wpAnyH_ready (rs := [17]) (by kernel_rfl) (by simp) ?_
      refine AllReadyH.cons (o := { dst := none, op := Op.store 71 (Operand.tmp 7) (Operand.tmp 39), type := 0, pos := "blocks.go:211", after := #[{ on := 16, ground := Ground.data }, { on := 14, ground := Ground.data }, { on := 12, ground := Ground.chain }, { on := 0, ground := Ground.phase }, { on := 1, ground := Ground.phase }, { on := 2, ground := Ground.phase }, { on := 3, ground := Ground.phase }, { on := 4, ground := Ground.phase }, { on := 5, ground := Ground.phase }, { on := 6, ground := Ground.phase }, { on := 7, ground := Ground.phase }, { on := 8, ground := Ground.phase }, { on := 9, ground := Ground.phase }, { on := 10, ground := Ground.phase }, { on := 11, ground := Ground.phase }, { on := 12, ground := Ground.phase }, { on := 13, ground := Ground.phase }, { on := 14, ground := Ground.phase }, { on := 15, ground := Ground.textOnly Departure.lateStores }, { on := 16, ground := Ground.phase }], guard := none }) rfl (fun K hK => ?_) AllReadyH.nil
      obtain ⟨⟨z0, z1, z2, z3, z4, z5, z6, z7, z8, z9⟩, q0, q1, q2, q3, q4, q5, q6, q7, q8, q9⟩ := node_zero hOr.out
      go_simp
      obtain ⟨wn, hwn, hOx⟩ := node_stored f0 f1 f2 f3 f4 f5 f6 f7 f8 f9 hOr.out
      rw [hwn]
      have hOn := Lib.hid hOx
      clear hwn hOx
      refine hK.out _ _ ?hs17 (fun hS => ?_)
      case hs17 => exact HB1.out _ _ hOn.out
      clear hK K hOr z0 z1 z2 z3 z4 z5 z6 z7 z8 z9 q0 q1 q2 q3 q4 q5 q6 q7 q8 q9
      have hOr := Lib.hid hOn.out
      clear hOn
      try simp only [Act.put, List.setIfInBounds_toArray, List.set_cons_zero, List.set_cons_succ]
      refine wpAnyH_take (i := 18) (oi := { dst := some 8, op := Op.assign (Operand.tmp 40), type := 33, pos := "blocks.go:211", after := #[{ on := 15, ground := Ground.data }, { on := 17, ground := Ground.chain }, { on := 0, ground := Ground.phase }, { on := 1, ground := Ground.phase }, { on := 2, ground := Ground.phase }, { on := 3, ground := Ground.phase }, { on := 4, ground := Ground.phase }, { on := 5, ground := Ground.phase }, { on := 6, ground := Ground.phase }, { on := 7, ground := Ground.phase }, { on := 8, ground := Ground.phase }, { on := 9, ground := Ground.phase }, { on := 10, ground := Ground.phase }, { on := 11, ground := Ground.phase }, { on := 12, ground := Ground.phase }, { on := 13, ground := Ground.phase }, { on := 14, ground := Ground.phase }, { on := 15, ground := Ground.phase }, { on := 16, ground := Ground.phase }, { on := 17, ground := Ground.phase }], guard := none }) (v := ?vlix322r9o18) rfl (by kernel_rfl) (by kernel_rfl) (by kernel_rfl) (fun _ _ _ h => h) (Or.inl ⟨by rfl, ?hlix322r9o18⟩) hS ?_
      case hlix322r9o18 => (intro wx hx; skip; go_simp; (try with_reducible rfl))
      try simp only [Act.put, List.setIfInBounds_toArray, List.set_cons_zero, List.set_cons_succ]
      refine wpAnyH_done (by kernel_rfl) ?_ _
      refine onlyEnd_mk ?_
      obtain ⟨z0, z1, z2, z3, z4, z5, z6, z7, z8, z9⟩ := node_have hOr.out
      have e8 := HE.out
      have hOE := Lib.hid (show Grommet.Own w0 wn (LP Qs B XM (.slice none 0 0) (.slice ad n cp) n (xs.map nzv) ++ [objP D (.deferred (some []))]) from hOr.out.less)
      obtain ⟨x1, x2⟩ := LP_r (Rs := [objP D (.deferred (some []))]) hOE.out
      obtain ⟨y1, y2⟩ := LP_l (Rs := [objP D (.deferred (some []))]) hOE.out
      have HLEN : Hid (n = (lst p).length) := Lib.hid (by rw [HLST0.out, if_pos H8.out, List.append_nil]; exact HLEN0.out)
      have HLST : Hid (lst p = xs) := Lib.hid (by rw [HLST0.out, if_pos H8.out, List.append_nil])
      clear hOr hS
      gi_wp2_with fail
      have hOF := LP_put (Rs := [objP D (.deferred (some []))]) hOE.out (.slice ad (n) cp)
      have hKF := Lib.hid (obj_last hOF)
      have hOF := Lib.hid hOF.less
      clear hOE
      gi_wp2
      refine leaves_own (D := D) hOF.out (HSOL.out _ _ _ _) hD2.out hKF.out ?_
      intro w' hw'
      have r2 := (LP_r (Rs := []) (by rw [List.append_nil]; exact hw')).1
      refine ⟨.slice ad (n) cp, by simp [results, Tryd.results22, go_sem, r2], ad, cp, n, rfl, HLEN.out, ?_⟩
      rw [HLST.out]
      (try rw [List.map_append])
      exact LP_out (Rs := []) (by rw [List.append_nil]; exact hw')
    exact AllReadyH.nil

set_option maxRecDepth 100000 in
set_option maxHeartbeats 2000000 in
theorem bmList_some (XM g a b c n0 : Nat) (p : Nat → Nat) (f0 f1 f2 f3 f4 f5 f6 f7 f8 f9 : Nat) (Qs : List Pr) (km : Nat) (w0 w : World) (h : Grommet.Own w0 w Qs) (hs : ∀ P ∈ Qs, Solid P) (hm : Qs[km]? = some (bmP XM g a b c n0)) (h8 : f8 = p 12) (h8z : f8 ≠ 0) (h8l : f8 ≤ 1000000)
    (HA : ∀ (j : Nat), j < 12 → ∀ Rs wx, Grommet.Own w0 wx (Qs ++ Rs) → Calls Tryd.prog 14 #[.pointer (some ⟨XM, 0, none⟩), .int .i64 (j : Int)] wx fun e w' => e = .returned (.tuple #[.int .i64 (p j : Int), .int .i64 0]) ∧ Grommet.Own w0 w' (Qs ++ Rs))
    (HG : ∀ Rs wx, Grommet.Own w0 wx (Qs ++ Rs) → Calls Tryd.prog 33 #[.pointer (some ⟨g, 0, none⟩), gv (a : Int) (b : Int) (c : Int), .int .i64 (n0 : Int)] wx fun e w' => e = .returned (.tuple #[nv f0 f1 f2 f3 f4 f5 f6 f7 f8 f9, .int .i64 0]) ∧ Grommet.Own w0 w' (Qs ++ Rs)) :
    Calls Tryd.prog 22 #[.pointer (some ⟨XM, 0, none⟩)] w fun e w' => ∃ ad cp m, e = .returned (.slice ad m cp) ∧ m = (lst p).length ∧ Grommet.Own w0 w' (Qs ++ [rowP 3 1 (.slice ad m cp) m ((lst p).map nzv)]) := by
  have hO1 := h.addBox 32 #[.pointer (some ⟨XM, 0, none⟩)]
  have hO2 := hO1.addBox 51 #[.slice none 0 0]
  have hO3 := (hO2.addBox 51 #[.slice none 0 0]).nilRow 3 1
  have hO4 := hO3.addBox 3 #[.int .i64 0]
  have hw0 := h.grown.size
  generalize hB : w.heap.size = B at *
  have z1 : (w.alloc (.cells #[.pointer (some ⟨XM, 0, none⟩)] 32)).heap.size = B + 1 := by simp [hB]
  have z2 : ((w.alloc (.cells #[.pointer (some ⟨XM, 0, none⟩)] 32)).alloc (.cells #[.slice none 0 0] 51)).heap.size = B + 2 := by simp [hB]
  have z3 : (((w.alloc (.cells #[.pointer (some ⟨XM, 0, none⟩)] 32)).alloc (.cells #[.slice none 0 0] 51)).alloc (.cells #[.slice none 0 0] 51)).heap.size = B + 3 := by simp [hB]
  rw [z1, z2, z3] at hO4
  have hO4 : Hid (Grommet.Own w0 _ (LP Qs B XM (.slice none 0 0) (.slice none 0 0) 0 [])) := Lib.hid (by unfold LP; simp only [List.append_assoc, List.cons_append, List.nil_append] at hO4; exact hO4)
  have HA := Lib.hid HA
  have HG := Lib.hid HG
  have HB := Lib.hid (show ∀ wx Rs, Grommet.Own w0 wx (Qs ++ Rs) → BM XM g a b c n0 wx from fun wx Rs hO => BM.of (k := km) hO (app_old hm))
  have HLST0 := Lib.hid (lst_split p)
  have H8 : Hid (p 12 ≠ 0) := Lib.hid (by omega)
  have HE : Hid (((f8 : Int) != 0) = true) := Lib.hid (by simp <;> omega)
  have h8l := Lib.hid h8l
  have H9 := Lib.hid h8
  clear h hO1 hO2 hO3 hm h8 h8z
  refine (callsIn_wide (n := 9)).1 ?_
  refine callsIn_of_wp_marks Tryd.func22 rfl trivial ?_ rfl
  simp only [Tryd.ntmps22, List.size_toArray, List.length_cons, List.length_nil, Nat.reduceAdd, Nat.reduceSub, Array.replicate_succ, Array.replicate_zero, List.push_toArray, List.append_toArray, List.nil_append, List.cons_append]
  gi_wp2_with fail
  refine ⟨trivial, (callsIn_wide.2 (bmPlaces _ 0)).mono ?_⟩
  rintro e w2 ⟨rfl, hw2⟩
  rw [← hw2] at hO4
  rw [z3]
  have hz : w2.heap.size = B + 4 := by rw [hw2]; simp [z3]
  clear hw2 z1 z2 z3
  have hpp : w2.heap[B + 3]? = some (.cells #[.int .i64 ((0 : Nat) : Int)] 3 (0, 0)) := hO4.out.box _ (by have := (LP_at (Qs := Qs) (B := B) (XM := XM) (r1 := .slice none 0 0) (v := .slice none 0 0) (n := 0) (xs := []) []).2.2.2.2; rw [List.append_nil] at this; exact this)
  gi_wp2_with fail
  refine' wpIn_range_plain (α := Fin 12) rfl (by omega) (gf := 68) (lb := #[.pointer (some ⟨B + 3, 0, none⟩)]) rfl trivial (enters_of Tryd.func68 (by kernel_rfl) rfl) (encs := encP 0 12)
    (places_plain 8 w2 (B + 3) 0 12 hpp rfl) (Below.refl _ _) (fun _ => rfl)
    (LI w0 Qs B XM p) (fun _ _ _ => False) (LI.calm hs B XM p (by omega)) (fun _ _ _ _ _ h => h.elim) ⟨_, _, _, rfl, hO4.out⟩ _ ?assign ?body ?done ?stop
  case stop => intro _ _ _ _ _ _ h; exact h.elim
  case assign =>
    intro l x W K hK
    unfold encP
    gi_wp2
    exact hK
  case body =>
    rintro l pre ⟨i, hi⟩ W hL hlen lp hbk
    replace hlen : pre.length = i := hlen
    obtain ⟨ad, n, cp, hn, hL⟩ := hL
    have hO2 := hL.withObjs (LP_solid hs _ _ _ _ _ _) (by omega) hbk.marks rfl hbk.lp rfl
    have c1 := LP_m hO2
    have hn12 : n ≤ 12 := by
      rw [hn]
      refine Nat.le_trans (List.length_filter_le _ _) ?_
      rw [List.length_map]; omega
    have hcast : ((0 + i : Nat) : Int) = (i : Int) := by omega
    unfold LP at hO2
    rw [List.append_assoc] at hO2
    have HAt := Lib.hid (HA.out i hi _ _ hO2)
    have Hn := Lib.hid hn
    clear hO2 hL hn
    obtain ⟨V, hV⟩ : ∃ V, p i = V := ⟨_, rfl⟩
    have HP : Hid (((pre ++ [(⟨i, hi⟩ : Fin 12)]).map (fun x => p x.1)).filter (· != 0) = (pre.map (fun x => p x.1)).filter (· != 0) ++ (if V = 0 then [] else [V])) := Lib.hid (by
      rw [List.map_append, List.filter_append, ← hV]
      congr 1
      by_cases e : p i = 0
      · rw [if_pos e]; simp [e]
      · rw [if_neg e]; simp [e])
    rw [hV] at HAt
    clear hV
    clear hcast
    by_cases hV0 : V = 0
    · have x0 : ((V : Int) != 0) = false := by simp [hV0]
      gi_wp2_with fail
      refine ⟨trivial, (callsIn_wide.2 HAt.out).mono ?_⟩
      rintro e W' ⟨rfl, hO3⟩
      rw [← List.append_assoc] at hO3
      have hb := objs_back hO3
      have hfin : Hid (Book w2.heap.size lp W' ∧ LI w0 Qs B XM p (pre ++ [(⟨i, hi⟩ : Fin 12)]) W') := Lib.hid ⟨hb.1, ad, n, cp, by
        rw [HP.out, if_pos hV0, List.append_nil]; exact Hn.out, by
        rw [HP.out, if_pos hV0, List.append_nil]; exact hb.2⟩
      clear hO3 HAt hb c1
      gi_wp2
      exact hfin.out
    · have x0 : ((V : Int) != 0) = true := by simpa using hV0
      gi_wp2_with fail
      refine ⟨trivial, (callsIn_wide.2 HAt.out).mono ?_⟩
      rintro e W' ⟨rfl, hO3⟩
      have hO3 : Grommet.Own w0 W' (LP Qs B XM (.slice none 0 0) (.slice ad n cp) n ((((pre.map (fun x => p x.1)).filter (· != 0))).map nzv) ++ [objP w2.heap.size (.deferred (some [])), objP (w2.heap.size + 1) (.loop lp)]) := by unfold LP; rw [List.append_assoc]; exact hO3
      obtain ⟨y1, y2⟩ := LP_l hO3
      have hOh := Lib.hid hO3
      have hOq := hO3.quiet (World.grownBy_alloc W' (.cells #[.int .i64 (V : Int)] 3) none)
      have hrow := LP_row hOq
      have hgrow := Lib.hid (fun (w' : World) v' n' ys (hr : w'.ownsRow 0 3 1 v' n' ys) hg hb => (LP_grow hOq (v' := v') hr hg hb : Grommet.Own w0 _ _))
      have hthaw := Lib.hid (fun (w' : World) v' n' ys (hr : w'.ownsRow 0 3 1 v' n' ys) hg hb => (LP_l' hOq (v' := v') hr hg hb))
      clear HAt c1 hO3 hOh hOq
      gi_wp2_with (gi_at_builtin; refine wpListIn_app rfl _ _ rfl (.slice ad n cp) n _ rfl hrow W'.heap.size (V : Int) rfl (heap_alloc_new W' _) (by omega) ?_)
      intro ad2 cp2 W2 r1 r2 r3
      have q1 := hgrow.out W2 _ _ _ r1 r2 (by simpa using r3)
      obtain ⟨q2, q3⟩ := hthaw.out W2 _ _ _ r1 r2 (by simpa using r3)
      have hb := objs_back q1
      have hfin : Hid (Book w2.heap.size lp (W2.setCell ⟨B + 2, 0, none⟩ (.slice ad2 (n + 1) cp2)) ∧ LI w0 Qs B XM p (pre ++ [(⟨i, hi⟩ : Fin 12)]) (W2.setCell ⟨B + 2, 0, none⟩ (.slice ad2 (n + 1) cp2))) := Lib.hid ⟨hb.1, ad2, n + 1, cp2, by
        rw [HP.out, if_neg hV0, List.length_append, List.length_singleton, ← Hn.out], by
        rw [HP.out, if_neg hV0, List.map_append]; exact hb.2⟩
      clear q1 r1 r2 r3 hb hgrow hthaw hrow
      gi_wp2
      exact hfin.out
  case done =>
    rintro D ys W hD hys ⟨ad, n, cp, hn, hL⟩ hK
    subst hys
    rw [fin_take] at hn hL
    have hn12 : n ≤ 12 := by
      rw [hn]
      exact Nat.le_trans (List.length_filter_le _ _) (by simp)
    have HLEN0 := Lib.hid hn
    obtain ⟨xs, hxs⟩ : ∃ xs, (((List.range 12).map p).filter (· != 0)) = xs := ⟨_, rfl⟩
    rw [hxs] at hn hL HLST0
    replace HLEN0 : Hid (n = xs.length) := Lib.hid (by rw [← hxs]; exact HLEN0.out)
    have hDB : B + 4 ≤ D := by omega
    have hOD := hL.withObj' (LP_solid hs _ _ _ _ _ _) (by omega) hK rfl
    have HB1 := Lib.hid (show ∀ wx Rs, Grommet.Own w0 wx ((LP Qs B XM (.slice none 0 0) (.slice ad n cp) n (xs.map nzv) ++ [objP D (.deferred (some []))]) ++ Rs) → LS XM g a b c n0 B wx from fun wx Rs hO => ⟨HB.out wx _ (by unfold LP at hO; simp only [List.append_assoc] at hO; exact hO), by rw [List.append_assoc] at hO; exact hO.box _ (LP_at _).1⟩)
    have HG1 := Lib.hid (show ∀ wx Rs, Grommet.Own w0 wx ((LP Qs B XM (.slice none 0 0) (.slice ad n cp) n (xs.map nzv) ++ [objP D (.deferred (some []))]) ++ Rs) → Calls Tryd.prog 33 #[.pointer (some ⟨g, 0, none⟩), gv (a : Int) (b : Int) (c : Int), .int .i64 (n0 : Int)] wx fun e w' => e = .returned (.tuple #[nv f0 f1 f2 f3 f4 f5 f6 f7 f8 f9, .int .i64 0]) ∧ Grommet.Own w0 w' ((LP Qs B XM (.slice none 0 0) (.slice ad n cp) n (xs.map nzv) ++ [objP D (.deferred (some []))]) ++ Rs) from fun wx Rs hO => by
      unfold LP at hO ⊢
      simp only [List.append_assoc] at hO ⊢
      exact HG.out _ _ hO)
    have hS0 := Lib.hid ((HB1.out W [] (by rw [List.append_nil]; exact hOD)).grown (grown_drew (World.grownBy.refl W none)))
    have hOr := Lib.hid (show Grommet.Own w0 W.drew ((LP Qs B XM (.slice none 0 0) (.slice ad n cp) n (xs.map nzv) ++ [objP D (.deferred (some []))]) ++ []) by rw [List.append_nil]; exact hOD.quiet (grown_drew (World.grownBy.refl _ _)))
    have HSOL := Lib.hid (fun r1 v n xs => LP_solid hs B XM r1 v n xs)
    have hD2 := Lib.hid (show w0.heap.size ≤ D by omega)
    clear hL hK hOD HG HA HB hn hxs
    unfold nv gv at *
    gi_wp2_with fail
    refine wpIn_region_held' (S := fun w' => LS XM g a b c n0 B w') (by kernel_rfl) (hS0.out) (fun hS => ?_)
    refine wpAnyH_take (i := 0) (oi := { dst := some 26, op := Op.load 32 (Operand.tmp 1), type := 32, pos := "blocks.go:211", after := #[], guard := none }) (v := ?vli22r9o0) rfl (by kernel_rfl) (by kernel_rfl) (by kernel_rfl) (fun _ _ _ h => h) (Or.inl ⟨by rfl, ?hli22r9o0⟩) hS ?_
    case hli22r9o0 => (intro wx hx; obtain ⟨c5, c0, c1, c2, c3, c4⟩ := LS.cells hx; go_simp; (try with_reducible rfl))
    try simp only [Act.put, List.setIfInBounds_toArray, List.set_cons_zero, List.set_cons_succ]
    refine wpAnyH_take (i := 1) (oi := { dst := some 27, op := Op.nilCheck (Operand.tmp 26), type := 0, pos := "blocks.go:211", after := #[{ on := 0, ground := Ground.data }], guard := none }) (v := ?vli22r9o1) rfl (by kernel_rfl) (by kernel_rfl) (by kernel_rfl) (fun _ _ _ h => h) (Or.inl ⟨by rfl, ?hli22r9o1⟩) hS ?_
    case hli22r9o1 => (intro wx hx; skip; go_simp; (try with_reducible rfl))
    try simp only [Act.put, List.setIfInBounds_toArray, List.set_cons_zero, List.set_cons_succ]
    refine wpAnyH_take (i := 2) (oi := { dst := some 28, op := Op.fieldAddr 75 (Operand.tmp 27) 0, type := 0, pos := "blocks.go:211", after := #[{ on := 1, ground := Ground.data }], guard := none }) (v := ?vli22r9o2) rfl (by kernel_rfl) (by kernel_rfl) (by kernel_rfl) (fun _ _ _ h => h) (Or.inl ⟨by rfl, ?hli22r9o2⟩) hS ?_
    case hli22r9o2 => (intro wx hx; skip; go_simp; (try with_reducible rfl))
    try simp only [Act.put, List.setIfInBounds_toArray, List.set_cons_zero, List.set_cons_succ]
    refine wpAnyH_take (i := 3) (oi := { dst := some 29, op := Op.load 30 (Operand.tmp 28), type := 30, pos := "blocks.go:211", after := #[{ on := 2, ground := Ground.data }], guard := none }) (v := ?vli22r9o3) rfl (by kernel_rfl) (by kernel_rfl) (by kernel_rfl) (fun _ _ _ h => h) (Or.inl ⟨by rfl, ?hli22r9o3⟩) hS ?_
    case hli22r9o3 => (intro wx hx; obtain ⟨c5, c0, c1, c2, c3, c4⟩ := LS.cells hx; go_simp; (try with_reducible rfl))
    try simp only [Act.put, List.setIfInBounds_toArray, List.set_cons_zero, List.set_cons_succ]
    refine wpAnyH_take (i := 4) (oi := { dst := some 30, op := Op.load 32 (Operand.tmp 1), type := 32, pos := "blocks.go:211", after := #[], guard := none }) (v := ?vli22r9o4) rfl (by kernel_rfl) (by kernel_rfl) (by kernel_rfl) (fun _ _ _ h => h) (Or.inl ⟨by rfl, ?hli22r9o4⟩) hS ?_
    case hli22r9o4 => (intro wx hx; obtain ⟨c5, c0, c1, c2, c3, c4⟩ := LS.cells hx; go_simp; (try with_reducible rfl))
    try simp only [Act.put, List.setIfInBounds_toArray, List.set_cons_zero, List.set_cons_succ]
    refine wpAnyH_take (i := 5) (oi := { dst := some 31, op := Op.nilCheck (Operand.tmp 30), type := 0, pos := "blocks.go:211", after := #[{ on := 4, ground := Ground.data }], guard := none }) (v := ?vli22r9o5) rfl (by kernel_rfl) (by kernel_rfl) (by kernel_rfl) (fun _ _ _ h => h) (Or.inl ⟨by rfl, ?hli22r9o5⟩) hS ?_
    case hli22r9o5 => (intro wx hx; skip; go_simp; (try with_reducible rfl))
    try simp only [Act.put, List.setIfInBounds_toArray, List.set_cons_zero, List.set_cons_succ]
    refine wpAnyH_take (i := 6) (oi := { dst := some 32, op := Op.fieldAddr 75 (Operand.tmp 31) 1, type := 0, pos := "blocks.go:211", after := #[{ on := 5, ground := Ground.data }], guard := none }) (v := ?vli22r9o6) rfl (by kernel_rfl) (by kernel_rfl) (by kernel_rfl) (fun _ _ _ h => h) (Or.inl ⟨by rfl, ?hli22r9o6⟩) hS ?_
    case hli22r9o6 => (intro wx hx; skip; go_simp; (try with_reducible rfl))
    try simp only [Act.put, List.setIfInBounds_toArray, List.set_cons_zero, List.set_cons_succ]
    refine wpAnyH_take (i := 7) (oi := { dst := some 33, op := Op.load 25 (Operand.tmp 32), type := 25, pos := "blocks.go:211", after := #[{ on := 6, ground := Ground.data }], guard := none }) (v := ?vli22r9o7) rfl (by kernel_rfl) (by kernel_rfl) (by kernel_rfl) (fun _ _ _ h => h) (Or.inl ⟨by rfl, ?hli22r9o7⟩) hS ?_
    case hli22r9o7 => (intro wx hx; obtain ⟨c5, c0, c1, c2, c3, c4⟩ := LS.cells hx; go_simp; (try with_reducible rfl))
    try simp only [Act.put, List.setIfInBounds_toArray, List.set_cons_zero, List.set_cons_succ]
    refine wpAnyH_take (i := 8) (oi := { dst := some 34, op := Op.load 32 (Operand.tmp 1), type := 32, pos := "blocks.go:211", after := #[], guard := none }) (v := ?vli22r9o8) rfl (by kernel_rfl) (by kernel_rfl) (by kernel_rfl) (fun _ _ _ h => h) (Or.inl ⟨by rfl, ?hli22r9o8⟩) hS ?_
    case hli22r9o8 => (intro wx hx; obtain ⟨c5, c0, c1, c2, c3, c4⟩ := LS.cells hx; go_simp; (try with_reducible rfl))
    try simp only [Act.put, List.setIfInBounds_toArray, List.set_cons_zero, List.set_cons_succ]
    refine wpAnyH_take (i := 9) (oi := { dst := some 35, op := Op.nilCheck (Operand.tmp 34), type := 0, pos := "blocks.go:211", after := #[{ on := 8, ground := Ground.data }], guard := none }) (v := ?vli22r9o9) rfl (by kernel_rfl) (by kernel_rfl) (by kernel_rfl) (fun _ _ _ h => h) (Or.inl ⟨by rfl, ?hli22r9o9⟩) hS ?_
    case hli22r9o9 => (intro wx hx; skip; go_simp; (try with_reducible rfl))
    try simp only [Act.put, List.setIfInBounds_toArray, List.set_cons_zero, List.set_cons_succ]
    refine wpAnyH_take (i := 10) (oi := { dst := some 36, op := Op.fieldAddr 75 (Operand.tmp 35) 2, type := 0, pos := "blocks.go:211", after := #[{ on := 9, ground := Ground.data }], guard := none }) (v := ?vli22r9o10) rfl (by kernel_rfl) (by kernel_rfl) (by kernel_rfl) (fun _ _ _ h => h) (Or.inl ⟨by rfl, ?hli22r9o10⟩) hS ?_
    case hli22r9o10 => (intro wx hx; skip; go_simp; (try with_reducible rfl))
    try simp only [Act.put, List.setIfInBounds_toArray, List.set_cons_zero, List.set_cons_succ]
    refine wpAnyH_take (i := 11) (oi := { dst := some 37, op := Op.load 3 (Operand.tmp 36), type := 3, pos := "blocks.go:211", after := #[{ on := 10, ground := Ground.data }], guard := none }) (v := ?vli22r9o11) rfl (by kernel_rfl) (by kernel_rfl) (by kernel_rfl) (fun _ _ _ h => h) (Or.inl ⟨by rfl, ?hli22r9o11⟩) hS ?_
    case hli22r9o11 => (intro wx hx; obtain ⟨c5, c0, c1, c2, c3, c4⟩ := LS.cells hx; go_simp; (try with_reducible rfl))
    try simp only [Act.put, List.setIfInBounds_toArray, List.set_cons_zero, List.set_cons_succ]
    refine wpAnyH_ready (rs := [12, 16]) (by kernel_rfl) (by simp) ?_
    refine AllReadyH.cons (o := { dst := some 38, op := Op.call { callee := Callee.value (Operand.func 33), args := #[Operand.tmp 29, Operand.tmp 33, Operand.tmp 37], argTypes := #[30, 25, 3] }, type := 72, pos := "blocks.go:211", after := #[{ on := 3, ground := Ground.data }, { on := 7, ground := Ground.data }, { on := 11, ground := Ground.data }], guard := none }) rfl (fun K hK => ?_) ?_
    ·
      go_simp
      refine (HG1.out _ _ hOr.out).mono ?_
      rintro e wB ⟨rfl, hOB⟩
      have hS1 := HB1.out _ _ hOB
      clear hOr
      have hOr := Lib.hid hOB
      clear hOB
      refine hK.out _ _ ?hslix122r9o12 (fun hS => ?_)
      case hslix122r9o12 => (exact hS1)
      clear hK K
      try simp only [Act.put, List.setIfInBounds_toArray, List.set_cons_zero, List.set_cons_succ]
      refine wpAnyH_take (i := 13) (oi := { dst := some 25, op := Op.move (Operand.tmp 38), type := 72, pos := "blocks.go:211", after := #[{ on := 12, ground := Ground.data }], guard := none }) (v := ?vlix122r9o13) rfl (by kernel_rfl) (by kernel_rfl) (by kernel_rfl) (fun _ _ _ h => h) (Or.inl ⟨by rfl, ?hlix122r9o13⟩) hS ?_
      case hlix122r9o13 => (intro wx hx; skip; go_simp; (try with_reducible rfl))
      try simp only [Act.put, List.setIfInBounds_toArray, List.set_cons_zero, List.set_cons_succ]
      refine wpAnyH_take (i := 14) (oi := { dst := some 39, op := Op.extract (Operand.tmp 25) 0, type := 71, pos := "blocks.go:211", after := #[{ on := 13, ground := Ground.data }], guard := none }) (v := ?vlix122r9o14) rfl (by kernel_rfl) (by kernel_rfl) (by kernel_rfl) (fun _ _ _ h => h) (Or.inl ⟨by rfl, ?hlix122r9o14⟩) hS ?_
      case hlix122r9o14 => (intro wx hx; skip; go_simp; (try with_reducible rfl))
      try simp only [Act.put, List.setIfInBounds_toArray, List.set_cons_zero, List.set_cons_succ]
      refine wpAnyH_take (i := 15) (oi := { dst := some 40, op := Op.extract (Operand.tmp 25) 1, type := 33, pos := "blocks.go:211", after := #[{ on := 13, ground := Ground.data }, { on := 17, ground := Ground.gcOnly Departure.lateStores }], guard := none }) (v := ?vlix122r9o15) rfl (by kernel_rfl) (by kernel_rfl) (by kernel_rfl) (fun _ _ _ h => h) (Or.inl ⟨by rfl, ?hlix122r9o15⟩) hS ?_
      case hlix122r9o15 => (intro wx hx; skip; go_simp; (try with_reducible rfl))
      try simp only [Act.put, List.setIfInBounds_toArray, List.set_cons_zero, List.set_cons_succ]
      refine wpAnyH_ready (rs := [16]) (by kernel_rfl) (by simp) ?_
      refine AllReadyH.cons (o := { dst := some 7, op := Op.alloc 71, type := 0, pos := "blocks.go:211", after := #[], guard := none }) rfl (fun K hK => ?_) AllReadyH.nil
      go_simp
      have hS1 := LS.grown hS (World.grownBy_alloc _ (.cells #[.int .u64 0, .int .u64 0, .int .u64 0, .int .u64 0, .int .u64 0, .int .u64 0, .int .u64 0, .int .u64 0, .int .u64 0, .int .u64 0] 71) none)
      have hOn := hOr.out.addBox 71 #[.int .u64 0, .int .u64 0, .int .u64 0, .int .u64 0, .int .u64 0, .int .u64 0, .int .u64 0, .int .u64 0, .int .u64 0, .int .u64 0]
      rw [List.append_assoc, List.nil_append] at hOn
      clear hOr
      first | (obtain ⟨N, hN⟩ : ∃ N, wB.heap.size = N := ⟨_, rfl⟩; obtain ⟨wz, hwz⟩ : ∃ wz, wB.alloc (.cells #[.int .u64 0, .int .u64 0, .int .u64 0, .int .u64 0, .int .u64 0, .int .u64 0, .int .u64 0, .int .u64 0, .int .u64 0, .int .u64 0] 71) = wz := ⟨_, rfl⟩; rw [hN, hwz] at hOn; rw [hwz] at hS1; (try rw [hwz]); (first | rw [hN] | rw [show W.heap.size = N from hN])) | (obtain ⟨N, hN⟩ : ∃ N, W.heap.size = N := ⟨_, rfl⟩; obtain ⟨wz, hwz⟩ : ∃ wz, (W.alloc (.cells #[.int .u64 0, .int .u64 0, .int .u64 0, .int .u64 0, .int .u64 0, .int .u64 0, .int .u64 0, .int .u64 0, .int .u64 0, .int .u64 0] 71)).drew = wz := ⟨_, rfl⟩; rw [show W.drew.alloc (.cells #[.int .u64 0, .int .u64 0, .int .u64 0, .int .u64 0, .int .u64 0, .int .u64 0, .int .u64 0, .int .u64 0, .int .u64 0, .int .u64 0] 71) = wz from hwz] at hOn hS1; rw [show W.drew.heap.size = N from hN] at hOn; rw [hwz, hN])
      have hOr := Lib.hid hOn
      clear hOn hwz hN
      refine hK.out _ _ ?hslix122r9o16 (fun hS => ?_)
      case hslix122r9o16 => (exact hS1)
      clear hK K
      try simp only [Act.put, List.setIfInBounds_toArray, List.set_cons_zero, List.set_cons_succ]
      refine wpAnyH_ready (rs := [17]) (by kernel_rfl) (by simp) ?_
      refine AllReadyH.cons (o := { dst := none, op := Op.store 71 (Operand.tmp 7) (Operand.tmp 39), type := 0, pos := "blocks.go:211", after := #[{ on := 16, ground := Ground.data }, { on := 14, ground := Ground.data }, { on := 12, ground := Ground.chain }, { on := 0, ground := Ground.phase }, { on := 1, ground := Ground.phase }, { on := 2, ground := Ground.phase }, { on := 3, ground := Ground.phase }, { on := 4, ground := Ground.phase }, { on := 5, ground := Ground.phase }, { on := 6, ground := Ground.phase }, { on := 7, ground := Ground.phase }, { on := 8, ground := Ground.phase }, { on := 9, ground := Ground.phase }, { on := 10, ground := Ground.phase }, { on := 11, ground := Ground.phase }, { on := 12, ground := Ground.phase }, { on := 13, ground := Ground.phase }, { on := 14, ground := Ground.phase }, { on := 15, ground := Ground.textOnly Departure.lateStores }, { on := 16, ground := Ground.phase }], guard := none }) rfl (fun K hK => ?_) AllReadyH.nil
      obtain ⟨⟨z0, z1, z2, z3, z4, z5, z6, z7, z8, z9⟩, q0, q1, q2, q3, q4, q5, q6, q7, q8, q9⟩ := node_zero hOr.out
      go_simp
      obtain ⟨wn, hwn, hOx⟩ := node_stored f0 f1 f2 f3 f4 f5 f6 f7 f8 f9 hOr.out
      rw [hwn]
      have hOn := Lib.hid hOx
      clear hwn hOx
      refine hK.out _ _ ?hs17 (fun hS => ?_)
      case hs17 => exact HB1.out _ _ hOn.out
      clear hK K hOr z0 z1 z2 z3 z4 z5 z6 z7 z8 z9 q0 q1 q2 q3 q4 q5 q6 q7 q8 q9
      have hOr := Lib.hid hOn.out
      clear hOn
      try simp only [Act.put, List.setIfInBounds_toArray, List.set_cons_zero, List.set_cons_succ]
      refine wpAnyH_take (i := 18) (oi := { dst := some 8, op := Op.assign (Operand.tmp 40), type := 33, pos := "blocks.go:211", after := #[{ on := 15, ground := Ground.data }, { on := 17, ground := Ground.chain }, { on := 0, ground := Ground.phase }, { on := 1, ground := Ground.phase }, { on := 2, ground := Ground.phase }, { on := 3, ground := Ground.phase }, { on := 4, ground := Ground.phase }, { on := 5, ground := Ground.phase }, { on := 6, ground := Ground.phase }, { on := 7, ground := Ground.phase }, { on := 8, ground := Ground.phase }, { on := 9, ground := Ground.phase }, { on := 10, ground := Ground.phase }, { on := 11, ground := Ground.phase }, { on := 12, ground := Ground.phase }, { on := 13, ground := Ground.phase }, { on := 14, ground := Ground.phase }, { on := 15, ground := Ground.phase }, { on := 16, ground := Ground.phase }, { on := 17, ground := Ground.phase }], guard := none }) (v := ?vlix122r9o18) rfl (by kernel_rfl) (by kernel_rfl) (by kernel_rfl) (fun _ _ _ h => h) (Or.inl ⟨by rfl, ?hlix122r9o18⟩) hS ?_
      case hlix122r9o18 => (intro wx hx; skip; go_simp; (try with_reducible rfl))
      try simp only [Act.put, List.setIfInBounds_toArray, List.set_cons_zero, List.set_cons_succ]
      refine wpAnyH_done (by kernel_rfl) ?_ _
      refine onlyEnd_mk ?_
      obtain ⟨z0, z1, z2, z3, z4, z5, z6, z7, z8, z9⟩ := node_have hOr.out
      have e8 := HE.out
      have hOE := Lib.hid (show Grommet.Own w0 wn (LP Qs B XM (.slice none 0 0) (.slice ad n cp) n (xs.map nzv) ++ [objP D (.deferred (some []))]) from hOr.out.less)
      obtain ⟨x1, x2⟩ := LP_r (Rs := [objP D (.deferred (some []))]) hOE.out
      obtain ⟨y1, y2⟩ := LP_l (Rs := [objP D (.deferred (some []))]) hOE.out
      have HLEN : Hid (n + 1 = (lst p).length) := Lib.hid (by rw [HLST0.out, if_neg H8.out, List.length_append, List.length_singleton, ← HLEN0.out])
      have HLST : Hid (lst p = xs ++ [f8]) := Lib.hid (by rw [HLST0.out, if_neg H8.out, H9.out])
      have e9 : ¬ (f8 : Int) = 0 := by have := H8.out; have := H9.out; omega
      clear hOr hS
      have w8 : IntKind.i64.wrap (f8 : Int) = (f8 : Int) := IntWalk.i64_in _ ⟨by omega, by have := h8l.out; omega⟩
      have hOq := hOE.out.quiet (World.grownBy_alloc wn (.cells #[.int .i64 (f8 : Int)] 3) none)
      have hrow := LP_row (Rs := [objP D (.deferred (some []))]) hOq
      have hgrow := Lib.hid (fun (w' : World) v' n' ys (hr : w'.ownsRow 0 3 1 v' n' ys) hg hb => (LP_grow (Rs := [objP D (.deferred (some []))]) hOq (v' := v') hr hg hb : Grommet.Own w0 _ _))
      have hthaw := Lib.hid (fun (w' : World) v' n' ys (hr : w'.ownsRow 0 3 1 v' n' ys) hg hb => (LP_l' (Rs := [objP D (.deferred (some []))]) hOq (v' := v') hr hg hb))
      clear hOE hOq x1 x2
      gi_wp2_with (gi_at_builtin; refine wpListIn_app rfl _ _ rfl (.slice ad n cp) n _ rfl hrow wn.heap.size (f8 : Int) rfl (heap_alloc_new wn _) (by omega) ?_)
      intro ad2 cp2 W2 r1 r2 r3
      have q1 := hgrow.out W2 _ _ _ r1 r2 (by simpa using r3)
      obtain ⟨q2, q3⟩ := hthaw.out W2 _ _ _ r1 r2 (by simpa using r3)
      obtain ⟨x1, x2⟩ := LP_r (Rs := [objP D (.deferred (some []))]) q1
      obtain ⟨x3, x4⟩ := LP_l (Rs := [objP D (.deferred (some []))]) q1
      have hOE := Lib.hid q1
      clear q1 r1 r2 r3 hgrow hthaw hrow z0 z1 z2 z3 z4 z5 z6 z7 z8 z9 y1 y2
      have hOF := LP_put (Rs := [objP D (.deferred (some []))]) hOE.out (.slice ad2 (n + 1) cp2)
      have hKF := Lib.hid (obj_last hOF)
      have hOF := Lib.hid hOF.less
      clear hOE
      gi_wp2
      refine leaves_own (D := D) hOF.out (HSOL.out _ _ _ _) hD2.out hKF.out ?_
      intro w' hw'
      have r2 := (LP_r (Rs := []) (by rw [List.append_nil]; exact hw')).1
      refine ⟨.slice ad2 (n + 1) cp2, by simp [results, Tryd.results22, go_sem, r2], ad2, cp2, n + 1, rfl, HLEN.out, ?_⟩
      rw [HLST.out]
      (try rw [List.map_append])
      exact LP_out (Rs := []) (by rw [List.append_nil]; exact hw')
    refine AllReadyH.cons (o := { dst := some 7, op := Op.alloc 71, type := 0, pos := "blocks.go:211", after := #[], guard := none }) rfl (fun K hK => ?_) ?_
    ·
      go_simp
      have hS1 := LS.grown hS (World.grownBy_alloc _ (.cells #[.int .u64 0, .int .u64 0, .int .u64 0, .int .u64 0, .int .u64 0, .int .u64 0, .int .u64 0, .int .u64 0, .int .u64 0, .int .u64 0] 71) none)
      have hOn := hOr.out.addBox 71 #[.int .u64 0, .int .u64 0, .int .u64 0, .int .u64 0, .int .u64 0, .int .u64 0, .int .u64 0, .int .u64 0, .int .u64 0, .int .u64 0]
      rw [List.append_assoc, List.nil_append] at hOn
      clear hOr
      first | (obtain ⟨N, hN⟩ : ∃ N, wB.heap.size = N := ⟨_, rfl⟩; obtain ⟨wz, hwz⟩ : ∃ wz, wB.alloc (.cells #[.int .u64 0, .int .u64 0, .int .u64 0, .int .u64 0, .int .u64 0, .int .u64 0, .int .u64 0, .int .u64 0, .int .u64 0, .int .u64 0] 71) = wz := ⟨_, rfl⟩; rw [hN, hwz] at hOn; rw [hwz] at hS1; (try rw [hwz]); (first | rw [hN] | rw [show W.heap.size = N from hN])) | (obtain ⟨N, hN⟩ : ∃ N, W.heap.size = N := ⟨_, rfl⟩; obtain ⟨wz, hwz⟩ : ∃ wz, (W.alloc (.cells #[.int .u64 0, .int .u64 0, .int .u64 0, .int .u64 0, .int .u64 0, .int .u64 0, .int .u64 0, .int .u64 0, .int .u64 0, .int .u64 0] 71)).drew = wz := ⟨_, rfl⟩; rw [show W.drew.alloc (.cells #[.int .u64 0, .int .u64 0, .int .u64 0, .int .u64 0, .int .u64 0, .int .u64 0, .int .u64 0, .int .u64 0, .int .u64 0, .int .u64 0] 71) = wz from hwz] at hOn hS1; rw [show W.drew.heap.size = N from hN] at hOn; rw [hwz, hN])
      have hOr := Lib.hid hOn
      clear hOn hwz hN
      refine hK.out _ _ ?hslix322r9o16 (fun hS => ?_)
      case hslix322r9o16 => (exact hS1)
      clear hK K
      try simp only [Act.put, List.setIfInBounds_toArray, List.set_cons_zero, List.set_cons_succ]
      refine wpAnyH_ready (rs := [12]) (by kernel_rfl) (by simp) ?_
      refine AllReadyH.cons (o := { dst := some 38, op := Op.call { callee := Callee.value (Operand.func 33), args := #[Operand.tmp 29, Operand.tmp 33, Operand.tmp 37], argTypes := #[30, 25, 3] }, type := 72, pos := "blocks.go:211", after := #[{ on := 3, ground := Ground.data }, { on := 7, ground := Ground.data }, { on := 11, ground := Ground.data }], guard := none }) rfl (fun K hK => ?_) AllReadyH.nil
      go_simp
      refine (HG1.out _ _ hOr.out).mono ?_
      rintro e wB ⟨rfl, hOB⟩
      have hS1 := HB1.out _ _ hOB
      clear hOr
      have hOr := Lib.hid hOB
      clear hOB
      refine hK.out _ _ ?hslix322r9o12 (fun hS => ?_)
      case hslix322r9o12 => (exact hS1)
      clear hK K
      try simp only [Act.put, List.setIfInBounds_toArray, List.set_cons_zero, List.set_cons_succ]
      refine wpAnyH_take (i := 13) (oi := { dst := some 25, op := Op.move (Operand.tmp 38), type := 72, pos := "blocks.go:211", after := #[{ on := 12, ground := Ground.data }], guard := none }) (v := ?vlix322r9o13) rfl (by kernel_rfl) (by kernel_rfl) (by kernel_rfl) (fun _ _ _ h => h) (Or.inl ⟨by rfl, ?hlix322r9o13⟩) hS ?_
      case hlix322r9o13 => (intro wx hx; skip; go_simp; (try with_reducible rfl))
      try simp only [Act.put, List.setIfInBounds_toArray, List.set_cons_zero, List.set_cons_succ]
      refine wpAnyH_take (i := 14) (oi := { dst := some 39, op := Op.extract (Operand.tmp 25) 0, type := 71, pos := "blocks.go:211", after := #[{ on := 13, ground := Ground.data }], guard := none }) (v := ?vlix322r9o14) rfl (by kernel_rfl) (by kernel_rfl) (by kernel_rfl) (fun _ _ _ h => h) (Or.inl ⟨by rfl, ?hlix322r9o14⟩) hS ?_
      case hlix322r9o14 => (intro wx hx; skip; go_simp; (try with_reducible rfl))
      try simp only [Act.put, List.setIfInBounds_toArray, List.set_cons_zero, List.set_cons_succ]
      refine wpAnyH_take (i := 15) (oi := { dst := some 40, op := Op.extract (Operand.tmp 25) 1, type := 33, pos := "blocks.go:211", after := #[{ on := 13, ground := Ground.data }, { on := 17, ground := Ground.gcOnly Departure.lateStores }], guard := none }) (v := ?vlix322r9o15) rfl (by kernel_rfl) (by kernel_rfl) (by kernel_rfl) (fun _ _ _ h => h) (Or.inl ⟨by rfl, ?hlix322r9o15⟩) hS ?_
      case hlix322r9o15 => (intro wx hx; skip; go_simp; (try with_reducible rfl))
      try simp only [Act.put, List.setIfInBounds_toArray, List.set_cons_zero, List.set_cons_succ]
      refine wpAnyH_ready (rs := [17]) (by kernel_rfl) (by simp) ?_
      refine AllReadyH.cons (o := { dst := none, op := Op.store 71 (Operand.tmp 7) (Operand.tmp 39), type := 0, pos := "blocks.go:211", after := #[{ on := 16, ground := Ground.data }, { on := 14, ground := Ground.data }, { on := 12, ground := Ground.chain }, { on := 0, ground := Ground.phase }, { on := 1, ground := Ground.phase }, { on := 2, ground := Ground.phase }, { on := 3, ground := Ground.phase }, { on := 4, ground := Ground.phase }, { on := 5, ground := Ground.phase }, { on := 6, ground := Ground.phase }, { on := 7, ground := Ground.phase }, { on := 8, ground := Ground.phase }, { on := 9, ground := Ground.phase }, { on := 10, ground := Ground.phase }, { on := 11, ground := Ground.phase }, { on := 12, ground := Ground.phase }, { on := 13, ground := Ground.phase }, { on := 14, ground := Ground.phase }, { on := 15, ground := Ground.textOnly Departure.lateStores }, { on := 16, ground := Ground.phase }], guard := none }) rfl (fun K hK => ?_) AllReadyH.nil
      obtain ⟨⟨z0, z1, z2, z3, z4, z5, z6, z7, z8, z9⟩, q0, q1, q2, q3, q4, q5, q6, q7, q8, q9⟩ := node_zero hOr.out
      go_simp
      obtain ⟨wn, hwn, hOx⟩ := node_stored f0 f1 f2 f3 f4 f5 f6 f7 f8 f9 hOr.out
      rw [hwn]
      have hOn := Lib.hid hOx
      clear hwn hOx
      refine hK.out _ _ ?hs17 (fun hS => ?_)
      case hs17 => exact HB1.out _ _ hOn.out
      clear hK K hOr z0 z1 z2 z3 z4 z5 z6 z7 z8 z9 q0 q1 q2 q3 q4 q5 q6 q7 q8 q9
      have hOr := Lib.hid hOn.out
      clear hOn
      try simp only [Act.put, List.setIfInBounds_toArray, List.set_cons_zero, List.set_cons_succ]
      refine wpAnyH_take (i := 18) (oi := { dst := some 8, op := Op.assign (Operand.tmp 40), type := 33, pos := "blocks.go:211", after := #[{ on := 15, ground := Ground.data }, { on := 17, ground := Ground.chain }, { on := 0, ground := Ground.phase }, { on := 1, ground := Ground.phase }, { on := 2, ground := Ground.phase }, { on := 3, ground := Ground.phase }, { on := 4, ground := Ground.phase }, { on := 5, ground := Ground.phase }, { on := 6, ground := Ground.phase }, { on := 7, ground := Ground.phase }, { on := 8, ground := Ground.phase }, { on := 9, ground := Ground.phase }, { on := 10, ground := Ground.phase }, { on := 11, ground := Ground.phase }, { on := 12, ground := Ground.phase }, { on := 13, ground := Ground.phase }, { on := 14, ground := Ground.phase }, { on := 15, ground := Ground.phase }, { on := 16, ground := Ground.phase }, { on := 17, ground := Ground.phase }], guard := none }) (v := ?vlix322r9o18) rfl (by kernel_rfl) (by kernel_rfl) (by kernel_rfl) (fun _ _ _ h => h) (Or.inl ⟨by rfl, ?hlix322r9o18⟩) hS ?_
      case hlix322r9o18 => (intro wx hx; skip; go_simp; (try with_reducible rfl))
      try simp only [Act.put, List.setIfInBounds_toArray, List.set_cons_zero, List.set_cons_succ]
      refine wpAnyH_done (by kernel_rfl) ?_ _
      refine onlyEnd_mk ?_
      obtain ⟨z0, z1, z2, z3, z4, z5, z6, z7, z8, z9⟩ := node_have hOr.out
      have e8 := HE.out
      have hOE := Lib.hid (show Grommet.Own w0 wn (LP Qs B XM (.slice none 0 0) (.slice ad n cp) n (xs.map nzv) ++ [objP D (.deferred (some []))]) from hOr.out.less)
      obtain ⟨x1, x2⟩ := LP_r (Rs := [objP D (.deferred (some []))]) hOE.out
      obtain ⟨y1, y2⟩ := LP_l (Rs := [objP D (.deferred (some []))]) hOE.out
      have HLEN : Hid (n + 1 = (lst p).length) := Lib.hid (by rw [HLST0.out, if_neg H8.out, List.length_append, List.length_singleton, ← HLEN0.out])
      have HLST : Hid (lst p = xs ++ [f8]) := Lib.hid (by rw [HLST0.out, if_neg H8.out, H9.out])
      have e9 : ¬ (f8 : Int) = 0 := by have := H8.out; have := H9.out; omega
      clear hOr hS
      have w8 : IntKind.i64.wrap (f8 : Int) = (f8 : Int) := IntWalk.i64_in _ ⟨by omega, by have := h8l.out; omega⟩
      have hOq := hOE.out.quiet (World.grownBy_alloc wn (.cells #[.int .i64 (f8 : Int)] 3) none)
      have hrow := LP_row (Rs := [objP D (.deferred (some []))]) hOq
      have hgrow := Lib.hid (fun (w' : World) v' n' ys (hr : w'.ownsRow 0 3 1 v' n' ys) hg hb => (LP_grow (Rs := [objP D (.deferred (some []))]) hOq (v' := v') hr hg hb : Grommet.Own w0 _ _))
      have hthaw := Lib.hid (fun (w' : World) v' n' ys (hr : w'.ownsRow 0 3 1 v' n' ys) hg hb => (LP_l' (Rs := [objP D (.deferred (some []))]) hOq (v' := v') hr hg hb))
      clear hOE hOq x1 x2
      gi_wp2_with (gi_at_builtin; refine wpListIn_app rfl _ _ rfl (.slice ad n cp) n _ rfl hrow wn.heap.size (f8 : Int) rfl (heap_alloc_new wn _) (by omega) ?_)
      intro ad2 cp2 W2 r1 r2 r3
      have q1 := hgrow.out W2 _ _ _ r1 r2 (by simpa using r3)
      obtain ⟨q2, q3⟩ := hthaw.out W2 _ _ _ r1 r2 (by simpa using r3)
      obtain ⟨x1, x2⟩ := LP_r (Rs := [objP D (.deferred (some []))]) q1
      obtain ⟨x3, x4⟩ := LP_l (Rs := [objP D (.deferred (some []))]) q1
      have hOE := Lib.hid q1
      clear q1 r1 r2 r3 hgrow hthaw hrow z0 z1 z2 z3 z4 z5 z6 z7 z8 z9 y1 y2
      have hOF := LP_put (Rs := [objP D (.deferred (some []))]) hOE.out (.slice ad2 (n + 1) cp2)
      have hKF := Lib.hid (obj_last hOF)
      have hOF := Lib.hid hOF.less
      clear hOE
      gi_wp2
      refine leaves_own (D := D) hOF.out (HSOL.out _ _ _ _) hD2.out hKF.out ?_
      intro w' hw'
      have r2 := (LP_r (Rs := []) (by rw [List.append_nil]; exact hw')).1
      refine ⟨.slice ad2 (n + 1) cp2, by simp [results, Tryd.results22, go_sem, r2], ad2, cp2, n + 1, rfl, HLEN.out, ?_⟩
      rw [HLST.out]
      (try rw [List.map_append])
      exact LP_out (Rs := []) (by rw [List.append_nil]; exact hw')
    exact AllReadyH.nil
end Go.Proofs.YtmamgfjnphdecaaDoor
end
