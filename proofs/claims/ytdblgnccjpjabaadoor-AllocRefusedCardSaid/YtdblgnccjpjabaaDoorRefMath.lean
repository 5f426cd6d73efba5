/- AllocRefused: plain mathematics. -/
import Derived.Test.YtdblgnccjpjabaaDoorAlcW
import Derived.Test.YtdblgnccjpjabaaDoorTwoMath
namespace Go.Proofs.YtdblgnccjpjabaaDoor.allocRefused
open Go.RowKit Go.Grommet

/-- What stands in the words of the maps. -/
structure RW (B : Nat) (xs : List Nat) : Prop where
  len : xs.length = 520 + 8 * B
  i : xs.getD 472 0 = 3
  b : xs.getD 480 0 = 1
theorem rw_fmt (B : Nat) (h1 : 2 ≤ B) : RW B (fmtL 1 2 B (264 + 208 * 1) (520 + 8 * B)) :=
  ⟨length_fmtL _ _ _ _ _, by rw [fmt_get _ _ _ _ _ _ (by omega)]; unfold fmtAt; simp, by rw [fmt_get _ _ _ _ _ _ (by omega)]; unfold fmtAt; simp⟩

theorem bits3 : (3 : Nat).testBit 0 = true ∧ (3 : Nat).testBit 1 = true ∧ (1 : Nat).testBit 0 = true ∧ (1 : Nat).testBit 1 = false ∧ setB 3 1 false = 1 := by decide +kernel
theorem one_bit (i : Nat) (h : 1 ≤ i) : (1 : Nat).testBit i = false := by
  show (2 ^ 0 : Nat).testBit i = false
  rw [Nat.testBit_two_pow]; simp; omega
theorem cnt2 (f : Nat → Bool) : cntF f 2 = (f 0).toNat + (f 1).toNat := by show 0 + (f 0).toNat + (f 1).toNat = _; omega
theorem cnt_one {f : Nat → Bool} {B : Nat} (h0 : f 0 = true) (h : ∀ i, 1 ≤ i → i < B → f i = false) (hB : 1 ≤ B) : cntF f B = 1 := by
  obtain ⟨d, rfl⟩ : ∃ d, B = 1 + d := ⟨B - 1, by omega⟩
  rw [cntF_add, cntF_congr (g := fun _ => false) d (fun i hi => h (1 + i) (by omega) (by omega)), cntF_none]
  show 0 + (f 0).toNat + 0 = 1
  rw [h0]; rfl

/-- What the calls answer. -/
structure Cs (B : Nat) (xs : List Nat) (n : Int) (en bl x : Int) (L : List (Nat × Nat)) : Prop where
  e1 : (giveE xs [] (264 + 208 * 1) 2 n : Int) = en
  l1 : giveL xs [] (264 + 208 * 1) 2 n = L
  e2 : (giveE xs L (272 + 208 * 1) B n : Int) = bl
  l2 : giveL xs L (272 + 208 * 1) B n = L
  fx : ((2 : Nat) : Int) - (cntF (mbit xs L (264 + 208 * 1)) 2 : Int) = x
  fy : (B : Int) - (cntF (mbit xs L (272 + 208 * 1)) B : Int) = (B : Int) - 1
theorem got0 (xs : List Nat) (p : Nat) : gotV xs [] p = xs.getD p 0 := rfl
theorem rI {B : Nat} {xs : List Nat} (h : RW B xs) (i : Nat) (hi : i < 64) : mbit xs [] (264 + 208 * 1) i = (3 : Nat).testBit i := by
  unfold mbit; rw [got0, show 264 + 208 * 1 + i / 64 = 472 from by omega, h.i, Nat.mod_eq_of_lt hi]
theorem rB {B : Nat} {xs : List Nat} {L : List (Nat × Nat)} (h : RW B xs) (hL : L = [] ∨ L = [(472, 1)]) (i : Nat) (hi : i < 64) : mbit xs L (272 + 208 * 1) i = (1 : Nat).testBit i := by
  have e : gotV xs L 480 = 1 := by rcases hL with rfl | rfl <;> exact h.b
  unfold mbit; rw [show 272 + 208 * 1 + i / 64 = 480 from by omega, e, Nat.mod_eq_of_lt hi]
theorem fyV {B : Nat} {xs : List Nat} {L : List (Nat × Nat)} (h : RW B xs) (h1 : 2 ≤ B) (h2 : B ≤ 10) (hL : L = [] ∨ L = [(472, 1)]) : (B : Int) - (cntF (mbit xs L (272 + 208 * 1)) B : Int) = (B : Int) - 1 := by
  rw [cnt_one (by rw [rB h hL 0 (by omega)]; exact bits3.2.2.1) (fun i a b => by rw [rB h hL i (by omega)]; exact one_bit i a) (by omega)]; rfl
theorem giveB {B : Nat} {xs : List Nat} {L : List (Nat × Nat)} (h : RW B xs) (h1 : 2 ≤ B) (h2 : B ≤ 10) (hL : L = [] ∨ L = [(472, 1)]) (n : Int) : (giveE xs L (272 + 208 * 1) B n : Int) = (if n < 1 ∨ (B : Int) ≤ n then 1 else 3) ∧ giveL xs L (272 + 208 * 1) B n = L := by
  unfold giveE giveL
  by_cases c : n < 1 ∨ (B : Int) ≤ n
  · rw [if_pos c, if_pos c, if_pos c]; exact ⟨rfl, rfl⟩
  · rw [if_neg c, if_neg c, if_neg c, rB h hL n.toNat (by omega), one_bit _ (by omega)]; exact ⟨rfl, rfl⟩
theorem cases3 {B : Nat} {xs : List Nat} (h : RW B xs) (h1 : 2 ≤ B) (h2 : B ≤ 10) (n : Int) :
    (n = 1 ∧ Cs B xs n 0 3 1 [(472, 1)]) ∨ (2 ≤ n ∧ n < (B : Int) ∧ Cs B xs n 1 3 0 []) ∨ ((n < 1 ∨ (B : Int) ≤ n) ∧ Cs B xs n 1 1 0 []) := by
  have i0 := (rI h 0 (by omega)).trans bits3.1
  have i1 := (rI h 1 (by omega)).trans bits3.2.1
  by_cases c1 : n = 1
  · refine .inl ⟨c1, ?_⟩
    subst c1
    obtain ⟨b1, b2⟩ := giveB h h1 h2 (.inr rfl) 1
    have hg : giveL xs [] (264 + 208 * 1) 2 1 = [(472, 1)] ∧ (giveE xs [] (264 + 208 * 1) 2 1 : Int) = 0 := by
      have hr : 0 ≤ ((472 : Nat) : Int) ∧ ((472 : Nat) : Int) < (xs.length : Int) := by rw [h.len]; omega
      have hin : inB 1 ((2 : Nat) : Int) = true := by decide
      have hb : mbit xs [] (264 + 208 * 1) (1 : Int).toNat = true := i1
      have hv : gotV xs [] (264 + 208 * 1 + (1 : Int).toNat / 64) = 3 := by show xs.getD 472 0 = 3; exact h.i
      have hc : ¬ ((1 : Int) < 1 ∨ ((2 : Nat) : Int) ≤ 1) := by omega
      constructor
      · unfold giveL
        rw [if_neg hc, hb, if_pos rfl]
        unfold setMI
        rw [hin, if_pos rfl, hv]
        unfold putI
        rw [show 264 + 208 * 1 + (1 : Int).toNat / 64 = 472 from rfl, if_pos hr, show (1 : Int).toNat % 64 = 1 from rfl, bits3.2.2.2.2]
        rfl
      · unfold giveE
        rw [if_neg hc, hb, if_pos rfl]
        unfold setME
        rw [hin, if_pos rfl]
        unfold putEI
        rw [show 264 + 208 * 1 + (1 : Int).toNat / 64 = 472 from rfl, if_pos hr]
        rfl
    refine ⟨hg.2, hg.1, by rw [b1, if_neg (by omega)], b2, ?_, fyV h h1 h2 (.inr rfl)⟩
    have g1 : gotV xs [(472, 1)] 472 = 1 := rfl
    have m0 : mbit xs [(472, 1)] (264 + 208 * 1) 0 = true := by unfold mbit; rw [show 264 + 208 * 1 + 0 / 64 = 472 from rfl, g1]; exact bits3.2.2.1
    have m1 : mbit xs [(472, 1)] (264 + 208 * 1) 1 = false := by unfold mbit; rw [show 264 + 208 * 1 + 1 / 64 = 472 from rfl, g1]; exact bits3.2.2.2.1
    rw [cnt2, m0, m1]; rfl
  · have hg : giveL xs [] (264 + 208 * 1) 2 n = [] ∧ (giveE xs [] (264 + 208 * 1) 2 n : Int) = 1 := by
      unfold giveL giveE
      rw [if_pos (by omega), if_pos (by omega)]; exact ⟨rfl, rfl⟩
    obtain ⟨b1, b2⟩ := giveB h h1 h2 (.inl rfl) n
    have hx : ((2 : Nat) : Int) - (cntF (mbit xs [] (264 + 208 * 1)) 2 : Int) = 0 := by rw [cnt2, i0, i1]; rfl
    by_cases c2 : n < 1 ∨ (B : Int) ≤ n
    · exact .inr (.inr ⟨c2, hg.2, hg.1, by rw [b1, if_pos c2], b2, hx, fyV h h1 h2 (.inl rfl)⟩)
    · exact .inr (.inl ⟨by omega, by omega, hg.2, hg.1, by rw [b1, if_neg c2], b2, hx, fyV h h1 h2 (.inl rfl)⟩)
theorem clr2 {B : Nat} {xs : List Nat} (h : RW B xs) : ClrR (mbit xs [] (264 + 208 * 1)) 2 0 false := by
  refine .inr ⟨rfl, rfl, fun j hj => ?_⟩
  rw [rI h j (by omega)]
  have : j = 0 ∨ j = 1 := by omega
  rcases this with rfl | rfl
  · exact bits3.1
  · exact bits3.2.1

end Go.Proofs.YtdblgnccjpjabaaDoor.allocRefused
