/- BitmapFills: plain mathematics. -/
import Derived.Test.YtjjdggdbohjjnaaDoorTwoMath
-- OPTIONAL
namespace Go.Proofs.YtjjdggdbohjjnaaDoor
open Go.RowKit Go.Grommet

/-- All bits of a map below t are 1, the others are as they were. -/
structure Fil (xs : List Nat) (fr t : Nat) (L : List (Nat × Nat)) : Prop where
  bits : ∀ p b, b < 64 → (gotV xs L p).testBit b = if 64 * fr ≤ 64 * p + b ∧ 64 * p + b < 64 * fr + t then true else (xs.getD p 0).testBit b
theorem Fil.nil (xs : List Nat) (fr : Nat) : Fil xs fr 0 [] := ⟨fun p b _ => by rw [if_neg (by omega)]; rfl⟩
theorem mbit_orig (xs : List Nat) (fr j : Nat) : mbit xs [] fr j = (xs.getD (fr + j / 64) 0).testBit (j % 64) := rfl
theorem Fil.bit {xs : List Nat} {fr t : Nat} {L : List (Nat × Nat)} (h : Fil xs fr t L) (j : Nat) : mbit xs L fr j = if j < t then true else mbit xs [] fr j := by
  rw [mbit_orig]
  unfold mbit
  rw [h.bits _ _ (by omega)]
  by_cases hj : j < t
  · rw [if_pos hj, if_pos (by omega)]
  · rw [if_neg hj, if_neg (by omega)]
theorem Fil.set {xs : List Nat} {fr t n k : Nat} {L : List (Nat × Nat)} (h : Fil xs fr t L) (hl : L.length < 96 ∨ fidx L (fr + k / 64) ≠ none) (hV : ∀ n, gotV xs L n < 18446744073709551616) (hk : k < n) (hx : fr + k / 64 < xs.length) (htk : t ≤ k) (ho : ∀ j, t ≤ j → j < k → mbit xs [] fr j = true) :
    Fil xs fr (k + 1) (setMI xs L fr n (k : Int) true) := by
  refine ⟨fun p b hb => ?_⟩
  have hin : inB (k : Int) n = true := by unfold inB; simp; omega
  have hr : 0 ≤ ((fr + k / 64 : Nat) : Int) ∧ ((fr + k / 64 : Nat) : Int) < (xs.length : Int) := by omega
  have e : setMI xs L fr n (k : Int) true = putL L (fr + k / 64) (setB (gotV xs L (fr + k / 64)) (k % 64) true) := by
    unfold setMI putI
    rw [hin, Int.toNat_natCast]
    simp only [if_true]
    rw [if_pos hr, Int.toNat_natCast]
  rw [e, got_put hl]
  by_cases hp : p = fr + k / 64
  · rw [if_pos hp, setB_bit true (by omega) (hV _)]
    by_cases hbk : b = k % 64
    · rw [if_pos hbk, if_pos (by omega)]
    · rw [if_neg hbk, ← hp, h.bits p b hb]
      by_cases h1 : 64 * fr ≤ 64 * p + b ∧ 64 * p + b < 64 * fr + t
      · rw [if_pos h1, if_pos (by omega)]
      · rw [if_neg h1]
        by_cases h2 : 64 * fr ≤ 64 * p + b ∧ 64 * p + b < 64 * fr + (k + 1)
        · rw [if_pos h2]
          have := ho (64 * p + b - 64 * fr) (by omega) (by omega)
          rw [mbit_orig, show fr + (64 * p + b - 64 * fr) / 64 = p from by omega, show (64 * p + b - 64 * fr) % 64 = b from by omega] at this
          exact this
        · rw [if_neg h2]
  · rw [if_neg hp, h.bits p b hb]
    by_cases h1 : 64 * fr ≤ 64 * p + b ∧ 64 * p + b < 64 * fr + t
    · rw [if_pos h1, if_pos (by omega)]
    · rw [if_neg h1]
      by_cases h2 : 64 * fr ≤ 64 * p + b ∧ 64 * p + b < 64 * fr + (k + 1)
      · rw [if_pos h2]
        have := ho (64 * p + b - 64 * fr) (by omega) (by omega)
        rw [mbit_orig, show fr + (64 * p + b - 64 * fr) / 64 = p from by omega, show (64 * p + b - 64 * fr) % 64 = b from by omega] at this
        exact this
      · rw [if_neg h2]
/-- At the end. -/
theorem Fil.done {xs : List Nat} {fr t n : Nat} {L : List (Nat × Nat)} (h : Fil xs fr t L) (htn : t ≤ n) (ha : ∀ j, j < n → mbit xs L fr j = true) (i : Nat) :
    (gotV xs L (i / 64)).testBit (i % 64) = if 64 * fr ≤ i ∧ i < 64 * fr + n then true else (xs.getD (i / 64) 0).testBit (i % 64) := by
  by_cases h1 : 64 * fr ≤ i ∧ i < 64 * fr + n
  · rw [if_pos h1]
    have := ha (i - 64 * fr) (by omega)
    unfold mbit at this
    rw [show fr + (i - 64 * fr) / 64 = i / 64 from by omega, show (i - 64 * fr) % 64 = i % 64 from by omega] at this
    exact this
  · rw [if_neg h1, h.bits _ _ (by omega), if_neg (by omega)]
/-- What a loop's test of a bit asks. -/
theorem bit_facts (V j : Nat) (b : Bool) (hb : V.testBit (j % 64) = b) : ∃ q r D E : Nat, j / 64 = q ∧ j % 64 = r ∧ (j : Int) / 64 = (q : Int) ∧ (j : Int) % 64 = (r : Int) ∧ IntKind.u64.wrap (r : Int) = (r : Int) ∧ (r : Int) ≤ 64 ∧ (V : Int) / 2 ^ r = (D : Int) ∧ (D : Int) % 2 = (E : Int) ∧ ((E : Int) == 1) = b ∧ E ≤ 1 := by
  refine ⟨j / 64, j % 64, V / 2 ^ (j % 64), V / 2 ^ (j % 64) % 2, rfl, rfl, by omega, by omega, IntWalk.u64_in _ ⟨by omega, by omega⟩, by omega, ?_, by omega, ?_, by omega⟩
  · simp
  · rw [div_bit, hb]; cases b <;> rfl
end Go.Proofs.YtjjdggdbohjjnaaDoor
