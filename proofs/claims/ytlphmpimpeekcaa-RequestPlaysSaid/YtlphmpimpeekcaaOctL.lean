/- The methods of a tape, each by one plain function of where it stands. -/
import Derived.Test.YtlphmpimpeekcaaOctK
namespace Go.Proofs.Ytlphmpimpeekcaa
open Go.RowKit Go.Grommet

/-- What Byte answers, and where the tape stands then. -/
def byteR (all : List UInt8) (a : Nat) (t : Bool) : Nat × Nat × Bool :=
  if t = true then (0, a, true) else if a < all.length then ((all.getD a 0).toNat, a + 1, false) else (0, a, true)

def numberR (all : List UInt8) (a : Nat) (t : Bool) : Nat × Nat × Bool :=
  if t = true then (0, a, true) else match numAt (all.drop a) with
    | none => (0, a, true)
    | some (n, k) => (n, a + k, false)

def textR (all : List UInt8) (a : Nat) (t : Bool) (most : Int) : List UInt8 × Nat × Bool :=
  if t = true then ([], a, true) else match numAt (all.drop a) with
    | none => ([], a, true)
    | some (n, k) => if most < 0 ∨ most < (n : Int) ∨ all.length < a + k + n then ([], a, true) else ((all.drop (a + k)).take n, a + k + n, false)

theorem str_nil : str [] = ⟨#[]⟩ := rfl

theorem Byte_any (base g d : Nat) (all : List UInt8) (a : Nat) (t : Bool) (w : World) (H : TapeIs w base g d all a t) :
    Calls Try.prog 24 #[.pointer (some ⟨g, 0, none⟩)] w (StepIs (.int .u8 ((byteR all a t).1 : Int)) w base g d all (byteR all a t).2.1 (byteR all a t).2.2) := by
  cases t with
  | true => exact Byte_step base g d all a true 0 w (Lib.hid (next_byte_torn base g d all a _ w H))
  | false =>
    by_cases h : a < all.length
    · have e : byteR all a false = ((all.getD a 0).toNat, a + 1, false) := by unfold byteR; rw [if_neg (by decide), if_pos h]
      rw [e]
      exact Byte_step base g d all (a + 1) false _ w (Lib.hid (next_byte_yes base g d all a (a + 1) _ w H (Lib.hid (byteThere_yes base g d all a false w H h))))
    · have e : byteR all a false = (0, a, true) := by unfold byteR; rw [if_neg (by decide), if_neg h]
      rw [e]
      exact Byte_step base g d all a true 0 w (Lib.hid (next_byte_no base g d all a w H (Lib.hid (byteThere_no base g d all a false w H (by omega)))))

theorem Number_step_any (base g d : Nat) (all : List UInt8) (a : Nat) (t : Bool) (w : World) (H : TapeIs w base g d all a t) :
    Calls Try.prog 21 #[.pointer (some ⟨g, 0, none⟩)] w (StepIs (.int .u64 ((numberR all a t).1 : Int)) w base g d all (numberR all a t).2.1 (numberR all a t).2.2) := by
  cases t with
  | true => exact Number_step base g d all a true 0 w (Lib.hid (next_uint64_torn base g d all a _ w H))
  | false =>
    have h1 := numberThere_any base g d all a false w H
    unfold NumberPost at h1
    cases hd : numAt (all.drop a) with
    | none =>
      rw [hd] at h1
      have e : numberR all a false = (0, a, true) := by unfold numberR; rw [if_neg (by decide), hd]
      rw [e]
      exact Number_step base g d all a true 0 w (Lib.hid (next_uint64_no base g d all a w H (Lib.hid h1)))
    | some nk =>
      obtain ⟨n, k⟩ := nk
      rw [hd] at h1
      have e : numberR all a false = (n, a + k, false) := by unfold numberR; rw [if_neg (by decide), hd]
      rw [e]
      exact Number_step base g d all (a + k) false _ w (Lib.hid (next_uint64_yes base g d all a (a + k) _ w H (Lib.hid h1)))

theorem Text_step_any (base g d : Nat) (all : List UInt8) (a : Nat) (t : Bool) (most : Int) (w : World) (hm : most < 9223372036854775808) (H : TapeIs w base g d all a t) :
    Calls Try.prog 23 #[.pointer (some ⟨g, 0, none⟩), .int .i64 most] w (StepIs (.string (str (textR all a t most).1)) w base g d all (textR all a t most).2.1 (textR all a t most).2.2) := by
  have Hw : TapeIs (w.alloc (.cells #[.int .i64 most] 3)) base g d all a t := H.keep (row := none) (World.grownBy_alloc _ _ _) (by simp) (by simp)
  have hc : (w.alloc (.cells #[.int .i64 most] 3)).cell? ⟨w.heap.size, 0, none⟩ = some (.int .i64 most) := cell_one_new _ _ _ 0 _ rfl
  cases t with
  | true => exact Text_step base g d all a true most ⟨#[]⟩ w (Lib.hid (next_string_torn base g d all a _ _ Hw))
  | false =>
    cases hd : numAt (all.drop a) with
    | none =>
      have e : textR all a false most = ([], a, true) := by unfold textR; rw [if_neg (by decide), hd]
      rw [e]
      exact Text_step base g d all a true most ⟨#[]⟩ w (Lib.hid (next_string_no base g d _ all a _ Hw (Lib.hid (Text1_no base g d _ all false most _ hc (Lib.hid (textThere_none base g d all a false most _ Hw hd))))))
    | some nk =>
      obtain ⟨n, k⟩ := nk
      by_cases h0 : most < 0
      · have e : textR all a false most = ([], a, true) := by unfold textR; rw [if_neg (by decide), hd]; exact if_pos (Or.inl h0)
        rw [e]
        exact Text_step base g d all a true most ⟨#[]⟩ w (Lib.hid (next_string_no base g d _ all a _ Hw (Lib.hid (Text1_no base g d _ all false most _ hc (Lib.hid (textThere_neg base g d all a false most n k _ Hw hd h0))))))
      · obtain ⟨m, rfl⟩ := Int.eq_ofNat_of_zero_le (show 0 ≤ most by omega)
        by_cases h1 : m < n
        · have e : textR all a false m = ([], a, true) := by unfold textR; rw [if_neg (by decide), hd]; exact if_pos (Or.inr (Or.inl (by omega)))
          rw [e]
          exact Text_step base g d all a true m ⟨#[]⟩ w (Lib.hid (next_string_no base g d _ all a _ Hw (Lib.hid (Text1_no base g d _ all false m _ hc (Lib.hid (textThere_long base g d all a false m n k _ Hw hd h1 (by omega)))))))
        · by_cases h2 : all.length < a + k + n
          · have e : textR all a false m = ([], a, true) := by unfold textR; rw [if_neg (by decide), hd]; exact if_pos (Or.inr (Or.inr h2))
            rw [e]
            exact Text_step base g d all a true m ⟨#[]⟩ w (Lib.hid (next_string_no base g d _ all a _ Hw (Lib.hid (Text1_no base g d _ all false m _ hc (Lib.hid (textThere_cut base g d all a false m n k _ Hw hd (by omega) (by omega) h2))))))
          · have e : textR all a false m = ((all.drop (a + k)).take n, a + k + n, false) := by
              unfold textR; rw [if_neg (by decide), hd]
              exact if_neg (by intro h; rcases h with h | h | h <;> omega)
            rw [e]
            exact Text_step base g d all (a + k + n) false m _ w (Lib.hid (next_string_yes base g d _ all a (a + k + n) _ _ Hw (Lib.hid (Text1_yes base g d _ (a + k + n) all false _ m _ hc (Lib.hid (textThere_yes base g d all a false m n k _ Hw hd (by omega) (by omega) (by omega)))))))

theorem End_any (base g d : Nat) (all : List UInt8) (a : Nat) (t : Bool) (w : World) (H : TapeIs w base g d all a t) :
    Calls Try.prog 26 #[.pointer (some ⟨g, 0, none⟩)] w (StepIs (.bool (!t && decide (a = all.length))) w base g d all a t) := by
  cases t with
  | true => exact End_torn base g d all a w H
  | false => exact End_whole base g d all a w H

theorem Torn_any (base g d : Nat) (all : List UInt8) (a : Nat) (t : Bool) (w : World) (H : TapeIs w base g d all a t) :
    Calls Try.prog 54 #[.pointer (some ⟨g, 0, none⟩)] w (StepIs (.bool t) w base g d all a t) :=
  (Torn_some g t w H.facts.2.2.1).mono fun _ w' ⟨he, hw⟩ => by subst hw; exact ⟨he, H, World.grownBy.refl _ _⟩
end Go.Proofs.Ytlphmpimpeekcaa
