/- The same words? (the document's Same) -/
import Derived.Test.YtimihchklecabaaRows
import Derived.Test.YtimihchklecabaaBase6
import Derived.BigQuiet
import Derived.Deep.QuietTactic
-- OPTIONAL
namespace Go.Proofs.Ytimihchklecabaa
open Go.RowKit Go.Grommet

def SameIs (v : Bool) (w : World) (e : Ending) (w' : World) : Prop := e = .returned (.bool v) ∧ w.grownBy w' none

set_option maxHeartbeats 1000000 in
theorem Same_any (ad bd : Option Addr) (l m c d : Nat) (xs ys : List Nat) (w : World) (hx : Words w ad l xs) (hy : Words w bd m ys) :
    Calls Try.prog 29 #[.slice ad l c, .slice bd m d] w (SameIs (decide (xs = ys)) w) := by
  have hfx := hx.fits
  have hfy := hy.fits
  by_cases hlm : l = m
  · subst hlm
    have h1 : ((l : Int) != (l : Int)) = false := by simp
    go_enter Try.func29, Try.ntmps29
    go_wp2_with fail
    go_loopw [5] (fun i wr => ∃ k : Nat, k ≤ l ∧ i = .int .i64 (k : Int) ∧ xs.take k = ys.take k ∧ w.grownBy wr none) (fun i _ => l - (intOf i).toNat)
    case atStart => exact ⟨0, Nat.zero_le _, rfl, rfl, World.grownBy.refl _ _⟩
    case round =>
      obtain ⟨k, hk, rfl, he, hg⟩ := hrel
      have HE := Lib.hid he
      clear he
      have k0 : (0 : Int) ≤ (k : Int) := by omega
      by_cases hlt : k < l
      · have hlt' : (k : Int) < (l : Int) := by omega
        obtain ⟨q, o, rfl, c1⟩ := (hx.keep hg (by simp)).cell k hlt
        obtain ⟨q', o', rfl, c2⟩ := (hy.keep hg (by simp)).cell k hlt
        have HX : Hid (xs.take (k + 1) = xs.take k ++ [xs.getD k 0]) := by
          show _ = _
          rw [List.take_succ_eq_append_getElem (by rw [hx.len]; exact hlt)]; simp [hx.len, hlt]
        have HY : Hid (ys.take (k + 1) = ys.take k ++ [ys.getD k 0]) := by
          show _ = _
          rw [List.take_succ_eq_append_getElem (by rw [hy.len]; exact hlt)]; simp [hy.len, hlt]
        by_cases hv : xs.getD k 0 = ys.getD k 0
        · rw [hv] at c1 HX
          have HN := Lib.hid (show xs.take (k + 1) = ys.take (k + 1) by rw [HX.out, HY.out, HE.out])
          generalize ys.getD k 0 = V at c1 c2
          have h2 : ((V : Int) != (V : Int)) = false := by simp
          clear hv
          go_wp2_with fail
          go_quiet (fail)
          go_wp2
          go_roundw
          case rel => exact ⟨k + 1, by omega, by go_num, HN.out, grown_trans hg (grown_drewN _ _ _)⟩
          case measure => simp [intOf]; omega
        · have HN := Lib.hid (show decide (xs = ys) = false by
            rw [decide_eq_false_iff_not]; intro h; subst h; exact hv rfl)
          generalize xs.getD k 0 = V at c1 hv
          generalize ys.getD k 0 = U at c2 hv
          have h2 : ((V : Int) != (U : Int)) = true := by simp; omega
          have h3 : ¬ (V : Int) = (U : Int) := by omega
          clear hv
          rw [HN.out]
          go_wp2_with fail
          go_quiet (fail)
          go_wp2
          go_ret
          exact ⟨rfl, grown_trans hg (grown_drewN _ _ _)⟩
      · have hlt' : ¬ (k : Int) < (l : Int) := by omega
        have HN := Lib.hid (show decide (xs = ys) = true by
          rw [decide_eq_true_eq]
          have := HE.out
          rwa [List.take_of_length_le (by rw [hx.len]; omega), List.take_of_length_le (by rw [hy.len]; omega)] at this)
        have HR := Lib.hid (show SameIs (decide (xs = ys)) w (.returned (.bool true)) wr from ⟨by rw [HN.out], hg⟩)
        go_wp2
        go_ret
        exact HR.out
  · have h1 : ((l : Int) != (m : Int)) = true := by simp; omega
    have h2 : ¬ (l : Int) = (m : Int) := by omega
    have HN := Lib.hid (show decide (xs = ys) = false by
      rw [decide_eq_false_iff_not]; intro h; subst h; exact hlm (hx.len.symm.trans hy.len))
    rw [HN.out]
    clear hlm
    go_enter Try.func29, Try.ntmps29
    go_wp2
    go_ret
    exact ⟨rfl, World.grownBy.refl _ _⟩
end Go.Proofs.Ytimihchklecabaa
