/- The document's device: whole lines, and all of it. -/
import Derived.Test.YtimihchklecabaaRdB
import Derived.BigQuiet
import Derived.Deep.QuietTactic
import Derived.StillTailTactics
import Derived.Deep.DeepCutAuto
-- OPTIONAL
namespace Go.Proofs.Ytimihchklecabaa
open Go.RowKit Go.Grommet Go.Shelf

set_option maxRecDepth 100000 in
set_option maxHeartbeats 4000000 in
theorem RLoose_any (kd kr d g n : Nat) (rs : List RW) (w0 w : World) (Ps : List Pr) (h : Grommet.Own w0 w Ps) (hD : RD Ps kd kr d g n rs) :
    Calls Try.prog 26 #[ptr d] w fun e w' => e = .returned (.int .i64 (looseR rs : Int)) ∧ w' = w := by
  have HD := Lib.hid hD
  have hf := hD.few
  have HO := Lib.hid h
  have c0 := hD.dev h
  unfold ptr
  clear h hD
  go_enter Try.func26, Try.ntmps26
  go_wp2_with fail
  go_loopw [4, 3] (fun s c wr => ∃ t : Nat, t ≤ n ∧ s = .int .i64 (t : Int) ∧ c = .int .i64 (looseR (rs.take t) : Int) ∧ wr = w) (fun s _ _ => n - (intOf s).toNat)
  case atStart => exact ⟨0, Nat.zero_le _, rfl, rfl, rfl⟩
  case round =>
    obtain ⟨t, htn', rfl, rfl, rfl⟩ := hrel
    have t0 : (0 : Int) ≤ (t : Int) := by omega
    obtain ⟨q, hq⟩ : ∃ q, looseR (rs.take t) = q := ⟨_, rfl⟩
    have hql : q ≤ n := by
      have h1 := looseR_le (rs.take t)
      rw [List.length_take] at h1
      omega
    by_cases hlt : t < n
    · as_aux_lemma =>
      have hlt' : (t : Int) < (n : Int) := by omega
      have htn : t < rs.length := by rw [HD.out.len]; omega
      have wt : IntKind.i64.wrap ((t : Int) + 1) = (t : Int) + 1 := IntWalk.i64_in _ ⟨by omega, by omega⟩
      have wq : IntKind.i64.wrap ((q : Int) + 1) = (q : Int) + 1 := IntWalk.i64_in _ ⟨by omega, by omega⟩
      obtain ⟨r, hr⟩ : ∃ r, rs[t]? = some r := ⟨rs[t], List.getElem?_eq_getElem htn⟩
      obtain ⟨_, _, f2, _⟩ := HD.out.get HO.out hr
      have hnx : looseR (rs.take (t + 1)) = q + (if r.loose then 1 else 0) := by
        rw [List.take_succ_eq_append_getElem htn, looseR_snoc, hq, (List.getElem?_eq_some_iff.1 hr).2]
      rw [hq]
      cases hlo : r.loose with
      | true =>
        rw [hlo] at f2 hnx
        have Hnx := Lib.hid hnx
        clear hnx hlo hr hq
        go_wp2
        go_roundw
        case rel => exact ⟨t + 1, by omega, by go_num, (by rw [Hnx.out]; go_num), trivial⟩
        case measure => first | omega | (simp [intOf]; omega)
      | false =>
        rw [hlo] at f2 hnx
        have Hnx := Lib.hid hnx
        clear hnx hlo hr hq
        go_wp2
        go_roundw
        case rel => exact ⟨t + 1, by omega, by go_num, (by rw [Hnx.out]; rfl), trivial⟩
        case measure => first | omega | (simp [intOf]; omega)
    · as_aux_lemma =>
      have hlt' : ¬ (t : Int) < (n : Int) := by omega
      have Hfin : Hid (looseR rs = q) := Lib.hid (by rw [← hq, List.take_of_length_le (by rw [HD.out.len]; omega)])
      rw [hq]
      clear hq
      go_wp2
      go_ret
      exact ⟨by rw [Hfin.out]; rfl, rfl⟩
end Go.Proofs.Ytimihchklecabaa
