/- The document's Of: words that are none at once. -/
import Derived.Test.YtjhfipgjnlhoaaaLayQ2
-- OPTIONAL
namespace Go.Proofs.Ytjhfipgjnlhoaaa
open Go.RowKit Go.Grommet

/-- What the document's Of answers: three numbers and whether they are any. -/
def ROfIs (v : Option (Int × Int × Int)) (w : World) (e : Ending) (w' : World) : Prop :=
  e = .returned (.tuple #[gv (v.getD (0, 0, 0)).1 (v.getD (0, 0, 0)).2.1 (v.getD (0, 0, 0)).2.2, .bool v.isSome]) ∧ w.grownBy w' none
theorem rofIs_none {v : Option (Int × Int × Int)} {w w' : World} (h : v = none) (hg : w.grownBy w' none) : ROfIs v w (.returned (.tuple #[.agg #[.int .i64 0, .int .i64 0, .int .i64 0], .bool false])) w' := by subst h; exact ⟨rfl, hg⟩

set_option maxRecDepth 100000 in
set_option maxHeartbeats 1000000 in
theorem ROf_short (ad : Option Addr) (l cap : Nat) (ws : List Nat) (w : World) (h : Words w ad l ws) (hl : l < 8) : Calls Try.prog 9 #[.slice ad l cap] w (ROfIs (ofV ws) w) := by
  have hv : ofV ws = none := by unfold ofV; rw [if_neg (by rw [h.len]; omega)]
  have hl' : (l : Int) < 8 := by omega
  have hr := fun hg => rofIs_none (w := w) (w' := w.alloc (.cells #[.int .i64 0, .int .i64 0, .int .i64 0] 27)) hv hg
  have HR := Lib.hid (hr (World.grownBy_alloc w _ none))
  clear hr hv hl h
  go_enter Try.func9, Try.ntmps9
  go_wp2
  exact bodyPost_ret (v := .tuple #[.agg #[.int .i64 0, .int .i64 0, .int .i64 0], .bool false]) (by simp [results, Try.results9, go_sem]) rfl HR.out

set_option maxRecDepth 100000 in
set_option maxHeartbeats 1000000 in
theorem ROf_magic (ad : Option Addr) (l cap : Nat) (ws : List Nat) (w : World) (h : Words w ad l ws) (hl : ¬ l < 8) (hm : ws.getD 0 0 ≠ 32762617960297063) : Calls Try.prog 9 #[.slice ad l cap] w (ROfIs (ofV ws) w) := by
  have hv : ofV ws = none := by unfold ofV; exact if_neg (fun x => hm x.2.1)
  have hl' : ¬ (l : Int) < 8 := by omega
  have hl0 : (0 : Int) < (l : Int) := by omega
  obtain ⟨q, o, rfl, c0⟩ := h.cell 0 (by omega)
  rw [Nat.add_zero] at c0
  have c0a := (World.grownBy_alloc w (.cells #[.int .i64 0, .int .i64 0, .int .i64 0] 27) none).cell c0 (by simp)
  have e1 : (((ws.getD 0 0 : Nat) : Int) != 32762617960297063) = true := by
    have : ((ws.getD 0 0 : Nat) : Int) ≠ 32762617960297063 := by omega
    simpa using this
  generalize ws.getD 0 0 = m at c0a e1
  have hr := fun hg => rofIs_none (w := w) (w' := w.alloc (.cells #[.int .i64 0, .int .i64 0, .int .i64 0] 27)) hv hg
  have HR := Lib.hid (hr (World.grownBy_alloc w _ none))
  clear hr hv hl h hm c0
  go_enter Try.func9, Try.ntmps9
  go_wp2
  exact bodyPost_ret (v := .tuple #[.agg #[.int .i64 0, .int .i64 0, .int .i64 0], .bool false]) (by simp [results, Try.results9, go_sem]) rfl HR.out
end Go.Proofs.Ytjhfipgjnlhoaaa
