/- ViewNil, walked. -/
import Derived.Test.YtdohnfiaiganbaaViewH
namespace Go.Proofs.Ytdohnfiaiganbaa.viewNil
open Go.RowKit Go.Grommet

set_option maxHeartbeats 2000000 in
theorem walk (a v : Int) (w : World) (_ : (Lit.int .i64 a).wf = true) (_ : (Lit.int .u64 v).wf = true) : Calls Try.prog 6 #[.int .i64 a, .int .u64 v] w (WorksIs w) := by
  go_enter Try.func6, Try.ntmps6
  go_wp2_with fail
  refine (Drop_nil _).mono ?_
  rintro e w1 ⟨rfl, rfl⟩
  go_wp2_with fail
  refine (Len_nil _).mono ?_
  rintro e w1 ⟨rfl, rfl⟩
  go_wp2_with fail
  refine (Get_nil _ _).mono ?_
  rintro e w1 ⟨rfl, rfl⟩
  go_wp2_with fail
  refine (Put_nil _ _ _).mono ?_
  rintro e w1 ⟨rfl, rfl⟩
  go_wp2_with fail
  refine (Writes_nil _).mono ?_
  rintro e w1 ⟨rfl, rfl⟩
  go_wp2_with fail
  refine (Flat_nil _).mono ?_
  rintro e w1 ⟨rfl, rfl⟩
  go_wp2_with fail
  refine (works_any _).mono ?_
  rintro e w1 ⟨rfl, hg⟩
  go_wp2
  go_ret
  exact ⟨rfl, hg⟩
end Go.Proofs.Ytdohnfiaiganbaa.viewNil
