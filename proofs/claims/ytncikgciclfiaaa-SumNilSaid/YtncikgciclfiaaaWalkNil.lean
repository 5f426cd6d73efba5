/- SumNil, walked. -/
import Derived.Test.YtncikgciclfiaaaSumC
namespace Go.Proofs.Ytncikgciclfiaaa.sumNil
open Go.RowKit Go.Grommet

set_option maxHeartbeats 1000000 in
theorem walk (a0 : Int) (w : World) (_w0 : (Lit.int .u64 a0).wf = true) : Calls Try.prog 5 #[.int .u64 a0] w (WorksIs w) := by
  go_enter Try.func5, Try.ntmps5
  go_wp2_with fail
  refine (Add_nil _ _).mono ?_
  rintro e w1 ⟨rfl, rfl⟩
  go_wp2_with fail
  refine (Now_nil _).mono ?_
  rintro e w2 ⟨rfl, rfl⟩
  go_wp2_with fail
  refine (works_any _).mono ?_
  rintro e w5 ⟨rfl, hg⟩
  go_wp2
  go_ret
  exact ⟨rfl, hg⟩
end Go.Proofs.Ytncikgciclfiaaa.sumNil
