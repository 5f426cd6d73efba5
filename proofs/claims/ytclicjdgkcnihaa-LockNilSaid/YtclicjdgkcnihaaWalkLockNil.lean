/- LockNil, worked out. -/
import Derived.Test.YtclicjdgkcnihaaCvE
import Derived.Test.YtclicjdgkcnihaaChecked
import Derived.Test.YtclicjdgkcnihaaRows
namespace Go.Proofs.Ytclicjdgkcnihaa.lockNil
open Go.Ev

theorem done (a b : Int) : isTrueC ((evC Try.prog (fun _ => none) 1000).call 4 [.int .i64 a, .int .i64 b] Hp.empty) = true := by kernel_rfl
theorem walk (a b : Int) (w : World) (_ : (Lit.int .i64 a).wf = true) (_ : (Lit.int .i64 b).wf = true) : Calls Try.prog 4 #[.int .i64 a, .int .i64 b] w (WorksIs w) :=
  ev_true (by kernel_rfl) (by kernel_rfl) (isTrueC_eq _ _ (done a b)) rfl w
end Go.Proofs.Ytclicjdgkcnihaa.lockNil
