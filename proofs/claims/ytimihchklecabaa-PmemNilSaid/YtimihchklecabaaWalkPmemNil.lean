/- PmemNil, worked out. -/
import Derived.Test.YtimihchklecabaaEvW
import Derived.Test.YtimihchklecabaaChecked
import Derived.Test.YtimihchklecabaaRows
namespace Go.Proofs.Ytimihchklecabaa.pmemNil
open Go.Ev

theorem done (a v : Int) : isTrue (evFn Try.prog (fun _ => none) 1000 5 [.int .i64 a, .int .u64 v] Hp.empty) = true := by kernel_rfl
theorem walk (a v : Int) (w : World) (_ : (Lit.int .i64 a).wf = true) (_ : (Lit.int .u64 v).wf = true) : Calls Try.prog 5 #[.int .i64 a, .int .u64 v] w (WorksIs w) :=
  ev_true (by kernel_rfl) (done a v) rfl w
end Go.Proofs.Ytimihchklecabaa.pmemNil
