/- The anchor of layer 3, worked out. -/
import Derived.Test.YtimihchklecabaaEvM2
import Derived.Test.YtimihchklecabaaChecked
namespace Go.Proofs.Ytimihchklecabaa
open Go.Ev

theorem works_done : isTrueC ((evQ Try.prog (fun _ => none) noQ 100000).call 10 [] Hp.empty) = true := by kernel_rfl
theorem works_ev (w : World) : Calls Try.prog 10 #[] w (Go.Ev.WorksIs w) := evQ_true (by kernel_rfl) (told_none _) (by kernel_rfl) works_done rfl w
end Go.Proofs.Ytimihchklecabaa
