/- The anchor of layer 10, worked out. -/
import Derived.Test.YtkeghhchbdkaoaaEvM2
import Derived.Test.YtkeghhchbdkaoaaChecked
namespace Go.Proofs.Ytkeghhchbdkaoaa
open Go.Ev

theorem works_done : isTrueC ((evQ Try.prog (fun _ => none) noQ 100000).call 9 [] Hp.empty) = true := by kernel_rfl
theorem works_ev (w : World) : Calls Try.prog 9 #[] w (Go.Ev.WorksIs w) := evQ_true (by kernel_rfl) (told_none _) (by kernel_rfl) works_done rfl w
end Go.Proofs.Ytkeghhchbdkaoaa
