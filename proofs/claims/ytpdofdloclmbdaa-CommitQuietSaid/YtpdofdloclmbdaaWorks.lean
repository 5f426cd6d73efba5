/- The anchor of layer 9, worked out. -/
import Derived.Test.YtpdofdloclmbdaaEvM2
import Derived.Test.YtpdofdloclmbdaaChecked
namespace Go.Proofs.Ytpdofdloclmbdaa
open Go.Ev

theorem works_done : isTrueC ((evQ Try.prog (fun _ => none) noQ 100000).call 6 [] Hp.empty) = true := by kernel_rfl
theorem works_ev (w : World) : Calls Try.prog 6 #[] w (Go.Ev.WorksIs w) := evQ_true (by kernel_rfl) (told_none _) (by kernel_rfl) works_done rfl w
end Go.Proofs.Ytpdofdloclmbdaa
