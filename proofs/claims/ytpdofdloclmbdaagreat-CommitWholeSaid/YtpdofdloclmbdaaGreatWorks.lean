/- The anchor of layer 9, worked out. -/
import Derived.Test.YtpdofdloclmbdaaGreatEvM2
import Derived.Test.YtpdofdloclmbdaaGreatChecked
namespace Go.Proofs.YtpdofdloclmbdaaGreat
open Go.Ev

theorem works_done : isTrueC ((evQ Tryz.prog (fun _ => none) noQ 100000).call 7 [] Hp.empty) = true := by kernel_rfl
theorem works_ev (w : World) : Calls Tryz.prog 7 #[] w (Go.Ev.WorksIs w) := evQ_true (by kernel_rfl) (told_none _) (by kernel_rfl) works_done rfl w
end Go.Proofs.YtpdofdloclmbdaaGreat
