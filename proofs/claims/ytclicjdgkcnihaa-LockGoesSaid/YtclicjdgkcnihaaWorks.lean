/- The anchor of layer 22, worked out. -/
import Derived.Test.YtclicjdgkcnihaaEvM2
import Derived.Test.YtclicjdgkcnihaaChecked
namespace Go.Proofs.Ytclicjdgkcnihaa
open Go.Ev

theorem works_done : isTrueC ((evQ Try.prog (fun _ => none) noQ 100000).call 7 [] Hp.empty) = true := by kernel_rfl
theorem works_ev (w : World) : Calls Try.prog 7 #[] w (Go.Ev.WorksIs w) := evQ_true (by kernel_rfl) (told_none _) (by kernel_rfl) works_done rfl w
end Go.Proofs.Ytclicjdgkcnihaa
