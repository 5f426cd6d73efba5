/- The anchor of layer 16, worked out. -/
import Derived.Test.YtljcmlcdamlbcaaEvM2
import Derived.Test.YtljcmlcdamlbcaaChecked
namespace Go.Proofs.Ytljcmlcdamlbcaa
open Go.Ev

theorem works_done : isTrueC ((evQ Try.prog (fun _ => none) noQ 100000).call 6 [] Hp.empty) = true := by kernel_rfl
theorem works_ev (w : World) : Calls Try.prog 6 #[] w (Go.Ev.WorksIs w) := evQ_true (by kernel_rfl) (told_none _) (by kernel_rfl) works_done rfl w
end Go.Proofs.Ytljcmlcdamlbcaa
