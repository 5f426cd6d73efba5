/- The anchor of layer 11, worked out. -/
import Derived.Test.YtdpkpphjpihhkaaEvM2
import Derived.Test.YtdpkpphjpihhkaaChecked
namespace Go.Proofs.Ytdpkpphjpihhkaa
open Go.Ev

theorem works_done : isTrueC ((evQ Try.prog (fun _ => none) noQ 100000).call 8 [] Hp.empty) = true := by kernel_rfl
theorem works_ev (w : World) : Calls Try.prog 8 #[] w (Go.Ev.WorksIs w) := evQ_true (by kernel_rfl) (told_none _) (by kernel_rfl) works_done rfl w
end Go.Proofs.Ytdpkpphjpihhkaa
