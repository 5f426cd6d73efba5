import Derived.Test.YtfljlmmiiccooaaGreatDoorEvM2
import Derived.Test.YtfljlmmiiccooaaGreatDoorChecked
section
namespace Go.Proofs.YtfljlmmiiccooaaGreatDoor
open Go.Ev
theorem node_ok (x0 x1 x2 x3 x4 x5 x6 x7 x8 x9 : Int) : okC ((evQ Tryz.prog (fun _ => none) noQ 100000).call 125 [.agg (.cons (.int .u64 x0) (.cons (.int .u64 x1) (.cons (.int .u64 x2) (.cons (.int .u64 x3) (.cons (.int .u64 x4) (.cons (.int .u64 x5) (.cons (.int .u64 x6) (.cons (.int .u64 x7) (.cons (.int .u64 x8) (.cons (.int .u64 x9) .nil))))))))))] Hp.empty) = true := by kernel_rfl
theorem node_val (x0 x1 x2 x3 x4 x5 x6 x7 x8 x9 : Int) : valC ((evQ Tryz.prog (fun _ => none) noQ 100000).call 125 [.agg (.cons (.int .u64 x0) (.cons (.int .u64 x1) (.cons (.int .u64 x2) (.cons (.int .u64 x3) (.cons (.int .u64 x4) (.cons (.int .u64 x5) (.cons (.int .u64 x6) (.cons (.int .u64 x7) (.cons (.int .u64 x8) (.cons (.int .u64 x9) .nil))))))))))] Hp.empty) = .agg (.cons (.int .u64 x0) (.cons (.int .u64 x1) (.cons (.int .u64 x2) (.cons (.int .u64 x3) (.cons (.int .u64 x4) (.cons (.int .u64 x5) (.cons (.int .u64 x6) (.cons (.int .u64 x7) (.cons (.int .u64 x8) (.cons (.int .u64 x9) .nil)))))))))) := by kernel_rfl
theorem node_any (x0 x1 x2 x3 x4 x5 x6 x7 x8 x9 : Int) (w : World) : Calls Tryz.prog 125 #[.agg #[.int .u64 x0, .int .u64 x1, .int .u64 x2, .int .u64 x3, .int .u64 x4, .int .u64 x5, .int .u64 x6, .int .u64 x7, .int .u64 x8, .int .u64 x9]] w fun e w' => e = .returned (.agg #[.int .u64 x0, .int .u64 x1, .int .u64 x2, .int .u64 x3, .int .u64 x4, .int .u64 x5, .int .u64 x6, .int .u64 x7, .int .u64 x8, .int .u64 x9]) ∧ w.grownBy w' none :=
 evQ_val (by kernel_rfl) (told_none _) (by kernel_rfl) (node_ok x0 x1 x2 x3 x4 x5 x6 x7 x8 x9) (node_val x0 x1 x2 x3 x4 x5 x6 x7 x8 x9) rfl rfl w
end Go.Proofs.YtfljlmmiiccooaaGreatDoor
end
