/- Calls worked out by the evaluator. -/
import Derived.Test.YtclmgkiiegkmhaaGreatDoorCut0
namespace Go.Proofs.YtclmgkiiegkmhaaGreatDoor
open Go.Ev

theorem t_make3 : stepR ((evQ Tryz.prog (tabGl 0) (tellC rows) 100000).call 30 [(.ptr 1 0), (.agg (.cons (.int .i64 1) (.cons (.int .i64 9) (.cons (.int .i64 30) .nil)))), (.str [47, 102]), (.int .u64 1)] (K3)) rnView ((.tup (.cons (.int .i64 4) (.cons (.int .i64 0) .nil)))) (K4) = true := by kernel_rfl
theorem t_ren8 : stepR ((evQ Tryz.prog (tabGl 0) (tellC rows) 100000).call 7 [(.ptr 1 0), (.agg (.cons (.int .i64 1) (.cons (.int .i64 5) (.cons (.int .i64 11) .nil)))), (.str [47, 97]), (.str [47, 98])] (K8)) rnView ((.int .i64 6)) (K8) = true := by kernel_rfl
theorem t_ren9 : stepR ((evQ Tryz.prog (tabGl 0) (tellC rows) 100000).call 7 [(.ptr 1 0), (.agg (.cons (.int .i64 0) (.cons (.int .i64 0) (.cons (.int .i64 0) .nil)))), (.str [47, 97]), (.str [47, 98])] (K8)) rnView ((.int .i64 1)) (K8) = true := by kernel_rfl
end Go.Proofs.YtclmgkiiegkmhaaGreatDoor
