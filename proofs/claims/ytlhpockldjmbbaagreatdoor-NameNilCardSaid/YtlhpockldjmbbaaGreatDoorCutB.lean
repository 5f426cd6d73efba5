/- Calls worked out by the evaluator. -/
import Derived.Test.YtlhpockldjmbbaaGreatDoorCut0
namespace Go.Proofs.YtlhpockldjmbbaaGreatDoor
open Go.Ev

theorem t_link : stepR ((evQ Tryz.prog (tabGl 0) (tellC rows) 100000).call 8 [(.ptr 1 0), (.agg (.cons (.int .i64 1) (.cons (.int .i64 9) (.cons (.int .i64 30) .nil)))), (.str [47, 100, 47, 102]), (.str [47, 103])] (K3)) rnView ((.int .i64 0)) (K4) = true := by kernel_rfl
theorem t_rmdir1 : stepR ((evQ Tryz.prog (tabGl 0) (tellC rows) 100000).call 10 [(.ptr 1 0), (.agg (.cons (.int .i64 1) (.cons (.int .i64 9) (.cons (.int .i64 30) .nil)))), (.str [47, 100])] (K4)) rnView ((.int .i64 12)) (K4) = true := by kernel_rfl
end Go.Proofs.YtlhpockldjmbbaaGreatDoor
