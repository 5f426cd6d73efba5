/- Calls worked out by the evaluator. -/
import Derived.Test.YtlhpockldjmbbaaGreatDoorCut0
namespace Go.Proofs.YtlhpockldjmbbaaGreatDoor
open Go.Ev

theorem t_make2 : stepR ((evQ Tryz.prog (tabGl 0) (tellC rows) 100000).call 4 [(.ptr 1 0), (.agg (.cons (.int .i64 1) (.cons (.int .i64 9) (.cons (.int .i64 30) .nil)))), (.str [47, 100, 47, 102]), (.int .u64 1)] (K2)) rnView ((.tup (.cons (.int .i64 3) (.cons (.int .i64 0) .nil)))) (K3) = true := by kernel_rfl
end Go.Proofs.YtlhpockldjmbbaaGreatDoor
