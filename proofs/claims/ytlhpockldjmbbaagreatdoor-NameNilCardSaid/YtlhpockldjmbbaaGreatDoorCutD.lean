/- Calls worked out by the evaluator. -/
import Derived.Test.YtlhpockldjmbbaaGreatDoorCut0
namespace Go.Proofs.YtlhpockldjmbbaaGreatDoor
open Go.Ev

theorem t_make3 : stepR ((evQ Tryz.prog (tabGl 0) (tellC rows) 100000).call 4 [(.ptr 1 0), (.agg (.cons (.int .i64 1) (.cons (.int .i64 9) (.cons (.int .i64 30) .nil)))), (.str [47, 101]), (.int .u64 1)] (K6)) rnView ((.tup (.cons (.int .i64 2) (.cons (.int .i64 0) .nil)))) (K7) = true := by kernel_rfl
theorem t_unlink2 : stepR ((evQ Tryz.prog (tabGl 0) (tellC rows) 100000).call 9 [(.ptr 1 0), (.agg (.cons (.int .i64 1) (.cons (.int .i64 9) (.cons (.int .i64 30) .nil)))), (.str [47])] (K7)) rnView ((.int .i64 13)) (K7) = true := by kernel_rfl
theorem t_formatS : stepR ((evQ Tryz.prog (tabGl 0) (tellC rows) 100000).call 7 [(.agg (.cons (.int .i64 1) (.cons (.int .i64 5) (.cons (.int .i64 11) .nil))))] (tabHp tab)) rnRow ((.slice 1 0 656 656 true)) (K8) = true := by kernel_rfl
theorem t_newS : stepR ((evQ Tryz.prog (tabGl 0) (tellC rows) 100000).call 6 [(.slice 1 0 656 656 true)] (K8)) rnNew ((.ptr 1 0)) (K9) = true := by kernel_rfl
theorem t_make4 : stepR ((evQ Tryz.prog (tabGl 0) (tellC rows) 100000).call 4 [(.ptr 1 0), (.agg (.cons (.int .i64 1) (.cons (.int .i64 5) (.cons (.int .i64 11) .nil)))), (.str [47, 97]), (.int .u64 3)] (K9)) rnView ((.tup (.cons (.int .i64 0) (.cons (.int .i64 1) .nil)))) (K9) = true := by kernel_rfl
theorem t_make5 : stepR ((evQ Tryz.prog (tabGl 0) (tellC rows) 100000).call 4 [(.ptr 1 0), (.agg (.cons (.int .i64 1) (.cons (.int .i64 5) (.cons (.int .i64 11) .nil)))), (.str [47]), (.int .u64 2)] (K9)) rnView ((.tup (.cons (.int .i64 0) (.cons (.int .i64 13) .nil)))) (K9) = true := by kernel_rfl
theorem t_rmdir3 : stepR ((evQ Tryz.prog (tabGl 0) (tellC rows) 100000).call 10 [(.ptr 1 0), (.agg (.cons (.int .i64 1) (.cons (.int .i64 5) (.cons (.int .i64 11) .nil)))), (.str [47])] (K9)) rnView ((.int .i64 13)) (K9) = true := by kernel_rfl
theorem t_link2 : stepR ((evQ Tryz.prog (tabGl 0) (tellC rows) 100000).call 8 [(.ptr 1 0), (.agg (.cons (.int .i64 1) (.cons (.int .i64 5) (.cons (.int .i64 11) .nil)))), (.str [47]), (.str [47, 98])] (K9)) rnView ((.int .i64 11)) (K9) = true := by kernel_rfl
theorem t_writes : stepR ((evQ Tryz.prog (tabGl 0) (tellC rows) 100000).call 13 [(.ptr 1 0)] (K9)) rnView (.nilslice) (K9) = true := by kernel_rfl
end Go.Proofs.YtlhpockldjmbbaaGreatDoor
