/- Calls worked out by the evaluator. -/
import Derived.Test.YtclmgkiiegkmhaaGreatDoorCut0
namespace Go.Proofs.YtclmgkiiegkmhaaGreatDoor
open Go.Ev

theorem t_format : stepR ((evQ Tryz.prog (tabGl 0) (tellC rows) 100000).call 6 [(.agg (.cons (.int .i64 1) (.cons (.int .i64 9) (.cons (.int .i64 30) .nil))))] (tabHp tab)) rnRow ((.slice 1 0 872 872 true)) (K0) = true := by kernel_rfl
theorem t_new : stepR ((evQ Tryz.prog (tabGl 0) (tellC rows) 100000).call 5 [(.slice 1 0 872 872 true)] (K0)) rnNew ((.ptr 1 0)) (K1) = true := by kernel_rfl
theorem t_make1 : stepR ((evQ Tryz.prog (tabGl 0) (tellC rows) 100000).call 30 [(.ptr 1 0), (.agg (.cons (.int .i64 1) (.cons (.int .i64 9) (.cons (.int .i64 30) .nil)))), (.str [47, 100]), (.int .u64 2)] (K1)) rnView ((.tup (.cons (.int .i64 2) (.cons (.int .i64 0) .nil)))) (K2) = true := by kernel_rfl
theorem t_writes : stepR ((evQ Tryz.prog (tabGl 0) (tellC rows) 100000).call 8 [(.ptr 1 0)] (K8)) rnView (.nilslice) (K8) = true := by kernel_rfl
end Go.Proofs.YtclmgkiiegkmhaaGreatDoor
