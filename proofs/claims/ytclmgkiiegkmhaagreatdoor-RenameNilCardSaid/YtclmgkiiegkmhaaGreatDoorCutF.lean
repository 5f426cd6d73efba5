/- Calls worked out by the evaluator. -/
import Derived.Test.YtclmgkiiegkmhaaGreatDoorCut0
namespace Go.Proofs.YtclmgkiiegkmhaaGreatDoor
open Go.Ev

theorem t_ren5 : stepR ((evQ Tryz.prog (tabGl 0) (tellC rows) 100000).call 7 [(.ptr 1 0), (.agg (.cons (.int .i64 1) (.cons (.int .i64 9) (.cons (.int .i64 30) .nil)))), (.str [47, 100, 47, 101]), (.str [47, 101])] (K5)) rnView ((.int .i64 0)) (K6) = true := by kernel_rfl
theorem t_walk1 : stepR ((evQ Tryz.prog (tabGl 0) (tellC rows) 100000).call 31 [(.ptr 1 0), (.agg (.cons (.int .i64 1) (.cons (.int .i64 9) (.cons (.int .i64 30) .nil)))), (.str [47, 101, 47, 103])] (K6)) rnView ((.tup (.cons (.int .i64 4) (.cons (.int .i64 0) .nil)))) (K6) = true := by kernel_rfl
theorem t_ren6 : stepR ((evQ Tryz.prog (tabGl 0) (tellC rows) 100000).call 7 [(.ptr 1 0), (.agg (.cons (.int .i64 1) (.cons (.int .i64 9) (.cons (.int .i64 30) .nil)))), (.str [47, 101]), (.str [47, 101])] (K6)) rnView ((.int .i64 0)) (K6) = true := by kernel_rfl
end Go.Proofs.YtclmgkiiegkmhaaGreatDoor
