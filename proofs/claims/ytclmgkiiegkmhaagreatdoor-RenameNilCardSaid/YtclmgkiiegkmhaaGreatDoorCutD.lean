/- Calls worked out by the evaluator. -/
import Derived.Test.YtclmgkiiegkmhaaGreatDoorCut0
namespace Go.Proofs.YtclmgkiiegkmhaaGreatDoor
open Go.Ev

theorem t_ren1 : stepR ((evQ Tryz.prog (tabGl 0) (tellC rows) 100000).call 7 [(.ptr 1 0), (.agg (.cons (.int .i64 1) (.cons (.int .i64 9) (.cons (.int .i64 30) .nil)))), (.str [47, 100]), (.str [47, 100, 47, 101, 47, 120])] (K4)) rnView ((.int .i64 17)) (K4) = true := by kernel_rfl
theorem t_ren2 : stepR ((evQ Tryz.prog (tabGl 0) (tellC rows) 100000).call 7 [(.ptr 1 0), (.agg (.cons (.int .i64 1) (.cons (.int .i64 9) (.cons (.int .i64 30) .nil)))), (.str [47, 102]), (.str [47, 100])] (K4)) rnView ((.int .i64 11)) (K4) = true := by kernel_rfl
theorem t_ren3 : stepR ((evQ Tryz.prog (tabGl 0) (tellC rows) 100000).call 7 [(.ptr 1 0), (.agg (.cons (.int .i64 1) (.cons (.int .i64 9) (.cons (.int .i64 30) .nil)))), (.str [47, 100]), (.str [47, 102])] (K4)) rnView ((.int .i64 10)) (K4) = true := by kernel_rfl
end Go.Proofs.YtclmgkiiegkmhaaGreatDoor
