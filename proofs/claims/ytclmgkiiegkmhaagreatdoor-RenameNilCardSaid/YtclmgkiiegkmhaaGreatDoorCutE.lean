/- Calls worked out by the evaluator. -/
import Derived.Test.YtclmgkiiegkmhaaGreatDoorCut0
namespace Go.Proofs.YtclmgkiiegkmhaaGreatDoor
open Go.Ev

theorem t_ren4 : stepR ((evQ Tryz.prog (tabGl 0) (tellC rows) 100000).call 7 [(.ptr 1 0), (.agg (.cons (.int .i64 1) (.cons (.int .i64 9) (.cons (.int .i64 30) .nil)))), (.str [47, 102]), (.str [47, 100, 47, 101, 47, 103])] (K4)) rnView ((.int .i64 0)) (K5) = true := by kernel_rfl
theorem t_formatS : stepR ((evQ Tryz.prog (tabGl 0) (tellC rows) 100000).call 6 [(.agg (.cons (.int .i64 1) (.cons (.int .i64 5) (.cons (.int .i64 11) .nil))))] (tabHp tab)) rnRow ((.slice 1 0 656 656 true)) (K7) = true := by kernel_rfl
theorem t_newS : stepR ((evQ Tryz.prog (tabGl 0) (tellC rows) 100000).call 5 [(.slice 1 0 656 656 true)] (K7)) rnNew ((.ptr 1 0)) (K8) = true := by kernel_rfl
end Go.Proofs.YtclmgkiiegkmhaaGreatDoor
