/- AllocNil, worked out. -/
import Derived.Test.YtdblgnccjpjabaaDoorTab
import Derived.Test.YtdblgnccjpjabaaDoorCvX
import Derived.Test.YtdblgnccjpjabaaDoorRows
import Derived.Test.YtdblgnccjpjabaaDoorOpenGeo
namespace Go.Proofs.YtdblgnccjpjabaaDoor.allocNil
open Go.Ev

def rows : List (Nat × List (List V × V)) := [
  (43, [([(.agg (.cons (.int .i64 1) (.cons (.int .i64 3) (.cons (.int .i64 4) .nil))))], (.bool true))]),
  (66, [([(.agg (.cons (.int .i64 1) (.cons (.int .i64 3) (.cons (.int .i64 4) .nil)))), (.int .u8 9), (.int .i64 1)], (.int .i64 544))]),
  (34, [([(.agg (.cons (.int .i64 1) (.cons (.int .i64 3) (.cons (.int .i64 4) .nil)))), (.int .i64 1)], (.int .i64 544))])]
theorem told : Go.Ev.Told Tryd.prog (tellC rows) := told_table (by kernel_rfl) (told_none _) (n := 100000) (by kernel_rfl)
theorem done (a0_0 : Int) (a0_1 : Int) (a0_2 : Int) (a1 : Int) : isTrueC ((evQ Tryd.prog (tabGl 0) (tellC rows) 100000).call 5 [.agg (.cons (.int .i64 a0_0) (.cons (.int .i64 a0_1) (.cons (.int .i64 a0_2) .nil))), .int .i64 a1] (tabHp tab)) = true := by kernel_rfl
theorem walk (a0_0 : Int) (a0_1 : Int) (a0_2 : Int) (a1 : Int) (w : World) (_ : (Lit.int .i64 a0_0).wf = true) (_ : (Lit.int .i64 a0_1).wf = true) (_ : (Lit.int .i64 a0_2).wf = true) (_ : (Lit.int .i64 a1).wf = true) (ht : Lib.TabIs Tryd.prog w "math/bits.deBruijn64tab" .u8 tab) :
    Calls Tryd.prog 5 #[.agg #[.int .i64 a0_0, .int .i64 a0_1, .int .i64 a0_2], .int .i64 a1] w (WorksIs w) :=
  evQ_true_tab (by kernel_rfl) told (by kernel_rfl) (done a0_0 a0_1 a0_2 a1) rfl gTab w ht
end Go.Proofs.YtdblgnccjpjabaaDoor.allocNil
