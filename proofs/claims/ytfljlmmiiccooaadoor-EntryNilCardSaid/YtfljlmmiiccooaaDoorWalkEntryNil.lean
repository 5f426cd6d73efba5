/- EntryNil, worked out. -/
import Derived.Test.YtfljlmmiiccooaaDoorTab
import Derived.Test.YtfljlmmiiccooaaDoorCvX
import Derived.Test.YtfljlmmiiccooaaDoorRows
import Derived.Test.YtfljlmmiiccooaaDoorOpenGeo
import Derived.Test.YtfljlmmiiccooaaDoorOpenEnt
namespace Go.Proofs.YtfljlmmiiccooaaDoor.entryNil
open Go.Ev

def rows : List (Nat × List (List V × V)) := [
  (65, [([(.agg (.cons (.int .i64 1) (.cons (.int .i64 3) (.cons (.int .i64 11) .nil)))), (.int .u8 8), (.int .i64 2)], (.int .i64 520)), ([(.agg (.cons (.int .i64 1) (.cons (.int .i64 2) (.cons (.int .i64 9) .nil)))), (.int .u8 8), (.int .i64 1)], (.int .i64 504)), ([(.agg (.cons (.int .i64 1) (.cons (.int .i64 2) (.cons (.int .i64 9) .nil)))), (.int .u8 9), (.int .i64 1)], (.int .i64 528)), ([(.agg (.cons (.int .i64 1) (.cons (.int .i64 2) (.cons (.int .i64 9) .nil)))), (.int .u8 9), (.int .i64 2)], (.int .i64 536))]),
  (73, [([(.agg (.cons (.int .i64 1) (.cons (.int .i64 3) (.cons (.int .i64 11) .nil)))), (.int .i64 2)], (.int .i64 520)), ([(.agg (.cons (.int .i64 1) (.cons (.int .i64 2) (.cons (.int .i64 9) .nil)))), (.int .i64 1)], (.int .i64 504))]),
  (35, [([(.agg (.cons (.int .i64 1) (.cons (.int .i64 2) (.cons (.int .i64 9) .nil))))], (.bool true))]),
  (16, [([(.agg (.cons (.int .i64 1) (.cons (.int .i64 2) (.cons (.int .i64 9) .nil))))], (.int .i64 592))]),
  (86, [([(.agg (.cons (.int .u64 2) (.cons (.int .u64 1) (.cons (.int .u64 0) (.cons (.int .u64 0) (.cons (.int .u64 0) (.cons (.int .u64 0) (.cons (.int .u64 0) (.cons (.int .u64 0) (.cons (.int .u64 0) (.cons (.int .u64 0) .nil)))))))))))], (.agg (.cons (.int .u64 2) (.cons (.int .u64 1) (.cons (.int .u64 0) (.cons (.int .u64 0) (.cons (.int .u64 0) (.cons (.int .u64 0) (.cons (.int .u64 0) (.cons (.int .u64 0) (.cons (.int .u64 0) (.cons (.int .u64 0) .nil))))))))))))]),
  (74, [([(.agg (.cons (.int .i64 1) (.cons (.int .i64 2) (.cons (.int .i64 9) .nil)))), (.agg (.cons (.int .u64 2) (.cons (.int .u64 1) (.cons (.int .u64 0) (.cons (.int .u64 0) (.cons (.int .u64 0) (.cons (.int .u64 0) (.cons (.int .u64 0) (.cons (.int .u64 0) (.cons (.int .u64 0) (.cons (.int .u64 0) .nil)))))))))))], (.bool true)), ([(.agg (.cons (.int .i64 1) (.cons (.int .i64 2) (.cons (.int .i64 9) .nil)))), (.agg (.cons (.int .u64 2) (.cons (.int .u64 1) (.cons (.int .u64 0) (.cons (.int .u64 0) (.cons (.int .u64 0) (.cons (.int .u64 0) (.cons (.int .u64 0) (.cons (.int .u64 0) (.cons (.int .u64 1) (.cons (.int .u64 0) .nil)))))))))))], (.bool true))]),
  (45, [([(.agg (.cons (.int .i64 1) (.cons (.int .i64 2) (.cons (.int .i64 9) .nil)))), (.int .i64 1)], (.int .i64 528)), ([(.agg (.cons (.int .i64 1) (.cons (.int .i64 2) (.cons (.int .i64 9) .nil)))), (.int .i64 2)], (.int .i64 536))])]
theorem told : Go.Ev.Told Tryd.prog (tellC rows) := told_table (by kernel_rfl) (told_none _) (n := 100000) (by kernel_rfl)
theorem done (a0_0 : Int) (a0_1 : Int) (a0_2 : Int) (a1 : Int) (a2_1 : Int) (s2_0 : List UInt8) : isTrueC ((evQ Tryd.prog (tabGl 1) (tellC rows) 100000).call 5 [.agg (.cons (.int .i64 a0_0) (.cons (.int .i64 a0_1) (.cons (.int .i64 a0_2) .nil))), .int .i64 a1, .agg (.cons (.str s2_0) (.cons (.int .i64 a2_1) .nil))] (tabHp tab)) = true := by kernel_rfl
theorem walk (a0_0 : Int) (a0_1 : Int) (a0_2 : Int) (a1 : Int) (a2_0 : ByteArray) (a2_1 : Int) (w : World) (_ : (Lit.int .i64 a0_0).wf = true) (_ : (Lit.int .i64 a0_1).wf = true) (_ : (Lit.int .i64 a0_2).wf = true) (_ : (Lit.int .i64 a1).wf = true) (_ : (Lit.int .i64 a2_1).wf = true) (_ : a2_0.size ≤ 9223372036854775807) (ht : Lib.TabIs Tryd.prog w "math/bits.deBruijn64tab" .u8 tab) :
    Calls Tryd.prog 5 #[.agg #[.int .i64 a0_0, .int .i64 a0_1, .int .i64 a0_2], .int .i64 a1, .agg #[.string a2_0, .int .i64 a2_1]] w (WorksIs w) :=
  evQ_true_tab (by kernel_rfl) told (by kernel_rfl) (done a0_0 a0_1 a0_2 a1 a2_1 a2_0.data.toList) rfl gTab w ht
end Go.Proofs.YtfljlmmiiccooaaDoor.entryNil
