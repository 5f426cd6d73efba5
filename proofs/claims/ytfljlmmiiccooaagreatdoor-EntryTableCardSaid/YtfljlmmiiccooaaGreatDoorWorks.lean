import Derived.Test.YtfljlmmiiccooaaGreatDoorPk15
import Derived.Test.YtfljlmmiiccooaaGreatDoorPk7
import Derived.Test.YtfljlmmiiccooaaGreatDoorRows
import Derived.Test.YtfljlmmiiccooaaGreatDoorPk13
namespace Go.Proofs.YtfljlmmiiccooaaGreatDoor.entryNames
open Go.Ev Go.RowKit
def rows : List (Nat × List (List V × V)) := [
 (90, [([(.agg (.cons (.int .i64 1) (.cons (.int .i64 3) (.cons (.int .i64 11) .nil)))), (.int .u8 8), (.int .i64 2)], (.int .i64 520)), ([(.agg (.cons (.int .i64 1) (.cons (.int .i64 2) (.cons (.int .i64 9) .nil)))), (.int .u8 8), (.int .i64 1)], (.int .i64 504)), ([(.agg (.cons (.int .i64 1) (.cons (.int .i64 2) (.cons (.int .i64 9) .nil)))), (.int .u8 9), (.int .i64 1)], (.int .i64 528)), ([(.agg (.cons (.int .i64 1) (.cons (.int .i64 2) (.cons (.int .i64 9) .nil)))), (.int .u8 9), (.int .i64 2)], (.int .i64 536))]),
 (103, [([(.agg (.cons (.int .i64 1) (.cons (.int .i64 3) (.cons (.int .i64 11) .nil)))), (.int .i64 2)], (.int .i64 520)), ([(.agg (.cons (.int .i64 1) (.cons (.int .i64 2) (.cons (.int .i64 9) .nil)))), (.int .i64 1)], (.int .i64 504))]),
 (66, [([(.agg (.cons (.int .i64 1) (.cons (.int .i64 2) (.cons (.int .i64 9) .nil))))], (.bool true))]),
 (31, [([(.agg (.cons (.int .i64 1) (.cons (.int .i64 2) (.cons (.int .i64 9) .nil))))], (.int .i64 592))]),
 (125, [([(.agg (.cons (.int .u64 2) (.cons (.int .u64 1) (.cons (.int .u64 0) (.cons (.int .u64 0) (.cons (.int .u64 0) (.cons (.int .u64 0) (.cons (.int .u64 0) (.cons (.int .u64 0) (.cons (.int .u64 0) (.cons (.int .u64 0) .nil)))))))))))], (.agg (.cons (.int .u64 2) (.cons (.int .u64 1) (.cons (.int .u64 0) (.cons (.int .u64 0) (.cons (.int .u64 0) (.cons (.int .u64 0) (.cons (.int .u64 0) (.cons (.int .u64 0) (.cons (.int .u64 0) (.cons (.int .u64 0) .nil))))))))))))]),
 (104, [([(.agg (.cons (.int .i64 1) (.cons (.int .i64 2) (.cons (.int .i64 9) .nil)))), (.agg (.cons (.int .u64 2) (.cons (.int .u64 1) (.cons (.int .u64 0) (.cons (.int .u64 0) (.cons (.int .u64 0) (.cons (.int .u64 0) (.cons (.int .u64 0) (.cons (.int .u64 0) (.cons (.int .u64 0) (.cons (.int .u64 0) .nil)))))))))))], (.bool true)), ([(.agg (.cons (.int .i64 1) (.cons (.int .i64 2) (.cons (.int .i64 9) .nil)))), (.agg (.cons (.int .u64 2) (.cons (.int .u64 1) (.cons (.int .u64 0) (.cons (.int .u64 0) (.cons (.int .u64 0) (.cons (.int .u64 0) (.cons (.int .u64 0) (.cons (.int .u64 0) (.cons (.int .u64 1) (.cons (.int .u64 0) .nil)))))))))))], (.bool true))]),
 (54, [([(.agg (.cons (.int .i64 1) (.cons (.int .i64 2) (.cons (.int .i64 9) .nil)))), (.int .i64 1)], (.int .i64 528)), ([(.agg (.cons (.int .i64 1) (.cons (.int .i64 2) (.cons (.int .i64 9) .nil)))), (.int .i64 2)], (.int .i64 536))])]
theorem told : Go.Ev.Told Tryz.prog (tellC rows) := told_table (by kernel_rfl) (told_none _) (n := 100000) (by kernel_rfl)
theorem works_done : isTrueC ((evQ Tryz.prog (tabGl 1) (tellC rows) 100000).call 6 [] (tabHp tab)) = true := by kernel_rfl
theorem works_tab (w : World) (ht : Lib.TabIs Tryz.prog w "math/bits.deBruijn64tab" .u8 tab) : Calls Tryz.prog 6 #[] w (Go.Ev.WorksIs w) := evQ_true_tab (by kernel_rfl) told (by kernel_rfl) works_done rfl gTab w ht
end Go.Proofs.YtfljlmmiiccooaaGreatDoor.entryNames
