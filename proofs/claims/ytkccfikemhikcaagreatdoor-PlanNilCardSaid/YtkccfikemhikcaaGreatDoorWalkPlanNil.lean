/- PlanNil, worked out. -/
import Derived.Test.YtkccfikemhikcaaGreatDoorTab
import Derived.Test.YtkccfikemhikcaaGreatDoorCvX
import Derived.Test.YtkccfikemhikcaaGreatDoorRows
import Derived.Test.YtkccfikemhikcaaGreatDoorOpenGeo
import Derived.Test.YtkccfikemhikcaaGreatDoorOpenReq
namespace Go.Proofs.YtkccfikemhikcaaGreatDoor.planNil
open Go.Ev

def rows : List (Nat × List (List V × V)) := [
  (24, [([(.agg (.cons (.int .i64 1) (.cons (.int .i64 11) (.cons (.int .i64 25) .nil))))], (.bool true))]),
  (28, [([(.agg (.cons (.int .i64 1) (.cons (.int .i64 11) (.cons (.int .i64 25) .nil)))), (.int .i64 1)], (.int .i64 504))]),
  (29, [([(.agg (.cons (.int .i64 1) (.cons (.int .i64 2) (.cons (.int .i64 2) .nil))))], (.bool true)), ([(.agg (.cons (.int .i64 1) (.cons (.int .i64 9) (.cons (.int .i64 30) .nil))))], (.bool true))]),
  (121, [([(.agg (.cons (.int .i64 1) (.cons (.int .i64 2) (.cons (.int .i64 2) .nil)))), (.int .u8 2), (.int .i64 0)], (.int .i64 8)), ([(.agg (.cons (.int .i64 1) (.cons (.int .i64 9) (.cons (.int .i64 30) .nil)))), (.int .u8 8), (.int .i64 1)], (.int .i64 504)), ([(.agg (.cons (.int .i64 1) (.cons (.int .i64 9) (.cons (.int .i64 30) .nil)))), (.int .u8 8), (.int .i64 2)], (.int .i64 520)), ([(.agg (.cons (.int .i64 1) (.cons (.int .i64 9) (.cons (.int .i64 30) .nil)))), (.int .u8 9), (.int .i64 1)], (.int .i64 640)), ([(.agg (.cons (.int .i64 1) (.cons (.int .i64 9) (.cons (.int .i64 30) .nil)))), (.int .u8 9), (.int .i64 2)], (.int .i64 648))]),
  (84, [([(.int .i64 0)], (.int .i64 8))]),
  (31, [([(.agg (.cons (.int .i64 1) (.cons (.int .i64 9) (.cons (.int .i64 30) .nil))))], (.int .i64 872))]),
  (83, [([(.int .i64 0), (.int .u8 3), (.int .i64 1)], (.int .i64 28)), ([(.int .i64 0), (.int .u8 3), (.int .i64 2)], (.int .i64 40)), ([(.int .i64 0), (.int .u8 4), (.int .i64 0)], (.int .i64 64))]),
  (44, [([(.int .i64 0), (.int .i64 1)], (.int .i64 28)), ([(.int .i64 0), (.int .i64 2)], (.int .i64 40))]),
  (88, [([(.int .i64 0), (.int .i64 0)], (.int .i64 64))]),
  (126, [([(.agg (.cons (.int .i64 1) (.cons (.int .i64 9) (.cons (.int .i64 30) .nil)))), (.int .i64 1)], (.int .i64 504)), ([(.agg (.cons (.int .i64 1) (.cons (.int .i64 9) (.cons (.int .i64 30) .nil)))), (.int .i64 2)], (.int .i64 520))]),
  (195, [([(.agg (.cons (.int .u64 2) (.cons (.int .u64 1) (.cons (.int .u64 0) (.cons (.int .u64 0) (.cons (.int .u64 0) (.cons (.int .u64 0) (.cons (.int .u64 0) (.cons (.int .u64 0) (.cons (.int .u64 0) (.cons (.int .u64 0) .nil)))))))))))], (.agg (.cons (.int .u64 2) (.cons (.int .u64 1) (.cons (.int .u64 0) (.cons (.int .u64 0) (.cons (.int .u64 0) (.cons (.int .u64 0) (.cons (.int .u64 0) (.cons (.int .u64 0) (.cons (.int .u64 0) (.cons (.int .u64 0) .nil))))))))))))]),
  (127, [([(.agg (.cons (.int .i64 1) (.cons (.int .i64 9) (.cons (.int .i64 30) .nil)))), (.agg (.cons (.int .u64 2) (.cons (.int .u64 1) (.cons (.int .u64 0) (.cons (.int .u64 0) (.cons (.int .u64 0) (.cons (.int .u64 0) (.cons (.int .u64 0) (.cons (.int .u64 0) (.cons (.int .u64 0) (.cons (.int .u64 0) .nil)))))))))))], (.bool true)), ([(.agg (.cons (.int .i64 1) (.cons (.int .i64 9) (.cons (.int .i64 30) .nil)))), (.agg (.cons (.int .u64 2) (.cons (.int .u64 1) (.cons (.int .u64 0) (.cons (.int .u64 0) (.cons (.int .u64 0) (.cons (.int .u64 0) (.cons (.int .u64 0) (.cons (.int .u64 0) (.cons (.int .u64 1) (.cons (.int .u64 0) .nil)))))))))))], (.bool true))]),
  (204, [([(.agg (.cons (.int .i64 1) (.cons (.int .i64 9) (.cons (.int .i64 30) .nil)))), (.int .i64 1)], (.int .i64 640)), ([(.agg (.cons (.int .i64 1) (.cons (.int .i64 9) (.cons (.int .i64 30) .nil)))), (.int .i64 2)], (.int .i64 648))])]
theorem told : Go.Ev.Told Tryz.prog (tellC rows) := told_table (by kernel_rfl) (told_none _) (n := 100000) (by kernel_rfl)
theorem done (a0_0 : Int) (a0_1 : Int) (a0_2 : Int) (a1 : Int) (a2 : Int) (a3 : Int) (a4_0 : Int) (a4_1 : Int) (a4_2 : Int) (a4_3 : Int) (a4_4 : Int) (s4_5 : List UInt8) (s4_6 : List UInt8) (s4_7 : List UInt8) : isTrueC ((evQ Tryz.prog (tabGl 0) (tellC rows) 100000).call 3 [.agg (.cons (.int .i64 a0_0) (.cons (.int .i64 a0_1) (.cons (.int .i64 a0_2) .nil))), .int .i64 a1, .int .u64 a2, .int .u64 a3, .agg (.cons (.int .u8 a4_0) (.cons (.int .u8 a4_1) (.cons (.int .u64 a4_2) (.cons (.int .u64 a4_3) (.cons (.int .u64 a4_4) (.cons (.str s4_5) (.cons (.str s4_6) (.cons (.str s4_7) .nil))))))))] (tabHp tab)) = true := by kernel_rfl
theorem walk (a0_0 : Int) (a0_1 : Int) (a0_2 : Int) (a1 : Int) (a2 : Int) (a3 : Int) (a4_0 : Int) (a4_1 : Int) (a4_2 : Int) (a4_3 : Int) (a4_4 : Int) (a4_5 : ByteArray) (a4_6 : ByteArray) (a4_7 : ByteArray) (w : World) (_ : (Lit.int .i64 a0_0).wf = true) (_ : (Lit.int .i64 a0_1).wf = true) (_ : (Lit.int .i64 a0_2).wf = true) (_ : (Lit.int .i64 a1).wf = true) (_ : (Lit.int .u64 a2).wf = true) (_ : (Lit.int .u64 a3).wf = true) (_ : (Lit.int .u8 a4_0).wf = true) (_ : (Lit.int .u8 a4_1).wf = true) (_ : (Lit.int .u64 a4_2).wf = true) (_ : (Lit.int .u64 a4_3).wf = true) (_ : (Lit.int .u64 a4_4).wf = true) (_ : a4_5.size ≤ 9223372036854775807) (_ : a4_6.size ≤ 9223372036854775807) (_ : a4_7.size ≤ 9223372036854775807) (ht : Lib.TabIs Tryz.prog w "math/bits.deBruijn64tab" .u8 tab) :
    Calls Tryz.prog 3 #[.agg #[.int .i64 a0_0, .int .i64 a0_1, .int .i64 a0_2], .int .i64 a1, .int .u64 a2, .int .u64 a3, .agg #[.int .u8 a4_0, .int .u8 a4_1, .int .u64 a4_2, .int .u64 a4_3, .int .u64 a4_4, .string a4_5, .string a4_6, .string a4_7]] w (WorksIs w) :=
  evQ_true_tab (by kernel_rfl) told (by kernel_rfl) (done a0_0 a0_1 a0_2 a1 a2 a3 a4_0 a4_1 a4_2 a4_3 a4_4 a4_5.data.toList a4_6.data.toList a4_7.data.toList) rfl gTab w ht
end Go.Proofs.YtkccfikemhikcaaGreatDoor.planNil
