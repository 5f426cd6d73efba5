/- Package path: of no view; a few names. -/
import Derived.Test.YtljcmlcdamlbcaaEvM2
import Derived.Test.YtljcmlcdamlbcaaChecked
namespace Go.Proofs.Ytljcmlcdamlbcaa
open Go.Ev

theorem WalkNil_ok (a b c : Int) (s : ByteArray) : okC ((evQ Try.prog (fun _ => none) noQ 100000).call 13 [.nilptr, .agg (.cons (.int .i64 a) (.cons (.int .i64 b) (.cons (.int .i64 c) .nil))), .raw (.string s) rfl] Hp.empty) = true := by kernel_rfl
theorem WalkNil_val (a b c : Int) (s : ByteArray) : valC ((evQ Try.prog (fun _ => none) noQ 100000).call 13 [.nilptr, .agg (.cons (.int .i64 a) (.cons (.int .i64 b) (.cons (.int .i64 c) .nil))), .raw (.string s) rfl] Hp.empty) = .tup (.cons (.int .i64 0) (.cons (.int .i64 2) .nil)) := by kernel_rfl
theorem WalkNil_any (a b c : Int) (s : ByteArray) (w : World) : Calls Try.prog 13 #[.pointer none, .agg #[.int .i64 a, .int .i64 b, .int .i64 c], .string s] w fun e w' => e = .returned (.tuple #[.int .i64 0, .int .i64 2]) ∧ w.grownBy w' none :=
  evQ_val (by kernel_rfl) (told_none _) (by kernel_rfl) (WalkNil_ok a b c s) (WalkNil_val a b c s) rfl rfl w

theorem ParentNil_ok (a b c : Int) (s : ByteArray) : okC ((evQ Try.prog (fun _ => none) noQ 100000).call 14 [.nilptr, .agg (.cons (.int .i64 a) (.cons (.int .i64 b) (.cons (.int .i64 c) .nil))), .raw (.string s) rfl] Hp.empty) = true := by kernel_rfl
theorem ParentNil_val (a b c : Int) (s : ByteArray) : valC ((evQ Try.prog (fun _ => none) noQ 100000).call 14 [.nilptr, .agg (.cons (.int .i64 a) (.cons (.int .i64 b) (.cons (.int .i64 c) .nil))), .raw (.string s) rfl] Hp.empty) = .tup (.cons (.int .i64 0) (.cons (.str []) (.cons (.int .i64 2) .nil))) := by kernel_rfl
theorem ParentNil_any (a b c : Int) (s : ByteArray) (w : World) : Calls Try.prog 14 #[.pointer none, .agg #[.int .i64 a, .int .i64 b, .int .i64 c], .string s] w fun e w' => e = .returned (.tuple #[.int .i64 0, .string ⟨#[]⟩, .int .i64 2]) ∧ w.grownBy w' none :=
  evQ_val (by kernel_rfl) (told_none _) (by kernel_rfl) (ParentNil_ok a b c s) (ParentNil_val a b c s) rfl rfl w

theorem WithinNil_ok (a b c x y : Int) : okC ((evQ Try.prog (fun _ => none) noQ 100000).call 15 [.nilptr, .agg (.cons (.int .i64 a) (.cons (.int .i64 b) (.cons (.int .i64 c) .nil))), .int .i64 x, .int .i64 y] Hp.empty) = true := by kernel_rfl
theorem WithinNil_val (a b c x y : Int) : valC ((evQ Try.prog (fun _ => none) noQ 100000).call 15 [.nilptr, .agg (.cons (.int .i64 a) (.cons (.int .i64 b) (.cons (.int .i64 c) .nil))), .int .i64 x, .int .i64 y] Hp.empty) = .tup (.cons (.bool false) (.cons (.int .i64 2) .nil)) := by kernel_rfl
theorem WithinNil_any (a b c x y : Int) (w : World) : Calls Try.prog 15 #[.pointer none, .agg #[.int .i64 a, .int .i64 b, .int .i64 c], .int .i64 x, .int .i64 y] w fun e w' => e = .returned (.tuple #[.bool false, .int .i64 2]) ∧ w.grownBy w' none :=
  evQ_val (by kernel_rfl) (told_none _) (by kernel_rfl) (WithinNil_ok a b c x y) (WithinNil_val a b c x y) rfl rfl w

theorem JoinNil_ok  : okC ((evQ Try.prog (fun _ => none) noQ 100000).call 10 [.nilslice] Hp.empty) = true := by kernel_rfl
theorem JoinNil_val  : valC ((evQ Try.prog (fun _ => none) noQ 100000).call 10 [.nilslice] Hp.empty) = .str [47] := by kernel_rfl
theorem JoinNil_any  (w : World) : Calls Try.prog 10 #[.slice none 0 0] w fun e w' => e = .returned (.string ⟨#[47]⟩) ∧ w.grownBy w' none :=
  evQ_val (by kernel_rfl) (told_none _) (by kernel_rfl) (JoinNil_ok ) (JoinNil_val ) rfl rfl w

theorem MayA_ok  : okC ((evQ Try.prog (fun _ => none) noQ 100000).call 12 [.str [97]] Hp.empty) = true := by kernel_rfl
theorem MayA_val  : valC ((evQ Try.prog (fun _ => none) noQ 100000).call 12 [.str [97]] Hp.empty) = .bool true := by kernel_rfl
theorem MayA_any  (w : World) : Calls Try.prog 12 #[.string ⟨#[97]⟩] w fun e w' => e = .returned (.bool true) ∧ w.grownBy w' none :=
  evQ_val (by kernel_rfl) (told_none _) (by kernel_rfl) (MayA_ok ) (MayA_val ) rfl rfl w

theorem MayNo_ok  : okC ((evQ Try.prog (fun _ => none) noQ 100000).call 12 [.str []] Hp.empty) = true := by kernel_rfl
theorem MayNo_val  : valC ((evQ Try.prog (fun _ => none) noQ 100000).call 12 [.str []] Hp.empty) = .bool false := by kernel_rfl
theorem MayNo_any  (w : World) : Calls Try.prog 12 #[.string ⟨#[]⟩] w fun e w' => e = .returned (.bool false) ∧ w.grownBy w' none :=
  evQ_val (by kernel_rfl) (told_none _) (by kernel_rfl) (MayNo_ok ) (MayNo_val ) rfl rfl w
end Go.Proofs.Ytljcmlcdamlbcaa
