/- What these calls come to. -/
import Derived.Test.YtclmgkiiegkmhaaGreatDoorCutA
import Derived.Test.YtclmgkiiegkmhaaGreatDoorCutB
import Derived.Test.YtclmgkiiegkmhaaGreatDoorCutC
import Derived.Test.YtclmgkiiegkmhaaGreatDoorCutD
import Derived.Test.YtclmgkiiegkmhaaGreatDoorCutE
import Derived.Test.YtclmgkiiegkmhaaGreatDoorCutF
namespace Go.Proofs.YtclmgkiiegkmhaaGreatDoor
open Go.Ev

theorem c_make1 {w0 w : World} {B O : Nat} (h : LivesV 0 w0 B O K1 w) : Calls Tryz.prog 30 #[.pointer (some ⟨B, O, none⟩), .agg #[.int .i64 1, .int .i64 9, .int .i64 30], .string ⟨#[47, 100]⟩, .int .u64 2] w fun e w' => e = .returned (.tuple #[.int .i64 2, .int .i64 0]) ∧ LivesV 0 w0 B O K2 w' :=
  step_view (by kernel_rfl) told (by kernel_rfl) t_make1 (of_decide_eq_true (by kernel_rfl)) (of_decide_eq_true (by kernel_rfl)) (inBs_ok (by kernel_rfl)) (fun ρ h1 h2 => by subst h1 h2; rfl) (fun _ => rfl) h
theorem c_make2 {w0 w : World} {B O : Nat} (h : LivesV 0 w0 B O K2 w) : Calls Tryz.prog 30 #[.pointer (some ⟨B, O, none⟩), .agg #[.int .i64 1, .int .i64 9, .int .i64 30], .string ⟨#[47, 100, 47, 101]⟩, .int .u64 2] w fun e w' => e = .returned (.tuple #[.int .i64 3, .int .i64 0]) ∧ LivesV 0 w0 B O K3 w' :=
  step_view (by kernel_rfl) told (by kernel_rfl) t_make2 (of_decide_eq_true (by kernel_rfl)) (of_decide_eq_true (by kernel_rfl)) (inBs_ok (by kernel_rfl)) (fun ρ h1 h2 => by subst h1 h2; rfl) (fun _ => rfl) h
theorem c_make3 {w0 w : World} {B O : Nat} (h : LivesV 0 w0 B O K3 w) : Calls Tryz.prog 30 #[.pointer (some ⟨B, O, none⟩), .agg #[.int .i64 1, .int .i64 9, .int .i64 30], .string ⟨#[47, 102]⟩, .int .u64 1] w fun e w' => e = .returned (.tuple #[.int .i64 4, .int .i64 0]) ∧ LivesV 0 w0 B O K4 w' :=
  step_view (by kernel_rfl) told (by kernel_rfl) t_make3 (of_decide_eq_true (by kernel_rfl)) (of_decide_eq_true (by kernel_rfl)) (inBs_ok (by kernel_rfl)) (fun ρ h1 h2 => by subst h1 h2; rfl) (fun _ => rfl) h
theorem c_ren1 {w0 w : World} {B O : Nat} (h : LivesV 0 w0 B O K4 w) : Calls Tryz.prog 7 #[.pointer (some ⟨B, O, none⟩), .agg #[.int .i64 1, .int .i64 9, .int .i64 30], .string ⟨#[47, 100]⟩, .string ⟨#[47, 100, 47, 101, 47, 120]⟩] w fun e w' => e = .returned (.int .i64 17) ∧ LivesV 0 w0 B O K4 w' :=
  step_view (by kernel_rfl) told (by kernel_rfl) t_ren1 (of_decide_eq_true (by kernel_rfl)) (of_decide_eq_true (by kernel_rfl)) (inBs_ok (by kernel_rfl)) (fun ρ h1 h2 => by subst h1 h2; rfl) (fun _ => rfl) h
theorem c_ren2 {w0 w : World} {B O : Nat} (h : LivesV 0 w0 B O K4 w) : Calls Tryz.prog 7 #[.pointer (some ⟨B, O, none⟩), .agg #[.int .i64 1, .int .i64 9, .int .i64 30], .string ⟨#[47, 102]⟩, .string ⟨#[47, 100]⟩] w fun e w' => e = .returned (.int .i64 11) ∧ LivesV 0 w0 B O K4 w' :=
  step_view (by kernel_rfl) told (by kernel_rfl) t_ren2 (of_decide_eq_true (by kernel_rfl)) (of_decide_eq_true (by kernel_rfl)) (inBs_ok (by kernel_rfl)) (fun ρ h1 h2 => by subst h1 h2; rfl) (fun _ => rfl) h
theorem c_ren3 {w0 w : World} {B O : Nat} (h : LivesV 0 w0 B O K4 w) : Calls Tryz.prog 7 #[.pointer (some ⟨B, O, none⟩), .agg #[.int .i64 1, .int .i64 9, .int .i64 30], .string ⟨#[47, 100]⟩, .string ⟨#[47, 102]⟩] w fun e w' => e = .returned (.int .i64 10) ∧ LivesV 0 w0 B O K4 w' :=
  step_view (by kernel_rfl) told (by kernel_rfl) t_ren3 (of_decide_eq_true (by kernel_rfl)) (of_decide_eq_true (by kernel_rfl)) (inBs_ok (by kernel_rfl)) (fun ρ h1 h2 => by subst h1 h2; rfl) (fun _ => rfl) h
theorem c_ren4 {w0 w : World} {B O : Nat} (h : LivesV 0 w0 B O K4 w) : Calls Tryz.prog 7 #[.pointer (some ⟨B, O, none⟩), .agg #[.int .i64 1, .int .i64 9, .int .i64 30], .string ⟨#[47, 102]⟩, .string ⟨#[47, 100, 47, 101, 47, 103]⟩] w fun e w' => e = .returned (.int .i64 0) ∧ LivesV 0 w0 B O K5 w' :=
  step_view (by kernel_rfl) told (by kernel_rfl) t_ren4 (of_decide_eq_true (by kernel_rfl)) (of_decide_eq_true (by kernel_rfl)) (inBs_ok (by kernel_rfl)) (fun ρ h1 h2 => by subst h1 h2; rfl) (fun _ => rfl) h
theorem c_ren5 {w0 w : World} {B O : Nat} (h : LivesV 0 w0 B O K5 w) : Calls Tryz.prog 7 #[.pointer (some ⟨B, O, none⟩), .agg #[.int .i64 1, .int .i64 9, .int .i64 30], .string ⟨#[47, 100, 47, 101]⟩, .string ⟨#[47, 101]⟩] w fun e w' => e = .returned (.int .i64 0) ∧ LivesV 0 w0 B O K6 w' :=
  step_view (by kernel_rfl) told (by kernel_rfl) t_ren5 (of_decide_eq_true (by kernel_rfl)) (of_decide_eq_true (by kernel_rfl)) (inBs_ok (by kernel_rfl)) (fun ρ h1 h2 => by subst h1 h2; rfl) (fun _ => rfl) h
theorem c_walk1 {w0 w : World} {B O : Nat} (h : LivesV 0 w0 B O K6 w) : Calls Tryz.prog 31 #[.pointer (some ⟨B, O, none⟩), .agg #[.int .i64 1, .int .i64 9, .int .i64 30], .string ⟨#[47, 101, 47, 103]⟩] w fun e w' => e = .returned (.tuple #[.int .i64 4, .int .i64 0]) ∧ LivesV 0 w0 B O K6 w' :=
  step_view (by kernel_rfl) told (by kernel_rfl) t_walk1 (of_decide_eq_true (by kernel_rfl)) (of_decide_eq_true (by kernel_rfl)) (inBs_ok (by kernel_rfl)) (fun ρ h1 h2 => by subst h1 h2; rfl) (fun _ => rfl) h
theorem c_ren6 {w0 w : World} {B O : Nat} (h : LivesV 0 w0 B O K6 w) : Calls Tryz.prog 7 #[.pointer (some ⟨B, O, none⟩), .agg #[.int .i64 1, .int .i64 9, .int .i64 30], .string ⟨#[47, 101]⟩, .string ⟨#[47, 101]⟩] w fun e w' => e = .returned (.int .i64 0) ∧ LivesV 0 w0 B O K6 w' :=
  step_view (by kernel_rfl) told (by kernel_rfl) t_ren6 (of_decide_eq_true (by kernel_rfl)) (of_decide_eq_true (by kernel_rfl)) (inBs_ok (by kernel_rfl)) (fun ρ h1 h2 => by subst h1 h2; rfl) (fun _ => rfl) h
theorem c_ren7 {w0 w : World} {B O : Nat} (h : LivesV 0 w0 B O K8 w) : Calls Tryz.prog 7 #[.pointer (some ⟨B, O, none⟩), .agg #[.int .i64 1, .int .i64 5, .int .i64 11], .string ⟨#[47]⟩, .string ⟨#[47, 97]⟩] w fun e w' => e = .returned (.int .i64 13) ∧ LivesV 0 w0 B O K8 w' :=
  step_view (by kernel_rfl) told (by kernel_rfl) t_ren7 (of_decide_eq_true (by kernel_rfl)) (of_decide_eq_true (by kernel_rfl)) (inBs_ok (by kernel_rfl)) (fun ρ h1 h2 => by subst h1 h2; rfl) (fun _ => rfl) h
theorem c_ren8 {w0 w : World} {B O : Nat} (h : LivesV 0 w0 B O K8 w) : Calls Tryz.prog 7 #[.pointer (some ⟨B, O, none⟩), .agg #[.int .i64 1, .int .i64 5, .int .i64 11], .string ⟨#[47, 97]⟩, .string ⟨#[47, 98]⟩] w fun e w' => e = .returned (.int .i64 6) ∧ LivesV 0 w0 B O K8 w' :=
  step_view (by kernel_rfl) told (by kernel_rfl) t_ren8 (of_decide_eq_true (by kernel_rfl)) (of_decide_eq_true (by kernel_rfl)) (inBs_ok (by kernel_rfl)) (fun ρ h1 h2 => by subst h1 h2; rfl) (fun _ => rfl) h
theorem c_ren9 {w0 w : World} {B O : Nat} (h : LivesV 0 w0 B O K8 w) : Calls Tryz.prog 7 #[.pointer (some ⟨B, O, none⟩), .agg #[.int .i64 0, .int .i64 0, .int .i64 0], .string ⟨#[47, 97]⟩, .string ⟨#[47, 98]⟩] w fun e w' => e = .returned (.int .i64 1) ∧ LivesV 0 w0 B O K8 w' :=
  step_view (by kernel_rfl) told (by kernel_rfl) t_ren9 (of_decide_eq_true (by kernel_rfl)) (of_decide_eq_true (by kernel_rfl)) (inBs_ok (by kernel_rfl)) (fun ρ h1 h2 => by subst h1 h2; rfl) (fun _ => rfl) h
theorem c_writes {w0 w : World} {B O : Nat} (h : LivesV 0 w0 B O K8 w) : Calls Tryz.prog 8 #[.pointer (some ⟨B, O, none⟩)] w fun e w' => e = .returned (.slice none 0 0) ∧ LivesV 0 w0 B O K8 w' :=
  step_view (by kernel_rfl) told (by kernel_rfl) t_writes (of_decide_eq_true (by kernel_rfl)) (of_decide_eq_true (by kernel_rfl)) (inBs_ok (by kernel_rfl)) (fun ρ h1 h2 => by subst h1 h2; rfl) (fun _ => rfl) h
/-- Words and a view of them. -/
theorem c_format {w : World} (ht : Lib.TabIs Tryz.prog w "math/bits.deBruijn64tab" .u8 tab) : Calls Tryz.prog 6 #[.agg #[.int .i64 1, .int .i64 9, .int .i64 30]] w fun e w' => ∃ A Z, e = .returned (.slice (some ⟨A, Z, none⟩) 872 872) ∧ ∃ ρ, (ρ 1).blk = A ∧ (ρ 1).base + 0 = Z ∧ Lives (tabGl 0) w ρ K0 w' := by
  refine (step_row (by kernel_rfl) told (by kernel_rfl) (fun _ _ => rfl) t_format (of_decide_eq_true (by kernel_rfl)) (inBs_ok (by kernel_rfl) _) (Lives.tab gTab ht)).mono ?_
  rintro e w' ⟨ρ', rfl, hL, _⟩
  exact ⟨_, _, rfl, ρ', rfl, rfl, hL⟩
theorem c_new {w0 w : World} {A Z : Nat} (h : ∃ ρ, (ρ 1).blk = A ∧ (ρ 1).base + 0 = Z ∧ Lives (tabGl 0) w0 ρ K0 w) : Calls Tryz.prog 5 #[.slice (some ⟨A, Z, none⟩) 872 872] w fun e w' => ∃ B O, e = .returned (.pointer (some ⟨B, O, none⟩)) ∧ LivesV 0 w0 B O K1 w' := by
  obtain ⟨ρ, rfl, rfl, hL⟩ := h
  refine (step_row (by kernel_rfl) told (by kernel_rfl) (fun _ _ => rfl) t_new (of_decide_eq_true (by kernel_rfl)) (inBs_ok (by kernel_rfl) ρ) hL).mono ?_
  rintro e w' ⟨ρ', rfl, hL', _⟩
  exact ⟨_, _, rfl, ρ', rfl, rfl, hL'⟩
/-- Words and a view of them. -/
theorem c_formatS {w : World} (ht : Lib.TabIs Tryz.prog w "math/bits.deBruijn64tab" .u8 tab) : Calls Tryz.prog 6 #[.agg #[.int .i64 1, .int .i64 5, .int .i64 11]] w fun e w' => ∃ A Z, e = .returned (.slice (some ⟨A, Z, none⟩) 656 656) ∧ ∃ ρ, (ρ 1).blk = A ∧ (ρ 1).base + 0 = Z ∧ Lives (tabGl 0) w ρ K7 w' := by
  refine (step_row (by kernel_rfl) told (by kernel_rfl) (fun _ _ => rfl) t_formatS (of_decide_eq_true (by kernel_rfl)) (inBs_ok (by kernel_rfl) _) (Lives.tab gTab ht)).mono ?_
  rintro e w' ⟨ρ', rfl, hL, _⟩
  exact ⟨_, _, rfl, ρ', rfl, rfl, hL⟩
theorem c_newS {w0 w : World} {A Z : Nat} (h : ∃ ρ, (ρ 1).blk = A ∧ (ρ 1).base + 0 = Z ∧ Lives (tabGl 0) w0 ρ K7 w) : Calls Tryz.prog 5 #[.slice (some ⟨A, Z, none⟩) 656 656] w fun e w' => ∃ B O, e = .returned (.pointer (some ⟨B, O, none⟩)) ∧ LivesV 0 w0 B O K8 w' := by
  obtain ⟨ρ, rfl, rfl, hL⟩ := h
  refine (step_row (by kernel_rfl) told (by kernel_rfl) (fun _ _ => rfl) t_newS (of_decide_eq_true (by kernel_rfl)) (inBs_ok (by kernel_rfl) ρ) hL).mono ?_
  rintro e w' ⟨ρ', rfl, hL', _⟩
  exact ⟨_, _, rfl, ρ', rfl, rfl, hL'⟩
end Go.Proofs.YtclmgkiiegkmhaaGreatDoor
