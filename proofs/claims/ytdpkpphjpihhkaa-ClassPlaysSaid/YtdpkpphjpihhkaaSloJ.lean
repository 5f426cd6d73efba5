/- Package slot: Load of a slot without a number. -/
import Derived.Test.YtdpkpphjpihhkaaSloG
namespace Go.Proofs.Ytdpkpphjpihhkaa
open Go.RowKit Go.Grommet

set_option maxRecDepth 100000 in
set_option maxHeartbeats 4000000 in
theorem LoadZero (k g : Nat) (xs : List Nat) (L : List (Nat × Nat)) (i kk at_ sl : Int) (w0 w : World) (Ps : List Pr) (h : Own w0 w Ps) (hk : Ps[k]? = some (viewP g xs L)) (hat : sessionV i = at_) (ha : 0 ≤ at_ ∧ at_ + 64 ≤ (xs.length : Int)) (hsl : slotV i kk = sl) (hs : 0 ≤ sl ∧ sl ≤ 1000) (hz : gotI xs L sl = 0) :
    Calls Try.prog 37 #[.pointer (some ⟨g, 0, none⟩), .int .i64 i, .int .i64 kk] w fun e w' => e = .returned (.tuple #[.int .u64 0, .agg #[.int .i64 0, .int .u64 0, .int .u64 0, .string ⟨#[]⟩], .int .i64 0]) ∧ Own w0 w' Ps := by
  have hkl := (List.getElem?_eq_some_iff.1 hk).1
  obtain ⟨X, HX⟩ : ∃ X, Hid (X = w.heap.size) := ⟨_, Lib.hid rfl⟩
  have hO : Own w0 (w.alloc (.cells #[.int .i64 0, .int .u64 0, .int .u64 0, .string ⟨#[]⟩] 39)) (Ps ++ [boxP X 39 #[.int .i64 0, .int .u64 0, .int .u64 0, .string ⟨#[]⟩]]) := by rw [HX.out]; exact h.addBox _ _
  have Hk := Lib.hid (show ∀ Rs, (Ps ++ Rs)[k]? = some (viewP g xs L) from fun Rs => by rw [List.getElem?_append_left hkl]; exact hk)
  have HS := Lib.hid (fun wx => SlotAt_any i kk wx)
  rw [hsl] at HS
  have Hhas := Lib.hid (fun wx (hO : Own w0 wx (Ps ++ [boxP X 39 #[.int .i64 0, .int .u64 0, .int .u64 0, .string ⟨#[]⟩]])) => hasH k g xs L i at_ w0 wx _ hO (Hk.out _) hat ha)
  have HG0 := Lib.hid (fun wx (hO : Own w0 wx (Ps ++ [boxP X 39 #[.int .i64 0, .int .u64 0, .int .u64 0, .string ⟨#[]⟩]])) => GetH k g xs L sl w0 wx _ hO (Hk.out _))
  rw [hz] at HG0
  have s0 : 0 ≤ sl := hs.1
  have d0 : decide (0 ≤ sl) = true := by simpa using s0
  have ws : IntKind.i64.wrap (sl + 0) = sl := by rw [Int.add_zero]; exact IntWalk.i64_in _ ⟨by omega, by omega⟩
  have ws' : IntKind.i64.wrap sl = sl := IntWalk.i64_in _ ⟨by omega, by omega⟩
  replace hO := Lib.hid hO
  clear h hk hkl hat hsl hz ha hs
  go_enter Try.func37, Try.ntmps37
  go_wp2_with fail
  rw [← HX.out]
  refine (HS.out _).mono ?_
  rintro e w1 ⟨rfl, hg⟩
  have hO1 := Lib.hid (hO.out.quiet hg)
  clear hg hO
  go_wp2_with fail
  refine (Hhas.out _ hO1.out).mono ?_
  rintro e w2 ⟨rfl, hO2⟩
  replace hO2 := Lib.hid hO2
  clear Hhas hO1
  go_wp2_with fail
  refine (HG0.out _ hO2.out).mono ?_
  rintro e w5 ⟨rfl, rfl⟩
  have hz : w5.heap[X]? = some (.cells #[.int .i64 0, .int .u64 0, .int .u64 0, .string ⟨#[]⟩] 39 (0, 0)) := Own.box hO2.out Ps.length (by rw [List.getElem?_append_right (Nat.le_refl _), Nat.sub_self]; rfl)
  have Hq : Hid (∀ w6 : World, w5.grownBy w6 (some X) → Own w0 w6 Ps) := Lib.hid (fun w6 hg => hO2.out.forget hg)
  clear hO2 HG0
  have m0 : w5.cell? ⟨X, 0, none⟩ = some (.int .i64 0) := by simp [World.cell?, hz]
  have q0 : w5.frozen? ⟨X, 0, none⟩ = false := by simp [World.frozen?, hz]
  have m1 : w5.cell? ⟨X, 1, none⟩ = some (.int .u64 0) := by simp [World.cell?, hz]
  have q1 : w5.frozen? ⟨X, 1, none⟩ = false := by simp [World.frozen?, hz]
  have m2 : w5.cell? ⟨X, 2, none⟩ = some (.int .u64 0) := by simp [World.cell?, hz]
  have q2 : w5.frozen? ⟨X, 2, none⟩ = false := by simp [World.frozen?, hz]
  have m3 : w5.cell? ⟨X, 3, none⟩ = some (.string ⟨#[]⟩) := by simp [World.cell?, hz]
  have q3 : w5.frozen? ⟨X, 3, none⟩ = false := by simp [World.frozen?, hz]
  have hz1 := heap_setCell_at (o := 0) hz (.int .i64 0)
  have hz2 := heap_setCell_at (o := 1) hz1 (.int .u64 0)
  have hz3 := heap_setCell_at (o := 2) hz2 (.int .u64 0)
  have hz4 := heap_setCell_at (o := 3) hz3 (.string ⟨#[]⟩)
  have g1 : w5.grownBy ((((w5.setCell ⟨X, 0, none⟩ (.int .i64 0)).setCell ⟨X, 1, none⟩ (.int .u64 0)).setCell ⟨X, 2, none⟩ (.int .u64 0)).setCell ⟨X, 3, none⟩ (.string ⟨#[]⟩)) (some X) := (grown_trans (grown_trans (grown_trans (grown_setCell _ ⟨X, 0, none⟩ (.int .i64 0)) (grown_setCell _ ⟨X, 1, none⟩ (.int .u64 0))) (grown_setCell _ ⟨X, 2, none⟩ (.int .u64 0))) (grown_setCell _ ⟨X, 3, none⟩ (.string ⟨#[]⟩)))
  obtain ⟨W3, hW3⟩ : ∃ W3, W3 = ((((w5.setCell ⟨X, 0, none⟩ (.int .i64 0)).setCell ⟨X, 1, none⟩ (.int .u64 0)).setCell ⟨X, 2, none⟩ (.int .u64 0)).setCell ⟨X, 3, none⟩ (.string ⟨#[]⟩)) := ⟨_, rfl⟩
  clear hz1 hz2 hz3
  go_wp2
  rw [← hW3] at hz4 g1 ⊢
  have Z0 : W3.cell? ⟨X, 0, none⟩ = some (.int .i64 0) := by simp [World.cell?, hz4]
  have Z1 : W3.cell? ⟨X, 1, none⟩ = some (.int .u64 0) := by simp [World.cell?, hz4]
  have Z2 : W3.cell? ⟨X, 2, none⟩ = some (.int .u64 0) := by simp [World.cell?, hz4]
  have Z3 : W3.cell? ⟨X, 3, none⟩ = some (.string ⟨#[]⟩) := by simp [World.cell?, hz4]
  exact bodyPost_ret (v := .tuple #[.int .u64 0, .agg #[.int .i64 0, .int .u64 0, .int .u64 0, .string ⟨#[]⟩], .int .i64 0]) (by simp [results, Try.results37, go_sem, Z0, Z1, Z2, Z3]) rfl ⟨rfl, Hq.out _ g1⟩
end Go.Proofs.Ytdpkpphjpihhkaa
