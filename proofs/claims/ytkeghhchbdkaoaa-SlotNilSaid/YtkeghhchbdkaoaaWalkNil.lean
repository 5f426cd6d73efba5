/- SlotNil, walked. -/
import Derived.Test.YtkeghhchbdkaoaaSloN
namespace Go.Proofs.Ytkeghhchbdkaoaa.slotNil
open Go.RowKit Go.Grommet

set_option maxRecDepth 100000 in
set_option maxHeartbeats 2000000 in
theorem walk_at (i k sq er ra rb : Int) (d : ByteArray) (w : World) :
    Calls Try.prog 7 #[.int .i64 i, .int .i64 k, .int .u64 sq, .agg #[.int .i64 er, .int .u64 ra, .int .u64 rb, .string d]] w (WorksIs w) := by
  have HG1 := Lib.hid (fun wx => Get_nil i wx)
  have HL := Lib.hid (fun wx => Load_nil i k wx)
  have HP := Lib.hid (fun wx => Put_nil i false 0 0 wx)
  have HS := Lib.hid (fun wx => Save_nil i k sq er ra rb d wx)
  have HW := Lib.hid (fun wx => Wipe_nil i wx)
  have HT := Lib.hid (fun wx => Set_nil k sq wx)
  have heq1 : ∀ wx : World, (binOp .eql 38 (.agg #[.bool false, .int .u64 0, .int .u64 0]) (.agg #[.bool false, .int .u64 0, .int .u64 0])).run Try.prog wx = .ok (.bool true) wx := fun _ => by kernel_rfl
  have heq2 : ∀ wx : World, (binOp .eql 41 (.agg #[.int .i64 0, .int .u64 0, .int .u64 0, .string ⟨#[]⟩]) (.agg #[.int .i64 0, .int .u64 0, .int .u64 0, .string ⟨#[]⟩])).run Try.prog wx = .ok (.bool true) wx := fun _ => by kernel_rfl
  go_enter Try.func7, Try.ntmps7
  go_wp2_with fail
  obtain ⟨X, HX⟩ : ∃ X, Hid (X = w.heap.size) := ⟨_, Lib.hid rfl⟩
  have hb0 : (w.alloc (.cells #[.int .i64 er, .int .u64 ra, .int .u64 rb, .string d] 41)).heap[X]? = some (.cells #[.int .i64 er, .int .u64 ra, .int .u64 rb, .string d] 41 (0, 0)) := by rw [HX.out]; exact heap_alloc_new w _
  rw [← HX.out]
  refine (HG1.out _).mono ?_
  rintro e w1 ⟨rfl, hg1⟩
  have hA := World.grownBy_alloc w1 (.cells #[.bool false, .int .u64 0, .int .u64 0] 38) none
  obtain ⟨Y, HY⟩ : ∃ Y, Hid (Y = w1.heap.size) := ⟨_, Lib.hid rfl⟩
  have hb := (grown_trans hg1 hA).block _ (lt_of_block hb0) (by simp) |>.trans hb0
  have hy : (w1.alloc (.cells #[.bool false, .int .u64 0, .int .u64 0] 38)).heap[Y]? = some (.cells #[.bool false, .int .u64 0, .int .u64 0] 38 (0, 0)) := by rw [HY.out]; exact heap_alloc_new w1 _
  have hg := Lib.hid (grown_trans (grown_trans (World.grownBy_alloc w _ none) hg1) hA)
  clear hg1 hA hb0
  go_wp2_with fail
  rw [← HY.out]
  refine (HL.out _).mono ?_
  rintro e w2 ⟨rfl, hg2⟩
  have hA := World.grownBy_alloc w2 (.cells #[.int .i64 0, .int .u64 0, .int .u64 0, .string ⟨#[]⟩] 41) none
  have hb := (grown_trans hg2 hA).block _ (lt_of_block hb) (by simp) |>.trans hb
  have hy := (grown_trans hg2 hA).block _ (lt_of_block hy) (by simp) |>.trans hy
  have hg := Lib.hid (grown_trans (grown_trans hg.out hg2) hA)
  have y0 : (w2.alloc (.cells #[.int .i64 0, .int .u64 0, .int .u64 0, .string ⟨#[]⟩] 41)).cell? ⟨Y, 0, none⟩ = some (.bool false) := by simp [World.cell?, hy]
  have y1 : (w2.alloc (.cells #[.int .i64 0, .int .u64 0, .int .u64 0, .string ⟨#[]⟩] 41)).cell? ⟨Y, 1, none⟩ = some (.int .u64 0) := by simp [World.cell?, hy]
  have y2 : (w2.alloc (.cells #[.int .i64 0, .int .u64 0, .int .u64 0, .string ⟨#[]⟩] 41)).cell? ⟨Y, 2, none⟩ = some (.int .u64 0) := by simp [World.cell?, hy]
  replace hb := Lib.hid hb
  clear hg2 hA hy
  go_wp2_with fail
  refine (HP.out _).mono ?_
  rintro e w3 ⟨rfl, hg3⟩
  have hb := (hg3.block _ (lt_of_block hb.out) (by simp)).trans hb.out
  have hg := Lib.hid (grown_trans hg.out hg3)
  clear y0 y1 y2 hg3
  have x0 : w3.cell? ⟨X, 0, none⟩ = some (.int .i64 er) := by simp [World.cell?, hb]
  have x1 : w3.cell? ⟨X, 1, none⟩ = some (.int .u64 ra) := by simp [World.cell?, hb]
  have x2 : w3.cell? ⟨X, 2, none⟩ = some (.int .u64 rb) := by simp [World.cell?, hb]
  have x3 : w3.cell? ⟨X, 3, none⟩ = some (.string d) := by simp [World.cell?, hb]
  clear hb
  go_wp2_with fail
  refine (HS.out _).mono ?_
  rintro e w4 ⟨rfl, hg4⟩
  have hg := Lib.hid (grown_trans hg.out hg4)
  clear x0 x1 x2 x3 hg4
  go_wp2_with fail
  refine (HW.out _).mono ?_
  rintro e w5 ⟨rfl, hg5⟩
  have hg := Lib.hid (grown_trans hg.out hg5)
  clear hg5
  go_wp2_with fail
  refine (HT.out _).mono ?_
  rintro e w6 ⟨rfl, hg6⟩
  have hg := Lib.hid (grown_trans hg.out hg6)
  clear hg6
  go_wp2_with fail
  refine (works_any _).mono ?_
  rintro e w9 ⟨rfl, hg9⟩
  go_wp2
  go_ret
  exact ⟨rfl, grown_trans hg.out hg9⟩

theorem walk (i k sq er ra rb : Int) (d : ByteArray) (w : World) (_ : (Lit.int .i64 i).wf = true) (_ : (Lit.int .i64 k).wf = true) (_ : (Lit.int .u64 sq).wf = true) (_ : (Lit.int .i64 er).wf = true) (_ : (Lit.int .u64 ra).wf = true) (_ : (Lit.int .u64 rb).wf = true) (_ : d.size ≤ 9223372036854775807) :
    Calls Try.prog 7 #[.int .i64 i, .int .i64 k, .int .u64 sq, .agg #[.int .i64 er, .int .u64 ra, .int .u64 rb, .string d]] w (WorksIs w) := walk_at i k sq er ra rb d w
end Go.Proofs.Ytkeghhchbdkaoaa.slotNil
