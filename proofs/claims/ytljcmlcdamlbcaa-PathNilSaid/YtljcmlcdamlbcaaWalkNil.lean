/- PathNil, walked. -/
import Derived.Test.YtljcmlcdamlbcaaJoin
import Derived.Test.YtljcmlcdamlbcaaWorks
namespace Go.Proofs.Ytljcmlcdamlbcaa.pathNil
open Go.RowKit Go.Grommet Go.Ev

set_option maxRecDepth 100000 in
set_option maxHeartbeats 2000000 in
theorem walk_at (a b c : Int) (s : ByteArray) (x y : Int) (w : World) :
    Calls Try.prog 5 #[.agg #[.int .i64 a, .int .i64 b, .int .i64 c], .string s, .int .i64 x, .int .i64 y] w (Go.Ev.WorksIs w) := by
  have HW := Lib.hid (fun wx => WalkNil_any a b c s wx)
  have HP := Lib.hid (fun wx => ParentNil_any a b c s wx)
  have HI := Lib.hid (fun wx => WithinNil_any a b c x y wx)
  have HJ := Lib.hid (fun wx => JoinNil_any wx)
  have HB := Lib.hid (fun K wx h => JoinBad_any K wx h)
  go_enter Try.func5, Try.ntmps5
  go_wp2_with fail
  obtain ⟨X, HX⟩ : ∃ X, Hid (X = w.heap.size) := ⟨_, Lib.hid rfl⟩
  have hb0 : (w.alloc (.cells #[.int .i64 a, .int .i64 b, .int .i64 c] 33)).heap[X]? = some (.cells #[.int .i64 a, .int .i64 b, .int .i64 c] 33 (0, 0)) := by rw [HX.out]; exact heap_alloc_new w _
  rw [← HX.out]
  refine (HW.out _).mono ?_
  rintro e w1 ⟨rfl, hg1⟩
  have hb1 := (hg1.block _ (lt_of_block hb0) (by simp)).trans hb0
  have hg := Lib.hid (grown_trans (World.grownBy_alloc w _ none) hg1)
  have z0 : w1.cell? ⟨X, 0, none⟩ = some (.int .i64 a) := by simp [World.cell?, hb1]
  have z1 : w1.cell? ⟨X, 1, none⟩ = some (.int .i64 b) := by simp [World.cell?, hb1]
  have z2 : w1.cell? ⟨X, 2, none⟩ = some (.int .i64 c) := by simp [World.cell?, hb1]
  clear hb0 hg1
  go_wp2_with fail
  refine (HP.out _).mono ?_
  rintro e w2 ⟨rfl, hg2⟩
  have hb2 := (hg2.block _ (lt_of_block hb1) (by simp)).trans hb1
  have hg := Lib.hid (grown_trans hg.out hg2)
  clear z0 z1 z2 hb1 hg2
  have z0 : w2.cell? ⟨X, 0, none⟩ = some (.int .i64 a) := by simp [World.cell?, hb2]
  have z1 : w2.cell? ⟨X, 1, none⟩ = some (.int .i64 b) := by simp [World.cell?, hb2]
  have z2 : w2.cell? ⟨X, 2, none⟩ = some (.int .i64 c) := by simp [World.cell?, hb2]
  clear hb2
  go_wp2_with fail
  refine (HI.out _).mono ?_
  rintro e w3 ⟨rfl, hg3⟩
  have hg := Lib.hid (grown_trans hg.out hg3)
  clear z0 z1 z2 hg3
  go_wp2_with fail
  obtain ⟨K, HK⟩ : ∃ K, Hid (K = w3.heap.size) := ⟨_, Lib.hid rfl⟩
  have hk : (w3.alloc (.cells #[.string ⟨#[97]⟩, .string ⟨#[]⟩] 9)).heap[K]? = some (.cells #[.string ⟨#[97]⟩, .string ⟨#[]⟩] 9 (0, 0)) := by rw [HK.out]; exact heap_alloc_new w3 _
  rw [← HK.out]
  refine (HB.out K _ hk).mono ?_
  rintro e w4 ⟨rfl, hg4⟩
  have hg := Lib.hid (grown_trans hg.out (grown_trans (World.grownBy_alloc w3 _ none) hg4))
  clear hk hg4
  go_wp2_with fail
  refine (HJ.out _).mono ?_
  rintro e w5 ⟨rfl, hg5⟩
  have hg := Lib.hid (grown_trans hg.out hg5)
  clear hg5
  go_wp2_with fail
  refine (works_ev _).mono ?_
  rintro e w9 ⟨rfl, hg9⟩
  go_wp2
  go_ret
  exact ⟨rfl, grown_trans hg.out hg9⟩

theorem walk (a b c : Int) (s : ByteArray) (x y : Int) (w : World) (_ : (Lit.int .i64 a).wf = true) (_ : (Lit.int .i64 b).wf = true) (_ : (Lit.int .i64 c).wf = true) (_ : s.size ≤ 140737488351232) (_ : (Lit.int .i64 x).wf = true) (_ : (Lit.int .i64 y).wf = true) :
    Calls Try.prog 5 #[.agg #[.int .i64 a, .int .i64 b, .int .i64 c], .string s, .int .i64 x, .int .i64 y] w (Go.Ev.WorksIs w) := walk_at a b c s x y w
end Go.Proofs.Ytljcmlcdamlbcaa.pathNil
