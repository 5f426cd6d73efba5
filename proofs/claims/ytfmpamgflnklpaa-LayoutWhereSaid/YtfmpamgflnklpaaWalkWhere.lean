/- LayoutWhere, walked. -/
import Derived.Test.YtfmpamgflnklpaaLayS
import Derived.Test.YtfmpamgflnklpaaGeo
namespace Go.Proofs.Ytfmpamgflnklpaa.layoutWhere
open Go.RowKit Go.Grommet

set_option maxRecDepth 100000 in
set_option maxHeartbeats 4000000 in
theorem walk_at (a b c x : Int) (w : World) (hx1 : x ≤ 9223372036854775807) : Calls Try.prog 4 #[gv a b c, .int .i64 x] w (WorksIs w) := by
  have H1 := Lib.hid (fun wx => Where_any a b c x wx hx1)
  have H2 := Lib.hid (fun wx => RWhere_any a b c x wx)
  have hk : 0 ≤ (whereV a b c x).1 ∧ (whereV a b c x).1 ≤ 9 := by
    unfold whereV
    split
    · rename_i h
      have h1 := findR_kind (placesR a b c) x (fun k => 0 ≤ k ∧ k ≤ 9) (by decide) (fun r hr => by have := places_ok h.1 r hr; exact ⟨this.1, this.2.1⟩)
      have h2 := findR_kind withinR (findR (placesR a b c) x).2.2 (fun k => 0 ≤ k ∧ k ≤ 9) (by decide) (fun r hr => by have := within_ok r hr; exact ⟨this.1, this.2.1⟩)
      dsimp only
      split
      · exact h2
      · exact h1
    · decide
  generalize whereV a b c x = V at H1 H2 hk
  obtain ⟨k, i, j, r⟩ := V
  dsimp only at hk
  obtain ⟨hk0, hk1⟩ := hk
  unfold WhereIs at H1
  unfold RWhereIs at H2
  unfold gv at H1 H2 ⊢
  have hw : IntKind.i64.wrap k = k := IntWalk.i64_in _ ⟨by omega, by omega⟩
  clear hx1
  have hb : (w.alloc (.cells #[.int .i64 a, .int .i64 b, .int .i64 c] 23)).heap[w.heap.size]? = some (.cells #[.int .i64 a, .int .i64 b, .int .i64 c] 23 (0, 0)) := heap_alloc_new w _
  have hg := World.grownBy_alloc w (.cells #[.int .i64 a, .int .i64 b, .int .i64 c] 23) none
  go_enter Try.func4, Try.ntmps4
  go_wp2_with fail
  refine (H1.out _).mono ?_
  rintro e w1 ⟨rfl, hgx⟩
  have hb := (hgx.block _ (lt_of_block hb) (by simp)).trans hb
  have f0 : w1.cell? ⟨w.heap.size, 0, none⟩ = some (.int .i64 a) := by simp [World.cell?, hb]
  have f1 : w1.cell? ⟨w.heap.size, 1, none⟩ = some (.int .i64 b) := by simp [World.cell?, hb]
  have f2 : w1.cell? ⟨w.heap.size, 2, none⟩ = some (.int .i64 c) := by simp [World.cell?, hb]
  have hg := grown_trans hg hgx
  clear hgx H1
  go_wp2_with fail
  refine (H2.out _).mono ?_
  rintro e w2 ⟨rfl, hgx⟩
  have hg := grown_trans hg hgx
  clear hgx H2 f0 f1 f2
  go_wp2_with fail
  refine (works_any _).mono ?_
  rintro e wz ⟨rfl, hgx⟩
  have hg := grown_trans hg hgx
  go_wp2
  go_ret
  exact ⟨rfl, hg⟩

theorem walk (a b c x : Int) (w : World) (_wa : (Lit.int .i64 a).wf = true) (_wb : (Lit.int .i64 b).wf = true) (_wc : (Lit.int .i64 c).wf = true) (wx : (Lit.int .i64 x).wf = true) :
    Calls Try.prog 4 #[gv a b c, .int .i64 x] w (WorksIs w) := walk_at a b c x w (by have := bounds_i64 wx; omega)
end Go.Proofs.Ytfmpamgflnklpaa.layoutWhere
