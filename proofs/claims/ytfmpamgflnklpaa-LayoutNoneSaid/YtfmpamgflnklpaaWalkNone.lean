/- LayoutNone, walked. -/
import Derived.Test.YtfmpamgflnklpaaLayE
import Derived.Test.YtfmpamgflnklpaaGeo
namespace Go.Proofs.Ytfmpamgflnklpaa.layoutNone
open Go.RowKit Go.Grommet

set_option maxRecDepth 100000 in
set_option maxHeartbeats 4000000 in
theorem walk_may (a b c i x : Int) (w : World) (h : mayB a b c = true) : Calls Try.prog 9 #[gv a b c, .int .i64 i, .int .i64 x] w (WorksIs w) := by
  have H1 := Lib.hid (fun wx => May_any a b c wx)
  have H2 := Lib.hid (fun wx => Words_any a b c wx)
  rw [h] at H1
  rw [words_pos h] at H2
  obtain ⟨q1, q2, q3, q4, q5, q6⟩ := mayB_yes h
  have q7 : 0 < 280 + 208 * a + 16 * b + 8 * c := by omega
  generalize 280 + 208 * a + 16 * b + 8 * c = W at H2 q7
  unfold gv at H1 H2 ⊢
  clear h
  have hb : (w.alloc (.cells #[.int .i64 a, .int .i64 b, .int .i64 c] 23)).heap[w.heap.size]? = some (.cells #[.int .i64 a, .int .i64 b, .int .i64 c] 23 (0, 0)) := heap_alloc_new w _
  have hg := World.grownBy_alloc w (.cells #[.int .i64 a, .int .i64 b, .int .i64 c] 23) none
  go_enter Try.func9, Try.ntmps9
  go_wp2_with fail
  refine (H1.out _).mono ?_
  rintro e w1 ⟨rfl, hgx⟩
  have hb := (hgx.block _ (lt_of_block hb) (by simp)).trans hb
  have hg := grown_trans hg hgx
  clear hgx H1
  have f0 : w1.cell? ⟨w.heap.size, 0, none⟩ = some (.int .i64 a) := by simp [World.cell?, hb]
  have f1 : w1.cell? ⟨w.heap.size, 1, none⟩ = some (.int .i64 b) := by simp [World.cell?, hb]
  have f2 : w1.cell? ⟨w.heap.size, 2, none⟩ = some (.int .i64 c) := by simp [World.cell?, hb]
  go_wp2_with fail
  refine (H2.out _).mono ?_
  rintro e w2 ⟨rfl, hgx⟩
  have hb := (hgx.block _ (lt_of_block hb) (by simp)).trans hb
  clear f0 f1 f2
  have hg := grown_trans hg hgx
  clear hgx H2
  have f0 : w2.cell? ⟨w.heap.size, 0, none⟩ = some (.int .i64 a) := by simp [World.cell?, hb]
  have f1 : w2.cell? ⟨w.heap.size, 1, none⟩ = some (.int .i64 b) := by simp [World.cell?, hb]
  have f2 : w2.cell? ⟨w.heap.size, 2, none⟩ = some (.int .i64 c) := by simp [World.cell?, hb]
  go_wp2_with fail
  refine (works_any _).mono ?_
  rintro e wz ⟨rfl, hgx⟩
  have hg := grown_trans hg hgx
  go_wp2
  go_ret
  exact ⟨rfl, hg⟩

set_option maxRecDepth 100000 in
set_option maxHeartbeats 4000000 in
theorem walk_not (a b c i x : Int) (w : World) (h : mayB a b c = false) (hx : x ≤ 9223372036854775807) : Calls Try.prog 9 #[gv a b c, .int .i64 i, .int .i64 x] w (WorksIs w) := by
  have h' : ¬ mayB a b c = true := by rw [h]; decide
  have H1 := Lib.hid (fun wx => May_any a b c wx)
  rw [h] at H1
  have H0 := Lib.hid (fun wx => Where_any a b c x wx hx)
  rw [show whereV a b c x = (0, 0, 0, 0) from by unfold whereV; rw [if_neg (fun q => h' q.1)]] at H0
  have H2 := Lib.hid (fun wx => Words_any a b c wx)
  rw [show wordsV a b c = 0 from by unfold wordsV; rw [if_neg h']] at H2
  have H3 := Lib.hid (fun wx => Format_none a b c wx h)
  have H4 := Lib.hid (fun wx => AreaAt_any a b c i wx)
  rw [show areaV a b c i = -1 from by unfold areaV; rw [if_neg (fun q => h' q.1)]] at H4
  have H5 := Lib.hid (fun wx => InodeMapAt_any a b c wx)
  rw [show imapV a b c = -1 from by unfold imapV; rw [if_neg h']] at H5
  have H6 := Lib.hid (fun wx => BlockMapAt_any a b c wx)
  rw [show bmapV a b c = -1 from by unfold bmapV; rw [if_neg h']] at H6
  have H7 := Lib.hid (fun wx => InodeAt_any a b c i wx)
  rw [show inodeV a b c i = -1 from by unfold inodeV; rw [if_neg (fun q => h' q.1)]] at H7
  have H8 := Lib.hid (fun wx => BlockAt_any a b c i wx)
  rw [show blockV a b c i = -1 from by unfold blockV; rw [if_neg (fun q => h' q.1)]] at H8
  unfold gv at H0 H1 H2 H3 H4 H5 H6 H7 H8 ⊢
  clear h h' hx
  have hb : (w.alloc (.cells #[.int .i64 a, .int .i64 b, .int .i64 c] 23)).heap[w.heap.size]? = some (.cells #[.int .i64 a, .int .i64 b, .int .i64 c] 23 (0, 0)) := heap_alloc_new w _
  have hg := World.grownBy_alloc w (.cells #[.int .i64 a, .int .i64 b, .int .i64 c] 23) none
  go_enter Try.func9, Try.ntmps9
  go_wp2_with fail
  refine (H1.out _).mono ?_
  rintro e w1 ⟨rfl, hgx⟩
  have hb := (hgx.block _ (lt_of_block hb) (by simp)).trans hb
  have hg := grown_trans hg hgx
  clear hgx H1
  have f0 : w1.cell? ⟨w.heap.size, 0, none⟩ = some (.int .i64 a) := by simp [World.cell?, hb]
  have f1 : w1.cell? ⟨w.heap.size, 1, none⟩ = some (.int .i64 b) := by simp [World.cell?, hb]
  have f2 : w1.cell? ⟨w.heap.size, 2, none⟩ = some (.int .i64 c) := by simp [World.cell?, hb]
  go_wp2_with fail
  refine (H0.out _).mono ?_
  rintro e w0 ⟨rfl, hgx⟩
  have hb := (hgx.block _ (lt_of_block hb) (by simp)).trans hb
  clear f0 f1 f2
  have hg := grown_trans hg hgx
  clear hgx H0
  have f0 : w0.cell? ⟨w.heap.size, 0, none⟩ = some (.int .i64 a) := by simp [World.cell?, hb]
  have f1 : w0.cell? ⟨w.heap.size, 1, none⟩ = some (.int .i64 b) := by simp [World.cell?, hb]
  have f2 : w0.cell? ⟨w.heap.size, 2, none⟩ = some (.int .i64 c) := by simp [World.cell?, hb]
  go_wp2_with fail
  refine (H2.out _).mono ?_
  rintro e w2 ⟨rfl, hgx⟩
  have hb := (hgx.block _ (lt_of_block hb) (by simp)).trans hb
  clear f0 f1 f2
  have hg := grown_trans hg hgx
  clear hgx H2
  have f0 : w2.cell? ⟨w.heap.size, 0, none⟩ = some (.int .i64 a) := by simp [World.cell?, hb]
  have f1 : w2.cell? ⟨w.heap.size, 1, none⟩ = some (.int .i64 b) := by simp [World.cell?, hb]
  have f2 : w2.cell? ⟨w.heap.size, 2, none⟩ = some (.int .i64 c) := by simp [World.cell?, hb]
  go_wp2_with fail
  refine (H3.out _).mono ?_
  rintro e w3 ⟨rfl, hgx⟩
  have hb := (hgx.block _ (lt_of_block hb) (by simp)).trans hb
  clear f0 f1 f2
  have hg := grown_trans hg hgx
  clear hgx H3
  have f0 : w3.cell? ⟨w.heap.size, 0, none⟩ = some (.int .i64 a) := by simp [World.cell?, hb]
  have f1 : w3.cell? ⟨w.heap.size, 1, none⟩ = some (.int .i64 b) := by simp [World.cell?, hb]
  have f2 : w3.cell? ⟨w.heap.size, 2, none⟩ = some (.int .i64 c) := by simp [World.cell?, hb]
  go_wp2_with fail
  refine (H4.out _).mono ?_
  rintro e w4 ⟨rfl, hgx⟩
  have hb := (hgx.block _ (lt_of_block hb) (by simp)).trans hb
  clear f0 f1 f2
  have hg := grown_trans hg hgx
  clear hgx H4
  have f0 : w4.cell? ⟨w.heap.size, 0, none⟩ = some (.int .i64 a) := by simp [World.cell?, hb]
  have f1 : w4.cell? ⟨w.heap.size, 1, none⟩ = some (.int .i64 b) := by simp [World.cell?, hb]
  have f2 : w4.cell? ⟨w.heap.size, 2, none⟩ = some (.int .i64 c) := by simp [World.cell?, hb]
  go_wp2_with fail
  refine (H5.out _).mono ?_
  rintro e w5 ⟨rfl, hgx⟩
  have hb := (hgx.block _ (lt_of_block hb) (by simp)).trans hb
  clear f0 f1 f2
  have hg := grown_trans hg hgx
  clear hgx H5
  have f0 : w5.cell? ⟨w.heap.size, 0, none⟩ = some (.int .i64 a) := by simp [World.cell?, hb]
  have f1 : w5.cell? ⟨w.heap.size, 1, none⟩ = some (.int .i64 b) := by simp [World.cell?, hb]
  have f2 : w5.cell? ⟨w.heap.size, 2, none⟩ = some (.int .i64 c) := by simp [World.cell?, hb]
  go_wp2_with fail
  refine (H6.out _).mono ?_
  rintro e w6 ⟨rfl, hgx⟩
  have hb := (hgx.block _ (lt_of_block hb) (by simp)).trans hb
  clear f0 f1 f2
  have hg := grown_trans hg hgx
  clear hgx H6
  have f0 : w6.cell? ⟨w.heap.size, 0, none⟩ = some (.int .i64 a) := by simp [World.cell?, hb]
  have f1 : w6.cell? ⟨w.heap.size, 1, none⟩ = some (.int .i64 b) := by simp [World.cell?, hb]
  have f2 : w6.cell? ⟨w.heap.size, 2, none⟩ = some (.int .i64 c) := by simp [World.cell?, hb]
  go_wp2_with fail
  refine (H7.out _).mono ?_
  rintro e w7 ⟨rfl, hgx⟩
  have hb := (hgx.block _ (lt_of_block hb) (by simp)).trans hb
  clear f0 f1 f2
  have hg := grown_trans hg hgx
  clear hgx H7
  have f0 : w7.cell? ⟨w.heap.size, 0, none⟩ = some (.int .i64 a) := by simp [World.cell?, hb]
  have f1 : w7.cell? ⟨w.heap.size, 1, none⟩ = some (.int .i64 b) := by simp [World.cell?, hb]
  have f2 : w7.cell? ⟨w.heap.size, 2, none⟩ = some (.int .i64 c) := by simp [World.cell?, hb]
  go_wp2_with fail
  refine (H8.out _).mono ?_
  rintro e w8 ⟨rfl, hgx⟩
  have hb := (hgx.block _ (lt_of_block hb) (by simp)).trans hb
  clear f0 f1 f2
  have hg := grown_trans hg hgx
  clear hgx H8
  have f0 : w8.cell? ⟨w.heap.size, 0, none⟩ = some (.int .i64 a) := by simp [World.cell?, hb]
  have f1 : w8.cell? ⟨w.heap.size, 1, none⟩ = some (.int .i64 b) := by simp [World.cell?, hb]
  have f2 : w8.cell? ⟨w.heap.size, 2, none⟩ = some (.int .i64 c) := by simp [World.cell?, hb]
  go_wp2_with fail
  refine (works_any _).mono ?_
  rintro e wz ⟨rfl, hgx⟩
  have hg := grown_trans hg hgx
  go_wp2
  go_ret
  exact ⟨rfl, hg⟩

theorem walk (a b c i x : Int) (w : World) (_wa : (Lit.int .i64 a).wf = true) (_wb : (Lit.int .i64 b).wf = true) (_wc : (Lit.int .i64 c).wf = true) (_wi : (Lit.int .i64 i).wf = true) (wx : (Lit.int .i64 x).wf = true) :
    Calls Try.prog 9 #[gv a b c, .int .i64 i, .int .i64 x] w (WorksIs w) := by
  have hx := bounds_i64 wx
  cases h : mayB a b c with
  | true => exact walk_may a b c i x w h
  | false => exact walk_not a b c i x w h (by omega)
end Go.Proofs.Ytfmpamgflnklpaa.layoutNone
