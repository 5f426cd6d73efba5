/- Package layout: a new device's words. -/
import Derived.Test.YtpdofdloclmbdaaGreatLayC
import Derived.Test.YtpdofdloclmbdaaGreatBase6
import Derived.Test.YtpdofdloclmbdaaGreatFmtMath
import Derived.Test.YtpdofdloclmbdaaGreatLayW
import Derived.Test.YtpdofdloclmbdaaGreatWr
-- OPTIONAL
namespace Go.Proofs.YtpdofdloclmbdaaGreat
open Go.RowKit Go.Grommet

theorem Tryz.size44 : (Tryz.prog.info? 44).map (·.size) = some 1 := by kernel_rfl

/-- New words, known whole. -/
def NewWords (xs : List Nat) (w : World) (e : Ending) (w' : World) : Prop :=
  ∃ g, e = .returned (.slice (some ⟨g, 0, none⟩) xs.length xs.length) ∧ w'.heap[g]? = some (.cells (xs.map wv).toArray 44 (0, 0)) ∧ w.heap.size ≤ g ∧ w.grownBy w' none

theorem made_wv (n : Nat) : madeCells #[Value.int .u64 0] n = ((List.replicate n 0).map wv).toArray := by
  apply Array.toList_inj.1
  simp [wv, madeCells, Nat.mod_one, List.map_const']

theorem map_wv_get (L : List Nat) (k : Nat) (h : k < L.length) : (L.map wv)[k]? = some (wv (L.getD k 0)) := by simp [h]

theorem map_splice (L cs : List Nat) (off : Nat) : splice (L.map wv) off (cs.map wv) = (splice L off cs).map wv := by simp [splice]

set_option maxHeartbeats 400000 in
theorem Format_none (a b c : Int) (w : World) (h : mayB a b c = false) : Calls Tryz.prog 35 #[gv a b c] w fun e w' => e = .returned (.slice none 0 0) ∧ w.grownBy w' none := by
  have HM := Lib.hid (fun wx => May_any a b c wx)
  unfold gv at HM ⊢
  rw [h] at HM
  go_enter Tryz.func35, Tryz.ntmps35
  go_wp2_with fail
  refine (HM.out _).mono ?_
  rintro e w1 ⟨rfl, hg1⟩
  go_wp2
  go_ret
  exact ⟨rfl, grown_trans (World.grownBy_alloc w _ none) hg1⟩

theorem words_pos {a b c : Int} (h : mayB a b c = true) : wordsV a b c = 280 + 208 * a + 16 * b + 8 * c := by unfold wordsV; rw [if_pos h]

set_option maxRecDepth 100000 in
set_option maxHeartbeats 2000000 in
theorem Format_any (a b c : Nat) (w : World) (h : mayB a b c = true) : Calls Tryz.prog 35 #[gv a b c] w (NewWords (fmtL a b c (264 + 208 * a) (280 + 208 * a + 16 * b + 8 * c)) w) := by
  have hb := mayB_yes h
  obtain ⟨i0, hi, hz0, hz1, hz2⟩ := info_parts Tryz.info44
  have HM := Lib.hid (fun wx => May_any a b c wx)
  rw [h] at HM
  have HW := Lib.hid (fun wx => Words_any a b c wx)
  rw [words_pos h, show (280 : Int) + 208 * (a : Int) + 16 * (b : Int) + 8 * (c : Int) = ((280 + 208 * a + 16 * b + 8 * c : Nat) : Int) from by omega] at HW
  obtain ⟨N, HN⟩ : ∃ N, Hid (N = 280 + 208 * a + 16 * b + 8 * c) := ⟨_, Lib.hid rfl⟩
  have hN1 : N ≤ 6232 := by rw [HN.out]; omega
  have HI := Lib.hid (fun wx => InodeAt_any a b c 1 wx)
  rw [show inodeV a b c 1 = ((296 + 208 * a : Nat) : Int) from by unfold inodeV; rw [if_pos ⟨h, by omega, by omega⟩]; omega] at HI
  have HIM := Lib.hid (fun wx => InodeMapAt_any a b c wx)
  rw [show imapV a b c = ((264 + 208 * a : Nat) : Int) from by unfold imapV; rw [if_pos h]; omega] at HIM
  have HBM := Lib.hid (fun wx => BlockMapAt_any a b c wx)
  rw [show bmapV a b c = ((272 + 208 * a : Nat) : Int) from by unfold bmapV; rw [if_pos h]; omega] at HBM
  have hfit : 264 + 208 * a + 34 ≤ N := by rw [HN.out]; omega
  have HF := Lib.hid (fmt_built a b c (264 + 208 * a) N (by omega) hfit)
  obtain ⟨m, Hm⟩ : ∃ m, Hid (m = 264 + 208 * a) := ⟨_, Lib.hid rfl⟩
  rw [show 296 + 208 * a = m + 32 from by rw [Hm.out]; omega] at HI
  rw [← Hm.out] at HIM HF hfit
  rw [show 272 + 208 * a = m + 8 from by rw [Hm.out]; omega] at HBM
  rw [← HN.out] at HW
  rw [← HN.out, ← Hm.out]
  have hm4 : 4 ≤ m := by rw [Hm.out]; omega
  unfold gv at HM HW HI HIM HBM ⊢
  have wa : IntKind.u64.wrap (a : Int) = (a : Int) := IntWalk.u64_in _ ⟨by omega, by omega⟩
  have wb : IntKind.u64.wrap (b : Int) = (b : Int) := IntWalk.u64_in _ ⟨by omega, by omega⟩
  have wc : IntKind.u64.wrap (c : Int) = (c : Int) := IntWalk.u64_in _ ⟨by omega, by omega⟩
  clear h hb
  go_enter Tryz.func35, Tryz.ntmps35
  go_wp2_with fail
  refine (HM.out _).mono ?_
  rintro e w1 ⟨rfl, hg1⟩
  have hb : w1.heap[w.heap.size]? = some (.cells #[.int .i64 a, .int .i64 b, .int .i64 c] 26 (0, 0)) := (hg1.block _ (by simp) (by simp)).trans (heap_alloc_new w _)
  have hBl := lt_of_block hb
  have f0 : w1.cell? ⟨w.heap.size, 0, none⟩ = some (.int .i64 a) := by simp [World.cell?, hb]
  have f1 : w1.cell? ⟨w.heap.size, 1, none⟩ = some (.int .i64 b) := by simp [World.cell?, hb]
  have f2 : w1.cell? ⟨w.heap.size, 2, none⟩ = some (.int .i64 c) := by simp [World.cell?, hb]
  have hg := grown_trans (World.grownBy_alloc w _ none) hg1
  clear hg1 HM
  go_wp2_with fail
  refine (HW.out _).mono ?_
  rintro e w2 ⟨rfl, hg2⟩
  have hb := (hg2.block _ hBl (by simp)).trans hb
  have hBl := lt_of_block hb
  have hg := grown_trans hg hg2
  clear hg2 HW f0 f1 f2
  go_wp2_with (refine wpList_make_whole _ rfl _ _ 33 rfl 44 i0 (.int .u64 0) Tryz.underlying33 hi hz0 hz1 _ _ _ N rfl rfl rfl ?m1 ?m2 ?_)
  case m1 => rw [hz2]; omega
  case m2 => unfold maxLen; omega
  intro w3 hrow hg3
  try rw [show (Value.int .u64 0).cells = #[Value.int .u64 0] from rfl] at hrow
  rw [made_wv] at hrow
  have hgs := hg.size
  have hb := (hg3.block _ hBl (by simp)).trans hb
  have hg := grown_trans hg hg3
  obtain ⟨g, Hg⟩ : ∃ g, Hid (g = w2.heap.size) := ⟨_, Lib.hid rfl⟩
  have hwg : w.heap.size < g := by rw [Hg.out]; exact hBl
  rw [← Hg.out] at hrow
  rw [← Hg.out]
  have hne : some w.heap.size ≠ some g := by intro e; injection e with e; omega
  have f0 : w3.cell? ⟨w.heap.size, 0, none⟩ = some (.int .i64 a) := by simp [World.cell?, hb]
  have f1 : w3.cell? ⟨w.heap.size, 1, none⟩ = some (.int .i64 b) := by simp [World.cell?, hb]
  have f2 : w3.cell? ⟨w.heap.size, 2, none⟩ = some (.int .i64 c) := by simp [World.cell?, hb]
  clear hg3 hgs hBl
  have hal : ∀ (xs : List Nat) (wx : World), At (wx.alloc (.cells (xs.map wv).toArray 44)) (some ⟨wx.heap.size, 0, none⟩) (xs.map wv) := fun xs wx => at_of_row (heap_alloc_new wx _)
  have hrow1 : (w3.alloc (.cells #[.int .u64 32762617960297063, .int .u64 (a : Int), .int .u64 (b : Int), .int .u64 (c : Int)] 44)).heap[g]? = some (.cells ((List.replicate N 0).map wv).toArray 44 (0, 0)) :=
    ((World.grownBy_alloc w3 _ none).block g (lt_of_block hrow) (by simp)).trans hrow
  go_wp2_with (refine wpList_copy_whole rfl _ _ _ _ rfl 44 Tryz.underlying33 Tryz.size44 g 0 N N ⟨w3.heap.size, 0, none⟩ 4 4 rfl rfl _ _ hrow1 ([32762617960297063, a, b, c].map wv) rfl ?a1 (hal _ _) ?a2 (wv_oneCell _) ?_)
  case a1 => omega
  case a2 => simp; omega
  intro w4 hrow2 hg4
  have hg := grown_new hg (grown_trans (grown_wide (World.grownBy_alloc w3 _ none)) hg4) (by intro k e; cases e; omega)
  have hb := (hg4.block _ (by have := lt_of_block hb; simp; omega) hne).trans (((World.grownBy_alloc w3 _ none).block _ (lt_of_block hb) (by simp)).trans hb)
  obtain ⟨L1, HL1⟩ : ∃ L1, Hid (L1 = splice (List.replicate N 0) 0 [32762617960297063, a, b, c]) := ⟨_, Lib.hid rfl⟩
  have hrow2 : w4.heap[g]? = some (.cells (L1.map wv).toArray 44 (0, 0)) := by rw [HL1.out, ← map_splice]; simpa using hrow2
  have hl1 : L1.length = N := by rw [HL1.out, length_splice _ _ _ (by simp; omega)]; simp
  clear hrow hrow1 hg4 f0 f1 f2
  have f0 : w4.cell? ⟨w.heap.size, 0, none⟩ = some (.int .i64 a) := by simp [World.cell?, hb]
  have f1 : w4.cell? ⟨w.heap.size, 1, none⟩ = some (.int .i64 b) := by simp [World.cell?, hb]
  have f2 : w4.cell? ⟨w.heap.size, 2, none⟩ = some (.int .i64 c) := by simp [World.cell?, hb]
  go_wp2_with fail
  refine (HI.out _).mono ?_
  rintro e w5 ⟨rfl, hg5⟩
  have hb := (hg5.block _ (lt_of_block hb) (by simp)).trans hb
  have hrow3 := (hg5.block _ (lt_of_block hrow2) (by simp)).trans hrow2
  have hg := grown_trans hg hg5
  have hS := fun wx => slice_lit (P := Tryz.prog) 33 44 Tryz.underlying33 Tryz.sizeOf44 g 0 N N (m + 32) (by omega) (by omega) wx
  rw [Nat.zero_add] at hS
  have hrow4 : (w5.alloc (.cells #[.int .u64 2, .int .u64 1] 44)).heap[g]? = some (.cells (L1.map wv).toArray 44 (0, 0)) :=
    ((World.grownBy_alloc w5 _ none).block g (lt_of_block hrow3) (by simp)).trans hrow3
  clear hg5 hrow2 f0 f1 f2 HI
  go_wp2_with (refine wpList_copy_whole rfl _ _ _ _ rfl 44 Tryz.underlying33 Tryz.size44 g (m + 32) (N - (m + 32)) (N - (m + 32)) ⟨w5.heap.size, 0, none⟩ 2 2 rfl rfl _ _ hrow4 ([2, 1].map wv) rfl ?b1 (hal _ _) ?b2 (wv_oneCell _) ?_)
  case b1 => omega
  case b2 => simp; omega
  intro w6 hrow5 hg6
  have hg := grown_new hg (grown_trans (grown_wide (World.grownBy_alloc w5 _ none)) hg6) (by intro k e; cases e; omega)
  have hb := (hg6.block _ (by have := lt_of_block hb; simp; omega) hne).trans (((World.grownBy_alloc w5 _ none).block _ (lt_of_block hb) (by simp)).trans hb)
  obtain ⟨L2, HL2⟩ : ∃ L2, Hid (L2 = splice L1 (m + 32) [2, 1]) := ⟨_, Lib.hid rfl⟩
  have hrow5 : w6.heap[g]? = some (.cells (L2.map wv).toArray 44 (0, 0)) := by rw [HL2.out, ← map_splice]; simpa using hrow5
  have hl2 : L2.length = N := by rw [HL2.out, length_splice _ _ _ (by simp; omega), hl1]
  clear hrow3 hrow4 hg6 hS
  have f0 : w6.cell? ⟨w.heap.size, 0, none⟩ = some (.int .i64 a) := by simp [World.cell?, hb]
  have f1 : w6.cell? ⟨w.heap.size, 1, none⟩ = some (.int .i64 b) := by simp [World.cell?, hb]
  have f2 : w6.cell? ⟨w.heap.size, 2, none⟩ = some (.int .i64 c) := by simp [World.cell?, hb]
  go_wp2_with fail
  refine (HIM.out _).mono ?_
  rintro e w7 ⟨rfl, hg7⟩
  have hb := (hg7.block _ (lt_of_block hb) (by simp)).trans hb
  have hrow6 := (hg7.block _ (lt_of_block hrow5) (by simp)).trans hrow5
  have hg := grown_trans hg hg7
  have hm1 : (0 : Int) ≤ (m : Int) := by omega
  have hm2 : (m : Int) < (N : Int) := by omega
  have hc1 : w7.cell? ⟨g, m, none⟩ = some (.int .u64 ((L2.getD m 0 : Nat) : Int)) := row_cell hrow6 m _ (map_wv_get _ _ (by rw [hl2]; omega))
  have hf1 := row_free hrow6 m
  have hrow7 : (w7.setCell ⟨g, m, none⟩ (.int .u64 3)).heap[g]? = _ := row_set hrow6 m (wv 3)
  have hgs := grown_setCell w7 ⟨g, m, none⟩ (.int .u64 3)
  have hb := (hgs.block _ (lt_of_block hb) hne).trans hb
  have hg := grown_new hg hgs (by intro k e; cases e; exact Nat.le_of_lt hwg)
  rw [← List.map_set] at hrow7
  clear hg7 hgs hrow6 hrow5 f0 f1 f2 HIM
  have f0 : (w7.setCell ⟨g, m, none⟩ (.int .u64 3)).cell? ⟨w.heap.size, 0, none⟩ = some (.int .i64 a) := by simp [World.cell?, hb]
  have f1 : (w7.setCell ⟨g, m, none⟩ (.int .u64 3)).cell? ⟨w.heap.size, 1, none⟩ = some (.int .i64 b) := by simp [World.cell?, hb]
  have f2 : (w7.setCell ⟨g, m, none⟩ (.int .u64 3)).cell? ⟨w.heap.size, 2, none⟩ = some (.int .i64 c) := by simp [World.cell?, hb]
  go_wp2_with fail
  refine (HBM.out _).mono ?_
  rintro e w8 ⟨rfl, hg8⟩
  have hg := grown_trans hg hg8
  have hrow8 := (hg8.block _ (lt_of_block hrow7) (by simp)).trans hrow7
  have hm3 : (0 : Int) ≤ ((m + 8 : Nat) : Int) := by omega
  have hm4 : ((m + 8 : Nat) : Int) < (N : Int) := by omega
  have hc2 : w8.cell? ⟨g, m + 8, none⟩ = some (.int .u64 (((L2.set m 3).getD (m + 8) 0 : Nat) : Int)) := row_cell hrow8 (m + 8) _ (map_wv_get _ _ (by rw [List.length_set, hl2]; omega))
  have hf2 := row_free hrow8 (m + 8)
  have hrow9 : (w8.setCell ⟨g, m + 8, none⟩ (.int .u64 1)).heap[g]? = _ := row_set hrow8 (m + 8) (wv 1)
  have hgs := grown_setCell w8 ⟨g, m + 8, none⟩ (.int .u64 1)
  have hg := grown_new hg hgs (by intro k e; cases e; exact Nat.le_of_lt hwg)
  rw [← List.map_set] at hrow9
  have he : (L2.set m 3).set (m + 8) 1 = fmtL a b c m N := by rw [HL2.out, HL1.out]; exact HF.out
  rw [he] at hrow9
  have hfin : NewWords (fmtL a b c m N) w (.returned (.slice (some ⟨g, 0, none⟩) N N)) (w8.setCell ⟨g, m + 8, none⟩ (.int .u64 1)) :=
    ⟨g, by rw [length_fmtL], hrow9, by omega, hg⟩
  have HFin := Lib.hid hfin
  clear hfin hrow9 hrow8 hrow7 hgs hg hg8 he f0 f1 f2 HBM hb
  go_wp2
  go_ret
  exact HFin.out
end Go.Proofs.YtpdofdloclmbdaaGreat
