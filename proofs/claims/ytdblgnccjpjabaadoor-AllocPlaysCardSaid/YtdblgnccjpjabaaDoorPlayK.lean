/- LayR, LayQ2, RefM, RefN, RefO, RefP, RefR, RefS, RefT, TakE, TakF, TakG, NewR, NewS, NewY, Trn, Geo in one. -/
import Derived.Test.YtdblgnccjpjabaaDoorLayN
import Derived.Deep.RegionHeld
import Derived.Test.YtdblgnccjpjabaaDoorBitI
import Derived.Test.YtdblgnccjpjabaaDoorOncK
import Derived.Test.YtdblgnccjpjabaaDoorRows
import Derived.Test.YtdblgnccjpjabaaDoorBase6
import Derived.ProofKit
import Derived.Deep.Slices
import Derived.Deep.Strs
import Derived.Test.YtdblgnccjpjabaaDoorLayA
-- OPTIONAL
section
/- The document's own places, walked. -/
namespace Go.Proofs.YtdblgnccjpjabaaDoor
open Go.RowKit Go.Grommet

set_option maxRecDepth 100000 in
set_option maxHeartbeats 1000000 in
theorem RMay_any (a b c : Int) (w : World) : Calls Tryd.prog 37 #[gv a b c] w (BoolIs (mayB a b c) w) := by
  unfold gv
  by_cases h1 : 1 ≤ a
  · by_cases h2 : a ≤ 4
    · by_cases h3 : 2 ≤ b
      · by_cases h4 : b ≤ 64
        · by_cases h5 : 2 ≤ c
          · by_cases h6 : c ≤ 512
            · have hv : mayB a b c = true := by unfold mayB; rw [decide_eq_true_eq]; omega
              rw [hv]
              go_enter Tryd.func37, Tryd.ntmps37
              go_wp2
              go_ret
              exact ⟨rfl, World.grownBy_alloc w _ none⟩
            · have hv : mayB a b c = false := by unfold mayB; rw [decide_eq_false_iff_not]; omega
              have hd : decide (c ≤ 512) = false := by simpa using h6
              rw [hv]
              go_enter Tryd.func37, Tryd.ntmps37
              go_wp2
              go_ret
              exact ⟨rfl, World.grownBy_alloc w _ none⟩
          · have hv : mayB a b c = false := by unfold mayB; rw [decide_eq_false_iff_not]; omega
            have hd : decide (2 ≤ c) = false := by simpa using h5
            rw [hv]
            go_enter Tryd.func37, Tryd.ntmps37
            go_wp2
            go_ret
            exact ⟨rfl, World.grownBy_alloc w _ none⟩
        · have hv : mayB a b c = false := by unfold mayB; rw [decide_eq_false_iff_not]; omega
          have hd : decide (b ≤ 64) = false := by simpa using h4
          rw [hv]
          go_enter Tryd.func37, Tryd.ntmps37
          go_wp2
          go_ret
          exact ⟨rfl, World.grownBy_alloc w _ none⟩
      · have hv : mayB a b c = false := by unfold mayB; rw [decide_eq_false_iff_not]; omega
        have hd : decide (2 ≤ b) = false := by simpa using h3
        rw [hv]
        go_enter Tryd.func37, Tryd.ntmps37
        go_wp2
        go_ret
        exact ⟨rfl, World.grownBy_alloc w _ none⟩
    · have hv : mayB a b c = false := by unfold mayB; rw [decide_eq_false_iff_not]; omega
      have hd : decide (a ≤ 4) = false := by simpa using h2
      rw [hv]
      go_enter Tryd.func37, Tryd.ntmps37
      go_wp2
      go_ret
      exact ⟨rfl, World.grownBy_alloc w _ none⟩
  · have hv : mayB a b c = false := by unfold mayB; rw [decide_eq_false_iff_not]; omega
    have hd : decide (1 ≤ a) = false := by simpa using h1
    rw [hv]
    go_enter Tryd.func37, Tryd.ntmps37
    go_wp2
    go_ret
    exact ⟨rfl, World.grownBy_alloc w _ none⟩


set_option maxRecDepth 100000 in
set_option maxHeartbeats 400000 in
theorem areas_any (w : World) : Calls Tryd.prog 82 #[] w (IntIs 264 w) := by
  go_enter Tryd.func82, Tryd.ntmps82
  go_wp2
  go_ret
  exact ⟨rfl, World.grownBy.refl _ _⟩

set_option maxRecDepth 100000 in
set_option maxHeartbeats 400000 in
theorem areas_q (w : World) : Calls Tryd.prog 82 #[] w fun e w' => e = .returned (.int .i64 264) ∧ w' = w := by
  go_enter Tryd.func82, Tryd.ntmps82
  go_wp2
  go_ret
  exact ⟨rfl, rfl⟩

set_option maxRecDepth 100000 in
set_option maxHeartbeats 400000 in
theorem maps_any (a b c : Int) (w : World) (h0 : 0 ≤ a) (h1 : a ≤ 1000) : Calls Tryd.prog 67 #[gv a b c] w (IntIs (264 + 208 * a) w) := by
  unfold gv
  have hw1 : IntKind.i64.wrap (208 * a) = 208 * a := IntWalk.i64_in _ ⟨by omega, by omega⟩
  have hw2 : IntKind.i64.wrap (264 + 208 * a) = 264 + 208 * a := IntWalk.i64_in _ ⟨by omega, by omega⟩
  go_enter Tryd.func67, Tryd.ntmps67
  go_wp2_with fail
  go_quiet ((go_at_call 82; exact Calls.quiet_of_same (areas_q _)))
  go_wp2
  go_ret
  exact ⟨rfl, grown_trans (World.grownBy_alloc w _ none) (grown_drewN _ _ _)⟩

set_option maxRecDepth 100000 in
set_option maxHeartbeats 1000000 in
theorem RInodeMapAt_any (a b c : Int) (w : World) : Calls Tryd.prog 39 #[gv a b c] w (IntIs (imapV a b c) w) := by
  have H1 := Lib.hid (fun wx => RMay_any a b c wx)
  unfold imapV
  by_cases h : mayB a b c = true
  · rw [h] at H1
    obtain ⟨q1, q2, q3, q4, q5, q6⟩ := mayB_yes h
    have H2 := Lib.hid (fun wx => maps_any a b c wx (by omega) (by omega))
    unfold gv at H1 H2 ⊢
    have hb : (w.alloc (.cells #[.int .i64 a, .int .i64 b, .int .i64 c] 30)).heap[w.heap.size]? = some (.cells #[.int .i64 a, .int .i64 b, .int .i64 c] 30 (0, 0)) := heap_alloc_new w _
    have hg := World.grownBy_alloc w (.cells #[.int .i64 a, .int .i64 b, .int .i64 c] 30) none
    rw [if_pos h]
    clear h
    go_enter Tryd.func39, Tryd.ntmps39
    go_wp2_with fail
    refine (H1.out _).mono ?_
    rintro e w1 ⟨rfl, hgx⟩
    have hb := (hgx.block _ (lt_of_block hb) (by simp)).trans hb
    have hg := grown_trans hg hgx
    clear hgx H1
    have f0 : w1.cell? ⟨w.heap.size, 0, none⟩ = some (.int .i64 a) := by simp [World.cell?, hb]
    have f1 : w1.cell? ⟨w.heap.size, 1, none⟩ = some (.int .i64 b) := by simp [World.cell?, hb]
    have f2 : w1.cell? ⟨w.heap.size, 2, none⟩ = some (.int .i64 c) := by simp [World.cell?, hb]
    go_wp2_with fail
    refine (H2.out _).mono ?_
    rintro e w2 ⟨rfl, hgx⟩
    have hb := (hgx.block _ (lt_of_block hb) (by simp)).trans hb
    clear f0 f1 f2
    have hg := grown_trans hg hgx
    clear hgx H2
    have f0 : w2.cell? ⟨w.heap.size, 0, none⟩ = some (.int .i64 a) := by simp [World.cell?, hb]
    have f1 : w2.cell? ⟨w.heap.size, 1, none⟩ = some (.int .i64 b) := by simp [World.cell?, hb]
    have f2 : w2.cell? ⟨w.heap.size, 2, none⟩ = some (.int .i64 c) := by simp [World.cell?, hb]
    go_wp2
    go_ret
    exact ⟨rfl, hg⟩
  · have h' : mayB a b c = false := by simpa using h
    rw [h'] at H1
    rw [if_neg h]
    unfold gv at H1 ⊢
    clear h h'
    have hb : (w.alloc (.cells #[.int .i64 a, .int .i64 b, .int .i64 c] 30)).heap[w.heap.size]? = some (.cells #[.int .i64 a, .int .i64 b, .int .i64 c] 30 (0, 0)) := heap_alloc_new w _
    have hg := World.grownBy_alloc w (.cells #[.int .i64 a, .int .i64 b, .int .i64 c] 30) none
    go_enter Tryd.func39, Tryd.ntmps39
    go_wp2_with fail
    refine (H1.out _).mono ?_
    rintro e w1 ⟨rfl, hgx⟩
    have hb := (hgx.block _ (lt_of_block hb) (by simp)).trans hb
    have hg := grown_trans hg hgx
    clear hgx H1
    have f0 : w1.cell? ⟨w.heap.size, 0, none⟩ = some (.int .i64 a) := by simp [World.cell?, hb]
    have f1 : w1.cell? ⟨w.heap.size, 1, none⟩ = some (.int .i64 b) := by simp [World.cell?, hb]
    have f2 : w1.cell? ⟨w.heap.size, 2, none⟩ = some (.int .i64 c) := by simp [World.cell?, hb]
    go_wp2
    go_ret
    exact ⟨rfl, hg⟩

set_option maxRecDepth 100000 in
set_option maxHeartbeats 1000000 in
theorem RBlockMapAt_any (a b c : Int) (w : World) : Calls Tryd.prog 40 #[gv a b c] w (IntIs (bmapV a b c) w) := by
  have H1 := Lib.hid (fun wx => RMay_any a b c wx)
  unfold bmapV
  by_cases h : mayB a b c = true
  · rw [h] at H1
    obtain ⟨q1, q2, q3, q4, q5, q6⟩ := mayB_yes h
    have H2 := Lib.hid (fun wx => maps_any a b c wx (by omega) (by omega))
    unfold gv at H1 H2 ⊢
    have hb : (w.alloc (.cells #[.int .i64 a, .int .i64 b, .int .i64 c] 30)).heap[w.heap.size]? = some (.cells #[.int .i64 a, .int .i64 b, .int .i64 c] 30 (0, 0)) := heap_alloc_new w _
    have hg := World.grownBy_alloc w (.cells #[.int .i64 a, .int .i64 b, .int .i64 c] 30) none
    rw [if_pos h]
    clear h
    go_enter Tryd.func40, Tryd.ntmps40
    go_wp2_with fail
    refine (H1.out _).mono ?_
    rintro e w1 ⟨rfl, hgx⟩
    have hb := (hgx.block _ (lt_of_block hb) (by simp)).trans hb
    have hg := grown_trans hg hgx
    clear hgx H1
    have f0 : w1.cell? ⟨w.heap.size, 0, none⟩ = some (.int .i64 a) := by simp [World.cell?, hb]
    have f1 : w1.cell? ⟨w.heap.size, 1, none⟩ = some (.int .i64 b) := by simp [World.cell?, hb]
    have f2 : w1.cell? ⟨w.heap.size, 2, none⟩ = some (.int .i64 c) := by simp [World.cell?, hb]
    go_wp2_with fail
    refine (H2.out _).mono ?_
    rintro e w2 ⟨rfl, hgx⟩
    have hb := (hgx.block _ (lt_of_block hb) (by simp)).trans hb
    clear f0 f1 f2
    have hg := grown_trans hg hgx
    clear hgx H2
    have f0 : w2.cell? ⟨w.heap.size, 0, none⟩ = some (.int .i64 a) := by simp [World.cell?, hb]
    have f1 : w2.cell? ⟨w.heap.size, 1, none⟩ = some (.int .i64 b) := by simp [World.cell?, hb]
    have f2 : w2.cell? ⟨w.heap.size, 2, none⟩ = some (.int .i64 c) := by simp [World.cell?, hb]
    go_wp2
    go_ret
    exact ⟨congrArg (fun x => Ending.returned (.int .i64 x)) (by omega), hg⟩
  · have h' : mayB a b c = false := by simpa using h
    rw [h'] at H1
    rw [if_neg h]
    unfold gv at H1 ⊢
    clear h h'
    have hb : (w.alloc (.cells #[.int .i64 a, .int .i64 b, .int .i64 c] 30)).heap[w.heap.size]? = some (.cells #[.int .i64 a, .int .i64 b, .int .i64 c] 30 (0, 0)) := heap_alloc_new w _
    have hg := World.grownBy_alloc w (.cells #[.int .i64 a, .int .i64 b, .int .i64 c] 30) none
    go_enter Tryd.func40, Tryd.ntmps40
    go_wp2_with fail
    refine (H1.out _).mono ?_
    rintro e w1 ⟨rfl, hgx⟩
    have hb := (hgx.block _ (lt_of_block hb) (by simp)).trans hb
    have hg := grown_trans hg hgx
    clear hgx H1
    have f0 : w1.cell? ⟨w.heap.size, 0, none⟩ = some (.int .i64 a) := by simp [World.cell?, hb]
    have f1 : w1.cell? ⟨w.heap.size, 1, none⟩ = some (.int .i64 b) := by simp [World.cell?, hb]
    have f2 : w1.cell? ⟨w.heap.size, 2, none⟩ = some (.int .i64 c) := by simp [World.cell?, hb]
    go_wp2
    go_ret
    exact ⟨rfl, hg⟩

set_option maxRecDepth 100000 in
set_option maxHeartbeats 1000000 in
theorem RInodeAt_any (a b c i : Int) (w : World) : Calls Tryd.prog 41 #[gv a b c, .int .i64 i] w (IntIs (inodeV a b c i) w) := by
  have H1 := Lib.hid (fun wx => RMay_any a b c wx)
  unfold inodeV
  by_cases h : mayB a b c = true
  · rw [h] at H1
    obtain ⟨q1, q2, q3, q4, q5, q6⟩ := mayB_yes h
    have H2 := Lib.hid (fun wx => maps_any a b c wx (by omega) (by omega))
    unfold gv at H1 H2 ⊢
    have hb : (w.alloc (.cells #[.int .i64 a, .int .i64 b, .int .i64 c] 30)).heap[w.heap.size]? = some (.cells #[.int .i64 a, .int .i64 b, .int .i64 c] 30 (0, 0)) := heap_alloc_new w _
    have hg := World.grownBy_alloc w (.cells #[.int .i64 a, .int .i64 b, .int .i64 c] 30) none
    by_cases h0 : 0 ≤ i
    · by_cases h1 : i < b
      · rw [if_pos ⟨h, h0, h1⟩]
        have h0' : ¬ i < 0 := by omega
        have h1' : ¬ b ≤ i := by omega
        clear h
        go_enter Tryd.func41, Tryd.ntmps41
        go_wp2_with fail
        refine (H1.out _).mono ?_
        rintro e w1 ⟨rfl, hgx⟩
        have hb := (hgx.block _ (lt_of_block hb) (by simp)).trans hb
        have hg := grown_trans hg hgx
        clear hgx H1
        have f0 : w1.cell? ⟨w.heap.size, 0, none⟩ = some (.int .i64 a) := by simp [World.cell?, hb]
        have f1 : w1.cell? ⟨w.heap.size, 1, none⟩ = some (.int .i64 b) := by simp [World.cell?, hb]
        have f2 : w1.cell? ⟨w.heap.size, 2, none⟩ = some (.int .i64 c) := by simp [World.cell?, hb]
        go_wp2_with fail
        refine (H2.out _).mono ?_
        rintro e w2 ⟨rfl, hgx⟩
        have hb := (hgx.block _ (lt_of_block hb) (by simp)).trans hb
        clear f0 f1 f2
        have hg := grown_trans hg hgx
        clear hgx H2
        have f0 : w2.cell? ⟨w.heap.size, 0, none⟩ = some (.int .i64 a) := by simp [World.cell?, hb]
        have f1 : w2.cell? ⟨w.heap.size, 1, none⟩ = some (.int .i64 b) := by simp [World.cell?, hb]
        have f2 : w2.cell? ⟨w.heap.size, 2, none⟩ = some (.int .i64 c) := by simp [World.cell?, hb]
        go_wp2
        go_ret
        exact ⟨congrArg (fun x => Ending.returned (.int .i64 x)) (by omega), hg⟩
      · rw [if_neg (fun q => h1 q.2.2)]
        have h0' : ¬ i < 0 := by omega
        have h1' : b ≤ i := by omega
        clear h
        go_enter Tryd.func41, Tryd.ntmps41
        go_wp2_with fail
        refine (H1.out _).mono ?_
        rintro e w1 ⟨rfl, hgx⟩
        have hb := (hgx.block _ (lt_of_block hb) (by simp)).trans hb
        have hg := grown_trans hg hgx
        clear hgx H1
        have f0 : w1.cell? ⟨w.heap.size, 0, none⟩ = some (.int .i64 a) := by simp [World.cell?, hb]
        have f1 : w1.cell? ⟨w.heap.size, 1, none⟩ = some (.int .i64 b) := by simp [World.cell?, hb]
        have f2 : w1.cell? ⟨w.heap.size, 2, none⟩ = some (.int .i64 c) := by simp [World.cell?, hb]
        go_wp2
        go_ret
        exact ⟨rfl, hg⟩
    · rw [if_neg (fun q => h0 q.2.1)]
      have h0' : i < 0 := by omega
      clear h
      go_enter Tryd.func41, Tryd.ntmps41
      go_wp2_with fail
      refine (H1.out _).mono ?_
      rintro e w1 ⟨rfl, hgx⟩
      have hb := (hgx.block _ (lt_of_block hb) (by simp)).trans hb
      have hg := grown_trans hg hgx
      clear hgx H1
      have f0 : w1.cell? ⟨w.heap.size, 0, none⟩ = some (.int .i64 a) := by simp [World.cell?, hb]
      have f1 : w1.cell? ⟨w.heap.size, 1, none⟩ = some (.int .i64 b) := by simp [World.cell?, hb]
      have f2 : w1.cell? ⟨w.heap.size, 2, none⟩ = some (.int .i64 c) := by simp [World.cell?, hb]
      go_wp2
      go_ret
      exact ⟨rfl, hg⟩
  · have h' : mayB a b c = false := by simpa using h
    rw [h'] at H1
    rw [if_neg (fun q => h q.1)]
    unfold gv at H1 ⊢
    clear h h'
    have hb : (w.alloc (.cells #[.int .i64 a, .int .i64 b, .int .i64 c] 30)).heap[w.heap.size]? = some (.cells #[.int .i64 a, .int .i64 b, .int .i64 c] 30 (0, 0)) := heap_alloc_new w _
    have hg := World.grownBy_alloc w (.cells #[.int .i64 a, .int .i64 b, .int .i64 c] 30) none
    go_enter Tryd.func41, Tryd.ntmps41
    go_wp2_with fail
    refine (H1.out _).mono ?_
    rintro e w1 ⟨rfl, hgx⟩
    have hb := (hgx.block _ (lt_of_block hb) (by simp)).trans hb
    have hg := grown_trans hg hgx
    clear hgx H1
    have f0 : w1.cell? ⟨w.heap.size, 0, none⟩ = some (.int .i64 a) := by simp [World.cell?, hb]
    have f1 : w1.cell? ⟨w.heap.size, 1, none⟩ = some (.int .i64 b) := by simp [World.cell?, hb]
    have f2 : w1.cell? ⟨w.heap.size, 2, none⟩ = some (.int .i64 c) := by simp [World.cell?, hb]
    go_wp2
    go_ret
    exact ⟨rfl, hg⟩

set_option maxRecDepth 100000 in
set_option maxHeartbeats 1000000 in
theorem RBlockAt_any (a b c i : Int) (w : World) : Calls Tryd.prog 54 #[gv a b c, .int .i64 i] w (IntIs (blockV a b c i) w) := by
  have H1 := Lib.hid (fun wx => RMay_any a b c wx)
  unfold blockV
  by_cases h : mayB a b c = true
  · rw [h] at H1
    obtain ⟨q1, q2, q3, q4, q5, q6⟩ := mayB_yes h
    have H2 := Lib.hid (fun wx => maps_any a b c wx (by omega) (by omega))
    unfold gv at H1 H2 ⊢
    have hb : (w.alloc (.cells #[.int .i64 a, .int .i64 b, .int .i64 c] 30)).heap[w.heap.size]? = some (.cells #[.int .i64 a, .int .i64 b, .int .i64 c] 30 (0, 0)) := heap_alloc_new w _
    have hg := World.grownBy_alloc w (.cells #[.int .i64 a, .int .i64 b, .int .i64 c] 30) none
    by_cases h0 : 0 ≤ i
    · by_cases h1 : i < c
      · rw [if_pos ⟨h, h0, h1⟩]
        have h0' : ¬ i < 0 := by omega
        have h1' : ¬ c ≤ i := by omega
        clear h
        go_enter Tryd.func54, Tryd.ntmps54
        go_wp2_with fail
        refine (H1.out _).mono ?_
        rintro e w1 ⟨rfl, hgx⟩
        have hb := (hgx.block _ (lt_of_block hb) (by simp)).trans hb
        have hg := grown_trans hg hgx
        clear hgx H1
        have f0 : w1.cell? ⟨w.heap.size, 0, none⟩ = some (.int .i64 a) := by simp [World.cell?, hb]
        have f1 : w1.cell? ⟨w.heap.size, 1, none⟩ = some (.int .i64 b) := by simp [World.cell?, hb]
        have f2 : w1.cell? ⟨w.heap.size, 2, none⟩ = some (.int .i64 c) := by simp [World.cell?, hb]
        have w1_ : IntKind.i64.wrap (16 * b) = 16 * b := IntWalk.i64_in _ ⟨by omega, by omega⟩
        have w2_ : IntKind.i64.wrap (8 * i) = 8 * i := IntWalk.i64_in _ ⟨by omega, by omega⟩
        have w3_ : IntKind.i64.wrap (264 + 208 * a + 16) = 264 + 208 * a + 16 := IntWalk.i64_in _ ⟨by omega, by omega⟩
        have w4_ : IntKind.i64.wrap (264 + 208 * a + 16 + 16 * b) = 264 + 208 * a + 16 + 16 * b := IntWalk.i64_in _ ⟨by omega, by omega⟩
        have w5_ : IntKind.i64.wrap (264 + 208 * a + 16 + 16 * b + 8 * i) = 264 + 208 * a + 16 + 16 * b + 8 * i := IntWalk.i64_in _ ⟨by omega, by omega⟩
        have he_ : 264 + 208 * a + 16 + 16 * b + 8 * i = 280 + 208 * a + 16 * b + 8 * i := by omega
        have HE := Lib.hid he_
        clear he_
        go_wp2_with fail
        refine wp_region_held_drew (S := fun w' => w'.heap[w.heap.size]? = some (.cells #[.int .i64 a, .int .i64 b, .int .i64 c] 30 (0, 0)) ∧ w.grownBy w' none) (by kernel_rfl) (⟨hb, grown_drew hg⟩) (fun hS => ?_)
        refine wpAnyH_take (i := 0) (oi := { dst := some 18, op := Op.load 30 (Operand.tmp 2), type := 30, pos := "ref.go:95", after := #[], guard := none }) (v := ?vba54r3o0) rfl (by kernel_rfl) (by kernel_rfl) (by kernel_rfl) (fun _ _ _ h => h) (Or.inl ⟨by rfl, ?hba54r3o0⟩) hS ?_
        case hba54r3o0 => (intro wx hx; have hb1 := hx.1; have f0 : wx.cell? ⟨w.heap.size, 0, none⟩ = some (.int .i64 a) := (by simp [World.cell?, hb1]); have f1 : wx.cell? ⟨w.heap.size, 1, none⟩ = some (.int .i64 b) := (by simp [World.cell?, hb1]); have f2 : wx.cell? ⟨w.heap.size, 2, none⟩ = some (.int .i64 c) := (by simp [World.cell?, hb1]); go_simp; (try with_reducible rfl))
        try simp only [Act.put, List.setIfInBounds_toArray, List.set_cons_zero, List.set_cons_succ]
        refine wpAnyH_take (i := 3) (oi := { dst := some 21, op := Op.fieldAddr 30 (Operand.tmp 2) 1, type := 0, pos := "ref.go:95", after := #[], guard := none }) (v := ?vba54r3o3) rfl (by kernel_rfl) (by kernel_rfl) (by kernel_rfl) (fun _ _ _ h => h) (Or.inl ⟨by rfl, ?hba54r3o3⟩) hS ?_
        case hba54r3o3 => (intro wx hx; skip; go_simp; (try with_reducible rfl))
        try simp only [Act.put, List.setIfInBounds_toArray, List.set_cons_zero, List.set_cons_succ]
        refine wpAnyH_take (i := 4) (oi := { dst := some 22, op := Op.load 3 (Operand.tmp 21), type := 3, pos := "ref.go:95", after := #[{ on := 3, ground := Ground.data }], guard := none }) (v := ?vba54r3o4) rfl (by kernel_rfl) (by kernel_rfl) (by kernel_rfl) (fun _ _ _ h => h) (Or.inl ⟨by rfl, ?hba54r3o4⟩) hS ?_
        case hba54r3o4 => (intro wx hx; have hb1 := hx.1; have f0 : wx.cell? ⟨w.heap.size, 0, none⟩ = some (.int .i64 a) := (by simp [World.cell?, hb1]); have f1 : wx.cell? ⟨w.heap.size, 1, none⟩ = some (.int .i64 b) := (by simp [World.cell?, hb1]); have f2 : wx.cell? ⟨w.heap.size, 2, none⟩ = some (.int .i64 c) := (by simp [World.cell?, hb1]); go_simp; (try with_reducible rfl))
        try simp only [Act.put, List.setIfInBounds_toArray, List.set_cons_zero, List.set_cons_succ]
        refine wpAnyH_take (i := 5) (oi := { dst := some 23, op := Op.binOp BinOp.mul 3 (Operand.const (Value.int IntKind.i64 16)) (Operand.tmp 22) 3, type := 3, pos := "ref.go:95", after := #[{ on := 4, ground := Ground.data }], guard := none }) (v := ?vba54r3o5) rfl (by kernel_rfl) (by kernel_rfl) (by kernel_rfl) (fun _ _ _ h => h) (Or.inl ⟨by rfl, ?hba54r3o5⟩) hS ?_
        case hba54r3o5 => (intro wx hx; skip; go_simp; (try with_reducible rfl))
        try simp only [Act.put, List.setIfInBounds_toArray, List.set_cons_zero, List.set_cons_succ]
        refine wpAnyH_take (i := 7) (oi := { dst := some 25, op := Op.move (Operand.tmp 1), type := 3, pos := "ref.go:95", after := #[], guard := none }) (v := ?vba54r3o7) rfl (by kernel_rfl) (by kernel_rfl) (by kernel_rfl) (fun _ _ _ h => h) (Or.inl ⟨by rfl, ?hba54r3o7⟩) hS ?_
        case hba54r3o7 => (intro wx hx; skip; go_simp; (try with_reducible rfl))
        try simp only [Act.put, List.setIfInBounds_toArray, List.set_cons_zero, List.set_cons_succ]
        refine wpAnyH_take (i := 8) (oi := { dst := some 26, op := Op.binOp BinOp.mul 3 (Operand.const (Value.int IntKind.i64 8)) (Operand.tmp 25) 3, type := 3, pos := "ref.go:95", after := #[{ on := 7, ground := Ground.data }], guard := none }) (v := ?vba54r3o8) rfl (by kernel_rfl) (by kernel_rfl) (by kernel_rfl) (fun _ _ _ h => h) (Or.inl ⟨by rfl, ?hba54r3o8⟩) hS ?_
        case hba54r3o8 => (intro wx hx; skip; go_simp; (try with_reducible rfl))
        try simp only [Act.put, List.setIfInBounds_toArray, List.set_cons_zero, List.set_cons_succ]
        refine wpAnyH_ready (rs := [1]) (by kernel_rfl) (by simp) ?_
        refine AllReadyH.cons (o := { dst := some 19, op := Op.call { callee := Callee.value (Operand.func 67), args := #[Operand.tmp 18], argTypes := #[30] }, type := 3, pos := "ref.go:95", after := #[{ on := 0, ground := Ground.data }], guard := none }) rfl (fun K hK => ?_) AllReadyH.nil
        go_simp
        refine (H2.out _).mono ?_
        rintro e w2 ⟨rfl, hgx⟩
        have hS1 := And.intro ((hgx.block _ (lt_of_block hS.1) (by simp)).trans hS.1) (grown_trans hS.2 hgx)
        refine hK.out _ _ ?hsba54r3o1 (fun hS => ?_)
        case hsba54r3o1 => (exact hS1)
        clear hK K
        try simp only [Act.put, List.setIfInBounds_toArray, List.set_cons_zero, List.set_cons_succ]
        refine wpAnyH_take (i := 2) (oi := { dst := some 20, op := Op.binOp BinOp.add 3 (Operand.tmp 19) (Operand.const (Value.int IntKind.i64 16)) 3, type := 3, pos := "ref.go:95", after := #[{ on := 1, ground := Ground.data }], guard := none }) (v := ?vba54r3o2) rfl (by kernel_rfl) (by kernel_rfl) (by kernel_rfl) (fun _ _ _ h => h) (Or.inl ⟨by rfl, ?hba54r3o2⟩) hS ?_
        case hba54r3o2 => (intro wx hx; skip; go_simp; (try with_reducible rfl))
        try simp only [Act.put, List.setIfInBounds_toArray, List.set_cons_zero, List.set_cons_succ]
        refine wpAnyH_take (i := 6) (oi := { dst := some 24, op := Op.binOp BinOp.add 3 (Operand.tmp 20) (Operand.tmp 23) 3, type := 3, pos := "ref.go:95", after := #[{ on := 2, ground := Ground.data }, { on := 5, ground := Ground.data }], guard := none }) (v := ?vba54r3o6) rfl (by kernel_rfl) (by kernel_rfl) (by kernel_rfl) (fun _ _ _ h => h) (Or.inl ⟨by rfl, ?hba54r3o6⟩) hS ?_
        case hba54r3o6 => (intro wx hx; skip; go_simp; (try with_reducible rfl))
        try simp only [Act.put, List.setIfInBounds_toArray, List.set_cons_zero, List.set_cons_succ]
        refine wpAnyH_take (i := 9) (oi := { dst := some 27, op := Op.binOp BinOp.add 3 (Operand.tmp 24) (Operand.tmp 26) 3, type := 3, pos := "ref.go:95", after := #[{ on := 6, ground := Ground.data }, { on := 8, ground := Ground.data }], guard := none }) (v := ?vba54r3o9) rfl (by kernel_rfl) (by kernel_rfl) (by kernel_rfl) (fun _ _ _ h => h) (Or.inl ⟨by rfl, ?hba54r3o9⟩) hS ?_
        case hba54r3o9 => (intro wx hx; skip; go_simp; (try with_reducible rfl))
        try simp only [Act.put, List.setIfInBounds_toArray, List.set_cons_zero, List.set_cons_succ]
        refine wpAnyH_take (i := 10) (oi := { dst := some 4, op := Op.assign (Operand.tmp 27), type := 3, pos := "ref.go:95", after := #[{ on := 9, ground := Ground.data }, { on := 1, ground := Ground.chain }, { on := 0, ground := Ground.phase }, { on := 1, ground := Ground.phase }, { on := 2, ground := Ground.phase }, { on := 3, ground := Ground.phase }, { on := 4, ground := Ground.phase }, { on := 5, ground := Ground.phase }, { on := 6, ground := Ground.phase }, { on := 7, ground := Ground.phase }, { on := 8, ground := Ground.phase }, { on := 9, ground := Ground.phase }], guard := none }) (v := ?vba54r3o10) rfl (by kernel_rfl) (by kernel_rfl) (by kernel_rfl) (fun _ _ _ h => h) (Or.inl ⟨by rfl, ?hba54r3o10⟩) hS ?_
        case hba54r3o10 => (intro wx hx; skip; go_simp; (try with_reducible rfl))
        try simp only [Act.put, List.setIfInBounds_toArray, List.set_cons_zero, List.set_cons_succ]
        refine wpAnyH_done (by kernel_rfl) ?_ _
        go_wp2
        go_ret
        exact ⟨congrArg (fun x => Ending.returned (.int .i64 x)) HE.out, hS.2⟩
      · rw [if_neg (fun q => h1 q.2.2)]
        have h0' : ¬ i < 0 := by omega
        have h1' : c ≤ i := by omega
        clear h
        go_enter Tryd.func54, Tryd.ntmps54
        go_wp2_with fail
        refine (H1.out _).mono ?_
        rintro e w1 ⟨rfl, hgx⟩
        have hb := (hgx.block _ (lt_of_block hb) (by simp)).trans hb
        have hg := grown_trans hg hgx
        clear hgx H1
        have f0 : w1.cell? ⟨w.heap.size, 0, none⟩ = some (.int .i64 a) := by simp [World.cell?, hb]
        have f1 : w1.cell? ⟨w.heap.size, 1, none⟩ = some (.int .i64 b) := by simp [World.cell?, hb]
        have f2 : w1.cell? ⟨w.heap.size, 2, none⟩ = some (.int .i64 c) := by simp [World.cell?, hb]
        go_wp2
        go_ret
        exact ⟨rfl, hg⟩
    · rw [if_neg (fun q => h0 q.2.1)]
      have h0' : i < 0 := by omega
      clear h
      go_enter Tryd.func54, Tryd.ntmps54
      go_wp2_with fail
      refine (H1.out _).mono ?_
      rintro e w1 ⟨rfl, hgx⟩
      have hb := (hgx.block _ (lt_of_block hb) (by simp)).trans hb
      have hg := grown_trans hg hgx
      clear hgx H1
      have f0 : w1.cell? ⟨w.heap.size, 0, none⟩ = some (.int .i64 a) := by simp [World.cell?, hb]
      have f1 : w1.cell? ⟨w.heap.size, 1, none⟩ = some (.int .i64 b) := by simp [World.cell?, hb]
      have f2 : w1.cell? ⟨w.heap.size, 2, none⟩ = some (.int .i64 c) := by simp [World.cell?, hb]
      go_wp2
      go_ret
      exact ⟨rfl, hg⟩
  · have h' : mayB a b c = false := by simpa using h
    rw [h'] at H1
    rw [if_neg (fun q => h q.1)]
    unfold gv at H1 ⊢
    clear h h'
    have hb : (w.alloc (.cells #[.int .i64 a, .int .i64 b, .int .i64 c] 30)).heap[w.heap.size]? = some (.cells #[.int .i64 a, .int .i64 b, .int .i64 c] 30 (0, 0)) := heap_alloc_new w _
    have hg := World.grownBy_alloc w (.cells #[.int .i64 a, .int .i64 b, .int .i64 c] 30) none
    go_enter Tryd.func54, Tryd.ntmps54
    go_wp2_with fail
    refine (H1.out _).mono ?_
    rintro e w1 ⟨rfl, hgx⟩
    have hb := (hgx.block _ (lt_of_block hb) (by simp)).trans hb
    have hg := grown_trans hg hgx
    clear hgx H1
    have f0 : w1.cell? ⟨w.heap.size, 0, none⟩ = some (.int .i64 a) := by simp [World.cell?, hb]
    have f1 : w1.cell? ⟨w.heap.size, 1, none⟩ = some (.int .i64 b) := by simp [World.cell?, hb]
    have f2 : w1.cell? ⟨w.heap.size, 2, none⟩ = some (.int .i64 c) := by simp [World.cell?, hb]
    go_wp2
    go_ret
    exact ⟨rfl, hg⟩

set_option maxRecDepth 100000 in
set_option maxHeartbeats 1000000 in
theorem RWords_any (a b c : Int) (w : World) : Calls Tryd.prog 38 #[gv a b c] w (IntIs (wordsV a b c) w) := by
  have H1 := Lib.hid (fun wx => RMay_any a b c wx)
  unfold wordsV
  by_cases h : mayB a b c = true
  · rw [h] at H1
    obtain ⟨q1, q2, q3, q4, q5, q6⟩ := mayB_yes h
    have H2 := Lib.hid (fun wx => maps_any a b c wx (by omega) (by omega))
    unfold gv at H1 H2 ⊢
    have hb : (w.alloc (.cells #[.int .i64 a, .int .i64 b, .int .i64 c] 30)).heap[w.heap.size]? = some (.cells #[.int .i64 a, .int .i64 b, .int .i64 c] 30 (0, 0)) := heap_alloc_new w _
    have hg := World.grownBy_alloc w (.cells #[.int .i64 a, .int .i64 b, .int .i64 c] 30) none
    rw [if_pos h]
    clear h
    go_enter Tryd.func38, Tryd.ntmps38
    go_wp2_with fail
    refine (H1.out _).mono ?_
    rintro e w1 ⟨rfl, hgx⟩
    have hb := (hgx.block _ (lt_of_block hb) (by simp)).trans hb
    have hg := grown_trans hg hgx
    clear hgx H1
    have f0 : w1.cell? ⟨w.heap.size, 0, none⟩ = some (.int .i64 a) := by simp [World.cell?, hb]
    have f1 : w1.cell? ⟨w.heap.size, 1, none⟩ = some (.int .i64 b) := by simp [World.cell?, hb]
    have f2 : w1.cell? ⟨w.heap.size, 2, none⟩ = some (.int .i64 c) := by simp [World.cell?, hb]
    have w1_ : IntKind.i64.wrap (16 * b) = 16 * b := IntWalk.i64_in _ ⟨by omega, by omega⟩
    have w2_ : IntKind.i64.wrap (8 * c) = 8 * c := IntWalk.i64_in _ ⟨by omega, by omega⟩
    have w3_ : IntKind.i64.wrap (264 + 208 * a + 16) = 264 + 208 * a + 16 := IntWalk.i64_in _ ⟨by omega, by omega⟩
    have w4_ : IntKind.i64.wrap (264 + 208 * a + 16 + 16 * b) = 264 + 208 * a + 16 + 16 * b := IntWalk.i64_in _ ⟨by omega, by omega⟩
    have w5_ : IntKind.i64.wrap (264 + 208 * a + 16 + 16 * b + 8 * c) = 264 + 208 * a + 16 + 16 * b + 8 * c := IntWalk.i64_in _ ⟨by omega, by omega⟩
    have he_ : 264 + 208 * a + 16 + 16 * b + 8 * c = 280 + 208 * a + 16 * b + 8 * c := by omega
    have HE := Lib.hid he_
    clear he_
    go_wp2_with fail
    refine wp_region_held_drew (S := fun w' => w'.heap[w.heap.size]? = some (.cells #[.int .i64 a, .int .i64 b, .int .i64 c] 30 (0, 0)) ∧ w.grownBy w' none) (by kernel_rfl) (⟨hb, grown_drew hg⟩) (fun hS => ?_)
    refine wpAnyH_take (i := 0) (oi := { dst := some 6, op := Op.load 30 (Operand.tmp 1), type := 30, pos := "ref.go:103", after := #[], guard := none }) (v := ?vwo38r3o0) rfl (by kernel_rfl) (by kernel_rfl) (by kernel_rfl) (fun _ _ _ h => h) (Or.inl ⟨by rfl, ?hwo38r3o0⟩) hS ?_
    case hwo38r3o0 => (intro wx hx; have hb1 := hx.1; have f0 : wx.cell? ⟨w.heap.size, 0, none⟩ = some (.int .i64 a) := (by simp [World.cell?, hb1]); have f1 : wx.cell? ⟨w.heap.size, 1, none⟩ = some (.int .i64 b) := (by simp [World.cell?, hb1]); have f2 : wx.cell? ⟨w.heap.size, 2, none⟩ = some (.int .i64 c) := (by simp [World.cell?, hb1]); go_simp; (try with_reducible rfl))
    try simp only [Act.put, List.setIfInBounds_toArray, List.set_cons_zero, List.set_cons_succ]
    refine wpAnyH_take (i := 3) (oi := { dst := some 9, op := Op.fieldAddr 30 (Operand.tmp 1) 1, type := 0, pos := "ref.go:103", after := #[], guard := none }) (v := ?vwo38r3o3) rfl (by kernel_rfl) (by kernel_rfl) (by kernel_rfl) (fun _ _ _ h => h) (Or.inl ⟨by rfl, ?hwo38r3o3⟩) hS ?_
    case hwo38r3o3 => (intro wx hx; skip; go_simp; (try with_reducible rfl))
    try simp only [Act.put, List.setIfInBounds_toArray, List.set_cons_zero, List.set_cons_succ]
    refine wpAnyH_take (i := 4) (oi := { dst := some 10, op := Op.load 3 (Operand.tmp 9), type := 3, pos := "ref.go:103", after := #[{ on := 3, ground := Ground.data }], guard := none }) (v := ?vwo38r3o4) rfl (by kernel_rfl) (by kernel_rfl) (by kernel_rfl) (fun _ _ _ h => h) (Or.inl ⟨by rfl, ?hwo38r3o4⟩) hS ?_
    case hwo38r3o4 => (intro wx hx; have hb1 := hx.1; have f0 : wx.cell? ⟨w.heap.size, 0, none⟩ = some (.int .i64 a) := (by simp [World.cell?, hb1]); have f1 : wx.cell? ⟨w.heap.size, 1, none⟩ = some (.int .i64 b) := (by simp [World.cell?, hb1]); have f2 : wx.cell? ⟨w.heap.size, 2, none⟩ = some (.int .i64 c) := (by simp [World.cell?, hb1]); go_simp; (try with_reducible rfl))
    try simp only [Act.put, List.setIfInBounds_toArray, List.set_cons_zero, List.set_cons_succ]
    refine wpAnyH_take (i := 5) (oi := { dst := some 11, op := Op.binOp BinOp.mul 3 (Operand.const (Value.int IntKind.i64 16)) (Operand.tmp 10) 3, type := 3, pos := "ref.go:103", after := #[{ on := 4, ground := Ground.data }], guard := none }) (v := ?vwo38r3o5) rfl (by kernel_rfl) (by kernel_rfl) (by kernel_rfl) (fun _ _ _ h => h) (Or.inl ⟨by rfl, ?hwo38r3o5⟩) hS ?_
    case hwo38r3o5 => (intro wx hx; skip; go_simp; (try with_reducible rfl))
    try simp only [Act.put, List.setIfInBounds_toArray, List.set_cons_zero, List.set_cons_succ]
    refine wpAnyH_take (i := 7) (oi := { dst := some 13, op := Op.fieldAddr 30 (Operand.tmp 1) 2, type := 0, pos := "ref.go:103", after := #[], guard := none }) (v := ?vwo38r3o7) rfl (by kernel_rfl) (by kernel_rfl) (by kernel_rfl) (fun _ _ _ h => h) (Or.inl ⟨by rfl, ?hwo38r3o7⟩) hS ?_
    case hwo38r3o7 => (intro wx hx; skip; go_simp; (try with_reducible rfl))
    try simp only [Act.put, List.setIfInBounds_toArray, List.set_cons_zero, List.set_cons_succ]
    refine wpAnyH_take (i := 8) (oi := { dst := some 14, op := Op.load 3 (Operand.tmp 13), type := 3, pos := "ref.go:103", after := #[{ on := 7, ground := Ground.data }], guard := none }) (v := ?vwo38r3o8) rfl (by kernel_rfl) (by kernel_rfl) (by kernel_rfl) (fun _ _ _ h => h) (Or.inl ⟨by rfl, ?hwo38r3o8⟩) hS ?_
    case hwo38r3o8 => (intro wx hx; have hb1 := hx.1; have f0 : wx.cell? ⟨w.heap.size, 0, none⟩ = some (.int .i64 a) := (by simp [World.cell?, hb1]); have f1 : wx.cell? ⟨w.heap.size, 1, none⟩ = some (.int .i64 b) := (by simp [World.cell?, hb1]); have f2 : wx.cell? ⟨w.heap.size, 2, none⟩ = some (.int .i64 c) := (by simp [World.cell?, hb1]); go_simp; (try with_reducible rfl))
    try simp only [Act.put, List.setIfInBounds_toArray, List.set_cons_zero, List.set_cons_succ]
    refine wpAnyH_take (i := 9) (oi := { dst := some 15, op := Op.binOp BinOp.mul 3 (Operand.const (Value.int IntKind.i64 8)) (Operand.tmp 14) 3, type := 3, pos := "ref.go:103", after := #[{ on := 8, ground := Ground.data }], guard := none }) (v := ?vwo38r3o9) rfl (by kernel_rfl) (by kernel_rfl) (by kernel_rfl) (fun _ _ _ h => h) (Or.inl ⟨by rfl, ?hwo38r3o9⟩) hS ?_
    case hwo38r3o9 => (intro wx hx; skip; go_simp; (try with_reducible rfl))
    try simp only [Act.put, List.setIfInBounds_toArray, List.set_cons_zero, List.set_cons_succ]
    refine wpAnyH_ready (rs := [1]) (by kernel_rfl) (by simp) ?_
    refine AllReadyH.cons (o := { dst := some 7, op := Op.call { callee := Callee.value (Operand.func 67), args := #[Operand.tmp 6], argTypes := #[30] }, type := 3, pos := "ref.go:103", after := #[{ on := 0, ground := Ground.data }], guard := none }) rfl (fun K hK => ?_) AllReadyH.nil
    go_simp
    refine (H2.out _).mono ?_
    rintro e w2 ⟨rfl, hgx⟩
    have hS1 := And.intro ((hgx.block _ (lt_of_block hS.1) (by simp)).trans hS.1) (grown_trans hS.2 hgx)
    refine hK.out _ _ ?hswo38r3o1 (fun hS => ?_)
    case hswo38r3o1 => (exact hS1)
    clear hK K
    try simp only [Act.put, List.setIfInBounds_toArray, List.set_cons_zero, List.set_cons_succ]
    refine wpAnyH_take (i := 2) (oi := { dst := some 8, op := Op.binOp BinOp.add 3 (Operand.tmp 7) (Operand.const (Value.int IntKind.i64 16)) 3, type := 3, pos := "ref.go:103", after := #[{ on := 1, ground := Ground.data }], guard := none }) (v := ?vwo38r3o2) rfl (by kernel_rfl) (by kernel_rfl) (by kernel_rfl) (fun _ _ _ h => h) (Or.inl ⟨by rfl, ?hwo38r3o2⟩) hS ?_
    case hwo38r3o2 => (intro wx hx; skip; go_simp; (try with_reducible rfl))
    try simp only [Act.put, List.setIfInBounds_toArray, List.set_cons_zero, List.set_cons_succ]
    refine wpAnyH_take (i := 6) (oi := { dst := some 12, op := Op.binOp BinOp.add 3 (Operand.tmp 8) (Operand.tmp 11) 3, type := 3, pos := "ref.go:103", after := #[{ on := 2, ground := Ground.data }, { on := 5, ground := Ground.data }], guard := none }) (v := ?vwo38r3o6) rfl (by kernel_rfl) (by kernel_rfl) (by kernel_rfl) (fun _ _ _ h => h) (Or.inl ⟨by rfl, ?hwo38r3o6⟩) hS ?_
    case hwo38r3o6 => (intro wx hx; skip; go_simp; (try with_reducible rfl))
    try simp only [Act.put, List.setIfInBounds_toArray, List.set_cons_zero, List.set_cons_succ]
    refine wpAnyH_take (i := 10) (oi := { dst := some 16, op := Op.binOp BinOp.add 3 (Operand.tmp 12) (Operand.tmp 15) 3, type := 3, pos := "ref.go:103", after := #[{ on := 6, ground := Ground.data }, { on := 9, ground := Ground.data }], guard := none }) (v := ?vwo38r3o10) rfl (by kernel_rfl) (by kernel_rfl) (by kernel_rfl) (fun _ _ _ h => h) (Or.inl ⟨by rfl, ?hwo38r3o10⟩) hS ?_
    case hwo38r3o10 => (intro wx hx; skip; go_simp; (try with_reducible rfl))
    try simp only [Act.put, List.setIfInBounds_toArray, List.set_cons_zero, List.set_cons_succ]
    refine wpAnyH_take (i := 11) (oi := { dst := some 2, op := Op.assign (Operand.tmp 16), type := 3, pos := "ref.go:103", after := #[{ on := 10, ground := Ground.data }, { on := 1, ground := Ground.chain }, { on := 0, ground := Ground.phase }, { on := 1, ground := Ground.phase }, { on := 2, ground := Ground.phase }, { on := 3, ground := Ground.phase }, { on := 4, ground := Ground.phase }, { on := 5, ground := Ground.phase }, { on := 6, ground := Ground.phase }, { on := 7, ground := Ground.phase }, { on := 8, ground := Ground.phase }, { on := 9, ground := Ground.phase }, { on := 10, ground := Ground.phase }], guard := none }) (v := ?vwo38r3o11) rfl (by kernel_rfl) (by kernel_rfl) (by kernel_rfl) (fun _ _ _ h => h) (Or.inl ⟨by rfl, ?hwo38r3o11⟩) hS ?_
    case hwo38r3o11 => (intro wx hx; skip; go_simp; (try with_reducible rfl))
    try simp only [Act.put, List.setIfInBounds_toArray, List.set_cons_zero, List.set_cons_succ]
    refine wpAnyH_done (by kernel_rfl) ?_ _
    go_wp2
    go_ret
    exact ⟨congrArg (fun x => Ending.returned (.int .i64 x)) HE.out, hS.2⟩
  · have h' : mayB a b c = false := by simpa using h
    rw [h'] at H1
    rw [if_neg h]
    unfold gv at H1 ⊢
    clear h h'
    have hb : (w.alloc (.cells #[.int .i64 a, .int .i64 b, .int .i64 c] 30)).heap[w.heap.size]? = some (.cells #[.int .i64 a, .int .i64 b, .int .i64 c] 30 (0, 0)) := heap_alloc_new w _
    have hg := World.grownBy_alloc w (.cells #[.int .i64 a, .int .i64 b, .int .i64 c] 30) none
    go_enter Tryd.func38, Tryd.ntmps38
    go_wp2_with fail
    refine (H1.out _).mono ?_
    rintro e w1 ⟨rfl, hgx⟩
    have hb := (hgx.block _ (lt_of_block hb) (by simp)).trans hb
    have hg := grown_trans hg hgx
    clear hgx H1
    have f0 : w1.cell? ⟨w.heap.size, 0, none⟩ = some (.int .i64 a) := by simp [World.cell?, hb]
    have f1 : w1.cell? ⟨w.heap.size, 1, none⟩ = some (.int .i64 b) := by simp [World.cell?, hb]
    have f2 : w1.cell? ⟨w.heap.size, 2, none⟩ = some (.int .i64 c) := by simp [World.cell?, hb]
    go_wp2
    go_ret
    exact ⟨rfl, hg⟩
end Go.Proofs.YtdblgnccjpjabaaDoor
end
section
/- The document's words of a new device. -/
namespace Go.Proofs.YtdblgnccjpjabaaDoor
open Go.RowKit Go.Grommet

set_option maxRecDepth 100000 in
set_option maxHeartbeats 400000 in
theorem RFormat_none (a b c : Int) (w : World) (h : mayB a b c = false) : Calls Tryd.prog 9 #[gv a b c] w fun e w' => e = .returned (.slice none 0 0) ∧ w.grownBy w' none := by
  have HM := Lib.hid (fun wx => RMay_any a b c wx)
  unfold gv at HM ⊢
  rw [h] at HM
  go_enter Tryd.func9, Tryd.ntmps9
  go_wp2_with fail
  refine (HM.out _).mono ?_
  rintro e w1 ⟨rfl, hg1⟩
  go_wp2
  go_ret
  exact ⟨rfl, grown_trans (World.grownBy_alloc w _ none) hg1⟩

set_option maxRecDepth 100000 in
theorem map_set (f : Nat → Nat) (N j v : Nat) : ((List.range N).map f).set j v = (List.range N).map (fun i => if i = j then v else f i) := by
  apply List.ext_getElem?
  intro i
  rw [List.getElem?_set]
  by_cases hi : i < N
  · by_cases hj : j = i
    · subst hj; simp [hi]
    · rw [if_neg hj]
      have : ¬ i = j := fun h => hj h.symm
      simp [hi, this]
  · by_cases hj : j = i
    · subst hj; simp [hi]
    · rw [if_neg hj]; simp [hi]
set_option maxRecDepth 100000 in
theorem rep_map (N : Nat) : List.replicate N 0 = (List.range N).map (fun _ => 0) := by simp [List.map_const']

set_option maxRecDepth 100000 in
theorem fmt_set (a b c m N : Nat) (h4 : 4 ≤ m) :
    ((((((((List.replicate N 0).set 0 32762617960297063).set 1 a).set 2 b).set 3 c).set m 3).set (m + 8) 1).set (m + 32) 2).set (m + 33) 1 = fmtL a b c m N := by
  rw [rep_map, map_set, map_set, map_set, map_set, map_set, map_set, map_set, map_set]
  unfold fmtL
  apply List.map_congr_left
  intro i _
  unfold fmtAt
  by_cases e0 : i = 0
  · refine Eq.trans (b := 32762617960297063) ?_ ?_
    · rw [if_neg (show ¬ i = m + 33 by omega), if_neg (show ¬ i = m + 32 by omega), if_neg (show ¬ i = m + 8 by omega), if_neg (show ¬ i = m by omega), if_neg (show ¬ i = 3 by omega), if_neg (show ¬ i = 2 by omega), if_neg (show ¬ i = 1 by omega), if_pos e0]
    · rw [if_pos e0]
  by_cases e1 : i = 1
  · refine Eq.trans (b := a) ?_ ?_
    · rw [if_neg (show ¬ i = m + 33 by omega), if_neg (show ¬ i = m + 32 by omega), if_neg (show ¬ i = m + 8 by omega), if_neg (show ¬ i = m by omega), if_neg (show ¬ i = 3 by omega), if_neg (show ¬ i = 2 by omega), if_pos e1]
    · rw [if_neg e0, if_pos e1]
  by_cases e2 : i = 2
  · refine Eq.trans (b := b) ?_ ?_
    · rw [if_neg (show ¬ i = m + 33 by omega), if_neg (show ¬ i = m + 32 by omega), if_neg (show ¬ i = m + 8 by omega), if_neg (show ¬ i = m by omega), if_neg (show ¬ i = 3 by omega), if_pos e2]
    · rw [if_neg e0, if_neg e1, if_pos e2]
  by_cases e3 : i = 3
  · refine Eq.trans (b := c) ?_ ?_
    · rw [if_neg (show ¬ i = m + 33 by omega), if_neg (show ¬ i = m + 32 by omega), if_neg (show ¬ i = m + 8 by omega), if_neg (show ¬ i = m by omega), if_pos e3]
    · rw [if_neg e0, if_neg e1, if_neg e2, if_pos e3]
  by_cases e4 : i = m
  · refine Eq.trans (b := 3) ?_ ?_
    · rw [if_neg (show ¬ i = m + 33 by omega), if_neg (show ¬ i = m + 32 by omega), if_neg (show ¬ i = m + 8 by omega), if_pos e4]
    · rw [if_neg e0, if_neg e1, if_neg e2, if_neg e3, if_pos e4]
  by_cases e5 : i = m + 8
  · refine Eq.trans (b := 1) ?_ ?_
    · rw [if_neg (show ¬ i = m + 33 by omega), if_neg (show ¬ i = m + 32 by omega), if_pos e5]
    · rw [if_neg e0, if_neg e1, if_neg e2, if_neg e3, if_neg e4, if_pos e5]
  by_cases e6 : i = m + 32
  · refine Eq.trans (b := 2) ?_ ?_
    · rw [if_neg (show ¬ i = m + 33 by omega), if_pos e6]
    · rw [if_neg e0, if_neg e1, if_neg e2, if_neg e3, if_neg e4, if_neg e5, if_pos e6]
  by_cases e7 : i = m + 33
  · refine Eq.trans (b := 1) ?_ ?_
    · rw [if_pos e7]
    · rw [if_neg e0, if_neg e1, if_neg e2, if_neg e3, if_neg e4, if_neg e5, if_neg e6, if_pos e7]
  refine Eq.trans (b := 0) ?_ ?_
  · rw [if_neg e7, if_neg e6, if_neg e5, if_neg e4, if_neg e3, if_neg e2, if_neg e1, if_neg e0]
  · rw [if_neg e0, if_neg e1, if_neg e2, if_neg e3, if_neg e4, if_neg e5, if_neg e6, if_neg e7]

set_option maxRecDepth 100000 in
set_option maxHeartbeats 4000000 in
theorem RFormat_any (a b c : Nat) (w : World) (h : mayB a b c = true) : Calls Tryd.prog 9 #[gv a b c] w (NewWords (fmtL a b c (264 + 208 * a) (280 + 208 * a + 16 * b + 8 * c)) w) := by
  have hq := mayB_yes h
  obtain ⟨i0, hi, hz0, hz1, hz2⟩ := info_parts Tryd.info31
  have HM := Lib.hid (fun wx => RMay_any a b c wx)
  rw [h] at HM
  have HW := Lib.hid (fun wx => RWords_any a b c wx)
  rw [words_pos h, show (280 : Int) + 208 * (a : Int) + 16 * (b : Int) + 8 * (c : Int) = ((280 + 208 * a + 16 * b + 8 * c : Nat) : Int) from by omega] at HW
  obtain ⟨N, HN⟩ : ∃ N, Hid (N = 280 + 208 * a + 16 * b + 8 * c) := ⟨_, Lib.hid rfl⟩
  have hN1 : N ≤ 6232 := by rw [HN.out]; omega
  obtain ⟨m, Hm⟩ : ∃ m, Hid (m = 264 + 208 * a) := ⟨_, Lib.hid rfl⟩
  have HI := Lib.hid (fun wx => RInodeAt_any a b c 1 wx)
  rw [show inodeV a b c 1 = (m : Int) + 32 from by unfold inodeV; rw [if_pos ⟨h, by omega, by omega⟩, Hm.out]; omega] at HI
  have HIM := Lib.hid (fun wx => RInodeMapAt_any a b c wx)
  rw [show imapV a b c = (m : Int) from by unfold imapV; rw [if_pos h, Hm.out]; omega] at HIM
  have HBM := Lib.hid (fun wx => RBlockMapAt_any a b c wx)
  rw [show bmapV a b c = (m : Int) + 8 from by unfold bmapV; rw [if_pos h, Hm.out]; omega] at HBM
  have hfit : m + 34 ≤ N := by rw [Hm.out, HN.out]; omega
  have hm4 : 4 ≤ m := by rw [Hm.out]; omega
  have HF := Lib.hid (fmt_set a b c m N hm4)
  rw [← HN.out] at HW
  rw [← HN.out, ← Hm.out]
  unfold gv at HM HW HI HIM HBM ⊢
  have wa : IntKind.u64.wrap (a : Int) = (a : Int) := IntWalk.u64_in _ ⟨by omega, by omega⟩
  have wb : IntKind.u64.wrap (b : Int) = (b : Int) := IntWalk.u64_in _ ⟨by omega, by omega⟩
  have wc : IntKind.u64.wrap (c : Int) = (c : Int) := IntWalk.u64_in _ ⟨by omega, by omega⟩
  have n0 : (0 : Int) < (N : Int) := by omega
  have n1 : (1 : Int) < (N : Int) := by omega
  have n2 : (2 : Int) < (N : Int) := by omega
  have n3 : (3 : Int) < (N : Int) := by omega
  have m0 : (0 : Int) ≤ (m : Int) := by omega
  have m1 : (m : Int) < (N : Int) := by omega
  have m2 : (m : Int) + 8 < (N : Int) := by omega
  have m3 : (m : Int) + 32 < (N : Int) := by omega
  have m4 : (m : Int) + 33 < (N : Int) := by omega
  have x1 : ((m : Int) + 8).toNat = m + 8 := by omega
  have x2 : ((m : Int) + 32).toNat = m + 32 := by omega
  have x3 : ((m : Int) + 32 + 1).toNat = m + 33 := by omega
  have x4 : ((m : Int) + 33).toNat = m + 33 := by omega
  clear h hq
  go_enter Tryd.func9, Tryd.ntmps9
  go_wp2_with fail
  refine (HM.out _).mono ?_
  rintro e w1 ⟨rfl, hgx⟩
  have hb : w1.heap[w.heap.size]? = some (.cells #[.int .i64 (a : Int), .int .i64 (b : Int), .int .i64 (c : Int)] 30 (0, 0)) := (hgx.block _ (by simp) (by simp)).trans (heap_alloc_new w _)
  have f0 : w1.cell? ⟨w.heap.size, 0, none⟩ = some (.int .i64 a) := by simp [World.cell?, hb]
  have f1 : w1.cell? ⟨w.heap.size, 1, none⟩ = some (.int .i64 b) := by simp [World.cell?, hb]
  have f2 : w1.cell? ⟨w.heap.size, 2, none⟩ = some (.int .i64 c) := by simp [World.cell?, hb]
  have hg := grown_trans (World.grownBy_alloc w _ none) hgx
  clear hgx HM
  go_wp2_with fail
  refine (HW.out _).mono ?_
  rintro e w2 ⟨rfl, hgx⟩
  have hb := (hgx.block _ (lt_of_block hb) (by simp)).trans hb
  have hBl := lt_of_block hb
  have hg := grown_trans hg hgx
  clear hgx HW f0 f1 f2
  go_wp2_with (refine wpList_make_whole _ rfl _ _ 28 rfl 31 i0 (.int .u64 0) Tryd.underlying28 hi hz0 hz1 _ _ _ N rfl rfl rfl ?m1 ?m2 ?_)
  case m1 => rw [hz2]; omega
  case m2 => unfold maxLen; omega
  intro w3 hrow hgx
  try rw [show (Value.int .u64 0).cells = #[Value.int .u64 0] from rfl] at hrow
  rw [made_wv] at hrow
  have hb := (hgx.block _ hBl (by simp)).trans hb
  have hg := grown_trans hg hgx
  obtain ⟨g, Hg⟩ : ∃ g, Hid (g = w2.heap.size) := ⟨_, Lib.hid rfl⟩
  have hwg : w.heap.size < g := by rw [Hg.out]; exact hBl
  rw [← Hg.out] at hrow
  rw [← Hg.out]
  have hne : some w.heap.size ≠ some g := by intro e; injection e with e; omega
  clear hgx hBl
  have hl : (List.replicate N 0).length = N := by simp
  have d0 : w3.cell? ⟨g, 0, none⟩ = some (.int .u64 (((List.replicate N 0).getD 0 0 : Nat) : Int)) := row_cell hrow _ _ (map_wv_get _ _ (by simp only [List.length_replicate]; omega))
  have z0 : w3.frozen? ⟨g, 0, none⟩ = false := row_free hrow _
  have hrow : (w3.setCell ⟨g, 0, none⟩ (.int .u64 32762617960297063)).heap[g]? = _ := row_set hrow 0 (wv 32762617960297063)
  rw [← List.map_set] at hrow
  have hgs := grown_setCell w3 ⟨g, 0, none⟩ (.int .u64 32762617960297063)
  have hb := (hgs.block _ (lt_of_block hb) hne).trans hb
  have hg := grown_new hg hgs (by intro k e; cases e; exact Nat.le_of_lt hwg)
  have f00 : (w3.setCell ⟨g, 0, none⟩ (.int .u64 32762617960297063)).cell? ⟨w.heap.size, 0, none⟩ = some (.int .i64 a) := by simp [World.cell?, hb]
  have f01 : (w3.setCell ⟨g, 0, none⟩ (.int .u64 32762617960297063)).cell? ⟨w.heap.size, 1, none⟩ = some (.int .i64 b) := by simp [World.cell?, hb]
  have f02 : (w3.setCell ⟨g, 0, none⟩ (.int .u64 32762617960297063)).cell? ⟨w.heap.size, 2, none⟩ = some (.int .i64 c) := by simp [World.cell?, hb]
  have d1 : (w3.setCell ⟨g, 0, none⟩ (.int .u64 32762617960297063)).cell? ⟨g, 1, none⟩ = some (.int .u64 ((((List.replicate N 0).set 0 32762617960297063).getD 1 0 : Nat) : Int)) := row_cell hrow _ _ (map_wv_get _ _ (by simp only [List.length_set, List.length_replicate]; omega))
  have z1 : (w3.setCell ⟨g, 0, none⟩ (.int .u64 32762617960297063)).frozen? ⟨g, 1, none⟩ = false := row_free hrow _
  have hrow : ((w3.setCell ⟨g, 0, none⟩ (.int .u64 32762617960297063)).setCell ⟨g, 1, none⟩ (.int .u64 (a : Int))).heap[g]? = _ := row_set hrow 1 (wv a)
  rw [← List.map_set] at hrow
  have hgs := grown_setCell (w3.setCell ⟨g, 0, none⟩ (.int .u64 32762617960297063)) ⟨g, 1, none⟩ (.int .u64 (a : Int))
  have hb := (hgs.block _ (lt_of_block hb) hne).trans hb
  have hg := grown_new hg hgs (by intro k e; cases e; exact Nat.le_of_lt hwg)
  have f10 : ((w3.setCell ⟨g, 0, none⟩ (.int .u64 32762617960297063)).setCell ⟨g, 1, none⟩ (.int .u64 (a : Int))).cell? ⟨w.heap.size, 0, none⟩ = some (.int .i64 a) := by simp [World.cell?, hb]
  have f11 : ((w3.setCell ⟨g, 0, none⟩ (.int .u64 32762617960297063)).setCell ⟨g, 1, none⟩ (.int .u64 (a : Int))).cell? ⟨w.heap.size, 1, none⟩ = some (.int .i64 b) := by simp [World.cell?, hb]
  have f12 : ((w3.setCell ⟨g, 0, none⟩ (.int .u64 32762617960297063)).setCell ⟨g, 1, none⟩ (.int .u64 (a : Int))).cell? ⟨w.heap.size, 2, none⟩ = some (.int .i64 c) := by simp [World.cell?, hb]
  have d2 : ((w3.setCell ⟨g, 0, none⟩ (.int .u64 32762617960297063)).setCell ⟨g, 1, none⟩ (.int .u64 (a : Int))).cell? ⟨g, 2, none⟩ = some (.int .u64 (((((List.replicate N 0).set 0 32762617960297063).set 1 a).getD 2 0 : Nat) : Int)) := row_cell hrow _ _ (map_wv_get _ _ (by simp only [List.length_set, List.length_replicate]; omega))
  have z2 : ((w3.setCell ⟨g, 0, none⟩ (.int .u64 32762617960297063)).setCell ⟨g, 1, none⟩ (.int .u64 (a : Int))).frozen? ⟨g, 2, none⟩ = false := row_free hrow _
  have hrow : (((w3.setCell ⟨g, 0, none⟩ (.int .u64 32762617960297063)).setCell ⟨g, 1, none⟩ (.int .u64 (a : Int))).setCell ⟨g, 2, none⟩ (.int .u64 (b : Int))).heap[g]? = _ := row_set hrow 2 (wv b)
  rw [← List.map_set] at hrow
  have hgs := grown_setCell ((w3.setCell ⟨g, 0, none⟩ (.int .u64 32762617960297063)).setCell ⟨g, 1, none⟩ (.int .u64 (a : Int))) ⟨g, 2, none⟩ (.int .u64 (b : Int))
  have hb := (hgs.block _ (lt_of_block hb) hne).trans hb
  have hg := grown_new hg hgs (by intro k e; cases e; exact Nat.le_of_lt hwg)
  have f20 : (((w3.setCell ⟨g, 0, none⟩ (.int .u64 32762617960297063)).setCell ⟨g, 1, none⟩ (.int .u64 (a : Int))).setCell ⟨g, 2, none⟩ (.int .u64 (b : Int))).cell? ⟨w.heap.size, 0, none⟩ = some (.int .i64 a) := by simp [World.cell?, hb]
  have f21 : (((w3.setCell ⟨g, 0, none⟩ (.int .u64 32762617960297063)).setCell ⟨g, 1, none⟩ (.int .u64 (a : Int))).setCell ⟨g, 2, none⟩ (.int .u64 (b : Int))).cell? ⟨w.heap.size, 1, none⟩ = some (.int .i64 b) := by simp [World.cell?, hb]
  have f22 : (((w3.setCell ⟨g, 0, none⟩ (.int .u64 32762617960297063)).setCell ⟨g, 1, none⟩ (.int .u64 (a : Int))).setCell ⟨g, 2, none⟩ (.int .u64 (b : Int))).cell? ⟨w.heap.size, 2, none⟩ = some (.int .i64 c) := by simp [World.cell?, hb]
  have d3 : (((w3.setCell ⟨g, 0, none⟩ (.int .u64 32762617960297063)).setCell ⟨g, 1, none⟩ (.int .u64 (a : Int))).setCell ⟨g, 2, none⟩ (.int .u64 (b : Int))).cell? ⟨g, 3, none⟩ = some (.int .u64 ((((((List.replicate N 0).set 0 32762617960297063).set 1 a).set 2 b).getD 3 0 : Nat) : Int)) := row_cell hrow _ _ (map_wv_get _ _ (by simp only [List.length_set, List.length_replicate]; omega))
  have z3 : (((w3.setCell ⟨g, 0, none⟩ (.int .u64 32762617960297063)).setCell ⟨g, 1, none⟩ (.int .u64 (a : Int))).setCell ⟨g, 2, none⟩ (.int .u64 (b : Int))).frozen? ⟨g, 3, none⟩ = false := row_free hrow _
  have hrow : ((((w3.setCell ⟨g, 0, none⟩ (.int .u64 32762617960297063)).setCell ⟨g, 1, none⟩ (.int .u64 (a : Int))).setCell ⟨g, 2, none⟩ (.int .u64 (b : Int))).setCell ⟨g, 3, none⟩ (.int .u64 (c : Int))).heap[g]? = _ := row_set hrow 3 (wv c)
  rw [← List.map_set] at hrow
  have hgs := grown_setCell (((w3.setCell ⟨g, 0, none⟩ (.int .u64 32762617960297063)).setCell ⟨g, 1, none⟩ (.int .u64 (a : Int))).setCell ⟨g, 2, none⟩ (.int .u64 (b : Int))) ⟨g, 3, none⟩ (.int .u64 (c : Int))
  have hb := (hgs.block _ (lt_of_block hb) hne).trans hb
  have hg := grown_new hg hgs (by intro k e; cases e; exact Nat.le_of_lt hwg)
  have f30 : ((((w3.setCell ⟨g, 0, none⟩ (.int .u64 32762617960297063)).setCell ⟨g, 1, none⟩ (.int .u64 (a : Int))).setCell ⟨g, 2, none⟩ (.int .u64 (b : Int))).setCell ⟨g, 3, none⟩ (.int .u64 (c : Int))).cell? ⟨w.heap.size, 0, none⟩ = some (.int .i64 a) := by simp [World.cell?, hb]
  have f31 : ((((w3.setCell ⟨g, 0, none⟩ (.int .u64 32762617960297063)).setCell ⟨g, 1, none⟩ (.int .u64 (a : Int))).setCell ⟨g, 2, none⟩ (.int .u64 (b : Int))).setCell ⟨g, 3, none⟩ (.int .u64 (c : Int))).cell? ⟨w.heap.size, 1, none⟩ = some (.int .i64 b) := by simp [World.cell?, hb]
  have f32 : ((((w3.setCell ⟨g, 0, none⟩ (.int .u64 32762617960297063)).setCell ⟨g, 1, none⟩ (.int .u64 (a : Int))).setCell ⟨g, 2, none⟩ (.int .u64 (b : Int))).setCell ⟨g, 3, none⟩ (.int .u64 (c : Int))).cell? ⟨w.heap.size, 2, none⟩ = some (.int .i64 c) := by simp [World.cell?, hb]
  obtain ⟨L0, HL0⟩ : ∃ L0, Hid (L0 = (((((List.replicate N 0).set 0 32762617960297063).set 1 a).set 2 b).set 3 c)) := ⟨_, Lib.hid rfl⟩
  rw [← HL0.out] at hrow
  have hl0 : L0.length = N := by rw [HL0.out]; simp only [List.length_set, List.length_replicate]
  go_wp2_with fail
  refine (HIM.out _).mono ?_
  rintro e w4 ⟨rfl, hgx⟩
  have hb := (hgx.block _ (lt_of_block hb) (by simp)).trans hb
  have hrow := (hgx.block _ (lt_of_block hrow) (by simp)).trans hrow
  have hg := grown_trans hg hgx
  clear hgx
  clear f00 f01 f02 f10 f11 f12 f20 f21 f22 f30 f31 f32
  have d4 : w4.cell? ⟨g, m, none⟩ = some (.int .u64 ((L0.getD m 0 : Nat) : Int)) := row_cell hrow _ _ (map_wv_get _ _ (by omega))
  have z4 : w4.frozen? ⟨g, m, none⟩ = false := row_free hrow _
  have hrow : (w4.setCell ⟨g, m, none⟩ (.int .u64 3)).heap[g]? = _ := row_set hrow m (wv 3)
  rw [← List.map_set] at hrow
  have hgs := grown_setCell w4 ⟨g, m, none⟩ (.int .u64 3)
  have hb := (hgs.block _ (lt_of_block hb) hne).trans hb
  have hg := grown_new hg hgs (by intro k e; cases e; exact Nat.le_of_lt hwg)
  obtain ⟨L4, HL4⟩ : ∃ L, Hid (L = L0.set m 3) := ⟨_, Lib.hid rfl⟩
  rw [← HL4.out] at hrow
  have hl4 : L4.length = N := by rw [HL4.out, List.length_set]; assumption
  clear hgs
  have f40 : (w4.setCell ⟨g, m, none⟩ (.int .u64 3)).cell? ⟨w.heap.size, 0, none⟩ = some (.int .i64 a) := by simp [World.cell?, hb]
  have f41 : (w4.setCell ⟨g, m, none⟩ (.int .u64 3)).cell? ⟨w.heap.size, 1, none⟩ = some (.int .i64 b) := by simp [World.cell?, hb]
  have f42 : (w4.setCell ⟨g, m, none⟩ (.int .u64 3)).cell? ⟨w.heap.size, 2, none⟩ = some (.int .i64 c) := by simp [World.cell?, hb]
  go_wp2_with fail
  refine (HBM.out _).mono ?_
  rintro e w5 ⟨rfl, hgx⟩
  have hb := (hgx.block _ (lt_of_block hb) (by simp)).trans hb
  have hrow := (hgx.block _ (lt_of_block hrow) (by simp)).trans hrow
  have hg := grown_trans hg hgx
  clear hgx
  have d5 : w5.cell? ⟨g, m + 8, none⟩ = some (.int .u64 ((L4.getD (m + 8) 0 : Nat) : Int)) := row_cell hrow _ _ (map_wv_get _ _ (by omega))
  have z5 : w5.frozen? ⟨g, m + 8, none⟩ = false := row_free hrow _
  have hrow : (w5.setCell ⟨g, m + 8, none⟩ (.int .u64 1)).heap[g]? = _ := row_set hrow (m + 8) (wv 1)
  rw [← List.map_set] at hrow
  have hgs := grown_setCell w5 ⟨g, m + 8, none⟩ (.int .u64 1)
  have hb := (hgs.block _ (lt_of_block hb) hne).trans hb
  have hg := grown_new hg hgs (by intro k e; cases e; exact Nat.le_of_lt hwg)
  obtain ⟨L5, HL5⟩ : ∃ L, Hid (L = L4.set (m + 8) 1) := ⟨_, Lib.hid rfl⟩
  rw [← HL5.out] at hrow
  have hl5 : L5.length = N := by rw [HL5.out, List.length_set]; assumption
  clear hgs
  have f50 : (w5.setCell ⟨g, m + 8, none⟩ (.int .u64 1)).cell? ⟨w.heap.size, 0, none⟩ = some (.int .i64 a) := by simp [World.cell?, hb]
  have f51 : (w5.setCell ⟨g, m + 8, none⟩ (.int .u64 1)).cell? ⟨w.heap.size, 1, none⟩ = some (.int .i64 b) := by simp [World.cell?, hb]
  have f52 : (w5.setCell ⟨g, m + 8, none⟩ (.int .u64 1)).cell? ⟨w.heap.size, 2, none⟩ = some (.int .i64 c) := by simp [World.cell?, hb]
  go_wp2_with fail
  refine (HI.out _).mono ?_
  rintro e w6 ⟨rfl, hgx⟩
  have hb := (hgx.block _ (lt_of_block hb) (by simp)).trans hb
  have hrow := (hgx.block _ (lt_of_block hrow) (by simp)).trans hrow
  have hg := grown_trans hg hgx
  clear hgx
  have d6 : w6.cell? ⟨g, m + 32, none⟩ = some (.int .u64 ((L5.getD (m + 32) 0 : Nat) : Int)) := row_cell hrow _ _ (map_wv_get _ _ (by omega))
  have z6 : w6.frozen? ⟨g, m + 32, none⟩ = false := row_free hrow _
  have hrow : (w6.setCell ⟨g, m + 32, none⟩ (.int .u64 2)).heap[g]? = _ := row_set hrow (m + 32) (wv 2)
  rw [← List.map_set] at hrow
  have hgs := grown_setCell w6 ⟨g, m + 32, none⟩ (.int .u64 2)
  have hb := (hgs.block _ (lt_of_block hb) hne).trans hb
  have hg := grown_new hg hgs (by intro k e; cases e; exact Nat.le_of_lt hwg)
  obtain ⟨L6, HL6⟩ : ∃ L, Hid (L = L5.set (m + 32) 2) := ⟨_, Lib.hid rfl⟩
  rw [← HL6.out] at hrow
  have hl6 : L6.length = N := by rw [HL6.out, List.length_set]; assumption
  clear hgs
  have f60 : (w6.setCell ⟨g, m + 32, none⟩ (.int .u64 2)).cell? ⟨w.heap.size, 0, none⟩ = some (.int .i64 a) := by simp [World.cell?, hb]
  have f61 : (w6.setCell ⟨g, m + 32, none⟩ (.int .u64 2)).cell? ⟨w.heap.size, 1, none⟩ = some (.int .i64 b) := by simp [World.cell?, hb]
  have f62 : (w6.setCell ⟨g, m + 32, none⟩ (.int .u64 2)).cell? ⟨w.heap.size, 2, none⟩ = some (.int .i64 c) := by simp [World.cell?, hb]
  go_wp2_with fail
  refine (HI.out _).mono ?_
  rintro e w7 ⟨rfl, hgx⟩
  have hb := (hgx.block _ (lt_of_block hb) (by simp)).trans hb
  have hrow := (hgx.block _ (lt_of_block hrow) (by simp)).trans hrow
  have hg := grown_trans hg hgx
  clear hgx
  have d7 : w7.cell? ⟨g, m + 33, none⟩ = some (.int .u64 ((L6.getD (m + 33) 0 : Nat) : Int)) := row_cell hrow _ _ (map_wv_get _ _ (by omega))
  have z7 : w7.frozen? ⟨g, m + 33, none⟩ = false := row_free hrow _
  have hrow : (w7.setCell ⟨g, m + 33, none⟩ (.int .u64 1)).heap[g]? = _ := row_set hrow (m + 33) (wv 1)
  rw [← List.map_set] at hrow
  have hgs := grown_setCell w7 ⟨g, m + 33, none⟩ (.int .u64 1)
  have hb := (hgs.block _ (lt_of_block hb) hne).trans hb
  have hg := grown_new hg hgs (by intro k e; cases e; exact Nat.le_of_lt hwg)
  obtain ⟨L7, HL7⟩ : ∃ L, Hid (L = L6.set (m + 33) 1) := ⟨_, Lib.hid rfl⟩
  rw [← HL7.out] at hrow
  have hl7 : L7.length = N := by rw [HL7.out, List.length_set]; assumption
  clear hgs
  have f70 : (w7.setCell ⟨g, m + 33, none⟩ (.int .u64 1)).cell? ⟨w.heap.size, 0, none⟩ = some (.int .i64 a) := by simp [World.cell?, hb]
  have f71 : (w7.setCell ⟨g, m + 33, none⟩ (.int .u64 1)).cell? ⟨w.heap.size, 1, none⟩ = some (.int .i64 b) := by simp [World.cell?, hb]
  have f72 : (w7.setCell ⟨g, m + 33, none⟩ (.int .u64 1)).cell? ⟨w.heap.size, 2, none⟩ = some (.int .i64 c) := by simp [World.cell?, hb]
  have he : L7 = fmtL a b c m N := by rw [HL7.out, HL6.out, HL5.out, HL4.out, HL0.out]; exact HF.out
  rw [he] at hrow
  have hfin : NewWords (fmtL a b c m N) w (.returned (.slice (some ⟨g, 0, none⟩) N N)) (w7.setCell ⟨g, m + 33, none⟩ (.int .u64 1)) := ⟨g, by rw [length_fmtL], hrow, Nat.le_of_lt hwg, hg⟩
  have HFin := Lib.hid hfin
  clear hfin hrow hb hg he
  go_wp2
  go_ret
  exact HFin.out
end Go.Proofs.YtdblgnccjpjabaaDoor
end
section
/- The document's map: Get. -/
namespace Go.Proofs.YtdblgnccjpjabaaDoor
open Go.RowKit Go.Grommet

/-- The document's view, whatever its flag says. -/
def refQ (g : Nat) (xs : List Nat) (L : List (Nat × Nat)) : Pr where
  holds w F := ∃ b, RefIs w g F xs L b
  turn := fun h ht hn => by obtain ⟨b, h⟩ := h; exact ⟨b, h.turn ht hn⟩
  old := fun h => by obtain ⟨_, _, _, h⟩ := h; exact h.old
theorem RGetQ (k g : Nat) (xs : List Nat) (L : List (Nat × Nat)) (a : Int) (w0 w : World) (Ps : List Pr) (h : Grommet.Own w0 w Ps) (hk : Ps[k]? = some (refQ g xs L)) :
    Calls Tryd.prog 71 #[.pointer (some ⟨g, 0, none⟩), .int .i64 a] w fun e w' => e = .returned (.int .u64 (gotI xs L a : Int)) ∧ w' = w := by
  obtain ⟨F, b, h1⟩ := h.get k hk
  refine (RefGet_any g F xs L b a w h1).mono ?_
  rintro e w' ⟨rfl, rfl⟩
  exact ⟨rfl, rfl⟩
theorem RPutQ (k g : Nat) (xs : List Nat) (L : List (Nat × Nat)) (a : Int) (v : Nat) (en : Int) (w0 w : World) (Ps Qs : List Pr) (h : Grommet.Own w0 w Ps) (hk : Ps[k]? = some (refQ g xs L)) (hv : v < 18446744073709551616)
    (he : (putEI xs L a : Int) = en) (hQ : Ps.set k (refQ g xs (putI xs L a v)) = Qs) :
    Calls Tryd.prog 53 #[.pointer (some ⟨g, 0, none⟩), .int .i64 a, .int .u64 (v : Int)] w fun e w' => e = .returned (.int .i64 en) ∧ Grommet.Own w0 w' Qs := by
  obtain ⟨F, ⟨b, h1⟩, h2⟩ := h.take k hk
  refine (RefPut_any g F xs L b a v w h1 hv).mono ?_
  rintro e w' ⟨rfl, F', hF', hd1, hd2⟩
  subst he
  subst hQ
  exact ⟨rfl, h2 w' _ ⟨F', ⟨_, hF'⟩, hd1, hd2⟩⟩
theorem ref_wl {w0 w : World} {Ps : List Pr} (h : Grommet.Own w0 w Ps) (k : Nat) {g : Nat} {xs : List Nat} {L : List (Nat × Nat)} (hk : Ps[k]? = some (refQ g xs L)) : Wl xs.length L ∧ (∀ n ∈ xs, n < 18446744073709551616) ∧ xs.length ≤ 549755813888 := by
  obtain ⟨F, b, vi, vl, h1⟩ := h.get k hk
  exact ⟨h1.good, h1.small, h1.fits⟩

def rmapP (X g a m : Nat) : Pr := boxP X 91 (mapCs g a m)
theorem rmap_cells {w : World} {X g a m : Nat} (hb : w.heap[X]? = some (.cells (mapCs g a m) 91 (0, 0))) : w.cell? ⟨X, 0, none⟩ = some (.pointer (some ⟨g, 0, none⟩)) ∧ w.cell? ⟨X, 1, none⟩ = some (.int .i64 (a : Int)) ∧ w.cell? ⟨X, 2, none⟩ = some (.int .i64 (m : Int)) := by
  simp [World.cell?, hb, mapCs]

set_option maxRecDepth 100000 in
set_option maxHeartbeats 1000000 in
theorem RMGetQ (k k2 X g a m : Nat) (xs : List Nat) (L : List (Nat × Nat)) (i : Int) (w0 w : World) (Ps : List Pr) (h : Grommet.Own w0 w Ps) (hk : Ps[k]? = some (refQ g xs L)) (hx : Ps[k2]? = some (rmapP X g a m)) (hM : MapOk xs.length a m) (c : Bool) (hc : getM xs L a m i = c) :
    Calls Tryd.prog 58 #[.pointer (some ⟨X, 0, none⟩), .int .i64 i] w fun e w' => e = .returned (.bool c) ∧ w.grownBy w' none := by
  have hb := h.box k2 hx
  obtain ⟨c0, c1, c2⟩ := rmap_cells hb
  obtain ⟨hW, hxs, hxl⟩ := ref_wl h k hk
  have hlt := hM.lt
  unfold getM at hc
  cases hin : inB i m with
  | false =>
    rw [hin] at hc
    obtain rfl : false = c := by simpa using hc
    have hi : ¬ (0 ≤ i ∧ i < (m : Int)) := by unfold inB at hin; simpa using hin
    clear hin h hb hk hx hc hM hlt hW hxs hxl
    by_cases i0 : 0 ≤ i
    · have i1 : ¬ i < (m : Int) := by omega
      have d0 : decide (0 ≤ i) = true := decide_eq_true i0
      have d1 : decide (i < (m : Int)) = false := decide_eq_false i1
      clear hi
      go_enter Tryd.func58, Tryd.ntmps58
      go_wp2_with fail
      go_quiet (fail)
      go_wp2
      go_ret
      exact ⟨rfl, grown_drewN _ _ _⟩
    · have d0 : decide (0 ≤ i) = false := decide_eq_false i0
      clear hi
      go_enter Tryd.func58, Tryd.ntmps58
      go_wp2_with fail
      go_quiet (fail)
      go_wp2
      go_ret
      exact ⟨rfl, grown_drewN _ _ _⟩
  | true =>
    have hi : 0 ≤ i ∧ i < (m : Int) := by unfold inB at hin; simpa using hin
    obtain ⟨j, rfl⟩ := Int.eq_ofNat_of_zero_le hi.1
    have hj : j < m := by omega
    rw [hin, Bool.true_and] at hc
    unfold mbit at hc
    rw [Int.toNat_natCast] at hc
    have hf := hM.fits
    have hin2 : 0 ≤ ((a + j / 64 : Nat) : Int) ∧ ((a + j / 64 : Nat) : Int) < (xs.length : Int) := by omega
    have HG := Lib.hid (fun n => RGetQ k g xs L ((a + j / 64 : Nat) : Int) w0 (w.drewN n) Ps (h.quiet (grown_drewN w n none)) hk)
    rw [show gotI xs L ((a + j / 64 : Nat) : Int) = gotV xs L (a + j / 64) from by unfold gotI; rw [if_pos hin2, Int.toNat_natCast]] at HG
    have e1 : IntKind.i64.wrap ((a : Int) + (j : Int) / 64) = ((a + j / 64 : Nat) : Int) := by rw [IntWalk.i64_in _ ⟨by omega, by omega⟩]; omega
    have e2 : (a : Int) + (j : Int) / 64 = ((a + j / 64 : Nat) : Int) := by omega
    have e0 : IntKind.i64.wrap ((j : Int) / 64) = (j : Int) / 64 := IntWalk.i64_in _ ⟨by omega, by omega⟩
    have e5 : IntKind.i64.wrap ((a + j / 64 : Nat) : Int) = ((a + j / 64 : Nat) : Int) := IntWalk.i64_in _ ⟨by omega, by omega⟩
    have hV := gotV_small hxs hW.val (a + j / 64)
    generalize gotV xs L (a + j / 64) = V at *
    generalize a + j / 64 = A at *
    have j0 : (0 : Int) ≤ (j : Int) := by omega
    have j1 : (j : Int) < (m : Int) := by omega
    obtain ⟨s, hs⟩ : ∃ s, j % 64 = s := ⟨_, rfl⟩
    have s1 : (j : Int) % 64 = (s : Int) := by omega
    have s2 : Int.tmod (j : Int) 64 = (s : Int) := by rw [Int.tmod_eq_emod_of_nonneg (by omega)]; exact s1
    have s3 : IntKind.i64.wrap (s : Int) = (s : Int) := IntWalk.i64_in _ ⟨by omega, by omega⟩
    have s4 : IntKind.u64.wrap (s : Int) = (s : Int) := IntWalk.u64_in _ ⟨by omega, by omega⟩
    have s5 : s < 64 := by omega
    have s6 : (0 : Int) ≤ (s : Int) := by omega
    have e6 : (((V : Int) / 2 ^ s).tmod 2 == 1) = c := by
      rw [Int.tmod_eq_emod_of_nonneg (Int.ediv_nonneg (by omega) (Int.le_of_lt (Int.pow_pos (by decide)))), ← hc, hs, Nat.testBit_eq_decide_div_mod_eq]
      rw [show (V : Int) / 2 ^ s % 2 = ((V / 2 ^ s % 2 : Nat) : Int) from by simp]
      by_cases e : V / 2 ^ s % 2 = 1
      · rw [e]; rfl
      · rw [decide_eq_false e, beq_eq_false_iff_ne]; omega
    clear hin h hb hk hx hM hlt hW hxs hxl hf hin2 hc
    go_enter Tryd.func58, Tryd.ntmps58
    go_wp2_with fail
    go_quiet ((go_at_call 71; with_reducible exact Calls.quiet_of_same (HG.out _)))
    go_wp2
    go_ret
    exact ⟨rfl, grown_drewN _ _ _⟩
end Go.Proofs.YtdblgnccjpjabaaDoor
end
section
/- The document's map: Clear, Count, Set. -/
namespace Go.Proofs.YtdblgnccjpjabaaDoor
open Go.RowKit Go.Grommet

theorem getM_lt {xs : List Nat} {L : List (Nat × Nat)} {a m j : Nat} (h : j < m) : getM xs L a m (j : Int) = mbit xs L a j := by
  unfold getM; rw [show inB (j : Int) m = true from by unfold inB; simp; omega, Bool.true_and, Int.toNat_natCast]

set_option maxRecDepth 100000 in
set_option maxHeartbeats 1000000 in
theorem RMClearQ (k k2 X g a m : Nat) (xs : List Nat) (L : List (Nat × Nat)) (w0 w : World) (Ps : List Pr) (h : Grommet.Own w0 w Ps) (hk : Ps[k]? = some (refQ g xs L)) (hx : Ps[k2]? = some (rmapP X g a m)) (hM : MapOk xs.length a m)
    (c : Int) (b : Bool) (hc : ClrR (mbit xs L a) m c b) :
    Calls Tryd.prog 49 #[.pointer (some ⟨X, 0, none⟩)] w fun e w' => e = .returned (.tuple #[.int .i64 c, .bool b]) ∧ Grommet.Own w0 w' Ps := by
  have hlt := hM.lt
  have HO := Lib.hid h
  have Hx := Lib.hid hx
  have HG := Lib.hid (fun j wx hO => RMGetQ k k2 X g a m xs L j w0 wx Ps hO hk hx hM _ rfl)
  have Hc := Lib.hid hc
  clear h hk hx hM hc
  go_enter Tryd.func49, Tryd.ntmps49
  go_wp2_with fail
  go_loopw [4] (fun s wr => ∃ j : Nat, j ≤ m ∧ s = .int .i64 (j : Int) ∧ Hid (∀ t, t < j → mbit xs L a t = true) ∧ Hid (Grommet.Own w0 wr Ps)) (fun s _ => m - (intOf s).toNat)
  case atStart => exact ⟨0, Nat.zero_le _, rfl, Lib.hid (fun t h => by omega), HO⟩
  case round =>
    clear HO
    obtain ⟨j, hj, rfl, Hl, HO⟩ := hrel
    obtain ⟨c0, c1, c2⟩ := rmap_cells (HO.out.box k2 Hx.out)
    have j0 : (0 : Int) ≤ (j : Int) := by omega
    have wj : IntKind.i64.wrap ((j : Int) + 1) = (j : Int) + 1 := IntWalk.i64_in _ ⟨by omega, by omega⟩
    by_cases hlt2 : j < m
    · have hlt3 : (j : Int) < (m : Int) := by omega
      have HGj := Lib.hid (HG.out (j : Int) wr HO.out)
      rw [getM_lt hlt2] at HGj
      cases hb : mbit xs L a j with
      | false =>
        rw [hb] at HGj
        have hcc : c = (j : Int) ∧ b = true := (Hc.out.one (.inl ⟨rfl, j, rfl, hlt2, hb, Hl.out⟩))
        obtain ⟨rfl, rfl⟩ := hcc
        clear hb
        go_wp2_with fail
        refine HGj.out.mono ?_
        rintro e w1 ⟨rfl, hg⟩
        have hfin := Lib.hid (HO.out.quiet hg)
        clear hg HGj
        go_wp2
        go_ret2
        exact ⟨rfl, hfin.out⟩
      | true =>
        rw [hb] at HGj
        have Hl2 : Hid (∀ t, t < j + 1 → mbit xs L a t = true) := Lib.hid (fun t ht => by
          by_cases e : t = j
          · rw [e]; exact hb
          · exact Hl.out t (by omega))
        clear hb
        go_wp2_with fail
        refine HGj.out.mono ?_
        rintro e w1 ⟨rfl, hg⟩
        have hfin := Lib.hid (HO.out.quiet hg)
        clear hg HGj c0 c1 c2
        go_wp2
        go_roundw
        case rel => exact ⟨j + 1, by omega, by go_num, Hl2, hfin⟩
        case measure => simp [intOf]; omega
    · obtain rfl : m = j := by omega
      have hlt3 : ¬ (m : Int) < (m : Int) := by omega
      have hcc : c = 0 ∧ b = false := (Hc.out.one (.inr ⟨rfl, rfl, Hl.out⟩))
      obtain ⟨rfl, rfl⟩ := hcc
      go_wp2
      go_ret2
      exact ⟨rfl, HO.out⟩

set_option maxRecDepth 100000 in
set_option maxHeartbeats 1000000 in
theorem RMCountQ (k k2 X g a m : Nat) (xs : List Nat) (L : List (Nat × Nat)) (w0 w : World) (Ps : List Pr) (h : Grommet.Own w0 w Ps) (hk : Ps[k]? = some (refQ g xs L)) (hx : Ps[k2]? = some (rmapP X g a m)) (hM : MapOk xs.length a m)
    (c : Nat) (hc : cntF (mbit xs L a) m = c) :
    Calls Tryd.prog 60 #[.pointer (some ⟨X, 0, none⟩)] w fun e w' => e = .returned (.int .i64 (c : Int)) ∧ Grommet.Own w0 w' Ps := by
  have hlt := hM.lt
  have HO := Lib.hid h
  have Hx := Lib.hid hx
  have HG := Lib.hid (fun j wx hO => RMGetQ k k2 X g a m xs L j w0 wx Ps hO hk hx hM _ rfl)
  have Hc := Lib.hid hc
  clear h hk hx hM hc
  go_enter Tryd.func60, Tryd.ntmps60
  go_wp2_with fail
  go_loopw [3, 4] (fun nv s wr => ∃ (j n : Nat), j ≤ m ∧ nv = .int .i64 (n : Int) ∧ s = .int .i64 (j : Int) ∧ n ≤ j ∧ Hid (cntF (mbit xs L a) j = n) ∧ Hid (Grommet.Own w0 wr Ps)) (fun _ s _ => m - (intOf s).toNat)
  case atStart => exact ⟨0, 0, Nat.zero_le _, rfl, rfl, Nat.le_refl _, Lib.hid rfl, HO⟩
  case round =>
    clear HO
    obtain ⟨j, n, hj, rfl, rfl, hnj, Hn, HO⟩ := hrel
    obtain ⟨c0, c1, c2⟩ := rmap_cells (HO.out.box k2 Hx.out)
    have j0 : (0 : Int) ≤ (j : Int) := by omega
    have wj : IntKind.i64.wrap ((j : Int) + 1) = (j : Int) + 1 := IntWalk.i64_in _ ⟨by omega, by omega⟩
    have wn : IntKind.i64.wrap ((n : Int) + 1) = (n : Int) + 1 := IntWalk.i64_in _ ⟨by omega, by omega⟩
    by_cases hlt2 : j < m
    · have hlt3 : (j : Int) < (m : Int) := by omega
      have HGj := Lib.hid (HG.out (j : Int) wr HO.out)
      rw [getM_lt hlt2] at HGj
      cases hb : mbit xs L a j with
      | false =>
        rw [hb] at HGj
        have Hn2 : Hid (cntF (mbit xs L a) (j + 1) = n) := Lib.hid (by unfold cntF; rw [Hn.out, hb]; rfl)
        clear hb
        go_wp2_with fail
        refine HGj.out.mono ?_
        rintro e w1 ⟨rfl, hg⟩
        have hfin := Lib.hid (HO.out.quiet hg)
        clear hg HGj c0 c1 c2
        go_wp2
        go_roundw
        case rel => exact ⟨j + 1, n, by omega, rfl, by go_num, by omega, Hn2, hfin⟩
        case measure => simp [intOf]; omega
      | true =>
        rw [hb] at HGj
        have Hn2 : Hid (cntF (mbit xs L a) (j + 1) = n + 1) := Lib.hid (by unfold cntF; rw [Hn.out, hb]; rfl)
        clear hb
        go_wp2_with fail
        refine HGj.out.mono ?_
        rintro e w1 ⟨rfl, hg⟩
        have hfin := Lib.hid (HO.out.quiet hg)
        clear hg HGj c0 c1 c2
        go_wp2
        go_roundw
        case rel => exact ⟨j + 1, n + 1, by omega, by go_num, by go_num, by omega, Hn2, hfin⟩
        case measure => simp [intOf]; omega
    · obtain rfl : m = j := by omega
      have hlt3 : ¬ (m : Int) < (m : Int) := by omega
      have hcc : n = c := Hn.out.symm.trans Hc.out
      subst hcc
      go_wp2
      go_ret
      exact ⟨rfl, HO.out⟩
end Go.Proofs.YtdblgnccjpjabaaDoor
end
section
/- The document's map: Set, Of. -/
namespace Go.Proofs.YtdblgnccjpjabaaDoor
open Go.RowKit Go.Grommet

theorem setB_xor {v j : Nat} (is : Bool) (hj : j < 64) (hv : v < 18446744073709551616) : setB v j is = if is = v.testBit j then v else v ^^^ 2 ^ j := by
  apply Nat.eq_of_testBit_eq
  intro i
  rw [setB_bit is hj hv i]
  by_cases e : i = j
  · subst e
    rw [if_pos rfl]
    split
    · assumption
    · rename_i hne
      rw [Nat.testBit_xor, Nat.testBit_two_pow_self]
      revert hne
      cases is <;> cases v.testBit i <;> simp
  · rw [if_neg e]
    split
    · rfl
    · rw [Nat.testBit_xor, Nat.testBit_two_pow, decide_eq_false (fun h => e h.symm)]
      simp

set_option maxRecDepth 100000 in
set_option maxHeartbeats 1000000 in
theorem RMSetQ (k k2 X g a m : Nat) (xs : List Nat) (L : List (Nat × Nat)) (i : Int) (is : Bool) (en : Int) (w0 w : World) (Ps Qs : List Pr) (h : Grommet.Own w0 w Ps) (hk : Ps[k]? = some (refQ g xs L)) (hx : Ps[k2]? = some (rmapP X g a m)) (hM : MapOk xs.length a m)
    (he : (setME xs L a m i : Int) = en) (hQ : Ps.set k (refQ g xs (setMI xs L a m i is)) = Qs) :
    Calls Tryd.prog 50 #[.pointer (some ⟨X, 0, none⟩), .int .i64 i, .bool is] w fun e w' => e = .returned (.int .i64 en) ∧ Grommet.Own w0 w' Qs := by
  have hb := h.box k2 hx
  obtain ⟨c0, c1, c2⟩ := rmap_cells hb
  obtain ⟨hW, hxs, hxl⟩ := ref_wl h k hk
  have hlt := hM.lt
  have hQs : Ps.set k (refQ g xs L) = Ps := by
    apply List.ext_getElem?
    intro i
    by_cases hi : i = k
    · subst hi; rw [List.getElem?_set_self (List.getElem?_eq_some_iff.1 hk).1, hk]
    · rw [List.getElem?_set_ne (fun e => hi e.symm)]
  cases hin : inB i m with
  | false =>
    unfold setME at he
    unfold setMI at hQ
    rw [hin] at he hQ
    simp only [Bool.false_eq_true, if_false] at he hQ
    rw [hQs] at hQ
    subst he hQ
    have HO := Lib.hid h
    have hi : ¬ (0 ≤ i ∧ i < (m : Int)) := by unfold inB at hin; simpa using hin
    clear hin h hb hk hx hM hlt hW hxs hxl hQs
    by_cases i0 : i < 0
    · clear hi
      go_enter Tryd.func50, Tryd.ntmps50
      go_wp2
      go_ret
      exact ⟨rfl, HO.out⟩
    · have i1 : (m : Int) ≤ i := by omega
      clear hi
      go_enter Tryd.func50, Tryd.ntmps50
      go_wp2
      go_ret
      exact ⟨rfl, HO.out⟩
  | true =>
    unfold setME at he
    unfold setMI at hQ
    have hi : 0 ≤ i ∧ i < (m : Int) := by unfold inB at hin; simpa using hin
    rw [hin] at he hQ
    simp only [if_true] at he hQ
    obtain ⟨j, rfl⟩ := Int.eq_ofNat_of_zero_le hi.1
    rw [Int.toNat_natCast] at he hQ
    have hj : j < m := by omega
    have hf := hM.fits
    have hin2 : 0 ≤ ((a + j / 64 : Nat) : Int) ∧ ((a + j / 64 : Nat) : Int) < (xs.length : Int) := by omega
    have HG := Lib.hid (fun n => RGetQ k g xs L ((a + j / 64 : Nat) : Int) w0 (w.drewN n) Ps (h.quiet (grown_drewN w n none)) hk)
    rw [show gotI xs L ((a + j / 64 : Nat) : Int) = gotV xs L (a + j / 64) from by unfold gotI; rw [if_pos hin2, Int.toNat_natCast]] at HG
    have HM := Lib.hid (fun wx hO => RMGetQ k k2 X g a m xs L (j : Int) w0 wx Ps hO hk hx hM _ rfl)
    rw [getM_lt hj] at HM
    unfold mbit at HM
    have hV := gotV_small hxs hW.val (a + j / 64)
    have hsx := setB_xor (v := gotV xs L (a + j / 64)) (j := j % 64) is (by omega) hV
    have hsm : setB (gotV xs L (a + j / 64)) (j % 64) is < 18446744073709551616 := setB_small is (by omega) hV
    have HP := Lib.hid (fun wx hO => RPutQ k g xs L ((a + j / 64 : Nat) : Int) (setB (gotV xs L (a + j / 64)) (j % 64) is) en w0 wx Ps Qs hO hk hsm he hQ)
    have e1 : IntKind.i64.wrap ((a : Int) + (j : Int) / 64) = ((a + j / 64 : Nat) : Int) := by rw [IntWalk.i64_in _ ⟨by omega, by omega⟩]; omega
    have e2 : (a : Int) + (j : Int) / 64 = ((a + j / 64 : Nat) : Int) := by omega
    have e0 : IntKind.i64.wrap ((j : Int) / 64) = (j : Int) / 64 := IntWalk.i64_in _ ⟨by omega, by omega⟩
    have e5 : IntKind.i64.wrap ((a + j / 64 : Nat) : Int) = ((a + j / 64 : Nat) : Int) := IntWalk.i64_in _ ⟨by omega, by omega⟩
    generalize gotV xs L (a + j / 64) = V at *
    generalize a + j / 64 = A at *
    have j0 : (0 : Int) ≤ (j : Int) := by omega
    have j1 : (j : Int) < (m : Int) := by omega
    have j2 : ¬ (j : Int) < 0 := by omega
    have j3 : ¬ (m : Int) ≤ (j : Int) := by omega
    obtain ⟨s, hs⟩ : ∃ s, j % 64 = s := ⟨_, rfl⟩
    have s1 : (j : Int) % 64 = (s : Int) := by omega
    have s2 : Int.tmod (j : Int) 64 = (s : Int) := by rw [Int.tmod_eq_emod_of_nonneg (by omega)]; exact s1
    have s3 : IntKind.i64.wrap (s : Int) = (s : Int) := IntWalk.i64_in _ ⟨by omega, by omega⟩
    have s4 : IntKind.u64.wrap (s : Int) = (s : Int) := IntWalk.u64_in _ ⟨by omega, by omega⟩
    have s5 : s < 64 := by omega
    have s6 : (0 : Int) ≤ (s : Int) := by omega
    rw [hs] at hsx HP HM
    have hp := pow_lt64 s5
    obtain ⟨U, hU⟩ : ∃ U, 2 ^ s = U := ⟨_, rfl⟩
    have eU : IntKind.u64.wrap ((2 : Int) ^ s) = (U : Int) := by
      rw [show (2 : Int) ^ s = ((2 ^ s : Nat) : Int) from by simp, hU, IntWalk.u64_in _ ⟨by omega, by rw [← hU]; omega⟩]
    have eU1 : IntKind.u64.wrap (1 * (2 : Int) ^ s) = (U : Int) := by rw [Int.one_mul]; exact eU
    rw [hU] at hsx
    have HO := Lib.hid h
    have hsx := Lib.hid hsx
    have Hx := Lib.hid hx
    clear hin h hb hk hx hM hlt hW hxs hxl hf hin2 hQs he hQ
    go_enter Tryd.func50, Tryd.ntmps50
    go_wp2_with fail
    go_quiet ((go_at_call 71; with_reducible exact Calls.quiet_of_same (HG.out _)))
    go_wp2_with fail
    refine (HM.out _ (HO.out.quiet (grown_drewN _ _ _))).mono ?_
    rintro e w1 ⟨rfl, hg⟩
    have hO1 := HO.out.quiet (grown_trans (grown_drewN w _ none) hg)
    have hg1 := Lib.hid (grown_trans (grown_drewN w _ none) hg)
    have hb1 := hO1.box k2 Hx.out
    obtain ⟨c0, c1, c2⟩ := rmap_cells hb1
    have HP1 := Lib.hid (HP.out w1.drew (hO1.quiet (grown_drew (World.grownBy.refl _ _))))
    clear hg HM HG HP HO hO1 hb1
    cases is with
    | true =>
      cases hbt : V.testBit s with
      | true =>
        rw [hbt, if_pos rfl] at hsx
        rw [hsx.out] at HP1
        clear hbt
        go_wp2_with fail
        go_still_tail 12, (by kernel_rfl)
        change wpList _ _ _ _ _ w1.drew
        go_wp2_with fail
        refine HP1.out.mono ?_
        rintro e w2 ⟨rfl, hO2⟩
        go_wp2
        go_ret
        exact ⟨rfl, hO2⟩
      | false =>
        rw [hbt, if_neg (by decide)] at hsx
        rw [hsx.out] at HP1
        obtain ⟨T, hT⟩ : ∃ T, V ^^^ U = T := ⟨_, rfl⟩
        have e3 : bits .xor .u64 (V : Int) (U : Int) = (T : Int) := by rw [← hT]; exact u64_xor_nat V U hV (by rw [← hU]; exact hp)
        rw [hT] at HP1
        clear hbt
        go_wp2_with fail
        go_still_tail 12, (by kernel_rfl)
        change wpList _ _ _ _ _ w1.drew
        go_wp2_with fail
        refine HP1.out.mono ?_
        rintro e w2 ⟨rfl, hO2⟩
        go_wp2
        go_ret
        exact ⟨rfl, hO2⟩
    | false =>
      cases hbt : V.testBit s with
      | false =>
        rw [hbt, if_pos rfl] at hsx
        rw [hsx.out] at HP1
        clear hbt
        go_wp2_with fail
        go_still_tail 12, (by kernel_rfl)
        change wpList _ _ _ _ _ w1.drew
        go_wp2_with fail
        refine HP1.out.mono ?_
        rintro e w2 ⟨rfl, hO2⟩
        go_wp2
        go_ret
        exact ⟨rfl, hO2⟩
      | true =>
        rw [hbt, if_neg (by decide)] at hsx
        rw [hsx.out] at HP1
        obtain ⟨T, hT⟩ : ∃ T, V ^^^ U = T := ⟨_, rfl⟩
        have e3 : bits .xor .u64 (V : Int) (U : Int) = (T : Int) := by rw [← hT]; exact u64_xor_nat V U hV (by rw [← hU]; exact hp)
        rw [hT] at HP1
        clear hbt
        go_wp2_with fail
        go_still_tail 12, (by kernel_rfl)
        change wpList _ _ _ _ _ w1.drew
        go_wp2_with fail
        refine HP1.out.mono ?_
        rintro e w2 ⟨rfl, hO2⟩
        go_wp2
        go_ret
        exact ⟨rfl, hO2⟩
end Go.Proofs.YtdblgnccjpjabaaDoor
end
section
/- The document's map: Of. -/
namespace Go.Proofs.YtdblgnccjpjabaaDoor
open Go.RowKit Go.Grommet

theorem ref_len {w0 w : World} {Ps : List Pr} (h : Grommet.Own w0 w Ps) (k : Nat) {g : Nat} {xs : List Nat} {L : List (Nat × Nat)} (hk : Ps[k]? = some (refQ g xs L)) :
    (∃ ad cap, w.cell? ⟨g, 0, none⟩ = some (.slice ad xs.length cap)) ∧ (∃ ad cap, w.cell? ⟨g, 1, none⟩ = some (.slice ad L.length cap)) := by
  obtain ⟨F, b, vi, vl, h1⟩ := h.get k hk
  obtain ⟨c0, c1, _⟩ := h1.cells
  obtain ⟨ad, cap, he, _⟩ := row_slice h1.words
  obtain ⟨ad', cap', he', _⟩ := row_slice h1.writes
  subst he he'
  exact ⟨⟨ad, cap, c0⟩, ⟨ad', cap', c1⟩⟩

end Go.Proofs.YtdblgnccjpjabaaDoor
end
section
/- The document's view beside other things: New, Flat, no writes; the view's Writes and Flat with what they grow. -/
namespace Go.Proofs.YtdblgnccjpjabaaDoor
open Go.RowKit Go.Grommet
set_option maxRecDepth 100000

set_option maxHeartbeats 2000000 in
theorem RefFlat_any (g : Nat) (F : Nat → Prop) (xs : List Nat) (L : List (Nat × Nat)) (b : Bool) (w : World) (h : RefIs w g F xs L b) (base : Nat) (hb : base ≤ w.heap.size) :
    Calls Tryd.prog 31 #[.pointer (some ⟨g, 0, none⟩)] w (RowOf base (flatV xs L) w) := by
  obtain ⟨vi, vl, h⟩ := h
  obtain ⟨c0, c1, c2⟩ := h.cells
  obtain ⟨ad, cap, rfl, hat, hnil, hlc⟩ := row_slice h.words
  obtain ⟨bd, cap2, rfl, hat2, hnil2, hlc2⟩ := row_slice h.writes
  have hfit := h.fits
  have hfew := h.good.few
  have hold := row_old h.writes
  have hok := Lib.hid h.good.at_
  have hob := h.obj
  have hWx : Words w ad xs.length xs := ⟨rfl, h.small, hat, by omega⟩
  have hrow := h.writes
  clear h hat c2 hlc hnil2 hlc2 hat2
  obtain ⟨z, Hz⟩ : ∃ z, Hid (z = xs.length) := ⟨_, Lib.hid rfl⟩
  obtain ⟨m, Hm⟩ : ∃ m, Hid (m = L.length) := ⟨_, Lib.hid rfl⟩
  rw [← Hm.out] at c1 hob hold hfew hrow
  rw [← Hz.out] at c0 hob hfit hWx hnil
  have hgl : g < w.heap.size := lt_of_block hob
  go_enter Tryd.func31, Tryd.ntmps31
  go_wp2_with (at_builtin; refine app64 rfl _ _ rfl w.heap.size _ 0 [] rfl (own_lit w _ 1 _ (Nat.le_refl _)) ad z cap xs rfl ?a1 hnil ?a2 ?a3 ?_)
  case a1 => exact hWx.keep (World.grownBy_alloc w _ none) (by simp)
  case a2 => omega
  case a3 => simp
  intro v1 w1 hown hg
  have hg := grown_new (World.grownBy_alloc w _ none) hg (by intro g e; cases e; exact Nat.le_refl _)
  try rw [List.nil_append, Nat.zero_add] at hown
  obtain ⟨ad2, cp2, rfl, _⟩ := row_slice hown
  have hbl := fun i hi => (hown.lt i hi).1
  replace hob := Lib.hid hob
  replace hrow := Lib.hid hrow
  have Hown := Lib.hid hown
  clear hown hWx hnil c0 c1
  go_wp2_with fail
  go_loopw [4] (fun i wr => ∃ k : Nat, k ≤ m ∧ i = .int .i64 (k : Int) ∧ Hid (wr.ownsRow w.heap.size 31 1 (.slice ad2 z cp2) z ((flatV xs (L.take k)).map wv)) ∧ w.grownBy wr none) (fun i _ => m - (intOf i).toNat)
  case atStart => exact ⟨0, Nat.zero_le _, rfl, Hown, hg⟩
  case round =>
    clear Hown hg
    obtain ⟨k, hk, rfl, hr, hg⟩ := hrel
    have h0 : (0 : Int) ≤ (k : Int) := by omega
    have hobr := (hg.block g (lt_of_block hob.out) (by simp)).trans hob.out
    have c1 : wr.cell? ⟨g, 1, none⟩ = some (.slice bd m cap2) := by simp [World.cell?, hobr]
    clear hobr
    by_cases hlt : k < m
    · have hlt' : (k : Int) < (m : Int) := by omega
      have hkL : k < L.length := by rw [← Hm.out]; exact hlt
      have hp := hok.out _ (getD_mem L k (0, 0) hkL)
      rw [← Hz.out] at hp
      have hrw : wr.ownsRow 0 104 2 (.slice bd m cap2) m (wcells L) := hrow.out.kept hg (by
        cases (Value.slice bd m cap2).ownBlock with
        | none => exact .inl rfl
        | some q => exact .inr (by simp))
      obtain ⟨q, rfl, v0, v1, _, hcap, _⟩ := wr_cell hrw Hm.out.symm k hlt
      obtain ⟨b', rfl, d1, df, hcap2, hb'⟩ := wd_cell hr.out (by rw [flatV_length]; exact Hz.out.symm) _ hp
      have HS := Lib.hid (take_snocD L k (0, 0) hkL)
      generalize (flatV xs (L.take k)).getD (L.getD k (0, 0)).1 0 = U at d1
      have HA := Lib.hid (row_put hr.out (L.getD k (0, 0)).1 (.int .u64 ((L.getD k (0, 0)).2 : Int)))
      obtain ⟨A, A0⟩ : ∃ A, Hid (A = (L.getD k (0, 0)).1) := ⟨_, Lib.hid rfl⟩
      obtain ⟨V, V0⟩ : ∃ V, Hid (V = (L.getD k (0, 0)).2) := ⟨_, Lib.hid rfl⟩
      rw [← A0.out] at v0 d1 df hp HA
      rw [← V0.out] at v1 HA
      have hA' : (A : Int) < (z : Int) := by omega
      have hA0 : (0 : Int) ≤ (A : Int) := by omega
      have HG := Lib.hid (grown_new hg (grown_setCell wr ⟨b', A, none⟩ (.int .u64 (V : Int))) (by intro i e; cases e; exact hb'))
      clear hr hg hrw
      go_wp2_with fail
      go_still_tail 18, (by kernel_rfl)
      change wpList _ _ _ _ _ wr.drew
      go_wp2
      go_roundw
      case rel =>
        refine ⟨k + 1, by omega, by go_num, Lib.hid ?_, ?_⟩
        · rw [HS.out, flatV_snoc]
          rw [← V0.out, ← A0.out, ← map_wv_set]
          exact HA.out
        · exact grown_drew HG.out
      case measure => first | omega | (simp [intOf]; omega)
    · have hr2 := hr.out
      rw [List.take_of_length_le (by rw [← Hm.out]; omega)] at hr2
      have HR : RowOf base (flatV xs L) w (.returned (.slice ad2 z cp2)) wr := rowOf_mk (n := z) (by rw [flatV_length]; exact Hz.out) (row_base hr2 (fun i hi => by have := hbl i hi; omega)) hg
      clear hr2
      replace HR := Lib.hid HR
      clear hr
      have hlt' : ¬ (k : Int) < (m : Int) := by omega
      go_wp2
      go_ret
      exact HR.out

theorem WritesG (k g : Nat) (xs : List Nat) (L : List (Nat × Nat)) (w0 w : World) (Ps : List Pr) (h : Grommet.Own w0 w Ps) (hk : Ps[k]? = some (viewP g xs L)) :
    Calls Tryd.prog 28 #[.pointer (some ⟨g, 0, none⟩)] w fun e w' => ∃ ad cap, e = .returned (.slice ad L.length cap) ∧ Grommet.Own w0 w' (Ps ++ [rowP 104 2 (.slice ad L.length cap) L.length (wcells L)]) ∧ w.grownBy w' none := by
  obtain ⟨F, h1⟩ := h.get k hk
  refine (Writes_any g F xs L w h1 w.heap.size (Nat.le_refl _)).mono ?_
  rintro e w' ⟨ad, cap, he, hr, hg⟩
  exact ⟨ad, cap, he, h.addRow hr hg, hg⟩
theorem FlatG (k g : Nat) (xs : List Nat) (L : List (Nat × Nat)) (w0 w : World) (Ps : List Pr) (h : Grommet.Own w0 w Ps) (hk : Ps[k]? = some (viewP g xs L)) :
    Calls Tryd.prog 30 #[.pointer (some ⟨g, 0, none⟩)] w fun e w' => ∃ ad cap, e = .returned (.slice ad xs.length cap) ∧ Grommet.Own w0 w' (Ps ++ [rowP 31 1 (.slice ad xs.length cap) xs.length ((flatV xs L).map wv)]) ∧ w.grownBy w' none := by
  obtain ⟨F, h1⟩ := h.get k hk
  refine (Flat_any g F xs L w h1 w.heap.size (Nat.le_refl _)).mono ?_
  rintro e w' ⟨ad, cap, he, hr, hg⟩
  rw [flatV_length] at he hr
  exact ⟨ad, cap, he, h.addRow hr hg, hg⟩
theorem RefNewQ (ad : Option Addr) (l c : Nat) (xs : List Nat) (w0 w : World) (Ps : List Pr) (h : Grommet.Own w0 w Ps) (hx : Words w ad l xs) (hl : l ≤ 549755813888) (hnil : ad = none → l = 0 ∧ c = 0) :
    Calls Tryd.prog 11 #[.slice ad l c] w fun e w' => ∃ g, e = .returned (.pointer (some ⟨g, 0, none⟩)) ∧ Grommet.Own w0 w' (Ps ++ [refQ g xs []]) := by
  refine (RefNew_any ad l c xs w hx hl hnil).mono ?_
  rintro e w' ⟨g, F, he, hv, hF, hg⟩
  exact ⟨g, he, h.add (P := refQ g xs []) ⟨_, hv⟩ hF hg⟩
theorem RefFlatQ (k g : Nat) (xs : List Nat) (L : List (Nat × Nat)) (w0 w : World) (Ps : List Pr) (h : Grommet.Own w0 w Ps) (hk : Ps[k]? = some (refQ g xs L)) :
    Calls Tryd.prog 31 #[.pointer (some ⟨g, 0, none⟩)] w fun e w' => ∃ ad cap, e = .returned (.slice ad xs.length cap) ∧ Grommet.Own w0 w' (Ps ++ [rowP 31 1 (.slice ad xs.length cap) xs.length ((flatV xs L).map wv)]) ∧ w.grownBy w' none := by
  obtain ⟨F, b, h1⟩ := h.get k hk
  refine (RefFlat_any g F xs L b w h1 w.heap.size (Nat.le_refl _)).mono ?_
  rintro e w' ⟨ad, cap, he, hr, hg⟩
  rw [flatV_length] at he hr
  exact ⟨ad, cap, he, h.addRow hr hg, hg⟩
theorem refQ_nil {w0 w : World} {Ps : List Pr} (h : Grommet.Own w0 w Ps) (k : Nat) {r : Nat} {xs : List Nat} {L : List (Nat × Nat)} (hk : Ps[k]? = some (refQ r xs L)) :
    Grommet.Own w0 (w.setCell ⟨r, 1, none⟩ (.slice none 0 0)) (Ps.set k (refQ r xs [])) := by
  obtain ⟨F, ⟨b, vi, vl, h1⟩, h2⟩ := h.take k hk
  have hob : w.heap[r]? = some (.cells [vi, vl, .bool b].toArray 49 (0, 0)) := h1.obj
  have t0 : Turn (fun i => i = r) w (w.setCell ⟨r, 1, none⟩ (.slice none 0 0)) := Turn.of (grown_setCell _ _ _) (fun i e => by cases e; rfl)
  refine h2 _ (refQ r xs []) ⟨F, ⟨b, vi, .slice none 0 0, ⟨row_set hob 1 _, t0.row h1.words (fun i hi e => h1.apart.1 i hi e), World.ownsRow_nil _ _ _ _, h1.small, h1.fits, Wl.nil _, fun i hi => Nat.lt_of_lt_of_le (h1.old i hi) t0.size, h1.fg, h1.fw, fun i hi => by cases hi⟩⟩, fun i hi => .inl hi, t0.mono (fun i e => by subst e; exact .inl h1.fg)⟩
/-- What is written, as it stands in memory. -/
theorem refQ_obj {w0 w : World} {Ps : List Pr} (h : Grommet.Own w0 w Ps) (k : Nat) {r : Nat} {xs : List Nat} {L : List (Nat × Nat)} (hk : Ps[k]? = some (refQ r xs L)) :
    ∃ ad cap, w.cell? ⟨r, 1, none⟩ = some (.slice ad L.length cap) ∧ w.frozen? ⟨r, 1, none⟩ = false ∧ At w ad (wcells L) := by
  obtain ⟨F, b, vi, vl, h1⟩ := h.get k hk
  obtain ⟨ad, cap, rfl, hat, _⟩ := row_slice h1.writes
  have hob : w.heap[r]? = some (.cells [vi, .slice ad L.length cap, .bool b].toArray 49 (0, 0)) := h1.obj
  exact ⟨ad, cap, by simp [World.cell?, hob], by simp [World.frozen?, hob], hat⟩
end Go.Proofs.YtdblgnccjpjabaaDoor
end
section
/- The document's alloc: Used, give, Free, TakeInode. -/
namespace Go.Proofs.YtdblgnccjpjabaaDoor
open Go.RowKit Go.Grommet

def rallocP (XA g a b c XI XB : Nat) : Pr := boxP XA 93 #[.pointer (some ⟨g, 0, none⟩), .int .i64 (a : Int), .int .i64 (b : Int), .int .i64 (c : Int), .pointer (some ⟨XI, 0, none⟩), .pointer (some ⟨XB, 0, none⟩)]
/-- The document's alloc among the things of a call's own. -/
structure RAlcIs (Ps : List Pr) (kv kI kB kA g a b c XI XB XA : Nat) (xs : List Nat) (L : List (Nat × Nat)) : Prop where
  view : Ps[kv]? = some (refQ g xs L)
  mi : Ps[kI]? = some (rmapP XI g (264 + 208 * a) b)
  mb : Ps[kB]? = some (rmapP XB g (272 + 208 * a) c)
  al : Ps[kA]? = some (rallocP XA g a b c XI XB)
  may : mayB (a : Int) (b : Int) (c : Int) = true
  fits : 280 + 208 * a + 16 * b + 8 * c ≤ xs.length
  few : xs.length ≤ 1000000
theorem RAlcIs.okI {Ps : List Pr} {kv kI kB kA g a b c XI XB XA : Nat} {xs : List Nat} {L : List (Nat × Nat)} (h : RAlcIs Ps kv kI kB kA g a b c XI XB XA xs L) : MapOk xs.length (264 + 208 * a) b := mapI_ok h.may h.fits h.few
theorem RAlcIs.okB {Ps : List Pr} {kv kI kB kA g a b c XI XB XA : Nat} {xs : List Nat} {L : List (Nat × Nat)} (h : RAlcIs Ps kv kI kB kA g a b c XI XB XA xs L) : MapOk xs.length (272 + 208 * a) c := mapB_ok h.may h.fits h.few
theorem ral_cells {w0 w : World} {Ps : List Pr} {kA XA g a b c XI XB : Nat} (h : Grommet.Own w0 w Ps) (hk : Ps[kA]? = some (rallocP XA g a b c XI XB)) : w.cell? ⟨XA, 0, none⟩ = some (.pointer (some ⟨g, 0, none⟩)) ∧ w.cell? ⟨XA, 1, none⟩ = some (.int .i64 (a : Int)) ∧ w.cell? ⟨XA, 2, none⟩ = some (.int .i64 (b : Int)) ∧ w.cell? ⟨XA, 3, none⟩ = some (.int .i64 (c : Int)) ∧ w.cell? ⟨XA, 4, none⟩ = some (.pointer (some ⟨XI, 0, none⟩)) ∧ w.cell? ⟨XA, 5, none⟩ = some (.pointer (some ⟨XB, 0, none⟩)) := by
  have hb := h.box kA hk
  simp [World.cell?, hb]
structure RS (XA g a b c XI XB : Nat) (w0 : World) (Ps : List Pr) (w : World) : Prop where
  box : w.heap[XA]? = some (.cells #[.pointer (some ⟨g, 0, none⟩), .int .i64 (a : Int), .int .i64 (b : Int), .int .i64 (c : Int), .pointer (some ⟨XI, 0, none⟩), .pointer (some ⟨XB, 0, none⟩)] 93 (0, 0))
  own : Grommet.Own w0 w Ps
theorem RS.all {XA g a b c XI XB : Nat} {w0 : World} {Ps : List Pr} {w : World} (h : RS XA g a b c XI XB w0 Ps w) : RS XA g a b c XI XB w0 Ps w ∧ w.cell? ⟨XA, 0, none⟩ = some (.pointer (some ⟨g, 0, none⟩)) ∧ w.cell? ⟨XA, 1, none⟩ = some (.int .i64 (a : Int)) ∧ w.cell? ⟨XA, 2, none⟩ = some (.int .i64 (b : Int)) ∧ w.cell? ⟨XA, 3, none⟩ = some (.int .i64 (c : Int)) ∧ w.cell? ⟨XA, 4, none⟩ = some (.pointer (some ⟨XI, 0, none⟩)) ∧ w.cell? ⟨XA, 5, none⟩ = some (.pointer (some ⟨XB, 0, none⟩)) :=
  ⟨h, by simp [World.cell?, h.box], by simp [World.cell?, h.box], by simp [World.cell?, h.box], by simp [World.cell?, h.box], by simp [World.cell?, h.box], by simp [World.cell?, h.box]⟩
theorem RS.of {XA g a b c XI XB kA : Nat} {w0 : World} {Ps : List Pr} {w : World} (h : Grommet.Own w0 w Ps) (hk : Ps[kA]? = some (rallocP XA g a b c XI XB)) : RS XA g a b c XI XB w0 Ps w := ⟨h.box kA hk, h⟩

/-- What is taken of a map: the number, the error, what is written. -/
def tkV (xs : List Nat) (L : List (Nat × Nat)) (A m : Nat) (c : Int) (b : Bool) : Int := if b = true ∧ setME xs L A m c = 0 then c else 0
def tkE (xs : List Nat) (L : List (Nat × Nat)) (A m : Nat) (c : Int) (b : Bool) : Int := if b = true then (setME xs L A m c : Int) else 7
def tkL (xs : List Nat) (L : List (Nat × Nat)) (A m : Nat) (c : Int) (b : Bool) : List (Nat × Nat) := if b = true then setMI xs L A m c true else L

theorem set_self {Ps : List Pr} {k : Nat} {Q : Pr} (hk : Ps[k]? = some Q) : Ps.set k Q = Ps := by
  apply List.ext_getElem?
  intro i
  by_cases hi : i = k
  · subst hi; rw [List.getElem?_set_self (List.getElem?_eq_some_iff.1 hk).1, hk]
  · rw [List.getElem?_set_ne (fun e => hi e.symm)]

set_option maxRecDepth 100000 in
set_option maxHeartbeats 1000000 in
theorem RUsedQ (kv kI kB kA g a b c XI XB XA : Nat) (xs : List Nat) (L : List (Nat × Nat)) (n : Int) (r : Bool) (w0 w : World) (Ps : List Pr) (h : Grommet.Own w0 w Ps) (hA : RAlcIs Ps kv kI kB kA g a b c XI XB XA xs L)
    (hr : getM xs L (272 + 208 * a) c n = r) :
    Calls Tryd.prog 24 #[.pointer (some ⟨XA, 0, none⟩), .int .i64 n] w fun e w' => e = .returned (.bool r) ∧ Grommet.Own w0 w' Ps := by
  obtain ⟨c0, c1, c2, c3, c4, c5⟩ := ral_cells h hA.al
  have HG := Lib.hid (RMGetQ kv kB XB g (272 + 208 * a) c xs L n w0 w Ps h hA.view hA.mb hA.okB r hr)
  have HO := Lib.hid h
  clear h hA hr
  go_enter Tryd.func24, Tryd.ntmps24
  go_wp2_with fail
  refine HG.out.mono ?_
  rintro e w1 ⟨rfl, hg⟩
  have HO1 := Lib.hid (HO.out.quiet hg)
  clear hg
  go_wp2
  go_ret
  exact ⟨rfl, HO1.out⟩

set_option maxRecDepth 100000 in
set_option maxHeartbeats 1000000 in
theorem Rgive_Q (k k2 X g A m : Nat) (xs : List Nat) (L : List (Nat × Nat)) (n : Int) (en : Int) (w0 w : World) (Ps Qs : List Pr) (h : Grommet.Own w0 w Ps) (hk : Ps[k]? = some (refQ g xs L)) (hx : Ps[k2]? = some (rmapP X g A m)) (hM : MapOk xs.length A m)
    (he : (giveE xs L A m n : Int) = en) (hQ : Ps.set k (refQ g xs (giveL xs L A m n)) = Qs) :
    Calls Tryd.prog 56 #[.pointer (some ⟨X, 0, none⟩), .int .i64 n] w fun e w' => e = .returned (.int .i64 en) ∧ Grommet.Own w0 w' Qs := by
  have hQs := set_self hk
  have hml := hM.lt
  obtain ⟨c0, c1, c2⟩ := rmap_cells (h.box k2 hx)
  by_cases h1 : n < 1
  · unfold giveE at he; unfold giveL at hQ
    rw [if_pos (.inl h1)] at he hQ
    rw [hQs] at hQ
    subst he hQ
    have HO := Lib.hid h
    clear h hk hx hM hQs hml
    go_enter Tryd.func56, Tryd.ntmps56
    go_wp2
    go_ret
    exact ⟨rfl, HO.out⟩
  · by_cases h2 : (m : Int) ≤ n
    · unfold giveE at he; unfold giveL at hQ
      rw [if_pos (.inr h2)] at he hQ
      rw [hQs] at hQ
      subst he hQ
      have HO := Lib.hid h
      clear h hk hx hM hQs hml
      go_enter Tryd.func56, Tryd.ntmps56
      go_wp2
      go_ret
      exact ⟨rfl, HO.out⟩
    · unfold giveE at he; unfold giveL at hQ
      rw [if_neg (by omega)] at he hQ
      have hin : inB n m = true := by unfold inB; simp; omega
      cases hb : mbit xs L A n.toNat with
      | false =>
        rw [hb] at he hQ
        simp only [Bool.false_eq_true, if_false] at he hQ
        rw [hQs] at hQ
        subst he hQ
        have HG := Lib.hid (RMGetQ k k2 X g A m xs L n w0 w Ps h hk hx hM false (by unfold getM; rw [hin, hb]; rfl))
        have HO := Lib.hid h
        clear h hk hx hM hQs hml hb hin
        go_enter Tryd.func56, Tryd.ntmps56
        go_wp2_with fail
        refine HG.out.mono ?_
        rintro e w1 ⟨rfl, hg⟩
        have HO1 := Lib.hid (HO.out.quiet hg)
        clear hg
        go_wp2
        go_ret
        exact ⟨rfl, HO1.out⟩
      | true =>
        rw [hb] at he hQ
        simp only [if_true] at he hQ
        have HG := Lib.hid (RMGetQ k k2 X g A m xs L n w0 w Ps h hk hx hM true (by unfold getM; rw [hin, hb]; rfl))
        have HS := Lib.hid (fun wx hO => RMSetQ k k2 X g A m xs L n false en w0 wx Ps Qs hO hk hx hM he hQ)
        have HO := Lib.hid h
        clear h hk hx hM hQs hml hb hin he hQ
        go_enter Tryd.func56, Tryd.ntmps56
        go_wp2_with fail
        refine HG.out.mono ?_
        rintro e w1 ⟨rfl, hg⟩
        have HO1 := Lib.hid (HO.out.quiet hg)
        clear hg
        go_wp2_with fail
        refine (HS.out _ HO1.out).mono ?_
        rintro e w2 ⟨rfl, hO2⟩
        go_wp2
        go_ret
        exact ⟨rfl, hO2⟩
set_option maxRecDepth 100000 in
set_option maxHeartbeats 1000000 in
theorem RGiveInodeQ (kv kI kB kA g a b c XI XB XA : Nat) (xs : List Nat) (L : List (Nat × Nat)) (n : Int) (en : Int) (w0 w : World) (Ps Qs : List Pr) (h : Grommet.Own w0 w Ps) (hA : RAlcIs Ps kv kI kB kA g a b c XI XB XA xs L)
    (he : (giveE xs L (264 + 208 * a) b n : Int) = en) (hQ : Ps.set kv (refQ g xs (giveL xs L (264 + 208 * a) b n)) = Qs) :
    Calls Tryd.prog 20 #[.pointer (some ⟨XA, 0, none⟩), .int .i64 n] w fun e w' => e = .returned (.int .i64 en) ∧ Grommet.Own w0 w' Qs := by
  obtain ⟨c0, c1, c2, c3, c4, c5⟩ := ral_cells h hA.al
  have HG := Lib.hid (Rgive_Q kv kI XI g (264 + 208 * a) b xs L n en w0 w Ps Qs h hA.view hA.mi hA.okI he hQ)
  clear h hA he hQ
  go_enter Tryd.func20, Tryd.ntmps20
  go_wp2_with fail
  refine HG.out.mono ?_
  rintro e w2 ⟨rfl, hO2⟩
  go_wp2
  go_ret
  exact ⟨rfl, hO2⟩
set_option maxRecDepth 100000 in
set_option maxHeartbeats 1000000 in
theorem RGiveBlockQ (kv kI kB kA g a b c XI XB XA : Nat) (xs : List Nat) (L : List (Nat × Nat)) (n : Int) (en : Int) (w0 w : World) (Ps Qs : List Pr) (h : Grommet.Own w0 w Ps) (hA : RAlcIs Ps kv kI kB kA g a b c XI XB XA xs L)
    (he : (giveE xs L (272 + 208 * a) c n : Int) = en) (hQ : Ps.set kv (refQ g xs (giveL xs L (272 + 208 * a) c n)) = Qs) :
    Calls Tryd.prog 22 #[.pointer (some ⟨XA, 0, none⟩), .int .i64 n] w fun e w' => e = .returned (.int .i64 en) ∧ Grommet.Own w0 w' Qs := by
  obtain ⟨c0, c1, c2, c3, c4, c5⟩ := ral_cells h hA.al
  have HG := Lib.hid (Rgive_Q kv kB XB g (272 + 208 * a) c xs L n en w0 w Ps Qs h hA.view hA.mb hA.okB he hQ)
  clear h hA he hQ
  go_enter Tryd.func22, Tryd.ntmps22
  go_wp2_with fail
  refine HG.out.mono ?_
  rintro e w2 ⟨rfl, hO2⟩
  go_wp2
  go_ret
  exact ⟨rfl, hO2⟩

set_option maxRecDepth 100000 in
set_option maxHeartbeats 1000000 in
theorem RTakeInodeQ (kv kI kB kA g a b c XI XB XA : Nat) (xs : List Nat) (L : List (Nat × Nat)) (n : Int) (is : Bool) (w0 w : World) (Ps Qs : List Pr) (h : Grommet.Own w0 w Ps) (hA : RAlcIs Ps kv kI kB kA g a b c XI XB XA xs L)
    (hc : ClrR (mbit xs L (264 + 208 * a)) b n is) (v en : Int) (hv : tkV xs L (264 + 208 * a) b n is = v) (he : tkE xs L (264 + 208 * a) b n is = en) (hQ : Ps.set kv (refQ g xs (tkL xs L (264 + 208 * a) b n is)) = Qs) :
    Calls Tryd.prog 16 #[.pointer (some ⟨XA, 0, none⟩)] w fun e w' => e = .returned (.tuple #[.int .i64 v, .int .i64 en]) ∧ Grommet.Own w0 w' Qs := by
  obtain ⟨c0, c1, c2, c3, c4, c5⟩ := ral_cells h hA.al
  have hQs := set_self hA.view
  have Hal := Lib.hid hA.al
  have HC := Lib.hid (RMClearQ kv kI XI g (264 + 208 * a) b xs L w0 w Ps h hA.view hA.mi hA.okI n is hc)
  cases is with
  | false =>
    obtain rfl : 0 = v := by rw [← hv]; unfold tkV; rw [if_neg (by simp)]
    obtain rfl : 7 = en := by rw [← he]; unfold tkE; rw [if_neg (by simp)]
    obtain rfl : Ps = Qs := by rw [← hQ]; unfold tkL; rw [if_neg (by simp)]; exact hQs.symm
    clear h hA hc hv he hQ hQs
    go_enter Tryd.func16, Tryd.ntmps16
    go_wp2_with fail
    refine HC.out.mono ?_
    rintro e w1 ⟨rfl, hO1⟩
    have hO1 := Lib.hid hO1
    clear HC
    go_wp2
    go_ret2
    exact ⟨rfl, hO1.out⟩
  | true =>
    unfold tkV at hv
    unfold tkE at he
    unfold tkL at hQ
    rw [if_pos rfl] at he hQ
    have HS := Lib.hid (fun wx hO => RMSetQ kv kI XI g (264 + 208 * a) b xs L n true en w0 wx Ps Qs hO hA.view hA.mi hA.okI he hQ)
    by_cases h0 : setME xs L (264 + 208 * a) b n = 0
    · rw [if_pos ⟨rfl, h0⟩] at hv
      rw [h0] at he
      obtain rfl : (0 : Int) = en := he
      subst hv
      clear h hA hc hQ hQs h0
      go_enter Tryd.func16, Tryd.ntmps16
      go_wp2_with fail
      refine HC.out.mono ?_
      rintro e w1 ⟨rfl, hO1⟩
      have HS1 := Lib.hid (HS.out w1 hO1)
      obtain ⟨c0, c1, c2, c3, c4, c5⟩ := ral_cells hO1 Hal.out
      clear HC HS hO1
      go_wp2_with fail
      refine HS1.out.mono ?_
      rintro e w2 ⟨rfl, hO2⟩
      have hO2 := Lib.hid hO2
      go_wp2
      go_ret2
      exact ⟨rfl, hO2.out⟩
    · rw [if_neg (fun h => h0 h.2)] at hv
      subst hv
      have q1 : (en != 0) = true := by simp; omega
      have q2 : ¬ en = 0 := by omega
      clear h hA hc hQ hQs h0 he
      go_enter Tryd.func16, Tryd.ntmps16
      go_wp2_with fail
      refine HC.out.mono ?_
      rintro e w1 ⟨rfl, hO1⟩
      have HS1 := Lib.hid (HS.out w1 hO1)
      obtain ⟨c0, c1, c2, c3, c4, c5⟩ := ral_cells hO1 Hal.out
      clear HC HS hO1
      go_wp2_with fail
      refine HS1.out.mono ?_
      rintro e w2 ⟨rfl, hO2⟩
      have hO2 := Lib.hid hO2
      go_wp2
      go_ret2
      exact ⟨rfl, hO2.out⟩
end Go.Proofs.YtdblgnccjpjabaaDoor
end
section
/- The document's alloc: Free, TakeBlock; how words are put 0 as long as it goes. -/
namespace Go.Proofs.YtdblgnccjpjabaaDoor
open Go.RowKit Go.Grommet

/-- So many words are put 0, as long as it goes: what is written, the error. -/
def zR (xs : List Nat) (P : Nat) (L : List (Nat × Nat)) (e : Nat) : Nat → List (Nat × Nat) × Nat
  | 0 => (L, e)
  | i + 1 => if (zR xs P L e i).2 = 0 then (putI xs (zR xs P L e i).1 ((P + i : Nat) : Int) 0, putEI xs (zR xs P L e i).1 ((P + i : Nat) : Int)) else zR xs P L e i
theorem zR_stuck (xs : List Nat) (P : Nat) (L : List (Nat × Nat)) (e i : Nat) (h : (zR xs P L e i).2 ≠ 0) : ∀ d, zR xs P L e (i + d) = zR xs P L e i
  | 0 => rfl
  | d + 1 => by
    have ih := zR_stuck xs P L e i h d
    show (if (zR xs P L e (i + d)).2 = 0 then _ else zR xs P L e (i + d)) = _
    rw [ih, if_neg h]

set_option maxRecDepth 100000 in
set_option maxHeartbeats 1000000 in
theorem RFreeQ (kv kI kB kA g a b c XI XB XA : Nat) (xs : List Nat) (L : List (Nat × Nat)) (p q : Int) (w0 w : World) (Ps : List Pr) (h : Grommet.Own w0 w Ps) (hA : RAlcIs Ps kv kI kB kA g a b c XI XB XA xs L)
    (hp : (b : Int) - (cntF (mbit xs L (264 + 208 * a)) b : Int) = p) (hq : (c : Int) - (cntF (mbit xs L (272 + 208 * a)) c : Int) = q) :
    Calls Tryd.prog 26 #[.pointer (some ⟨XA, 0, none⟩)] w fun e w' => e = .returned (.tuple #[.int .i64 p, .int .i64 q]) ∧ Grommet.Own w0 w' Ps := by
  have hmN := mayN hA.may
  have h1 := cntF_le (mbit xs L (264 + 208 * a)) b
  have h2 := cntF_le (mbit xs L (272 + 208 * a)) c
  obtain ⟨C, eC⟩ : ∃ C, cntF (mbit xs L (264 + 208 * a)) b = C := ⟨_, rfl⟩
  obtain ⟨D, eD⟩ : ∃ C, cntF (mbit xs L (272 + 208 * a)) c = C := ⟨_, rfl⟩
  have HC := Lib.hid (fun wx hO => RMCountQ kv kI XI g (264 + 208 * a) b xs L w0 wx Ps hO hA.view hA.mi hA.okI C eC)
  have HD := Lib.hid (fun wx hO => RMCountQ kv kB XB g (272 + 208 * a) c xs L w0 wx Ps hO hA.view hA.mb hA.okB D eD)
  rw [eC] at hp h1
  rw [eD] at hq h2
  have w1 : IntKind.i64.wrap ((b : Int) - (C : Int)) = p := by rw [IntWalk.i64_in _ ⟨by omega, by omega⟩]; exact hp
  have w2 : IntKind.i64.wrap ((c : Int) - (D : Int)) = q := by rw [IntWalk.i64_in _ ⟨by omega, by omega⟩]; exact hq
  have w3 : IntKind.i64.wrap p = p := IntWalk.i64_in _ ⟨by omega, by omega⟩
  have w4 : IntKind.i64.wrap q = q := IntWalk.i64_in _ ⟨by omega, by omega⟩
  have hS := RS.of (h.quiet (grown_drew (World.grownBy.refl w none))) hA.al
  have Hal := Lib.hid hA.al
  clear h hA eC eD h1 h2 hmN
  go_enter Tryd.func26, Tryd.ntmps26
  go_wp2_with fail
  obtain ⟨hP, c0, c1, c2, c3, c4, c5⟩ := RS.all hS
  clear hS
  go_region_held (fun w' => RS XA g a b c XI XB w0 Ps w' ∧ w'.cell? ⟨XA, 0, none⟩ = some (.pointer (some ⟨g, 0, none⟩)) ∧ w'.cell? ⟨XA, 1, none⟩ = some (.int .i64 (a : Int)) ∧ w'.cell? ⟨XA, 2, none⟩ = some (.int .i64 (b : Int)) ∧ w'.cell? ⟨XA, 3, none⟩ = some (.int .i64 (c : Int)) ∧ w'.cell? ⟨XA, 4, none⟩ = some (.pointer (some ⟨XI, 0, none⟩)) ∧ w'.cell? ⟨XA, 5, none⟩ = some (.pointer (some ⟨XB, 0, none⟩))) ((apply RS.all; assumption)) (first | (go_at_call_of 60 (Value.pointer (some ⟨XI, 0, none⟩)); refine (HC.out _ (RS.own (show RS XA g a b c XI XB w0 Ps _ by assumption))).mono ?_; rintro e wA ⟨rfl, hgA⟩; obtain ⟨hP, c0, c1, c2, c3, c4, c5⟩ := RS.all (RS.of hgA Hal.out)) | (go_at_call_of 60 (Value.pointer (some ⟨XB, 0, none⟩)); refine (HD.out _ (RS.own (show RS XA g a b c XI XB w0 Ps _ by assumption))).mono ?_; rintro e wB ⟨rfl, hgB⟩; obtain ⟨hP, c0, c1, c2, c3, c4, c5⟩ := RS.all (RS.of hgB Hal.out)))
  all_goals
    have hfin := Lib.hid (RS.own hP)
    clear hP c0 c1 c2 c3 c4 c5 HC HD
    go_wp2
    go_ret2
    exact ⟨rfl, hfin.out⟩
end Go.Proofs.YtdblgnccjpjabaaDoor
end
section
/- Package alloc: what is taken, whatever the view says. -/
namespace Go.Proofs.YtdblgnccjpjabaaDoor
open Go.RowKit Go.Grommet

theorem zR_go (xs : List Nat) (P : Nat) (L : List (Nat × Nat)) (e i : Nat) (h : (zR xs P L e i).2 = 0) : zR xs P L e (i + 1) = (putI xs (zR xs P L e i).1 ((P + i : Nat) : Int) 0, putEI xs (zR xs P L e i).1 ((P + i : Nat) : Int)) := by
  show (if (zR xs P L e i).2 = 0 then _ else zR xs P L e i) = _
  rw [if_pos h]
theorem zR_end (xs : List Nat) (P : Nat) (L : List (Nat × Nat)) (e i : Nat) (hi : i ≤ 8) (h : (zR xs P L e i).2 ≠ 0) : zR xs P L e 8 = zR xs P L e i := by
  have := zR_stuck xs P L e i h (8 - i)
  rwa [show i + (8 - i) = 8 by omega] at this

set_option maxRecDepth 100000 in
set_option maxHeartbeats 1000000 in
theorem take_gen (k k2 kr X XA kA g A m c P q a b c' XI XB : Nat) (xs : List Nat) (L : List (Nat × Nat)) (w0 w : World) (Ps : List Pr) (h : Grommet.Own w0 w Ps) (hk : Ps[k]? = some (viewP g xs L)) (hx : Ps[k2]? = some (mapP X g A m)) (hal : Ps[kA]? = some (allocP XA g a b c' XI XB)) (hM : MapOk xs.length A m)
    (hr : Ps[kr]? = some (rowP 3 1 (.slice (some ⟨q, 0, none⟩) 8 8) 8 (rowW P 8))) (h2 : k ≠ kr) (h3 : k ≠ kA) (hP : P + 8 ≤ xs.length)
    (htab : Lib.TabIs Tryd.prog w0 "math/bits.deBruijn64tab" .u8 tab) (hc : ClrR (mbit xs L A) m (c : Int) true) (E : Nat) (S : List (Nat × Nat)) (v : Int) (hS : zR xs P (setMI xs L A m (c : Int) true) (setME xs L A m (c : Int)) 8 = (S, E)) (hv : (if E = 0 then (c : Int) else 0) = v) :
    Calls Tryd.prog 48 #[.pointer (some ⟨XA, 0, none⟩), .pointer (some ⟨X, 0, none⟩), .slice (some ⟨q, 0, none⟩) 8 8] w fun e w' => e = .returned (.tuple #[.int .i64 v, .int .i64 (E : Int)]) ∧ Grommet.Own w0 w' (Ps.set k (viewP g xs S)) := by
  have hfw := hM.few
  have HC := Lib.hid (MClearH k k2 X g A m xs L w0 w Ps h hk hx hM htab (c : Int) true hc)
  obtain ⟨E0, hE0⟩ : ∃ E0, setME xs L A m (c : Int) = E0 := ⟨_, rfl⟩
  obtain ⟨M, hMe⟩ : ∃ M, setMI xs L A m (c : Int) true = M := ⟨_, rfl⟩
  have HS := Lib.hid (fun wx hO => MSetH k k2 X g A m xs L (c : Int) true (E0 : Int) w0 wx Ps _ hO hk hx hM (by rw [hE0]) rfl)
  rw [hMe] at HS hS
  rw [hE0] at hS
  have HSv := Lib.hid hS
  have HO := Lib.hid h
  have Hk := Lib.hid hk
  have Hr := Lib.hid hr
  have Hal := Lib.hid hal
  have Hxl := Lib.hid (show P + 8 ≤ xs.length from hP)
  have hPl : P ≤ 1000000 := by omega
  by_cases he0 : E0 = 0
  · subst he0
    have Hv := Lib.hid hv
    clear h hk hx hM htab hc hMe hr hal hP hfw hS hv hE0
    go_enter Tryd.func48, Tryd.ntmps48
    go_wp2_with fail
    refine HC.out.mono ?_
    rintro e w1 ⟨rfl, hg⟩
    clear HC
    have hO1 := Lib.hid (HO.out.quiet hg)
    clear HO hg
    go_wp2_with fail
    refine (HS.out _ hO1.out).mono ?_
    rintro e w2 ⟨rfl, hO2⟩
    clear HS hO1
    have hO2 : Hid (Grommet.Own w0 w2 (Ps.set k (viewP g xs (zR xs P M 0 0).1))) := Lib.hid hO2
    go_wp2_with fail
    go_loopw [29] (fun s wr => ∃ i : Nat, i ≤ 8 ∧ s = .int .i64 (i : Int) ∧ Hid ((zR xs P M 0 i).2 = 0) ∧ Hid (Grommet.Own w0 wr (Ps.set k (viewP g xs (zR xs P M 0 i).1)))) (fun s _ => 8 - (intOf s).toNat)
    case atStart => exact ⟨0, Nat.zero_le _, rfl, Lib.hid rfl, hO2⟩
    case round =>
      clear hO2
      obtain ⟨i, hi, rfl, Hz, hO⟩ := hrel
      have i0 : (0 : Int) ≤ (i : Int) := by omega
      by_cases hlt : i < 8
      · have hlt' : (i : Int) < 8 := by omega
        obtain ⟨_, hq', d0, _, _⟩ := Own.cell hO.out kr (set_same_at _ kr Hr.out h2) i _ (rowW_get P 8 i hlt)
        cases hq'
        rw [if_pos hlt] at d0
        obtain ⟨c0, c1, c2, c3, c4, c5⟩ := (AS.of hO.out (set_same_at _ kA Hal.out h3)).cells
        have hgo := zR_go xs P M 0 i Hz.out
        obtain ⟨En, hEn⟩ : ∃ En, putEI xs (zR xs P M 0 i).1 ((P + i : Nat) : Int) = En := ⟨_, rfl⟩
        have HPt := Lib.hid (PutH k g xs (zR xs P M 0 i).1 ((P + i : Nat) : Int) 0 (En : Int) w0 wr _ _ hO.out (set_at _ Hk.out) (by decide) (by rw [hEn]) rfl)
        rw [set_set] at HPt
        rw [hEn] at hgo
        have hf1 : (zR xs P M 0 (i + 1)).1 = putI xs (zR xs P M 0 i).1 ((P + i : Nat) : Int) 0 := by rw [hgo]
        rw [← hf1, show ((0 : Nat) : Int) = 0 from rfl] at HPt
        have wi : IntKind.i64.wrap ((i : Int) + 1) = (i : Int) + 1 := IntWalk.i64_in _ ⟨by omega, by omega⟩
        obtain ⟨T, eT⟩ : ∃ T, P + i = T := ⟨_, rfl⟩
        rw [eT] at d0 HPt
        by_cases hE : En = 0
        · subst hE
          have Hz2 : Hid ((zR xs P M 0 (i + 1)).2 = 0) := Lib.hid (by rw [hgo])
          clear hO eT hEn hgo hf1 Hz
          go_wp2_with fail
          refine HPt.out.mono ?_
          rintro e w3 ⟨rfl, hO3⟩
          clear HPt d0 c0 c1 c2 c3 c4 c5
          have hO3 := Lib.hid hO3
          go_wp2
          go_roundw
          case rel => exact ⟨i + 1, by omega, by go_num, Hz2, hO3⟩
          case measure => simp [intOf]; omega
        · have hend := zR_end xs P M 0 (i + 1) (by omega) (by rw [hgo]; exact hE)
          have hSE : (zR xs P M 0 (i + 1)).1 = S ∧ En = E := by
            have h1 := HSv.out
            rw [hend] at h1
            rw [hgo] at h1 ⊢
            exact ⟨congrArg Prod.fst h1, congrArg Prod.snd h1⟩
          obtain ⟨hS1, rfl⟩ := hSE
          rw [hS1] at HPt
          have hv0 : (0 : Int) = v := by have := Hv.out; rw [if_neg hE] at this; exact this
          subst hv0
          have q1 : ((En : Int) != 0) = true := by simp; omega
          have q2 : ¬ (En : Int) = 0 := by omega
          clear hO eT hEn hgo hf1 Hz hend hS1
          go_wp2_with fail
          refine HPt.out.mono ?_
          rintro e w3 ⟨rfl, hO3⟩
          clear HPt d0 c0 c1 c2 c3 c4 c5
          have hO3 := Lib.hid hO3
          go_wp2
          go_ret2
          exact ⟨rfl, hO3.out⟩
      · obtain rfl : i = 8 := by omega
        have hSE : (zR xs P M 0 8).1 = S ∧ 0 = E := ⟨by rw [HSv.out], by have := Hz.out; rw [HSv.out] at this; exact this.symm⟩
        obtain ⟨hS1, rfl⟩ := hSE
        rw [hS1] at hO
        have hv0 : (c : Int) = v := by have := Hv.out; rw [if_pos rfl] at this; exact this
        subst hv0
        clear hS1 Hz
        go_wp2
        go_ret2
        exact ⟨rfl, hO.out⟩
  · have hend := zR_end xs P M E0 0 (by omega) he0
    rw [hS] at hend
    obtain ⟨rfl, rfl⟩ : S = M ∧ E = E0 := ⟨congrArg Prod.fst hend, congrArg Prod.snd hend⟩
    rw [if_neg he0] at hv
    subst hv
    have q1 : ((E : Int) != 0) = true := by simp; omega
    have q2 : ¬ (E : Int) = 0 := by omega
    clear h hk hx hM htab hc hMe hr hal hP hfw hS hE0 HSv hend he0
    go_enter Tryd.func48, Tryd.ntmps48
    go_wp2_with fail
    refine HC.out.mono ?_
    rintro e w1 ⟨rfl, hg⟩
    clear HC
    have hO1 := Lib.hid (HO.out.quiet hg)
    clear HO hg
    go_wp2_with fail
    refine (HS.out _ hO1.out).mono ?_
    rintro e w2 ⟨rfl, hO2⟩
    have hO2 := Lib.hid hO2
    clear HS hO1
    go_wp2
    go_ret2
    exact ⟨rfl, hO2.out⟩
end Go.Proofs.YtdblgnccjpjabaaDoor
end
section
/- alloc.TakeBlock, TakeInode, whatever the view says; the document's TakeBlock. -/
namespace Go.Proofs.YtdblgnccjpjabaaDoor
open Go.RowKit Go.Grommet

set_option maxRecDepth 100000 in
set_option maxHeartbeats 1000000 in
theorem TakeBlockGen (kv kI kB kA g a b c XI XB XA n P : Nat) (xs : List Nat) (L : List (Nat × Nat)) (w0 w : World) (Ps : List Pr) (h : Grommet.Own w0 w Ps) (hA : AlcIs Ps kv kI kB kA g a b c XI XB XA xs L)
    (htab : Lib.TabIs Tryd.prog w0 "math/bits.deBruijn64tab" .u8 tab) (hc : ClrR (mbit xs L (272 + 208 * a)) c (n : Int) true) (hn : n < c) (hP : 280 + 208 * a + 16 * b + 8 * n = P) (h3 : kv ≠ kA)
    (E : Nat) (S : List (Nat × Nat)) (v : Int) (hS : zR xs P (setMI xs L (272 + 208 * a) c (n : Int) true) (setME xs L (272 + 208 * a) c (n : Int)) 8 = (S, E)) (hv : (if E = 0 then (n : Int) else 0) = v) :
    Calls Tryd.prog 17 #[.pointer (some ⟨XA, 0, none⟩)] w fun e w' => ∃ q, e = .returned (.tuple #[.int .i64 v, .int .i64 (E : Int)]) ∧ Grommet.Own w0 w' (Ps.set kv (viewP g xs S) ++ [rowP 3 1 (.slice (some ⟨q, 0, none⟩) 8 8) 8 (rowW P 8)]) := by
  have hmN := mayN hA.may
  have hfits := hA.fits
  have HC := Lib.hid (MClearH kv kB XB g (272 + 208 * a) c xs L w0 w Ps h hA.view hA.mb hA.okB htab (n : Int) true hc)
  have HW := Lib.hid (fun wx hO => words_H kv kI kB kA g a b c XI XB XA n P xs L w0 wx Ps hO hA hn hP)
  have HT := Lib.hid (fun q wx hO => take_gen kv kB Ps.length XB XA kA g (272 + 208 * a) c n P q a b c XI XB xs L w0 wx (Ps ++ [rowP 3 1 (.slice (some ⟨q, 0, none⟩) 8 8) 8 (rowW P 8)]) hO (more_at _ hA.view) (more_at _ hA.mb) (more_at _ hA.al) hA.okB (by simp) (by have := (List.getElem?_eq_some_iff.1 hA.view).1; omega) h3 (by omega) htab hc E S v hS hv)
  have Hv := Lib.hid hA.view
  have Hal := Lib.hid hA.al
  have HO := Lib.hid h
  obtain ⟨c0, c1, c2, c3, c4, c5⟩ := (AS.of h hA.al).cells
  have Hne := Lib.hid h3
  clear h hA htab hc hP hmN hfits c0 c1 c2 c3 c4 h3 hS hv
  go_enter Tryd.func17, Tryd.ntmps17
  go_wp2_with fail
  refine HC.out.mono ?_
  rintro e w1 ⟨rfl, hg⟩
  have hO1 := HO.out.quiet (grown_drew hg)
  have HW1 := Lib.hid (HW.out _ hO1)
  clear HC HO hg c5 HW
  go_wp2_with fail
  obtain ⟨hB, k0, k4, k5⟩ := AB.all (AB.of hO1 Hal.out)
  clear hO1
  go_region_held (fun w' => AB XA g a b c XI XB w' ∧ w'.cell? ⟨XA, 0, none⟩ = some (.pointer (some ⟨g, 0, none⟩)) ∧ w'.cell? ⟨XA, 4, none⟩ = some (.pointer (some ⟨XI, 0, none⟩)) ∧ w'.cell? ⟨XA, 5, none⟩ = some (.pointer (some ⟨XB, 0, none⟩))) ((apply AB.all; assumption)) (first | (go_at_call 52; refine HW1.out.mono ?_; rintro e w3 ⟨q, rfl, hO3⟩; obtain ⟨hB, k0, k4, k5⟩ := AB.all (AB.of hO3 (more_at _ Hal.out))) | (go_at_call 48; refine (HT.out _ _ hO3).mono ?_; rintro e w4 ⟨rfl, hO4⟩; obtain ⟨hB, k0, k4, k5⟩ := AB.all (AB.of hO4 (set_same_at _ _ (more_at _ Hal.out) Hne.out))))
  clear hB k0 k4 k5 HW1 HT hO3
  rw [set_more _ _ Hv.out] at hO4
  have hO4 := Lib.hid hO4
  go_wp2
  go_ret2
  exact ⟨q, rfl, hO4.out⟩

set_option maxRecDepth 100000 in
set_option maxHeartbeats 1000000 in
theorem take_nilG (k k2 X XA g A m : Nat) (xs : List Nat) (L : List (Nat × Nat)) (c : Int) (w0 w : World) (Ps : List Pr) (h : Grommet.Own w0 w Ps) (hk : Ps[k]? = some (viewP g xs L)) (hx : Ps[k2]? = some (mapP X g A m)) (hM : MapOk xs.length A m)
    (htab : Lib.TabIs Tryd.prog w0 "math/bits.deBruijn64tab" .u8 tab) (hc : ClrR (mbit xs L A) m c true) (v en : Int) (hv : tkV xs L A m c true = v) (he : tkE xs L A m c true = en) :
    Calls Tryd.prog 48 #[.pointer (some ⟨XA, 0, none⟩), .pointer (some ⟨X, 0, none⟩), .slice none 0 0] w fun e w' => e = .returned (.tuple #[.int .i64 v, .int .i64 en]) ∧ Grommet.Own w0 w' (Ps.set k (viewP g xs (tkL xs L A m c true))) := by
  unfold tkV at hv
  unfold tkE at he
  unfold tkL
  rw [if_pos rfl] at he ⊢
  have HC := Lib.hid (MClearH k k2 X g A m xs L w0 w Ps h hk hx hM htab c true hc)
  have HS := Lib.hid (fun wx hO => MSetH k k2 X g A m xs L c true en w0 wx Ps _ hO hk hx hM he rfl)
  have HO := Lib.hid h
  by_cases h0 : setME xs L A m c = 0
  · rw [if_pos ⟨rfl, h0⟩] at hv
    rw [h0] at he
    obtain rfl : (0 : Int) = en := he
    subst hv
    clear h hk hx hM htab hc h0
    go_enter Tryd.func48, Tryd.ntmps48
    go_wp2_with fail
    refine HC.out.mono ?_
    rintro e w1 ⟨rfl, hg⟩
    clear HC
    have hO1 := Lib.hid (HO.out.quiet hg)
    clear HO hg
    go_wp2_with fail
    refine (HS.out _ hO1.out).mono ?_
    rintro e w2 ⟨rfl, hO2⟩
    clear HS hO1
    have hO2 := Lib.hid hO2
    go_wp2_with fail
    go_loopw [29] (fun s wr => s = .int .i64 0 ∧ Hid (Grommet.Own w0 wr (Ps.set k (viewP g xs (setMI xs L A m c true))))) (fun s _ => 0)
    case atStart => exact ⟨rfl, hO2⟩
    case round =>
      clear hO2
      obtain ⟨rfl, hO⟩ := hrel
      go_wp2
      go_ret2
      exact ⟨rfl, hO.out⟩
  · rw [if_neg (fun h => h0 h.2)] at hv
    subst hv
    have q1 : (en != 0) = true := by simp; omega
    have q2 : ¬ en = 0 := by omega
    clear h hk hx hM htab hc h0 he
    go_enter Tryd.func48, Tryd.ntmps48
    go_wp2_with fail
    refine HC.out.mono ?_
    rintro e w1 ⟨rfl, hg⟩
    clear HC
    have hO1 := Lib.hid (HO.out.quiet hg)
    clear HO hg
    go_wp2_with fail
    refine (HS.out _ hO1.out).mono ?_
    rintro e w2 ⟨rfl, hO2⟩
    clear HS hO1
    have hO2 := Lib.hid hO2
    go_wp2
    go_ret2
    exact ⟨rfl, hO2.out⟩

set_option maxRecDepth 100000 in
set_option maxHeartbeats 1000000 in
theorem TakeInodeGen (kv kI kB kA g a b c XI XB XA : Nat) (xs : List Nat) (L : List (Nat × Nat)) (n : Int) (is : Bool) (w0 w : World) (Ps Qs : List Pr) (h : Grommet.Own w0 w Ps) (hA : AlcIs Ps kv kI kB kA g a b c XI XB XA xs L)
    (htab : Lib.TabIs Tryd.prog w0 "math/bits.deBruijn64tab" .u8 tab) (hc : ClrR (mbit xs L (264 + 208 * a)) b n is) (v en : Int) (hv : tkV xs L (264 + 208 * a) b n is = v) (he : tkE xs L (264 + 208 * a) b n is = en) (hQ : Ps.set kv (viewP g xs (tkL xs L (264 + 208 * a) b n is)) = Qs) :
    Calls Tryd.prog 15 #[.pointer (some ⟨XA, 0, none⟩)] w fun e w' => e = .returned (.tuple #[.int .i64 v, .int .i64 en]) ∧ Grommet.Own w0 w' Qs := by
  cases is with
  | false =>
    obtain rfl : 0 = v := by rw [← hv]; unfold tkV; rw [if_neg (by simp)]
    obtain rfl : 7 = en := by rw [← he]; unfold tkE; rw [if_neg (by simp)]
    obtain rfl : Ps = Qs := by rw [← hQ]; unfold tkL; rw [if_neg (by simp)]; exact (set_self hA.view).symm
    obtain rfl : n = 0 := by
      rcases hc with ⟨hb, _⟩ | ⟨_, h0, _⟩
      · cases hb
      · exact h0
    exact TakeInodeNone kv kI kB kA g a b c XI XB XA xs L w0 w Ps h hA htab hc
  | true =>
    obtain ⟨c0, c1, c2, c3, c4, c5⟩ := (AS.of h hA.al).cells
    have HT := Lib.hid (take_nilG kv kI XI XA g (264 + 208 * a) b xs L n w0 w Ps h hA.view hA.mi hA.okI htab hc v en hv he)
    rw [hQ] at HT
    clear h hA htab hc hQ hv he
    go_enter Tryd.func15, Tryd.ntmps15
    go_wp2_with fail
    refine HT.out.mono ?_
    rintro e w1 ⟨rfl, hO⟩
    have HO1 := Lib.hid hO
    clear hO
    go_wp2
    go_ret2
    exact ⟨rfl, HO1.out⟩

set_option maxRecDepth 100000 in
set_option maxHeartbeats 1000000 in
theorem RTakeBlockNone (kv kI kB kA g a b c XI XB XA : Nat) (xs : List Nat) (L : List (Nat × Nat)) (w0 w : World) (Ps : List Pr) (h : Grommet.Own w0 w Ps) (hA : RAlcIs Ps kv kI kB kA g a b c XI XB XA xs L)
    (hc : ClrR (mbit xs L (272 + 208 * a)) c 0 false) :
    Calls Tryd.prog 18 #[.pointer (some ⟨XA, 0, none⟩)] w fun e w' => e = .returned (.tuple #[.int .i64 0, .int .i64 7]) ∧ Grommet.Own w0 w' Ps := by
  obtain ⟨c0, c1, c2, c3, c4, c5⟩ := ral_cells h hA.al
  have HC := Lib.hid (RMClearQ kv kB XB g (272 + 208 * a) c xs L w0 w Ps h hA.view hA.mb hA.okB 0 false hc)
  clear h hA hc
  go_enter Tryd.func18, Tryd.ntmps18
  go_wp2_with fail
  refine HC.out.mono ?_
  rintro e w1 ⟨rfl, hO1⟩
  have hO1 := Lib.hid hO1
  clear HC
  go_wp2
  go_ret2
  exact ⟨rfl, hO1.out⟩
end Go.Proofs.YtdblgnccjpjabaaDoor
end
section
/- The document's TakeBlock. -/
namespace Go.Proofs.YtdblgnccjpjabaaDoor
open Go.RowKit Go.Grommet

structure RB (XA g a b c XI XB : Nat) (w : World) : Prop where
  box : w.heap[XA]? = some (.cells #[.pointer (some ⟨g, 0, none⟩), .int .i64 (a : Int), .int .i64 (b : Int), .int .i64 (c : Int), .pointer (some ⟨XI, 0, none⟩), .pointer (some ⟨XB, 0, none⟩)] 93 (0, 0))
theorem RB.all {XA g a b c XI XB : Nat} {w : World} (h : RB XA g a b c XI XB w) : RB XA g a b c XI XB w ∧ w.cell? ⟨XA, 0, none⟩ = some (.pointer (some ⟨g, 0, none⟩)) ∧ w.cell? ⟨XA, 1, none⟩ = some (.int .i64 (a : Int)) ∧ w.cell? ⟨XA, 2, none⟩ = some (.int .i64 (b : Int)) ∧ w.cell? ⟨XA, 3, none⟩ = some (.int .i64 (c : Int)) ∧ w.cell? ⟨XA, 4, none⟩ = some (.pointer (some ⟨XI, 0, none⟩)) ∧ w.cell? ⟨XA, 5, none⟩ = some (.pointer (some ⟨XB, 0, none⟩)) :=
  ⟨h, by simp [World.cell?, h.box], by simp [World.cell?, h.box], by simp [World.cell?, h.box], by simp [World.cell?, h.box], by simp [World.cell?, h.box], by simp [World.cell?, h.box]⟩
theorem RB.of {XA g a b c XI XB kA : Nat} {w0 : World} {Ps : List Pr} {w : World} (h : Grommet.Own w0 w Ps) (hk : Ps[kA]? = some (rallocP XA g a b c XI XB)) : RB XA g a b c XI XB w := ⟨h.box kA hk⟩

set_option maxRecDepth 100000 in
set_option maxHeartbeats 1000000 in
theorem RTakeBlockYes (kv kI kB kA g a b c XI XB XA n P : Nat) (xs : List Nat) (L : List (Nat × Nat)) (w0 w : World) (Ps : List Pr) (h : Grommet.Own w0 w Ps) (hA : RAlcIs Ps kv kI kB kA g a b c XI XB XA xs L)
    (hc : ClrR (mbit xs L (272 + 208 * a)) c (n : Int) true) (hn : n < c) (hP : 280 + 208 * a + 16 * b + 8 * n = P) (h3 : kv ≠ kA)
    (E : Nat) (S : List (Nat × Nat)) (v : Int) (hS : zR xs P (setMI xs L (272 + 208 * a) c (n : Int) true) (setME xs L (272 + 208 * a) c (n : Int)) 8 = (S, E)) (hv : (if E = 0 then (n : Int) else 0) = v) :
    Calls Tryd.prog 18 #[.pointer (some ⟨XA, 0, none⟩)] w fun e w' => e = .returned (.tuple #[.int .i64 v, .int .i64 (E : Int)]) ∧ Grommet.Own w0 w' (Ps.set kv (refQ g xs S)) := by
  have hmN := mayN hA.may
  obtain ⟨c0, c1, c2, c3, c4, c5⟩ := ral_cells h hA.al
  have HC := Lib.hid (RMClearQ kv kB XB g (272 + 208 * a) c xs L w0 w Ps h hA.view hA.mb hA.okB (n : Int) true hc)
  obtain ⟨E0, hE0⟩ : ∃ E0, setME xs L (272 + 208 * a) c (n : Int) = E0 := ⟨_, rfl⟩
  obtain ⟨M, hMe⟩ : ∃ M, setMI xs L (272 + 208 * a) c (n : Int) true = M := ⟨_, rfl⟩
  have HS := Lib.hid (fun wx hO => RMSetQ kv kB XB g (272 + 208 * a) c xs L (n : Int) true (E0 : Int) w0 wx Ps _ hO hA.view hA.mb hA.okB (by rw [hE0]) rfl)
  rw [hMe] at HS hS
  rw [hE0] at hS
  have HBa := Lib.hid (fun wx => RBlockAt_any (a : Int) (b : Int) (c : Int) (n : Int) wx)
  rw [show blockV (a : Int) (b : Int) (c : Int) (n : Int) = (P : Int) from by unfold blockV; rw [if_pos ⟨hA.may, by omega, by omega⟩]; omega] at HBa
  unfold gv at HBa
  have HSv := Lib.hid hS
  have Hv := Lib.hid hv
  have Hk := Lib.hid hA.view
  have Hal := Lib.hid hA.al
  have hPl : P ≤ 1000000 := by omega
  clear h hA hc hP hMe hE0 hS hv hmN
  go_enter Tryd.func18, Tryd.ntmps18
  go_wp2_with fail
  refine HC.out.mono ?_
  rintro e w1 ⟨rfl, hO1⟩
  have HS1 := Lib.hid (HS.out w1 hO1)
  obtain ⟨c0, c1, c2, c3, c4, c5⟩ := ral_cells hO1 Hal.out
  clear HC HS hO1
  go_wp2_with fail
  refine HS1.out.mono ?_
  rintro e w2 ⟨rfl, hO2⟩
  have hO2 : Hid (Grommet.Own w0 w2 (Ps.set kv (refQ g xs (zR xs P M E0 0).1))) := Lib.hid hO2
  clear HS1 c0 c1 c2 c3 c4 c5
  go_wp2_with fail
  go_loopw [6, 7] (fun ev s wr => ∃ i : Nat, i ≤ 8 ∧ ev = .int .i64 (((zR xs P M E0 i).2 : Nat) : Int) ∧ s = .int .i64 (i : Int) ∧ Hid (Grommet.Own w0 wr (Ps.set kv (refQ g xs (zR xs P M E0 i).1)))) (fun _ s _ => 8 - (intOf s).toNat)
  case atStart => exact ⟨0, Nat.zero_le _, rfl, rfl, hO2⟩
  case round =>
    clear hO2
    obtain ⟨i, hi, rfl, rfl, hO⟩ := hrel
    have i0 : (0 : Int) ≤ (i : Int) := by omega
    obtain ⟨F, hF⟩ : ∃ F, (zR xs P M E0 i).2 = F := ⟨_, rfl⟩
    rw [hF]
    by_cases hlt : i < 8
    · have hlt' : (i : Int) < 8 := by omega
      by_cases hF0 : F = 0
      · subst hF0
        have hgo := zR_go xs P M E0 i hF
        obtain ⟨En, hEn⟩ : ∃ En, putEI xs (zR xs P M E0 i).1 ((P + i : Nat) : Int) = En := ⟨_, rfl⟩
        have HPt := Lib.hid (fun wx hO => RPutQ kv g xs (zR xs P M E0 i).1 ((P + i : Nat) : Int) 0 (En : Int) w0 wx (Ps.set kv (refQ g xs (zR xs P M E0 i).1)) _ hO (set_at _ Hk.out) (by decide) (by rw [hEn]) rfl)
        rw [set_set] at HPt
        rw [hEn] at hgo
        have hf1 : (zR xs P M E0 (i + 1)).1 = putI xs (zR xs P M E0 i).1 ((P + i : Nat) : Int) 0 := by rw [hgo]
        have hf2 : (zR xs P M E0 (i + 1)).2 = En := by rw [hgo]
        rw [← hf1, show ((0 : Nat) : Int) = 0 from rfl] at HPt
        have wi : IntKind.i64.wrap ((i : Int) + 1) = (i : Int) + 1 := IntWalk.i64_in _ ⟨by omega, by omega⟩
        obtain ⟨T, eT⟩ : ∃ T, P + i = T := ⟨_, rfl⟩
        rw [eT] at HPt
        have eT1 : (P : Int) + (i : Int) = (T : Int) := by omega
        have eT2 : IntKind.i64.wrap (T : Int) = (T : Int) := IntWalk.i64_in _ ⟨by omega, by omega⟩
        have Hf2 := Lib.hid hf2
        clear eT hEn hgo hf1 hF hf2
        obtain ⟨L5, hL5⟩ : ∃ L5, (zR xs P M E0 i).1 = L5 := ⟨_, rfl⟩
        rw [hL5] at hO HPt
        obtain ⟨L6, hL6⟩ : ∃ L6, (zR xs P M E0 (i + 1)).1 = L6 := ⟨_, rfl⟩
        rw [hL6] at HPt
        have HL6 := Lib.hid hL6
        clear hL5 hL6
        go_wp2_with fail
        have hO' := Lib.hid (hO.out.quiet (grown_drew (World.grownBy.refl wr none)))
        obtain ⟨hP, c0, c1, c2, c3, c4, c5⟩ := RB.all (RB.of hO'.out (set_same_at _ kA Hal.out h3))
        clear hO
        go_region_held (fun w' => RB XA g a b c XI XB w' ∧ w'.cell? ⟨XA, 0, none⟩ = some (.pointer (some ⟨g, 0, none⟩)) ∧ w'.cell? ⟨XA, 1, none⟩ = some (.int .i64 (a : Int)) ∧ w'.cell? ⟨XA, 2, none⟩ = some (.int .i64 (b : Int)) ∧ w'.cell? ⟨XA, 3, none⟩ = some (.int .i64 (c : Int)) ∧ w'.cell? ⟨XA, 4, none⟩ = some (.pointer (some ⟨XI, 0, none⟩)) ∧ w'.cell? ⟨XA, 5, none⟩ = some (.pointer (some ⟨XB, 0, none⟩))) ((apply RB.all; assumption)) (first | (go_at_call 54; refine (HBa.out _).mono ?_; rintro e wA ⟨rfl, hgA⟩; obtain ⟨hP, c0, c1, c2, c3, c4, c5⟩ := RB.all (RB.of (hO'.out.quiet hgA) (set_same_at _ kA Hal.out h3))) | (go_at_call 53; refine (HPt.out _ (hO'.out.quiet hgA)).mono ?_; rintro e wB ⟨rfl, hOB⟩; obtain ⟨hP, c0, c1, c2, c3, c4, c5⟩ := RB.all (RB.of hOB (set_same_at _ kA Hal.out h3))))
        clear hP c0 c1 c2 c3 c4 c5 HPt hO' hgA
        have hOB := Lib.hid hOB
        go_wp2
        go_roundw
        case rel => exact ⟨i + 1, by omega, by rw [Hf2.out], by go_num, by rw [HL6.out]; exact hOB⟩
        case measure => simp [intOf]; omega
      · have hend := zR_end xs P M E0 i hi (by rw [hF]; exact hF0)
        have hSE : (zR xs P M E0 i).1 = S ∧ F = E := by
          have h1 := HSv.out
          rw [hend] at h1
          rw [← hF]
          exact ⟨congrArg Prod.fst h1, congrArg Prod.snd h1⟩
        obtain ⟨hS1, rfl⟩ := hSE
        rw [hS1] at hO
        have hv0 : (0 : Int) = v := by have := Hv.out; rw [if_neg hF0] at this; exact this
        subst hv0
        have q1 : ((F : Int) == 0) = false := by rw [beq_eq_false_iff_ne]; omega
        have q2 : ((F : Int) != 0) = true := by simp; omega
        clear hend hS1 hF
        go_wp2
        go_ret2
        exact ⟨rfl, hO.out⟩
    · obtain rfl : i = 8 := by omega
      have hSE : (zR xs P M E0 8).1 = S ∧ F = E := ⟨by rw [HSv.out], by rw [← hF, HSv.out]⟩
      obtain ⟨hS1, rfl⟩ := hSE
      rw [hS1] at hO
      clear hS1 hF hlt hi
      by_cases hF0 : F = 0
      · subst hF0
        have hv0 : (n : Int) = v := by have := Hv.out; rw [if_pos rfl] at this; exact this
        subst hv0
        go_wp2
        go_ret2
        exact ⟨rfl, hO.out⟩
      · have hv0 : (0 : Int) = v := by have := Hv.out; rw [if_neg hF0] at this; exact this
        subst hv0
        have q1 : ((F : Int) == 0) = false := by rw [beq_eq_false_iff_ne]; omega
        have q2 : ((F : Int) != 0) = true := by simp; omega
        go_wp2
        go_ret2
        exact ⟨rfl, hO.out⟩
end Go.Proofs.YtdblgnccjpjabaaDoor
end
section
/- alloc.New and the document's New, refused. -/
namespace Go.Proofs.YtdblgnccjpjabaaDoor
open Go.RowKit Go.Grommet

set_option maxRecDepth 100000 in
set_option maxHeartbeats 1000000 in
theorem ANewBad (g : Nat) (a b c : Int) (w : World) (hm : mayB a b c = false) :
    Calls Tryd.prog 12 #[.pointer (some ⟨g, 0, none⟩), gv a b c] w fun e w' => e = .returned (.tuple #[.pointer none, .int .i64 1]) ∧ w.grownBy w' none := by
  have HM := Lib.hid (fun wx => May_any a b c wx)
  rw [hm] at HM
  unfold gv at HM ⊢
  clear hm
  go_enter Tryd.func12, Tryd.ntmps12
  go_wp2_with fail
  refine (HM.out _).mono ?_
  rintro e w1 ⟨rfl, hg⟩
  have hg := Lib.hid (grown_trans (World.grownBy_alloc w _ none) hg)
  clear HM
  go_wp2
  go_ret2
  exact ⟨rfl, hg.out⟩

set_option maxRecDepth 100000 in
set_option maxHeartbeats 1000000 in
theorem RNewBad (g : Nat) (a b c : Int) (w : World) (hm : mayB a b c = false) :
    Calls Tryd.prog 13 #[.pointer (some ⟨g, 0, none⟩), gv a b c] w fun e w' => e = .returned (.tuple #[.pointer none, .int .i64 1]) ∧ w.grownBy w' none := by
  have HM := Lib.hid (fun wx => RMay_any a b c wx)
  rw [hm] at HM
  unfold gv at HM ⊢
  clear hm
  go_enter Tryd.func13, Tryd.ntmps13
  go_wp2_with fail
  refine (HM.out _).mono ?_
  rintro e w1 ⟨rfl, hg⟩
  have hg := Lib.hid (grown_trans (World.grownBy_alloc w _ none) hg)
  clear HM
  go_wp2
  go_ret2
  exact ⟨rfl, hg.out⟩
end Go.Proofs.YtdblgnccjpjabaaDoor
end
section
/- alloc.New and the document's New, of too few words; the document's New. -/
namespace Go.Proofs.YtdblgnccjpjabaaDoor
open Go.RowKit Go.Grommet

/-- A boxed geometry of the document's. -/
def GR (Y a b c : Nat) (w : World) : Prop := w.heap[Y]? = some (.cells (geoCs a b c) 30 (0, 0))
theorem GR.all {Y a b c : Nat} {w : World} (h : GR Y a b c w) : GR Y a b c w ∧ w.cell? ⟨Y, 0, none⟩ = some (.int .i64 (a : Int)) ∧ w.cell? ⟨Y, 1, none⟩ = some (.int .i64 (b : Int)) ∧ w.cell? ⟨Y, 2, none⟩ = some (.int .i64 (c : Int)) := by
  unfold GR at h
  exact ⟨h, by simp [World.cell?, h, geoCs], by simp [World.cell?, h, geoCs], by simp [World.cell?, h, geoCs]⟩
theorem GR.grown {Y a b c : Nat} {w w' : World} (h : GR Y a b c w) (hg : w.grownBy w' none) : GR Y a b c w' := (hg.block _ (Array.getElem?_eq_some_iff.1 h).1 (by simp)).trans h

structure GW (Y g a b c n : Nat) (ad : Option Addr) (cap : Nat) (w : World) : Prop where
  geo : GR Y a b c w
  r : w.cell? ⟨g, 0, none⟩ = some (.slice ad n cap)
theorem GW.all {Y g a b c n : Nat} {ad : Option Addr} {cap : Nat} {w : World} (h : GW Y g a b c n ad cap w) : GW Y g a b c n ad cap w ∧ w.cell? ⟨Y, 0, none⟩ = some (.int .i64 (a : Int)) ∧ w.cell? ⟨Y, 1, none⟩ = some (.int .i64 (b : Int)) ∧ w.cell? ⟨Y, 2, none⟩ = some (.int .i64 (c : Int)) ∧ w.cell? ⟨g, 0, none⟩ = some (.slice ad n cap) :=
  ⟨h, h.geo.all.2.1, h.geo.all.2.2.1, h.geo.all.2.2.2, h.r⟩
theorem GW.grown {Y g a b c n : Nat} {ad : Option Addr} {cap : Nat} {w w' : World} (h : GW Y g a b c n ad cap w) (hg : w.grownBy w' none) : GW Y g a b c n ad cap w' := ⟨h.geo.grown hg, hg.cell h.r (by simp)⟩

set_option maxRecDepth 100000 in
set_option maxHeartbeats 1000000 in
theorem ANewShort (k g a b c : Nat) (xs : List Nat) (L : List (Nat × Nat)) (w0 w : World) (Ps : List Pr) (h : Grommet.Own w0 w Ps) (hk : Ps[k]? = some (viewP g xs L)) (hm : mayB (a : Int) (b : Int) (c : Int) = true) (hn : xs.length < 280 + 208 * a + 16 * b + 8 * c) :
    Calls Tryd.prog 12 #[.pointer (some ⟨g, 0, none⟩), .agg #[.int .i64 (a : Int), .int .i64 (b : Int), .int .i64 (c : Int)]] w fun e w' => e = .returned (.tuple #[.pointer none, .int .i64 8]) ∧ Grommet.Own w0 w' Ps := by
  have hO1 := h.addBox 23 (geoCs a b c)
  have hG1 := GS.of (Y := w.heap.size) (a := a) (b := b) (c := c) hO1 Ps.length (by simp)
  have hk1 : (Ps ++ [boxP w.heap.size 23 (geoCs a b c)])[k]? = some (viewP g xs L) := by
    rw [List.getElem?_append_left (List.getElem?_eq_some_iff.1 hk).1]; exact hk
  have HL := Lib.hid (fun wx hO => LenH k g xs L w0 wx _ hO hk1)
  have HM := Lib.hid (fun wx => May_any (a : Int) (b : Int) (c : Int) wx)
  have HWd := Lib.hid (fun wx => Words_any (a : Int) (b : Int) (c : Int) wx)
  rw [hm] at HM
  rw [show wordsV (a : Int) (b : Int) (c : Int) = ((280 + 208 * a + 16 * b + 8 * c : Nat) : Int) from by rw [words_pos hm]; omega] at HWd
  unfold gv at HM HWd
  have hlt : (xs.length : Int) < ((280 + 208 * a + 16 * b + 8 * c : Nat) : Int) := by omega
  obtain ⟨Y, eY⟩ : ∃ Y, w.heap.size = Y := ⟨_, rfl⟩
  rw [eY] at hO1 hG1 hk1 HL
  obtain ⟨N, eN⟩ : ∃ N, 280 + 208 * a + 16 * b + 8 * c = N := ⟨_, rfl⟩
  rw [eN] at HWd hlt
  have hG1 := Lib.hid hG1
  unfold geoCs at hG1
  clear h hk hm hn hO1 hk1 eN
  generalize xs.length = n at HL hlt
  obtain ⟨Ps1, eP⟩ : ∃ Ps1, Ps ++ [boxP Y 23 (geoCs a b c)] = Ps1 := ⟨_, rfl⟩
  have eP2 : Ps ++ [boxP Y 23 #[.int .i64 (a : Int), .int .i64 (b : Int), .int .i64 (c : Int)]] = Ps1 := eP
  rw [eP] at HL
  try rw [eP2] at hG1
  try rw [eP] at hG1
  have HPe := Lib.hid eP
  clear eP eP2
  go_enter Tryd.func12, Tryd.ntmps12
  go_wp2_with fail
  refine (HM.out _).mono ?_
  rintro e w1 ⟨rfl, hg1⟩
  have hG2 : GS Y a b c w0 Ps1 w1 := GS.grown hG1.out hg1
  clear hG1 hg1
  go_wp2_with fail
  obtain ⟨hP, k0, k1, k2⟩ := GS.all (GS.drew hG2)
  clear hG2
  go_region_held (fun w' => GS Y a b c w0 Ps1 w' ∧ w'.cell? ⟨Y, 0, none⟩ = some (.int .i64 (a : Int)) ∧ w'.cell? ⟨Y, 1, none⟩ = some (.int .i64 (b : Int)) ∧ w'.cell? ⟨Y, 2, none⟩ = some (.int .i64 (c : Int))) ((apply GS.all; assumption)) (first | (go_at_call 44; refine (HL.out _ (GS.own (show GS Y a b c w0 Ps1 _ by assumption))).mono ?_; rintro e wA ⟨rfl, rfl⟩) | (go_at_call 33; refine (HWd.out _).mono ?_; rintro e wB ⟨rfl, hgB⟩; obtain ⟨hP, k0, k1, k2⟩ := GS.all (GS.grown (show GS Y a b c w0 Ps1 _ by assumption) hgB)))
  clear k0 k1 k2 HL HM HWd
  replace hP : GS Y a b c w0 Ps1 wB := hP
  have hfin : Hid (Grommet.Own w0 wB Ps) := Lib.hid (by have := hP.own; rw [← HPe.out] at this; exact this.less)
  clear hP
  go_wp2
  go_ret2
  exact ⟨rfl, hfin.out⟩

set_option maxRecDepth 100000 in
set_option maxHeartbeats 1000000 in
theorem RNewShort (k g a b c : Nat) (xs : List Nat) (L : List (Nat × Nat)) (w0 w : World) (Ps : List Pr) (h : Grommet.Own w0 w Ps) (hk : Ps[k]? = some (refQ g xs L)) (hm : mayB (a : Int) (b : Int) (c : Int) = true) (hn : xs.length < 280 + 208 * a + 16 * b + 8 * c) :
    Calls Tryd.prog 13 #[.pointer (some ⟨g, 0, none⟩), .agg #[.int .i64 (a : Int), .int .i64 (b : Int), .int .i64 (c : Int)]] w fun e w' => e = .returned (.tuple #[.pointer none, .int .i64 8]) ∧ w.grownBy w' none := by
  obtain ⟨⟨ad, cap, r0⟩, _⟩ : (∃ ad cap, w.cell? ⟨g, 0, none⟩ = some (.slice ad xs.length cap)) ∧ True := by
    obtain ⟨F, b, vi, vl, h1⟩ := h.get k hk
    obtain ⟨c0, _, _⟩ := h1.cells
    obtain ⟨ad, cap, he, _⟩ := row_slice h1.words
    subst he
    exact ⟨⟨ad, cap, c0⟩, trivial⟩
  have HM := Lib.hid (fun wx => RMay_any (a : Int) (b : Int) (c : Int) wx)
  have HWd := Lib.hid (fun wx => RWords_any (a : Int) (b : Int) (c : Int) wx)
  rw [hm] at HM
  rw [show wordsV (a : Int) (b : Int) (c : Int) = ((280 + 208 * a + 16 * b + 8 * c : Nat) : Int) from by rw [words_pos hm]; omega] at HWd
  unfold gv at HM HWd
  have hlt : (xs.length : Int) < ((280 + 208 * a + 16 * b + 8 * c : Nat) : Int) := by omega
  obtain ⟨N, eN⟩ : ∃ N, 280 + 208 * a + 16 * b + 8 * c = N := ⟨_, rfl⟩
  rw [eN] at HWd hlt
  clear h hk hm hn eN
  generalize xs.length = n at *
  obtain ⟨Y, eY⟩ : ∃ Y, w.heap.size = Y := ⟨_, rfl⟩
  have hG0 : GR Y a b c (w.alloc (.cells (geoCs a b c) 30)) := by rw [← eY]; exact heap_alloc_new w _
  have hG1 := Lib.hid hG0
  have hr1 := Lib.hid ((World.grownBy_alloc w (.cells (geoCs a b c) 30) none).cell r0 (by simp))
  have hg0 := Lib.hid (World.grownBy_alloc w (.cells (geoCs a b c) 30) none)
  unfold geoCs at hr1 hg0 hG1
  clear hG0 r0
  go_enter Tryd.func13, Tryd.ntmps13
  go_wp2_with fail
  refine (HM.out _).mono ?_
  rintro e w1 ⟨rfl, hg1⟩
  have hW := Lib.hid (GW.grown (GW.grown (show GW Y g a b c n ad cap _ from ⟨hG1.out, hr1.out⟩) hg1) (grown_drew (World.grownBy.refl w1 none)))
  have hg2 := Lib.hid (grown_trans hg0.out (grown_drew hg1))
  have k := (GW.grown (show GW Y g a b c n ad cap _ from ⟨hG1.out, hr1.out⟩) hg1).all.2
  obtain ⟨k0, k1, k2, k3⟩ := k
  clear hG1 hg1 hg0 hr1 HM
  go_wp2_with fail
  clear k0 k1 k2 k3
  obtain ⟨hP, k0, k1, k2, k3⟩ := hW.out.all
  go_region_held (fun w' => GW Y g a b c n ad cap w' ∧ w'.cell? ⟨Y, 0, none⟩ = some (.int .i64 (a : Int)) ∧ w'.cell? ⟨Y, 1, none⟩ = some (.int .i64 (b : Int)) ∧ w'.cell? ⟨Y, 2, none⟩ = some (.int .i64 (c : Int)) ∧ w'.cell? ⟨g, 0, none⟩ = some (.slice ad n cap)) ((apply GW.all; assumption)) (first | (go_at_call 38; refine (HWd.out _).mono ?_; rintro e wB ⟨rfl, hgB⟩; obtain ⟨hP, k0, k1, k2, k3⟩ := GW.all (GW.grown (show GW Y g a b c n ad cap _ by assumption) hgB)))
  clear k0 k1 k2 k3 HWd
  have hfin := Lib.hid (grown_trans hg2.out hgB)
  clear hP hW hg2 hgB
  go_wp2
  go_ret2
  exact ⟨rfl, hfin.out⟩
end Go.Proofs.YtdblgnccjpjabaaDoor
end
section
/- The document's New. -/
namespace Go.Proofs.YtdblgnccjpjabaaDoor
open Go.RowKit Go.Grommet

def NewOk (g a b c MI MB : Nat) (w0 : World) (Ps : List Pr) (e : Ending) (w' : World) : Prop :=
  ∃ (XI XB XA kI kB kA : Nat) (Qs : List Pr), e = .returned (.tuple #[.pointer (some ⟨XA, 0, none⟩), .int .i64 0]) ∧ Grommet.Own w0 w' (Ps ++ Qs) ∧ (Ps ++ Qs)[kI]? = some (rmapP XI g MI b) ∧ (Ps ++ Qs)[kB]? = some (rmapP XB g MB c) ∧ (Ps ++ Qs)[kA]? = some (rallocP XA g a b c XI XB) ∧ Ps.length ≤ kI ∧ Ps.length ≤ kB ∧ Ps.length ≤ kA
theorem newFin_IB {g a b c MI MB XI XB XI1 XB1 XA : Nat} {w0 w : World} {Ps : List Pr} (h : Grommet.Own w0 w ((Ps ++ [boxP XI 91 (mapCs g MI b)]) ++ [boxP XB 91 (mapCs g MB c)])) (eI : XI = XI1) (eB : XB = XB1) (eA : w.heap.size = XA) :
    NewOk g a b c MI MB w0 Ps (.returned (.tuple #[.pointer (some ⟨XA, 0, none⟩), .int .i64 0])) (w.alloc (.cells #[.pointer (some ⟨g, 0, none⟩), .int .i64 (a : Int), .int .i64 (b : Int), .int .i64 (c : Int), .pointer (some ⟨XI1, 0, none⟩), .pointer (some ⟨XB1, 0, none⟩)] 93)) := by
  subst eI eB eA
  have h2 := h.addBox 93 #[.pointer (some ⟨g, 0, none⟩), .int .i64 (a : Int), .int .i64 (b : Int), .int .i64 (c : Int), .pointer (some ⟨XI, 0, none⟩), .pointer (some ⟨XB, 0, none⟩)]
  refine ⟨XI, XB, _, Ps.length, Ps.length + 1, Ps.length + 2, [rmapP XI g MI b, rmapP XB g MB c, rallocP w.heap.size g a b c XI XB], rfl, by simpa [rmapP, rallocP] using h2, ?_, ?_, ?_, by omega, by omega, by omega⟩
  · rw [List.getElem?_append_right (Nat.le_refl _), Nat.sub_self]; rfl
  · rw [List.getElem?_append_right (by omega), show Ps.length + 1 - Ps.length = 1 by omega]; rfl
  · rw [List.getElem?_append_right (by omega), show Ps.length + 2 - Ps.length = 2 by omega]; rfl
theorem newFin_BI {g a b c MI MB XI XB XI1 XB1 XA : Nat} {w0 w : World} {Ps : List Pr} (h : Grommet.Own w0 w ((Ps ++ [boxP XB 91 (mapCs g MB c)]) ++ [boxP XI 91 (mapCs g MI b)])) (eI : XI = XI1) (eB : XB = XB1) (eA : w.heap.size = XA) :
    NewOk g a b c MI MB w0 Ps (.returned (.tuple #[.pointer (some ⟨XA, 0, none⟩), .int .i64 0])) (w.alloc (.cells #[.pointer (some ⟨g, 0, none⟩), .int .i64 (a : Int), .int .i64 (b : Int), .int .i64 (c : Int), .pointer (some ⟨XI1, 0, none⟩), .pointer (some ⟨XB1, 0, none⟩)] 93)) := by
  subst eI eB eA
  have h2 := h.addBox 93 #[.pointer (some ⟨g, 0, none⟩), .int .i64 (a : Int), .int .i64 (b : Int), .int .i64 (c : Int), .pointer (some ⟨XI, 0, none⟩), .pointer (some ⟨XB, 0, none⟩)]
  refine ⟨XI, XB, _, Ps.length + 1, Ps.length, Ps.length + 2, [rmapP XB g MB c, rmapP XI g MI b, rallocP w.heap.size g a b c XI XB], rfl, by simpa [rmapP, rallocP] using h2, ?_, ?_, ?_, by omega, by omega, by omega⟩
  · rw [List.getElem?_append_right (by omega), show Ps.length + 1 - Ps.length = 1 by omega]; rfl
  · rw [List.getElem?_append_right (Nat.le_refl _), Nat.sub_self]; rfl
  · rw [List.getElem?_append_right (by omega), show Ps.length + 2 - Ps.length = 2 by omega]; rfl

set_option maxRecDepth 100000 in
set_option maxHeartbeats 1000000 in
theorem RNewYes (k g a b c : Nat) (xs : List Nat) (L : List (Nat × Nat)) (w0 w : World) (Ps : List Pr) (h : Grommet.Own w0 w Ps) (hk : Ps[k]? = some (refQ g xs L)) (hm : mayB (a : Int) (b : Int) (c : Int) = true) (hn : 280 + 208 * a + 16 * b + 8 * c ≤ xs.length) :
    Calls Tryd.prog 13 #[.pointer (some ⟨g, 0, none⟩), .agg #[.int .i64 (a : Int), .int .i64 (b : Int), .int .i64 (c : Int)]] w fun e w' => NewOk g a b c (264 + 208 * a) (272 + 208 * a) w0 Ps e w' := by
  obtain ⟨⟨ad, cap, r0⟩, _⟩ : (∃ ad cap, w.cell? ⟨g, 0, none⟩ = some (.slice ad xs.length cap)) ∧ True := by
    obtain ⟨F, b, vi, vl, h1⟩ := h.get k hk
    obtain ⟨c0, _, _⟩ := h1.cells
    obtain ⟨ad, cap, he, _⟩ := row_slice h1.words
    subst he
    exact ⟨⟨ad, cap, c0⟩, trivial⟩
  have HM := Lib.hid (fun wx => RMay_any (a : Int) (b : Int) (c : Int) wx)
  have HWd := Lib.hid (fun wx => RWords_any (a : Int) (b : Int) (c : Int) wx)
  rw [hm] at HM
  rw [show wordsV (a : Int) (b : Int) (c : Int) = ((280 + 208 * a + 16 * b + 8 * c : Nat) : Int) from by rw [words_pos hm]; omega] at HWd
  have HIm := Lib.hid (fun wx => RInodeMapAt_any (a : Int) (b : Int) (c : Int) wx)
  have HBm := Lib.hid (fun wx => RBlockMapAt_any (a : Int) (b : Int) (c : Int) wx)
  rw [show imapV (a : Int) (b : Int) (c : Int) = ((264 + 208 * a : Nat) : Int) from by unfold imapV; rw [if_pos hm]; omega] at HIm
  rw [show bmapV (a : Int) (b : Int) (c : Int) = ((272 + 208 * a : Nat) : Int) from by unfold bmapV; rw [if_pos hm]; omega] at HBm
  unfold gv at HM HWd HIm HBm
  obtain ⟨MI, eMI⟩ : ∃ N, 264 + 208 * a = N := ⟨_, rfl⟩
  obtain ⟨MB, eMB⟩ : ∃ N, 272 + 208 * a = N := ⟨_, rfl⟩
  rw [eMI] at HIm ⊢
  rw [eMB] at HBm ⊢
  have HO := Lib.hid h
  have hlt : ¬ (xs.length : Int) < ((280 + 208 * a + 16 * b + 8 * c : Nat) : Int) := by omega
  obtain ⟨N, eN⟩ : ∃ N, 280 + 208 * a + 16 * b + 8 * c = N := ⟨_, rfl⟩
  rw [eN] at HWd hlt
  clear h hk hm hn eN eMI eMB
  generalize xs.length = n at *
  obtain ⟨Z, eZ⟩ : ∃ Z, w.heap.size = Z := ⟨_, rfl⟩
  have hG0 : GR Z a b c (w.alloc (.cells (geoCs a b c) 30)) := by rw [← eZ]; exact heap_alloc_new w _
  have hG1 := Lib.hid hG0
  have hr1 := Lib.hid ((World.grownBy_alloc w (.cells (geoCs a b c) 30) none).cell r0 (by simp))
  have hg0 := Lib.hid (World.grownBy_alloc w (.cells (geoCs a b c) 30) none)
  unfold geoCs at hr1 hg0 hG1
  clear hG0 r0
  go_enter Tryd.func13, Tryd.ntmps13
  go_wp2_with fail
  refine (HM.out _).mono ?_
  rintro e w1 ⟨rfl, hg1⟩
  have hW := Lib.hid (GW.grown (GW.grown (show GW Z g a b c n ad cap _ from ⟨hG1.out, hr1.out⟩) hg1) (grown_drew (World.grownBy.refl w1 none)))
  have hg2 := Lib.hid (grown_trans hg0.out (grown_drew hg1))
  have k := (GW.grown (show GW Z g a b c n ad cap _ from ⟨hG1.out, hr1.out⟩) hg1).all.2
  obtain ⟨k0, k1, k2, k3⟩ := k
  clear hG1 hg1 hg0 hr1 HM
  go_wp2_with fail
  clear k0 k1 k2 k3
  obtain ⟨hP, k0, k1, k2, k3⟩ := hW.out.all
  go_region_held (fun w' => GW Z g a b c n ad cap w' ∧ w'.cell? ⟨Z, 0, none⟩ = some (.int .i64 (a : Int)) ∧ w'.cell? ⟨Z, 1, none⟩ = some (.int .i64 (b : Int)) ∧ w'.cell? ⟨Z, 2, none⟩ = some (.int .i64 (c : Int)) ∧ w'.cell? ⟨g, 0, none⟩ = some (.slice ad n cap)) ((apply GW.all; assumption)) (first | (go_at_call 38; refine (HWd.out _).mono ?_; rintro e wB ⟨rfl, hgB⟩; obtain ⟨hP, k0, k1, k2, k3⟩ := GW.all (GW.grown (show GW Z g a b c n ad cap _ by assumption) hgB)))
  clear k0 k1 k2 k3 HWd
  have hG5 := Lib.hid hP.geo
  have hO5 := HO.out.quiet (grown_trans hg2.out hgB)
  have hOr := Lib.hid (hO5.quiet (grown_drew (World.grownBy.refl wB none)))
  clear hW hg2 hgB hO5
  go_wp2_with fail
  clear hP
  refine wp_region_held_drew (S := fun w' => GR Z a b c w') (by kernel_rfl) (hG5.out) (fun hS => ?_)
  refine wpAnyH_take (i := 0) (oi := { dst := some 17, op := Op.move (Operand.tmp 0), type := 36, pos := "ref.go:36", after := #[], guard := none }) (v := ?vny13r5o0n1) rfl (by kernel_rfl) (by kernel_rfl) (by kernel_rfl) (fun _ _ _ h => h) (Or.inl ⟨by rfl, ?hny13r5o0n1⟩) hS ?_
  case hny13r5o0n1 => (intro wx hx; skip; go_simp; (try with_reducible rfl))
  try simp only [Act.put, List.setIfInBounds_toArray, List.set_cons_zero, List.set_cons_succ]
  refine wpAnyH_take (i := 1) (oi := { dst := some 18, op := Op.load 30 (Operand.tmp 3), type := 30, pos := "ref.go:36", after := #[], guard := none }) (v := ?vny13r5o1n2) rfl (by kernel_rfl) (by kernel_rfl) (by kernel_rfl) (fun _ _ _ h => h) (Or.inl ⟨by rfl, ?hny13r5o1n2⟩) hS ?_
  case hny13r5o1n2 => (intro wx hx; obtain ⟨_, x0, x1, x2⟩ := GR.all hx; go_simp; (try with_reducible rfl))
  try simp only [Act.put, List.setIfInBounds_toArray, List.set_cons_zero, List.set_cons_succ]
  refine wpAnyH_take (i := 2) (oi := { dst := some 19, op := Op.move (Operand.tmp 0), type := 36, pos := "ref.go:36", after := #[], guard := none }) (v := ?vny13r5o2n3) rfl (by kernel_rfl) (by kernel_rfl) (by kernel_rfl) (fun _ _ _ h => h) (Or.inl ⟨by rfl, ?hny13r5o2n3⟩) hS ?_
  case hny13r5o2n3 => (intro wx hx; skip; go_simp; (try with_reducible rfl))
  try simp only [Act.put, List.setIfInBounds_toArray, List.set_cons_zero, List.set_cons_succ]
  refine wpAnyH_take (i := 3) (oi := { dst := some 20, op := Op.load 30 (Operand.tmp 3), type := 30, pos := "ref.go:36", after := #[], guard := none }) (v := ?vny13r5o3n4) rfl (by kernel_rfl) (by kernel_rfl) (by kernel_rfl) (fun _ _ _ h => h) (Or.inl ⟨by rfl, ?hny13r5o3n4⟩) hS ?_
  case hny13r5o3n4 => (intro wx hx; obtain ⟨_, x0, x1, x2⟩ := GR.all hx; go_simp; (try with_reducible rfl))
  try simp only [Act.put, List.setIfInBounds_toArray, List.set_cons_zero, List.set_cons_succ]
  refine wpAnyH_take (i := 5) (oi := { dst := some 22, op := Op.fieldAddr 30 (Operand.tmp 3) 1, type := 0, pos := "ref.go:36", after := #[], guard := none }) (v := ?vny13r5o5n5) rfl (by kernel_rfl) (by kernel_rfl) (by kernel_rfl) (fun _ _ _ h => h) (Or.inl ⟨by rfl, ?hny13r5o5n5⟩) hS ?_
  case hny13r5o5n5 => (intro wx hx; skip; go_simp; (try with_reducible rfl))
  try simp only [Act.put, List.setIfInBounds_toArray, List.set_cons_zero, List.set_cons_succ]
  refine wpAnyH_take (i := 6) (oi := { dst := some 23, op := Op.load 3 (Operand.tmp 22), type := 3, pos := "ref.go:36", after := #[{ on := 5, ground := Ground.data }], guard := none }) (v := ?vny13r5o6n6) rfl (by kernel_rfl) (by kernel_rfl) (by kernel_rfl) (fun _ _ _ h => h) (Or.inl ⟨by rfl, ?hny13r5o6n6⟩) hS ?_
  case hny13r5o6n6 => (intro wx hx; obtain ⟨_, x0, x1, x2⟩ := GR.all hx; go_simp; (try with_reducible rfl))
  try simp only [Act.put, List.setIfInBounds_toArray, List.set_cons_zero, List.set_cons_succ]
  refine wpAnyH_take (i := 9) (oi := { dst := some 26, op := Op.move (Operand.tmp 0), type := 36, pos := "ref.go:36", after := #[], guard := none }) (v := ?vny13r5o9n7) rfl (by kernel_rfl) (by kernel_rfl) (by kernel_rfl) (fun _ _ _ h => h) (Or.inl ⟨by rfl, ?hny13r5o9n7⟩) hS ?_
  case hny13r5o9n7 => (intro wx hx; skip; go_simp; (try with_reducible rfl))
  try simp only [Act.put, List.setIfInBounds_toArray, List.set_cons_zero, List.set_cons_succ]
  refine wpAnyH_take (i := 10) (oi := { dst := some 27, op := Op.load 30 (Operand.tmp 3), type := 30, pos := "ref.go:36", after := #[], guard := none }) (v := ?vny13r5o10n8) rfl (by kernel_rfl) (by kernel_rfl) (by kernel_rfl) (fun _ _ _ h => h) (Or.inl ⟨by rfl, ?hny13r5o10n8⟩) hS ?_
  case hny13r5o10n8 => (intro wx hx; obtain ⟨_, x0, x1, x2⟩ := GR.all hx; go_simp; (try with_reducible rfl))
  try simp only [Act.put, List.setIfInBounds_toArray, List.set_cons_zero, List.set_cons_succ]
  refine wpAnyH_take (i := 12) (oi := { dst := some 29, op := Op.fieldAddr 30 (Operand.tmp 3) 2, type := 0, pos := "ref.go:36", after := #[], guard := none }) (v := ?vny13r5o12n9) rfl (by kernel_rfl) (by kernel_rfl) (by kernel_rfl) (fun _ _ _ h => h) (Or.inl ⟨by rfl, ?hny13r5o12n9⟩) hS ?_
  case hny13r5o12n9 => (intro wx hx; skip; go_simp; (try with_reducible rfl))
  try simp only [Act.put, List.setIfInBounds_toArray, List.set_cons_zero, List.set_cons_succ]
  refine wpAnyH_take (i := 13) (oi := { dst := some 30, op := Op.load 3 (Operand.tmp 29), type := 3, pos := "ref.go:36", after := #[{ on := 12, ground := Ground.data }], guard := none }) (v := ?vny13r5o13n10) rfl (by kernel_rfl) (by kernel_rfl) (by kernel_rfl) (fun _ _ _ h => h) (Or.inl ⟨by rfl, ?hny13r5o13n10⟩) hS ?_
  case hny13r5o13n10 => (intro wx hx; obtain ⟨_, x0, x1, x2⟩ := GR.all hx; go_simp; (try with_reducible rfl))
  try simp only [Act.put, List.setIfInBounds_toArray, List.set_cons_zero, List.set_cons_succ]
  refine wpAnyH_ready (rs := [4]) (by kernel_rfl) (by simp) ?_
  refine AllReadyH.cons (o := { dst := some 21, op := Op.call { callee := Callee.value (Operand.func 39), args := #[Operand.tmp 20], argTypes := #[30] }, type := 3, pos := "ref.go:36", after := #[{ on := 3, ground := Ground.data }], guard := none }) rfl (fun K hK => ?_) AllReadyH.nil
  go_simp
  refine (HIm.out _).mono ?_
  rintro e wC ⟨rfl, hgC⟩
  have hS1 := GR.grown hS hgC
  have hOn := Lib.hid (hOr.out.quiet hgC)
  clear hOr hgC
  have hOr := hOn
  clear hOn
  refine hK.out _ _ ?hsny13r5o4n11 (fun hS => ?_)
  case hsny13r5o4n11 => (first | exact hS1 | exact GR.grown hS (World.grownBy_alloc _ _ none))
  clear hK K
  try simp only [Act.put, List.setIfInBounds_toArray, List.set_cons_zero, List.set_cons_succ]
  refine wpAnyH_take (i := 7) (oi := { dst := some 24, op := Op.build 91 #[(0, Operand.tmp 19), (1, Operand.tmp 21), (2, Operand.tmp 23)], type := 91, pos := "ref.go:36", after := #[{ on := 2, ground := Ground.data }, { on := 4, ground := Ground.data }, { on := 6, ground := Ground.data }], guard := none }) (v := ?vny13r5o7n12) rfl (by kernel_rfl) (by kernel_rfl) (by kernel_rfl) (fun _ _ _ h => h) (Or.inl ⟨by rfl, ?hny13r5o7n12⟩) hS ?_
  case hny13r5o7n12 => (intro wx hx; skip; go_simp; (try with_reducible rfl))
  try simp only [Act.put, List.setIfInBounds_toArray, List.set_cons_zero, List.set_cons_succ]
  refine wpAnyH_ready (rs := [8, 11]) (by kernel_rfl) (by simp) ?_
  refine AllReadyH.cons (o := { dst := some 25, op := Op.box 91 (Operand.tmp 24), type := 89, pos := "ref.go:36", after := #[{ on := 7, ground := Ground.data }], guard := none }) rfl (fun K hK => ?_) (AllReadyH.cons (o := { dst := some 28, op := Op.call { callee := Callee.value (Operand.func 40), args := #[Operand.tmp 27], argTypes := #[30] }, type := 3, pos := "ref.go:36", after := #[{ on := 10, ground := Ground.data }, { on := 4, ground := Ground.chain }], guard := none }) rfl (fun K hK => ?_) AllReadyH.nil)
  · go_simp
    have hOn := Lib.hid (hOr.out.addBox 91 (mapCs g MI b))
    have hS1 := GR.grown hS (World.grownBy_alloc _ (.cells (mapCs g MI b) 91) none)
    clear hOr
    have hOr := hOn
    clear hOn
    refine hK.out _ _ ?hsny13r5o8n13 (fun hS => ?_)
    case hsny13r5o8n13 => (first | exact hS1 | exact GR.grown hS (World.grownBy_alloc _ _ none))
    clear hK K
    try simp only [Act.put, List.setIfInBounds_toArray, List.set_cons_zero, List.set_cons_succ]
    refine wpAnyH_ready (rs := [11]) (by kernel_rfl) (by simp) ?_
    refine AllReadyH.cons (o := { dst := some 28, op := Op.call { callee := Callee.value (Operand.func 40), args := #[Operand.tmp 27], argTypes := #[30] }, type := 3, pos := "ref.go:36", after := #[{ on := 10, ground := Ground.data }, { on := 4, ground := Ground.chain }], guard := none }) rfl (fun K hK => ?_) AllReadyH.nil
    go_simp
    refine (HBm.out _).mono ?_
    rintro e wC ⟨rfl, hgC⟩
    have hS1 := GR.grown hS hgC
    have hOn := Lib.hid (hOr.out.quiet hgC)
    clear hOr hgC
    have hOr := hOn
    clear hOn
    refine hK.out _ _ ?hsny13r5o11n14 (fun hS => ?_)
    case hsny13r5o11n14 => (first | exact hS1 | exact GR.grown hS (World.grownBy_alloc _ _ none))
    clear hK K
    try simp only [Act.put, List.setIfInBounds_toArray, List.set_cons_zero, List.set_cons_succ]
    refine wpAnyH_take (i := 14) (oi := { dst := some 31, op := Op.build 91 #[(0, Operand.tmp 26), (1, Operand.tmp 28), (2, Operand.tmp 30)], type := 91, pos := "ref.go:36", after := #[{ on := 9, ground := Ground.data }, { on := 11, ground := Ground.data }, { on := 13, ground := Ground.data }], guard := none }) (v := ?vny13r5o14n15) rfl (by kernel_rfl) (by kernel_rfl) (by kernel_rfl) (fun _ _ _ h => h) (Or.inl ⟨by rfl, ?hny13r5o14n15⟩) hS ?_
    case hny13r5o14n15 => (intro wx hx; skip; go_simp; (try with_reducible rfl))
    try simp only [Act.put, List.setIfInBounds_toArray, List.set_cons_zero, List.set_cons_succ]
    refine wpAnyH_ready (rs := [15]) (by kernel_rfl) (by simp) ?_
    refine AllReadyH.cons (o := { dst := some 32, op := Op.box 91 (Operand.tmp 31), type := 89, pos := "ref.go:36", after := #[{ on := 14, ground := Ground.data }], guard := none }) rfl (fun K hK => ?_) AllReadyH.nil
    go_simp
    have hOn := Lib.hid (hOr.out.addBox 91 (mapCs g MB c))
    have hS1 := GR.grown hS (World.grownBy_alloc _ (.cells (mapCs g MB c) 91) none)
    clear hOr
    have hOr := hOn
    clear hOn
    refine hK.out _ _ ?hsny13r5o15n16 (fun hS => ?_)
    case hsny13r5o15n16 => (first | exact hS1 | exact GR.grown hS (World.grownBy_alloc _ _ none))
    clear hK K
    try simp only [Act.put, List.setIfInBounds_toArray, List.set_cons_zero, List.set_cons_succ]
    refine wpAnyH_take (i := 16) (oi := { dst := some 33, op := Op.build 93 #[(0, Operand.tmp 17), (1, Operand.tmp 18), (2, Operand.tmp 25), (3, Operand.tmp 32)], type := 93, pos := "ref.go:36", after := #[{ on := 0, ground := Ground.data }, { on := 1, ground := Ground.data }, { on := 8, ground := Ground.data }, { on := 15, ground := Ground.data }], guard := none }) (v := ?vny13r5o16n17) rfl (by kernel_rfl) (by kernel_rfl) (by kernel_rfl) (fun _ _ _ h => h) (Or.inl ⟨by rfl, ?hny13r5o16n17⟩) hS ?_
    case hny13r5o16n17 => (intro wx hx; skip; go_simp; (try with_reducible rfl))
    try simp only [Act.put, List.setIfInBounds_toArray, List.set_cons_zero, List.set_cons_succ]
    refine wpAnyH_ready (rs := [17]) (by kernel_rfl) (by simp) ?_
    refine AllReadyH.cons (o := { dst := some 34, op := Op.box 93 (Operand.tmp 33), type := 42, pos := "ref.go:36", after := #[{ on := 16, ground := Ground.data }], guard := none }) rfl (fun K hK => ?_) AllReadyH.nil
    go_simp
    skip
    refine hK.out _ _ ?hsny13r5o17n18 (fun hS => ?_)
    case hsny13r5o17n18 => (first | exact hS1 | exact GR.grown hS (World.grownBy_alloc _ _ none))
    clear hK K
    try simp only [Act.put, List.setIfInBounds_toArray, List.set_cons_zero, List.set_cons_succ]
    refine wpAnyH_take (i := 18) (oi := { dst := some 4, op := Op.assign (Operand.tmp 34), type := 42, pos := "ref.go:36", after := #[{ on := 17, ground := Ground.data }, { on := 11, ground := Ground.chain }, { on := 0, ground := Ground.phase }, { on := 1, ground := Ground.phase }, { on := 2, ground := Ground.phase }, { on := 3, ground := Ground.phase }, { on := 4, ground := Ground.phase }, { on := 5, ground := Ground.phase }, { on := 6, ground := Ground.phase }, { on := 7, ground := Ground.phase }, { on := 8, ground := Ground.phase }, { on := 9, ground := Ground.phase }, { on := 10, ground := Ground.phase }, { on := 11, ground := Ground.phase }, { on := 12, ground := Ground.phase }, { on := 13, ground := Ground.phase }, { on := 14, ground := Ground.phase }, { on := 15, ground := Ground.phase }, { on := 16, ground := Ground.phase }, { on := 17, ground := Ground.phase }], guard := none }) (v := ?vny13r5o18n19) rfl (by kernel_rfl) (by kernel_rfl) (by kernel_rfl) (fun _ _ _ h => h) (Or.inl ⟨by rfl, ?hny13r5o18n19⟩) hS ?_
    case hny13r5o18n19 => (intro wx hx; skip; go_simp; (try with_reducible rfl))
    try simp only [Act.put, List.setIfInBounds_toArray, List.set_cons_zero, List.set_cons_succ]
    refine wpAnyH_take (i := 19) (oi := { dst := some 5, op := Op.assign (Operand.const (Value.int IntKind.i64 0)), type := 39, pos := "ref.go:36", after := #[{ on := 18, ground := Ground.chain }, { on := 0, ground := Ground.phase }, { on := 1, ground := Ground.phase }, { on := 2, ground := Ground.phase }, { on := 3, ground := Ground.phase }, { on := 4, ground := Ground.phase }, { on := 5, ground := Ground.phase }, { on := 6, ground := Ground.phase }, { on := 7, ground := Ground.phase }, { on := 8, ground := Ground.phase }, { on := 9, ground := Ground.phase }, { on := 10, ground := Ground.phase }, { on := 11, ground := Ground.phase }, { on := 12, ground := Ground.phase }, { on := 13, ground := Ground.phase }, { on := 14, ground := Ground.phase }, { on := 15, ground := Ground.phase }, { on := 16, ground := Ground.phase }, { on := 17, ground := Ground.phase }, { on := 18, ground := Ground.phase }], guard := none }) (v := ?vny13r5o19n20) rfl (by kernel_rfl) (by kernel_rfl) (by kernel_rfl) (fun _ _ _ h => h) (Or.inl ⟨by rfl, ?hny13r5o19n20⟩) hS ?_
    case hny13r5o19n20 => (intro wx hx; skip; go_simp; (try with_reducible rfl))
    try simp only [Act.put, List.setIfInBounds_toArray, List.set_cons_zero, List.set_cons_succ]
    refine wpAnyH_done (by kernel_rfl) ?_ _
    clear hS1
    go_wp2
    go_ret2
    first
      | exact newFin_IB hOr.out (by simp) (by simp) (by simp)
      | exact newFin_BI hOr.out (by simp) (by simp) (by simp)
  · go_simp
    refine (HBm.out _).mono ?_
    rintro e wC ⟨rfl, hgC⟩
    have hS1 := GR.grown hS hgC
    have hOn := Lib.hid (hOr.out.quiet hgC)
    clear hOr hgC
    have hOr := hOn
    clear hOn
    refine hK.out _ _ ?hsny13r5o11n21 (fun hS => ?_)
    case hsny13r5o11n21 => (first | exact hS1 | exact GR.grown hS (World.grownBy_alloc _ _ none))
    clear hK K
    try simp only [Act.put, List.setIfInBounds_toArray, List.set_cons_zero, List.set_cons_succ]
    refine wpAnyH_take (i := 14) (oi := { dst := some 31, op := Op.build 91 #[(0, Operand.tmp 26), (1, Operand.tmp 28), (2, Operand.tmp 30)], type := 91, pos := "ref.go:36", after := #[{ on := 9, ground := Ground.data }, { on := 11, ground := Ground.data }, { on := 13, ground := Ground.data }], guard := none }) (v := ?vny13r5o14n22) rfl (by kernel_rfl) (by kernel_rfl) (by kernel_rfl) (fun _ _ _ h => h) (Or.inl ⟨by rfl, ?hny13r5o14n22⟩) hS ?_
    case hny13r5o14n22 => (intro wx hx; skip; go_simp; (try with_reducible rfl))
    try simp only [Act.put, List.setIfInBounds_toArray, List.set_cons_zero, List.set_cons_succ]
    refine wpAnyH_ready (rs := [8, 15]) (by kernel_rfl) (by simp) ?_
    refine AllReadyH.cons (o := { dst := some 25, op := Op.box 91 (Operand.tmp 24), type := 89, pos := "ref.go:36", after := #[{ on := 7, ground := Ground.data }], guard := none }) rfl (fun K hK => ?_) (AllReadyH.cons (o := { dst := some 32, op := Op.box 91 (Operand.tmp 31), type := 89, pos := "ref.go:36", after := #[{ on := 14, ground := Ground.data }], guard := none }) rfl (fun K hK => ?_) AllReadyH.nil)
    · go_simp
      have hOn := Lib.hid (hOr.out.addBox 91 (mapCs g MI b))
      have hS1 := GR.grown hS (World.grownBy_alloc _ (.cells (mapCs g MI b) 91) none)
      clear hOr
      have hOr := hOn
      clear hOn
      refine hK.out _ _ ?hsny13r5o8n23 (fun hS => ?_)
      case hsny13r5o8n23 => (first | exact hS1 | exact GR.grown hS (World.grownBy_alloc _ _ none))
      clear hK K
      try simp only [Act.put, List.setIfInBounds_toArray, List.set_cons_zero, List.set_cons_succ]
      refine wpAnyH_ready (rs := [15]) (by kernel_rfl) (by simp) ?_
      refine AllReadyH.cons (o := { dst := some 32, op := Op.box 91 (Operand.tmp 31), type := 89, pos := "ref.go:36", after := #[{ on := 14, ground := Ground.data }], guard := none }) rfl (fun K hK => ?_) AllReadyH.nil
      go_simp
      have hOn := Lib.hid (hOr.out.addBox 91 (mapCs g MB c))
      have hS1 := GR.grown hS (World.grownBy_alloc _ (.cells (mapCs g MB c) 91) none)
      clear hOr
      have hOr := hOn
      clear hOn
      refine hK.out _ _ ?hsny13r5o15n24 (fun hS => ?_)
      case hsny13r5o15n24 => (first | exact hS1 | exact GR.grown hS (World.grownBy_alloc _ _ none))
      clear hK K
      try simp only [Act.put, List.setIfInBounds_toArray, List.set_cons_zero, List.set_cons_succ]
      refine wpAnyH_take (i := 16) (oi := { dst := some 33, op := Op.build 93 #[(0, Operand.tmp 17), (1, Operand.tmp 18), (2, Operand.tmp 25), (3, Operand.tmp 32)], type := 93, pos := "ref.go:36", after := #[{ on := 0, ground := Ground.data }, { on := 1, ground := Ground.data }, { on := 8, ground := Ground.data }, { on := 15, ground := Ground.data }], guard := none }) (v := ?vny13r5o16n25) rfl (by kernel_rfl) (by kernel_rfl) (by kernel_rfl) (fun _ _ _ h => h) (Or.inl ⟨by rfl, ?hny13r5o16n25⟩) hS ?_
      case hny13r5o16n25 => (intro wx hx; skip; go_simp; (try with_reducible rfl))
      try simp only [Act.put, List.setIfInBounds_toArray, List.set_cons_zero, List.set_cons_succ]
      refine wpAnyH_ready (rs := [17]) (by kernel_rfl) (by simp) ?_
      refine AllReadyH.cons (o := { dst := some 34, op := Op.box 93 (Operand.tmp 33), type := 42, pos := "ref.go:36", after := #[{ on := 16, ground := Ground.data }], guard := none }) rfl (fun K hK => ?_) AllReadyH.nil
      go_simp
      skip
      refine hK.out _ _ ?hsny13r5o17n26 (fun hS => ?_)
      case hsny13r5o17n26 => (first | exact hS1 | exact GR.grown hS (World.grownBy_alloc _ _ none))
      clear hK K
      try simp only [Act.put, List.setIfInBounds_toArray, List.set_cons_zero, List.set_cons_succ]
      refine wpAnyH_take (i := 18) (oi := { dst := some 4, op := Op.assign (Operand.tmp 34), type := 42, pos := "ref.go:36", after := #[{ on := 17, ground := Ground.data }, { on := 11, ground := Ground.chain }, { on := 0, ground := Ground.phase }, { on := 1, ground := Ground.phase }, { on := 2, ground := Ground.phase }, { on := 3, ground := Ground.phase }, { on := 4, ground := Ground.phase }, { on := 5, ground := Ground.phase }, { on := 6, ground := Ground.phase }, { on := 7, ground := Ground.phase }, { on := 8, ground := Ground.phase }, { on := 9, ground := Ground.phase }, { on := 10, ground := Ground.phase }, { on := 11, ground := Ground.phase }, { on := 12, ground := Ground.phase }, { on := 13, ground := Ground.phase }, { on := 14, ground := Ground.phase }, { on := 15, ground := Ground.phase }, { on := 16, ground := Ground.phase }, { on := 17, ground := Ground.phase }], guard := none }) (v := ?vny13r5o18n27) rfl (by kernel_rfl) (by kernel_rfl) (by kernel_rfl) (fun _ _ _ h => h) (Or.inl ⟨by rfl, ?hny13r5o18n27⟩) hS ?_
      case hny13r5o18n27 => (intro wx hx; skip; go_simp; (try with_reducible rfl))
      try simp only [Act.put, List.setIfInBounds_toArray, List.set_cons_zero, List.set_cons_succ]
      refine wpAnyH_take (i := 19) (oi := { dst := some 5, op := Op.assign (Operand.const (Value.int IntKind.i64 0)), type := 39, pos := "ref.go:36", after := #[{ on := 18, ground := Ground.chain }, { on := 0, ground := Ground.phase }, { on := 1, ground := Ground.phase }, { on := 2, ground := Ground.phase }, { on := 3, ground := Ground.phase }, { on := 4, ground := Ground.phase }, { on := 5, ground := Ground.phase }, { on := 6, ground := Ground.phase }, { on := 7, ground := Ground.phase }, { on := 8, ground := Ground.phase }, { on := 9, ground := Ground.phase }, { on := 10, ground := Ground.phase }, { on := 11, ground := Ground.phase }, { on := 12, ground := Ground.phase }, { on := 13, ground := Ground.phase }, { on := 14, ground := Ground.phase }, { on := 15, ground := Ground.phase }, { on := 16, ground := Ground.phase }, { on := 17, ground := Ground.phase }, { on := 18, ground := Ground.phase }], guard := none }) (v := ?vny13r5o19n28) rfl (by kernel_rfl) (by kernel_rfl) (by kernel_rfl) (fun _ _ _ h => h) (Or.inl ⟨by rfl, ?hny13r5o19n28⟩) hS ?_
      case hny13r5o19n28 => (intro wx hx; skip; go_simp; (try with_reducible rfl))
      try simp only [Act.put, List.setIfInBounds_toArray, List.set_cons_zero, List.set_cons_succ]
      refine wpAnyH_done (by kernel_rfl) ?_ _
      clear hS1
      go_wp2
      go_ret2
      first
        | exact newFin_IB hOr.out (by simp) (by simp) (by simp)
        | exact newFin_BI hOr.out (by simp) (by simp) (by simp)
    · go_simp
      have hOn := Lib.hid (hOr.out.addBox 91 (mapCs g MB c))
      have hS1 := GR.grown hS (World.grownBy_alloc _ (.cells (mapCs g MB c) 91) none)
      clear hOr
      have hOr := hOn
      clear hOn
      refine hK.out _ _ ?hsny13r5o15n29 (fun hS => ?_)
      case hsny13r5o15n29 => (first | exact hS1 | exact GR.grown hS (World.grownBy_alloc _ _ none))
      clear hK K
      try simp only [Act.put, List.setIfInBounds_toArray, List.set_cons_zero, List.set_cons_succ]
      refine wpAnyH_ready (rs := [8]) (by kernel_rfl) (by simp) ?_
      refine AllReadyH.cons (o := { dst := some 25, op := Op.box 91 (Operand.tmp 24), type := 89, pos := "ref.go:36", after := #[{ on := 7, ground := Ground.data }], guard := none }) rfl (fun K hK => ?_) AllReadyH.nil
      go_simp
      have hOn := Lib.hid (hOr.out.addBox 91 (mapCs g MI b))
      have hS1 := GR.grown hS (World.grownBy_alloc _ (.cells (mapCs g MI b) 91) none)
      clear hOr
      have hOr := hOn
      clear hOn
      refine hK.out _ _ ?hsny13r5o8n30 (fun hS => ?_)
      case hsny13r5o8n30 => (first | exact hS1 | exact GR.grown hS (World.grownBy_alloc _ _ none))
      clear hK K
      try simp only [Act.put, List.setIfInBounds_toArray, List.set_cons_zero, List.set_cons_succ]
      refine wpAnyH_take (i := 16) (oi := { dst := some 33, op := Op.build 93 #[(0, Operand.tmp 17), (1, Operand.tmp 18), (2, Operand.tmp 25), (3, Operand.tmp 32)], type := 93, pos := "ref.go:36", after := #[{ on := 0, ground := Ground.data }, { on := 1, ground := Ground.data }, { on := 8, ground := Ground.data }, { on := 15, ground := Ground.data }], guard := none }) (v := ?vny13r5o16n31) rfl (by kernel_rfl) (by kernel_rfl) (by kernel_rfl) (fun _ _ _ h => h) (Or.inl ⟨by rfl, ?hny13r5o16n31⟩) hS ?_
      case hny13r5o16n31 => (intro wx hx; skip; go_simp; (try with_reducible rfl))
      try simp only [Act.put, List.setIfInBounds_toArray, List.set_cons_zero, List.set_cons_succ]
      refine wpAnyH_ready (rs := [17]) (by kernel_rfl) (by simp) ?_
      refine AllReadyH.cons (o := { dst := some 34, op := Op.box 93 (Operand.tmp 33), type := 42, pos := "ref.go:36", after := #[{ on := 16, ground := Ground.data }], guard := none }) rfl (fun K hK => ?_) AllReadyH.nil
      go_simp
      skip
      refine hK.out _ _ ?hsny13r5o17n32 (fun hS => ?_)
      case hsny13r5o17n32 => (first | exact hS1 | exact GR.grown hS (World.grownBy_alloc _ _ none))
      clear hK K
      try simp only [Act.put, List.setIfInBounds_toArray, List.set_cons_zero, List.set_cons_succ]
      refine wpAnyH_take (i := 18) (oi := { dst := some 4, op := Op.assign (Operand.tmp 34), type := 42, pos := "ref.go:36", after := #[{ on := 17, ground := Ground.data }, { on := 11, ground := Ground.chain }, { on := 0, ground := Ground.phase }, { on := 1, ground := Ground.phase }, { on := 2, ground := Ground.phase }, { on := 3, ground := Ground.phase }, { on := 4, ground := Ground.phase }, { on := 5, ground := Ground.phase }, { on := 6, ground := Ground.phase }, { on := 7, ground := Ground.phase }, { on := 8, ground := Ground.phase }, { on := 9, ground := Ground.phase }, { on := 10, ground := Ground.phase }, { on := 11, ground := Ground.phase }, { on := 12, ground := Ground.phase }, { on := 13, ground := Ground.phase }, { on := 14, ground := Ground.phase }, { on := 15, ground := Ground.phase }, { on := 16, ground := Ground.phase }, { on := 17, ground := Ground.phase }], guard := none }) (v := ?vny13r5o18n33) rfl (by kernel_rfl) (by kernel_rfl) (by kernel_rfl) (fun _ _ _ h => h) (Or.inl ⟨by rfl, ?hny13r5o18n33⟩) hS ?_
      case hny13r5o18n33 => (intro wx hx; skip; go_simp; (try with_reducible rfl))
      try simp only [Act.put, List.setIfInBounds_toArray, List.set_cons_zero, List.set_cons_succ]
      refine wpAnyH_take (i := 19) (oi := { dst := some 5, op := Op.assign (Operand.const (Value.int IntKind.i64 0)), type := 39, pos := "ref.go:36", after := #[{ on := 18, ground := Ground.chain }, { on := 0, ground := Ground.phase }, { on := 1, ground := Ground.phase }, { on := 2, ground := Ground.phase }, { on := 3, ground := Ground.phase }, { on := 4, ground := Ground.phase }, { on := 5, ground := Ground.phase }, { on := 6, ground := Ground.phase }, { on := 7, ground := Ground.phase }, { on := 8, ground := Ground.phase }, { on := 9, ground := Ground.phase }, { on := 10, ground := Ground.phase }, { on := 11, ground := Ground.phase }, { on := 12, ground := Ground.phase }, { on := 13, ground := Ground.phase }, { on := 14, ground := Ground.phase }, { on := 15, ground := Ground.phase }, { on := 16, ground := Ground.phase }, { on := 17, ground := Ground.phase }, { on := 18, ground := Ground.phase }], guard := none }) (v := ?vny13r5o19n34) rfl (by kernel_rfl) (by kernel_rfl) (by kernel_rfl) (fun _ _ _ h => h) (Or.inl ⟨by rfl, ?hny13r5o19n34⟩) hS ?_
      case hny13r5o19n34 => (intro wx hx; skip; go_simp; (try with_reducible rfl))
      try simp only [Act.put, List.setIfInBounds_toArray, List.set_cons_zero, List.set_cons_succ]
      refine wpAnyH_done (by kernel_rfl) ?_ _
      clear hS1
      go_wp2
      go_ret2
      first
        | exact newFin_IB hOr.out (by simp) (by simp) (by simp)
        | exact newFin_BI hOr.out (by simp) (by simp) (by simp)
end Go.Proofs.YtdblgnccjpjabaaDoor
end
section
/- '[]grommetlaw07.Turn', opened to its cells. -/
namespace Go.Proofs.YtdblgnccjpjabaaDoor
open Go.RowKit Go.Grommet Go.Deep

structure Trn where
  a : Int
  v : Int

def Trn.Ok (x : Trn) : Prop := (Lit.int .u16 x.a).wf = true ∧ (Lit.int .u64 x.v).wf = true

/-- Where a slice of such leads there stand these, 2 cells each. -/
def TrnsIn (w : World) (a : Option Addr) (len : Nat) (L : List Trn) : Prop :=
  L.length = len ∧ (∀ x ∈ L, x.Ok) ∧ ∀ i x, L[i]? = some x → ∃ g o, a = some ⟨g, o, none⟩ ∧ w.cell? ⟨g, o + i * 2, none⟩ = some (.int .u16 x.a) ∧ w.cell? ⟨g, o + i * 2 + 1, none⟩ = some (.int .u64 x.v)

theorem TrnsIn.grown {w w' : World} {a : Option Addr} {len : Nat} {L : List Trn} (h : TrnsIn w a len L) (hg : w.grownBy w' none) : TrnsIn w' a len L := by
  refine ⟨h.1, h.2.1, fun i x hx => ?_⟩
  obtain ⟨g, o, ha, h0, h1⟩ := h.2.2 i x hx
  exact ⟨g, o, ha, hg.cell h0 (by simp), hg.cell h1 (by simp)⟩

theorem TrnsIn.at {w : World} {g o len : Nat} {L : List Trn} (h : TrnsIn w (some ⟨g, o, none⟩) len L) (i : Nat) (x : Trn) (hx : L[i]? = some x) : w.cell? ⟨g, o + i * 2, none⟩ = some (.int .u16 x.a) ∧ w.cell? ⟨g, o + i * 2 + 1, none⟩ = some (.int .u64 x.v) := by
  obtain ⟨g', o', ha, h0, h1⟩ := h.2.2 i x hx
  cases ha
  exact ⟨h0, h1⟩

theorem Trn_list {α : Type} (P : Nat → α → Prop) : ∀ n, (∀ i, i < n → ∃ x, P i x) → ∃ L : List α, L.length = n ∧ ∀ i x, L[i]? = some x → P i x
  | 0, _ => ⟨[], rfl, fun i x h => by simp at h⟩
  | n + 1, h => by
    obtain ⟨L, hl, hL⟩ := Trn_list P n (fun i hi => h i (by omega))
    obtain ⟨y, hy⟩ := h n (by omega)
    refine ⟨L ++ [y], by simp [hl], fun i x hx => ?_⟩
    by_cases hi : i < n
    · rw [List.getElem?_append_left (by omega)] at hx; exact hL i x hx
    · rw [List.getElem?_append_right (by omega)] at hx
      have : i - L.length = 0 := by
        rcases Nat.eq_zero_or_pos (i - L.length) with h0 | h0
        · exact h0
        · rw [List.getElem?_eq_none (by simp; omega)] at hx; cases hx
      rw [this] at hx
      simp at hx
      subst hx
      rwa [show i = n from by omega]

set_option maxRecDepth 100000 in
theorem open_Trns {H : Type} {enc : TypeId × Value → H} {w : World} {spare : Nat → Bool} {held : Bool} {a : Option Addr} {len cap : Nat} {d : DataW H} {p : List MemPlace}
    (h : DataW.Trod enc Tryd.prog w 0 spare held 24 (.slice a len cap) d p) : ∃ L, TrnsIn w a len L := by
  obtain ⟨fuel, hf⟩ := h
  rcases open_slice Tryd.underlying24 hf with ⟨hcs, _⟩ | ⟨x, l, c, m, n, D, Pl, hcs, _, hl, _, hm, _, hi⟩
  · simp [Value.cells] at hcs
    obtain ⟨rfl, rfl, rfl⟩ := hcs
    exact ⟨[], rfl, by simp, fun i x h => by simp at h⟩
  · simp [Value.cells] at hcs
    obtain ⟨rfl, rfl, rfl⟩ := hcs
    have hml : len ≤ m := by rw [hm]; split <;> omega
    have hC : Tryd.prog.cellsOf 33 = 2 := by kernel_rfl
    rw [hC] at hi
    have key : ∀ i, i < len → ∃ y : Trn, y.Ok ∧ w.cell? (x.add (i * 2 + 0)) = some (.int .u16 y.a) ∧ w.cell? (x.add (i * 2 + 1)) = some (.int .u64 y.v) := by
      intro i hil
      obtain ⟨cs', hc, ht⟩ := hi i (by omega)
      obtain ⟨_, hcl, hat⟩ := World.cells?_some hc
      obtain ⟨xs, n', _, _, _, hlen, hfl⟩ := DataW.trod_struct Tryd.underlying33 ht
      match xs, hlen with
      | [y0, y1], _ =>
        have g0 := by simpa using hfl 0 _ rfl
        have g1 := by simpa using hfl 1 _ rfl
        match cs', hcl with
        | [c0, c1], _ =>
          obtain ⟨b0, e0, _, z0⟩ := DataW.trod_int Tryd.underlying25 g0
          have k0 : Tryd.prog.cellsOf 25 = 1 := by kernel_rfl
          simp [k0] at e0
          obtain ⟨b1, e1, _, z1⟩ := DataW.trod_int Tryd.underlying31 g1
          have k1 : Tryd.prog.cellsOf 31 = 1 := by kernel_rfl
          simp [k1] at e1
          subst e0 e1
          refine ⟨⟨b0, b1⟩, ⟨z0, z1⟩, ?_, ?_⟩
          · rw [← Go.Deep.add_add]; exact hat 0 (by omega)
          · rw [← Go.Deep.add_add]; exact hat 1 (by omega)
    obtain ⟨L, hL, hLi⟩ := Trn_list _ len key
    refine ⟨L, hL, ?_, ?_⟩
    · intro y hy
      obtain ⟨i, hi⟩ := List.getElem?_of_mem hy
      exact (hLi i y hi).1
    · intro i y hiy
      obtain ⟨_, h0, h1⟩ := hLi i y hiy
      obtain ⟨b, o, sp⟩ := x
      have hil : i < len := by
        have := (List.getElem?_eq_some_iff.1 hiy).1
        omega
      have hsp : sp = none := by
        obtain ⟨_, _, k0, _⟩ := key 0 (by omega)
        have := World.cell?_spot k0
        simpa [Addr.add] using this
      subst hsp
      refine ⟨b, o, rfl, ?_, ?_⟩
      · rw [Addr.add_lit] at h0; simpa [Nat.add_assoc] using h0
      · rw [Addr.add_lit] at h1; simpa [Nat.add_assoc] using h1
end Go.Proofs.YtdblgnccjpjabaaDoor
end
section
/- 'layout.Geometry' by value, opened. -/
namespace Go.Proofs.YtdblgnccjpjabaaDoor
open Go.RowKit Go.Grommet Go.Deep

set_option maxRecDepth 100000 in
theorem open_geo {H : Type} {enc : TypeId × Value → H} {w : World} {spare : Nat → Bool} {held : Bool} {cs : Array Value} {d : DataW H} {p : List MemPlace}
    (h : DataW.Trod enc Tryd.prog w 0 spare held 23 (.agg cs) d p) : ∃ (a : Int) (b : Int) (c : Int), cs = #[.int .i64 a, .int .i64 b, .int .i64 c] ∧ (Lit.int .i64 a).wf = true ∧ (Lit.int .i64 b).wf = true ∧ (Lit.int .i64 c).wf = true := by
  obtain ⟨fuel, hf⟩ := h
  obtain ⟨xs, n', _, _, hl, hlen, hfl⟩ := DataW.trod_struct Tryd.underlying23 hf
  have hC : Tryd.prog.cellsOf 23 = 3 := by kernel_rfl
  rw [hC] at hl
  have hl' : cs.toList.length = 3 := by simpa [Value.cells] using hl
  match xs, hlen with
  | [y0, y1, y2], _ =>
    have g0 := by simpa [Value.cells] using hfl 0 _ rfl
    have g1 := by simpa [Value.cells] using hfl 1 _ rfl
    have g2 := by simpa [Value.cells] using hfl 2 _ rfl
    obtain ⟨l⟩ := cs
    match l, hl' with
    | [c0, c1, c2], _ =>
      obtain ⟨b0, e0, _, z0⟩ := DataW.trod_int Tryd.underlying3 g0
      have k0 : Tryd.prog.cellsOf 3 = 1 := by kernel_rfl
      simp [k0] at e0
      obtain ⟨b1, e1, _, z1⟩ := DataW.trod_int Tryd.underlying3 g1
      have k1 : Tryd.prog.cellsOf 3 = 1 := by kernel_rfl
      simp [k1] at e1
      obtain ⟨b2, e2, _, z2⟩ := DataW.trod_int Tryd.underlying3 g2
      have k2 : Tryd.prog.cellsOf 3 = 1 := by kernel_rfl
      simp [k2] at e2
      subst e0 e1 e2
      exact ⟨b0, b1, b2, rfl, z0, z1, z2⟩
end Go.Proofs.YtdblgnccjpjabaaDoor
end
