import Derived.Deep.RegionHeld
import Derived.Test.YtfljlmmiiccooaaGreatDoorPk19
import Derived.Test.YtfljlmmiiccooaaGreatDoorPk13
import Derived.Test.YtfljlmmiiccooaaGreatDoorPk3
import Derived.Test.YtfljlmmiiccooaaGreatDoorPk20
set_option maxRecDepth 100000
set_option maxHeartbeats 4000000
section
namespace Go.Proofs.YtfljlmmiiccooaaGreatDoor
open Go.RowKit Go.Grommet
def NewWords (xs : List Nat) (w : World) (e : Ending) (w' : World) : Prop :=
 ∃ g, e = .returned (.slice (some ⟨g, 0, none⟩) xs.length xs.length) ∧ w'.heap[g]? = some (.cells (xs.map wv).toArray 72 (0, 0)) ∧ w.heap.size ≤ g ∧ w.grownBy w' none
theorem made_wv (n : Nat) : madeCells #[Value.int .u64 0] n = ((List.replicate n 0).map wv).toArray := by
 apply Array.toList_inj.1
 simp [wv, madeCells, Nat.mod_one, List.map_const']
theorem map_wv_get (L : List Nat) (k : Nat) (h : k < L.length) : (L.map wv)[k]? = some (wv (L.getD k 0)) := by simp [h]
theorem words_pos {a b c : Int} (h : mayB a b c = true) : wordsV a b c = 280 + 208 * a + 16 * b + 8 * c := by unfold wordsV; rw [if_pos h]
end Go.Proofs.YtfljlmmiiccooaaGreatDoor
end
section
namespace Go.Proofs.YtfljlmmiiccooaaGreatDoor
open Go.RowKit Go.Grommet
end Go.Proofs.YtfljlmmiiccooaaGreatDoor
end
section
namespace Go.Proofs.YtfljlmmiiccooaaGreatDoor
open Go.RowKit Go.Grommet
theorem RMay_any (a b c : Int) (w : World) : Calls Tryz.prog 44 #[gv a b c] w (BoolIs (mayB a b c) w) := by
 unfold gv
 by_cases h1 : 1 ≤ a
 ·by_cases h2 : a ≤ 4
  ·by_cases h3 : 2 ≤ b
   ·by_cases h4 : b ≤ 64
    ·by_cases h5 : 2 ≤ c
     ·by_cases h6 : c ≤ 512
      ·have hv : mayB a b c = true := by unfold mayB; rw [decide_eq_true_eq]; omega
       rw [hv]
       go_enter Tryz.func44, Tryz.ntmps44
       go_wp2
       go_ret
       exact ⟨rfl, World.grownBy_alloc w _ none⟩
      ·have hv : mayB a b c = false := by unfold mayB; rw [decide_eq_false_iff_not]; omega
       have hd : decide (c ≤ 512) = false := by simpa using h6
       rw [hv]
       go_enter Tryz.func44, Tryz.ntmps44
       go_wp2
       go_ret
       exact ⟨rfl, World.grownBy_alloc w _ none⟩
     ·have hv : mayB a b c = false := by unfold mayB; rw [decide_eq_false_iff_not]; omega
      have hd : decide (2 ≤ c) = false := by simpa using h5
      rw [hv]
      go_enter Tryz.func44, Tryz.ntmps44
      go_wp2
      go_ret
      exact ⟨rfl, World.grownBy_alloc w _ none⟩
    ·have hv : mayB a b c = false := by unfold mayB; rw [decide_eq_false_iff_not]; omega
     have hd : decide (b ≤ 64) = false := by simpa using h4
     rw [hv]
     go_enter Tryz.func44, Tryz.ntmps44
     go_wp2
     go_ret
     exact ⟨rfl, World.grownBy_alloc w _ none⟩
   ·have hv : mayB a b c = false := by unfold mayB; rw [decide_eq_false_iff_not]; omega
    have hd : decide (2 ≤ b) = false := by simpa using h3
    rw [hv]
    go_enter Tryz.func44, Tryz.ntmps44
    go_wp2
    go_ret
    exact ⟨rfl, World.grownBy_alloc w _ none⟩
  ·have hv : mayB a b c = false := by unfold mayB; rw [decide_eq_false_iff_not]; omega
   have hd : decide (a ≤ 4) = false := by simpa using h2
   rw [hv]
   go_enter Tryz.func44, Tryz.ntmps44
   go_wp2
   go_ret
   exact ⟨rfl, World.grownBy_alloc w _ none⟩
 ·have hv : mayB a b c = false := by unfold mayB; rw [decide_eq_false_iff_not]; omega
  have hd : decide (1 ≤ a) = false := by simpa using h1
  rw [hv]
  go_enter Tryz.func44, Tryz.ntmps44
  go_wp2
  go_ret
  exact ⟨rfl, World.grownBy_alloc w _ none⟩
theorem areas_q (w : World) : Calls Tryz.prog 114 #[] w fun e w' => e = .returned (.int .i64 264) ∧ w' = w := by
 go_enter Tryz.func114, Tryz.ntmps114
 go_wp2
 go_ret
 exact ⟨rfl, rfl⟩
theorem maps_any (a b c : Int) (w : World) (h0 : 0 ≤ a) (h1 : a ≤ 1000) : Calls Tryz.prog 85 #[gv a b c] w (IntIs (264 + 208 * a) w) := by
 unfold gv
 have hw1 : IntKind.i64.wrap (208 * a) = 208 * a := IntWalk.i64_in _ ⟨by omega, by omega⟩
 have hw2 : IntKind.i64.wrap (264 + 208 * a) = 264 + 208 * a := IntWalk.i64_in _ ⟨by omega, by omega⟩
 go_enter Tryz.func85, Tryz.ntmps85
 go_wp2_with fail
 go_quiet ((go_at_call 114; exact Calls.quiet_of_same (areas_q _)))
 go_wp2
 go_ret
 exact ⟨rfl, grown_trans (World.grownBy_alloc w _ none) (grown_drewN _ _ _)⟩
theorem RInodeMapAt_any (a b c : Int) (w : World) : Calls Tryz.prog 62 #[gv a b c] w (IntIs (imapV a b c) w) := by
 have H1 := Lib.hid (fun wx => RMay_any a b c wx)
 unfold imapV
 by_cases h : mayB a b c = true
 ·rw [h] at H1
  obtain ⟨q1, q2, q3, q4, q5, q6⟩ := mayB_yes h
  have H2 := Lib.hid (fun wx => maps_any a b c wx (by omega) (by omega))
  unfold gv at H1 H2 ⊢
  have hb : (w.alloc (.cells #[.int .i64 a, .int .i64 b, .int .i64 c] 29)).heap[w.heap.size]? = some (.cells #[.int .i64 a, .int .i64 b, .int .i64 c] 29 (0, 0)) := heap_alloc_new w _
  have hg := World.grownBy_alloc w (.cells #[.int .i64 a, .int .i64 b, .int .i64 c] 29) none
  rw [if_pos h]
  clear h
  go_enter Tryz.func62, Tryz.ntmps62
  go_wp2_with fail
  refine (H1.out _).mono ?_
  rintro e w1 ⟨rfl, hgx⟩
  have hb := (hgx.block _ (lt_of_block hb) (by simp)).trans hb
  have hg := grown_trans hg hgx
  clear hgx H1
  have f0 : w1.cell? ⟨w.heap.size, 0, none⟩ = some (.int .i64 a) := by simp [World.cell?, hb]
  have f1 : w1.cell? ⟨w.heap.size, 1, none⟩ = some (.int .i64 b) := by simp [World.cell?, hb]
  have f2 : w1.cell? ⟨w.heap.size, 2, none⟩ = some (.int .i64 c) := by simp [World.cell?, hb]
  go_wp2_with fail
  refine (H2.out _).mono ?_
  rintro e w2 ⟨rfl, hgx⟩
  have hb := (hgx.block _ (lt_of_block hb) (by simp)).trans hb
  clear f0 f1 f2
  have hg := grown_trans hg hgx
  clear hgx H2
  have f0 : w2.cell? ⟨w.heap.size, 0, none⟩ = some (.int .i64 a) := by simp [World.cell?, hb]
  have f1 : w2.cell? ⟨w.heap.size, 1, none⟩ = some (.int .i64 b) := by simp [World.cell?, hb]
  have f2 : w2.cell? ⟨w.heap.size, 2, none⟩ = some (.int .i64 c) := by simp [World.cell?, hb]
  go_wp2
  go_ret
  exact ⟨rfl, hg⟩
 ·have h' : mayB a b c = false := by simpa using h
  rw [h'] at H1
  rw [if_neg h]
  unfold gv at H1 ⊢
  clear h h'
  have hb : (w.alloc (.cells #[.int .i64 a, .int .i64 b, .int .i64 c] 29)).heap[w.heap.size]? = some (.cells #[.int .i64 a, .int .i64 b, .int .i64 c] 29 (0, 0)) := heap_alloc_new w _
  have hg := World.grownBy_alloc w (.cells #[.int .i64 a, .int .i64 b, .int .i64 c] 29) none
  go_enter Tryz.func62, Tryz.ntmps62
  go_wp2_with fail
  refine (H1.out _).mono ?_
  rintro e w1 ⟨rfl, hgx⟩
  have hb := (hgx.block _ (lt_of_block hb) (by simp)).trans hb
  have hg := grown_trans hg hgx
  clear hgx H1
  have f0 : w1.cell? ⟨w.heap.size, 0, none⟩ = some (.int .i64 a) := by simp [World.cell?, hb]
  have f1 : w1.cell? ⟨w.heap.size, 1, none⟩ = some (.int .i64 b) := by simp [World.cell?, hb]
  have f2 : w1.cell? ⟨w.heap.size, 2, none⟩ = some (.int .i64 c) := by simp [World.cell?, hb]
  go_wp2
  go_ret
  exact ⟨rfl, hg⟩
theorem RBlockMapAt_any (a b c : Int) (w : World) : Calls Tryz.prog 63 #[gv a b c] w (IntIs (bmapV a b c) w) := by
 have H1 := Lib.hid (fun wx => RMay_any a b c wx)
 unfold bmapV
 by_cases h : mayB a b c = true
 ·rw [h] at H1
  obtain ⟨q1, q2, q3, q4, q5, q6⟩ := mayB_yes h
  have H2 := Lib.hid (fun wx => maps_any a b c wx (by omega) (by omega))
  unfold gv at H1 H2 ⊢
  have hb : (w.alloc (.cells #[.int .i64 a, .int .i64 b, .int .i64 c] 29)).heap[w.heap.size]? = some (.cells #[.int .i64 a, .int .i64 b, .int .i64 c] 29 (0, 0)) := heap_alloc_new w _
  have hg := World.grownBy_alloc w (.cells #[.int .i64 a, .int .i64 b, .int .i64 c] 29) none
  rw [if_pos h]
  clear h
  go_enter Tryz.func63, Tryz.ntmps63
  go_wp2_with fail
  refine (H1.out _).mono ?_
  rintro e w1 ⟨rfl, hgx⟩
  have hb := (hgx.block _ (lt_of_block hb) (by simp)).trans hb
  have hg := grown_trans hg hgx
  clear hgx H1
  have f0 : w1.cell? ⟨w.heap.size, 0, none⟩ = some (.int .i64 a) := by simp [World.cell?, hb]
  have f1 : w1.cell? ⟨w.heap.size, 1, none⟩ = some (.int .i64 b) := by simp [World.cell?, hb]
  have f2 : w1.cell? ⟨w.heap.size, 2, none⟩ = some (.int .i64 c) := by simp [World.cell?, hb]
  go_wp2_with fail
  refine (H2.out _).mono ?_
  rintro e w2 ⟨rfl, hgx⟩
  have hb := (hgx.block _ (lt_of_block hb) (by simp)).trans hb
  clear f0 f1 f2
  have hg := grown_trans hg hgx
  clear hgx H2
  have f0 : w2.cell? ⟨w.heap.size, 0, none⟩ = some (.int .i64 a) := by simp [World.cell?, hb]
  have f1 : w2.cell? ⟨w.heap.size, 1, none⟩ = some (.int .i64 b) := by simp [World.cell?, hb]
  have f2 : w2.cell? ⟨w.heap.size, 2, none⟩ = some (.int .i64 c) := by simp [World.cell?, hb]
  go_wp2
  go_ret
  exact ⟨congrArg (fun x => Ending.returned (.int .i64 x)) (by omega), hg⟩
 ·have h' : mayB a b c = false := by simpa using h
  rw [h'] at H1
  rw [if_neg h]
  unfold gv at H1 ⊢
  clear h h'
  have hb : (w.alloc (.cells #[.int .i64 a, .int .i64 b, .int .i64 c] 29)).heap[w.heap.size]? = some (.cells #[.int .i64 a, .int .i64 b, .int .i64 c] 29 (0, 0)) := heap_alloc_new w _
  have hg := World.grownBy_alloc w (.cells #[.int .i64 a, .int .i64 b, .int .i64 c] 29) none
  go_enter Tryz.func63, Tryz.ntmps63
  go_wp2_with fail
  refine (H1.out _).mono ?_
  rintro e w1 ⟨rfl, hgx⟩
  have hb := (hgx.block _ (lt_of_block hb) (by simp)).trans hb
  have hg := grown_trans hg hgx
  clear hgx H1
  have f0 : w1.cell? ⟨w.heap.size, 0, none⟩ = some (.int .i64 a) := by simp [World.cell?, hb]
  have f1 : w1.cell? ⟨w.heap.size, 1, none⟩ = some (.int .i64 b) := by simp [World.cell?, hb]
  have f2 : w1.cell? ⟨w.heap.size, 2, none⟩ = some (.int .i64 c) := by simp [World.cell?, hb]
  go_wp2
  go_ret
  exact ⟨rfl, hg⟩
theorem RInodeAt_any (a b c i : Int) (w : World) : Calls Tryz.prog 64 #[gv a b c, .int .i64 i] w (IntIs (inodeV a b c i) w) := by
 have H1 := Lib.hid (fun wx => RMay_any a b c wx)
 unfold inodeV
 by_cases h : mayB a b c = true
 ·rw [h] at H1
  obtain ⟨q1, q2, q3, q4, q5, q6⟩ := mayB_yes h
  have H2 := Lib.hid (fun wx => maps_any a b c wx (by omega) (by omega))
  unfold gv at H1 H2 ⊢
  have hb : (w.alloc (.cells #[.int .i64 a, .int .i64 b, .int .i64 c] 29)).heap[w.heap.size]? = some (.cells #[.int .i64 a, .int .i64 b, .int .i64 c] 29 (0, 0)) := heap_alloc_new w _
  have hg := World.grownBy_alloc w (.cells #[.int .i64 a, .int .i64 b, .int .i64 c] 29) none
  by_cases h0 : 0 ≤ i
  ·by_cases h1 : i < b
   ·rw [if_pos ⟨h, h0, h1⟩]
    have h0' : ¬ i < 0 := by omega
    have h1' : ¬ b ≤ i := by omega
    clear h
    go_enter Tryz.func64, Tryz.ntmps64
    go_wp2_with fail
    refine (H1.out _).mono ?_
    rintro e w1 ⟨rfl, hgx⟩
    have hb := (hgx.block _ (lt_of_block hb) (by simp)).trans hb
    have hg := grown_trans hg hgx
    clear hgx H1
    have f0 : w1.cell? ⟨w.heap.size, 0, none⟩ = some (.int .i64 a) := by simp [World.cell?, hb]
    have f1 : w1.cell? ⟨w.heap.size, 1, none⟩ = some (.int .i64 b) := by simp [World.cell?, hb]
    have f2 : w1.cell? ⟨w.heap.size, 2, none⟩ = some (.int .i64 c) := by simp [World.cell?, hb]
    go_wp2_with fail
    refine (H2.out _).mono ?_
    rintro e w2 ⟨rfl, hgx⟩
    have hb := (hgx.block _ (lt_of_block hb) (by simp)).trans hb
    clear f0 f1 f2
    have hg := grown_trans hg hgx
    clear hgx H2
    have f0 : w2.cell? ⟨w.heap.size, 0, none⟩ = some (.int .i64 a) := by simp [World.cell?, hb]
    have f1 : w2.cell? ⟨w.heap.size, 1, none⟩ = some (.int .i64 b) := by simp [World.cell?, hb]
    have f2 : w2.cell? ⟨w.heap.size, 2, none⟩ = some (.int .i64 c) := by simp [World.cell?, hb]
    go_wp2
    go_ret
    exact ⟨congrArg (fun x => Ending.returned (.int .i64 x)) (by omega), hg⟩
   ·rw [if_neg (fun q => h1 q.2.2)]
    have h0' : ¬ i < 0 := by omega
    have h1' : b ≤ i := by omega
    clear h
    go_enter Tryz.func64, Tryz.ntmps64
    go_wp2_with fail
    refine (H1.out _).mono ?_
    rintro e w1 ⟨rfl, hgx⟩
    have hb := (hgx.block _ (lt_of_block hb) (by simp)).trans hb
    have hg := grown_trans hg hgx
    clear hgx H1
    have f0 : w1.cell? ⟨w.heap.size, 0, none⟩ = some (.int .i64 a) := by simp [World.cell?, hb]
    have f1 : w1.cell? ⟨w.heap.size, 1, none⟩ = some (.int .i64 b) := by simp [World.cell?, hb]
    have f2 : w1.cell? ⟨w.heap.size, 2, none⟩ = some (.int .i64 c) := by simp [World.cell?, hb]
    go_wp2
    go_ret
    exact ⟨rfl, hg⟩
  ·rw [if_neg (fun q => h0 q.2.1)]
   have h0' : i < 0 := by omega
   clear h
   go_enter Tryz.func64, Tryz.ntmps64
   go_wp2_with fail
   refine (H1.out _).mono ?_
   rintro e w1 ⟨rfl, hgx⟩
   have hb := (hgx.block _ (lt_of_block hb) (by simp)).trans hb
   have hg := grown_trans hg hgx
   clear hgx H1
   have f0 : w1.cell? ⟨w.heap.size, 0, none⟩ = some (.int .i64 a) := by simp [World.cell?, hb]
   have f1 : w1.cell? ⟨w.heap.size, 1, none⟩ = some (.int .i64 b) := by simp [World.cell?, hb]
   have f2 : w1.cell? ⟨w.heap.size, 2, none⟩ = some (.int .i64 c) := by simp [World.cell?, hb]
   go_wp2
   go_ret
   exact ⟨rfl, hg⟩
 ·have h' : mayB a b c = false := by simpa using h
  rw [h'] at H1
  rw [if_neg (fun q => h q.1)]
  unfold gv at H1 ⊢
  clear h h'
  have hb : (w.alloc (.cells #[.int .i64 a, .int .i64 b, .int .i64 c] 29)).heap[w.heap.size]? = some (.cells #[.int .i64 a, .int .i64 b, .int .i64 c] 29 (0, 0)) := heap_alloc_new w _
  have hg := World.grownBy_alloc w (.cells #[.int .i64 a, .int .i64 b, .int .i64 c] 29) none
  go_enter Tryz.func64, Tryz.ntmps64
  go_wp2_with fail
  refine (H1.out _).mono ?_
  rintro e w1 ⟨rfl, hgx⟩
  have hb := (hgx.block _ (lt_of_block hb) (by simp)).trans hb
  have hg := grown_trans hg hgx
  clear hgx H1
  have f0 : w1.cell? ⟨w.heap.size, 0, none⟩ = some (.int .i64 a) := by simp [World.cell?, hb]
  have f1 : w1.cell? ⟨w.heap.size, 1, none⟩ = some (.int .i64 b) := by simp [World.cell?, hb]
  have f2 : w1.cell? ⟨w.heap.size, 2, none⟩ = some (.int .i64 c) := by simp [World.cell?, hb]
  go_wp2
  go_ret
  exact ⟨rfl, hg⟩
theorem RWords_any (a b c : Int) (w : World) : Calls Tryz.prog 61 #[gv a b c] w (IntIs (wordsV a b c) w) := by
 have H1 := Lib.hid (fun wx => RMay_any a b c wx)
 unfold wordsV
 by_cases h : mayB a b c = true
 ·rw [h] at H1
  obtain ⟨q1, q2, q3, q4, q5, q6⟩ := mayB_yes h
  have H2 := Lib.hid (fun wx => maps_any a b c wx (by omega) (by omega))
  unfold gv at H1 H2 ⊢
  have hb : (w.alloc (.cells #[.int .i64 a, .int .i64 b, .int .i64 c] 29)).heap[w.heap.size]? = some (.cells #[.int .i64 a, .int .i64 b, .int .i64 c] 29 (0, 0)) := heap_alloc_new w _
  have hg := World.grownBy_alloc w (.cells #[.int .i64 a, .int .i64 b, .int .i64 c] 29) none
  rw [if_pos h]
  clear h
  go_enter Tryz.func61, Tryz.ntmps61
  go_wp2_with fail
  refine (H1.out _).mono ?_
  rintro e w1 ⟨rfl, hgx⟩
  have hb := (hgx.block _ (lt_of_block hb) (by simp)).trans hb
  have hg := grown_trans hg hgx
  clear hgx H1
  have f0 : w1.cell? ⟨w.heap.size, 0, none⟩ = some (.int .i64 a) := by simp [World.cell?, hb]
  have f1 : w1.cell? ⟨w.heap.size, 1, none⟩ = some (.int .i64 b) := by simp [World.cell?, hb]
  have f2 : w1.cell? ⟨w.heap.size, 2, none⟩ = some (.int .i64 c) := by simp [World.cell?, hb]
  have w1_ : IntKind.i64.wrap (16 * b) = 16 * b := IntWalk.i64_in _ ⟨by omega, by omega⟩
  have w2_ : IntKind.i64.wrap (8 * c) = 8 * c := IntWalk.i64_in _ ⟨by omega, by omega⟩
  have w3_ : IntKind.i64.wrap (264 + 208 * a + 16) = 264 + 208 * a + 16 := IntWalk.i64_in _ ⟨by omega, by omega⟩
  have w4_ : IntKind.i64.wrap (264 + 208 * a + 16 + 16 * b) = 264 + 208 * a + 16 + 16 * b := IntWalk.i64_in _ ⟨by omega, by omega⟩
  have w5_ : IntKind.i64.wrap (264 + 208 * a + 16 + 16 * b + 8 * c) = 264 + 208 * a + 16 + 16 * b + 8 * c := IntWalk.i64_in _ ⟨by omega, by omega⟩
  have he_ : 264 + 208 * a + 16 + 16 * b + 8 * c = 280 + 208 * a + 16 * b + 8 * c := by omega
  have HE := Lib.hid he_
  clear he_
  go_wp2_with fail
  refine wp_region_held_drew (S := fun w' => w'.heap[w.heap.size]? = some (.cells #[.int .i64 a, .int .i64 b, .int .i64 c] 29 (0, 0)) ∧ w.grownBy w' none) (by kernel_rfl) (⟨hb, grown_drew hg⟩) (fun hS => ?_)
  refine wpAnyH_take (i := 0) (oi := ⟨some 6, .load 29 (.tmp 1), 29, "ref.go:103", #[], none⟩) (v := ?vwo61r3o0) rfl (by kernel_rfl) (by kernel_rfl) (by kernel_rfl) (fun _ _ _ h => h) (Or.inl ⟨by rfl, ?hwo61r3o0⟩) hS ?_
  case hwo61r3o0 => (intro wx hx; have hb1 := hx.1; have f0 : wx.cell? ⟨w.heap.size, 0, none⟩ = some (.int .i64 a) := (by simp [World.cell?, hb1]); have f1 : wx.cell? ⟨w.heap.size, 1, none⟩ = some (.int .i64 b) := (by simp [World.cell?, hb1]); have f2 : wx.cell? ⟨w.heap.size, 2, none⟩ = some (.int .i64 c) := (by simp [World.cell?, hb1]); go_simp; (try with_reducible rfl))
  try simp only [Act.put, List.setIfInBounds_toArray, List.set_cons_zero, List.set_cons_succ]
  refine wpAnyH_take (i := 3) (oi := ⟨some 9, .fieldAddr 29 (.tmp 1) 1, 0, "ref.go:103", #[], none⟩) (v := ?vwo61r3o3) rfl (by kernel_rfl) (by kernel_rfl) (by kernel_rfl) (fun _ _ _ h => h) (Or.inl ⟨by rfl, ?hwo61r3o3⟩) hS ?_
  case hwo61r3o3 => (intro wx hx; skip; go_simp; (try with_reducible rfl))
  try simp only [Act.put, List.setIfInBounds_toArray, List.set_cons_zero, List.set_cons_succ]
  refine wpAnyH_take (i := 4) (oi := ⟨some 10, .load 3 (.tmp 9), 3, "ref.go:103", #[⟨3, .data⟩], none⟩) (v := ?vwo61r3o4) rfl (by kernel_rfl) (by kernel_rfl) (by kernel_rfl) (fun _ _ _ h => h) (Or.inl ⟨by rfl, ?hwo61r3o4⟩) hS ?_
  case hwo61r3o4 => (intro wx hx; have hb1 := hx.1; have f0 : wx.cell? ⟨w.heap.size, 0, none⟩ = some (.int .i64 a) := (by simp [World.cell?, hb1]); have f1 : wx.cell? ⟨w.heap.size, 1, none⟩ = some (.int .i64 b) := (by simp [World.cell?, hb1]); have f2 : wx.cell? ⟨w.heap.size, 2, none⟩ = some (.int .i64 c) := (by simp [World.cell?, hb1]); go_simp; (try with_reducible rfl))
  try simp only [Act.put, List.setIfInBounds_toArray, List.set_cons_zero, List.set_cons_succ]
  refine wpAnyH_take (i := 5) (oi := ⟨some 11, .binOp BinOp.mul 3 (Operand.const (Value.int IntKind.i64 16)) (.tmp 10) 3, 3, "ref.go:103", #[⟨4, .data⟩], none⟩) (v := ?vwo61r3o5) rfl (by kernel_rfl) (by kernel_rfl) (by kernel_rfl) (fun _ _ _ h => h) (Or.inl ⟨by rfl, ?hwo61r3o5⟩) hS ?_
  case hwo61r3o5 => (intro wx hx; skip; go_simp; (try with_reducible rfl))
  try simp only [Act.put, List.setIfInBounds_toArray, List.set_cons_zero, List.set_cons_succ]
  refine wpAnyH_take (i := 7) (oi := ⟨some 13, .fieldAddr 29 (.tmp 1) 2, 0, "ref.go:103", #[], none⟩) (v := ?vwo61r3o7) rfl (by kernel_rfl) (by kernel_rfl) (by kernel_rfl) (fun _ _ _ h => h) (Or.inl ⟨by rfl, ?hwo61r3o7⟩) hS ?_
  case hwo61r3o7 => (intro wx hx; skip; go_simp; (try with_reducible rfl))
  try simp only [Act.put, List.setIfInBounds_toArray, List.set_cons_zero, List.set_cons_succ]
  refine wpAnyH_take (i := 8) (oi := ⟨some 14, .load 3 (.tmp 13), 3, "ref.go:103", #[⟨7, .data⟩], none⟩) (v := ?vwo61r3o8) rfl (by kernel_rfl) (by kernel_rfl) (by kernel_rfl) (fun _ _ _ h => h) (Or.inl ⟨by rfl, ?hwo61r3o8⟩) hS ?_
  case hwo61r3o8 => (intro wx hx; have hb1 := hx.1; have f0 : wx.cell? ⟨w.heap.size, 0, none⟩ = some (.int .i64 a) := (by simp [World.cell?, hb1]); have f1 : wx.cell? ⟨w.heap.size, 1, none⟩ = some (.int .i64 b) := (by simp [World.cell?, hb1]); have f2 : wx.cell? ⟨w.heap.size, 2, none⟩ = some (.int .i64 c) := (by simp [World.cell?, hb1]); go_simp; (try with_reducible rfl))
  try simp only [Act.put, List.setIfInBounds_toArray, List.set_cons_zero, List.set_cons_succ]
  refine wpAnyH_take (i := 9) (oi := ⟨some 15, .binOp BinOp.mul 3 (Operand.const (Value.int IntKind.i64 8)) (.tmp 14) 3, 3, "ref.go:103", #[⟨8, .data⟩], none⟩) (v := ?vwo61r3o9) rfl (by kernel_rfl) (by kernel_rfl) (by kernel_rfl) (fun _ _ _ h => h) (Or.inl ⟨by rfl, ?hwo61r3o9⟩) hS ?_
  case hwo61r3o9 => (intro wx hx; skip; go_simp; (try with_reducible rfl))
  try simp only [Act.put, List.setIfInBounds_toArray, List.set_cons_zero, List.set_cons_succ]
  refine wpAnyH_ready (rs := [1]) (by kernel_rfl) (by simp) ?_
  refine AllReadyH.cons (o := ⟨some 7, .call { callee := Callee.value (Operand.func 85), args := #[.tmp 6], argTypes := #[29] }, 3, "ref.go:103", #[⟨0, .data⟩], none⟩) rfl (fun K hK => ?_) AllReadyH.nil
  go_simp
  refine (H2.out _).mono ?_
  rintro e w2 ⟨rfl, hgx⟩
  have hS1 := And.intro ((hgx.block _ (lt_of_block hS.1) (by simp)).trans hS.1) (grown_trans hS.2 hgx)
  refine hK.out _ _ ?hswo61r3o1 (fun hS => ?_)
  case hswo61r3o1 => (exact hS1)
  clear hK K
  try simp only [Act.put, List.setIfInBounds_toArray, List.set_cons_zero, List.set_cons_succ]
  refine wpAnyH_take (i := 2) (oi := ⟨some 8, .binOp BinOp.add 3 (.tmp 7) (Operand.const (Value.int IntKind.i64 16)) 3, 3, "ref.go:103", #[⟨1, .data⟩], none⟩) (v := ?vwo61r3o2) rfl (by kernel_rfl) (by kernel_rfl) (by kernel_rfl) (fun _ _ _ h => h) (Or.inl ⟨by rfl, ?hwo61r3o2⟩) hS ?_
  case hwo61r3o2 => (intro wx hx; skip; go_simp; (try with_reducible rfl))
  try simp only [Act.put, List.setIfInBounds_toArray, List.set_cons_zero, List.set_cons_succ]
  refine wpAnyH_take (i := 6) (oi := ⟨some 12, .binOp BinOp.add 3 (.tmp 8) (.tmp 11) 3, 3, "ref.go:103", #[⟨2, .data⟩, ⟨5, .data⟩], none⟩) (v := ?vwo61r3o6) rfl (by kernel_rfl) (by kernel_rfl) (by kernel_rfl) (fun _ _ _ h => h) (Or.inl ⟨by rfl, ?hwo61r3o6⟩) hS ?_
  case hwo61r3o6 => (intro wx hx; skip; go_simp; (try with_reducible rfl))
  try simp only [Act.put, List.setIfInBounds_toArray, List.set_cons_zero, List.set_cons_succ]
  refine wpAnyH_take (i := 10) (oi := ⟨some 16, .binOp BinOp.add 3 (.tmp 12) (.tmp 15) 3, 3, "ref.go:103", #[⟨6, .data⟩, ⟨9, .data⟩], none⟩) (v := ?vwo61r3o10) rfl (by kernel_rfl) (by kernel_rfl) (by kernel_rfl) (fun _ _ _ h => h) (Or.inl ⟨by rfl, ?hwo61r3o10⟩) hS ?_
  case hwo61r3o10 => (intro wx hx; skip; go_simp; (try with_reducible rfl))
  try simp only [Act.put, List.setIfInBounds_toArray, List.set_cons_zero, List.set_cons_succ]
  refine wpAnyH_take (i := 11) (oi := ⟨some 2, .assign (.tmp 16), 3, "ref.go:103", #[⟨10, .data⟩, ⟨1, .chain⟩, ⟨0, .phase⟩, ⟨1, .phase⟩, ⟨2, .phase⟩, ⟨3, .phase⟩, ⟨4, .phase⟩, ⟨5, .phase⟩, ⟨6, .phase⟩, ⟨7, .phase⟩, ⟨8, .phase⟩, ⟨9, .phase⟩, ⟨10, .phase⟩], none⟩) (v := ?vwo61r3o11) rfl (by kernel_rfl) (by kernel_rfl) (by kernel_rfl) (fun _ _ _ h => h) (Or.inl ⟨by rfl, ?hwo61r3o11⟩) hS ?_
  case hwo61r3o11 => (intro wx hx; skip; go_simp; (try with_reducible rfl))
  try simp only [Act.put, List.setIfInBounds_toArray, List.set_cons_zero, List.set_cons_succ]
  refine wpAnyH_done (by kernel_rfl) ?_ _
  go_wp2
  go_ret
  exact ⟨congrArg (fun x => Ending.returned (.int .i64 x)) HE.out, hS.2⟩
 ·have h' : mayB a b c = false := by simpa using h
  rw [h'] at H1
  rw [if_neg h]
  unfold gv at H1 ⊢
  clear h h'
  have hb : (w.alloc (.cells #[.int .i64 a, .int .i64 b, .int .i64 c] 29)).heap[w.heap.size]? = some (.cells #[.int .i64 a, .int .i64 b, .int .i64 c] 29 (0, 0)) := heap_alloc_new w _
  have hg := World.grownBy_alloc w (.cells #[.int .i64 a, .int .i64 b, .int .i64 c] 29) none
  go_enter Tryz.func61, Tryz.ntmps61
  go_wp2_with fail
  refine (H1.out _).mono ?_
  rintro e w1 ⟨rfl, hgx⟩
  have hb := (hgx.block _ (lt_of_block hb) (by simp)).trans hb
  have hg := grown_trans hg hgx
  clear hgx H1
  have f0 : w1.cell? ⟨w.heap.size, 0, none⟩ = some (.int .i64 a) := by simp [World.cell?, hb]
  have f1 : w1.cell? ⟨w.heap.size, 1, none⟩ = some (.int .i64 b) := by simp [World.cell?, hb]
  have f2 : w1.cell? ⟨w.heap.size, 2, none⟩ = some (.int .i64 c) := by simp [World.cell?, hb]
  go_wp2
  go_ret
  exact ⟨rfl, hg⟩
end Go.Proofs.YtfljlmmiiccooaaGreatDoor
end
section
namespace Go.Proofs.YtfljlmmiiccooaaGreatDoor
open Go.RowKit Go.Grommet
theorem map_set (f : Nat → Nat) (N j v : Nat) : ((List.range N).map f).set j v = (List.range N).map (fun i => if i = j then v else f i) := by
 apply List.ext_getElem?
 intro i
 rw [List.getElem?_set]
 by_cases hi : i < N
 ·by_cases hj : j = i
  ·subst hj; simp [hi]
  ·rw [if_neg hj]
   have : ¬ i = j := fun h => hj h.symm
   simp [hi, this]
 ·by_cases hj : j = i
  ·subst hj; simp [hi]
  ·rw [if_neg hj]; simp [hi]
theorem rep_map (N : Nat) : List.replicate N 0 = (List.range N).map (fun _ => 0) := by simp [List.map_const']
theorem fmt_set (a b c m N : Nat) (h4 : 4 ≤ m) :
  ((((((((List.replicate N 0).set 0 32762617960297063).set 1 a).set 2 b).set 3 c).set m 3).set (m + 8) 1).set (m + 32) 2).set (m + 33) 1 = fmtL a b c m N := by
 rw [rep_map, map_set, map_set, map_set, map_set, map_set, map_set, map_set, map_set]
 unfold fmtL
 apply List.map_congr_left
 intro i _
 unfold fmtAt
 by_cases e0 : i = 0
 ·refine Eq.trans (b := 32762617960297063) ?_ ?_
  ·rw [if_neg (show ¬ i = m + 33 by omega), if_neg (show ¬ i = m + 32 by omega), if_neg (show ¬ i = m + 8 by omega), if_neg (show ¬ i = m by omega), if_neg (show ¬ i = 3 by omega), if_neg (show ¬ i = 2 by omega), if_neg (show ¬ i = 1 by omega), if_pos e0]
  ·rw [if_pos e0]
 by_cases e1 : i = 1
 ·refine Eq.trans (b := a) ?_ ?_
  ·rw [if_neg (show ¬ i = m + 33 by omega), if_neg (show ¬ i = m + 32 by omega), if_neg (show ¬ i = m + 8 by omega), if_neg (show ¬ i = m by omega), if_neg (show ¬ i = 3 by omega), if_neg (show ¬ i = 2 by omega), if_pos e1]
  ·rw [if_neg e0, if_pos e1]
 by_cases e2 : i = 2
 ·refine Eq.trans (b := b) ?_ ?_
  ·rw [if_neg (show ¬ i = m + 33 by omega), if_neg (show ¬ i = m + 32 by omega), if_neg (show ¬ i = m + 8 by omega), if_neg (show ¬ i = m by omega), if_neg (show ¬ i = 3 by omega), if_pos e2]
  ·rw [if_neg e0, if_neg e1, if_pos e2]
 by_cases e3 : i = 3
 ·refine Eq.trans (b := c) ?_ ?_
  ·rw [if_neg (show ¬ i = m + 33 by omega), if_neg (show ¬ i = m + 32 by omega), if_neg (show ¬ i = m + 8 by omega), if_neg (show ¬ i = m by omega), if_pos e3]
  ·rw [if_neg e0, if_neg e1, if_neg e2, if_pos e3]
 by_cases e4 : i = m
 ·refine Eq.trans (b := 3) ?_ ?_
  ·rw [if_neg (show ¬ i = m + 33 by omega), if_neg (show ¬ i = m + 32 by omega), if_neg (show ¬ i = m + 8 by omega), if_pos e4]
  ·rw [if_neg e0, if_neg e1, if_neg e2, if_neg e3, if_pos e4]
 by_cases e5 : i = m + 8
 ·refine Eq.trans (b := 1) ?_ ?_
  ·rw [if_neg (show ¬ i = m + 33 by omega), if_neg (show ¬ i = m + 32 by omega), if_pos e5]
  ·rw [if_neg e0, if_neg e1, if_neg e2, if_neg e3, if_neg e4, if_pos e5]
 by_cases e6 : i = m + 32
 ·refine Eq.trans (b := 2) ?_ ?_
  ·rw [if_neg (show ¬ i = m + 33 by omega), if_pos e6]
  ·rw [if_neg e0, if_neg e1, if_neg e2, if_neg e3, if_neg e4, if_neg e5, if_pos e6]
 by_cases e7 : i = m + 33
 ·refine Eq.trans (b := 1) ?_ ?_
  ·rw [if_pos e7]
  ·rw [if_neg e0, if_neg e1, if_neg e2, if_neg e3, if_neg e4, if_neg e5, if_neg e6, if_pos e7]
 refine Eq.trans (b := 0) ?_ ?_
 ·rw [if_neg e7, if_neg e6, if_neg e5, if_neg e4, if_neg e3, if_neg e2, if_neg e1, if_neg e0]
 ·rw [if_neg e0, if_neg e1, if_neg e2, if_neg e3, if_neg e4, if_neg e5, if_neg e6, if_neg e7]
theorem RFormat_any (a b c : Nat) (w : World) (h : mayB a b c = true) : Calls Tryz.prog 29 #[gv a b c] w (NewWords (fmtL a b c (264 + 208 * a) (280 + 208 * a + 16 * b + 8 * c)) w) := by
 have hq := mayB_yes h
 obtain ⟨i0, hi, hz0, hz1, hz2⟩ := info_parts Tryz.info72
 have HM := Lib.hid (fun wx => RMay_any a b c wx)
 rw [h] at HM
 have HW := Lib.hid (fun wx => RWords_any a b c wx)
 rw [words_pos h, show (280 : Int) + 208 * (a : Int) + 16 * (b : Int) + 8 * (c : Int) = ((280 + 208 * a + 16 * b + 8 * c : Nat) : Int) from by omega] at HW
 obtain ⟨N, HN⟩ : ∃ N, Hid (N = 280 + 208 * a + 16 * b + 8 * c) := ⟨_, Lib.hid rfl⟩
 have hN1 : N ≤ 6232 := by rw [HN.out]; omega
 obtain ⟨m, Hm⟩ : ∃ m, Hid (m = 264 + 208 * a) := ⟨_, Lib.hid rfl⟩
 have HI := Lib.hid (fun wx => RInodeAt_any a b c 1 wx)
 rw [show inodeV a b c 1 = (m : Int) + 32 from by unfold inodeV; rw [if_pos ⟨h, by omega, by omega⟩, Hm.out]; omega] at HI
 have HIM := Lib.hid (fun wx => RInodeMapAt_any a b c wx)
 rw [show imapV a b c = (m : Int) from by unfold imapV; rw [if_pos h, Hm.out]; omega] at HIM
 have HBM := Lib.hid (fun wx => RBlockMapAt_any a b c wx)
 rw [show bmapV a b c = (m : Int) + 8 from by unfold bmapV; rw [if_pos h, Hm.out]; omega] at HBM
 have hfit : m + 34 ≤ N := by rw [Hm.out, HN.out]; omega
 have hm4 : 4 ≤ m := by rw [Hm.out]; omega
 have HF := Lib.hid (fmt_set a b c m N hm4)
 rw [← HN.out] at HW
 rw [← HN.out, ← Hm.out]
 unfold gv at HM HW HI HIM HBM ⊢
 have wa : IntKind.u64.wrap (a : Int) = (a : Int) := IntWalk.u64_in _ ⟨by omega, by omega⟩
 have wb : IntKind.u64.wrap (b : Int) = (b : Int) := IntWalk.u64_in _ ⟨by omega, by omega⟩
 have wc : IntKind.u64.wrap (c : Int) = (c : Int) := IntWalk.u64_in _ ⟨by omega, by omega⟩
 have n0 : (0 : Int) < (N : Int) := by omega
 have n1 : (1 : Int) < (N : Int) := by omega
 have n2 : (2 : Int) < (N : Int) := by omega
 have n3 : (3 : Int) < (N : Int) := by omega
 have m0 : (0 : Int) ≤ (m : Int) := by omega
 have m1 : (m : Int) < (N : Int) := by omega
 have m2 : (m : Int) + 8 < (N : Int) := by omega
 have m3 : (m : Int) + 32 < (N : Int) := by omega
 have m4 : (m : Int) + 33 < (N : Int) := by omega
 have x1 : ((m : Int) + 8).toNat = m + 8 := by omega
 have x2 : ((m : Int) + 32).toNat = m + 32 := by omega
 have x3 : ((m : Int) + 32 + 1).toNat = m + 33 := by omega
 have x4 : ((m : Int) + 33).toNat = m + 33 := by omega
 clear h hq
 go_enter Tryz.func29, Tryz.ntmps29
 go_wp2_with fail
 refine (HM.out _).mono ?_
 rintro e w1 ⟨rfl, hgx⟩
 have hb : w1.heap[w.heap.size]? = some (.cells #[.int .i64 (a : Int), .int .i64 (b : Int), .int .i64 (c : Int)] 29 (0, 0)) := (hgx.block _ (by simp) (by simp)).trans (heap_alloc_new w _)
 have f0 : w1.cell? ⟨w.heap.size, 0, none⟩ = some (.int .i64 a) := by simp [World.cell?, hb]
 have f1 : w1.cell? ⟨w.heap.size, 1, none⟩ = some (.int .i64 b) := by simp [World.cell?, hb]
 have f2 : w1.cell? ⟨w.heap.size, 2, none⟩ = some (.int .i64 c) := by simp [World.cell?, hb]
 have hg := grown_trans (World.grownBy_alloc w _ none) hgx
 clear hgx HM
 go_wp2_with fail
 refine (HW.out _).mono ?_
 rintro e w2 ⟨rfl, hgx⟩
 have hb := (hgx.block _ (lt_of_block hb) (by simp)).trans hb
 have hBl := lt_of_block hb
 have hg := grown_trans hg hgx
 clear hgx HW f0 f1 f2
 go_wp2_with (refine wpList_make_whole _ rfl _ _ 30 rfl 72 i0 (.int .u64 0) Tryz.underlying30 hi hz0 hz1 _ _ _ N rfl rfl rfl ?m1 ?m2 ?_)
 case m1 => rw [hz2]; omega
 case m2 => unfold maxLen; omega
 intro w3 hrow hgx
 try rw [show (Value.int .u64 0).cells = #[Value.int .u64 0] from rfl] at hrow
 rw [made_wv] at hrow
 have hb := (hgx.block _ hBl (by simp)).trans hb
 have hg := grown_trans hg hgx
 obtain ⟨g, Hg⟩ : ∃ g, Hid (g = w2.heap.size) := ⟨_, Lib.hid rfl⟩
 have hwg : w.heap.size < g := by rw [Hg.out]; exact hBl
 rw [← Hg.out] at hrow
 rw [← Hg.out]
 have hne : some w.heap.size ≠ some g := by intro e; injection e with e; omega
 clear hgx hBl
 have hl : (List.replicate N 0).length = N := by simp
 have d0 : w3.cell? ⟨g, 0, none⟩ = some (.int .u64 (((List.replicate N 0).getD 0 0 : Nat) : Int)) := row_cell hrow _ _ (map_wv_get _ _ (by simp only [List.length_replicate]; omega))
 have z0 : w3.frozen? ⟨g, 0, none⟩ = false := row_free hrow _
 have hrow : (w3.setCell ⟨g, 0, none⟩ (.int .u64 32762617960297063)).heap[g]? = _ := row_set hrow 0 (wv 32762617960297063)
 rw [← List.map_set] at hrow
 have hgs := grown_setCell w3 ⟨g, 0, none⟩ (.int .u64 32762617960297063)
 have hb := (hgs.block _ (lt_of_block hb) hne).trans hb
 have hg := grown_new hg hgs (by intro k e; cases e; exact Nat.le_of_lt hwg)
 have f00 : (w3.setCell ⟨g, 0, none⟩ (.int .u64 32762617960297063)).cell? ⟨w.heap.size, 0, none⟩ = some (.int .i64 a) := by simp [World.cell?, hb]
 have f01 : (w3.setCell ⟨g, 0, none⟩ (.int .u64 32762617960297063)).cell? ⟨w.heap.size, 1, none⟩ = some (.int .i64 b) := by simp [World.cell?, hb]
 have f02 : (w3.setCell ⟨g, 0, none⟩ (.int .u64 32762617960297063)).cell? ⟨w.heap.size, 2, none⟩ = some (.int .i64 c) := by simp [World.cell?, hb]
 have d1 : (w3.setCell ⟨g, 0, none⟩ (.int .u64 32762617960297063)).cell? ⟨g, 1, none⟩ = some (.int .u64 ((((List.replicate N 0).set 0 32762617960297063).getD 1 0 : Nat) : Int)) := row_cell hrow _ _ (map_wv_get _ _ (by simp only [List.length_set, List.length_replicate]; omega))
 have z1 : (w3.setCell ⟨g, 0, none⟩ (.int .u64 32762617960297063)).frozen? ⟨g, 1, none⟩ = false := row_free hrow _
 have hrow : ((w3.setCell ⟨g, 0, none⟩ (.int .u64 32762617960297063)).setCell ⟨g, 1, none⟩ (.int .u64 (a : Int))).heap[g]? = _ := row_set hrow 1 (wv a)
 rw [← List.map_set] at hrow
 have hgs := grown_setCell (w3.setCell ⟨g, 0, none⟩ (.int .u64 32762617960297063)) ⟨g, 1, none⟩ (.int .u64 (a : Int))
 have hb := (hgs.block _ (lt_of_block hb) hne).trans hb
 have hg := grown_new hg hgs (by intro k e; cases e; exact Nat.le_of_lt hwg)
 have f10 : ((w3.setCell ⟨g, 0, none⟩ (.int .u64 32762617960297063)).setCell ⟨g, 1, none⟩ (.int .u64 (a : Int))).cell? ⟨w.heap.size, 0, none⟩ = some (.int .i64 a) := by simp [World.cell?, hb]
 have f11 : ((w3.setCell ⟨g, 0, none⟩ (.int .u64 32762617960297063)).setCell ⟨g, 1, none⟩ (.int .u64 (a : Int))).cell? ⟨w.heap.size, 1, none⟩ = some (.int .i64 b) := by simp [World.cell?, hb]
 have f12 : ((w3.setCell ⟨g, 0, none⟩ (.int .u64 32762617960297063)).setCell ⟨g, 1, none⟩ (.int .u64 (a : Int))).cell? ⟨w.heap.size, 2, none⟩ = some (.int .i64 c) := by simp [World.cell?, hb]
 have d2 : ((w3.setCell ⟨g, 0, none⟩ (.int .u64 32762617960297063)).setCell ⟨g, 1, none⟩ (.int .u64 (a : Int))).cell? ⟨g, 2, none⟩ = some (.int .u64 (((((List.replicate N 0).set 0 32762617960297063).set 1 a).getD 2 0 : Nat) : Int)) := row_cell hrow _ _ (map_wv_get _ _ (by simp only [List.length_set, List.length_replicate]; omega))
 have z2 : ((w3.setCell ⟨g, 0, none⟩ (.int .u64 32762617960297063)).setCell ⟨g, 1, none⟩ (.int .u64 (a : Int))).frozen? ⟨g, 2, none⟩ = false := row_free hrow _
 have hrow : (((w3.setCell ⟨g, 0, none⟩ (.int .u64 32762617960297063)).setCell ⟨g, 1, none⟩ (.int .u64 (a : Int))).setCell ⟨g, 2, none⟩ (.int .u64 (b : Int))).heap[g]? = _ := row_set hrow 2 (wv b)
 rw [← List.map_set] at hrow
 have hgs := grown_setCell ((w3.setCell ⟨g, 0, none⟩ (.int .u64 32762617960297063)).setCell ⟨g, 1, none⟩ (.int .u64 (a : Int))) ⟨g, 2, none⟩ (.int .u64 (b : Int))
 have hb := (hgs.block _ (lt_of_block hb) hne).trans hb
 have hg := grown_new hg hgs (by intro k e; cases e; exact Nat.le_of_lt hwg)
 have f20 : (((w3.setCell ⟨g, 0, none⟩ (.int .u64 32762617960297063)).setCell ⟨g, 1, none⟩ (.int .u64 (a : Int))).setCell ⟨g, 2, none⟩ (.int .u64 (b : Int))).cell? ⟨w.heap.size, 0, none⟩ = some (.int .i64 a) := by simp [World.cell?, hb]
 have f21 : (((w3.setCell ⟨g, 0, none⟩ (.int .u64 32762617960297063)).setCell ⟨g, 1, none⟩ (.int .u64 (a : Int))).setCell ⟨g, 2, none⟩ (.int .u64 (b : Int))).cell? ⟨w.heap.size, 1, none⟩ = some (.int .i64 b) := by simp [World.cell?, hb]
 have f22 : (((w3.setCell ⟨g, 0, none⟩ (.int .u64 32762617960297063)).setCell ⟨g, 1, none⟩ (.int .u64 (a : Int))).setCell ⟨g, 2, none⟩ (.int .u64 (b : Int))).cell? ⟨w.heap.size, 2, none⟩ = some (.int .i64 c) := by simp [World.cell?, hb]
 have d3 : (((w3.setCell ⟨g, 0, none⟩ (.int .u64 32762617960297063)).setCell ⟨g, 1, none⟩ (.int .u64 (a : Int))).setCell ⟨g, 2, none⟩ (.int .u64 (b : Int))).cell? ⟨g, 3, none⟩ = some (.int .u64 ((((((List.replicate N 0).set 0 32762617960297063).set 1 a).set 2 b).getD 3 0 : Nat) : Int)) := row_cell hrow _ _ (map_wv_get _ _ (by simp only [List.length_set, List.length_replicate]; omega))
 have z3 : (((w3.setCell ⟨g, 0, none⟩ (.int .u64 32762617960297063)).setCell ⟨g, 1, none⟩ (.int .u64 (a : Int))).setCell ⟨g, 2, none⟩ (.int .u64 (b : Int))).frozen? ⟨g, 3, none⟩ = false := row_free hrow _
 have hrow : ((((w3.setCell ⟨g, 0, none⟩ (.int .u64 32762617960297063)).setCell ⟨g, 1, none⟩ (.int .u64 (a : Int))).setCell ⟨g, 2, none⟩ (.int .u64 (b : Int))).setCell ⟨g, 3, none⟩ (.int .u64 (c : Int))).heap[g]? = _ := row_set hrow 3 (wv c)
 rw [← List.map_set] at hrow
 have hgs := grown_setCell (((w3.setCell ⟨g, 0, none⟩ (.int .u64 32762617960297063)).setCell ⟨g, 1, none⟩ (.int .u64 (a : Int))).setCell ⟨g, 2, none⟩ (.int .u64 (b : Int))) ⟨g, 3, none⟩ (.int .u64 (c : Int))
 have hb := (hgs.block _ (lt_of_block hb) hne).trans hb
 have hg := grown_new hg hgs (by intro k e; cases e; exact Nat.le_of_lt hwg)
 have f30 : ((((w3.setCell ⟨g, 0, none⟩ (.int .u64 32762617960297063)).setCell ⟨g, 1, none⟩ (.int .u64 (a : Int))).setCell ⟨g, 2, none⟩ (.int .u64 (b : Int))).setCell ⟨g, 3, none⟩ (.int .u64 (c : Int))).cell? ⟨w.heap.size, 0, none⟩ = some (.int .i64 a) := by simp [World.cell?, hb]
 have f31 : ((((w3.setCell ⟨g, 0, none⟩ (.int .u64 32762617960297063)).setCell ⟨g, 1, none⟩ (.int .u64 (a : Int))).setCell ⟨g, 2, none⟩ (.int .u64 (b : Int))).setCell ⟨g, 3, none⟩ (.int .u64 (c : Int))).cell? ⟨w.heap.size, 1, none⟩ = some (.int .i64 b) := by simp [World.cell?, hb]
 have f32 : ((((w3.setCell ⟨g, 0, none⟩ (.int .u64 32762617960297063)).setCell ⟨g, 1, none⟩ (.int .u64 (a : Int))).setCell ⟨g, 2, none⟩ (.int .u64 (b : Int))).setCell ⟨g, 3, none⟩ (.int .u64 (c : Int))).cell? ⟨w.heap.size, 2, none⟩ = some (.int .i64 c) := by simp [World.cell?, hb]
 obtain ⟨L0, HL0⟩ : ∃ L0, Hid (L0 = (((((List.replicate N 0).set 0 32762617960297063).set 1 a).set 2 b).set 3 c)) := ⟨_, Lib.hid rfl⟩
 rw [← HL0.out] at hrow
 have hl0 : L0.length = N := by rw [HL0.out]; simp only [List.length_set, List.length_replicate]
 go_wp2_with fail
 refine (HIM.out _).mono ?_
 rintro e w4 ⟨rfl, hgx⟩
 have hb := (hgx.block _ (lt_of_block hb) (by simp)).trans hb
 have hrow := (hgx.block _ (lt_of_block hrow) (by simp)).trans hrow
 have hg := grown_trans hg hgx
 clear hgx
 clear f00 f01 f02 f10 f11 f12 f20 f21 f22 f30 f31 f32
 have d4 : w4.cell? ⟨g, m, none⟩ = some (.int .u64 ((L0.getD m 0 : Nat) : Int)) := row_cell hrow _ _ (map_wv_get _ _ (by omega))
 have z4 : w4.frozen? ⟨g, m, none⟩ = false := row_free hrow _
 have hrow : (w4.setCell ⟨g, m, none⟩ (.int .u64 3)).heap[g]? = _ := row_set hrow m (wv 3)
 rw [← List.map_set] at hrow
 have hgs := grown_setCell w4 ⟨g, m, none⟩ (.int .u64 3)
 have hb := (hgs.block _ (lt_of_block hb) hne).trans hb
 have hg := grown_new hg hgs (by intro k e; cases e; exact Nat.le_of_lt hwg)
 obtain ⟨L4, HL4⟩ : ∃ L, Hid (L = L0.set m 3) := ⟨_, Lib.hid rfl⟩
 rw [← HL4.out] at hrow
 have hl4 : L4.length = N := by rw [HL4.out, List.length_set]; assumption
 clear hgs
 have f40 : (w4.setCell ⟨g, m, none⟩ (.int .u64 3)).cell? ⟨w.heap.size, 0, none⟩ = some (.int .i64 a) := by simp [World.cell?, hb]
 have f41 : (w4.setCell ⟨g, m, none⟩ (.int .u64 3)).cell? ⟨w.heap.size, 1, none⟩ = some (.int .i64 b) := by simp [World.cell?, hb]
 have f42 : (w4.setCell ⟨g, m, none⟩ (.int .u64 3)).cell? ⟨w.heap.size, 2, none⟩ = some (.int .i64 c) := by simp [World.cell?, hb]
 go_wp2_with fail
 refine (HBM.out _).mono ?_
 rintro e w5 ⟨rfl, hgx⟩
 have hb := (hgx.block _ (lt_of_block hb) (by simp)).trans hb
 have hrow := (hgx.block _ (lt_of_block hrow) (by simp)).trans hrow
 have hg := grown_trans hg hgx
 clear hgx
 have d5 : w5.cell? ⟨g, m + 8, none⟩ = some (.int .u64 ((L4.getD (m + 8) 0 : Nat) : Int)) := row_cell hrow _ _ (map_wv_get _ _ (by omega))
 have z5 : w5.frozen? ⟨g, m + 8, none⟩ = false := row_free hrow _
 have hrow : (w5.setCell ⟨g, m + 8, none⟩ (.int .u64 1)).heap[g]? = _ := row_set hrow (m + 8) (wv 1)
 rw [← List.map_set] at hrow
 have hgs := grown_setCell w5 ⟨g, m + 8, none⟩ (.int .u64 1)
 have hb := (hgs.block _ (lt_of_block hb) hne).trans hb
 have hg := grown_new hg hgs (by intro k e; cases e; exact Nat.le_of_lt hwg)
 obtain ⟨L5, HL5⟩ : ∃ L, Hid (L = L4.set (m + 8) 1) := ⟨_, Lib.hid rfl⟩
 rw [← HL5.out] at hrow
 have hl5 : L5.length = N := by rw [HL5.out, List.length_set]; assumption
 clear hgs
 have f50 : (w5.setCell ⟨g, m + 8, none⟩ (.int .u64 1)).cell? ⟨w.heap.size, 0, none⟩ = some (.int .i64 a) := by simp [World.cell?, hb]
 have f51 : (w5.setCell ⟨g, m + 8, none⟩ (.int .u64 1)).cell? ⟨w.heap.size, 1, none⟩ = some (.int .i64 b) := by simp [World.cell?, hb]
 have f52 : (w5.setCell ⟨g, m + 8, none⟩ (.int .u64 1)).cell? ⟨w.heap.size, 2, none⟩ = some (.int .i64 c) := by simp [World.cell?, hb]
 go_wp2_with fail
 refine (HI.out _).mono ?_
 rintro e w6 ⟨rfl, hgx⟩
 have hb := (hgx.block _ (lt_of_block hb) (by simp)).trans hb
 have hrow := (hgx.block _ (lt_of_block hrow) (by simp)).trans hrow
 have hg := grown_trans hg hgx
 clear hgx
 have d6 : w6.cell? ⟨g, m + 32, none⟩ = some (.int .u64 ((L5.getD (m + 32) 0 : Nat) : Int)) := row_cell hrow _ _ (map_wv_get _ _ (by omega))
 have z6 : w6.frozen? ⟨g, m + 32, none⟩ = false := row_free hrow _
 have hrow : (w6.setCell ⟨g, m + 32, none⟩ (.int .u64 2)).heap[g]? = _ := row_set hrow (m + 32) (wv 2)
 rw [← List.map_set] at hrow
 have hgs := grown_setCell w6 ⟨g, m + 32, none⟩ (.int .u64 2)
 have hb := (hgs.block _ (lt_of_block hb) hne).trans hb
 have hg := grown_new hg hgs (by intro k e; cases e; exact Nat.le_of_lt hwg)
 obtain ⟨L6, HL6⟩ : ∃ L, Hid (L = L5.set (m + 32) 2) := ⟨_, Lib.hid rfl⟩
 rw [← HL6.out] at hrow
 have hl6 : L6.length = N := by rw [HL6.out, List.length_set]; assumption
 clear hgs
 have f60 : (w6.setCell ⟨g, m + 32, none⟩ (.int .u64 2)).cell? ⟨w.heap.size, 0, none⟩ = some (.int .i64 a) := by simp [World.cell?, hb]
 have f61 : (w6.setCell ⟨g, m + 32, none⟩ (.int .u64 2)).cell? ⟨w.heap.size, 1, none⟩ = some (.int .i64 b) := by simp [World.cell?, hb]
 have f62 : (w6.setCell ⟨g, m + 32, none⟩ (.int .u64 2)).cell? ⟨w.heap.size, 2, none⟩ = some (.int .i64 c) := by simp [World.cell?, hb]
 go_wp2_with fail
 refine (HI.out _).mono ?_
 rintro e w7 ⟨rfl, hgx⟩
 have hb := (hgx.block _ (lt_of_block hb) (by simp)).trans hb
 have hrow := (hgx.block _ (lt_of_block hrow) (by simp)).trans hrow
 have hg := grown_trans hg hgx
 clear hgx
 have d7 : w7.cell? ⟨g, m + 33, none⟩ = some (.int .u64 ((L6.getD (m + 33) 0 : Nat) : Int)) := row_cell hrow _ _ (map_wv_get _ _ (by omega))
 have z7 : w7.frozen? ⟨g, m + 33, none⟩ = false := row_free hrow _
 have hrow : (w7.setCell ⟨g, m + 33, none⟩ (.int .u64 1)).heap[g]? = _ := row_set hrow (m + 33) (wv 1)
 rw [← List.map_set] at hrow
 have hgs := grown_setCell w7 ⟨g, m + 33, none⟩ (.int .u64 1)
 have hb := (hgs.block _ (lt_of_block hb) hne).trans hb
 have hg := grown_new hg hgs (by intro k e; cases e; exact Nat.le_of_lt hwg)
 obtain ⟨L7, HL7⟩ : ∃ L, Hid (L = L6.set (m + 33) 1) := ⟨_, Lib.hid rfl⟩
 rw [← HL7.out] at hrow
 have hl7 : L7.length = N := by rw [HL7.out, List.length_set]; assumption
 clear hgs
 have f70 : (w7.setCell ⟨g, m + 33, none⟩ (.int .u64 1)).cell? ⟨w.heap.size, 0, none⟩ = some (.int .i64 a) := by simp [World.cell?, hb]
 have f71 : (w7.setCell ⟨g, m + 33, none⟩ (.int .u64 1)).cell? ⟨w.heap.size, 1, none⟩ = some (.int .i64 b) := by simp [World.cell?, hb]
 have f72 : (w7.setCell ⟨g, m + 33, none⟩ (.int .u64 1)).cell? ⟨w.heap.size, 2, none⟩ = some (.int .i64 c) := by simp [World.cell?, hb]
 have he : L7 = fmtL a b c m N := by rw [HL7.out, HL6.out, HL5.out, HL4.out, HL0.out]; exact HF.out
 rw [he] at hrow
 have hfin : NewWords (fmtL a b c m N) w (.returned (.slice (some ⟨g, 0, none⟩) N N)) (w7.setCell ⟨g, m + 33, none⟩ (.int .u64 1)) := ⟨g, by rw [length_fmtL], hrow, Nat.le_of_lt hwg, hg⟩
 have HFin := Lib.hid hfin
 clear hfin hrow hb hg he
 go_wp2
 go_ret
 exact HFin.out
end Go.Proofs.YtfljlmmiiccooaaGreatDoor
end
