/- Package layout: the places. -/
import Derived.Test.YtmoddhfemejekaaLayB
-- OPTIONAL
namespace Go.Proofs.Ytmoddhfemejekaa
open Go.RowKit Go.Grommet

theorem intIs_to {v u : Int} {w w0 : World} (h : v = u) (hg : w0.grownBy w none) (e : Ending) (w' : World) (hi : IntIs v w e w') : IntIs u w0 e w' := ⟨by rw [← h]; exact hi.1, grown_trans hg hi.2⟩

theorem table_tab {l : List Row} {w w' : World} {e : Ending} (h : TableIs l w e w') : ∃ g, e = .returned (.slice (some ⟨g, 0, none⟩) l.length l.length) ∧ Tab w' g l ∧ w.grownBy w' none := h

def placeV (a b c k i : Int) : Int := if mayB a b c = true then startR (placesR a b c) k i 0 else -1

set_option maxHeartbeats 1000000 in
theorem Words_any (a b c : Int) (w : World) : Calls Try.prog 46 #[gv a b c] w (IntIs (wordsV a b c) w) := by
  have HM := Lib.hid (fun wx => May_any a b c wx)
  have HP := Lib.hid (fun wx => places_any a b c wx)
  unfold gv at HM HP ⊢
  by_cases h : mayB a b c = true
  · rw [h] at HM
    have HS := Lib.hid (fun g wx (ht : Tab wx g (placesR a b c)) => sum_any g (placesR a b c) 7 7 wx ht (Nat.le_refl _) (show (7 : Nat) ≤ 10 by decide) (places_ok h))
    have e : wordsV a b c = sumR ((placesR a b c).take 7) := by unfold wordsV; rw [if_pos h]; exact (sum_places a b c).symm
    rw [e]
    clear h e
    go_enter Try.func46, Try.ntmps46
    go_wp2_with fail
    refine (HM.out _).mono ?_
    rintro e w1 ⟨rfl, hg1⟩
    have hb : w1.heap[w.heap.size]? = some (.cells #[.int .i64 a, .int .i64 b, .int .i64 c] 23 (0, 0)) := (hg1.block _ (by simp) (by simp)).trans (heap_alloc_new w _)
    have f0 : w1.cell? ⟨w.heap.size, 0, none⟩ = some (.int .i64 a) := by simp [World.cell?, hb]
    have f1 : w1.cell? ⟨w.heap.size, 1, none⟩ = some (.int .i64 b) := by simp [World.cell?, hb]
    have f2 : w1.cell? ⟨w.heap.size, 2, none⟩ = some (.int .i64 c) := by simp [World.cell?, hb]
    have hg := grown_trans (World.grownBy_alloc w _ none) hg1
    clear hg1 hb HM
    go_wp2_with fail
    refine (HP.out _).mono ?_
    rintro e w2 ⟨g, rfl, ht, hg2⟩
    have hg := grown_trans hg hg2
    clear hg2 HP
    go_wp2_with fail
    refine (HS.out g _ ht).mono ?_
    rintro e w3 ⟨rfl, hg3⟩
    have hg := grown_trans hg hg3
    go_wp2
    go_ret
    exact ⟨rfl, hg⟩
  · have h' : mayB a b c = false := by simpa using h
    rw [h'] at HM
    have e : wordsV a b c = 0 := by unfold wordsV; rw [if_neg h]
    rw [e]
    clear h e HP
    go_enter Try.func46, Try.ntmps46
    go_wp2_with fail
    refine (HM.out _).mono ?_
    rintro e w1 ⟨rfl, hg1⟩
    have hg := grown_trans (World.grownBy_alloc w _ none) hg1
    go_wp2
    go_ret
    exact ⟨rfl, hg⟩

set_option maxHeartbeats 1000000 in
theorem place_any (a b c k i : Int) (w : World) : Calls Try.prog 39 #[gv a b c, .int .u8 k, .int .i64 i] w (IntIs (placeV a b c k i) w) := by
  have HM := Lib.hid (fun wx => May_any a b c wx)
  have HP := Lib.hid (fun wx => places_any a b c wx)
  unfold gv at HM HP ⊢
  by_cases h : mayB a b c = true
  · rw [h] at HM
    have HS := Lib.hid (fun g wx (ht : Tab wx g (placesR a b c)) => start_any g (placesR a b c) 7 k i wx ht rfl (by decide) (places_ok h))
    have e : placeV a b c k i = startR (placesR a b c) k i 0 := by unfold placeV; rw [if_pos h]
    rw [e]
    clear h e
    go_enter Try.func39, Try.ntmps39
    go_wp2_with fail
    refine (HM.out _).mono ?_
    rintro e w1 ⟨rfl, hg1⟩
    have hb : w1.heap[w.heap.size]? = some (.cells #[.int .i64 a, .int .i64 b, .int .i64 c] 23 (0, 0)) := (hg1.block _ (by simp) (by simp)).trans (heap_alloc_new w _)
    have f0 : w1.cell? ⟨w.heap.size, 0, none⟩ = some (.int .i64 a) := by simp [World.cell?, hb]
    have f1 : w1.cell? ⟨w.heap.size, 1, none⟩ = some (.int .i64 b) := by simp [World.cell?, hb]
    have f2 : w1.cell? ⟨w.heap.size, 2, none⟩ = some (.int .i64 c) := by simp [World.cell?, hb]
    have hg := grown_trans (World.grownBy_alloc w _ none) hg1
    clear hg1 hb HM
    go_wp2_with fail
    refine (HP.out _).mono ?_
    rintro e w2 ⟨g, rfl, ht, hg2⟩
    have hg := grown_trans hg hg2
    clear hg2 HP
    go_wp2_with fail
    refine (HS.out g _ ht).mono ?_
    rintro e w3 ⟨rfl, hg3⟩
    have hg := grown_trans hg hg3
    go_wp2
    go_ret
    exact ⟨rfl, hg⟩
  · have h' : mayB a b c = false := by simpa using h
    rw [h'] at HM
    have e : placeV a b c k i = -1 := by unfold placeV; rw [if_neg h]
    rw [e]
    clear h e HP
    go_enter Try.func39, Try.ntmps39
    go_wp2_with fail
    refine (HM.out _).mono ?_
    rintro e w1 ⟨rfl, hg1⟩
    have hg := grown_trans (World.grownBy_alloc w _ none) hg1
    go_wp2
    go_ret
    exact ⟨rfl, hg⟩

set_option maxHeartbeats 1000000 in
theorem InodeAt_any (a b c i : Int) (w : World) : Calls Try.prog 24 #[gv a b c, .int .i64 i] w (IntIs (inodeV a b c i) w) := by
  have H := Lib.hid (fun wx => place_any a b c 8 i wx)
  have e : placeV a b c 8 i = inodeV a b c i := by
    unfold placeV inodeV
    rw [start_inode]
    try (by_cases h : mayB a b c = true <;> simp [h])
  rw [e] at H
  unfold gv at H ⊢
  clear e
  go_enter Try.func24, Try.ntmps24
  go_wp2_with fail
  refine (H.out _).mono ?_
  rintro e w1 ⟨rfl, hg1⟩
  go_wp2
  go_ret
  exact ⟨rfl, grown_trans (World.grownBy_alloc w _ none) hg1⟩

end Go.Proofs.Ytmoddhfemejekaa
