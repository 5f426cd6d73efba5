/- Package layout: the places. -/
import Derived.Test.YtdpkpphjpihhkaaLayB
-- OPTIONAL
namespace Go.Proofs.Ytdpkpphjpihhkaa
open Go.RowKit Go.Grommet

theorem intIs_to {v u : Int} {w w0 : World} (h : v = u) (hg : w0.grownBy w none) (e : Ending) (w' : World) (hi : IntIs v w e w') : IntIs u w0 e w' := ⟨by rw [← h]; exact hi.1, grown_trans hg hi.2⟩

theorem table_tab {l : List Row} {w w' : World} {e : Ending} (h : TableIs l w e w') : ∃ g, e = .returned (.slice (some ⟨g, 0, none⟩) l.length l.length) ∧ Tab w' g l ∧ w.grownBy w' none := h

def placeV (a b c k i : Int) : Int := if mayB a b c = true then startR (placesR a b c) k i 0 else -1

set_option maxHeartbeats 1000000 in
theorem place_any (a b c k i : Int) (w : World) : Calls Try.prog 81 #[gv a b c, .int .u8 k, .int .i64 i] w (IntIs (placeV a b c k i) w) := by
  have HM := Lib.hid (fun wx => May_any a b c wx)
  have HP := Lib.hid (fun wx => places_any a b c wx)
  unfold gv at HM HP ⊢
  by_cases h : mayB a b c = true
  · rw [h] at HM
    have HS := Lib.hid (fun g wx (ht : Tab wx g (placesR a b c)) => start_any g (placesR a b c) 7 k i wx ht rfl (by decide) (places_ok h))
    have e : placeV a b c k i = startR (placesR a b c) k i 0 := by unfold placeV; rw [if_pos h]
    rw [e]
    clear h e
    go_enter Try.func81, Try.ntmps81
    go_wp2_with fail
    refine (HM.out _).mono ?_
    rintro e w1 ⟨rfl, hg1⟩
    have hb : w1.heap[w.heap.size]? = some (.cells #[.int .i64 a, .int .i64 b, .int .i64 c] 30 (0, 0)) := (hg1.block _ (by simp) (by simp)).trans (heap_alloc_new w _)
    have f0 : w1.cell? ⟨w.heap.size, 0, none⟩ = some (.int .i64 a) := by simp [World.cell?, hb]
    have f1 : w1.cell? ⟨w.heap.size, 1, none⟩ = some (.int .i64 b) := by simp [World.cell?, hb]
    have f2 : w1.cell? ⟨w.heap.size, 2, none⟩ = some (.int .i64 c) := by simp [World.cell?, hb]
    have hg := grown_trans (World.grownBy_alloc w _ none) hg1
    clear hg1 hb HM
    go_wp2_with fail
    refine (HP.out _).mono ?_
    rintro e w2 ⟨g, rfl, ht, hg2⟩
    have hg := grown_trans hg hg2
    clear hg2 HP
    go_wp2_with fail
    refine (HS.out g _ ht).mono ?_
    rintro e w3 ⟨rfl, hg3⟩
    have hg := grown_trans hg hg3
    go_wp2
    go_ret
    exact ⟨rfl, hg⟩
  · have h' : mayB a b c = false := by simpa using h
    rw [h'] at HM
    have e : placeV a b c k i = -1 := by unfold placeV; rw [if_neg h]
    rw [e]
    clear h e HP
    go_enter Try.func81, Try.ntmps81
    go_wp2_with fail
    refine (HM.out _).mono ?_
    rintro e w1 ⟨rfl, hg1⟩
    have hg := grown_trans (World.grownBy_alloc w _ none) hg1
    go_wp2
    go_ret
    exact ⟨rfl, hg⟩

set_option maxHeartbeats 400000 in
theorem least_any (w : World) : Calls Try.prog 82 #[] w fun e w' => e = .returned (gv 1 2 2) ∧ w.grownBy w' none := by
  unfold gv
  go_enter Try.func82, Try.ntmps82
  go_wp2
  exact bodyPost_ret (v := .agg #[.int .i64 1, .int .i64 2, .int .i64 2]) (by simp [results, Try.results82, go_sem]) rfl ⟨rfl, World.grownBy_alloc w _ none⟩

set_option maxHeartbeats 1000000 in
theorem SessionAt_any (i : Int) (w : World) : Calls Try.prog 70 #[.int .i64 i] w (IntIs (sessionV i) w) := by
  have e : placeV 1 2 2 2 i = sessionV i := by unfold placeV; rw [if_pos (by decide)]; exact start_session 1 2 2 i
  have HL := Lib.hid (fun wx => least_any wx)
  have HP := Lib.hid (fun wx => place_any 1 2 2 2 i wx)
  rw [e] at HP
  unfold gv at HL HP
  clear e
  go_enter Try.func70, Try.ntmps70
  go_wp2_with fail
  refine (HL.out _).mono ?_
  rintro e w1 ⟨rfl, hg1⟩
  go_wp2_with fail
  refine (HP.out _).mono ?_
  rintro e w2 ⟨rfl, hg2⟩
  go_wp2
  go_ret
  exact ⟨rfl, grown_trans hg1 hg2⟩

set_option maxHeartbeats 1000000 in
theorem inSession_any (i k j v : Int) (w : World) (hv : startR withinR k j 0 = v) (h0 : -1 ≤ v) (h1 : v ≤ 1000) :
    Calls Try.prog 73 #[.int .i64 i, .int .u8 k, .int .i64 j] w (IntIs (if sessionV i < 0 ∨ v < 0 then -1 else sessionV i + v) w) := by
  have HS := Lib.hid (fun wx => SessionAt_any i wx)
  have HW := Lib.hid (fun wx => within_any wx)
  have HT := Lib.hid (fun g wx (ht : Tab wx g withinR) => start_any g withinR 3 k j wx ht rfl (by decide) within_ok)
  rw [hv] at HT
  have hs : -1 ≤ sessionV i ∧ sessionV i ≤ 1000 := by unfold sessionV; split <;> omega
  generalize sessionV i = s at HS hs ⊢
  have hw : IntKind.i64.wrap (s + v) = s + v := IntWalk.i64_in _ ⟨by omega, by omega⟩
  by_cases hs0 : s < 0
  · rw [if_pos (Or.inl hs0)]
    clear hw hs
    go_enter Try.func73, Try.ntmps73
    go_wp2_with fail
    refine (HS.out _).mono ?_
    rintro e w1 ⟨rfl, hg1⟩
    go_wp2_with fail
    refine (HW.out _).mono ?_
    rintro e w2 ⟨g, rfl, ht, hg2⟩
    go_wp2_with fail
    refine (HT.out g _ ht).mono ?_
    rintro e w3 ⟨rfl, hg3⟩
    go_wp2
    go_ret
    exact ⟨rfl, grown_trans hg1 (grown_trans hg2 hg3)⟩
  · by_cases hv0 : v < 0
    · rw [if_pos (Or.inr hv0)]
      clear hw hs
      go_enter Try.func73, Try.ntmps73
      go_wp2_with fail
      refine (HS.out _).mono ?_
      rintro e w1 ⟨rfl, hg1⟩
      go_wp2_with fail
      refine (HW.out _).mono ?_
      rintro e w2 ⟨g, rfl, ht, hg2⟩
      go_wp2_with fail
      refine (HT.out g _ ht).mono ?_
      rintro e w3 ⟨rfl, hg3⟩
      go_wp2
      go_ret
      exact ⟨rfl, grown_trans hg1 (grown_trans hg2 hg3)⟩
    · rw [if_neg (by omega)]
      clear hs
      go_enter Try.func73, Try.ntmps73
      go_wp2_with fail
      refine (HS.out _).mono ?_
      rintro e w1 ⟨rfl, hg1⟩
      go_wp2_with fail
      refine (HW.out _).mono ?_
      rintro e w2 ⟨g, rfl, ht, hg2⟩
      go_wp2_with fail
      refine (HT.out g _ ht).mono ?_
      rintro e w3 ⟨rfl, hg3⟩
      go_wp2
      go_ret
      exact ⟨rfl, grown_trans hg1 (grown_trans hg2 hg3)⟩

set_option maxHeartbeats 1000000 in
theorem SlotAt_any (i k : Int) (w : World) : Calls Try.prog 47 #[.int .i64 i, .int .i64 k] w (IntIs (slotV i k) w) := by
  have H := Lib.hid (fun wx => inSession_any i 3 k _ wx (start_slot k) (by split <;> omega) (by split <;> omega))
  have e : (if sessionV i < 0 ∨ (if 0 ≤ k ∧ k < 4 then 8 + 12 * k else -1) < 0 then -1 else sessionV i + (if 0 ≤ k ∧ k < 4 then 8 + 12 * k else -1)) = slotV i k := by
    unfold sessionV slotV
    by_cases h1 : 0 ≤ i ∧ i < 4 <;> by_cases h2 : 0 ≤ k ∧ k < 4 <;> simp [h1, h2] <;> omega
  rw [e] at H
  clear e
  go_enter Try.func47, Try.ntmps47
  go_wp2_with fail
  refine (H.out _).mono ?_
  rintro e w1 ⟨rfl, hg1⟩
  go_wp2
  go_ret
  exact ⟨rfl, hg1⟩

set_option maxHeartbeats 1000000 in
theorem DescriptorAt_any (i k : Int) (w : World) : Calls Try.prog 71 #[.int .i64 i, .int .i64 k] w (IntIs (descV i k) w) := by
  have H := Lib.hid (fun wx => inSession_any i 4 k _ wx (start_desc k) (by split <;> omega) (by split <;> omega))
  have e : (if sessionV i < 0 ∨ (if 0 ≤ k ∧ k < 4 then 56 + 2 * k else -1) < 0 then -1 else sessionV i + (if 0 ≤ k ∧ k < 4 then 56 + 2 * k else -1)) = descV i k := by
    unfold sessionV descV
    by_cases h1 : 0 ≤ i ∧ i < 4 <;> by_cases h2 : 0 ≤ k ∧ k < 4 <;> simp [h1, h2] <;> omega
  rw [e] at H
  clear e
  go_enter Try.func71, Try.ntmps71
  go_wp2_with fail
  refine (H.out _).mono ?_
  rintro e w1 ⟨rfl, hg1⟩
  go_wp2
  go_ret
  exact ⟨rfl, hg1⟩

end Go.Proofs.Ytdpkpphjpihhkaa
