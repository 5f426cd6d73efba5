/- Texts of ours, packed. -/
import Derived.Deep.RegionHeld
import Derived.Test.YtpdofdloclmbdaaGreatPk12
import Derived.Test.YtpdofdloclmbdaaGreatPk4
import Derived.Test.YtpdofdloclmbdaaGreatPk10
section
/- Package layout: to what a word belongs. -/
-- OPTIONAL
namespace Go.Proofs.YtpdofdloclmbdaaGreat
open Go.RowKit Go.Grommet

def WhereIs (v : Int × Int × Int × Int) (w : World) (e : Ending) (w' : World) : Prop := e = .returned (.tuple #[.int .u8 v.1, .int .i64 v.2.1, .int .i64 v.2.2.1, .int .i64 v.2.2.2]) ∧ w.grownBy w' none

set_option maxHeartbeats 1000000 in
theorem find_neg (g : Nat) (n : Nat) (x : Int) (w : World) (hx : x < 0) :
    Calls Tryz.prog 122 #[.slice (some ⟨g, 0, none⟩) n n, .int .i64 x] w (FindIs (0, 0, 0) w) := by
  go_enter Tryz.func122, Tryz.ntmps122
  go_wp2
  go_ret3
  exact ⟨rfl, World.grownBy.refl _ _⟩

theorem findR_rest (l : List Row) (x : Int) (hx : 0 ≤ x) (h : ∀ r ∈ l, r.ok) : 0 ≤ (findR l x).2.2 ∧ (findR l x).2.2 ≤ 1000 := by
  induction l generalizing x with
  | nil => simp [findR]
  | cons r t ih =>
    rw [findR]
    split
    · obtain ⟨_, _, _, _, h4, h5⟩ := h r (by simp)
      have a := Int.emod_nonneg x (show r.size ≠ 0 by omega)
      have b := Int.emod_lt_of_pos x (show 0 < r.size by omega)
      exact ⟨a, by dsimp only; omega⟩
    · exact ih _ (by omega) (fun y hy => h y (by simp [hy]))

set_option maxHeartbeats 2000000 in
theorem Where_any (a b c x : Int) (w : World) (hx1 : x ≤ 9223372036854775807) : Calls Tryz.prog 108 #[gv a b c, .int .i64 x] w (WhereIs (whereV a b c x) w) := by
  have H1 := Lib.hid (fun wx => May_any a b c wx)
  have HP := Lib.hid (fun wx => places_any a b c wx)
  unfold gv at H1 HP ⊢
  by_cases h : mayB a b c = true
  · rw [h] at H1
    by_cases hx : 0 ≤ x
    · have HF := Lib.hid (fun g wx (ht : Tab wx g (placesR a b c)) => find_any g (placesR a b c) 7 x wx ht rfl (by decide) (places_ok h) hx hx1)
      have hr := findR_rest (placesR a b c) x hx (places_ok h)
      have hv : whereV a b c x = if (findR (placesR a b c) x).1 = 2 then ((findR withinR (findR (placesR a b c) x).2.2).1, (findR (placesR a b c) x).2.1, (findR withinR (findR (placesR a b c) x).2.2).2.1, (findR withinR (findR (placesR a b c) x).2.2).2.2) else ((findR (placesR a b c) x).1, (findR (placesR a b c) x).2.1, 0, (findR (placesR a b c) x).2.2) := by
        unfold whereV; rw [if_pos ⟨h, hx⟩]
      generalize findR (placesR a b c) x = F at HF hr hv
      obtain ⟨k, i, r⟩ := F
      dsimp only at hr hv
      have HT := Lib.hid (fun wx => within_any wx)
      have HF2 := Lib.hid (fun g wx (ht : Tab wx g withinR) => find_any g withinR 3 r wx ht rfl (by decide) within_ok hr.1 (by omega))
      have Hx1 := Lib.hid hx1
      by_cases hk : k = 2
      · rw [if_pos hk] at hv
        subst hk
        generalize findR withinR r = G at HF2 hv
        obtain ⟨k2, j, r2⟩ := G
        dsimp only at hv
        have HV := Lib.hid hv
        clear hv h hx1 hr
        go_enter Tryz.func108, Tryz.ntmps108
        go_wp2_with fail
        refine (H1.out _).mono ?_
        rintro e w1 ⟨rfl, hg1⟩
        have hb : w1.heap[w.heap.size]? = some (.cells #[.int .i64 a, .int .i64 b, .int .i64 c] 26 (0, 0)) := (hg1.block _ (by simp) (by simp)).trans (heap_alloc_new w _)
        have f0 : w1.cell? ⟨w.heap.size, 0, none⟩ = some (.int .i64 a) := by simp [World.cell?, hb]
        have f1 : w1.cell? ⟨w.heap.size, 1, none⟩ = some (.int .i64 b) := by simp [World.cell?, hb]
        have f2 : w1.cell? ⟨w.heap.size, 2, none⟩ = some (.int .i64 c) := by simp [World.cell?, hb]
        have hg := grown_trans (World.grownBy_alloc w _ none) hg1
        clear hg1 hb H1
        go_wp2_with fail
        refine (HP.out _).mono ?_
        rintro e w2 ⟨g, rfl, ht, hg2⟩
        have hg := grown_trans hg hg2
        clear hg2 HP f0 f1 f2
        go_wp2_with fail
        refine (HF.out g _ ht).mono ?_
        rintro e w3 ⟨rfl, hg3⟩
        have hg := grown_trans hg hg3
        clear hg3 HF ht
        go_wp2_with fail
        refine (HT.out _).mono ?_
        rintro e w4 ⟨g, rfl, ht, hg4⟩
        have hg := grown_trans hg hg4
        clear hg4 HT
        go_wp2_with fail
        refine (HF2.out g _ ht).mono ?_
        rintro e w5 ⟨rfl, hg5⟩
        have hg := grown_trans hg hg5
        go_wp2
        rw [HV.out]
        exact bodyPost_ret (v := .tuple #[.int .u8 k2, .int .i64 i, .int .i64 j, .int .i64 r2]) (by simp [results, Tryz.results108, go_sem]) rfl ⟨rfl, hg⟩
      · rw [if_neg hk] at hv
        have hk' : (k == 2) = false := by simpa using hk
        have HV := Lib.hid hv
        clear hv h hx1 hr hk HF2 HT
        go_enter Tryz.func108, Tryz.ntmps108
        go_wp2_with fail
        refine (H1.out _).mono ?_
        rintro e w1 ⟨rfl, hg1⟩
        have hb : w1.heap[w.heap.size]? = some (.cells #[.int .i64 a, .int .i64 b, .int .i64 c] 26 (0, 0)) := (hg1.block _ (by simp) (by simp)).trans (heap_alloc_new w _)
        have f0 : w1.cell? ⟨w.heap.size, 0, none⟩ = some (.int .i64 a) := by simp [World.cell?, hb]
        have f1 : w1.cell? ⟨w.heap.size, 1, none⟩ = some (.int .i64 b) := by simp [World.cell?, hb]
        have f2 : w1.cell? ⟨w.heap.size, 2, none⟩ = some (.int .i64 c) := by simp [World.cell?, hb]
        have hg := grown_trans (World.grownBy_alloc w _ none) hg1
        clear hg1 hb H1
        go_wp2_with fail
        refine (HP.out _).mono ?_
        rintro e w2 ⟨g, rfl, ht, hg2⟩
        have hg := grown_trans hg hg2
        clear hg2 HP f0 f1 f2
        go_wp2_with fail
        refine (HF.out g _ ht).mono ?_
        rintro e w3 ⟨rfl, hg3⟩
        have hg := grown_trans hg hg3
        go_wp2
        rw [HV.out]
        exact bodyPost_ret (v := .tuple #[.int .u8 k, .int .i64 i, .int .i64 0, .int .i64 r]) (by simp [results, Tryz.results108, go_sem]) rfl ⟨rfl, hg⟩
    · have hv : whereV a b c x = (0, 0, 0, 0) := by unfold whereV; rw [if_neg (fun h => hx h.2)]
      have HF := Lib.hid (fun g wx => find_neg g 7 x wx (by omega))
      have HV := Lib.hid hv
      clear hv h hx1 hx
      go_enter Tryz.func108, Tryz.ntmps108
      go_wp2_with fail
      refine (H1.out _).mono ?_
      rintro e w1 ⟨rfl, hg1⟩
      have hb : w1.heap[w.heap.size]? = some (.cells #[.int .i64 a, .int .i64 b, .int .i64 c] 26 (0, 0)) := (hg1.block _ (by simp) (by simp)).trans (heap_alloc_new w _)
      have f0 : w1.cell? ⟨w.heap.size, 0, none⟩ = some (.int .i64 a) := by simp [World.cell?, hb]
      have f1 : w1.cell? ⟨w.heap.size, 1, none⟩ = some (.int .i64 b) := by simp [World.cell?, hb]
      have f2 : w1.cell? ⟨w.heap.size, 2, none⟩ = some (.int .i64 c) := by simp [World.cell?, hb]
      have hg := grown_trans (World.grownBy_alloc w _ none) hg1
      clear hg1 hb H1
      go_wp2_with fail
      refine (HP.out _).mono ?_
      rintro e w2 ⟨g, rfl, ht, hg2⟩
      have hg := grown_trans hg hg2
      clear hg2 HP f0 f1 f2
      go_wp2_with fail
      refine (HF.out g _).mono ?_
      rintro e w3 ⟨rfl, hg3⟩
      have hg := grown_trans hg hg3
      go_wp2
      rw [HV.out]
      exact bodyPost_ret (v := .tuple #[.int .u8 0, .int .i64 0, .int .i64 0, .int .i64 0]) (by simp [results, Tryz.results108, go_sem]) rfl ⟨rfl, hg⟩
  · have h' : mayB a b c = false := by simpa using h
    rw [h'] at H1
    have hv : whereV a b c x = (0, 0, 0, 0) := by unfold whereV; rw [if_neg (fun q => h q.1)]
    have HV := Lib.hid hv
    clear hv h hx1
    go_enter Tryz.func108, Tryz.ntmps108
    go_wp2_with fail
    refine (H1.out _).mono ?_
    rintro e w1 ⟨rfl, hg1⟩
    have hg := grown_trans (World.grownBy_alloc w _ none) hg1
    go_wp2
    rw [HV.out]
    exact bodyPost_ret (v := .tuple #[.int .u8 0, .int .i64 0, .int .i64 0, .int .i64 0]) (by simp [results, Tryz.results108, go_sem]) rfl ⟨rfl, hg⟩
end Go.Proofs.YtpdofdloclmbdaaGreat
end
section
/- The document's own places, walked. -/
-- OPTIONAL


namespace Go.Proofs.YtpdofdloclmbdaaGreat
open Go.RowKit Go.Grommet

set_option maxHeartbeats 1000000 in
theorem RMay_any (a b c : Int) (w : World) : Calls Tryz.prog 48 #[gv a b c] w (BoolIs (mayB a b c) w) := by
  unfold gv
  by_cases h1 : 1 ≤ a
  · by_cases h2 : a ≤ 4
    · by_cases h3 : 2 ≤ b
      · by_cases h4 : b ≤ 64
        · by_cases h5 : 2 ≤ c
          · by_cases h6 : c ≤ 512
            · have hv : mayB a b c = true := by unfold mayB; rw [decide_eq_true_eq]; omega
              rw [hv]
              go_enter Tryz.func48, Tryz.ntmps48
              go_wp2
              go_ret
              exact ⟨rfl, World.grownBy_alloc w _ none⟩
            · have hv : mayB a b c = false := by unfold mayB; rw [decide_eq_false_iff_not]; omega
              have hd : decide (c ≤ 512) = false := by simpa using h6
              rw [hv]
              go_enter Tryz.func48, Tryz.ntmps48
              go_wp2
              go_ret
              exact ⟨rfl, World.grownBy_alloc w _ none⟩
          · have hv : mayB a b c = false := by unfold mayB; rw [decide_eq_false_iff_not]; omega
            have hd : decide (2 ≤ c) = false := by simpa using h5
            rw [hv]
            go_enter Tryz.func48, Tryz.ntmps48
            go_wp2
            go_ret
            exact ⟨rfl, World.grownBy_alloc w _ none⟩
        · have hv : mayB a b c = false := by unfold mayB; rw [decide_eq_false_iff_not]; omega
          have hd : decide (b ≤ 64) = false := by simpa using h4
          rw [hv]
          go_enter Tryz.func48, Tryz.ntmps48
          go_wp2
          go_ret
          exact ⟨rfl, World.grownBy_alloc w _ none⟩
      · have hv : mayB a b c = false := by unfold mayB; rw [decide_eq_false_iff_not]; omega
        have hd : decide (2 ≤ b) = false := by simpa using h3
        rw [hv]
        go_enter Tryz.func48, Tryz.ntmps48
        go_wp2
        go_ret
        exact ⟨rfl, World.grownBy_alloc w _ none⟩
    · have hv : mayB a b c = false := by unfold mayB; rw [decide_eq_false_iff_not]; omega
      have hd : decide (a ≤ 4) = false := by simpa using h2
      rw [hv]
      go_enter Tryz.func48, Tryz.ntmps48
      go_wp2
      go_ret
      exact ⟨rfl, World.grownBy_alloc w _ none⟩
  · have hv : mayB a b c = false := by unfold mayB; rw [decide_eq_false_iff_not]; omega
    have hd : decide (1 ≤ a) = false := by simpa using h1
    rw [hv]
    go_enter Tryz.func48, Tryz.ntmps48
    go_wp2
    go_ret
    exact ⟨rfl, World.grownBy_alloc w _ none⟩


set_option maxHeartbeats 400000 in
theorem areas_any (w : World) : Calls Tryz.prog 91 #[] w (IntIs 264 w) := by
  go_enter Tryz.func91, Tryz.ntmps91
  go_wp2
  go_ret
  exact ⟨rfl, World.grownBy.refl _ _⟩

set_option maxHeartbeats 400000 in
theorem areas_q (w : World) : Calls Tryz.prog 91 #[] w fun e w' => e = .returned (.int .i64 264) ∧ w' = w := by
  go_enter Tryz.func91, Tryz.ntmps91
  go_wp2
  go_ret
  exact ⟨rfl, rfl⟩

set_option maxHeartbeats 400000 in
theorem maps_any (a b c : Int) (w : World) (h0 : 0 ≤ a) (h1 : a ≤ 1000) : Calls Tryz.prog 90 #[gv a b c] w (IntIs (264 + 208 * a) w) := by
  unfold gv
  have hw1 : IntKind.i64.wrap (208 * a) = 208 * a := IntWalk.i64_in _ ⟨by omega, by omega⟩
  have hw2 : IntKind.i64.wrap (264 + 208 * a) = 264 + 208 * a := IntWalk.i64_in _ ⟨by omega, by omega⟩
  go_enter Tryz.func90, Tryz.ntmps90
  go_wp2_with fail
  go_quiet ((go_at_call 91; exact Calls.quiet_of_same (areas_q _)))
  go_wp2
  go_ret
  exact ⟨rfl, grown_trans (World.grownBy_alloc w _ none) (grown_drewN _ _ _)⟩

set_option maxHeartbeats 400000 in
theorem RSessionAt_any (i : Int) (w : World) : Calls Tryz.prog 120 #[.int .i64 i] w (IntIs (sessionV i) w) := by
  unfold sessionV
  by_cases h0 : 0 ≤ i
  · by_cases h1 : i < 4
    · rw [if_pos ⟨h0, h1⟩]
      have h0' : ¬ i < 0 := by omega
      have h1' : ¬ 4 ≤ i := by omega
      go_enter Tryz.func120, Tryz.ntmps120
      go_wp2
      go_ret
      exact ⟨rfl, World.grownBy.refl _ _⟩
    · rw [if_neg (fun h => h1 h.2)]
      have h0' : ¬ i < 0 := by omega
      have h1' : 4 ≤ i := by omega
      go_enter Tryz.func120, Tryz.ntmps120
      go_wp2
      go_ret
      exact ⟨rfl, World.grownBy.refl _ _⟩
  · rw [if_neg (fun h => h0 h.1)]
    have h0' : i < 0 := by omega
    go_enter Tryz.func120, Tryz.ntmps120
    go_wp2
    go_ret
    exact ⟨rfl, World.grownBy.refl _ _⟩

set_option maxHeartbeats 1000000 in
theorem RSlotAt_any (i k : Int) (w : World) : Calls Tryz.prog 118 #[.int .i64 i, .int .i64 k] w (IntIs (slotV i k) w) := by
  have H := Lib.hid (fun wx => RSessionAt_any i wx)
  unfold sessionV at H
  unfold slotV
  by_cases hi : 0 ≤ i ∧ i < 4
  · rw [if_pos hi] at H
    obtain ⟨hi0, hi1⟩ := hi
    have hn : ¬ 8 + 64 * i < 0 := by omega
    by_cases h0 : 0 ≤ k
    · by_cases h1 : k < 4
      · rw [if_pos ⟨⟨hi0, hi1⟩, h0, h1⟩]
        have h0' : ¬ k < 0 := by omega
        have h1' : ¬ 4 ≤ k := by omega
        have e : 16 + 64 * i + 12 * k = 8 + 64 * i + 8 + 12 * k := by omega
        rw [e]
        clear e
        go_enter Tryz.func118, Tryz.ntmps118
        go_wp2_with fail
        refine (H.out _).mono ?_
        rintro e w1 ⟨rfl, hg⟩
        go_wp2_with fail
        refine (H.out _).mono ?_
        rintro e w2 ⟨rfl, hg2⟩
        have hg := grown_trans hg hg2
        go_wp2
        go_ret
        exact ⟨rfl, hg⟩
      · rw [if_neg (fun h => h1 h.2.2)]
        have h0' : ¬ k < 0 := by omega
        have h1' : 4 ≤ k := by omega
        go_enter Tryz.func118, Tryz.ntmps118
        go_wp2_with fail
        refine (H.out _).mono ?_
        rintro e w1 ⟨rfl, hg⟩
        go_wp2
        go_ret
        exact ⟨rfl, hg⟩
    · rw [if_neg (fun h => h0 h.2.1)]
      have h0' : k < 0 := by omega
      go_enter Tryz.func118, Tryz.ntmps118
      go_wp2_with fail
      refine (H.out _).mono ?_
      rintro e w1 ⟨rfl, hg⟩
      go_wp2
      go_ret
      exact ⟨rfl, hg⟩
  · rw [if_neg hi] at H
    rw [if_neg (fun h => hi h.1)]
    go_enter Tryz.func118, Tryz.ntmps118
    go_wp2_with fail
    refine (H.out _).mono ?_
    rintro e w1 ⟨rfl, hg⟩
    go_wp2
    go_ret
    exact ⟨rfl, hg⟩

set_option maxHeartbeats 1000000 in
theorem RDescriptorAt_any (i k : Int) (w : World) : Calls Tryz.prog 119 #[.int .i64 i, .int .i64 k] w (IntIs (descV i k) w) := by
  have H := Lib.hid (fun wx => RSessionAt_any i wx)
  unfold sessionV at H
  unfold descV
  by_cases hi : 0 ≤ i ∧ i < 4
  · rw [if_pos hi] at H
    obtain ⟨hi0, hi1⟩ := hi
    have hn : ¬ 8 + 64 * i < 0 := by omega
    by_cases h0 : 0 ≤ k
    · by_cases h1 : k < 4
      · rw [if_pos ⟨⟨hi0, hi1⟩, h0, h1⟩]
        have h0' : ¬ k < 0 := by omega
        have h1' : ¬ 4 ≤ k := by omega
        have e : 64 + 64 * i + 2 * k = 8 + 64 * i + 8 + 48 + 2 * k := by omega
        rw [e]
        clear e
        go_enter Tryz.func119, Tryz.ntmps119
        go_wp2_with fail
        refine (H.out _).mono ?_
        rintro e w1 ⟨rfl, hg⟩
        go_wp2_with fail
        refine (H.out _).mono ?_
        rintro e w2 ⟨rfl, hg2⟩
        have hg := grown_trans hg hg2
        go_wp2
        go_ret
        exact ⟨rfl, hg⟩
      · rw [if_neg (fun h => h1 h.2.2)]
        have h0' : ¬ k < 0 := by omega
        have h1' : 4 ≤ k := by omega
        go_enter Tryz.func119, Tryz.ntmps119
        go_wp2_with fail
        refine (H.out _).mono ?_
        rintro e w1 ⟨rfl, hg⟩
        go_wp2
        go_ret
        exact ⟨rfl, hg⟩
    · rw [if_neg (fun h => h0 h.2.1)]
      have h0' : k < 0 := by omega
      go_enter Tryz.func119, Tryz.ntmps119
      go_wp2_with fail
      refine (H.out _).mono ?_
      rintro e w1 ⟨rfl, hg⟩
      go_wp2
      go_ret
      exact ⟨rfl, hg⟩
  · rw [if_neg hi] at H
    rw [if_neg (fun h => hi h.1)]
    go_enter Tryz.func119, Tryz.ntmps119
    go_wp2_with fail
    refine (H.out _).mono ?_
    rintro e w1 ⟨rfl, hg⟩
    go_wp2
    go_ret
    exact ⟨rfl, hg⟩

set_option maxHeartbeats 1000000 in
theorem RAreaAt_any (a b c i : Int) (w : World) : Calls Tryz.prog 53 #[gv a b c, .int .i64 i] w (IntIs (areaV a b c i) w) := by
  have H1 := Lib.hid (fun wx => RMay_any a b c wx)
  unfold areaV
  by_cases h : mayB a b c = true
  · rw [h] at H1
    obtain ⟨q1, q2, q3, q4, q5, q6⟩ := mayB_yes h
    have H2 := Lib.hid (fun wx => areas_any wx)
    unfold gv at H1 H2 ⊢
    have hb : (w.alloc (.cells #[.int .i64 a, .int .i64 b, .int .i64 c] 28)).heap[w.heap.size]? = some (.cells #[.int .i64 a, .int .i64 b, .int .i64 c] 28 (0, 0)) := heap_alloc_new w _
    have hg := World.grownBy_alloc w (.cells #[.int .i64 a, .int .i64 b, .int .i64 c] 28) none
    by_cases h0 : 0 ≤ i
    · by_cases h1 : i < a
      · rw [if_pos ⟨h, h0, h1⟩]
        have h0' : ¬ i < 0 := by omega
        have h1' : ¬ a ≤ i := by omega
        clear h
        go_enter Tryz.func53, Tryz.ntmps53
        go_wp2_with fail
        refine (H1.out _).mono ?_
        rintro e w1 ⟨rfl, hgx⟩
        have hb := (hgx.block _ (lt_of_block hb) (by simp)).trans hb
        have hg := grown_trans hg hgx
        clear hgx H1
        have f0 : w1.cell? ⟨w.heap.size, 0, none⟩ = some (.int .i64 a) := by simp [World.cell?, hb]
        have f1 : w1.cell? ⟨w.heap.size, 1, none⟩ = some (.int .i64 b) := by simp [World.cell?, hb]
        have f2 : w1.cell? ⟨w.heap.size, 2, none⟩ = some (.int .i64 c) := by simp [World.cell?, hb]
        go_wp2_with fail
        refine (H2.out _).mono ?_
        rintro e w2 ⟨rfl, hgx⟩
        have hb := (hgx.block _ (lt_of_block hb) (by simp)).trans hb
        clear f0 f1 f2
        have hg := grown_trans hg hgx
        clear hgx H2
        have f0 : w2.cell? ⟨w.heap.size, 0, none⟩ = some (.int .i64 a) := by simp [World.cell?, hb]
        have f1 : w2.cell? ⟨w.heap.size, 1, none⟩ = some (.int .i64 b) := by simp [World.cell?, hb]
        have f2 : w2.cell? ⟨w.heap.size, 2, none⟩ = some (.int .i64 c) := by simp [World.cell?, hb]
        go_wp2
        go_ret
        exact ⟨rfl, hg⟩
      · rw [if_neg (fun q => h1 q.2.2)]
        have h0' : ¬ i < 0 := by omega
        have h1' : a ≤ i := by omega
        clear h
        go_enter Tryz.func53, Tryz.ntmps53
        go_wp2_with fail
        refine (H1.out _).mono ?_
        rintro e w1 ⟨rfl, hgx⟩
        have hb := (hgx.block _ (lt_of_block hb) (by simp)).trans hb
        have hg := grown_trans hg hgx
        clear hgx H1
        have f0 : w1.cell? ⟨w.heap.size, 0, none⟩ = some (.int .i64 a) := by simp [World.cell?, hb]
        have f1 : w1.cell? ⟨w.heap.size, 1, none⟩ = some (.int .i64 b) := by simp [World.cell?, hb]
        have f2 : w1.cell? ⟨w.heap.size, 2, none⟩ = some (.int .i64 c) := by simp [World.cell?, hb]
        go_wp2
        go_ret
        exact ⟨rfl, hg⟩
    · rw [if_neg (fun q => h0 q.2.1)]
      have h0' : i < 0 := by omega
      clear h
      go_enter Tryz.func53, Tryz.ntmps53
      go_wp2_with fail
      refine (H1.out _).mono ?_
      rintro e w1 ⟨rfl, hgx⟩
      have hb := (hgx.block _ (lt_of_block hb) (by simp)).trans hb
      have hg := grown_trans hg hgx
      clear hgx H1
      have f0 : w1.cell? ⟨w.heap.size, 0, none⟩ = some (.int .i64 a) := by simp [World.cell?, hb]
      have f1 : w1.cell? ⟨w.heap.size, 1, none⟩ = some (.int .i64 b) := by simp [World.cell?, hb]
      have f2 : w1.cell? ⟨w.heap.size, 2, none⟩ = some (.int .i64 c) := by simp [World.cell?, hb]
      go_wp2
      go_ret
      exact ⟨rfl, hg⟩
  · have h' : mayB a b c = false := by simpa using h
    rw [h'] at H1
    rw [if_neg (fun q => h q.1)]
    unfold gv at H1 ⊢
    clear h h'
    have hb : (w.alloc (.cells #[.int .i64 a, .int .i64 b, .int .i64 c] 28)).heap[w.heap.size]? = some (.cells #[.int .i64 a, .int .i64 b, .int .i64 c] 28 (0, 0)) := heap_alloc_new w _
    have hg := World.grownBy_alloc w (.cells #[.int .i64 a, .int .i64 b, .int .i64 c] 28) none
    go_enter Tryz.func53, Tryz.ntmps53
    go_wp2_with fail
    refine (H1.out _).mono ?_
    rintro e w1 ⟨rfl, hgx⟩
    have hb := (hgx.block _ (lt_of_block hb) (by simp)).trans hb
    have hg := grown_trans hg hgx
    clear hgx H1
    have f0 : w1.cell? ⟨w.heap.size, 0, none⟩ = some (.int .i64 a) := by simp [World.cell?, hb]
    have f1 : w1.cell? ⟨w.heap.size, 1, none⟩ = some (.int .i64 b) := by simp [World.cell?, hb]
    have f2 : w1.cell? ⟨w.heap.size, 2, none⟩ = some (.int .i64 c) := by simp [World.cell?, hb]
    go_wp2
    go_ret
    exact ⟨rfl, hg⟩

set_option maxHeartbeats 1000000 in
theorem RInodeMapAt_any (a b c : Int) (w : World) : Calls Tryz.prog 50 #[gv a b c] w (IntIs (imapV a b c) w) := by
  have H1 := Lib.hid (fun wx => RMay_any a b c wx)
  unfold imapV
  by_cases h : mayB a b c = true
  · rw [h] at H1
    obtain ⟨q1, q2, q3, q4, q5, q6⟩ := mayB_yes h
    have H2 := Lib.hid (fun wx => maps_any a b c wx (by omega) (by omega))
    unfold gv at H1 H2 ⊢
    have hb : (w.alloc (.cells #[.int .i64 a, .int .i64 b, .int .i64 c] 28)).heap[w.heap.size]? = some (.cells #[.int .i64 a, .int .i64 b, .int .i64 c] 28 (0, 0)) := heap_alloc_new w _
    have hg := World.grownBy_alloc w (.cells #[.int .i64 a, .int .i64 b, .int .i64 c] 28) none
    rw [if_pos h]
    clear h
    go_enter Tryz.func50, Tryz.ntmps50
    go_wp2_with fail
    refine (H1.out _).mono ?_
    rintro e w1 ⟨rfl, hgx⟩
    have hb := (hgx.block _ (lt_of_block hb) (by simp)).trans hb
    have hg := grown_trans hg hgx
    clear hgx H1
    have f0 : w1.cell? ⟨w.heap.size, 0, none⟩ = some (.int .i64 a) := by simp [World.cell?, hb]
    have f1 : w1.cell? ⟨w.heap.size, 1, none⟩ = some (.int .i64 b) := by simp [World.cell?, hb]
    have f2 : w1.cell? ⟨w.heap.size, 2, none⟩ = some (.int .i64 c) := by simp [World.cell?, hb]
    go_wp2_with fail
    refine (H2.out _).mono ?_
    rintro e w2 ⟨rfl, hgx⟩
    have hb := (hgx.block _ (lt_of_block hb) (by simp)).trans hb
    clear f0 f1 f2
    have hg := grown_trans hg hgx
    clear hgx H2
    have f0 : w2.cell? ⟨w.heap.size, 0, none⟩ = some (.int .i64 a) := by simp [World.cell?, hb]
    have f1 : w2.cell? ⟨w.heap.size, 1, none⟩ = some (.int .i64 b) := by simp [World.cell?, hb]
    have f2 : w2.cell? ⟨w.heap.size, 2, none⟩ = some (.int .i64 c) := by simp [World.cell?, hb]
    go_wp2
    go_ret
    exact ⟨rfl, hg⟩
  · have h' : mayB a b c = false := by simpa using h
    rw [h'] at H1
    rw [if_neg h]
    unfold gv at H1 ⊢
    clear h h'
    have hb : (w.alloc (.cells #[.int .i64 a, .int .i64 b, .int .i64 c] 28)).heap[w.heap.size]? = some (.cells #[.int .i64 a, .int .i64 b, .int .i64 c] 28 (0, 0)) := heap_alloc_new w _
    have hg := World.grownBy_alloc w (.cells #[.int .i64 a, .int .i64 b, .int .i64 c] 28) none
    go_enter Tryz.func50, Tryz.ntmps50
    go_wp2_with fail
    refine (H1.out _).mono ?_
    rintro e w1 ⟨rfl, hgx⟩
    have hb := (hgx.block _ (lt_of_block hb) (by simp)).trans hb
    have hg := grown_trans hg hgx
    clear hgx H1
    have f0 : w1.cell? ⟨w.heap.size, 0, none⟩ = some (.int .i64 a) := by simp [World.cell?, hb]
    have f1 : w1.cell? ⟨w.heap.size, 1, none⟩ = some (.int .i64 b) := by simp [World.cell?, hb]
    have f2 : w1.cell? ⟨w.heap.size, 2, none⟩ = some (.int .i64 c) := by simp [World.cell?, hb]
    go_wp2
    go_ret
    exact ⟨rfl, hg⟩

set_option maxHeartbeats 1000000 in
theorem RBlockMapAt_any (a b c : Int) (w : World) : Calls Tryz.prog 51 #[gv a b c] w (IntIs (bmapV a b c) w) := by
  have H1 := Lib.hid (fun wx => RMay_any a b c wx)
  unfold bmapV
  by_cases h : mayB a b c = true
  · rw [h] at H1
    obtain ⟨q1, q2, q3, q4, q5, q6⟩ := mayB_yes h
    have H2 := Lib.hid (fun wx => maps_any a b c wx (by omega) (by omega))
    unfold gv at H1 H2 ⊢
    have hb : (w.alloc (.cells #[.int .i64 a, .int .i64 b, .int .i64 c] 28)).heap[w.heap.size]? = some (.cells #[.int .i64 a, .int .i64 b, .int .i64 c] 28 (0, 0)) := heap_alloc_new w _
    have hg := World.grownBy_alloc w (.cells #[.int .i64 a, .int .i64 b, .int .i64 c] 28) none
    rw [if_pos h]
    clear h
    go_enter Tryz.func51, Tryz.ntmps51
    go_wp2_with fail
    refine (H1.out _).mono ?_
    rintro e w1 ⟨rfl, hgx⟩
    have hb := (hgx.block _ (lt_of_block hb) (by simp)).trans hb
    have hg := grown_trans hg hgx
    clear hgx H1
    have f0 : w1.cell? ⟨w.heap.size, 0, none⟩ = some (.int .i64 a) := by simp [World.cell?, hb]
    have f1 : w1.cell? ⟨w.heap.size, 1, none⟩ = some (.int .i64 b) := by simp [World.cell?, hb]
    have f2 : w1.cell? ⟨w.heap.size, 2, none⟩ = some (.int .i64 c) := by simp [World.cell?, hb]
    go_wp2_with fail
    refine (H2.out _).mono ?_
    rintro e w2 ⟨rfl, hgx⟩
    have hb := (hgx.block _ (lt_of_block hb) (by simp)).trans hb
    clear f0 f1 f2
    have hg := grown_trans hg hgx
    clear hgx H2
    have f0 : w2.cell? ⟨w.heap.size, 0, none⟩ = some (.int .i64 a) := by simp [World.cell?, hb]
    have f1 : w2.cell? ⟨w.heap.size, 1, none⟩ = some (.int .i64 b) := by simp [World.cell?, hb]
    have f2 : w2.cell? ⟨w.heap.size, 2, none⟩ = some (.int .i64 c) := by simp [World.cell?, hb]
    go_wp2
    go_ret
    exact ⟨congrArg (fun x => Ending.returned (.int .i64 x)) (by omega), hg⟩
  · have h' : mayB a b c = false := by simpa using h
    rw [h'] at H1
    rw [if_neg h]
    unfold gv at H1 ⊢
    clear h h'
    have hb : (w.alloc (.cells #[.int .i64 a, .int .i64 b, .int .i64 c] 28)).heap[w.heap.size]? = some (.cells #[.int .i64 a, .int .i64 b, .int .i64 c] 28 (0, 0)) := heap_alloc_new w _
    have hg := World.grownBy_alloc w (.cells #[.int .i64 a, .int .i64 b, .int .i64 c] 28) none
    go_enter Tryz.func51, Tryz.ntmps51
    go_wp2_with fail
    refine (H1.out _).mono ?_
    rintro e w1 ⟨rfl, hgx⟩
    have hb := (hgx.block _ (lt_of_block hb) (by simp)).trans hb
    have hg := grown_trans hg hgx
    clear hgx H1
    have f0 : w1.cell? ⟨w.heap.size, 0, none⟩ = some (.int .i64 a) := by simp [World.cell?, hb]
    have f1 : w1.cell? ⟨w.heap.size, 1, none⟩ = some (.int .i64 b) := by simp [World.cell?, hb]
    have f2 : w1.cell? ⟨w.heap.size, 2, none⟩ = some (.int .i64 c) := by simp [World.cell?, hb]
    go_wp2
    go_ret
    exact ⟨rfl, hg⟩

set_option maxHeartbeats 1000000 in
theorem RInodeAt_any (a b c i : Int) (w : World) : Calls Tryz.prog 52 #[gv a b c, .int .i64 i] w (IntIs (inodeV a b c i) w) := by
  have H1 := Lib.hid (fun wx => RMay_any a b c wx)
  unfold inodeV
  by_cases h : mayB a b c = true
  · rw [h] at H1
    obtain ⟨q1, q2, q3, q4, q5, q6⟩ := mayB_yes h
    have H2 := Lib.hid (fun wx => maps_any a b c wx (by omega) (by omega))
    unfold gv at H1 H2 ⊢
    have hb : (w.alloc (.cells #[.int .i64 a, .int .i64 b, .int .i64 c] 28)).heap[w.heap.size]? = some (.cells #[.int .i64 a, .int .i64 b, .int .i64 c] 28 (0, 0)) := heap_alloc_new w _
    have hg := World.grownBy_alloc w (.cells #[.int .i64 a, .int .i64 b, .int .i64 c] 28) none
    by_cases h0 : 0 ≤ i
    · by_cases h1 : i < b
      · rw [if_pos ⟨h, h0, h1⟩]
        have h0' : ¬ i < 0 := by omega
        have h1' : ¬ b ≤ i := by omega
        clear h
        go_enter Tryz.func52, Tryz.ntmps52
        go_wp2_with fail
        refine (H1.out _).mono ?_
        rintro e w1 ⟨rfl, hgx⟩
        have hb := (hgx.block _ (lt_of_block hb) (by simp)).trans hb
        have hg := grown_trans hg hgx
        clear hgx H1
        have f0 : w1.cell? ⟨w.heap.size, 0, none⟩ = some (.int .i64 a) := by simp [World.cell?, hb]
        have f1 : w1.cell? ⟨w.heap.size, 1, none⟩ = some (.int .i64 b) := by simp [World.cell?, hb]
        have f2 : w1.cell? ⟨w.heap.size, 2, none⟩ = some (.int .i64 c) := by simp [World.cell?, hb]
        go_wp2_with fail
        refine (H2.out _).mono ?_
        rintro e w2 ⟨rfl, hgx⟩
        have hb := (hgx.block _ (lt_of_block hb) (by simp)).trans hb
        clear f0 f1 f2
        have hg := grown_trans hg hgx
        clear hgx H2
        have f0 : w2.cell? ⟨w.heap.size, 0, none⟩ = some (.int .i64 a) := by simp [World.cell?, hb]
        have f1 : w2.cell? ⟨w.heap.size, 1, none⟩ = some (.int .i64 b) := by simp [World.cell?, hb]
        have f2 : w2.cell? ⟨w.heap.size, 2, none⟩ = some (.int .i64 c) := by simp [World.cell?, hb]
        go_wp2
        go_ret
        exact ⟨congrArg (fun x => Ending.returned (.int .i64 x)) (by omega), hg⟩
      · rw [if_neg (fun q => h1 q.2.2)]
        have h0' : ¬ i < 0 := by omega
        have h1' : b ≤ i := by omega
        clear h
        go_enter Tryz.func52, Tryz.ntmps52
        go_wp2_with fail
        refine (H1.out _).mono ?_
        rintro e w1 ⟨rfl, hgx⟩
        have hb := (hgx.block _ (lt_of_block hb) (by simp)).trans hb
        have hg := grown_trans hg hgx
        clear hgx H1
        have f0 : w1.cell? ⟨w.heap.size, 0, none⟩ = some (.int .i64 a) := by simp [World.cell?, hb]
        have f1 : w1.cell? ⟨w.heap.size, 1, none⟩ = some (.int .i64 b) := by simp [World.cell?, hb]
        have f2 : w1.cell? ⟨w.heap.size, 2, none⟩ = some (.int .i64 c) := by simp [World.cell?, hb]
        go_wp2
        go_ret
        exact ⟨rfl, hg⟩
    · rw [if_neg (fun q => h0 q.2.1)]
      have h0' : i < 0 := by omega
      clear h
      go_enter Tryz.func52, Tryz.ntmps52
      go_wp2_with fail
      refine (H1.out _).mono ?_
      rintro e w1 ⟨rfl, hgx⟩
      have hb := (hgx.block _ (lt_of_block hb) (by simp)).trans hb
      have hg := grown_trans hg hgx
      clear hgx H1
      have f0 : w1.cell? ⟨w.heap.size, 0, none⟩ = some (.int .i64 a) := by simp [World.cell?, hb]
      have f1 : w1.cell? ⟨w.heap.size, 1, none⟩ = some (.int .i64 b) := by simp [World.cell?, hb]
      have f2 : w1.cell? ⟨w.heap.size, 2, none⟩ = some (.int .i64 c) := by simp [World.cell?, hb]
      go_wp2
      go_ret
      exact ⟨rfl, hg⟩
  · have h' : mayB a b c = false := by simpa using h
    rw [h'] at H1
    rw [if_neg (fun q => h q.1)]
    unfold gv at H1 ⊢
    clear h h'
    have hb : (w.alloc (.cells #[.int .i64 a, .int .i64 b, .int .i64 c] 28)).heap[w.heap.size]? = some (.cells #[.int .i64 a, .int .i64 b, .int .i64 c] 28 (0, 0)) := heap_alloc_new w _
    have hg := World.grownBy_alloc w (.cells #[.int .i64 a, .int .i64 b, .int .i64 c] 28) none
    go_enter Tryz.func52, Tryz.ntmps52
    go_wp2_with fail
    refine (H1.out _).mono ?_
    rintro e w1 ⟨rfl, hgx⟩
    have hb := (hgx.block _ (lt_of_block hb) (by simp)).trans hb
    have hg := grown_trans hg hgx
    clear hgx H1
    have f0 : w1.cell? ⟨w.heap.size, 0, none⟩ = some (.int .i64 a) := by simp [World.cell?, hb]
    have f1 : w1.cell? ⟨w.heap.size, 1, none⟩ = some (.int .i64 b) := by simp [World.cell?, hb]
    have f2 : w1.cell? ⟨w.heap.size, 2, none⟩ = some (.int .i64 c) := by simp [World.cell?, hb]
    go_wp2
    go_ret
    exact ⟨rfl, hg⟩

set_option maxHeartbeats 1000000 in
theorem RBlockAt_any (a b c i : Int) (w : World) : Calls Tryz.prog 121 #[gv a b c, .int .i64 i] w (IntIs (blockV a b c i) w) := by
  have H1 := Lib.hid (fun wx => RMay_any a b c wx)
  unfold blockV
  by_cases h : mayB a b c = true
  · rw [h] at H1
    obtain ⟨q1, q2, q3, q4, q5, q6⟩ := mayB_yes h
    have H2 := Lib.hid (fun wx => maps_any a b c wx (by omega) (by omega))
    unfold gv at H1 H2 ⊢
    have hb : (w.alloc (.cells #[.int .i64 a, .int .i64 b, .int .i64 c] 28)).heap[w.heap.size]? = some (.cells #[.int .i64 a, .int .i64 b, .int .i64 c] 28 (0, 0)) := heap_alloc_new w _
    have hg := World.grownBy_alloc w (.cells #[.int .i64 a, .int .i64 b, .int .i64 c] 28) none
    by_cases h0 : 0 ≤ i
    · by_cases h1 : i < c
      · rw [if_pos ⟨h, h0, h1⟩]
        have h0' : ¬ i < 0 := by omega
        have h1' : ¬ c ≤ i := by omega
        clear h
        go_enter Tryz.func121, Tryz.ntmps121
        go_wp2_with fail
        refine (H1.out _).mono ?_
        rintro e w1 ⟨rfl, hgx⟩
        have hb := (hgx.block _ (lt_of_block hb) (by simp)).trans hb
        have hg := grown_trans hg hgx
        clear hgx H1
        have f0 : w1.cell? ⟨w.heap.size, 0, none⟩ = some (.int .i64 a) := by simp [World.cell?, hb]
        have f1 : w1.cell? ⟨w.heap.size, 1, none⟩ = some (.int .i64 b) := by simp [World.cell?, hb]
        have f2 : w1.cell? ⟨w.heap.size, 2, none⟩ = some (.int .i64 c) := by simp [World.cell?, hb]
        have w1_ : IntKind.i64.wrap (16 * b) = 16 * b := IntWalk.i64_in _ ⟨by omega, by omega⟩
        have w2_ : IntKind.i64.wrap (8 * i) = 8 * i := IntWalk.i64_in _ ⟨by omega, by omega⟩
        have w3_ : IntKind.i64.wrap (264 + 208 * a + 16) = 264 + 208 * a + 16 := IntWalk.i64_in _ ⟨by omega, by omega⟩
        have w4_ : IntKind.i64.wrap (264 + 208 * a + 16 + 16 * b) = 264 + 208 * a + 16 + 16 * b := IntWalk.i64_in _ ⟨by omega, by omega⟩
        have w5_ : IntKind.i64.wrap (264 + 208 * a + 16 + 16 * b + 8 * i) = 264 + 208 * a + 16 + 16 * b + 8 * i := IntWalk.i64_in _ ⟨by omega, by omega⟩
        have he_ : 264 + 208 * a + 16 + 16 * b + 8 * i = 280 + 208 * a + 16 * b + 8 * i := by omega
        have HE := Lib.hid he_
        clear he_
        go_wp2_with fail
        refine wp_region_held_drew (S := fun w' => w'.heap[w.heap.size]? = some (.cells #[.int .i64 a, .int .i64 b, .int .i64 c] 28 (0, 0)) ∧ w.grownBy w' none) (by kernel_rfl) (⟨hb, grown_drew hg⟩) (fun hS => ?_)
        refine wpAnyH_take (i := 0) (oi := { dst := some 18, op := Op.load 28 (Operand.tmp 2), type := 28, pos := "ref.go:95", after := #[], guard := none }) (v := ?vba121r3o0) rfl (by kernel_rfl) (by kernel_rfl) (by kernel_rfl) (fun _ _ _ h => h) (Or.inl ⟨by rfl, ?hba121r3o0⟩) hS ?_
        case hba121r3o0 => (intro wx hx; have hb1 := hx.1; have f0 : wx.cell? ⟨w.heap.size, 0, none⟩ = some (.int .i64 a) := (by simp [World.cell?, hb1]); have f1 : wx.cell? ⟨w.heap.size, 1, none⟩ = some (.int .i64 b) := (by simp [World.cell?, hb1]); have f2 : wx.cell? ⟨w.heap.size, 2, none⟩ = some (.int .i64 c) := (by simp [World.cell?, hb1]); go_simp; (try with_reducible rfl))
        try simp only [Act.put, List.setIfInBounds_toArray, List.set_cons_zero, List.set_cons_succ]
        refine wpAnyH_take (i := 3) (oi := { dst := some 21, op := Op.fieldAddr 28 (Operand.tmp 2) 1, type := 0, pos := "ref.go:95", after := #[], guard := none }) (v := ?vba121r3o3) rfl (by kernel_rfl) (by kernel_rfl) (by kernel_rfl) (fun _ _ _ h => h) (Or.inl ⟨by rfl, ?hba121r3o3⟩) hS ?_
        case hba121r3o3 => (intro wx hx; skip; go_simp; (try with_reducible rfl))
        try simp only [Act.put, List.setIfInBounds_toArray, List.set_cons_zero, List.set_cons_succ]
        refine wpAnyH_take (i := 4) (oi := { dst := some 22, op := Op.load 3 (Operand.tmp 21), type := 3, pos := "ref.go:95", after := #[{ on := 3, ground := Ground.data }], guard := none }) (v := ?vba121r3o4) rfl (by kernel_rfl) (by kernel_rfl) (by kernel_rfl) (fun _ _ _ h => h) (Or.inl ⟨by rfl, ?hba121r3o4⟩) hS ?_
        case hba121r3o4 => (intro wx hx; have hb1 := hx.1; have f0 : wx.cell? ⟨w.heap.size, 0, none⟩ = some (.int .i64 a) := (by simp [World.cell?, hb1]); have f1 : wx.cell? ⟨w.heap.size, 1, none⟩ = some (.int .i64 b) := (by simp [World.cell?, hb1]); have f2 : wx.cell? ⟨w.heap.size, 2, none⟩ = some (.int .i64 c) := (by simp [World.cell?, hb1]); go_simp; (try with_reducible rfl))
        try simp only [Act.put, List.setIfInBounds_toArray, List.set_cons_zero, List.set_cons_succ]
        refine wpAnyH_take (i := 5) (oi := { dst := some 23, op := Op.binOp BinOp.mul 3 (Operand.const (Value.int IntKind.i64 16)) (Operand.tmp 22) 3, type := 3, pos := "ref.go:95", after := #[{ on := 4, ground := Ground.data }], guard := none }) (v := ?vba121r3o5) rfl (by kernel_rfl) (by kernel_rfl) (by kernel_rfl) (fun _ _ _ h => h) (Or.inl ⟨by rfl, ?hba121r3o5⟩) hS ?_
        case hba121r3o5 => (intro wx hx; skip; go_simp; (try with_reducible rfl))
        try simp only [Act.put, List.setIfInBounds_toArray, List.set_cons_zero, List.set_cons_succ]
        refine wpAnyH_take (i := 7) (oi := { dst := some 25, op := Op.move (Operand.tmp 1), type := 3, pos := "ref.go:95", after := #[], guard := none }) (v := ?vba121r3o7) rfl (by kernel_rfl) (by kernel_rfl) (by kernel_rfl) (fun _ _ _ h => h) (Or.inl ⟨by rfl, ?hba121r3o7⟩) hS ?_
        case hba121r3o7 => (intro wx hx; skip; go_simp; (try with_reducible rfl))
        try simp only [Act.put, List.setIfInBounds_toArray, List.set_cons_zero, List.set_cons_succ]
        refine wpAnyH_take (i := 8) (oi := { dst := some 26, op := Op.binOp BinOp.mul 3 (Operand.const (Value.int IntKind.i64 8)) (Operand.tmp 25) 3, type := 3, pos := "ref.go:95", after := #[{ on := 7, ground := Ground.data }], guard := none }) (v := ?vba121r3o8) rfl (by kernel_rfl) (by kernel_rfl) (by kernel_rfl) (fun _ _ _ h => h) (Or.inl ⟨by rfl, ?hba121r3o8⟩) hS ?_
        case hba121r3o8 => (intro wx hx; skip; go_simp; (try with_reducible rfl))
        try simp only [Act.put, List.setIfInBounds_toArray, List.set_cons_zero, List.set_cons_succ]
        refine wpAnyH_ready (rs := [1]) (by kernel_rfl) (by simp) ?_
        refine AllReadyH.cons (o := { dst := some 19, op := Op.call { callee := Callee.value (Operand.func 90), args := #[Operand.tmp 18], argTypes := #[28] }, type := 3, pos := "ref.go:95", after := #[{ on := 0, ground := Ground.data }], guard := none }) rfl (fun K hK => ?_) AllReadyH.nil
        go_simp
        refine (H2.out _).mono ?_
        rintro e w2 ⟨rfl, hgx⟩
        have hS1 := And.intro ((hgx.block _ (lt_of_block hS.1) (by simp)).trans hS.1) (grown_trans hS.2 hgx)
        refine hK.out _ _ ?hsba121r3o1 (fun hS => ?_)
        case hsba121r3o1 => (exact hS1)
        clear hK K
        try simp only [Act.put, List.setIfInBounds_toArray, List.set_cons_zero, List.set_cons_succ]
        refine wpAnyH_take (i := 2) (oi := { dst := some 20, op := Op.binOp BinOp.add 3 (Operand.tmp 19) (Operand.const (Value.int IntKind.i64 16)) 3, type := 3, pos := "ref.go:95", after := #[{ on := 1, ground := Ground.data }], guard := none }) (v := ?vba121r3o2) rfl (by kernel_rfl) (by kernel_rfl) (by kernel_rfl) (fun _ _ _ h => h) (Or.inl ⟨by rfl, ?hba121r3o2⟩) hS ?_
        case hba121r3o2 => (intro wx hx; skip; go_simp; (try with_reducible rfl))
        try simp only [Act.put, List.setIfInBounds_toArray, List.set_cons_zero, List.set_cons_succ]
        refine wpAnyH_take (i := 6) (oi := { dst := some 24, op := Op.binOp BinOp.add 3 (Operand.tmp 20) (Operand.tmp 23) 3, type := 3, pos := "ref.go:95", after := #[{ on := 2, ground := Ground.data }, { on := 5, ground := Ground.data }], guard := none }) (v := ?vba121r3o6) rfl (by kernel_rfl) (by kernel_rfl) (by kernel_rfl) (fun _ _ _ h => h) (Or.inl ⟨by rfl, ?hba121r3o6⟩) hS ?_
        case hba121r3o6 => (intro wx hx; skip; go_simp; (try with_reducible rfl))
        try simp only [Act.put, List.setIfInBounds_toArray, List.set_cons_zero, List.set_cons_succ]
        refine wpAnyH_take (i := 9) (oi := { dst := some 27, op := Op.binOp BinOp.add 3 (Operand.tmp 24) (Operand.tmp 26) 3, type := 3, pos := "ref.go:95", after := #[{ on := 6, ground := Ground.data }, { on := 8, ground := Ground.data }], guard := none }) (v := ?vba121r3o9) rfl (by kernel_rfl) (by kernel_rfl) (by kernel_rfl) (fun _ _ _ h => h) (Or.inl ⟨by rfl, ?hba121r3o9⟩) hS ?_
        case hba121r3o9 => (intro wx hx; skip; go_simp; (try with_reducible rfl))
        try simp only [Act.put, List.setIfInBounds_toArray, List.set_cons_zero, List.set_cons_succ]
        refine wpAnyH_take (i := 10) (oi := { dst := some 4, op := Op.assign (Operand.tmp 27), type := 3, pos := "ref.go:95", after := #[{ on := 9, ground := Ground.data }, { on := 1, ground := Ground.chain }, { on := 0, ground := Ground.phase }, { on := 1, ground := Ground.phase }, { on := 2, ground := Ground.phase }, { on := 3, ground := Ground.phase }, { on := 4, ground := Ground.phase }, { on := 5, ground := Ground.phase }, { on := 6, ground := Ground.phase }, { on := 7, ground := Ground.phase }, { on := 8, ground := Ground.phase }, { on := 9, ground := Ground.phase }], guard := none }) (v := ?vba121r3o10) rfl (by kernel_rfl) (by kernel_rfl) (by kernel_rfl) (fun _ _ _ h => h) (Or.inl ⟨by rfl, ?hba121r3o10⟩) hS ?_
        case hba121r3o10 => (intro wx hx; skip; go_simp; (try with_reducible rfl))
        try simp only [Act.put, List.setIfInBounds_toArray, List.set_cons_zero, List.set_cons_succ]
        refine wpAnyH_done (by kernel_rfl) ?_ _
        go_wp2
        go_ret
        exact ⟨congrArg (fun x => Ending.returned (.int .i64 x)) HE.out, hS.2⟩
      · rw [if_neg (fun q => h1 q.2.2)]
        have h0' : ¬ i < 0 := by omega
        have h1' : c ≤ i := by omega
        clear h
        go_enter Tryz.func121, Tryz.ntmps121
        go_wp2_with fail
        refine (H1.out _).mono ?_
        rintro e w1 ⟨rfl, hgx⟩
        have hb := (hgx.block _ (lt_of_block hb) (by simp)).trans hb
        have hg := grown_trans hg hgx
        clear hgx H1
        have f0 : w1.cell? ⟨w.heap.size, 0, none⟩ = some (.int .i64 a) := by simp [World.cell?, hb]
        have f1 : w1.cell? ⟨w.heap.size, 1, none⟩ = some (.int .i64 b) := by simp [World.cell?, hb]
        have f2 : w1.cell? ⟨w.heap.size, 2, none⟩ = some (.int .i64 c) := by simp [World.cell?, hb]
        go_wp2
        go_ret
        exact ⟨rfl, hg⟩
    · rw [if_neg (fun q => h0 q.2.1)]
      have h0' : i < 0 := by omega
      clear h
      go_enter Tryz.func121, Tryz.ntmps121
      go_wp2_with fail
      refine (H1.out _).mono ?_
      rintro e w1 ⟨rfl, hgx⟩
      have hb := (hgx.block _ (lt_of_block hb) (by simp)).trans hb
      have hg := grown_trans hg hgx
      clear hgx H1
      have f0 : w1.cell? ⟨w.heap.size, 0, none⟩ = some (.int .i64 a) := by simp [World.cell?, hb]
      have f1 : w1.cell? ⟨w.heap.size, 1, none⟩ = some (.int .i64 b) := by simp [World.cell?, hb]
      have f2 : w1.cell? ⟨w.heap.size, 2, none⟩ = some (.int .i64 c) := by simp [World.cell?, hb]
      go_wp2
      go_ret
      exact ⟨rfl, hg⟩
  · have h' : mayB a b c = false := by simpa using h
    rw [h'] at H1
    rw [if_neg (fun q => h q.1)]
    unfold gv at H1 ⊢
    clear h h'
    have hb : (w.alloc (.cells #[.int .i64 a, .int .i64 b, .int .i64 c] 28)).heap[w.heap.size]? = some (.cells #[.int .i64 a, .int .i64 b, .int .i64 c] 28 (0, 0)) := heap_alloc_new w _
    have hg := World.grownBy_alloc w (.cells #[.int .i64 a, .int .i64 b, .int .i64 c] 28) none
    go_enter Tryz.func121, Tryz.ntmps121
    go_wp2_with fail
    refine (H1.out _).mono ?_
    rintro e w1 ⟨rfl, hgx⟩
    have hb := (hgx.block _ (lt_of_block hb) (by simp)).trans hb
    have hg := grown_trans hg hgx
    clear hgx H1
    have f0 : w1.cell? ⟨w.heap.size, 0, none⟩ = some (.int .i64 a) := by simp [World.cell?, hb]
    have f1 : w1.cell? ⟨w.heap.size, 1, none⟩ = some (.int .i64 b) := by simp [World.cell?, hb]
    have f2 : w1.cell? ⟨w.heap.size, 2, none⟩ = some (.int .i64 c) := by simp [World.cell?, hb]
    go_wp2
    go_ret
    exact ⟨rfl, hg⟩

set_option maxHeartbeats 1000000 in
theorem RWords_any (a b c : Int) (w : World) : Calls Tryz.prog 49 #[gv a b c] w (IntIs (wordsV a b c) w) := by
  have H1 := Lib.hid (fun wx => RMay_any a b c wx)
  unfold wordsV
  by_cases h : mayB a b c = true
  · rw [h] at H1
    obtain ⟨q1, q2, q3, q4, q5, q6⟩ := mayB_yes h
    have H2 := Lib.hid (fun wx => maps_any a b c wx (by omega) (by omega))
    unfold gv at H1 H2 ⊢
    have hb : (w.alloc (.cells #[.int .i64 a, .int .i64 b, .int .i64 c] 28)).heap[w.heap.size]? = some (.cells #[.int .i64 a, .int .i64 b, .int .i64 c] 28 (0, 0)) := heap_alloc_new w _
    have hg := World.grownBy_alloc w (.cells #[.int .i64 a, .int .i64 b, .int .i64 c] 28) none
    rw [if_pos h]
    clear h
    go_enter Tryz.func49, Tryz.ntmps49
    go_wp2_with fail
    refine (H1.out _).mono ?_
    rintro e w1 ⟨rfl, hgx⟩
    have hb := (hgx.block _ (lt_of_block hb) (by simp)).trans hb
    have hg := grown_trans hg hgx
    clear hgx H1
    have f0 : w1.cell? ⟨w.heap.size, 0, none⟩ = some (.int .i64 a) := by simp [World.cell?, hb]
    have f1 : w1.cell? ⟨w.heap.size, 1, none⟩ = some (.int .i64 b) := by simp [World.cell?, hb]
    have f2 : w1.cell? ⟨w.heap.size, 2, none⟩ = some (.int .i64 c) := by simp [World.cell?, hb]
    have w1_ : IntKind.i64.wrap (16 * b) = 16 * b := IntWalk.i64_in _ ⟨by omega, by omega⟩
    have w2_ : IntKind.i64.wrap (8 * c) = 8 * c := IntWalk.i64_in _ ⟨by omega, by omega⟩
    have w3_ : IntKind.i64.wrap (264 + 208 * a + 16) = 264 + 208 * a + 16 := IntWalk.i64_in _ ⟨by omega, by omega⟩
    have w4_ : IntKind.i64.wrap (264 + 208 * a + 16 + 16 * b) = 264 + 208 * a + 16 + 16 * b := IntWalk.i64_in _ ⟨by omega, by omega⟩
    have w5_ : IntKind.i64.wrap (264 + 208 * a + 16 + 16 * b + 8 * c) = 264 + 208 * a + 16 + 16 * b + 8 * c := IntWalk.i64_in _ ⟨by omega, by omega⟩
    have he_ : 264 + 208 * a + 16 + 16 * b + 8 * c = 280 + 208 * a + 16 * b + 8 * c := by omega
    have HE := Lib.hid he_
    clear he_
    go_wp2_with fail
    refine wp_region_held_drew (S := fun w' => w'.heap[w.heap.size]? = some (.cells #[.int .i64 a, .int .i64 b, .int .i64 c] 28 (0, 0)) ∧ w.grownBy w' none) (by kernel_rfl) (⟨hb, grown_drew hg⟩) (fun hS => ?_)
    refine wpAnyH_take (i := 0) (oi := { dst := some 6, op := Op.load 28 (Operand.tmp 1), type := 28, pos := "ref.go:103", after := #[], guard := none }) (v := ?vwo49r3o0) rfl (by kernel_rfl) (by kernel_rfl) (by kernel_rfl) (fun _ _ _ h => h) (Or.inl ⟨by rfl, ?hwo49r3o0⟩) hS ?_
    case hwo49r3o0 => (intro wx hx; have hb1 := hx.1; have f0 : wx.cell? ⟨w.heap.size, 0, none⟩ = some (.int .i64 a) := (by simp [World.cell?, hb1]); have f1 : wx.cell? ⟨w.heap.size, 1, none⟩ = some (.int .i64 b) := (by simp [World.cell?, hb1]); have f2 : wx.cell? ⟨w.heap.size, 2, none⟩ = some (.int .i64 c) := (by simp [World.cell?, hb1]); go_simp; (try with_reducible rfl))
    try simp only [Act.put, List.setIfInBounds_toArray, List.set_cons_zero, List.set_cons_succ]
    refine wpAnyH_take (i := 3) (oi := { dst := some 9, op := Op.fieldAddr 28 (Operand.tmp 1) 1, type := 0, pos := "ref.go:103", after := #[], guard := none }) (v := ?vwo49r3o3) rfl (by kernel_rfl) (by kernel_rfl) (by kernel_rfl) (fun _ _ _ h => h) (Or.inl ⟨by rfl, ?hwo49r3o3⟩) hS ?_
    case hwo49r3o3 => (intro wx hx; skip; go_simp; (try with_reducible rfl))
    try simp only [Act.put, List.setIfInBounds_toArray, List.set_cons_zero, List.set_cons_succ]
    refine wpAnyH_take (i := 4) (oi := { dst := some 10, op := Op.load 3 (Operand.tmp 9), type := 3, pos := "ref.go:103", after := #[{ on := 3, ground := Ground.data }], guard := none }) (v := ?vwo49r3o4) rfl (by kernel_rfl) (by kernel_rfl) (by kernel_rfl) (fun _ _ _ h => h) (Or.inl ⟨by rfl, ?hwo49r3o4⟩) hS ?_
    case hwo49r3o4 => (intro wx hx; have hb1 := hx.1; have f0 : wx.cell? ⟨w.heap.size, 0, none⟩ = some (.int .i64 a) := (by simp [World.cell?, hb1]); have f1 : wx.cell? ⟨w.heap.size, 1, none⟩ = some (.int .i64 b) := (by simp [World.cell?, hb1]); have f2 : wx.cell? ⟨w.heap.size, 2, none⟩ = some (.int .i64 c) := (by simp [World.cell?, hb1]); go_simp; (try with_reducible rfl))
    try simp only [Act.put, List.setIfInBounds_toArray, List.set_cons_zero, List.set_cons_succ]
    refine wpAnyH_take (i := 5) (oi := { dst := some 11, op := Op.binOp BinOp.mul 3 (Operand.const (Value.int IntKind.i64 16)) (Operand.tmp 10) 3, type := 3, pos := "ref.go:103", after := #[{ on := 4, ground := Ground.data }], guard := none }) (v := ?vwo49r3o5) rfl (by kernel_rfl) (by kernel_rfl) (by kernel_rfl) (fun _ _ _ h => h) (Or.inl ⟨by rfl, ?hwo49r3o5⟩) hS ?_
    case hwo49r3o5 => (intro wx hx; skip; go_simp; (try with_reducible rfl))
    try simp only [Act.put, List.setIfInBounds_toArray, List.set_cons_zero, List.set_cons_succ]
    refine wpAnyH_take (i := 7) (oi := { dst := some 13, op := Op.fieldAddr 28 (Operand.tmp 1) 2, type := 0, pos := "ref.go:103", after := #[], guard := none }) (v := ?vwo49r3o7) rfl (by kernel_rfl) (by kernel_rfl) (by kernel_rfl) (fun _ _ _ h => h) (Or.inl ⟨by rfl, ?hwo49r3o7⟩) hS ?_
    case hwo49r3o7 => (intro wx hx; skip; go_simp; (try with_reducible rfl))
    try simp only [Act.put, List.setIfInBounds_toArray, List.set_cons_zero, List.set_cons_succ]
    refine wpAnyH_take (i := 8) (oi := { dst := some 14, op := Op.load 3 (Operand.tmp 13), type := 3, pos := "ref.go:103", after := #[{ on := 7, ground := Ground.data }], guard := none }) (v := ?vwo49r3o8) rfl (by kernel_rfl) (by kernel_rfl) (by kernel_rfl) (fun _ _ _ h => h) (Or.inl ⟨by rfl, ?hwo49r3o8⟩) hS ?_
    case hwo49r3o8 => (intro wx hx; have hb1 := hx.1; have f0 : wx.cell? ⟨w.heap.size, 0, none⟩ = some (.int .i64 a) := (by simp [World.cell?, hb1]); have f1 : wx.cell? ⟨w.heap.size, 1, none⟩ = some (.int .i64 b) := (by simp [World.cell?, hb1]); have f2 : wx.cell? ⟨w.heap.size, 2, none⟩ = some (.int .i64 c) := (by simp [World.cell?, hb1]); go_simp; (try with_reducible rfl))
    try simp only [Act.put, List.setIfInBounds_toArray, List.set_cons_zero, List.set_cons_succ]
    refine wpAnyH_take (i := 9) (oi := { dst := some 15, op := Op.binOp BinOp.mul 3 (Operand.const (Value.int IntKind.i64 8)) (Operand.tmp 14) 3, type := 3, pos := "ref.go:103", after := #[{ on := 8, ground := Ground.data }], guard := none }) (v := ?vwo49r3o9) rfl (by kernel_rfl) (by kernel_rfl) (by kernel_rfl) (fun _ _ _ h => h) (Or.inl ⟨by rfl, ?hwo49r3o9⟩) hS ?_
    case hwo49r3o9 => (intro wx hx; skip; go_simp; (try with_reducible rfl))
    try simp only [Act.put, List.setIfInBounds_toArray, List.set_cons_zero, List.set_cons_succ]
    refine wpAnyH_ready (rs := [1]) (by kernel_rfl) (by simp) ?_
    refine AllReadyH.cons (o := { dst := some 7, op := Op.call { callee := Callee.value (Operand.func 90), args := #[Operand.tmp 6], argTypes := #[28] }, type := 3, pos := "ref.go:103", after := #[{ on := 0, ground := Ground.data }], guard := none }) rfl (fun K hK => ?_) AllReadyH.nil
    go_simp
    refine (H2.out _).mono ?_
    rintro e w2 ⟨rfl, hgx⟩
    have hS1 := And.intro ((hgx.block _ (lt_of_block hS.1) (by simp)).trans hS.1) (grown_trans hS.2 hgx)
    refine hK.out _ _ ?hswo49r3o1 (fun hS => ?_)
    case hswo49r3o1 => (exact hS1)
    clear hK K
    try simp only [Act.put, List.setIfInBounds_toArray, List.set_cons_zero, List.set_cons_succ]
    refine wpAnyH_take (i := 2) (oi := { dst := some 8, op := Op.binOp BinOp.add 3 (Operand.tmp 7) (Operand.const (Value.int IntKind.i64 16)) 3, type := 3, pos := "ref.go:103", after := #[{ on := 1, ground := Ground.data }], guard := none }) (v := ?vwo49r3o2) rfl (by kernel_rfl) (by kernel_rfl) (by kernel_rfl) (fun _ _ _ h => h) (Or.inl ⟨by rfl, ?hwo49r3o2⟩) hS ?_
    case hwo49r3o2 => (intro wx hx; skip; go_simp; (try with_reducible rfl))
    try simp only [Act.put, List.setIfInBounds_toArray, List.set_cons_zero, List.set_cons_succ]
    refine wpAnyH_take (i := 6) (oi := { dst := some 12, op := Op.binOp BinOp.add 3 (Operand.tmp 8) (Operand.tmp 11) 3, type := 3, pos := "ref.go:103", after := #[{ on := 2, ground := Ground.data }, { on := 5, ground := Ground.data }], guard := none }) (v := ?vwo49r3o6) rfl (by kernel_rfl) (by kernel_rfl) (by kernel_rfl) (fun _ _ _ h => h) (Or.inl ⟨by rfl, ?hwo49r3o6⟩) hS ?_
    case hwo49r3o6 => (intro wx hx; skip; go_simp; (try with_reducible rfl))
    try simp only [Act.put, List.setIfInBounds_toArray, List.set_cons_zero, List.set_cons_succ]
    refine wpAnyH_take (i := 10) (oi := { dst := some 16, op := Op.binOp BinOp.add 3 (Operand.tmp 12) (Operand.tmp 15) 3, type := 3, pos := "ref.go:103", after := #[{ on := 6, ground := Ground.data }, { on := 9, ground := Ground.data }], guard := none }) (v := ?vwo49r3o10) rfl (by kernel_rfl) (by kernel_rfl) (by kernel_rfl) (fun _ _ _ h => h) (Or.inl ⟨by rfl, ?hwo49r3o10⟩) hS ?_
    case hwo49r3o10 => (intro wx hx; skip; go_simp; (try with_reducible rfl))
    try simp only [Act.put, List.setIfInBounds_toArray, List.set_cons_zero, List.set_cons_succ]
    refine wpAnyH_take (i := 11) (oi := { dst := some 2, op := Op.assign (Operand.tmp 16), type := 3, pos := "ref.go:103", after := #[{ on := 10, ground := Ground.data }, { on := 1, ground := Ground.chain }, { on := 0, ground := Ground.phase }, { on := 1, ground := Ground.phase }, { on := 2, ground := Ground.phase }, { on := 3, ground := Ground.phase }, { on := 4, ground := Ground.phase }, { on := 5, ground := Ground.phase }, { on := 6, ground := Ground.phase }, { on := 7, ground := Ground.phase }, { on := 8, ground := Ground.phase }, { on := 9, ground := Ground.phase }, { on := 10, ground := Ground.phase }], guard := none }) (v := ?vwo49r3o11) rfl (by kernel_rfl) (by kernel_rfl) (by kernel_rfl) (fun _ _ _ h => h) (Or.inl ⟨by rfl, ?hwo49r3o11⟩) hS ?_
    case hwo49r3o11 => (intro wx hx; skip; go_simp; (try with_reducible rfl))
    try simp only [Act.put, List.setIfInBounds_toArray, List.set_cons_zero, List.set_cons_succ]
    refine wpAnyH_done (by kernel_rfl) ?_ _
    go_wp2
    go_ret
    exact ⟨congrArg (fun x => Ending.returned (.int .i64 x)) HE.out, hS.2⟩
  · have h' : mayB a b c = false := by simpa using h
    rw [h'] at H1
    rw [if_neg h]
    unfold gv at H1 ⊢
    clear h h'
    have hb : (w.alloc (.cells #[.int .i64 a, .int .i64 b, .int .i64 c] 28)).heap[w.heap.size]? = some (.cells #[.int .i64 a, .int .i64 b, .int .i64 c] 28 (0, 0)) := heap_alloc_new w _
    have hg := World.grownBy_alloc w (.cells #[.int .i64 a, .int .i64 b, .int .i64 c] 28) none
    go_enter Tryz.func49, Tryz.ntmps49
    go_wp2_with fail
    refine (H1.out _).mono ?_
    rintro e w1 ⟨rfl, hgx⟩
    have hb := (hgx.block _ (lt_of_block hb) (by simp)).trans hb
    have hg := grown_trans hg hgx
    clear hgx H1
    have f0 : w1.cell? ⟨w.heap.size, 0, none⟩ = some (.int .i64 a) := by simp [World.cell?, hb]
    have f1 : w1.cell? ⟨w.heap.size, 1, none⟩ = some (.int .i64 b) := by simp [World.cell?, hb]
    have f2 : w1.cell? ⟨w.heap.size, 2, none⟩ = some (.int .i64 c) := by simp [World.cell?, hb]
    go_wp2
    go_ret
    exact ⟨rfl, hg⟩
end Go.Proofs.YtpdofdloclmbdaaGreat
end
