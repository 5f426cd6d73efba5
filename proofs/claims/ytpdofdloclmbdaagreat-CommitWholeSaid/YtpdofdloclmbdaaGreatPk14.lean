/- Texts of ours, packed. -/
import Derived.Test.YtpdofdloclmbdaaGreatPk12
import Derived.Test.YtpdofdloclmbdaaGreatPk4
import Derived.Test.YtpdofdloclmbdaaGreatPk10
section
/- Package layout: to what a word belongs. -/
-- OPTIONAL
namespace Go.Proofs.YtpdofdloclmbdaaGreat
open Go.RowKit Go.Grommet

def WhereIs (v : Int × Int × Int × Int) (w : World) (e : Ending) (w' : World) : Prop := e = .returned (.tuple #[.int .u8 v.1, .int .i64 v.2.1, .int .i64 v.2.2.1, .int .i64 v.2.2.2]) ∧ w.grownBy w' none

set_option maxHeartbeats 1000000 in
theorem find_neg (g : Nat) (n : Nat) (x : Int) (w : World) (hx : x < 0) :
    Calls Tryz.prog 122 #[.slice (some ⟨g, 0, none⟩) n n, .int .i64 x] w (FindIs (0, 0, 0) w) := by
  go_enter Tryz.func122, Tryz.ntmps122
  go_wp2
  go_ret3
  exact ⟨rfl, World.grownBy.refl _ _⟩

theorem findR_rest (l : List Row) (x : Int) (hx : 0 ≤ x) (h : ∀ r ∈ l, r.ok) : 0 ≤ (findR l x).2.2 ∧ (findR l x).2.2 ≤ 1000 := by
  induction l generalizing x with
  | nil => simp [findR]
  | cons r t ih =>
    rw [findR]
    split
    · obtain ⟨_, _, _, _, h4, h5⟩ := h r (by simp)
      have a := Int.emod_nonneg x (show r.size ≠ 0 by omega)
      have b := Int.emod_lt_of_pos x (show 0 < r.size by omega)
      exact ⟨a, by dsimp only; omega⟩
    · exact ih _ (by omega) (fun y hy => h y (by simp [hy]))

set_option maxHeartbeats 2000000 in
theorem Where_any (a b c x : Int) (w : World) (hx1 : x ≤ 9223372036854775807) : Calls Tryz.prog 108 #[gv a b c, .int .i64 x] w (WhereIs (whereV a b c x) w) := by
  have H1 := Lib.hid (fun wx => May_any a b c wx)
  have HP := Lib.hid (fun wx => places_any a b c wx)
  unfold gv at H1 HP ⊢
  by_cases h : mayB a b c = true
  · rw [h] at H1
    by_cases hx : 0 ≤ x
    · have HF := Lib.hid (fun g wx (ht : Tab wx g (placesR a b c)) => find_any g (placesR a b c) 7 x wx ht rfl (by decide) (places_ok h) hx hx1)
      have hr := findR_rest (placesR a b c) x hx (places_ok h)
      have hv : whereV a b c x = if (findR (placesR a b c) x).1 = 2 then ((findR withinR (findR (placesR a b c) x).2.2).1, (findR (placesR a b c) x).2.1, (findR withinR (findR (placesR a b c) x).2.2).2.1, (findR withinR (findR (placesR a b c) x).2.2).2.2) else ((findR (placesR a b c) x).1, (findR (placesR a b c) x).2.1, 0, (findR (placesR a b c) x).2.2) := by
        unfold whereV; rw [if_pos ⟨h, hx⟩]
      generalize findR (placesR a b c) x = F at HF hr hv
      obtain ⟨k, i, r⟩ := F
      dsimp only at hr hv
      have HT := Lib.hid (fun wx => within_any wx)
      have HF2 := Lib.hid (fun g wx (ht : Tab wx g withinR) => find_any g withinR 3 r wx ht rfl (by decide) within_ok hr.1 (by omega))
      have Hx1 := Lib.hid hx1
      by_cases hk : k = 2
      · rw [if_pos hk] at hv
        subst hk
        generalize findR withinR r = G at HF2 hv
        obtain ⟨k2, j, r2⟩ := G
        dsimp only at hv
        have HV := Lib.hid hv
        clear hv h hx1 hr
        go_enter Tryz.func108, Tryz.ntmps108
        go_wp2_with fail
        refine (H1.out _).mono ?_
        rintro e w1 ⟨rfl, hg1⟩
        have hb : w1.heap[w.heap.size]? = some (.cells #[.int .i64 a, .int .i64 b, .int .i64 c] 26 (0, 0)) := (hg1.block _ (by simp) (by simp)).trans (heap_alloc_new w _)
        have f0 : w1.cell? ⟨w.heap.size, 0, none⟩ = some (.int .i64 a) := by simp [World.cell?, hb]
        have f1 : w1.cell? ⟨w.heap.size, 1, none⟩ = some (.int .i64 b) := by simp [World.cell?, hb]
        have f2 : w1.cell? ⟨w.heap.size, 2, none⟩ = some (.int .i64 c) := by simp [World.cell?, hb]
        have hg := grown_trans (World.grownBy_alloc w _ none) hg1
        clear hg1 hb H1
        go_wp2_with fail
        refine (HP.out _).mono ?_
        rintro e w2 ⟨g, rfl, ht, hg2⟩
        have hg := grown_trans hg hg2
        clear hg2 HP f0 f1 f2
        go_wp2_with fail
        refine (HF.out g _ ht).mono ?_
        rintro e w3 ⟨rfl, hg3⟩
        have hg := grown_trans hg hg3
        clear hg3 HF ht
        go_wp2_with fail
        refine (HT.out _).mono ?_
        rintro e w4 ⟨g, rfl, ht, hg4⟩
        have hg := grown_trans hg hg4
        clear hg4 HT
        go_wp2_with fail
        refine (HF2.out g _ ht).mono ?_
        rintro e w5 ⟨rfl, hg5⟩
        have hg := grown_trans hg hg5
        go_wp2
        rw [HV.out]
        exact bodyPost_ret (v := .tuple #[.int .u8 k2, .int .i64 i, .int .i64 j, .int .i64 r2]) (by simp [results, Tryz.results108, go_sem]) rfl ⟨rfl, hg⟩
      · rw [if_neg hk] at hv
        have hk' : (k == 2) = false := by simpa using hk
        have HV := Lib.hid hv
        clear hv h hx1 hr hk HF2 HT
        go_enter Tryz.func108, Tryz.ntmps108
        go_wp2_with fail
        refine (H1.out _).mono ?_
        rintro e w1 ⟨rfl, hg1⟩
        have hb : w1.heap[w.heap.size]? = some (.cells #[.int .i64 a, .int .i64 b, .int .i64 c] 26 (0, 0)) := (hg1.block _ (by simp) (by simp)).trans (heap_alloc_new w _)
        have f0 : w1.cell? ⟨w.heap.size, 0, none⟩ = some (.int .i64 a) := by simp [World.cell?, hb]
        have f1 : w1.cell? ⟨w.heap.size, 1, none⟩ = some (.int .i64 b) := by simp [World.cell?, hb]
        have f2 : w1.cell? ⟨w.heap.size, 2, none⟩ = some (.int .i64 c) := by simp [World.cell?, hb]
        have hg := grown_trans (World.grownBy_alloc w _ none) hg1
        clear hg1 hb H1
        go_wp2_with fail
        refine (HP.out _).mono ?_
        rintro e w2 ⟨g, rfl, ht, hg2⟩
        have hg := grown_trans hg hg2
        clear hg2 HP f0 f1 f2
        go_wp2_with fail
        refine (HF.out g _ ht).mono ?_
        rintro e w3 ⟨rfl, hg3⟩
        have hg := grown_trans hg hg3
        go_wp2
        rw [HV.out]
        exact bodyPost_ret (v := .tuple #[.int .u8 k, .int .i64 i, .int .i64 0, .int .i64 r]) (by simp [results, Tryz.results108, go_sem]) rfl ⟨rfl, hg⟩
    · have hv : whereV a b c x = (0, 0, 0, 0) := by unfold whereV; rw [if_neg (fun h => hx h.2)]
      have HF := Lib.hid (fun g wx => find_neg g 7 x wx (by omega))
      have HV := Lib.hid hv
      clear hv h hx1 hx
      go_enter Tryz.func108, Tryz.ntmps108
      go_wp2_with fail
      refine (H1.out _).mono ?_
      rintro e w1 ⟨rfl, hg1⟩
      have hb : w1.heap[w.heap.size]? = some (.cells #[.int .i64 a, .int .i64 b, .int .i64 c] 26 (0, 0)) := (hg1.block _ (by simp) (by simp)).trans (heap_alloc_new w _)
      have f0 : w1.cell? ⟨w.heap.size, 0, none⟩ = some (.int .i64 a) := by simp [World.cell?, hb]
      have f1 : w1.cell? ⟨w.heap.size, 1, none⟩ = some (.int .i64 b) := by simp [World.cell?, hb]
      have f2 : w1.cell? ⟨w.heap.size, 2, none⟩ = some (.int .i64 c) := by simp [World.cell?, hb]
      have hg := grown_trans (World.grownBy_alloc w _ none) hg1
      clear hg1 hb H1
      go_wp2_with fail
      refine (HP.out _).mono ?_
      rintro e w2 ⟨g, rfl, ht, hg2⟩
      have hg := grown_trans hg hg2
      clear hg2 HP f0 f1 f2
      go_wp2_with fail
      refine (HF.out g _).mono ?_
      rintro e w3 ⟨rfl, hg3⟩
      have hg := grown_trans hg hg3
      go_wp2
      rw [HV.out]
      exact bodyPost_ret (v := .tuple #[.int .u8 0, .int .i64 0, .int .i64 0, .int .i64 0]) (by simp [results, Tryz.results108, go_sem]) rfl ⟨rfl, hg⟩
  · have h' : mayB a b c = false := by simpa using h
    rw [h'] at H1
    have hv : whereV a b c x = (0, 0, 0, 0) := by unfold whereV; rw [if_neg (fun q => h q.1)]
    have HV := Lib.hid hv
    clear hv h hx1
    go_enter Tryz.func108, Tryz.ntmps108
    go_wp2_with fail
    refine (H1.out _).mono ?_
    rintro e w1 ⟨rfl, hg1⟩
    have hg := grown_trans (World.grownBy_alloc w _ none) hg1
    go_wp2
    rw [HV.out]
    exact bodyPost_ret (v := .tuple #[.int .u8 0, .int .i64 0, .int .i64 0, .int .i64 0]) (by simp [results, Tryz.results108, go_sem]) rfl ⟨rfl, hg⟩
end Go.Proofs.YtpdofdloclmbdaaGreat
end
