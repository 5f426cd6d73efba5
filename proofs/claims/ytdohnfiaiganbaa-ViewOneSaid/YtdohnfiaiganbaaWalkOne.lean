/- ViewOne, walked. -/
import Derived.Test.YtdohnfiaiganbaaViewI
import Derived.Test.YtdohnfiaiganbaaViewMath2
import Derived.Test.YtdohnfiaiganbaaStps
import Derived.Deep.RegionWith
namespace Go.Proofs.Ytdohnfiaiganbaa.viewOne
open Go.RowKit Go.Grommet

set_option maxHeartbeats 1000000 in
theorem walk_far1 (a0 : Option Addr) (l0 c0 : Nat) (a1 : Option Addr) (l1 c1 : Nat) (a2 a3 : Int) (w : World) (h : 300 < l0) :
    Calls Try.prog 8 #[.slice a0 l0 c0, .slice a1 l1 c1, .int .i64 a2, .int .u64 a3] w (WorksIs w) := by
  have g1 : (300 : Int) < (l0 : Int) := by omega
  go_enter Try.func8, Try.ntmps8
  go_wp2_with fail
  refine (works_any _).mono ?_
  rintro e w5 ⟨rfl, hg⟩
  go_wp2
  go_ret
  exact ⟨rfl, hg⟩
set_option maxHeartbeats 1000000 in
theorem walk_far2 (a0 : Option Addr) (l0 c0 : Nat) (a1 : Option Addr) (l1 c1 : Nat) (a2 a3 : Int) (w : World) (h0 : ¬ 300 < l0) (h : 60 < l1) :
    Calls Try.prog 8 #[.slice a0 l0 c0, .slice a1 l1 c1, .int .i64 a2, .int .u64 a3] w (WorksIs w) := by
  have g0 : ¬ (300 : Int) < (l0 : Int) := by omega
  have g1 : (60 : Int) < (l1 : Int) := by omega
  go_enter Try.func8, Try.ntmps8
  go_wp2_with fail
  refine (works_any _).mono ?_
  rintro e w5 ⟨rfl, hg⟩
  go_wp2
  go_ret
  exact ⟨rfl, hg⟩

def stp (s : Stp) : Int × Nat := (s.ad, s.vv.toNat)

set_option maxRecDepth 100000 in
set_option maxHeartbeats 4000000 in
theorem walk_at (a0 : Option Addr) (l0 c0 : Nat) (xs : List Nat) (a1 : Option Addr) (l1 c1 : Nat) (z1 : List Stp) (a2 : Int) (v : Nat) (w : World) (hx : Words w a0 l0 xs) (hnil : a0 = none → l0 = 0 ∧ c0 = 0) (w1 : StpsIn w a1 l1 z1) (hv : v < 18446744073709551616)
    (h0 : ¬ 300 < l0) (h1 : ¬ 60 < l1) :
    Calls Try.prog 8 #[.slice a0 l0 c0, .slice a1 l1 c1, .int .i64 a2, .int .u64 (v : Int)] w (WorksIs w) := by
  have b0 : ¬ (300 : Int) < (l0 : Int) := by omega
  have b1 : ¬ (60 : Int) < (l1 : Int) := by omega
  have HX := Lib.hid hx.len
  have HZ := Lib.hid w1.1
  have HN := Lib.hid (NewH a0 l0 c0 xs w w [] (Own.nil w) hx (by omega) hnil)
  go_enter Try.func8, Try.ntmps8
  go_wp2_with fail
  refine HN.out.mono ?_
  rintro e u1 ⟨g, rfl, hO⟩
  clear HN
  have HN := Lib.hid (NewH a0 l0 c0 xs w u1 _ hO (hx.keep hO.grown (by simp)) (by omega) hnil)
  clear hO
  go_wp2_with fail
  refine HN.out.mono ?_
  rintro e u2 ⟨o, rfl, hO⟩
  clear HN
  obtain ⟨S, HS⟩ : ∃ S, Hid (S = z1.map stp) := ⟨_, Lib.hid rfl⟩
  have HSl : Hid (S.length = l1) := Lib.hid (by rw [HS.out, List.length_map, HZ.out])
  have hO : Own w u2 [viewP g xs (runP xs (S.take 0)), viewP o xs []] := hO
  replace hO := Lib.hid hO
  go_wp2_with fail
  go_loopw [11] (fun i wr => ∃ k : Nat, k ≤ l1 ∧ i = .int .i64 (k : Int) ∧ Hid (Own w wr [viewP g xs (runP xs (S.take k)), viewP o xs []])) (fun i _ => l1 - (intOf i).toNat)
  case atStart => exact ⟨0, Nat.zero_le _, rfl, hO⟩
  case round =>
    clear hO
    obtain ⟨k, hk, rfl, hO⟩ := hrel
    have k0 : (0 : Int) ≤ (k : Int) := by omega
    by_cases hlt : k < l1
    · have hlt' : (k : Int) < (l1 : Int) := by omega
      have hkz : k < z1.length := by rw [HZ.out]; exact hlt
      obtain ⟨s, hs⟩ : ∃ s, z1[k]? = some s := ⟨_, List.getElem?_eq_getElem hkz⟩
      have hsm := w1.2.1 s (List.mem_of_getElem? hs)
      obtain ⟨q, p, rfl, d0, d1, d2⟩ := (w1.grown hO.out.grown).2.2 k s hs
      have bv := bounds_u64 hsm.2.2
      obtain ⟨V, hV⟩ : ∃ V : Nat, s.vv = (V : Int) := ⟨s.vv.toNat, by omega⟩
      rw [hV] at d2
      have HT : Hid (S.take (k + 1) = S.take k ++ [(s.ad, V)]) := Lib.hid (by
        rw [take_snocD S k (0, 0) (by rw [HSl.out]; exact hlt), HS.out, List.getD_eq_getElem?_getD, List.getElem?_map, hs]
        show _ ++ [(s.ad, s.vv.toNat)] = _
        rw [hV, Int.toNat_natCast])
      have HP := Lib.hid (PutH 0 g xs (runP xs (S.take k)) s.ad V _ w wr.drew _ _ (hO.out.quiet (grown_drew (World.grownBy.refl _ _))) rfl (by omega) rfl rfl)
      generalize s.ad = A at d1 HT HP
      clear hs hsm bv hV d0
      go_wp2_with fail
      go_still_tail 11, (by kernel_rfl)
      change wpList _ _ _ _ _ wr.drew
      go_wp2_with fail
      refine HP.out.mono ?_
      rintro e u3 ⟨rfl, hO3⟩
      clear HP
      replace hO3 := Lib.hid hO3
      clear d1 d2
      go_wp2
      go_roundw
      case rel => exact ⟨k + 1, by omega, by go_num, by rw [HT.out, runP_snoc]; exact hO3⟩
      case measure => simp [intOf]; omega
    · obtain rfl : k = l1 := by omega
      rw [List.take_of_length_le (by rw [HSl.out]; exact Nat.le_refl _)] at hO
      obtain ⟨L, HL⟩ : ∃ L, Hid (L = runP xs S) := ⟨_, Lib.hid rfl⟩
      have hLl : L.length < 96 := by
        have := runP_length xs S
        rw [HSl.out, ← HL.out] at this
        omega
      rw [← HL.out] at hO
      clear HL
      obtain ⟨hW, hxs, hxl⟩ := Own.wl hO.out 0 rfl
      have HF := Lib.hid (FlatH 0 g xs L w wr _ hO.out rfl)
      try rw [HX.out] at HF
      clear hO
      go_wp2_with fail
      refine HF.out.mono ?_
      rintro e u3 ⟨ad1, cp1, rfl, hO⟩
      clear HF
      have HP := Lib.hid (PutH 0 g xs L a2 v _ w u3 _ _ hO rfl hv rfl rfl)
      clear hO
      obtain ⟨M, HM⟩ : ∃ M, Hid (M = putI xs L a2 v) := ⟨_, Lib.hid rfl⟩
      obtain ⟨E, HE⟩ : ∃ E, Hid (E = putEI xs L a2) := ⟨_, Lib.hid rfl⟩
      rw [← HM.out, ← HE.out] at HP
      try rw [HX.out] at HP
      go_wp2_with fail
      refine HP.out.mono ?_
      rintro e u4 ⟨rfl, hO⟩
      clear HP
      have hO : Own w u4 [viewP g xs M, viewP o xs [], rowP 29 1 (.slice ad1 l0 cp1) l0 ((flatV xs L).map wv)] := hO
      have HF := Lib.hid (FlatH 0 g xs M w u4 _ hO rfl)
      obtain ⟨hWM, _, _⟩ := Own.wl hO 0 rfl
      clear hO
      try rw [HX.out] at HF
      have HG : Hid (∀ i : Nat, i < l0 → (flatV xs M).getD i 0 = (if (i : Int) = a2 then v else (flatV xs L).getD i 0) ∧ gotI xs M (i : Int) = (flatV xs M).getD i 0 ∧ gotI xs [] (i : Int) = xs.getD i 0) := Lib.hid (by
        intro i hi
        have hi' : i < xs.length := by rw [HX.out]; exact hi
        have hin : 0 ≤ (i : Int) ∧ (i : Int) < (xs.length : Int) := ⟨by omega, by omega⟩
        refine ⟨?_, ?_, ?_⟩
        · rw [flat_get hWM i hi', flat_get hW i hi', HM.out]
          unfold putI
          split
          · rename_i hr
            rw [got_put (.inl hLl)]
            by_cases h : (i : Int) = a2
            · rw [if_pos h, if_pos (by omega)]
            · rw [if_neg h, if_neg (by omega)]
          · rename_i hr
            rw [if_neg (by intro h; subst h; exact hr hin)]
        · unfold gotI
          rw [if_pos hin, Int.toNat_natCast, flat_get hWM i hi']
        · unfold gotI
          rw [if_pos hin, Int.toNat_natCast]
          rfl)
      have hsL := flatV_small hxs hW.val
      have hsM := flatV_small hxs hWM.val
      have HsL := Lib.hid hsL
      have HsM := Lib.hid hsM
      obtain ⟨B, hE, hc⟩ : ∃ B : Bool, ((E : Int) == 0) = B ∧ ((a2 < 0 ∧ B = false) ∨ (0 ≤ a2 ∧ a2 < (l0 : Int) ∧ B = true) ∨ (0 ≤ a2 ∧ ¬ a2 < (l0 : Int) ∧ B = false)) := by
        refine ⟨_, rfl, ?_⟩
        by_cases hr : 0 ≤ a2 ∧ a2 < (xs.length : Int)
        · refine .inr (.inl ⟨hr.1, by rw [← HX.out]; exact hr.2, ?_⟩)
          rw [HE.out]; unfold putEI; rw [if_pos hr]; unfold putE
          split
          · rfl
          · rw [if_neg (by omega)]; rfl
        · have : ((E : Int) == 0) = false := by rw [HE.out]; unfold putEI; rw [if_neg hr]; rfl
          rw [this]
          rw [HX.out] at hr
          by_cases hn : a2 < 0
          · exact .inl ⟨hn, rfl⟩
          · exact .inr (.inr ⟨by omega, by omega, rfl⟩)
      clear hW hWM hxs hxl hLl hsL hsM
      have e1 : ((l0 : Int) != (l0 : Int)) = false := by simp
      rcases hc with ⟨hc, rfl⟩ | ⟨hc, hc', rfl⟩ | ⟨hc, hc', rfl⟩
      all_goals
        go_wp2_with fail
        refine HF.out.mono ?_
        rintro e u5 ⟨ad2, cp2, rfl, hO⟩
        clear HF
        have hO : Own w u5 [viewP g xs M, viewP o xs [], rowP 29 1 (.slice ad1 l0 cp1) l0 ((flatV xs L).map wv), rowP 29 1 (.slice ad2 l0 cp2) l0 ((flatV xs M).map wv)] := hO
        replace hO := Lib.hid hO
        go_wp2_with fail
        go_loopw [15] (fun i wr => ∃ j : Nat, j ≤ l0 ∧ i = .int .i64 (j : Int) ∧ Hid (Own w wr [viewP g xs M, viewP o xs [], rowP 29 1 (.slice ad1 l0 cp1) l0 ((flatV xs L).map wv), rowP 29 1 (.slice ad2 l0 cp2) l0 ((flatV xs M).map wv)])) (fun i _ => l0 - (intOf i).toNat)
        case atStart => exact ⟨0, Nat.zero_le _, rfl, hO⟩
        case round =>
          clear hO
          obtain ⟨j, hj, rfl, hO⟩ := hrel
          have j0 : (0 : Int) ≤ (j : Int) := by omega
          by_cases hlt : j < l0
          · have hlt' : (j : Int) < (l0 : Int) := by omega
            obtain ⟨G1, G2, G3⟩ := HG.out j hlt
            obtain ⟨q1, rfl, d1, _, hc1⟩ := Own.word hO.out 2 rfl (by rw [flatV_length]; exact HX.out) j hlt
            obtain ⟨q2, rfl, d2, _, hc2⟩ := Own.word hO.out 3 rfl (by rw [flatV_length]; exact HX.out) j hlt
            obtain ⟨q0, o0, rfl, d0⟩ := (hx.keep hO.out.grown (by simp)).cell j hlt
            have HQ1 := Lib.hid (fun n => GetH 0 g xs M (j : Int) w (wr.drewN n) _ (hO.out.quiet (grown_drewN _ _ _)) rfl)
            have HQ2 := Lib.hid (fun n => GetH 1 o xs [] (j : Int) w (wr.drewN n) _ (hO.out.quiet (grown_drewN _ _ _)) rfl)
            rw [G2] at HQ1
            rw [G3] at HQ2
            generalize xs.getD j 0 = X at d0 HQ2
            generalize (flatV xs L).getD j 0 = U at d1 G1
            generalize (flatV xs M).getD j 0 = T at d2 G1 HQ1
            have x1 : ((X : Int) != (X : Int)) = false := by simp
            have x2 : ((T : Int) != (T : Int)) = false := by simp
            by_cases hja : (j : Int) = a2
            · rw [if_pos hja] at G1
              subst G1
              have x3 : ((j : Int) == a2) = true := by simpa using hja
              clear hja G2 G3 HG
              go_wp2_with fail
              go_quiet ((first | (go_at_call_of 12 (Value.pointer (some ⟨g, 0, none⟩)); exact Calls.quiet_of_same (HQ1.out _)) | (go_at_call_of 12 (Value.pointer (some ⟨o, 0, none⟩)); exact Calls.quiet_of_same (HQ2.out _))))
              clear HQ1 HQ2 d0 d1 d2
              go_wp2
              go_roundw
              case rel => exact ⟨j + 1, by omega, by go_num, Lib.hid (hO.out.quiet (grown_drewN wr _ none))⟩
              case measure => simp [intOf]; omega
            · rw [if_neg hja] at G1
              subst G1
              have x3 : ((j : Int) == a2) = false := by simpa using hja
              clear hja G2 G3 HG
              go_wp2_with fail
              go_quiet ((first | (go_at_call_of 12 (Value.pointer (some ⟨g, 0, none⟩)); exact Calls.quiet_of_same (HQ1.out _)) | (go_at_call_of 12 (Value.pointer (some ⟨o, 0, none⟩)); exact Calls.quiet_of_same (HQ2.out _))))
              clear HQ1 HQ2 d0 d1 d2
              go_wp2
              go_roundw
              case rel => exact ⟨j + 1, by omega, by go_num, Lib.hid (hO.out.quiet (grown_drewN wr _ none))⟩
              case measure => simp [intOf]; omega
          · have hlt' : ¬ (j : Int) < (l0 : Int) := by omega
            have HV := Lib.hid (WritesH 1 o xs [] w wr _ hO.out rfl)
            clear HG
            go_wp2_with fail
            refine HV.out.mono ?_
            rintro e u6 ⟨ad3, cp3, rfl, hO3⟩
            clear HV
            have hg := hO3.grown
            clear hO3
            go_wp2_with fail
            refine (works_any _).mono ?_
            rintro e u7 ⟨rfl, hg7⟩
            go_wp2
            go_ret
            exact ⟨rfl, grown_trans hg hg7⟩

theorem walk (a0 : Option Addr) (l0 c0 : Nat) (z0 : List Int) (a1 : Option Addr) (l1 c1 : Nat) (z1 : List Stp) (a2 a3 : Int) (w : World) (w0 : RowIn .u64 w a0 l0 c0 z0) (w1 : StpsIn w a1 l1 z1) (_ : (Lit.int .i64 a2).wf = true) (w3 : (Lit.int .u64 a3).wf = true) :
    Calls Try.prog 8 #[.slice a0 l0 c0, .slice a1 l1 c1, .int .i64 a2, .int .u64 a3] w (WorksIs w) := by
  obtain ⟨xs, hx⟩ := rowIn_words w0
  have b3 := bounds_u64 w3
  obtain ⟨v, rfl⟩ := Int.eq_ofNat_of_zero_le b3.1
  by_cases h0 : 300 < l0
  · exact walk_far1 a0 l0 c0 a1 l1 c1 a2 v w h0
  · by_cases h1 : 60 < l1
    · exact walk_far2 a0 l0 c0 a1 l1 c1 a2 v w h0 h1
    · exact walk_at a0 l0 c0 xs a1 l1 c1 z1 a2 v w hx (fun e => w0.nil e) w1 (by omega) h0 h1
end Go.Proofs.Ytdohnfiaiganbaa.viewOne
