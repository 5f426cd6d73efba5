/- ViewTwice, walked. -/
import Derived.Test.YtdohnfiaiganbaaViewJ
import Derived.Test.YtdohnfiaiganbaaStps
namespace Go.Proofs.Ytdohnfiaiganbaa.viewTwice
open Go.RowKit Go.Grommet

set_option maxHeartbeats 1000000 in
theorem walk_far1 (a0 : Option Addr) (l0 c0 : Nat) (a1 : Option Addr) (l1 c1 : Nat) (a2 : Int) (w : World) (h : 1000 < l0) :
    Calls Try.prog 5 #[.slice a0 l0 c0, .slice a1 l1 c1, .int .u8 a2] w (WorksIs w) := by
  have g1 : (1000 : Int) < (l0 : Int) := by omega
  go_enter Try.func5, Try.ntmps5
  go_wp2_with fail
  refine (works_any _).mono ?_
  rintro e w5 ⟨rfl, hg⟩
  go_wp2
  go_ret
  exact ⟨rfl, hg⟩
set_option maxHeartbeats 1000000 in
theorem walk_far2 (a0 : Option Addr) (l0 c0 : Nat) (a1 : Option Addr) (l1 c1 : Nat) (a2 : Int) (w : World) (h0 : ¬ 1000 < l0) (h : 300 < l1) :
    Calls Try.prog 5 #[.slice a0 l0 c0, .slice a1 l1 c1, .int .u8 a2] w (WorksIs w) := by
  have g0 : ¬ (1000 : Int) < (l0 : Int) := by omega
  have g1 : (300 : Int) < (l1 : Int) := by omega
  go_enter Try.func5, Try.ntmps5
  go_wp2_with fail
  refine (works_any _).mono ?_
  rintro e w5 ⟨rfl, hg⟩
  go_wp2
  go_ret
  exact ⟨rfl, hg⟩

def stp (s : Stp) : Int × Nat := (s.ad, s.vv.toNat)

set_option maxRecDepth 100000 in
set_option maxHeartbeats 4000000 in
theorem walk_at (a0 : Option Addr) (l0 c0 : Nat) (xs : List Nat) (a1 : Option Addr) (l1 c1 : Nat) (z1 : List Stp) (a2 : Nat) (w : World) (hx : Words w a0 l0 xs) (hnil : a0 = none → l0 = 0 ∧ c0 = 0) (w1 : StpsIn w a1 l1 z1) (hv : a2 < 256)
    (h0 : ¬ 1000 < l0) (h1 : ¬ 300 < l1) :
    Calls Try.prog 5 #[.slice a0 l0 c0, .slice a1 l1 c1, .int .u8 (a2 : Int)] w (WorksIs w) := by
  have b0 : ¬ (1000 : Int) < (l0 : Int) := by omega
  have b1 : ¬ (300 : Int) < (l1 : Int) := by omega
  have HX := Lib.hid hx.len
  have HZ := Lib.hid w1.1
  have HN := Lib.hid (NewH a0 l0 c0 xs w w [] (Own.nil w) hx (by omega) hnil)
  go_enter Try.func5, Try.ntmps5
  go_wp2_with fail
  refine HN.out.mono ?_
  rintro e u2 ⟨g, rfl, hO⟩
  clear HN
  obtain ⟨S, HS⟩ : ∃ S, Hid (S = z1.map stp) := ⟨_, Lib.hid rfl⟩
  have HSl : Hid (S.length = l1) := Lib.hid (by rw [HS.out, List.length_map, HZ.out])
  have hO : Own w u2 [viewP g xs (runP xs (S.take 0))] := hO
  replace hO := Lib.hid hO
  go_wp2_with fail
  go_loopw [8] (fun i wr => ∃ k : Nat, k ≤ l1 ∧ i = .int .i64 (k : Int) ∧ Hid (Own w wr [viewP g xs (runP xs (S.take k))])) (fun i _ => l1 - (intOf i).toNat)
  case atStart => exact ⟨0, Nat.zero_le _, rfl, hO⟩
  case round =>
    clear hO
    obtain ⟨k, hk, rfl, hO⟩ := hrel
    have k0 : (0 : Int) ≤ (k : Int) := by omega
    by_cases hlt : k < l1
    · have hlt' : (k : Int) < (l1 : Int) := by omega
      have hkz : k < z1.length := by rw [HZ.out]; exact hlt
      obtain ⟨s, hs⟩ : ∃ s, z1[k]? = some s := ⟨_, List.getElem?_eq_getElem hkz⟩
      have hsm := w1.2.1 s (List.mem_of_getElem? hs)
      obtain ⟨q, p, rfl, d0, d1, d2⟩ := (w1.grown hO.out.grown).2.2 k s hs
      have bv := bounds_u64 hsm.2.2
      obtain ⟨V, hV⟩ : ∃ V : Nat, s.vv = (V : Int) := ⟨s.vv.toNat, by omega⟩
      rw [hV] at d2
      have HT : Hid (S.take (k + 1) = S.take k ++ [(s.ad, V)]) := Lib.hid (by
        rw [take_snocD S k (0, 0) (by rw [HSl.out]; exact hlt), HS.out, List.getD_eq_getElem?_getD, List.getElem?_map, hs]
        show _ ++ [(s.ad, s.vv.toNat)] = _
        rw [hV, Int.toNat_natCast])
      have HP := Lib.hid (PutH 0 g xs (runP xs (S.take k)) s.ad V _ w wr.drew _ _ (hO.out.quiet (grown_drew (World.grownBy.refl _ _))) rfl (by omega) rfl rfl)
      generalize s.ad = A at d1 HT HP
      clear hs hsm bv hV d0
      go_wp2_with fail
      go_still_tail 11, (by kernel_rfl)
      change wpList _ _ _ _ _ wr.drew
      go_wp2_with fail
      refine HP.out.mono ?_
      rintro e u3 ⟨rfl, hO3⟩
      clear HP
      replace hO3 := Lib.hid hO3
      clear d1 d2
      go_wp2
      go_roundw
      case rel => exact ⟨k + 1, by omega, by go_num, by rw [HT.out, runP_snoc]; exact hO3⟩
      case measure => simp [intOf]; omega
    · obtain rfl : k = l1 := by omega
      rw [List.take_of_length_le (by rw [HSl.out]; exact Nat.le_refl _)] at hO
      obtain ⟨L, HL⟩ : ∃ L, Hid (L = runP xs S) := ⟨_, Lib.hid rfl⟩
      rw [← HL.out] at hO
      clear HL
      obtain ⟨hW, hxs, hxl⟩ := Own.wl hO.out 0 rfl
      have HF := Lib.hid (WritesH 0 g xs L w wr _ hO.out rfl)
      obtain ⟨m, Hm⟩ : ∃ m, Hid (m = L.length) := ⟨_, Lib.hid rfl⟩
      rw [← Hm.out] at HF
      have hm96 : m ≤ 96 := by rw [Hm.out]; exact hW.few
      have HW := Lib.hid hW
      have Hxs := Lib.hid hxs
      clear hO hW hxs
      go_wp2_with fail
      refine HF.out.mono ?_
      rintro e u3 ⟨ad1, cp1, rfl, hO⟩
      clear HF
      have hO : Own w u3 [viewP g xs L, rowP 44 2 (.slice ad1 m cp1) m (wcells L)] := hO
      go_wp2_with (at_builtin; refine app64 rfl _ _ rfl u3.heap.size _ 0 [] rfl (own_lit u3 _ 1 _ (Nat.le_refl _)) a0 l0 c0 xs rfl ?a1 hnil ?a2 ?a3 ?_)
      case a1 => exact (hx.keep hO.grown (by simp)).keep (World.grownBy_alloc u3 _ none) (by simp)
      case a2 => omega
      case a3 => simp
      intro v1 u4 hown hg
      have hg := grown_new (World.grownBy_alloc u3 _ none) hg (by intro g e; cases e; exact Nat.le_refl _)
      try rw [List.nil_append, Nat.zero_add] at hown
      obtain ⟨ad2, cp2, rfl, _⟩ := row_slice hown
      have hO : Own w u4 [viewP g xs L, rowP 44 2 (.slice ad1 m cp1) m (wcells L), rowP 29 1 (.slice ad2 l0 cp2) l0 (xs.map wv)] := hO.addRow hown hg
      clear hown hg
      obtain ⟨hat, hLm, hn1, hlc⟩ := Own.pairs hO 1 rfl
      have hap := Own.apart hO 1 2 (by omega) rfl rfl
      have hok := HW.out.at_
      obtain ⟨C, HC⟩ : ∃ C : Nat, Hid (C = a2 % (m + 1)) := ⟨_, Lib.hid rfl⟩
      have hC : C ≤ m := by rw [HC.out]; have := Nat.mod_lt a2 (show 0 < m + 1 by omega); omega
      have hCi : (a2 : Int).tmod ((m : Int) + 1) = (C : Int) := by
        rw [HC.out, Int.tmod_eq_emod_of_nonneg (by omega), Int.natCast_emod, Int.natCast_add]; rfl
      have HA := Lib.hid (ApplyH 2 ad2 l0 cp2 xs ad1 C cp1 (intL (L.take C)) w u4 _ _ hO rfl HX.out (by
          rw [icells_intL]
          rw [← List.take_append_drop C L, wcells_append] at hat
          exact at_prefix hat) (by rw [intL, List.length_map, List.length_take, ← Hm.out]; omega) (by omega) (okI_intL (fun p hp => by rw [← HX.out]; exact hok p (List.mem_of_mem_take hp)))
          (fun a ha _ e => hap a.block (by rw [ha]; rfl) e) rfl)
      rw [natL_intL] at HA
      have hsl := fun wx => slice_to (P := Try.prog) 33 44 Try.underlying33 2 Try.sizeOf44 ad1 m cp1 C (by omega) (row_head (Own.row hO 1 rfl)) wx
      have g96 : ¬ (96 : Int) < (m : Int) := by omega
      have wr1 : IntKind.i64.wrap (a2 : Int) = (a2 : Int) := IntWalk.i64_in _ ⟨by omega, by omega⟩
      have m0 : ((m : Int) + 1 == 0) = false := by rw [beq_eq_false_iff_ne]; omega
      clear hO hat hap hok hLm hn1 hlc
      go_wp2_with fail
      refine HA.out.mono ?_
      rintro e u5 ⟨rfl, hO⟩
      clear HA hsl hCi HC
      have hO : Own w u5 [viewP g xs L, rowP 44 2 (.slice ad1 m cp1) m (wcells L), rowP 29 1 (.slice ad2 l0 cp2) l0 ((flatV xs (L.take C)).map wv)] := hO
      obtain ⟨ys, Hys⟩ : ∃ ys, Hid (ys = flatV xs (L.take C)) := ⟨_, Lib.hid rfl⟩
      have HY : Hid (flatV ys L = flatV xs L ∧ ys.length = l0) := Lib.hid ⟨by rw [Hys.out]; exact flat_part HW.out C, by rw [Hys.out, flatV_length]; exact HX.out⟩
      rw [← Hys.out] at hO
      clear Hys
      replace hO := Lib.hid hO
      go_wp2_with fail
      go_loopw [11] (fun i wr => ∃ j : Nat, j ≤ 2 ∧ i = .int .i64 (j : Int) ∧ ∃ ys : List Nat, Hid (flatV ys L = flatV xs L ∧ ys.length = l0) ∧ ∃ Rs, Hid (Own w wr ([viewP g xs L, rowP 44 2 (.slice ad1 m cp1) m (wcells L), rowP 29 1 (.slice ad2 l0 cp2) l0 (ys.map wv)] ++ Rs))) (fun i _ => 2 - (intOf i).toNat)
      case atStart => exact ⟨0, by omega, rfl, ys, HY, [], hO⟩
      case round =>
        clear hO HY ys
        obtain ⟨j, hj, rfl, ys, HY, Rs, hO⟩ := hrel
        have j0 : (0 : Int) ≤ (j : Int) := by omega
        by_cases hlt : j < 2
        · have hlt' : (j : Int) < 2 := by omega
          obtain ⟨hat, hLm, hn1, hlc⟩ := Own.pairs hO.out 1 rfl
          have hap := Own.apart hO.out 1 2 (by omega) rfl rfl
          have HA := Lib.hid (ApplyH 2 ad2 l0 cp2 ys ad1 m cp1 (intL L) w wr _ _ hO.out rfl HY.out.2 (by rw [icells_intL]; exact hat) (by rw [intL, List.length_map, ← Hm.out]) (by omega) (okI_intL (fun p hp => by rw [← HX.out]; exact HW.out.at_ p hp))
            (fun a ha _ e => hap a.block (by rw [ha]; rfl) e) rfl)
          rw [natL_intL, HY.out.1] at HA
          clear hat hLm hn1 hlc hap hO
          go_wp2_with fail
          refine HA.out.mono ?_
          rintro e u6 ⟨rfl, hO⟩
          clear HA
          have hO : Own w u6 ([viewP g xs L, rowP 44 2 (.slice ad1 m cp1) m (wcells L), rowP 29 1 (.slice ad2 l0 cp2) l0 ((flatV xs L).map wv)] ++ Rs) := hO
          have HF := Lib.hid (FlatH 0 g xs L w u6 _ hO rfl)
          rw [HX.out] at HF
          clear hO
          go_wp2_with fail
          refine HF.out.mono ?_
          rintro e u7 ⟨ad3, cp3, rfl, hO⟩
          clear HF
          have hsm := flatV_small Hxs.out HW.out.val
          obtain ⟨hwb, _, _⟩ := Own.words (ad := ad3) (n := l0) (cap := cp3) (ys := flatV xs L) hO _ List.getElem?_concat_length hsm (by omega)
          have hO : Own w u7 ([viewP g xs L, rowP 44 2 (.slice ad1 m cp1) m (wcells L), rowP 29 1 (.slice ad2 l0 cp2) l0 ((flatV xs L).map wv)] ++ (Rs ++ [rowP 29 1 (.slice ad3 l0 cp3) l0 ((flatV xs L).map wv)])) := by rw [← List.append_assoc]; exact hO
          obtain ⟨hwa, _, _⟩ := Own.words hO 2 rfl hsm (by omega)
          have HS := Lib.hid (Same_any ad2 ad3 l0 l0 cp2 cp3 _ _ u7 hwa hwb)
          rw [decide_eq_true rfl] at HS
          replace hO := Lib.hid hO
          clear hwa hwb hsm
          go_wp2_with fail
          refine HS.out.mono ?_
          rintro e u8 ⟨rfl, hg8⟩
          clear HS
          replace hO := Lib.hid (hO.out.quiet hg8)
          clear hg8
          go_wp2
          go_roundw
          case rel => exact ⟨j + 1, by omega, by go_num, flatV xs L, Lib.hid ⟨flat_twice HW.out, by rw [flatV_length]; exact HX.out⟩, _, hO⟩
          case measure => simp [intOf]; omega
        · have hlt' : ¬ (j : Int) < 2 := by omega
          have hg := hO.out.grown
          go_wp2_with fail
          refine (works_any _).mono ?_
          rintro e u7 ⟨rfl, hg7⟩
          go_wp2
          go_ret
          exact ⟨rfl, grown_trans hg hg7⟩

theorem walk (a0 : Option Addr) (l0 c0 : Nat) (z0 : List Int) (a1 : Option Addr) (l1 c1 : Nat) (z1 : List Stp) (a2 : Int) (w : World) (w0 : RowIn .u64 w a0 l0 c0 z0) (w1 : StpsIn w a1 l1 z1) (w2 : (Lit.int .u8 a2).wf = true) :
    Calls Try.prog 5 #[.slice a0 l0 c0, .slice a1 l1 c1, .int .u8 a2] w (WorksIs w) := by
  obtain ⟨xs, hx⟩ := rowIn_words w0
  have b3 := bounds_u8 w2
  obtain ⟨v, rfl⟩ := Int.eq_ofNat_of_zero_le b3.1
  by_cases h0 : 1000 < l0
  · exact walk_far1 a0 l0 c0 a1 l1 c1 v w h0
  · by_cases h1 : 300 < l1
    · exact walk_far2 a0 l0 c0 a1 l1 c1 v w h0 h1
    · exact walk_at a0 l0 c0 xs a1 l1 c1 z1 v w hx (fun e => w0.nil e) w1 (by omega) h0 h1
end Go.Proofs.Ytdohnfiaiganbaa.viewTwice
