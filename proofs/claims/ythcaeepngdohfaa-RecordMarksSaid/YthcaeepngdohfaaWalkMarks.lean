/- RecordMarks, walked. -/
import Derived.Test.YthcaeepngdohfaaLawKit
namespace Go.Proofs.Ythcaeepngdohfaa.recordMarks
open Go.RowKit Go.Grommet

set_option maxRecDepth 100000 in
set_option maxHeartbeats 1000000 in
theorem walk_far1 (a0 : Option Addr) (l0 c0 : Nat) (a1 : Option Addr) (l1 c1 : Nat) (a2 a3 : Int) (w : World) (h : 96 < l0) :
    Calls Try.prog 7 #[.slice a0 l0 c0, .slice a1 l1 c1, .int .u16 a2, .int .u64 a3] w (WorksIs w) := by
  have g1 : (96 : Int) < (l0 : Int) := by omega
  go_enter Try.func7, Try.ntmps7
  go_wp2_with fail
  refine (works_any _).mono ?_
  rintro e w5 ⟨rfl, hg⟩
  go_wp2
  go_ret
  exact ⟨rfl, hg⟩
set_option maxRecDepth 100000 in
set_option maxHeartbeats 1000000 in
theorem walk_far2 (a0 : Option Addr) (l0 c0 : Nat) (a1 : Option Addr) (l1 c1 : Nat) (a2 a3 : Int) (w : World) (h0 : ¬ 96 < l0) (h : 100 < l1) :
    Calls Try.prog 7 #[.slice a0 l0 c0, .slice a1 l1 c1, .int .u16 a2, .int .u64 a3] w (WorksIs w) := by
  have g0 : ¬ (96 : Int) < (l0 : Int) := by omega
  have g1 : (100 : Int) < (l1 : Int) := by omega
  go_enter Try.func7, Try.ntmps7
  go_wp2_with fail
  refine (works_any _).mono ?_
  rintro e w5 ⟨rfl, hg⟩
  go_wp2
  go_ret
  exact ⟨rfl, hg⟩
set_option maxRecDepth 100000 in
set_option maxHeartbeats 1000000 in
theorem walk_neg (a0 : Option Addr) (l0 c0 : Nat) (a1 : Option Addr) (l1 c1 : Nat) (a2 a3 : Int) (M : List (Int × Nat)) (w : World) (h0 : ¬ 96 < l0) (h : ¬ 100 < l1) (hM : Given w a0 l0 M) (hn : negB M = true) :
    Calls Try.prog 7 #[.slice a0 l0 c0, .slice a1 l1 c1, .int .u16 a2, .int .u64 a3] w (WorksIs w) := by
  have g0 : ¬ (96 : Int) < (l0 : Int) := by omega
  have g1 : ¬ (100 : Int) < (l1 : Int) := by omega
  have HW := Lib.hid (Words_neg a0 l0 c0 M w hM.at_ hM.len (by omega) hM.bd hn)
  clear hM hn
  go_enter Try.func7, Try.ntmps7
  go_wp2_with fail
  refine HW.out.mono ?_
  rintro e w4 ⟨rfl, hg4⟩
  clear HW
  go_wp2_with fail
  refine (works_any _).mono ?_
  rintro e w5 ⟨rfl, hg⟩
  go_wp2
  go_ret
  exact ⟨rfl, grown_trans hg4 hg⟩

theorem wadd (a b : Nat) : IntKind.u64.wrap ((a : Int) + (b : Int)) = (((a + b) % 18446744073709551616 : Nat) : Int) := by
  rw [← Int.natCast_add, wrap_u64_nat]
theorem wmul (a b : Nat) : IntKind.u64.wrap ((a : Int) * (b : Int)) = (((a * b) % 18446744073709551616 : Nat) : Int) := by
  rw [← Int.natCast_mul, wrap_u64_nat]


theorem Words_at (bd : Option Addr) (m c : Nat) (M : List (Int × Nat)) (R : List Nat) (Z : Nat) (w : World) (hat : At w bd (icells M)) (hL : M.length = m) (hm : m ≤ 96) (hv : ∀ p ∈ M, p.1 ≤ 9223372036854775807 ∧ p.2 < 18446744073709551616) (hn : negB M = false) (hR : recR M = R) (hz : R.length = Z) :
    Calls Try.prog 9 #[.slice bd m c] w fun e w' => ∃ ad cap, e = .returned (.tuple #[.slice ad Z cap, .int .i64 0]) ∧ w'.ownsRow w.heap.size 27 1 (.slice ad Z cap) Z (R.map wv) ∧ w.grownBy w' none := by
  subst hR hz
  exact Words_yes _ bd m c M w hat hL hm hv (Nat.le_refl _) hn

set_option maxRecDepth 100000 in
set_option maxHeartbeats 1000000 in
theorem walk_at (a0 : Option Addr) (l0 c0 : Nat) (a1 : Option Addr) (l1 c1 : Nat) (ys : List Nat) (a2 a3 : Nat) (M : List (Int × Nat)) (w : World) (h0 : ¬ 96 < l0) (h : ¬ 100 < l1) (hM : Given w a0 l0 M) (hn : negB M = false) (hy : Words w a1 l1 ys) (hnil : a1 = none → l1 = 0 ∧ c1 = 0)
    (h2 : a2 < 65536) :
    Calls Try.prog 7 #[.slice a0 l0 c0, .slice a1 l1 c1, .int .u16 (a2 : Int), .int .u64 (a3 : Int)] w (WorksIs w) := by
  have g0 : ¬ (96 : Int) < (l0 : Int) := by omega
  have g1 : ¬ (100 : Int) < (l1 : Int) := by omega
  have hF := hM.fine (by omega) hn
  obtain ⟨R, HRR⟩ : ∃ R, Hid (recR M = R) := ⟨_, Lib.hid rfl⟩
  obtain ⟨S, HSS⟩ : ∃ S, Hid (sumN (bodyR M) = S) := ⟨_, Lib.hid rfl⟩
  obtain ⟨Y, HY⟩ : ∃ Y, Hid (Y = 1 + 2 * l0) := ⟨_, Lib.hid rfl⟩
  obtain ⟨Z, HZ⟩ : ∃ Z, Hid (Z = Y + 1) := ⟨_, Lib.hid rfl⟩
  have Hlen : Hid (R.length = Z) := Lib.hid (by rw [← HRR.out, recR_length, hM.len, HZ.out, HY.out]; omega)
  have Hbeg : ∀ B, Begins (R ++ B) l0 S := fun B => by
    have := recR_begins M B
    rw [HRR.out, HSS.out, hM.len] at this
    exact this
  replace Hbeg := Lib.hid Hbeg
  have Hsm := Lib.hid (recR_small' hF)
  rw [HRR.out] at Hsm
  have Hlast : Hid (R.getD Y 0 = S) := Lib.hid (by
    have := (Hbeg.out []).last
    rw [List.append_nil, ← HY.out] at this
    exact this)
  have HW := Lib.hid (Words_at a0 l0 c0 M R Z w hM.at_ hM.len (by omega) hM.bd hn HRR.out Hlen.out)
  obtain ⟨T, HT⟩ : ∃ T, Hid (T = (S * 65536 + l0 * 256 + 1) % 18446744073709551616) := ⟨_, Lib.hid rfl⟩
  have Hmark : ∀ xs, Begins xs l0 S → markV xs = T := fun xs hb => by rw [hb.mark (by omega), HT.out]
  replace Hmark := Lib.hid Hmark
  clear HRR HSS hF hM hn
  have eY : (Z : Int) - 1 = (Y : Int) := by rw [HZ.out]; omega
  have eN : (2 : Int) + 2 * (l0 : Int) = (Z : Int) := by rw [HZ.out, HY.out]; omega
  have eZ : (Y : Int) < (Z : Int) := by rw [HZ.out]; omega
  have Z200 : Z ≤ 200 := by rw [HZ.out, HY.out]; omega
  have wz : IntKind.i64.wrap ((Z : Int)) = (Z : Int) := IntWalk.i64_in _ ⟨by omega, by omega⟩
  have wl : IntKind.u64.wrap ((l0 : Int)) = (l0 : Int) := IntWalk.u64_in _ ⟨by omega, by omega⟩
  have w256 : IntKind.u64.wrap ((l0 : Int) * 256) = (l0 : Int) * 256 := IntWalk.u64_in _ ⟨by omega, by omega⟩
  obtain ⟨V1, HV1⟩ : ∃ V1 : Nat, Hid (V1 = (S * 65536) % 18446744073709551616) := ⟨_, Lib.hid rfl⟩
  have wS : IntKind.u64.wrap ((S : Int) * 65536) = (V1 : Int) := by rw [HV1.out]; exact wmul S 65536
  obtain ⟨V2, HV2⟩ : ∃ V2 : Nat, Hid (V2 = (V1 + l0 * 256) % 18446744073709551616) := ⟨_, Lib.hid rfl⟩
  have wS2 : IntKind.u64.wrap ((V1 : Int) + (l0 : Int) * 256) = (V2 : Int) := by rw [HV2.out, ← wadd]; rfl
  have wS3 : IntKind.u64.wrap ((V2 : Int) + 1) = (T : Int) := by
    have := wadd V2 1
    rw [show ((1 : Nat) : Int) = 1 from rfl] at this
    rw [this, HT.out, HV2.out, HV1.out]
    congr 1
    omega
  go_enter Try.func7, Try.ntmps7
  go_wp2_with fail
  refine HW.out.mono ?_
  rintro e w1 ⟨ad1, cp1, rfl, hrow, hg1⟩
  clear HW
  have hO : Own w w1 [rowP 27 1 (.slice ad1 Z cp1) Z (R.map wv)] := (Own.nil w).addRow hrow hg1
  clear hrow hg1
  obtain ⟨hx1, hold1, hlc1⟩ := Own.words hO 0 rfl Hsm.out (by omega)
  obtain ⟨q1, o1, rfl, cY⟩ := hx1.cell Y (by omega)
  rw [Hlast.out] at cY
  have hy1 := hy.keep hO.grown (by simp)
  go_wp2_with (at_builtin; refine app64 rfl _ _ rfl w1.heap.size _ 0 [] rfl (own_lit w1 _ 1 _ (Nat.le_refl _)) (some ⟨q1, o1, none⟩) Z cp1 R rfl ?a1 (by simp) ?a2 ?a3 ?_)
  case a1 => exact hx1.keep (World.grownBy_alloc w1 _ none) (by simp)
  case a2 => omega
  case a3 => simp
  intro v1 w4 hown hg4
  have hg4 := grown_new (World.grownBy_alloc w1 _ none) hg4 (by intro g e; cases e; exact Nat.le_refl _)
  obtain ⟨ad2, cp2, rfl, _⟩ := row_slice hown
  have hs4 := hg4.size
  have hfr : ∀ i, (Value.slice ad2 Z cp2).ownBlock = some i → w1.heap.size ≤ i := fun i hi => (hown.lt i hi).1
  go_wp2_with (at_builtin; refine app64 rfl _ _ rfl w1.heap.size _ Z R rfl hown a1 l1 c1 ys rfl ?b1 hnil ?b2 ?b3 ?_)
  case b1 => exact hy1.keep hg4 (by simp)
  case b2 => omega
  case b3 => exact hs4
  intro v2 w5 hown hg5
  have hg5 := grown_new hg4 hg5 hfr
  obtain ⟨ad3, cp3, rfl, _⟩ := row_slice hown
  obtain ⟨N, HN⟩ : ∃ N, Hid (N = Z + l1) := ⟨_, Lib.hid rfl⟩
  rw [← List.map_append] at hown
  rw [← HN.out] at hown ⊢
  have hO : Own w w5 [rowP 27 1 (.slice (some ⟨q1, o1, none⟩) Z cp1) Z (R.map wv), rowP 27 1 (.slice ad3 N cp3) N ((R ++ ys).map wv)] := hO.addRow hown hg5
  have Hsm2 : Hid (∀ n ∈ R ++ ys, n < 18446744073709551616) := Lib.hid (fun n hn => by
    rcases List.mem_append.1 hn with h | h
    · exact Hsm.out n h
    · exact hy.small n h)
  have hNb : N ≤ 300 := by rw [HN.out]; omega
  clear hown hg5 hg4 hs4 hfr hx1 hy1 hold1 cY
  by_cases hl : l0 = 0
  · have z2 : ¬ (2 : Int) < (Z : Int) := by rw [HZ.out, HY.out]; omega
    obtain ⟨XS, HXS⟩ : ∃ XS, Hid (XS = R ++ ys) := ⟨_, Lib.hid rfl⟩
    rw [← HXS.out] at hO Hsm2
    have HX2 := Hsm2
    have HB : Hid (Begins XS l0 S) := Lib.hid (by rw [HXS.out]; exact Hbeg.out ys)
    obtain ⟨hx1, _, hlc1⟩ := Own.words hO 0 rfl Hsm.out (by omega)
    obtain ⟨_, _, hlc2⟩ := Own.words hO 1 rfl HX2.out (by omega)
    have HM1 := Lib.hid (Mark_any (some ⟨q1, o1, none⟩) Z cp1 R _ hx1 hlc1)
    rw [Hmark.out _ (by have := Hbeg.out []; rwa [List.append_nil] at this)] at HM1
    clear hx1
    go_wp2_with fail
    refine HM1.out.mono ?_
    rintro e w8 ⟨rfl, hg8⟩
    clear HM1
    have hO := hO.quiet hg8
    have hx2 := (Own.words hO 1 rfl HX2.out (by omega)).1
    have HM2 := Lib.hid (Mark_any ad3 N cp3 XS w8 hx2 hlc2)
    rw [Hmark.out _ HB.out] at HM2
    have hg := hO.grown
    clear hO hx2 hg8
    go_wp2_with fail
    refine HM2.out.mono ?_
    rintro e w9 ⟨rfl, hg9⟩
    clear HM2
    have hg := grown_trans hg hg9
    clear hg9
    go_wp2_with fail
    refine (works_any _).mono ?_
    rintro e w10 ⟨rfl, hg10⟩
    go_wp2
    go_ret
    exact ⟨rfl, grown_trans hg hg10⟩
  · have z2 : (2 : Int) < (Z : Int) := by rw [HZ.out, HY.out]; omega
    obtain ⟨D, HD⟩ : ∃ D, Hid (D = 2 * l0) := ⟨_, Lib.hid rfl⟩
    have eD : (Z : Int) - 2 = (D : Int) := by rw [HZ.out, HY.out, HD.out]; omega
    have D0 : ((D : Int) == 0) = false := by rw [beq_eq_false_iff_ne, HD.out]; omega
    obtain ⟨C, HC⟩ : ∃ C, Hid (C = a2 % D) := ⟨_, Lib.hid rfl⟩
    have hC : C < D := by rw [HC.out]; exact Nat.mod_lt _ (by rw [HD.out]; omega)
    have eC : (a2 : Int).tmod (D : Int) = (C : Int) := by rw [HC.out, Int.tmod_eq_emod_of_nonneg (by omega), Int.natCast_emod]
    obtain ⟨K, HK⟩ : ∃ K, Hid (K = 1 + C) := ⟨_, Lib.hid rfl⟩
    have eK : (1 : Int) + (C : Int) = (K : Int) := by rw [HK.out]; omega
    have hK : (K : Int) < (N : Int) := by rw [HK.out, HN.out, HZ.out, HY.out]; have := HD.out; omega
    have wa : IntKind.i64.wrap (a2 : Int) = (a2 : Int) := IntWalk.i64_in _ ⟨by omega, by omega⟩
    have hln : (R ++ ys).length = N := by rw [List.length_append, Hlen.out, HN.out, hy.len]
    obtain ⟨U, HU⟩ : ∃ U, Hid (U = (R ++ ys).getD K 0) := ⟨_, Lib.hid rfl⟩
    obtain ⟨V, HV⟩ : ∃ V, Hid (V = (U + a3) % 18446744073709551616) := ⟨_, Lib.hid rfl⟩
    have wV : IntKind.u64.wrap ((U : Int) + (a3 : Int)) = (V : Int) := by rw [HV.out]; exact wadd U a3
    obtain ⟨b3, rfl, cK, fK, _⟩ := Own.cell hO 1 rfl K (wv U) (by rw [List.getElem?_map, List.getElem?_eq_getElem (by rw [hln]; omega), HU.out, List.getD_eq_getElem?_getD, List.getElem?_eq_getElem (by rw [hln]; omega)]; rfl)
    unfold wv at cK
    have hO : Own w _ [rowP 27 1 (.slice (some ⟨q1, o1, none⟩) Z cp1) Z (R.map wv), rowP 27 1 (.slice (some ⟨b3, 0, none⟩) N cp3) N (((R ++ ys).map wv).set K (wv V))] := Own.store hO 1 rfl K (wv V)
    rw [← List.map_set] at hO
    obtain ⟨XS, HXS⟩ : ∃ XS, Hid (XS = (R ++ ys).set K V) := ⟨_, Lib.hid rfl⟩
    rw [← HXS.out] at hO
    have HX2 : Hid (∀ n ∈ XS, n < 18446744073709551616) := Lib.hid (fun n hn => by
      rw [HXS.out] at hn
      rcases List.mem_or_eq_of_mem_set hn with h | h
      · exact Hsm2.out n h
      · rw [h, HV.out]; exact Nat.mod_lt _ (by decide))
    have HB : Hid (Begins XS l0 S) := Lib.hid (by rw [HXS.out]; exact (Hbeg.out ys).set K V (by rw [HK.out]; omega) (by rw [HK.out]; have := HD.out; omega))
    obtain ⟨hx1, _, hlc1⟩ := Own.words hO 0 rfl Hsm.out (by omega)
    obtain ⟨_, _, hlc2⟩ := Own.words hO 1 rfl HX2.out (by omega)
    have HM1 := Lib.hid (Mark_any (some ⟨q1, o1, none⟩) Z cp1 R _ hx1 hlc1)
    rw [Hmark.out _ (by have := Hbeg.out []; rwa [List.append_nil] at this)] at HM1
    clear hx1
    unfold wv at hO HM1
    go_wp2_with fail
    refine HM1.out.mono ?_
    rintro e w8 ⟨rfl, hg8⟩
    clear HM1
    have hO := hO.quiet hg8
    have hx2 := (Own.words hO 1 rfl HX2.out (by omega)).1
    have HM2 := Lib.hid (Mark_any (some ⟨b3, 0, none⟩) N cp3 XS w8 hx2 hlc2)
    rw [Hmark.out _ HB.out] at HM2
    have hg := hO.grown
    clear hO hx2 hg8
    go_wp2_with fail
    refine HM2.out.mono ?_
    rintro e w9 ⟨rfl, hg9⟩
    clear HM2
    have hg := grown_trans hg hg9
    clear hg9
    go_wp2_with fail
    refine (works_any _).mono ?_
    rintro e w10 ⟨rfl, hg10⟩
    go_wp2
    go_ret
    exact ⟨rfl, grown_trans hg hg10⟩

theorem walk (a0 : Option Addr) (l0 c0 : Nat) (z0 : List Wrt) (a1 : Option Addr) (l1 c1 : Nat) (z1 : List Int) (a2 a3 : Int) (w : World) (w0 : WrtsIn w a0 l0 z0) (w1 : RowIn .u64 w a1 l1 c1 z1) (w2 : (Lit.int .u16 a2).wf = true) (w3 : (Lit.int .u64 a3).wf = true) :
    Calls Try.prog 7 #[.slice a0 l0 c0, .slice a1 l1 c1, .int .u16 a2, .int .u64 a3] w (WorksIs w) := by
  obtain ⟨M, hM⟩ := wrts_given w0
  obtain ⟨ys, hy⟩ := rowIn_words w1
  have b2 := bounds_u16 w2
  have b3 := bounds_u64 w3
  obtain ⟨v2, rfl⟩ := Int.eq_ofNat_of_zero_le b2.1
  obtain ⟨v3, rfl⟩ := Int.eq_ofNat_of_zero_le b3.1
  by_cases h0 : 96 < l0
  · exact walk_far1 a0 l0 c0 a1 l1 c1 _ _ w h0
  · by_cases h1 : 100 < l1
    · exact walk_far2 a0 l0 c0 a1 l1 c1 _ _ w h0 h1
    · cases hn : negB M with
      | true => exact walk_neg a0 l0 c0 a1 l1 c1 _ _ M w h0 h1 hM hn
      | false => exact walk_at a0 l0 c0 a1 l1 c1 ys v2 v3 M w h0 h1 hM hn hy (fun e => w1.nil e) (by omega)
end Go.Proofs.Ythcaeepngdohfaa.recordMarks
