/- The document's Over. -/
import Derived.Test.YtpdofdloclmbdaaGreatComD
-- OPTIONAL
namespace Go.Proofs.YtpdofdloclmbdaaGreat
open Go.RowKit Go.Grommet

set_option maxRecDepth 100000 in
set_option maxHeartbeats 2000000 in
theorem ROver_no (a b c : Int) (ad : Option Addr) (l cap : Nat) (w : World) (h : mayB a b c = false ∨ (l : Int) < wordsV a b c) :
    Calls Tryz.prog 34 #[gv a b c, .slice ad l cap] w fun e w' => e = .returned (.slice none 0 0) ∧ w.grownBy w' none := by
  obtain ⟨w1, hw1⟩ : ∃ w1, w.alloc (.cells #[.int .i64 a, .int .i64 b, .int .i64 c] 28) = w1 := ⟨_, rfl⟩
  obtain ⟨G, hG⟩ : ∃ G, w.heap.size = G := ⟨_, rfl⟩
  have hg1 : w.grownBy w1 none := by rw [← hw1]; exact World.grownBy_alloc _ _ _
  have hgq : GeoR G a b c w1 := by rw [← hw1, ← hG]; exact heap_alloc_new w _
  have HM := Lib.hid (fun wx => RMay_any a b c wx)
  have HW := Lib.hid (fun wx => RWords_any a b c wx)
  obtain ⟨f0, f1, f2⟩ := hgq.cells
  have HGq := Lib.hid hgq
  have Hg1 := Lib.hid hg1
  unfold gv at HM HW ⊢
  clear hgq hg1
  go_enter Tryz.func34, Tryz.ntmps34
  cases hb : mayB a b c with
  | false =>
    rw [hb] at HM
    clear h
    go_wp2_with fail
    refine (HM.out _).mono ?_
    rintro e w2 ⟨rfl, hg2⟩
    have hfin := Lib.hid (grown_trans Hg1.out hg2)
    clear hg2 f0 f1 f2 hw1 hG
    go_wp2
    go_ret
    exact ⟨rfl, hfin.out⟩
  | true =>
    rw [hb] at HM
    have hlt : (l : Int) < wordsV a b c := by rcases h with h | h; rw [hb] at h; cases h; exact h
    generalize wordsV a b c = wv0 at HW hlt
    clear h
    go_wp2_with fail
    refine (HM.out _).mono ?_
    rintro e w2 ⟨rfl, hg2⟩
    clear f0 f1 f2 hw1 hG
    obtain ⟨f0, f1, f2⟩ := (HGq.out.keep hg2).cells
    have hgx := Lib.hid (grown_trans Hg1.out hg2)
    clear hg2
    go_wp2_with fail
    refine (HW.out _).mono ?_
    rintro e w3 ⟨rfl, hg3⟩
    have hfin := Lib.hid (grown_trans hgx.out hg3)
    clear hg3 f0 f1 f2
    go_wp2
    go_ret
    exact ⟨rfl, hfin.out⟩

theorem cell_atE {w0 w : World} {Ps : List Pr} {q N cap : Nat} {xs : List Nat} (h : Own w0 w Ps) (k : Nat) (hk : Ps[k]? = some (rowP 44 1 (.slice (some ⟨q, 0, none⟩) N cap) N (xs.map wv))) (hl : xs.length = N) (i : Nat) (hi : i < N) : w.cell? ⟨q, i, none⟩ = some (.int .u64 ((xs.getD i 0 : Nat) : Int)) ∧ w.frozen? ⟨q, i, none⟩ = false := by
  have hi' : i < xs.length := by omega
  obtain ⟨b', he, h1, h2, _⟩ := Own.cell h k hk i (wv (xs.getD i 0)) (by rw [List.getElem?_map, List.getElem?_eq_getElem hi', List.getD_eq_getElem?_getD, List.getElem?_eq_getElem hi']; rfl)
  cases he
  exact ⟨h1, h2⟩

set_option maxRecDepth 100000 in
set_option maxHeartbeats 8000000 in
theorem ROver_yes (base : Nat) (a b c : Nat) (q o l cap : Nat) (xs : List Nat) (w : World) (hx : Words w (some ⟨q, o, none⟩) l xs) (hlc : l ≤ cap) (hm : mayB (a : Int) (b : Int) (c : Int) = true) (hN : 280 + 208 * a + 16 * b + 8 * c ≤ l) (hl : l ≤ 100000) (hb : base ≤ w.heap.size) :
    Calls Tryz.prog 34 #[gv (a : Int) (b : Int) (c : Int), .slice (some ⟨q, o, none⟩) l cap] w (RowOf base (zapS (aplS a b c xs a) a) w) := by
  have HX := Lib.hid hx
  have Hm := Lib.hid hm
  have HN := Lib.hid hN
  have hmb := mayB_yes hm
  have HM := Lib.hid (fun wx => RMay_any (a : Int) (b : Int) (c : Int) wx)
  rw [hm] at HM
  have HW := Lib.hid (fun wx => RWords_any (a : Int) (b : Int) (c : Int) wx)
  obtain ⟨wv0, hwv⟩ : ∃ v, wordsV (a : Int) (b : Int) (c : Int) = v := ⟨_, rfl⟩
  have hlw : ¬ (l : Int) < wv0 := by rw [← hwv, words_pos hm]; omega
  rw [hwv] at HW
  have hal : a ≤ 4 := by omega
  have hxl := hx.len
  obtain ⟨w1, hw1⟩ : ∃ w1, w.alloc (.cells #[.int .i64 (a : Int), .int .i64 (b : Int), .int .i64 (c : Int)] 28) = w1 := ⟨_, rfl⟩
  obtain ⟨G, hG⟩ : ∃ G, w.heap.size = G := ⟨_, rfl⟩
  have hO1 : Own w w1 [boxP G 28 #[.int .i64 (a : Int), .int .i64 (b : Int), .int .i64 (c : Int)]] := by rw [← hw1, ← hG]; exact (Own.nil w).addBox _ _
  obtain ⟨f0, f1, f2⟩ := GeoR.cells (show GeoR G (a : Int) (b : Int) (c : Int) w1 from hO1.box 0 rfl)
  have HO1 := Lib.hid hO1
  have Hb := Lib.hid hb
  have Hxl := Lib.hid hxl
  clear hx hm hN hmb hwv hO1 hb hxl
  unfold gv at HM HW ⊢
  go_enter Tryz.func34, Tryz.ntmps34
  go_wp2_with fail
  refine (HM.out _).mono ?_
  rintro e w2 ⟨rfl, hg2⟩
  have hO2 := Lib.hid (HO1.out.quiet hg2)
  clear f0 f1 f2 hw1 hG hg2 HM HO1
  obtain ⟨f0, f1, f2⟩ := GeoR.cells (show GeoR G (a : Int) (b : Int) (c : Int) w2 from hO2.out.box 0 rfl)
  go_wp2_with fail
  refine (HW.out _).mono ?_
  rintro e w3 ⟨rfl, hg3⟩
  have hO3 := Lib.hid (hO2.out.quiet hg3)
  have hX3 := HX.out.keep hO3.out.grown (by simp)
  clear f0 f1 f2 hg3 HW hO2
  go_wp2_with (at_builtin; refine app64 rfl _ _ rfl w3.heap.size _ 0 [] rfl (own_lit w3 _ 1 w3.heap.size (Nat.le_refl _)) (some ⟨q, o, none⟩) l cap xs rfl ?a1 (by simp) ?a2 ?a3 ?_)
  case a1 => exact hX3.keep (World.grownBy_alloc w3 _ none) (by simp)
  case a2 => omega
  case a3 => simp
  intro v1 w4 hown hg
  have hg := grown_new (World.grownBy_alloc w3 _ none) hg (by intro g e; cases e; exact Nat.le_refl _)
  try rw [List.nil_append, Nat.zero_add] at hown
  obtain ⟨ad, cp, rfl, _⟩ := row_slice hown
  have hO4 : Own w w4 [boxP G 28 #[.int .i64 (a : Int), .int .i64 (b : Int), .int .i64 (c : Int)], rowP 44 1 (.slice ad l cp) l (xs.map wv)] := hO3.out.addRow hown hg
  have h0l : 0 < xs.length := by rw [Hxl.out]; have := HN.out; omega
  obtain ⟨p, rfl, e1, e2, hlcp⟩ := Own.cell hO4 1 rfl 0 (wv (xs.getD 0 0)) (by rw [List.getElem?_map, List.getD_eq_getElem?_getD, List.getElem?_eq_getElem h0l]; rfl)
  clear e1 e2
  have hO4 := Lib.hid hO4
  clear hown hg hO3 h0l hX3
  obtain ⟨f0, _, _⟩ := GeoR.cells (show GeoR G (a : Int) (b : Int) (c : Int) w4 from hO4.out.box 0 rfl)
  go_wp2_with fail
  clear f0
  go_loopw [6] (fun i wr => ∃ k : Nat, k ≤ a ∧ i = .int .i64 (k : Int) ∧ Hid (Own w wr [boxP G 28 #[.int .i64 (a : Int), .int .i64 (b : Int), .int .i64 (c : Int)], rowP 44 1 (.slice (some ⟨p, 0, none⟩) l cp) l ((aplS a b c xs k).map wv)])) (fun i _ => a - (intOf i).toNat)
  case atStart => exact ⟨0, Nat.zero_le _, rfl, hO4⟩
  case round =>
    clear hO4
    obtain ⟨k, hk, rfl, hO⟩ := hrel
    have k0 : (0 : Int) ≤ (k : Int) := by omega
    obtain ⟨f0, f1, f2⟩ := GeoR.cells (show GeoR G (a : Int) (b : Int) (c : Int) _ from hO.out.box 0 rfl)
    by_cases hlt : k < a
    · as_aux_lemma =>
      have hlt' : (k : Int) < (a : Int) := by omega
      obtain ⟨A, hA⟩ : ∃ A, 264 + 208 * k = A := ⟨_, rfl⟩
      have hAl : A + 208 ≤ l := by have := HN.out; omega
      have wk : IntKind.i64.wrap ((k : Int) + 1) = (k : Int) + 1 := IntWalk.i64_in _ ⟨by omega, by omega⟩
      have HCm := Lib.hid (fun wx (hg : w.grownBy wx none) => RComm_any wx.heap.size (a : Int) (b : Int) (c : Int) (k : Int) q o l cap xs A wx (by unfold areaV; rw [if_pos ⟨Hm.out, by omega, by omega⟩]; omega) (HX.out.keep hg (by simp)) hlc hAl (by omega) (Nat.le_refl _))
      unfold gv at HCm
      obtain ⟨ys, hys⟩ : ∃ ys, aplS (a : Int) (b : Int) (c : Int) xs k = ys := ⟨_, rfl⟩
      have hyl : Hid (ys.length = l) := Lib.hid (by rw [← hys, aplS_length, Hxl.out])
      have Hnx : Hid (aplS (a : Int) (b : Int) (c : Int) xs (k + 1) = if commB (a : Int) (b : Int) (c : Int) xs A = true then appl ys (commM xs A) else ys) := Lib.hid (by rw [aplS, hA, hys])
      rw [hys] at hO
      clear hA hys
      have HCm5 := Lib.hid (HCm.out _ hO.out.grown)
      clear HCm
      go_wp2_with fail
      refine HCm5.out.mono ?_
      rintro e w6 hR
      clear f0 f1 f2 HCm5
      rcases hR with ⟨hy, ad, cpw, n, rfl, hn, hrow, hg6⟩ | ⟨hno, ad, n, cpw, rfl, hg6⟩
      · as_aux_lemma =>
        have hO6 := hO.out.addRow hrow hg6
        have Hhn := Lib.hid hn
        have hn96 : n ≤ 1000 := by
          unfold commB readB mayW at hy
          simp only [Bool.and_eq_true, decide_eq_true_eq] at hy
          have := hy.2.2.1
          have := Hhn.out
          unfold commM at this
          omega
        have HOk := Lib.hid (comm_ok Hm.out hy)
        have Hz := Hnx.out
        rw [if_pos hy] at Hz
        have Hz := Lib.hid Hz
        obtain ⟨M, hM⟩ : ∃ M, commM xs A = M := ⟨_, rfl⟩
        rw [hM] at HOk Hz Hhn hO6
        have hO7 : Hid (Own w w6 [boxP G 28 #[.int .i64 (a : Int), .int .i64 (b : Int), .int .i64 (c : Int)], rowP 44 1 (.slice (some ⟨p, 0, none⟩) l cp) l ((appl ys (M.take 0)).map wv), rowP 92 2 (.slice ad n cpw) n (icells M)]) := Lib.hid hO6
        clear hrow hO6 hn hy hO hg6 hM Hnx
        go_wp2_with fail
        go_loopw [9] (fun i wr => ∃ j : Nat, j ≤ n ∧ i = .int .i64 (j : Int) ∧ Hid (Own w wr [boxP G 28 #[.int .i64 (a : Int), .int .i64 (b : Int), .int .i64 (c : Int)], rowP 44 1 (.slice (some ⟨p, 0, none⟩) l cp) l ((appl ys (M.take j)).map wv), rowP 92 2 (.slice ad n cpw) n (icells M)])) (fun i _ => n - (intOf i).toNat)
        case atStart => exact ⟨0, Nat.zero_le _, rfl, hO7⟩
        case round =>
          clear hO7
          obtain ⟨j, hj, rfl, hO⟩ := hrel
          have j0 : (0 : Int) ≤ (j : Int) := by omega
          by_cases hjn : j < n
          · as_aux_lemma =>
            have hjn' : (j : Int) < (n : Int) := by omega
            have hkL : j < M.length := by rw [← Hhn.out]; exact hjn
            have hp := HOk.out _ (getD_mem M j (0, 0) hkL)
            obtain ⟨ad', cp', he, hat, _, _⟩ := row_slice (hO.out.row 2 rfl)
            cases he
            obtain ⟨q5, o, rfl, v0, v1⟩ := at_ipair hat j hkL
            have HS := Lib.hid (take_snocD M j (0, 0) hkL)
            obtain ⟨B, B0⟩ : ∃ B, Hid (B = (M.getD j (0, 0)).1.toNat) := ⟨_, Lib.hid rfl⟩
            obtain ⟨V, V0⟩ : ∃ V, Hid (V = (M.getD j (0, 0)).2) := ⟨_, Lib.hid rfl⟩
            have hB1 : (M.getD j (0, 0)).1 = (B : Int) := by rw [B0.out]; omega
            rw [hB1] at v0 hp
            rw [← V0.out] at v1
            have hBl : B < l := by have := HN.out; omega
            have hB' : (B : Int) < (l : Int) := by omega
            have hB0 : (0 : Int) ≤ (B : Int) := by omega
            obtain ⟨cK, fK⟩ := cell_atE hO.out 1 rfl (by rw [appl_length, hyl.out]) B hBl
            obtain ⟨U, hU⟩ : ∃ U, (appl ys (M.take j)).getD B 0 = U := ⟨_, rfl⟩
            rw [hU] at cK
            have hO2 := (hO.out.quiet (grown_drew (World.grownBy.refl _ none))).store 1 rfl B (.int .u64 (V : Int))
            rw [show (Value.int .u64 (V : Int)) = wv V from rfl, ← List.map_set, B0.out, V0.out, ← appl_snoc, ← HS.out, ← B0.out, ← V0.out] at hO2
            have HO2 := Lib.hid hO2
            have wj : IntKind.i64.wrap ((j : Int) + 1) = (j : Int) + 1 := IntWalk.i64_in _ ⟨by omega, by omega⟩
            clear hO hO2 hp hat hB1 hU hkL
            go_wp2_with fail
            go_still_tail 12, (by kernel_rfl)
            change wpList _ _ _ _ _ (World.drew _)
            go_wp2
            go_roundw
            case rel => exact ⟨j + 1, by omega, by go_num, HO2⟩
            case measure => simp [intOf]; omega
          · as_aux_lemma =>
            have hjn' : ¬ (j : Int) < (n : Int) := by omega
            have hfin := hO.out
            rw [List.take_of_length_le (by rw [← Hhn.out]; omega), ← Hz.out] at hfin
            have hfin := Lib.hid (Own.less (Ps := [boxP G 28 #[.int .i64 (a : Int), .int .i64 (b : Int), .int .i64 (c : Int)], rowP 44 1 (.slice (some ⟨p, 0, none⟩) l cp) l ((aplS (a : Int) (b : Int) (c : Int) xs (k + 1)).map wv)]) (Qs := [rowP 92 2 (.slice ad n cpw) n (icells M)]) hfin)
            clear hO hj hjn
            go_wp2
            go_roundw
            case rel => exact ⟨k + 1, by omega, by go_num, hfin⟩
            case measure => simp [intOf]; omega
      · as_aux_lemma =>
        have hO6 := hO.out.quiet hg6
        have Hz := Hnx.out
        rw [if_neg (by rw [hno]; decide)] at Hz
        rw [← Hz] at hO6
        have hO6 := Lib.hid hO6
        clear hO hno hg6 Hz Hnx
        go_wp2_with fail
        go_loopw [9] (fun i wr => i = .int .i64 0 ∧ Hid (Own w wr [boxP G 28 #[.int .i64 (a : Int), .int .i64 (b : Int), .int .i64 (c : Int)], rowP 44 1 (.slice (some ⟨p, 0, none⟩) l cp) l ((aplS (a : Int) (b : Int) (c : Int) xs (k + 1)).map wv)])) (fun _ _ => 0)
        case atStart => exact ⟨rfl, hO6⟩
        case round =>
          clear hO6
          obtain ⟨rfl, hO⟩ := hrel
          go_wp2
          go_roundw
          case rel => exact ⟨k + 1, by omega, by go_num, hO⟩
          case measure => simp [intOf]; omega
    · have hlt' : ¬ (k : Int) < (a : Int) := by omega
      obtain rfl : a = k := by omega
      obtain ⟨ys, hys⟩ : ∃ ys, aplS (a : Int) (b : Int) (c : Int) xs a = ys := ⟨_, rfl⟩
      have hyl : Hid (ys.length = l) := Lib.hid (by rw [← hys, aplS_length, Hxl.out])
      rw [hys] at hO
      have Hys := Lib.hid hys
      have hO5 : Hid (Own w _ [boxP G 28 #[.int .i64 (a : Int), .int .i64 (b : Int), .int .i64 (c : Int)], rowP 44 1 (.slice (some ⟨p, 0, none⟩) l cp) l ((zapS ys 0).map wv)]) := hO
      clear hys hO hlt hk k0
      go_wp2_with fail
      clear f0 f1 f2 hlt'
      go_loopw [10] (fun i wr => ∃ k : Nat, k ≤ a ∧ i = .int .i64 (k : Int) ∧ Hid (Own w wr [boxP G 28 #[.int .i64 (a : Int), .int .i64 (b : Int), .int .i64 (c : Int)], rowP 44 1 (.slice (some ⟨p, 0, none⟩) l cp) l ((zapS ys k).map wv)])) (fun i _ => a - (intOf i).toNat)
      case atStart => exact ⟨0, Nat.zero_le _, rfl, hO5⟩
      case round =>
        clear hO5
        obtain ⟨k, hk, rfl, hO⟩ := hrel
        have k0 : (0 : Int) ≤ (k : Int) := by omega
        obtain ⟨f0, f1, f2⟩ := GeoR.cells (show GeoR G (a : Int) (b : Int) (c : Int) _ from hO.out.box 0 rfl)
        by_cases hlt : k < a
        · as_aux_lemma =>
          have hlt' : (k : Int) < (a : Int) := by omega
          obtain ⟨A, hA⟩ : ∃ A, 264 + 208 * k = A := ⟨_, rfl⟩
          have hAl : A + 208 ≤ l := by have := HN.out; omega
          have wk : IntKind.i64.wrap ((k : Int) + 1) = (k : Int) + 1 := IntWalk.i64_in _ ⟨by omega, by omega⟩
          have HAt := Lib.hid (fun wx => RAreaAt_any (a : Int) (b : Int) (c : Int) (k : Int) wx)
          rw [show areaV (a : Int) (b : Int) (c : Int) (k : Int) = (A : Int) from by unfold areaV; rw [if_pos ⟨Hm.out, by omega, by omega⟩]; omega] at HAt
          unfold gv at HAt
          obtain ⟨zs, hzs⟩ : ∃ zs, zapS ys k = zs := ⟨_, rfl⟩
          have hzl : Hid (zs.length = l) := Lib.hid (by rw [← hzs, zapS_length, hyl.out])
          have Hnx : Hid (zapS ys (k + 1) = zap zs A 208) := Lib.hid (by rw [zapS, hA, hzs])
          rw [hzs] at hO
          clear hA hzs
          go_wp2_with fail
          refine (HAt.out _).mono ?_
          rintro e w5 ⟨rfl, hg5⟩
          have hO5 : Hid (Own w w5 [boxP G 28 #[.int .i64 (a : Int), .int .i64 (b : Int), .int .i64 (c : Int)], rowP 44 1 (.slice (some ⟨p, 0, none⟩) l cp) l ((zap zs A 0).map wv)]) := Lib.hid (hO.out.quiet hg5)
          clear f0 f1 f2 hg5 hO HAt
          go_wp2_with fail
          go_loopw [12] (fun i wr => ∃ j : Nat, j ≤ 208 ∧ i = .int .i64 (j : Int) ∧ Hid (Own w wr [boxP G 28 #[.int .i64 (a : Int), .int .i64 (b : Int), .int .i64 (c : Int)], rowP 44 1 (.slice (some ⟨p, 0, none⟩) l cp) l ((zap zs A j).map wv)])) (fun i _ => 208 - (intOf i).toNat)
          case atStart => exact ⟨0, Nat.zero_le _, rfl, hO5⟩
          case round =>
            clear hO5
            obtain ⟨j, hj, rfl, hO⟩ := hrel
            have j0 : (0 : Int) ≤ (j : Int) := by omega
            by_cases hjn : j < 208
            · as_aux_lemma =>
              have hjn' : (j : Int) < 208 := by omega
              obtain ⟨t, ht⟩ : ∃ t, A + j = t := ⟨_, rfl⟩
              have et : (A : Int) + (j : Int) = (t : Int) := by omega
              have wt : IntKind.i64.wrap (t : Int) = (t : Int) := IntWalk.i64_in _ ⟨by omega, by omega⟩
              have t0 : (0 : Int) ≤ (t : Int) := by omega
              have tl' : (t : Int) < (l : Int) := by omega
              have htl : t < l := by omega
              obtain ⟨cK, fK⟩ := cell_atE hO.out 1 rfl (by rw [zap_length, hzl.out]) t htl
              obtain ⟨U, hU⟩ : ∃ U, (zap zs A j).getD t 0 = U := ⟨_, rfl⟩
              rw [hU] at cK
              have hO2 := hO.out.store 1 rfl t (.int .u64 0)
              rw [show (Value.int .u64 0) = wv 0 from rfl, ← List.map_set, ← ht, ← zap_succ, ht] at hO2
              have HO2 := Lib.hid hO2
              have wj : IntKind.i64.wrap ((j : Int) + 1) = (j : Int) + 1 := IntWalk.i64_in _ ⟨by omega, by omega⟩
              clear hO hO2 hU ht
              go_wp2
              go_roundw
              case rel => exact ⟨j + 1, by omega, by go_num, HO2⟩
              case measure => simp [intOf]; omega
            · as_aux_lemma =>
              have hjn' : ¬ (j : Int) < 208 := by omega
              have hfin := hO.out
              rw [show j = 208 from by omega, ← Hnx.out] at hfin
              have hfin := Lib.hid hfin
              clear hO hj hjn
              go_wp2
              go_roundw
              case rel => exact ⟨k + 1, by omega, by go_num, hfin⟩
              case measure => simp [intOf]; omega
        · have hlt' : ¬ (k : Int) < (a : Int) := by omega
          obtain rfl : a = k := by omega
          have hrow := Own.row hO.out 1 rfl
          have hnew := Own.rowNew hO.out 1 rfl
          have hfin : RowOf base (zapS (aplS (a : Int) (b : Int) (c : Int) xs a) a) w (.returned (.slice (some ⟨p, 0, none⟩) l cp)) wr := by rw [Hys.out]; exact ⟨some ⟨p, 0, none⟩, cp, by rw [zapS_length, hyl.out], by rw [zapS_length, hyl.out]; exact row_base hrow (fun i hi => Nat.le_trans Hb.out (hnew i hi)), hO.out.grown⟩
          have hfin := Lib.hid hfin
          clear hrow hnew hO
          go_wp2
          go_ret
          exact hfin.out
end Go.Proofs.YtpdofdloclmbdaaGreat
