/- BlocksApart, walked. -/
import Derived.Test.YtmamgfjnphdecaaDoorPk29
import Derived.Deep.DeepCutAuto
import Derived.Deep.CutBlock
namespace Go.Proofs.YtmamgfjnphdecaaDoor.blocksApart
open Go.RowKit Go.Grommet

set_option maxRecDepth 100000 in
set_option maxHeartbeats 1000000 in
theorem walk_far (a0 : Int) (td : Option Addr) (tl tc : Nat) (w : World) (ht : Lib.TabIs Tryd.prog w "math/bits.deBruijn64tab" .u8 tab) (h : 40 < tl) :
    Calls Tryd.prog 4 #[.int .u8 a0, .slice td tl tc] w (Go.Ev.WorksIs w) := by
  have HW := Lib.hid (works13_tab w ht)
  clear ht
  have g1 : (40 : Int) < (tl : Int) := by omega
  go_enter Tryd.func4, Tryd.ntmps4
  go_wp2_with fail
  refine HW.out.mono ?_
  rintro e w5 ⟨rfl, hg⟩
  go_wp2
  go_ret
  exact ⟨rfl, hg⟩

set_option maxRecDepth 100000 in
set_option maxHeartbeats 8000000 in
theorem walk_at (x0 : Nat) (td : Option Addr) (tl tc : Nat) (T : List Blo) (w : World) (h0 : x0 ≤ 255) (hl : tl ≤ 40) (hT : BlosIn w td tl T)
    (ht : Lib.TabIs Tryd.prog w "math/bits.deBruijn64tab" .u8 tab) :
    Calls Tryd.prog 4 #[.int .u8 (x0 : Int), .slice td tl tc] w (Go.Ev.WorksIs w) := by
  have HTab := Lib.hid ht
  have HT := Lib.hid hT
  have g1 : ¬ (40 : Int) < (tl : Int) := by omega
  have HSm := Lib.hid (fun wx => Small_any 1 x0 wx (by omega) h0)
  obtain ⟨I, hI⟩ : ∃ I, 2 + 1 % 20 = I := ⟨_, rfl⟩
  obtain ⟨B, hB⟩ : ∃ B, 2 + x0 % 60 = B := ⟨_, rfl⟩
  rw [hI, hB] at HSm
  unfold gv at HSm
  have hI3 : I = 3 := by omega
  have hB1 : 2 ≤ B := by omega
  have hB2 : B ≤ 61 := by omega
  clear hI hB h0 ht hT
  go_enter Tryd.func4, Tryd.ntmps4
  go_wp2_with fail
  refine (HSm.out _).mono ?_
  rintro e u0 ⟨rfl, hg0⟩
  clear HSm
  have hO : Grommet.Own w u0 [] := (Own.nil w).quiet hg0
  have hO1 : Grommet.Own w (u0.alloc (.cells (geoCs 1 I B) 25)) [boxP u0.heap.size 25 (geoCs 1 I B)] := hO.addBox _ _
  obtain ⟨G, hG⟩ : ∃ G, u0.heap.size = G := ⟨_, rfl⟩
  obtain ⟨u1, hu1⟩ : ∃ u1, u0.alloc (.cells (geoCs 1 I B) 25) = u1 := ⟨_, rfl⟩
  rw [hG, hu1] at hO1
  obtain ⟨f0, f1, f2⟩ := geoH hO1 0 rfl
  have hmay : mayB ((1 : Nat) : Int) (I : Int) (B : Int) = true := by unfold mayB; simp; omega
  obtain ⟨N, hN⟩ : ∃ N, 488 + 16 * I + 8 * B = N := ⟨_, rfl⟩
  obtain ⟨xs0, hxs⟩ : ∃ xs, fmtL 1 I B (264 + 208 * 1) N = xs := ⟨_, rfl⟩
  have hS0 := begun_two hI3 hB1 hB2 hN hxs
  have hx0l : xs0.length = N := by rw [← hxs]; exact length_fmtL _ _ _ _ _
  have HF := Lib.hid (RFormatH 1 I B N xs0 w u1 _ hO1 hmay (by omega) hxs)
  have HIn := Lib.hid (fun wx => InodeAt_any ((1 : Nat) : Int) (I : Int) (B : Int) 2 wx)
  have h520 : inodeV ((1 : Nat) : Int) (I : Int) (B : Int) 2 = 520 := by unfold inodeV; rw [if_pos ⟨hmay, by omega, by omega⟩]; rfl
  rw [h520] at HIn
  have HWd := Lib.hid (fun wx => Words_any ((1 : Nat) : Int) (I : Int) (B : Int) wx)
  rw [show wordsV ((1 : Nat) : Int) (I : Int) (B : Int) = (N : Int) from by rw [words_pos hmay]; omega] at HWd
  unfold gv at HWd HF HIn
  have HS0 := Lib.hid hS0
  have HIB := Lib.hid (And.intro hI3 (And.intro hB1 hB2))
  have HNe := Lib.hid hN
  have hNl : N ≤ 1024 := by omega
  have hN0 : 536 ≤ N := by omega
  have n1 : (520 : Int) < (N : Int) := by omega
  have Hl := Lib.hid hx0l
  rw [show ((1 : Nat) : Int) = 1 from rfl] at *
  clear hO hO1 hg0 hS0 hmay hxs hN hI3 hB1 hB2 h520 hx0l
  unfold geoCs at hu1
  rw [show ((1 : Nat) : Int) = 1 from rfl] at hu1
  go_wp2_with fail
  refine HF.out.mono ?_
  rintro e u2 ⟨q, rfl, hO2⟩
  clear HF f0 f1 f2 hu1 hG
  obtain ⟨f0, f1, f2⟩ := geoH hO2 0 rfl
  rw [show ((1 : Nat) : Int) = 1 from rfl] at f0
  have hO2 := Lib.hid hO2
  go_wp2_with fail
  refine (HIn.out _).mono ?_
  rintro e u3 ⟨rfl, hg3⟩
  have hO3 := hO2.out.quiet hg3
  clear hO2 HIn hg3 f0 f1 f2
  obtain ⟨bq, ebq, c520, z520, _⟩ := hO3.cell 1 rfl 520 (wv (xs0.getD 520 0)) (by rw [List.getElem?_map, List.getD_eq_getElem?_getD, List.getElem?_eq_getElem (by have := Hl.out; omega)]; rfl)
  cases ebq
  have hO4 := hO3.store 1 rfl 520 (.int .u64 1)
  rw [show (.int .u64 1 : Value) = wv 1 from rfl, ← List.map_set] at hO4
  obtain ⟨u4, hu4⟩ : ∃ u4, u3.setCell ⟨q, 520, none⟩ (wv 1) = u4 := ⟨_, rfl⟩
  obtain ⟨xs1, hxs1⟩ : ∃ xs1, xs0.set 520 1 = xs1 := ⟨_, rfl⟩
  rw [hu4] at hO4
  rw [hxs1] at hO4 HS0
  have hO4 : Hid (Grommet.Own w u4 [boxP G 25 (geoCs 1 I B), rowP 47 1 (.slice (some ⟨q, 0, none⟩) N N) N (xs1.map wv)]) := Lib.hid hO4
  clear hO3 hxs1 Hl
  unfold wv at c520 hu4
  rw [show (((1 : Nat) : Nat) : Int) = 1 from rfl] at hu4
  go_wp2_with fail
  try rw [hu4]
  clear hu4 c520 z520
  go_loopw [6, 7] (fun sl kv wr => ∃ (k : Nat) (ad : Option Addr) (cp : Nat) (xs : List Nat) (P : Nat → Nat → Nat) (f0 : Nat → Nat), k ≤ tl ∧ kv = .int .i64 (k : Int) ∧ sl = .slice ad N cp ∧ Hid (Bst I B (fun n => n = 1 ∨ n = 2) f0 xs [] P ∧ Br (fun n => n = 1 ∨ n = 2) P) ∧ Hid (Grommet.Own w wr [boxP G 25 (geoCs 1 I B), rowP 47 1 (.slice ad N cp) N (xs.map wv)])) (fun _ kv _ => tl - (intOf kv).toNat)
  case atStart => exact ⟨0, _, _, xs1, _, _, Nat.zero_le _, rfl, rfl, Lib.hid ⟨HS0.out.1, HS0.out.2.2⟩, hO4⟩
  case round =>
    clear hO4 HS0
    obtain ⟨k, ad, cp, xs, P, f0', hk, rfl, rfl, HS, hO⟩ := hrel
    have k0 : (0 : Int) ≤ (k : Int) := by omega
    by_cases hlt : k < tl
    · have hlt' : (k : Int) < (tl : Int) := by omega
      obtain ⟨x, hx⟩ : ∃ x, T[k]? = some x := ⟨T[k]'(by rw [HT.out.1]; exact hlt), List.getElem?_eq_getElem _⟩
      obtain ⟨tg, to', htd, _, _, _⟩ := (HT.out.grown hO.out.grown).2.2 k x hx
      subst htd
      obtain ⟨ok0, ok1⟩ := HT.out.2.1 x (List.mem_of_getElem? hx)
      have Hc := Lib.hid (fun wx (hg : w.grownBy wx none) => ((HT.out.grown hg).at k x hx))
      clear hx
      obtain ⟨xd, xn, xdr⟩ := x
      dsimp only at ok0 ok1 Hc
      have b0 := bounds_u8 ok0
      have b1 := bounds_i64 ok1
      obtain ⟨D, rfl⟩ := Int.eq_ofNat_of_zero_le b0.1
      obtain ⟨r, Hr⟩ : ∃ r, Hid (r = D % 3) := ⟨_, Lib.hid rfl⟩
      have hr3 : r < 3 := by rw [Hr.out]; omega
      have e4 : (D : Int) % 3 = (r : Int) := by rw [Hr.out]; omega
      have e4' : Int.tmod (D : Int) 3 = (r : Int) := by rw [Int.tmod_eq_emod_of_nonneg (by omega)]; exact e4
      have wr4 : IntKind.u8.wrap (r : Int) = (r : Int) := IntWalk.u8_in _ ⟨by omega, by omega⟩
      obtain ⟨m, Hm⟩ : ∃ m, Hid (m = k % 2) := ⟨_, Lib.hid rfl⟩
      have hm2 : m < 2 := by rw [Hm.out]; omega
      have e5 : (k : Int) % 2 = (m : Int) := by rw [Hm.out]; omega
      have e5' : Int.tmod (k : Int) 2 = (m : Int) := by rw [Int.tmod_eq_emod_of_nonneg (by omega)]; exact e5
      have wm5 : IntKind.i64.wrap (m : Int) = (m : Int) := IntWalk.i64_in _ ⟨by omega, by omega⟩
      obtain ⟨n, Hn⟩ : ∃ n, Hid (n = 1 + m) := ⟨_, Lib.hid rfl⟩
      obtain ⟨n', Hn'⟩ : ∃ n', Hid (n' = 2 - m) := ⟨_, Lib.hid rfl⟩
      have wn : IntKind.i64.wrap (1 + (m : Int)) = (n : Int) := by rw [IntWalk.i64_in _ ⟨by omega, by omega⟩]; have := Hn.out; omega
      have wn' : IntKind.i64.wrap (2 - (m : Int)) = (n' : Int) := by rw [IntWalk.i64_in _ ⟨by omega, by omega⟩]; have := Hn'.out; omega
      have en : 1 + (m : Int) = (n : Int) := by have := Hn.out; omega
      have en' : 2 - (m : Int) = (n' : Int) := by have := Hn'.out; omega
      obtain ⟨hS, hBr⟩ := HS.out
      obtain ⟨hW, hnil, _⟩ := Own.words hO.out 1 rfl hS.small (by omega)
      have HNew := Lib.hid (NewH ad N cp xs w _ _ hO.out hW (by omega) hnil)
      have hS := Lib.hid hS
      clear hO hW hnil ok0 ok1 b0
      go_wp2_with fail
      refine HNew.out.mono ?_
      rintro e w1 ⟨g, rfl, hO1⟩
      have hO1 : Grommet.Own w w1 [boxP G 25 (geoCs 1 I B), rowP 47 1 (.slice ad N cp) N (xs.map wv), viewP g xs []] := hO1
      obtain ⟨f0, f1, f2⟩ := geoH hO1 0 rfl
      rw [show ((1 : Nat) : Int) = 1 from rfl] at f0
      have HOf := Lib.hid (hS.out.of (n := n) (by have := Hn.out; omega) hO1 (kv := 2) rfl)
      unfold gv at HOf
      rw [show ((1 : Nat) : Int) = 1 from rfl] at HOf
      clear HNew hO1
      go_wp2_with fail
      refine HOf.out.mono ?_
      rintro e w2 ⟨X, rfl, hO2⟩
      clear HOf f0 f1 f2
      have hO2 : Grommet.Own w w2 [boxP G 25 (geoCs 1 I B), rowP 47 1 (.slice ad N cp) N (xs.map wv), viewP g xs [], bmP X g 1 I B n] := hO2
      obtain ⟨f0, f1, f2⟩ := geoH hO2 0 rfl
      rw [show ((1 : Nat) : Int) = 1 from rfl] at f0
      have HOf := Lib.hid (hS.out.of (n := n') (by have := Hn'.out; omega) hO2 (kv := 2) rfl)
      unfold gv at HOf
      rw [show ((1 : Nat) : Int) = 1 from rfl] at HOf
      clear hO2
      go_wp2_with fail
      refine HOf.out.mono ?_
      rintro e w3 ⟨Y, rfl, hO3⟩
      clear HOf f0 f1 f2
      have hO3 : Grommet.Own w w3 [boxP G 25 (geoCs 1 I B), rowP 47 1 (.slice ad N cp) N (xs.map wv), viewP g xs [], bmP X g 1 I B n, bmP Y g 1 I B n'] := hO3
      have hsol : ∀ L R, ∀ Q ∈ [boxP G 25 (geoCs 1 I B), rowP 47 1 (.slice ad N cp) N (xs.map wv), viewP g xs L, bmP X g 1 I B n, bmP Y g 1 I B n'] ++ R, (∀ S ∈ R, Solid S) → Solid Q := by
        intro L R Q hQ hR
        rcases List.mem_append.1 hQ with h | h
        · simp only [List.mem_cons, List.not_mem_nil, or_false] at h
          rcases h with rfl | rfl | rfl | rfl | rfl
          · exact solid_box _ _ _
          · exact solid_row _ _ _ _ _
          · exact solid_view _ _ _
          · exact solid_box _ _ _
          · exact solid_box _ _ _
        · exact hR Q h
      have hsol := Lib.hid hsol
      have HLs := Lib.hid (hS.out.list (n := n') (by have := Hn'.out; omega) hO3 (kv := 2) (km := 4) rfl rfl (fun Q hQ => hsol.out [] [] Q (by simpa using hQ) (fun _ h => by cases h)))
      clear hO3
      go_wp2_with fail
      refine HLs.out.mono ?_
      rintro e w4 ⟨wad, wcp, wl, rfl, hwl0, hO4⟩
      have hO4 : Hid (Grommet.Own w w4 [boxP G 25 (geoCs 1 I B), rowP 47 1 (.slice ad N cp) N (xs.map wv), viewP g xs [], bmP X g 1 I B n, bmP Y g 1 I B n', rowP 3 1 (.slice wad wl wcp) wl ((lst (P n')).map nzv)]) := Lib.hid hO4
      have hwl := Lib.hid hwl0
      clear hwl0
      clear HLs
      obtain ⟨c0, c1, c2⟩ := Hc.out w4 hO4.out.grown
      obtain ⟨K0, kk, hkk, hK0, hmx⟩ : ∃ (K0 : Int) (kk : Nat), kk < 12 ∧ K0 = (kk : Int) ∧ ((xn < 0 ∧ K0 = 0) ∨ (0 ≤ xn ∧ xn % 12 = K0)) := by
        by_cases hx : xn < 0
        · exact ⟨0, 0, by omega, rfl, .inl ⟨hx, rfl⟩⟩
        · exact ⟨xn % 12, (xn % 12).toNat, by omega, by omega, .inr ⟨by omega, rfl⟩⟩
      have HDr := Lib.hid (hS.out.drop (by simp) (n := n) (k := kk) (by have := Hn.out; omega) hkk)
      have HTk := Lib.hid (hS.out.take (by simp) (n := n) (k := kk) (by have := Hn.out; omega) hkk hO4.out (kv := 2) (km := 3) rfl rfl (by omega) HTab.out)
      unfold DropC at HDr
      rw [← hK0] at HTk HDr
      clear hK0
      have HBr := Lib.hid hBr
      have Hnn : Hid (n ≠ n' ∧ (n = 1 ∨ n = 2) ∧ (n' = 1 ∨ n' = 2)) := Lib.hid (by have := Hn.out; have := Hn'.out; omega)
      have wk : IntKind.i64.wrap ((k : Int) + 1) = (k : Int) + 1 := IntWalk.i64_in _ ⟨by omega, by omega⟩
      clear hBr b1 e5 e5' wm5 wn wn' en en' hm2
      rcases hmx with ⟨hxn, rfl⟩ | ⟨hxn, hK⟩
      all_goals
        go_upto_if 89 with fail
        go_cut [14] (fun _ wx => ∃ L' P', Hid (Bst I B (fun n => n = 1 ∨ n = 2) f0' xs L' P' ∧ Br (fun n => n = 1 ∨ n = 2) P' ∧ P' n' = P n') ∧ Hid (Grommet.Own w wx [boxP G 25 (geoCs 1 I B), rowP 47 1 (.slice ad N cp) N (xs.map wv), viewP g xs L', bmP X g 1 I B n, bmP Y g 1 I B n', rowP 3 1 (.slice wad wl wcp) wl ((lst (P n')).map nzv)]))
        case first =>
          clear c0 c1 c2
          by_cases hr : r = 2
          · obtain ⟨L1, P1, hR, hC⟩ := HDr.out
            have HC := Lib.hid (hC 2 3 X g w w4 _ hO4.out rfl rfl (by omega))
            have hfin := Lib.hid (And.intro hR.st (And.intro (hR.br HBr.out) (hR.other n' (fun e => Hnn.out.1 e.symm))))
            have q : ((r : Int) == 2) = true := by rw [hr]; rfl
            clear hR hC HDr HTk hO4
            go_wp2_with fail
            refine HC.out.mono ?_
            rintro e w5 ⟨rfl, hO5⟩
            have hO5 := Lib.hid hO5
            clear HC
            go_wp2_with fail
            go_meet
            case rel => exact ⟨L1, P1, hfin, hO5⟩
          · have q : ((r : Int) == 2) = false := by rw [beq_eq_false_iff_ne]; omega
            have q' : ¬ (r : Int) = 2 := by omega
            clear HDr hO4
            go_wp2_with fail
            refine HTk.out.mono ?_
            rintro e w5 ⟨v, en, L1, P1, rfl, hO5, hR⟩
            have hfin := Lib.hid (And.intro hR.st (And.intro (hR.br HBr.out) (hR.other n' (fun e => Hnn.out.1 e.symm))))
            have hO5 := Lib.hid hO5
            clear HTk hR
            go_wp2_with fail
            go_meet
            case rel => exact ⟨L1, P1, hfin, hO5⟩
        case rest =>
          obtain ⟨L', P', HS2, hO5⟩ := hcut
          have HLs := Lib.hid (HS2.out.1.list (n := n) Hnn.out.2.1 hO5.out (kv := 2) (km := 3) rfl rfl (fun Q hQ => hsol.out L' [rowP 3 1 (.slice wad wl wcp) wl ((lst (P n')).map nzv)] Q (by simpa using hQ) (fun S h => by simp only [List.mem_cons, List.not_mem_nil, or_false] at h; subst h; exact solid_row _ _ _ _ _)))
          clear hO5 hO4 HDr HTk c0 c1 c2
          go_wp2_with fail
          refine HLs.out.mono ?_
          rintro e w6 ⟨oad, ocp, ol, rfl, hol0, hO6⟩
          have hO6 : Hid (Grommet.Own w w6 [boxP G 25 (geoCs 1 I B), rowP 47 1 (.slice ad N cp) N (xs.map wv), viewP g xs L', bmP X g 1 I B n, bmP Y g 1 I B n', rowP 3 1 (.slice wad wl wcp) wl ((lst (P n')).map nzv), rowP 3 1 (.slice oad ol ocp) ol ((lst (P' n)).map nzv)]) := Lib.hid hO6
          have hol := Lib.hid hol0
          clear HLs hol0
          have HNo := Lib.hid (NAt.of hO6.out 6 rfl)
          have HNw := Lib.hid (NAt.of hO6.out 5 rfl)
          have Hne : Hid (∀ V U, V ∈ lst (P' n) → U ∈ lst (P n') → V ≠ U) := Lib.hid (fun V U hV hU e => by
            obtain ⟨v0, a, ha, rfl⟩ := mem_lst hV
            obtain ⟨u0, b, hb, rfl⟩ := mem_lst hU
            rw [← HS2.out.2.2] at e
            exact Hnn.out.1 (HS2.out.1.lk.one n n' a b Hnn.out.2.1 Hnn.out.2.2 ha hb v0 e).1)
          have hol1 : ol ≤ 13 := by rw [hol.out, lst_len]; exact cntF_le _ _
          have hwl1 : wl ≤ 13 := by rw [hwl.out, lst_len]; exact cntF_le _ _
          go_wp2_with fail
          go_loopw [16] (fun iv wr => ∃ j : Nat, j ≤ ol ∧ iv = .int .i64 (j : Int) ∧ w6.grownBy wr none) (fun iv _ => ol - (intOf iv).toNat)
          case atStart => exact ⟨0, Nat.zero_le _, rfl, World.grownBy.refl _ _⟩
          case round =>
            obtain ⟨j, hj, rfl, hg⟩ := hrel
            have j0 : (0 : Int) ≤ (j : Int) := by omega
            have hg := Lib.hid hg
            by_cases hjl : j < ol
            · have hjl' : (j : Int) < (ol : Int) := by omega
              obtain ⟨V, hV⟩ : ∃ V, (lst (P' n))[j]? = some V := ⟨_, List.getElem?_eq_getElem (by rw [← hol.out]; exact hjl)⟩
              have HV := Lib.hid (List.mem_of_getElem? hV)
              have HcV := Lib.hid (fun wx (hgx : w6.grownBy wx none) => HNo.out.keep hgx j V hV)
              have wj : IntKind.i64.wrap ((j : Int) + 1) = (j : Int) + 1 := IntWalk.i64_in _ ⟨by omega, by omega⟩
              clear hV
              go_wp2_with fail
              go_loopw [17] (fun qv wr => ∃ q : Nat, q ≤ wl ∧ qv = .int .i64 (q : Int) ∧ w6.grownBy wr none) (fun qv _ => wl - (intOf qv).toNat)
              case atStart => exact ⟨0, Nat.zero_le _, rfl, hg.out⟩
              case round =>
                obtain ⟨q, hq, rfl, hg2⟩ := hrel
                have q0 : (0 : Int) ≤ (q : Int) := by omega
                by_cases hql : q < wl
                · have hql' : (q : Int) < (wl : Int) := by omega
                  obtain ⟨U, hU⟩ : ∃ U, (lst (P n'))[q]? = some U := ⟨_, List.getElem?_eq_getElem (by rw [← hwl.out]; exact hql)⟩
                  have hne := Hne.out V U HV.out (List.mem_of_getElem? hU)
                  obtain ⟨vb, vo, hva, cv⟩ := HcV.out wr hg2
                  obtain ⟨ub, uo, hua, cu⟩ := HNw.out.keep hg2 q U hU
                  subst hva hua
                  have x1 : ((V : Int) == (U : Int)) = false := by rw [beq_eq_false_iff_ne]; omega
                  have x2 : ¬ (V : Int) = (U : Int) := by omega
                  have wq : IntKind.i64.wrap ((q : Int) + 1) = (q : Int) + 1 := IntWalk.i64_in _ ⟨by omega, by omega⟩
                  have hg2 := Lib.hid hg2
                  clear hU hne
                  go_wp2_with fail
                  go_quiet (fail)
                  go_wp2
                  go_roundw
                  case rel => exact ⟨q + 1, by omega, by go_num, grown_trans hg2.out (grown_drewN _ _ _)⟩
                  case measure => simp [intOf]; omega
                · have hql' : ¬ (q : Int) < (wl : Int) := by omega
                  have hg2 := Lib.hid hg2
                  go_wp2
                  go_roundw
                  case rel => exact ⟨j + 1, by omega, by go_num, hg2.out⟩
                  case measure => simp [intOf]; omega
            · have hjl' : ¬ (j : Int) < (ol : Int) := by omega
              have hO7 := hO6.out.quiet hg.out
              have HFl := Lib.hid (FlatH 2 g xs L' w wr _ hO7 rfl)
              have hWl := Own.wl hO7 2 rfl
              obtain ⟨ys, hys⟩ : ∃ ys, flatV xs L' = ys := ⟨_, rfl⟩
              have hfl := HS2.out.1.flat
              rw [hys] at hfl HFl
              rw [show xs.length = N by have := hS.out.len; have := HNe.out; omega] at HFl
              have HSy := Lib.hid (And.intro hfl.1 HS2.out.2.1)
              clear hO7 hWl hfl hys
              go_wp2_with fail
              refine HFl.out.mono ?_
              rintro e w8 ⟨ad2, cp2, rfl, hO8⟩
              have hO8 : Grommet.Own w w8 [boxP G 25 (geoCs 1 I B), rowP 47 1 (.slice ad N cp) N (xs.map wv), viewP g xs L', bmP X g 1 I B n, bmP Y g 1 I B n', rowP 3 1 (.slice wad wl wcp) wl ((lst (P n')).map nzv), rowP 3 1 (.slice oad ol ocp) ol ((lst (P' n)).map nzv), rowP 47 1 (.slice ad2 N cp2) N (ys.map wv)] := hO8
              have HLs := Lib.hid (HS2.out.1.list (n := n') Hnn.out.2.2 hO8 (kv := 2) (km := 4) rfl rfl (fun Q hQ => hsol.out L' [rowP 3 1 (.slice wad wl wcp) wl ((lst (P n')).map nzv), rowP 3 1 (.slice oad ol ocp) ol ((lst (P' n)).map nzv), rowP 47 1 (.slice ad2 N cp2) N (ys.map wv)] Q (by simpa using hQ) (fun S h => by simp only [List.mem_cons, List.not_mem_nil, or_false] at h; rcases h with rfl | rfl | rfl <;> exact solid_row _ _ _ _ _)))
              rw [HS2.out.2.2] at HLs
              clear HFl hO8
              go_wp2_with fail
              refine HLs.out.mono ?_
              rintro e w9 ⟨bad, bcp, bl, rfl, hbl, hO9⟩
              obtain rfl : wl = bl := hwl.out.trans hbl.symm
              have hO9 : Grommet.Own w w9 [boxP G 25 (geoCs 1 I B), rowP 47 1 (.slice ad N cp) N (xs.map wv), viewP g xs L', bmP X g 1 I B n, bmP Y g 1 I B n', rowP 3 1 (.slice wad wl wcp) wl ((lst (P n')).map nzv), rowP 3 1 (.slice oad ol ocp) ol ((lst (P' n)).map nzv), rowP 47 1 (.slice ad2 N cp2) N (ys.map wv), rowP 3 1 (.slice bad wl bcp) wl ((lst (P n')).map nzv)] := hO9
              have HSI := Lib.hid (sameInts_yes bad wad wl bcp wcp (lst (P n')) w9 hwl.out.symm (by omega) (NAt.of hO9 8 rfl) (NAt.of hO9 5 rfl))
              have hO9 := Lib.hid hO9
              clear HLs hbl
              go_wp2_with fail
              refine HSI.out.mono ?_
              rintro e w10 ⟨rfl, hg10⟩
              have hO10 := hO9.out.quiet hg10
              obtain ⟨f0, f1, f2⟩ := geoH hO10 0 rfl
              rw [show ((1 : Nat) : Int) = 1 from rfl] at f0
              have hO10 := Lib.hid hO10
              clear HSI hO9 hg10
              have y1 : ((N : Int) != (N : Int)) = false := by simp
              go_wp2_with fail
              refine (HWd.out _).mono ?_
              rintro e w11 ⟨rfl, hg11⟩
              have hOE : Hid (Grommet.Own w w11 [boxP G 25 (geoCs 1 I B), rowP 47 1 (.slice ad2 N cp2) N (ys.map wv)]) := Lib.hid ((hO10.out.quiet hg11).permute (fun j => [0, 7].getD j 0) (fun j hj => by
                have : j = 0 ∨ j = 1 := by simp at hj; omega
                rcases this with rfl | rfl
                · exact ⟨by simp, rfl⟩
                · exact ⟨by simp, rfl⟩) (fun i j hi hj hne => by
                have h1 : i = 0 ∨ i = 1 := by simp at hi; omega
                have h2 : j = 0 ∨ j = 1 := by simp at hj; omega
                rcases h1 with rfl | rfl <;> rcases h2 with rfl | rfl <;> first | exact absurd rfl hne | decide))
              clear hO10 hg11 f0 f1 f2
              go_wp2
              go_roundw
              case rel => exact ⟨k + 1, ad2, cp2, ys, P', f0', by omega, by go_num, rfl, HSy, hOE⟩
              case measure => simp [intOf]; omega
    · obtain rfl : tl = k := by omega
      have hlt' : ¬ (tl : Int) < (tl : Int) := by omega
      have HW := Lib.hid (works13_tab wr (tab_grown HTab.out hO.out.grown))
      have hgO := Lib.hid hO.out.grown
      clear hO HS
      go_wp2_with fail
      refine HW.out.mono ?_
      rintro e w5 ⟨rfl, hg⟩
      have hgE := Lib.hid (grown_trans hgO.out hg)
      go_wp2
      go_ret
      exact ⟨rfl, hgE.out⟩
theorem walk (a0 : Int) (td : Option Addr) (tl tc : Nat) (T : List Blo) (w : World) (w0 : (Lit.int .u8 a0).wf = true) (hT : BlosIn w td tl T) (ht : Lib.TabIs Tryd.prog w "math/bits.deBruijn64tab" .u8 tab) :
    Calls Tryd.prog 4 #[.int .u8 a0, .slice td tl tc] w (Go.Ev.WorksIs w) := by
  have b0 := bounds_u8 w0
  obtain ⟨A, rfl⟩ := Int.eq_ofNat_of_zero_le b0.1
  by_cases h : 40 < tl
  · exact walk_far _ td tl tc w ht h
  · exact walk_at A td tl tc T w (by omega) (by omega) hT ht
end Go.Proofs.YtmamgfjnphdecaaDoor.blocksApart
