/- BlocksOnce, walked. -/
import Derived.Test.YtmamgfjnphdecaaDoorBlkY
import Derived.Deep.DeepCutAuto
import Derived.Deep.CutBlock
namespace Go.Proofs.YtmamgfjnphdecaaDoor.blocksOnce
open Go.RowKit Go.Grommet
set_option linter.unusedVariables false

set_option maxRecDepth 100000 in
set_option maxHeartbeats 1000000 in
theorem walk_far (a0 : Int) (td : Option Addr) (tl tc : Nat) (w : World) (ht : Lib.TabIs Tryd.prog w "math/bits.deBruijn64tab" .u8 tab) (h : 60 < tl) :
    Calls Tryd.prog 3 #[.int .u8 a0, .slice td tl tc] w (Go.Ev.WorksIs w) := by
  have HW := Lib.hid (works13_tab w ht)
  clear ht
  have g1 : (60 : Int) < (tl : Int) := by omega
  go_enter Tryd.func3, Tryd.ntmps3
  go_wp2_with fail
  refine HW.out.mono ?_
  rintro e w5 ⟨rfl, hg⟩
  go_wp2
  go_ret
  exact ⟨rfl, hg⟩

theorem sol8 {G I B g X N cp Y XI XB XA : Nat} {ad : Option Addr} {xs : List Nat} {L : List (Nat × Nat)} : ∀ Q ∈ [boxP G 25 (geoCs 1 I B), rowP 47 1 (.slice ad N cp) N (xs.map wv), viewP g xs L, bmP X g 1 I B 1, boxP Y 25 (geoCs 1 I B), mapP XI g (264 + 208 * 1) I, mapP XB g (272 + 208 * 1) B, allocP XA g 1 I B XI XB], Solid Q := by
  intro Q h
  simp only [List.mem_cons, List.not_mem_nil, or_false] at h
  rcases h with rfl | rfl | rfl | rfl | rfl | rfl | rfl | rfl
  · exact solid_box _ _ _
  · exact solid_row _ _ _ _ _
  · exact solid_view _ _ _
  · exact solid_box _ _ _
  · exact solid_box _ _ _
  · exact solid_box _ _ _
  · exact solid_box _ _ _
  · exact solid_box _ _ _
theorem own_010 {w0 w : World} {A0 A1 A2 A3 A4 A5 A6 A7 A8 A9 A10 : Pr} (h : Grommet.Own w0 w [A0, A1, A2, A3, A4, A5, A6, A7, A8, A9, A10]) : Grommet.Own w0 w [A0, A10] :=
  h.permute (fun j => [0, 10].getD j 0) (fun j hj => by
    have : j = 0 ∨ j = 1 := by simp at hj; omega
    rcases this with rfl | rfl
    · exact ⟨by simp, rfl⟩
    · exact ⟨by simp, rfl⟩) (fun i j hi hj hne => by
    have h1 : i = 0 ∨ i = 1 := by simp at hi; omega
    have h2 : j = 0 ∨ j = 1 := by simp at hj; omega
    rcases h1 with rfl | rfl <;> rcases h2 with rfl | rfl <;> first | exact absurd rfl hne | decide)
theorem box_has {w0 w : World} {Ps : List Pr} {X : Nat} {f : Nat → Bool} (h : Grommet.Own w0 w Ps) (k : Nat) (hk : Ps[k]? = some (boxP X 53 (hasC f))) (n : Nat) (hn : n < 64) (b : Bool) (hb : f n = b) : w.cell? ⟨X, n, none⟩ = some (.bool b) ∧ w.frozen? ⟨X, n, none⟩ = false := by
  have hx := h.box k hk
  have hg := hasC_get f n hn
  rw [hb] at hg
  simp [World.cell?, World.frozen?, hx, hg]
theorem alc8 {G I B g X N cp Y XI XB XA : Nat} {ad : Option Addr} {xs : List Nat} {L : List (Nat × Nat)} (R : List Pr) (hm : mayB ((1 : Nat) : Int) (I : Int) (B : Int) = true) (hx : xs.length = 488 + 16 * I + 8 * B) (hl : xs.length ≤ 1024) : AlcIs ([boxP G 25 (geoCs 1 I B), rowP 47 1 (.slice ad N cp) N (xs.map wv), viewP g xs L, bmP X g 1 I B 1, boxP Y 25 (geoCs 1 I B), mapP XI g (264 + 208 * 1) I, mapP XB g (272 + 208 * 1) B, allocP XA g 1 I B XI XB] ++ R) 2 5 6 7 g 1 I B XI XB XA xs L :=
  ⟨rfl, rfl, rfl, rfl, hm, by omega, by omega⟩

set_option maxRecDepth 100000 in
set_option maxHeartbeats 8000000 in
theorem walk_at (x0 : Nat) (td : Option Addr) (tl tc : Nat) (T : List Blo) (w : World) (h0 : x0 ≤ 255) (hl : tl ≤ 60) (hT : BlosIn w td tl T)
    (ht : Lib.TabIs Tryd.prog w "math/bits.deBruijn64tab" .u8 tab) :
    Calls Tryd.prog 3 #[.int .u8 (x0 : Int), .slice td tl tc] w (Go.Ev.WorksIs w) := by
  have HTab := Lib.hid ht
  have HT := Lib.hid hT
  have g1 : ¬ (60 : Int) < (tl : Int) := by omega
  have HSm := Lib.hid (fun wx => Small_any 0 x0 wx (by omega) h0)
  obtain ⟨I, hI⟩ : ∃ I, 2 + 0 % 20 = I := ⟨_, rfl⟩
  obtain ⟨B, hB⟩ : ∃ B, 2 + x0 % 60 = B := ⟨_, rfl⟩
  rw [hI, hB] at HSm
  rw [show ((0 : Nat) : Int) = 0 from rfl] at HSm
  unfold gv at HSm
  have hI3 : I = 2 := by omega
  have hB1 : 2 ≤ B := by omega
  have hB2 : B ≤ 61 := by omega
  clear hI hB h0 ht hT
  go_enter Tryd.func3, Tryd.ntmps3
  go_wp2_with fail
  refine (HSm.out _).mono ?_
  rintro e u0 ⟨rfl, hg0⟩
  clear HSm
  have hO : Grommet.Own w u0 [] := (Own.nil w).quiet hg0
  have hO1 : Grommet.Own w (u0.alloc (.cells (geoCs 1 I B) 25)) [boxP u0.heap.size 25 (geoCs 1 I B)] := hO.addBox _ _
  obtain ⟨G, hG⟩ : ∃ G, u0.heap.size = G := ⟨_, rfl⟩
  obtain ⟨u1, hu1⟩ : ∃ u1, u0.alloc (.cells (geoCs 1 I B) 25) = u1 := ⟨_, rfl⟩
  rw [hG, hu1] at hO1
  obtain ⟨f0, f1, f2⟩ := geoH hO1 0 rfl
  have hmay : mayB ((1 : Nat) : Int) (I : Int) (B : Int) = true := by unfold mayB; simp; omega
  obtain ⟨N, hN⟩ : ∃ N, 488 + 16 * I + 8 * B = N := ⟨_, rfl⟩
  obtain ⟨xs0, hxs⟩ : ∃ xs, fmtL 1 I B (264 + 208 * 1) N = xs := ⟨_, rfl⟩
  have hS0 := begun_one hI3 hB1 hB2 hN hxs
  have HF := Lib.hid (RFormatH 1 I B N xs0 w u1 _ hO1 hmay (by omega) hxs)
  have HBa := Lib.hid (fun (v : Nat) (_ : v < B) wx => BlockAt_any ((1 : Nat) : Int) (I : Int) (B : Int) (v : Int) wx)
  have hbv : ∀ v, v < B → blockV ((1 : Nat) : Int) (I : Int) (B : Int) ((v : Nat) : Int) = ((488 + 16 * I + 8 * v : Nat) : Int) := fun v hv => by
    unfold blockV; rw [if_pos ⟨hmay, by omega, by omega⟩]; omega
  have HWd := Lib.hid (fun wx => Words_any ((1 : Nat) : Int) (I : Int) (B : Int) wx)
  rw [show wordsV ((1 : Nat) : Int) (I : Int) (B : Int) = (N : Int) from by rw [words_pos hmay]; omega] at HWd
  unfold gv at HF HBa HWd
  have HS0 := Lib.hid hS0
  have HIB := Lib.hid (And.intro hI3 (And.intro hB1 hB2))
  have HNe := Lib.hid hN
  have Hbv := Lib.hid hbv
  have Hmay := Lib.hid hmay
  have hNl : N ≤ 1024 := by omega
  have hN0 : 536 ≤ N := by omega
  have hB64 : B ≤ 61 := hB2
  rw [show ((1 : Nat) : Int) = 1 from rfl] at f0 HF HBa HWd
  clear hO hO1 hg0 hS0 hmay hxs hN hI3 hB1 hB2 hbv
  unfold geoCs at hu1
  rw [show ((1 : Nat) : Int) = 1 from rfl] at hu1
  go_wp2_with fail
  refine HF.out.mono ?_
  rintro e u2 ⟨q, rfl, hO2⟩
  clear HF f0 f1 f2 hu1 hG
  have hO2 : Hid (Grommet.Own w u2 [boxP G 25 (geoCs 1 I B), rowP 47 1 (.slice (some ⟨q, 0, none⟩) N N) N (xs0.map wv)]) := Lib.hid hO2
  go_wp2_with fail
  go_loopw [6, 7] (fun sl kv wr => ∃ (k : Nat) (ad : Option Addr) (cp : Nat) (xs : List Nat) (P : Nat → Nat → Nat) (f0 : Nat → Nat), k ≤ tl ∧ kv = .int .i64 (k : Int) ∧ sl = .slice ad N cp ∧ Hid (Bst I B (fun n => n = 1) f0 xs [] P ∧ Br (fun n => n = 1) P ∧ cntB xs [] B = 1 + nzc (P 1)) ∧ Hid (Grommet.Own w wr [boxP G 25 (geoCs 1 I B), rowP 47 1 (.slice ad N cp) N (xs.map wv)])) (fun _ kv _ => tl - (intOf kv).toNat)
  case atStart => exact ⟨0, _, _, xs0, _, _, Nat.zero_le _, rfl, rfl, Lib.hid ⟨HS0.out.1, HS0.out.2.2, by rw [HS0.out.2.1]; rfl⟩, hO2⟩
  case round =>
    clear hO2 HS0
    obtain ⟨k, ad, cp, xs, P, f0', hk, rfl, rfl, HS, hO⟩ := hrel
    have k0 : (0 : Int) ≤ (k : Int) := by omega
    by_cases hlt : k < tl
    · have hlt' : (k : Int) < (tl : Int) := by omega
      obtain ⟨x, hx⟩ : ∃ x, T[k]? = some x := ⟨T[k]'(by rw [HT.out.1]; exact hlt), List.getElem?_eq_getElem _⟩
      obtain ⟨tg, to', htd, _, _, _⟩ := (HT.out.grown hO.out.grown).2.2 k x hx
      subst htd
      obtain ⟨ok0, ok1⟩ := HT.out.2.1 x (List.mem_of_getElem? hx)
      have Hc := Lib.hid (fun wx (hg : w.grownBy wx none) => ((HT.out.grown hg).at k x hx))
      clear hx
      obtain ⟨xd, xn, xdr⟩ := x
      dsimp only at ok0 ok1 Hc
      have b0 := bounds_u8 ok0
      have b1 := bounds_i64 ok1
      obtain ⟨D, rfl⟩ := Int.eq_ofNat_of_zero_le b0.1
      obtain ⟨r, Hr⟩ : ∃ r, Hid (r = D % 3) := ⟨_, Lib.hid rfl⟩
      have hr3 : r < 3 := by rw [Hr.out]; omega
      have e4 : (D : Int) % 3 = (r : Int) := by rw [Hr.out]; omega
      have e4' : Int.tmod (D : Int) 3 = (r : Int) := by rw [Int.tmod_eq_emod_of_nonneg (by omega)]; exact e4
      have wr4 : IntKind.u8.wrap (r : Int) = (r : Int) := IntWalk.u8_in _ ⟨by omega, by omega⟩
      obtain ⟨hS, hBr, hcn⟩ := HS.out
      obtain ⟨hW, hnil, _⟩ := Own.words hO.out 1 rfl hS.small (by omega)
      have HNew := Lib.hid (NewH ad N cp xs w _ _ hO.out hW (by omega) hnil)
      have hS := Lib.hid hS
      have HBr := Lib.hid hBr
      have Hcn := Lib.hid hcn
      have hxl : Hid (xs.length = N) := Lib.hid (by have := hS.out.len; have := HNe.out; omega)
      clear hO hW hnil ok0 ok1 b0 hBr hcn
      go_wp2_with fail
      refine HNew.out.mono ?_
      rintro e w1 ⟨g, rfl, hO1⟩
      have hO1 : Grommet.Own w w1 [boxP G 25 (geoCs 1 I B), rowP 47 1 (.slice ad N cp) N (xs.map wv), viewP g xs []] := hO1
      obtain ⟨f0, f1, f2⟩ := geoH hO1 0 rfl
      rw [show ((1 : Nat) : Int) = 1 from rfl] at f0
      have HOf := Lib.hid (hS.out.of (n := 1) rfl hO1 (kv := 2) rfl)
      unfold gv at HOf
      rw [show ((1 : Nat) : Int) = 1 from rfl] at HOf
      clear HNew hO1
      go_wp2_with fail
      refine HOf.out.mono ?_
      rintro e w2 ⟨X, rfl, hO2⟩
      clear HOf f0 f1 f2
      have hO2 : Grommet.Own w w2 [boxP G 25 (geoCs 1 I B), rowP 47 1 (.slice ad N cp) N (xs.map wv), viewP g xs [], bmP X g 1 I B 1] := hO2
      obtain ⟨f0, f1, f2⟩ := geoH hO2 0 rfl
      have HA := Lib.hid (ANewH 2 g 1 I B xs [] w w2 _ hO2 rfl Hmay.out (by have := hxl.out; have := HNe.out; omega) (by have := hxl.out; omega))
      rw [show ((1 : Nat) : Int) = 1 from rfl] at HA f0
      clear hO2
      go_wp2_with fail
      refine HA.out.mono ?_
      rintro e w3 ⟨Y, XI, XB, XA, rfl, hO3⟩
      have hO3 : Grommet.Own w w3 [boxP G 25 (geoCs 1 I B), rowP 47 1 (.slice ad N cp) N (xs.map wv), viewP g xs [], bmP X g 1 I B 1, boxP Y 25 (geoCs 1 I B), mapP XI g (264 + 208 * 1) I, mapP XB g (272 + 208 * 1) B, allocP XA g 1 I B XI XB] := hO3
      clear HA f0 f1 f2
      have HAlc := Lib.hid (fun L R => alc8 (G := G) (g := g) (X := X) (N := N) (cp := cp) (Y := Y) (XI := XI) (XB := XB) (XA := XA) (ad := ad) (xs := xs) (L := L) R Hmay.out (by have := hxl.out; have := HNe.out; omega) (by have := hxl.out; omega))
      obtain ⟨c0, c1, c2⟩ := Hc.out w3 hO3.grown
      obtain ⟨K0, kk, hkk, hK0, hmx⟩ : ∃ (K0 : Int) (kk : Nat), kk < 12 ∧ K0 = (kk : Int) ∧ ((xn < 0 ∧ K0 = 0) ∨ (0 ≤ xn ∧ xn % 12 = K0)) := by
        by_cases hx : xn < 0
        · exact ⟨0, 0, by omega, rfl, .inl ⟨hx, rfl⟩⟩
        · exact ⟨xn % 12, (xn % 12).toNat, by omega, by omega, .inr ⟨by omega, rfl⟩⟩
      have hO3 := Lib.hid hO3
      have wk : IntKind.i64.wrap ((k : Int) + 1) = (k : Int) + 1 := IntWalk.i64_in _ ⟨by omega, by omega⟩
      clear b1
      go_upto_region 13 with fail
      go_cut [13] (fun kv wx => ∃ kk : Nat, kk < 12 ∧ kv = .int .i64 (kk : Int) ∧ Hid (Grommet.Own w wx [boxP G 25 (geoCs 1 I B), rowP 47 1 (.slice ad N cp) N (xs.map wv), viewP g xs [], bmP X g 1 I B 1, boxP Y 25 (geoCs 1 I B), mapP XI g (264 + 208 * 1) I, mapP XB g (272 + 208 * 1) B, allocP XA g 1 I B XI XB]))
      case first =>
        rcases hmx with ⟨hxn, hK⟩ | ⟨hxn, hK⟩
        · obtain rfl : kk = 0 := by omega
          clear hK0 hK
          go_wp2_with fail
          go_meet
          case rel => exact ⟨0, by omega, rfl, hO3⟩
        · rw [hK0] at hK
          clear hK0
          go_wp2_with fail
          go_meet
          case rel => exact ⟨kk, hkk, by first | rfl | rw [hK], hO3⟩
      case rest =>
      as_aux_lemma =>
      clear hO3 hmx hK0 hkk K0 kk c0 c1 c2
      obtain ⟨kk, hkk, rfl, hO3⟩ := hcut
      obtain ⟨W, hW⟩ : ∃ W, P 1 kk = W := ⟨_, rfl⟩
      obtain ⟨M, hM⟩ : ∃ M, needK P 1 kk = M := ⟨_, rfl⟩
      have HNd := Lib.hid (hS.out.need (n := 1) (k := kk) rfl hkk hO3.out (kv := 2) (km := 3) rfl rfl)
      rw [hM] at HNd
      have HW := Lib.hid hW
      have HM := Lib.hid hM
      clear hO3 hW hM
      go_wp2_with fail
      refine HNd.out.mono ?_
      rintro e w4 ⟨rfl, hO4⟩
      have HAt := Lib.hid (hS.out.at_ (n := 1) (k := kk) rfl hkk hO4 (kv := 2) (km := 3) rfl rfl)
      rw [HW.out] at HAt
      clear HNd hO4
      go_wp2_with fail
      refine HAt.out.mono ?_
      rintro e w5 ⟨rfl, hO5⟩
      obtain ⟨p, hp⟩ : ∃ p : Int, (I : Int) - (cntF (mbit xs [] (264 + 208 * 1)) I : Int) = p := ⟨_, rfl⟩
      obtain ⟨Q, hQ⟩ : ∃ Q : Nat, B - cntB xs [] B = Q := ⟨_, rfl⟩
      have HFr := Lib.hid (FreeH 2 5 6 7 g 1 I B XI XB XA xs [] p (Q : Int) w w5 _ hO5 (HAlc.out [] []) hp (by have := cntB_le xs [] B; unfold cntB at this hQ; omega))
      have HQ := Lib.hid hQ
      clear HAt hO5 hp hQ
      go_wp2_with fail
      refine HFr.out.mono ?_
      rintro e w6 ⟨rfl, hO6⟩
      have hO6 : Hid (Grommet.Own w w6 [boxP G 25 (geoCs 1 I B), rowP 47 1 (.slice ad N cp) N (xs.map wv), viewP g xs [], bmP X g 1 I B 1, boxP Y 25 (geoCs 1 I B), mapP XI g (264 + 208 * 1) I, mapP XB g (272 + 208 * 1) B, allocP XA g 1 I B XI XB]) := Lib.hid hO6
      obtain ⟨c0, c1, c2⟩ := Hc.out w6 hO6.out.grown
      clear HFr
      go_upto_block 2 with fail
      go_cut [19, 20, 21, 22, 23, 24, 114, 200] (fun _ _ _ _ _ _ _ _ wx => ∃ L' P', Hid (Bst I B (fun n => n = 1) f0' xs L' P' ∧ Br (fun n => n = 1) P' ∧ cntB xs L' B = 1 + nzc (P' 1) ∧ L'.length ≤ 60) ∧ Hid (Grommet.Own w wx [boxP G 25 (geoCs 1 I B), rowP 47 1 (.slice ad N cp) N (xs.map wv), viewP g xs L', bmP X g 1 I B 1, boxP Y 25 (geoCs 1 I B), mapP XI g (264 + 208 * 1) I, mapP XB g (272 + 208 * 1) B, allocP XA g 1 I B XI XB]))
      case first =>
        as_aux_lemma =>
        clear c0 c1 c2
        have hr : r = 0 ∨ r = 1 ∨ r = 2 := by omega
        clear hr3 e4 e4' wr4
        rcases hr with hr | hr | hr
        · have q0 : ((r : Int) == 0) = true := by rw [hr]; rfl
          have HTk := Lib.hid (hS.out.take (by simp) (n := 1) (k := kk) rfl hkk hO6.out (kv := 2) (km := 3) rfl rfl (by omega) HTab.out)
          clear hO6 hr
          go_wp2_with fail
          refine HTk.out.mono ?_
          rintro e w7 ⟨v, en, L', P', rfl, hO7, hR⟩
          have hO7 : Grommet.Own w w7 [boxP G 25 (geoCs 1 I B), rowP 47 1 (.slice ad N cp) N (xs.map wv), viewP g xs L', bmP X g 1 I B 1, boxP Y 25 (geoCs 1 I B), mapP XI g (264 + 208 * 1) I, mapP XB g (272 + 208 * 1) B, allocP XA g 1 I B XI XB] := hO7
          obtain ⟨p', hp'⟩ : ∃ p' : Int, (I : Int) - (cntF (mbit xs L' (264 + 208 * 1)) I : Int) = p' := ⟨_, rfl⟩
          obtain ⟨Q', hQ'⟩ : ∃ Q' : Nat, B - cntB xs L' B = Q' := ⟨_, rfl⟩
          have HFr := Lib.hid (FreeH 2 5 6 7 g 1 I B XI XB XA xs L' p' (Q' : Int) w w7 _ hO7 (HAlc.out L' []) hp' (by have := cntB_le xs L' B; unfold cntB at this hQ'; omega))
          have HQ' := Lib.hid hQ'
          have HR := Lib.hid hR
          clear HTk hO7 hp' hQ' hR
          go_wp2_with fail
          refine HFr.out.mono ?_
          rintro e w8 ⟨rfl, hO8⟩
          have hO8 : Hid (Grommet.Own w w8 [boxP G 25 (geoCs 1 I B), rowP 47 1 (.slice ad N cp) N (xs.map wv), viewP g xs L', bmP X g 1 I B 1, boxP Y 25 (geoCs 1 I B), mapP XI g (264 + 208 * 1) I, mapP XB g (272 + 208 * 1) B, allocP XA g 1 I B XI XB]) := Lib.hid hO8
          clear HFr
          have hcB := cntB_le xs [] B
          rcases HR.out.way with ⟨hne, rfl, rfl, rfl, rfl⟩ | ⟨hz, hsp, rfl, rfl, rfl, rfl⟩ | ⟨hz, hsp, hvP, v0, vB, rfl, hlen, hcn', hnz, hzero⟩
          · -- what stands there
            as_aux_lemma =>
            have hvW := HW.out
            have hM0 : M = 0 := by rw [← HM.out]; unfold needK; rw [if_pos hne]
            have hQQ : Q = Q' := by rw [← HQ.out, ← HQ'.out]
            subst hM0 hQQ
            have hfin := Lib.hid (And.intro hS.out (And.intro HBr.out (And.intro Hcn.out (show ([] : List (Nat × Nat)).length ≤ 60 by simp))))
            have HUs := Lib.hid (UsedH 2 5 6 7 g 1 I B XI XB XA xs [] (W : Int) true w w8 _ hO8.out (HAlc.out [] []) (by rw [← hvW]; exact hS.out.used rfl (Nat.le_of_lt hkk) hne))
            rw [hvW] at hne ⊢
            have x1 : ¬ (Q : Int) < 0 := by omega
            have x2 : IntKind.i64.wrap ((Q : Int) - 0) = (Q : Int) := IntWalk.i64_in _ ⟨by omega, by have := HQ.out; omega⟩
            have x2' : IntKind.i64.wrap (Q : Int) = (Q : Int) := IntWalk.i64_in _ ⟨by omega, by have := HQ.out; omega⟩
            have x3 : ((Q : Int) != (Q : Int)) = false := by simp
            have x4 : ¬ (W : Int) < 1 := by omega
            have x5 : ((W : Int) != 0) = true := by simpa using hne
            have x6 : ((W : Int) != (W : Int)) = false := by simp
            have x7 : ((W : Int) == 0) = false := by simpa using hne
            have x8 : ¬ (W : Int) = 0 := by omega
            clear hvW hO8 HR HW HM HQ HQ' hcB hne
            rw [show ((0 : Nat) : Int) = 0 from rfl]
            go_wp2_with fail
            refine HUs.out.mono ?_
            rintro e w9 ⟨rfl, hO9⟩
            have hO9 : Hid (Grommet.Own w w9 [boxP G 25 (geoCs 1 I B), rowP 47 1 (.slice ad N cp) N (xs.map wv), viewP g xs [], bmP X g 1 I B 1, boxP Y 25 (geoCs 1 I B), mapP XI g (264 + 208 * 1) I, mapP XB g (272 + 208 * 1) B, allocP XA g 1 I B XI XB]) := Lib.hid hO9
            clear HUs
            go_wp2_with fail
            go_loopw [23] (fun jv wr => jv = .int .i64 0 ∧ wr = w9) (fun _ _ => 0)
            case atStart => exact ⟨rfl, rfl⟩
            case round =>
              obtain ⟨rfl, rfl⟩ := hrel
              go_wp2_with fail
              go_meet
              case rel => exact ⟨[], _, hfin, hO9⟩
          · -- no room
            as_aux_lemma =>
            have hfin := Lib.hid (And.intro hS.out (And.intro HBr.out (And.intro Hcn.out (show ([] : List (Nat × Nat)).length ≤ 60 by simp))))
            have hQQ : Q = Q' := by rw [← HQ.out, ← HQ'.out]
            subst hQQ
            rw [HM.out] at hsp
            have x1 : (Q : Int) < (M : Int) := by have := HQ.out; omega
            have x3 : ((Q : Int) != (Q : Int)) = false := by simp
            clear HR HW HM HQ HQ' hcB hsp hz
            rw [show ((0 : Nat) : Int) = 0 from rfl, show ((7 : Nat) : Int) = 7 from rfl]
            go_wp2_with fail
            go_loopw [23] (fun jv wr => jv = .int .i64 0 ∧ wr = w8) (fun _ _ => 0)
            case atStart => exact ⟨rfl, rfl⟩
            case round =>
              obtain ⟨rfl, rfl⟩ := hrel
              go_wp2_with fail
              go_meet
              case rel => exact ⟨[], _, hfin, hO8⟩
          · -- a new one
            as_aux_lemma =>
            have hfin := Lib.hid (And.intro HR.out.st (And.intro (HR.out.br HBr.out) (And.intro (show cntB xs L' B = 1 + nzc (P' 1) by have := Hcn.out; omega) (show L'.length ≤ 60 by simpa using Nat.le_trans hlen (by simp)))))
            have HUs := Lib.hid (UsedH 2 5 6 7 g 1 I B XI XB XA xs L' (v : Int) true w w8 _ hO8.out (HAlc.out L' []) (by rw [hvP]; exact HR.out.st.used rfl (Nat.le_of_lt hkk) (by rw [← hvP]; exact v0)))
            have hW0 : W = 0 := by rw [← HW.out]; exact hz
            subst hW0
            rw [HM.out] at hsp hcn'
            have x1 : ¬ (Q : Int) < (M : Int) := by have := HQ.out; omega
            have x2 : IntKind.i64.wrap ((Q : Int) - (M : Int)) = (Q' : Int) := by rw [IntWalk.i64_in _ ⟨by omega, by have := HQ.out; omega⟩]; have := HQ.out; have := HQ'.out; omega
            have x3 : ((Q' : Int) != (Q' : Int)) = false := by simp
            have x4 : ¬ (v : Int) < 1 := by omega
            have X1 := Lib.hid x1
            have X4 := Lib.hid x4
            have HG := Lib.hid (show ∀ j : Nat, j < 8 → ∀ wx, Grommet.Own w wx [boxP G 25 (geoCs 1 I B), rowP 47 1 (.slice ad N cp) N (xs.map wv), viewP g xs L', bmP X g 1 I B 1, boxP Y 25 (geoCs 1 I B), mapP XI g (264 + 208 * 1) I, mapP XB g (272 + 208 * 1) B, allocP XA g 1 I B XI XB] → Calls Tryd.prog 18 #[.pointer (some ⟨g, 0, none⟩), .int .i64 ((488 + 16 * I + 8 * v + j : Nat) : Int)] wx fun e w' => e = .returned (.int .u64 0) ∧ w' = wx from fun j hj wx hx => by
              have hg := GetH 2 g xs L' ((488 + 16 * I + 8 * v + j : Nat) : Int) w wx _ hx rfl
              rw [gotI_in (by have := hxl.out; have := HNe.out; omega), hzero j hj] at hg
              exact hg)
            have HBv := Lib.hid (HBa.out v vB)
            have hbv1 := Hbv.out v vB
            rw [show ((1 : Nat) : Int) = 1 from rfl] at hbv1
            rw [hbv1] at HBv
            clear hbv1
            obtain ⟨A, hA⟩ : ∃ A, 488 + 16 * I + 8 * v = A := ⟨_, rfl⟩
            have hA2 : A ≤ 1024 := by have := HNe.out; omega
            rw [hA] at HBv HG
            clear hvP hlen hcn' hnz hzero HR HW HM HQ HQ' hcB hsp hz hA vB
            rw [show ((0 : Nat) : Int) = 0 from rfl]
            go_upto_region 28 with fail
            go_cut [179] (fun bv wx => bv = .bool false ∧ Hid (Grommet.Own w wx [boxP G 25 (geoCs 1 I B), rowP 47 1 (.slice ad N cp) N (xs.map wv), viewP g xs L', bmP X g 1 I B 1, boxP Y 25 (geoCs 1 I B), mapP XI g (264 + 208 * 1) I, mapP XB g (272 + 208 * 1) B, allocP XA g 1 I B XI XB]))
            case first =>
              go_wp2_with fail
              refine HUs.out.mono ?_
              rintro e w9 ⟨rfl, hO9⟩
              have hO9 : Hid (Grommet.Own w w9 [boxP G 25 (geoCs 1 I B), rowP 47 1 (.slice ad N cp) N (xs.map wv), viewP g xs L', bmP X g 1 I B 1, boxP Y 25 (geoCs 1 I B), mapP XI g (264 + 208 * 1) I, mapP XB g (272 + 208 * 1) B, allocP XA g 1 I B XI XB]) := Lib.hid hO9
              clear HUs
              go_wp2_with fail
              go_meet
              case rel => exact ⟨by
                have e1 : decide (Q < M) = false := decide_eq_false (by have := X1.out; omega)
                have e4 : decide ((v : Int) < 1) = false := decide_eq_false (by have := X4.out; omega)
                simp only [e1, e4, Bool.or_self], hO9⟩
            case rest =>
            obtain ⟨rfl, hO9⟩ := hcut
            clear hO8 HUs x1 x2 x3 x4
            go_wp2_with fail
            go_loopw [23] (fun jv wr => ∃ j : Nat, j ≤ 8 ∧ jv = .int .i64 (j : Int) ∧ Hid (Grommet.Own w wr [boxP G 25 (geoCs 1 I B), rowP 47 1 (.slice ad N cp) N (xs.map wv), viewP g xs L', bmP X g 1 I B 1, boxP Y 25 (geoCs 1 I B), mapP XI g (264 + 208 * 1) I, mapP XB g (272 + 208 * 1) B, allocP XA g 1 I B XI XB])) (fun jv _ => 8 - (intOf jv).toNat)
            case atStart => exact ⟨0, by omega, rfl, hO9⟩
            case round =>
              clear hO9
              obtain ⟨j, hj, rfl, hO⟩ := hrel
              have j0 : (0 : Int) ≤ (j : Int) := by omega
              by_cases hj8 : j < 8
              · have hj8' : (j : Int) < 8 := by omega
                obtain ⟨f0, f1, f2⟩ := geoH hO.out 0 rfl
                rw [show ((1 : Nat) : Int) = 1 from rfl] at f0
                have wA : IntKind.i64.wrap ((A : Int) + (j : Int)) = ((A + j : Nat) : Int) := by rw [IntWalk.i64_in _ ⟨by omega, by omega⟩]; omega
                have wj : IntKind.i64.wrap ((j : Int) + 1) = (j : Int) + 1 := IntWalk.i64_in _ ⟨by omega, by omega⟩
                have HGj := Lib.hid (fun wx hx => HG.out j hj8 wx hx)
                obtain ⟨Aj, hAj⟩ : ∃ Aj, A + j = Aj := ⟨_, rfl⟩
                rw [hAj] at wA HGj
                clear hAj
                go_wp2_with fail
                refine (HBv.out _).mono ?_
                rintro e w10 ⟨rfl, hg10⟩
                have hO10 := hO.out.quiet hg10
                have HGx := Lib.hid (HGj.out w10 hO10)
                have hO10 := Lib.hid hO10
                clear hO hg10 f0 f1 f2 HGj
                go_wp2_with fail
                refine HGx.out.mono ?_
                rintro e w11 ⟨rfl, rfl⟩
                clear HGx
                go_wp2
                go_roundw
                case rel => exact ⟨j + 1, by omega, by go_num, hO10⟩
                case measure => simp [intOf]; omega
              · obtain rfl : j = 8 := by omega
                go_wp2_with fail
                go_meet
                case rel => exact ⟨L', P', hfin, hO⟩
        · as_aux_lemma =>
          have q0 : ((r : Int) == 0) = false := by rw [hr]; rfl
          have q1 : ((r : Int) == 1) = true := by rw [hr]; rfl
          obtain ⟨L', P', hR, hC⟩ := hS.out.drop (by simp) (n := 1) (k := kk) rfl hkk
          have HC := Lib.hid (hC 2 3 X g w w6 _ hO6.out rfl rfl (by omega))
          have hfin := Lib.hid (And.intro hR.st (And.intro (hR.br HBr.out) (And.intro (show cntB xs L' B = 1 + nzc (P' 1) by have := Hcn.out; have := hR.cnt; omega) (show L'.length ≤ 60 by have := hR.len; simp at this; omega))))
          obtain ⟨M1, hM1⟩ : ∃ M1, needK P' 1 kk = M1 := ⟨_, rfl⟩
          have hm1 : M1 ≠ 0 := by rw [← hM1]; exact needK_zero hR.zero
          have HM1 := Lib.hid hM1
          have Hst := Lib.hid hR.st
          have x1 : ((M1 : Int) == 0) = false := by simpa using hm1
          have x2 : ¬ (M1 : Int) = 0 := by omega
          clear hO6 hr hR hC hM1 hm1
          go_wp2_with fail
          refine HC.out.mono ?_
          rintro e w7 ⟨rfl, hO7⟩
          have hO7 : Grommet.Own w w7 [boxP G 25 (geoCs 1 I B), rowP 47 1 (.slice ad N cp) N (xs.map wv), viewP g xs L', bmP X g 1 I B 1, boxP Y 25 (geoCs 1 I B), mapP XI g (264 + 208 * 1) I, mapP XB g (272 + 208 * 1) B, allocP XA g 1 I B XI XB] := hO7
          have HNd := Lib.hid (Hst.out.need (n := 1) (k := kk) rfl hkk hO7 (kv := 2) (km := 3) rfl rfl)
          rw [HM1.out] at HNd
          clear HC hO7
          go_wp2_with fail
          refine HNd.out.mono ?_
          rintro e w8 ⟨rfl, hO8⟩
          have hO8 : Hid (Grommet.Own w w8 [boxP G 25 (geoCs 1 I B), rowP 47 1 (.slice ad N cp) N (xs.map wv), viewP g xs L', bmP X g 1 I B 1, boxP Y 25 (geoCs 1 I B), mapP XI g (264 + 208 * 1) I, mapP XB g (272 + 208 * 1) B, allocP XA g 1 I B XI XB]) := Lib.hid hO8
          clear HNd
          go_wp2_with fail
          go_meet
          case rel => exact ⟨L', P', hfin, hO8⟩
        · as_aux_lemma =>
          have q0 : ((r : Int) == 0) = false := by rw [hr]; rfl
          have q1 : ((r : Int) == 1) = false := by rw [hr]; rfl
          obtain ⟨L', P', hR, hC⟩ := hS.out.cut (by simp) (n := 1) (k := kk) rfl (by omega)
          have HC := Lib.hid (hC 2 3 X g w w6 _ hO6.out rfl rfl (by omega) sol8)
          have hfin := Lib.hid (And.intro hR.st (And.intro (hR.br HBr.out) (And.intro (show cntB xs L' B = 1 + nzc (P' 1) by have := Hcn.out; have := hR.cnt; omega) (show L'.length ≤ 60 by have := hR.len; simp at this; omega))))
          have Hz := Lib.hid hR.zero
          have Hst := Lib.hid hR.st
          clear hO6 hr hR hC
          go_wp2_with fail
          refine HC.out.mono ?_
          rintro e w7 ⟨rfl, hO7⟩
          have hO7 : Hid (Grommet.Own w w7 [boxP G 25 (geoCs 1 I B), rowP 47 1 (.slice ad N cp) N (xs.map wv), viewP g xs L', bmP X g 1 I B 1, boxP Y 25 (geoCs 1 I B), mapP XI g (264 + 208 * 1) I, mapP XB g (272 + 208 * 1) B, allocP XA g 1 I B XI XB]) := Lib.hid hO7
          clear HC
          go_wp2_with fail
          go_loopw [24] (fun jv wr => ∃ j : Nat, kk ≤ j ∧ j ≤ 12 ∧ jv = .int .i64 (j : Int) ∧ Hid (Grommet.Own w wr [boxP G 25 (geoCs 1 I B), rowP 47 1 (.slice ad N cp) N (xs.map wv), viewP g xs L', bmP X g 1 I B 1, boxP Y 25 (geoCs 1 I B), mapP XI g (264 + 208 * 1) I, mapP XB g (272 + 208 * 1) B, allocP XA g 1 I B XI XB])) (fun jv _ => 12 - (intOf jv).toNat)
          case atStart => exact ⟨kk, Nat.le_refl _, by omega, rfl, hO7⟩
          case round =>
            clear hO7
            obtain ⟨j, hkj, hj, rfl, hO⟩ := hrel
            by_cases hj12 : j < 12
            · have hj12' : (j : Int) < 12 := by omega
              have HNd := Lib.hid (Hst.out.need (n := 1) (k := j) rfl hj12 hO.out (kv := 2) (km := 3) rfl rfl)
              obtain ⟨M1, hM1⟩ : ∃ M1, needK P' 1 j = M1 := ⟨_, rfl⟩
              have hm1 : M1 ≠ 0 := by rw [← hM1]; exact needK_zero (Hz.out j hkj hj12)
              rw [hM1] at HNd
              have x1 : ((M1 : Int) == 0) = false := by simpa using hm1
              have x2 : ¬ (M1 : Int) = 0 := by omega
              have wj : IntKind.i64.wrap ((j : Int) + 1) = (j : Int) + 1 := IntWalk.i64_in _ ⟨by omega, by omega⟩
              clear hO hM1 hm1
              go_wp2_with fail
              refine HNd.out.mono ?_
              rintro e w8 ⟨rfl, hO8⟩
              have hO8 : Hid (Grommet.Own w w8 [boxP G 25 (geoCs 1 I B), rowP 47 1 (.slice ad N cp) N (xs.map wv), viewP g xs L', bmP X g 1 I B 1, boxP Y 25 (geoCs 1 I B), mapP XI g (264 + 208 * 1) I, mapP XB g (272 + 208 * 1) B, allocP XA g 1 I B XI XB]) := Lib.hid hO8
              clear HNd
              go_wp2
              go_roundw
              case rel => exact ⟨j + 1, by omega, by omega, by go_num, hO8⟩
              case measure => simp [intOf]; omega
            · obtain rfl : j = 12 := by omega
              go_wp2_with fail
              go_meet
              case rel => exact ⟨L', P', hfin, hO⟩
      case rest =>
      as_aux_lemma =>
      clear hO6 c0 c1 c2
      obtain ⟨L', P', HS2, hO7⟩ := hcut
      have HLs := Lib.hid (HS2.out.1.list (n := 1) rfl hO7.out (kv := 2) (km := 3) rfl rfl sol8)
      clear hO7
      go_wp2_with fail
      refine HLs.out.mono ?_
      rintro e w8 ⟨oad, ocp, ol, rfl, hol0, hO8⟩
      have hO8 : Grommet.Own w w8 [boxP G 25 (geoCs 1 I B), rowP 47 1 (.slice ad N cp) N (xs.map wv), viewP g xs L', bmP X g 1 I B 1, boxP Y 25 (geoCs 1 I B), mapP XI g (264 + 208 * 1) I, mapP XB g (272 + 208 * 1) B, allocP XA g 1 I B XI XB, rowP 3 1 (.slice oad ol ocp) ol ((lst (P' 1)).map nzv)] := hO8
      have hol := Lib.hid hol0
      have hol1 : ol ≤ 13 := by rw [hol0, lst_len]; exact cntF_le _ _
      have hnd : Hid ((lst (P' 1)).Nodup) := Lib.hid (lst_nodup (fun i j hi hj h0 he => (HS2.out.1.lk.one 1 1 i j rfl rfl hi hj h0 he).2))
      have hA0 := hO8.addBox 53 (Array.replicate 64 (Value.bool false))
      obtain ⟨H, hH⟩ : ∃ H, w8.heap.size = H := ⟨_, rfl⟩
      rw [hH] at hA0
      have hA0 := Lib.hid hA0
      clear HLs hO8 hol0
      go_upto_region 40 with fail
      generalize hW3 : World.alloc _ _ = W3
      have hO9 : Hid (Grommet.Own w W3 [boxP G 25 (geoCs 1 I B), rowP 47 1 (.slice ad N cp) N (xs.map wv), viewP g xs L', bmP X g 1 I B 1, boxP Y 25 (geoCs 1 I B), mapP XI g (264 + 208 * 1) I, mapP XB g (272 + 208 * 1) B, allocP XA g 1 I B XI XB, rowP 3 1 (.slice oad ol ocp) ol ((lst (P' 1)).map nzv), boxP H 53 (hasC (fun m => decide (m ∈ (lst (P' 1)).take 0)))]) := Lib.hid (by
        rw [← hasC_none (fun m => decide (m ∈ (lst (P' 1)).take 0)) (fun n => by simp), ← hW3]
        exact hA0.out)
      try rw [hH]
      clear hA0 hW3 hH
      go_wp2_with fail
      go_loopw [27] (fun jv wr => ∃ j : Nat, j ≤ ol ∧ jv = .int .i64 (j : Int) ∧ Hid (Grommet.Own w wr [boxP G 25 (geoCs 1 I B), rowP 47 1 (.slice ad N cp) N (xs.map wv), viewP g xs L', bmP X g 1 I B 1, boxP Y 25 (geoCs 1 I B), mapP XI g (264 + 208 * 1) I, mapP XB g (272 + 208 * 1) B, allocP XA g 1 I B XI XB, rowP 3 1 (.slice oad ol ocp) ol ((lst (P' 1)).map nzv), boxP H 53 (hasC (fun m => decide (m ∈ (lst (P' 1)).take j)))])) (fun jv _ => ol - (intOf jv).toNat)
      case atStart => exact ⟨0, Nat.zero_le _, rfl, hO9⟩
      case round =>
        clear hO9
        obtain ⟨j, hj, rfl, hO⟩ := hrel
        have j0 : (0 : Int) ≤ (j : Int) := by omega
        by_cases hjl : j < ol
        · as_aux_lemma =>
          have hjl' : (j : Int) < (ol : Int) := by omega
          have hjL : j < (lst (P' 1)).length := by rw [← hol.out]; exact hjl
          obtain ⟨V, hV⟩ : ∃ V, (lst (P' 1))[j]? = some V := ⟨_, List.getElem?_eq_getElem hjL⟩
          have hVe : (lst (P' 1))[j] = V := by rw [List.getElem?_eq_getElem hjL] at hV; exact Option.some.inj hV
          obtain ⟨V0, kv', hkv, hPk⟩ := mem_lst (List.mem_of_getElem? hV)
          have hVB : V < B := by rw [← hPk]; exact HS2.out.1.lk.lt 1 kv' rfl hkv
          have hVn : decide (V ∈ (lst (P' 1)).take j) = false := by
            rw [decide_eq_false_iff_not, ← hVe]; exact not_mem_take hnd.out j hjL
          have hgm : getM xs L' (272 + 208 * 1) B (V : Int) = true := by rw [← hPk]; exact HS2.out.1.used rfl hkv (by rw [hPk]; exact V0)
          obtain ⟨ob, oo, hoad, _⟩ := NAt.of hO.out 8 rfl j V hV
          subst hoad
          have HUs := Lib.hid (show ∀ wx, Grommet.Own w wx [boxP G 25 (geoCs 1 I B), rowP 47 1 (.slice ad N cp) N (xs.map wv), viewP g xs L', bmP X g 1 I B 1, boxP Y 25 (geoCs 1 I B), mapP XI g (264 + 208 * 1) I, mapP XB g (272 + 208 * 1) B, allocP XA g 1 I B XI XB, rowP 3 1 (.slice (some ⟨ob, oo, none⟩) ol ocp) ol ((lst (P' 1)).map nzv), boxP H 53 (hasC (fun m => decide (m ∈ (lst (P' 1)).take j)))] → _ from fun wx hx => UsedH 2 5 6 7 g 1 I B XI XB XA xs L' (V : Int) true w wx _ hx (HAlc.out L' [rowP 3 1 (.slice (some ⟨ob, oo, none⟩) ol ocp) ol ((lst (P' 1)).map nzv), boxP H 53 (hasC (fun m => decide (m ∈ (lst (P' 1)).take j)))]) hgm)
          have HF := Lib.hid (show ∀ wx, Grommet.Own w wx [boxP G 25 (geoCs 1 I B), rowP 47 1 (.slice ad N cp) N (xs.map wv), viewP g xs L', bmP X g 1 I B 1, boxP Y 25 (geoCs 1 I B), mapP XI g (264 + 208 * 1) I, mapP XB g (272 + 208 * 1) B, allocP XA g 1 I B XI XB, rowP 3 1 (.slice (some ⟨ob, oo, none⟩) ol ocp) ol ((lst (P' 1)).map nzv), boxP H 53 (hasC (fun m => decide (m ∈ (lst (P' 1)).take j)))] → wx.cell? ⟨ob, oo + j, none⟩ = some (.int .i64 (V : Int)) ∧ wx.cell? ⟨G, 2, none⟩ = some (.int .i64 (B : Int)) ∧ wx.cell? ⟨H, V, none⟩ = some (.bool false) ∧ wx.frozen? ⟨H, V, none⟩ = false from fun wx hx => by
            obtain ⟨b', o', e', cv⟩ := NAt.of hx 8 rfl j V hV
            cases e'
            obtain ⟨y1, y2⟩ := box_has hx 9 rfl V (by omega) false hVn
            exact ⟨cv, (geoH hx 0 rfl).2.2, y1, y2⟩)
          have HP := Lib.hid (show ∀ wx, Grommet.Own w wx [boxP G 25 (geoCs 1 I B), rowP 47 1 (.slice ad N cp) N (xs.map wv), viewP g xs L', bmP X g 1 I B 1, boxP Y 25 (geoCs 1 I B), mapP XI g (264 + 208 * 1) I, mapP XB g (272 + 208 * 1) B, allocP XA g 1 I B XI XB, rowP 3 1 (.slice (some ⟨ob, oo, none⟩) ol ocp) ol ((lst (P' 1)).map nzv), boxP H 53 (hasC (fun m => decide (m ∈ (lst (P' 1)).take j)))] → Grommet.Own w (wx.setCell ⟨H, V, none⟩ (.bool true)) [boxP G 25 (geoCs 1 I B), rowP 47 1 (.slice ad N cp) N (xs.map wv), viewP g xs L', bmP X g 1 I B 1, boxP Y 25 (geoCs 1 I B), mapP XI g (264 + 208 * 1) I, mapP XB g (272 + 208 * 1) B, allocP XA g 1 I B XI XB, rowP 3 1 (.slice (some ⟨ob, oo, none⟩) ol ocp) ol ((lst (P' 1)).map nzv), boxP H 53 (hasC (fun m => decide (m ∈ (lst (P' 1)).take (j + 1))))] from fun wx hx => by
            have h1 := hx.putBox 9 rfl V (.bool true)
            rw [hasC_on _ V (by omega)] at h1
            have e : (fun i => if i = V then true else decide (i ∈ (lst (P' 1)).take j)) = fun m => decide (m ∈ (lst (P' 1)).take (j + 1)) := by
              funext i
              rw [List.take_succ_eq_append_getElem hjL, hVe]
              by_cases e : i = V
              · rw [if_pos e]; simp [e]
              · rw [if_neg e]; simp [e]
            rw [e] at h1
            exact h1)
          have x1 : ¬ (V : Int) < 1 := by omega
          have x2 : ¬ (B : Int) ≤ (V : Int) := by omega
          have d1 : decide ((V : Int) < 1) = false := decide_eq_false x1
          have d2 : decide (V = 0) = false := decide_eq_false V0
          have d3 : decide (V < 1) = false := decide_eq_false (by omega)
          have d4 : decide ((B : Int) ≤ (V : Int)) = false := decide_eq_false x2
          have d5 : decide (B ≤ V) = false := decide_eq_false (by omega)
          have x3 : (0 : Int) ≤ (V : Int) := by omega
          have x4 : (V : Int) < 64 := by omega
          have x5 : (1 : Int) ≤ (V : Int) := by omega
          have x6 : (V : Int) < (B : Int) := by omega
          have wj : IntKind.i64.wrap ((j : Int) + 1) = (j : Int) + 1 := IntWalk.i64_in _ ⟨by omega, by omega⟩
          have hS0 := Lib.hid (hO.out.quiet (grown_drew (World.grownBy.refl wr none)))
          clear hO hV hVe V0 hkv hPk hVB hVn hgm
          go_wp2_with fail
          refine wp_region_held_drew (S := fun wx => Grommet.Own w wx [boxP G 25 (geoCs 1 I B), rowP 47 1 (.slice ad N cp) N (xs.map wv), viewP g xs L', bmP X g 1 I B 1, boxP Y 25 (geoCs 1 I B), mapP XI g (264 + 208 * 1) I, mapP XB g (272 + 208 * 1) B, allocP XA g 1 I B XI XB, rowP 3 1 (.slice (some ⟨ob, oo, none⟩) ol ocp) ol ((lst (P' 1)).map nzv), boxP H 53 (hasC (fun m => decide (m ∈ (lst (P' 1)).take j)))]) (by kernel_rfl) (hS0.out) (fun hS => ?_)
          refine wpAnyH_take (i := 0) (oi := { dst := some 220, op := Op.move (Operand.tmp 25), type := 51, pos := "law.go:159", after := #[], guard := none }) (v := ?von3r43o0) rfl (by kernel_rfl) (by kernel_rfl) (by kernel_rfl) (fun _ _ _ h => h) (Or.inl ⟨by rfl, ?hon3r43o0⟩) hS ?_
          case hon3r43o0 => (intro wx hx; skip; go_simp; (try with_reducible rfl))
          try simp only [Act.put, List.setIfInBounds_toArray, List.set_cons_zero, List.set_cons_succ]
          refine wpAnyH_take (i := 1) (oi := { dst := some 221, op := Op.move (Operand.tmp 27), type := 3, pos := "law.go:159", after := #[], guard := none }) (v := ?von3r43o1) rfl (by kernel_rfl) (by kernel_rfl) (by kernel_rfl) (fun _ _ _ h => h) (Or.inl ⟨by rfl, ?hon3r43o1⟩) hS ?_
          case hon3r43o1 => (intro wx hx; skip; go_simp; (try with_reducible rfl))
          try simp only [Act.put, List.setIfInBounds_toArray, List.set_cons_zero, List.set_cons_succ]
          refine wpAnyH_take (i := 2) (oi := { dst := some 222, op := Op.indexAddr 51 (Operand.tmp 220) (Operand.tmp 221), type := 0, pos := "law.go:159", after := #[{ on := 0, ground := Ground.data }, { on := 1, ground := Ground.data }], guard := none }) (v := ?von3r43o2) rfl (by kernel_rfl) (by kernel_rfl) (by kernel_rfl) (fun _ _ _ h => h) (Or.inl ⟨by rfl, ?hon3r43o2⟩) hS ?_
          case hon3r43o2 => (intro wx hx; skip; go_simp; (try with_reducible rfl))
          try simp only [Act.put, List.setIfInBounds_toArray, List.set_cons_zero, List.set_cons_succ]
          refine wpAnyH_take (i := 3) (oi := { dst := some 223, op := Op.load 3 (Operand.tmp 222), type := 3, pos := "law.go:159", after := #[{ on := 2, ground := Ground.data }], guard := none }) (v := ?von3r43o3) rfl (by kernel_rfl) (by kernel_rfl) (by kernel_rfl) (fun _ _ _ h => h) (Or.inl ⟨by rfl, ?hon3r43o3⟩) hS ?_
          case hon3r43o3 => (intro wx hx; obtain ⟨y1, y2, y3, y4⟩ := HF.out _ hx; go_simp; (try with_reducible rfl))
          try simp only [Act.put, List.setIfInBounds_toArray, List.set_cons_zero, List.set_cons_succ]
          refine wpAnyH_take (i := 4) (oi := { dst := some 224, op := Op.binOp BinOp.lss 3 (Operand.tmp 223) (Operand.const (Value.int IntKind.i64 1)) 3, type := 4, pos := "law.go:159", after := #[{ on := 3, ground := Ground.data }], guard := none }) (v := ?von3r43o4) rfl (by kernel_rfl) (by kernel_rfl) (by kernel_rfl) (fun _ _ _ h => h) (Or.inl ⟨by rfl, ?hon3r43o4⟩) hS ?_
          case hon3r43o4 => (intro wx hx; skip; go_simp; (try with_reducible rfl))
          try simp only [Act.put, List.setIfInBounds_toArray, List.set_cons_zero, List.set_cons_succ]
          refine wpAnyH_take (i := 5) (oi := { dst := some 225, op := Op.move (Operand.tmp 224), type := 4, pos := "law.go:159", after := #[{ on := 4, ground := Ground.data }], guard := none }) (v := ?von3r43o5) rfl (by kernel_rfl) (by kernel_rfl) (by kernel_rfl) (fun _ _ _ h => h) (Or.inl ⟨by rfl, ?hon3r43o5⟩) hS ?_
          case hon3r43o5 => (intro wx hx; skip; go_simp; (try with_reducible rfl))
          try simp only [Act.put, List.setIfInBounds_toArray, List.set_cons_zero, List.set_cons_succ]
          refine wpAnyH_take (i := 6) (oi := { dst := some 226, op := Op.move (Operand.tmp 25), type := 51, pos := "law.go:159", after := #[{ on := 5, ground := Ground.guard }], guard := some (5, false) }) (v := ?von3r43o6) rfl (by kernel_rfl) (by kernel_rfl) (by kernel_rfl) (fun _ _ _ h => h) (Or.inl ⟨by rfl, ?hon3r43o6⟩) hS ?_
          case hon3r43o6 => (intro wx hx; skip; go_simp; (try with_reducible rfl))
          try simp only [Act.put, List.setIfInBounds_toArray, List.set_cons_zero, List.set_cons_succ]
          refine wpAnyH_take (i := 7) (oi := { dst := some 227, op := Op.move (Operand.tmp 27), type := 3, pos := "law.go:159", after := #[{ on := 5, ground := Ground.guard }], guard := some (5, false) }) (v := ?von3r43o7) rfl (by kernel_rfl) (by kernel_rfl) (by kernel_rfl) (fun _ _ _ h => h) (Or.inl ⟨by rfl, ?hon3r43o7⟩) hS ?_
          case hon3r43o7 => (intro wx hx; skip; go_simp; (try with_reducible rfl))
          try simp only [Act.put, List.setIfInBounds_toArray, List.set_cons_zero, List.set_cons_succ]
          refine wpAnyH_take (i := 8) (oi := { dst := some 228, op := Op.indexAddr 51 (Operand.tmp 226) (Operand.tmp 227), type := 0, pos := "law.go:159", after := #[{ on := 6, ground := Ground.data }, { on := 7, ground := Ground.data }, { on := 5, ground := Ground.guard }], guard := some (5, false) }) (v := ?von3r43o8) rfl (by kernel_rfl) (by kernel_rfl) (by kernel_rfl) (fun _ _ _ h => h) (Or.inl ⟨by rfl, ?hon3r43o8⟩) hS ?_
          case hon3r43o8 => (intro wx hx; skip; go_simp; (try with_reducible rfl))
          try simp only [Act.put, List.setIfInBounds_toArray, List.set_cons_zero, List.set_cons_succ]
          refine wpAnyH_take (i := 9) (oi := { dst := some 229, op := Op.load 3 (Operand.tmp 228), type := 3, pos := "law.go:159", after := #[{ on := 8, ground := Ground.data }, { on := 5, ground := Ground.guard }], guard := some (5, false) }) (v := ?von3r43o9) rfl (by kernel_rfl) (by kernel_rfl) (by kernel_rfl) (fun _ _ _ h => h) (Or.inl ⟨by rfl, ?hon3r43o9⟩) hS ?_
          case hon3r43o9 => (intro wx hx; obtain ⟨y1, y2, y3, y4⟩ := HF.out _ hx; go_simp; (try with_reducible rfl))
          try simp only [Act.put, List.setIfInBounds_toArray, List.set_cons_zero, List.set_cons_succ]
          refine wpAnyH_take (i := 10) (oi := { dst := some 230, op := Op.fieldAddr 25 (Operand.tmp 5) 2, type := 0, pos := "law.go:159", after := #[{ on := 5, ground := Ground.guard }], guard := some (5, false) }) (v := ?von3r43o10) rfl (by kernel_rfl) (by kernel_rfl) (by kernel_rfl) (fun _ _ _ h => h) (Or.inl ⟨by rfl, ?hon3r43o10⟩) hS ?_
          case hon3r43o10 => (intro wx hx; skip; go_simp; (try with_reducible rfl))
          try simp only [Act.put, List.setIfInBounds_toArray, List.set_cons_zero, List.set_cons_succ]
          refine wpAnyH_take (i := 11) (oi := { dst := some 231, op := Op.load 3 (Operand.tmp 230), type := 3, pos := "law.go:159", after := #[{ on := 10, ground := Ground.data }, { on := 5, ground := Ground.guard }], guard := some (5, false) }) (v := ?von3r43o11) rfl (by kernel_rfl) (by kernel_rfl) (by kernel_rfl) (fun _ _ _ h => h) (Or.inl ⟨by rfl, ?hon3r43o11⟩) hS ?_
          case hon3r43o11 => (intro wx hx; obtain ⟨y1, y2, y3, y4⟩ := HF.out _ hx; go_simp; (try with_reducible rfl))
          try simp only [Act.put, List.setIfInBounds_toArray, List.set_cons_zero, List.set_cons_succ]
          refine wpAnyH_take (i := 12) (oi := { dst := some 232, op := Op.binOp BinOp.geq 3 (Operand.tmp 229) (Operand.tmp 231) 3, type := 4, pos := "law.go:159", after := #[{ on := 9, ground := Ground.data }, { on := 11, ground := Ground.data }, { on := 5, ground := Ground.guard }], guard := some (5, false) }) (v := ?von3r43o12) rfl (by kernel_rfl) (by kernel_rfl) (by kernel_rfl) (fun _ _ _ h => h) (Or.inl ⟨by rfl, ?hon3r43o12⟩) hS ?_
          case hon3r43o12 => (intro wx hx; skip; go_simp; (try with_reducible rfl))
          try simp only [Act.put, List.setIfInBounds_toArray, List.set_cons_zero, List.set_cons_succ]
          refine wpAnyH_take (i := 13) (oi := { dst := some 233, op := Op.pick (Operand.tmp 225) (Operand.const (Value.bool true)) (Operand.tmp 232), type := 4, pos := "law.go:159", after := #[{ on := 5, ground := Ground.data }, { on := 12, ground := Ground.data }], guard := none }) (v := ?von3r43o13) rfl (by kernel_rfl) (by kernel_rfl) (by kernel_rfl) (fun _ _ _ h => h) (Or.inl ⟨by rfl, ?hon3r43o13⟩) hS ?_
          case hon3r43o13 => (intro wx hx; skip; go_simp; (try with_reducible rfl))
          try simp only [Act.put, List.setIfInBounds_toArray, List.set_cons_zero, List.set_cons_succ]
          refine wpAnyH_take (i := 14) (oi := { dst := some 234, op := Op.move (Operand.tmp 233), type := 4, pos := "law.go:159", after := #[{ on := 13, ground := Ground.data }, { on := 5, ground := Ground.chain }], guard := none }) (v := ?von3r43o14) rfl (by kernel_rfl) (by kernel_rfl) (by kernel_rfl) (fun _ _ _ h => h) (Or.inl ⟨by rfl, ?hon3r43o14⟩) hS ?_
          case hon3r43o14 => (intro wx hx; skip; go_simp; (try with_reducible rfl))
          try simp only [Act.put, List.setIfInBounds_toArray, List.set_cons_zero, List.set_cons_succ]
          refine wpAnyH_take (i := 15) (oi := { dst := some 235, op := Op.move (Operand.tmp 25), type := 51, pos := "law.go:159", after := #[{ on := 14, ground := Ground.guard }], guard := some (14, false) }) (v := ?von3r43o15) rfl (by kernel_rfl) (by kernel_rfl) (by kernel_rfl) (fun _ _ _ h => h) (Or.inl ⟨by rfl, ?hon3r43o15⟩) hS ?_
          case hon3r43o15 => (intro wx hx; skip; go_simp; (try with_reducible rfl))
          try simp only [Act.put, List.setIfInBounds_toArray, List.set_cons_zero, List.set_cons_succ]
          refine wpAnyH_take (i := 16) (oi := { dst := some 236, op := Op.move (Operand.tmp 27), type := 3, pos := "law.go:159", after := #[{ on := 14, ground := Ground.guard }], guard := some (14, false) }) (v := ?von3r43o16) rfl (by kernel_rfl) (by kernel_rfl) (by kernel_rfl) (fun _ _ _ h => h) (Or.inl ⟨by rfl, ?hon3r43o16⟩) hS ?_
          case hon3r43o16 => (intro wx hx; skip; go_simp; (try with_reducible rfl))
          try simp only [Act.put, List.setIfInBounds_toArray, List.set_cons_zero, List.set_cons_succ]
          refine wpAnyH_take (i := 17) (oi := { dst := some 237, op := Op.indexAddr 51 (Operand.tmp 235) (Operand.tmp 236), type := 0, pos := "law.go:159", after := #[{ on := 15, ground := Ground.data }, { on := 16, ground := Ground.data }, { on := 14, ground := Ground.guard }], guard := some (14, false) }) (v := ?von3r43o17) rfl (by kernel_rfl) (by kernel_rfl) (by kernel_rfl) (fun _ _ _ h => h) (Or.inl ⟨by rfl, ?hon3r43o17⟩) hS ?_
          case hon3r43o17 => (intro wx hx; skip; go_simp; (try with_reducible rfl))
          try simp only [Act.put, List.setIfInBounds_toArray, List.set_cons_zero, List.set_cons_succ]
          refine wpAnyH_take (i := 18) (oi := { dst := some 238, op := Op.load 3 (Operand.tmp 237), type := 3, pos := "law.go:159", after := #[{ on := 17, ground := Ground.data }, { on := 14, ground := Ground.guard }], guard := some (14, false) }) (v := ?von3r43o18) rfl (by kernel_rfl) (by kernel_rfl) (by kernel_rfl) (fun _ _ _ h => h) (Or.inl ⟨by rfl, ?hon3r43o18⟩) hS ?_
          case hon3r43o18 => (intro wx hx; obtain ⟨y1, y2, y3, y4⟩ := HF.out _ hx; go_simp; (try with_reducible rfl))
          try simp only [Act.put, List.setIfInBounds_toArray, List.set_cons_zero, List.set_cons_succ]
          refine wpAnyH_take (i := 19) (oi := { dst := some 239, op := Op.indexAddr 53 (Operand.tmp 26) (Operand.tmp 238), type := 0, pos := "law.go:159", after := #[{ on := 18, ground := Ground.data }, { on := 14, ground := Ground.guard }], guard := some (14, false) }) (v := ?von3r43o19) rfl (by kernel_rfl) (by kernel_rfl) (by kernel_rfl) (fun _ _ _ h => h) (Or.inl ⟨by rfl, ?hon3r43o19⟩) hS ?_
          case hon3r43o19 => (intro wx hx; skip; go_simp; (try with_reducible rfl))
          try simp only [Act.put, List.setIfInBounds_toArray, List.set_cons_zero, List.set_cons_succ]
          refine wpAnyH_take (i := 20) (oi := { dst := some 240, op := Op.load 4 (Operand.tmp 239), type := 4, pos := "law.go:159", after := #[{ on := 19, ground := Ground.data }, { on := 14, ground := Ground.guard }], guard := some (14, false) }) (v := ?von3r43o20) rfl (by kernel_rfl) (by kernel_rfl) (by kernel_rfl) (fun _ _ _ h => h) (Or.inl ⟨by rfl, ?hon3r43o20⟩) hS ?_
          case hon3r43o20 => (intro wx hx; obtain ⟨y1, y2, y3, y4⟩ := HF.out _ hx; go_simp; (try with_reducible rfl))
          try simp only [Act.put, List.setIfInBounds_toArray, List.set_cons_zero, List.set_cons_succ]
          refine wpAnyH_take (i := 21) (oi := { dst := some 241, op := Op.pick (Operand.tmp 234) (Operand.const (Value.bool true)) (Operand.tmp 240), type := 4, pos := "law.go:159", after := #[{ on := 14, ground := Ground.data }, { on := 20, ground := Ground.data }], guard := none }) (v := ?von3r43o21) rfl (by kernel_rfl) (by kernel_rfl) (by kernel_rfl) (fun _ _ _ h => h) (Or.inl ⟨by rfl, ?hon3r43o21⟩) hS ?_
          case hon3r43o21 => (intro wx hx; skip; go_simp; (try with_reducible rfl))
          try simp only [Act.put, List.setIfInBounds_toArray, List.set_cons_zero, List.set_cons_succ]
          refine wpAnyH_take (i := 22) (oi := { dst := some 242, op := Op.move (Operand.tmp 241), type := 4, pos := "law.go:159", after := #[{ on := 21, ground := Ground.data }, { on := 14, ground := Ground.chain }], guard := none }) (v := ?von3r43o22) rfl (by kernel_rfl) (by kernel_rfl) (by kernel_rfl) (fun _ _ _ h => h) (Or.inl ⟨by rfl, ?hon3r43o22⟩) hS ?_
          case hon3r43o22 => (intro wx hx; skip; go_simp; (try with_reducible rfl))
          try simp only [Act.put, List.setIfInBounds_toArray, List.set_cons_zero, List.set_cons_succ]
          refine wpAnyH_take (i := 23) (oi := { dst := some 243, op := Op.move (Operand.tmp 11), type := 36, pos := "law.go:159", after := #[{ on := 22, ground := Ground.guard }], guard := some (22, false) }) (v := ?von3r43o23) rfl (by kernel_rfl) (by kernel_rfl) (by kernel_rfl) (fun _ _ _ h => h) (Or.inl ⟨by rfl, ?hon3r43o23⟩) hS ?_
          case hon3r43o23 => (intro wx hx; skip; go_simp; (try with_reducible rfl))
          try simp only [Act.put, List.setIfInBounds_toArray, List.set_cons_zero, List.set_cons_succ]
          refine wpAnyH_take (i := 24) (oi := { dst := some 244, op := Op.move (Operand.tmp 25), type := 51, pos := "law.go:159", after := #[{ on := 22, ground := Ground.guard }], guard := some (22, false) }) (v := ?von3r43o24) rfl (by kernel_rfl) (by kernel_rfl) (by kernel_rfl) (fun _ _ _ h => h) (Or.inl ⟨by rfl, ?hon3r43o24⟩) hS ?_
          case hon3r43o24 => (intro wx hx; skip; go_simp; (try with_reducible rfl))
          try simp only [Act.put, List.setIfInBounds_toArray, List.set_cons_zero, List.set_cons_succ]
          refine wpAnyH_take (i := 25) (oi := { dst := some 245, op := Op.move (Operand.tmp 27), type := 3, pos := "law.go:159", after := #[{ on := 22, ground := Ground.guard }], guard := some (22, false) }) (v := ?von3r43o25) rfl (by kernel_rfl) (by kernel_rfl) (by kernel_rfl) (fun _ _ _ h => h) (Or.inl ⟨by rfl, ?hon3r43o25⟩) hS ?_
          case hon3r43o25 => (intro wx hx; skip; go_simp; (try with_reducible rfl))
          try simp only [Act.put, List.setIfInBounds_toArray, List.set_cons_zero, List.set_cons_succ]
          refine wpAnyH_take (i := 26) (oi := { dst := some 246, op := Op.indexAddr 51 (Operand.tmp 244) (Operand.tmp 245), type := 0, pos := "law.go:159", after := #[{ on := 24, ground := Ground.data }, { on := 25, ground := Ground.data }, { on := 22, ground := Ground.guard }], guard := some (22, false) }) (v := ?von3r43o26) rfl (by kernel_rfl) (by kernel_rfl) (by kernel_rfl) (fun _ _ _ h => h) (Or.inl ⟨by rfl, ?hon3r43o26⟩) hS ?_
          case hon3r43o26 => (intro wx hx; skip; go_simp; (try with_reducible rfl))
          try simp only [Act.put, List.setIfInBounds_toArray, List.set_cons_zero, List.set_cons_succ]
          refine wpAnyH_take (i := 27) (oi := { dst := some 247, op := Op.load 3 (Operand.tmp 246), type := 3, pos := "law.go:159", after := #[{ on := 26, ground := Ground.data }, { on := 22, ground := Ground.guard }], guard := some (22, false) }) (v := ?von3r43o27) rfl (by kernel_rfl) (by kernel_rfl) (by kernel_rfl) (fun _ _ _ h => h) (Or.inl ⟨by rfl, ?hon3r43o27⟩) hS ?_
          case hon3r43o27 => (intro wx hx; obtain ⟨y1, y2, y3, y4⟩ := HF.out _ hx; go_simp; (try with_reducible rfl))
          try simp only [Act.put, List.setIfInBounds_toArray, List.set_cons_zero, List.set_cons_succ]
          refine wpAnyH_ready (rs := [28]) (by kernel_rfl) (by simp) ?_
          refine AllReadyH.cons (o := { dst := some 248, op := Op.call { callee := Callee.value (Operand.func 17), args := #[Operand.tmp 243, Operand.tmp 247], argTypes := #[36, 3] }, type := 4, pos := "law.go:159", after := #[{ on := 23, ground := Ground.data }, { on := 27, ground := Ground.data }, { on := 22, ground := Ground.chain }, { on := 22, ground := Ground.guard }], guard := some (22, false) }) rfl (fun K hK => ?_) AllReadyH.nil
          go_simp
          refine (HUs.out _ hS).mono ?_
          rintro e wA ⟨rfl, hOA⟩
          have hS1 := hOA
          refine hK.out _ _ ?hson3r43o28 (fun hS => ?_)
          case hson3r43o28 => (exact hS1)
          clear hK K
          try simp only [Act.put, List.setIfInBounds_toArray, List.set_cons_zero, List.set_cons_succ]
          refine wpAnyH_take (i := 29) (oi := { dst := some 249, op := Op.unOp UnOp.not 4 (Operand.tmp 248), type := 4, pos := "law.go:159", after := #[{ on := 28, ground := Ground.data }, { on := 22, ground := Ground.guard }], guard := some (22, false) }) (v := ?von3r43o29) rfl (by kernel_rfl) (by kernel_rfl) (by kernel_rfl) (fun _ _ _ h => h) (Or.inl ⟨by rfl, ?hon3r43o29⟩) hS ?_
          case hon3r43o29 => (intro wx hx; skip; go_simp; (try with_reducible rfl))
          try simp only [Act.put, List.setIfInBounds_toArray, List.set_cons_zero, List.set_cons_succ]
          refine wpAnyH_take (i := 30) (oi := { dst := some 250, op := Op.pick (Operand.tmp 242) (Operand.const (Value.bool true)) (Operand.tmp 249), type := 4, pos := "law.go:159", after := #[{ on := 22, ground := Ground.data }, { on := 29, ground := Ground.data }], guard := none }) (v := ?von3r43o30) rfl (by kernel_rfl) (by kernel_rfl) (by kernel_rfl) (fun _ _ _ h => h) (Or.inl ⟨by rfl, ?hon3r43o30⟩) hS ?_
          case hon3r43o30 => (intro wx hx; skip; go_simp; (try with_reducible rfl))
          try simp only [Act.put, List.setIfInBounds_toArray, List.set_cons_zero, List.set_cons_succ]
          refine wpAnyH_done (by kernel_rfl) ?_ _
          obtain ⟨y1, y2, y3, y4⟩ := HF.out _ hS
          have hOE := Lib.hid (HP.out _ hS)
          clear hS hS0 HF HP HUs
          go_wp2
          go_roundw
          case rel => exact ⟨j + 1, by omega, by go_num, hOE⟩
          case measure => simp [intOf]; omega
        · as_aux_lemma =>
          have hjl' : ¬ (j : Int) < (ol : Int) := by omega
          obtain ⟨p2, hp2⟩ : ∃ p2 : Int, (I : Int) - (cntF (mbit xs L' (264 + 208 * 1)) I : Int) = p2 := ⟨_, rfl⟩
          obtain ⟨Q2, hQ2⟩ : ∃ Q2 : Nat, B - cntB xs L' B = Q2 := ⟨_, rfl⟩
          have hcl := cntB_le xs L' B
          have hcn2 := HS2.out.2.2.1
          have HFr := Lib.hid (FreeH 2 5 6 7 g 1 I B XI XB XA xs L' p2 (Q2 : Int) w wr _ hO.out (HAlc.out L' [rowP 3 1 (.slice oad ol ocp) ol ((lst (P' 1)).map nzv), boxP H 53 (hasC (fun m => decide (m ∈ (lst (P' 1)).take j)))]) hp2 (by have := cntB_le xs L' B; unfold cntB at this hQ2; omega))
          obtain ⟨Bm, hBm⟩ : ∃ Bm : Nat, Q2 + ol = Bm := ⟨_, rfl⟩
          have hBB : Bm + 1 = B := by have := hol.out; rw [lst_len] at this; omega
          have z1 : IntKind.i64.wrap ((Q2 : Int) + (ol : Int)) = (Bm : Int) := by rw [IntWalk.i64_in _ ⟨by omega, by omega⟩]; omega
          have z2 : IntKind.i64.wrap ((B : Int) - 1) = (Bm : Int) := by rw [IntWalk.i64_in _ ⟨by omega, by omega⟩]; omega
          have z3 : ((Bm : Int) != (Bm : Int)) = false := by simp
          have z4 : ((N : Int) != (N : Int)) = false := by simp
          clear hO hp2 hQ2 hcl hcn2 hBm hBB
          go_wp2_with fail
          refine HFr.out.mono ?_
          rintro e w10 ⟨rfl, hO10⟩
          have HFl := Lib.hid (FlatH 2 g xs L' w w10 _ hO10 rfl)
          obtain ⟨ys, hys⟩ : ∃ ys, flatV xs L' = ys := ⟨_, rfl⟩
          have hfl := HS2.out.1.flat
          rw [hys] at hfl HFl
          rw [hxl.out] at HFl
          have HSy := Lib.hid (And.intro hfl.1 (And.intro HS2.out.2.1 (hfl.2.trans HS2.out.2.2.1)))
          clear HFr hO10 hfl hys
          go_wp2_with fail
          refine HFl.out.mono ?_
          rintro e w11 ⟨ad2, cp2, rfl, hO11⟩
          have hO11 : Grommet.Own w w11 [boxP G 25 (geoCs 1 I B), rowP 47 1 (.slice ad N cp) N (xs.map wv), viewP g xs L', bmP X g 1 I B 1, boxP Y 25 (geoCs 1 I B), mapP XI g (264 + 208 * 1) I, mapP XB g (272 + 208 * 1) B, allocP XA g 1 I B XI XB, rowP 3 1 (.slice oad ol ocp) ol ((lst (P' 1)).map nzv), boxP H 53 (hasC (fun m => decide (m ∈ (lst (P' 1)).take j))), rowP 47 1 (.slice ad2 N cp2) N (ys.map wv)] := hO11
          obtain ⟨f0, f1, f2⟩ := geoH hO11 0 rfl
          rw [show ((1 : Nat) : Int) = 1 from rfl] at f0
          have hO11 := Lib.hid hO11
          clear HFl
          go_wp2_with fail
          refine (HWd.out _).mono ?_
          rintro e w12 ⟨rfl, hg12⟩
          have hOE : Hid (Grommet.Own w w12 [boxP G 25 (geoCs 1 I B), rowP 47 1 (.slice ad2 N cp2) N (ys.map wv)]) := Lib.hid (own_010 (hO11.out.quiet hg12))
          clear hO11 hg12 f0 f1 f2
          go_wp2
          go_roundw
          case rel => exact ⟨k + 1, ad2, cp2, ys, P', f0', by omega, by go_num, rfl, HSy, hOE⟩
          case measure => simp [intOf]; omega
    · obtain rfl : tl = k := by omega
      have hlt' : ¬ (tl : Int) < (tl : Int) := by omega
      have HW := Lib.hid (works13_tab wr (tab_grown HTab.out hO.out.grown))
      have hgO := Lib.hid hO.out.grown
      clear hO HS
      go_wp2_with fail
      refine HW.out.mono ?_
      rintro e w5 ⟨rfl, hg⟩
      have hgE := Lib.hid (grown_trans hgO.out hg)
      go_wp2
      go_ret
      exact ⟨rfl, hgE.out⟩
theorem walk (a0 : Int) (td : Option Addr) (tl tc : Nat) (T : List Blo) (w : World) (w0 : (Lit.int .u8 a0).wf = true) (hT : BlosIn w td tl T) (ht : Lib.TabIs Tryd.prog w "math/bits.deBruijn64tab" .u8 tab) :
    Calls Tryd.prog 3 #[.int .u8 a0, .slice td tl tc] w (Go.Ev.WorksIs w) := by
  have b0 := bounds_u8 w0
  obtain ⟨A, rfl⟩ := Int.eq_ofNat_of_zero_le b0.1
  by_cases h : 60 < tl
  · exact walk_far _ td tl tc w ht h
  · exact walk_at A td tl tc T w (by omega) (by omega) hT ht
end Go.Proofs.YtmamgfjnphdecaaDoor.blocksOnce
