import Derived.Test.YtgmhojoepcoopaaDoorPk29
import Derived.Deep.DeepCutAuto
import Derived.Deep.CutBlock
set_option maxRecDepth 100000
set_option maxHeartbeats 4000000
namespace Go.Proofs.YtgmhojoepcoopaaDoor.dataCounts
open Go.RowKit Go.Grommet
set_option linter.unusedVariables false
theorem sol8 {G B g X N cp Y XI XB XA : Nat} {ad : Option Addr} {xs : List Nat} {L : List (Nat × Nat)} {D V Z : Nat} {xn : Int} {xs_ : ByteArray} {xdr : Bool} : ∀ Q ∈ [rowP 33 1 (.slice ad N cp) N (xs.map wv), boxP G 26 #[.int .i64 1, .int .i64 3, .int .i64 (B : Int)], viewP g xs L, boxP Y 26 (geoCs 1 3 B), mapP XI g (264 + 208 * 1) 3, mapP XB g (272 + 208 * 1) B, allocP XA g 1 3 B XI XB, boxP X 35 #[.int .u8 (D : Int), .int .i64 xn, .int .u64 (V : Int), .int .u64 (Z : Int), .string xs_, .bool xdr]], Solid Q := by
 intro Q h
 simp only [List.mem_cons, List.not_mem_nil, or_false] at h
 rcases h with rfl | rfl | rfl | rfl | rfl | rfl | rfl | rfl
 ·exact solid_row _ _ _ _ _
 ·exact solid_box _ _ _
 ·exact solid_view _ _ _
 ·exact solid_box _ _ _
 ·exact solid_box _ _ _
 ·exact solid_box _ _ _
 ·exact solid_box _ _ _
 ·exact solid_box _ _ _
theorem own_a1 {w0 w : World} {A0 A1 A2 A3 A4 A5 A6 A7 A8 A9 A10 : Pr} (h : Grommet.Own w0 w [A0, A1, A2, A3, A4, A5, A6, A7, A8, A9, A10]) : Grommet.Own w0 w [A10, A1] :=
 h.permute (fun j => [10, 1].getD j 0) (fun j hj => by
  have : j = 0 ∨ j = 1 := by simp at hj; omega
  rcases this with rfl | rfl
  ·exact ⟨by simp, rfl⟩
  ·exact ⟨by simp, rfl⟩) (fun i j hi hj hne => by
  have h1 : i = 0 ∨ i = 1 := by simp at hi; omega
  have h2 : j = 0 ∨ j = 1 := by simp at hj; omega
  rcases h1 with rfl | rfl <;> rcases h2 with rfl | rfl <;> first | exact absurd rfl hne | decide)
theorem alc8 {G B g X N cp Y XI XB XA : Nat} {ad : Option Addr} {xs : List Nat} {L : List (Nat × Nat)} {D V Z : Nat} {xn : Int} {xs_ : ByteArray} {xdr : Bool} (hm : mayB ((1 : Nat) : Int) ((3 : Nat) : Int) (B : Int) = true) (hx : xs.length = 488 + 16 * 3 + 8 * B) (hl : xs.length ≤ 1024) : AlcIs [rowP 33 1 (.slice ad N cp) N (xs.map wv), boxP G 26 #[.int .i64 1, .int .i64 3, .int .i64 (B : Int)], viewP g xs L, boxP Y 26 (geoCs 1 3 B), mapP XI g (264 + 208 * 1) 3, mapP XB g (272 + 208 * 1) B, allocP XA g 1 3 B XI XB, boxP X 35 #[.int .u8 (D : Int), .int .i64 xn, .int .u64 (V : Int), .int .u64 (Z : Int), .string xs_, .bool xdr]] 2 4 5 6 g 1 3 B XI XB XA xs L :=
 ⟨rfl, rfl, rfl, rfl, hm, by omega, by omega⟩
theorem left_count {B sz a E m : Nat} {f0 : Nat → Nat} {xs : List Nat} {L0 L : List (Nat × Nat)} {P0 P : Nat → Nat → Nat} {c : Nat → UInt8} {bs : List UInt8} (h : WInv 3 B 2 sz f0 xs L0 P0 c a E bs L P E) (hm : a + m = E) (haE : a < E) : cntB xs L B = cntB xs L0 B + beginN P0 2 a m ∧ beginN P 2 a m = 0 := by
 subst hm
 constructor
 ·have hc := h.cnt
  rw [Nat.sub_self] at hc
  have h0 : remA P 2 (a / 64 + doneN a (a + m)) 0 = 0 := remA_none _ (fun j h1 h2 => by omega)
  rw [h0] at hc
  unfold beginN
  omega
 ·exact remA_none _ (fun j h1 h2 => h.had j h1 h2)
theorem walk_at (x0 : Nat) (td : Option Addr) (tl tc : Nat) (T : List Dst) (w : World) (h0 : x0 ≤ 255) (hT : DstsIn w td tl T)
  (ht : Lib.TabIs Tryd.prog w "math/bits.deBruijn64tab" .u8 tab) :
  Calls Tryd.prog 4 #[.int .u8 (x0 : Int), .slice td tl tc] w (Go.Ev.WorksIs w) := by
 have HTab := Lib.hid ht
 have HT := Lib.hid hT
 have HG := Lib.hid (greatH td tl tc T w hT)
 obtain ⟨B, hB⟩ : ∃ B, 2 + x0 % 60 = B := ⟨_, rfl⟩
 have hB1 : 2 ≤ B := by omega
 have hB2 : B ≤ 61 := by omega
 obtain ⟨N, hN⟩ : ∃ N, 488 + 16 * 3 + 8 * B = N := ⟨_, rfl⟩
 have HFi := Lib.hid (FileH x0 B N h0 hB hN w w [] (Own.nil w))
 have hS0 := DSt.begun hB1 hB2 hN
 obtain ⟨xs0, hxs⟩ : ∃ xs, fileW B N = xs := ⟨_, rfl⟩
 rw [hxs] at HFi hS0
 have HS0 := Lib.hid hS0.1
 have HNe := Lib.hid hN
 have Hmay := Lib.hid hS0.1.f.st.may
 have HWd := Lib.hid (fun wx => Words_any ((1 : Nat) : Int) ((3 : Nat) : Int) (B : Int) wx)
 rw [show wordsV ((1 : Nat) : Int) ((3 : Nat) : Int) (B : Int) = (N : Int) from by rw [words_pos hS0.1.f.st.may]; omega, show ((1 : Nat) : Int) = 1 from rfl, show ((3 : Nat) : Int) = 3 from rfl] at HWd
 unfold gv at HWd
 have hNl : N ≤ 1024 := by omega
 have hN0 : 536 ≤ N := by omega
 clear hS0 hxs hB h0 hT ht hN
 go_enter Tryd.func4, Tryd.ntmps4
 go_wp2_with fail
 refine HG.out.mono ?_
 rintro e u0 ⟨b, rfl, Hb, rfl⟩
 clear HG
 cases b with
 | true =>
  have HW := Lib.hid (works14_tab u0 HTab.out)
  go_wp2_with fail
  refine HW.out.mono ?_
  rintro e w5 ⟨rfl, hg⟩
  go_wp2
  go_ret
  exact ⟨rfl, hg⟩
 | false =>
 obtain ⟨hl30, hss⟩ := Hb.out rfl
 have Hss := Lib.hid hss
 clear hss Hb
 go_wp2_with fail
 refine HFi.out.mono ?_
 rintro e u1 ⟨q, rfl, hO1⟩
 have hO1 : Grommet.Own u0 u1 [rowP 33 1 (.slice (some ⟨q, 0, none⟩) N N) N (xs0.map wv)] := hO1
 have hO2 := hO1.addBox 26 #[.int .i64 1, .int .i64 3, .int .i64 (B : Int)]
 obtain ⟨G, hG⟩ : ∃ G, u1.heap.size = G := ⟨_, rfl⟩
 obtain ⟨u2, hu2⟩ : ∃ u2, u1.alloc (.cells #[.int .i64 1, .int .i64 3, .int .i64 (B : Int)] 26) = u2 := ⟨_, rfl⟩
 rw [hG, hu2] at hO2
 have hO4 : Hid (Grommet.Own u0 u2 [rowP 33 1 (.slice (some ⟨q, 0, none⟩) N N) N (xs0.map wv), boxP G 26 #[.int .i64 1, .int .i64 3, .int .i64 (B : Int)]]) := Lib.hid hO2
 clear HFi hO1 hO2
 go_upto_region 4 with fail
 try rw [hu2]
 try rw [hG]
 clear hG hu2
 go_wp2_with fail
 go_loopw [6, 7] (fun sl kv wr => ∃ (k sz : Nat) (ad : Option Addr) (cp : Nat) (xs : List Nat) (P : Nat → Nat → Nat) (f0 : Nat → Nat) (c : Nat → UInt8), k ≤ tl ∧ kv = .int .i64 (k : Int) ∧ sl = .slice ad N cp ∧ Hid (DSt B sz f0 xs [] P c) ∧ Hid (Grommet.Own u0 wr [rowP 33 1 (.slice ad N cp) N (xs.map wv), boxP G 26 #[.int .i64 1, .int .i64 3, .int .i64 (B : Int)]])) (fun _ kv _ => tl - (intOf kv).toNat)
 case atStart => exact ⟨0, 0, _, _, xs0, _, _, _, Nat.zero_le _, rfl, rfl, HS0, hO4⟩
 case round =>
  clear hO4 HS0
  obtain ⟨k, sz, ad, cp, xs, P, f0, c, hk, rfl, rfl, HS, hO⟩ := hrel
  have k0 : (0 : Int) ≤ (k : Int) := by omega
  by_cases hlt : k < tl
  ·have hlt' : (k : Int) < (tl : Int) := by omega
   obtain ⟨x, hx⟩ : ∃ x, T[k]? = some x := ⟨T[k]'(by rw [HT.out.1]; exact hlt), List.getElem?_eq_getElem _⟩
   obtain ⟨tg, to', htd, _, _, _, _, _, _⟩ := (HT.out.grown hO.out.grown).2.2 k x hx
   subst htd
   obtain ⟨ok0, ok1, ok2, ok3, ok4⟩ := HT.out.2.1 x (List.mem_of_getElem? hx)
   have hs2000 := Hss.out k x hx
   have Hc := Lib.hid (fun wx (hg : u0.grownBy wx none) => ((HT.out.grown hg).at k x hx))
   clear hx
   obtain ⟨xd, xn, xa, xz, xs_, xdr⟩ := x
   dsimp only at ok0 ok1 ok2 ok3 ok4 Hc hs2000
   have b0 := bounds_u8 ok0
   have b2 := bounds_u64 ok2
   have b3 := bounds_u64 ok3
   obtain ⟨D, rfl⟩ := Int.eq_ofNat_of_zero_le b0.1
   obtain ⟨V, rfl⟩ := Int.eq_ofNat_of_zero_le b2.1
   obtain ⟨Z, rfl⟩ := Int.eq_ofNat_of_zero_le b3.1
   obtain ⟨r, Hr⟩ : ∃ r, Hid (r = D % 2) := ⟨_, Lib.hid rfl⟩
   have hr2 : r < 2 := by rw [Hr.out]; omega
   have e4 : (D : Int) % 2 = (r : Int) := by rw [Hr.out]; omega
   have e4' : Int.tmod (D : Int) 2 = (r : Int) := by rw [Int.tmod_eq_emod_of_nonneg (by omega)]; exact e4
   have wr4 : IntKind.u8.wrap (r : Int) = (r : Int) := IntWalk.u8_in _ ⟨by omega, by omega⟩
   obtain ⟨a, Ha⟩ : ∃ a, Hid (a = V % 769) := ⟨_, Lib.hid rfl⟩
   have ha : a < 769 := by rw [Ha.out]; omega
   have e5 : (V : Int) % 769 = (a : Int) := by rw [Ha.out]; omega
   have e5' : Int.tmod (V : Int) 769 = (a : Int) := by rw [Int.tmod_eq_emod_of_nonneg (by omega)]; exact e5
   have wa : IntKind.u64.wrap (a : Int) = (a : Int) := IntWalk.u64_in _ ⟨by omega, by omega⟩
   have a0 : (0 : Int) ≤ (a : Int) := by omega
   have hxl : Hid (xs.length = N) := Lib.hid (by have := HS.out.f.st.len; have := HNe.out; omega)
   obtain ⟨hW, hnil, _⟩ := Own.words hO.out 0 rfl HS.out.f.st.small (by omega)
   have HNew := Lib.hid (NewH ad N cp xs u0 _ _ hO.out hW (by omega) hnil)
   have hsz7 := HS.out.f.size_le
   have wk : IntKind.i64.wrap ((k : Int) + 1) = (k : Int) + 1 := IntWalk.i64_in _ ⟨by omega, by omega⟩
   clear hO hW hnil ok0 ok1 ok2 ok3 ok4 b0 b2 b3
   go_wp2_with fail
   refine HNew.out.mono ?_
   rintro e w1 ⟨g, rfl, hO1⟩
   have hO1 : Grommet.Own u0 w1 [rowP 33 1 (.slice ad N cp) N (xs.map wv), boxP G 26 #[.int .i64 1, .int .i64 3, .int .i64 (B : Int)], viewP g xs []] := hO1
   obtain ⟨y0, y1, y2⟩ := geo_cells hO1 (k := 1) rfl
   have HA := Lib.hid (ANewH 2 g 1 3 B xs [] u0 w1 _ hO1 rfl Hmay.out (by have := hxl.out; have := HNe.out; omega) (by have := hxl.out; omega))
   rw [show ((1 : Nat) : Int) = 1 from rfl, show ((3 : Nat) : Int) = 3 from rfl] at HA
   clear HNew hO1
   go_wp2_with fail
   refine HA.out.mono ?_
   rintro e w2 ⟨Y, XI, XB, XA, rfl, hO2⟩
   have hO2 : Grommet.Own u0 w2 [rowP 33 1 (.slice ad N cp) N (xs.map wv), boxP G 26 #[.int .i64 1, .int .i64 3, .int .i64 (B : Int)], viewP g xs [], boxP Y 26 (geoCs 1 3 B), mapP XI g (264 + 208 * 1) 3, mapP XB g (272 + 208 * 1) B, allocP XA g 1 3 B XI XB] := hO2
   obtain ⟨c0, c1, c2, c3, c4, c5⟩ := Hc.out w2 hO2.grown
   have hO3 := hO2.addBox 35 #[.int .u8 (D : Int), .int .i64 xn, .int .u64 (V : Int), .int .u64 (Z : Int), .string xs_, .bool xdr]
   obtain ⟨X, hX⟩ : ∃ X, w2.heap.size = X := ⟨_, rfl⟩
   obtain ⟨w3, hw3⟩ : ∃ w3, w2.alloc (.cells #[.int .u8 (D : Int), .int .i64 xn, .int .u64 (V : Int), .int .u64 (Z : Int), .string xs_, .bool xdr] 35) = w3 := ⟨_, rfl⟩
   rw [hX, hw3] at hO3
   have hO3 : Grommet.Own u0 w3 [rowP 33 1 (.slice ad N cp) N (xs.map wv), boxP G 26 #[.int .i64 1, .int .i64 3, .int .i64 (B : Int)], viewP g xs [], boxP Y 26 (geoCs 1 3 B), mapP XI g (264 + 208 * 1) 3, mapP XB g (272 + 208 * 1) B, allocP XA g 1 3 B XI XB, boxP X 35 #[.int .u8 (D : Int), .int .i64 xn, .int .u64 (V : Int), .int .u64 (Z : Int), .string xs_, .bool xdr]] := hO3
   have hb := hO3.box 7 rfl
   have z2 : w3.cell? ⟨X, 2, none⟩ = some (.int .u64 (V : Int)) := by simp [World.cell?, hb]
   have z4 : w3.cell? ⟨X, 4, none⟩ = some (.string xs_) := by simp [World.cell?, hb]
   obtain ⟨p, hp⟩ : ∃ p : Int, ((3 : Nat) : Int) - (cntF (mbit xs [] (264 + 208 * 1)) 3 : Int) = p := ⟨_, rfl⟩
   obtain ⟨Q, hQ⟩ : ∃ Q : Nat, B - cntB xs [] B = Q := ⟨_, rfl⟩
   have hcB := cntB_le xs [] B
   have HAlc := Lib.hid (fun L => alc8 (G := G) (g := g) (X := X) (N := N) (cp := cp) (Y := Y) (XI := XI) (XB := XB) (XA := XA) (ad := ad) (xs := xs) (L := L) (B := B) (D := D) (V := V) (Z := Z) (xn := xn) (xs_ := xs_) (xdr := xdr) Hmay.out (by have := hxl.out; have := HNe.out; omega) (by have := hxl.out; omega))
   have HFr := Lib.hid (FreeH 2 4 5 6 g 1 3 B XI XB XA xs [] p (Q : Int) u0 w3 _ hO3 (HAlc.out []) hp (by unfold cntB at hcB hQ; omega))
   have Hp := Lib.hid hp
   have HQ := Lib.hid (And.intro hQ hcB)
   clear HA hO2 hO3 hb hp hQ hcB y0 y1 y2
   go_upto_region 12 with fail
   try rw [hw3]
   try rw [hX]
   clear c0 c1 c2 c3 c4 c5 Hc hX hw3
   go_upto_region 13 with fail
   go_cut [13] (fun sv wx => ∃ (S : ByteArray) (m : Nat), sv = .string S ∧ S.size = m ∧ m ≤ 128 ∧ w3 = wx)
   case first =>
    by_cases hs1 : 128 < xs_.size
    ·have s1 : (128 : Int) < (xs_.size : Int) := by omega
     go_wp2_with fail
     go_meet
     case rel => exact ⟨xs_.extract 0 128, 128, rfl, by rw [ByteArray.size_extract]; omega, by omega, rfl⟩
    ·have s1 : ¬ (128 : Int) < (xs_.size : Int) := by omega
     go_wp2_with fail
     go_meet
     case rel => exact ⟨xs_, xs_.size, rfl, rfl, by omega, rfl⟩
   case rest =>
   obtain ⟨S, m, rfl, hSz, m128, rfl⟩ := hcut
   have m0 : (0 : Int) ≤ (m : Int) := by omega
   go_wp2_with fail
   refine HFr.out.mono ?_
   rintro e w5 ⟨rfl, hO5⟩
   have hO5 : Hid (Grommet.Own u0 w5 [rowP 33 1 (.slice ad N cp) N (xs.map wv), boxP G 26 #[.int .i64 1, .int .i64 3, .int .i64 (B : Int)], viewP g xs [], boxP Y 26 (geoCs 1 3 B), mapP XI g (264 + 208 * 1) 3, mapP XB g (272 + 208 * 1) B, allocP XA g 1 3 B XI XB, boxP X 35 #[.int .u8 (D : Int), .int .i64 xn, .int .u64 (V : Int), .int .u64 (Z : Int), .string xs_, .bool xdr]]) := Lib.hid hO5
   have hb := hO5.out.box 7 rfl
   obtain ⟨y0, y1, y2⟩ := geo_cells hO5.out (k := 1) rfl
   have z0 : w5.cell? ⟨X, 0, none⟩ = some (.int .u8 (D : Int)) := by simp [World.cell?, hb]
   clear HFr hb z2 z4 e5 e5' wa
   go_upto_if 81 with fail
   go_cut [16, 17, 18, 19, 93] (fun _ _ _ _ _ wx => ∃ (sz' : Nat) (f0' : Nat → Nat) (L' : List (Nat × Nat)) (P' : Nat → Nat → Nat) (c' : Nat → UInt8), Hid (DSt B sz' f0' xs L' P' c') ∧ Hid (Grommet.Own u0 wx [rowP 33 1 (.slice ad N cp) N (xs.map wv), boxP G 26 #[.int .i64 1, .int .i64 3, .int .i64 (B : Int)], viewP g xs L', boxP Y 26 (geoCs 1 3 B), mapP XI g (264 + 208 * 1) 3, mapP XB g (272 + 208 * 1) B, allocP XA g 1 3 B XI XB, boxP X 35 #[.int .u8 (D : Int), .int .i64 xn, .int .u64 (V : Int), .int .u64 (Z : Int), .string xs_, .bool xdr]]))
   case first =>
    as_aux_lemma =>
    have hr : r = 0 ∨ r = 1 := by omega
    clear hr2 e4 e4' wr4 wk
    have hcB := HQ.out.2
    rcases hr with hr | hr
    ·have q0 : ((r : Int) == 0) = true := by rw [hr]; rfl
     obtain ⟨E, hE⟩ : ∃ E, a + m = E := ⟨_, rfl⟩
     by_cases hout : 768 < E
     ·as_aux_lemma =>
      have HWr := fun wx hx => write_out HS.out.f a m 2 g S hSz (by omega) (by omega) (by omega) u0 wx [rowP 33 1 (.slice ad N cp) N (xs.map wv), boxP G 26 #[.int .i64 1, .int .i64 3, .int .i64 (B : Int)], viewP g xs [], boxP Y 26 (geoCs 1 3 B), mapP XI g (264 + 208 * 1) 3, mapP XB g (272 + 208 * 1) B, allocP XA g 1 3 B XI XB, boxP X 35 #[.int .u8 (D : Int), .int .i64 xn, .int .u64 (V : Int), .int .u64 (Z : Int), .string xs_, .bool xdr]] hx rfl
      have hnd : needR P 2 a m = 0 := by unfold needR; rw [if_pos (by omega)]
      have HWr := Lib.hid HWr
      unfold gv at HWr
      rw [show ((1 : Nat) : Int) = 1 from rfl, show ((3 : Nat) : Int) = 3 from rfl, show ((2 : Nat) : Int) = 2 from rfl] at HWr
      have HNd := Lib.hid (fun wx hx => NeedH HS.out.f a m 2 g (by omega) (by omega) u0 wx [rowP 33 1 (.slice ad N cp) N (xs.map wv), boxP G 26 #[.int .i64 1, .int .i64 3, .int .i64 (B : Int)], viewP g xs [], boxP Y 26 (geoCs 1 3 B), mapP XI g (264 + 208 * 1) 3, mapP XB g (272 + 208 * 1) B, allocP XA g 1 3 B XI XB, boxP X 35 #[.int .u8 (D : Int), .int .i64 xn, .int .u64 (V : Int), .int .u64 (Z : Int), .string xs_, .bool xdr]] hx rfl)
      rw [hnd] at HNd
      unfold gv at HNd
      rw [show ((1 : Nat) : Int) = 1 from rfl, show ((3 : Nat) : Int) = 3 from rfl, show ((2 : Nat) : Int) = 2 from rfl, show ((0 : Nat) : Int) = 0 from rfl] at HNd
      have HNx := Lib.hid (HNd.out w5 hO5.out)
      have HFr := Lib.hid (fun wx hx => FreeH 2 4 5 6 g 1 3 B XI XB XA xs [] p (Q : Int) u0 wx [rowP 33 1 (.slice ad N cp) N (xs.map wv), boxP G 26 #[.int .i64 1, .int .i64 3, .int .i64 (B : Int)], viewP g xs [], boxP Y 26 (geoCs 1 3 B), mapP XI g (264 + 208 * 1) 3, mapP XB g (272 + 208 * 1) B, allocP XA g 1 3 B XI XB, boxP X 35 #[.int .u8 (D : Int), .int .i64 xn, .int .u64 (V : Int), .int .u64 (Z : Int), .string xs_, .bool xdr]] hx (HAlc.out []) Hp.out (by have := HQ.out.1; unfold cntB at this hcB; omega))
      have HSz := hSz
      have qq : ((Q : Int) != (Q : Int)) = false := by simp
      have q1 : ¬ (Q : Int) < 0 := by omega
      have qw : IntKind.i64.wrap (Q : Int) = (Q : Int) := IntWalk.i64_in _ ⟨by omega, by have := HQ.out.1; omega⟩
      have qw0 : IntKind.i64.wrap ((Q : Int) - 0) = (Q : Int) := by rw [Int.sub_zero]; exact qw
      clear hO5 hE hnd hcB
      go_wp2_with fail
      refine HNx.out.mono ?_
      rintro e w6 ⟨rfl, hO6⟩
      have HWx := Lib.hid (HWr.out w6 hO6)
      clear y0 y1 y2 z0 HNx HWr
      obtain ⟨y0, y1, y2⟩ := geo_cells hO6 (k := 1) rfl
      clear hO6
      go_wp2_with fail
      refine HWx.out.mono ?_
      rintro e w7 ⟨rfl, hO7⟩
      have HFx := Lib.hid (HFr.out w7 hO7)
      clear y0 y1 y2 HWx HFr hO7
      go_wp2_with fail
      refine HFx.out.mono ?_
      rintro e w8 ⟨rfl, hO8⟩
      have HNy := Lib.hid (HNd.out w8 hO8)
      obtain ⟨y0, y1, y2⟩ := geo_cells hO8 (k := 1) rfl
      clear HFx HNd hO8
      go_wp2_with fail
      refine HNy.out.mono ?_
      rintro e w9 ⟨rfl, hO9⟩
      have hO9 := Lib.hid hO9
      clear HNy y0 y1 y2
      go_wp2_with fail
      go_meet
      case rel => exact ⟨sz, f0, [], P, c, HS, hO9⟩
     ·by_cases hm0 : m = 0
      ·as_aux_lemma =>
       have HWr := fun wx hx => write_nil HS.out.f a m 2 g S hSz (by omega) (by omega) (by omega) hm0 u0 wx [rowP 33 1 (.slice ad N cp) N (xs.map wv), boxP G 26 #[.int .i64 1, .int .i64 3, .int .i64 (B : Int)], viewP g xs [], boxP Y 26 (geoCs 1 3 B), mapP XI g (264 + 208 * 1) 3, mapP XB g (272 + 208 * 1) B, allocP XA g 1 3 B XI XB, boxP X 35 #[.int .u8 (D : Int), .int .i64 xn, .int .u64 (V : Int), .int .u64 (Z : Int), .string xs_, .bool xdr]] hx rfl
       have hnd : needR P 2 a m = 0 := by
        unfold needR
        rw [if_neg (by omega), hm0]
        unfold beginN
        rw [Nat.add_zero, doneN_at]
        exact remA_none _ (fun j h1 h2 => by omega)
       clear hm0
       have HWr := Lib.hid HWr
       unfold gv at HWr
       rw [show ((1 : Nat) : Int) = 1 from rfl, show ((3 : Nat) : Int) = 3 from rfl, show ((2 : Nat) : Int) = 2 from rfl] at HWr
       have HNd := Lib.hid (fun wx hx => NeedH HS.out.f a m 2 g (by omega) (by omega) u0 wx [rowP 33 1 (.slice ad N cp) N (xs.map wv), boxP G 26 #[.int .i64 1, .int .i64 3, .int .i64 (B : Int)], viewP g xs [], boxP Y 26 (geoCs 1 3 B), mapP XI g (264 + 208 * 1) 3, mapP XB g (272 + 208 * 1) B, allocP XA g 1 3 B XI XB, boxP X 35 #[.int .u8 (D : Int), .int .i64 xn, .int .u64 (V : Int), .int .u64 (Z : Int), .string xs_, .bool xdr]] hx rfl)
       rw [hnd] at HNd
       unfold gv at HNd
       rw [show ((1 : Nat) : Int) = 1 from rfl, show ((3 : Nat) : Int) = 3 from rfl, show ((2 : Nat) : Int) = 2 from rfl, show ((0 : Nat) : Int) = 0 from rfl] at HNd
       have HNx := Lib.hid (HNd.out w5 hO5.out)
       have HFr := Lib.hid (fun wx hx => FreeH 2 4 5 6 g 1 3 B XI XB XA xs [] p (Q : Int) u0 wx [rowP 33 1 (.slice ad N cp) N (xs.map wv), boxP G 26 #[.int .i64 1, .int .i64 3, .int .i64 (B : Int)], viewP g xs [], boxP Y 26 (geoCs 1 3 B), mapP XI g (264 + 208 * 1) 3, mapP XB g (272 + 208 * 1) B, allocP XA g 1 3 B XI XB, boxP X 35 #[.int .u8 (D : Int), .int .i64 xn, .int .u64 (V : Int), .int .u64 (Z : Int), .string xs_, .bool xdr]] hx (HAlc.out []) Hp.out (by have := HQ.out.1; unfold cntB at this hcB; omega))
       have HSz := hSz
       have qq : ((Q : Int) != (Q : Int)) = false := by simp
       have q1 : ¬ (Q : Int) < 0 := by omega
       have qw : IntKind.i64.wrap (Q : Int) = (Q : Int) := IntWalk.i64_in _ ⟨by omega, by have := HQ.out.1; omega⟩
       have qw0 : IntKind.i64.wrap ((Q : Int) - 0) = (Q : Int) := by rw [Int.sub_zero]; exact qw
       clear hO5 hE hnd hcB
       go_wp2_with fail
       refine HNx.out.mono ?_
       rintro e w6 ⟨rfl, hO6⟩
       have HWx := Lib.hid (HWr.out w6 hO6)
       clear y0 y1 y2 z0 HNx HWr
       obtain ⟨y0, y1, y2⟩ := geo_cells hO6 (k := 1) rfl
       clear hO6
       go_wp2_with fail
       refine HWx.out.mono ?_
       rintro e w7 ⟨rfl, hO7⟩
       have HFx := Lib.hid (HFr.out w7 hO7)
       clear y0 y1 y2 HWx HFr hO7
       go_wp2_with fail
       refine HFx.out.mono ?_
       rintro e w8 ⟨rfl, hO8⟩
       have HNy := Lib.hid (HNd.out w8 hO8)
       obtain ⟨y0, y1, y2⟩ := geo_cells hO8 (k := 1) rfl
       clear HFx HNd hO8
       go_wp2_with fail
       refine HNy.out.mono ?_
       rintro e w9 ⟨rfl, hO9⟩
       have hO9 := Lib.hid hO9
       clear HNy y0 y1 y2
       go_wp2_with fail
       go_meet
       case rel => exact ⟨sz, f0, [], P, c, HS, hO9⟩
      ·by_cases hf : B < cntB xs [] B + beginN P 2 a m
       ·as_aux_lemma =>
        have HWr := fun wx hx => write_full HS.out.f a m 2 g S hSz (by omega) (by omega) (by omega) (by omega) hf u0 wx [rowP 33 1 (.slice ad N cp) N (xs.map wv), boxP G 26 #[.int .i64 1, .int .i64 3, .int .i64 (B : Int)], viewP g xs [], boxP Y 26 (geoCs 1 3 B), mapP XI g (264 + 208 * 1) 3, mapP XB g (272 + 208 * 1) B, allocP XA g 1 3 B XI XB, boxP X 35 #[.int .u8 (D : Int), .int .i64 xn, .int .u64 (V : Int), .int .u64 (Z : Int), .string xs_, .bool xdr]] hx rfl
        obtain ⟨nd, hn⟩ : ∃ nd, beginN P 2 a m = nd := ⟨_, rfl⟩
        have hnd : needR P 2 a m = nd := by unfold needR; rw [if_neg (by omega), hn]
        rw [hn] at hf
        have x1 : (Q : Int) < (nd : Int) := by have := HQ.out.1; omega
        have x2 : ¬ (nd : Int) = 0 := by omega
        have x3 : ((nd : Int) != 0) = true := by simpa using x2
        have HWr := Lib.hid HWr
        unfold gv at HWr
        rw [show ((1 : Nat) : Int) = 1 from rfl, show ((3 : Nat) : Int) = 3 from rfl, show ((2 : Nat) : Int) = 2 from rfl] at HWr
        have HNd := Lib.hid (fun wx hx => NeedH HS.out.f a m 2 g (by omega) (by omega) u0 wx [rowP 33 1 (.slice ad N cp) N (xs.map wv), boxP G 26 #[.int .i64 1, .int .i64 3, .int .i64 (B : Int)], viewP g xs [], boxP Y 26 (geoCs 1 3 B), mapP XI g (264 + 208 * 1) 3, mapP XB g (272 + 208 * 1) B, allocP XA g 1 3 B XI XB, boxP X 35 #[.int .u8 (D : Int), .int .i64 xn, .int .u64 (V : Int), .int .u64 (Z : Int), .string xs_, .bool xdr]] hx rfl)
        rw [hnd] at HNd
        unfold gv at HNd
        rw [show ((1 : Nat) : Int) = 1 from rfl, show ((3 : Nat) : Int) = 3 from rfl, show ((2 : Nat) : Int) = 2 from rfl] at HNd
        have HNx := Lib.hid (HNd.out w5 hO5.out)
        have HFr := Lib.hid (fun wx hx => FreeH 2 4 5 6 g 1 3 B XI XB XA xs [] p (Q : Int) u0 wx [rowP 33 1 (.slice ad N cp) N (xs.map wv), boxP G 26 #[.int .i64 1, .int .i64 3, .int .i64 (B : Int)], viewP g xs [], boxP Y 26 (geoCs 1 3 B), mapP XI g (264 + 208 * 1) 3, mapP XB g (272 + 208 * 1) B, allocP XA g 1 3 B XI XB, boxP X 35 #[.int .u8 (D : Int), .int .i64 xn, .int .u64 (V : Int), .int .u64 (Z : Int), .string xs_, .bool xdr]] hx (HAlc.out []) Hp.out (by have := HQ.out.1; unfold cntB at this hcB; omega))
        have HSz := hSz
        have qq : ((Q : Int) != (Q : Int)) = false := by simp
        have q1 : ¬ (Q : Int) < 0 := by omega
        have qw : IntKind.i64.wrap (Q : Int) = (Q : Int) := IntWalk.i64_in _ ⟨by omega, by have := HQ.out.1; omega⟩
        have qw0 : IntKind.i64.wrap ((Q : Int) - 0) = (Q : Int) := by rw [Int.sub_zero]; exact qw
        clear hO5 hE hnd hcB
        go_wp2_with fail
        refine HNx.out.mono ?_
        rintro e w6 ⟨rfl, hO6⟩
        have HWx := Lib.hid (HWr.out w6 hO6)
        clear y0 y1 y2 z0 HNx HWr
        obtain ⟨y0, y1, y2⟩ := geo_cells hO6 (k := 1) rfl
        clear hO6
        go_wp2_with fail
        refine HWx.out.mono ?_
        rintro e w7 ⟨rfl, hO7⟩
        have HFx := Lib.hid (HFr.out w7 hO7)
        clear y0 y1 y2 HWx HFr hO7
        go_wp2_with fail
        refine HFx.out.mono ?_
        rintro e w8 ⟨rfl, hO8⟩
        have HNy := Lib.hid (HNd.out w8 hO8)
        obtain ⟨y0, y1, y2⟩ := geo_cells hO8 (k := 1) rfl
        clear HFx HNd hO8
        go_wp2_with fail
        refine HNy.out.mono ?_
        rintro e w9 ⟨rfl, hO9⟩
        have hO9 := Lib.hid hO9
        clear HNy y0 y1 y2
        go_wp2_with fail
        go_meet
        case rel => exact ⟨sz, f0, [], P, c, HS, hO9⟩
       ·as_aux_lemma =>
        have HWr := fun wx hx => write_ok HS.out.f a m 2 g S hSz (by omega) (by omega) (by omega) (by omega) m128 (by simp) (by omega) u0 wx HTab.out [rowP 33 1 (.slice ad N cp) N (xs.map wv), boxP G 26 #[.int .i64 1, .int .i64 3, .int .i64 (B : Int)], viewP g xs [], boxP Y 26 (geoCs 1 3 B), mapP XI g (264 + 208 * 1) 3, mapP XB g (272 + 208 * 1) B, allocP XA g 1 3 B XI XB, boxP X 35 #[.int .u8 (D : Int), .int .i64 xn, .int .u64 (V : Int), .int .u64 (Z : Int), .string xs_, .bool xdr]] hx rfl
        obtain ⟨nd, hn⟩ : ∃ nd, beginN P 2 a m = nd := ⟨_, rfl⟩
        have hnd : needR P 2 a m = nd := by unfold needR; rw [if_neg (by omega), hn]
        have hnQ : nd ≤ Q := by have := HQ.out.1; omega
        have x1 : ¬ (Q : Int) < (nd : Int) := by omega
        obtain ⟨Q2, hQ2⟩ : ∃ Q2, Q - nd = Q2 := ⟨_, rfl⟩
        have hQ64 : Q ≤ 64 := by have := HQ.out.1; omega
        have x2 : IntKind.i64.wrap ((Q : Int) - (nd : Int)) = (Q2 : Int) := by rw [IntWalk.i64_in _ ⟨by omega, by omega⟩]; omega
        have x3 : ((Q2 : Int) != (Q2 : Int)) = false := by simp
        have HWr := Lib.hid HWr
        unfold gv at HWr
        rw [show ((1 : Nat) : Int) = 1 from rfl, show ((3 : Nat) : Int) = 3 from rfl, show ((2 : Nat) : Int) = 2 from rfl] at HWr
        have HNd := Lib.hid (fun wx hx => NeedH HS.out.f a m 2 g (by omega) (by omega) u0 wx [rowP 33 1 (.slice ad N cp) N (xs.map wv), boxP G 26 #[.int .i64 1, .int .i64 3, .int .i64 (B : Int)], viewP g xs [], boxP Y 26 (geoCs 1 3 B), mapP XI g (264 + 208 * 1) 3, mapP XB g (272 + 208 * 1) B, allocP XA g 1 3 B XI XB, boxP X 35 #[.int .u8 (D : Int), .int .i64 xn, .int .u64 (V : Int), .int .u64 (Z : Int), .string xs_, .bool xdr]] hx rfl)
        rw [hnd] at HNd
        unfold gv at HNd
        rw [show ((1 : Nat) : Int) = 1 from rfl, show ((3 : Nat) : Int) = 3 from rfl, show ((2 : Nat) : Int) = 2 from rfl] at HNd
        have HNx := Lib.hid (HNd.out w5 hO5.out)
        have HSz := hSz
        clear hO5 hcB
        go_wp2_with fail
        refine HNx.out.mono ?_
        rintro e w6 ⟨rfl, hO6⟩
        have HWx := Lib.hid (HWr.out w6 hO6)
        clear y0 y1 y2 z0 HNx HWr HNd
        obtain ⟨y0, y1, y2⟩ := geo_cells hO6 (k := 1) rfl
        clear hO6
        go_wp2_with fail
        refine HWx.out.mono ?_
        rintro e w7 ⟨rfl, L', P', hO7, hWI, hl96⟩
        rw [hE] at hO7 hWI
        obtain ⟨f0', hD, hcn⟩ := HS.out.wrote hWI hl96 (by omega) (by omega) (by rw [length_bytesOf, hSz]; exact hE)
        obtain ⟨hcn2, hbn⟩ := left_count hWI hE (by omega)
        unfold Sized at hO7
        obtain ⟨L2, hL2⟩ : ∃ L2, (if sz < E then setL xs L' ((491 + 16 * 2 : Nat) : Int) E else L') = L2 := ⟨_, rfl⟩
        rw [hL2] at hO7 hD hcn
        have hO7 : Grommet.Own u0 w7 [rowP 33 1 (.slice ad N cp) N (xs.map wv), boxP G 26 #[.int .i64 1, .int .i64 3, .int .i64 (B : Int)], viewP g xs L2, boxP Y 26 (geoCs 1 3 B), mapP XI g (264 + 208 * 1) 3, mapP XB g (272 + 208 * 1) B, allocP XA g 1 3 B XI XB, boxP X 35 #[.int .u8 (D : Int), .int .i64 xn, .int .u64 (V : Int), .int .u64 (Z : Int), .string xs_, .bool xdr]] := hO7
        obtain ⟨p2, hp2⟩ : ∃ p2 : Int, ((3 : Nat) : Int) - (cntF (mbit xs L2 (264 + 208 * 1)) 3 : Int) = p2 := ⟨_, rfl⟩
        have HFx := Lib.hid (FreeH 2 4 5 6 g 1 3 B XI XB XA xs L2 p2 (Q2 : Int) u0 w7 [rowP 33 1 (.slice ad N cp) N (xs.map wv), boxP G 26 #[.int .i64 1, .int .i64 3, .int .i64 (B : Int)], viewP g xs L2, boxP Y 26 (geoCs 1 3 B), mapP XI g (264 + 208 * 1) 3, mapP XB g (272 + 208 * 1) B, allocP XA g 1 3 B XI XB, boxP X 35 #[.int .u8 (D : Int), .int .i64 xn, .int .u64 (V : Int), .int .u64 (Z : Int), .string xs_, .bool xdr]] hO7 (HAlc.out L2) hp2 (by
         have h1 := HQ.out.1
         have h2 := cntB_le xs L2 B
         unfold cntB at h1 h2 hcn hcn2
         have h3 := HQ.out.2
         unfold cntB at h3
         omega))
        have hnd2 : needR P' 2 a m = 0 := by unfold needR; rw [if_neg (by omega)]; exact hbn
        have HNd2 := Lib.hid (fun wx hx => NeedH hD.f a m 2 g (by omega) (by omega) u0 wx [rowP 33 1 (.slice ad N cp) N (xs.map wv), boxP G 26 #[.int .i64 1, .int .i64 3, .int .i64 (B : Int)], viewP g xs L2, boxP Y 26 (geoCs 1 3 B), mapP XI g (264 + 208 * 1) 3, mapP XB g (272 + 208 * 1) B, allocP XA g 1 3 B XI XB, boxP X 35 #[.int .u8 (D : Int), .int .i64 xn, .int .u64 (V : Int), .int .u64 (Z : Int), .string xs_, .bool xdr]] hx rfl)
        rw [hnd2] at HNd2
        unfold gv at HNd2
        rw [show ((1 : Nat) : Int) = 1 from rfl, show ((3 : Nat) : Int) = 3 from rfl, show ((2 : Nat) : Int) = 2 from rfl, show ((0 : Nat) : Int) = 0 from rfl] at HNd2
        have HD := Lib.hid hD
        clear y0 y1 y2 HWx hO7 hD hcn hcn2 hbn hWI hl96 hL2 hE hp2 hnd2 hnd
        go_wp2_with fail
        refine HFx.out.mono ?_
        rintro e w8 ⟨rfl, hO8⟩
        have HNy := Lib.hid (HNd2.out w8 hO8)
        obtain ⟨y0, y1, y2⟩ := geo_cells hO8 (k := 1) rfl
        clear HFx HNd2 hO8
        go_wp2_with fail
        refine HNy.out.mono ?_
        rintro e w9 ⟨rfl, hO9⟩
        have hO9 := Lib.hid hO9
        clear HNy y0 y1 y2
        go_wp2_with fail
        go_meet
        case rel => exact ⟨max sz E, f0', L2, P', _, HD, hO9⟩
    ·as_aux_lemma =>
     have q0 : ((r : Int) == 0) = false := by rw [hr]; rfl
     have HRs := Lib.hid (Resize_in HS.out.f a 2 g (by omega) (by omega) (by simp) HS.out.z HS.out.b u0 w5 _ sol8 hO5.out rfl)
     unfold gv at HRs
     rw [show ((1 : Nat) : Int) = 1 from rfl, show ((3 : Nat) : Int) = 3 from rfl, show ((2 : Nat) : Int) = 2 from rfl] at HRs
     clear hO5
     go_wp2_with fail
     refine HRs.out.mono ?_
     rintro e w6 ⟨rfl, L', P', f0', hO6, hR⟩
     have hO6 : Hid (Grommet.Own u0 w6 [rowP 33 1 (.slice ad N cp) N (xs.map wv), boxP G 26 #[.int .i64 1, .int .i64 3, .int .i64 (B : Int)], viewP g xs L', boxP Y 26 (geoCs 1 3 B), mapP XI g (264 + 208 * 1) 3, mapP XB g (272 + 208 * 1) B, allocP XA g 1 3 B XI XB, boxP X 35 #[.int .u8 (D : Int), .int .i64 xn, .int .u64 (V : Int), .int .u64 (Z : Int), .string xs_, .bool xdr]]) := Lib.hid hO6
     have HR := Lib.hid (DSt.resized hR)
     clear HRs y0 y1 y2 z0 hR
     go_wp2_with fail
     go_meet
     case rel => exact ⟨a, f0', L', P', _, HR, hO6⟩
   case rest =>
   as_aux_lemma =>
   clear hO5 HS z0 e4 e4' wr4 a0 y0 y1 y2 HQ Hp
   obtain ⟨sz', f0', L', P', c', HS', hO⟩ := hcut
   obtain ⟨y0, y1, y2⟩ := geo_cells hO.out (k := 1) rfl
   have hsz8 := HS'.out.f.size_le
   have HOf := Lib.hid (HS'.out.f.st.of (n := 2) rfl hO.out (kv := 2) rfl)
   unfold gv at HOf
   rw [show ((1 : Nat) : Int) = 1 from rfl, show ((3 : Nat) : Int) = 3 from rfl, show ((2 : Nat) : Int) = 2 from rfl] at HOf
   clear hO
   go_wp2_with fail
   refine HOf.out.mono ?_
   rintro e w6 ⟨XM, rfl, hO6⟩
   have hO6 : Grommet.Own u0 w6 [rowP 33 1 (.slice ad N cp) N (xs.map wv), boxP G 26 #[.int .i64 1, .int .i64 3, .int .i64 (B : Int)], viewP g xs L', boxP Y 26 (geoCs 1 3 B), mapP XI g (264 + 208 * 1) 3, mapP XB g (272 + 208 * 1) B, allocP XA g 1 3 B XI XB, boxP X 35 #[.int .u8 (D : Int), .int .i64 xn, .int .u64 (V : Int), .int .u64 (Z : Int), .string xs_, .bool xdr], bmP XM g 1 3 B 2] := hO6
   have HGt := Lib.hid (get_ok0 2 g 1 3 B 2 (488 + 16 * 2) xs L' u0 [rowP 33 1 (.slice ad N cp) N (xs.map wv), boxP G 26 #[.int .i64 1, .int .i64 3, .int .i64 (B : Int)], viewP g xs L', boxP Y 26 (geoCs 1 3 B), mapP XI g (264 + 208 * 1) 3, mapP XB g (272 + 208 * 1) B, allocP XA g 1 3 B XI XB, boxP X 35 #[.int .u8 (D : Int), .int .i64 xn, .int .u64 (V : Int), .int .u64 (Z : Int), .string xs_, .bool xdr], bmP XM g 1 3 B 2] rfl (HS'.out.f.st.ok (n := 2) rfl) w6 [] (by rw [List.append_nil]; exact hO6))
   rw [List.append_nil, show nodeF xs L' (488 + 16 * 2) 3 = sz' from by rw [HS'.out.f.st.node rfl 3 (by omega), HS'.out.f.rest 3 (by omega), ← HS'.out.f.size]] at HGt
   generalize nodeF xs L' (488 + 16 * 2) 0 = k0' at HGt
   generalize nodeF xs L' (488 + 16 * 2) 1 = k1 at HGt
   generalize nodeF xs L' (488 + 16 * 2) 2 = k2 at HGt
   generalize nodeF xs L' (488 + 16 * 2) 4 = k4 at HGt
   generalize nodeF xs L' (488 + 16 * 2) 5 = k5 at HGt
   generalize nodeF xs L' (488 + 16 * 2) 6 = k6 at HGt
   generalize nodeF xs L' (488 + 16 * 2) 7 = k7 at HGt
   generalize nodeF xs L' (488 + 16 * 2) 8 = k8 at HGt
   generalize nodeF xs L' (488 + 16 * 2) 9 = k9 at HGt
   unfold gv nv at HGt
   rw [show ((1 : Nat) : Int) = 1 from rfl, show ((3 : Nat) : Int) = 3 from rfl, show ((2 : Nat) : Int) = 2 from rfl] at HGt
   clear HOf y0 y1 y2
   obtain ⟨y0, y1, y2⟩ := geo_cells hO6 (k := 1) rfl
   clear hO6
   go_wp2_with fail
   refine HGt.out.mono ?_
   rintro e w7 ⟨rfl, hO7⟩
   have hO8 := hO7.addBox 45 #[.int .u64 (k0' : Int), .int .u64 (k1 : Int), .int .u64 (k2 : Int), .int .u64 (sz' : Int), .int .u64 (k4 : Int), .int .u64 (k5 : Int), .int .u64 (k6 : Int), .int .u64 (k7 : Int), .int .u64 (k8 : Int), .int .u64 (k9 : Int)]
   obtain ⟨M, hM⟩ : ∃ M, w7.heap.size = M := ⟨_, rfl⟩
   obtain ⟨w8, hw8⟩ : ∃ w8, w7.alloc (.cells #[.int .u64 (k0' : Int), .int .u64 (k1 : Int), .int .u64 (k2 : Int), .int .u64 (sz' : Int), .int .u64 (k4 : Int), .int .u64 (k5 : Int), .int .u64 (k6 : Int), .int .u64 (k7 : Int), .int .u64 (k8 : Int), .int .u64 (k9 : Int)] 45) = w8 := ⟨_, rfl⟩
   rw [hM, hw8] at hO8
   have hO8 : Hid (Grommet.Own u0 w8 [rowP 33 1 (.slice ad N cp) N (xs.map wv), boxP G 26 #[.int .i64 1, .int .i64 3, .int .i64 (B : Int)], viewP g xs L', boxP Y 26 (geoCs 1 3 B), mapP XI g (264 + 208 * 1) 3, mapP XB g (272 + 208 * 1) B, allocP XA g 1 3 B XI XB, boxP X 35 #[.int .u8 (D : Int), .int .i64 xn, .int .u64 (V : Int), .int .u64 (Z : Int), .string xs_, .bool xdr], bmP XM g 1 3 B 2, boxP M 45 #[.int .u64 (k0' : Int), .int .u64 (k1 : Int), .int .u64 (k2 : Int), .int .u64 (sz' : Int), .int .u64 (k4 : Int), .int .u64 (k5 : Int), .int .u64 (k6 : Int), .int .u64 (k7 : Int), .int .u64 (k8 : Int), .int .u64 (k9 : Int)]]) := Lib.hid hO8
   have hb := hO8.out.box 9 rfl
   have v3 : w8.cell? ⟨M, 3, none⟩ = some (.int .u64 (sz' : Int)) := by simp [World.cell?, hb]
   obtain ⟨q, hq⟩ : ∃ q, (sz' + 63) / 64 = q := ⟨_, rfl⟩
   have hq12 : q ≤ 12 := by omega
   obtain ⟨s63, hs63⟩ : ∃ s63, sz' + 63 = s63 := ⟨_, rfl⟩
   have w63 : IntKind.u64.wrap ((sz' : Int) + 63) = (s63 : Int) := by rw [IntWalk.u64_in _ ⟨by omega, by omega⟩]; omega
   have w63' : IntKind.i64.wrap (s63 : Int) = (s63 : Int) := IntWalk.i64_in _ ⟨by omega, by omega⟩
   have t63 : Int.tdiv (s63 : Int) 64 = (q : Int) := by rw [Int.tdiv_eq_ediv_of_nonneg (by omega)]; omega
   have t63' : (s63 : Int) / 64 = (q : Int) := by omega
   have wq : IntKind.i64.wrap (q : Int) = (q : Int) := IntWalk.i64_in _ ⟨by omega, by omega⟩
   have Hq := Lib.hid hq
   clear HGt y0 y1 y2 hO7 hb hq hs63
   go_upto_region 25 with fail
   try rw [hw8]
   try rw [hM]
   clear hw8 hM
   go_wp2_with fail
   go_loopw [24] (fun jv wr => ∃ j : Nat, q ≤ j ∧ j ≤ 12 ∧ jv = .int .i64 (j : Int) ∧ Hid (Grommet.Own u0 wr [rowP 33 1 (.slice ad N cp) N (xs.map wv), boxP G 26 #[.int .i64 1, .int .i64 3, .int .i64 (B : Int)], viewP g xs L', boxP Y 26 (geoCs 1 3 B), mapP XI g (264 + 208 * 1) 3, mapP XB g (272 + 208 * 1) B, allocP XA g 1 3 B XI XB, boxP X 35 #[.int .u8 (D : Int), .int .i64 xn, .int .u64 (V : Int), .int .u64 (Z : Int), .string xs_, .bool xdr], bmP XM g 1 3 B 2, boxP M 45 #[.int .u64 (k0' : Int), .int .u64 (k1 : Int), .int .u64 (k2 : Int), .int .u64 (sz' : Int), .int .u64 (k4 : Int), .int .u64 (k5 : Int), .int .u64 (k6 : Int), .int .u64 (k7 : Int), .int .u64 (k8 : Int), .int .u64 (k9 : Int)]])) (fun jv _ => 12 - (intOf jv).toNat)
   case atStart => exact ⟨q, Nat.le_refl _, hq12, rfl, hO8⟩
   case round =>
    clear hO8 v3 w63 w63' t63 t63' wq
    obtain ⟨j, hqj, hj, rfl, hO⟩ := hrel
    have j0 : (0 : Int) ≤ (j : Int) := by omega
    by_cases hj12 : j < 12
    ·as_aux_lemma =>
     have hj12' : (j : Int) < 12 := by omega
     have HAt := Lib.hid (HS'.out.f.st.at_ (n := 2) (k := j) rfl hj12 hO.out (kv := 2) (km := 8) rfl rfl)
     rw [HS'.out.b j (by have := Hq.out; omega) hj12, show ((0 : Nat) : Int) = 0 from rfl] at HAt
     have wj : IntKind.i64.wrap ((j : Int) + 1) = (j : Int) + 1 := IntWalk.i64_in _ ⟨by omega, by omega⟩
     clear hO
     go_wp2_with fail
     refine HAt.out.mono ?_
     rintro e w9 ⟨rfl, hO9⟩
     have hO9 := Lib.hid hO9
     clear HAt
     go_wp2
     go_roundw
     case rel => exact ⟨j + 1, by omega, by omega, by go_num, hO9⟩
     case measure => simp [intOf]; omega
    ·as_aux_lemma =>
     obtain rfl : j = 12 := by omega
     have HFl := Lib.hid (FlatH 2 g xs L' u0 wr _ hO.out rfl)
     rw [hxl.out] at HFl
     have HSy := Lib.hid HS'.out.flat
     generalize flatV xs L' = ys at HFl HSy
     have z4' : ((N : Int) != (N : Int)) = false := by simp
     clear hO
     go_wp2_with fail
     refine HFl.out.mono ?_
     rintro e w10 ⟨ad2, cp2, rfl, hO10⟩
     have hO10 : Grommet.Own u0 w10 [rowP 33 1 (.slice ad N cp) N (xs.map wv), boxP G 26 #[.int .i64 1, .int .i64 3, .int .i64 (B : Int)], viewP g xs L', boxP Y 26 (geoCs 1 3 B), mapP XI g (264 + 208 * 1) 3, mapP XB g (272 + 208 * 1) B, allocP XA g 1 3 B XI XB, boxP X 35 #[.int .u8 (D : Int), .int .i64 xn, .int .u64 (V : Int), .int .u64 (Z : Int), .string xs_, .bool xdr], bmP XM g 1 3 B 2, boxP M 45 #[.int .u64 (k0' : Int), .int .u64 (k1 : Int), .int .u64 (k2 : Int), .int .u64 (sz' : Int), .int .u64 (k4 : Int), .int .u64 (k5 : Int), .int .u64 (k6 : Int), .int .u64 (k7 : Int), .int .u64 (k8 : Int), .int .u64 (k9 : Int)], rowP 33 1 (.slice ad2 N cp2) N (ys.map wv)] := hO10
     obtain ⟨y0, y1, y2⟩ := geo_cells hO10 (k := 1) rfl
     have hO10 := Lib.hid hO10
     clear HFl
     go_wp2_with fail
     refine (HWd.out _).mono ?_
     rintro e w11 ⟨rfl, hg11⟩
     have hOE : Hid (Grommet.Own u0 w11 [rowP 33 1 (.slice ad2 N cp2) N (ys.map wv), boxP G 26 #[.int .i64 1, .int .i64 3, .int .i64 (B : Int)]]) := Lib.hid (own_a1 (hO10.out.quiet hg11))
     clear hO10 hg11 y0 y1 y2
     go_wp2
     go_roundw
     case rel => exact ⟨k + 1, sz', ad2, cp2, ys, P', f0', c', by omega, by go_num, rfl, HSy, hOE⟩
     case measure => simp [intOf]; omega
  ·obtain rfl : tl = k := by omega
   have hlt' : ¬ (tl : Int) < (tl : Int) := by omega
   have HW := Lib.hid (works14_tab wr (tab_grown HTab.out hO.out.grown))
   have hgO := Lib.hid hO.out.grown
   clear hO HS
   go_wp2_with fail
   refine HW.out.mono ?_
   rintro e w5 ⟨rfl, hg⟩
   have hgE := Lib.hid (grown_trans hgO.out hg)
   go_wp2
   go_ret
   exact ⟨rfl, hgE.out⟩
theorem walk (a0 : Int) (td : Option Addr) (tl tc : Nat) (T : List Dst) (w : World) (w0 : (Lit.int .u8 a0).wf = true) (hT : DstsIn w td tl T) (ht : Lib.TabIs Tryd.prog w "math/bits.deBruijn64tab" .u8 tab) :
  Calls Tryd.prog 4 #[.int .u8 a0, .slice td tl tc] w (Go.Ev.WorksIs w) := by
 have b0 := bounds_u8 w0
 obtain ⟨A, rfl⟩ := Int.eq_ofNat_of_zero_le b0.1
 exact walk_at A td tl tc T w (by omega) hT ht
end Go.Proofs.YtgmhojoepcoopaaDoor.dataCounts
