import Derived.Test.YtgmhojoepcoopaaDoorPk29
import Derived.Deep.DeepCutAuto
import Derived.Deep.CutBlock
set_option maxRecDepth 100000
set_option maxHeartbeats 3000000
namespace Go.Proofs.YtgmhojoepcoopaaDoor.dataHolds
open Go.RowKit Go.Grommet
set_option linter.unusedVariables false
theorem sol5 {G B g X N cp A : Nat} {ad : Option Addr} {xs : List Nat} {L : List (Nat × Nat)} {c : Nat → UInt8} {D V Z : Nat} {xn : Int} {xs_ : ByteArray} {xdr : Bool} : ∀ Q ∈ [rowP 33 1 (.slice ad N cp) N (xs.map wv), boxP G 26 #[.int .i64 1, .int .i64 3, .int .i64 (B : Int)], boxP A 30 (arrC c), viewP g xs L, boxP X 35 #[.int .u8 (D : Int), .int .i64 xn, .int .u64 (V : Int), .int .u64 (Z : Int), .string xs_, .bool xdr]], Solid Q := by
 intro Q h
 simp only [List.mem_cons, List.not_mem_nil, or_false] at h
 rcases h with rfl | rfl | rfl | rfl | rfl
 ·exact solid_row _ _ _ _ _
 ·exact solid_box _ _ _
 ·exact solid_box _ _ _
 ·exact solid_view _ _ _
 ·exact solid_box _ _ _
theorem own_612 {w0 w : World} {A0 A1 A2 A3 A4 A5 A6 : Pr} (h : Grommet.Own w0 w [A0, A1, A2, A3, A4, A5, A6]) : Grommet.Own w0 w [A6, A1, A2] :=
 h.permute (fun j => [6, 1, 2].getD j 0) (fun j hj => by
  have : j = 0 ∨ j = 1 ∨ j = 2 := by simp at hj; omega
  rcases this with rfl | rfl | rfl
  ·exact ⟨by simp, rfl⟩
  ·exact ⟨by simp, rfl⟩
  ·exact ⟨by simp, rfl⟩) (fun i j hi hj hne => by
  have h1 : i = 0 ∨ i = 1 ∨ i = 2 := by simp at hi; omega
  have h2 : j = 0 ∨ j = 1 ∨ j = 2 := by simp at hj; omega
  rcases h1 with rfl | rfl | rfl <;> rcases h2 with rfl | rfl | rfl <;> first | exact absurd rfl hne | decide)
theorem walk_at (x0 : Nat) (td : Option Addr) (tl tc : Nat) (T : List Dst) (w : World) (h0 : x0 ≤ 255) (hT : DstsIn w td tl T)
  (ht : Lib.TabIs Tryd.prog w "math/bits.deBruijn64tab" .u8 tab) :
  Calls Tryd.prog 3 #[.int .u8 (x0 : Int), .slice td tl tc] w (Go.Ev.WorksIs w) := by
 have HTab := Lib.hid ht
 have HT := Lib.hid hT
 have HG := Lib.hid (greatH td tl tc T w hT)
 obtain ⟨B, hB⟩ : ∃ B, 2 + x0 % 60 = B := ⟨_, rfl⟩
 have hB1 : 2 ≤ B := by omega
 have hB2 : B ≤ 61 := by omega
 obtain ⟨N, hN⟩ : ∃ N, 488 + 16 * 3 + 8 * B = N := ⟨_, rfl⟩
 have HFi := Lib.hid (FileH x0 B N h0 hB hN w w [] (Own.nil w))
 have hS0 := DSt.begun hB1 hB2 hN
 obtain ⟨xs0, hxs⟩ : ∃ xs, fileW B N = xs := ⟨_, rfl⟩
 rw [hxs] at HFi hS0
 have HS0 := Lib.hid hS0.1
 have HNe := Lib.hid hN
 have HWd := Lib.hid (fun wx => Words_any ((1 : Nat) : Int) ((3 : Nat) : Int) (B : Int) wx)
 rw [show wordsV ((1 : Nat) : Int) ((3 : Nat) : Int) (B : Int) = (N : Int) from by rw [words_pos hS0.1.f.st.may]; omega, show ((1 : Nat) : Int) = 1 from rfl, show ((3 : Nat) : Int) = 3 from rfl] at HWd
 unfold gv at HWd
 have hNl : N ≤ 1024 := by omega
 have hN0 : 536 ≤ N := by omega
 clear hS0 hxs hB h0 hT ht hN
 go_enter Tryd.func3, Tryd.ntmps3
 go_wp2_with fail
 refine HG.out.mono ?_
 rintro e u0 ⟨b, rfl, Hb, rfl⟩
 clear HG
 cases b with
 | true =>
  have HW := Lib.hid (works14_tab u0 HTab.out)
  go_wp2_with fail
  refine HW.out.mono ?_
  rintro e w5 ⟨rfl, hg⟩
  go_wp2
  go_ret
  exact ⟨rfl, hg⟩
 | false =>
 obtain ⟨hl30, hss⟩ := Hb.out rfl
 have Hss := Lib.hid hss
 clear hss Hb
 go_wp2_with fail
 refine HFi.out.mono ?_
 rintro e u1 ⟨q, rfl, hO1⟩
 have hO1 : Grommet.Own u0 u1 [rowP 33 1 (.slice (some ⟨q, 0, none⟩) N N) N (xs0.map wv)] := hO1
 have hO2 := hO1.addBox 26 #[.int .i64 1, .int .i64 3, .int .i64 (B : Int)]
 obtain ⟨G, hG⟩ : ∃ G, u1.heap.size = G := ⟨_, rfl⟩
 obtain ⟨u2, hu2⟩ : ∃ u2, u1.alloc (.cells #[.int .i64 1, .int .i64 3, .int .i64 (B : Int)] 26) = u2 := ⟨_, rfl⟩
 rw [hG, hu2] at hO2
 have hO3 := hO2.addBox 30 (Array.replicate 768 (Value.int .u8 0))
 obtain ⟨A, hA⟩ : ∃ A, u2.heap.size = A := ⟨_, rfl⟩
 rw [hA] at hO3
 have hO3 := Lib.hid hO3
 clear HFi hO1 hO2
 go_upto_region 4 with fail
 try rw [hu2]
 try rw [hG]
 go_upto_region 5 with fail
 generalize hW3 : World.alloc _ _ = W3
 have hO4 : Hid (Grommet.Own u0 W3 [rowP 33 1 (.slice (some ⟨q, 0, none⟩) N N) N (xs0.map wv), boxP G 26 #[.int .i64 1, .int .i64 3, .int .i64 (B : Int)], boxP A 30 (arrC (fun _ => 0))]) := Lib.hid (by
  rw [← arrC_none, ← hW3]
  exact hO3.out)
 try rw [hA]
 clear hO3 hW3 hA hG hu2
 go_wp2_with fail
 go_loopw [6, 8, 9] (fun sl zv kv wr => ∃ (k sz : Nat) (ad : Option Addr) (cp : Nat) (xs : List Nat) (P : Nat → Nat → Nat) (f0 : Nat → Nat) (c : Nat → UInt8), k ≤ tl ∧ kv = .int .i64 (k : Int) ∧ zv = .int .i64 (sz : Int) ∧ sl = .slice ad N cp ∧ Hid (DSt B sz f0 xs [] P c) ∧ Hid (Grommet.Own u0 wr [rowP 33 1 (.slice ad N cp) N (xs.map wv), boxP G 26 #[.int .i64 1, .int .i64 3, .int .i64 (B : Int)], boxP A 30 (arrC c)])) (fun _ _ kv _ => tl - (intOf kv).toNat)
 case atStart => exact ⟨0, 0, _, _, xs0, _, _, _, Nat.zero_le _, rfl, rfl, rfl, HS0, hO4⟩
 case round =>
  clear hO4 HS0
  obtain ⟨k, sz, ad, cp, xs, P, f0, c, hk, rfl, rfl, rfl, HS, hO⟩ := hrel
  have k0 : (0 : Int) ≤ (k : Int) := by omega
  by_cases hlt : k < tl
  ·have hlt' : (k : Int) < (tl : Int) := by omega
   obtain ⟨x, hx⟩ : ∃ x, T[k]? = some x := ⟨T[k]'(by rw [HT.out.1]; exact hlt), List.getElem?_eq_getElem _⟩
   obtain ⟨tg, to', htd, _, _, _, _, _, _⟩ := (HT.out.grown hO.out.grown).2.2 k x hx
   subst htd
   obtain ⟨ok0, ok1, ok2, ok3, ok4⟩ := HT.out.2.1 x (List.mem_of_getElem? hx)
   have hs2000 := Hss.out k x hx
   have Hc := Lib.hid (fun wx (hg : u0.grownBy wx none) => ((HT.out.grown hg).at k x hx))
   clear hx
   obtain ⟨xd, xn, xa, xz, xs_, xdr⟩ := x
   dsimp only at ok0 ok1 ok2 ok3 ok4 Hc hs2000
   have b0 := bounds_u8 ok0
   have b2 := bounds_u64 ok2
   have b3 := bounds_u64 ok3
   obtain ⟨D, rfl⟩ := Int.eq_ofNat_of_zero_le b0.1
   obtain ⟨V, rfl⟩ := Int.eq_ofNat_of_zero_le b2.1
   obtain ⟨Z, rfl⟩ := Int.eq_ofNat_of_zero_le b3.1
   obtain ⟨r, Hr⟩ : ∃ r, Hid (r = D % 2) := ⟨_, Lib.hid rfl⟩
   have hr2 : r < 2 := by rw [Hr.out]; omega
   have e4 : (D : Int) % 2 = (r : Int) := by rw [Hr.out]; omega
   have e4' : Int.tmod (D : Int) 2 = (r : Int) := by rw [Int.tmod_eq_emod_of_nonneg (by omega)]; exact e4
   have wr4 : IntKind.u8.wrap (r : Int) = (r : Int) := IntWalk.u8_in _ ⟨by omega, by omega⟩
   obtain ⟨a, Ha⟩ : ∃ a, Hid (a = V % 808) := ⟨_, Lib.hid rfl⟩
   have ha : a < 808 := by rw [Ha.out]; omega
   have e5 : (V : Int) % 808 = (a : Int) := by rw [Ha.out]; omega
   have e5' : Int.tmod (V : Int) 808 = (a : Int) := by rw [Int.tmod_eq_emod_of_nonneg (by omega)]; exact e5
   have wa : IntKind.u64.wrap (a : Int) = (a : Int) := IntWalk.u64_in _ ⟨by omega, by omega⟩
   have wa' : IntKind.i64.wrap (a : Int) = (a : Int) := IntWalk.i64_in _ ⟨by omega, by omega⟩
   have a0 : (0 : Int) ≤ (a : Int) := by omega
   have hxl : Hid (xs.length = N) := Lib.hid (by have := HS.out.f.st.len; have := HNe.out; omega)
   obtain ⟨hW, hnil, _⟩ := Own.words hO.out 0 rfl HS.out.f.st.small (by omega)
   have HNew := Lib.hid (NewH ad N cp xs u0 _ _ hO.out hW (by omega) hnil)
   have hsz7 := HS.out.f.size_le
   have wk : IntKind.i64.wrap ((k : Int) + 1) = (k : Int) + 1 := IntWalk.i64_in _ ⟨by omega, by omega⟩
   clear hO hW hnil ok0 ok1 ok2 ok3 ok4 b0 b2 b3
   go_wp2_with fail
   refine HNew.out.mono ?_
   rintro e w1 ⟨g, rfl, hO1⟩
   have hO1 : Grommet.Own u0 w1 [rowP 33 1 (.slice ad N cp) N (xs.map wv), boxP G 26 #[.int .i64 1, .int .i64 3, .int .i64 (B : Int)], boxP A 30 (arrC c), viewP g xs []] := hO1
   obtain ⟨c0, c1, c2, c3, c4, c5⟩ := Hc.out w1 hO1.grown
   have hO2 := hO1.addBox 35 #[.int .u8 (D : Int), .int .i64 xn, .int .u64 (V : Int), .int .u64 (Z : Int), .string xs_, .bool xdr]
   obtain ⟨X, hX⟩ : ∃ X, w1.heap.size = X := ⟨_, rfl⟩
   obtain ⟨w2, hw2⟩ : ∃ w2, w1.alloc (.cells #[.int .u8 (D : Int), .int .i64 xn, .int .u64 (V : Int), .int .u64 (Z : Int), .string xs_, .bool xdr] 35) = w2 := ⟨_, rfl⟩
   rw [hX, hw2] at hO2
   have hO2 : Hid (Grommet.Own u0 w2 [rowP 33 1 (.slice ad N cp) N (xs.map wv), boxP G 26 #[.int .i64 1, .int .i64 3, .int .i64 (B : Int)], boxP A 30 (arrC c), viewP g xs [], boxP X 35 #[.int .u8 (D : Int), .int .i64 xn, .int .u64 (V : Int), .int .u64 (Z : Int), .string xs_, .bool xdr]]) := Lib.hid hO2
   have hb := hO2.out.box 4 rfl
   have z0 : w2.cell? ⟨X, 0, none⟩ = some (.int .u8 (D : Int)) := by simp [World.cell?, hb]
   have z2 : w2.cell? ⟨X, 2, none⟩ = some (.int .u64 (V : Int)) := by simp [World.cell?, hb]
   have z4 : w2.cell? ⟨X, 4, none⟩ = some (.string xs_) := by simp [World.cell?, hb]
   clear HNew hO1 hb
   go_upto_region 13 with fail
   try rw [hw2]
   try rw [hX]
   clear c0 c1 c2 c3 c4 c5 Hc hX hw2
   go_upto_if 51 with fail
   go_cut [8, 13, 14, 15, 16, 17] (fun zv _ _ _ _ _ wx => ∃ (sz' : Nat) (f0' : Nat → Nat) (L' : List (Nat × Nat)) (P' : Nat → Nat → Nat) (c' : Nat → UInt8), zv = .int .i64 (sz' : Int) ∧ Hid (DSt B sz' f0' xs L' P' c') ∧ Hid (Grommet.Own u0 wx [rowP 33 1 (.slice ad N cp) N (xs.map wv), boxP G 26 #[.int .i64 1, .int .i64 3, .int .i64 (B : Int)], boxP A 30 (arrC c'), viewP g xs L', boxP X 35 #[.int .u8 (D : Int), .int .i64 xn, .int .u64 (V : Int), .int .u64 (Z : Int), .string xs_, .bool xdr]]))
   case first =>
    as_aux_lemma =>
    obtain ⟨y0, y1, y2⟩ := geo_cells hO2.out (k := 1) rfl
    have hr : r = 0 ∨ r = 1 := by omega
    clear hr2 e4 e4' wr4 wk e5 e5'
    rcases hr with hr | hr
    ·have q0 : ((r : Int) == 0) = true := by rw [hr]; rfl
     go_upto_region 15 with fail
     go_cut [13] (fun sv wx => ∃ (S : ByteArray) (m : Nat), sv = .string S ∧ S.size = m ∧ m ≤ 128 ∧ w2 = wx)
     case first =>
      have HO2 := hO2
      clear hO2 z0 z2 y0 y1 y2
      by_cases hs1 : 128 < xs_.size
      ·have s1 : (128 : Int) < (xs_.size : Int) := by omega
       go_wp2_with fail
       go_meet
       case rel => exact ⟨xs_.extract 0 128, 128, rfl, by rw [ByteArray.size_extract]; omega, by omega, rfl⟩
      ·have s1 : ¬ (128 : Int) < (xs_.size : Int) := by omega
       go_wp2_with fail
       go_meet
       case rel => exact ⟨xs_, xs_.size, rfl, rfl, by omega, rfl⟩
     case rest =>
     obtain ⟨S, m, rfl, hSz, m128, rfl⟩ := hcut
     have m0 : (0 : Int) ≤ (m : Int) := by omega
     obtain ⟨E, hE⟩ : ∃ E, a + m = E := ⟨_, rfl⟩
     have wE : IntKind.i64.wrap ((a : Int) + (m : Int)) = (E : Int) := by rw [IntWalk.i64_in _ ⟨by omega, by omega⟩]; omega
     by_cases hout : 768 < E
     ·as_aux_lemma =>
      have HWr := Lib.hid (write_out HS.out.f a m 3 g S hSz (by omega) (by omega) (by omega) u0 w2 _ hO2.out rfl)
      have x1 : (768 : Int) < (E : Int) := by omega
      have HSz := Lib.hid hSz
      unfold gv at HWr
      rw [show ((1 : Nat) : Int) = 1 from rfl, show ((3 : Nat) : Int) = 3 from rfl, show ((2 : Nat) : Int) = 2 from rfl] at HWr
      clear hO2 hE
      go_wp2_with fail
      refine HWr.out.mono ?_
      rintro e w3 ⟨rfl, hO3⟩
      have HWs := Lib.hid (WritesH 3 g xs [] u0 w3 _ hO3 rfl)
      clear HWr y0 y1 y2 z0 z2 z4 hO3
      by_cases hm0 : m = 0
      ·have x2 : ¬ (0 : Int) < (m : Int) := by omega
       clear hm0
       go_wp2_with fail
       go_loopw [15] (fun jv wr => jv = .int .i64 0 ∧ wr = w3) (fun _ _ => 0)
       case atStart => exact ⟨rfl, rfl⟩
       case round =>
        obtain ⟨rfl, rfl⟩ := hrel
        go_wp2_with fail
        refine HWs.out.mono ?_
        rintro e w4 ⟨ad4, cp4, rfl, hO4⟩
        have hO4 := Lib.hid hO4.less
        clear HWs
        go_wp2_with fail
        go_meet
        case rel => exact ⟨sz, f0, [], P, c, rfl, HS, hO4⟩
      ·have x2 : (0 : Int) < (m : Int) := by omega
       go_wp2_with fail
       go_loopw [15] (fun jv wr => jv = .int .i64 0 ∧ wr = w3) (fun _ _ => 0)
       case atStart => exact ⟨rfl, rfl⟩
       case round =>
        obtain ⟨rfl, rfl⟩ := hrel
        go_wp2_with fail
        refine HWs.out.mono ?_
        rintro e w4 ⟨ad4, cp4, rfl, hO4⟩
        have hO4 := Lib.hid hO4.less
        clear HWs
        go_wp2_with fail
        go_meet
        case rel => exact ⟨sz, f0, [], P, c, rfl, HS, hO4⟩
     ·have x1 : ¬ (768 : Int) < (E : Int) := by omega
      by_cases hm0 : m = 0
      ·as_aux_lemma =>
       have HWr := Lib.hid (write_nil HS.out.f a m 3 g S hSz (by omega) (by omega) (by omega) hm0 u0 w2 _ hO2.out rfl)
       unfold gv at HWr
       rw [show ((1 : Nat) : Int) = 1 from rfl, show ((3 : Nat) : Int) = 3 from rfl, show ((2 : Nat) : Int) = 2 from rfl] at HWr
       clear hO2 hE
       go_wp2_with fail
       refine HWr.out.mono ?_
       rintro e w3 ⟨rfl, hO3⟩
       have hO3 := Lib.hid hO3
       have x2 : ¬ (0 : Int) < (m : Int) := by omega
       clear hm0 HWr y0 y1 y2 z0 z2 z4
       go_wp2_with fail
       go_loopw [15] (fun jv wr => jv = .int .i64 0 ∧ wr = w3) (fun _ _ => 0)
       case atStart => exact ⟨rfl, rfl⟩
       case round =>
        obtain ⟨rfl, rfl⟩ := hrel
        go_wp2_with fail
        go_meet
        case rel => exact ⟨sz, f0, [], P, c, rfl, HS, hO3⟩
      ·by_cases hf : B < cntB xs [] B + beginN P 2 a m
       ·as_aux_lemma =>
        have HWr := Lib.hid (write_full HS.out.f a m 3 g S hSz (by omega) (by omega) (by omega) (by omega) hf u0 w2 _ hO2.out rfl)
        have HSz := Lib.hid hSz
        unfold gv at HWr
        rw [show ((1 : Nat) : Int) = 1 from rfl, show ((3 : Nat) : Int) = 3 from rfl, show ((2 : Nat) : Int) = 2 from rfl] at HWr
        clear hO2 hE
        go_wp2_with fail
        refine HWr.out.mono ?_
        rintro e w3 ⟨rfl, hO3⟩
        have HWs := Lib.hid (WritesH 3 g xs [] u0 w3 _ hO3 rfl)
        clear HWr y0 y1 y2 z0 z2 z4 hO3
        have x2 : (0 : Int) < (m : Int) := by omega
        go_wp2_with fail
        go_loopw [15] (fun jv wr => jv = .int .i64 0 ∧ wr = w3) (fun _ _ => 0)
        case atStart => exact ⟨rfl, rfl⟩
        case round =>
         obtain ⟨rfl, rfl⟩ := hrel
         go_wp2_with fail
         refine HWs.out.mono ?_
         rintro e w4 ⟨ad4, cp4, rfl, hO4⟩
         have hO4 := Lib.hid hO4.less
         clear HWs
         go_wp2_with fail
         go_meet
         case rel => exact ⟨sz, f0, [], P, c, rfl, HS, hO4⟩
       ·as_aux_lemma =>
        have HWr := Lib.hid (write_ok HS.out.f a m 3 g S hSz (by omega) (by omega) (by omega) (by omega) m128 (by simp) (by omega) u0 w2 HTab.out _ hO2.out rfl)
        unfold gv at HWr
        rw [show ((1 : Nat) : Int) = 1 from rfl, show ((3 : Nat) : Int) = 3 from rfl, show ((2 : Nat) : Int) = 2 from rfl] at HWr
        clear hO2
        go_wp2_with fail
        refine HWr.out.mono ?_
        rintro e w3 ⟨rfl, L', P', hO3, hWI, hl96⟩
        rw [hE] at hO3 hWI
        obtain ⟨f0', hD, _⟩ := HS.out.wrote hWI hl96 (by omega) (by omega) (by rw [length_bytesOf, hSz]; exact hE)
        unfold Sized at hO3
        obtain ⟨L2, hL2⟩ : ∃ L2, (if sz < E then setL xs L' ((491 + 16 * 2 : Nat) : Int) E else L') = L2 := ⟨_, rfl⟩
        rw [hL2] at hO3 hD
        have hO3 : Hid (Grommet.Own u0 w3 [rowP 33 1 (.slice ad N cp) N (xs.map wv), boxP G 26 #[.int .i64 1, .int .i64 3, .int .i64 (B : Int)], boxP A 30 (arrC c), viewP g xs L2, boxP X 35 #[.int .u8 (D : Int), .int .i64 xn, .int .u64 (V : Int), .int .u64 (Z : Int), .string xs_, .bool xdr]]) := Lib.hid hO3
        have HD := Lib.hid hD
        have hE' := Lib.hid hE
        clear HWr y0 y1 y2 z0 z2 z4 hD hWI hl96 hL2 hE
        go_wp2_with fail
        go_loopw [15] (fun jv wr => ∃ j : Nat, j ≤ m ∧ jv = .int .i64 (j : Int) ∧ Hid (Grommet.Own u0 wr [rowP 33 1 (.slice ad N cp) N (xs.map wv), boxP G 26 #[.int .i64 1, .int .i64 3, .int .i64 (B : Int)], boxP A 30 (arrC (fun i => if a ≤ i ∧ i < a + j then (bytesOf S).getD (i - a) 0 else c i)), viewP g xs L2, boxP X 35 #[.int .u8 (D : Int), .int .i64 xn, .int .u64 (V : Int), .int .u64 (Z : Int), .string xs_, .bool xdr]])) (fun jv _ => m - (intOf jv).toNat)
        case atStart => exact ⟨0, Nat.zero_le _, rfl, Lib.hid (by rw [arrC_congr (c' := c) (fun i _ => by rw [if_neg (by omega)])]; exact hO3.out)⟩
        case round =>
         clear hO3
         obtain ⟨j, hj, rfl, hO⟩ := hrel
         have j0 : (0 : Int) ≤ (j : Int) := by omega
         by_cases hlj : j < m
         ·as_aux_lemma =>
          have hlj' : (j : Int) < (m : Int) := by omega
          obtain ⟨q, hq⟩ : ∃ q, a + j = q := ⟨_, rfl⟩
          have hq7 : q < 768 := by have := hE'.out; omega
          have wq : IntKind.i64.wrap ((a : Int) + (j : Int)) = (q : Int) := by rw [IntWalk.i64_in _ ⟨by omega, by omega⟩]; omega
          have q0' : (0 : Int) ≤ (q : Int) := by omega
          have q7 : (q : Int) < 768 := by omega
          obtain ⟨bt, hbt⟩ : ∃ bt, (bytesOf S).getD j 0 = bt := ⟨_, rfl⟩
          have hix := idx_str S m j hSz hlj wr bt hbt
          obtain ⟨f1, f2, hO5⟩ := arr_put hO.out 2 rfl q hq7 bt
          obtain ⟨w5, hw5⟩ : ∃ w5, wr.setCell ⟨A, q, none⟩ (bv bt) = w5 := ⟨_, rfl⟩
          rw [hw5] at hO5
          have wj : IntKind.i64.wrap ((j : Int) + 1) = (j : Int) + 1 := IntWalk.i64_in _ ⟨by omega, by omega⟩
          have hO5 : Hid (Grommet.Own u0 w5 [rowP 33 1 (.slice ad N cp) N (xs.map wv), boxP G 26 #[.int .i64 1, .int .i64 3, .int .i64 (B : Int)], boxP A 30 (arrC (fun i => if a ≤ i ∧ i < a + (j + 1) then (bytesOf S).getD (i - a) 0 else c i)), viewP g xs L2, boxP X 35 #[.int .u8 (D : Int), .int .i64 xn, .int .u64 (V : Int), .int .u64 (Z : Int), .string xs_, .bool xdr]]) := Lib.hid (by
           rw [arrC_congr (c' := fun i => if i = q then bt else (fun i => if a ≤ i ∧ i < a + j then (bytesOf S).getD (i - a) 0 else c i) i) (fun i _ => by
            show (if a ≤ i ∧ i < a + (j + 1) then (bytesOf S).getD (i - a) 0 else c i) = if i = q then bt else if a ≤ i ∧ i < a + j then (bytesOf S).getD (i - a) 0 else c i
            by_cases e : i = q
            ·rw [if_pos e, if_pos (by omega), ← hbt]; congr 1; omega
            ·rw [if_neg e]
             by_cases e2 : a ≤ i ∧ i < a + j
             ·rw [if_pos e2, if_pos (by omega)]
             ·rw [if_neg e2, if_neg (by omega)])]
           exact hO5)
          have HSz := Lib.hid hSz
          unfold bv at hw5
          clear hO hq hbt
          go_wp2_with fail
          try rw [hw5]
          go_roundw
          case rel => exact ⟨j + 1, by omega, by go_num, hO5⟩
          case measure => simp [intOf]; omega
         ·as_aux_lemma =>
          obtain rfl : j = m := by omega
          have hlj' : ¬ (j : Int) < (j : Int) := by omega
          have x2 : (0 : Int) < (j : Int) := by omega
          rw [hE'.out] at hO
          by_cases hs : sz < E
          ·have s1 : (sz : Int) < (E : Int) := by omega
           have s2 : max (sz : Int) (E : Int) = (E : Int) := by omega
           rw [show max sz E = E from by omega] at HD
           go_wp2_with fail
           go_meet
           case rel => exact ⟨E, f0', L2, P', _, rfl, HD, hO⟩
          ·have s1 : ¬ (sz : Int) < (E : Int) := by omega
           have s2 : max (sz : Int) (E : Int) = (sz : Int) := by omega
           rw [show max sz E = sz from by omega] at HD
           go_wp2_with fail
           go_meet
           case rel => exact ⟨sz, f0', L2, P', _, rfl, HD, hO⟩
    ·have q0 : ((r : Int) == 0) = false := by rw [hr]; rfl
     by_cases hout : 768 < a
     ·as_aux_lemma =>
      have HRs := Lib.hid (Resize_out HS.out.f a 3 g (by omega) hout u0 w2 _ hO2.out rfl)
      unfold gv at HRs
      rw [show ((1 : Nat) : Int) = 1 from rfl, show ((3 : Nat) : Int) = 3 from rfl, show ((2 : Nat) : Int) = 2 from rfl] at HRs
      have x1 : ¬ (a : Int) ≤ 768 := by omega
      clear hO2
      go_wp2_with fail
      refine HRs.out.mono ?_
      rintro e w3 ⟨rfl, hO3⟩
      have hO3 := Lib.hid hO3
      clear HRs y0 y1 y2 z0 z2 z4
      go_wp2_with fail
      go_meet
      case rel => exact ⟨sz, f0, [], P, c, rfl, HS, hO3⟩
     ·as_aux_lemma =>
      have HRs := Lib.hid (Resize_in HS.out.f a 3 g (by omega) (by omega) (by simp) HS.out.z HS.out.b u0 w2 _ sol5 hO2.out rfl)
      unfold gv at HRs
      rw [show ((1 : Nat) : Int) = 1 from rfl, show ((3 : Nat) : Int) = 3 from rfl, show ((2 : Nat) : Int) = 2 from rfl] at HRs
      have x1 : (a : Int) ≤ 768 := by omega
      clear hO2
      go_wp2_with fail
      refine HRs.out.mono ?_
      rintro e w3 ⟨rfl, L', P', f0', hO3, hR⟩
      have hO3 : Hid (Grommet.Own u0 w3 [rowP 33 1 (.slice ad N cp) N (xs.map wv), boxP G 26 #[.int .i64 1, .int .i64 3, .int .i64 (B : Int)], boxP A 30 (arrC c), viewP g xs L', boxP X 35 #[.int .u8 (D : Int), .int .i64 xn, .int .u64 (V : Int), .int .u64 (Z : Int), .string xs_, .bool xdr]]) := Lib.hid hO3
      have HR := Lib.hid (DSt.resized hR)
      clear HRs y0 y1 y2 z0 z2 z4 hR
      go_wp2_with fail
      go_loopw [17] (fun jv wr => ∃ j : Nat, a ≤ j ∧ (j ≤ sz ∨ j = a) ∧ jv = .int .i64 (j : Int) ∧ Hid (Grommet.Own u0 wr [rowP 33 1 (.slice ad N cp) N (xs.map wv), boxP G 26 #[.int .i64 1, .int .i64 3, .int .i64 (B : Int)], boxP A 30 (arrC (fun i => if a ≤ i ∧ i < j then 0 else c i)), viewP g xs L', boxP X 35 #[.int .u8 (D : Int), .int .i64 xn, .int .u64 (V : Int), .int .u64 (Z : Int), .string xs_, .bool xdr]])) (fun jv _ => sz - (intOf jv).toNat)
      case atStart => exact ⟨a, Nat.le_refl _, .inr rfl, rfl, Lib.hid (by rw [arrC_congr (c' := c) (fun i _ => by rw [if_neg (by omega)])]; exact hO3.out)⟩
      case round =>
       clear hO3
       obtain ⟨j, hja, hjs, rfl, hO⟩ := hrel
       have j0 : (0 : Int) ≤ (j : Int) := by omega
       by_cases hlj : j < sz
       ·have hlj' : (j : Int) < (sz : Int) := by omega
        have hj7 : (j : Int) < 768 := by omega
        obtain ⟨f1, f2, hO5⟩ := arr_put hO.out 2 rfl j (by omega) 0
        rw [show bv 0 = .int .u8 0 from rfl] at hO5
        obtain ⟨w5, hw5⟩ : ∃ w5, wr.setCell ⟨A, j, none⟩ (.int .u8 0) = w5 := ⟨_, rfl⟩
        rw [hw5] at hO5
        have wj : IntKind.i64.wrap ((j : Int) + 1) = (j : Int) + 1 := IntWalk.i64_in _ ⟨by omega, by omega⟩
        have hO5 : Hid (Grommet.Own u0 w5 [rowP 33 1 (.slice ad N cp) N (xs.map wv), boxP G 26 #[.int .i64 1, .int .i64 3, .int .i64 (B : Int)], boxP A 30 (arrC (fun i => if a ≤ i ∧ i < j + 1 then 0 else c i)), viewP g xs L', boxP X 35 #[.int .u8 (D : Int), .int .i64 xn, .int .u64 (V : Int), .int .u64 (Z : Int), .string xs_, .bool xdr]]) := Lib.hid (by
         rw [arrC_congr (c' := fun i => if i = j then 0 else (fun i => if a ≤ i ∧ i < j then 0 else c i) i) (fun i _ => by
          show (if a ≤ i ∧ i < j + 1 then (0 : UInt8) else c i) = if i = j then 0 else if a ≤ i ∧ i < j then 0 else c i
          by_cases e : i = j
          ·rw [if_pos e, if_pos (by omega)]
          ·rw [if_neg e]
           by_cases e2 : a ≤ i ∧ i < j
           ·rw [if_pos e2, if_pos (by omega)]
           ·rw [if_neg e2, if_neg (by omega)])]
         exact hO5)
        clear hO hjs
        go_wp2_with fail
        try rw [hw5]
        go_roundw
        case rel => exact ⟨j + 1, by omega, by omega, by go_num, hO5⟩
        case measure => simp [intOf]; omega
       ·have hlj' : ¬ (j : Int) < (sz : Int) := by omega
        have hO5 : Hid (Grommet.Own u0 wr [rowP 33 1 (.slice ad N cp) N (xs.map wv), boxP G 26 #[.int .i64 1, .int .i64 3, .int .i64 (B : Int)], boxP A 30 (arrC (fun i => if i < a then c i else 0)), viewP g xs L', boxP X 35 #[.int .u8 (D : Int), .int .i64 xn, .int .u64 (V : Int), .int .u64 (Z : Int), .string xs_, .bool xdr]]) := Lib.hid (by
         rw [arrC_congr (c' := (fun i => if a ≤ i ∧ i < j then 0 else c i)) (fun i hi => by
          show (if i < a then c i else (0 : UInt8)) = if a ≤ i ∧ i < j then 0 else c i
          by_cases e : i < a
          ·rw [if_pos e, if_neg (by omega)]
          ·rw [if_neg e]
           by_cases e2 : i < j
           ·rw [if_pos (by omega)]
           ·rw [if_neg (by omega)]
            exact (HS.out.z i (by omega) hi).symm)]
         exact hO.out)
        clear hO
        go_wp2_with fail
        go_meet
        case rel => exact ⟨a, f0', L', P', _, rfl, HR, hO5⟩
   case rest =>
   as_aux_lemma =>
   clear hO2 HS z0 z2 z4 e4 e4' wr4 e5 e5' wa wa' a0
   obtain ⟨sz', f0', L', P', c', rfl, HS', hO⟩ := hcut
   obtain ⟨y0, y1, y2⟩ := geo_cells hO.out (k := 1) rfl
   have hsz8 := HS'.out.f.size_le
   have HRd := Lib.hid (ReadH HS'.out.f 0 9223372036854775808 sz' 3 g (by omega) (by decide) (by omega) u0 _ _ hO.out rfl)
   obtain ⟨S1, hS1⟩ : ∃ S1, str (fileB c' 0 sz') = S1 := ⟨_, rfl⟩
   rw [hS1] at HRd
   unfold gv at HRd
   rw [show ((1 : Nat) : Int) = 1 from rfl, show ((3 : Nat) : Int) = 3 from rfl, show ((2 : Nat) : Int) = 2 from rfl, show ((0 : Nat) : Int) = 0 from rfl, show ((9223372036854775808 : Nat) : Int) = 9223372036854775808 from rfl] at HRd
   have HGt := Lib.hid (get_ok0 3 g 1 3 B 2 (488 + 16 * 2) xs L' u0 [rowP 33 1 (.slice ad N cp) N (xs.map wv), boxP G 26 #[.int .i64 1, .int .i64 3, .int .i64 (B : Int)], boxP A 30 (arrC c'), viewP g xs L', boxP X 35 #[.int .u8 (D : Int), .int .i64 xn, .int .u64 (V : Int), .int .u64 (Z : Int), .string xs_, .bool xdr]] rfl (HS'.out.f.st.ok (n := 2) rfl))
   rw [show nodeF xs L' (488 + 16 * 2) 3 = sz' from by rw [HS'.out.f.st.node rfl 3 (by omega), HS'.out.f.rest 3 (by omega), ← HS'.out.f.size]] at HGt
   generalize nodeF xs L' (488 + 16 * 2) 0 = k0' at HGt
   generalize nodeF xs L' (488 + 16 * 2) 1 = k1 at HGt
   generalize nodeF xs L' (488 + 16 * 2) 2 = k2 at HGt
   generalize nodeF xs L' (488 + 16 * 2) 4 = k4 at HGt
   generalize nodeF xs L' (488 + 16 * 2) 5 = k5 at HGt
   generalize nodeF xs L' (488 + 16 * 2) 6 = k6 at HGt
   generalize nodeF xs L' (488 + 16 * 2) 7 = k7 at HGt
   generalize nodeF xs L' (488 + 16 * 2) 8 = k8 at HGt
   generalize nodeF xs L' (488 + 16 * 2) 9 = k9 at HGt
   unfold gv nv at HGt
   rw [show ((1 : Nat) : Int) = 1 from rfl, show ((3 : Nat) : Int) = 3 from rfl, show ((2 : Nat) : Int) = 2 from rfl] at HGt
   have wz : IntKind.u64.wrap (sz' : Int) = (sz' : Int) := IntWalk.u64_in _ ⟨by omega, by omega⟩
   have z8 : (0 : Int) ≤ (sz' : Int) := by omega
   have z9 : (sz' : Int) ≤ 768 := by omega
   have qs : (S1.toList == S1.toList) = true := by simp
   clear hO
   go_wp2_with fail
   refine HRd.out.mono ?_
   rintro e w3 ⟨rfl, hO3⟩
   have HGx := Lib.hid (HGt.out w3 [] (by rw [List.append_nil]; exact hO3))
   rw [List.append_nil] at HGx
   clear HRd HGt y0 y1 y2
   obtain ⟨y0, y1, y2⟩ := geo_cells hO3 (k := 1) rfl
   clear hO3
   go_wp2_with fail
   refine HGx.out.mono ?_
   rintro e w4 ⟨rfl, hO4⟩
   have hO5 := hO4.addBox 45 #[.int .u64 (k0' : Int), .int .u64 (k1 : Int), .int .u64 (k2 : Int), .int .u64 (sz' : Int), .int .u64 (k4 : Int), .int .u64 (k5 : Int), .int .u64 (k6 : Int), .int .u64 (k7 : Int), .int .u64 (k8 : Int), .int .u64 (k9 : Int)]
   obtain ⟨M, hM⟩ : ∃ M, w4.heap.size = M := ⟨_, rfl⟩
   obtain ⟨w5, hw5⟩ : ∃ w5, w4.alloc (.cells #[.int .u64 (k0' : Int), .int .u64 (k1 : Int), .int .u64 (k2 : Int), .int .u64 (sz' : Int), .int .u64 (k4 : Int), .int .u64 (k5 : Int), .int .u64 (k6 : Int), .int .u64 (k7 : Int), .int .u64 (k8 : Int), .int .u64 (k9 : Int)] 45) = w5 := ⟨_, rfl⟩
   rw [hM, hw5] at hO5
   have hO5 : Grommet.Own u0 w5 [rowP 33 1 (.slice ad N cp) N (xs.map wv), boxP G 26 #[.int .i64 1, .int .i64 3, .int .i64 (B : Int)], boxP A 30 (arrC c'), viewP g xs L', boxP X 35 #[.int .u8 (D : Int), .int .i64 xn, .int .u64 (V : Int), .int .u64 (Z : Int), .string xs_, .bool xdr], boxP M 45 #[.int .u64 (k0' : Int), .int .u64 (k1 : Int), .int .u64 (k2 : Int), .int .u64 (sz' : Int), .int .u64 (k4 : Int), .int .u64 (k5 : Int), .int .u64 (k6 : Int), .int .u64 (k7 : Int), .int .u64 (k8 : Int), .int .u64 (k9 : Int)]] := hO5
   have hb := hO5.box 5 rfl
   have v3 : w5.cell? ⟨M, 3, none⟩ = some (.int .u64 (sz' : Int)) := by simp [World.cell?, hb]
   clear HGx y0 y1 y2 hO4 hb
   obtain ⟨y0, y1, y2⟩ := geo_cells hO5 (k := 1) rfl
   have hat := arr_at hO5 2 rfl sz' (by omega)
   have hcv := conv_at (P := Tryd.prog) (w := w5) 48 9 5 Tryd.underlying48 Tryd.underlying5 Tryd.underlying9 (cap := 768) hat (length_fileB c' 0 _) (fun e => by cases e)
   rw [hS1] at hcv
   have HFl := Lib.hid (FlatH 3 g xs L' u0 w5 _ hO5 rfl)
   rw [hxl.out] at HFl
   have HSy := Lib.hid HS'.out.flat
   generalize flatV xs L' = ys at HFl HSy
   have z4' : ((N : Int) != (N : Int)) = false := by simp
   clear hat hO5 hS1
   go_upto_region 38 with fail
   try rw [hw5]
   try rw [hM]
   clear hw5 hM
   go_wp2_with fail
   refine HFl.out.mono ?_
   rintro e w6 ⟨ad2, cp2, rfl, hO6⟩
   have hO6 : Grommet.Own u0 w6 [rowP 33 1 (.slice ad N cp) N (xs.map wv), boxP G 26 #[.int .i64 1, .int .i64 3, .int .i64 (B : Int)], boxP A 30 (arrC c'), viewP g xs L', boxP X 35 #[.int .u8 (D : Int), .int .i64 xn, .int .u64 (V : Int), .int .u64 (Z : Int), .string xs_, .bool xdr], boxP M 45 #[.int .u64 (k0' : Int), .int .u64 (k1 : Int), .int .u64 (k2 : Int), .int .u64 (sz' : Int), .int .u64 (k4 : Int), .int .u64 (k5 : Int), .int .u64 (k6 : Int), .int .u64 (k7 : Int), .int .u64 (k8 : Int), .int .u64 (k9 : Int)], rowP 33 1 (.slice ad2 N cp2) N (ys.map wv)] := hO6
   clear HFl y0 y1 y2
   obtain ⟨y0, y1, y2⟩ := geo_cells hO6 (k := 1) rfl
   have hO6 := Lib.hid hO6
   go_wp2_with fail
   refine (HWd.out _).mono ?_
   rintro e w7 ⟨rfl, hg7⟩
   have hOE : Hid (Grommet.Own u0 w7 [rowP 33 1 (.slice ad2 N cp2) N (ys.map wv), boxP G 26 #[.int .i64 1, .int .i64 3, .int .i64 (B : Int)], boxP A 30 (arrC c')]) := Lib.hid (own_612 (hO6.out.quiet hg7))
   clear hO6 hg7 y0 y1 y2
   go_wp2
   go_roundw
   case rel => exact ⟨k + 1, sz', ad2, cp2, ys, P', f0', c', by omega, by go_num, rfl, rfl, HSy, hOE⟩
   case measure => simp [intOf]; omega
  ·obtain rfl : tl = k := by omega
   have hlt' : ¬ (tl : Int) < (tl : Int) := by omega
   have HW := Lib.hid (works14_tab wr (tab_grown HTab.out hO.out.grown))
   have hgO := Lib.hid hO.out.grown
   clear hO HS
   go_wp2_with fail
   refine HW.out.mono ?_
   rintro e w5 ⟨rfl, hg⟩
   have hgE := Lib.hid (grown_trans hgO.out hg)
   go_wp2
   go_ret
   exact ⟨rfl, hgE.out⟩
theorem walk (a0 : Int) (td : Option Addr) (tl tc : Nat) (T : List Dst) (w : World) (w0 : (Lit.int .u8 a0).wf = true) (hT : DstsIn w td tl T) (ht : Lib.TabIs Tryd.prog w "math/bits.deBruijn64tab" .u8 tab) :
  Calls Tryd.prog 3 #[.int .u8 a0, .slice td tl tc] w (Go.Ev.WorksIs w) := by
 have b0 := bounds_u8 w0
 obtain ⟨A, rfl⟩ := Int.eq_ofNat_of_zero_le b0.1
 exact walk_at A td tl tc T w (by omega) hT ht
end Go.Proofs.YtgmhojoepcoopaaDoor.dataHolds
