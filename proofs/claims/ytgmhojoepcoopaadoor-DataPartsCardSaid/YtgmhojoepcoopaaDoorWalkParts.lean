import Derived.Test.YtgmhojoepcoopaaDoorPk29
import Derived.Deep.DeepCutAuto
import Derived.StillTailTactics
set_option maxRecDepth 100000
set_option maxHeartbeats 4000000
namespace Go.Proofs.YtgmhojoepcoopaaDoor.dataParts
open Go.RowKit Go.Grommet
set_option linter.unusedVariables false
theorem append_str (a b : List UInt8) : str a ++ str b = str (a ++ b) := by
 have h : (str a ++ str b).data = (str (a ++ b)).data := by
  rw [ByteArray.data_append]
  simp [str]
 exact ByteArray.ext h
theorem add_str (a b c : ByteArray) (h : a ++ b = c) (hs : a.size + b.size ≤ 1000000) (w : World) : (Op.stringOp .add a b).run Tryd.prog w = .ok (.string c) w := by
 rw [run_string_add_sum w a b (by omega), h]
theorem set_self {Ps : List Pr} {k : Nat} {A : Pr} (h : Ps[k]? = some A) : Ps.set k A = Ps := by
 obtain ⟨hl, he⟩ := List.getElem?_eq_some_iff.1 h
 subst he
 exact List.set_getElem_self hl
theorem own_314 {w0 w : World} {A0 A1 A2 A3 A4 : Pr} (h : Grommet.Own w0 w [A0, A1, A2, A3, A4]) : Grommet.Own w0 w [A3, A1, A4] :=
 h.permute (fun j => [3, 1, 4].getD j 0) (fun j hj => by
  have : j = 0 ∨ j = 1 ∨ j = 2 := by simp at hj; omega
  rcases this with rfl | rfl | rfl
  ·exact ⟨by simp, rfl⟩
  ·exact ⟨by simp, rfl⟩
  ·exact ⟨by simp, rfl⟩) (fun i j hi hj hne => by
  have h1 : i = 0 ∨ i = 1 ∨ i = 2 := by simp at hi; omega
  have h2 : j = 0 ∨ j = 1 ∨ j = 2 := by simp at hj; omega
  rcases h1 with rfl | rfl | rfl <;> rcases h2 with rfl | rfl | rfl <;> first | exact absurd rfl hne | decide)
theorem WriteAny {B sz : Nat} {f0 : Nat → Nat} {xs : List Nat} {P : Nat → Nat → Nat} {c : Nat → UInt8} (D : DSt B sz f0 xs [] P c) (a m kv g : Nat) (S : ByteArray) (hS : S.size = m) (hm : m ≤ 128) (ha : a < 768) (w0 w : World) (htab : Lib.TabIs Tryd.prog w0 "math/bits.deBruijn64tab" .u8 tab) (Ps : List Pr) (h : Grommet.Own w0 w Ps) (hv : Ps[kv]? = some (viewP g xs [])) :
  Calls Tryd.prog 11 #[.pointer (some ⟨g, 0, none⟩), gv ((1 : Nat) : Int) ((3 : Nat) : Int) (B : Int), .int .i64 ((2 : Nat) : Int), .int .u64 (a : Int), .string S] w fun e w' => ∃ en : Int, e = .returned (.int .i64 en) ∧ ∃ (sz' : Nat) (f0' : Nat → Nat) (L' : List (Nat × Nat)) (P' : Nat → Nat → Nat) (c' : Nat → UInt8), Hid (DSt B sz' f0' xs L' P' c') ∧ Grommet.Own w0 w' (Ps.set kv (viewP g xs L')) := by
 by_cases hout : 768 < a + m
 ·refine (write_out D.f a m kv g S hS (by omega) (by omega) hout w0 w Ps h hv).mono ?_
  rintro e w1 ⟨rfl, hO⟩
  exact ⟨8, rfl, sz, f0, [], P, c, Lib.hid D, by rw [set_self hv]; exact hO⟩
 ·by_cases hm0 : m = 0
  ·refine (write_nil D.f a m kv g S hS (by omega) (by omega) hout hm0 w0 w Ps h hv).mono ?_
   rintro e w1 ⟨rfl, hO⟩
   exact ⟨0, rfl, sz, f0, [], P, c, Lib.hid D, by rw [set_self hv]; exact hO⟩
  ·by_cases hf : B < cntB xs [] B + beginN P 2 a m
   ·refine (write_full D.f a m kv g S hS (by omega) (by omega) hout (by omega) hf w0 w Ps h hv).mono ?_
    rintro e w1 ⟨rfl, hO⟩
    exact ⟨7, rfl, sz, f0, [], P, c, Lib.hid D, by rw [set_self hv]; exact hO⟩
   ·refine (write_ok D.f a m kv g S hS (by omega) (by omega) hout (by omega) hm (by simp) (by omega) w0 w htab Ps h hv).mono ?_
    rintro e w1 ⟨rfl, L', P', hO, hWI, hl96⟩
    obtain ⟨f0', hD, _⟩ := D.wrote hWI hl96 (by omega) (by omega) (by rw [length_bytesOf, hS])
    exact ⟨0, rfl, _, _, _, _, _, Lib.hid hD, hO⟩
theorem parts_eq (c : Nat → UInt8) (sz a b d : Nat) : fileB c a (min b (sz - a)) ++ fileB c (a + b) (min d (sz - (a + b))) = fileB c a (min (b + d) (sz - a)) := by
 by_cases h : b ≤ sz - a
 ·rw [show min b (sz - a) = b from by omega, show min (b + d) (sz - a) = b + min d (sz - (a + b)) from by omega, fileB_add]
 ·rw [show min d (sz - (a + b)) = 0 from by omega, show min (b + d) (sz - a) = min b (sz - a) from by omega]
  simp [fileB]
theorem walk_at (x0 : Nat) (td : Option Addr) (tl tc : Nat) (T : List Dst) (A1 b1 d1 : Nat) (w : World) (h0 : x0 ≤ 255) (hT : DstsIn w td tl T) (hA1 : A1 < 65536) (hb1 : b1 < 65536) (hd1 : d1 < 65536)
  (ht : Lib.TabIs Tryd.prog w "math/bits.deBruijn64tab" .u8 tab) :
  Calls Tryd.prog 5 #[.int .u8 (x0 : Int), .slice td tl tc, .int .u16 (A1 : Int), .int .u16 (b1 : Int), .int .u16 (d1 : Int)] w (Go.Ev.WorksIs w) := by
 have HTab := Lib.hid ht
 have HT := Lib.hid hT
 have HG := Lib.hid (greatH td tl tc T w hT)
 obtain ⟨B, hB⟩ : ∃ B, 2 + x0 % 60 = B := ⟨_, rfl⟩
 have hB1 : 2 ≤ B := by omega
 have hB2 : B ≤ 61 := by omega
 obtain ⟨N, hN⟩ : ∃ N, 488 + 16 * 3 + 8 * B = N := ⟨_, rfl⟩
 have HFi := Lib.hid (FileH x0 B N h0 hB hN w w [] (Own.nil w))
 have hS0 := DSt.begun hB1 hB2 hN
 obtain ⟨xs0, hxs⟩ : ∃ xs, fileW B N = xs := ⟨_, rfl⟩
 rw [hxs] at HFi hS0
 have HS0 := Lib.hid hS0.1
 have HNe := Lib.hid hN
 have hNl : N ≤ 1024 := by omega
 have hN0 : 536 ≤ N := by omega
 clear hS0 hxs hB h0 hT ht hN
 go_enter Tryd.func5, Tryd.ntmps5
 go_wp2_with fail
 refine HG.out.mono ?_
 rintro e u0 ⟨b, rfl, Hb, rfl⟩
 clear HG
 cases b with
 | true =>
  have HW := Lib.hid (works14_tab u0 HTab.out)
  go_wp2_with fail
  refine HW.out.mono ?_
  rintro e w5 ⟨rfl, hg⟩
  go_wp2
  go_ret
  exact ⟨rfl, hg⟩
 | false =>
 obtain ⟨hl30, hss⟩ := Hb.out rfl
 have Hss := Lib.hid hss
 clear hss Hb
 go_wp2_with fail
 refine HFi.out.mono ?_
 rintro e u1 ⟨q, rfl, hO1⟩
 have hO1 : Grommet.Own u0 u1 [rowP 33 1 (.slice (some ⟨q, 0, none⟩) N N) N (xs0.map wv)] := hO1
 have hO2 := hO1.addBox 26 #[.int .i64 1, .int .i64 3, .int .i64 (B : Int)]
 obtain ⟨G, hG⟩ : ∃ G, u1.heap.size = G := ⟨_, rfl⟩
 obtain ⟨u2, hu2⟩ : ∃ u2, u1.alloc (.cells #[.int .i64 1, .int .i64 3, .int .i64 (B : Int)] 26) = u2 := ⟨_, rfl⟩
 rw [hG, hu2] at hO2
 have hO4 : Grommet.Own u0 u2 [rowP 33 1 (.slice (some ⟨q, 0, none⟩) N N) N (xs0.map wv), boxP G 26 #[.int .i64 1, .int .i64 3, .int .i64 (B : Int)]] := hO2
 obtain ⟨hW, hnil, _⟩ := Own.words hO4 0 rfl HS0.out.f.st.small (by omega)
 have HNew := Lib.hid (NewH (some ⟨q, 0, none⟩) N N xs0 u0 _ _ hO4 hW (by omega) hnil)
 clear HFi hO1 hO2 hO4 hW hnil
 go_upto_region 4 with fail
 try rw [hu2]
 try rw [hG]
 clear hG hu2
 go_wp2_with fail
 refine HNew.out.mono ?_
 rintro e u3 ⟨g0, rfl, hO5⟩
 have hO5 : Hid (Grommet.Own u0 u3 [rowP 33 1 (.slice (some ⟨q, 0, none⟩) N N) N (xs0.map wv), boxP G 26 #[.int .i64 1, .int .i64 3, .int .i64 (B : Int)], viewP g0 xs0 []]) := Lib.hid hO5
 clear HNew
 go_wp2_with fail
 go_loopw [12, 13, 14] (fun sl vv kv wr => ∃ (k sz : Nat) (ad : Option Addr) (cp : Nat) (xs : List Nat) (g : Nat) (P : Nat → Nat → Nat) (f0 : Nat → Nat) (c : Nat → UInt8), k ≤ tl ∧ k ≤ 5 ∧ kv = .int .i64 (k : Int) ∧ vv = .pointer (some ⟨g, 0, none⟩) ∧ sl = .slice ad N cp ∧ Hid (DSt B sz f0 xs [] P c) ∧ Hid (Grommet.Own u0 wr [rowP 33 1 (.slice ad N cp) N (xs.map wv), boxP G 26 #[.int .i64 1, .int .i64 3, .int .i64 (B : Int)], viewP g xs []])) (fun _ _ kv _ => 5 - (intOf kv).toNat)
 case atStart => exact ⟨0, 0, _, _, xs0, g0, _, _, _, Nat.zero_le _, by omega, rfl, rfl, rfl, HS0, hO5⟩
 case round =>
  clear hO5 HS0
  obtain ⟨k, sz, ad, cp, xs, g, P, f0, c, hk, hk5, rfl, rfl, rfl, HS, hO⟩ := hrel
  have k0 : (0 : Int) ≤ (k : Int) := by omega
  have hxl : Hid (xs.length = N) := Lib.hid (by have := HS.out.f.st.len; have := HNe.out; omega)
  by_cases hlt : k < tl ∧ k < 5
  ·as_aux_lemma =>
   have hlt' : (k : Int) < (tl : Int) := by omega
   have hlt5 : (k : Int) < 5 := by omega
   obtain ⟨x, hx⟩ : ∃ x, T[k]? = some x := ⟨T[k]'(by rw [HT.out.1]; exact hlt.1), List.getElem?_eq_getElem _⟩
   obtain ⟨tg, to', htd, _, _, _, _, _, _⟩ := (HT.out.grown hO.out.grown).2.2 k x hx
   subst htd
   obtain ⟨ok0, ok1, ok2, ok3, ok4⟩ := HT.out.2.1 x (List.mem_of_getElem? hx)
   have hs2000 := Hss.out k x hx
   have Hc := Lib.hid (fun wx (hg : u0.grownBy wx none) => ((HT.out.grown hg).at k x hx))
   clear hx
   obtain ⟨xd, xn, xa, xz, xs_, xdr⟩ := x
   dsimp only at ok0 ok1 ok2 ok3 ok4 Hc hs2000
   have b2 := bounds_u64 ok2
   obtain ⟨V, rfl⟩ := Int.eq_ofNat_of_zero_le b2.1
   obtain ⟨a, Ha⟩ : ∃ a, Hid (a = V % 768) := ⟨_, Lib.hid rfl⟩
   have ha : a < 768 := by rw [Ha.out]; omega
   have e5 : (V : Int) % 768 = (a : Int) := by rw [Ha.out]; omega
   have e5' : Int.tmod (V : Int) 768 = (a : Int) := by rw [Int.tmod_eq_emod_of_nonneg (by omega)]; exact e5
   have wa : IntKind.u64.wrap (a : Int) = (a : Int) := IntWalk.u64_in _ ⟨by omega, by omega⟩
   have wk : IntKind.i64.wrap ((k : Int) + 1) = (k : Int) + 1 := IntWalk.i64_in _ ⟨by omega, by omega⟩
   clear ok0 ok1 ok2 ok3 ok4 b2
   by_cases hs1 : 128 < xs_.size
   ·as_aux_lemma =>
    have s1 : (128 : Int) < (xs_.size : Int) := by omega
    obtain ⟨S, hS⟩ : ∃ S, xs_.extract 0 128 = S := ⟨_, rfl⟩
    obtain ⟨m, hm⟩ : ∃ m, 128 = m := ⟨_, rfl⟩
    have hSz : S.size = m := by rw [← hS, ByteArray.size_extract]; omega
    have m128 : m ≤ 128 := by omega
    have s2 : (128 : Int) ≤ (xs_.size : Int) := by omega
    clear hm
    have HWr := Lib.hid (WriteAny HS.out a m 2 g S hSz m128 ha u0 wr.drew HTab.out _ (hO.out.quiet (grown_drew (World.grownBy.refl wr none))) rfl)
    rw [← hS] at HWr
    unfold gv at HWr
    rw [show ((1 : Nat) : Int) = 1 from rfl, show ((3 : Nat) : Int) = 3 from rfl, show ((2 : Nat) : Int) = 2 from rfl] at HWr
    obtain ⟨y0, y1, y2⟩ := geo_cells hO.out (k := 1) rfl
    obtain ⟨y0', y1', y2'⟩ := geo_cells (hO.out.quiet (grown_drew (World.grownBy.refl wr none))) (k := 1) rfl
    obtain ⟨c0, c1, c2, c3, c4, c5⟩ := Hc.out wr hO.out.grown
    obtain ⟨d0, d1, d2, d3, d4, d5⟩ := Hc.out wr.drew (hO.out.quiet (grown_drew (World.grownBy.refl wr none))).grown
    clear hO hS hSz m128
    go_wp2_with fail
    go_still_tail 21, (by kernel_rfl)
    change wpList _ _ _ _ _ wr.drew
    go_wp2_with fail
    refine HWr.out.mono ?_
    rintro e w3 ⟨en, rfl, sz2, f02, L2, P2, c2', HD2, hO3⟩
    have hO3 : Grommet.Own u0 w3 [rowP 33 1 (.slice ad N cp) N (xs.map wv), boxP G 26 #[.int .i64 1, .int .i64 3, .int .i64 (B : Int)], viewP g xs L2] := hO3
    have HFl := Lib.hid (FlatH 2 g xs L2 u0 w3 _ hO3 rfl)
    rw [hxl.out] at HFl
    have HSy := Lib.hid HD2.out.flat
    generalize flatV xs L2 = ys at HFl HSy
    clear HWr y0 y1 y2 y0' y1' y2' c0 c1 c2 c3 c4 c5 d0 d1 d2 d3 d4 d5 hO3 HD2
    go_wp2_with fail
    refine HFl.out.mono ?_
    rintro e w4 ⟨ad2, cp2, rfl, hO4⟩
    have hO4 : Grommet.Own u0 w4 [rowP 33 1 (.slice ad N cp) N (xs.map wv), boxP G 26 #[.int .i64 1, .int .i64 3, .int .i64 (B : Int)], viewP g xs L2, rowP 33 1 (.slice ad2 N cp2) N (ys.map wv)] := hO4
    obtain ⟨hW, hnil, _⟩ := Own.words hO4 3 rfl HSy.out.f.st.small (by omega)
    have HNew := Lib.hid (NewH ad2 N cp2 ys u0 _ _ hO4 hW (by omega) hnil)
    clear HFl hO4 hW hnil
    go_wp2_with fail
    refine HNew.out.mono ?_
    rintro e w5 ⟨g2, rfl, hO5⟩
    have hO5 : Grommet.Own u0 w5 [rowP 33 1 (.slice ad N cp) N (xs.map wv), boxP G 26 #[.int .i64 1, .int .i64 3, .int .i64 (B : Int)], viewP g xs L2, rowP 33 1 (.slice ad2 N cp2) N (ys.map wv), viewP g2 ys []] := hO5
    have hOE : Hid (Grommet.Own u0 w5 [rowP 33 1 (.slice ad2 N cp2) N (ys.map wv), boxP G 26 #[.int .i64 1, .int .i64 3, .int .i64 (B : Int)], viewP g2 ys []]) := Lib.hid (own_314 hO5)
    clear HNew hO5
    go_wp2_with fail
    go_roundw
    case rel => exact ⟨k + 1, sz2, ad2, cp2, ys, g2, P2, f02, c2', by omega, by omega, by go_num, rfl, rfl, HSy, hOE⟩
    case measure => simp [intOf]; omega
   ·as_aux_lemma =>
    have s1 : ¬ (128 : Int) < (xs_.size : Int) := by omega
    obtain ⟨S, hS⟩ : ∃ S, xs_ = S := ⟨_, rfl⟩
    obtain ⟨m, hm⟩ : ∃ m, xs_.size = m := ⟨_, rfl⟩
    have hSz : S.size = m := by rw [← hS]; exact hm
    have m128 : m ≤ 128 := by omega
    clear hm
    have HWr := Lib.hid (WriteAny HS.out a m 2 g S hSz m128 ha u0 wr.drew HTab.out _ (hO.out.quiet (grown_drew (World.grownBy.refl wr none))) rfl)
    rw [← hS] at HWr
    unfold gv at HWr
    rw [show ((1 : Nat) : Int) = 1 from rfl, show ((3 : Nat) : Int) = 3 from rfl, show ((2 : Nat) : Int) = 2 from rfl] at HWr
    obtain ⟨y0, y1, y2⟩ := geo_cells hO.out (k := 1) rfl
    obtain ⟨y0', y1', y2'⟩ := geo_cells (hO.out.quiet (grown_drew (World.grownBy.refl wr none))) (k := 1) rfl
    obtain ⟨c0, c1, c2, c3, c4, c5⟩ := Hc.out wr hO.out.grown
    obtain ⟨d0, d1, d2, d3, d4, d5⟩ := Hc.out wr.drew (hO.out.quiet (grown_drew (World.grownBy.refl wr none))).grown
    clear hO hS hSz m128
    go_wp2_with fail
    go_still_tail 21, (by kernel_rfl)
    refine wpStill_step (fun K hK => ?_)
    go_simp
    simp only [show (if (128 : Int) < (xs_.size : Int) then (128 : Int) else (xs_.size : Int)) = (xs_.size : Int) from if_neg (by omega)]
    rw [if_pos ⟨by omega, Int.le_refl _⟩]
    go_simp
    refine hK _ ?_
    clear hK K
    refine wpStill_nil ?_
    change wpList _ _ _ _ _ wr.drew
    go_wp2_with fail
    refine HWr.out.mono ?_
    rintro e w3 ⟨en, rfl, sz2, f02, L2, P2, c2', HD2, hO3⟩
    have hO3 : Grommet.Own u0 w3 [rowP 33 1 (.slice ad N cp) N (xs.map wv), boxP G 26 #[.int .i64 1, .int .i64 3, .int .i64 (B : Int)], viewP g xs L2] := hO3
    have HFl := Lib.hid (FlatH 2 g xs L2 u0 w3 _ hO3 rfl)
    rw [hxl.out] at HFl
    have HSy := Lib.hid HD2.out.flat
    generalize flatV xs L2 = ys at HFl HSy
    clear HWr y0 y1 y2 y0' y1' y2' c0 c1 c2 c3 c4 c5 d0 d1 d2 d3 d4 d5 hO3 HD2
    go_wp2_with fail
    refine HFl.out.mono ?_
    rintro e w4 ⟨ad2, cp2, rfl, hO4⟩
    have hO4 : Grommet.Own u0 w4 [rowP 33 1 (.slice ad N cp) N (xs.map wv), boxP G 26 #[.int .i64 1, .int .i64 3, .int .i64 (B : Int)], viewP g xs L2, rowP 33 1 (.slice ad2 N cp2) N (ys.map wv)] := hO4
    obtain ⟨hW, hnil, _⟩ := Own.words hO4 3 rfl HSy.out.f.st.small (by omega)
    have HNew := Lib.hid (NewH ad2 N cp2 ys u0 _ _ hO4 hW (by omega) hnil)
    clear HFl hO4 hW hnil
    go_wp2_with fail
    refine HNew.out.mono ?_
    rintro e w5 ⟨g2, rfl, hO5⟩
    have hO5 : Grommet.Own u0 w5 [rowP 33 1 (.slice ad N cp) N (xs.map wv), boxP G 26 #[.int .i64 1, .int .i64 3, .int .i64 (B : Int)], viewP g xs L2, rowP 33 1 (.slice ad2 N cp2) N (ys.map wv), viewP g2 ys []] := hO5
    have hOE : Hid (Grommet.Own u0 w5 [rowP 33 1 (.slice ad2 N cp2) N (ys.map wv), boxP G 26 #[.int .i64 1, .int .i64 3, .int .i64 (B : Int)], viewP g2 ys []]) := Lib.hid (own_314 hO5)
    clear HNew hO5
    go_wp2_with fail
    go_roundw
    case rel => exact ⟨k + 1, sz2, ad2, cp2, ys, g2, P2, f02, c2', by omega, by omega, by go_num, rfl, rfl, HSy, hOE⟩
    case measure => simp [intOf]; omega
  ·as_aux_lemma =>
   have hsz7 := HS.out.f.size_le
   have hF := HS.out.f
   obtain ⟨y0, y1, y2⟩ := geo_cells hO.out (k := 1) rfl
   have HGt := Lib.hid (get_ok0 2 g 1 3 B 2 (488 + 16 * 2) xs [] u0 [rowP 33 1 (.slice ad N cp) N (xs.map wv), boxP G 26 #[.int .i64 1, .int .i64 3, .int .i64 (B : Int)], viewP g xs []] rfl (hF.st.ok (n := 2) rfl) wr [] (by rw [List.append_nil]; exact hO.out))
   rw [List.append_nil, show nodeF xs [] (488 + 16 * 2) 3 = sz from by rw [hF.st.node rfl 3 (by omega), hF.rest 3 (by omega), ← hF.size]] at HGt
   generalize nodeF xs [] (488 + 16 * 2) 0 = k0' at HGt
   generalize nodeF xs [] (488 + 16 * 2) 1 = k1 at HGt
   generalize nodeF xs [] (488 + 16 * 2) 2 = k2 at HGt
   generalize nodeF xs [] (488 + 16 * 2) 4 = k4 at HGt
   generalize nodeF xs [] (488 + 16 * 2) 5 = k5 at HGt
   generalize nodeF xs [] (488 + 16 * 2) 6 = k6 at HGt
   generalize nodeF xs [] (488 + 16 * 2) 7 = k7 at HGt
   generalize nodeF xs [] (488 + 16 * 2) 8 = k8 at HGt
   generalize nodeF xs [] (488 + 16 * 2) 9 = k9 at HGt
   unfold gv nv at HGt
   rw [show ((1 : Nat) : Int) = 1 from rfl, show ((3 : Nat) : Int) = 3 from rfl, show ((2 : Nat) : Int) = 2 from rfl] at HGt
   obtain ⟨AB, hAB⟩ : ∃ AB, A1 + b1 = AB := ⟨_, rfl⟩
   obtain ⟨BD, hBD⟩ : ∃ BD, b1 + d1 = BD := ⟨_, rfl⟩
   obtain ⟨SA, hSA⟩ : ∃ SA, sz + A1 = SA := ⟨_, rfl⟩
   obtain ⟨m1, hm1⟩ : ∃ m, min b1 (sz - A1) = m := ⟨_, rfl⟩
   obtain ⟨m2, hm2⟩ : ∃ m, min d1 (sz - AB) = m := ⟨_, rfl⟩
   obtain ⟨m3, hm3⟩ : ∃ m, min BD (sz - A1) = m := ⟨_, rfl⟩
   have hcat := parts_eq c sz A1 b1 d1
   rw [hAB, hBD, hm1, hm2, hm3] at hcat
   obtain ⟨S1, hS1⟩ : ∃ S, str (fileB c A1 m1) = S := ⟨_, rfl⟩
   obtain ⟨S2, hS2⟩ : ∃ S, str (fileB c AB m2) = S := ⟨_, rfl⟩
   obtain ⟨S3, hS3⟩ : ∃ S, str (fileB c A1 m3) = S := ⟨_, rfl⟩
   have hS12 : S1 ++ S2 = S3 := by rw [← hS1, ← hS2, ← hS3, append_str, hcat]
   have hz1 : S1.size = m1 := by rw [← hS1]; show (fileB c A1 m1).length = m1; exact length_fileB _ _ _
   have hz2 : S2.size = m2 := by rw [← hS2]; show (fileB c AB m2).length = m2; exact length_fileB _ _ _
   have hadd := Lib.hid (fun wx => add_str S1 S2 S3 hS12 (by omega) wx)
   have hbig : ¬ 9223372036854775807 < S1.size + S2.size := by omega
   have hz3 : S3.size = m3 := by rw [← hS3]; show (fileB c A1 m3).length = m3; exact length_fileB _ _ _
   have HR1 := Lib.hid (fun M wx hx => ReadH hF A1 b1 m1 2 g (by omega) (by omega) hm1 u0 wx [rowP 33 1 (.slice ad N cp) N (xs.map wv), boxP G 26 #[.int .i64 1, .int .i64 3, .int .i64 (B : Int)], viewP g xs [], boxP M 45 #[.int .u64 (k0' : Int), .int .u64 (k1 : Int), .int .u64 (k2 : Int), .int .u64 (sz : Int), .int .u64 (k4 : Int), .int .u64 (k5 : Int), .int .u64 (k6 : Int), .int .u64 (k7 : Int), .int .u64 (k8 : Int), .int .u64 (k9 : Int)]] hx rfl)
   have HR2 := Lib.hid (fun M wx hx => ReadH hF AB d1 m2 2 g (by omega) (by omega) hm2 u0 wx [rowP 33 1 (.slice ad N cp) N (xs.map wv), boxP G 26 #[.int .i64 1, .int .i64 3, .int .i64 (B : Int)], viewP g xs [], boxP M 45 #[.int .u64 (k0' : Int), .int .u64 (k1 : Int), .int .u64 (k2 : Int), .int .u64 (sz : Int), .int .u64 (k4 : Int), .int .u64 (k5 : Int), .int .u64 (k6 : Int), .int .u64 (k7 : Int), .int .u64 (k8 : Int), .int .u64 (k9 : Int)]] hx rfl)
   have HR3 := Lib.hid (fun M wx hx => ReadH hF A1 BD m3 2 g (by omega) (by omega) hm3 u0 wx [rowP 33 1 (.slice ad N cp) N (xs.map wv), boxP G 26 #[.int .i64 1, .int .i64 3, .int .i64 (B : Int)], viewP g xs [], boxP M 45 #[.int .u64 (k0' : Int), .int .u64 (k1 : Int), .int .u64 (k2 : Int), .int .u64 (sz : Int), .int .u64 (k4 : Int), .int .u64 (k5 : Int), .int .u64 (k6 : Int), .int .u64 (k7 : Int), .int .u64 (k8 : Int), .int .u64 (k9 : Int)]] hx rfl)
   have HR4 := Lib.hid (fun M wx hx => ReadH hF SA b1 0 2 g (by omega) (by omega) (by omega) u0 wx [rowP 33 1 (.slice ad N cp) N (xs.map wv), boxP G 26 #[.int .i64 1, .int .i64 3, .int .i64 (B : Int)], viewP g xs [], boxP M 45 #[.int .u64 (k0' : Int), .int .u64 (k1 : Int), .int .u64 (k2 : Int), .int .u64 (sz : Int), .int .u64 (k4 : Int), .int .u64 (k5 : Int), .int .u64 (k6 : Int), .int .u64 (k7 : Int), .int .u64 (k8 : Int), .int .u64 (k9 : Int)]] hx rfl)
   have hS4 : str (fileB c SA 0) = ⟨#[]⟩ := rfl
   rw [hS1] at HR1
   rw [hS2] at HR2
   rw [hS3] at HR3
   rw [hS4] at HR4
   unfold gv at HR1 HR2 HR3 HR4
   rw [show ((1 : Nat) : Int) = 1 from rfl, show ((3 : Nat) : Int) = 3 from rfl, show ((2 : Nat) : Int) = 2 from rfl] at HR1
   rw [show ((1 : Nat) : Int) = 1 from rfl, show ((3 : Nat) : Int) = 3 from rfl, show ((2 : Nat) : Int) = 2 from rfl] at HR2
   rw [show ((1 : Nat) : Int) = 1 from rfl, show ((3 : Nat) : Int) = 3 from rfl, show ((2 : Nat) : Int) = 2 from rfl] at HR3
   rw [show ((1 : Nat) : Int) = 1 from rfl, show ((3 : Nat) : Int) = 3 from rfl, show ((2 : Nat) : Int) = 2 from rfl] at HR4
   have w1 : IntKind.u64.wrap (A1 : Int) = (A1 : Int) := IntWalk.u64_in _ ⟨by omega, by omega⟩
   have w2 : IntKind.u64.wrap (b1 : Int) = (b1 : Int) := IntWalk.u64_in _ ⟨by omega, by omega⟩
   have w3 : IntKind.u64.wrap (d1 : Int) = (d1 : Int) := IntWalk.u64_in _ ⟨by omega, by omega⟩
   have w4 : IntKind.u64.wrap ((A1 : Int) + (b1 : Int)) = (AB : Int) := by rw [IntWalk.u64_in _ ⟨by omega, by omega⟩]; omega
   have w5 : IntKind.u64.wrap ((b1 : Int) + (d1 : Int)) = (BD : Int) := by rw [IntWalk.u64_in _ ⟨by omega, by omega⟩]; omega
   have w6 : IntKind.u64.wrap ((sz : Int) + (A1 : Int)) = (SA : Int) := by rw [IntWalk.u64_in _ ⟨by omega, by omega⟩]; omega
   have w7 : IntKind.u64.wrap (m3 : Int) = (m3 : Int) := IntWalk.u64_in _ ⟨by omega, by omega⟩
   obtain ⟨MX, hMX⟩ : ∃ MX, max sz A1 = MX := ⟨_, rfl⟩
   obtain ⟨DF, hDF⟩ : ∃ DF, MX - A1 = DF := ⟨_, rfl⟩
   have w8 : IntKind.u64.wrap ((MX : Int) - (A1 : Int)) = (DF : Int) := by rw [IntWalk.u64_in _ ⟨by omega, by omega⟩]; omega
   have w9 : IntKind.u64.wrap ((A1 : Int) - (A1 : Int)) = 0 := by rw [Int.sub_self]; decide
   have w10 : IntKind.u64.wrap ((sz : Int) - (A1 : Int)) = ((sz : Int) - (A1 : Int)) ∨ sz < A1 := by
    by_cases h : sz < A1
    ·exact .inr h
    ·exact .inl (IntWalk.u64_in _ ⟨by omega, by omega⟩)
   have Hm3 := Lib.hid (And.intro hm3 (And.intro hMX hDF))
   have HO := Lib.hid hO.out
   have HW := Lib.hid (fun wx (hg : u0.grownBy wx none) => works14_tab wx (tab_grown HTab.out hg))
   have HWs := Lib.hid (fun M wx hx => WritesH 2 g xs [] u0 wx [rowP 33 1 (.slice ad N cp) N (xs.map wv), boxP G 26 #[.int .i64 1, .int .i64 3, .int .i64 (B : Int)], viewP g xs [], boxP M 45 #[.int .u64 (k0' : Int), .int .u64 (k1 : Int), .int .u64 (k2 : Int), .int .u64 (sz : Int), .int .u64 (k4 : Int), .int .u64 (k5 : Int), .int .u64 (k6 : Int), .int .u64 (k7 : Int), .int .u64 (k8 : Int), .int .u64 (k9 : Int)]] hx rfl)
   have Hlt := Lib.hid hlt
   clear hz1 hz2 hO hF hAB hBD hSA hm1 hm2 hm3 hcat hS1 hS2 hS3 hS4 hMX hDF hlt w10
   by_cases hk1 : k < tl
   ·as_aux_lemma =>
    have hk2 : (k : Int) < (tl : Int) := by omega
    have hk3 : ¬ (k : Int) < 5 := by have := Hlt.out; omega
    go_wp2_with fail
    refine HGt.out.mono ?_
    rintro e v1 ⟨rfl, hO1⟩
    have hO2 := hO1.addBox 45 #[.int .u64 (k0' : Int), .int .u64 (k1 : Int), .int .u64 (k2 : Int), .int .u64 (sz : Int), .int .u64 (k4 : Int), .int .u64 (k5 : Int), .int .u64 (k6 : Int), .int .u64 (k7 : Int), .int .u64 (k8 : Int), .int .u64 (k9 : Int)]
    obtain ⟨M, hM⟩ : ∃ M, v1.heap.size = M := ⟨_, rfl⟩
    obtain ⟨v2, hv2⟩ : ∃ v2, v1.alloc (.cells #[.int .u64 (k0' : Int), .int .u64 (k1 : Int), .int .u64 (k2 : Int), .int .u64 (sz : Int), .int .u64 (k4 : Int), .int .u64 (k5 : Int), .int .u64 (k6 : Int), .int .u64 (k7 : Int), .int .u64 (k8 : Int), .int .u64 (k9 : Int)] 45) = v2 := ⟨_, rfl⟩
    rw [hM, hv2] at hO2
    have hO2 : Grommet.Own u0 v2 [rowP 33 1 (.slice ad N cp) N (xs.map wv), boxP G 26 #[.int .i64 1, .int .i64 3, .int .i64 (B : Int)], viewP g xs [], boxP M 45 #[.int .u64 (k0' : Int), .int .u64 (k1 : Int), .int .u64 (k2 : Int), .int .u64 (sz : Int), .int .u64 (k4 : Int), .int .u64 (k5 : Int), .int .u64 (k6 : Int), .int .u64 (k7 : Int), .int .u64 (k8 : Int), .int .u64 (k9 : Int)]] := hO2
    have HX1 := Lib.hid (HR1.out M v2 hO2)
    have hb := hO2.box 3 rfl
    have v3 : v2.cell? ⟨M, 3, none⟩ = some (.int .u64 (sz : Int)) := by simp [World.cell?, hb]
    clear HGt y0 y1 y2 hO1 hb
    obtain ⟨y0, y1, y2⟩ := geo_cells hO2 (k := 1) rfl
    clear hO2
    go_upto_region 16 with fail
    try rw [hv2]
    try rw [hM]
    clear hv2 hM v3
    go_wp2_with fail
    refine HX1.out.mono ?_
    rintro e v4 ⟨rfl, hO4⟩
    have HX2 := Lib.hid (HR2.out M v4 hO4)
    clear HX1 y0 y1 y2
    obtain ⟨y0, y1, y2⟩ := geo_cells hO4 (k := 1) rfl
    clear hO4
    go_wp2_with fail
    refine HX2.out.mono ?_
    rintro e v5 ⟨rfl, hO5⟩
    have HX3 := Lib.hid (HR3.out M v5 hO5)
    clear HX2 y0 y1 y2
    obtain ⟨y0, y1, y2⟩ := geo_cells hO5 (k := 1) rfl
    clear hO5
    go_wp2_with fail
    refine HX3.out.mono ?_
    rintro e v6 ⟨rfl, hO6⟩
    have HX4 := Lib.hid (HR4.out M v6 hO6)
    have hb := hO6.box 3 rfl
    have v3 : v6.cell? ⟨M, 3, none⟩ = some (.int .u64 (sz : Int)) := by simp [World.cell?, hb]
    clear HX3 y0 y1 y2 hb
    obtain ⟨y0, y1, y2⟩ := geo_cells hO6 (k := 1) rfl
    clear hO6
    go_wp2_with fail
    refine HX4.out.mono ?_
    rintro e v7 ⟨rfl, hO7⟩
    have HXs := Lib.hid (HWs.out M v7 hO7)
    have hb := hO7.box 3 rfl
    have v3' : v7.cell? ⟨M, 3, none⟩ = some (.int .u64 (sz : Int)) := by simp [World.cell?, hb]
    clear HX4 y0 y1 y2 hb hO7 v3
    have hadd := hadd.out v7
    have q3 : (S3.toList == S3.toList) = true := by simp
    have q4 : ((⟨#[]⟩ : ByteArray).toList == (⟨#[]⟩ : ByteArray).toList) = true := by simp
    have q5 : ((m3 : Int) == (m3 : Int)) = true := by simp
    by_cases hc1 : sz < A1
    ·as_aux_lemma =>
     have c1 : (sz : Int) < (A1 : Int) := by omega
     have c2 : ¬ (A1 : Int) < (sz : Int) := by omega
     obtain rfl : m3 = 0 := by have := Hm3.out; omega
     have c3 : ¬ (BD : Int) < 0 := by omega
     have c4 : max (sz : Int) (A1 : Int) = (A1 : Int) := by omega
     have c5 : min 0 (BD : Int) = 0 := by omega
     go_wp2_with fail
     refine HXs.out.mono ?_
     rintro e v8 ⟨ad8, cp8, rfl, hO8⟩
     have hgO := Lib.hid hO8.grown
     have HWx := Lib.hid (HW.out v8 hO8.grown)
     clear HXs hO8
     go_wp2_with fail
     refine HWx.out.mono ?_
     rintro e v9 ⟨rfl, hg⟩
     have hgE := Lib.hid (grown_trans hgO.out hg)
     go_wp2
     go_ret
     exact ⟨rfl, hgE.out⟩
    ·as_aux_lemma =>
     have c1 : ¬ (sz : Int) < (A1 : Int) := by omega
     have c4 : max (sz : Int) (A1 : Int) = (sz : Int) := by omega
     obtain ⟨df, hdf⟩ : ∃ df, sz - A1 = df := ⟨_, rfl⟩
     have w11 : IntKind.u64.wrap ((sz : Int) - (A1 : Int)) = (df : Int) := by rw [IntWalk.u64_in _ ⟨by omega, by omega⟩]; omega
     have hmm := Hm3.out.1
     rw [hdf] at hmm
     by_cases hc2 : BD < df
     ·as_aux_lemma =>
      obtain rfl : m3 = BD := by omega
      have c3 : (m3 : Int) < (df : Int) := by omega
      have c5 : min (df : Int) (m3 : Int) = (m3 : Int) := by omega
      clear hmm hdf
      go_wp2_with fail
      refine HXs.out.mono ?_
      rintro e v8 ⟨ad8, cp8, rfl, hO8⟩
      have hgO := Lib.hid hO8.grown
      have HWx := Lib.hid (HW.out v8 hO8.grown)
      clear HXs hO8
      go_wp2_with fail
      refine HWx.out.mono ?_
      rintro e v9 ⟨rfl, hg⟩
      have hgE := Lib.hid (grown_trans hgO.out hg)
      go_wp2
      go_ret
      exact ⟨rfl, hgE.out⟩
     ·as_aux_lemma =>
      obtain rfl : m3 = df := by omega
      have c3 : ¬ (BD : Int) < (m3 : Int) := by omega
      have c5 : min (m3 : Int) (BD : Int) = (m3 : Int) := by omega
      clear hmm hdf
      go_wp2_with fail
      refine HXs.out.mono ?_
      rintro e v8 ⟨ad8, cp8, rfl, hO8⟩
      have hgO := Lib.hid hO8.grown
      have HWx := Lib.hid (HW.out v8 hO8.grown)
      clear HXs hO8
      go_wp2_with fail
      refine HWx.out.mono ?_
      rintro e v9 ⟨rfl, hg⟩
      have hgE := Lib.hid (grown_trans hgO.out hg)
      go_wp2
      go_ret
      exact ⟨rfl, hgE.out⟩
   ·as_aux_lemma =>
    have hk2 : ¬ (k : Int) < (tl : Int) := by omega
    go_wp2_with fail
    refine HGt.out.mono ?_
    rintro e v1 ⟨rfl, hO1⟩
    have hO2 := hO1.addBox 45 #[.int .u64 (k0' : Int), .int .u64 (k1 : Int), .int .u64 (k2 : Int), .int .u64 (sz : Int), .int .u64 (k4 : Int), .int .u64 (k5 : Int), .int .u64 (k6 : Int), .int .u64 (k7 : Int), .int .u64 (k8 : Int), .int .u64 (k9 : Int)]
    obtain ⟨M, hM⟩ : ∃ M, v1.heap.size = M := ⟨_, rfl⟩
    obtain ⟨v2, hv2⟩ : ∃ v2, v1.alloc (.cells #[.int .u64 (k0' : Int), .int .u64 (k1 : Int), .int .u64 (k2 : Int), .int .u64 (sz : Int), .int .u64 (k4 : Int), .int .u64 (k5 : Int), .int .u64 (k6 : Int), .int .u64 (k7 : Int), .int .u64 (k8 : Int), .int .u64 (k9 : Int)] 45) = v2 := ⟨_, rfl⟩
    rw [hM, hv2] at hO2
    have hO2 : Grommet.Own u0 v2 [rowP 33 1 (.slice ad N cp) N (xs.map wv), boxP G 26 #[.int .i64 1, .int .i64 3, .int .i64 (B : Int)], viewP g xs [], boxP M 45 #[.int .u64 (k0' : Int), .int .u64 (k1 : Int), .int .u64 (k2 : Int), .int .u64 (sz : Int), .int .u64 (k4 : Int), .int .u64 (k5 : Int), .int .u64 (k6 : Int), .int .u64 (k7 : Int), .int .u64 (k8 : Int), .int .u64 (k9 : Int)]] := hO2
    have HX1 := Lib.hid (HR1.out M v2 hO2)
    have hb := hO2.box 3 rfl
    have v3 : v2.cell? ⟨M, 3, none⟩ = some (.int .u64 (sz : Int)) := by simp [World.cell?, hb]
    clear HGt y0 y1 y2 hO1 hb
    obtain ⟨y0, y1, y2⟩ := geo_cells hO2 (k := 1) rfl
    clear hO2
    go_upto_region 16 with fail
    try rw [hv2]
    try rw [hM]
    clear hv2 hM v3
    go_wp2_with fail
    refine HX1.out.mono ?_
    rintro e v4 ⟨rfl, hO4⟩
    have HX2 := Lib.hid (HR2.out M v4 hO4)
    clear HX1 y0 y1 y2
    obtain ⟨y0, y1, y2⟩ := geo_cells hO4 (k := 1) rfl
    clear hO4
    go_wp2_with fail
    refine HX2.out.mono ?_
    rintro e v5 ⟨rfl, hO5⟩
    have HX3 := Lib.hid (HR3.out M v5 hO5)
    clear HX2 y0 y1 y2
    obtain ⟨y0, y1, y2⟩ := geo_cells hO5 (k := 1) rfl
    clear hO5
    go_wp2_with fail
    refine HX3.out.mono ?_
    rintro e v6 ⟨rfl, hO6⟩
    have HX4 := Lib.hid (HR4.out M v6 hO6)
    have hb := hO6.box 3 rfl
    have v3 : v6.cell? ⟨M, 3, none⟩ = some (.int .u64 (sz : Int)) := by simp [World.cell?, hb]
    clear HX3 y0 y1 y2 hb
    obtain ⟨y0, y1, y2⟩ := geo_cells hO6 (k := 1) rfl
    clear hO6
    go_wp2_with fail
    refine HX4.out.mono ?_
    rintro e v7 ⟨rfl, hO7⟩
    have HXs := Lib.hid (HWs.out M v7 hO7)
    have hb := hO7.box 3 rfl
    have v3' : v7.cell? ⟨M, 3, none⟩ = some (.int .u64 (sz : Int)) := by simp [World.cell?, hb]
    clear HX4 y0 y1 y2 hb hO7 v3
    have hadd := hadd.out v7
    have q3 : (S3.toList == S3.toList) = true := by simp
    have q4 : ((⟨#[]⟩ : ByteArray).toList == (⟨#[]⟩ : ByteArray).toList) = true := by simp
    have q5 : ((m3 : Int) == (m3 : Int)) = true := by simp
    by_cases hc1 : sz < A1
    ·as_aux_lemma =>
     have c1 : (sz : Int) < (A1 : Int) := by omega
     have c2 : ¬ (A1 : Int) < (sz : Int) := by omega
     obtain rfl : m3 = 0 := by have := Hm3.out; omega
     have c3 : ¬ (BD : Int) < 0 := by omega
     have c4 : max (sz : Int) (A1 : Int) = (A1 : Int) := by omega
     have c5 : min 0 (BD : Int) = 0 := by omega
     go_wp2_with fail
     refine HXs.out.mono ?_
     rintro e v8 ⟨ad8, cp8, rfl, hO8⟩
     have hgO := Lib.hid hO8.grown
     have HWx := Lib.hid (HW.out v8 hO8.grown)
     clear HXs hO8
     go_wp2_with fail
     refine HWx.out.mono ?_
     rintro e v9 ⟨rfl, hg⟩
     have hgE := Lib.hid (grown_trans hgO.out hg)
     go_wp2
     go_ret
     exact ⟨rfl, hgE.out⟩
    ·as_aux_lemma =>
     have c1 : ¬ (sz : Int) < (A1 : Int) := by omega
     have c4 : max (sz : Int) (A1 : Int) = (sz : Int) := by omega
     obtain ⟨df, hdf⟩ : ∃ df, sz - A1 = df := ⟨_, rfl⟩
     have w11 : IntKind.u64.wrap ((sz : Int) - (A1 : Int)) = (df : Int) := by rw [IntWalk.u64_in _ ⟨by omega, by omega⟩]; omega
     have hmm := Hm3.out.1
     rw [hdf] at hmm
     by_cases hc2 : BD < df
     ·as_aux_lemma =>
      obtain rfl : m3 = BD := by omega
      have c3 : (m3 : Int) < (df : Int) := by omega
      have c5 : min (df : Int) (m3 : Int) = (m3 : Int) := by omega
      clear hmm hdf
      go_wp2_with fail
      refine HXs.out.mono ?_
      rintro e v8 ⟨ad8, cp8, rfl, hO8⟩
      have hgO := Lib.hid hO8.grown
      have HWx := Lib.hid (HW.out v8 hO8.grown)
      clear HXs hO8
      go_wp2_with fail
      refine HWx.out.mono ?_
      rintro e v9 ⟨rfl, hg⟩
      have hgE := Lib.hid (grown_trans hgO.out hg)
      go_wp2
      go_ret
      exact ⟨rfl, hgE.out⟩
     ·as_aux_lemma =>
      obtain rfl : m3 = df := by omega
      have c3 : ¬ (BD : Int) < (m3 : Int) := by omega
      have c5 : min (m3 : Int) (BD : Int) = (m3 : Int) := by omega
      clear hmm hdf
      go_wp2_with fail
      refine HXs.out.mono ?_
      rintro e v8 ⟨ad8, cp8, rfl, hO8⟩
      have hgO := Lib.hid hO8.grown
      have HWx := Lib.hid (HW.out v8 hO8.grown)
      clear HXs hO8
      go_wp2_with fail
      refine HWx.out.mono ?_
      rintro e v9 ⟨rfl, hg⟩
      have hgE := Lib.hid (grown_trans hgO.out hg)
      go_wp2
      go_ret
      exact ⟨rfl, hgE.out⟩
theorem walk (a0 : Int) (td : Option Addr) (tl tc : Nat) (T : List Dst) (a2 a3 a4 : Int) (w : World) (w0 : (Lit.int .u8 a0).wf = true) (hT : DstsIn w td tl T) (w2 : (Lit.int .u16 a2).wf = true) (w3 : (Lit.int .u16 a3).wf = true) (w4 : (Lit.int .u16 a4).wf = true) (ht : Lib.TabIs Tryd.prog w "math/bits.deBruijn64tab" .u8 tab) :
  Calls Tryd.prog 5 #[.int .u8 a0, .slice td tl tc, .int .u16 a2, .int .u16 a3, .int .u16 a4] w (Go.Ev.WorksIs w) := by
 have b0 := bounds_u8 w0
 have b2 := bounds_u16 w2
 have b3 := bounds_u16 w3
 have b4 := bounds_u16 w4
 obtain ⟨A, rfl⟩ := Int.eq_ofNat_of_zero_le b0.1
 obtain ⟨A1, rfl⟩ := Int.eq_ofNat_of_zero_le b2.1
 obtain ⟨b1, rfl⟩ := Int.eq_ofNat_of_zero_le b3.1
 obtain ⟨d1, rfl⟩ := Int.eq_ofNat_of_zero_le b4.1
 exact walk_at A td tl tc T A1 b1 d1 w (by omega) hT (by omega) (by omega) (by omega) ht
end Go.Proofs.YtgmhojoepcoopaaDoor.dataParts
