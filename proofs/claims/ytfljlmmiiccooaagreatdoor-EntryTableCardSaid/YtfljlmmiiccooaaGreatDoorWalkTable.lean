import Derived.Test.YtfljlmmiiccooaaGreatDoorPk34
import Derived.Test.YtfljlmmiiccooaaGreatDoorPk35
import Derived.Test.YtfljlmmiiccooaaGreatDoorWorks
import Derived.Deep.DeepCutAuto
import Derived.Deep.CutBlock
import Derived.Deep.QuietTactic
import Derived.BigQuiet
set_option maxRecDepth 100000
set_option maxHeartbeats 8000000
namespace Go.Proofs.YtfljlmmiiccooaaGreatDoor.entryTable
open Go.RowKit Go.Grommet
set_option linter.unusedVariables false
theorem sol6 {G B N cp g X n ncp mcp m : Nat} {ad nad mad : Option Addr} {s : ByteArray} {xs : List Nat} {L : List (Nat × Nat)} {T : List (ByteArray × Nat)} : ∀ Q ∈ [boxP G 23 #[.int .i64 1, .int .i64 21, .int .i64 (B : Int)], rowP 72 1 (.slice ad N cp) N (xs.map wv), strP nad n ncp T, nodP mad n mcp T, viewP g xs L, boxP X 37 #[.string s, .int .i64 (m : Int)]], Solid Q := by
 intro Q h
 simp only [List.mem_cons, List.not_mem_nil, or_false] at h
 rcases h with rfl | rfl | rfl | rfl | rfl | rfl
 ·exact solid_box _ _ _
 ·exact solid_row _ _ _ _ _
 ·exact solid_row _ _ _ _ _
 ·exact solid_row _ _ _ _ _
 ·exact solid_view _ _ _
 ·exact solid_box _ _ _
theorem own_pick {w0 w : World} {A0 A1 A2 A3 A4 A5 A6 : Pr} (h : Grommet.Own w0 w [A0, A1, A2, A3, A4, A5, A6]) : Grommet.Own w0 w [A0, A6, A2, A3] :=
 h.permute (fun j => [0, 6, 2, 3].getD j 0) (fun j hj => by
  have : j = 0 ∨ j = 1 ∨ j = 2 ∨ j = 3 := by simp at hj; omega
  rcases this with rfl | rfl | rfl | rfl <;> exact ⟨by simp, rfl⟩) (fun i j hi hj hne => by
  have h1 : i = 0 ∨ i = 1 ∨ i = 2 ∨ i = 3 := by simp at hi; omega
  have h2 : j = 0 ∨ j = 1 ∨ j = 2 ∨ j = 3 := by simp at hj; omega
  rcases h1 with rfl | rfl | rfl | rfl <;> rcases h2 with rfl | rfl | rfl | rfl <;> first | exact absurd rfl hne | decide)
theorem own_cut {w0 w : World} {A0 A1 A2 A3 A4 A5 A6 A7 : Pr} (h : Grommet.Own w0 w [A0, A1, A2, A3, A4, A5, A6, A7]) : Grommet.Own w0 w [A0, A1, A6, A7, A4, A5] :=
 h.permute (fun j => [0, 1, 6, 7, 4, 5].getD j 0) (fun j hj => by
  have : j = 0 ∨ j = 1 ∨ j = 2 ∨ j = 3 ∨ j = 4 ∨ j = 5 := by simp at hj; omega
  rcases this with rfl | rfl | rfl | rfl | rfl | rfl <;> exact ⟨by simp, rfl⟩) (fun i j hi hj hne => by
  have h1 : i = 0 ∨ i = 1 ∨ i = 2 ∨ i = 3 ∨ i = 4 ∨ i = 5 := by simp at hi; omega
  have h2 : j = 0 ∨ j = 1 ∨ j = 2 ∨ j = 3 ∨ j = 4 ∨ j = 5 := by simp at hj; omega
  rcases h1 with rfl | rfl | rfl | rfl | rfl | rfl <;> rcases h2 with rfl | rfl | rfl | rfl | rfl | rfl <;> first | exact absurd rfl hne | decide)
structure CS (G B b j : Nat) (s : ByteArray) (w : World) : Prop where
 geo : w.cell? ⟨G, 0, none⟩ = some (.int .i64 1) ∧ w.cell? ⟨G, 1, none⟩ = some (.int .i64 21) ∧ w.cell? ⟨G, 2, none⟩ = some (.int .i64 (B : Int))
 nm : w.cell? ⟨b, j, none⟩ = some (.string s)
theorem box_add {w0 w : World} {Qs : List Pr} (h : Grommet.Own w0 w (Qs ++ [])) : Grommet.Own w0 (w.alloc (.cells #[.string ⟨#[]⟩, .int .i64 0] 37)) (Qs ++ [boxP w.heap.size 37 #[.string ⟨#[]⟩, .int .i64 0]]) := by
 rw [List.append_nil] at h
 exact h.addBox _ _
theorem box_add2 {w0 w : World} {Qs : List Pr} (h : Grommet.Own w0 w (Qs ++ [])) (s : ByteArray) (m : Int) : Grommet.Own w0 (w.alloc (.cells #[.string s, .int .i64 m] 37)) (Qs ++ [boxP w.heap.size 37 #[.string s, .int .i64 m]]) := by
 rw [List.append_nil] at h
 exact h.addBox _ _
def EnR (L : List (Nat × Nat)) (en : Int) (ok : Bool) : Prop := en ≠ 0 → L = [] ∧ ((en == 13) = !ok)
theorem toList_ne {a b : ByteArray} (h : a ≠ b) : (a.toList == b.toList) = false := by
 rw [← str_bytesOf a, ← str_bytesOf b, toList_str, toList_str]
 cases e : (bytesOf a == bytesOf b) with
 | false => rfl
 | true => exact absurd (bytes_inj (eq_of_beq e)) h
theorem walk_at (x0 : Nat) (td : Option Addr) (tl tc : Nat) (S : List Tst) (w : World) (h0 : x0 ≤ 255) (hT : TstsIn w td tl S)
  (ht : Lib.TabIs Tryz.prog w "math/bits.deBruijn64tab" .u8 tab) :
  Calls Tryz.prog 4 #[.int .u8 (x0 : Int), .slice td tl tc] w (Go.Ev.WorksIs w) := by
 have HTab := Lib.hid ht
 have HT := Lib.hid hT
 have HG := Lib.hid (greatH td tl tc S w hT)
 obtain ⟨I, hI⟩ : ∃ I, 2 + 19 % 20 = I := ⟨_, rfl⟩
 obtain ⟨B, hB⟩ : ∃ B, 2 + x0 % 60 = B := ⟨_, rfl⟩
 have HSm := Lib.hid (fun wx => Small_any 19 x0 wx (by omega) (by omega))
 rw [hI, hB, show ((19 : Nat) : Int) = 19 from rfl, show ((1 : Nat) : Int) = 1 from rfl] at HSm
 unfold gv at HSm
 obtain rfl : I = 21 := by omega
 have hB1 : 2 ≤ B := by omega
 have hB2 : B ≤ 61 := by omega
 obtain ⟨N, hN⟩ : ∃ N, 488 + 16 * 21 + 8 * B = N := ⟨_, rfl⟩
 obtain ⟨xs0, hxs⟩ : ∃ xs, fmtL 1 21 B (264 + 208 * 1) N = xs := ⟨_, rfl⟩
 have hS0 := DS.begun (I := 21) (B := B) (N := N) (by omega) (by omega) hB1 hB2 hN
 rw [hxs] at hS0
 have hmay := hS0.e.st.may
 have HS0 := Lib.hid (show DT B _ xs0 [] [] 0 from ⟨⟨_, _, hS0, Tb.none⟩, rfl⟩)
 have HF := Lib.hid (fun wx Ps hx => RFormatH 1 21 B N xs0 w wx Ps hx hmay (by omega) hxs)
 have HWd := Lib.hid (fun wx => Words_any ((1 : Nat) : Int) ((21 : Nat) : Int) (B : Int) wx)
 rw [show wordsV ((1 : Nat) : Int) ((21 : Nat) : Int) (B : Int) = (N : Int) from by rw [words_pos hmay]; omega, show ((1 : Nat) : Int) = 1 from rfl, show ((21 : Nat) : Int) = 21 from rfl] at HWd
 rw [show ((1 : Nat) : Int) = 1 from rfl, show ((21 : Nat) : Int) = 21 from rfl] at HF
 rw [show ((21 : Nat) : Int) = 21 from rfl] at HSm
 unfold gv at HWd HF
 have HNe := Lib.hid hN
 have hNl : N ≤ 1400 := by omega
 clear hS0 hxs hB h0 hT ht hN hI hmay
 go_enter Tryz.func4, Tryz.ntmps4
 go_wp2_with fail
 refine HG.out.mono ?_
 rintro e u0 ⟨b, rfl, Hb, hu⟩
 obtain rfl := hu.symm
 clear HG
 cases b with
 | true =>
  have HW := Lib.hid (entryNames.works_tab w HTab.out)
  go_wp2_with fail
  refine HW.out.mono ?_
  rintro e w5 ⟨rfl, hg⟩
  go_wp2
  go_ret
  exact ⟨rfl, hg⟩
 | false =>
 obtain ⟨hl40, hss⟩ := Hb.out rfl
 have Hss := Lib.hid hss
 clear hss Hb
 go_wp2_with fail
 refine (HSm.out _).mono ?_
 rintro e u1 ⟨rfl, hg1⟩
 have hO1 := ((Own.nil w).quiet hg1).addBox 23 #[.int .i64 1, .int .i64 21, .int .i64 (B : Int)]
 obtain ⟨G, hG⟩ : ∃ G, u1.heap.size = G := ⟨_, rfl⟩
 obtain ⟨u2, hu2⟩ : ∃ u2, u1.alloc (.cells #[.int .i64 1, .int .i64 21, .int .i64 (B : Int)] 23) = u2 := ⟨_, rfl⟩
 rw [hG, hu2] at hO1
 have hO1 : Grommet.Own w u2 [boxP G 23 #[.int .i64 1, .int .i64 21, .int .i64 (B : Int)]] := hO1
 obtain ⟨y0, y1, y2⟩ := geo_cells hO1 (k := 0) rfl
 have HFx := Lib.hid (HF.out u2 _ hO1)
 clear HSm hg1 hO1 HF
 go_wp2_with fail
 all_goals (try rw [hu2]); (try rw [hG])
 go_wp2_with fail
 refine HFx.out.mono ?_
 rintro e u3 ⟨q, rfl, hO2⟩
 have hO3 : Hid (Grommet.Own w u3 [boxP G 23 #[.int .i64 1, .int .i64 21, .int .i64 (B : Int)], rowP 72 1 (.slice (some ⟨q, 0, none⟩) N N) N (xs0.map wv), strP none 0 0 [], nodP none 0 0 []]) := Lib.hid ((hO2.nilRow 9 1).nilRow 3 1)
 clear HFx y0 y1 y2 hu2 hG hO2
 go_wp2_with fail
 go_loopw [6, 7, 8, 9] (fun sl nl ml kv wr => ∃ (k n : Nat) (ad : Option Addr) (cp : Nat) (nad : Option Addr) (ncp : Nat) (mad : Option Addr) (mcp : Nat) (xs : List Nat) (f0 : Nat → Nat) (T : List (ByteArray × Nat)), k ≤ tl ∧ kv = .int .i64 (k : Int) ∧ sl = .slice ad N cp ∧ nl = .slice nad n ncp ∧ ml = .slice mad n mcp ∧ Hid (DT B f0 xs [] T n) ∧ Hid (Grommet.Own w wr [boxP G 23 #[.int .i64 1, .int .i64 21, .int .i64 (B : Int)], rowP 72 1 (.slice ad N cp) N (xs.map wv), strP nad n ncp T, nodP mad n mcp T])) (fun _ _ _ kv _ => tl - (intOf kv).toNat)
 case atStart => exact ⟨0, 0, _, _, _, _, _, _, xs0, _, _, Nat.zero_le _, rfl, rfl, rfl, rfl, HS0, hO3⟩
 case round =>
  clear hO3 HS0
  obtain ⟨k, n, ad, cp, nad, ncp, mad, mcp, xs, f0, T, hk, rfl, rfl, rfl, rfl, HS, hO⟩ := hrel
  have k0 : (0 : Int) ≤ (k : Int) := by omega
  by_cases hlt : k < tl
  ·have hlt' : (k : Int) < (tl : Int) := by omega
   obtain ⟨x, hx⟩ : ∃ x, S[k]? = some x := ⟨S[k]'(by rw [HT.out.1]; exact hlt), List.getElem?_eq_getElem _⟩
   obtain ⟨tg, to', htd, _, _, _, _, _⟩ := (HT.out.grown hO.out.grown).2.2 k x hx
   subst htd
   obtain ⟨ok0, ok1, ok2, ok3⟩ := HT.out.2.1 x (List.mem_of_getElem? hx)
   have hs500 := Hss.out k x hx
   have Hc := Lib.hid (fun wx (hg : w.grownBy wx none) => ((HT.out.grown hg).at k x hx))
   clear hx
   obtain ⟨xd, xn, s, xi, xr⟩ := x
   dsimp only at ok0 ok1 ok2 ok3 Hc hs500
   have b0 := bounds_u8 ok0
   have b2 := bounds_i64 ok2
   obtain ⟨D, rfl⟩ := Int.eq_ofNat_of_zero_le b0.1
   obtain ⟨r, Hr⟩ : ∃ r, Hid (r = D % 4) := ⟨_, Lib.hid rfl⟩
   have hr4 : r < 4 := by rw [Hr.out]; omega
   have e4 : (D : Int) % 4 = (r : Int) := by rw [Hr.out]; omega
   have e4' : Int.tmod (D : Int) 4 = (r : Int) := by rw [Int.tmod_eq_emod_of_nonneg (by omega)]; exact e4
   have wr4 : IntKind.u8.wrap (r : Int) = (r : Int) := IntWalk.u8_in _ ⟨by omega, by omega⟩
   obtain ⟨V, hV⟩ : ∃ V : Nat, max xi 0 = (V : Int) := ⟨(max xi 0).toNat, by omega⟩
   obtain ⟨v, hv⟩ : ∃ v : Nat, V % 20 = v := ⟨_, rfl⟩
   obtain ⟨m, hm⟩ : ∃ m : Nat, 1 + v = m := ⟨_, rfl⟩
   have e5 : (V : Int) % 20 = (v : Int) := by omega
   have e5' : Int.tmod (V : Int) 20 = (v : Int) := by rw [Int.tmod_eq_emod_of_nonneg (by omega)]; exact e5
   have wv5 : IntKind.i64.wrap (v : Int) = (v : Int) := IntWalk.i64_in _ ⟨by omega, by omega⟩
   have wm : IntKind.i64.wrap (1 + (v : Int)) = (m : Int) := by rw [IntWalk.i64_in _ ⟨by omega, by omega⟩]; omega
   have wm' : (1 : Int) + (v : Int) = (m : Int) := by omega
   have hm1 : 1 ≤ m := by omega
   have hm2 : m < 21 := by omega
   have hxl : Hid (xs.length = N) := Lib.hid (by have := HS.out.small.2; have := HNe.out; omega)
   obtain ⟨hW, hnil, _⟩ := Own.words hO.out 1 rfl HS.out.small.1 (by omega)
   have HNew := Lib.hid (NewH ad N cp xs w _ _ hO.out hW (by omega) hnil)
   have hn12 := HS.out.le
   have wk : IntKind.i64.wrap ((k : Int) + 1) = (k : Int) + 1 := IntWalk.i64_in _ ⟨by omega, by omega⟩
   obtain ⟨ok, hok⟩ : ∃ ok, okName s = ok := ⟨_, rfl⟩
   have HM := Lib.hid (fun wx => EMay_any s wx)
   rw [hok] at HM
   have Hok := Lib.hid hok
   clear hO hW hnil ok0 ok1 ok2 ok3 b0 b2 hok hm hv
   go_wp2_with fail
   refine HNew.out.mono ?_
   rintro e w1 ⟨g, rfl, hO1⟩
   have hO1 : Grommet.Own w w1 [boxP G 23 #[.int .i64 1, .int .i64 21, .int .i64 (B : Int)], rowP 72 1 (.slice ad N cp) N (xs.map wv), strP nad n ncp T, nodP mad n mcp T, viewP g xs []] := hO1
   obtain ⟨c0, c1, c2, c3, c4⟩ := Hc.out w1 hO1.grown
   have hO2 := hO1.addBox 37 #[.string s, .int .i64 xi]
   obtain ⟨X, hX⟩ : ∃ X, w1.heap.size = X := ⟨_, rfl⟩
   obtain ⟨w2, hw2⟩ : ∃ w2, w1.alloc (.cells #[.string s, .int .i64 xi] 37) = w2 := ⟨_, rfl⟩
   rw [hX, hw2] at hO2
   have hO2 : Grommet.Own w w2 [boxP G 23 #[.int .i64 1, .int .i64 21, .int .i64 (B : Int)], rowP 72 1 (.slice ad N cp) N (xs.map wv), strP nad n ncp T, nodP mad n mcp T, viewP g xs [], boxP X 37 #[.string s, .int .i64 xi]] := hO2
   obtain ⟨z0, z1, z2, z3⟩ := ebox_cells hO2 (k := 5) rfl
   obtain ⟨y0, y1, y2⟩ := geo_cells hO2 (k := 0) rfl
   have hO3 := hO2.putBox 5 rfl 1 (.int .i64 (m : Int))
   obtain ⟨w3, hw3⟩ : ∃ w3, w2.setCell ⟨X, 1, none⟩ (.int .i64 (m : Int)) = w3 := ⟨_, rfl⟩
   rw [hw3] at hO3
   have hO3 : Hid (Grommet.Own w w3 [boxP G 23 #[.int .i64 1, .int .i64 21, .int .i64 (B : Int)], rowP 72 1 (.slice ad N cp) N (xs.map wv), strP nad n ncp T, nodP mad n mcp T, viewP g xs [], boxP X 37 #[.string s, .int .i64 (m : Int)]]) := Lib.hid hO3
   clear HNew hO1 hO2
   go_upto_region 14 with fail
   try rw [hw2]
   try rw [hX]
   go_upto_region 15 with fail
   try rw [hw3]
   obtain ⟨c0, c1, c2, c3, c4⟩ := Hc.out w3 hO3.out.grown
   clear y0 y1 y2 z0 z1 z2 z3 hX hw2 hw3
   go_wp2_with fail
   go_loopw [12, 13] (fun av jv wr => ∃ (j : Nat) (a : Int), j ≤ n ∧ jv = .int .i64 (j : Int) ∧ av = .int .i64 a ∧ Hid (DLs T s j a) ∧ Hid (Grommet.Own w wr [boxP G 23 #[.int .i64 1, .int .i64 21, .int .i64 (B : Int)], rowP 72 1 (.slice ad N cp) N (xs.map wv), strP nad n ncp T, nodP mad n mcp T, viewP g xs [], boxP X 37 #[.string s, .int .i64 (m : Int)]])) (fun _ jv _ => n - (intOf jv).toNat)
   case atStart => exact ⟨0, -1, Nat.zero_le _, rfl, rfl, Lib.hid (DLs.none T s), hO3⟩
   case round =>
    clear hO3 c0 c1 c2 c3 c4
    obtain ⟨j, a, hj, rfl, rfl, HD, hO⟩ := hrel
    have j0 : (0 : Int) ≤ (j : Int) := by omega
    by_cases hlj : j < n
    ·as_aux_lemma =>
     have hlj' : (j : Int) < (n : Int) := by omega
     have wj : IntKind.i64.wrap ((j : Int) + 1) = (j : Int) + 1 := IntWalk.i64_in _ ⟨by omega, by omega⟩
     obtain ⟨p, hp⟩ : ∃ p, T[j]? = some p := ⟨T[j]'(by rw [HS.out.len]; exact hlj), List.getElem?_eq_getElem _⟩
     obtain ⟨b, hb, q0, _, _⟩ := Own.cell hO.out 2 rfl j (.string p.1) (strs_get hp)
     subst hb
     obtain ⟨z0, z1, z2, z3⟩ := ebox_cells hO.out (k := 5) rfl
     have Hp := Lib.hid hp
     obtain ⟨s1, hs1⟩ : ∃ s1, p.1 = s1 := ⟨_, rfl⟩
     rw [hs1] at q0
     have Hs1 := Lib.hid hs1
     have hOE := Lib.hid (fun nq => hO.out.quiet (grown_drewN wr nq none))
     clear hp hs1 hO
     by_cases he : s1 = s
     ·subst he
      have HDn := Lib.hid (DLs.yes Hp.out Hs1.out)
      have qs : (s1.toList == s1.toList) = true := by simp
      go_wp2_with fail
      go_quiet (fail)
      go_wp2
      go_roundw
      case rel => exact ⟨j + 1, j, by omega, by go_num, rfl, HDn, Lib.hid (hOE.out _)⟩
      case measure => simp [intOf]; omega
     ·have HDn := Lib.hid (HD.out.next Hp.out (by rw [Hs1.out]; exact he))
      have qs : (s1.toList == s.toList) = false := toList_ne he
      go_wp2_with fail
      go_quiet (fail)
      go_wp2
      go_roundw
      case rel => exact ⟨j + 1, a, by omega, by go_num, rfl, HDn, Lib.hid (hOE.out _)⟩
      case measure => simp [intOf]; omega
    ·obtain rfl : n = j := by omega
     have hlj' : ¬ (n : Int) < (n : Int) := by omega
     have HDL := Lib.hid (HD.out.done HS.out.len)
     obtain ⟨z0, z1, z2, z3⟩ := ebox_cells hO.out (k := 5) rfl
     obtain ⟨c0, c1, c2, c3, c4⟩ := Hc.out wr hO.out.grown
     clear HD j0 hj hlj hlj' Hc HT
     go_wp2_with fail
     refine (HM.out _).mono ?_
     rintro e w4 ⟨rfl, hw4⟩
     obtain rfl := hw4.symm
     clear HM
     go_upto_block 4 with fail
     clear c0 c1 c2 c3 c4 z0 z1 z2 z3 e4 e4' wr4 hV e5 e5' wv5 wm wm'
     go_cut [7, 8, 15, 16, 17, 18] from 79 to 213 (fun nl ml ev _ _ _ wx => ∃ (n2 : Nat) (nad2 : Option Addr) (ncp2 : Nat) (mad2 : Option Addr) (mcp2 : Nat) (L' : List (Nat × Nat)) (T2 : List (ByteArray × Nat)) (en : Int), nl = .slice nad2 n2 ncp2 ∧ ml = .slice mad2 n2 mcp2 ∧ ev = .int .i64 en ∧ Hid (DT B f0 xs L' T2 n2) ∧ Hid (EnR L' en ok) ∧ Hid (Grommet.Own w wx [boxP G 23 #[.int .i64 1, .int .i64 21, .int .i64 (B : Int)], rowP 72 1 (.slice ad N cp) N (xs.map wv), strP nad2 n2 ncp2 T2, nodP mad2 n2 mcp2 T2, viewP g xs L', boxP X 37 #[.string s, .int .i64 (m : Int)]]))
     case first =>
      as_aux_lemma =>
      clear HWd hk k0 hlt hlt' wk
      have hr : r = 0 ∨ r = 1 ∨ r = 2 ∨ r = 3 := by omega
      clear hr4
      rcases hr with hr | hr | hr | hr
      ·as_aux_lemma =>
       have q0 : ((r : Int) == 0) = true := by rw [hr]; rfl
       clear hr
       rcases HDL.out with ⟨rfl, hno⟩ | ⟨i, p, rfl, hp, he⟩
       ·as_aux_lemma =>
        have HX := Lib.hid (FindNot HS.out s hno (by omega) 4 g w _ _ hO.out sol6 rfl)
        rw [show ((1 : Nat) : Int) = 1 from rfl, show ((21 : Nat) : Int) = 21 from rfl] at HX
        unfold gv at HX
        obtain ⟨y0, y1, y2⟩ := geo_cells hO.out (k := 0) rfl
        obtain ⟨z0, z1, _, _⟩ := ebox_cells hO.out (k := 5) rfl
        clear hno hO
        go_wp2_with fail
        refine HX.out.mono ?_
        rintro e w5 ⟨en, hen, hen2, rfl, hO5⟩
        rw [Hok.out] at hen2
        obtain ⟨Y, hY⟩ : ∃ Y, w5.heap.size = Y := ⟨_, rfl⟩
        have hbY := heap_alloc_new w5 (.cells #[.string ⟨#[]⟩, .int .i64 0] 37)
        have hO6 := hO5.quiet (World.grownBy_alloc w5 (.cells #[.string ⟨#[]⟩, .int .i64 0] 37) none)
        obtain ⟨w6, hw6⟩ : ∃ w6, w5.alloc (.cells #[.string ⟨#[]⟩, .int .i64 0] 37) = w6 := ⟨_, rfl⟩
        rw [hw6] at hO6 hbY
        rw [hY] at hbY
        have v0 : w6.cell? ⟨Y, 0, none⟩ = some (.string ⟨#[]⟩) := by simp [World.cell?, hbY]
        have v1 : w6.cell? ⟨Y, 1, none⟩ = some (.int .i64 0) := by simp [World.cell?, hbY]
        have Hw6 := Lib.hid hw6
        have HY := Lib.hid hY
        clear hw6 hY
        have hOE := Lib.hid (fun nq => hO6.quiet (grown_drewN w6 nq none))
        have Hen : Hid (EnR [] en ok) := Lib.hid (fun _ => ⟨rfl, hen2⟩)
        have e1 : (en == 0) = false := by simpa using hen
        obtain ⟨y0', y1', y2'⟩ := geo_cells hO6 (k := 0) rfl
        obtain ⟨z0', z1', _, _⟩ := ebox_cells hO6 (k := 5) rfl
        clear HX hO5 hO6 hbY y0 y1 y2 z0 z1 hen hen2
        go_upto_region 32 with fail
        try rw [HY.out]
        try rw [Hw6.out]
        go_wp2_with fail
        go_quiet (fail)
        go_wp2
        go_meet
        case rel => exact ⟨n, nad, ncp, mad, mcp, [], T, en, rfl, rfl, rfl, HS, Hen, Lib.hid (hOE.out _)⟩
       ·as_aux_lemma =>
        have hil : i < n := by have := (List.getElem?_eq_some_iff.1 hp).1; have := HS.out.len; omega
        have i0 : (0 : Int) ≤ (i : Int) := by omega
        have hil' : (i : Int) < (n : Int) := by omega
        have HX := Lib.hid (FindHas HS.out hp (by rw [he]; omega) 4 g w _ _ hO.out sol6 rfl)
        rw [he] at HX
        rw [show ((1 : Nat) : Int) = 1 from rfl, show ((21 : Nat) : Int) = 21 from rfl] at HX
        unfold gv at HX
        obtain ⟨y0, y1, y2⟩ := geo_cells hO.out (k := 0) rfl
        obtain ⟨z0, z1, _, _⟩ := ebox_cells hO.out (k := 5) rfl
        have Hp := Lib.hid hp
        obtain ⟨mi, hmi⟩ : ∃ mi, p.2 = mi := ⟨_, rfl⟩
        rw [hmi] at HX
        have Hmi := Lib.hid hmi
        clear hp he hO hmi
        go_wp2_with fail
        refine HX.out.mono ?_
        rintro e w5 ⟨kk, hk12, rfl, hO5⟩
        obtain ⟨Y, hY⟩ : ∃ Y, w5.heap.size = Y := ⟨_, rfl⟩
        have hbY := heap_alloc_new w5 (.cells #[.string s, .int .i64 (mi : Int)] 37)
        have hO6 := hO5.quiet (World.grownBy_alloc w5 (.cells #[.string s, .int .i64 (mi : Int)] 37) none)
        obtain ⟨w6, hw6⟩ : ∃ w6, w5.alloc (.cells #[.string s, .int .i64 (mi : Int)] 37) = w6 := ⟨_, rfl⟩
        rw [hw6] at hO6 hbY
        rw [hY] at hbY
        have v0 : w6.cell? ⟨Y, 0, none⟩ = some (.string s) := by simp [World.cell?, hbY]
        have v1 : w6.cell? ⟨Y, 1, none⟩ = some (.int .i64 (mi : Int)) := by simp [World.cell?, hbY]
        have Hw6 := Lib.hid hw6
        have HY := Lib.hid hY
        clear hw6 hY
        have hOE := Lib.hid (fun nq => hO6.quiet (grown_drewN w6 nq none))
        have Hen : Hid (EnR [] 0 ok) := Lib.hid (fun h => absurd rfl h)
        obtain ⟨y0', y1', y2'⟩ := geo_cells hO6 (k := 0) rfl
        obtain ⟨z0', z1', _, _⟩ := ebox_cells hO6 (k := 5) rfl
        obtain ⟨b, hb, q1, _, _⟩ := Own.cell hO6 3 rfl i (.int .i64 (p.2 : Int)) (nods_get Hp.out)
        rw [Hmi.out] at q1
        subst hb
        have qs : (s.toList != s.toList) = false := by simp
        have qm : ((mi : Int) != (mi : Int)) = false := by simp
        have qge : decide ((0 : Int) ≤ (i : Int)) = true := by simp
        clear HX hO5 hO6 hbY y0 y1 y2 z0 z1 hk12
        go_upto_region 32 with fail
        try rw [HY.out]
        try rw [Hw6.out]
        go_wp2_with fail
        go_quiet (fail)
        go_wp2
        go_meet
        case rel => exact ⟨n, _, ncp, _, mcp, [], T, 0, rfl, rfl, rfl, HS, Hen, Lib.hid (hOE.out _)⟩
      ·as_aux_lemma =>
       have q0 : ((r : Int) == 0) = false := by rw [hr]; rfl
       have q1 : ((r : Int) == 1) = true := by rw [hr]; rfl
       clear hr
       rcases HDL.out with ⟨rfl, hno⟩ | ⟨i, p, rfl, hp, he⟩
       ·as_aux_lemma =>
        have HX := Lib.hid (AddNot HS.out (by simp) s hno (by omega) m hm1 hm2 4 g w _ HTab.out _ hO.out sol6 rfl)
        rw [Hok.out] at HX
        rw [show ((1 : Nat) : Int) = 1 from rfl, show ((21 : Nat) : Int) = 21 from rfl] at HX
        unfold gv at HX
        obtain ⟨y0, y1, y2⟩ := geo_cells hO.out (k := 0) rfl
        obtain ⟨z0, z1, _, _⟩ := ebox_cells hO.out (k := 5) rfl
        clear hno hO
        go_wp2_with fail
        refine HX.out.mono ?_
        rintro e w5 (⟨rfl, hk, hO5⟩ | ⟨rfl, hk, hn, hO5⟩ | ⟨rfl, hk, hO5⟩ | ⟨L', rfl, hk, hn, hD, hO5⟩)
        ·have Hen : Hid (EnR [] 13 ok) := Lib.hid (fun h => ⟨rfl, by rw [hk]; rfl⟩)
         have hOE := Lib.hid hO5
         subst hk
         clear HX hO5 y0 y1 y2 z0 z1
         go_wp2_with fail
         go_meet
         case rel => exact ⟨n, nad, ncp, mad, mcp, [], T, 13, rfl, rfl, rfl, HS, Hen, hOE⟩
        ·have Hen : Hid (EnR [] 16 ok) := Lib.hid (fun h => ⟨rfl, by rw [hk]; rfl⟩)
         have hOE := Lib.hid hO5
         subst hk
         have x1 : ((n : Int) != 12) = false := by rw [hn]; rfl
         clear HX hO5 y0 y1 y2 z0 z1 hn
         go_wp2_with fail
         go_meet
         case rel => exact ⟨n, nad, ncp, mad, mcp, [], T, 16, rfl, rfl, rfl, HS, Hen, hOE⟩
        ·have Hen : Hid (EnR [] 7 ok) := Lib.hid (fun h => ⟨rfl, by rw [hk]; rfl⟩)
         have hOE := Lib.hid hO5
         subst hk
         clear HX hO5 y0 y1 y2 z0 z1
         go_wp2_with fail
         go_meet
         case rel => exact ⟨n, nad, ncp, mad, mcp, [], T, 7, rfl, rfl, rfl, HS, Hen, hOE⟩
        ·have Hen : Hid (EnR L' 0 ok) := Lib.hid (fun h => absurd rfl h)
         subst hk
         have x1 : ¬ (12 : Int) ≤ (n : Int) := by omega
         have hO5 : Grommet.Own w w5 [boxP G 23 #[.int .i64 1, .int .i64 21, .int .i64 (B : Int)], rowP 72 1 (.slice ad N cp) N (xs.map wv), strP nad n ncp T, nodP mad n mcp T, viewP g xs L', boxP X 37 #[.string s, .int .i64 (m : Int)]] := hO5
         obtain ⟨z0', _, _, _⟩ := ebox_cells hO5 (k := 5) rfl
         obtain ⟨a2, c2, w7, r1, hO7⟩ := strs_put hO5 2 rfl hn12 s m 67
         obtain ⟨_, z1', _, _⟩ := ebox_cells hO7 (k := 5) rfl
         obtain ⟨a3, c3, w8, r2, hO8⟩ := nods_put hO7 3 rfl hn12 s m 68
         have hO9 : Hid (Grommet.Own w w8 [boxP G 23 #[.int .i64 1, .int .i64 21, .int .i64 (B : Int)], rowP 72 1 (.slice ad N cp) N (xs.map wv), strP a2 (n + 1) c2 (T ++ [(s, m)]), nodP a3 (n + 1) c3 (T ++ [(s, m)]), viewP g xs L', boxP X 37 #[.string s, .int .i64 (m : Int)]]) := Lib.hid hO8
         have HD := Lib.hid hD
         clear HX hO7 hO8 y0 y1 y2 z0 z1 hn hD HS
         go_wp2_with (first | (at_builtin; refine wpList_append_run rfl _ _ _ rfl _ _ _ rfl rfl r1 ?_) | (at_builtin; refine wpList_append_run rfl _ _ _ rfl _ _ _ rfl rfl r2 ?_))
         go_meet
         case rel => exact ⟨n + 1, a2, c2, a3, c3, L', T ++ [(s, m)], 0, rfl, rfl, rfl, HD, Hen, hO9⟩
       ·as_aux_lemma =>
        have i0 : (0 : Int) ≤ (i : Int) := by omega
        have HX := Lib.hid (AddHas HS.out (by simp) hp (by rw [he]; omega) m hm1 hm2 4 g w _ HTab.out _ hO.out sol6 rfl)
        have hk : okName s = true := by rw [← he]; exact HS.out.ok hp
        rw [Hok.out] at hk
        rw [he] at HX
        rw [show ((1 : Nat) : Int) = 1 from rfl, show ((21 : Nat) : Int) = 21 from rfl] at HX
        unfold gv at HX
        obtain ⟨y0, y1, y2⟩ := geo_cells hO.out (k := 0) rfl
        obtain ⟨z0, z1, _, _⟩ := ebox_cells hO.out (k := 5) rfl
        clear hp he hO
        go_wp2_with fail
        refine HX.out.mono ?_
        rintro e w5 ⟨rfl, hO5⟩
        have Hen : Hid (EnR [] 9 ok) := Lib.hid (fun h => ⟨rfl, by rw [hk]; rfl⟩)
        have hOE := Lib.hid hO5
        subst hk
        have qge : decide ((0 : Int) ≤ (i : Int)) = true := by simp
        clear HX hO5 y0 y1 y2 z0 z1
        go_wp2_with fail
        go_meet
        case rel => exact ⟨n, nad, ncp, mad, mcp, [], T, 9, rfl, rfl, rfl, HS, Hen, hOE⟩
      ·as_aux_lemma =>
       have q0 : ((r : Int) == 0) = false := by rw [hr]; rfl
       have q1 : ((r : Int) == 1) = false := by rw [hr]; rfl
       have q2 : ((r : Int) == 2) = true := by rw [hr]; rfl
       clear hr
       rcases HDL.out with ⟨rfl, hno⟩ | ⟨i, p, rfl, hp, he⟩
       ·as_aux_lemma =>
        have HX := Lib.hid (ChangeNot HS.out (by simp) s hno (by omega) m hm1 hm2 4 g w _ _ hO.out sol6 rfl)
        rw [show ((1 : Nat) : Int) = 1 from rfl, show ((21 : Nat) : Int) = 21 from rfl] at HX
        unfold gv at HX
        obtain ⟨y0, y1, y2⟩ := geo_cells hO.out (k := 0) rfl
        obtain ⟨z0, z1, _, _⟩ := ebox_cells hO.out (k := 5) rfl
        clear hno hO
        go_wp2_with fail
        refine HX.out.mono ?_
        rintro e w5 ⟨en, hen, hen2, rfl, hO5⟩
        rw [Hok.out] at hen2
        have Hen : Hid (EnR [] en ok) := Lib.hid (fun _ => ⟨rfl, hen2⟩)
        have e1 : (en == 0) = false := by simpa using hen
        have hOE := Lib.hid hO5
        clear HX hO5 y0 y1 y2 z0 z1 hen hen2
        go_wp2_with fail
        go_meet
        case rel => exact ⟨n, nad, ncp, mad, mcp, [], T, en, rfl, rfl, rfl, HS, Hen, hOE⟩
       ·as_aux_lemma =>
        have hil : i < n := by have := (List.getElem?_eq_some_iff.1 hp).1; have := HS.out.len; omega
        have i0 : (0 : Int) ≤ (i : Int) := by omega
        have hil' : (i : Int) < (n : Int) := by omega
        have HX := Lib.hid (ChangeHas HS.out (by simp) hp (by rw [he]; omega) m hm1 hm2 4 g w _ _ hO.out sol6 rfl)
        have Hst := Lib.hid (strs_set hp m)
        have Hp := Lib.hid hp
        rw [he] at HX Hst
        rw [show ((1 : Nat) : Int) = 1 from rfl, show ((21 : Nat) : Int) = 21 from rfl] at HX
        unfold gv at HX
        obtain ⟨y0, y1, y2⟩ := geo_cells hO.out (k := 0) rfl
        obtain ⟨z0, z1, _, _⟩ := ebox_cells hO.out (k := 5) rfl
        clear hp he hO
        go_wp2_with fail
        refine HX.out.mono ?_
        rintro e w5 ⟨L', rfl, hD, hO5⟩
        have hO5 : Grommet.Own w w5 [boxP G 23 #[.int .i64 1, .int .i64 21, .int .i64 (B : Int)], rowP 72 1 (.slice ad N cp) N (xs.map wv), strP nad n ncp T, nodP mad n mcp T, viewP g xs L', boxP X 37 #[.string s, .int .i64 (m : Int)]] := hO5
        obtain ⟨_, z1', _, _⟩ := ebox_cells hO5 (k := 5) rfl
        obtain ⟨b, hb, u1, u2, _⟩ := Own.cell hO5 3 rfl i (.int .i64 (p.2 : Int)) (nods_get Hp.out)
        subst hb
        have hO6 := Own.store hO5 3 rfl i (.int .i64 (m : Int))
        obtain ⟨w6, hw6⟩ : ∃ w6, w5.setCell ⟨b, i, none⟩ (.int .i64 (m : Int)) = w6 := ⟨_, rfl⟩
        rw [hw6] at hO6
        have hOE : Hid (Grommet.Own w w6 [boxP G 23 #[.int .i64 1, .int .i64 21, .int .i64 (B : Int)], rowP 72 1 (.slice ad N cp) N (xs.map wv), strP nad n ncp (T.set i (s, m)), nodP (some ⟨b, 0, none⟩) n mcp (T.set i (s, m)), viewP g xs L', boxP X 37 #[.string s, .int .i64 (m : Int)]]) := Lib.hid (by
         unfold strP nodP
         rw [Hst.out, nods_set]
         exact hO6)
        have Hen : Hid (EnR L' 0 ok) := Lib.hid (fun h => absurd rfl h)
        have HD := Lib.hid hD
        have qge : decide ((0 : Int) ≤ (i : Int)) = true := by simp
        clear HX hO5 hO6 y0 y1 y2 z0 z1 hD Hst Hp
        go_wp2_with fail
        try rw [hw6]
        go_meet
        case rel => exact ⟨n, _, ncp, _, mcp, L', _, 0, rfl, rfl, rfl, HD, Hen, hOE⟩
      ·as_aux_lemma =>
       have q0 : ((r : Int) == 0) = false := by rw [hr]; rfl
       have q1 : ((r : Int) == 1) = false := by rw [hr]; rfl
       have q2 : ((r : Int) == 2) = false := by rw [hr]; rfl
       clear hr
       rcases HDL.out with ⟨rfl, hno⟩ | ⟨i, p, rfl, hp, he⟩
       ·as_aux_lemma =>
        have HX := Lib.hid (RemoveNot HS.out (by simp) s hno (by omega) 4 g w _ _ hO.out sol6 rfl)
        rw [show ((1 : Nat) : Int) = 1 from rfl, show ((21 : Nat) : Int) = 21 from rfl] at HX
        unfold gv at HX
        obtain ⟨y0, y1, y2⟩ := geo_cells hO.out (k := 0) rfl
        obtain ⟨z0, z1, _, _⟩ := ebox_cells hO.out (k := 5) rfl
        clear hno hO
        go_wp2_with fail
        refine HX.out.mono ?_
        rintro e w5 ⟨en, hen, hen2, rfl, hO5⟩
        rw [Hok.out] at hen2
        have Hen : Hid (EnR [] en ok) := Lib.hid (fun _ => ⟨rfl, hen2⟩)
        have e1 : (en == 0) = false := by simpa using hen
        have hOE := Lib.hid hO5
        clear HX hO5 y0 y1 y2 z0 z1 hen hen2
        go_wp2_with fail
        go_meet
        case rel => exact ⟨n, nad, ncp, mad, mcp, [], T, en, rfl, rfl, rfl, HS, Hen, hOE⟩
       ·as_aux_lemma =>
        have hil : i < n := by have := (List.getElem?_eq_some_iff.1 hp).1; have := HS.out.len; omega
        have i0 : (0 : Int) ≤ (i : Int) := by omega
        have hil' : (i : Int) < (n : Int) := by omega
        have HX := Lib.hid (RemoveHas HS.out (by simp) hp (by rw [he]; omega) 4 g w _ _ hO.out sol6 rfl)
        have Hp := Lib.hid hp
        rw [he] at HX
        rw [show ((1 : Nat) : Int) = 1 from rfl, show ((21 : Nat) : Int) = 21 from rfl] at HX
        unfold gv at HX
        obtain ⟨y0, y1, y2⟩ := geo_cells hO.out (k := 0) rfl
        obtain ⟨z0, z1, _, _⟩ := ebox_cells hO.out (k := 5) rfl
        clear hp he hO
        go_wp2_with fail
        refine HX.out.mono ?_
        rintro e w5 ⟨L', rfl, hD, hO5⟩
        have hO5 : Grommet.Own w w5 [boxP G 23 #[.int .i64 1, .int .i64 21, .int .i64 (B : Int)], rowP 72 1 (.slice ad N cp) N (xs.map wv), strP nad n ncp T, nodP mad n mcp T, viewP g xs L', boxP X 37 #[.string s, .int .i64 (m : Int)]] := hO5
        obtain ⟨b, hb, _⟩ := Own.cell hO5 2 rfl i (.string p.1) (strs_get Hp.out)
        subst hb
        obtain ⟨b2, hb2, _⟩ := Own.cell hO5 3 rfl i (.int .i64 (p.2 : Int)) (nods_get Hp.out)
        subst hb2
        have HD := Lib.hid hD
        have Hen : Hid (EnR L' 0 ok) := Lib.hid (fun h => absurd rfl h)
        have qge : decide ((0 : Int) ≤ (i : Int)) = true := by simp
        obtain ⟨i1, hi1⟩ : ∃ i1, i + 1 = i1 := ⟨_, rfl⟩
        have Wi1 : IntKind.i64.wrap ((i : Int) + 1) = (i1 : Int) := by rw [IntWalk.i64_in _ ⟨by omega, by omega⟩]; omega
        have Hi1 := Lib.hid hi1
        clear hi1
        have HO5 := Lib.hid hO5
        have HLen := Lib.hid HS.out.len
        clear HX hO5 y0 y1 y2 z0 z1 hD Hp
        go_upto_region 28 with fail
        obtain ⟨ad', a1, c1, w6, a2, c2, w7, Ws1, Ws2, R1, R2, hO7⟩ := strs_cut (HO5.out.quiet (grown_drew (World.grownBy.refl w5 none))) 2 rfl HLen.out i hil hn12 67 67
        rw [Hi1.out] at Ws2 R2
        have Ws1 := Lib.hid Ws1
        have Ws2 := Lib.hid Ws2
        have R1 := Lib.hid R1
        have R2 := Lib.hid R2
        have HO7 := Lib.hid hO7
        clear HO5 hO7
        refine wp_region_held_drew (S := fun _ => True) (by kernel_rfl) (trivial) (fun hS => ?_)
        refine wpAnyH_take (i := 1) (oi := ⟨some 92, .move (.tmp 7), 67, "law.go:165", #[], none⟩) (v := ?vra4r28o1) rfl (by kernel_rfl) (by kernel_rfl) (by kernel_rfl) (fun _ _ _ h => h) (Or.inl ⟨by rfl, ?hra4r28o1⟩) hS ?_
        case hra4r28o1 => (intro wx hx; skip; go_simp; (try with_reducible rfl))
        try simp only [Act.put, List.setIfInBounds_toArray, List.set_cons_zero, List.set_cons_succ]
        refine wpAnyH_take (i := 2) (oi := ⟨some 93, .move (.tmp 12), 3, "law.go:165", #[], none⟩) (v := ?vra4r28o2) rfl (by kernel_rfl) (by kernel_rfl) (by kernel_rfl) (fun _ _ _ h => h) (Or.inl ⟨by rfl, ?hra4r28o2⟩) hS ?_
        case hra4r28o2 => (intro wx hx; skip; go_simp; (try with_reducible rfl))
        try simp only [Act.put, List.setIfInBounds_toArray, List.set_cons_zero, List.set_cons_succ]
        refine wpAnyH_take (i := 3) (oi := ⟨some 94, .slice 67 (.tmp 92) none (some (.tmp 93)) none, 67, "law.go:165", #[⟨1, .data⟩, ⟨2, .data⟩], none⟩) (v := ?vra4r28o3) rfl (by kernel_rfl) (by kernel_rfl) (by kernel_rfl) (fun _ _ _ h => h) (Or.inl ⟨by rfl, ?hra4r28o3⟩) hS ?_
        case hra4r28o3 => (intro wx hx; have a1 := Ws1.out; have a2 := Ws2.out; go_simp; (try with_reducible rfl))
        try simp only [Act.put, List.setIfInBounds_toArray, List.set_cons_zero, List.set_cons_succ]
        refine wpAnyH_take (i := 5) (oi := ⟨some 96, .move (.tmp 7), 67, "law.go:165", #[], none⟩) (v := ?vra4r28o5) rfl (by kernel_rfl) (by kernel_rfl) (by kernel_rfl) (fun _ _ _ h => h) (Or.inl ⟨by rfl, ?hra4r28o5⟩) hS ?_
        case hra4r28o5 => (intro wx hx; skip; go_simp; (try with_reducible rfl))
        try simp only [Act.put, List.setIfInBounds_toArray, List.set_cons_zero, List.set_cons_succ]
        refine wpAnyH_take (i := 6) (oi := ⟨some 97, .move (.tmp 12), 3, "law.go:165", #[], none⟩) (v := ?vra4r28o6) rfl (by kernel_rfl) (by kernel_rfl) (by kernel_rfl) (fun _ _ _ h => h) (Or.inl ⟨by rfl, ?hra4r28o6⟩) hS ?_
        case hra4r28o6 => (intro wx hx; skip; go_simp; (try with_reducible rfl))
        try simp only [Act.put, List.setIfInBounds_toArray, List.set_cons_zero, List.set_cons_succ]
        refine wpAnyH_take (i := 7) (oi := ⟨some 98, .binOp BinOp.add 3 (.tmp 97) (Operand.const (Value.int IntKind.i64 1)) 3, 3, "law.go:165", #[⟨6, .data⟩], none⟩) (v := ?vra4r28o7) rfl (by kernel_rfl) (by kernel_rfl) (by kernel_rfl) (fun _ _ _ h => h) (Or.inl ⟨by rfl, ?hra4r28o7⟩) hS ?_
        case hra4r28o7 => (intro wx hx; skip; go_simp; (try with_reducible rfl))
        try simp only [Act.put, List.setIfInBounds_toArray, List.set_cons_zero, List.set_cons_succ]
        refine wpAnyH_take (i := 8) (oi := ⟨some 99, .slice 67 (.tmp 96) (some (.tmp 98)) none none, 67, "law.go:165", #[⟨5, .data⟩, ⟨7, .data⟩], none⟩) (v := ?vra4r28o8) rfl (by kernel_rfl) (by kernel_rfl) (by kernel_rfl) (fun _ _ _ h => h) (Or.inl ⟨by rfl, ?hra4r28o8⟩) hS ?_
        case hra4r28o8 => (intro wx hx; have a1 := Ws1.out; have a2 := Ws2.out; go_simp; (try with_reducible rfl))
        try simp only [Act.put, List.setIfInBounds_toArray, List.set_cons_zero, List.set_cons_succ]
        refine wpAnyH_ready (rs := [0]) (by kernel_rfl) (by simp) ?_
        refine AllReadyH.cons (o := ⟨some 91, .buildSlice 67 0 #[], 67, "law.go:165", #[], none⟩) rfl (fun K hK => ?_) AllReadyH.nil
        go_simp
        skip
        refine hK.out _ _ ?hsra4r28o0 (fun hS => ?_)
        case hsra4r28o0 => (trivial)
        clear hK K
        try simp only [Act.put, List.setIfInBounds_toArray, List.set_cons_zero, List.set_cons_succ]
        refine wpAnyH_ready (rs := [4]) (by kernel_rfl) (by simp) ?_
        refine AllReadyH.cons (o := ⟨some 95, .call { callee := Callee.builtin Builtin.append, args := #[.tmp 91, .tmp 94], argTypes := #[67, 67] }, 67, "law.go:165", #[⟨0, .data⟩, ⟨3, .data⟩], none⟩) rfl (fun K hK => ?_) AllReadyH.nil
        rw [if_pos (by rfl)]
        refine oper_append _ _ _ rfl _ _ _ rfl rfl R1.out ?_
        refine hK.out _ _ ?hsb (fun hS => ?_)
        case hsb => trivial
        clear hK K
        try simp only [Act.put, List.setIfInBounds_toArray, List.set_cons_zero, List.set_cons_succ]
        refine wpAnyH_ready (rs := [9]) (by kernel_rfl) (by simp) ?_
        refine AllReadyH.cons (o := ⟨some 100, .call { callee := Callee.builtin Builtin.append, args := #[.tmp 95, .tmp 99], argTypes := #[67, 67] }, 67, "law.go:165", #[⟨4, .data⟩, ⟨8, .data⟩, ⟨4, .chain⟩], none⟩) rfl (fun K hK => ?_) AllReadyH.nil
        rw [if_pos (by rfl)]
        refine oper_append _ _ _ rfl _ _ _ rfl rfl R2.out ?_
        refine hK.out _ _ ?hsb (fun hS => ?_)
        case hsb => trivial
        clear hK K
        try simp only [Act.put, List.setIfInBounds_toArray, List.set_cons_zero, List.set_cons_succ]
        refine wpAnyH_take (i := 10) (oi := ⟨some 7, .assign (.tmp 100), 67, "law.go:165", #[⟨9, .data⟩, ⟨9, .chain⟩, ⟨0, .phase⟩, ⟨1, .phase⟩, ⟨2, .phase⟩, ⟨3, .phase⟩, ⟨4, .phase⟩, ⟨5, .phase⟩, ⟨6, .phase⟩, ⟨7, .phase⟩, ⟨8, .phase⟩, ⟨9, .phase⟩], none⟩) (v := ?vra4r28o10) rfl (by kernel_rfl) (by kernel_rfl) (by kernel_rfl) (fun _ _ _ h => h) (Or.inl ⟨by rfl, ?hra4r28o10⟩) hS ?_
        case hra4r28o10 => (intro wx hx; skip; go_simp; (try with_reducible rfl))
        try simp only [Act.put, List.setIfInBounds_toArray, List.set_cons_zero, List.set_cons_succ]
        refine wpAnyH_done (by kernel_rfl) ?_ _
        clear Ws1 Ws2 R1 R2
        go_upto_region 29 with fail
        obtain ⟨ad'', a3, c3, w8, a4, c4, w9, Ws1, Ws2, R1, R2, hO9⟩ := nods_cut (HO7.out.quiet (grown_drew (World.grownBy.refl w7 none))) 3 rfl HLen.out i hil hn12 68 68
        rw [Hi1.out] at Ws2 R2
        have Ws1 := Lib.hid Ws1
        have Ws2 := Lib.hid Ws2
        have R1 := Lib.hid R1
        have R2 := Lib.hid R2
        have hOE : Hid (Grommet.Own w w9 [boxP G 23 #[.int .i64 1, .int .i64 21, .int .i64 (B : Int)], rowP 72 1 (.slice ad N cp) N (xs.map wv), strP a2 (n - 1) c2 (T.eraseIdx i), nodP a4 (n - 1) c4 (T.eraseIdx i), viewP g xs L', boxP X 37 #[.string s, .int .i64 (m : Int)]]) := Lib.hid (own_cut hO9)
        clear HO7 hO9
        refine wp_region_held_drew (S := fun _ => True) (by kernel_rfl) (trivial) (fun hS => ?_)
        refine wpAnyH_take (i := 1) (oi := ⟨some 102, .move (.tmp 8), 68, "law.go:166", #[], none⟩) (v := ?vrb4r29o1) rfl (by kernel_rfl) (by kernel_rfl) (by kernel_rfl) (fun _ _ _ h => h) (Or.inl ⟨by rfl, ?hrb4r29o1⟩) hS ?_
        case hrb4r29o1 => (intro wx hx; skip; go_simp; (try with_reducible rfl))
        try simp only [Act.put, List.setIfInBounds_toArray, List.set_cons_zero, List.set_cons_succ]
        refine wpAnyH_take (i := 2) (oi := ⟨some 103, .move (.tmp 12), 3, "law.go:166", #[], none⟩) (v := ?vrb4r29o2) rfl (by kernel_rfl) (by kernel_rfl) (by kernel_rfl) (fun _ _ _ h => h) (Or.inl ⟨by rfl, ?hrb4r29o2⟩) hS ?_
        case hrb4r29o2 => (intro wx hx; skip; go_simp; (try with_reducible rfl))
        try simp only [Act.put, List.setIfInBounds_toArray, List.set_cons_zero, List.set_cons_succ]
        refine wpAnyH_take (i := 3) (oi := ⟨some 104, .slice 68 (.tmp 102) none (some (.tmp 103)) none, 68, "law.go:166", #[⟨1, .data⟩, ⟨2, .data⟩], none⟩) (v := ?vrb4r29o3) rfl (by kernel_rfl) (by kernel_rfl) (by kernel_rfl) (fun _ _ _ h => h) (Or.inl ⟨by rfl, ?hrb4r29o3⟩) hS ?_
        case hrb4r29o3 => (intro wx hx; have a1 := Ws1.out; have a2 := Ws2.out; go_simp; (try with_reducible rfl))
        try simp only [Act.put, List.setIfInBounds_toArray, List.set_cons_zero, List.set_cons_succ]
        refine wpAnyH_take (i := 5) (oi := ⟨some 106, .move (.tmp 8), 68, "law.go:166", #[], none⟩) (v := ?vrb4r29o5) rfl (by kernel_rfl) (by kernel_rfl) (by kernel_rfl) (fun _ _ _ h => h) (Or.inl ⟨by rfl, ?hrb4r29o5⟩) hS ?_
        case hrb4r29o5 => (intro wx hx; skip; go_simp; (try with_reducible rfl))
        try simp only [Act.put, List.setIfInBounds_toArray, List.set_cons_zero, List.set_cons_succ]
        refine wpAnyH_take (i := 6) (oi := ⟨some 107, .move (.tmp 12), 3, "law.go:166", #[], none⟩) (v := ?vrb4r29o6) rfl (by kernel_rfl) (by kernel_rfl) (by kernel_rfl) (fun _ _ _ h => h) (Or.inl ⟨by rfl, ?hrb4r29o6⟩) hS ?_
        case hrb4r29o6 => (intro wx hx; skip; go_simp; (try with_reducible rfl))
        try simp only [Act.put, List.setIfInBounds_toArray, List.set_cons_zero, List.set_cons_succ]
        refine wpAnyH_take (i := 7) (oi := ⟨some 108, .binOp BinOp.add 3 (.tmp 107) (Operand.const (Value.int IntKind.i64 1)) 3, 3, "law.go:166", #[⟨6, .data⟩], none⟩) (v := ?vrb4r29o7) rfl (by kernel_rfl) (by kernel_rfl) (by kernel_rfl) (fun _ _ _ h => h) (Or.inl ⟨by rfl, ?hrb4r29o7⟩) hS ?_
        case hrb4r29o7 => (intro wx hx; skip; go_simp; (try with_reducible rfl))
        try simp only [Act.put, List.setIfInBounds_toArray, List.set_cons_zero, List.set_cons_succ]
        refine wpAnyH_take (i := 8) (oi := ⟨some 109, .slice 68 (.tmp 106) (some (.tmp 108)) none none, 68, "law.go:166", #[⟨5, .data⟩, ⟨7, .data⟩], none⟩) (v := ?vrb4r29o8) rfl (by kernel_rfl) (by kernel_rfl) (by kernel_rfl) (fun _ _ _ h => h) (Or.inl ⟨by rfl, ?hrb4r29o8⟩) hS ?_
        case hrb4r29o8 => (intro wx hx; have a1 := Ws1.out; have a2 := Ws2.out; go_simp; (try with_reducible rfl))
        try simp only [Act.put, List.setIfInBounds_toArray, List.set_cons_zero, List.set_cons_succ]
        refine wpAnyH_ready (rs := [0]) (by kernel_rfl) (by simp) ?_
        refine AllReadyH.cons (o := ⟨some 101, .buildSlice 68 0 #[], 68, "law.go:166", #[], none⟩) rfl (fun K hK => ?_) AllReadyH.nil
        go_simp
        skip
        refine hK.out _ _ ?hsrb4r29o0 (fun hS => ?_)
        case hsrb4r29o0 => (trivial)
        clear hK K
        try simp only [Act.put, List.setIfInBounds_toArray, List.set_cons_zero, List.set_cons_succ]
        refine wpAnyH_ready (rs := [4]) (by kernel_rfl) (by simp) ?_
        refine AllReadyH.cons (o := ⟨some 105, .call { callee := Callee.builtin Builtin.append, args := #[.tmp 101, .tmp 104], argTypes := #[68, 68] }, 68, "law.go:166", #[⟨0, .data⟩, ⟨3, .data⟩], none⟩) rfl (fun K hK => ?_) AllReadyH.nil
        rw [if_pos (by rfl)]
        refine oper_append _ _ _ rfl _ _ _ rfl rfl R1.out ?_
        refine hK.out _ _ ?hsb (fun hS => ?_)
        case hsb => trivial
        clear hK K
        try simp only [Act.put, List.setIfInBounds_toArray, List.set_cons_zero, List.set_cons_succ]
        refine wpAnyH_ready (rs := [9]) (by kernel_rfl) (by simp) ?_
        refine AllReadyH.cons (o := ⟨some 110, .call { callee := Callee.builtin Builtin.append, args := #[.tmp 105, .tmp 109], argTypes := #[68, 68] }, 68, "law.go:166", #[⟨4, .data⟩, ⟨8, .data⟩, ⟨4, .chain⟩], none⟩) rfl (fun K hK => ?_) AllReadyH.nil
        rw [if_pos (by rfl)]
        refine oper_append _ _ _ rfl _ _ _ rfl rfl R2.out ?_
        refine hK.out _ _ ?hsb (fun hS => ?_)
        case hsb => trivial
        clear hK K
        try simp only [Act.put, List.setIfInBounds_toArray, List.set_cons_zero, List.set_cons_succ]
        refine wpAnyH_take (i := 10) (oi := ⟨some 8, .assign (.tmp 110), 68, "law.go:166", #[⟨9, .data⟩, ⟨9, .chain⟩, ⟨0, .phase⟩, ⟨1, .phase⟩, ⟨2, .phase⟩, ⟨3, .phase⟩, ⟨4, .phase⟩, ⟨5, .phase⟩, ⟨6, .phase⟩, ⟨7, .phase⟩, ⟨8, .phase⟩, ⟨9, .phase⟩], none⟩) (v := ?vrb4r29o10) rfl (by kernel_rfl) (by kernel_rfl) (by kernel_rfl) (fun _ _ _ h => h) (Or.inl ⟨by rfl, ?hrb4r29o10⟩) hS ?_
        case hrb4r29o10 => (intro wx hx; skip; go_simp; (try with_reducible rfl))
        try simp only [Act.put, List.setIfInBounds_toArray, List.set_cons_zero, List.set_cons_succ]
        refine wpAnyH_done (by kernel_rfl) ?_ _
        clear Ws1 Ws2 R1 R2
        go_wp2
        go_meet
        case rel => exact ⟨n - 1, a2, c2, a4, c4, L', _, 0, rfl, rfl, rfl, HD, Hen, hOE⟩
     case rest =>
     as_aux_lemma =>
     clear hO HDL HS hm1 hm2 hr4 hs500
     obtain ⟨n2, nad2, ncp2, mad2, mcp2, L', T2, en, rfl, rfl, rfl, HD, Hen, hO⟩ := hcut
     have hn2 := HD.out.le
     go_upto_region 48 with fail
     go_cut [228] from 214 to 227 (fun tv wx => tv = .bool false ∧ Hid (Grommet.Own w wx [boxP G 23 #[.int .i64 1, .int .i64 21, .int .i64 (B : Int)], rowP 72 1 (.slice ad N cp) N (xs.map wv), strP nad2 n2 ncp2 T2, nodP mad2 n2 mcp2 T2, viewP g xs L', boxP X 37 #[.string s, .int .i64 (m : Int)]]))
     case first =>
      as_aux_lemma =>
      by_cases h : en = 0
      ·have x1 : (en != 0) = false := by simp [h]
       clear h
       go_wp2_with fail
       go_meet
       case rel => exact ⟨rfl, hO⟩
      ·obtain ⟨hL, h13⟩ := Hen.out h
       subst hL
       have x1 : (en != 0) = true := by simp [h]
       have HWs := Lib.hid (WritesH 4 g xs [] w _ _ hO.out rfl)
       clear h Hen hO
       go_wp2_with fail
       refine HWs.out.mono ?_
       rintro e w5 ⟨ad4, cp4, rfl, hO4⟩
       have hOE := Lib.hid hO4.less
       clear HWs hO4
       go_wp2_with fail
       go_meet
       case rel => exact ⟨rfl, hOE⟩
     case rest =>
     as_aux_lemma =>
     clear hO Hen
     obtain ⟨rfl, hO⟩ := hcut
     obtain ⟨y0, y1, y2⟩ := geo_cells hO.out (k := 0) rfl
     have HX := Lib.hid (ListT HD.out 4 g w _ _ hO.out sol6 rfl)
     rw [show ((1 : Nat) : Int) = 1 from rfl, show ((21 : Nat) : Int) = 21 from rfl] at HX
     unfold gv at HX
     clear hO
     have z4' : ((n2 : Int) != (n2 : Int)) = false := by simp
     go_wp2_with fail
     refine HX.out.mono ?_
     rintro e w5 ⟨ad5, cp5, rfl, hO5⟩
     have hO5 := Lib.hid hO5
     clear HX y0 y1 y2
     go_wp2_with fail
     go_loopw [21] (fun jv wr => ∃ j : Nat, j ≤ n2 ∧ jv = .int .i64 (j : Int) ∧ Hid (Grommet.Own w wr [boxP G 23 #[.int .i64 1, .int .i64 21, .int .i64 (B : Int)], rowP 72 1 (.slice ad N cp) N (xs.map wv), strP nad2 n2 ncp2 T2, nodP mad2 n2 mcp2 T2, viewP g xs L', boxP X 37 #[.string s, .int .i64 (m : Int)]])) (fun jv _ => n2 - (intOf jv).toNat)
     case atStart => exact ⟨0, Nat.zero_le _, rfl, hO5⟩
     case round =>
      clear hO5 z4'
      obtain ⟨j, hj, rfl, hO⟩ := hrel
      have j0 : (0 : Int) ≤ (j : Int) := by omega
      by_cases hlj : j < n2
      ·as_aux_lemma =>
       have hlj' : (j : Int) < (n2 : Int) := by omega
       have wj : IntKind.i64.wrap ((j : Int) + 1) = (j : Int) + 1 := IntWalk.i64_in _ ⟨by omega, by omega⟩
       obtain ⟨p, hp⟩ : ∃ p, T2[j]? = some p := ⟨T2[j]'(by rw [HD.out.len]; exact hlj), List.getElem?_eq_getElem _⟩
       have hsz := okName_size (HD.out.ok hp)
       obtain ⟨b, hb, _⟩ := Own.cell hO.out 2 rfl j (.string p.1) (strs_get hp)
       subst hb
       obtain ⟨b2, hb2, _⟩ := Own.cell hO.out 3 rfl j (.int .i64 (p.2 : Int)) (nods_get hp)
       subst hb2
       obtain ⟨s1, mi⟩ := p
       dsimp only at hsz
       have HFi := Lib.hid (fun Rs wx (hx : Grommet.Own w wx ([boxP G 23 #[.int .i64 1, .int .i64 21, .int .i64 (B : Int)], rowP 72 1 (.slice ad N cp) N (xs.map wv), strP (some ⟨b, 0, none⟩) n2 ncp2 T2, nodP (some ⟨b2, 0, none⟩) n2 mcp2 T2, viewP g xs L', boxP X 37 #[.string s, .int .i64 (m : Int)]] ++ Rs)) (hs : ∀ Q ∈ Rs, Solid Q) => FindHas HD.out hp (by show s1.size ≤ _; omega) 4 g w wx _ hx (solid_app sol6 hs) rfl)
       rw [show ((1 : Nat) : Int) = 1 from rfl, show ((21 : Nat) : Int) = 21 from rfl] at HFi
       unfold gv at HFi
       have HCS : Hid (∀ Rs wx, Grommet.Own w wx ([boxP G 23 #[.int .i64 1, .int .i64 21, .int .i64 (B : Int)], rowP 72 1 (.slice ad N cp) N (xs.map wv), strP (some ⟨b, 0, none⟩) n2 ncp2 T2, nodP (some ⟨b2, 0, none⟩) n2 mcp2 T2, viewP g xs L', boxP X 37 #[.string s, .int .i64 (m : Int)]] ++ Rs) → CS G B b j s1 wx) := Lib.hid (fun Rs wx hx => ⟨geo_cells hx (k := 0) rfl, by
        obtain ⟨b', hb', h1, _⟩ := Own.cell hx 2 rfl j (.string s1) (strs_get hp)
        cases hb'
        exact h1⟩)
       have Hp := Lib.hid hp
       have hOr : Hid (Grommet.Own w wr.drew ([boxP G 23 #[.int .i64 1, .int .i64 21, .int .i64 (B : Int)], rowP 72 1 (.slice ad N cp) N (xs.map wv), strP (some ⟨b, 0, none⟩) n2 ncp2 T2, nodP (some ⟨b2, 0, none⟩) n2 mcp2 T2, viewP g xs L', boxP X 37 #[.string s, .int .i64 (m : Int)]] ++ [])) := Lib.hid (by rw [List.append_nil]; exact hO.out.quiet (grown_drew (World.grownBy.refl wr none)))
       have HS0 := Lib.hid (HCS.out _ _ hOr.out)
       clear hp hO hsz
       go_upto_region 56 with fail
       go_cut [22, 23, 24] from 250 to 260 (fun xv kv ev wx => ∃ (X2 kk : Nat), kk < 12 ∧ xv = .pointer (some ⟨X2, 0, none⟩) ∧ kv = .int .i64 (kk : Int) ∧ ev = .int .i64 0 ∧ Hid (wx.cell? ⟨X2, 1, none⟩ = some (.int .i64 (mi : Int))) ∧ Hid (Grommet.Own w wx [boxP G 23 #[.int .i64 1, .int .i64 21, .int .i64 (B : Int)], rowP 72 1 (.slice ad N cp) N (xs.map wv), strP (some ⟨b, 0, none⟩) n2 ncp2 T2, nodP (some ⟨b2, 0, none⟩) n2 mcp2 T2, viewP g xs L', boxP X 37 #[.string s, .int .i64 (m : Int)]]))
       case first =>
        as_aux_lemma =>
        refine wp_region_held_drew (S := fun w' => CS G B b j s1 w') (by kernel_rfl) (HS0.out) (fun hS => ?_)
        refine wpAnyH_take (i := 0) (oi := ⟨some 251, .move (.tmp 10), 32, "law.go:177", #[], none⟩) (v := ?vrf4r56o0) rfl (by kernel_rfl) (by kernel_rfl) (by kernel_rfl) (fun _ _ _ h => h) (Or.inl ⟨by rfl, ?hrf4r56o0⟩) hS ?_
        case hrf4r56o0 => (intro wx hx; skip; go_simp; (try with_reducible rfl))
        try simp only [Act.put, List.setIfInBounds_toArray, List.set_cons_zero, List.set_cons_succ]
        refine wpAnyH_take (i := 1) (oi := ⟨some 252, .load 23 (.tmp 5), 23, "law.go:177", #[], none⟩) (v := ?vrf4r56o1) rfl (by kernel_rfl) (by kernel_rfl) (by kernel_rfl) (fun _ _ _ h => h) (Or.inl ⟨by rfl, ?hrf4r56o1⟩) hS ?_
        case hrf4r56o1 => (intro wx hx; obtain ⟨⟨c0, c1, c2⟩, c3⟩ := hx; go_simp; (try with_reducible rfl))
        try simp only [Act.put, List.setIfInBounds_toArray, List.set_cons_zero, List.set_cons_succ]
        refine wpAnyH_take (i := 2) (oi := ⟨some 253, .move (.tmp 7), 67, "law.go:177", #[], none⟩) (v := ?vrf4r56o2) rfl (by kernel_rfl) (by kernel_rfl) (by kernel_rfl) (fun _ _ _ h => h) (Or.inl ⟨by rfl, ?hrf4r56o2⟩) hS ?_
        case hrf4r56o2 => (intro wx hx; skip; go_simp; (try with_reducible rfl))
        try simp only [Act.put, List.setIfInBounds_toArray, List.set_cons_zero, List.set_cons_succ]
        refine wpAnyH_take (i := 3) (oi := ⟨some 254, .move (.tmp 21), 3, "law.go:177", #[], none⟩) (v := ?vrf4r56o3) rfl (by kernel_rfl) (by kernel_rfl) (by kernel_rfl) (fun _ _ _ h => h) (Or.inl ⟨by rfl, ?hrf4r56o3⟩) hS ?_
        case hrf4r56o3 => (intro wx hx; skip; go_simp; (try with_reducible rfl))
        try simp only [Act.put, List.setIfInBounds_toArray, List.set_cons_zero, List.set_cons_succ]
        refine wpAnyH_take (i := 4) (oi := ⟨some 255, .indexAddr 67 (.tmp 253) (.tmp 254), 0, "law.go:177", #[⟨2, .data⟩, ⟨3, .data⟩], none⟩) (v := ?vrf4r56o4) rfl (by kernel_rfl) (by kernel_rfl) (by kernel_rfl) (fun _ _ _ h => h) (Or.inl ⟨by rfl, ?hrf4r56o4⟩) hS ?_
        case hrf4r56o4 => (intro wx hx; skip; go_simp; (try with_reducible rfl))
        try simp only [Act.put, List.setIfInBounds_toArray, List.set_cons_zero, List.set_cons_succ]
        refine wpAnyH_take (i := 5) (oi := ⟨some 256, .load 9 (.tmp 255), 9, "law.go:177", #[⟨4, .data⟩], none⟩) (v := ?vrf4r56o5) rfl (by kernel_rfl) (by kernel_rfl) (by kernel_rfl) (fun _ _ _ h => h) (Or.inl ⟨by rfl, ?hrf4r56o5⟩) hS ?_
        case hrf4r56o5 => (intro wx hx; obtain ⟨⟨c0, c1, c2⟩, c3⟩ := hx; go_simp; (try with_reducible rfl))
        try simp only [Act.put, List.setIfInBounds_toArray, List.set_cons_zero, List.set_cons_succ]
        refine wpAnyH_ready (rs := [6, 11]) (by kernel_rfl) (by simp) ?_
        refine AllReadyH.cons (o := ⟨some 257, .call { callee := Callee.value (Operand.func 15), args := #[.tmp 251, .tmp 252, Operand.const (Value.int IntKind.i64 1), .tmp 256], argTypes := #[32, 23, 3, 9] }, 46, "law.go:177", #[⟨0, .data⟩, ⟨1, .data⟩, ⟨5, .data⟩], none⟩) rfl (fun K hK => ?_) ?_
        ·
         go_simp
         refine (HFi.out _ _ hOr.out (by first | (intro Q hQ; cases hQ; done) | (intro Q hQ; simp only [List.mem_cons, List.not_mem_nil, or_false] at hQ; subst hQ; exact solid_box _ _ _))).mono ?_
         rintro e w5 ⟨kk, hk12, rfl, hO5⟩
         clear hOr
         have hOr := Lib.hid hO5
         have hOc := Lib.hid hO5
         clear hO5
         refine hK.out _ _ ?hsrfx14r56o6 (fun hS => ?_)
         case hsrfx14r56o6 => (exact HCS.out _ _ hOr.out)
         clear hK K
         refine wpAnyH_take (i := 7) (oi := ⟨some 250, .move (.tmp 257), 46, "law.go:177", #[⟨6, .data⟩], none⟩) (v := ?vrfx14r56o7) rfl (by kernel_rfl) (by kernel_rfl) (by kernel_rfl) (fun _ _ _ h => h) (Or.inl ⟨by rfl, ?hrfx14r56o7⟩) hS ?_
         case hrfx14r56o7 => (intro wx hx; skip; go_simp; (try with_reducible rfl))
         try simp only [Act.put, List.setIfInBounds_toArray, List.set_cons_zero, List.set_cons_succ]
         refine wpAnyH_take (i := 8) (oi := ⟨some 258, .extract (.tmp 250) 0, 37, "law.go:177", #[⟨7, .data⟩], none⟩) (v := ?vrfx14r56o8) rfl (by kernel_rfl) (by kernel_rfl) (by kernel_rfl) (fun _ _ _ h => h) (Or.inl ⟨by rfl, ?hrfx14r56o8⟩) hS ?_
         case hrfx14r56o8 => (intro wx hx; skip; go_simp; (try with_reducible rfl))
         try simp only [Act.put, List.setIfInBounds_toArray, List.set_cons_zero, List.set_cons_succ]
         refine wpAnyH_take (i := 9) (oi := ⟨some 259, .extract (.tmp 250) 1, 3, "law.go:177", #[⟨7, .data⟩, { on := 12, ground := Ground.gcOnly Departure.lateStores }], none⟩) (v := ?vrfx14r56o9) rfl (by kernel_rfl) (by kernel_rfl) (by kernel_rfl) (fun _ _ _ h => h) (Or.inl ⟨by rfl, ?hrfx14r56o9⟩) hS ?_
         case hrfx14r56o9 => (intro wx hx; skip; go_simp; (try with_reducible rfl))
         try simp only [Act.put, List.setIfInBounds_toArray, List.set_cons_zero, List.set_cons_succ]
         refine wpAnyH_take (i := 10) (oi := ⟨some 260, .extract (.tmp 250) 2, 45, "law.go:177", #[⟨7, .data⟩, { on := 13, ground := Ground.gcOnly Departure.lateStores }], none⟩) (v := ?vrfx14r56o10) rfl (by kernel_rfl) (by kernel_rfl) (by kernel_rfl) (fun _ _ _ h => h) (Or.inl ⟨by rfl, ?hrfx14r56o10⟩) hS ?_
         case hrfx14r56o10 => (intro wx hx; skip; go_simp; (try with_reducible rfl))
         try simp only [Act.put, List.setIfInBounds_toArray, List.set_cons_zero, List.set_cons_succ]
         refine wpAnyH_ready (rs := [11]) (by kernel_rfl) (by simp) ?_
         refine AllReadyH.cons (o := ⟨some 22, .alloc 37, 0, "law.go:177", #[], none⟩) rfl (fun K hK => ?_) AllReadyH.nil
         go_simp
         have hO6 := Lib.hid (box_add hOr.out)
         clear hOr
         have hOr := hO6
         clear hO6
         refine hK.out _ _ ?hsrfx14r56o11 (fun hS => ?_)
         case hsrfx14r56o11 => (exact HCS.out _ _ hOr.out)
         clear hK K
         try simp only [Act.put, List.setIfInBounds_toArray, List.set_cons_zero, List.set_cons_succ]
         refine wpAnyH_ready (rs := [12]) (by kernel_rfl) (by simp) ?_
         refine AllReadyH.cons (o := ⟨none, .store 37 (.tmp 22) (.tmp 258), 0, "law.go:177", #[⟨11, .data⟩, ⟨8, .data⟩, ⟨6, .chain⟩, ⟨0, .phase⟩, ⟨1, .phase⟩, ⟨2, .phase⟩, ⟨3, .phase⟩, ⟨4, .phase⟩, ⟨5, .phase⟩, ⟨6, .phase⟩, ⟨7, .phase⟩, ⟨8, .phase⟩, { on := 9, ground := Ground.textOnly Departure.lateStores }, { on := 10, ground := Ground.textOnly Departure.lateStores }, ⟨11, .phase⟩], none⟩) rfl (fun K hK => ?_) AllReadyH.nil
         first | (have hOn := Lib.hid (box_add2 hOc.out s1 (mi : Int)); go_simp; refine hK.out _ _ ?hsb (fun hS => ?_); (case hsb => exact HCS.out [_] _ hOn.out); clear hK K) | (obtain ⟨e0, e1, f0, f1⟩ := ebox_cells hOr.out (k := 6) rfl; obtain ⟨wn, hwn, hOn0⟩ := ebox_put (.string s1) (.int .i64 (mi : Int)) hOr.out (k := 6) rfl; have e0' : w5.cell? ⟨wr.heap.size, 0, none⟩ = _ := e0; have e1' : w5.cell? ⟨wr.heap.size, 1, none⟩ = _ := e1; have f0' : w5.frozen? ⟨wr.heap.size, 0, none⟩ = false := f0; have f1' : w5.frozen? ⟨wr.heap.size, 1, none⟩ = false := f1; have Hwn : Hid ((w5.setCell ⟨wr.heap.size, 0, none⟩ (.string s1)).setCell ⟨wr.heap.size, 1, none⟩ (.int .i64 (mi : Int)) = wn) := Lib.hid hwn; have hOn := Lib.hid hOn0; clear hOn0 hwn e0 e1 f0 f1; go_simp; (try rw [Hwn.out]); refine hK.out _ _ ?hsb (fun hS => ?_); (case hsb => exact HCS.out [_] _ hOn.out); clear hK K)
         try simp only [Act.put, List.setIfInBounds_toArray, List.set_cons_zero, List.set_cons_succ]
         refine wpAnyH_take (i := 13) (oi := ⟨some 23, .assign (.tmp 259), 3, "law.go:177", #[⟨9, .data⟩, ⟨12, .chain⟩, ⟨0, .phase⟩, ⟨1, .phase⟩, ⟨2, .phase⟩, ⟨3, .phase⟩, ⟨4, .phase⟩, ⟨5, .phase⟩, ⟨6, .phase⟩, ⟨7, .phase⟩, ⟨8, .phase⟩, ⟨9, .phase⟩, { on := 10, ground := Ground.textOnly Departure.lateStores }, ⟨11, .phase⟩, ⟨12, .phase⟩], none⟩) (v := ?vrfx14r56o13) rfl (by kernel_rfl) (by kernel_rfl) (by kernel_rfl) (fun _ _ _ h => h) (Or.inl ⟨by rfl, ?hrfx14r56o13⟩) hS ?_
         case hrfx14r56o13 => (intro wx hx; skip; go_simp; (try with_reducible rfl))
         try simp only [Act.put, List.setIfInBounds_toArray, List.set_cons_zero, List.set_cons_succ]
         refine wpAnyH_take (i := 14) (oi := ⟨some 24, .assign (.tmp 260), 45, "law.go:177", #[⟨10, .data⟩, ⟨13, .chain⟩, ⟨0, .phase⟩, ⟨1, .phase⟩, ⟨2, .phase⟩, ⟨3, .phase⟩, ⟨4, .phase⟩, ⟨5, .phase⟩, ⟨6, .phase⟩, ⟨7, .phase⟩, ⟨8, .phase⟩, ⟨9, .phase⟩, ⟨10, .phase⟩, ⟨11, .phase⟩, ⟨12, .phase⟩, ⟨13, .phase⟩], none⟩) (v := ?vrfx14r56o14) rfl (by kernel_rfl) (by kernel_rfl) (by kernel_rfl) (fun _ _ _ h => h) (Or.inl ⟨by rfl, ?hrfx14r56o14⟩) hS ?_
         case hrfx14r56o14 => (intro wx hx; skip; go_simp; (try with_reducible rfl))
         try simp only [Act.put, List.setIfInBounds_toArray, List.set_cons_zero, List.set_cons_succ]
         refine wpAnyH_done (by kernel_rfl) ?_ _
         go_wp2
         go_meet
         case rel => (obtain ⟨_, v1, _, _⟩ := ebox_cells hOn.out (k := 6) rfl; exact ⟨_, kk, hk12, rfl, rfl, rfl, Lib.hid v1, Lib.hid (Own.less (Qs := [_]) hOn.out)⟩)
        refine AllReadyH.cons (o := ⟨some 22, .alloc 37, 0, "law.go:177", #[], none⟩) rfl (fun K hK => ?_) ?_
        ·
         go_simp
         have hO6 := Lib.hid (box_add hOr.out)
         clear hOr
         have hOr := hO6
         clear hO6
         refine hK.out _ _ ?hsrfx34r56o11 (fun hS => ?_)
         case hsrfx34r56o11 => (exact HCS.out _ _ hOr.out)
         clear hK K
         try simp only [Act.put, List.setIfInBounds_toArray, List.set_cons_zero, List.set_cons_succ]
         refine wpAnyH_ready (rs := [6]) (by kernel_rfl) (by simp) ?_
         refine AllReadyH.cons (o := ⟨some 257, .call { callee := Callee.value (Operand.func 15), args := #[.tmp 251, .tmp 252, Operand.const (Value.int IntKind.i64 1), .tmp 256], argTypes := #[32, 23, 3, 9] }, 46, "law.go:177", #[⟨0, .data⟩, ⟨1, .data⟩, ⟨5, .data⟩], none⟩) rfl (fun K hK => ?_) AllReadyH.nil
         go_simp
         refine (HFi.out _ _ hOr.out (by first | (intro Q hQ; cases hQ; done) | (intro Q hQ; simp only [List.mem_cons, List.not_mem_nil, or_false] at hQ; subst hQ; exact solid_box _ _ _))).mono ?_
         rintro e w5 ⟨kk, hk12, rfl, hO5⟩
         clear hOr
         have hOr := Lib.hid hO5
         have hOc := Lib.hid hO5
         clear hO5
         refine hK.out _ _ ?hsrfx34r56o6 (fun hS => ?_)
         case hsrfx34r56o6 => (exact HCS.out _ _ hOr.out)
         clear hK K
         refine wpAnyH_take (i := 7) (oi := ⟨some 250, .move (.tmp 257), 46, "law.go:177", #[⟨6, .data⟩], none⟩) (v := ?vrfx34r56o7) rfl (by kernel_rfl) (by kernel_rfl) (by kernel_rfl) (fun _ _ _ h => h) (Or.inl ⟨by rfl, ?hrfx34r56o7⟩) hS ?_
         case hrfx34r56o7 => (intro wx hx; skip; go_simp; (try with_reducible rfl))
         try simp only [Act.put, List.setIfInBounds_toArray, List.set_cons_zero, List.set_cons_succ]
         refine wpAnyH_take (i := 8) (oi := ⟨some 258, .extract (.tmp 250) 0, 37, "law.go:177", #[⟨7, .data⟩], none⟩) (v := ?vrfx34r56o8) rfl (by kernel_rfl) (by kernel_rfl) (by kernel_rfl) (fun _ _ _ h => h) (Or.inl ⟨by rfl, ?hrfx34r56o8⟩) hS ?_
         case hrfx34r56o8 => (intro wx hx; skip; go_simp; (try with_reducible rfl))
         try simp only [Act.put, List.setIfInBounds_toArray, List.set_cons_zero, List.set_cons_succ]
         refine wpAnyH_take (i := 9) (oi := ⟨some 259, .extract (.tmp 250) 1, 3, "law.go:177", #[⟨7, .data⟩, { on := 12, ground := Ground.gcOnly Departure.lateStores }], none⟩) (v := ?vrfx34r56o9) rfl (by kernel_rfl) (by kernel_rfl) (by kernel_rfl) (fun _ _ _ h => h) (Or.inl ⟨by rfl, ?hrfx34r56o9⟩) hS ?_
         case hrfx34r56o9 => (intro wx hx; skip; go_simp; (try with_reducible rfl))
         try simp only [Act.put, List.setIfInBounds_toArray, List.set_cons_zero, List.set_cons_succ]
         refine wpAnyH_take (i := 10) (oi := ⟨some 260, .extract (.tmp 250) 2, 45, "law.go:177", #[⟨7, .data⟩, { on := 13, ground := Ground.gcOnly Departure.lateStores }], none⟩) (v := ?vrfx34r56o10) rfl (by kernel_rfl) (by kernel_rfl) (by kernel_rfl) (fun _ _ _ h => h) (Or.inl ⟨by rfl, ?hrfx34r56o10⟩) hS ?_
         case hrfx34r56o10 => (intro wx hx; skip; go_simp; (try with_reducible rfl))
         try simp only [Act.put, List.setIfInBounds_toArray, List.set_cons_zero, List.set_cons_succ]
         refine wpAnyH_ready (rs := [12]) (by kernel_rfl) (by simp) ?_
         refine AllReadyH.cons (o := ⟨none, .store 37 (.tmp 22) (.tmp 258), 0, "law.go:177", #[⟨11, .data⟩, ⟨8, .data⟩, ⟨6, .chain⟩, ⟨0, .phase⟩, ⟨1, .phase⟩, ⟨2, .phase⟩, ⟨3, .phase⟩, ⟨4, .phase⟩, ⟨5, .phase⟩, ⟨6, .phase⟩, ⟨7, .phase⟩, ⟨8, .phase⟩, { on := 9, ground := Ground.textOnly Departure.lateStores }, { on := 10, ground := Ground.textOnly Departure.lateStores }, ⟨11, .phase⟩], none⟩) rfl (fun K hK => ?_) AllReadyH.nil
         first | (have hOn := Lib.hid (box_add2 hOc.out s1 (mi : Int)); go_simp; refine hK.out _ _ ?hsb (fun hS => ?_); (case hsb => exact HCS.out [_] _ hOn.out); clear hK K) | (obtain ⟨e0, e1, f0, f1⟩ := ebox_cells hOr.out (k := 6) rfl; obtain ⟨wn, hwn, hOn0⟩ := ebox_put (.string s1) (.int .i64 (mi : Int)) hOr.out (k := 6) rfl; have e0' : w5.cell? ⟨wr.heap.size, 0, none⟩ = _ := e0; have e1' : w5.cell? ⟨wr.heap.size, 1, none⟩ = _ := e1; have f0' : w5.frozen? ⟨wr.heap.size, 0, none⟩ = false := f0; have f1' : w5.frozen? ⟨wr.heap.size, 1, none⟩ = false := f1; have Hwn : Hid ((w5.setCell ⟨wr.heap.size, 0, none⟩ (.string s1)).setCell ⟨wr.heap.size, 1, none⟩ (.int .i64 (mi : Int)) = wn) := Lib.hid hwn; have hOn := Lib.hid hOn0; clear hOn0 hwn e0 e1 f0 f1; go_simp; (try rw [Hwn.out]); refine hK.out _ _ ?hsb (fun hS => ?_); (case hsb => exact HCS.out [_] _ hOn.out); clear hK K)
         try simp only [Act.put, List.setIfInBounds_toArray, List.set_cons_zero, List.set_cons_succ]
         refine wpAnyH_take (i := 13) (oi := ⟨some 23, .assign (.tmp 259), 3, "law.go:177", #[⟨9, .data⟩, ⟨12, .chain⟩, ⟨0, .phase⟩, ⟨1, .phase⟩, ⟨2, .phase⟩, ⟨3, .phase⟩, ⟨4, .phase⟩, ⟨5, .phase⟩, ⟨6, .phase⟩, ⟨7, .phase⟩, ⟨8, .phase⟩, ⟨9, .phase⟩, { on := 10, ground := Ground.textOnly Departure.lateStores }, ⟨11, .phase⟩, ⟨12, .phase⟩], none⟩) (v := ?vrfx34r56o13) rfl (by kernel_rfl) (by kernel_rfl) (by kernel_rfl) (fun _ _ _ h => h) (Or.inl ⟨by rfl, ?hrfx34r56o13⟩) hS ?_
         case hrfx34r56o13 => (intro wx hx; skip; go_simp; (try with_reducible rfl))
         try simp only [Act.put, List.setIfInBounds_toArray, List.set_cons_zero, List.set_cons_succ]
         refine wpAnyH_take (i := 14) (oi := ⟨some 24, .assign (.tmp 260), 45, "law.go:177", #[⟨10, .data⟩, ⟨13, .chain⟩, ⟨0, .phase⟩, ⟨1, .phase⟩, ⟨2, .phase⟩, ⟨3, .phase⟩, ⟨4, .phase⟩, ⟨5, .phase⟩, ⟨6, .phase⟩, ⟨7, .phase⟩, ⟨8, .phase⟩, ⟨9, .phase⟩, ⟨10, .phase⟩, ⟨11, .phase⟩, ⟨12, .phase⟩, ⟨13, .phase⟩], none⟩) (v := ?vrfx34r56o14) rfl (by kernel_rfl) (by kernel_rfl) (by kernel_rfl) (fun _ _ _ h => h) (Or.inl ⟨by rfl, ?hrfx34r56o14⟩) hS ?_
         case hrfx34r56o14 => (intro wx hx; skip; go_simp; (try with_reducible rfl))
         try simp only [Act.put, List.setIfInBounds_toArray, List.set_cons_zero, List.set_cons_succ]
         refine wpAnyH_done (by kernel_rfl) ?_ _
         go_wp2
         go_meet
         case rel => (obtain ⟨_, v1, _, _⟩ := ebox_cells hOn.out (k := 6) rfl; exact ⟨_, kk, hk12, rfl, rfl, rfl, Lib.hid v1, Lib.hid (Own.less (Qs := [_]) hOn.out)⟩)
        exact AllReadyH.nil
       case rest =>
       as_aux_lemma =>
       clear hOr HFi HCS HS0
       obtain ⟨X2, kk, hk12, rfl, rfl, rfl, Hx, hO⟩ := hcut
       have v1 := Hx.out
       obtain ⟨b', hb', q1, _⟩ := Own.cell hO.out 3 rfl j (.int .i64 (mi : Int)) (nods_get Hp.out)
       cases hb'
       have qm : ((mi : Int) != (mi : Int)) = false := by simp
       have qa : decide ((kk : Int) < 0) = false := by simp
       have qb : decide ((12 : Int) ≤ (kk : Int)) = false := by simp; omega
       have hOE := Lib.hid (fun wx nq (e : wx = World.drewN _ nq) => e ▸ hO.out.quiet (grown_drewN _ nq none))
       go_wp2_with fail
       go_quiet (fail)
       go_wp2
       go_roundw
       case rel => exact ⟨j + 1, by omega, by go_num, Lib.hid (hO.out.quiet (grown_drewN _ _ _))⟩
       case measure => simp [intOf]; omega
      ·as_aux_lemma =>
       obtain rfl : n2 = j := by omega
       have hlj' : ¬ (n2 : Int) < (n2 : Int) := by omega
       have HFl := Lib.hid (FlatH 4 g xs L' w wr _ hO.out rfl)
       rw [hxl.out] at HFl
       have HSy := Lib.hid HD.out.flat
       generalize flatV xs L' = ys at HFl HSy
       have z4' : ((N : Int) != (N : Int)) = false := by simp
       clear hO hj j0
       go_wp2_with fail
       refine HFl.out.mono ?_
       rintro e w6 ⟨ad6, cp6, rfl, hO6⟩
       clear HFl
       obtain ⟨y0, y1, y2⟩ := geo_cells hO6 (k := 0) rfl
       have hO6 := Lib.hid hO6
       go_wp2_with fail
       refine (HWd.out _).mono ?_
       rintro e w7 ⟨rfl, hg7⟩
       have hOE : Hid (Grommet.Own w w7 [boxP G 23 #[.int .i64 1, .int .i64 21, .int .i64 (B : Int)], rowP 72 1 (.slice ad6 N cp6) N (ys.map wv), strP nad2 n2 ncp2 T2, nodP mad2 n2 mcp2 T2]) := Lib.hid (own_pick (hO6.out.quiet hg7))
       clear hO6 hg7 y0 y1 y2
       go_wp2
       go_roundw
       case rel => exact ⟨k + 1, n2, ad6, cp6, nad2, ncp2, mad2, mcp2, ys, _, T2, by omega, by go_num, rfl, rfl, rfl, HSy, hOE⟩
       case measure => simp [intOf]; omega
  ·as_aux_lemma =>
   obtain rfl : k = tl := by omega
   have hlt' : ¬ (k : Int) < (k : Int) := by omega
   have hgO := Lib.hid hO.out.grown
   have HWx := Lib.hid (entryNames.works_tab wr (tab_grown HTab.out hO.out.grown))
   clear hO HS
   go_wp2_with fail
   refine HWx.out.mono ?_
   rintro e w9 ⟨rfl, hg⟩
   have hgE := Lib.hid (grown_trans hgO.out hg)
   go_wp2
   go_ret
   exact ⟨rfl, hgE.out⟩
theorem walk (a0 : Int) (td : Option Addr) (tl tc : Nat) (S : List Tst) (w : World) (w0 : (Lit.int .u8 a0).wf = true) (w1 : TstsIn w td tl S) (ht : Lib.TabIs Tryz.prog w "math/bits.deBruijn64tab" .u8 tab) :
  Calls Tryz.prog 4 #[.int .u8 a0, .slice td tl tc] w (Go.Ev.WorksIs w) := by
 have b1 := bounds_u8 w0
 obtain ⟨A, rfl⟩ := Int.eq_ofNat_of_zero_le b1.1
 exact walk_at A td tl tc S w (by omega) w1 ht
end Go.Proofs.YtfljlmmiiccooaaGreatDoor.entryTable
