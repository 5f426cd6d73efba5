/- AllocOnce, walked. -/
import Derived.Test.YtdblgnccjpjabaaDoorOncK
import Derived.Deep.DeepCutAuto
import Derived.Deep.CutBlock
namespace Go.Proofs.YtdblgnccjpjabaaDoor.allocOnce
open Go.RowKit Go.Grommet Go.Proofs.YtdblgnccjpjabaaDoor.allocLeast

set_option maxRecDepth 100000 in
set_option maxHeartbeats 1000000 in
theorem walk_far (a0 a1 : Int) (td : Option Addr) (tl tc : Nat) (w : World) (ht : Lib.TabIs Tryd.prog w "math/bits.deBruijn64tab" .u8 tab) (h : 60 < tl) :
    Calls Tryd.prog 4 #[.int .u8 a0, .int .u8 a1, .slice td tl tc] w (Go.Ev.WorksIs w) := by
  have HW := Lib.hid (works7_tab w ht)
  clear ht
  have g1 : (60 : Int) < (tl : Int) := by omega
  go_enter Tryd.func4, Tryd.ntmps4
  go_wp2_with fail
  refine HW.out.mono ?_
  rintro e w5 ⟨rfl, hg⟩
  go_wp2
  go_ret
  exact ⟨rfl, hg⟩

theorem box_at {w0 w : World} {Ps : List Pr} {X : Nat} {f : Nat → Bool} (h : Grommet.Own w0 w Ps) (k : Nat) (hk : Ps[k]? = some (boxP X 63 (hasC f))) (n : Nat) (hn : n < 64) (b : Bool) (hb : f n = b) : w.cell? ⟨X, n, none⟩ = some (.bool b) ∧ w.frozen? ⟨X, n, none⟩ = false := by
  have hx := h.box k hk
  have hg := hasC_get f n hn
  rw [hb] at hg
  simp [World.cell?, World.frozen?, hx, hg]
theorem geo_at {w0 w : World} {Ps : List Pr} {G I B : Nat} (h : Grommet.Own w0 w (boxP G 23 (geoCs 1 I B) :: Ps)) : w.cell? ⟨G, 0, none⟩ = some (.int .i64 1) ∧ w.cell? ⟨G, 1, none⟩ = some (.int .i64 (I : Int)) ∧ w.cell? ⟨G, 2, none⟩ = some (.int .i64 (B : Int)) := by
  have hx := h.box 0 rfl
  simp [World.cell?, hx, geoCs]

set_option maxRecDepth 100000 in
set_option maxHeartbeats 8000000 in
theorem walk_at (x0 x1 : Nat) (td : Option Addr) (tl tc : Nat) (T : List Alo) (w : World) (h0 : x0 ≤ 255) (h1 : x1 ≤ 255) (hl : tl ≤ 60) (hT : AlosIn w td tl T)
    (ht : Lib.TabIs Tryd.prog w "math/bits.deBruijn64tab" .u8 tab) :
    Calls Tryd.prog 4 #[.int .u8 (x0 : Int), .int .u8 (x1 : Int), .slice td tl tc] w (Go.Ev.WorksIs w) := by
  have HTab := Lib.hid ht
  have HT := Lib.hid hT
  have g1 : ¬ (60 : Int) < (tl : Int) := by omega
  obtain ⟨I, hI⟩ : ∃ I, 2 + x0 % 20 = I := ⟨_, rfl⟩
  obtain ⟨B, hB⟩ : ∃ B, 2 + x1 % 40 = B := ⟨_, rfl⟩
  have hI1 : 2 ≤ I := by omega
  have hI2 : I ≤ 21 := by omega
  have hB1 : 2 ≤ B := by omega
  have hB2 : B ≤ 41 := by omega
  have eA : IntKind.i64.wrap (x0 : Int) = (x0 : Int) := IntWalk.i64_in _ ⟨by omega, by omega⟩
  have eA2 : IntKind.i64.wrap (x1 : Int) = (x1 : Int) := IntWalk.i64_in _ ⟨by omega, by omega⟩
  have e3 : IntKind.i64.wrap (2 + (x0 : Int) % 20) = (I : Int) := by rw [IntWalk.i64_in _ ⟨by omega, by omega⟩]; omega
  have e3' : 2 + (x0 : Int) % 20 = (I : Int) := by omega
  have e4 : IntKind.i64.wrap (2 + (x1 : Int) % 40) = (B : Int) := by rw [IntWalk.i64_in _ ⟨by omega, by omega⟩]; omega
  have e4' : 2 + (x1 : Int) % 40 = (B : Int) := by omega
  clear hI hB ht hT
  go_enter Tryd.func4, Tryd.ntmps4
  go_wp2_with fail
  have hO : Grommet.Own w (w.alloc (.cells (geoCs 1 I B) 23)) [boxP w.heap.size 23 (geoCs 1 I B)] := (Own.nil w).addBox _ _
  change Calls _ _ #[Value.agg #[.int .i64 1, .int .i64 (I : Int), .int .i64 (B : Int)]] (w.alloc (.cells (geoCs 1 I B) 23)) _
  generalize w.alloc (.cells (geoCs 1 I B) 23) = u0 at hO ⊢
  obtain ⟨G, hG⟩ : ∃ G, w.heap.size = G := ⟨_, rfl⟩
  rw [hG] at hO ⊢
  clear hG e3 e3' eA e4 e4' eA2 h0 h1
  have hmay : mayB ((1 : Nat) : Int) (I : Int) (B : Int) = true := by unfold mayB; simp; omega
  obtain ⟨N, hN⟩ : ∃ N, 488 + 16 * I + 8 * B = N := ⟨_, rfl⟩
  have hS0 := St.begun I B N hI1 hI2 hB1 hB2 hN
  have hsm := fmt_small 1 I B N hmay
  obtain ⟨xs0, hxs⟩ : ∃ xs, fmtL 1 I B (264 + 208 * 1) N = xs := ⟨_, rfl⟩
  rw [hxs] at hS0 hsm
  have HF := Lib.hid (FormatH 1 I B N xs0 w u0 _ hO hmay (by omega) hxs)
  have HWd := Lib.hid (fun wx => Words_any ((1 : Nat) : Int) (I : Int) (B : Int) wx)
  rw [show wordsV ((1 : Nat) : Int) (I : Int) (B : Int) = (N : Int) from by rw [words_pos hmay]; omega] at HWd
  unfold gv at HWd
  rw [show ((1 : Nat) : Int) = 1 from rfl] at HF HWd
  have hNl : N ≤ 2000 := by omega
  have hN0 : 520 ≤ N := by omega
  have Hm := Lib.hid hmay
  have HS0 := Lib.hid hS0
  have Hsm := Lib.hid hsm
  have HNe := Lib.hid hN
  clear hO hxs hN hmay hS0 hsm
  refine HF.out.mono ?_
  rintro e u1 ⟨q, rfl, hO⟩
  clear HF
  have hb1 := hO.box 0 rfl
  have f0 : u1.cell? ⟨G, 0, none⟩ = some (.int .i64 1) := by simp [World.cell?, hb1, geoCs]
  have f1 : u1.cell? ⟨G, 1, none⟩ = some (.int .i64 (I : Int)) := by simp [World.cell?, hb1, geoCs]
  have f2 : u1.cell? ⟨G, 2, none⟩ = some (.int .i64 (B : Int)) := by simp [World.cell?, hb1, geoCs]
  have hO := Lib.hid hO
  clear hb1
  go_wp2_with fail
  refine (HWd.out _).mono ?_
  rintro e u2 ⟨rfl, hg2⟩
  clear HWd f0 f1 f2
  have hO2 := hO.out.quiet hg2
  clear hg2 hO
  obtain ⟨X, hX⟩ : ∃ X, u2.heap.size = X := ⟨_, rfl⟩
  have hA2 : Grommet.Own w ((u2.alloc (.cells (Array.replicate 64 (Value.bool false)) 63)).alloc (.cells (Array.replicate 64 (Value.bool false)) 63)) [boxP G 23 (geoCs 1 I B), rowP 31 1 (.slice (some ⟨q, 0, none⟩) N N) N (xs0.map wv), boxP X 63 (Array.replicate 64 (Value.bool false)), boxP (X + 1) 63 (Array.replicate 64 (Value.bool false))] := by
    have := (hO2.addBox 63 (Array.replicate 64 (Value.bool false))).addBox 63 (Array.replicate 64 (Value.bool false))
    rw [hX, show (u2.alloc (.cells (Array.replicate 64 (Value.bool false)) 63)).heap.size = X + 1 by simp [hX]] at this
    exact this
  have hA2 := Lib.hid hA2
  have k0 : ((N : Int) == 0) = false := by rw [beq_eq_false_iff_ne]; omega
  have k0' : ¬ (N : Int) = 0 := by omega
  have k1 : ((N : Int) != (N : Int)) = false := by simp
  clear hO2
  go_upto_region 8 with fail
  generalize hW3 : World.alloc _ _ = W3
  obtain ⟨Y, hY⟩ : ∃ Y, X + 1 = Y := ⟨_, rfl⟩
  have hO3 : Hid (Grommet.Own w W3 [boxP G 23 (geoCs 1 I B), rowP 31 1 (.slice (some ⟨q, 0, none⟩) N N) N (xs0.map wv), boxP X 63 (hasC (fH 2 I (fun i => decide (i < 2)))), boxP Y 63 (hasC (fH 1 B (fun i => decide (i < 1))))]) := Lib.hid (by
    rw [← hasC_none (fH 2 I (fun i => decide (i < 2))) (fun n => by simp [fH]; omega), ← hasC_none (fH 1 B (fun i => decide (i < 1))) (fun n => by simp [fH]; omega), ← hW3, ← hY]
    exact hA2.out)
  rw [hY]
  clear hA2 hW3 hX hY
  have hb1 := hO3.out.box 0 rfl
  have f1 : W3.cell? ⟨G, 1, none⟩ = some (.int .i64 (I : Int)) := by simp [World.cell?, hb1, geoCs]
  have f2 : W3.cell? ⟨G, 2, none⟩ = some (.int .i64 (B : Int)) := by simp [World.cell?, hb1, geoCs]
  obtain ⟨p0, hp0⟩ : ∃ p, I - 2 = p := ⟨_, rfl⟩
  obtain ⟨q0, hq0⟩ : ∃ q, B - 1 = q := ⟨_, rfl⟩
  have s1 : IntKind.i64.wrap ((I : Int) - 2) = (p0 : Int) := by rw [IntWalk.i64_in _ ⟨by omega, by omega⟩]; omega
  have s2 : IntKind.i64.wrap ((B : Int) - 1) = (q0 : Int) := by rw [IntWalk.i64_in _ ⟨by omega, by omega⟩]; omega
  rw [hp0, hq0] at HS0
  clear hb1 hp0 hq0 k0 k0' k1
  go_wp2_with fail
  clear f1 f2 s1 s2
  have hI64 : (I : Int) < 64 := by omega
  have hB64 : (B : Int) < 64 := by omega
  go_loopw [8, 11, 12, 13] (fun sl iv bv kv wr => ∃ (k : Nat) (ad : Option Addr) (cp : Nat) (xs : List Nat) (ui ub : Nat → Bool) (p q : Nat), k ≤ tl ∧ kv = .int .i64 (k : Int) ∧ sl = .slice ad N cp ∧ iv = .int .i64 (p : Int) ∧ bv = .int .i64 (q : Int) ∧ Hid (St I B N xs [] ui ub p q) ∧ Hid (∀ n ∈ xs, n < 18446744073709551616) ∧ Hid (Grommet.Own w wr [boxP G 23 (geoCs 1 I B), rowP 31 1 (.slice ad N cp) N (xs.map wv), boxP X 63 (hasC (fH 2 I ui)), boxP Y 63 (hasC (fH 1 B ub))])) (fun _ _ _ kv _ => tl - (intOf kv).toNat)
  case atStart => exact ⟨0, _, _, xs0, _, _, _, _, Nat.zero_le _, rfl, rfl, rfl, rfl, HS0, Hsm, hO3⟩
  case round =>
    clear hO3 HS0 Hsm
    obtain ⟨k, ad, cp, xs, ui, ub, p, q, hk, rfl, rfl, rfl, rfl, HS, Hsm, hO⟩ := hrel
    have k0 : (0 : Int) ≤ (k : Int) := by omega
    by_cases hlt : k < tl
    · have hlt' : (k : Int) < (tl : Int) := by omega
      obtain ⟨x, hx⟩ : ∃ x, T[k]? = some x := ⟨T[k]'(by rw [HT.out.1]; exact hlt), List.getElem?_eq_getElem _⟩
      obtain ⟨tg, to', htd, _, _, _⟩ := (HT.out.grown hO.out.grown).2.2 k x hx
      subst htd
      obtain ⟨ok0, ok1⟩ := HT.out.2.1 x (List.mem_of_getElem? hx)
      have Hc := Lib.hid (fun wx (hg : w.grownBy wx none) => ((HT.out.grown hg).at k x hx))
      clear hx
      obtain ⟨xd, xn, xdr⟩ := x
      dsimp only at ok0 ok1 Hc
      have b0 := bounds_u8 ok0
      have b1 := bounds_i64 ok1
      obtain ⟨D, rfl⟩ := Int.eq_ofNat_of_zero_le b0.1
      obtain ⟨r, Hr⟩ : ∃ r, Hid (r = D % 4) := ⟨_, Lib.hid rfl⟩
      have hr4 : r < 4 := by rw [Hr.out]; omega
      have e4 : (D : Int) % 4 = (r : Int) := by rw [Hr.out]; omega
      have e4' : Int.tmod (D : Int) 4 = (r : Int) := by rw [Int.tmod_eq_emod_of_nonneg (by omega)]; exact e4
      have wr4 : IntKind.u8.wrap (r : Int) = (r : Int) := IntWalk.u8_in _ ⟨by omega, by omega⟩
      obtain ⟨hW, hnil, _⟩ := Own.words hO.out 1 rfl Hsm.out (by omega)
      have HNew := Lib.hid (NewH ad N cp xs w _ _ hO.out hW (by omega) hnil)
      clear hO hW hnil ok0 ok1 b0
      go_wp2_with fail
      refine HNew.out.mono ?_
      rintro e w1 ⟨g, rfl, hO1⟩
      have hO1 : Grommet.Own w w1 ([boxP G 23 (geoCs 1 I B), rowP 31 1 (.slice ad N cp) N (xs.map wv), boxP X 63 (hasC (fH 2 I ui)), boxP Y 63 (hasC (fH 1 B ub))] ++ [viewP g xs []]) := hO1
      have hb1 := hO1.box 0 rfl
      have f0 : w1.cell? ⟨G, 0, none⟩ = some (.int .i64 1) := by simp [World.cell?, hb1, geoCs]
      have f1 : w1.cell? ⟨G, 1, none⟩ = some (.int .i64 (I : Int)) := by simp [World.cell?, hb1, geoCs]
      have f2 : w1.cell? ⟨G, 2, none⟩ = some (.int .i64 (B : Int)) := by simp [World.cell?, hb1, geoCs]
      have HA := Lib.hid (ANewH 4 g 1 I B xs [] w w1 _ hO1 rfl Hm.out (by have := HS.out.n; have := HS.out.len; omega) (by have := HS.out.len; omega))
      rw [show ((1 : Nat) : Int) = 1 from rfl] at HA
      clear hO1 hb1 HNew
      go_wp2_with fail
      refine HA.out.mono ?_
      rintro e w2 ⟨Z, XI, XB, XA, rfl, hO2⟩
      have hO2 : Hid (Grommet.Own w w2 [boxP G 23 (geoCs 1 I B), rowP 31 1 (.slice ad N cp) N (xs.map wv), boxP X 63 (hasC (fH 2 I ui)), boxP Y 63 (hasC (fH 1 B ub)), viewP g xs [], boxP Z 23 (geoCs 1 I B), mapP XI g (264 + 208 * 1) I, mapP XB g (272 + 208 * 1) B, allocP XA g 1 I B XI XB]) := Lib.hid hO2
      clear HA f0 f1 f2
      obtain ⟨c0, _, _⟩ := Hc.out w2 hO2.out.grown
      have hAlc : ∀ (L : List (Nat × Nat)) (R1 R2 R3 : Pr), AlcIs (boxP G 23 (geoCs 1 I B) :: R1 :: R2 :: R3 :: [viewP g xs L, boxP Z 23 (geoCs 1 I B), mapP XI g (264 + 208 * 1) I, mapP XB g (272 + 208 * 1) B, allocP XA g 1 I B XI XB]) 4 6 7 8 g 1 I B XI XB XA xs L := fun L R1 R2 R3 => ⟨rfl, rfl, rfl, rfl, Hm.out, by have := HS.out.n; have := HS.out.len; omega, by have := HS.out.len; omega⟩
      have hAlc := Lib.hid hAlc
      go_upto_block 2 with fail
      go_cut [17, 18, 11, 12] (fun nv fv iv bv wx => ∃ (m en : Nat) (L : List (Nat × Nat)) (vi vb : Nat → Bool) (p' q' : Nat), nv = .int .i64 (m : Int) ∧ fv = .int .i64 (en : Int) ∧ iv = .int .i64 (p' : Int) ∧ bv = .int .i64 (q' : Int) ∧ Hid (St I B N xs L vi vb p' q') ∧ Hid (L.length ≤ 9) ∧ Hid (r = 1 → en = 0 → m < B ∧ ∃ P, 488 + 16 * I + 8 * m = P ∧ P + 8 ≤ N ∧ ∀ j, j < 8 → gotV xs L (P + j) = 0) ∧ Hid (Grommet.Own w wx [boxP G 23 (geoCs 1 I B), rowP 31 1 (.slice ad N cp) N (xs.map wv), boxP X 63 (hasC (fH 2 I vi)), boxP Y 63 (hasC (fH 1 B vb)), viewP g xs L, boxP Z 23 (geoCs 1 I B), mapP XI g (264 + 208 * 1) I, mapP XB g (272 + 208 * 1) B, allocP XA g 1 I B XI XB]))
      case first =>
        as_aux_lemma =>
        clear c0
        have hr : r = 0 ∨ r = 1 ∨ r = 2 ∨ r = 3 := by omega
        clear hr4 e4 e4' wr4
        rcases hr with hr | hr | hr | hr
        · have HR := Lib.hid hr
          clear hr
          have q0 : ((r : Int) == 0) = true := by rw [HR.out]; rfl
          rcases HS.out.first_i with ⟨n, hc, hn, hf⟩ | ⟨hc, hz0⟩
          · as_aux_lemma =>
            obtain ⟨n2, p', hp', hSt⟩ := HS.out.take_i Hsm.out n hn hf
            have HTk := Lib.hid (TakeInodeYes 4 6 7 8 g 1 I B XI XB XA n xs [] w _ _ hO2.out (hAlc.out _ _ _ _) HTab.out hc hn (by simp))
            have hL9' : Hid ((setMI xs [] (264 + 208 * 1) I (n : Int) true).length ≤ 9) := Lib.hid (by have := set_length (xs := xs) (L := []) (A := 264 + 208 * 1) (m := I) (i := (n : Int)) (is := true); simp only [List.length_nil] at this; omega)
            have hSt := Lib.hid hSt
            obtain ⟨L1, hL1⟩ : ∃ L1, (setMI xs [] (264 + 208 * 1) I (n : Int) true) = L1 := ⟨_, rfl⟩
            rw [hL1] at hL9' hSt HTk
            have z1 : ((p : Int) == 0) = false := by rw [beq_eq_false_iff_ne]; omega
            have z1' : ¬ (p : Int) = 0 := by omega
            have n3 : ¬ (n : Int) < 2 := by omega
            have n4 : ¬ (I : Int) ≤ (n : Int) := by omega
            have n0 : (0 : Int) ≤ (n : Int) := by omega
            have n64 : (n : Int) < 64 := by omega
            have wp : IntKind.i64.wrap ((p : Int) - 1) = (p' : Int) := by have := HS.out.p; rw [IntWalk.i64_in _ ⟨by omega, by omega⟩]; omega
            have hfH : Hid (fH 2 I ui n = false) := Lib.hid (by rw [fH_in n2 hn, hf])
            have hn64 : Hid (n < 64) := Lib.hid (by omega)
            have Hn2 : Hid (2 ≤ n ∧ n < I) := Lib.hid ⟨n2, hn⟩
            clear hc hf hn n2 hp' hL1
            go_wp2_with fail
            refine HTk.out.mono ?_
            rintro e w5 ⟨rfl, hO5⟩
            have hO5 : Hid (Grommet.Own w w5 [boxP G 23 (geoCs 1 I B), rowP 31 1 (.slice ad N cp) N (xs.map wv), boxP X 63 (hasC (fH 2 I ui)), boxP Y 63 (hasC (fH 1 B ub)), viewP g xs L1, boxP Z 23 (geoCs 1 I B), mapP XI g (264 + 208 * 1) I, mapP XB g (272 + 208 * 1) B, allocP XA g 1 I B XI XB]) := Lib.hid hO5
            obtain ⟨f0, f1, f2⟩ := geo_at hO5.out
            obtain ⟨y1, y2⟩ := box_at hO5.out 2 rfl n hn64.out false hfH.out
            clear HTk
            go_wp2_with fail
            have hOs := own_store_box hO5.out 2 rfl n (.bool true)
            rw [hasC_turn 2 I ui n true Hn2.out.1 Hn2.out.2] at hOs
            have hOs : Hid (Grommet.Own w (w5.setCell ⟨X, n, none⟩ (.bool true)) [boxP G 23 (geoCs 1 I B), rowP 31 1 (.slice ad N cp) N (xs.map wv), boxP X 63 (hasC (fH 2 I (turn ui n true))), boxP Y 63 (hasC (fH 1 B ub)), viewP g xs L1, boxP Z 23 (geoCs 1 I B), mapP XI g (264 + 208 * 1) I, mapP XB g (272 + 208 * 1) B, allocP XA g 1 I B XI XB]) := Lib.hid hOs
            go_meet
            case rel => exact ⟨n, 0, L1, _, _, p', q, rfl, rfl, rfl, rfl, hSt, hL9', Lib.hid (fun e _ => by rw [HR.out] at e; cases e), hOs⟩
          · as_aux_lemma =>
            have HTk := Lib.hid (TakeInodeNone 4 6 7 8 g 1 I B XI XB XA xs [] w _ _ hO2.out (hAlc.out _ _ _ _) HTab.out hc)
            subst hz0
            clear hc
            go_wp2_with fail
            refine HTk.out.mono ?_
            rintro e w5 ⟨rfl, hO5⟩
            have hO5 := Lib.hid hO5
            clear HTk
            go_wp2_with fail
            go_meet
            case rel => exact ⟨0, 7, [], _, _, 0, q, rfl, rfl, rfl, rfl, HS, Lib.hid (by simp), Lib.hid (fun _ e => by cases e), hO5⟩
        · have HR := Lib.hid hr
          clear hr
          have q0 : ((r : Int) == 0) = false := by rw [HR.out]; rfl
          have q1 : ((r : Int) == 1) = true := by rw [HR.out]; rfl
          rcases HS.out.first_b with ⟨n, hc, hn, hf⟩ | ⟨hc, hz0⟩
          · as_aux_lemma =>
            obtain ⟨P, hP⟩ : ∃ P, 488 + 16 * I + 8 * n = P := ⟨_, rfl⟩
            obtain ⟨n2, hPN, hz, hL9, p', hp', hSt⟩ := HS.out.take_b Hsm.out n P hn hf hP
            have HTk := Lib.hid (TakeBlockYes 4 6 7 8 g 1 I B XI XB XA n P xs [] w _ _ hO2.out (hAlc.out _ _ _ _) HTab.out hc hn (by omega) (by simp) (by omega))
            have hL9' : Hid ((zeroL xs P (setMI xs [] (272 + 208 * 1) B (n : Int) true) 8).length ≤ 9) := Lib.hid (by exact hL9)
            have hSt := Lib.hid hSt
            obtain ⟨L1, hL1⟩ : ∃ L1, (zeroL xs P (setMI xs [] (272 + 208 * 1) B (n : Int) true) 8) = L1 := ⟨_, rfl⟩
            rw [hL1] at hL9' hSt HTk hz
            have hzh : Hid (r = 1 → n < B ∧ ∃ P, 488 + 16 * I + 8 * n = P ∧ P + 8 ≤ N ∧ ∀ j, j < 8 → gotV xs L1 (P + j) = 0) := Lib.hid (fun _ => ⟨hn, P, hP, hPN, hz⟩)
            have z1 : ((q : Int) == 0) = false := by rw [beq_eq_false_iff_ne]; omega
            have z1' : ¬ (q : Int) = 0 := by omega
            have n3 : ¬ (n : Int) < 1 := by omega
            have n4 : ¬ (B : Int) ≤ (n : Int) := by omega
            have n0 : (0 : Int) ≤ (n : Int) := by omega
            have n64 : (n : Int) < 64 := by omega
            have wp : IntKind.i64.wrap ((q : Int) - 1) = (p' : Int) := by have := HS.out.q; rw [IntWalk.i64_in _ ⟨by omega, by omega⟩]; omega
            have hfH : Hid (fH 1 B ub n = false) := Lib.hid (by rw [fH_in n2 hn, hf])
            have hn64 : Hid (n < 64) := Lib.hid (by omega)
            have Hn2 : Hid (1 ≤ n ∧ n < B) := Lib.hid ⟨n2, hn⟩
            clear hc hf hn n2 hp' hL1 hz hP hPN hL9
            go_wp2_with fail
            refine HTk.out.mono ?_
            rintro e w5 ⟨qq, rfl, hO5⟩
            have hO5 : Hid (Grommet.Own w w5 [boxP G 23 (geoCs 1 I B), rowP 31 1 (.slice ad N cp) N (xs.map wv), boxP X 63 (hasC (fH 2 I ui)), boxP Y 63 (hasC (fH 1 B ub)), viewP g xs L1, boxP Z 23 (geoCs 1 I B), mapP XI g (264 + 208 * 1) I, mapP XB g (272 + 208 * 1) B, allocP XA g 1 I B XI XB]) := Lib.hid (Own.less hO5)
            obtain ⟨f0, f1, f2⟩ := geo_at hO5.out
            obtain ⟨y1, y2⟩ := box_at hO5.out 3 rfl n hn64.out false hfH.out
            have HU := Lib.hid (UsedH 4 6 7 8 g 1 I B XI XB XA xs L1 (n : Int) true w w5 _ hO5.out (hAlc.out _ _ _ _) (by unfold getM; rw [show inB (n : Int) B = true from by unfold inB; have := Hn2.out; simp; omega, Int.toNat_natCast, hSt.out.bb n Hn2.out.2]; simp [turn]))
            clear HTk
            go_wp2_with fail
            refine HU.out.mono ?_
            rintro e w6 ⟨rfl, hO6⟩
            obtain ⟨y1', y2'⟩ := box_at hO6 3 rfl n hn64.out false hfH.out
            have hOs := own_store_box hO6 3 rfl n (.bool true)
            rw [hasC_turn 1 B ub n true Hn2.out.1 Hn2.out.2] at hOs
            have hOs : Hid (Grommet.Own w (w6.setCell ⟨Y, n, none⟩ (.bool true)) [boxP G 23 (geoCs 1 I B), rowP 31 1 (.slice ad N cp) N (xs.map wv), boxP X 63 (hasC (fH 2 I ui)), boxP Y 63 (hasC (fH 1 B (turn ub n true))), viewP g xs L1, boxP Z 23 (geoCs 1 I B), mapP XI g (264 + 208 * 1) I, mapP XB g (272 + 208 * 1) B, allocP XA g 1 I B XI XB]) := Lib.hid hOs
            clear hO6 HU
            go_wp2_with fail
            go_meet
            case rel => exact ⟨n, 0, L1, _, _, p, p', rfl, rfl, rfl, rfl, hSt, hL9', Lib.hid (fun e1 _ => hzh.out e1), hOs⟩
          · as_aux_lemma =>
            have HTk := Lib.hid (TakeBlockNone 4 6 7 8 g 1 I B XI XB XA xs [] w _ _ hO2.out (hAlc.out _ _ _ _) HTab.out hc)
            subst hz0
            clear hc
            go_wp2_with fail
            refine HTk.out.mono ?_
            rintro e w5 ⟨rfl, hO5⟩
            have hO5 := Lib.hid hO5
            clear HTk
            go_wp2_with fail
            go_meet
            case rel => exact ⟨0, 7, [], _, _, p, 0, rfl, rfl, rfl, rfl, HS, Lib.hid (by simp), Lib.hid (fun _ e => by cases e), hO5⟩
        · have HR := Lib.hid hr
          clear hr
          have q0 : ((r : Int) == 0) = false := by rw [HR.out]; rfl
          have q1 : ((r : Int) == 1) = false := by rw [HR.out]; rfl
          have q2 : ((r : Int) == 2) = true := by rw [HR.out]; rfl
          obtain ⟨c0, c1, _⟩ := Hc.out _ hO2.out.grown
          obtain ⟨M, hM⟩ : ∃ M : Nat, (if (0 : Int) > xn then 0 else xn) = (M : Int) := ⟨(if (0 : Int) > xn then 0 else xn).toNat, by split <;> omega⟩
          have hM' : (if xn < (0 : Int) then 0 else xn) = (M : Int) := hM
          have hM2 : (M : Int) ≤ 9223372036854775807 := by rw [← hM]; split <;> omega
          have wM : IntKind.i64.wrap (M : Int) = (M : Int) := IntWalk.i64_in _ ⟨by omega, by omega⟩
          obtain ⟨s, hs⟩ : ∃ s, M % 40 = s := ⟨_, rfl⟩
          have es : (M : Int) % 40 = (s : Int) := by omega
          have es' : Int.tmod (M : Int) 40 = (s : Int) := by rw [Int.tmod_eq_emod_of_nonneg (by omega)]; exact es
          have ws : IntKind.i64.wrap (s : Int) = (s : Int) := IntWalk.i64_in _ ⟨by omega, by omega⟩
          obtain ⟨n, hn'⟩ : ∃ n, 2 + s = n := ⟨_, rfl⟩
          have en1 : 2 + (s : Int) = (n : Int) := by omega
          have wn : IntKind.i64.wrap (2 + (s : Int)) = (n : Int) := by rw [IntWalk.i64_in _ ⟨by omega, by omega⟩]; omega
          have wn' : IntKind.i64.wrap (n : Int) = (n : Int) := IntWalk.i64_in _ ⟨by omega, by omega⟩
          have hlo : 2 ≤ n := by omega
          have hn64' : n < 64 := by omega
          clear hs hn' b1
          rcases HS.out.gives_i n hlo with ⟨hfH, hn, hu, hE, hG⟩ | ⟨hfH, en, hen, hE, hG⟩
          · as_aux_lemma =>
            have HGv := Lib.hid (GiveInodeH 4 6 7 8 g 1 I B XI XB XA xs [] (n : Int) 0 w _ _ _ hO2.out (hAlc.out _ _ _ _) hE rfl)
            rw [hG] at HGv
            have hSt := Lib.hid (HS.out.give_i Hsm.out n hlo hn hu)
            have hL9' : Hid ((setMI xs [] (264 + 208 * 1) I (n : Int) false).length ≤ 9) := Lib.hid (by have := set_length (xs := xs) (L := []) (A := (264 + 208 * 1)) (m := I) (i := (n : Int)) (is := false); simp only [List.length_nil] at this; omega)
            obtain ⟨L1, hL1⟩ : ∃ L1, (setMI xs [] (264 + 208 * 1) I (n : Int) false) = L1 := ⟨_, rfl⟩
            rw [hL1] at hL9' hSt HGv
            have wp : IntKind.i64.wrap ((p : Int) + 1) = ((p + 1 : Nat) : Int) := by have := HS.out.p; rw [IntWalk.i64_in _ ⟨by omega, by omega⟩]; omega
            have Hn2 : Hid (2 ≤ n ∧ n < I) := Lib.hid ⟨hlo, hn⟩
            have HfH := Lib.hid hfH
            clear hn hu hL1 hfH hE hG
            have hn64 : Hid (n < 64) := Lib.hid (by omega)
            have n64 : (n : Int) < 64 := by omega
            have n0 : (0 : Int) ≤ (n : Int) := by omega
            go_wp2_with fail
            refine HGv.out.mono ?_
            rintro e w5 ⟨rfl, hO5⟩
            have hO5 : Hid (Grommet.Own w w5 [boxP G 23 (geoCs 1 I B), rowP 31 1 (.slice ad N cp) N (xs.map wv), boxP X 63 (hasC (fH 2 I ui)), boxP Y 63 (hasC (fH 1 B ub)), viewP g xs L1, boxP Z 23 (geoCs 1 I B), mapP XI g (264 + 208 * 1) I, mapP XB g (272 + 208 * 1) B, allocP XA g 1 I B XI XB]) := Lib.hid hO5
            obtain ⟨y1, y2⟩ := box_at hO5.out 2 rfl n hn64.out true HfH.out
            clear HGv c0 c1
            have hOs := own_store_box hO5.out 2 rfl n (.bool false)
            rw [hasC_turn 2 I ui n false Hn2.out.1 Hn2.out.2] at hOs
            have hOs : Hid (Grommet.Own w (w5.setCell ⟨X, n, none⟩ (.bool false)) [boxP G 23 (geoCs 1 I B), rowP 31 1 (.slice ad N cp) N (xs.map wv), boxP X 63 (hasC (fH 2 I (turn ui n false))), boxP Y 63 (hasC (fH 1 B ub)), viewP g xs L1, boxP Z 23 (geoCs 1 I B), mapP XI g (264 + 208 * 1) I, mapP XB g (272 + 208 * 1) B, allocP XA g 1 I B XI XB]) := Lib.hid hOs
            go_wp2_with fail
            go_meet
            case rel => exact ⟨n, 0, L1, _, _, p + 1, q, rfl, rfl, rfl, rfl, hSt, hL9', Lib.hid (fun e _ => by rw [HR.out] at e; cases e), hOs⟩
          · as_aux_lemma =>
            have HGv := Lib.hid (GiveInodeH 4 6 7 8 g 1 I B XI XB XA xs [] (n : Int) (en : Int) w _ _ _ hO2.out (hAlc.out _ _ _ _) hE rfl)
            rw [hG] at HGv
            have z1 : ((en : Int) == 0) = false := by rw [beq_eq_false_iff_ne]; omega
            have z1' : ¬ (en : Int) = 0 := by omega
            have HfH := Lib.hid hfH
            have Hen := Lib.hid hen
            clear hfH hE hG hen
            have hn64 : Hid (n < 64) := Lib.hid (by omega)
            have n64 : (n : Int) < 64 := by omega
            have n0 : (0 : Int) ≤ (n : Int) := by omega
            go_wp2_with fail
            refine HGv.out.mono ?_
            rintro e w5 ⟨rfl, hO5⟩
            have hO5 : Hid (Grommet.Own w w5 [boxP G 23 (geoCs 1 I B), rowP 31 1 (.slice ad N cp) N (xs.map wv), boxP X 63 (hasC (fH 2 I ui)), boxP Y 63 (hasC (fH 1 B ub)), viewP g xs [], boxP Z 23 (geoCs 1 I B), mapP XI g (264 + 208 * 1) I, mapP XB g (272 + 208 * 1) B, allocP XA g 1 I B XI XB]) := Lib.hid hO5
            obtain ⟨y1, y2⟩ := box_at hO5.out 2 rfl n hn64.out false HfH.out
            clear HGv c0 c1
            go_wp2_with fail
            go_meet
            case rel => exact ⟨n, en, [], _, _, p, q, rfl, rfl, rfl, rfl, HS, Lib.hid (by simp), Lib.hid (fun _ e => absurd e Hen.out), hO5⟩
        · have HR := Lib.hid hr
          clear hr
          have q0 : ((r : Int) == 0) = false := by rw [HR.out]; rfl
          have q1 : ((r : Int) == 1) = false := by rw [HR.out]; rfl
          have q2 : ((r : Int) == 2) = false := by rw [HR.out]; rfl
          obtain ⟨c0, c1, _⟩ := Hc.out _ hO2.out.grown
          obtain ⟨M, hM⟩ : ∃ M : Nat, (if (0 : Int) > xn then 0 else xn) = (M : Int) := ⟨(if (0 : Int) > xn then 0 else xn).toNat, by split <;> omega⟩
          have hM' : (if xn < (0 : Int) then 0 else xn) = (M : Int) := hM
          have hM2 : (M : Int) ≤ 9223372036854775807 := by rw [← hM]; split <;> omega
          have wM : IntKind.i64.wrap (M : Int) = (M : Int) := IntWalk.i64_in _ ⟨by omega, by omega⟩
          obtain ⟨s, hs⟩ : ∃ s, M % 50 = s := ⟨_, rfl⟩
          have es : (M : Int) % 50 = (s : Int) := by omega
          have es' : Int.tmod (M : Int) 50 = (s : Int) := by rw [Int.tmod_eq_emod_of_nonneg (by omega)]; exact es
          have ws : IntKind.i64.wrap (s : Int) = (s : Int) := IntWalk.i64_in _ ⟨by omega, by omega⟩
          obtain ⟨n, hn'⟩ : ∃ n, 1 + s = n := ⟨_, rfl⟩
          have en1 : 1 + (s : Int) = (n : Int) := by omega
          have wn : IntKind.i64.wrap (1 + (s : Int)) = (n : Int) := by rw [IntWalk.i64_in _ ⟨by omega, by omega⟩]; omega
          have wn' : IntKind.i64.wrap (n : Int) = (n : Int) := IntWalk.i64_in _ ⟨by omega, by omega⟩
          have hlo : 1 ≤ n := by omega
          have hn64' : n < 64 := by omega
          clear hs hn' b1
          rcases HS.out.gives_b n hlo with ⟨hfH, hn, hu, hE, hG⟩ | ⟨hfH, en, hen, hE, hG⟩
          · as_aux_lemma =>
            have HGv := Lib.hid (GiveBlockH 4 6 7 8 g 1 I B XI XB XA xs [] (n : Int) 0 w _ _ _ hO2.out (hAlc.out _ _ _ _) hE rfl)
            rw [hG] at HGv
            have hSt := Lib.hid (HS.out.give_b Hsm.out n hlo hn hu)
            have hL9' : Hid ((setMI xs [] (272 + 208 * 1) B (n : Int) false).length ≤ 9) := Lib.hid (by have := set_length (xs := xs) (L := []) (A := (272 + 208 * 1)) (m := B) (i := (n : Int)) (is := false); simp only [List.length_nil] at this; omega)
            obtain ⟨L1, hL1⟩ : ∃ L1, (setMI xs [] (272 + 208 * 1) B (n : Int) false) = L1 := ⟨_, rfl⟩
            rw [hL1] at hL9' hSt HGv
            have wp : IntKind.i64.wrap ((q : Int) + 1) = ((q + 1 : Nat) : Int) := by have := HS.out.q; rw [IntWalk.i64_in _ ⟨by omega, by omega⟩]; omega
            have Hn2 : Hid (1 ≤ n ∧ n < B) := Lib.hid ⟨hlo, hn⟩
            have HfH := Lib.hid hfH
            clear hn hu hL1 hfH hE hG
            have hn64 : Hid (n < 64) := Lib.hid (by omega)
            have n64 : (n : Int) < 64 := by omega
            have n0 : (0 : Int) ≤ (n : Int) := by omega
            go_wp2_with fail
            refine HGv.out.mono ?_
            rintro e w5 ⟨rfl, hO5⟩
            have hO5 : Hid (Grommet.Own w w5 [boxP G 23 (geoCs 1 I B), rowP 31 1 (.slice ad N cp) N (xs.map wv), boxP X 63 (hasC (fH 2 I ui)), boxP Y 63 (hasC (fH 1 B ub)), viewP g xs L1, boxP Z 23 (geoCs 1 I B), mapP XI g (264 + 208 * 1) I, mapP XB g (272 + 208 * 1) B, allocP XA g 1 I B XI XB]) := Lib.hid hO5
            obtain ⟨y1, y2⟩ := box_at hO5.out 3 rfl n hn64.out true HfH.out
            clear HGv c0 c1
            have hOs := own_store_box hO5.out 3 rfl n (.bool false)
            rw [hasC_turn 1 B ub n false Hn2.out.1 Hn2.out.2] at hOs
            have hOs : Hid (Grommet.Own w (w5.setCell ⟨Y, n, none⟩ (.bool false)) [boxP G 23 (geoCs 1 I B), rowP 31 1 (.slice ad N cp) N (xs.map wv), boxP X 63 (hasC (fH 2 I ui)), boxP Y 63 (hasC (fH 1 B (turn ub n false))), viewP g xs L1, boxP Z 23 (geoCs 1 I B), mapP XI g (264 + 208 * 1) I, mapP XB g (272 + 208 * 1) B, allocP XA g 1 I B XI XB]) := Lib.hid hOs
            go_wp2_with fail
            go_meet
            case rel => exact ⟨n, 0, L1, _, _, p, q + 1, rfl, rfl, rfl, rfl, hSt, hL9', Lib.hid (fun e _ => by rw [HR.out] at e; cases e), hOs⟩
          · as_aux_lemma =>
            have HGv := Lib.hid (GiveBlockH 4 6 7 8 g 1 I B XI XB XA xs [] (n : Int) (en : Int) w _ _ _ hO2.out (hAlc.out _ _ _ _) hE rfl)
            rw [hG] at HGv
            have z1 : ((en : Int) == 0) = false := by rw [beq_eq_false_iff_ne]; omega
            have z1' : ¬ (en : Int) = 0 := by omega
            have HfH := Lib.hid hfH
            have Hen := Lib.hid hen
            clear hfH hE hG hen
            have hn64 : Hid (n < 64) := Lib.hid (by omega)
            have n64 : (n : Int) < 64 := by omega
            have n0 : (0 : Int) ≤ (n : Int) := by omega
            go_wp2_with fail
            refine HGv.out.mono ?_
            rintro e w5 ⟨rfl, hO5⟩
            have hO5 : Hid (Grommet.Own w w5 [boxP G 23 (geoCs 1 I B), rowP 31 1 (.slice ad N cp) N (xs.map wv), boxP X 63 (hasC (fH 2 I ui)), boxP Y 63 (hasC (fH 1 B ub)), viewP g xs [], boxP Z 23 (geoCs 1 I B), mapP XI g (264 + 208 * 1) I, mapP XB g (272 + 208 * 1) B, allocP XA g 1 I B XI XB]) := Lib.hid hO5
            obtain ⟨y1, y2⟩ := box_at hO5.out 3 rfl n hn64.out false HfH.out
            clear HGv c0 c1
            go_wp2_with fail
            go_meet
            case rel => exact ⟨n, en, [], _, _, p, q, rfl, rfl, rfl, rfl, HS, Lib.hid (by simp), Lib.hid (fun _ e => absurd e Hen.out), hO5⟩
      case rest =>
      obtain ⟨m, en, L, vi, vb, p', q', rfl, rfl, rfl, rfl, HS2, HL, HP, hO3⟩ := hcut
      clear hO2 c0
      have HFr := Lib.hid (FreeH 4 6 7 8 g 1 I B XI XB XA xs L (p' : Int) (q' : Int) w wc _ hO3.out (hAlc.out _ _ _ _) (by rw [cntF_congr I HS2.out.bi]; have := HS2.out.p; omega) (by rw [cntF_congr B HS2.out.bb]; have := HS2.out.q; omega))
      have qp : ((p' : Int) != (p' : Int)) = false := by simp
      have qq : ((q' : Int) != (q' : Int)) = false := by simp
      clear hO3
      go_wp2_with fail
      refine HFr.out.mono ?_
      rintro e w4 ⟨rfl, hO4⟩
      have HWr := Lib.hid (WritesH 4 g xs L w w4 _ hO4 rfl)
      clear HFr hO4
      go_wp2_with fail
      refine HWr.out.mono ?_
      rintro e w5 ⟨wa, wcp, rfl, hO5⟩
      have HFl := Lib.hid (FlatH 4 g xs L w w5 _ hO5 rfl)
      rw [HS.out.len] at HFl
      have hL9 : ¬ (9 : Int) < (L.length : Int) := by have := HL.out; omega
      have hWl := Own.wl hO5 4 rfl
      obtain ⟨ys, hys⟩ : ∃ ys, flatV xs L = ys := ⟨_, rfl⟩
      have HSy : Hid (St I B N ys [] vi vb p' q') := Lib.hid (by rw [← hys]; exact HS2.out.flat hWl.1)
      have Hsy : Hid (∀ n ∈ ys, n < 18446744073709551616) := Lib.hid (by rw [← hys]; exact flatV_small hWl.2.1 hWl.1.val)
      have HPy : Hid (r = 1 → en = 0 → m < B ∧ ∃ P, 488 + 16 * I + 8 * m = P ∧ P + 8 ≤ N ∧ ∀ j, j < 8 → ys.getD (P + j) 0 = 0) := Lib.hid (fun h1 h2 => by
        obtain ⟨a1, P, a2, a3, a4⟩ := HP.out h1 h2
        exact ⟨a1, P, a2, a3, fun j hj => by rw [← hys, Go.Grommet.flat_get hWl.1 _ (by rw [HS.out.len]; omega)]; exact a4 j hj⟩)
      rw [hys] at HFl
      clear HWr hO5 hWl hys HP HS2
      go_wp2_with fail
      refine HFl.out.mono ?_
      rintro e w6 ⟨ad', cp', rfl, hO6⟩
      have hO7 : Hid (Grommet.Own w w6 [boxP G 23 (geoCs 1 I B), rowP 31 1 (.slice ad' N cp') N (ys.map wv), boxP X 63 (hasC (fH 2 I vi)), boxP Y 63 (hasC (fH 1 B vb))]) := Lib.hid (own_four hO6)
      obtain ⟨c0, _, _⟩ := Hc.out w6 hO7.out.grown
      have wk : IntKind.i64.wrap ((k : Int) + 1) = (k : Int) + 1 := IntWalk.i64_in _ ⟨by omega, by omega⟩
      clear HFl hO6 qp qq hL9 HL
      by_cases hr1 : r = 1
      · have q1 : ((r : Int) == 1) = true := by rw [hr1]; rfl
        by_cases he0 : en = 0
        · have q2 : ((en : Int) == 0) = true := by rw [he0]; rfl
          obtain ⟨hmB, P, hP1, hP2, hz⟩ := HPy.out hr1 he0
          have HBa := Lib.hid (fun wx => BlockAt_any ((1 : Nat) : Int) (I : Int) (B : Int) (m : Int) wx)
          rw [show blockV ((1 : Nat) : Int) (I : Int) (B : Int) (m : Int) = (P : Int) from by unfold blockV; rw [if_pos ⟨Hm.out, by omega, by omega⟩]; omega] at HBa
          unfold gv at HBa
          rw [show ((1 : Nat) : Int) = 1 from rfl] at HBa
          obtain ⟨f0, f1, f2⟩ := geo_at hO7.out
          have hy0 : (ys.map wv)[0]? = some (wv (ys[0]'(by rw [HSy.out.len]; omega))) := by rw [List.getElem?_map, List.getElem?_eq_getElem (by rw [HSy.out.len]; omega)]; rfl
          obtain ⟨fb, had, _, _, _⟩ := Own.cell hO7.out 1 rfl 0 _ hy0
          subst had
          have HPN : Hid (P + 8 ≤ N ∧ 488 ≤ P) := Lib.hid ⟨hP2, by omega⟩
          have Hz : Hid (∀ t, 0 ≤ t → t < 8 → ys.getD (P + t) 0 = 0) := Lib.hid (fun t _ ht => hz t ht)
          clear hP1 hP2 hz hy0 hmB HPy hr1 he0
          go_wp2_with fail
          refine (HBa.out _).mono ?_
          rintro e w7 ⟨rfl, hg7⟩
          have hO8 := Lib.hid (hO7.out.quiet hg7)
          clear hg7 hO7 HBa c0 f0 f1 f2
          go_wp2_with fail
          go_loopw [22] (fun s wr => ∃ (j : Nat) (ys : List Nat), j ≤ 8 ∧ s = .int .i64 (j : Int) ∧ Hid (St I B N ys [] vi vb p' q') ∧ Hid (∀ n ∈ ys, n < 18446744073709551616) ∧ Hid (∀ t, j ≤ t → t < 8 → ys.getD (P + t) 0 = 0) ∧ Hid (Grommet.Own w wr [boxP G 23 (geoCs 1 I B), rowP 31 1 (.slice (some ⟨fb, 0, none⟩) N cp') N (ys.map wv), boxP X 63 (hasC (fH 2 I vi)), boxP Y 63 (hasC (fH 1 B vb))])) (fun s _ => 8 - (intOf s).toNat)
          case atStart => exact ⟨0, ys, by omega, rfl, HSy, Hsy, Hz, hO8⟩
          case round =>
            obtain ⟨j, ys, hj8, rfl, HSy, Hsy, Hz, hO8⟩ := hrel
            have j0 : (0 : Int) ≤ (j : Int) := by omega
            by_cases hlt2 : j < 8
            · have l2 : (j : Int) < 8 := by omega
              have hPN := HPN.out
              obtain ⟨t, ht⟩ : ∃ t, P + j = t := ⟨_, rfl⟩
              have et : (P : Int) + (j : Int) = (t : Int) := by omega
              have wt : IntKind.i64.wrap (t : Int) = (t : Int) := IntWalk.i64_in _ ⟨by omega, by omega⟩
              have wj : IntKind.i64.wrap ((j : Int) + 1) = (j : Int) + 1 := IntWalk.i64_in _ ⟨by omega, by omega⟩
              have t0 : (0 : Int) ≤ (t : Int) := by omega
              have tN : (t : Int) < (N : Int) := by omega
              have tN' : ¬ (N : Int) ≤ (t : Int) := by omega
              have P0 : ¬ (P : Int) < 0 := by omega
              have hgz : ys[t]? = some 0 := by
                have h1 := Hz.out j (Nat.le_refl _) hlt2
                have hl : t < ys.length := by rw [HSy.out.len]; omega
                rw [ht, List.getD_eq_getElem?_getD, List.getElem?_eq_getElem hl] at h1
                rw [List.getElem?_eq_getElem hl]
                exact congrArg some h1
              have hyt : (ys.map wv)[t]? = some (.int .u64 0) := by rw [List.getElem?_map, hgz]; rfl
              obtain ⟨fb', hfb, d0, d1, _⟩ := Own.cell hO8.out 1 rfl t _ hyt
              cases hfb
              have hst := Own.store hO8.out 1 rfl t (.int .u64 7)
              rw [show (Value.int .u64 7) = wv 7 from rfl, ← List.map_set] at hst
              have hO9 : Hid (Grommet.Own w (wr.setCell ⟨fb, t, none⟩ (.int .u64 7)) [boxP G 23 (geoCs 1 I B), rowP 31 1 (.slice (some ⟨fb, 0, none⟩) N cp') N ((ys.set t 7).map wv), boxP X 63 (hasC (fH 2 I vi)), boxP Y 63 (hasC (fH 1 B vb))]) := Lib.hid hst
              have HS9 : Hid (St I B N (ys.set t 7) [] vi vb p' q') := Lib.hid (HSy.out.put t 7 (by omega))
              have Hs9 : Hid (∀ n ∈ ys.set t 7, n < 18446744073709551616) := Lib.hid (fun n hn => by
                rcases List.mem_or_eq_of_mem_set hn with h | h
                · exact Hsy.out n h
                · omega)
              have Hz9 : Hid (∀ t', j + 1 ≤ t' → t' < 8 → (ys.set t 7).getD (P + t') 0 = 0) := Lib.hid (fun t' h1 h2 => by
                have := Hz.out t' (by omega) h2
                rw [List.getD_eq_getElem?_getD] at this ⊢
                rw [List.getElem?_set_ne (by omega)]; exact this)
              clear hO8 hst hyt hgz HSy Hsy Hz ht hPN
              go_wp2
              go_roundw
              case rel => exact ⟨j + 1, ys.set t 7, by omega, by go_num, HS9, Hs9, Hz9, hO9⟩
              case measure => simp [intOf]; omega
            · have l2 : ¬ (j : Int) < 8 := by omega
              clear Hz hlt2 hj8
              go_wp2
              go_roundw
              case rel => exact ⟨k + 1, some ⟨fb, 0, none⟩, cp', ys, vi, vb, p', q', by omega, by go_num, rfl, rfl, rfl, HSy, Hsy, hO8⟩
              case measure => simp [intOf]; omega
        · have q2 : ((en : Int) == 0) = false := by rw [beq_eq_false_iff_ne]; omega
          clear HPy hr1 he0
          go_wp2
          go_roundw
          case rel => exact ⟨k + 1, ad', cp', ys, vi, vb, p', q', by omega, by go_num, rfl, rfl, rfl, HSy, Hsy, hO7⟩
          case measure => simp [intOf]; omega
      · have q1 : ((r : Int) == 1) = false := by rw [beq_eq_false_iff_ne]; omega
        clear HPy hr1
        go_wp2
        go_roundw
        case rel => exact ⟨k + 1, ad', cp', ys, vi, vb, p', q', by omega, by go_num, rfl, rfl, rfl, HSy, Hsy, hO7⟩
        case measure => simp [intOf]; omega
    · have hlt' : ¬ (k : Int) < (tl : Int) := by omega
      have HWk := Lib.hid (works7_tab _ (tab_grown HTab.out hO.out.grown))
      have hg := Lib.hid hO.out.grown
      clear hO
      go_wp2_with fail
      refine HWk.out.mono ?_
      rintro e w4 ⟨rfl, hg2⟩
      have hfin := Lib.hid (grown_trans hg.out hg2)
      clear hg2 HWk
      go_wp2
      go_ret
      exact ⟨rfl, hfin.out⟩

theorem walk (a0 a1 : Int) (td : Option Addr) (tl tc : Nat) (T : List Alo) (w : World) (w0 : (Lit.int .u8 a0).wf = true) (w1 : (Lit.int .u8 a1).wf = true) (hT : AlosIn w td tl T) (ht : Lib.TabIs Tryd.prog w "math/bits.deBruijn64tab" .u8 tab) :
    Calls Tryd.prog 4 #[.int .u8 a0, .int .u8 a1, .slice td tl tc] w (Go.Ev.WorksIs w) := by
  have b0 := bounds_u8 w0
  have b1 := bounds_u8 w1
  obtain ⟨A, rfl⟩ := Int.eq_ofNat_of_zero_le b0.1
  obtain ⟨C, rfl⟩ := Int.eq_ofNat_of_zero_le b1.1
  by_cases h : 60 < tl
  · exact walk_far _ _ td tl tc w ht h
  · exact walk_at A C td tl tc T w (by omega) (by omega) (by omega) hT ht
end Go.Proofs.YtdblgnccjpjabaaDoor.allocOnce

