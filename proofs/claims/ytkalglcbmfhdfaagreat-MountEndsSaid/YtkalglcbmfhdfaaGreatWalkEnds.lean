/- MountEnds of grommetlaw24: every way. -/
import Derived.Test.YtkalglcbmfhdfaaGreatPk24
import Derived.Test.YtkalglcbmfhdfaaGreatPk25
-- OPTIONAL
namespace Go.Proofs.YtkalglcbmfhdfaaGreat.mountEnds
open Go.RowKit Go.Grommet

theorem of_new (a b c N : Nat) (h : mayB (a : Int) (b : Int) (c : Int) = true) (hN : N = 280 + 208 * a + 16 * b + 8 * c) : ofV (fmtL a b c (264 + 208 * a) N) = some ((a : Int), (b : Int), (c : Int)) := by
  have hb := mayB_yes h
  have g : ∀ i, i < N → (fmtL a b c (264 + 208 * a) N).getD i 0 = fmtAt a b c (264 + 208 * a) i := fun i hi => by rw [List.getD_eq_getElem?_getD, get_fmtL _ _ _ _ _ _ hi]; rfl
  unfold ofV
  rw [length_fmtL, g 0 (by omega), g 1 (by omega), g 2 (by omega), g 3 (by omega)]
  rw [show fmtAt a b c (264 + 208 * a) 0 = 32762617960297063 from rfl, show fmtAt a b c (264 + 208 * a) 1 = a from rfl, show fmtAt a b c (264 + 208 * a) 2 = b from rfl, show fmtAt a b c (264 + 208 * a) 3 = c from rfl]
  rw [if_pos ⟨by omega, rfl, h, by rw [words_pos h]; omega⟩]

set_option maxRecDepth 100000 in
set_option maxHeartbeats 1000000 in
theorem walk_far (x0 x1 : Int) (td : Option Addr) (tl tc : Nat) (w : World) (h : 8 < tl) :
    Calls Tryz.prog 4 #[.int .u8 x0, .int .u8 x1, .slice td tl tc] w fun e w' => e = .returned (.bool true) ∧ w.grownBy w' none := by
  have h' : (8 : Int) < (tl : Int) := by omega
  have HW := Lib.hid (works24 w)
  clear h
  go_enter Tryz.func4, Tryz.ntmps4
  go_wp2_with fail
  refine HW.out.mono ?_
  rintro e w1 ⟨rfl, hg⟩
  have hg := Lib.hid hg
  go_wp2
  go_ret
  exact ⟨rfl, hg.out⟩

set_option maxRecDepth 100000 in
set_option maxHeartbeats 8000000 in
theorem walk_at (x0 x1 : Nat) (td : Option Addr) (tl tc : Nat) (T : List Ara) (w : World) (h0 : x0 ≤ 255) (h1 : x1 ≤ 255) (htl : tl ≤ 8) (hT : ArasIn w td tl T) :
    Calls Tryz.prog 4 #[.int .u8 (x0 : Int), .int .u8 (x1 : Int), .slice td tl tc] w fun e w' => e = .returned (.bool true) ∧ w.grownBy w' none := by
  have h' : ¬ (8 : Int) < (tl : Int) := by omega
  have HSm := Lib.hid (fun wx => Small23 x0 x1 wx h0 h1)
  obtain ⟨A, hA⟩ : ∃ A, 1 + x0 % 4 = A := ⟨_, rfl⟩
  obtain ⟨B, hB⟩ : ∃ B, 22 + x1 % 39 = B := ⟨_, rfl⟩
  rw [hA, hB] at HSm
  have hA4 : 1 ≤ A ∧ A ≤ 4 := by omega
  have hB60 : 22 ≤ B ∧ B ≤ 60 := by omega
  have hmay : mayB (A : Int) ((11 : Nat) : Int) (B : Int) = true := by unfold mayB; simp; omega
  obtain ⟨K, hK⟩ : ∃ K, 280 + 208 * A + 16 * 11 + 8 * B = K := ⟨_, rfl⟩
  obtain ⟨N, hN⟩ : ∃ N, K / 8 = N := ⟨_, rfl⟩
  have hKN : K = 8 * N := by omega
  have hKb : 280 ≤ K ∧ K ≤ 1768 := by omega
  have hcap : (N + 100) * A ≤ 1284 := Nat.le_trans (Nat.mul_le_mul (show N + 100 ≤ 321 by omega) hA4.2) (by decide)
  obtain ⟨xs, hxs⟩ : ∃ xs, fmtL A 11 B (264 + 208 * A) K = xs := ⟨_, rfl⟩
  have hxl : xs.length = K := by rw [← hxs, length_fmtL]
  have hsm : ∀ n ∈ xs, n < 18446744073709551616 := by rw [← hxs]; exact fmtW_small A 11 B K hmay
  have hof : ofV xs = some ((A : Int), ((11 : Nat) : Int), (B : Int)) := by rw [← hxs]; exact of_new A 11 B K hmay hK.symm
  have HFw := Lib.hid (fun wx Ps hO => FormatW A 11 B K xs w wx Ps hO hmay hK hxs)
  have HPu := Lib.hid (fun wx m q Ps hO hm => putAreas m A 11 B K q K xs td tl tc T w wx Ps hO hm hxl hsm hmay hK hT htl)
  have HDv := Lib.hid (fun wx m ad cap YS Ps hO hm hl hs => DeviceW m ad K cap YS w wx Ps hO hm hl hs (by omega) (by omega) (by omega))
  have HOv0 : ∀ (wx : World) (m q : Nat) (ys : List Nat) (Ps : List Pr), ys.length = K → (∀ n ∈ ys, n < 18446744073709551616) → Grommet.Own w wx Ps → Ps[m]? = some (rowP 45 1 (.slice (some ⟨q, 0, none⟩) K K) K (ys.map wv)) → Calls Tryz.prog 36 #[gv (A : Int) ((11 : Nat) : Int) (B : Int), .slice (some ⟨q, 0, none⟩) K K] wx fun e w' => ∃ q2 c2, e = .returned (.slice (some ⟨q2, 0, none⟩) K c2) ∧ Grommet.Own w w' (Ps ++ [rowP 45 1 (.slice (some ⟨q2, 0, none⟩) K c2) K ((overS (A : Int) ((11 : Nat) : Int) (B : Int) ys A).map wv)]) := by
    intro wx m q ys Ps hl hs hO hm
    have hol := overS_length (A : Int) ((11 : Nat) : Int) (B : Int) ys A
    refine (Over_yes wx.heap.size A 11 B q 0 K K ys wx (Own.words hO m hm hs (by omega)).1 (Nat.le_refl _) hmay (by omega) (by omega) (Nat.le_refl _)).mono ?_
    rintro e w' ⟨ad, cp, rfl, hrow, hg⟩
    rw [hol, hl] at hrow ⊢
    have hO2 := hO.addRow hrow hg
    obtain ⟨q2, rfl, _, _, _⟩ := Own.cell hO2 Ps.length last_get 0 (wv ((overS (A : Int) ((11 : Nat) : Int) (B : Int) ys A).getD 0 0)) (by rw [List.getElem?_map, List.getElem?_eq_getElem (by omega), List.getD_eq_getElem?_getD, List.getElem?_eq_getElem (by omega)]; rfl)
    exact ⟨q2, cp, rfl, hO2⟩
  have HOv := Lib.hid HOv0
  have HM0 : ∀ (wx : World) (G q q2 c2 d : Nat) (ys os : List Nat), OutEq A K xs ys → Grommet.Own w wx (endL G q K q2 c2 d A 11 B ys os (cleanL ys)) → Calls Tryz.prog 23 #[ptr d] wx fun e w' => ∃ m, e = .returned (.tuple #[ptr m, .int .i64 0]) ∧ (EndDone G q K q2 c2 d A 11 B m ys os w w' ∨ ∃ t R S ws, EndRun G q K q2 c2 d A 11 B m N ys os w 0 t R S ws w') := by
    intro wx G q q2 c2 d ys os hE hO
    have hsz : turnsM (A : Int) ((11 : Nat) : Int) (B : Int) ys 0 = ys := rfl
    refine (MNewYes 2 d A 11 B (cleanL ys) N w wx _ hO rfl (by rw [cleanL_len, hE.1]; omega) (by rw [cleanL_len, hE.1]; omega) (by rw [cleanL_seen]; exact hE.2.1) (by rw [cleanL_seen, of_same (by rw [hE.1, hxl]) (fun i hi => hE.2.2 i (.inl (by omega)))]; exact hof) hmay (by rw [cleanL_len, hE.1]; omega)).mono ?_
    rintro e w' ⟨m, rfl, hM⟩
    refine ⟨m, rfl, end_next hmay hK hKN hE.1 hE.2.1 (s := 0) (Nat.zero_le _) (by rw [Nat.sub_zero, Nat.zero_add]; exact Nat.le_refl _) ?_⟩
    rw [hsz]
    rw [cleanL_seen] at hM
    rcases hM with ⟨hO', hz⟩ | ⟨t, R, B2, P2, ht, hz, hn, hO'⟩
    · exact .inl ⟨hO', fun j _ hj => hz j hj⟩
    · exact .inr ⟨t, R, B2, P2, Nat.zero_le _, ht, fun j _ hj => hz j hj, hn, hO'⟩
  have HM := Lib.hid HM0
  have HSp := Lib.hid (fun wx G q q2 c2 d m ys os i t R S ws (hE : OutEq A K xs ys) h => end_step (w0 := w) (w := wx) (G := G) (q := q) (K := K) (q2 := q2) (c2 := c2) (d := d) (A := A) (I := 11) (B := B) (m := m) (N := N) (ys := ys) (os := os) (i := i) (t := t) (R := R) (S := S) (ws := ws) hmay hK hKN hE.1 hE.2.1 (by omega) h)
  have HWk := Lib.hid (fun wx => works24 wx)
  have HAt := Lib.hid (fun wx j (hj : j < A) => AreaAt_any (A : Int) ((11 : Nat) : Int) (B : Int) (j : Int) wx)
  have HTo := Lib.hid (fun ys (hE : OutEq A K xs ys) => turns_over hmay ys (by rw [hE.1]; omega) A (Nat.le_refl _))
  have HTd := Lib.hid (fun ys (hE : OutEq A K xs ys) => turnsM_done hmay ys (by rw [hE.1]; omega) A (Nat.le_refl _))
  have Hf := Lib.hid (And.intro hmay (And.intro hK (And.intro hKN hcap)))
  rw [show ((11 : Nat) : Int) = 11 from rfl] at HSm HFw HPu HOv
  unfold gv at HSm HPu HOv
  unfold ptr at HDv HM HSp
  clear hT hA hB hmay hK hN hxs hxl hsm hof h0 h1 HOv0 HM0 hcap hKN
  go_enter Tryz.func4, Tryz.ntmps4
  go_wp2_with fail
  refine (HSm.out _).mono ?_
  rintro e u1 ⟨rfl, hg1⟩
  have hO2 := ((Own.nil w).quiet hg1).addBox 23 #[.int .i64 (A : Int), .int .i64 11, .int .i64 (B : Int)]
  obtain ⟨u2, hu2⟩ : ∃ u, u1.alloc (.cells #[.int .i64 (A : Int), .int .i64 11, .int .i64 (B : Int)] 23) = u := ⟨_, rfl⟩
  obtain ⟨G, hG⟩ : ∃ G, u1.heap.size = G := ⟨_, rfl⟩
  rw [hu2, hG] at hO2
  have hO2 : Grommet.Own w u2 [boxP G 23 #[.int .i64 (A : Int), .int .i64 11, .int .i64 (B : Int)]] := hO2
  obtain ⟨c0, c1, c2⟩ := GeoQ.cells (GeoP hO2 (k := 0) rfl)
  have HI2 := Lib.hid (HFw.out u2 _ hO2)
  clear HSm HFw hg1 hO2
  have K0 : ((K : Int) == 0) = false := by rw [beq_eq_false_iff_ne]; omega
  go_wp2_with fail
  refine HI2.out.mono ?_
  rintro e u3 ⟨q, rfl, hO3⟩
  have hO3 : Grommet.Own w u3 [boxP G 23 #[.int .i64 (A : Int), .int .i64 11, .int .i64 (B : Int)], rowP 45 1 (.slice (some ⟨q, 0, none⟩) K K) K (xs.map wv)] := hO3
  have HP3 := Lib.hid (HPu.out u3 1 q _ hO3 rfl)
  obtain ⟨d0, d1, d2⟩ := GeoQ.cells (GeoP hO3 (k := 0) rfl)
  clear HI2 HPu hO3 hu2 hG c0 c1 c2
  go_wp2_with fail
  refine HP3.out.mono ?_
  rintro e u4 ⟨rfl, ys, hE, hO4⟩
  have hO4 : Grommet.Own w u4 [boxP G 23 #[.int .i64 (A : Int), .int .i64 11, .int .i64 (B : Int)], rowP 45 1 (.slice (some ⟨q, 0, none⟩) K K) K (ys.map wv)] := hO4
  have HE := Lib.hid hE
  have HD4 := Lib.hid (HDv.out u4 1 (some ⟨q, 0, none⟩) K ys _ hO4 rfl hE.1 hE.2.1)
  clear HP3 HDv hO4 hE d0 d1 d2
  go_wp2_with fail
  refine HD4.out.mono ?_
  rintro e u5 ⟨d, rfl, hO5⟩
  have hO5 : Grommet.Own w u5 [boxP G 23 #[.int .i64 (A : Int), .int .i64 11, .int .i64 (B : Int)], rowP 45 1 (.slice (some ⟨q, 0, none⟩) K K) K (ys.map wv), devP d (cleanL ys)] := hO5
  have HV5 := Lib.hid (HOv.out u5 1 q ys _ HE.out.1 HE.out.2.1 hO5 rfl)
  obtain ⟨c0, c1, c2⟩ := GeoQ.cells (GeoP hO5 (k := 0) rfl)
  clear HD4 HOv hO5
  go_wp2_with fail
  refine HV5.out.mono ?_
  rintro e u6 ⟨q2, cp2, rfl, hO6⟩
  have HM6 := Lib.hid (HM.out u6 G q q2 cp2 d ys _ HE.out hO6)
  clear HV5 HM hO6 c0 c1 c2
  go_wp2_with fail
  refine HM6.out.mono ?_
  rintro e u7 ⟨m, rfl, hS7⟩
  have hS7 := Lib.hid hS7
  have Hos : Hid ((overS (A : Int) 11 (B : Int) ys A).length = K ∧ ∀ j, (overS (A : Int) 11 (B : Int) ys A).getD j 0 = (overS (A : Int) 11 (B : Int) ys A).getD j 0) := Lib.hid ⟨by rw [overS_length]; exact HE.out.1, fun _ => rfl⟩
  obtain ⟨os, hos⟩ : ∃ os, overS (A : Int) 11 (B : Int) ys A = os := ⟨_, rfl⟩
  rw [hos] at hS7
  replace Hos : Hid (os.length = K ∧ ∀ j, os.getD j 0 = (overS (A : Int) 11 (B : Int) ys A).getD j 0) := Lib.hid (by rw [← hos]; exact Hos.out)
  clear hos
  clear HM6
  go_wp2_with fail
  go_loopw [15] (fun at_ wr => ∃ i : Nat, i ≤ 1284 ∧ at_ = .int .i64 (i : Int) ∧ Hid (EndDone G q K q2 cp2 d A 11 B m ys os w wr ∨ ∃ t R S ws, EndRun G q K q2 cp2 d A 11 B m N ys os w i t R S ws wr)) (fun at_ _ => 2000 - (intOf at_).toNat)
  case atStart => exact ⟨0, by omega, rfl, hS7⟩
  case round =>
    clear hS7
    obtain ⟨i, hi, rfl, hrun⟩ := hrel
    have i0 : (0 : Int) ≤ (i : Int) := by omega
    have i2 : (i : Int) < 2000 := by omega
    rcases hrun.out with hdone | ⟨t, R, S, ws, hR⟩
    · as_aux_lemma =>
      clear hrun HSp
      obtain ⟨Z, hZ⟩ : ∃ Z, turnsM (A : Int) ((11 : Nat) : Int) (B : Int) ys A = Z := ⟨_, rfl⟩
      have HTz := HTd.out ys HE.out
      have HTv := HTo.out ys HE.out
      have hZl : Z.length = K := by rw [← hZ, turnsM_len]; exact HE.out.1
      have hZs : ∀ n ∈ Z, n < 18446744073709551616 := by rw [← hZ]; exact turnsM_small _ _ _ ys HE.out.2.1 A
      rw [hZ] at HTz HTv
      unfold EndDone at hdone
      rw [hZ] at hdone
      have hO1 : Grommet.Own w wr [boxP G 23 #[.int .i64 (A : Int), .int .i64 11, .int .i64 (B : Int)], rowP 45 1 (.slice (some ⟨q, 0, none⟩) K K) K (ys.map wv), devP d (cleanL Z), rowP 45 1 (.slice (some ⟨q2, 0, none⟩) K cp2) K (os.map wv), mntB m d A 11 B A nilV] := hdone
      have HL1 := Lib.hid (MLeftNil 4 m d A 11 B A w wr _ hO1 rfl)
      have HS1 := Lib.hid (MStepNil 4 m d A 11 B A w wr _ hO1 rfl)
      have HSe0 : Calls Tryz.prog 16 #[ptr d] wr fun e w' => ∃ qn cn, e = .returned (.slice (some ⟨qn, 0, none⟩) K cn) ∧ Grommet.Own w w' [boxP G 23 #[.int .i64 (A : Int), .int .i64 11, .int .i64 (B : Int)], rowP 45 1 (.slice (some ⟨q, 0, none⟩) K K) K (ys.map wv), devP d (cleanL Z), rowP 45 1 (.slice (some ⟨q2, 0, none⟩) K cp2) K (os.map wv), mntB m d A 11 B A nilV, rowP 45 1 (.slice (some ⟨qn, 0, none⟩) K cn) K (Z.map wv)] := by
        refine (SeenH 2 d (cleanL Z) w wr _ hO1 rfl N (by rw [cleanL_len, hZl]; exact Hf.out.2.2.1)).mono ?_
        rintro e w' ⟨ad, cn, rfl, hO'⟩
        rw [cleanL_seen, cleanL_len, hZl] at hO'
        rw [cleanL_len, hZl]
        obtain ⟨qn, rfl, _, _, _⟩ := Own.cell hO' 5 rfl 0 (wv (Z.getD 0 0)) (by rw [List.getElem?_map, List.getElem?_eq_getElem (by omega), List.getD_eq_getElem?_getD, List.getElem?_eq_getElem (by omega)]; rfl)
        exact ⟨qn, cn, rfl, hO'⟩
      have HSe := Lib.hid HSe0
      have HQ := Lib.hid (fun wx qn cn (hO : Grommet.Own w wx [boxP G 23 #[.int .i64 (A : Int), .int .i64 11, .int .i64 (B : Int)], rowP 45 1 (.slice (some ⟨q, 0, none⟩) K K) K (ys.map wv), devP d (cleanL Z), rowP 45 1 (.slice (some ⟨q2, 0, none⟩) K cp2) K (os.map wv), mntB m d A 11 B A nilV, rowP 45 1 (.slice (some ⟨qn, 0, none⟩) K cn) K (Z.map wv)]) => And.intro (GeoP hO (k := 0) rfl) (And.intro (MLeftNil 4 m d A 11 B A w wx _ hO rfl) (And.intro (MWorker 4 m d A 11 B A nilV w wx _ hO rfl) (And.intro (LooseH 2 d (cleanL Z) w wx _ hO rfl N (by rw [cleanL_len, hZl]; exact Hf.out.2.2.1)) (outsideH 5 3 A 11 B K qn cn q2 cp2 Z os w wx _ hO rfl rfl hZl Hos.out.1 Hf.out.1 (by omega) (fun j hj hj2 => (HTv j hj2).trans (Hos.out.2 j).symm))))))
      have HZc := Lib.hid (fun wx qn cn j (hj : j < A) (hO : Grommet.Own w wx [boxP G 23 #[.int .i64 (A : Int), .int .i64 11, .int .i64 (B : Int)], rowP 45 1 (.slice (some ⟨q, 0, none⟩) K K) K (ys.map wv), devP d (cleanL Z), rowP 45 1 (.slice (some ⟨q2, 0, none⟩) K cp2) K (os.map wv), mntB m d A 11 B A nilV, rowP 45 1 (.slice (some ⟨qn, 0, none⟩) K cn) K (Z.map wv)]) => show wx.cell? ⟨qn, 264 + 208 * j, none⟩ = some (.int .u64 0) by
        have hK' := Hf.out.2.1
        obtain ⟨b, he, e1, _, _⟩ := Own.cell hO 5 rfl (264 + 208 * j) (wv (Z.getD (264 + 208 * j) 0)) (by rw [List.getElem?_map, List.getElem?_eq_getElem (by omega), List.getD_eq_getElem?_getD, List.getElem?_eq_getElem (by omega)]; rfl)
        cases he
        rw [HTz j hj] at e1
        exact e1)
      have HAr := Lib.hid (fun wx j (hj : j < A) => show Calls Tryz.prog 40 #[.agg #[.int .i64 (A : Int), .int .i64 11, .int .i64 (B : Int)], .int .i64 (j : Int)] wx fun e w' => e = .returned (.int .i64 ((264 + 208 * j : Nat) : Int)) ∧ wx.grownBy w' none by
        have := HAt.out wx j hj
        rw [area_at Hf.out.1 hj] at this
        exact this)
      have hKj := Hf.out.2.1
      rw [show ((11 : Nat) : Int) = 11 from rfl] at HQ
      rw [cleanL_loose] at HQ
      unfold gv ptr at HQ
      unfold ptr at HL1 HS1 HSe
      clear hdone hO1 HSe0 HTz HTv hZl hZs hZ HTo HTd HAt HE Hos
      go_wp2_with fail
      refine HL1.out.mono ?_
      rintro e v1 ⟨rfl, hw⟩
      obtain rfl := hw.symm
      clear HL1
      go_wp2_with fail
      refine HS1.out.mono ?_
      rintro e v2 ⟨rfl, hw⟩
      obtain rfl := hw.symm
      clear HS1
      go_wp2_with fail
      refine HSe.out.mono ?_
      rintro e v3 ⟨qn, cn, rfl, hO3⟩
      have hOr := Lib.hid (hO3.quiet (grown_drew (World.grownBy.refl v3 none)))
      have hz0 := Lib.hid (HQ.out _ _ _ hOr.out).1
      have qA : ((A : Int) != (A : Int)) = false := by simp
      clear HSe hO3
      go_wp2_with fail
      refine wp_region_held_drew (S := fun w' => GeoQ G (A : Int) 11 (B : Int) w') (by kernel_rfl) (hz0.out) (fun hS => ?_)
      refine wpAnyH_take (i := 0) (oi := { dst := some 96, op := Op.move (Operand.tmp 19), type := 33, pos := "law.go:188", after := #[], guard := none }) (v := ?vwe4r24o0) rfl (by kernel_rfl) (by kernel_rfl) (by kernel_rfl) (fun _ _ _ h => h) (Or.inl ⟨by rfl, ?hwe4r24o0⟩) hS ?_
      case hwe4r24o0 => (intro wx hx; skip; go_simp; (try with_reducible rfl))
      try simp only [Act.put, List.setIfInBounds_toArray, List.set_cons_zero, List.set_cons_succ]
      refine wpAnyH_take (i := 1) (oi := { dst := some 97, op := Op.binOp BinOp.neq 33 (Operand.tmp 96) (Operand.const (Value.int IntKind.i64 3)) 33, type := 4, pos := "law.go:188", after := #[{ on := 0, ground := Ground.data }], guard := none }) (v := ?vwe4r24o1) rfl (by kernel_rfl) (by kernel_rfl) (by kernel_rfl) (fun _ _ _ h => h) (Or.inl ⟨by rfl, ?hwe4r24o1⟩) hS ?_
      case hwe4r24o1 => (intro wx hx; skip; go_simp; (try with_reducible rfl))
      try simp only [Act.put, List.setIfInBounds_toArray, List.set_cons_zero, List.set_cons_succ]
      refine wpAnyH_take (i := 2) (oi := { dst := some 98, op := Op.move (Operand.tmp 97), type := 4, pos := "law.go:188", after := #[{ on := 1, ground := Ground.data }], guard := none }) (v := ?vwe4r24o2) rfl (by kernel_rfl) (by kernel_rfl) (by kernel_rfl) (fun _ _ _ h => h) (Or.inl ⟨by rfl, ?hwe4r24o2⟩) hS ?_
      case hwe4r24o2 => (intro wx hx; skip; go_simp; (try with_reducible rfl))
      try simp only [Act.put, List.setIfInBounds_toArray, List.set_cons_zero, List.set_cons_succ]
      refine wpAnyH_take (i := 3) (oi := { dst := some 99, op := Op.move (Operand.tmp 11), type := 50, pos := "law.go:188", after := #[{ on := 2, ground := Ground.guard }], guard := some (2, false) }) (v := ?vwe4r24o3) rfl (by kernel_rfl) (by kernel_rfl) (by kernel_rfl) (fun _ _ _ h => h) (Or.inl ⟨by rfl, ?hwe4r24o3⟩) hS ?_
      case hwe4r24o3 => (intro wx hx; skip; go_simp; (try with_reducible rfl))
      try simp only [Act.put, List.setIfInBounds_toArray, List.set_cons_zero, List.set_cons_succ]
      refine wpAnyH_ready (rs := [4]) (by kernel_rfl) (by simp) ?_
      refine AllReadyH.cons (o := { dst := some 100, op := Op.call { callee := Callee.value (Operand.func 29), args := #[Operand.tmp 99], argTypes := #[50] }, type := 3, pos := "law.go:188", after := #[{ on := 3, ground := Ground.data }, { on := 2, ground := Ground.chain }, { on := 2, ground := Ground.guard }], guard := some (2, false) }) rfl (fun K hK => ?_) AllReadyH.nil
      go_simp
      refine ((HQ.out _ _ _ hOr.out).2.1).mono ?_
      rintro e v4 ⟨rfl, hw⟩
      obtain rfl := hw.symm
      refine hK.out _ _ ?hswe4r24o4 (fun hS => ?_)
      case hswe4r24o4 => (exact (HQ.out _ _ _ hOr.out).1)
      clear hK K
      try simp only [Act.put, List.setIfInBounds_toArray, List.set_cons_zero, List.set_cons_succ]
      refine wpAnyH_take (i := 5) (oi := { dst := some 101, op := Op.binOp BinOp.neq 3 (Operand.tmp 100) (Operand.const (Value.int IntKind.i64 0)) 3, type := 4, pos := "law.go:188", after := #[{ on := 4, ground := Ground.data }, { on := 2, ground := Ground.guard }], guard := some (2, false) }) (v := ?vwe4r24o5) rfl (by kernel_rfl) (by kernel_rfl) (by kernel_rfl) (fun _ _ _ h => h) (Or.inl ⟨by rfl, ?hwe4r24o5⟩) hS ?_
      case hwe4r24o5 => (intro wx hx; skip; go_simp; (try with_reducible rfl))
      try simp only [Act.put, List.setIfInBounds_toArray, List.set_cons_zero, List.set_cons_succ]
      refine wpAnyH_take (i := 6) (oi := { dst := some 102, op := Op.pick (Operand.tmp 98) (Operand.const (Value.bool true)) (Operand.tmp 101), type := 4, pos := "law.go:188", after := #[{ on := 2, ground := Ground.data }, { on := 5, ground := Ground.data }], guard := none }) (v := ?vwe4r24o6) rfl (by kernel_rfl) (by kernel_rfl) (by kernel_rfl) (fun _ _ _ h => h) (Or.inl ⟨by rfl, ?hwe4r24o6⟩) hS ?_
      case hwe4r24o6 => (intro wx hx; skip; go_simp; (try with_reducible rfl))
      try simp only [Act.put, List.setIfInBounds_toArray, List.set_cons_zero, List.set_cons_succ]
      refine wpAnyH_take (i := 7) (oi := { dst := some 103, op := Op.move (Operand.tmp 102), type := 4, pos := "law.go:188", after := #[{ on := 6, ground := Ground.data }, { on := 4, ground := Ground.chain }], guard := none }) (v := ?vwe4r24o7) rfl (by kernel_rfl) (by kernel_rfl) (by kernel_rfl) (fun _ _ _ h => h) (Or.inl ⟨by rfl, ?hwe4r24o7⟩) hS ?_
      case hwe4r24o7 => (intro wx hx; skip; go_simp; (try with_reducible rfl))
      try simp only [Act.put, List.setIfInBounds_toArray, List.set_cons_zero, List.set_cons_succ]
      refine wpAnyH_take (i := 8) (oi := { dst := some 104, op := Op.move (Operand.tmp 11), type := 50, pos := "law.go:188", after := #[{ on := 7, ground := Ground.guard }], guard := some (7, false) }) (v := ?vwe4r24o8) rfl (by kernel_rfl) (by kernel_rfl) (by kernel_rfl) (fun _ _ _ h => h) (Or.inl ⟨by rfl, ?hwe4r24o8⟩) hS ?_
      case hwe4r24o8 => (intro wx hx; skip; go_simp; (try with_reducible rfl))
      try simp only [Act.put, List.setIfInBounds_toArray, List.set_cons_zero, List.set_cons_succ]
      refine wpAnyH_take (i := 10) (oi := { dst := some 106, op := Op.fieldAddr 23 (Operand.tmp 7) 0, type := 0, pos := "law.go:188", after := #[{ on := 7, ground := Ground.guard }], guard := some (7, false) }) (v := ?vwe4r24o10) rfl (by kernel_rfl) (by kernel_rfl) (by kernel_rfl) (fun _ _ _ h => h) (Or.inl ⟨by rfl, ?hwe4r24o10⟩) hS ?_
      case hwe4r24o10 => (intro wx hx; skip; go_simp; (try with_reducible rfl))
      try simp only [Act.put, List.setIfInBounds_toArray, List.set_cons_zero, List.set_cons_succ]
      refine wpAnyH_take (i := 11) (oi := { dst := some 107, op := Op.load 3 (Operand.tmp 106), type := 3, pos := "law.go:188", after := #[{ on := 10, ground := Ground.data }, { on := 7, ground := Ground.guard }], guard := some (7, false) }) (v := ?vwe4r24o11) rfl (by kernel_rfl) (by kernel_rfl) (by kernel_rfl) (fun _ _ _ h => h) (Or.inl ⟨by rfl, ?hwe4r24o11⟩) hS ?_
      case hwe4r24o11 => (intro wx hx; obtain ⟨f0, f1, f2⟩ := GeoQ.cells hx; go_simp; (try with_reducible rfl))
      try simp only [Act.put, List.setIfInBounds_toArray, List.set_cons_zero, List.set_cons_succ]
      refine wpAnyH_ready (rs := [9]) (by kernel_rfl) (by simp) ?_
      refine AllReadyH.cons (o := { dst := some 105, op := Op.call { callee := Callee.value (Operand.func 31), args := #[Operand.tmp 104], argTypes := #[50] }, type := 3, pos := "law.go:188", after := #[{ on := 8, ground := Ground.data }, { on := 7, ground := Ground.chain }, { on := 7, ground := Ground.guard }], guard := some (7, false) }) rfl (fun K hK => ?_) AllReadyH.nil
      go_simp
      refine ((HQ.out _ _ _ hOr.out).2.2.1).mono ?_
      rintro e v5 ⟨rfl, hw⟩
      obtain rfl := hw.symm
      refine hK.out _ _ ?hswe4r24o9 (fun hS => ?_)
      case hswe4r24o9 => (exact (HQ.out _ _ _ hOr.out).1)
      clear hK K
      try simp only [Act.put, List.setIfInBounds_toArray, List.set_cons_zero, List.set_cons_succ]
      refine wpAnyH_take (i := 12) (oi := { dst := some 108, op := Op.binOp BinOp.neq 3 (Operand.tmp 105) (Operand.tmp 107) 3, type := 4, pos := "law.go:188", after := #[{ on := 9, ground := Ground.data }, { on := 11, ground := Ground.data }, { on := 7, ground := Ground.guard }], guard := some (7, false) }) (v := ?vwe4r24o12) rfl (by kernel_rfl) (by kernel_rfl) (by kernel_rfl) (fun _ _ _ h => h) (Or.inl ⟨by rfl, ?hwe4r24o12⟩) hS ?_
      case hwe4r24o12 => (intro wx hx; skip; go_simp; (try with_reducible rfl))
      try simp only [Act.put, List.setIfInBounds_toArray, List.set_cons_zero, List.set_cons_succ]
      refine wpAnyH_take (i := 13) (oi := { dst := some 109, op := Op.pick (Operand.tmp 103) (Operand.const (Value.bool true)) (Operand.tmp 108), type := 4, pos := "law.go:188", after := #[{ on := 7, ground := Ground.data }, { on := 12, ground := Ground.data }], guard := none }) (v := ?vwe4r24o13) rfl (by kernel_rfl) (by kernel_rfl) (by kernel_rfl) (fun _ _ _ h => h) (Or.inl ⟨by rfl, ?hwe4r24o13⟩) hS ?_
      case hwe4r24o13 => (intro wx hx; skip; go_simp; (try with_reducible rfl))
      try simp only [Act.put, List.setIfInBounds_toArray, List.set_cons_zero, List.set_cons_succ]
      refine wpAnyH_take (i := 14) (oi := { dst := some 110, op := Op.move (Operand.tmp 109), type := 4, pos := "law.go:188", after := #[{ on := 13, ground := Ground.data }, { on := 9, ground := Ground.chain }], guard := none }) (v := ?vwe4r24o14) rfl (by kernel_rfl) (by kernel_rfl) (by kernel_rfl) (fun _ _ _ h => h) (Or.inl ⟨by rfl, ?hwe4r24o14⟩) hS ?_
      case hwe4r24o14 => (intro wx hx; skip; go_simp; (try with_reducible rfl))
      try simp only [Act.put, List.setIfInBounds_toArray, List.set_cons_zero, List.set_cons_succ]
      refine wpAnyH_take (i := 15) (oi := { dst := some 111, op := Op.move (Operand.tmp 9), type := 32, pos := "law.go:188", after := #[{ on := 14, ground := Ground.guard }], guard := some (14, false) }) (v := ?vwe4r24o15) rfl (by kernel_rfl) (by kernel_rfl) (by kernel_rfl) (fun _ _ _ h => h) (Or.inl ⟨by rfl, ?hwe4r24o15⟩) hS ?_
      case hwe4r24o15 => (intro wx hx; skip; go_simp; (try with_reducible rfl))
      try simp only [Act.put, List.setIfInBounds_toArray, List.set_cons_zero, List.set_cons_succ]
      refine wpAnyH_ready (rs := [16]) (by kernel_rfl) (by simp) ?_
      refine AllReadyH.cons (o := { dst := some 112, op := Op.call { callee := Callee.value (Operand.func 38), args := #[Operand.tmp 111], argTypes := #[32] }, type := 3, pos := "law.go:188", after := #[{ on := 15, ground := Ground.data }, { on := 14, ground := Ground.chain }, { on := 14, ground := Ground.guard }], guard := some (14, false) }) rfl (fun K hK => ?_) AllReadyH.nil
      go_simp
      refine ((HQ.out _ _ _ hOr.out).2.2.2.1).mono ?_
      rintro e v6 ⟨rfl, hn⟩
      have hOn := Lib.hid hn
      clear hOr hn
      have hOr := hOn
      clear hOn
      refine hK.out _ _ ?hswe4r24o16 (fun hS => ?_)
      case hswe4r24o16 => (exact (HQ.out _ _ _ hOr.out).1)
      clear hK K
      try simp only [Act.put, List.setIfInBounds_toArray, List.set_cons_zero, List.set_cons_succ]
      refine wpAnyH_take (i := 17) (oi := { dst := some 113, op := Op.binOp BinOp.neq 3 (Operand.tmp 112) (Operand.const (Value.int IntKind.i64 0)) 3, type := 4, pos := "law.go:188", after := #[{ on := 16, ground := Ground.data }, { on := 14, ground := Ground.guard }], guard := some (14, false) }) (v := ?vwe4r24o17) rfl (by kernel_rfl) (by kernel_rfl) (by kernel_rfl) (fun _ _ _ h => h) (Or.inl ⟨by rfl, ?hwe4r24o17⟩) hS ?_
      case hwe4r24o17 => (intro wx hx; skip; go_simp; (try with_reducible rfl))
      try simp only [Act.put, List.setIfInBounds_toArray, List.set_cons_zero, List.set_cons_succ]
      refine wpAnyH_take (i := 18) (oi := { dst := some 114, op := Op.pick (Operand.tmp 110) (Operand.const (Value.bool true)) (Operand.tmp 113), type := 4, pos := "law.go:188", after := #[{ on := 14, ground := Ground.data }, { on := 17, ground := Ground.data }], guard := none }) (v := ?vwe4r24o18) rfl (by kernel_rfl) (by kernel_rfl) (by kernel_rfl) (fun _ _ _ h => h) (Or.inl ⟨by rfl, ?hwe4r24o18⟩) hS ?_
      case hwe4r24o18 => (intro wx hx; skip; go_simp; (try with_reducible rfl))
      try simp only [Act.put, List.setIfInBounds_toArray, List.set_cons_zero, List.set_cons_succ]
      refine wpAnyH_take (i := 19) (oi := { dst := some 115, op := Op.move (Operand.tmp 114), type := 4, pos := "law.go:188", after := #[{ on := 18, ground := Ground.data }, { on := 16, ground := Ground.chain }], guard := none }) (v := ?vwe4r24o19) rfl (by kernel_rfl) (by kernel_rfl) (by kernel_rfl) (fun _ _ _ h => h) (Or.inl ⟨by rfl, ?hwe4r24o19⟩) hS ?_
      case hwe4r24o19 => (intro wx hx; skip; go_simp; (try with_reducible rfl))
      try simp only [Act.put, List.setIfInBounds_toArray, List.set_cons_zero, List.set_cons_succ]
      refine wpAnyH_take (i := 20) (oi := { dst := some 116, op := Op.load 23 (Operand.tmp 7), type := 23, pos := "law.go:188", after := #[{ on := 19, ground := Ground.guard }], guard := some (19, false) }) (v := ?vwe4r24o20) rfl (by kernel_rfl) (by kernel_rfl) (by kernel_rfl) (fun _ _ _ h => h) (Or.inl ⟨by rfl, ?hwe4r24o20⟩) hS ?_
      case hwe4r24o20 => (intro wx hx; obtain ⟨f0, f1, f2⟩ := GeoQ.cells hx; go_simp; (try with_reducible rfl))
      try simp only [Act.put, List.setIfInBounds_toArray, List.set_cons_zero, List.set_cons_succ]
      refine wpAnyH_take (i := 21) (oi := { dst := some 117, op := Op.move (Operand.tmp 20), type := 42, pos := "law.go:188", after := #[{ on := 19, ground := Ground.guard }], guard := some (19, false) }) (v := ?vwe4r24o21) rfl (by kernel_rfl) (by kernel_rfl) (by kernel_rfl) (fun _ _ _ h => h) (Or.inl ⟨by rfl, ?hwe4r24o21⟩) hS ?_
      case hwe4r24o21 => (intro wx hx; skip; go_simp; (try with_reducible rfl))
      try simp only [Act.put, List.setIfInBounds_toArray, List.set_cons_zero, List.set_cons_succ]
      refine wpAnyH_take (i := 22) (oi := { dst := some 118, op := Op.move (Operand.tmp 10), type := 42, pos := "law.go:188", after := #[{ on := 19, ground := Ground.guard }], guard := some (19, false) }) (v := ?vwe4r24o22) rfl (by kernel_rfl) (by kernel_rfl) (by kernel_rfl) (fun _ _ _ h => h) (Or.inl ⟨by rfl, ?hwe4r24o22⟩) hS ?_
      case hwe4r24o22 => (intro wx hx; skip; go_simp; (try with_reducible rfl))
      try simp only [Act.put, List.setIfInBounds_toArray, List.set_cons_zero, List.set_cons_succ]
      refine wpAnyH_ready (rs := [23]) (by kernel_rfl) (by simp) ?_
      refine AllReadyH.cons (o := { dst := some 119, op := Op.call { callee := Callee.value (Operand.func 39), args := #[Operand.tmp 116, Operand.tmp 117, Operand.tmp 118], argTypes := #[23, 42, 42] }, type := 4, pos := "law.go:188", after := #[{ on := 20, ground := Ground.data }, { on := 21, ground := Ground.data }, { on := 22, ground := Ground.data }, { on := 19, ground := Ground.chain }, { on := 19, ground := Ground.guard }], guard := some (19, false) }) rfl (fun K hK => ?_) AllReadyH.nil
      go_simp
      refine ((HQ.out _ _ _ hOr.out).2.2.2.2).mono ?_
      rintro e v7 ⟨rfl, hn⟩
      have hOn := Lib.hid (hOr.out.quiet hn)
      clear hOr hn
      have hOr := hOn
      clear hOn
      refine hK.out _ _ ?hswe4r24o23 (fun hS => ?_)
      case hswe4r24o23 => (exact (HQ.out _ _ _ hOr.out).1)
      clear hK K
      try simp only [Act.put, List.setIfInBounds_toArray, List.set_cons_zero, List.set_cons_succ]
      refine wpAnyH_take (i := 24) (oi := { dst := some 120, op := Op.unOp UnOp.not 4 (Operand.tmp 119), type := 4, pos := "law.go:188", after := #[{ on := 23, ground := Ground.data }, { on := 19, ground := Ground.guard }], guard := some (19, false) }) (v := ?vwe4r24o24) rfl (by kernel_rfl) (by kernel_rfl) (by kernel_rfl) (fun _ _ _ h => h) (Or.inl ⟨by rfl, ?hwe4r24o24⟩) hS ?_
      case hwe4r24o24 => (intro wx hx; skip; go_simp; (try with_reducible rfl))
      try simp only [Act.put, List.setIfInBounds_toArray, List.set_cons_zero, List.set_cons_succ]
      refine wpAnyH_take (i := 25) (oi := { dst := some 121, op := Op.pick (Operand.tmp 115) (Operand.const (Value.bool true)) (Operand.tmp 120), type := 4, pos := "law.go:188", after := #[{ on := 19, ground := Ground.data }, { on := 24, ground := Ground.data }], guard := none }) (v := ?vwe4r24o25) rfl (by kernel_rfl) (by kernel_rfl) (by kernel_rfl) (fun _ _ _ h => h) (Or.inl ⟨by rfl, ?hwe4r24o25⟩) hS ?_
      case hwe4r24o25 => (intro wx hx; skip; go_simp; (try with_reducible rfl))
      try simp only [Act.put, List.setIfInBounds_toArray, List.set_cons_zero, List.set_cons_succ]
      refine wpAnyH_done (by kernel_rfl) ?_ _
      have hO8 := Lib.hid hOr.out
      clear hOr hS hz0
      go_wp2_with fail
      go_loopw [21] (fun at_ wr => ∃ j : Nat, j ≤ A ∧ at_ = .int .i64 (j : Int) ∧ Hid (Grommet.Own w wr [boxP G 23 #[.int .i64 (A : Int), .int .i64 11, .int .i64 (B : Int)], rowP 45 1 (.slice (some ⟨q, 0, none⟩) K K) K (ys.map wv), devP d (cleanL Z), rowP 45 1 (.slice (some ⟨q2, 0, none⟩) K cp2) K (os.map wv), mntB m d A 11 B A nilV, rowP 45 1 (.slice (some ⟨qn, 0, none⟩) K cn) K (Z.map wv)])) (fun at_ _ => A - (intOf at_).toNat)
      case atStart => exact ⟨0, Nat.zero_le _, rfl, hO8⟩
      case round =>
        clear hO8
        obtain ⟨j, hj, rfl, hO⟩ := hrel
        have j0 : (0 : Int) ≤ (j : Int) := by omega
        obtain ⟨f0, f1, f2⟩ := GeoQ.cells (HQ.out _ _ _ hO.out).1
        by_cases hlt : j < A
        · as_aux_lemma =>
          have l1 : (j : Int) < (A : Int) := by omega
          have HA1 := Lib.hid (HAr.out wr j hlt)
          have HZ1 := Lib.hid (fun wx hO => HZc.out wx qn cn j hlt hO)
          obtain ⟨t, ht⟩ : ∃ t, 264 + 208 * j = t := ⟨_, rfl⟩
          rw [ht] at HA1 HZ1
          have t0 : (0 : Int) ≤ (t : Int) := by omega
          have tK : (t : Int) < (K : Int) := by omega
          have wj : IntKind.i64.wrap ((j : Int) + 1) = (j : Int) + 1 := IntWalk.i64_in _ ⟨by omega, by omega⟩
          clear HAr HZc HQ ht hKj HWk Hf
          go_wp2_with fail
          refine HA1.out.mono ?_
          rintro e v9 ⟨rfl, hn⟩
          have hO2 := Lib.hid (hO.out.quiet hn)
          have e1 := HZ1.out v9 hO2.out
          clear HA1 HZ1 hn hO f0 f1 f2
          go_wp2
          go_roundw
          case rel => exact ⟨j + 1, by omega, by go_num, hO2⟩
          case measure => simp [intOf]; omega
        · as_aux_lemma =>
          obtain rfl : A = j := by omega
          have l1 : ¬ (A : Int) < (A : Int) := by omega
          have hgr := hO.out.grown
          have HW2 := Lib.hid (HWk.out wr)
          have hgr := Lib.hid hgr
          clear HAr HZc HQ hO HWk Hf
          go_wp2_with fail
          refine HW2.out.mono ?_
          rintro e v9 ⟨rfl, hn⟩
          have hgz := Lib.hid (grown_trans hgr.out hn)
          clear HW2 hn hgr
          go_wp2
          go_ret
          exact ⟨rfl, hgz.out⟩
    · as_aux_lemma =>
      have hSl : 1 ≤ S.length := by
        have := hR.2.1
        rcases Nat.eq_zero_or_pos S.length with h | h
        · exact absurd (List.eq_nil_of_length_eq_zero h) this
        · exact h
      have hcnt := hR.2.2.2.2.2.1
      have hcap := Hf.out.2.2.2
      have HL := Lib.hid (show Calls Tryz.prog 29 #[ptr m] wr fun e w' => e = .returned (.int .i64 (S.length : Int)) ∧ w' = wr by
        obtain ⟨_, _, _, _, _, _, Bs, Pn, hO⟩ := hR
        exact MLeft 4 5 m R d A 11 B t (264 + 208 * t) Bs Pn S w wr _ hO rfl rfl)
      have HS := Lib.hid (HSp.out wr G q q2 cp2 d m ys os i t R S ws HE.out hR)
      have hi2 : i + 1 ≤ 1284 := by
        have h0 := Nat.zero_le ((N + 100) * (A - 1 - t))
        generalize (N + 100) * (A - 1 - t) = v1 at hcnt h0
        generalize (N + 100) * A = v2 at hcnt hcap
        omega
      obtain ⟨sl, hsl⟩ : ∃ sl, S.length = sl := ⟨_, rfl⟩
      rw [hsl] at HL hSl
      have s0 : (0 : Int) < (sl : Int) := by omega
      have wi : IntKind.i64.wrap ((i : Int) + 1) = (i : Int) + 1 := IntWalk.i64_in _ ⟨by omega, by omega⟩
      unfold ptr at HL
      clear hR hrun hcnt hcap HSp HTo HTd HAt HWk HE Hf hsl hSl
      go_wp2_with fail
      refine HL.out.mono ?_
      rintro e v1 ⟨rfl, hw⟩
      obtain rfl := hw.symm
      clear HL
      go_wp2_with fail
      refine HS.out.mono ?_
      rintro e v2 ⟨⟨p, rfl⟩, hS2⟩
      have hS2 := Lib.hid hS2
      clear HS
      go_wp2
      go_roundw
      case rel => exact ⟨i + 1, hi2, by go_num, hS2⟩
      case measure => simp [intOf]; omega

theorem walk (x0 x1 : Int) (td : Option Addr) (tl tc : Nat) (T : List Ara) (w : World) (h0 : (Lit.int .u8 x0).wf = true) (h1 : (Lit.int .u8 x1).wf = true) (hT : ArasIn w td tl T) :
    Calls Tryz.prog 4 #[.int .u8 x0, .int .u8 x1, .slice td tl tc] w fun e w' => e = .returned (.bool true) ∧ w.grownBy w' none := by
  have b0 := bounds_u8 h0
  have b1 := bounds_u8 h1
  obtain ⟨X0, rfl⟩ := Int.eq_ofNat_of_zero_le b0.1
  obtain ⟨X1, rfl⟩ := Int.eq_ofNat_of_zero_le b1.1
  by_cases h : 8 < tl
  · exact walk_far _ _ td tl tc w h
  · exact walk_at X0 X1 td tl tc T w (by omega) (by omega) (by omega) hT
end Go.Proofs.YtkalglcbmfhdfaaGreat.mountEnds
