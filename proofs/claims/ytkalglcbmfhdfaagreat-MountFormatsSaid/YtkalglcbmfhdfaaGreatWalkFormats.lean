/- MountFormats of grommetlaw24: every way. -/
import Derived.Test.YtkalglcbmfhdfaaGreatPk24
import Derived.Test.YtkalglcbmfhdfaaGreatPk25
-- OPTIONAL
namespace Go.Proofs.YtkalglcbmfhdfaaGreat.mountFormats
open Go.RowKit Go.Grommet

theorem of_new (a b c N : Nat) (h : mayB (a : Int) (b : Int) (c : Int) = true) (hN : N = 280 + 208 * a + 16 * b + 8 * c) : ofV (fmtL a b c (264 + 208 * a) N) = some ((a : Int), (b : Int), (c : Int)) := by
  have hb := mayB_yes h
  have g : ∀ i, i < N → (fmtL a b c (264 + 208 * a) N).getD i 0 = fmtAt a b c (264 + 208 * a) i := fun i hi => by rw [List.getD_eq_getElem?_getD, get_fmtL _ _ _ _ _ _ hi]; rfl
  unfold ofV
  rw [length_fmtL, g 0 (by omega), g 1 (by omega), g 2 (by omega), g 3 (by omega)]
  rw [show fmtAt a b c (264 + 208 * a) 0 = 32762617960297063 from rfl, show fmtAt a b c (264 + 208 * a) 1 = a from rfl, show fmtAt a b c (264 + 208 * a) 2 = b from rfl, show fmtAt a b c (264 + 208 * a) 3 = c from rfl]
  rw [if_pos ⟨by omega, rfl, h, by rw [words_pos h]; omega⟩]
theorem new_zero (a b c N t : Nat) (ht : t < a) (hN : N = 280 + 208 * a + 16 * b + 8 * c) : (fmtL a b c (264 + 208 * a) N).getD (264 + 208 * t) 0 = 0 := by
  rw [List.getD_eq_getElem?_getD, get_fmtL _ _ _ _ _ _ (by omega)]
  unfold fmtAt
  simp only [Option.getD_some]
  rw [if_neg (by omega), if_neg (by omega), if_neg (by omega), if_neg (by omega), if_neg (by omega), if_neg (by omega), if_neg (by omega), if_neg (by omega)]

set_option maxRecDepth 100000 in
set_option maxHeartbeats 1000000 in
theorem walk_far (x0 x1 : Int) (td : Option Addr) (tl tc : Nat) (w : World) (h : 60 < tl) :
    Calls Tryz.prog 5 #[.int .u8 x0, .int .u8 x1, .slice td tl tc] w fun e w' => e = .returned (.bool true) ∧ w.grownBy w' none := by
  have h' : (60 : Int) < (tl : Int) := by omega
  have HW := Lib.hid (works24 w)
  clear h
  go_enter Tryz.func5, Tryz.ntmps5
  go_wp2_with fail
  refine HW.out.mono ?_
  rintro e w1 ⟨rfl, hg⟩
  have hg := Lib.hid hg
  go_wp2
  go_ret
  exact ⟨rfl, hg.out⟩

set_option maxRecDepth 100000 in
set_option maxHeartbeats 8000000 in
theorem walk_at (x0 x1 : Nat) (td : Option Addr) (tl tc : Nat) (T : List Tur) (w : World) (h0 : x0 ≤ 255) (h1 : x1 ≤ 255) (htl : tl ≤ 60) (hT : TursIn w td tl T) :
    Calls Tryz.prog 5 #[.int .u8 (x0 : Int), .int .u8 (x1 : Int), .slice td tl tc] w fun e w' => e = .returned (.bool true) ∧ w.grownBy w' none := by
  have h' : ¬ (60 : Int) < (tl : Int) := by omega
  have HSm := Lib.hid (fun wx => Small23 x0 x1 wx h0 h1)
  obtain ⟨A, hA⟩ : ∃ A, 1 + x0 % 4 = A := ⟨_, rfl⟩
  obtain ⟨B, hB⟩ : ∃ B, 22 + x1 % 39 = B := ⟨_, rfl⟩
  rw [hA, hB] at HSm
  have hA4 : 1 ≤ A ∧ A ≤ 4 := by omega
  have hB60 : 22 ≤ B ∧ B ≤ 60 := by omega
  have hmay : mayB (A : Int) ((11 : Nat) : Int) (B : Int) = true := by unfold mayB; simp; omega
  obtain ⟨K, hK⟩ : ∃ K, 280 + 208 * A + 16 * 11 + 8 * B = K := ⟨_, rfl⟩
  obtain ⟨N, hN⟩ : ∃ N, K / 8 = N := ⟨_, rfl⟩
  have hKN : K = 8 * N := by omega
  have hKb : 280 ≤ K ∧ K ≤ 2000 := by omega
  obtain ⟨xs, hxs⟩ : ∃ xs, fmtL A 11 B (264 + 208 * A) K = xs := ⟨_, rfl⟩
  have hxl : xs.length = K := by rw [← hxs, length_fmtL]
  have hsm : ∀ n ∈ xs, n < 18446744073709551616 := by rw [← hxs]; exact fmtW_small A 11 B K hmay
  have hof : ofV xs = some ((A : Int), ((11 : Nat) : Int), (B : Int)) := by rw [← hxs]; exact of_new A 11 B K hmay hK.symm
  have hz : ∀ t, t < A → xs.getD (264 + 208 * t) 0 = 0 := fun t ht => by rw [← hxs]; exact new_zero A 11 B K t ht hK.symm
  have HIm := Lib.hid (fun wx Ps hO => ImageW A 11 B hmay td tl tc T w wx Ps hO hT (by omega))
  rw [hK] at HIm
  have HDv := Lib.hid (fun wx m ad cap YS Ps hO hm hl hs => DeviceW m ad K cap YS w wx Ps hO hm hl hs (by omega) (by omega) (by omega))
  have HF0 : ∀ (wx : World) (j d : Nat) (YS : List Nat) (Ps : List Pr), YS.length = K → Grommet.Own w wx Ps → Ps[j]? = some (devP d (cleanL YS)) → Calls Tryz.prog 11 #[ptr d, gv (A : Int) ((11 : Nat) : Int) (B : Int)] wx fun e w' => e = .returned (.int .i64 0) ∧ Grommet.Own w w' (Ps.set j (devP d (cleanL xs))) := by
    intro wx j d YS Ps hl hO hj
    have := MFormat j d A 11 B K N xs (cleanL YS) w wx Ps hO hj (by rw [cleanL_len]; omega) hmay hK hxs (by rw [cleanL_len]; omega)
    rw [fmtE_clean _ _ (by rw [cleanL_len, hxl, hl])] at this
    exact this
  have HF := Lib.hid HF0
  have HFw := Lib.hid (fun wx Ps hO => FormatW A 11 B K xs w wx Ps hO hmay hK hxs)
  have HSu := Lib.hid (fun wx k d Ps hO hk => SureH k d (cleanL xs) w wx Ps hO hk N (by rw [cleanL_len]; omega))
  rw [cleanL_sure, cleanL_len, hxl] at HSu
  have HLo := Lib.hid (fun wx k d Ps hO hk => LooseH k d (cleanL xs) w wx Ps hO hk N (by rw [cleanL_len]; omega))
  rw [cleanL_loose] at HLo
  have HM0 : ∀ (wx : World) (j d : Nat) (Ps : List Pr), Grommet.Own w wx Ps → Ps[j]? = some (devP d (cleanL xs)) → Calls Tryz.prog 23 #[ptr d] wx fun e w' => ∃ m, e = .returned (.tuple #[ptr m, .int .i64 0]) ∧ Grommet.Own w w' (Ps ++ [mntB m d A 11 B A nilV]) := by
    intro wx j d Ps hO hj
    refine (MNewYes j d A 11 B (cleanL xs) N w wx Ps hO hj (by rw [cleanL_len]; omega) (by rw [cleanL_len]; omega) (by rw [cleanL_seen]; exact hsm) (by rw [cleanL_seen]; exact hof) hmay (by rw [cleanL_len]; omega)).mono ?_
    rintro e w' ⟨m, rfl, ⟨hO', _⟩ | ⟨t, R, B2, P2, ht, _, hn, _⟩⟩
    · exact ⟨m, rfl, hO'⟩
    · rw [cleanL_seen] at hn
      exact absurd (hz t ht) hn
  have HM := Lib.hid HM0
  have HWk := Lib.hid (fun wx => works24 wx)
  have Hxl := Lib.hid hxl
  rw [show ((11 : Nat) : Int) = 11 from rfl] at HSm HIm HF HFw
  unfold gv at HSm HIm HF
  unfold ptr at HDv HF HSu HLo HM
  clear hT hA hB hmay hK hN hKN hxs hxl hsm hof hz HF0 HM0 h0 h1
  go_enter Tryz.func5, Tryz.ntmps5
  go_wp2_with fail
  refine (HSm.out _).mono ?_
  rintro e u1 ⟨rfl, hg1⟩
  have hO2 := ((Own.nil w).quiet hg1).addBox 23 #[.int .i64 (A : Int), .int .i64 11, .int .i64 (B : Int)]
  obtain ⟨u2, hu2⟩ : ∃ u, u1.alloc (.cells #[.int .i64 (A : Int), .int .i64 11, .int .i64 (B : Int)] 23) = u := ⟨_, rfl⟩
  obtain ⟨G, hG⟩ : ∃ G, u1.heap.size = G := ⟨_, rfl⟩
  rw [hu2, hG] at hO2
  have hO2 : Grommet.Own w u2 [boxP G 23 #[.int .i64 (A : Int), .int .i64 11, .int .i64 (B : Int)]] := hO2
  obtain ⟨c0, c1, c2⟩ := GeoQ.cells (GeoP hO2 (k := 0) rfl)
  have HI2 := Lib.hid (HIm.out u2 _ hO2)
  clear HSm HIm hg1 hO2
  go_wp2_with fail
  refine HI2.out.mono ?_
  rintro e u3 ⟨YS, ad, cp, rfl, hYl, hYs, hO3⟩
  have hO3 : Grommet.Own w u3 [boxP G 23 #[.int .i64 (A : Int), .int .i64 11, .int .i64 (B : Int)], rowP 45 1 (.slice ad K cp) K (YS.map wv)] := hO3
  have HD3 := Lib.hid (HDv.out u3 1 ad cp YS _ hO3 rfl hYl hYs)
  have HYl := Lib.hid hYl
  clear HI2 HDv hO3 hYl hYs hu2 hG c0 c1 c2
  go_wp2_with fail
  refine HD3.out.mono ?_
  rintro e u4 ⟨d, rfl, hO4⟩
  have hO4 : Grommet.Own w u4 [boxP G 23 #[.int .i64 (A : Int), .int .i64 11, .int .i64 (B : Int)], rowP 45 1 (.slice ad K cp) K (YS.map wv), devP d (cleanL YS)] := hO4
  obtain ⟨c0, c1, c2⟩ := GeoQ.cells (GeoP hO4 (k := 0) rfl)
  have HF4 := Lib.hid (HF.out u4 2 d YS _ HYl.out hO4 rfl)
  clear HD3 HF hO4 HYl
  go_wp2_with fail
  refine HF4.out.mono ?_
  rintro e u5 ⟨rfl, hO5⟩
  have hO5 : Grommet.Own w u5 [boxP G 23 #[.int .i64 (A : Int), .int .i64 11, .int .i64 (B : Int)], rowP 45 1 (.slice ad K cp) K (YS.map wv), devP d (cleanL xs)] := hO5
  obtain ⟨d0, d1, d2⟩ := GeoQ.cells (GeoP hO5 (k := 0) rfl)
  have HF5 := Lib.hid (HFw.out u5 _ hO5)
  clear HF4 HFw hO5 c0 c1 c2
  go_wp2_with fail
  refine HF5.out.mono ?_
  rintro e u6 ⟨q, rfl, hO6⟩
  have hO6 : Grommet.Own w u6 [boxP G 23 #[.int .i64 (A : Int), .int .i64 11, .int .i64 (B : Int)], rowP 45 1 (.slice ad K cp) K (YS.map wv), devP d (cleanL xs), rowP 45 1 (.slice (some ⟨q, 0, none⟩) K K) K (xs.map wv)] := hO6
  have HS6 := Lib.hid (HSu.out u6 2 d _ hO6 rfl)
  clear HF5 HSu hO6 d0 d1 d2
  go_wp2_with fail
  refine HS6.out.mono ?_
  rintro e u7 ⟨ad2, cp2, rfl, hO7⟩
  have hO7 : Grommet.Own w u7 [boxP G 23 #[.int .i64 (A : Int), .int .i64 11, .int .i64 (B : Int)], rowP 45 1 (.slice ad K cp) K (YS.map wv), devP d (cleanL xs), rowP 45 1 (.slice (some ⟨q, 0, none⟩) K K) K (xs.map wv), rowP 45 1 (.slice ad2 K cp2) K (xs.map wv)] := hO7
  have HL7 := Lib.hid (HLo.out u7 2 d _ hO7 rfl)
  clear HS6 HLo hO7
  go_wp2_with fail
  refine HL7.out.mono ?_
  rintro e u8 ⟨rfl, hO8⟩
  have hO8 := Lib.hid hO8
  clear HL7
  go_wp2_with fail
  go_loopw [12] (fun i wr => ∃ (j : Nat), j ≤ K ∧ i = .int .i64 (j : Int) ∧ Hid (Grommet.Own w wr [boxP G 23 #[.int .i64 (A : Int), .int .i64 11, .int .i64 (B : Int)], rowP 45 1 (.slice ad K cp) K (YS.map wv), devP d (cleanL xs), rowP 45 1 (.slice (some ⟨q, 0, none⟩) K K) K (xs.map wv), rowP 45 1 (.slice ad2 K cp2) K (xs.map wv)])) (fun i _ => K - (intOf i).toNat)
  case atStart => exact ⟨0, Nat.zero_le _, rfl, hO8⟩
  case round =>
    clear hO8
    obtain ⟨j, hj, rfl, hO⟩ := hrel
    have j0 : (0 : Int) ≤ (j : Int) := by omega
    by_cases hlt : j < K
    · as_aux_lemma =>
      have hlt' : (j : Int) < (K : Int) := by omega
      have hjx : j < xs.length := by rw [Hxl.out]; exact hlt
      have hgt : (xs.map wv)[j]? = some (wv (xs.getD j 0)) := by rw [List.getElem?_map, List.getElem?_eq_getElem hjx, List.getD_eq_getElem?_getD, List.getElem?_eq_getElem hjx]; rfl
      obtain ⟨V, hV⟩ : ∃ V, xs.getD j 0 = V := ⟨_, rfl⟩
      rw [hV] at hgt
      obtain ⟨q1, he1, e1, _, _⟩ := Own.cell hO.out 3 rfl j (wv V) hgt
      cases he1
      obtain ⟨q2, rfl, e2, _, _⟩ := Own.cell hO.out 4 rfl j (wv V) hgt
      unfold wv at e1 e2
      have wj : IntKind.i64.wrap ((j : Int) + 1) = (j : Int) + 1 := IntWalk.i64_in _ ⟨by omega, by omega⟩
      have qv : ((V : Int) != (V : Int)) = false := by simp
      have HQ := Lib.hid (fun wx (hg : wr.grownBy wx none) => hO.out.quiet hg)
      clear hO hgt hV hjx HM HWk Hxl
      go_wp2_with fail
      go_quiet (fail)
      go_wp2
      go_roundw
      case rel => exact ⟨j + 1, by omega, by go_num, Lib.hid (HQ.out _ (grown_drewN _ _ _))⟩
      case measure => simp [intOf]; omega
    · as_aux_lemma =>
      obtain rfl : K = j := by omega
      have hlt' : ¬ (K : Int) < (K : Int) := by omega
      have HM2 := Lib.hid (HM.out wr 2 d _ hO.out rfl)
      clear HM hO
      go_wp2_with fail
      refine HM2.out.mono ?_
      rintro e v1 ⟨m, rfl, hO2⟩
      have hO2 : Grommet.Own w v1 [boxP G 23 #[.int .i64 (A : Int), .int .i64 11, .int .i64 (B : Int)], rowP 45 1 (.slice ad K cp) K (YS.map wv), devP d (cleanL xs), rowP 45 1 (.slice (some ⟨q, 0, none⟩) K K) K (xs.map wv), rowP 45 1 (.slice ad2 K cp2) K (xs.map wv), mntB m d A 11 B A nilV] := hO2
      have HQ4 := Lib.hid (fun wx (hO : Grommet.Own w wx [boxP G 23 #[.int .i64 (A : Int), .int .i64 11, .int .i64 (B : Int)], rowP 45 1 (.slice ad K cp) K (YS.map wv), devP d (cleanL xs), rowP 45 1 (.slice (some ⟨q, 0, none⟩) K K) K (xs.map wv), rowP 45 1 (.slice ad2 K cp2) K (xs.map wv), mntB m d A 11 B A nilV]) => And.intro (GeoP hO (k := 0) rfl) (And.intro (MLeftNil 5 m d A 11 B A w wx _ hO rfl) (MGeo 5 m d A 11 B A nilV w wx _ hO rfl)))
      have hOr := Lib.hid (hO2.quiet (grown_drew (World.grownBy.refl v1 none)))
      have hz0 := Lib.hid (HQ4.out _ hOr.out).1
      rw [show ((11 : Nat) : Int) = 11 from rfl] at HQ4
      unfold gv ptr at HQ4
      clear HM2 hO2
      go_wp2_with fail
      refine wp_region_held_drew (S := fun w' => GeoQ G (A : Int) 11 (B : Int) w') (by kernel_rfl) (hz0.out) (fun hS => ?_)
      refine wpAnyH_take (i := 0) (oi := { dst := some 69, op := Op.move (Operand.tmp 14), type := 33, pos := "law.go:285", after := #[], guard := none }) (v := ?vwf5r18o0) rfl (by kernel_rfl) (by kernel_rfl) (by kernel_rfl) (fun _ _ _ h => h) (Or.inl ⟨by rfl, ?hwf5r18o0⟩) hS ?_
      case hwf5r18o0 => (intro wx hx; skip; go_simp; (try with_reducible rfl))
      try simp only [Act.put, List.setIfInBounds_toArray, List.set_cons_zero, List.set_cons_succ]
      refine wpAnyH_take (i := 1) (oi := { dst := some 70, op := Op.binOp BinOp.eql 33 (Operand.tmp 69) (Operand.const (Value.int IntKind.i64 0)) 33, type := 4, pos := "law.go:285", after := #[{ on := 0, ground := Ground.data }], guard := none }) (v := ?vwf5r18o1) rfl (by kernel_rfl) (by kernel_rfl) (by kernel_rfl) (fun _ _ _ h => h) (Or.inl ⟨by rfl, ?hwf5r18o1⟩) hS ?_
      case hwf5r18o1 => (intro wx hx; skip; go_simp; (try with_reducible rfl))
      try simp only [Act.put, List.setIfInBounds_toArray, List.set_cons_zero, List.set_cons_succ]
      refine wpAnyH_take (i := 2) (oi := { dst := some 71, op := Op.move (Operand.tmp 70), type := 4, pos := "law.go:285", after := #[{ on := 1, ground := Ground.data }], guard := none }) (v := ?vwf5r18o2) rfl (by kernel_rfl) (by kernel_rfl) (by kernel_rfl) (fun _ _ _ h => h) (Or.inl ⟨by rfl, ?hwf5r18o2⟩) hS ?_
      case hwf5r18o2 => (intro wx hx; skip; go_simp; (try with_reducible rfl))
      try simp only [Act.put, List.setIfInBounds_toArray, List.set_cons_zero, List.set_cons_succ]
      refine wpAnyH_take (i := 3) (oi := { dst := some 72, op := Op.move (Operand.tmp 13), type := 50, pos := "law.go:285", after := #[{ on := 2, ground := Ground.guard }], guard := some (2, true) }) (v := ?vwf5r18o3) rfl (by kernel_rfl) (by kernel_rfl) (by kernel_rfl) (fun _ _ _ h => h) (Or.inl ⟨by rfl, ?hwf5r18o3⟩) hS ?_
      case hwf5r18o3 => (intro wx hx; skip; go_simp; (try with_reducible rfl))
      try simp only [Act.put, List.setIfInBounds_toArray, List.set_cons_zero, List.set_cons_succ]
      refine wpAnyH_take (i := 4) (oi := { dst := some 73, op := Op.binOp BinOp.neq 50 (Operand.tmp 72) (Operand.const (Value.pointer none)) 50, type := 4, pos := "law.go:285", after := #[{ on := 3, ground := Ground.data }, { on := 2, ground := Ground.guard }], guard := some (2, true) }) (v := ?vwf5r18o4) rfl (by kernel_rfl) (by kernel_rfl) (by kernel_rfl) (fun _ _ _ h => h) (Or.inl ⟨by rfl, ?hwf5r18o4⟩) hS ?_
      case hwf5r18o4 => (intro wx hx; skip; go_simp; (try with_reducible rfl))
      try simp only [Act.put, List.setIfInBounds_toArray, List.set_cons_zero, List.set_cons_succ]
      refine wpAnyH_take (i := 5) (oi := { dst := some 74, op := Op.pick (Operand.tmp 71) (Operand.tmp 73) (Operand.const (Value.bool false)), type := 4, pos := "law.go:285", after := #[{ on := 2, ground := Ground.data }, { on := 4, ground := Ground.data }], guard := none }) (v := ?vwf5r18o5) rfl (by kernel_rfl) (by kernel_rfl) (by kernel_rfl) (fun _ _ _ h => h) (Or.inl ⟨by rfl, ?hwf5r18o5⟩) hS ?_
      case hwf5r18o5 => (intro wx hx; skip; go_simp; (try with_reducible rfl))
      try simp only [Act.put, List.setIfInBounds_toArray, List.set_cons_zero, List.set_cons_succ]
      refine wpAnyH_take (i := 6) (oi := { dst := some 75, op := Op.move (Operand.tmp 74), type := 4, pos := "law.go:285", after := #[{ on := 5, ground := Ground.data }, { on := 2, ground := Ground.chain }], guard := none }) (v := ?vwf5r18o6) rfl (by kernel_rfl) (by kernel_rfl) (by kernel_rfl) (fun _ _ _ h => h) (Or.inl ⟨by rfl, ?hwf5r18o6⟩) hS ?_
      case hwf5r18o6 => (intro wx hx; skip; go_simp; (try with_reducible rfl))
      try simp only [Act.put, List.setIfInBounds_toArray, List.set_cons_zero, List.set_cons_succ]
      refine wpAnyH_take (i := 7) (oi := { dst := some 76, op := Op.move (Operand.tmp 13), type := 50, pos := "law.go:285", after := #[{ on := 6, ground := Ground.guard }], guard := some (6, true) }) (v := ?vwf5r18o7) rfl (by kernel_rfl) (by kernel_rfl) (by kernel_rfl) (fun _ _ _ h => h) (Or.inl ⟨by rfl, ?hwf5r18o7⟩) hS ?_
      case hwf5r18o7 => (intro wx hx; skip; go_simp; (try with_reducible rfl))
      try simp only [Act.put, List.setIfInBounds_toArray, List.set_cons_zero, List.set_cons_succ]
      refine wpAnyH_ready (rs := [8]) (by kernel_rfl) (by simp) ?_
      refine AllReadyH.cons (o := { dst := some 77, op := Op.call { callee := Callee.value (Operand.func 29), args := #[Operand.tmp 76], argTypes := #[50] }, type := 3, pos := "law.go:285", after := #[{ on := 7, ground := Ground.data }, { on := 6, ground := Ground.chain }, { on := 6, ground := Ground.guard }], guard := some (6, true) }) rfl (fun K hK => ?_) AllReadyH.nil
      go_simp
      refine ((HQ4.out _ hOr.out).2.1).mono ?_
      rintro e v3 ⟨rfl, hw⟩
      obtain rfl := hw.symm
      refine hK.out _ _ ?hswf5r18o8 (fun hS => ?_)
      case hswf5r18o8 => (exact (HQ4.out _ hOr.out).1)
      clear hK K
      try simp only [Act.put, List.setIfInBounds_toArray, List.set_cons_zero, List.set_cons_succ]
      refine wpAnyH_take (i := 9) (oi := { dst := some 78, op := Op.binOp BinOp.eql 3 (Operand.tmp 77) (Operand.const (Value.int IntKind.i64 0)) 3, type := 4, pos := "law.go:285", after := #[{ on := 8, ground := Ground.data }, { on := 6, ground := Ground.guard }], guard := some (6, true) }) (v := ?vwf5r18o9) rfl (by kernel_rfl) (by kernel_rfl) (by kernel_rfl) (fun _ _ _ h => h) (Or.inl ⟨by rfl, ?hwf5r18o9⟩) hS ?_
      case hwf5r18o9 => (intro wx hx; skip; go_simp; (try with_reducible rfl))
      try simp only [Act.put, List.setIfInBounds_toArray, List.set_cons_zero, List.set_cons_succ]
      refine wpAnyH_take (i := 10) (oi := { dst := some 79, op := Op.pick (Operand.tmp 75) (Operand.tmp 78) (Operand.const (Value.bool false)), type := 4, pos := "law.go:285", after := #[{ on := 6, ground := Ground.data }, { on := 9, ground := Ground.data }], guard := none }) (v := ?vwf5r18o10) rfl (by kernel_rfl) (by kernel_rfl) (by kernel_rfl) (fun _ _ _ h => h) (Or.inl ⟨by rfl, ?hwf5r18o10⟩) hS ?_
      case hwf5r18o10 => (intro wx hx; skip; go_simp; (try with_reducible rfl))
      try simp only [Act.put, List.setIfInBounds_toArray, List.set_cons_zero, List.set_cons_succ]
      refine wpAnyH_take (i := 11) (oi := { dst := some 80, op := Op.move (Operand.tmp 79), type := 4, pos := "law.go:285", after := #[{ on := 10, ground := Ground.data }, { on := 8, ground := Ground.chain }], guard := none }) (v := ?vwf5r18o11) rfl (by kernel_rfl) (by kernel_rfl) (by kernel_rfl) (fun _ _ _ h => h) (Or.inl ⟨by rfl, ?hwf5r18o11⟩) hS ?_
      case hwf5r18o11 => (intro wx hx; skip; go_simp; (try with_reducible rfl))
      try simp only [Act.put, List.setIfInBounds_toArray, List.set_cons_zero, List.set_cons_succ]
      refine wpAnyH_take (i := 12) (oi := { dst := some 81, op := Op.move (Operand.tmp 13), type := 50, pos := "law.go:285", after := #[{ on := 11, ground := Ground.guard }], guard := some (11, true) }) (v := ?vwf5r18o12) rfl (by kernel_rfl) (by kernel_rfl) (by kernel_rfl) (fun _ _ _ h => h) (Or.inl ⟨by rfl, ?hwf5r18o12⟩) hS ?_
      case hwf5r18o12 => (intro wx hx; skip; go_simp; (try with_reducible rfl))
      try simp only [Act.put, List.setIfInBounds_toArray, List.set_cons_zero, List.set_cons_succ]
      refine wpAnyH_take (i := 14) (oi := { dst := some 83, op := Op.load 23 (Operand.tmp 7), type := 23, pos := "law.go:285", after := #[{ on := 11, ground := Ground.guard }], guard := some (11, true) }) (v := ?vwf5r18o14) rfl (by kernel_rfl) (by kernel_rfl) (by kernel_rfl) (fun _ _ _ h => h) (Or.inl ⟨by rfl, ?hwf5r18o14⟩) hS ?_
      case hwf5r18o14 => (intro wx hx; obtain ⟨f0, f1, f2⟩ := GeoQ.cells hx; go_simp; (try with_reducible rfl))
      try simp only [Act.put, List.setIfInBounds_toArray, List.set_cons_zero, List.set_cons_succ]
      refine wpAnyH_ready (rs := [13]) (by kernel_rfl) (by simp) ?_
      refine AllReadyH.cons (o := { dst := some 82, op := Op.call { callee := Callee.value (Operand.func 32), args := #[Operand.tmp 81], argTypes := #[50] }, type := 23, pos := "law.go:285", after := #[{ on := 12, ground := Ground.data }, { on := 11, ground := Ground.chain }, { on := 11, ground := Ground.guard }], guard := some (11, true) }) rfl (fun K hK => ?_) AllReadyH.nil
      go_simp
      refine ((HQ4.out _ hOr.out).2.2).mono ?_
      rintro e v5 ⟨rfl, hn⟩
      have hOn := Lib.hid (hOr.out.quiet hn)
      clear hOr hn
      have hOr := hOn
      clear hOn
      refine hK.out _ _ ?hswf5r18o13 (fun hS => ?_)
      case hswf5r18o13 => (exact (HQ4.out _ hOr.out).1)
      clear hK K
      try simp only [Act.put, List.setIfInBounds_toArray, List.set_cons_zero, List.set_cons_succ]
      refine wpAnyH_take (i := 15) (oi := { dst := some 84, op := Op.binOp BinOp.eql 23 (Operand.tmp 82) (Operand.tmp 83) 23, type := 4, pos := "law.go:285", after := #[{ on := 13, ground := Ground.data }, { on := 14, ground := Ground.data }, { on := 11, ground := Ground.guard }], guard := some (11, true) }) (v := ?vwf5r18o15) rfl (by kernel_rfl) (by kernel_rfl) (by kernel_rfl) (fun _ _ _ h => h) (Or.inl ⟨by rfl, ?hwf5r18o15⟩) hS ?_
      case hwf5r18o15 => (intro wx hx; skip; go_simp; (try with_reducible rfl))
      try simp only [Act.put, List.setIfInBounds_toArray, List.set_cons_zero, List.set_cons_succ]
      refine wpAnyH_take (i := 16) (oi := { dst := some 85, op := Op.pick (Operand.tmp 80) (Operand.tmp 84) (Operand.const (Value.bool false)), type := 4, pos := "law.go:285", after := #[{ on := 11, ground := Ground.data }, { on := 15, ground := Ground.data }], guard := none }) (v := ?vwf5r18o16) rfl (by kernel_rfl) (by kernel_rfl) (by kernel_rfl) (fun _ _ _ h => h) (Or.inl ⟨by rfl, ?hwf5r18o16⟩) hS ?_
      case hwf5r18o16 => (intro wx hx; skip; go_simp; (try with_reducible rfl))
      try simp only [Act.put, List.setIfInBounds_toArray, List.set_cons_zero, List.set_cons_succ]
      refine wpAnyH_take (i := 17) (oi := { dst := some 86, op := Op.move (Operand.tmp 85), type := 4, pos := "law.go:285", after := #[{ on := 16, ground := Ground.data }, { on := 13, ground := Ground.chain }], guard := none }) (v := ?vwf5r18o17) rfl (by kernel_rfl) (by kernel_rfl) (by kernel_rfl) (fun _ _ _ h => h) (Or.inl ⟨by rfl, ?hwf5r18o17⟩) hS ?_
      case hwf5r18o17 => (intro wx hx; skip; go_simp; (try with_reducible rfl))
      try simp only [Act.put, List.setIfInBounds_toArray, List.set_cons_zero, List.set_cons_succ]
      refine wpAnyH_ready (rs := [18]) (by kernel_rfl) (by simp) ?_
      refine AllReadyH.cons (o := { dst := some 87, op := Op.call { callee := Callee.value (Operand.func 6), args := #[], argTypes := #[] }, type := 4, pos := "law.go:285", after := #[{ on := 17, ground := Ground.chain }, { on := 17, ground := Ground.guard }], guard := some (17, true) }) rfl (fun K hK => ?_) AllReadyH.nil
      go_simp
      refine (HWk.out _).mono ?_
      rintro e v6 ⟨rfl, hn⟩
      have hOn := Lib.hid (hOr.out.quiet hn)
      clear hOr hn
      have hOr := hOn
      clear hOn
      refine hK.out _ _ ?hswf5r18o18 (fun hS => ?_)
      case hswf5r18o18 => (exact (HQ4.out _ hOr.out).1)
      clear hK K
      try simp only [Act.put, List.setIfInBounds_toArray, List.set_cons_zero, List.set_cons_succ]
      refine wpAnyH_take (i := 19) (oi := { dst := some 88, op := Op.pick (Operand.tmp 86) (Operand.tmp 87) (Operand.const (Value.bool false)), type := 4, pos := "law.go:285", after := #[{ on := 17, ground := Ground.data }, { on := 18, ground := Ground.data }], guard := none }) (v := ?vwf5r18o19) rfl (by kernel_rfl) (by kernel_rfl) (by kernel_rfl) (fun _ _ _ h => h) (Or.inl ⟨by rfl, ?hwf5r18o19⟩) hS ?_
      case hwf5r18o19 => (intro wx hx; skip; go_simp; (try with_reducible rfl))
      try simp only [Act.put, List.setIfInBounds_toArray, List.set_cons_zero, List.set_cons_succ]
      refine wpAnyH_take (i := 20) (oi := { dst := some 6, op := Op.assign (Operand.tmp 88), type := 4, pos := "law.go:285", after := #[{ on := 19, ground := Ground.data }, { on := 18, ground := Ground.chain }, { on := 0, ground := Ground.phase }, { on := 1, ground := Ground.phase }, { on := 2, ground := Ground.phase }, { on := 3, ground := Ground.phase }, { on := 4, ground := Ground.phase }, { on := 5, ground := Ground.phase }, { on := 6, ground := Ground.phase }, { on := 7, ground := Ground.phase }, { on := 8, ground := Ground.phase }, { on := 9, ground := Ground.phase }, { on := 10, ground := Ground.phase }, { on := 11, ground := Ground.phase }, { on := 12, ground := Ground.phase }, { on := 13, ground := Ground.phase }, { on := 14, ground := Ground.phase }, { on := 15, ground := Ground.phase }, { on := 16, ground := Ground.phase }, { on := 17, ground := Ground.phase }, { on := 18, ground := Ground.phase }, { on := 19, ground := Ground.phase }], guard := none }) (v := ?vwf5r18o20) rfl (by kernel_rfl) (by kernel_rfl) (by kernel_rfl) (fun _ _ _ h => h) (Or.inl ⟨by rfl, ?hwf5r18o20⟩) hS ?_
      case hwf5r18o20 => (intro wx hx; skip; go_simp; (try with_reducible rfl))
      try simp only [Act.put, List.setIfInBounds_toArray, List.set_cons_zero, List.set_cons_succ]
      refine wpAnyH_done (by kernel_rfl) ?_ _
      have hg := Lib.hid hOr.out.grown
      clear hOr HQ4 HWk hS hz0
      go_wp2
      go_ret
      exact ⟨rfl, hg.out⟩

theorem walk (x0 x1 : Int) (td : Option Addr) (tl tc : Nat) (T : List Tur) (w : World) (h0 : (Lit.int .u8 x0).wf = true) (h1 : (Lit.int .u8 x1).wf = true) (hT : TursIn w td tl T) :
    Calls Tryz.prog 5 #[.int .u8 x0, .int .u8 x1, .slice td tl tc] w fun e w' => e = .returned (.bool true) ∧ w.grownBy w' none := by
  have b0 := bounds_u8 h0
  have b1 := bounds_u8 h1
  obtain ⟨X0, rfl⟩ := Int.eq_ofNat_of_zero_le b0.1
  obtain ⟨X1, rfl⟩ := Int.eq_ofNat_of_zero_le b1.1
  by_cases h : 60 < tl
  · exact walk_far _ _ td tl tc w h
  · exact walk_at X0 X1 td tl tc T w (by omega) (by omega) (by omega) hT
end Go.Proofs.YtkalglcbmfhdfaaGreat.mountFormats
