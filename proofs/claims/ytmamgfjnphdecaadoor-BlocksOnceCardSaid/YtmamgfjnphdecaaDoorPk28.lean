/- Texts of ours, packed. -/
import Derived.Test.YtmamgfjnphdecaaDoorPk26
import Derived.Test.YtmamgfjnphdecaaDoorPk27
import Derived.Test.YtmamgfjnphdecaaDoorPk13
import Derived.Test.YtmamgfjnphdecaaDoorPk5
section
/- Package blocks: Drop. -/
namespace Go.Proofs.YtmamgfjnphdecaaDoor
open Go.RowKit Go.Grommet
set_option linter.unusedVariables false

set_option maxRecDepth 100000 in
set_option maxHeartbeats 1000000 in
theorem bmDrop_none (XM : Nat) (k p : Int) (w0 w : World) (Ps : List Pr) (h : Grommet.Own w0 w Ps) (hL : LookC XM k p 0 0 w0 Ps) :
    Calls Tryd.prog 20 #[.pointer (some ⟨XM, 0, none⟩), .int .i64 k] w fun e' w' => e' = .returned (.int .i64 0) ∧ Grommet.Own w0 w' Ps := by
  have HL := Lib.hid (hL w h)
  clear h hL
  go_enter Tryd.func20, Tryd.ntmps20
  go_wp2_with fail
  refine HL.out.mono ?_
  rintro e' w1 ⟨rfl, hO⟩
  have hO := Lib.hid hO
  clear HL
  go_wp2
  go_ret
  exact ⟨rfl, hO.out⟩

def giveBL (xs : List Nat) (L : List (Nat × Nat)) (a c : Nat) (m t : Int) : List (Nat × Nat) := setL xs (giveL xs L (272 + 208 * a) c m) t 0

set_option maxRecDepth 100000 in
set_option maxHeartbeats 1000000 in
theorem bmDrop_plain (kv km XM g a b c n A : Nat) (k t m : Int) (f0 f1 f2 f3 f4 f5 f6 f7 f8 f9 : Nat) (xs : List Nat) (L L1 : List (Nat × Nat)) (w0 w : World) (Ps : List Pr) (h : Grommet.Own w0 w Ps) (hv : Ps[kv]? = some (viewP g xs L)) (hm : Ps[km]? = some (bmP XM g a b c n)) (hkm : kv ≠ km) (hN : NodeOk xs L a b c n A)
    (hL : LookC XM k t m 0 w0 Ps) (hm0 : m ≠ 0) (ht : 0 ≤ t ∧ t < (xs.length : Int)) (he : giveE xs L (272 + 208 * a) c m = 0) (hl : (giveL xs L (272 + 208 * a) c m).length < 96) (hL1 : giveBL xs L a c m t = L1)
    (HG : ∀ Rs : List Pr, Rs[kv]? = some (viewP g xs L1) → ∀ wx Qs, Grommet.Own w0 wx (Rs ++ Qs) → Calls Tryd.prog 33 #[.pointer (some ⟨g, 0, none⟩), gv (a : Int) (b : Int) (c : Int), .int .i64 (n : Int)] wx fun e w' => e = .returned (.tuple #[nv f0 f1 f2 f3 f4 f5 f6 f7 f8 f9, .int .i64 0]) ∧ Grommet.Own w0 w' (Rs ++ Qs)) (h8 : f8 = 0) :
    Calls Tryd.prog 20 #[.pointer (some ⟨XM, 0, none⟩), .int .i64 k] w fun e' w' => e' = .returned (.int .i64 0) ∧ Grommet.Own w0 w' (Ps.set kv (viewP g xs L1)) := by
  have hkl := (List.getElem?_eq_some_iff.1 hv).1
  have HL := Lib.hid (hL w h)
  have HB0 := Lib.hid (show ∀ wx Rs, Grommet.Own w0 wx (Ps ++ Rs) → BM XM g a b c n wx from fun wx Rs hO => BM.of (k := km) hO (app_old hm))
  have HA := Lib.hid (fun wx (hO : Grommet.Own w0 wx Ps) => ANewH kv g a b c xs L w0 wx Ps hO hv hN.may hN.fits hN.few)
  have HV := Lib.hid (fun wx Y XI XB XA (hO : Grommet.Own w0 wx (Ps ++ alcPs Y g a b c XI XB XA)) => bmGive kv km _ _ _ g a b c XI XB XA XM n t m xs L w0 wx _ hO (alcIs_of hv hN) (app_old hm) hkm he hl ht)
  rw [show setL xs (giveL xs L (272 + 208 * a) c m) t 0 = L1 from hL1] at HV
  have HB1 := Lib.hid (show ∀ Y XI XB XA wx Qs, Grommet.Own w0 wx ((Ps ++ alcPs Y g a b c XI XB XA).set kv (viewP g xs L1) ++ Qs) → BM XM g a b c n wx from fun Y XI XB XA wx Qs hO => BM.of (k := km) hO (app_old (set_same_at _ _ (app_old hm) hkm)))
  have HG1 := Lib.hid (fun Y XI XB XA => HG ((Ps ++ alcPs Y g a b c XI XB XA).set kv (viewP g xs L1)) (set_at _ (app_old hv)))
  have HQ := Lib.hid (show ∀ wx Y XI XB XA Q, Grommet.Own w0 wx ((Ps ++ alcPs Y g a b c XI XB XA).set kv Q) → Grommet.Own w0 wx (Ps.set kv Q) from fun wx Y XI XB XA Q hO => by
    rw [List.set_append_left _ _ hkl] at hO
    exact hO.less)
  have e1 : (m == 0) = false := by simpa using hm0
  have He8 := Lib.hid (show ((f8 : Int) == 0) = true by simp [h8])
  unfold nv gv at *
  clear h hv hm hkm hN hL hm0 ht he hl hL1 HG hkl h8
  go_enter Tryd.func20, Tryd.ntmps20
  go_wp2_with fail
  refine HL.out.mono ?_
  rintro e' w1 ⟨rfl, hO1⟩
  have hS0 := Lib.hid (HB0.out _ [] (by rw [List.append_nil]; exact hO1)).drew
  have hOr := Lib.hid (hO1.quiet (grown_drew (World.grownBy.refl w1 none)))
  clear HL hO1
  go_wp2_with fail
  refine wp_region_held_drew (S := fun w' => BM XM g a b c n w') (by kernel_rfl) (hS0.out) (fun hS => ?_)
  refine wpAnyH_take (i := 0) (oi := { dst := some 26, op := Op.move (Operand.tmp 0), type := 32, pos := "blocks.go:151", after := #[], guard := none }) (v := ?vda20r4o0) rfl (by kernel_rfl) (by kernel_rfl) (by kernel_rfl) (fun _ _ _ h => h) (Or.inl ⟨by rfl, ?hda20r4o0⟩) hS ?_
  case hda20r4o0 => (intro wx hx; skip; go_simp; (try with_reducible rfl))
  try simp only [Act.put, List.setIfInBounds_toArray, List.set_cons_zero, List.set_cons_succ]
  refine wpAnyH_take (i := 1) (oi := { dst := some 27, op := Op.nilCheck (Operand.tmp 26), type := 0, pos := "blocks.go:151", after := #[{ on := 0, ground := Ground.data }], guard := none }) (v := ?vda20r4o1) rfl (by kernel_rfl) (by kernel_rfl) (by kernel_rfl) (fun _ _ _ h => h) (Or.inl ⟨by rfl, ?hda20r4o1⟩) hS ?_
  case hda20r4o1 => (intro wx hx; skip; go_simp; (try with_reducible rfl))
  try simp only [Act.put, List.setIfInBounds_toArray, List.set_cons_zero, List.set_cons_succ]
  refine wpAnyH_take (i := 2) (oi := { dst := some 28, op := Op.fieldAddr 75 (Operand.tmp 27) 0, type := 0, pos := "blocks.go:151", after := #[{ on := 1, ground := Ground.data }], guard := none }) (v := ?vda20r4o2) rfl (by kernel_rfl) (by kernel_rfl) (by kernel_rfl) (fun _ _ _ h => h) (Or.inl ⟨by rfl, ?hda20r4o2⟩) hS ?_
  case hda20r4o2 => (intro wx hx; skip; go_simp; (try with_reducible rfl))
  try simp only [Act.put, List.setIfInBounds_toArray, List.set_cons_zero, List.set_cons_succ]
  refine wpAnyH_take (i := 3) (oi := { dst := some 29, op := Op.load 30 (Operand.tmp 28), type := 30, pos := "blocks.go:151", after := #[{ on := 2, ground := Ground.data }], guard := none }) (v := ?vda20r4o3) rfl (by kernel_rfl) (by kernel_rfl) (by kernel_rfl) (fun _ _ _ h => h) (Or.inl ⟨by rfl, ?hda20r4o3⟩) hS ?_
  case hda20r4o3 => (intro wx hx; obtain ⟨c0, c1, c2, c3, c4⟩ := BM.cells hx; go_simp; (try with_reducible rfl))
  try simp only [Act.put, List.setIfInBounds_toArray, List.set_cons_zero, List.set_cons_succ]
  refine wpAnyH_take (i := 4) (oi := { dst := some 30, op := Op.move (Operand.tmp 0), type := 32, pos := "blocks.go:151", after := #[], guard := none }) (v := ?vda20r4o4) rfl (by kernel_rfl) (by kernel_rfl) (by kernel_rfl) (fun _ _ _ h => h) (Or.inl ⟨by rfl, ?hda20r4o4⟩) hS ?_
  case hda20r4o4 => (intro wx hx; skip; go_simp; (try with_reducible rfl))
  try simp only [Act.put, List.setIfInBounds_toArray, List.set_cons_zero, List.set_cons_succ]
  refine wpAnyH_take (i := 5) (oi := { dst := some 31, op := Op.nilCheck (Operand.tmp 30), type := 0, pos := "blocks.go:151", after := #[{ on := 4, ground := Ground.data }], guard := none }) (v := ?vda20r4o5) rfl (by kernel_rfl) (by kernel_rfl) (by kernel_rfl) (fun _ _ _ h => h) (Or.inl ⟨by rfl, ?hda20r4o5⟩) hS ?_
  case hda20r4o5 => (intro wx hx; skip; go_simp; (try with_reducible rfl))
  try simp only [Act.put, List.setIfInBounds_toArray, List.set_cons_zero, List.set_cons_succ]
  refine wpAnyH_take (i := 6) (oi := { dst := some 32, op := Op.fieldAddr 75 (Operand.tmp 31) 1, type := 0, pos := "blocks.go:151", after := #[{ on := 5, ground := Ground.data }], guard := none }) (v := ?vda20r4o6) rfl (by kernel_rfl) (by kernel_rfl) (by kernel_rfl) (fun _ _ _ h => h) (Or.inl ⟨by rfl, ?hda20r4o6⟩) hS ?_
  case hda20r4o6 => (intro wx hx; skip; go_simp; (try with_reducible rfl))
  try simp only [Act.put, List.setIfInBounds_toArray, List.set_cons_zero, List.set_cons_succ]
  refine wpAnyH_take (i := 7) (oi := { dst := some 33, op := Op.load 25 (Operand.tmp 32), type := 25, pos := "blocks.go:151", after := #[{ on := 6, ground := Ground.data }], guard := none }) (v := ?vda20r4o7) rfl (by kernel_rfl) (by kernel_rfl) (by kernel_rfl) (fun _ _ _ h => h) (Or.inl ⟨by rfl, ?hda20r4o7⟩) hS ?_
  case hda20r4o7 => (intro wx hx; obtain ⟨c0, c1, c2, c3, c4⟩ := BM.cells hx; go_simp; (try with_reducible rfl))
  try simp only [Act.put, List.setIfInBounds_toArray, List.set_cons_zero, List.set_cons_succ]
  refine wpAnyH_ready (rs := [8]) (by kernel_rfl) (by simp) ?_
  refine AllReadyH.cons (o := { dst := some 34, op := Op.call { callee := Callee.value (Operand.func 12), args := #[Operand.tmp 29, Operand.tmp 33], argTypes := #[30, 25] }, type := 37, pos := "blocks.go:151", after := #[{ on := 3, ground := Ground.data }, { on := 7, ground := Ground.data }], guard := none }) rfl (fun K hK => ?_) AllReadyH.nil
  go_simp
  refine (HA.out _ hOr.out).mono ?_
  rintro e wA ⟨Y, XI, XB, XA, rfl, hOA⟩
  have hS1 : BM XM g a b c n wA := HB0.out _ _ hOA
  refine hK.out _ _ ?hsda20r4o8 (fun hS => ?_)
  case hsda20r4o8 => (exact hS1)
  clear hK K
  try simp only [Act.put, List.setIfInBounds_toArray, List.set_cons_zero, List.set_cons_succ]
  refine wpAnyH_take (i := 9) (oi := { dst := some 25, op := Op.move (Operand.tmp 34), type := 37, pos := "blocks.go:151", after := #[{ on := 8, ground := Ground.data }], guard := none }) (v := ?vda20r4o9) rfl (by kernel_rfl) (by kernel_rfl) (by kernel_rfl) (fun _ _ _ h => h) (Or.inl ⟨by rfl, ?hda20r4o9⟩) hS ?_
  case hda20r4o9 => (intro wx hx; skip; go_simp; (try with_reducible rfl))
  try simp only [Act.put, List.setIfInBounds_toArray, List.set_cons_zero, List.set_cons_succ]
  refine wpAnyH_take (i := 10) (oi := { dst := some 35, op := Op.extract (Operand.tmp 25) 0, type := 36, pos := "blocks.go:151", after := #[{ on := 9, ground := Ground.data }], guard := none }) (v := ?vda20r4o10) rfl (by kernel_rfl) (by kernel_rfl) (by kernel_rfl) (fun _ _ _ h => h) (Or.inl ⟨by rfl, ?hda20r4o10⟩) hS ?_
  case hda20r4o10 => (intro wx hx; skip; go_simp; (try with_reducible rfl))
  try simp only [Act.put, List.setIfInBounds_toArray, List.set_cons_zero, List.set_cons_succ]
  refine wpAnyH_take (i := 11) (oi := { dst := some 36, op := Op.extract (Operand.tmp 25) 1, type := 33, pos := "blocks.go:151", after := #[{ on := 9, ground := Ground.data }, { on := 12, ground := Ground.gcOnly Departure.lateStores }], guard := none }) (v := ?vda20r4o11) rfl (by kernel_rfl) (by kernel_rfl) (by kernel_rfl) (fun _ _ _ h => h) (Or.inl ⟨by rfl, ?hda20r4o11⟩) hS ?_
  case hda20r4o11 => (intro wx hx; skip; go_simp; (try with_reducible rfl))
  try simp only [Act.put, List.setIfInBounds_toArray, List.set_cons_zero, List.set_cons_succ]
  refine wpAnyH_take (i := 12) (oi := { dst := some 8, op := Op.assign (Operand.tmp 35), type := 36, pos := "blocks.go:151", after := #[{ on := 10, ground := Ground.data }, { on := 8, ground := Ground.chain }, { on := 0, ground := Ground.phase }, { on := 1, ground := Ground.phase }, { on := 2, ground := Ground.phase }, { on := 3, ground := Ground.phase }, { on := 4, ground := Ground.phase }, { on := 5, ground := Ground.phase }, { on := 6, ground := Ground.phase }, { on := 7, ground := Ground.phase }, { on := 8, ground := Ground.phase }, { on := 9, ground := Ground.phase }, { on := 10, ground := Ground.phase }, { on := 11, ground := Ground.textOnly Departure.lateStores }], guard := none }) (v := ?vda20r4o12) rfl (by kernel_rfl) (by kernel_rfl) (by kernel_rfl) (fun _ _ _ h => h) (Or.inl ⟨by rfl, ?hda20r4o12⟩) hS ?_
  case hda20r4o12 => (intro wx hx; skip; go_simp; (try with_reducible rfl))
  try simp only [Act.put, List.setIfInBounds_toArray, List.set_cons_zero, List.set_cons_succ]
  refine wpAnyH_take (i := 13) (oi := { dst := some 7, op := Op.assign (Operand.tmp 36), type := 33, pos := "blocks.go:151", after := #[{ on := 11, ground := Ground.data }, { on := 12, ground := Ground.chain }, { on := 0, ground := Ground.phase }, { on := 1, ground := Ground.phase }, { on := 2, ground := Ground.phase }, { on := 3, ground := Ground.phase }, { on := 4, ground := Ground.phase }, { on := 5, ground := Ground.phase }, { on := 6, ground := Ground.phase }, { on := 7, ground := Ground.phase }, { on := 8, ground := Ground.phase }, { on := 9, ground := Ground.phase }, { on := 10, ground := Ground.phase }, { on := 11, ground := Ground.phase }, { on := 12, ground := Ground.phase }], guard := none }) (v := ?vda20r4o13) rfl (by kernel_rfl) (by kernel_rfl) (by kernel_rfl) (fun _ _ _ h => h) (Or.inl ⟨by rfl, ?hda20r4o13⟩) hS ?_
  case hda20r4o13 => (intro wx hx; skip; go_simp; (try with_reducible rfl))
  try simp only [Act.put, List.setIfInBounds_toArray, List.set_cons_zero, List.set_cons_succ]
  refine wpAnyH_done (by kernel_rfl) ?_ _
  have hOA := Lib.hid hOA
  clear hS hS0 hOr HA hS1
  go_wp2_with fail
  refine (HV.out _ _ _ _ _ hOA.out).mono ?_
  rintro e w3 ⟨rfl, hO3⟩
  have HG := Lib.hid (HG1.out Y XI XB XA)
  have HB := Lib.hid (HB1.out Y XI XB XA)
  have hS3 := Lib.hid (HB.out _ [] (by rw [List.append_nil]; exact hO3)).drew
  have hOr := Lib.hid (show Grommet.Own w0 w3.drew ((Ps ++ alcPs Y g a b c XI XB XA).set kv (viewP g xs L1) ++ []) by rw [List.append_nil]; exact hO3.quiet (grown_drew (World.grownBy.refl _ _)))
  clear hOA HV hO3 HG1 HB1 HB0
  go_wp2_with fail
  refine wp_region_held_drew (S := fun w' => BM XM g a b c n w') (by kernel_rfl) (hS3.out) (fun hS => ?_)
  refine wpAnyH_take (i := 0) (oi := { dst := some 49, op := Op.move (Operand.tmp 0), type := 32, pos := "blocks.go:158", after := #[], guard := none }) (v := ?vdp20r10o0) rfl (by kernel_rfl) (by kernel_rfl) (by kernel_rfl) (fun _ _ _ h => h) (Or.inl ⟨by rfl, ?hdp20r10o0⟩) hS ?_
  case hdp20r10o0 => (intro wx hx; skip; go_simp; (try with_reducible rfl))
  try simp only [Act.put, List.setIfInBounds_toArray, List.set_cons_zero, List.set_cons_succ]
  refine wpAnyH_take (i := 1) (oi := { dst := some 50, op := Op.nilCheck (Operand.tmp 49), type := 0, pos := "blocks.go:158", after := #[{ on := 0, ground := Ground.data }], guard := none }) (v := ?vdp20r10o1) rfl (by kernel_rfl) (by kernel_rfl) (by kernel_rfl) (fun _ _ _ h => h) (Or.inl ⟨by rfl, ?hdp20r10o1⟩) hS ?_
  case hdp20r10o1 => (intro wx hx; skip; go_simp; (try with_reducible rfl))
  try simp only [Act.put, List.setIfInBounds_toArray, List.set_cons_zero, List.set_cons_succ]
  refine wpAnyH_take (i := 2) (oi := { dst := some 51, op := Op.fieldAddr 75 (Operand.tmp 50) 0, type := 0, pos := "blocks.go:158", after := #[{ on := 1, ground := Ground.data }], guard := none }) (v := ?vdp20r10o2) rfl (by kernel_rfl) (by kernel_rfl) (by kernel_rfl) (fun _ _ _ h => h) (Or.inl ⟨by rfl, ?hdp20r10o2⟩) hS ?_
  case hdp20r10o2 => (intro wx hx; skip; go_simp; (try with_reducible rfl))
  try simp only [Act.put, List.setIfInBounds_toArray, List.set_cons_zero, List.set_cons_succ]
  refine wpAnyH_take (i := 3) (oi := { dst := some 52, op := Op.load 30 (Operand.tmp 51), type := 30, pos := "blocks.go:158", after := #[{ on := 2, ground := Ground.data }], guard := none }) (v := ?vdp20r10o3) rfl (by kernel_rfl) (by kernel_rfl) (by kernel_rfl) (fun _ _ _ h => h) (Or.inl ⟨by rfl, ?hdp20r10o3⟩) hS ?_
  case hdp20r10o3 => (intro wx hx; obtain ⟨c0, c1, c2, c3, c4⟩ := BM.cells hx; go_simp; (try with_reducible rfl))
  try simp only [Act.put, List.setIfInBounds_toArray, List.set_cons_zero, List.set_cons_succ]
  refine wpAnyH_take (i := 4) (oi := { dst := some 53, op := Op.move (Operand.tmp 0), type := 32, pos := "blocks.go:158", after := #[], guard := none }) (v := ?vdp20r10o4) rfl (by kernel_rfl) (by kernel_rfl) (by kernel_rfl) (fun _ _ _ h => h) (Or.inl ⟨by rfl, ?hdp20r10o4⟩) hS ?_
  case hdp20r10o4 => (intro wx hx; skip; go_simp; (try with_reducible rfl))
  try simp only [Act.put, List.setIfInBounds_toArray, List.set_cons_zero, List.set_cons_succ]
  refine wpAnyH_take (i := 5) (oi := { dst := some 54, op := Op.nilCheck (Operand.tmp 53), type := 0, pos := "blocks.go:158", after := #[{ on := 4, ground := Ground.data }], guard := none }) (v := ?vdp20r10o5) rfl (by kernel_rfl) (by kernel_rfl) (by kernel_rfl) (fun _ _ _ h => h) (Or.inl ⟨by rfl, ?hdp20r10o5⟩) hS ?_
  case hdp20r10o5 => (intro wx hx; skip; go_simp; (try with_reducible rfl))
  try simp only [Act.put, List.setIfInBounds_toArray, List.set_cons_zero, List.set_cons_succ]
  refine wpAnyH_take (i := 6) (oi := { dst := some 55, op := Op.fieldAddr 75 (Operand.tmp 54) 1, type := 0, pos := "blocks.go:158", after := #[{ on := 5, ground := Ground.data }], guard := none }) (v := ?vdp20r10o6) rfl (by kernel_rfl) (by kernel_rfl) (by kernel_rfl) (fun _ _ _ h => h) (Or.inl ⟨by rfl, ?hdp20r10o6⟩) hS ?_
  case hdp20r10o6 => (intro wx hx; skip; go_simp; (try with_reducible rfl))
  try simp only [Act.put, List.setIfInBounds_toArray, List.set_cons_zero, List.set_cons_succ]
  refine wpAnyH_take (i := 7) (oi := { dst := some 56, op := Op.load 25 (Operand.tmp 55), type := 25, pos := "blocks.go:158", after := #[{ on := 6, ground := Ground.data }], guard := none }) (v := ?vdp20r10o7) rfl (by kernel_rfl) (by kernel_rfl) (by kernel_rfl) (fun _ _ _ h => h) (Or.inl ⟨by rfl, ?hdp20r10o7⟩) hS ?_
  case hdp20r10o7 => (intro wx hx; obtain ⟨c0, c1, c2, c3, c4⟩ := BM.cells hx; go_simp; (try with_reducible rfl))
  try simp only [Act.put, List.setIfInBounds_toArray, List.set_cons_zero, List.set_cons_succ]
  refine wpAnyH_take (i := 8) (oi := { dst := some 57, op := Op.move (Operand.tmp 0), type := 32, pos := "blocks.go:158", after := #[], guard := none }) (v := ?vdp20r10o8) rfl (by kernel_rfl) (by kernel_rfl) (by kernel_rfl) (fun _ _ _ h => h) (Or.inl ⟨by rfl, ?hdp20r10o8⟩) hS ?_
  case hdp20r10o8 => (intro wx hx; skip; go_simp; (try with_reducible rfl))
  try simp only [Act.put, List.setIfInBounds_toArray, List.set_cons_zero, List.set_cons_succ]
  refine wpAnyH_take (i := 9) (oi := { dst := some 58, op := Op.nilCheck (Operand.tmp 57), type := 0, pos := "blocks.go:158", after := #[{ on := 8, ground := Ground.data }], guard := none }) (v := ?vdp20r10o9) rfl (by kernel_rfl) (by kernel_rfl) (by kernel_rfl) (fun _ _ _ h => h) (Or.inl ⟨by rfl, ?hdp20r10o9⟩) hS ?_
  case hdp20r10o9 => (intro wx hx; skip; go_simp; (try with_reducible rfl))
  try simp only [Act.put, List.setIfInBounds_toArray, List.set_cons_zero, List.set_cons_succ]
  refine wpAnyH_take (i := 10) (oi := { dst := some 59, op := Op.fieldAddr 75 (Operand.tmp 58) 2, type := 0, pos := "blocks.go:158", after := #[{ on := 9, ground := Ground.data }], guard := none }) (v := ?vdp20r10o10) rfl (by kernel_rfl) (by kernel_rfl) (by kernel_rfl) (fun _ _ _ h => h) (Or.inl ⟨by rfl, ?hdp20r10o10⟩) hS ?_
  case hdp20r10o10 => (intro wx hx; skip; go_simp; (try with_reducible rfl))
  try simp only [Act.put, List.setIfInBounds_toArray, List.set_cons_zero, List.set_cons_succ]
  refine wpAnyH_take (i := 11) (oi := { dst := some 60, op := Op.load 3 (Operand.tmp 59), type := 3, pos := "blocks.go:158", after := #[{ on := 10, ground := Ground.data }], guard := none }) (v := ?vdp20r10o11) rfl (by kernel_rfl) (by kernel_rfl) (by kernel_rfl) (fun _ _ _ h => h) (Or.inl ⟨by rfl, ?hdp20r10o11⟩) hS ?_
  case hdp20r10o11 => (intro wx hx; obtain ⟨c0, c1, c2, c3, c4⟩ := BM.cells hx; go_simp; (try with_reducible rfl))
  try simp only [Act.put, List.setIfInBounds_toArray, List.set_cons_zero, List.set_cons_succ]
  refine wpAnyH_ready (rs := [12, 16]) (by kernel_rfl) (by simp) ?_
  refine AllReadyH.cons (o := { dst := some 61, op := Op.call { callee := Callee.value (Operand.func 33), args := #[Operand.tmp 52, Operand.tmp 56, Operand.tmp 60], argTypes := #[30, 25, 3] }, type := 72, pos := "blocks.go:158", after := #[{ on := 3, ground := Ground.data }, { on := 7, ground := Ground.data }, { on := 11, ground := Ground.data }], guard := none }) rfl (fun K hK => ?_) ?_
  ·
    go_simp
    refine (HG.out _ _ hOr.out).mono ?_
    rintro e wB ⟨rfl, hOB⟩
    have hS1 : BM XM g a b c n _ := HB.out _ _ hOB
    clear hOr
    have hOr := Lib.hid hOB
    clear hOB
    refine hK.out _ _ ?hsdpx120r10o12 (fun hS => ?_)
    case hsdpx120r10o12 => (exact hS1)
    clear hK K
    try simp only [Act.put, List.setIfInBounds_toArray, List.set_cons_zero, List.set_cons_succ]
    refine wpAnyH_take (i := 13) (oi := { dst := some 48, op := Op.move (Operand.tmp 61), type := 72, pos := "blocks.go:158", after := #[{ on := 12, ground := Ground.data }], guard := none }) (v := ?vdpx120r10o13) rfl (by kernel_rfl) (by kernel_rfl) (by kernel_rfl) (fun _ _ _ h => h) (Or.inl ⟨by rfl, ?hdpx120r10o13⟩) hS ?_
    case hdpx120r10o13 => (intro wx hx; skip; go_simp; (try with_reducible rfl))
    try simp only [Act.put, List.setIfInBounds_toArray, List.set_cons_zero, List.set_cons_succ]
    refine wpAnyH_take (i := 14) (oi := { dst := some 62, op := Op.extract (Operand.tmp 48) 0, type := 71, pos := "blocks.go:158", after := #[{ on := 13, ground := Ground.data }], guard := none }) (v := ?vdpx120r10o14) rfl (by kernel_rfl) (by kernel_rfl) (by kernel_rfl) (fun _ _ _ h => h) (Or.inl ⟨by rfl, ?hdpx120r10o14⟩) hS ?_
    case hdpx120r10o14 => (intro wx hx; skip; go_simp; (try with_reducible rfl))
    try simp only [Act.put, List.setIfInBounds_toArray, List.set_cons_zero, List.set_cons_succ]
    refine wpAnyH_take (i := 15) (oi := { dst := some 63, op := Op.extract (Operand.tmp 48) 1, type := 33, pos := "blocks.go:158", after := #[{ on := 13, ground := Ground.data }, { on := 17, ground := Ground.gcOnly Departure.lateStores }], guard := none }) (v := ?vdpx120r10o15) rfl (by kernel_rfl) (by kernel_rfl) (by kernel_rfl) (fun _ _ _ h => h) (Or.inl ⟨by rfl, ?hdpx120r10o15⟩) hS ?_
    case hdpx120r10o15 => (intro wx hx; skip; go_simp; (try with_reducible rfl))
    try simp only [Act.put, List.setIfInBounds_toArray, List.set_cons_zero, List.set_cons_succ]
    refine wpAnyH_ready (rs := [16]) (by kernel_rfl) (by simp) ?_
    refine AllReadyH.cons (o := { dst := some 10, op := Op.alloc 71, type := 0, pos := "blocks.go:158", after := #[], guard := none }) rfl (fun K hK => ?_) AllReadyH.nil
    go_simp
    have hS1 : BM XM g a b c n _ := hS.grown (World.grownBy_alloc _ (.cells #[.int .u64 0, .int .u64 0, .int .u64 0, .int .u64 0, .int .u64 0, .int .u64 0, .int .u64 0, .int .u64 0, .int .u64 0, .int .u64 0] 71) none)
    have hOn := hOr.out.addBox 71 #[.int .u64 0, .int .u64 0, .int .u64 0, .int .u64 0, .int .u64 0, .int .u64 0, .int .u64 0, .int .u64 0, .int .u64 0, .int .u64 0]
    rw [List.append_assoc, List.nil_append] at hOn
    clear hOr
    first | (obtain ⟨N, hN⟩ : ∃ N, wB.heap.size = N := ⟨_, rfl⟩; obtain ⟨wz, hwz⟩ : ∃ wz, wB.alloc (.cells #[.int .u64 0, .int .u64 0, .int .u64 0, .int .u64 0, .int .u64 0, .int .u64 0, .int .u64 0, .int .u64 0, .int .u64 0, .int .u64 0] 71) = wz := ⟨_, rfl⟩; rw [hN, hwz] at hOn; rw [hwz] at hS1; (try rw [hwz]); (first | rw [hN] | rw [show w3.heap.size = N from hN])) | (obtain ⟨N, hN⟩ : ∃ N, w3.heap.size = N := ⟨_, rfl⟩; obtain ⟨wz, hwz⟩ : ∃ wz, (w3.alloc (.cells #[.int .u64 0, .int .u64 0, .int .u64 0, .int .u64 0, .int .u64 0, .int .u64 0, .int .u64 0, .int .u64 0, .int .u64 0, .int .u64 0] 71)).drew = wz := ⟨_, rfl⟩; rw [show w3.drew.alloc (.cells #[.int .u64 0, .int .u64 0, .int .u64 0, .int .u64 0, .int .u64 0, .int .u64 0, .int .u64 0, .int .u64 0, .int .u64 0, .int .u64 0] 71) = wz from hwz] at hOn hS1; rw [show w3.drew.heap.size = N from hN] at hOn; rw [hwz, hN])
    have hOr := Lib.hid hOn
    clear hOn hwz hN
    refine hK.out _ _ ?hsdpx120r10o16 (fun hS => ?_)
    case hsdpx120r10o16 => (exact hS1)
    clear hK K
    try simp only [Act.put, List.setIfInBounds_toArray, List.set_cons_zero, List.set_cons_succ]
    refine wpAnyH_ready (rs := [17]) (by kernel_rfl) (by simp) ?_
    refine AllReadyH.cons (o := { dst := none, op := Op.store 71 (Operand.tmp 10) (Operand.tmp 62), type := 0, pos := "blocks.go:158", after := #[{ on := 16, ground := Ground.data }, { on := 14, ground := Ground.data }, { on := 12, ground := Ground.chain }, { on := 0, ground := Ground.phase }, { on := 1, ground := Ground.phase }, { on := 2, ground := Ground.phase }, { on := 3, ground := Ground.phase }, { on := 4, ground := Ground.phase }, { on := 5, ground := Ground.phase }, { on := 6, ground := Ground.phase }, { on := 7, ground := Ground.phase }, { on := 8, ground := Ground.phase }, { on := 9, ground := Ground.phase }, { on := 10, ground := Ground.phase }, { on := 11, ground := Ground.phase }, { on := 12, ground := Ground.phase }, { on := 13, ground := Ground.phase }, { on := 14, ground := Ground.phase }, { on := 15, ground := Ground.textOnly Departure.lateStores }, { on := 16, ground := Ground.phase }], guard := none }) rfl (fun K hK => ?_) AllReadyH.nil
    obtain ⟨⟨z0, z1, z2, z3, z4, z5, z6, z7, z8, z9⟩, q0, q1, q2, q3, q4, q5, q6, q7, q8, q9⟩ := node_zero hOr.out
    go_simp
    obtain ⟨wn, hwn, hOx⟩ := node_stored f0 f1 f2 f3 f4 f5 f6 f7 f8 f9 hOr.out
    rw [hwn]
    have hOn := Lib.hid hOx
    clear hwn hOx
    refine hK.out _ _ ?hs17 (fun hS => ?_)
    case hs17 => exact HB.out _ _ hOn.out
    clear hK K hOr z0 z1 z2 z3 z4 z5 z6 z7 z8 z9 q0 q1 q2 q3 q4 q5 q6 q7 q8 q9
    have hOr := Lib.hid hOn.out
    clear hOn
    try simp only [Act.put, List.setIfInBounds_toArray, List.set_cons_zero, List.set_cons_succ]
    refine wpAnyH_take (i := 18) (oi := { dst := some 7, op := Op.assign (Operand.tmp 63), type := 33, pos := "blocks.go:158", after := #[{ on := 15, ground := Ground.data }, { on := 17, ground := Ground.chain }, { on := 0, ground := Ground.phase }, { on := 1, ground := Ground.phase }, { on := 2, ground := Ground.phase }, { on := 3, ground := Ground.phase }, { on := 4, ground := Ground.phase }, { on := 5, ground := Ground.phase }, { on := 6, ground := Ground.phase }, { on := 7, ground := Ground.phase }, { on := 8, ground := Ground.phase }, { on := 9, ground := Ground.phase }, { on := 10, ground := Ground.phase }, { on := 11, ground := Ground.phase }, { on := 12, ground := Ground.phase }, { on := 13, ground := Ground.phase }, { on := 14, ground := Ground.phase }, { on := 15, ground := Ground.phase }, { on := 16, ground := Ground.phase }, { on := 17, ground := Ground.phase }], guard := none }) (v := ?vdpx120r10o18) rfl (by kernel_rfl) (by kernel_rfl) (by kernel_rfl) (fun _ _ _ h => h) (Or.inl ⟨by rfl, ?hdpx120r10o18⟩) hS ?_
    case hdpx120r10o18 => (intro wx hx; skip; go_simp; (try with_reducible rfl))
    try simp only [Act.put, List.setIfInBounds_toArray, List.set_cons_zero, List.set_cons_succ]
    refine wpAnyH_done (by kernel_rfl) ?_ _
    obtain ⟨z0, z1, z2, z3, z4, z5, z6, z7, z8, z9⟩ := node_have hOr.out
    have e8 := He8.out
    go_wp2
    go_ret
    exact ⟨rfl, HQ.out _ _ _ _ _ _ hOr.out.less⟩
  refine AllReadyH.cons (o := { dst := some 10, op := Op.alloc 71, type := 0, pos := "blocks.go:158", after := #[], guard := none }) rfl (fun K hK => ?_) ?_
  ·
    go_simp
    have hS1 : BM XM g a b c n _ := hS.grown (World.grownBy_alloc _ (.cells #[.int .u64 0, .int .u64 0, .int .u64 0, .int .u64 0, .int .u64 0, .int .u64 0, .int .u64 0, .int .u64 0, .int .u64 0, .int .u64 0] 71) none)
    have hOn := hOr.out.addBox 71 #[.int .u64 0, .int .u64 0, .int .u64 0, .int .u64 0, .int .u64 0, .int .u64 0, .int .u64 0, .int .u64 0, .int .u64 0, .int .u64 0]
    rw [List.append_assoc, List.nil_append] at hOn
    clear hOr
    first | (obtain ⟨N, hN⟩ : ∃ N, wB.heap.size = N := ⟨_, rfl⟩; obtain ⟨wz, hwz⟩ : ∃ wz, wB.alloc (.cells #[.int .u64 0, .int .u64 0, .int .u64 0, .int .u64 0, .int .u64 0, .int .u64 0, .int .u64 0, .int .u64 0, .int .u64 0, .int .u64 0] 71) = wz := ⟨_, rfl⟩; rw [hN, hwz] at hOn; rw [hwz] at hS1; (try rw [hwz]); (first | rw [hN] | rw [show w3.heap.size = N from hN])) | (obtain ⟨N, hN⟩ : ∃ N, w3.heap.size = N := ⟨_, rfl⟩; obtain ⟨wz, hwz⟩ : ∃ wz, (w3.alloc (.cells #[.int .u64 0, .int .u64 0, .int .u64 0, .int .u64 0, .int .u64 0, .int .u64 0, .int .u64 0, .int .u64 0, .int .u64 0, .int .u64 0] 71)).drew = wz := ⟨_, rfl⟩; rw [show w3.drew.alloc (.cells #[.int .u64 0, .int .u64 0, .int .u64 0, .int .u64 0, .int .u64 0, .int .u64 0, .int .u64 0, .int .u64 0, .int .u64 0, .int .u64 0] 71) = wz from hwz] at hOn hS1; rw [show w3.drew.heap.size = N from hN] at hOn; rw [hwz, hN])
    have hOr := Lib.hid hOn
    clear hOn hwz hN
    refine hK.out _ _ ?hsdpx320r10o16 (fun hS => ?_)
    case hsdpx320r10o16 => (exact hS1)
    clear hK K
    try simp only [Act.put, List.setIfInBounds_toArray, List.set_cons_zero, List.set_cons_succ]
    refine wpAnyH_ready (rs := [12]) (by kernel_rfl) (by simp) ?_
    refine AllReadyH.cons (o := { dst := some 61, op := Op.call { callee := Callee.value (Operand.func 33), args := #[Operand.tmp 52, Operand.tmp 56, Operand.tmp 60], argTypes := #[30, 25, 3] }, type := 72, pos := "blocks.go:158", after := #[{ on := 3, ground := Ground.data }, { on := 7, ground := Ground.data }, { on := 11, ground := Ground.data }], guard := none }) rfl (fun K hK => ?_) AllReadyH.nil
    go_simp
    refine (HG.out _ _ hOr.out).mono ?_
    rintro e wB ⟨rfl, hOB⟩
    have hS1 : BM XM g a b c n _ := HB.out _ _ hOB
    clear hOr
    have hOr := Lib.hid hOB
    clear hOB
    refine hK.out _ _ ?hsdpx320r10o12 (fun hS => ?_)
    case hsdpx320r10o12 => (exact hS1)
    clear hK K
    try simp only [Act.put, List.setIfInBounds_toArray, List.set_cons_zero, List.set_cons_succ]
    refine wpAnyH_take (i := 13) (oi := { dst := some 48, op := Op.move (Operand.tmp 61), type := 72, pos := "blocks.go:158", after := #[{ on := 12, ground := Ground.data }], guard := none }) (v := ?vdpx320r10o13) rfl (by kernel_rfl) (by kernel_rfl) (by kernel_rfl) (fun _ _ _ h => h) (Or.inl ⟨by rfl, ?hdpx320r10o13⟩) hS ?_
    case hdpx320r10o13 => (intro wx hx; skip; go_simp; (try with_reducible rfl))
    try simp only [Act.put, List.setIfInBounds_toArray, List.set_cons_zero, List.set_cons_succ]
    refine wpAnyH_take (i := 14) (oi := { dst := some 62, op := Op.extract (Operand.tmp 48) 0, type := 71, pos := "blocks.go:158", after := #[{ on := 13, ground := Ground.data }], guard := none }) (v := ?vdpx320r10o14) rfl (by kernel_rfl) (by kernel_rfl) (by kernel_rfl) (fun _ _ _ h => h) (Or.inl ⟨by rfl, ?hdpx320r10o14⟩) hS ?_
    case hdpx320r10o14 => (intro wx hx; skip; go_simp; (try with_reducible rfl))
    try simp only [Act.put, List.setIfInBounds_toArray, List.set_cons_zero, List.set_cons_succ]
    refine wpAnyH_take (i := 15) (oi := { dst := some 63, op := Op.extract (Operand.tmp 48) 1, type := 33, pos := "blocks.go:158", after := #[{ on := 13, ground := Ground.data }, { on := 17, ground := Ground.gcOnly Departure.lateStores }], guard := none }) (v := ?vdpx320r10o15) rfl (by kernel_rfl) (by kernel_rfl) (by kernel_rfl) (fun _ _ _ h => h) (Or.inl ⟨by rfl, ?hdpx320r10o15⟩) hS ?_
    case hdpx320r10o15 => (intro wx hx; skip; go_simp; (try with_reducible rfl))
    try simp only [Act.put, List.setIfInBounds_toArray, List.set_cons_zero, List.set_cons_succ]
    refine wpAnyH_ready (rs := [17]) (by kernel_rfl) (by simp) ?_
    refine AllReadyH.cons (o := { dst := none, op := Op.store 71 (Operand.tmp 10) (Operand.tmp 62), type := 0, pos := "blocks.go:158", after := #[{ on := 16, ground := Ground.data }, { on := 14, ground := Ground.data }, { on := 12, ground := Ground.chain }, { on := 0, ground := Ground.phase }, { on := 1, ground := Ground.phase }, { on := 2, ground := Ground.phase }, { on := 3, ground := Ground.phase }, { on := 4, ground := Ground.phase }, { on := 5, ground := Ground.phase }, { on := 6, ground := Ground.phase }, { on := 7, ground := Ground.phase }, { on := 8, ground := Ground.phase }, { on := 9, ground := Ground.phase }, { on := 10, ground := Ground.phase }, { on := 11, ground := Ground.phase }, { on := 12, ground := Ground.phase }, { on := 13, ground := Ground.phase }, { on := 14, ground := Ground.phase }, { on := 15, ground := Ground.textOnly Departure.lateStores }, { on := 16, ground := Ground.phase }], guard := none }) rfl (fun K hK => ?_) AllReadyH.nil
    obtain ⟨⟨z0, z1, z2, z3, z4, z5, z6, z7, z8, z9⟩, q0, q1, q2, q3, q4, q5, q6, q7, q8, q9⟩ := node_zero hOr.out
    go_simp
    obtain ⟨wn, hwn, hOx⟩ := node_stored f0 f1 f2 f3 f4 f5 f6 f7 f8 f9 hOr.out
    rw [hwn]
    have hOn := Lib.hid hOx
    clear hwn hOx
    refine hK.out _ _ ?hs17 (fun hS => ?_)
    case hs17 => exact HB.out _ _ hOn.out
    clear hK K hOr z0 z1 z2 z3 z4 z5 z6 z7 z8 z9 q0 q1 q2 q3 q4 q5 q6 q7 q8 q9
    have hOr := Lib.hid hOn.out
    clear hOn
    try simp only [Act.put, List.setIfInBounds_toArray, List.set_cons_zero, List.set_cons_succ]
    refine wpAnyH_take (i := 18) (oi := { dst := some 7, op := Op.assign (Operand.tmp 63), type := 33, pos := "blocks.go:158", after := #[{ on := 15, ground := Ground.data }, { on := 17, ground := Ground.chain }, { on := 0, ground := Ground.phase }, { on := 1, ground := Ground.phase }, { on := 2, ground := Ground.phase }, { on := 3, ground := Ground.phase }, { on := 4, ground := Ground.phase }, { on := 5, ground := Ground.phase }, { on := 6, ground := Ground.phase }, { on := 7, ground := Ground.phase }, { on := 8, ground := Ground.phase }, { on := 9, ground := Ground.phase }, { on := 10, ground := Ground.phase }, { on := 11, ground := Ground.phase }, { on := 12, ground := Ground.phase }, { on := 13, ground := Ground.phase }, { on := 14, ground := Ground.phase }, { on := 15, ground := Ground.phase }, { on := 16, ground := Ground.phase }, { on := 17, ground := Ground.phase }], guard := none }) (v := ?vdpx320r10o18) rfl (by kernel_rfl) (by kernel_rfl) (by kernel_rfl) (fun _ _ _ h => h) (Or.inl ⟨by rfl, ?hdpx320r10o18⟩) hS ?_
    case hdpx320r10o18 => (intro wx hx; skip; go_simp; (try with_reducible rfl))
    try simp only [Act.put, List.setIfInBounds_toArray, List.set_cons_zero, List.set_cons_succ]
    refine wpAnyH_done (by kernel_rfl) ?_ _
    obtain ⟨z0, z1, z2, z3, z4, z5, z6, z7, z8, z9⟩ := node_have hOr.out
    have e8 := He8.out
    go_wp2
    go_ret
    exact ⟨rfl, HQ.out _ _ _ _ _ _ hOr.out.less⟩
  exact AllReadyH.nil

set_option maxRecDepth 100000 in
set_option maxHeartbeats 1000000 in
theorem bmDrop_kept (kv km XM g a b c n A : Nat) (k t m : Int) (f0 f1 f2 f3 f4 f5 f6 f7 f8 f9 : Nat) (xs : List Nat) (L L1 : List (Nat × Nat)) (w0 w : World) (Ps : List Pr) (h : Grommet.Own w0 w Ps) (hv : Ps[kv]? = some (viewP g xs L)) (hm : Ps[km]? = some (bmP XM g a b c n)) (hkm : kv ≠ km) (hN : NodeOk xs L a b c n A)
    (hL : LookC XM k t m 0 w0 Ps) (hm0 : m ≠ 0) (ht : 0 ≤ t ∧ t < (xs.length : Int)) (he : giveE xs L (272 + 208 * a) c m = 0) (hl : (giveL xs L (272 + 208 * a) c m).length < 96) (hL1 : giveBL xs L a c m t = L1)
    (HG : ∀ Rs : List Pr, Rs[kv]? = some (viewP g xs L1) → ∀ wx Qs, Grommet.Own w0 wx (Rs ++ Qs) → Calls Tryd.prog 33 #[.pointer (some ⟨g, 0, none⟩), gv (a : Int) (b : Int) (c : Int), .int .i64 (n : Int)] wx fun e w' => e = .returned (.tuple #[nv f0 f1 f2 f3 f4 f5 f6 f7 f8 f9, .int .i64 0]) ∧ Grommet.Own w0 w' (Rs ++ Qs)) (h8 : f8 ≠ 0) (HR : ∀ Rs : List Pr, Rs[kv]? = some (viewP g xs L1) → Rs[km]? = some (bmP XM g a b c n) → ∀ wx, Grommet.Own w0 wx Rs → Calls Tryd.prog 48 #[.pointer (some ⟨XM, 0, none⟩), nv f0 f1 f2 f3 f4 f5 f6 f7 f8 f9] wx fun e w' => e = .returned (.bool false) ∧ Grommet.Own w0 w' Rs) :
    Calls Tryd.prog 20 #[.pointer (some ⟨XM, 0, none⟩), .int .i64 k] w fun e' w' => e' = .returned (.int .i64 0) ∧ Grommet.Own w0 w' (Ps.set kv (viewP g xs L1)) := by
  have hkl := (List.getElem?_eq_some_iff.1 hv).1
  have HL := Lib.hid (hL w h)
  have HB0 := Lib.hid (show ∀ wx Rs, Grommet.Own w0 wx (Ps ++ Rs) → BM XM g a b c n wx from fun wx Rs hO => BM.of (k := km) hO (app_old hm))
  have HA := Lib.hid (fun wx (hO : Grommet.Own w0 wx Ps) => ANewH kv g a b c xs L w0 wx Ps hO hv hN.may hN.fits hN.few)
  have HV := Lib.hid (fun wx Y XI XB XA (hO : Grommet.Own w0 wx (Ps ++ alcPs Y g a b c XI XB XA)) => bmGive kv km _ _ _ g a b c XI XB XA XM n t m xs L w0 wx _ hO (alcIs_of hv hN) (app_old hm) hkm he hl ht)
  rw [show setL xs (giveL xs L (272 + 208 * a) c m) t 0 = L1 from hL1] at HV
  have HB1 := Lib.hid (show ∀ Y XI XB XA wx Qs, Grommet.Own w0 wx ((Ps ++ alcPs Y g a b c XI XB XA).set kv (viewP g xs L1) ++ Qs) → BM XM g a b c n wx from fun Y XI XB XA wx Qs hO => BM.of (k := km) hO (app_old (set_same_at _ _ (app_old hm) hkm)))
  have HG1 := Lib.hid (fun Y XI XB XA => HG ((Ps ++ alcPs Y g a b c XI XB XA).set kv (viewP g xs L1)) (set_at _ (app_old hv)))
  have HQ := Lib.hid (show ∀ wx Y XI XB XA Q, Grommet.Own w0 wx ((Ps ++ alcPs Y g a b c XI XB XA).set kv Q) → Grommet.Own w0 wx (Ps.set kv Q) from fun wx Y XI XB XA Q hO => by
    rw [List.set_append_left _ _ hkl] at hO
    exact hO.less)
  have e1 : (m == 0) = false := by simpa using hm0
  have HR1 := Lib.hid (fun Y XI XB XA Qs => HR ((Ps ++ alcPs Y g a b c XI XB XA).set kv (viewP g xs L1) ++ Qs) (app_old (set_at _ (app_old hv))) (app_old (set_same_at _ _ (app_old hm) hkm)))
  have e8 : ((f8 : Int) == 0) = false := by simpa using h8
  have e9 : ¬ (f8 : Int) = 0 := by omega
  unfold nv gv at *
  clear h hv hm hkm hN hL hm0 ht he hl hL1 HG hkl h8 HR
  go_enter Tryd.func20, Tryd.ntmps20
  go_wp2_with fail
  refine HL.out.mono ?_
  rintro e' w1 ⟨rfl, hO1⟩
  have hS0 := Lib.hid (HB0.out _ [] (by rw [List.append_nil]; exact hO1)).drew
  have hOr := Lib.hid (hO1.quiet (grown_drew (World.grownBy.refl w1 none)))
  clear HL hO1
  go_wp2_with fail
  refine wp_region_held_drew (S := fun w' => BM XM g a b c n w') (by kernel_rfl) (hS0.out) (fun hS => ?_)
  refine wpAnyH_take (i := 0) (oi := { dst := some 26, op := Op.move (Operand.tmp 0), type := 32, pos := "blocks.go:151", after := #[], guard := none }) (v := ?vda20r4o0) rfl (by kernel_rfl) (by kernel_rfl) (by kernel_rfl) (fun _ _ _ h => h) (Or.inl ⟨by rfl, ?hda20r4o0⟩) hS ?_
  case hda20r4o0 => (intro wx hx; skip; go_simp; (try with_reducible rfl))
  try simp only [Act.put, List.setIfInBounds_toArray, List.set_cons_zero, List.set_cons_succ]
  refine wpAnyH_take (i := 1) (oi := { dst := some 27, op := Op.nilCheck (Operand.tmp 26), type := 0, pos := "blocks.go:151", after := #[{ on := 0, ground := Ground.data }], guard := none }) (v := ?vda20r4o1) rfl (by kernel_rfl) (by kernel_rfl) (by kernel_rfl) (fun _ _ _ h => h) (Or.inl ⟨by rfl, ?hda20r4o1⟩) hS ?_
  case hda20r4o1 => (intro wx hx; skip; go_simp; (try with_reducible rfl))
  try simp only [Act.put, List.setIfInBounds_toArray, List.set_cons_zero, List.set_cons_succ]
  refine wpAnyH_take (i := 2) (oi := { dst := some 28, op := Op.fieldAddr 75 (Operand.tmp 27) 0, type := 0, pos := "blocks.go:151", after := #[{ on := 1, ground := Ground.data }], guard := none }) (v := ?vda20r4o2) rfl (by kernel_rfl) (by kernel_rfl) (by kernel_rfl) (fun _ _ _ h => h) (Or.inl ⟨by rfl, ?hda20r4o2⟩) hS ?_
  case hda20r4o2 => (intro wx hx; skip; go_simp; (try with_reducible rfl))
  try simp only [Act.put, List.setIfInBounds_toArray, List.set_cons_zero, List.set_cons_succ]
  refine wpAnyH_take (i := 3) (oi := { dst := some 29, op := Op.load 30 (Operand.tmp 28), type := 30, pos := "blocks.go:151", after := #[{ on := 2, ground := Ground.data }], guard := none }) (v := ?vda20r4o3) rfl (by kernel_rfl) (by kernel_rfl) (by kernel_rfl) (fun _ _ _ h => h) (Or.inl ⟨by rfl, ?hda20r4o3⟩) hS ?_
  case hda20r4o3 => (intro wx hx; obtain ⟨c0, c1, c2, c3, c4⟩ := BM.cells hx; go_simp; (try with_reducible rfl))
  try simp only [Act.put, List.setIfInBounds_toArray, List.set_cons_zero, List.set_cons_succ]
  refine wpAnyH_take (i := 4) (oi := { dst := some 30, op := Op.move (Operand.tmp 0), type := 32, pos := "blocks.go:151", after := #[], guard := none }) (v := ?vda20r4o4) rfl (by kernel_rfl) (by kernel_rfl) (by kernel_rfl) (fun _ _ _ h => h) (Or.inl ⟨by rfl, ?hda20r4o4⟩) hS ?_
  case hda20r4o4 => (intro wx hx; skip; go_simp; (try with_reducible rfl))
  try simp only [Act.put, List.setIfInBounds_toArray, List.set_cons_zero, List.set_cons_succ]
  refine wpAnyH_take (i := 5) (oi := { dst := some 31, op := Op.nilCheck (Operand.tmp 30), type := 0, pos := "blocks.go:151", after := #[{ on := 4, ground := Ground.data }], guard := none }) (v := ?vda20r4o5) rfl (by kernel_rfl) (by kernel_rfl) (by kernel_rfl) (fun _ _ _ h => h) (Or.inl ⟨by rfl, ?hda20r4o5⟩) hS ?_
  case hda20r4o5 => (intro wx hx; skip; go_simp; (try with_reducible rfl))
  try simp only [Act.put, List.setIfInBounds_toArray, List.set_cons_zero, List.set_cons_succ]
  refine wpAnyH_take (i := 6) (oi := { dst := some 32, op := Op.fieldAddr 75 (Operand.tmp 31) 1, type := 0, pos := "blocks.go:151", after := #[{ on := 5, ground := Ground.data }], guard := none }) (v := ?vda20r4o6) rfl (by kernel_rfl) (by kernel_rfl) (by kernel_rfl) (fun _ _ _ h => h) (Or.inl ⟨by rfl, ?hda20r4o6⟩) hS ?_
  case hda20r4o6 => (intro wx hx; skip; go_simp; (try with_reducible rfl))
  try simp only [Act.put, List.setIfInBounds_toArray, List.set_cons_zero, List.set_cons_succ]
  refine wpAnyH_take (i := 7) (oi := { dst := some 33, op := Op.load 25 (Operand.tmp 32), type := 25, pos := "blocks.go:151", after := #[{ on := 6, ground := Ground.data }], guard := none }) (v := ?vda20r4o7) rfl (by kernel_rfl) (by kernel_rfl) (by kernel_rfl) (fun _ _ _ h => h) (Or.inl ⟨by rfl, ?hda20r4o7⟩) hS ?_
  case hda20r4o7 => (intro wx hx; obtain ⟨c0, c1, c2, c3, c4⟩ := BM.cells hx; go_simp; (try with_reducible rfl))
  try simp only [Act.put, List.setIfInBounds_toArray, List.set_cons_zero, List.set_cons_succ]
  refine wpAnyH_ready (rs := [8]) (by kernel_rfl) (by simp) ?_
  refine AllReadyH.cons (o := { dst := some 34, op := Op.call { callee := Callee.value (Operand.func 12), args := #[Operand.tmp 29, Operand.tmp 33], argTypes := #[30, 25] }, type := 37, pos := "blocks.go:151", after := #[{ on := 3, ground := Ground.data }, { on := 7, ground := Ground.data }], guard := none }) rfl (fun K hK => ?_) AllReadyH.nil
  go_simp
  refine (HA.out _ hOr.out).mono ?_
  rintro e wA ⟨Y, XI, XB, XA, rfl, hOA⟩
  have hS1 : BM XM g a b c n wA := HB0.out _ _ hOA
  refine hK.out _ _ ?hsda20r4o8 (fun hS => ?_)
  case hsda20r4o8 => (exact hS1)
  clear hK K
  try simp only [Act.put, List.setIfInBounds_toArray, List.set_cons_zero, List.set_cons_succ]
  refine wpAnyH_take (i := 9) (oi := { dst := some 25, op := Op.move (Operand.tmp 34), type := 37, pos := "blocks.go:151", after := #[{ on := 8, ground := Ground.data }], guard := none }) (v := ?vda20r4o9) rfl (by kernel_rfl) (by kernel_rfl) (by kernel_rfl) (fun _ _ _ h => h) (Or.inl ⟨by rfl, ?hda20r4o9⟩) hS ?_
  case hda20r4o9 => (intro wx hx; skip; go_simp; (try with_reducible rfl))
  try simp only [Act.put, List.setIfInBounds_toArray, List.set_cons_zero, List.set_cons_succ]
  refine wpAnyH_take (i := 10) (oi := { dst := some 35, op := Op.extract (Operand.tmp 25) 0, type := 36, pos := "blocks.go:151", after := #[{ on := 9, ground := Ground.data }], guard := none }) (v := ?vda20r4o10) rfl (by kernel_rfl) (by kernel_rfl) (by kernel_rfl) (fun _ _ _ h => h) (Or.inl ⟨by rfl, ?hda20r4o10⟩) hS ?_
  case hda20r4o10 => (intro wx hx; skip; go_simp; (try with_reducible rfl))
  try simp only [Act.put, List.setIfInBounds_toArray, List.set_cons_zero, List.set_cons_succ]
  refine wpAnyH_take (i := 11) (oi := { dst := some 36, op := Op.extract (Operand.tmp 25) 1, type := 33, pos := "blocks.go:151", after := #[{ on := 9, ground := Ground.data }, { on := 12, ground := Ground.gcOnly Departure.lateStores }], guard := none }) (v := ?vda20r4o11) rfl (by kernel_rfl) (by kernel_rfl) (by kernel_rfl) (fun _ _ _ h => h) (Or.inl ⟨by rfl, ?hda20r4o11⟩) hS ?_
  case hda20r4o11 => (intro wx hx; skip; go_simp; (try with_reducible rfl))
  try simp only [Act.put, List.setIfInBounds_toArray, List.set_cons_zero, List.set_cons_succ]
  refine wpAnyH_take (i := 12) (oi := { dst := some 8, op := Op.assign (Operand.tmp 35), type := 36, pos := "blocks.go:151", after := #[{ on := 10, ground := Ground.data }, { on := 8, ground := Ground.chain }, { on := 0, ground := Ground.phase }, { on := 1, ground := Ground.phase }, { on := 2, ground := Ground.phase }, { on := 3, ground := Ground.phase }, { on := 4, ground := Ground.phase }, { on := 5, ground := Ground.phase }, { on := 6, ground := Ground.phase }, { on := 7, ground := Ground.phase }, { on := 8, ground := Ground.phase }, { on := 9, ground := Ground.phase }, { on := 10, ground := Ground.phase }, { on := 11, ground := Ground.textOnly Departure.lateStores }], guard := none }) (v := ?vda20r4o12) rfl (by kernel_rfl) (by kernel_rfl) (by kernel_rfl) (fun _ _ _ h => h) (Or.inl ⟨by rfl, ?hda20r4o12⟩) hS ?_
  case hda20r4o12 => (intro wx hx; skip; go_simp; (try with_reducible rfl))
  try simp only [Act.put, List.setIfInBounds_toArray, List.set_cons_zero, List.set_cons_succ]
  refine wpAnyH_take (i := 13) (oi := { dst := some 7, op := Op.assign (Operand.tmp 36), type := 33, pos := "blocks.go:151", after := #[{ on := 11, ground := Ground.data }, { on := 12, ground := Ground.chain }, { on := 0, ground := Ground.phase }, { on := 1, ground := Ground.phase }, { on := 2, ground := Ground.phase }, { on := 3, ground := Ground.phase }, { on := 4, ground := Ground.phase }, { on := 5, ground := Ground.phase }, { on := 6, ground := Ground.phase }, { on := 7, ground := Ground.phase }, { on := 8, ground := Ground.phase }, { on := 9, ground := Ground.phase }, { on := 10, ground := Ground.phase }, { on := 11, ground := Ground.phase }, { on := 12, ground := Ground.phase }], guard := none }) (v := ?vda20r4o13) rfl (by kernel_rfl) (by kernel_rfl) (by kernel_rfl) (fun _ _ _ h => h) (Or.inl ⟨by rfl, ?hda20r4o13⟩) hS ?_
  case hda20r4o13 => (intro wx hx; skip; go_simp; (try with_reducible rfl))
  try simp only [Act.put, List.setIfInBounds_toArray, List.set_cons_zero, List.set_cons_succ]
  refine wpAnyH_done (by kernel_rfl) ?_ _
  have hOA := Lib.hid hOA
  clear hS hS0 hOr HA hS1
  go_wp2_with fail
  refine (HV.out _ _ _ _ _ hOA.out).mono ?_
  rintro e w3 ⟨rfl, hO3⟩
  have HG := Lib.hid (HG1.out Y XI XB XA)
  have HB := Lib.hid (HB1.out Y XI XB XA)
  have hS3 := Lib.hid (HB.out _ [] (by rw [List.append_nil]; exact hO3)).drew
  have hOr := Lib.hid (show Grommet.Own w0 w3.drew ((Ps ++ alcPs Y g a b c XI XB XA).set kv (viewP g xs L1) ++ []) by rw [List.append_nil]; exact hO3.quiet (grown_drew (World.grownBy.refl _ _)))
  clear hOA HV hO3 HG1 HB1 HB0
  go_wp2_with fail
  refine wp_region_held_drew (S := fun w' => BM XM g a b c n w') (by kernel_rfl) (hS3.out) (fun hS => ?_)
  refine wpAnyH_take (i := 0) (oi := { dst := some 49, op := Op.move (Operand.tmp 0), type := 32, pos := "blocks.go:158", after := #[], guard := none }) (v := ?vdk20r10o0) rfl (by kernel_rfl) (by kernel_rfl) (by kernel_rfl) (fun _ _ _ h => h) (Or.inl ⟨by rfl, ?hdk20r10o0⟩) hS ?_
  case hdk20r10o0 => (intro wx hx; skip; go_simp; (try with_reducible rfl))
  try simp only [Act.put, List.setIfInBounds_toArray, List.set_cons_zero, List.set_cons_succ]
  refine wpAnyH_take (i := 1) (oi := { dst := some 50, op := Op.nilCheck (Operand.tmp 49), type := 0, pos := "blocks.go:158", after := #[{ on := 0, ground := Ground.data }], guard := none }) (v := ?vdk20r10o1) rfl (by kernel_rfl) (by kernel_rfl) (by kernel_rfl) (fun _ _ _ h => h) (Or.inl ⟨by rfl, ?hdk20r10o1⟩) hS ?_
  case hdk20r10o1 => (intro wx hx; skip; go_simp; (try with_reducible rfl))
  try simp only [Act.put, List.setIfInBounds_toArray, List.set_cons_zero, List.set_cons_succ]
  refine wpAnyH_take (i := 2) (oi := { dst := some 51, op := Op.fieldAddr 75 (Operand.tmp 50) 0, type := 0, pos := "blocks.go:158", after := #[{ on := 1, ground := Ground.data }], guard := none }) (v := ?vdk20r10o2) rfl (by kernel_rfl) (by kernel_rfl) (by kernel_rfl) (fun _ _ _ h => h) (Or.inl ⟨by rfl, ?hdk20r10o2⟩) hS ?_
  case hdk20r10o2 => (intro wx hx; skip; go_simp; (try with_reducible rfl))
  try simp only [Act.put, List.setIfInBounds_toArray, List.set_cons_zero, List.set_cons_succ]
  refine wpAnyH_take (i := 3) (oi := { dst := some 52, op := Op.load 30 (Operand.tmp 51), type := 30, pos := "blocks.go:158", after := #[{ on := 2, ground := Ground.data }], guard := none }) (v := ?vdk20r10o3) rfl (by kernel_rfl) (by kernel_rfl) (by kernel_rfl) (fun _ _ _ h => h) (Or.inl ⟨by rfl, ?hdk20r10o3⟩) hS ?_
  case hdk20r10o3 => (intro wx hx; obtain ⟨c0, c1, c2, c3, c4⟩ := BM.cells hx; go_simp; (try with_reducible rfl))
  try simp only [Act.put, List.setIfInBounds_toArray, List.set_cons_zero, List.set_cons_succ]
  refine wpAnyH_take (i := 4) (oi := { dst := some 53, op := Op.move (Operand.tmp 0), type := 32, pos := "blocks.go:158", after := #[], guard := none }) (v := ?vdk20r10o4) rfl (by kernel_rfl) (by kernel_rfl) (by kernel_rfl) (fun _ _ _ h => h) (Or.inl ⟨by rfl, ?hdk20r10o4⟩) hS ?_
  case hdk20r10o4 => (intro wx hx; skip; go_simp; (try with_reducible rfl))
  try simp only [Act.put, List.setIfInBounds_toArray, List.set_cons_zero, List.set_cons_succ]
  refine wpAnyH_take (i := 5) (oi := { dst := some 54, op := Op.nilCheck (Operand.tmp 53), type := 0, pos := "blocks.go:158", after := #[{ on := 4, ground := Ground.data }], guard := none }) (v := ?vdk20r10o5) rfl (by kernel_rfl) (by kernel_rfl) (by kernel_rfl) (fun _ _ _ h => h) (Or.inl ⟨by rfl, ?hdk20r10o5⟩) hS ?_
  case hdk20r10o5 => (intro wx hx; skip; go_simp; (try with_reducible rfl))
  try simp only [Act.put, List.setIfInBounds_toArray, List.set_cons_zero, List.set_cons_succ]
  refine wpAnyH_take (i := 6) (oi := { dst := some 55, op := Op.fieldAddr 75 (Operand.tmp 54) 1, type := 0, pos := "blocks.go:158", after := #[{ on := 5, ground := Ground.data }], guard := none }) (v := ?vdk20r10o6) rfl (by kernel_rfl) (by kernel_rfl) (by kernel_rfl) (fun _ _ _ h => h) (Or.inl ⟨by rfl, ?hdk20r10o6⟩) hS ?_
  case hdk20r10o6 => (intro wx hx; skip; go_simp; (try with_reducible rfl))
  try simp only [Act.put, List.setIfInBounds_toArray, List.set_cons_zero, List.set_cons_succ]
  refine wpAnyH_take (i := 7) (oi := { dst := some 56, op := Op.load 25 (Operand.tmp 55), type := 25, pos := "blocks.go:158", after := #[{ on := 6, ground := Ground.data }], guard := none }) (v := ?vdk20r10o7) rfl (by kernel_rfl) (by kernel_rfl) (by kernel_rfl) (fun _ _ _ h => h) (Or.inl ⟨by rfl, ?hdk20r10o7⟩) hS ?_
  case hdk20r10o7 => (intro wx hx; obtain ⟨c0, c1, c2, c3, c4⟩ := BM.cells hx; go_simp; (try with_reducible rfl))
  try simp only [Act.put, List.setIfInBounds_toArray, List.set_cons_zero, List.set_cons_succ]
  refine wpAnyH_take (i := 8) (oi := { dst := some 57, op := Op.move (Operand.tmp 0), type := 32, pos := "blocks.go:158", after := #[], guard := none }) (v := ?vdk20r10o8) rfl (by kernel_rfl) (by kernel_rfl) (by kernel_rfl) (fun _ _ _ h => h) (Or.inl ⟨by rfl, ?hdk20r10o8⟩) hS ?_
  case hdk20r10o8 => (intro wx hx; skip; go_simp; (try with_reducible rfl))
  try simp only [Act.put, List.setIfInBounds_toArray, List.set_cons_zero, List.set_cons_succ]
  refine wpAnyH_take (i := 9) (oi := { dst := some 58, op := Op.nilCheck (Operand.tmp 57), type := 0, pos := "blocks.go:158", after := #[{ on := 8, ground := Ground.data }], guard := none }) (v := ?vdk20r10o9) rfl (by kernel_rfl) (by kernel_rfl) (by kernel_rfl) (fun _ _ _ h => h) (Or.inl ⟨by rfl, ?hdk20r10o9⟩) hS ?_
  case hdk20r10o9 => (intro wx hx; skip; go_simp; (try with_reducible rfl))
  try simp only [Act.put, List.setIfInBounds_toArray, List.set_cons_zero, List.set_cons_succ]
  refine wpAnyH_take (i := 10) (oi := { dst := some 59, op := Op.fieldAddr 75 (Operand.tmp 58) 2, type := 0, pos := "blocks.go:158", after := #[{ on := 9, ground := Ground.data }], guard := none }) (v := ?vdk20r10o10) rfl (by kernel_rfl) (by kernel_rfl) (by kernel_rfl) (fun _ _ _ h => h) (Or.inl ⟨by rfl, ?hdk20r10o10⟩) hS ?_
  case hdk20r10o10 => (intro wx hx; skip; go_simp; (try with_reducible rfl))
  try simp only [Act.put, List.setIfInBounds_toArray, List.set_cons_zero, List.set_cons_succ]
  refine wpAnyH_take (i := 11) (oi := { dst := some 60, op := Op.load 3 (Operand.tmp 59), type := 3, pos := "blocks.go:158", after := #[{ on := 10, ground := Ground.data }], guard := none }) (v := ?vdk20r10o11) rfl (by kernel_rfl) (by kernel_rfl) (by kernel_rfl) (fun _ _ _ h => h) (Or.inl ⟨by rfl, ?hdk20r10o11⟩) hS ?_
  case hdk20r10o11 => (intro wx hx; obtain ⟨c0, c1, c2, c3, c4⟩ := BM.cells hx; go_simp; (try with_reducible rfl))
  try simp only [Act.put, List.setIfInBounds_toArray, List.set_cons_zero, List.set_cons_succ]
  refine wpAnyH_ready (rs := [12, 16]) (by kernel_rfl) (by simp) ?_
  refine AllReadyH.cons (o := { dst := some 61, op := Op.call { callee := Callee.value (Operand.func 33), args := #[Operand.tmp 52, Operand.tmp 56, Operand.tmp 60], argTypes := #[30, 25, 3] }, type := 72, pos := "blocks.go:158", after := #[{ on := 3, ground := Ground.data }, { on := 7, ground := Ground.data }, { on := 11, ground := Ground.data }], guard := none }) rfl (fun K hK => ?_) ?_
  ·
    go_simp
    refine (HG.out _ _ hOr.out).mono ?_
    rintro e wB ⟨rfl, hOB⟩
    have hS1 : BM XM g a b c n _ := HB.out _ _ hOB
    clear hOr
    have hOr := Lib.hid hOB
    clear hOB
    refine hK.out _ _ ?hsdkx120r10o12 (fun hS => ?_)
    case hsdkx120r10o12 => (exact hS1)
    clear hK K
    try simp only [Act.put, List.setIfInBounds_toArray, List.set_cons_zero, List.set_cons_succ]
    refine wpAnyH_take (i := 13) (oi := { dst := some 48, op := Op.move (Operand.tmp 61), type := 72, pos := "blocks.go:158", after := #[{ on := 12, ground := Ground.data }], guard := none }) (v := ?vdkx120r10o13) rfl (by kernel_rfl) (by kernel_rfl) (by kernel_rfl) (fun _ _ _ h => h) (Or.inl ⟨by rfl, ?hdkx120r10o13⟩) hS ?_
    case hdkx120r10o13 => (intro wx hx; skip; go_simp; (try with_reducible rfl))
    try simp only [Act.put, List.setIfInBounds_toArray, List.set_cons_zero, List.set_cons_succ]
    refine wpAnyH_take (i := 14) (oi := { dst := some 62, op := Op.extract (Operand.tmp 48) 0, type := 71, pos := "blocks.go:158", after := #[{ on := 13, ground := Ground.data }], guard := none }) (v := ?vdkx120r10o14) rfl (by kernel_rfl) (by kernel_rfl) (by kernel_rfl) (fun _ _ _ h => h) (Or.inl ⟨by rfl, ?hdkx120r10o14⟩) hS ?_
    case hdkx120r10o14 => (intro wx hx; skip; go_simp; (try with_reducible rfl))
    try simp only [Act.put, List.setIfInBounds_toArray, List.set_cons_zero, List.set_cons_succ]
    refine wpAnyH_take (i := 15) (oi := { dst := some 63, op := Op.extract (Operand.tmp 48) 1, type := 33, pos := "blocks.go:158", after := #[{ on := 13, ground := Ground.data }, { on := 17, ground := Ground.gcOnly Departure.lateStores }], guard := none }) (v := ?vdkx120r10o15) rfl (by kernel_rfl) (by kernel_rfl) (by kernel_rfl) (fun _ _ _ h => h) (Or.inl ⟨by rfl, ?hdkx120r10o15⟩) hS ?_
    case hdkx120r10o15 => (intro wx hx; skip; go_simp; (try with_reducible rfl))
    try simp only [Act.put, List.setIfInBounds_toArray, List.set_cons_zero, List.set_cons_succ]
    refine wpAnyH_ready (rs := [16]) (by kernel_rfl) (by simp) ?_
    refine AllReadyH.cons (o := { dst := some 10, op := Op.alloc 71, type := 0, pos := "blocks.go:158", after := #[], guard := none }) rfl (fun K hK => ?_) AllReadyH.nil
    go_simp
    have hS1 : BM XM g a b c n _ := hS.grown (World.grownBy_alloc _ (.cells #[.int .u64 0, .int .u64 0, .int .u64 0, .int .u64 0, .int .u64 0, .int .u64 0, .int .u64 0, .int .u64 0, .int .u64 0, .int .u64 0] 71) none)
    have hOn := hOr.out.addBox 71 #[.int .u64 0, .int .u64 0, .int .u64 0, .int .u64 0, .int .u64 0, .int .u64 0, .int .u64 0, .int .u64 0, .int .u64 0, .int .u64 0]
    rw [List.append_assoc, List.nil_append] at hOn
    clear hOr
    first | (obtain ⟨N, hN⟩ : ∃ N, wB.heap.size = N := ⟨_, rfl⟩; obtain ⟨wz, hwz⟩ : ∃ wz, wB.alloc (.cells #[.int .u64 0, .int .u64 0, .int .u64 0, .int .u64 0, .int .u64 0, .int .u64 0, .int .u64 0, .int .u64 0, .int .u64 0, .int .u64 0] 71) = wz := ⟨_, rfl⟩; rw [hN, hwz] at hOn; rw [hwz] at hS1; (try rw [hwz]); (first | rw [hN] | rw [show w3.heap.size = N from hN])) | (obtain ⟨N, hN⟩ : ∃ N, w3.heap.size = N := ⟨_, rfl⟩; obtain ⟨wz, hwz⟩ : ∃ wz, (w3.alloc (.cells #[.int .u64 0, .int .u64 0, .int .u64 0, .int .u64 0, .int .u64 0, .int .u64 0, .int .u64 0, .int .u64 0, .int .u64 0, .int .u64 0] 71)).drew = wz := ⟨_, rfl⟩; rw [show w3.drew.alloc (.cells #[.int .u64 0, .int .u64 0, .int .u64 0, .int .u64 0, .int .u64 0, .int .u64 0, .int .u64 0, .int .u64 0, .int .u64 0, .int .u64 0] 71) = wz from hwz] at hOn hS1; rw [show w3.drew.heap.size = N from hN] at hOn; rw [hwz, hN])
    have hOr := Lib.hid hOn
    clear hOn hwz hN
    refine hK.out _ _ ?hsdkx120r10o16 (fun hS => ?_)
    case hsdkx120r10o16 => (exact hS1)
    clear hK K
    try simp only [Act.put, List.setIfInBounds_toArray, List.set_cons_zero, List.set_cons_succ]
    refine wpAnyH_ready (rs := [17]) (by kernel_rfl) (by simp) ?_
    refine AllReadyH.cons (o := { dst := none, op := Op.store 71 (Operand.tmp 10) (Operand.tmp 62), type := 0, pos := "blocks.go:158", after := #[{ on := 16, ground := Ground.data }, { on := 14, ground := Ground.data }, { on := 12, ground := Ground.chain }, { on := 0, ground := Ground.phase }, { on := 1, ground := Ground.phase }, { on := 2, ground := Ground.phase }, { on := 3, ground := Ground.phase }, { on := 4, ground := Ground.phase }, { on := 5, ground := Ground.phase }, { on := 6, ground := Ground.phase }, { on := 7, ground := Ground.phase }, { on := 8, ground := Ground.phase }, { on := 9, ground := Ground.phase }, { on := 10, ground := Ground.phase }, { on := 11, ground := Ground.phase }, { on := 12, ground := Ground.phase }, { on := 13, ground := Ground.phase }, { on := 14, ground := Ground.phase }, { on := 15, ground := Ground.textOnly Departure.lateStores }, { on := 16, ground := Ground.phase }], guard := none }) rfl (fun K hK => ?_) AllReadyH.nil
    obtain ⟨⟨z0, z1, z2, z3, z4, z5, z6, z7, z8, z9⟩, q0, q1, q2, q3, q4, q5, q6, q7, q8, q9⟩ := node_zero hOr.out
    go_simp
    obtain ⟨wn, hwn, hOx⟩ := node_stored f0 f1 f2 f3 f4 f5 f6 f7 f8 f9 hOr.out
    rw [hwn]
    have hOn := Lib.hid hOx
    clear hwn hOx
    refine hK.out _ _ ?hs17 (fun hS => ?_)
    case hs17 => exact HB.out _ _ hOn.out
    clear hK K hOr z0 z1 z2 z3 z4 z5 z6 z7 z8 z9 q0 q1 q2 q3 q4 q5 q6 q7 q8 q9
    have hOr := Lib.hid hOn.out
    clear hOn
    try simp only [Act.put, List.setIfInBounds_toArray, List.set_cons_zero, List.set_cons_succ]
    refine wpAnyH_take (i := 18) (oi := { dst := some 7, op := Op.assign (Operand.tmp 63), type := 33, pos := "blocks.go:158", after := #[{ on := 15, ground := Ground.data }, { on := 17, ground := Ground.chain }, { on := 0, ground := Ground.phase }, { on := 1, ground := Ground.phase }, { on := 2, ground := Ground.phase }, { on := 3, ground := Ground.phase }, { on := 4, ground := Ground.phase }, { on := 5, ground := Ground.phase }, { on := 6, ground := Ground.phase }, { on := 7, ground := Ground.phase }, { on := 8, ground := Ground.phase }, { on := 9, ground := Ground.phase }, { on := 10, ground := Ground.phase }, { on := 11, ground := Ground.phase }, { on := 12, ground := Ground.phase }, { on := 13, ground := Ground.phase }, { on := 14, ground := Ground.phase }, { on := 15, ground := Ground.phase }, { on := 16, ground := Ground.phase }, { on := 17, ground := Ground.phase }], guard := none }) (v := ?vdkx120r10o18) rfl (by kernel_rfl) (by kernel_rfl) (by kernel_rfl) (fun _ _ _ h => h) (Or.inl ⟨by rfl, ?hdkx120r10o18⟩) hS ?_
    case hdkx120r10o18 => (intro wx hx; skip; go_simp; (try with_reducible rfl))
    try simp only [Act.put, List.setIfInBounds_toArray, List.set_cons_zero, List.set_cons_succ]
    refine wpAnyH_done (by kernel_rfl) ?_ _
    obtain ⟨z0, z1, z2, z3, z4, z5, z6, z7, z8, z9⟩ := node_have hOr.out
    go_wp2_with fail
    refine (HR1.out Y XI XB XA _ _ hOr.out).mono ?_
    rintro e w5 ⟨rfl, hO5⟩
    clear hOr hS z0 z1 z2 z3 z4 z5 z6 z7 z8 z9
    have hOr := Lib.hid hO5
    clear hO5
    go_wp2
    go_ret
    exact ⟨rfl, HQ.out _ _ _ _ _ _ hOr.out.less⟩
  refine AllReadyH.cons (o := { dst := some 10, op := Op.alloc 71, type := 0, pos := "blocks.go:158", after := #[], guard := none }) rfl (fun K hK => ?_) ?_
  ·
    go_simp
    have hS1 : BM XM g a b c n _ := hS.grown (World.grownBy_alloc _ (.cells #[.int .u64 0, .int .u64 0, .int .u64 0, .int .u64 0, .int .u64 0, .int .u64 0, .int .u64 0, .int .u64 0, .int .u64 0, .int .u64 0] 71) none)
    have hOn := hOr.out.addBox 71 #[.int .u64 0, .int .u64 0, .int .u64 0, .int .u64 0, .int .u64 0, .int .u64 0, .int .u64 0, .int .u64 0, .int .u64 0, .int .u64 0]
    rw [List.append_assoc, List.nil_append] at hOn
    clear hOr
    first | (obtain ⟨N, hN⟩ : ∃ N, wB.heap.size = N := ⟨_, rfl⟩; obtain ⟨wz, hwz⟩ : ∃ wz, wB.alloc (.cells #[.int .u64 0, .int .u64 0, .int .u64 0, .int .u64 0, .int .u64 0, .int .u64 0, .int .u64 0, .int .u64 0, .int .u64 0, .int .u64 0] 71) = wz := ⟨_, rfl⟩; rw [hN, hwz] at hOn; rw [hwz] at hS1; (try rw [hwz]); (first | rw [hN] | rw [show w3.heap.size = N from hN])) | (obtain ⟨N, hN⟩ : ∃ N, w3.heap.size = N := ⟨_, rfl⟩; obtain ⟨wz, hwz⟩ : ∃ wz, (w3.alloc (.cells #[.int .u64 0, .int .u64 0, .int .u64 0, .int .u64 0, .int .u64 0, .int .u64 0, .int .u64 0, .int .u64 0, .int .u64 0, .int .u64 0] 71)).drew = wz := ⟨_, rfl⟩; rw [show w3.drew.alloc (.cells #[.int .u64 0, .int .u64 0, .int .u64 0, .int .u64 0, .int .u64 0, .int .u64 0, .int .u64 0, .int .u64 0, .int .u64 0, .int .u64 0] 71) = wz from hwz] at hOn hS1; rw [show w3.drew.heap.size = N from hN] at hOn; rw [hwz, hN])
    have hOr := Lib.hid hOn
    clear hOn hwz hN
    refine hK.out _ _ ?hsdkx320r10o16 (fun hS => ?_)
    case hsdkx320r10o16 => (exact hS1)
    clear hK K
    try simp only [Act.put, List.setIfInBounds_toArray, List.set_cons_zero, List.set_cons_succ]
    refine wpAnyH_ready (rs := [12]) (by kernel_rfl) (by simp) ?_
    refine AllReadyH.cons (o := { dst := some 61, op := Op.call { callee := Callee.value (Operand.func 33), args := #[Operand.tmp 52, Operand.tmp 56, Operand.tmp 60], argTypes := #[30, 25, 3] }, type := 72, pos := "blocks.go:158", after := #[{ on := 3, ground := Ground.data }, { on := 7, ground := Ground.data }, { on := 11, ground := Ground.data }], guard := none }) rfl (fun K hK => ?_) AllReadyH.nil
    go_simp
    refine (HG.out _ _ hOr.out).mono ?_
    rintro e wB ⟨rfl, hOB⟩
    have hS1 : BM XM g a b c n _ := HB.out _ _ hOB
    clear hOr
    have hOr := Lib.hid hOB
    clear hOB
    refine hK.out _ _ ?hsdkx320r10o12 (fun hS => ?_)
    case hsdkx320r10o12 => (exact hS1)
    clear hK K
    try simp only [Act.put, List.setIfInBounds_toArray, List.set_cons_zero, List.set_cons_succ]
    refine wpAnyH_take (i := 13) (oi := { dst := some 48, op := Op.move (Operand.tmp 61), type := 72, pos := "blocks.go:158", after := #[{ on := 12, ground := Ground.data }], guard := none }) (v := ?vdkx320r10o13) rfl (by kernel_rfl) (by kernel_rfl) (by kernel_rfl) (fun _ _ _ h => h) (Or.inl ⟨by rfl, ?hdkx320r10o13⟩) hS ?_
    case hdkx320r10o13 => (intro wx hx; skip; go_simp; (try with_reducible rfl))
    try simp only [Act.put, List.setIfInBounds_toArray, List.set_cons_zero, List.set_cons_succ]
    refine wpAnyH_take (i := 14) (oi := { dst := some 62, op := Op.extract (Operand.tmp 48) 0, type := 71, pos := "blocks.go:158", after := #[{ on := 13, ground := Ground.data }], guard := none }) (v := ?vdkx320r10o14) rfl (by kernel_rfl) (by kernel_rfl) (by kernel_rfl) (fun _ _ _ h => h) (Or.inl ⟨by rfl, ?hdkx320r10o14⟩) hS ?_
    case hdkx320r10o14 => (intro wx hx; skip; go_simp; (try with_reducible rfl))
    try simp only [Act.put, List.setIfInBounds_toArray, List.set_cons_zero, List.set_cons_succ]
    refine wpAnyH_take (i := 15) (oi := { dst := some 63, op := Op.extract (Operand.tmp 48) 1, type := 33, pos := "blocks.go:158", after := #[{ on := 13, ground := Ground.data }, { on := 17, ground := Ground.gcOnly Departure.lateStores }], guard := none }) (v := ?vdkx320r10o15) rfl (by kernel_rfl) (by kernel_rfl) (by kernel_rfl) (fun _ _ _ h => h) (Or.inl ⟨by rfl, ?hdkx320r10o15⟩) hS ?_
    case hdkx320r10o15 => (intro wx hx; skip; go_simp; (try with_reducible rfl))
    try simp only [Act.put, List.setIfInBounds_toArray, List.set_cons_zero, List.set_cons_succ]
    refine wpAnyH_ready (rs := [17]) (by kernel_rfl) (by simp) ?_
    refine AllReadyH.cons (o := { dst := none, op := Op.store 71 (Operand.tmp 10) (Operand.tmp 62), type := 0, pos := "blocks.go:158", after := #[{ on := 16, ground := Ground.data }, { on := 14, ground := Ground.data }, { on := 12, ground := Ground.chain }, { on := 0, ground := Ground.phase }, { on := 1, ground := Ground.phase }, { on := 2, ground := Ground.phase }, { on := 3, ground := Ground.phase }, { on := 4, ground := Ground.phase }, { on := 5, ground := Ground.phase }, { on := 6, ground := Ground.phase }, { on := 7, ground := Ground.phase }, { on := 8, ground := Ground.phase }, { on := 9, ground := Ground.phase }, { on := 10, ground := Ground.phase }, { on := 11, ground := Ground.phase }, { on := 12, ground := Ground.phase }, { on := 13, ground := Ground.phase }, { on := 14, ground := Ground.phase }, { on := 15, ground := Ground.textOnly Departure.lateStores }, { on := 16, ground := Ground.phase }], guard := none }) rfl (fun K hK => ?_) AllReadyH.nil
    obtain ⟨⟨z0, z1, z2, z3, z4, z5, z6, z7, z8, z9⟩, q0, q1, q2, q3, q4, q5, q6, q7, q8, q9⟩ := node_zero hOr.out
    go_simp
    obtain ⟨wn, hwn, hOx⟩ := node_stored f0 f1 f2 f3 f4 f5 f6 f7 f8 f9 hOr.out
    rw [hwn]
    have hOn := Lib.hid hOx
    clear hwn hOx
    refine hK.out _ _ ?hs17 (fun hS => ?_)
    case hs17 => exact HB.out _ _ hOn.out
    clear hK K hOr z0 z1 z2 z3 z4 z5 z6 z7 z8 z9 q0 q1 q2 q3 q4 q5 q6 q7 q8 q9
    have hOr := Lib.hid hOn.out
    clear hOn
    try simp only [Act.put, List.setIfInBounds_toArray, List.set_cons_zero, List.set_cons_succ]
    refine wpAnyH_take (i := 18) (oi := { dst := some 7, op := Op.assign (Operand.tmp 63), type := 33, pos := "blocks.go:158", after := #[{ on := 15, ground := Ground.data }, { on := 17, ground := Ground.chain }, { on := 0, ground := Ground.phase }, { on := 1, ground := Ground.phase }, { on := 2, ground := Ground.phase }, { on := 3, ground := Ground.phase }, { on := 4, ground := Ground.phase }, { on := 5, ground := Ground.phase }, { on := 6, ground := Ground.phase }, { on := 7, ground := Ground.phase }, { on := 8, ground := Ground.phase }, { on := 9, ground := Ground.phase }, { on := 10, ground := Ground.phase }, { on := 11, ground := Ground.phase }, { on := 12, ground := Ground.phase }, { on := 13, ground := Ground.phase }, { on := 14, ground := Ground.phase }, { on := 15, ground := Ground.phase }, { on := 16, ground := Ground.phase }, { on := 17, ground := Ground.phase }], guard := none }) (v := ?vdkx320r10o18) rfl (by kernel_rfl) (by kernel_rfl) (by kernel_rfl) (fun _ _ _ h => h) (Or.inl ⟨by rfl, ?hdkx320r10o18⟩) hS ?_
    case hdkx320r10o18 => (intro wx hx; skip; go_simp; (try with_reducible rfl))
    try simp only [Act.put, List.setIfInBounds_toArray, List.set_cons_zero, List.set_cons_succ]
    refine wpAnyH_done (by kernel_rfl) ?_ _
    obtain ⟨z0, z1, z2, z3, z4, z5, z6, z7, z8, z9⟩ := node_have hOr.out
    go_wp2_with fail
    refine (HR1.out Y XI XB XA _ _ hOr.out).mono ?_
    rintro e w5 ⟨rfl, hO5⟩
    clear hOr hS z0 z1 z2 z3 z4 z5 z6 z7 z8 z9
    have hOr := Lib.hid hO5
    clear hO5
    go_wp2
    go_ret
    exact ⟨rfl, HQ.out _ _ _ _ _ _ hOr.out.less⟩
  exact AllReadyH.nil

end Go.Proofs.YtmamgfjnphdecaaDoor
end
section
/- Package blocks: Drop, where the Chain is bare behind it. -/
namespace Go.Proofs.YtmamgfjnphdecaaDoor
open Go.RowKit Go.Grommet
set_option linter.unusedVariables false

theorem alcIs_more {kv kI kB kA g a b c XI XB XA : Nat} {xs : List Nat} {L : List (Nat × Nat)} {Ps : List Pr} (Qs : List Pr) (h : AlcIs Ps kv kI kB kA g a b c XI XB XA xs L) : AlcIs (Ps ++ Qs) kv kI kB kA g a b c XI XB XA xs L :=
  ⟨app_old h.view, app_old h.mi, app_old h.mb, app_old h.al, h.may, h.fits, h.few⟩

set_option maxRecDepth 100000 in
set_option maxHeartbeats 1000000 in
theorem bmDrop_bare (kv km XM g a b c n A : Nat) (k t m : Int) (f0 f1 f2 f3 f4 f5 f6 f7 f8 f9 : Nat) (xs : List Nat) (L L1 : List (Nat × Nat)) (w0 w : World) (Ps : List Pr) (h : Grommet.Own w0 w Ps) (hv : Ps[kv]? = some (viewP g xs L)) (hm : Ps[km]? = some (bmP XM g a b c n)) (hkm : kv ≠ km) (hN : NodeOk xs L a b c n A)
    (hL : LookC XM k t m 0 w0 Ps) (hm0 : m ≠ 0) (ht : 0 ≤ t ∧ t < (xs.length : Int)) (he : giveE xs L (272 + 208 * a) c m = 0) (hl : (giveL xs L (272 + 208 * a) c m).length < 96) (hL1 : giveBL xs L a c m t = L1)
    (HG : ∀ Rs : List Pr, Rs[kv]? = some (viewP g xs L1) → ∀ wx Qs, Grommet.Own w0 wx (Rs ++ Qs) → Calls Tryd.prog 33 #[.pointer (some ⟨g, 0, none⟩), gv (a : Int) (b : Int) (c : Int), .int .i64 (n : Int)] wx fun e w' => e = .returned (.tuple #[nv f0 f1 f2 f3 f4 f5 f6 f7 f8 f9, .int .i64 0]) ∧ Grommet.Own w0 w' (Rs ++ Qs)) (L2 : List (Nat × Nat)) (hL2 : giveBL xs L1 a c (f8 : Int) ((A : Int) + 8) = L2) (he2 : giveE xs L1 (272 + 208 * a) c (f8 : Int) = 0) (hl2 : (giveL xs L1 (272 + 208 * a) c (f8 : Int)).length < 96) (h8s : f8 ≤ 1000000) (h8 : f8 ≠ 0) (HR : ∀ Rs : List Pr, Rs[kv]? = some (viewP g xs L1) → Rs[km]? = some (bmP XM g a b c n) → ∀ wx, Grommet.Own w0 wx Rs → Calls Tryd.prog 48 #[.pointer (some ⟨XM, 0, none⟩), nv f0 f1 f2 f3 f4 f5 f6 f7 f8 f9] wx fun e w' => e = .returned (.bool true) ∧ Grommet.Own w0 w' Rs) :
    Calls Tryd.prog 20 #[.pointer (some ⟨XM, 0, none⟩), .int .i64 k] w fun e' w' => e' = .returned (.int .i64 0) ∧ Grommet.Own w0 w' (Ps.set kv (viewP g xs L2)) := by
  have hkl := (List.getElem?_eq_some_iff.1 hv).1
  have HL := Lib.hid (hL w h)
  have HB0 := Lib.hid (show ∀ wx Rs, Grommet.Own w0 wx (Ps ++ Rs) → BM XM g a b c n wx from fun wx Rs hO => BM.of (k := km) hO (app_old hm))
  have HA := Lib.hid (fun wx (hO : Grommet.Own w0 wx Ps) => ANewH kv g a b c xs L w0 wx Ps hO hv hN.may hN.fits hN.few)
  have HV := Lib.hid (fun wx Y XI XB XA (hO : Grommet.Own w0 wx (Ps ++ alcPs Y g a b c XI XB XA)) => bmGive kv km _ _ _ g a b c XI XB XA XM n t m xs L w0 wx _ hO (alcIs_of hv hN) (app_old hm) hkm he hl ht)
  rw [show setL xs (giveL xs L (272 + 208 * a) c m) t 0 = L1 from hL1] at HV
  have HB1 := Lib.hid (show ∀ Y XI XB XA wx Qs, Grommet.Own w0 wx ((Ps ++ alcPs Y g a b c XI XB XA).set kv (viewP g xs L1) ++ Qs) → BM XM g a b c n wx from fun Y XI XB XA wx Qs hO => BM.of (k := km) hO (app_old (set_same_at _ _ (app_old hm) hkm)))
  have HG1 := Lib.hid (fun Y XI XB XA => HG ((Ps ++ alcPs Y g a b c XI XB XA).set kv (viewP g xs L1)) (set_at _ (app_old hv)))
  have HQ := Lib.hid (show ∀ wx Y XI XB XA Q, Grommet.Own w0 wx ((Ps ++ alcPs Y g a b c XI XB XA).set kv Q) → Grommet.Own w0 wx (Ps.set kv Q) from fun wx Y XI XB XA Q hO => by
    rw [List.set_append_left _ _ hkl] at hO
    exact hO.less)
  have e1 : (m == 0) = false := by simpa using hm0
  have HR1 := Lib.hid (fun Y XI XB XA Qs => HR ((Ps ++ alcPs Y g a b c XI XB XA).set kv (viewP g xs L1) ++ Qs) (app_old (set_at _ (app_old hv))) (app_old (set_same_at _ _ (app_old hm) hkm)))
  have e8 : ((f8 : Int) == 0) = false := by simpa using h8
  have e9 : ¬ (f8 : Int) = 0 := by omega
  have hplace := hN.place
  have hmN := mayN hN.may
  have hbel := hN.below
  have hfit := hN.fits
  have w8 : IntKind.i64.wrap (f8 : Int) = (f8 : Int) := IntWalk.i64_in _ ⟨by omega, by omega⟩
  have HW := Lib.hid (fun wx hB => bmOwn XM g a b c n A 8 wx hB hN.inode (by omega) ⟨by omega, by omega⟩)
  have HV2 := Lib.hid (fun wx Y XI XB XA N (hO : Grommet.Own w0 wx (((Ps ++ alcPs Y g a b c XI XB XA).set kv (viewP g xs L1)) ++ [boxP N 71 #[.int .u64 (f0 : Int), .int .u64 (f1 : Int), .int .u64 (f2 : Int), .int .u64 (f3 : Int), .int .u64 (f4 : Int), .int .u64 (f5 : Int), .int .u64 (f6 : Int), .int .u64 (f7 : Int), .int .u64 (f8 : Int), .int .u64 (f9 : Int)]])) => bmGive kv km _ _ _ g a b c XI XB XA XM n ((A : Int) + 8) (f8 : Int) xs L1 w0 wx _ hO (alcIs_more _ (alcIs_set L1 (alcIs_of hv hN) (by omega) (by omega) (by omega))) (app_old (set_same_at _ _ (app_old hm) hkm)) hkm he2 hl2 ⟨by omega, by omega⟩)
  rw [show setL xs (giveL xs L1 (272 + 208 * a) c (f8 : Int)) ((A : Int) + 8) 0 = L2 from hL2] at HV2
  have HQ2 := Lib.hid (show ∀ wx Y XI XB XA N, Grommet.Own w0 wx ((((Ps ++ alcPs Y g a b c XI XB XA).set kv (viewP g xs L1)) ++ [boxP N 71 #[.int .u64 (f0 : Int), .int .u64 (f1 : Int), .int .u64 (f2 : Int), .int .u64 (f3 : Int), .int .u64 (f4 : Int), .int .u64 (f5 : Int), .int .u64 (f6 : Int), .int .u64 (f7 : Int), .int .u64 (f8 : Int), .int .u64 (f9 : Int)]]).set kv (viewP g xs L2)) → Grommet.Own w0 wx (Ps.set kv (viewP g xs L2)) from fun wx Y XI XB XA N hO => by
    rw [List.set_append_left _ _ (by rw [List.length_set, List.length_append]; omega), List.set_set, List.set_append_left _ _ hkl] at hO
    exact hO.less.less)
  have HS2 := Lib.hid (show ∀ wx Y XI XB XA N, Grommet.Own w0 wx ((((Ps ++ alcPs Y g a b c XI XB XA).set kv (viewP g xs L1)) ++ [boxP N 71 #[.int .u64 (f0 : Int), .int .u64 (f1 : Int), .int .u64 (f2 : Int), .int .u64 (f3 : Int), .int .u64 (f4 : Int), .int .u64 (f5 : Int), .int .u64 (f6 : Int), .int .u64 (f7 : Int), .int .u64 (f8 : Int), .int .u64 (f9 : Int)]]).set kv (viewP g xs L2)) → BM XM g a b c n wx ∧ NodeAt N f0 f1 f2 f3 f4 f5 f6 f7 f8 f9 wx from fun wx Y XI XB XA N hO => by
    refine ⟨BM.of (k := km) hO (set_same_at _ _ (app_old (set_same_at _ _ (app_old hm) hkm)) hkm), ?_⟩
    rw [List.set_append_left _ _ (by rw [List.length_set, List.length_append]; omega)] at hO
    exact hO.box (((Ps ++ alcPs Y g a b c XI XB XA).set kv (viewP g xs L1)).set kv (viewP g xs L2)).length (by rw [List.getElem?_append_right (Nat.le_refl _), Nat.sub_self]; rfl))
  have HN2 := Lib.hid (show ∀ wx Y XI XB XA N, Grommet.Own w0 wx (((Ps ++ alcPs Y g a b c XI XB XA).set kv (viewP g xs L1)) ++ [boxP N 71 #[.int .u64 (f0 : Int), .int .u64 (f1 : Int), .int .u64 (f2 : Int), .int .u64 (f3 : Int), .int .u64 (f4 : Int), .int .u64 (f5 : Int), .int .u64 (f6 : Int), .int .u64 (f7 : Int), .int .u64 (f8 : Int), .int .u64 (f9 : Int)]]) → NodeAt N f0 f1 f2 f3 f4 f5 f6 f7 f8 f9 wx from fun wx Y XI XB XA N hO => hO.box ((Ps ++ alcPs Y g a b c XI XB XA).set kv (viewP g xs L1)).length (by rw [List.getElem?_append_right (Nat.le_refl _), Nat.sub_self]; rfl))
  obtain ⟨T, hT⟩ : ∃ T, (A : Int) + 8 = T := ⟨_, rfl⟩
  rw [hT] at HW HV2
  unfold nv gv at *
  clear h hv hm hkm hN hL hm0 ht he hl hL1 HG hkl h8 HR hL2 he2 hl2 h8s hplace hmN hbel hfit hT
  go_enter Tryd.func20, Tryd.ntmps20
  go_wp2_with fail
  refine HL.out.mono ?_
  rintro e' w1 ⟨rfl, hO1⟩
  have hS0 := Lib.hid (HB0.out _ [] (by rw [List.append_nil]; exact hO1)).drew
  have hOr := Lib.hid (hO1.quiet (grown_drew (World.grownBy.refl w1 none)))
  clear HL hO1
  go_wp2_with fail
  refine wp_region_held_drew (S := fun w' => BM XM g a b c n w') (by kernel_rfl) (hS0.out) (fun hS => ?_)
  refine wpAnyH_take (i := 0) (oi := { dst := some 26, op := Op.move (Operand.tmp 0), type := 32, pos := "blocks.go:151", after := #[], guard := none }) (v := ?vda20r4o0) rfl (by kernel_rfl) (by kernel_rfl) (by kernel_rfl) (fun _ _ _ h => h) (Or.inl ⟨by rfl, ?hda20r4o0⟩) hS ?_
  case hda20r4o0 => (intro wx hx; skip; go_simp; (try with_reducible rfl))
  try simp only [Act.put, List.setIfInBounds_toArray, List.set_cons_zero, List.set_cons_succ]
  refine wpAnyH_take (i := 1) (oi := { dst := some 27, op := Op.nilCheck (Operand.tmp 26), type := 0, pos := "blocks.go:151", after := #[{ on := 0, ground := Ground.data }], guard := none }) (v := ?vda20r4o1) rfl (by kernel_rfl) (by kernel_rfl) (by kernel_rfl) (fun _ _ _ h => h) (Or.inl ⟨by rfl, ?hda20r4o1⟩) hS ?_
  case hda20r4o1 => (intro wx hx; skip; go_simp; (try with_reducible rfl))
  try simp only [Act.put, List.setIfInBounds_toArray, List.set_cons_zero, List.set_cons_succ]
  refine wpAnyH_take (i := 2) (oi := { dst := some 28, op := Op.fieldAddr 75 (Operand.tmp 27) 0, type := 0, pos := "blocks.go:151", after := #[{ on := 1, ground := Ground.data }], guard := none }) (v := ?vda20r4o2) rfl (by kernel_rfl) (by kernel_rfl) (by kernel_rfl) (fun _ _ _ h => h) (Or.inl ⟨by rfl, ?hda20r4o2⟩) hS ?_
  case hda20r4o2 => (intro wx hx; skip; go_simp; (try with_reducible rfl))
  try simp only [Act.put, List.setIfInBounds_toArray, List.set_cons_zero, List.set_cons_succ]
  refine wpAnyH_take (i := 3) (oi := { dst := some 29, op := Op.load 30 (Operand.tmp 28), type := 30, pos := "blocks.go:151", after := #[{ on := 2, ground := Ground.data }], guard := none }) (v := ?vda20r4o3) rfl (by kernel_rfl) (by kernel_rfl) (by kernel_rfl) (fun _ _ _ h => h) (Or.inl ⟨by rfl, ?hda20r4o3⟩) hS ?_
  case hda20r4o3 => (intro wx hx; obtain ⟨c0, c1, c2, c3, c4⟩ := BM.cells hx; go_simp; (try with_reducible rfl))
  try simp only [Act.put, List.setIfInBounds_toArray, List.set_cons_zero, List.set_cons_succ]
  refine wpAnyH_take (i := 4) (oi := { dst := some 30, op := Op.move (Operand.tmp 0), type := 32, pos := "blocks.go:151", after := #[], guard := none }) (v := ?vda20r4o4) rfl (by kernel_rfl) (by kernel_rfl) (by kernel_rfl) (fun _ _ _ h => h) (Or.inl ⟨by rfl, ?hda20r4o4⟩) hS ?_
  case hda20r4o4 => (intro wx hx; skip; go_simp; (try with_reducible rfl))
  try simp only [Act.put, List.setIfInBounds_toArray, List.set_cons_zero, List.set_cons_succ]
  refine wpAnyH_take (i := 5) (oi := { dst := some 31, op := Op.nilCheck (Operand.tmp 30), type := 0, pos := "blocks.go:151", after := #[{ on := 4, ground := Ground.data }], guard := none }) (v := ?vda20r4o5) rfl (by kernel_rfl) (by kernel_rfl) (by kernel_rfl) (fun _ _ _ h => h) (Or.inl ⟨by rfl, ?hda20r4o5⟩) hS ?_
  case hda20r4o5 => (intro wx hx; skip; go_simp; (try with_reducible rfl))
  try simp only [Act.put, List.setIfInBounds_toArray, List.set_cons_zero, List.set_cons_succ]
  refine wpAnyH_take (i := 6) (oi := { dst := some 32, op := Op.fieldAddr 75 (Operand.tmp 31) 1, type := 0, pos := "blocks.go:151", after := #[{ on := 5, ground := Ground.data }], guard := none }) (v := ?vda20r4o6) rfl (by kernel_rfl) (by kernel_rfl) (by kernel_rfl) (fun _ _ _ h => h) (Or.inl ⟨by rfl, ?hda20r4o6⟩) hS ?_
  case hda20r4o6 => (intro wx hx; skip; go_simp; (try with_reducible rfl))
  try simp only [Act.put, List.setIfInBounds_toArray, List.set_cons_zero, List.set_cons_succ]
  refine wpAnyH_take (i := 7) (oi := { dst := some 33, op := Op.load 25 (Operand.tmp 32), type := 25, pos := "blocks.go:151", after := #[{ on := 6, ground := Ground.data }], guard := none }) (v := ?vda20r4o7) rfl (by kernel_rfl) (by kernel_rfl) (by kernel_rfl) (fun _ _ _ h => h) (Or.inl ⟨by rfl, ?hda20r4o7⟩) hS ?_
  case hda20r4o7 => (intro wx hx; obtain ⟨c0, c1, c2, c3, c4⟩ := BM.cells hx; go_simp; (try with_reducible rfl))
  try simp only [Act.put, List.setIfInBounds_toArray, List.set_cons_zero, List.set_cons_succ]
  refine wpAnyH_ready (rs := [8]) (by kernel_rfl) (by simp) ?_
  refine AllReadyH.cons (o := { dst := some 34, op := Op.call { callee := Callee.value (Operand.func 12), args := #[Operand.tmp 29, Operand.tmp 33], argTypes := #[30, 25] }, type := 37, pos := "blocks.go:151", after := #[{ on := 3, ground := Ground.data }, { on := 7, ground := Ground.data }], guard := none }) rfl (fun K hK => ?_) AllReadyH.nil
  go_simp
  refine (HA.out _ hOr.out).mono ?_
  rintro e wA ⟨Y, XI, XB, XA, rfl, hOA⟩
  have hS1 : BM XM g a b c n wA := HB0.out _ _ hOA
  refine hK.out _ _ ?hsda20r4o8 (fun hS => ?_)
  case hsda20r4o8 => (exact hS1)
  clear hK K
  try simp only [Act.put, List.setIfInBounds_toArray, List.set_cons_zero, List.set_cons_succ]
  refine wpAnyH_take (i := 9) (oi := { dst := some 25, op := Op.move (Operand.tmp 34), type := 37, pos := "blocks.go:151", after := #[{ on := 8, ground := Ground.data }], guard := none }) (v := ?vda20r4o9) rfl (by kernel_rfl) (by kernel_rfl) (by kernel_rfl) (fun _ _ _ h => h) (Or.inl ⟨by rfl, ?hda20r4o9⟩) hS ?_
  case hda20r4o9 => (intro wx hx; skip; go_simp; (try with_reducible rfl))
  try simp only [Act.put, List.setIfInBounds_toArray, List.set_cons_zero, List.set_cons_succ]
  refine wpAnyH_take (i := 10) (oi := { dst := some 35, op := Op.extract (Operand.tmp 25) 0, type := 36, pos := "blocks.go:151", after := #[{ on := 9, ground := Ground.data }], guard := none }) (v := ?vda20r4o10) rfl (by kernel_rfl) (by kernel_rfl) (by kernel_rfl) (fun _ _ _ h => h) (Or.inl ⟨by rfl, ?hda20r4o10⟩) hS ?_
  case hda20r4o10 => (intro wx hx; skip; go_simp; (try with_reducible rfl))
  try simp only [Act.put, List.setIfInBounds_toArray, List.set_cons_zero, List.set_cons_succ]
  refine wpAnyH_take (i := 11) (oi := { dst := some 36, op := Op.extract (Operand.tmp 25) 1, type := 33, pos := "blocks.go:151", after := #[{ on := 9, ground := Ground.data }, { on := 12, ground := Ground.gcOnly Departure.lateStores }], guard := none }) (v := ?vda20r4o11) rfl (by kernel_rfl) (by kernel_rfl) (by kernel_rfl) (fun _ _ _ h => h) (Or.inl ⟨by rfl, ?hda20r4o11⟩) hS ?_
  case hda20r4o11 => (intro wx hx; skip; go_simp; (try with_reducible rfl))
  try simp only [Act.put, List.setIfInBounds_toArray, List.set_cons_zero, List.set_cons_succ]
  refine wpAnyH_take (i := 12) (oi := { dst := some 8, op := Op.assign (Operand.tmp 35), type := 36, pos := "blocks.go:151", after := #[{ on := 10, ground := Ground.data }, { on := 8, ground := Ground.chain }, { on := 0, ground := Ground.phase }, { on := 1, ground := Ground.phase }, { on := 2, ground := Ground.phase }, { on := 3, ground := Ground.phase }, { on := 4, ground := Ground.phase }, { on := 5, ground := Ground.phase }, { on := 6, ground := Ground.phase }, { on := 7, ground := Ground.phase }, { on := 8, ground := Ground.phase }, { on := 9, ground := Ground.phase }, { on := 10, ground := Ground.phase }, { on := 11, ground := Ground.textOnly Departure.lateStores }], guard := none }) (v := ?vda20r4o12) rfl (by kernel_rfl) (by kernel_rfl) (by kernel_rfl) (fun _ _ _ h => h) (Or.inl ⟨by rfl, ?hda20r4o12⟩) hS ?_
  case hda20r4o12 => (intro wx hx; skip; go_simp; (try with_reducible rfl))
  try simp only [Act.put, List.setIfInBounds_toArray, List.set_cons_zero, List.set_cons_succ]
  refine wpAnyH_take (i := 13) (oi := { dst := some 7, op := Op.assign (Operand.tmp 36), type := 33, pos := "blocks.go:151", after := #[{ on := 11, ground := Ground.data }, { on := 12, ground := Ground.chain }, { on := 0, ground := Ground.phase }, { on := 1, ground := Ground.phase }, { on := 2, ground := Ground.phase }, { on := 3, ground := Ground.phase }, { on := 4, ground := Ground.phase }, { on := 5, ground := Ground.phase }, { on := 6, ground := Ground.phase }, { on := 7, ground := Ground.phase }, { on := 8, ground := Ground.phase }, { on := 9, ground := Ground.phase }, { on := 10, ground := Ground.phase }, { on := 11, ground := Ground.phase }, { on := 12, ground := Ground.phase }], guard := none }) (v := ?vda20r4o13) rfl (by kernel_rfl) (by kernel_rfl) (by kernel_rfl) (fun _ _ _ h => h) (Or.inl ⟨by rfl, ?hda20r4o13⟩) hS ?_
  case hda20r4o13 => (intro wx hx; skip; go_simp; (try with_reducible rfl))
  try simp only [Act.put, List.setIfInBounds_toArray, List.set_cons_zero, List.set_cons_succ]
  refine wpAnyH_done (by kernel_rfl) ?_ _
  have hOA := Lib.hid hOA
  clear hS hS0 hOr HA hS1
  go_wp2_with fail
  refine (HV.out _ _ _ _ _ hOA.out).mono ?_
  rintro e w3 ⟨rfl, hO3⟩
  have HG := Lib.hid (HG1.out Y XI XB XA)
  have HB := Lib.hid (HB1.out Y XI XB XA)
  have hS3 := Lib.hid (HB.out _ [] (by rw [List.append_nil]; exact hO3)).drew
  have hOr := Lib.hid (show Grommet.Own w0 w3.drew ((Ps ++ alcPs Y g a b c XI XB XA).set kv (viewP g xs L1) ++ []) by rw [List.append_nil]; exact hO3.quiet (grown_drew (World.grownBy.refl _ _)))
  clear hOA HV hO3 HG1 HB1 HB0
  go_wp2_with fail
  refine wp_region_held_drew (S := fun w' => BM XM g a b c n w') (by kernel_rfl) (hS3.out) (fun hS => ?_)
  refine wpAnyH_take (i := 0) (oi := { dst := some 49, op := Op.move (Operand.tmp 0), type := 32, pos := "blocks.go:158", after := #[], guard := none }) (v := ?vdb20r10o0) rfl (by kernel_rfl) (by kernel_rfl) (by kernel_rfl) (fun _ _ _ h => h) (Or.inl ⟨by rfl, ?hdb20r10o0⟩) hS ?_
  case hdb20r10o0 => (intro wx hx; skip; go_simp; (try with_reducible rfl))
  try simp only [Act.put, List.setIfInBounds_toArray, List.set_cons_zero, List.set_cons_succ]
  refine wpAnyH_take (i := 1) (oi := { dst := some 50, op := Op.nilCheck (Operand.tmp 49), type := 0, pos := "blocks.go:158", after := #[{ on := 0, ground := Ground.data }], guard := none }) (v := ?vdb20r10o1) rfl (by kernel_rfl) (by kernel_rfl) (by kernel_rfl) (fun _ _ _ h => h) (Or.inl ⟨by rfl, ?hdb20r10o1⟩) hS ?_
  case hdb20r10o1 => (intro wx hx; skip; go_simp; (try with_reducible rfl))
  try simp only [Act.put, List.setIfInBounds_toArray, List.set_cons_zero, List.set_cons_succ]
  refine wpAnyH_take (i := 2) (oi := { dst := some 51, op := Op.fieldAddr 75 (Operand.tmp 50) 0, type := 0, pos := "blocks.go:158", after := #[{ on := 1, ground := Ground.data }], guard := none }) (v := ?vdb20r10o2) rfl (by kernel_rfl) (by kernel_rfl) (by kernel_rfl) (fun _ _ _ h => h) (Or.inl ⟨by rfl, ?hdb20r10o2⟩) hS ?_
  case hdb20r10o2 => (intro wx hx; skip; go_simp; (try with_reducible rfl))
  try simp only [Act.put, List.setIfInBounds_toArray, List.set_cons_zero, List.set_cons_succ]
  refine wpAnyH_take (i := 3) (oi := { dst := some 52, op := Op.load 30 (Operand.tmp 51), type := 30, pos := "blocks.go:158", after := #[{ on := 2, ground := Ground.data }], guard := none }) (v := ?vdb20r10o3) rfl (by kernel_rfl) (by kernel_rfl) (by kernel_rfl) (fun _ _ _ h => h) (Or.inl ⟨by rfl, ?hdb20r10o3⟩) hS ?_
  case hdb20r10o3 => (intro wx hx; obtain ⟨c0, c1, c2, c3, c4⟩ := BM.cells hx; go_simp; (try with_reducible rfl))
  try simp only [Act.put, List.setIfInBounds_toArray, List.set_cons_zero, List.set_cons_succ]
  refine wpAnyH_take (i := 4) (oi := { dst := some 53, op := Op.move (Operand.tmp 0), type := 32, pos := "blocks.go:158", after := #[], guard := none }) (v := ?vdb20r10o4) rfl (by kernel_rfl) (by kernel_rfl) (by kernel_rfl) (fun _ _ _ h => h) (Or.inl ⟨by rfl, ?hdb20r10o4⟩) hS ?_
  case hdb20r10o4 => (intro wx hx; skip; go_simp; (try with_reducible rfl))
  try simp only [Act.put, List.setIfInBounds_toArray, List.set_cons_zero, List.set_cons_succ]
  refine wpAnyH_take (i := 5) (oi := { dst := some 54, op := Op.nilCheck (Operand.tmp 53), type := 0, pos := "blocks.go:158", after := #[{ on := 4, ground := Ground.data }], guard := none }) (v := ?vdb20r10o5) rfl (by kernel_rfl) (by kernel_rfl) (by kernel_rfl) (fun _ _ _ h => h) (Or.inl ⟨by rfl, ?hdb20r10o5⟩) hS ?_
  case hdb20r10o5 => (intro wx hx; skip; go_simp; (try with_reducible rfl))
  try simp only [Act.put, List.setIfInBounds_toArray, List.set_cons_zero, List.set_cons_succ]
  refine wpAnyH_take (i := 6) (oi := { dst := some 55, op := Op.fieldAddr 75 (Operand.tmp 54) 1, type := 0, pos := "blocks.go:158", after := #[{ on := 5, ground := Ground.data }], guard := none }) (v := ?vdb20r10o6) rfl (by kernel_rfl) (by kernel_rfl) (by kernel_rfl) (fun _ _ _ h => h) (Or.inl ⟨by rfl, ?hdb20r10o6⟩) hS ?_
  case hdb20r10o6 => (intro wx hx; skip; go_simp; (try with_reducible rfl))
  try simp only [Act.put, List.setIfInBounds_toArray, List.set_cons_zero, List.set_cons_succ]
  refine wpAnyH_take (i := 7) (oi := { dst := some 56, op := Op.load 25 (Operand.tmp 55), type := 25, pos := "blocks.go:158", after := #[{ on := 6, ground := Ground.data }], guard := none }) (v := ?vdb20r10o7) rfl (by kernel_rfl) (by kernel_rfl) (by kernel_rfl) (fun _ _ _ h => h) (Or.inl ⟨by rfl, ?hdb20r10o7⟩) hS ?_
  case hdb20r10o7 => (intro wx hx; obtain ⟨c0, c1, c2, c3, c4⟩ := BM.cells hx; go_simp; (try with_reducible rfl))
  try simp only [Act.put, List.setIfInBounds_toArray, List.set_cons_zero, List.set_cons_succ]
  refine wpAnyH_take (i := 8) (oi := { dst := some 57, op := Op.move (Operand.tmp 0), type := 32, pos := "blocks.go:158", after := #[], guard := none }) (v := ?vdb20r10o8) rfl (by kernel_rfl) (by kernel_rfl) (by kernel_rfl) (fun _ _ _ h => h) (Or.inl ⟨by rfl, ?hdb20r10o8⟩) hS ?_
  case hdb20r10o8 => (intro wx hx; skip; go_simp; (try with_reducible rfl))
  try simp only [Act.put, List.setIfInBounds_toArray, List.set_cons_zero, List.set_cons_succ]
  refine wpAnyH_take (i := 9) (oi := { dst := some 58, op := Op.nilCheck (Operand.tmp 57), type := 0, pos := "blocks.go:158", after := #[{ on := 8, ground := Ground.data }], guard := none }) (v := ?vdb20r10o9) rfl (by kernel_rfl) (by kernel_rfl) (by kernel_rfl) (fun _ _ _ h => h) (Or.inl ⟨by rfl, ?hdb20r10o9⟩) hS ?_
  case hdb20r10o9 => (intro wx hx; skip; go_simp; (try with_reducible rfl))
  try simp only [Act.put, List.setIfInBounds_toArray, List.set_cons_zero, List.set_cons_succ]
  refine wpAnyH_take (i := 10) (oi := { dst := some 59, op := Op.fieldAddr 75 (Operand.tmp 58) 2, type := 0, pos := "blocks.go:158", after := #[{ on := 9, ground := Ground.data }], guard := none }) (v := ?vdb20r10o10) rfl (by kernel_rfl) (by kernel_rfl) (by kernel_rfl) (fun _ _ _ h => h) (Or.inl ⟨by rfl, ?hdb20r10o10⟩) hS ?_
  case hdb20r10o10 => (intro wx hx; skip; go_simp; (try with_reducible rfl))
  try simp only [Act.put, List.setIfInBounds_toArray, List.set_cons_zero, List.set_cons_succ]
  refine wpAnyH_take (i := 11) (oi := { dst := some 60, op := Op.load 3 (Operand.tmp 59), type := 3, pos := "blocks.go:158", after := #[{ on := 10, ground := Ground.data }], guard := none }) (v := ?vdb20r10o11) rfl (by kernel_rfl) (by kernel_rfl) (by kernel_rfl) (fun _ _ _ h => h) (Or.inl ⟨by rfl, ?hdb20r10o11⟩) hS ?_
  case hdb20r10o11 => (intro wx hx; obtain ⟨c0, c1, c2, c3, c4⟩ := BM.cells hx; go_simp; (try with_reducible rfl))
  try simp only [Act.put, List.setIfInBounds_toArray, List.set_cons_zero, List.set_cons_succ]
  refine wpAnyH_ready (rs := [12, 16]) (by kernel_rfl) (by simp) ?_
  refine AllReadyH.cons (o := { dst := some 61, op := Op.call { callee := Callee.value (Operand.func 33), args := #[Operand.tmp 52, Operand.tmp 56, Operand.tmp 60], argTypes := #[30, 25, 3] }, type := 72, pos := "blocks.go:158", after := #[{ on := 3, ground := Ground.data }, { on := 7, ground := Ground.data }, { on := 11, ground := Ground.data }], guard := none }) rfl (fun K hK => ?_) ?_
  ·
    go_simp
    refine (HG.out _ _ hOr.out).mono ?_
    rintro e wB ⟨rfl, hOB⟩
    have hS1 : BM XM g a b c n _ := HB.out _ _ hOB
    clear hOr
    have hOr := Lib.hid hOB
    clear hOB
    refine hK.out _ _ ?hsdbx120r10o12 (fun hS => ?_)
    case hsdbx120r10o12 => (exact hS1)
    clear hK K
    try simp only [Act.put, List.setIfInBounds_toArray, List.set_cons_zero, List.set_cons_succ]
    refine wpAnyH_take (i := 13) (oi := { dst := some 48, op := Op.move (Operand.tmp 61), type := 72, pos := "blocks.go:158", after := #[{ on := 12, ground := Ground.data }], guard := none }) (v := ?vdbx120r10o13) rfl (by kernel_rfl) (by kernel_rfl) (by kernel_rfl) (fun _ _ _ h => h) (Or.inl ⟨by rfl, ?hdbx120r10o13⟩) hS ?_
    case hdbx120r10o13 => (intro wx hx; skip; go_simp; (try with_reducible rfl))
    try simp only [Act.put, List.setIfInBounds_toArray, List.set_cons_zero, List.set_cons_succ]
    refine wpAnyH_take (i := 14) (oi := { dst := some 62, op := Op.extract (Operand.tmp 48) 0, type := 71, pos := "blocks.go:158", after := #[{ on := 13, ground := Ground.data }], guard := none }) (v := ?vdbx120r10o14) rfl (by kernel_rfl) (by kernel_rfl) (by kernel_rfl) (fun _ _ _ h => h) (Or.inl ⟨by rfl, ?hdbx120r10o14⟩) hS ?_
    case hdbx120r10o14 => (intro wx hx; skip; go_simp; (try with_reducible rfl))
    try simp only [Act.put, List.setIfInBounds_toArray, List.set_cons_zero, List.set_cons_succ]
    refine wpAnyH_take (i := 15) (oi := { dst := some 63, op := Op.extract (Operand.tmp 48) 1, type := 33, pos := "blocks.go:158", after := #[{ on := 13, ground := Ground.data }, { on := 17, ground := Ground.gcOnly Departure.lateStores }], guard := none }) (v := ?vdbx120r10o15) rfl (by kernel_rfl) (by kernel_rfl) (by kernel_rfl) (fun _ _ _ h => h) (Or.inl ⟨by rfl, ?hdbx120r10o15⟩) hS ?_
    case hdbx120r10o15 => (intro wx hx; skip; go_simp; (try with_reducible rfl))
    try simp only [Act.put, List.setIfInBounds_toArray, List.set_cons_zero, List.set_cons_succ]
    refine wpAnyH_ready (rs := [16]) (by kernel_rfl) (by simp) ?_
    refine AllReadyH.cons (o := { dst := some 10, op := Op.alloc 71, type := 0, pos := "blocks.go:158", after := #[], guard := none }) rfl (fun K hK => ?_) AllReadyH.nil
    go_simp
    have hS1 : BM XM g a b c n _ := hS.grown (World.grownBy_alloc _ (.cells #[.int .u64 0, .int .u64 0, .int .u64 0, .int .u64 0, .int .u64 0, .int .u64 0, .int .u64 0, .int .u64 0, .int .u64 0, .int .u64 0] 71) none)
    have hOn := hOr.out.addBox 71 #[.int .u64 0, .int .u64 0, .int .u64 0, .int .u64 0, .int .u64 0, .int .u64 0, .int .u64 0, .int .u64 0, .int .u64 0, .int .u64 0]
    rw [List.append_assoc, List.nil_append] at hOn
    clear hOr
    first | (obtain ⟨N, hN⟩ : ∃ N, wB.heap.size = N := ⟨_, rfl⟩; obtain ⟨wz, hwz⟩ : ∃ wz, wB.alloc (.cells #[.int .u64 0, .int .u64 0, .int .u64 0, .int .u64 0, .int .u64 0, .int .u64 0, .int .u64 0, .int .u64 0, .int .u64 0, .int .u64 0] 71) = wz := ⟨_, rfl⟩; rw [hN, hwz] at hOn; rw [hwz] at hS1; (try rw [hwz]); (first | rw [hN] | rw [show w3.heap.size = N from hN])) | (obtain ⟨N, hN⟩ : ∃ N, w3.heap.size = N := ⟨_, rfl⟩; obtain ⟨wz, hwz⟩ : ∃ wz, (w3.alloc (.cells #[.int .u64 0, .int .u64 0, .int .u64 0, .int .u64 0, .int .u64 0, .int .u64 0, .int .u64 0, .int .u64 0, .int .u64 0, .int .u64 0] 71)).drew = wz := ⟨_, rfl⟩; rw [show w3.drew.alloc (.cells #[.int .u64 0, .int .u64 0, .int .u64 0, .int .u64 0, .int .u64 0, .int .u64 0, .int .u64 0, .int .u64 0, .int .u64 0, .int .u64 0] 71) = wz from hwz] at hOn hS1; rw [show w3.drew.heap.size = N from hN] at hOn; rw [hwz, hN])
    have hOr := Lib.hid hOn
    clear hOn hwz hN
    refine hK.out _ _ ?hsdbx120r10o16 (fun hS => ?_)
    case hsdbx120r10o16 => (exact hS1)
    clear hK K
    try simp only [Act.put, List.setIfInBounds_toArray, List.set_cons_zero, List.set_cons_succ]
    refine wpAnyH_ready (rs := [17]) (by kernel_rfl) (by simp) ?_
    refine AllReadyH.cons (o := { dst := none, op := Op.store 71 (Operand.tmp 10) (Operand.tmp 62), type := 0, pos := "blocks.go:158", after := #[{ on := 16, ground := Ground.data }, { on := 14, ground := Ground.data }, { on := 12, ground := Ground.chain }, { on := 0, ground := Ground.phase }, { on := 1, ground := Ground.phase }, { on := 2, ground := Ground.phase }, { on := 3, ground := Ground.phase }, { on := 4, ground := Ground.phase }, { on := 5, ground := Ground.phase }, { on := 6, ground := Ground.phase }, { on := 7, ground := Ground.phase }, { on := 8, ground := Ground.phase }, { on := 9, ground := Ground.phase }, { on := 10, ground := Ground.phase }, { on := 11, ground := Ground.phase }, { on := 12, ground := Ground.phase }, { on := 13, ground := Ground.phase }, { on := 14, ground := Ground.phase }, { on := 15, ground := Ground.textOnly Departure.lateStores }, { on := 16, ground := Ground.phase }], guard := none }) rfl (fun K hK => ?_) AllReadyH.nil
    obtain ⟨⟨z0, z1, z2, z3, z4, z5, z6, z7, z8, z9⟩, q0, q1, q2, q3, q4, q5, q6, q7, q8, q9⟩ := node_zero hOr.out
    go_simp
    obtain ⟨wn, hwn, hOx⟩ := node_stored f0 f1 f2 f3 f4 f5 f6 f7 f8 f9 hOr.out
    rw [hwn]
    have hOn := Lib.hid hOx
    clear hwn hOx
    refine hK.out _ _ ?hs17 (fun hS => ?_)
    case hs17 => exact HB.out _ _ hOn.out
    clear hK K hOr z0 z1 z2 z3 z4 z5 z6 z7 z8 z9 q0 q1 q2 q3 q4 q5 q6 q7 q8 q9
    have hOr := Lib.hid hOn.out
    clear hOn
    try simp only [Act.put, List.setIfInBounds_toArray, List.set_cons_zero, List.set_cons_succ]
    refine wpAnyH_take (i := 18) (oi := { dst := some 7, op := Op.assign (Operand.tmp 63), type := 33, pos := "blocks.go:158", after := #[{ on := 15, ground := Ground.data }, { on := 17, ground := Ground.chain }, { on := 0, ground := Ground.phase }, { on := 1, ground := Ground.phase }, { on := 2, ground := Ground.phase }, { on := 3, ground := Ground.phase }, { on := 4, ground := Ground.phase }, { on := 5, ground := Ground.phase }, { on := 6, ground := Ground.phase }, { on := 7, ground := Ground.phase }, { on := 8, ground := Ground.phase }, { on := 9, ground := Ground.phase }, { on := 10, ground := Ground.phase }, { on := 11, ground := Ground.phase }, { on := 12, ground := Ground.phase }, { on := 13, ground := Ground.phase }, { on := 14, ground := Ground.phase }, { on := 15, ground := Ground.phase }, { on := 16, ground := Ground.phase }, { on := 17, ground := Ground.phase }], guard := none }) (v := ?vdbx120r10o18) rfl (by kernel_rfl) (by kernel_rfl) (by kernel_rfl) (fun _ _ _ h => h) (Or.inl ⟨by rfl, ?hdbx120r10o18⟩) hS ?_
    case hdbx120r10o18 => (intro wx hx; skip; go_simp; (try with_reducible rfl))
    try simp only [Act.put, List.setIfInBounds_toArray, List.set_cons_zero, List.set_cons_succ]
    refine wpAnyH_done (by kernel_rfl) ?_ _
    obtain ⟨z0, z1, z2, z3, z4, z5, z6, z7, z8, z9⟩ := node_have hOr.out
    go_wp2_with fail
    refine (HR1.out Y XI XB XA _ _ hOr.out).mono ?_
    rintro e w5 ⟨rfl, hO5⟩
    clear hOr hS z0 z1 z2 z3 z4 z5 z6 z7 z8 z9
    have hOr := Lib.hid hO5
    clear hO5
    have hS8 := Lib.hid (show BM XM g a b c n w5.drew ∧ NodeAt N f0 f1 f2 f3 f4 f5 f6 f7 f8 f9 w5.drew from ⟨(HB.out _ _ hOr.out).drew, (HN2.out _ _ _ _ _ _ hOr.out).keep (grown_drew (World.grownBy.refl _ _))⟩)
    have hOn := Lib.hid (hOr.out.quiet (grown_drew (World.grownBy.refl w5 none)))
    clear hOr
    have hOr := hOn
    clear hOn
    go_wp2_with fail
    refine wp_region_held_drew (S := fun w' => BM XM g a b c n w' ∧ NodeAt N f0 f1 f2 f3 f4 f5 f6 f7 f8 f9 w') (by kernel_rfl) (hS8.out) (fun hS => ?_)
    refine wpAnyH_take (i := 0) (oi := { dst := some 78, op := Op.move (Operand.tmp 0), type := 32, pos := "blocks.go:162", after := #[], guard := none }) (v := ?vdgl220r13o0) rfl (by kernel_rfl) (by kernel_rfl) (by kernel_rfl) (fun _ _ _ h => h) (Or.inl ⟨by rfl, ?hdgl220r13o0⟩) hS ?_
    case hdgl220r13o0 => (intro wx hx; skip; go_simp; (try with_reducible rfl))
    try simp only [Act.put, List.setIfInBounds_toArray, List.set_cons_zero, List.set_cons_succ]
    refine wpAnyH_take (i := 1) (oi := { dst := some 79, op := Op.move (Operand.tmp 8), type := 36, pos := "blocks.go:162", after := #[], guard := none }) (v := ?vdgl220r13o1) rfl (by kernel_rfl) (by kernel_rfl) (by kernel_rfl) (fun _ _ _ h => h) (Or.inl ⟨by rfl, ?hdgl220r13o1⟩) hS ?_
    case hdgl220r13o1 => (intro wx hx; skip; go_simp; (try with_reducible rfl))
    try simp only [Act.put, List.setIfInBounds_toArray, List.set_cons_zero, List.set_cons_succ]
    refine wpAnyH_take (i := 2) (oi := { dst := some 80, op := Op.move (Operand.tmp 0), type := 32, pos := "blocks.go:162", after := #[], guard := none }) (v := ?vdgl220r13o2) rfl (by kernel_rfl) (by kernel_rfl) (by kernel_rfl) (fun _ _ _ h => h) (Or.inl ⟨by rfl, ?hdgl220r13o2⟩) hS ?_
    case hdgl220r13o2 => (intro wx hx; skip; go_simp; (try with_reducible rfl))
    try simp only [Act.put, List.setIfInBounds_toArray, List.set_cons_zero, List.set_cons_succ]
    refine wpAnyH_take (i := 4) (oi := { dst := some 82, op := Op.fieldAddr 71 (Operand.tmp 10) 5, type := 0, pos := "blocks.go:162", after := #[], guard := none }) (v := ?vdgl220r13o4) rfl (by kernel_rfl) (by kernel_rfl) (by kernel_rfl) (fun _ _ _ h => h) (Or.inl ⟨by rfl, ?hdgl220r13o4⟩) hS ?_
    case hdgl220r13o4 => (intro wx hx; skip; go_simp; (try with_reducible rfl))
    try simp only [Act.put, List.setIfInBounds_toArray, List.set_cons_zero, List.set_cons_succ]
    refine wpAnyH_take (i := 5) (oi := { dst := some 83, op := Op.load 47 (Operand.tmp 82), type := 47, pos := "blocks.go:162", after := #[{ on := 4, ground := Ground.data }], guard := none }) (v := ?vdgl220r13o5) rfl (by kernel_rfl) (by kernel_rfl) (by kernel_rfl) (fun _ _ _ h => h) (Or.inl ⟨by rfl, ?hdgl220r13o5⟩) hS ?_
    case hdgl220r13o5 => (intro wx hx; have c5 := NodeAt.chain hx.2; go_simp; (try with_reducible rfl))
    try simp only [Act.put, List.setIfInBounds_toArray, List.set_cons_zero, List.set_cons_succ]
    refine wpAnyH_take (i := 6) (oi := { dst := some 84, op := Op.convert 47 3 (Operand.tmp 83), type := 3, pos := "blocks.go:162", after := #[{ on := 5, ground := Ground.data }], guard := none }) (v := ?vdgl220r13o6) rfl (by kernel_rfl) (by kernel_rfl) (by kernel_rfl) (fun _ _ _ h => h) (Or.inl ⟨by rfl, ?hdgl220r13o6⟩) hS ?_
    case hdgl220r13o6 => (intro wx hx; have c5 := NodeAt.chain hx.2; go_simp; (try with_reducible rfl))
    try simp only [Act.put, List.setIfInBounds_toArray, List.set_cons_zero, List.set_cons_succ]
    refine wpAnyH_ready (rs := [3]) (by kernel_rfl) (by simp) ?_
    refine AllReadyH.cons (o := { dst := some 81, op := Op.call { callee := Callee.value (Operand.func 42), args := #[Operand.tmp 80, Operand.const (Value.int IntKind.i64 8)], argTypes := #[32, 3] }, type := 3, pos := "blocks.go:162", after := #[{ on := 2, ground := Ground.data }], guard := none }) rfl (fun K hK => ?_) AllReadyH.nil
    go_simp
    refine (HW.out _ hS.1).mono ?_
    rintro e wO ⟨rfl, hgO⟩
    have hS1 : BM XM g a b c n wO ∧ NodeAt N f0 f1 f2 f3 f4 f5 f6 f7 f8 f9 wO := ⟨hS.1.grown hgO, hS.2.keep hgO⟩
    have hOn := Lib.hid (hOr.out.quiet hgO)
    clear hOr hgO
    have hOr := hOn
    clear hOn
    refine hK.out _ _ ?hsdgl220r13o3 (fun hS => ?_)
    case hsdgl220r13o3 => (exact hS1)
    clear hK K
    try simp only [Act.put, List.setIfInBounds_toArray, List.set_cons_zero, List.set_cons_succ]
    refine wpAnyH_ready (rs := [7]) (by kernel_rfl) (by simp) ?_
    refine AllReadyH.cons (o := { dst := some 85, op := Op.call { callee := Callee.value (Operand.func 47), args := #[Operand.tmp 78, Operand.tmp 79, Operand.tmp 81, Operand.tmp 84], argTypes := #[32, 36, 3, 3] }, type := 33, pos := "blocks.go:162", after := #[{ on := 0, ground := Ground.data }, { on := 1, ground := Ground.data }, { on := 3, ground := Ground.data }, { on := 6, ground := Ground.data }, { on := 3, ground := Ground.chain }], guard := none }) rfl (fun K hK => ?_) AllReadyH.nil
    go_simp
    refine (HV2.out _ _ _ _ _ _ hOr.out).mono ?_
    rintro e wG ⟨rfl, hOG⟩
    have hS1 := HS2.out _ _ _ _ _ _ hOG
    refine hK.out _ _ ?hsdgl220r13o7 (fun hS => ?_)
    case hsdgl220r13o7 => (exact hS1)
    clear hK K
    try simp only [Act.put, List.setIfInBounds_toArray, List.set_cons_zero, List.set_cons_succ]
    refine wpAnyH_take (i := 8) (oi := { dst := some 4, op := Op.assign (Operand.tmp 85), type := 33, pos := "blocks.go:162", after := #[{ on := 7, ground := Ground.data }, { on := 7, ground := Ground.chain }, { on := 0, ground := Ground.phase }, { on := 1, ground := Ground.phase }, { on := 2, ground := Ground.phase }, { on := 3, ground := Ground.phase }, { on := 4, ground := Ground.phase }, { on := 5, ground := Ground.phase }, { on := 6, ground := Ground.phase }, { on := 7, ground := Ground.phase }], guard := none }) (v := ?vdgl220r13o8) rfl (by kernel_rfl) (by kernel_rfl) (by kernel_rfl) (fun _ _ _ h => h) (Or.inl ⟨by rfl, ?hdgl220r13o8⟩) hS ?_
    case hdgl220r13o8 => (intro wx hx; skip; go_simp; (try with_reducible rfl))
    try simp only [Act.put, List.setIfInBounds_toArray, List.set_cons_zero, List.set_cons_succ]
    refine wpAnyH_done (by kernel_rfl) ?_ _
    have hOE := Lib.hid (HQ2.out _ _ _ _ _ _ hOG)
    clear hOG hOr hS8
    go_wp2
    go_ret
    exact ⟨rfl, hOE.out⟩
  refine AllReadyH.cons (o := { dst := some 10, op := Op.alloc 71, type := 0, pos := "blocks.go:158", after := #[], guard := none }) rfl (fun K hK => ?_) ?_
  ·
    go_simp
    have hS1 : BM XM g a b c n _ := hS.grown (World.grownBy_alloc _ (.cells #[.int .u64 0, .int .u64 0, .int .u64 0, .int .u64 0, .int .u64 0, .int .u64 0, .int .u64 0, .int .u64 0, .int .u64 0, .int .u64 0] 71) none)
    have hOn := hOr.out.addBox 71 #[.int .u64 0, .int .u64 0, .int .u64 0, .int .u64 0, .int .u64 0, .int .u64 0, .int .u64 0, .int .u64 0, .int .u64 0, .int .u64 0]
    rw [List.append_assoc, List.nil_append] at hOn
    clear hOr
    first | (obtain ⟨N, hN⟩ : ∃ N, wB.heap.size = N := ⟨_, rfl⟩; obtain ⟨wz, hwz⟩ : ∃ wz, wB.alloc (.cells #[.int .u64 0, .int .u64 0, .int .u64 0, .int .u64 0, .int .u64 0, .int .u64 0, .int .u64 0, .int .u64 0, .int .u64 0, .int .u64 0] 71) = wz := ⟨_, rfl⟩; rw [hN, hwz] at hOn; rw [hwz] at hS1; (try rw [hwz]); (first | rw [hN] | rw [show w3.heap.size = N from hN])) | (obtain ⟨N, hN⟩ : ∃ N, w3.heap.size = N := ⟨_, rfl⟩; obtain ⟨wz, hwz⟩ : ∃ wz, (w3.alloc (.cells #[.int .u64 0, .int .u64 0, .int .u64 0, .int .u64 0, .int .u64 0, .int .u64 0, .int .u64 0, .int .u64 0, .int .u64 0, .int .u64 0] 71)).drew = wz := ⟨_, rfl⟩; rw [show w3.drew.alloc (.cells #[.int .u64 0, .int .u64 0, .int .u64 0, .int .u64 0, .int .u64 0, .int .u64 0, .int .u64 0, .int .u64 0, .int .u64 0, .int .u64 0] 71) = wz from hwz] at hOn hS1; rw [show w3.drew.heap.size = N from hN] at hOn; rw [hwz, hN])
    have hOr := Lib.hid hOn
    clear hOn hwz hN
    refine hK.out _ _ ?hsdbx320r10o16 (fun hS => ?_)
    case hsdbx320r10o16 => (exact hS1)
    clear hK K
    try simp only [Act.put, List.setIfInBounds_toArray, List.set_cons_zero, List.set_cons_succ]
    refine wpAnyH_ready (rs := [12]) (by kernel_rfl) (by simp) ?_
    refine AllReadyH.cons (o := { dst := some 61, op := Op.call { callee := Callee.value (Operand.func 33), args := #[Operand.tmp 52, Operand.tmp 56, Operand.tmp 60], argTypes := #[30, 25, 3] }, type := 72, pos := "blocks.go:158", after := #[{ on := 3, ground := Ground.data }, { on := 7, ground := Ground.data }, { on := 11, ground := Ground.data }], guard := none }) rfl (fun K hK => ?_) AllReadyH.nil
    go_simp
    refine (HG.out _ _ hOr.out).mono ?_
    rintro e wB ⟨rfl, hOB⟩
    have hS1 : BM XM g a b c n _ := HB.out _ _ hOB
    clear hOr
    have hOr := Lib.hid hOB
    clear hOB
    refine hK.out _ _ ?hsdbx320r10o12 (fun hS => ?_)
    case hsdbx320r10o12 => (exact hS1)
    clear hK K
    try simp only [Act.put, List.setIfInBounds_toArray, List.set_cons_zero, List.set_cons_succ]
    refine wpAnyH_take (i := 13) (oi := { dst := some 48, op := Op.move (Operand.tmp 61), type := 72, pos := "blocks.go:158", after := #[{ on := 12, ground := Ground.data }], guard := none }) (v := ?vdbx320r10o13) rfl (by kernel_rfl) (by kernel_rfl) (by kernel_rfl) (fun _ _ _ h => h) (Or.inl ⟨by rfl, ?hdbx320r10o13⟩) hS ?_
    case hdbx320r10o13 => (intro wx hx; skip; go_simp; (try with_reducible rfl))
    try simp only [Act.put, List.setIfInBounds_toArray, List.set_cons_zero, List.set_cons_succ]
    refine wpAnyH_take (i := 14) (oi := { dst := some 62, op := Op.extract (Operand.tmp 48) 0, type := 71, pos := "blocks.go:158", after := #[{ on := 13, ground := Ground.data }], guard := none }) (v := ?vdbx320r10o14) rfl (by kernel_rfl) (by kernel_rfl) (by kernel_rfl) (fun _ _ _ h => h) (Or.inl ⟨by rfl, ?hdbx320r10o14⟩) hS ?_
    case hdbx320r10o14 => (intro wx hx; skip; go_simp; (try with_reducible rfl))
    try simp only [Act.put, List.setIfInBounds_toArray, List.set_cons_zero, List.set_cons_succ]
    refine wpAnyH_take (i := 15) (oi := { dst := some 63, op := Op.extract (Operand.tmp 48) 1, type := 33, pos := "blocks.go:158", after := #[{ on := 13, ground := Ground.data }, { on := 17, ground := Ground.gcOnly Departure.lateStores }], guard := none }) (v := ?vdbx320r10o15) rfl (by kernel_rfl) (by kernel_rfl) (by kernel_rfl) (fun _ _ _ h => h) (Or.inl ⟨by rfl, ?hdbx320r10o15⟩) hS ?_
    case hdbx320r10o15 => (intro wx hx; skip; go_simp; (try with_reducible rfl))
    try simp only [Act.put, List.setIfInBounds_toArray, List.set_cons_zero, List.set_cons_succ]
    refine wpAnyH_ready (rs := [17]) (by kernel_rfl) (by simp) ?_
    refine AllReadyH.cons (o := { dst := none, op := Op.store 71 (Operand.tmp 10) (Operand.tmp 62), type := 0, pos := "blocks.go:158", after := #[{ on := 16, ground := Ground.data }, { on := 14, ground := Ground.data }, { on := 12, ground := Ground.chain }, { on := 0, ground := Ground.phase }, { on := 1, ground := Ground.phase }, { on := 2, ground := Ground.phase }, { on := 3, ground := Ground.phase }, { on := 4, ground := Ground.phase }, { on := 5, ground := Ground.phase }, { on := 6, ground := Ground.phase }, { on := 7, ground := Ground.phase }, { on := 8, ground := Ground.phase }, { on := 9, ground := Ground.phase }, { on := 10, ground := Ground.phase }, { on := 11, ground := Ground.phase }, { on := 12, ground := Ground.phase }, { on := 13, ground := Ground.phase }, { on := 14, ground := Ground.phase }, { on := 15, ground := Ground.textOnly Departure.lateStores }, { on := 16, ground := Ground.phase }], guard := none }) rfl (fun K hK => ?_) AllReadyH.nil
    obtain ⟨⟨z0, z1, z2, z3, z4, z5, z6, z7, z8, z9⟩, q0, q1, q2, q3, q4, q5, q6, q7, q8, q9⟩ := node_zero hOr.out
    go_simp
    obtain ⟨wn, hwn, hOx⟩ := node_stored f0 f1 f2 f3 f4 f5 f6 f7 f8 f9 hOr.out
    rw [hwn]
    have hOn := Lib.hid hOx
    clear hwn hOx
    refine hK.out _ _ ?hs17 (fun hS => ?_)
    case hs17 => exact HB.out _ _ hOn.out
    clear hK K hOr z0 z1 z2 z3 z4 z5 z6 z7 z8 z9 q0 q1 q2 q3 q4 q5 q6 q7 q8 q9
    have hOr := Lib.hid hOn.out
    clear hOn
    try simp only [Act.put, List.setIfInBounds_toArray, List.set_cons_zero, List.set_cons_succ]
    refine wpAnyH_take (i := 18) (oi := { dst := some 7, op := Op.assign (Operand.tmp 63), type := 33, pos := "blocks.go:158", after := #[{ on := 15, ground := Ground.data }, { on := 17, ground := Ground.chain }, { on := 0, ground := Ground.phase }, { on := 1, ground := Ground.phase }, { on := 2, ground := Ground.phase }, { on := 3, ground := Ground.phase }, { on := 4, ground := Ground.phase }, { on := 5, ground := Ground.phase }, { on := 6, ground := Ground.phase }, { on := 7, ground := Ground.phase }, { on := 8, ground := Ground.phase }, { on := 9, ground := Ground.phase }, { on := 10, ground := Ground.phase }, { on := 11, ground := Ground.phase }, { on := 12, ground := Ground.phase }, { on := 13, ground := Ground.phase }, { on := 14, ground := Ground.phase }, { on := 15, ground := Ground.phase }, { on := 16, ground := Ground.phase }, { on := 17, ground := Ground.phase }], guard := none }) (v := ?vdbx320r10o18) rfl (by kernel_rfl) (by kernel_rfl) (by kernel_rfl) (fun _ _ _ h => h) (Or.inl ⟨by rfl, ?hdbx320r10o18⟩) hS ?_
    case hdbx320r10o18 => (intro wx hx; skip; go_simp; (try with_reducible rfl))
    try simp only [Act.put, List.setIfInBounds_toArray, List.set_cons_zero, List.set_cons_succ]
    refine wpAnyH_done (by kernel_rfl) ?_ _
    obtain ⟨z0, z1, z2, z3, z4, z5, z6, z7, z8, z9⟩ := node_have hOr.out
    go_wp2_with fail
    refine (HR1.out Y XI XB XA _ _ hOr.out).mono ?_
    rintro e w5 ⟨rfl, hO5⟩
    clear hOr hS z0 z1 z2 z3 z4 z5 z6 z7 z8 z9
    have hOr := Lib.hid hO5
    clear hO5
    have hS8 := Lib.hid (show BM XM g a b c n w5.drew ∧ NodeAt N f0 f1 f2 f3 f4 f5 f6 f7 f8 f9 w5.drew from ⟨(HB.out _ _ hOr.out).drew, (HN2.out _ _ _ _ _ _ hOr.out).keep (grown_drew (World.grownBy.refl _ _))⟩)
    have hOn := Lib.hid (hOr.out.quiet (grown_drew (World.grownBy.refl w5 none)))
    clear hOr
    have hOr := hOn
    clear hOn
    go_wp2_with fail
    refine wp_region_held_drew (S := fun w' => BM XM g a b c n w' ∧ NodeAt N f0 f1 f2 f3 f4 f5 f6 f7 f8 f9 w') (by kernel_rfl) (hS8.out) (fun hS => ?_)
    refine wpAnyH_take (i := 0) (oi := { dst := some 78, op := Op.move (Operand.tmp 0), type := 32, pos := "blocks.go:162", after := #[], guard := none }) (v := ?vdgl420r13o0) rfl (by kernel_rfl) (by kernel_rfl) (by kernel_rfl) (fun _ _ _ h => h) (Or.inl ⟨by rfl, ?hdgl420r13o0⟩) hS ?_
    case hdgl420r13o0 => (intro wx hx; skip; go_simp; (try with_reducible rfl))
    try simp only [Act.put, List.setIfInBounds_toArray, List.set_cons_zero, List.set_cons_succ]
    refine wpAnyH_take (i := 1) (oi := { dst := some 79, op := Op.move (Operand.tmp 8), type := 36, pos := "blocks.go:162", after := #[], guard := none }) (v := ?vdgl420r13o1) rfl (by kernel_rfl) (by kernel_rfl) (by kernel_rfl) (fun _ _ _ h => h) (Or.inl ⟨by rfl, ?hdgl420r13o1⟩) hS ?_
    case hdgl420r13o1 => (intro wx hx; skip; go_simp; (try with_reducible rfl))
    try simp only [Act.put, List.setIfInBounds_toArray, List.set_cons_zero, List.set_cons_succ]
    refine wpAnyH_take (i := 2) (oi := { dst := some 80, op := Op.move (Operand.tmp 0), type := 32, pos := "blocks.go:162", after := #[], guard := none }) (v := ?vdgl420r13o2) rfl (by kernel_rfl) (by kernel_rfl) (by kernel_rfl) (fun _ _ _ h => h) (Or.inl ⟨by rfl, ?hdgl420r13o2⟩) hS ?_
    case hdgl420r13o2 => (intro wx hx; skip; go_simp; (try with_reducible rfl))
    try simp only [Act.put, List.setIfInBounds_toArray, List.set_cons_zero, List.set_cons_succ]
    refine wpAnyH_take (i := 4) (oi := { dst := some 82, op := Op.fieldAddr 71 (Operand.tmp 10) 5, type := 0, pos := "blocks.go:162", after := #[], guard := none }) (v := ?vdgl420r13o4) rfl (by kernel_rfl) (by kernel_rfl) (by kernel_rfl) (fun _ _ _ h => h) (Or.inl ⟨by rfl, ?hdgl420r13o4⟩) hS ?_
    case hdgl420r13o4 => (intro wx hx; skip; go_simp; (try with_reducible rfl))
    try simp only [Act.put, List.setIfInBounds_toArray, List.set_cons_zero, List.set_cons_succ]
    refine wpAnyH_take (i := 5) (oi := { dst := some 83, op := Op.load 47 (Operand.tmp 82), type := 47, pos := "blocks.go:162", after := #[{ on := 4, ground := Ground.data }], guard := none }) (v := ?vdgl420r13o5) rfl (by kernel_rfl) (by kernel_rfl) (by kernel_rfl) (fun _ _ _ h => h) (Or.inl ⟨by rfl, ?hdgl420r13o5⟩) hS ?_
    case hdgl420r13o5 => (intro wx hx; have c5 := NodeAt.chain hx.2; go_simp; (try with_reducible rfl))
    try simp only [Act.put, List.setIfInBounds_toArray, List.set_cons_zero, List.set_cons_succ]
    refine wpAnyH_take (i := 6) (oi := { dst := some 84, op := Op.convert 47 3 (Operand.tmp 83), type := 3, pos := "blocks.go:162", after := #[{ on := 5, ground := Ground.data }], guard := none }) (v := ?vdgl420r13o6) rfl (by kernel_rfl) (by kernel_rfl) (by kernel_rfl) (fun _ _ _ h => h) (Or.inl ⟨by rfl, ?hdgl420r13o6⟩) hS ?_
    case hdgl420r13o6 => (intro wx hx; have c5 := NodeAt.chain hx.2; go_simp; (try with_reducible rfl))
    try simp only [Act.put, List.setIfInBounds_toArray, List.set_cons_zero, List.set_cons_succ]
    refine wpAnyH_ready (rs := [3]) (by kernel_rfl) (by simp) ?_
    refine AllReadyH.cons (o := { dst := some 81, op := Op.call { callee := Callee.value (Operand.func 42), args := #[Operand.tmp 80, Operand.const (Value.int IntKind.i64 8)], argTypes := #[32, 3] }, type := 3, pos := "blocks.go:162", after := #[{ on := 2, ground := Ground.data }], guard := none }) rfl (fun K hK => ?_) AllReadyH.nil
    go_simp
    refine (HW.out _ hS.1).mono ?_
    rintro e wO ⟨rfl, hgO⟩
    have hS1 : BM XM g a b c n wO ∧ NodeAt N f0 f1 f2 f3 f4 f5 f6 f7 f8 f9 wO := ⟨hS.1.grown hgO, hS.2.keep hgO⟩
    have hOn := Lib.hid (hOr.out.quiet hgO)
    clear hOr hgO
    have hOr := hOn
    clear hOn
    refine hK.out _ _ ?hsdgl420r13o3 (fun hS => ?_)
    case hsdgl420r13o3 => (exact hS1)
    clear hK K
    try simp only [Act.put, List.setIfInBounds_toArray, List.set_cons_zero, List.set_cons_succ]
    refine wpAnyH_ready (rs := [7]) (by kernel_rfl) (by simp) ?_
    refine AllReadyH.cons (o := { dst := some 85, op := Op.call { callee := Callee.value (Operand.func 47), args := #[Operand.tmp 78, Operand.tmp 79, Operand.tmp 81, Operand.tmp 84], argTypes := #[32, 36, 3, 3] }, type := 33, pos := "blocks.go:162", after := #[{ on := 0, ground := Ground.data }, { on := 1, ground := Ground.data }, { on := 3, ground := Ground.data }, { on := 6, ground := Ground.data }, { on := 3, ground := Ground.chain }], guard := none }) rfl (fun K hK => ?_) AllReadyH.nil
    go_simp
    refine (HV2.out _ _ _ _ _ _ hOr.out).mono ?_
    rintro e wG ⟨rfl, hOG⟩
    have hS1 := HS2.out _ _ _ _ _ _ hOG
    refine hK.out _ _ ?hsdgl420r13o7 (fun hS => ?_)
    case hsdgl420r13o7 => (exact hS1)
    clear hK K
    try simp only [Act.put, List.setIfInBounds_toArray, List.set_cons_zero, List.set_cons_succ]
    refine wpAnyH_take (i := 8) (oi := { dst := some 4, op := Op.assign (Operand.tmp 85), type := 33, pos := "blocks.go:162", after := #[{ on := 7, ground := Ground.data }, { on := 7, ground := Ground.chain }, { on := 0, ground := Ground.phase }, { on := 1, ground := Ground.phase }, { on := 2, ground := Ground.phase }, { on := 3, ground := Ground.phase }, { on := 4, ground := Ground.phase }, { on := 5, ground := Ground.phase }, { on := 6, ground := Ground.phase }, { on := 7, ground := Ground.phase }], guard := none }) (v := ?vdgl420r13o8) rfl (by kernel_rfl) (by kernel_rfl) (by kernel_rfl) (fun _ _ _ h => h) (Or.inl ⟨by rfl, ?hdgl420r13o8⟩) hS ?_
    case hdgl420r13o8 => (intro wx hx; skip; go_simp; (try with_reducible rfl))
    try simp only [Act.put, List.setIfInBounds_toArray, List.set_cons_zero, List.set_cons_succ]
    refine wpAnyH_done (by kernel_rfl) ?_ _
    have hOE := Lib.hid (HQ2.out _ _ _ _ _ _ hOG)
    clear hOG hOr hS8
    go_wp2
    go_ret
    exact ⟨rfl, hOE.out⟩
  exact AllReadyH.nil

end Go.Proofs.YtmamgfjnphdecaaDoor
end
section
/- Package blocks: look, At, Need, Take by what the words tell. -/
namespace Go.Proofs.YtmamgfjnphdecaaDoor
open Go.RowKit Go.Grommet
set_option linter.unusedVariables false

/-- A device of one worker, and what its words tell. -/
structure Bst (I B : Nat) (ns : Nat → Prop) (f0 : Nat → Nat) (xs : List Nat) (L : List (Nat × Nat)) (P : Nat → Nat → Nat) : Prop where
  may : mayB ((1 : Nat) : Int) (I : Int) (B : Int) = true
  b64 : B ≤ 64
  len : xs.length = 488 + 16 * I + 8 * B
  small : ∀ n ∈ xs, n < 18446744073709551616
  wl : Wl xs.length L
  lk : Lk I B ns f0 (gotV xs L) P
  base : ∀ n, ns n → rightB ((1 : Nat) : Int) (I : Int) (B : Int) (f0 (488 + 16 * n)) (f0 (489 + 16 * n)) (f0 (490 + 16 * n)) (f0 (491 + 16 * n)) 0 0 0 0 0 (f0 (497 + 16 * n)) = true

theorem Bst.got {I B : Nat} {ns : Nat → Prop} {f0 : Nat → Nat} {xs : List Nat} {L : List (Nat × Nat)} {P : Nat → Nat → Nat} (h : Bst I B ns f0 xs L P) (a : Nat) : gotV xs L a < 18446744073709551616 := gotV_small h.small h.wl.val a
theorem gotI_in {xs : List Nat} {L : List (Nat × Nat)} {a : Nat} (h : a < xs.length) : gotI xs L (a : Int) = gotV xs L a := by
  unfold gotI
  rw [if_pos (by omega), Int.toNat_natCast]
theorem Bst.node {I B : Nat} {ns : Nat → Prop} {f0 : Nat → Nat} {xs : List Nat} {L : List (Nat × Nat)} {P : Nat → Nat → Nat} (h : Bst I B ns f0 xs L P) {n : Nat} (hn : ns n) (i : Nat) (hi : i < 10) : nodeF xs L (488 + 16 * n) i = gotV xs L (488 + 16 * n + i) := by
  have h1 := h.lk.rg n hn
  have h2 := h.len
  unfold nodeF
  rw [show ((488 + 16 * n : Nat) : Int) + (i : Int) = ((488 + 16 * n + i : Nat) : Int) by omega, gotI_in (by omega)]
theorem Bst.chain {I B : Nat} {ns : Nat → Prop} {f0 : Nat → Nat} {xs : List Nat} {L : List (Nat × Nat)} {P : Nat → Nat → Nat} (h : Bst I B ns f0 xs L P) {n : Nat} (hn : ns n) : nodeF xs L (488 + 16 * n) 8 = P n 12 := by
  rw [h.node hn 8 (by omega), ← h.lk.chn n hn]
  congr 1; omega
theorem Bst.ok {I B : Nat} {ns : Nat → Prop} {f0 : Nat → Nat} {xs : List Nat} {L : List (Nat × Nat)} {P : Nat → Nat → Nat} (h : Bst I B ns f0 xs L P) {n : Nat} (hn : ns n) : NodeOk xs L 1 I B n (488 + 16 * n) := by
  have h1 := h.lk.rg n hn
  have h2 := h.len
  have hm := mayN h.may
  refine ⟨h.may, h1.1, h1.2, by omega, by omega, by omega, ?_⟩
  have r : ∀ i, i = 0 ∨ i = 1 ∨ i = 2 ∨ i = 3 ∨ i = 9 → nodeF xs L (488 + 16 * n) i = f0 (488 + 16 * n + i) := fun i hi => by
    rw [h.node hn i (by omega)]
    refine h.lk.rest _ (by omega) (by omega) (fun n' hn' hh => ?_)
    rcases hi with rfl | rfl | rfl | rfl | rfl <;> omega
  have d : ∀ k, k < 4 → nodeF xs L (488 + 16 * n) (4 + k) = P n k := fun k hk => by
    rw [h.node hn _ (by omega), ← h.lk.dir n k hn hk]
    congr 1; omega
  have hb := h.base n hn
  rw [r 0 (by omega), r 1 (by omega), r 2 (by omega), r 3 (by omega), r 9 (by omega), h.chain hn, show nodeF xs L (488 + 16 * n) 4 = P n 0 from d 0 (by omega), show nodeF xs L (488 + 16 * n) 5 = P n 1 from d 1 (by omega), show nodeF xs L (488 + 16 * n) 6 = P n 2 from d 2 (by omega), show nodeF xs L (488 + 16 * n) 7 = P n 3 from d 3 (by omega)]
  have l0 := h.lk.lt n 0 hn (by omega)
  have l1 := h.lk.lt n 1 hn (by omega)
  have l2 := h.lk.lt n 2 hn (by omega)
  have l3 := h.lk.lt n 3 hn (by omega)
  have l12 := h.lk.lt n 12 hn (by omega)
  rw [show 488 + 16 * n + 0 = 488 + 16 * n by omega, show 488 + 16 * n + 1 = 489 + 16 * n by omega, show 488 + 16 * n + 2 = 490 + 16 * n by omega, show 488 + 16 * n + 3 = 491 + 16 * n by omega, show 488 + 16 * n + 9 = 497 + 16 * n by omega]
  unfold rightB at hb ⊢
  rw [decide_eq_true_eq] at hb ⊢
  obtain ⟨b1, b2, b3, b4, b5, b6, b7, b8, b9, b10, b11, b12, b13⟩ := hb
  exact ⟨b1, b2, b3, b4, b5, by omega, b7, b8, b9, by omega, by omega, by omega, by omega⟩

/-- Where a place's word stands; -1: nowhere. -/
def atI (I n k C : Nat) : Int := if 4 ≤ k ∧ C = 0 then -1 else (slotA I n k C : Int)
theorem Bst.look {I B : Nat} {ns : Nat → Prop} {f0 : Nat → Nat} {xs : List Nat} {L : List (Nat × Nat)} {P : Nat → Nat → Nat} (h : Bst I B ns f0 xs L P) {n k : Nat} (hn : ns n) (hk : k < 12) {kv km XM g : Nat} {w0 : World} {Ps : List Pr} (hv : Ps[kv]? = some (viewP g xs L)) (hm : Ps[km]? = some (bmP XM g 1 I B n)) :
    LookC XM (k : Int) (atI I n k (P n 12)) (P n k : Int) 0 w0 Ps := by
  have hN := h.ok hn
  have h1 := h.lk.rg n hn
  have h2 := h.len
  have hlt := h.lk.lt n k hn (by omega)
  have hC := h.lk.lt n 12 hn (by omega)
  unfold atI slotA
  by_cases hk4 : k < 4
  · rw [if_neg (by omega), if_pos hk4]
    have := look_dir kv km XM g 1 I B n (488 + 16 * n) xs L w0 Ps hv hm hN k (P n k) hk4 (by rw [h.node hn _ (by omega), ← h.lk.dir n k hn hk4]; congr 1; omega) hlt
    rw [show ((488 + 16 * n + 4 + k : Nat) : Int) = ((492 + 16 * n + k : Nat) : Int) by omega] at this
    exact this
  · by_cases hz : P n 12 = 0
    · rw [if_pos ⟨by omega, hz⟩, h.lk.ch0 n k hn hz (by omega) hk]
      exact look_none kv km XM g 1 I B n (488 + 16 * n) xs L w0 Ps hv hm hN k ⟨by omega, hk⟩ (by rw [h.chain hn, hz])
    · rw [if_neg (by omega), if_neg hk4, if_neg (by omega)]
      exact look_chain kv km XM g 1 I B n (488 + 16 * n) xs L w0 Ps hv hm hN k (P n 12) (488 + 16 * I + 8 * P n 12 + (k - 4)) (P n k) ⟨by omega, hk⟩ (h.chain hn) ⟨by omega, hC⟩ (by omega) (by rw [gotI_in (by omega)]; exact h.lk.chd n k hn hz (by omega) hk) hlt

def needK (P : Nat → Nat → Nat) (n k : Nat) : Nat := if P n k ≠ 0 then 0 else if 4 ≤ k ∧ P n 12 = 0 then 2 else 1
theorem needV_K (P : Nat → Nat → Nat) (I n k : Nat) : needV (atI I n k (P n 12)) (P n k : Int) 0 = (needK P n k : Int) := by
  unfold needV needK atI
  by_cases h0 : P n k = 0
  · by_cases h4 : 4 ≤ k ∧ P n 12 = 0
    · simp [h0, h4]
    · simp only [h0, if_neg h4]
      simp
  · simp [h0]
theorem Bst.need {I B : Nat} {ns : Nat → Prop} {f0 : Nat → Nat} {xs : List Nat} {L : List (Nat × Nat)} {P : Nat → Nat → Nat} (h : Bst I B ns f0 xs L P) {n k : Nat} (hn : ns n) (hk : k < 12) {kv km XM g : Nat} {w0 w : World} {Ps : List Pr} (hO : Grommet.Own w0 w Ps) (hv : Ps[kv]? = some (viewP g xs L)) (hm : Ps[km]? = some (bmP XM g 1 I B n)) :
    Calls Tryd.prog 13 #[.pointer (some ⟨XM, 0, none⟩), .int .i64 (k : Int)] w fun e' w' => e' = .returned (.int .i64 (needK P n k : Int)) ∧ Grommet.Own w0 w' Ps := by
  refine bmNeed XM k _ _ 0 _ w0 w Ps hO (h.look hn hk hv hm) ?_
  exact needV_K P I n k
theorem Bst.at_ {I B : Nat} {ns : Nat → Prop} {f0 : Nat → Nat} {xs : List Nat} {L : List (Nat × Nat)} {P : Nat → Nat → Nat} (h : Bst I B ns f0 xs L P) {n k : Nat} (hn : ns n) (hk : k < 12) {kv km XM g : Nat} {w0 w : World} {Ps : List Pr} (hO : Grommet.Own w0 w Ps) (hv : Ps[kv]? = some (viewP g xs L)) (hm : Ps[km]? = some (bmP XM g 1 I B n)) :
    Calls Tryd.prog 14 #[.pointer (some ⟨XM, 0, none⟩), .int .i64 (k : Int)] w fun e' w' => e' = .returned (.tuple #[.int .i64 (P n k : Int), .int .i64 0]) ∧ Grommet.Own w0 w' Ps :=
  bmAt XM k _ _ 0 w0 w Ps hO (h.look hn hk hv hm)

/-- How many blocks are taken. -/
def cntB (xs : List Nat) (L : List (Nat × Nat)) (B : Nat) : Nat := cntF (mbit xs L (272 + 208 * 1)) B
theorem cntB_set {xs : List Nat} {L L' : List (Nat × Nat)} {B m : Nat} (hB : B ≤ 64) (hm : m < B) (hv : gotV xs L 480 < 18446744073709551616) (hf : (gotV xs L 480).testBit m = false) (h' : gotV xs L' 480 = setB (gotV xs L 480) m true) : cntB xs L' B = cntB xs L B + 1 := by
  have e : ∀ i, i < B → mbit xs L' (272 + 208 * 1) i = if i = m then true else mbit xs L (272 + 208 * 1) i := fun i hi => by rw [mbit_480 (by omega), mbit_480 (by omega), h', setB_bit true (by omega) hv]
  have := cntF_turn (f := mbit xs L (272 + 208 * 1)) (g := fun i => if i = m then true else mbit xs L (272 + 208 * 1) i) (k := m) (fun i hi => by simp [hi]) B hm
  unfold cntB
  rw [cntF_congr B e]
  rw [mbit_480 (by omega), hf] at this
  simpa using this
theorem cntB_clr {xs : List Nat} {L L' : List (Nat × Nat)} {B m : Nat} (hB : B ≤ 64) (hm : m < B) (hv : gotV xs L 480 < 18446744073709551616) (hf : (gotV xs L 480).testBit m = true) (h' : gotV xs L' 480 = setB (gotV xs L 480) m false) : cntB xs L' B + 1 = cntB xs L B := by
  have e : ∀ i, i < B → mbit xs L' (272 + 208 * 1) i = if i = m then false else mbit xs L (272 + 208 * 1) i := fun i hi => by rw [mbit_480 (by omega), mbit_480 (by omega), h', setB_bit false (by omega) hv]
  have := cntF_turn (f := mbit xs L (272 + 208 * 1)) (g := fun i => if i = m then false else mbit xs L (272 + 208 * 1) i) (k := m) (fun i hi => by simp [hi]) B hm
  unfold cntB
  rw [cntF_congr B e]
  rw [mbit_480 (by omega), hf] at this
  simpa using this
theorem cntB_le (xs : List Nat) (L : List (Nat × Nat)) (B : Nat) : cntB xs L B ≤ B := cntF_le _ _
/-- Where one is free, there is a first one. -/
theorem Bst.free {I B : Nat} {ns : Nat → Prop} {f0 : Nat → Nat} {xs : List Nat} {L : List (Nat × Nat)} {P : Nat → Nat → Nat} (h : Bst I B ns f0 xs L P) (hq : cntB xs L B < B) : ∃ m : Nat, ClrR (mbit xs L (272 + 208 * 1)) B (m : Int) true ∧ m < B ∧ 1 ≤ m ∧ (gotV xs L 480).testBit m = false := by
  have h64 := h.b64
  obtain ⟨c, b, hc⟩ := clrR_ex (mbit xs L (272 + 208 * 1)) B
  rcases hc with ⟨rfl, n, rfl, hn, hf, hl⟩ | ⟨rfl, rfl, hl⟩
  · rw [mbit_480 (by omega)] at hf
    have := (h.lk.free (by omega) hf).1
    exact ⟨n, .inl ⟨rfl, n, rfl, hn, by rw [mbit_480 (by omega)]; exact hf, hl⟩, hn, by omega, hf⟩
  · exfalso
    have e : cntB xs L B = B := by
      unfold cntB
      rw [cntF_congr (g := fun _ => true) B hl]
      clear hl hq h h64
      induction B with
      | zero => rfl
      | succ n ih => unfold cntF; rw [ih]; rfl
    omega

/-- One block more, at a place. -/
theorem Bst.put {I B : Nat} {ns : Nat → Prop} {f0 : Nat → Nat} {xs : List Nat} {L : List (Nat × Nat)} {P : Nat → Nat → Nat} (h : Bst I B ns f0 xs L P) (hl : L.length ≤ 80) {n k m t : Nat} (hn : ns n) (hk : k ≤ 12) (hm : m < B) (hf : (gotV xs L 480).testBit m = false) (h0 : P n k = 0) (hc : 4 ≤ k → k < 12 → P n 12 ≠ 0) (ht : slotA I n k (P n 12) = t) :
    t < xs.length ∧ Bst I B ns f0 xs (takeL xs L 1 I B m (t : Int)) (putP P n k m) ∧ cntB xs (takeL xs L 1 I B m (t : Int)) B = cntB xs L B + 1 ∧ ∀ j, j < 8 → 488 + 16 * I + 8 * m + j ≠ t ∧ gotV xs (takeL xs L 1 I B m (t : Int)) (488 + 16 * I + 8 * m + j) = 0 := by
  have h64 := h.b64
  have hln := h.len
  have h1 := h.lk.rg n hn
  have hC := h.lk.lt n 12 hn (by omega)
  have hfr := h.lk.free (by omega) hf
  have htl : t < xs.length ∧ (t < 488 + 16 * I ∨ (P n 12 ≠ 0 ∧ 488 + 16 * I + 8 * P n 12 ≤ t ∧ t < 488 + 16 * I + 8 * P n 12 + 8)) ∧ 488 ≤ t := by
    unfold slotA at ht
    split at ht
    · omega
    · split at ht
      · omega
      · have := hc (by omega) (by omega); omega
  have hg := fun a => got_takeL (xs := xs) (L := L) (I := I) (B := B) (m := m) (t := t) hl hm h64 (by omega) htl.1 a
  refine ⟨htl.1, ⟨h.may, h64, hln, h.small, wl_takeL h.small h.wl (by omega) htl.1, h.lk.put (h.got 480) hn hk hm h64 hf h0 hc ht hg, h.base⟩, ?_, fun j hj => ?_⟩
  · refine cntB_set h64 hm (h.got 480) hf ?_
    rw [hg, if_neg (by omega), if_neg (by omega), if_pos rfl]
  · have hne := hfr.2 n 12 hn (by omega)
    have : 488 + 16 * I + 8 * m + j ≠ t := by omega
    exact ⟨this, by rw [hg, if_neg this, if_pos (by omega)]⟩
/-- One block fewer. -/
theorem Bst.give {I B : Nat} {ns : Nat → Prop} {f0 : Nat → Nat} {xs : List Nat} {L : List (Nat × Nat)} {P : Nat → Nat → Nat} (h : Bst I B ns f0 xs L P) (hl : L.length ≤ 90) {n k m t : Nat} (hn : ns n) (hk : k ≤ 12) (hm : P n k = m) (m0 : m ≠ 0) (hb : k = 12 → ∀ j, 4 ≤ j → j < 12 → P n j = 0) (ht : slotA I n k (P n 12) = t) :
    t < xs.length ∧ giveE xs L (272 + 208 * 1) B (m : Int) = 0 ∧ Bst I B ns f0 xs (giveBL xs L 1 B (m : Int) (t : Int)) (putP P n k 0) ∧ cntB xs (giveBL xs L 1 B (m : Int) (t : Int)) B + 1 = cntB xs L B := by
  have h64 := h.b64
  have hln := h.len
  have h1 := h.lk.rg n hn
  have hC := h.lk.lt n 12 hn (by omega)
  have hmB := h.lk.lt n k hn hk
  rw [hm] at hmB
  have hbit : (gotV xs L 480).testBit m = true := (h.lk.bit m (by omega)).2 (.inr ⟨n, k, hn, hk, hm⟩)
  have htl : t < xs.length ∧ 488 ≤ t := by
    unfold slotA at ht
    split at ht
    · omega
    · split at ht
      · omega
      · omega
  unfold giveBL
  have hg := fun a => got_giveBL (xs := xs) (L := L) (B := B) (m := m) (t := t) (by omega) hmB h64 hbit hl (by omega) htl.1 a
  refine ⟨htl.1, giveE_yes (by omega) hmB h64 hbit (by omega) (by omega), ⟨h.may, h64, hln, h.small, wl_giveBL h.small h.wl htl.1, h.lk.give (h.got 480) hn hk hm m0 h64 hb ht hg, h.base⟩, ?_⟩
  refine cntB_clr h64 hmB (h.got 480) hbit ?_
  rw [hg, if_neg (by omega), if_pos rfl]

/-- A Chain that stands has something. -/
def Br (ns : Nat → Prop) (P : Nat → Nat → Nat) : Prop := ∀ n, ns n → P n 12 ≠ 0 → ∃ k, 4 ≤ k ∧ k < 12 ∧ P n k ≠ 0
structure TakeR (I B : Nat) (ns : Nat → Prop) (f0 : Nat → Nat) (xs : List Nat) (L L' : List (Nat × Nat)) (P P' : Nat → Nat → Nat) (n k v en : Nat) : Prop where
  st : Bst I B ns f0 xs L' P'
  other : ∀ n', n' ≠ n → P' n' = P n'
  br : Br ns P → Br ns P'
  way : (P n k ≠ 0 ∧ v = P n k ∧ en = 0 ∧ L' = L ∧ P' = P) ∨ (P n k = 0 ∧ B < cntB xs L B + needK P n k ∧ v = 0 ∧ en = 7 ∧ L' = L ∧ P' = P) ∨
    (P n k = 0 ∧ cntB xs L B + needK P n k ≤ B ∧ v = P' n k ∧ v ≠ 0 ∧ v < B ∧ en = 0 ∧ L'.length ≤ L.length + 20 ∧ cntB xs L' B = cntB xs L B + needK P n k ∧ nzc (P' n) = nzc (P n) + needK P n k ∧ (∀ j, j < 8 → gotV xs L' (488 + 16 * I + 8 * v + j) = 0))

set_option maxHeartbeats 1000000 in
theorem Bst.take {I B : Nat} {ns : Nat → Prop} {f0 : Nat → Nat} {xs : List Nat} {L : List (Nat × Nat)} {P : Nat → Nat → Nat} (h : Bst I B ns f0 xs L P) (hl : L.length ≤ 60) {n k : Nat} (hn : ns n) (hk : k < 12) {kv km XM g : Nat} {w0 w : World} {Ps : List Pr} (hO : Grommet.Own w0 w Ps) (hv : Ps[kv]? = some (viewP g xs L)) (hm : Ps[km]? = some (bmP XM g 1 I B n)) (hkm : kv ≠ km)
    (htab : Lib.TabIs Tryd.prog w0 "math/bits.deBruijn64tab" .u8 tab) :
    Calls Tryd.prog 16 #[.pointer (some ⟨XM, 0, none⟩), .int .i64 (k : Int)] w fun e w' => ∃ v en L' P', e = .returned (.tuple #[.int .i64 ((v : Nat) : Int), .int .i64 ((en : Nat) : Int)]) ∧ Grommet.Own w0 w' (Ps.set kv (viewP g xs L')) ∧ TakeR I B ns f0 xs L L' P P' n k v en := by
  have h64 := h.b64
  have hln := h.len
  have h1 := h.lk.rg n hn
  have hC := h.lk.lt n 12 hn (by omega)
  have hcl := cntB_le xs L B
  have hset : Ps.set kv (viewP g xs L) = Ps := by
    apply List.ext_getElem?
    intro i
    by_cases e : kv = i
    · subst e; rw [List.getElem?_set_self (List.getElem?_eq_some_iff.1 hv).1, hv]
    · rw [List.getElem?_set_ne e]
  have HL : ∀ Rs, LookC XM (k : Int) (atI I n k (P n 12)) (P n k : Int) 0 w0 (Ps ++ Rs) := fun Rs => h.look hn hk (app_old hv) (app_old hm)
  by_cases h0 : P n k = 0
  · have hq : (B : Int) - (cntF (mbit xs L (272 + 208 * 1)) B : Int) = ((B - cntB xs L B : Nat) : Int) := by unfold cntB at hcl ⊢; omega
    rw [h0] at HL
    by_cases hsp : B < cntB xs L B + needK P n k
    · refine (bmTake_space kv km XM g 1 I B n (488 + 16 * n) k _ (needK P n k : Int) _ xs L w0 w Ps hO hv hm (h.ok hn) HL ?_ hq (by omega)).mono ?_
      · have := needV_K P I n k
        rw [h0] at this
        exact this
      · rintro e w' ⟨rfl, hO'⟩
        exact ⟨0, 7, L, P, rfl, by rw [hset]; exact hO', ⟨h, fun _ _ => rfl, fun hb => hb, .inr (.inl ⟨h0, hsp, rfl, rfl, rfl, rfl⟩)⟩⟩
    · by_cases h4 : 4 ≤ k ∧ P n 12 = 0
      · have e2 : needK P n k = 2 := by unfold needK; rw [if_neg (by omega), if_pos h4]
        rw [e2] at hsp
        obtain ⟨m1, c1, l1, p1, f1⟩ := h.free (by omega)
        obtain ⟨t1l, hS1, n1, z1⟩ := h.put (by omega) hn (Nat.le_refl 12) l1 f1 h4.2 (by omega) rfl
        have ea : slotA I n 12 (P n 12) = 488 + 16 * n + 8 := by unfold slotA; rw [if_neg (by omega), if_pos rfl]; omega
        rw [ea] at t1l hS1 n1 z1
        obtain ⟨L1, hL1⟩ : ∃ L1, takeL xs L 1 I B m1 ((488 + 16 * n + 8 : Nat) : Int) = L1 := ⟨_, rfl⟩
        have hlen1 := takeL_len xs L 1 I B m1 ((488 + 16 * n + 8 : Nat) : Int)
        rw [hL1] at hS1 n1 z1 hlen1
        obtain ⟨m2, c2, l2, p2, f2⟩ := hS1.free (by omega)
        have e12 : putP P n 12 m1 n 12 = m1 := putP_same _ _ _ _
        have ek : putP P n 12 m1 n k = 0 := by rw [putP_ne _ _ (by omega)]; exact h0
        obtain ⟨t2l, hS2, n2, z2⟩ := hS1.put (by omega) hn (Nat.le_of_lt hk) l2 f2 ek (fun _ _ => by rw [e12]; omega) rfl
        have eb : slotA I n k (putP P n 12 m1 n 12) = 488 + 16 * I + 8 * m1 + (k - 4) := by rw [e12]; unfold slotA; rw [if_neg (by omega), if_neg (by omega)]
        rw [eb] at t2l hS2 n2 z2
        have HL' : ∀ Rs, LookC XM (k : Int) (-1) 0 0 w0 (Ps ++ Rs) := fun Rs => by
          have := HL Rs
          rwa [show atI I n k (P n 12) = -1 by unfold atI; rw [if_pos h4]] at this
        refine (bmTake_two kv km XM g 1 I B n (488 + 16 * n) m1 m2 _ (488 + 16 * I + 8 * m1 + (k - 4)) k _ xs L L1 w0 w Ps hO hv hm hkm (h.ok hn) HL' ⟨by omega, by omega⟩ hq (by omega) htab c1 l1 p1 (by omega) rfl hL1 c2 l2 p2 (by omega)).mono ?_
        rintro e w' ⟨rfl, hO'⟩
        have hlen2 := takeL_len xs L1 1 I B m2 ((488 + 16 * I + 8 * m1 + (k - 4) : Nat) : Int)
        have hne12 := (hS1.lk.free (by omega) f2).2 n 12 hn (by omega)
        rw [e12] at hne12
        refine ⟨m2, 0, _, _, rfl, hO', ⟨hS2, fun n' hn' => ?_, fun hb i hi hz => ?_, .inr (.inr ⟨h0, by omega, (putP_same _ _ _ _).symm, by omega, l2, rfl, by omega, by omega, ?_, fun j hj => (z2 j hj).2⟩)⟩⟩
        · rw [putP_other _ _ hn', putP_other _ _ hn']
        · by_cases e : i = n
          · subst e
            exact ⟨k, h4.1, hk, by rw [putP_same]; omega⟩
          · rw [putP_other _ _ e, putP_other _ _ e] at hz ⊢
            exact hb i hi hz
        · rw [nzc_put (Nat.le_of_lt hk) ek (by omega), nzc_put (Nat.le_refl _) h4.2 (by omega)]; omega
      · have e1 : needK P n k = 1 := by unfold needK; rw [if_neg (by omega), if_neg h4]
        rw [e1] at hsp
        obtain ⟨m1, c1, l1, p1, f1⟩ := h.free (by omega)
        obtain ⟨t1l, hS1, n1, z1⟩ := h.put (by omega) hn (Nat.le_of_lt hk) l1 f1 h0 (fun h4' _ hz => h4 ⟨h4', hz⟩) rfl
        have HL' : ∀ Rs, LookC XM (k : Int) ((slotA I n k (P n 12) : Nat) : Int) 0 0 w0 (Ps ++ Rs) := fun Rs => by
          have := HL Rs
          rwa [show atI I n k (P n 12) = ((slotA I n k (P n 12) : Nat) : Int) by unfold atI; rw [if_neg h4]] at this
        refine (bmTake_one kv km XM g 1 I B n (488 + 16 * n) m1 k _ _ xs L w0 w Ps hO hv hm hkm (h.ok hn) HL' ⟨by omega, by omega⟩ hq (by omega) htab c1 l1 p1 (by omega)).mono ?_
        rintro e w' ⟨rfl, hO'⟩
        have hlen1 := takeL_len xs L 1 I B m1 ((slotA I n k (P n 12) : Nat) : Int)
        refine ⟨m1, 0, _, _, rfl, hO', ⟨hS1, fun n' hn' => putP_other _ _ hn', fun hb i hi hz => ?_, .inr (.inr ⟨h0, by omega, (putP_same _ _ _ _).symm, by omega, l1, rfl, by omega, by omega, ?_, fun j hj => (z1 j hj).2⟩)⟩⟩
        · by_cases e : i = n
          · subst e
            rw [putP_ne P m1 (by omega)] at hz
            obtain ⟨q, q4, q12, qz⟩ := hb i hi hz
            by_cases eq : q = k
            · exact ⟨q, q4, q12, by rw [eq, putP_same]; omega⟩
            · exact ⟨q, q4, q12, by rw [putP_ne P m1 (by omega)]; exact qz⟩
          · rw [putP_other _ _ e] at hz ⊢
            exact hb i hi hz
        · rw [nzc_put (Nat.le_of_lt hk) h0 (by omega), e1]
  · have HL' := HL []
    rw [List.append_nil] at HL'
    refine (bmTake_has XM k _ _ w0 w Ps hO HL' (by omega)).mono ?_
    rintro e w' ⟨rfl, hO'⟩
    exact ⟨P n k, 0, L, P, rfl, by rw [hset]; exact hO', ⟨h, fun _ _ => rfl, fun hb => hb, .inl ⟨h0, rfl, rfl, rfl, rfl⟩⟩⟩
end Go.Proofs.YtmamgfjnphdecaaDoor
end
section
/- Package blocks: Drop, Cut, List, Of by what the words tell. -/
namespace Go.Proofs.YtmamgfjnphdecaaDoor
open Go.RowKit Go.Grommet
set_option linter.unusedVariables false

theorem set_view {Ps : List Pr} {kv : Nat} {Q : Pr} (hv : Ps[kv]? = some Q) : Ps.set kv Q = Ps := by
  apply List.ext_getElem?
  intro i
  by_cases e : kv = i
  · subst e; rw [List.getElem?_set_self (List.getElem?_eq_some_iff.1 hv).1, hv]
  · rw [List.getElem?_set_ne e]
theorem set_left {Ps Rs : List Pr} {kv : Nat} {Q : Pr} (hv : Ps[kv]? = some Q) (R : Pr) : (Ps ++ Rs).set kv R = Ps.set kv R ++ Rs := List.set_append_left _ _ (List.getElem?_eq_some_iff.1 hv).1

structure DropR (I B : Nat) (ns : Nat → Prop) (f0 : Nat → Nat) (xs : List Nat) (L L' : List (Nat × Nat)) (P P' : Nat → Nat → Nat) (n k : Nat) : Prop where
  st : Bst I B ns f0 xs L' P'
  len : L'.length ≤ L.length + 4
  other : ∀ n', n' ≠ n → P' n' = P n'
  br : Br ns P → Br ns P'
  zero : P' n k = 0
  le : ∀ j, P' n j = P n j ∨ P' n j = 0
  cnt : cntB xs L' B + nzc (P n) = cntB xs L B + nzc (P' n)
def DropC (n k : Nat) (I B : Nat) (xs : List Nat) (L L' : List (Nat × Nat)) : Prop :=
  ∀ (kv km XM g : Nat) (w0 w : World) (Ps : List Pr), Grommet.Own w0 w Ps → Ps[kv]? = some (viewP g xs L) → Ps[km]? = some (bmP XM g 1 I B n) → kv ≠ km →
    Calls Tryd.prog 20 #[.pointer (some ⟨XM, 0, none⟩), .int .i64 (k : Int)] w fun e w' => e = .returned (.int .i64 0) ∧ Grommet.Own w0 w' (Ps.set kv (viewP g xs L'))

set_option maxHeartbeats 1000000 in
theorem Bst.drop {I B : Nat} {ns : Nat → Prop} {f0 : Nat → Nat} {xs : List Nat} {L : List (Nat × Nat)} {P : Nat → Nat → Nat} (h : Bst I B ns f0 xs L P) (hl : L.length ≤ 70) {n k : Nat} (hn : ns n) (hk : k < 12) :
    ∃ L' P', DropR I B ns f0 xs L L' P P' n k ∧ DropC n k I B xs L L' := by
  have h64 := h.b64
  have hln := h.len
  have h1 := h.lk.rg n hn
  have hC := h.lk.lt n 12 hn (by omega)
  have hmN := mayN h.may
  by_cases h0 : P n k = 0
  · refine ⟨L, P, ⟨h, by omega, fun _ _ => rfl, fun hb => hb, h0, fun _ => .inl rfl, rfl⟩, fun kv km XM g w0 w Ps hO hv hm hkm => ?_⟩
    rw [set_view hv]
    have := h.look hn hk hv hm (w0 := w0)
    rw [h0] at this
    exact bmDrop_none XM k _ w0 w Ps hO this
  · have hkk : 4 ≤ k → P n 12 ≠ 0 := fun h4 hz => h0 (h.lk.ch0 n k hn hz h4 hk)
    have ha : atI I n k (P n 12) = ((slotA I n k (P n 12) : Nat) : Int) := by unfold atI; rw [if_neg (fun hh => hkk hh.1 hh.2)]
    obtain ⟨tl, he, hS1, hc1⟩ := h.give (by omega) hn (Nat.le_of_lt hk) rfl h0 (fun e => by omega) rfl
    obtain ⟨L1, hL1⟩ : ∃ L1, giveBL xs L 1 B (P n k : Int) ((slotA I n k (P n 12) : Nat) : Int) = L1 := ⟨_, rfl⟩
    have hlen := len_giveBL (xs := xs) (L := L) (B := B) (m := P n k) (t := slotA I n k (P n 12))
    have hlen1 : L1.length ≤ L.length + 2 := by rw [← hL1]; exact hlen.2
    rw [hL1] at hS1 hc1
    have hz1 := nzc_give (Nat.le_of_lt hk) h0
    have e12 : putP P n k 0 n 12 = P n 12 := putP_ne _ _ (by omega)
    have hch1 := hS1.chain hn
    rw [e12] at hch1
    by_cases hz : P n 12 = 0
    · refine ⟨L1, putP P n k 0, ⟨hS1, by omega, fun n' hn' => putP_other _ _ hn', fun hb i hi hne => ?_, putP_same _ _ _ _, fun j => ?_, by omega⟩, fun kv km XM g w0 w Ps hO hv hm hkm => ?_⟩
      · by_cases e : i = n
        · subst e; rw [e12] at hne; exact absurd hz hne
        · rw [putP_other _ _ e] at hne ⊢; exact hb i hi hne
      · by_cases e : j = k
        · subst e; exact .inr (putP_same _ _ _ _)
        · exact .inl (putP_ne _ _ (by omega))
      · have hlk := h.look hn hk hv hm (w0 := w0)
        rw [ha] at hlk
        exact bmDrop_plain kv km XM g 1 I B n (488 + 16 * n) k _ (P n k : Int) _ _ _ _ _ _ _ _ _ _ xs L L1 w0 w Ps hO hv hm hkm (h.ok hn) hlk (by omega) ⟨by omega, by omega⟩ he (by omega) hL1
          (fun Rs hR => get_ok0 kv g 1 I B n (488 + 16 * n) xs L1 w0 Rs hR (hS1.ok hn)) (by rw [hch1, hz])
    · have hbl : ∀ i, i < 8 → gotI xs L1 ((488 + 16 * I + 8 * P n 12 + i : Nat) : Int) = putP P n k 0 n (4 + i) := fun i hi => by
        rw [gotI_in (by omega), ← hS1.lk.chd n (4 + i) hn (by rw [e12]; exact hz) (by omega) (by omega), e12]
        congr 1; omega
      have hbV : blockV ((1 : Nat) : Int) (I : Int) (B : Int) ((P n 12 : Nat) : Int) = ((488 + 16 * I + 8 * P n 12 : Nat) : Int) := by
        unfold blockV
        rw [if_pos ⟨h.may, by omega, by omega⟩]
        omega
      by_cases hbare : ∀ j, 4 ≤ j → j < 12 → putP P n k 0 n j = 0
      · have e12' : putP P n k 0 n 12 ≠ 0 := by rw [e12]; exact hz
        obtain ⟨tl2, he2, hS2, hc2⟩ := hS1.give (by omega) hn (Nat.le_refl 12) rfl e12' (fun _ => hbare) rfl
        have es : slotA I n 12 (putP P n k 0 n 12) = 488 + 16 * n + 8 := by unfold slotA; rw [if_neg (by omega), if_pos rfl]; omega
        rw [es, e12] at hS2 hc2
        rw [e12] at he2
        have hlen2 := len_giveBL (xs := xs) (L := L1) (B := B) (m := P n 12) (t := 488 + 16 * n + 8)
        have hz2 := nzc_give (Nat.le_refl 12) e12'
        refine ⟨_, putP (putP P n k 0) n 12 0, ⟨hS2, ?_, fun n' hn' => by rw [putP_other _ _ hn', putP_other _ _ hn'], fun hb i hi hne => ?_, ?_, fun j => ?_, by omega⟩, fun kv km XM g w0 w Ps hO hv hm hkm => ?_⟩
        · have := hlen2.2; unfold giveBL; omega
        · by_cases e : i = n
          · subst e; rw [putP_same] at hne; exact absurd rfl hne
          · rw [putP_other _ _ e, putP_other _ _ e] at hne ⊢; exact hb i hi hne
        · rw [putP_ne _ _ (by omega), putP_same]
        · by_cases e : j = 12
          · subst e; exact .inr (putP_same _ _ _ _)
          · rw [putP_ne _ _ (by omega)]
            by_cases e : j = k
            · subst e; exact .inr (putP_same _ _ _ _)
            · exact .inl (putP_ne _ _ (by omega))
        · have hlk := h.look hn hk hv hm (w0 := w0)
          rw [ha] at hlk
          exact bmDrop_bare kv km XM g 1 I B n (488 + 16 * n) k _ (P n k : Int) (nodeF xs L1 (488 + 16 * n) 0) (nodeF xs L1 (488 + 16 * n) 1) (nodeF xs L1 (488 + 16 * n) 2) (nodeF xs L1 (488 + 16 * n) 3) (nodeF xs L1 (488 + 16 * n) 4) (nodeF xs L1 (488 + 16 * n) 5) (nodeF xs L1 (488 + 16 * n) 6) (nodeF xs L1 (488 + 16 * n) 7) (nodeF xs L1 (488 + 16 * n) 8) (nodeF xs L1 (488 + 16 * n) 9) xs L L1 w0 w Ps hO hv hm hkm (h.ok hn) hlk (by omega) ⟨by omega, by omega⟩ he (by omega) hL1
            (fun Rs hR => get_ok0 kv g 1 I B n (488 + 16 * n) xs L1 w0 Rs hR (hS1.ok hn)) _ (by rw [hch1, show ((488 + 16 * n : Nat) : Int) + 8 = ((488 + 16 * n + 8 : Nat) : Int) by omega]) (by rw [hch1]; exact he2) (by rw [hch1]; have := hlen2.1; omega) (by rw [hch1]; omega) (by rw [hch1]; exact hz)
            (fun Rs hR hRm wx hOx => bmBare kv km XM g 1 I B n (488 + 16 * I + 8 * P n 12) _ _ _ _ _ _ _ _ _ _ xs L1 true w0 wx Rs hOx hR hRm (by rw [hch1]; exact hz) (by rw [hch1]; omega) (by rw [hch1]; exact hbV) (by omega) ⟨fun _ => rfl, fun _ i hi => by rw [hbl i hi]; exact hbare _ (by omega) (by omega)⟩)
      · refine ⟨L1, putP P n k 0, ⟨hS1, by omega, fun n' hn' => putP_other _ _ hn', fun hb i hi hne => ?_, putP_same _ _ _ _, fun j => ?_, by omega⟩, fun kv km XM g w0 w Ps hO hv hm hkm => ?_⟩
        · by_cases e : i = n
          · subst e
            refine Classical.byContradiction fun hx => hbare fun j h4 h12 => Classical.byContradiction fun hj => hx ⟨j, h4, h12, hj⟩
          · rw [putP_other _ _ e] at hne ⊢; exact hb i hi hne
        · by_cases e : j = k
          · subst e; exact .inr (putP_same _ _ _ _)
          · exact .inl (putP_ne _ _ (by omega))
        · have hlk := h.look hn hk hv hm (w0 := w0)
          rw [ha] at hlk
          exact bmDrop_kept kv km XM g 1 I B n (488 + 16 * n) k _ (P n k : Int) _ _ _ _ _ _ _ _ _ _ xs L L1 w0 w Ps hO hv hm hkm (h.ok hn) hlk (by omega) ⟨by omega, by omega⟩ he (by omega) hL1
            (fun Rs hR => get_ok0 kv g 1 I B n (488 + 16 * n) xs L1 w0 Rs hR (hS1.ok hn)) (by rw [hch1]; exact hz)
            (fun Rs hR hRm wx hOx => bmBare kv km XM g 1 I B n (488 + 16 * I + 8 * P n 12) _ _ _ _ _ _ _ _ _ _ xs L1 false w0 wx Rs hOx hR hRm (by rw [hch1]; exact hz) (by rw [hch1]; omega) (by rw [hch1]; exact hbV) (by omega) ⟨fun hall => absurd (fun j h4 h12 => by
              have := hall (j - 4) (by omega)
              rw [hbl (j - 4) (by omega), show 4 + (j - 4) = j by omega] at this
              exact this) hbare, fun e => by cases e⟩)

structure CutR (I B : Nat) (ns : Nat → Prop) (f0 : Nat → Nat) (xs : List Nat) (L L' : List (Nat × Nat)) (P P' : Nat → Nat → Nat) (n k N : Nat) : Prop where
  st : Bst I B ns f0 xs L' P'
  len : L'.length ≤ L.length + 4 * N
  other : ∀ n', n' ≠ n → P' n' = P n'
  br : Br ns P → Br ns P'
  zero : ∀ j, k ≤ j → j < 12 → P' n j = 0
  le : ∀ j, P' n j = P n j ∨ P' n j = 0
  cnt : cntB xs L' B + nzc (P n) = cntB xs L B + nzc (P' n)
theorem Bst.cuts {I B : Nat} {ns : Nat → Prop} {f0 : Nat → Nat} {xs : List Nat} {n : Nat} (hn : ns n) : ∀ (N k : Nat) (L : List (Nat × Nat)) (P : Nat → Nat → Nat), k + N = 12 → Bst I B ns f0 xs L P → L.length + 4 * N ≤ 74 →
    ∃ (Ls : Nat → List (Nat × Nat)) (P' : Nat → Nat → Nat), Ls 0 = L ∧ CutR I B ns f0 xs L (Ls N) P P' n k N ∧ ∀ j, j < N → DropC n (k + j) I B xs (Ls j) (Ls (j + 1))
  | 0, k, L, P, hk, h, hl => ⟨fun _ => L, P, rfl, ⟨h, Nat.le_add_right _ _, fun _ _ => rfl, fun hb => hb, fun j h1 h2 => by omega, fun _ => .inl rfl, rfl⟩, fun j hj => by omega⟩
  | N + 1, k, L, P, hk, h, hl => by
    obtain ⟨L1, P1, r1, d1⟩ := h.drop (by omega) hn (k := k) (by omega)
    have hl1 := r1.len
    obtain ⟨Ls, P', e0, r2, ds⟩ := Bst.cuts hn N (k + 1) L1 P1 (by omega) r1.st (by omega)
    refine ⟨fun j => match j with | 0 => L | j + 1 => Ls j, P', rfl, ⟨r2.st, by have := r2.len; show (Ls N).length ≤ L.length + 4 * (N + 1); omega, fun n' hn' => (r2.other n' hn').trans (r1.other n' hn'), fun hb => r2.br (r1.br hb), fun j h1 h2 => ?_, fun j => ?_, ?_⟩, fun j hj => ?_⟩
    · by_cases e : j = k
      · subst e
        rcases r2.le j with q | q
        · rw [q]; exact r1.zero
        · exact q
      · exact r2.zero j (by omega) h2
    · rcases r2.le j with q | q
      · rw [q]; exact r1.le j
      · exact .inr q
    · have a := r1.cnt; have b := r2.cnt; show cntB xs (Ls N) B + _ = _; omega
    · cases j with
      | zero =>
        show DropC n (k + 0) I B xs L (Ls 0)
        rw [e0]; exact d1
      | succ j =>
        have := ds j (by omega)
        rw [show k + 1 + j = k + (j + 1) by omega] at this
        exact this

theorem Bst.cut {I B : Nat} {ns : Nat → Prop} {f0 : Nat → Nat} {xs : List Nat} {L : List (Nat × Nat)} {P : Nat → Nat → Nat} (h : Bst I B ns f0 xs L P) (hl : L.length ≤ 20) {n k : Nat} (hn : ns n) (hk : k ≤ 12) :
    ∃ L' P', CutR I B ns f0 xs L L' P P' n k (12 - k) ∧ ∀ (kv km XM g : Nat) (w0 w : World) (Ps : List Pr), Grommet.Own w0 w Ps → Ps[kv]? = some (viewP g xs L) → Ps[km]? = some (bmP XM g 1 I B n) → kv ≠ km → (∀ Q ∈ Ps, Solid Q) →
      Calls Tryd.prog 21 #[.pointer (some ⟨XM, 0, none⟩), .int .i64 (k : Int)] w fun e w' => e = .returned (.int .i64 0) ∧ Grommet.Own w0 w' (Ps.set kv (viewP g xs L')) := by
  obtain ⟨Ls, P', e0, r, ds⟩ := Bst.cuts hn (12 - k) k L P (by omega) h (by omega)
  refine ⟨_, P', r, fun kv km XM g w0 w Ps hO hv hm hkm hs => ?_⟩
  refine bmCut XM k (12 - k) (fun j => Ps.set kv (viewP g xs (Ls j))) w0 w (by rw [e0, set_view hv]; exact hO) (fun j Q hQ => ?_) (by omega) (fun j hj Rs wx hOx => ?_)
  · rcases List.mem_or_eq_of_mem_set hQ with h | h
    · exact hs Q h
    · rw [h]; exact solid_view _ _ _
  · refine (ds j hj kv km XM g w0 wx _ hOx (app_old (set_at _ hv)) (app_old (set_same_at _ _ hm hkm)) hkm).mono ?_
    rintro e w' ⟨rfl, hO'⟩
    rw [set_left (set_at _ hv), List.set_set] at hO'
    exact ⟨rfl, hO'⟩

theorem Bst.list {I B : Nat} {ns : Nat → Prop} {f0 : Nat → Nat} {xs : List Nat} {L : List (Nat × Nat)} {P : Nat → Nat → Nat} (h : Bst I B ns f0 xs L P) {n : Nat} (hn : ns n) {kv km XM g : Nat} {w0 w : World} {Ps : List Pr} (hO : Grommet.Own w0 w Ps) (hv : Ps[kv]? = some (viewP g xs L)) (hm : Ps[km]? = some (bmP XM g 1 I B n)) (hs : ∀ Q ∈ Ps, Solid Q) :
    Calls Tryd.prog 22 #[.pointer (some ⟨XM, 0, none⟩)] w fun e w' => ∃ ad cp m, e = .returned (.slice ad m cp) ∧ m = (lst (P n)).length ∧ Grommet.Own w0 w' (Ps ++ [rowP 3 1 (.slice ad m cp) m ((lst (P n)).map nzv)]) := by
  have hch := h.chain hn
  have hC := h.lk.lt n 12 hn (by omega)
  have h64 := h.b64
  have HA : ∀ (j : Nat), j < 12 → ∀ Rs wx, Grommet.Own w0 wx (Ps ++ Rs) → Calls Tryd.prog 14 #[.pointer (some ⟨XM, 0, none⟩), .int .i64 (j : Int)] wx fun e w' => e = .returned (.tuple #[.int .i64 (P n j : Int), .int .i64 0]) ∧ Grommet.Own w0 w' (Ps ++ Rs) :=
    fun j hj Rs wx hx => h.at_ hn hj hx (app_old hv) (app_old hm)
  by_cases hz : P n 12 = 0
  · exact bmList_zero XM g 1 I B n (P n) _ _ _ _ _ _ _ _ (nodeF xs L (488 + 16 * n) 8) _ Ps km w0 w hO hs hm hch (by rw [hch]; exact hz) (by rw [hch]; omega) HA (fun Rs wx hx => get_ok0 kv g 1 I B n (488 + 16 * n) xs L w0 Ps hv (h.ok hn) wx Rs hx)
  · exact bmList_some XM g 1 I B n (P n) _ _ _ _ _ _ _ _ (nodeF xs L (488 + 16 * n) 8) _ Ps km w0 w hO hs hm hch (by rw [hch]; exact hz) (by rw [hch]; omega) HA (fun Rs wx hx => get_ok0 kv g 1 I B n (488 + 16 * n) xs L w0 Ps hv (h.ok hn) wx Rs hx)
theorem Bst.of {I B : Nat} {ns : Nat → Prop} {f0 : Nat → Nat} {xs : List Nat} {L : List (Nat × Nat)} {P : Nat → Nat → Nat} (h : Bst I B ns f0 xs L P) {n : Nat} (hn : ns n) {kv g : Nat} {w0 w : World} {Ps : List Pr} (hO : Grommet.Own w0 w Ps) (hv : Ps[kv]? = some (viewP g xs L)) :
    Calls Tryd.prog 11 #[.pointer (some ⟨g, 0, none⟩), gv ((1 : Nat) : Int) (I : Int) (B : Int), .int .i64 (n : Int)] w fun e w' => ∃ XM, e = .returned (.tuple #[.pointer (some ⟨XM, 0, none⟩), .int .i64 0]) ∧ Grommet.Own w0 w' (Ps ++ [bmP XM g 1 I B n]) :=
  bmOf kv g 1 I B n (488 + 16 * n) xs L w0 w Ps hO hv (h.ok hn)
/-- The words that are seen, as a new device's. -/
theorem Bst.flat {I B : Nat} {ns : Nat → Prop} {f0 : Nat → Nat} {xs : List Nat} {L : List (Nat × Nat)} {P : Nat → Nat → Nat} (h : Bst I B ns f0 xs L P) : Bst I B ns f0 (flatV xs L) [] P ∧ cntB (flatV xs L) [] B = cntB xs L B := by
  have hln := h.len
  have hm := mayN h.may
  have h64 := h.b64
  have e : ∀ a, gotV (flatV xs L) [] a = gotV xs L a := fun a => by
    show (flatV xs L).getD a 0 = _
    by_cases ha : a < xs.length
    · exact Go.Grommet.flat_get h.wl a ha
    · rw [List.getD_eq_getElem?_getD, List.getElem?_eq_none (by rw [flatV_length]; omega)]
      unfold gotV
      have hf : fidx L a = none := fidx_of_not (fun p hp hpa => by have := h.wl.at_ p hp; omega)
      rw [hf]
      show 0 = xs.getD a 0
      rw [List.getD_eq_getElem?_getD, List.getElem?_eq_none (by omega)]
      rfl
  have ef : gotV (flatV xs L) [] = gotV xs L := funext e
  refine ⟨⟨h.may, h64, by rw [flatV_length]; exact hln, flatV_small h.small h.wl.val, Wl.nil _, by rw [ef]; exact h.lk, h.base⟩, ?_⟩
  unfold cntB mbit
  rw [ef]
end Go.Proofs.YtmamgfjnphdecaaDoor
end
section
/- The anchor of layer 13; lists of numbers that are compared; a small geometry. -/
namespace Go.Proofs.YtmamgfjnphdecaaDoor.anchor13
open Go.Ev

def rows : List (Nat × List (List V × V)) := [
  (46, [([(.agg (.cons (.int .i64 1) (.cons (.int .i64 2) (.cons (.int .i64 2) .nil)))), (.int .u8 8), (.int .i64 1)], (.int .i64 504)), ([(.agg (.cons (.int .i64 1) (.cons (.int .i64 2) (.cons (.int .i64 9) .nil)))), (.int .u8 8), (.int .i64 1)], (.int .i64 504)), ([(.agg (.cons (.int .i64 1) (.cons (.int .i64 2) (.cons (.int .i64 9) .nil)))), (.int .u8 6), (.int .i64 0)], (.int .i64 472)), ([(.agg (.cons (.int .i64 1) (.cons (.int .i64 2) (.cons (.int .i64 9) .nil)))), (.int .u8 7), (.int .i64 0)], (.int .i64 480)), ([(.agg (.cons (.int .i64 1) (.cons (.int .i64 2) (.cons (.int .i64 9) .nil)))), (.int .u8 9), (.int .i64 1)], (.int .i64 528)), ([(.agg (.cons (.int .i64 1) (.cons (.int .i64 2) (.cons (.int .i64 9) .nil)))), (.int .u8 9), (.int .i64 2)], (.int .i64 536)), ([(.agg (.cons (.int .i64 1) (.cons (.int .i64 2) (.cons (.int .i64 9) .nil)))), (.int .u8 9), (.int .i64 3)], (.int .i64 544))]),
  (25, [([(.agg (.cons (.int .i64 1) (.cons (.int .i64 2) (.cons (.int .i64 2) .nil)))), (.int .i64 1)], (.int .i64 504)), ([(.agg (.cons (.int .i64 1) (.cons (.int .i64 2) (.cons (.int .i64 9) .nil)))), (.int .i64 1)], (.int .i64 504))]),
  (71, [([(.agg (.cons (.int .u64 2) (.cons (.int .u64 1) (.cons (.int .u64 0) (.cons (.int .u64 0) (.cons (.int .u64 0) (.cons (.int .u64 0) (.cons (.int .u64 0) (.cons (.int .u64 0) (.cons (.int .u64 0) (.cons (.int .u64 0) .nil)))))))))))], (.agg (.cons (.int .u64 2) (.cons (.int .u64 1) (.cons (.int .u64 0) (.cons (.int .u64 0) (.cons (.int .u64 0) (.cons (.int .u64 0) (.cons (.int .u64 0) (.cons (.int .u64 0) (.cons (.int .u64 0) (.cons (.int .u64 0) .nil)))))))))))), ([(.agg (.cons (.int .u64 2) (.cons (.int .u64 1) (.cons (.int .u64 0) (.cons (.int .u64 0) (.cons (.int .u64 3) (.cons (.int .u64 0) (.cons (.int .u64 0) (.cons (.int .u64 0) (.cons (.int .u64 1) (.cons (.int .u64 0) .nil)))))))))))], (.agg (.cons (.int .u64 2) (.cons (.int .u64 1) (.cons (.int .u64 0) (.cons (.int .u64 0) (.cons (.int .u64 3) (.cons (.int .u64 0) (.cons (.int .u64 0) (.cons (.int .u64 0) (.cons (.int .u64 1) (.cons (.int .u64 0) .nil))))))))))))]),
  (34, [([(.agg (.cons (.int .i64 1) (.cons (.int .i64 2) (.cons (.int .i64 9) .nil))))], (.bool true))]),
  (24, [([(.agg (.cons (.int .i64 1) (.cons (.int .i64 2) (.cons (.int .i64 9) .nil))))], (.int .i64 592))]),
  (56, [([(.agg (.cons (.int .i64 1) (.cons (.int .i64 2) (.cons (.int .i64 9) .nil)))), (.agg (.cons (.int .u64 2) (.cons (.int .u64 1) (.cons (.int .u64 0) (.cons (.int .u64 0) (.cons (.int .u64 0) (.cons (.int .u64 0) (.cons (.int .u64 0) (.cons (.int .u64 0) (.cons (.int .u64 0) (.cons (.int .u64 0) .nil)))))))))))], (.bool true)), ([(.agg (.cons (.int .i64 1) (.cons (.int .i64 2) (.cons (.int .i64 9) .nil)))), (.agg (.cons (.int .u64 2) (.cons (.int .u64 1) (.cons (.int .u64 0) (.cons (.int .u64 0) (.cons (.int .u64 3) (.cons (.int .u64 0) (.cons (.int .u64 0) (.cons (.int .u64 0) (.cons (.int .u64 1) (.cons (.int .u64 0) .nil)))))))))))], (.bool true)), ([(.agg (.cons (.int .i64 1) (.cons (.int .i64 2) (.cons (.int .i64 9) .nil)))), (.agg (.cons (.int .u64 2) (.cons (.int .u64 1) (.cons (.int .u64 0) (.cons (.int .u64 0) (.cons (.int .u64 3) (.cons (.int .u64 0) (.cons (.int .u64 0) (.cons (.int .u64 0) (.cons (.int .u64 0) (.cons (.int .u64 0) .nil)))))))))))], (.bool true))]),
  (37, [([(.agg (.cons (.int .i64 1) (.cons (.int .i64 2) (.cons (.int .i64 9) .nil))))], (.int .i64 472))]),
  (38, [([(.agg (.cons (.int .i64 1) (.cons (.int .i64 2) (.cons (.int .i64 9) .nil))))], (.int .i64 480))]),
  (19, [([(.agg (.cons (.int .i64 1) (.cons (.int .i64 2) (.cons (.int .i64 9) .nil)))), (.int .i64 1)], (.int .i64 528)), ([(.agg (.cons (.int .i64 1) (.cons (.int .i64 2) (.cons (.int .i64 9) .nil)))), (.int .i64 2)], (.int .i64 536)), ([(.agg (.cons (.int .i64 1) (.cons (.int .i64 2) (.cons (.int .i64 9) .nil)))), (.int .i64 3)], (.int .i64 544))])]
theorem told : Go.Ev.Told Tryd.prog (tellC rows) := told_table (by kernel_rfl) (told_none _) (n := 100000) (by kernel_rfl)
theorem works_done : isTrueC ((evQ Tryd.prog (tabGl 0) (tellC rows) 100000).call 7 [] (tabHp tab)) = true := by kernel_rfl
end Go.Proofs.YtmamgfjnphdecaaDoor.anchor13
namespace Go.Proofs.YtmamgfjnphdecaaDoor
open Go.RowKit Go.Grommet Go.Ev
theorem works13_tab (w : World) (ht : Lib.TabIs Tryd.prog w "math/bits.deBruijn64tab" .u8 tab) : Calls Tryd.prog 7 #[] w (Go.Ev.WorksIs w) := evQ_true_tab (by kernel_rfl) anchor13.told (by kernel_rfl) anchor13.works_done rfl gTab w ht

/-- Numbers stand where a slice leads. -/
def NAt (w : World) (ad : Option Addr) (xs : List Nat) : Prop := ∀ (j x : Nat), xs[j]? = some x → ∃ b o, ad = some ⟨b, o, none⟩ ∧ w.cell? ⟨b, o + j, none⟩ = some (.int .i64 (x : Int))
theorem NAt.keep {w w' : World} {ad : Option Addr} {xs : List Nat} (h : NAt w ad xs) (hg : w.grownBy w' none) : NAt w' ad xs := fun j x hx => by
  obtain ⟨b, o, ha, hc⟩ := h j x hx
  exact ⟨b, o, ha, hg.cell hc (by simp)⟩
theorem NAt.of {w0 w : World} {Ps : List Pr} (h : Grommet.Own w0 w Ps) (k : Nat) {n cap : Nat} {ad : Option Addr} {xs : List Nat} (hk : Ps[k]? = some (rowP 3 1 (.slice ad n cap) n (xs.map nzv))) : NAt w ad xs := fun j x hx => by
  obtain ⟨b, ha, hc, _, _⟩ := h.cell k hk j (nzv x) (by rw [List.getElem?_map, hx]; rfl)
  exact ⟨b, 0, ha, by rw [Nat.zero_add]; exact hc⟩

set_option maxRecDepth 100000 in
set_option maxHeartbeats 1000000 in
theorem Small_any (x0 x1 : Nat) (w : World) (h0 : x0 ≤ 255) (h1 : x1 ≤ 255) : Calls Tryd.prog 8 #[.int .u8 (x0 : Int), .int .u8 (x1 : Int)] w fun e w' => e = .returned (gv ((1 : Nat) : Int) ((2 + x0 % 20 : Nat) : Int) ((2 + x1 % 60 : Nat) : Int)) ∧ w.grownBy w' none := by
  obtain ⟨I, hI⟩ : ∃ I, 2 + x0 % 20 = I := ⟨_, rfl⟩
  obtain ⟨B, hB⟩ : ∃ B, 2 + x1 % 60 = B := ⟨_, rfl⟩
  have eA : IntKind.i64.wrap (x0 : Int) = (x0 : Int) := IntWalk.i64_in _ ⟨by omega, by omega⟩
  have eA2 : IntKind.i64.wrap (x1 : Int) = (x1 : Int) := IntWalk.i64_in _ ⟨by omega, by omega⟩
  have e3 : IntKind.i64.wrap (2 + (x0 : Int) % 20) = (I : Int) := by rw [IntWalk.i64_in _ ⟨by omega, by omega⟩]; omega
  have e4 : IntKind.i64.wrap (2 + (x1 : Int) % 60) = (B : Int) := by rw [IntWalk.i64_in _ ⟨by omega, by omega⟩]; omega
  have e3' : 2 + (x0 : Int) % 20 = (I : Int) := by omega
  have e4' : 2 + (x1 : Int) % 60 = (B : Int) := by omega
  rw [hI, hB]
  clear hI hB h0 h1
  unfold gv
  go_enter Tryd.func8, Tryd.ntmps8
  go_wp2_with fail
  exact bodyPost_ret (v := .agg #[.int .i64 1, .int .i64 (I : Int), .int .i64 (B : Int)]) (by simp [results, Tryd.results8, go_sem]) rfl ⟨rfl, World.grownBy_alloc w _ none⟩

/-- A new device: nothing is told. -/
theorem Bst.begun {I B : Nat} {ns : Nat → Prop} {xs : List Nat} (hm : mayB ((1 : Nat) : Int) (I : Int) (B : Int) = true) (h64 : B ≤ 64) (hl : xs.length = 488 + 16 * I + 8 * B) (hs : ∀ n ∈ xs, n < 18446744073709551616) (hrg : ∀ n, ns n → 1 ≤ n ∧ n < I) (h480 : xs.getD 480 0 = 1) (hz : ∀ n, ns n → ∀ a, 492 + 16 * n ≤ a → a ≤ 496 + 16 * n → xs.getD a 0 = 0)
    (hb : ∀ n, ns n → rightB ((1 : Nat) : Int) (I : Int) (B : Int) (xs.getD (488 + 16 * n) 0) (xs.getD (489 + 16 * n) 0) (xs.getD (490 + 16 * n) 0) (xs.getD (491 + 16 * n) 0) 0 0 0 0 0 (xs.getD (497 + 16 * n) 0) = true) :
    Bst I B ns (gotV xs []) xs [] (fun _ _ => 0) ∧ cntB xs [] B = 1 ∧ Br ns (fun _ _ => 0) := by
  have hmN := mayN hm
  have g : ∀ a, gotV xs [] a = xs.getD a 0 := fun a => rfl
  have hbit : ∀ m, m < 64 → ((1 : Nat).testBit m = true ↔ m = 0) := fun m _ => by
    rw [show (1 : Nat) = 2 ^ 0 from rfl, Nat.testBit_two_pow]
    simp
    exact eq_comm
  refine ⟨⟨hm, h64, hl, hs, Wl.nil _, ⟨hrg, fun n k _ _ => by show 0 < B; omega, fun n n' k k' _ _ _ _ h _ => absurd rfl h, fun _ _ _ _ _ _ => rfl, fun n k hn hk => hz n hn _ (by omega) (by omega), fun n hn => hz n hn _ (by omega) (by omega), fun n k _ h _ _ => absurd rfl h, fun m hm => ?_, fun a _ _ _ => rfl⟩, hb⟩, ?_, fun n _ h => absurd rfl h⟩
  · rw [g, h480, hbit m hm]
    constructor
    · exact .inl
    · rintro (h | ⟨_, _, _, _, h⟩)
      · exact h
      · exact h.symm
  · unfold cntB
    have e : ∀ i, i < B → mbit xs [] (272 + 208 * 1) i = decide (i < 1) := fun i hi => by
      rw [mbit_480 (by omega), g, h480]
      have := hbit i (by omega)
      by_cases h : i = 0
      · subst h; rfl
      · rw [show decide (i < 1) = false by simp; omega]
        cases hx : (1 : Nat).testBit i
        · rfl
        · exact absurd (this.1 hx) h
    rw [cntF_congr B e]
    have := cntF_clip (fun _ => true) 1 B (by omega)
    simp only [Bool.and_true] at this
    rw [this]; rfl
end Go.Proofs.YtmamgfjnphdecaaDoor
end
