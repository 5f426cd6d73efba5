/- RecordHurt, walked. -/
import Derived.Test.YthcaeepngdohfaaRecF
import Derived.Test.YthcaeepngdohfaaRecMath3
namespace Go.Proofs.Ythcaeepngdohfaa.recordHurt
open Go.RowKit Go.Grommet

set_option maxRecDepth 100000 in
set_option maxHeartbeats 1000000 in
theorem walk_far1 (a b c : Int) (a0 : Option Addr) (l0 c0 : Nat) (a2 a3 : Int) (w : World) (h : 200 < l0) :
    Calls Try.prog 6 #[gv a b c, .slice a0 l0 c0, .int .u16 a2, .int .u64 a3] w (WorksIs w) := by
  have g1 : (200 : Int) < (l0 : Int) := by omega
  unfold gv
  go_enter Try.func6, Try.ntmps6
  go_wp2_with fail
  refine (works_any _).mono ?_
  rintro e w5 ⟨rfl, hg⟩
  go_wp2
  go_ret
  exact ⟨rfl, grown_trans (World.grownBy_alloc w _ none) hg⟩

set_option maxRecDepth 100000 in
set_option maxHeartbeats 1000000 in
theorem walk_no (a b c : Int) (a0 : Option Addr) (l0 c0 : Nat) (a2 a3 : Int) (M : List (Int × Nat)) (w : World) (h0 : ¬ 200 < l0) (hM : Given w a0 l0 M) (hmay : mayW a b c M = false) :
    Calls Try.prog 6 #[gv a b c, .slice a0 l0 c0, .int .u16 a2, .int .u64 a3] w (WorksIs w) := by
  have g0 : ¬ (200 : Int) < (l0 : Int) := by omega
  have hgw := World.grownBy_alloc w (.cells #[.int .i64 a, .int .i64 b, .int .i64 c] 23) none
  have hat := Lib.hid (hM.at_.grown hgw (by simp))
  have hl := Lib.hid hM.len
  have hwf := Lib.hid hM.wf
  have HM := Lib.hid (fun wx (hx : At wx a0 (icells M)) => RMay0_any a b c a0 l0 c0 M wx hx hl.out hwf.out)
  rw [hmay] at HM
  unfold gv at HM ⊢
  clear hM hgw
  have hgw := Lib.hid (World.grownBy_alloc w (.cells #[.int .i64 a, .int .i64 b, .int .i64 c] 23) none)
  go_enter Try.func6, Try.ntmps6
  go_wp2_with fail
  refine (HM.out _ hat.out).mono ?_
  rintro e w5 ⟨rfl, hg5⟩
  have hg := grown_trans hgw.out hg5
  clear hg5 HM
  go_wp2_with fail
  refine (works_any _).mono ?_
  rintro e w6 ⟨rfl, hg6⟩
  go_wp2
  go_ret
  exact ⟨rfl, grown_trans hg hg6⟩

set_option maxRecDepth 100000 in
set_option maxHeartbeats 1000000 in
theorem walk_at (a b c : Int) (a0 : Option Addr) (l0 c0 : Nat) (a2 a3 : Nat) (M : List (Int × Nat)) (w : World) (hM : Given w a0 l0 M) (hmay : mayW a b c M = true) (h2 : a2 < 65536) (h3 : a3 < 18446744073709551616) :
    Calls Try.prog 6 #[gv a b c, .slice a0 l0 c0, .int .u16 (a2 : Int), .int .u64 (a3 : Int)] w (WorksIs w) := by
  have hl96 : l0 ≤ 96 := by
    have hm' := hmay
    unfold mayW at hm'
    rw [decide_eq_true_eq, hM.len] at hm'
    exact hm'.1
  have hn : negB M = false := by
    cases hn : negB M with
    | false => rfl
    | true => rw [mayW_neg hn] at hmay; cases hmay
  have g0 : ¬ (200 : Int) < (l0 : Int) := by omega
  have hF := hM.fine hl96 hn
  obtain ⟨R, HRR⟩ : ∃ R, Hid (recR M = R) := ⟨_, Lib.hid rfl⟩
  obtain ⟨Y, HY⟩ : ∃ Y, Hid (Y = 1 + 2 * l0) := ⟨_, Lib.hid rfl⟩
  obtain ⟨Z, HZ⟩ : ∃ Z, Hid (Z = Y + 1) := ⟨_, Lib.hid rfl⟩
  have Hlen : Hid (R.length = Z) := Lib.hid (by rw [← HRR.out, recR_length, hM.len, HZ.out, HY.out]; omega)
  have Hsm := Lib.hid (recR_small' hF)
  rw [HRR.out] at Hsm
  obtain ⟨C, HC⟩ : ∃ C, Hid (C = a2 % Y) := ⟨_, Lib.hid rfl⟩
  have hC : C < Y := by rw [HC.out]; exact Nat.mod_lt _ (by rw [HY.out]; omega)
  obtain ⟨k, Hk⟩ : ∃ k, Hid (k = 1 + C) := ⟨_, Lib.hid rfl⟩
  have hk0 : 0 < k := by rw [Hk.out]; omega
  have hkZ : k < Z := by rw [Hk.out, HZ.out]; omega
  have hZM : Z = 2 + 2 * M.length := by rw [hM.len, HZ.out, HY.out]; omega
  have eN : (2 : Int) + 2 * (l0 : Int) = (Z : Int) := by rw [HZ.out, HY.out]; omega
  have eY : (Z : Int) - 1 = (Y : Int) := by rw [HZ.out]; omega
  have eY0 : ((Y : Int) == 0) = false := by rw [beq_eq_false_iff_ne, HY.out]; omega
  have eC : (a2 : Int).tmod (Y : Int) = (C : Int) := by rw [HC.out, Int.tmod_eq_emod_of_nonneg (by omega), Int.natCast_emod]
  have ek : (1 : Int) + (C : Int) = (k : Int) := by rw [Hk.out]; omega
  have ekZ : (k : Int) < (Z : Int) := by omega
  have wa : IntKind.i64.wrap (a2 : Int) = (a2 : Int) := IntWalk.i64_in _ ⟨by omega, by omega⟩
  obtain ⟨U, HU⟩ : ∃ U, Hid (U = R.getD k 0) := ⟨_, Lib.hid rfl⟩
  have hU : U < 18446744073709551616 := by rw [HU.out]; exact Hsm.out _ (getD_mem R k 0 (by rw [Hlen.out]; exact hkZ))
  obtain ⟨V, HV⟩ : ∃ V, Hid (V = U ^^^ a3) := ⟨_, Lib.hid rfl⟩
  have hV : V < 18446744073709551616 := by rw [HV.out]; exact xor_lt U a3 hU h3
  have wx : bits .xor .u64 (U : Int) (a3 : Int) = (V : Int) := by rw [HV.out]; exact bits_xor_u64_nat _ _ hU h3
  obtain ⟨XS, HXS⟩ : ∃ XS, Hid (R.set k V = XS) := ⟨_, Lib.hid rfl⟩
  obtain ⟨XK, HXK⟩ : ∃ XK, Hid (R.take k = XK) := ⟨_, Lib.hid rfl⟩
  have HX2 : Hid (∀ n ∈ XS, n < 18446744073709551616) := Lib.hid (fun n hn => by
    rw [← HXS.out] at hn
    rcases List.mem_or_eq_of_mem_set hn with h | h
    · exact Hsm.out n h
    · rw [h]; exact hV)
  have HmkP : Hid (markV XK = 0) := Lib.hid (by rw [← HXK.out, ← HRR.out]; exact mark_part k hk0 (by omega))
  have HrdP : Hid (readB a b c XK = false) := Lib.hid (by rw [← HXK.out, ← HRR.out]; exact read_part a b c k hk0 (by omega))
  have HrdS : Hid (a3 = 0 → readB a b c XS = true ∧ writesR XS l0 = M ∧ XS.getD 0 0 = l0) := Lib.hid (fun e => by
    have hx : XS = recR M := by rw [← HXS.out, HV.out, HU.out, e, Nat.xor_zero, set_same, HRR.out]
    have h1 := read_back hF [] a b c
    have h2 := writes_back hF []
    rw [List.append_nil] at h1 h2
    rw [hx]
    exact ⟨by rw [h1, hmay], by rw [← hM.len]; exact h2, by rw [recR_head, hM.len]⟩)
  have HrdN : Hid (a3 ≠ 0 → readB a b c XS = false) := Lib.hid (fun e => by
    rw [← HXS.out, ← HRR.out]
    refine read_hurt hF a b c k V hk0 (by omega) hV ?_
    rw [HRR.out, ← HU.out, HV.out]
    intro h
    exact e (xor_cancel_left U a3 0 (by rw [h, Nat.xor_zero])))
  have HW := Lib.hid (fun wx (hx : At wx a0 (icells M)) => Words_at a0 l0 c0 M R Z wx hx hM.len hl96 hM.bd hn HRR.out Hlen.out)
  have hZ200 : Z ≤ 200 := by have := HZ.out; have := HY.out; omega
  have hgw := Lib.hid (World.grownBy_alloc w (.cells #[.int .i64 a, .int .i64 b, .int .i64 c] 23) none)
  have hG : GeoS w.heap.size a b c (w.alloc (.cells #[.int .i64 a, .int .i64 b, .int .i64 c] 23)) := heap_alloc_new w _
  obtain ⟨G, HGe⟩ : ∃ G, Hid (G = w.heap.size) := ⟨_, Lib.hid rfl⟩
  rw [← HGe.out] at hG
  have hat := Lib.hid (hM.at_.grown hgw.out (by simp))
  have hl := Lib.hid hM.len
  have hwf := Lib.hid hM.wf
  replace hG := Lib.hid hG
  have HM := Lib.hid (fun wx (hx : At wx a0 (icells M)) => RMay0_any a b c a0 l0 c0 M wx hx hl.out hwf.out)
  rw [hmay] at HM
  clear hF hM hn hmay hZM HRR
  unfold gv at HM ⊢
  go_enter Try.func6, Try.ntmps6
  go_wp2_with fail
  refine (HM.out _ hat.out).mono ?_
  rintro e w0 ⟨rfl, hg0⟩
  clear HM
  have hgr := grown_trans hgw.out hg0
  replace hG := Lib.hid (hG.out.keep hg0)
  replace hat := Lib.hid (hat.out.grown hg0 (by simp))
  clear hg0 hgw
  go_wp2_with fail
  refine (HW.out _ hat.out).mono ?_
  rintro e w1 ⟨ad1, cp1, rfl, hrow, hg1⟩
  clear HW
  have hO : Own w w1 [rowP 27 1 (.slice ad1 Z cp1) Z (R.map wv)] := ((Own.nil w).quiet hgr).addRow hrow hg1
  obtain ⟨hx1, _, hlc1⟩ := Own.words hO 0 rfl Hsm.out (by omega)
  obtain ⟨q1, o1, rfl⟩ := Words.lit hx1 (by omega)
  replace hG := Lib.hid (hG.out.keep hg1)
  replace hat := Lib.hid (hat.out.grown hg1 (by simp))
  have hxk : Words w1 (some ⟨q1, o1, none⟩) k XK := ⟨by rw [← HXK.out, List.length_take, Hlen.out]; omega, fun n hn => Hsm.out n (by rw [← HXK.out] at hn; exact List.mem_of_mem_take hn), by
    have := hx1.at_
    rw [← List.take_append_drop k R, List.map_append, HXK.out] at this
    exact at_prefix this, by omega⟩
  replace hxk := Lib.hid hxk
  clear hgr hrow hg1
  go_wp2_with (at_builtin; refine app64 rfl _ _ rfl w1.heap.size _ 0 [] rfl (own_lit w1 _ 1 _ (Nat.le_refl _)) (some ⟨q1, o1, none⟩) Z cp1 R rfl ?a1 (by simp) ?a2 ?a3 ?_)
  case a1 => exact hx1.keep (World.grownBy_alloc w1 _ none) (by simp)
  case a2 => omega
  case a3 => simp
  intro v1 w4 hown hg4
  have hg4 := grown_new (World.grownBy_alloc w1 _ none) hg4 (by intro g e; cases e; exact Nat.le_refl _)
  try rw [List.nil_append, Nat.zero_add] at hown
  obtain ⟨ad2, cp2, rfl, _⟩ := row_slice hown
  have hO : Own w w4 [rowP 27 1 (.slice (some ⟨q1, o1, none⟩) Z cp1) Z (R.map wv), rowP 27 1 (.slice ad2 Z cp2) Z (R.map wv)] := hO.addRow hown hg4
  obtain ⟨b3, rfl, cK, fK, hlc2⟩ := Own.cell hO 1 rfl k (wv U) (by rw [List.getElem?_map, List.getElem?_eq_getElem (by rw [Hlen.out]; exact hkZ), HU.out, List.getD_eq_getElem?_getD, List.getElem?_eq_getElem (by rw [Hlen.out]; exact hkZ)]; rfl)
  unfold wv at cK
  have hnew := (hown.lt b3 rfl).1
  have hqq := hx1.old (by intro e; rw [e] at Hlen; have := Hlen.out; simp at this; omega) _ rfl
  have hG4 := hG.out.keep hg4
  have hat4 := hat.out.grown hg4 (by simp)
  have hxk4 := hxk.out.keep hg4 (by simp)
  have hgs := grown_setCell w4 ⟨b3, k, none⟩ (.int .u64 (V : Int))
  have hGl := lt_of_block hG.out
  have hG5 : GeoS G a b c (w4.setCell ⟨b3, k, none⟩ (.int .u64 (V : Int))) := (hgs.block G (lt_of_block hG4) (by intro e; injection e with e; change G = b3 at e; omega)).trans hG4
  have hO : Own w (w4.setCell ⟨b3, k, none⟩ (.int .u64 (V : Int))) [rowP 27 1 (.slice (some ⟨q1, o1, none⟩) Z cp1) Z (R.map wv), rowP 27 1 (.slice (some ⟨b3, 0, none⟩) Z cp2) Z ((R.map wv).set k (wv V))] := Own.store hO 1 rfl k (wv V)
  rw [← List.map_set, HXS.out] at hO
  obtain ⟨hxs5, _, _⟩ := Own.words hO 1 rfl HX2.out (by omega)
  have hat5 := hat4.grown hgs (fun p hp hne e => by
    injection e with e
    change p.block = b3 at e
    have := old_block hat.out hne p hp
    omega)
  have hxk5 : Words (w4.setCell ⟨b3, k, none⟩ (.int .u64 (V : Int))) (some ⟨q1, o1, none⟩) k XK := hxk4.keep hgs (fun p hp hne e => by
    injection e with e
    cases hp
    change q1 = b3 at e
    change q1 < _ at hqq
    omega)
  have hgr5 := hO.grown
  obtain ⟨y0, y1, y2⟩ := GeoS.cells hG5
  replace hG5 := Lib.hid hG5
  replace hat5 := Lib.hid hat5
  replace hxk5 := Lib.hid hxk5
  replace hxs5 := Lib.hid hxs5
  replace hgr5 := Lib.hid hgr5
  clear hO hG hat hxk hown hg4 hgs hGl hG4 hat4 hxk4 hx1 hnew hqq
  rw [← HGe.out]
  have hsl := fun wx => slice_to_lit (P := Try.prog) 25 27 Try.underlying25 Try.sizeOf27 q1 o1 Z cp1 k (by omega) wx
  have HRk := Lib.hid (fun wx (hx : Words wx (some ⟨q1, o1, none⟩) k XK) => Read_no a b c (some ⟨q1, o1, none⟩) k cp1 XK wx hx (by omega) HrdP.out)
  unfold gv at HRk
  by_cases hb0 : a3 = 0
  · obtain ⟨hr1, hr2, hr3⟩ := HrdS.out hb0
    have HRd := Lib.hid (Read_yes (w4.setCell ⟨b3, k, none⟩ (.int .u64 (V : Int))).heap.size a b c (some ⟨b3, 0, none⟩) Z cp2 XS l0 M _ hxs5.out hlc2 (Nat.le_refl _) hr1 hr3 hr2)
    unfold gv at HRd
    have hb1 : ((a3 : Int) == 0) = true := by simpa using hb0
    clear hr1 hr2 hr3 hb0
    go_wp2_with fail
    refine HRd.out.mono ?_
    rintro e wa ⟨ad5, cp5, rfl, hrow5, hga⟩
    clear HRd y0 y1 y2 cK fK
    obtain ⟨ad5', cp5', he5, ht5, _, _⟩ := row_slice hrow5
    cases he5
    have HGa := Lib.hid ((hG5.out.keep hga).keep (grown_drew (World.grownBy.refl _ none)))
    have hxa := Lib.hid (hxk5.out.keep hga (by simp))
    have hgra := Lib.hid (grown_trans hgr5.out hga)
    have hat6 := hat5.out.grown hga (by simp)
    have hata := Lib.hid ht5
    replace hat6 := Lib.hid hat6
    clear hga hrow5 ht5
    go_wp2_with fail
    refine wp_region_held_drew (S := fun w' => GeoS G a b c w') (by kernel_rfl) (HGa.out) (fun hS => ?_)
    refine wpAnyH_take (i := 0) (oi := { dst := some 69, op := Op.load 23 (Operand.tmp 4), type := 23, pos := "more.go:41", after := #[], guard := none }) (v := ?vra6r10o0) rfl (by kernel_rfl) (by kernel_rfl) (by kernel_rfl) (fun _ _ _ h => h) (Or.inl ⟨by rfl, ?hra6r10o0⟩) hS ?_
    case hra6r10o0 => (intro wx hx; obtain ⟨y0, y1, y2⟩ := GeoS.cells hx; go_simp; (try with_reducible rfl))
    try simp only [Act.put, List.setIfInBounds_toArray, List.set_cons_zero, List.set_cons_succ]
    refine wpAnyH_take (i := 1) (oi := { dst := some 70, op := Op.move (Operand.tmp 9), type := 25, pos := "more.go:41", after := #[], guard := none }) (v := ?vra6r10o1) rfl (by kernel_rfl) (by kernel_rfl) (by kernel_rfl) (fun _ _ _ h => h) (Or.inl ⟨by rfl, ?hra6r10o1⟩) hS ?_
    case hra6r10o1 => (intro wx hx; skip; go_simp; (try with_reducible rfl))
    try simp only [Act.put, List.setIfInBounds_toArray, List.set_cons_zero, List.set_cons_succ]
    refine wpAnyH_take (i := 2) (oi := { dst := some 71, op := Op.move (Operand.tmp 11), type := 3, pos := "more.go:41", after := #[], guard := none }) (v := ?vra6r10o2) rfl (by kernel_rfl) (by kernel_rfl) (by kernel_rfl) (fun _ _ _ h => h) (Or.inl ⟨by rfl, ?hra6r10o2⟩) hS ?_
    case hra6r10o2 => (intro wx hx; skip; go_simp; (try with_reducible rfl))
    try simp only [Act.put, List.setIfInBounds_toArray, List.set_cons_zero, List.set_cons_succ]
    refine wpAnyH_take (i := 3) (oi := { dst := some 72, op := Op.slice 25 (Operand.tmp 70) none (some (Operand.tmp 71)) none, type := 25, pos := "more.go:41", after := #[{ on := 1, ground := Ground.data }, { on := 2, ground := Ground.data }], guard := none }) (v := ?vra6r10o3) rfl (by kernel_rfl) (by kernel_rfl) (by kernel_rfl) (fun _ _ _ h => h) (Or.inl ⟨by rfl, ?hra6r10o3⟩) hS ?_
    case hra6r10o3 => (intro wx hx; obtain ⟨y0, y1, y2⟩ := GeoS.cells hx; go_simp; (try with_reducible rfl))
    try simp only [Act.put, List.setIfInBounds_toArray, List.set_cons_zero, List.set_cons_succ]
    refine wpAnyH_ready (rs := [4]) (by kernel_rfl) (by simp) ?_
    refine AllReadyH.cons (o := { dst := some 73, op := Op.call { callee := Callee.value (Operand.func 14), args := #[Operand.tmp 69, Operand.tmp 72], argTypes := #[23, 25] }, type := 37, pos := "more.go:41", after := #[{ on := 0, ground := Ground.data }, { on := 3, ground := Ground.data }], guard := none }) rfl (fun K hK => ?_) AllReadyH.nil
    go_simp
    refine (HRk.out _ (hxa.out.keep (grown_drew (World.grownBy.refl _ none)) (by simp))).mono ?_
    rintro e wB ⟨rfl, hgB⟩
    have hS1 := GeoS.keep hS hgB
    have hgB5 := grown_trans (grown_drew (World.grownBy.refl _ none)) hgB
    refine hK.out _ _ ?hsra6r10o4 (fun hS => ?_)
    case hsra6r10o4 => (exact hS1)
    clear hK K
    try simp only [Act.put, List.setIfInBounds_toArray, List.set_cons_zero, List.set_cons_succ]
    refine wpAnyH_take (i := 5) (oi := { dst := some 68, op := Op.move (Operand.tmp 73), type := 37, pos := "more.go:41", after := #[{ on := 4, ground := Ground.data }], guard := none }) (v := ?vra6r10o5) rfl (by kernel_rfl) (by kernel_rfl) (by kernel_rfl) (fun _ _ _ h => h) (Or.inl ⟨by rfl, ?hra6r10o5⟩) hS ?_
    case hra6r10o5 => (intro wx hx; skip; go_simp; (try with_reducible rfl))
    try simp only [Act.put, List.setIfInBounds_toArray, List.set_cons_zero, List.set_cons_succ]
    refine wpAnyH_take (i := 6) (oi := { dst := some 74, op := Op.extract (Operand.tmp 68) 0, type := 24, pos := "more.go:41", after := #[{ on := 5, ground := Ground.data }], guard := none }) (v := ?vra6r10o6) rfl (by kernel_rfl) (by kernel_rfl) (by kernel_rfl) (fun _ _ _ h => h) (Or.inl ⟨by rfl, ?hra6r10o6⟩) hS ?_
    case hra6r10o6 => (intro wx hx; skip; go_simp; (try with_reducible rfl))
    try simp only [Act.put, List.setIfInBounds_toArray, List.set_cons_zero, List.set_cons_succ]
    refine wpAnyH_take (i := 7) (oi := { dst := some 75, op := Op.extract (Operand.tmp 68) 1, type := 30, pos := "more.go:41", after := #[{ on := 5, ground := Ground.data }, { on := 8, ground := Ground.gcOnly Departure.lateStores }], guard := none }) (v := ?vra6r10o7) rfl (by kernel_rfl) (by kernel_rfl) (by kernel_rfl) (fun _ _ _ h => h) (Or.inl ⟨by rfl, ?hra6r10o7⟩) hS ?_
    case hra6r10o7 => (intro wx hx; skip; go_simp; (try with_reducible rfl))
    try simp only [Act.put, List.setIfInBounds_toArray, List.set_cons_zero, List.set_cons_succ]
    refine wpAnyH_take (i := 8) (oi := { dst := some 15, op := Op.assign (Operand.tmp 74), type := 24, pos := "more.go:41", after := #[{ on := 6, ground := Ground.data }, { on := 4, ground := Ground.chain }, { on := 0, ground := Ground.phase }, { on := 1, ground := Ground.phase }, { on := 2, ground := Ground.phase }, { on := 3, ground := Ground.phase }, { on := 4, ground := Ground.phase }, { on := 5, ground := Ground.phase }, { on := 6, ground := Ground.phase }, { on := 7, ground := Ground.textOnly Departure.lateStores }], guard := none }) (v := ?vra6r10o8) rfl (by kernel_rfl) (by kernel_rfl) (by kernel_rfl) (fun _ _ _ h => h) (Or.inl ⟨by rfl, ?hra6r10o8⟩) hS ?_
    case hra6r10o8 => (intro wx hx; skip; go_simp; (try with_reducible rfl))
    try simp only [Act.put, List.setIfInBounds_toArray, List.set_cons_zero, List.set_cons_succ]
    refine wpAnyH_take (i := 9) (oi := { dst := some 16, op := Op.assign (Operand.tmp 75), type := 30, pos := "more.go:41", after := #[{ on := 7, ground := Ground.data }, { on := 8, ground := Ground.chain }, { on := 0, ground := Ground.phase }, { on := 1, ground := Ground.phase }, { on := 2, ground := Ground.phase }, { on := 3, ground := Ground.phase }, { on := 4, ground := Ground.phase }, { on := 5, ground := Ground.phase }, { on := 6, ground := Ground.phase }, { on := 7, ground := Ground.phase }, { on := 8, ground := Ground.phase }], guard := none }) (v := ?vra6r10o9) rfl (by kernel_rfl) (by kernel_rfl) (by kernel_rfl) (fun _ _ _ h => h) (Or.inl ⟨by rfl, ?hra6r10o9⟩) hS ?_
    case hra6r10o9 => (intro wx hx; skip; go_simp; (try with_reducible rfl))
    try simp only [Act.put, List.setIfInBounds_toArray, List.set_cons_zero, List.set_cons_succ]
    refine wpAnyH_done (by kernel_rfl) ?_ _
    have hat7 := hat6.out.grown hgB5 (by simp)
    have hat8 := hata.out.grown hgB5 (by simp)
    have HSm := Lib.hid (fun wx (h1 : At wx ad5 (icells M)) (h2 : At wx a0 (icells M)) => SameI_any ad5 a0 l0 l0 cp5 c0 M M wx h1 h2 hl.out hl.out (by omega))
    rw [decide_eq_true rfl] at HSm
    have hxB := Lib.hid (hxa.out.keep hgB5 (by simp))
    have hg := grown_trans hgra.out hgB5
    replace hat7 := Lib.hid hat7
    replace hat8 := Lib.hid hat8
    clear hS hgB5 hgB hS1
    go_wp2_with fail
    refine (HSm.out _ hat8.out hat7.out).mono ?_
    rintro e wC ⟨rfl, hgC⟩
    have hgC5 := grown_trans hg hgC
    have HMk := Lib.hid (Mark_any (some ⟨q1, o1, none⟩) k cp1 XK wC (hxB.out.keep hgC (by simp)) (by omega))
    rw [HmkP.out] at HMk
    clear hgC HSm
    go_wp2_with fail
    refine HMk.out.mono ?_
    rintro e wD ⟨rfl, hgD⟩
    have hgD5 := grown_trans hgC5 hgD
    clear hgD HMk
    go_wp2_with fail
    refine (works_any _).mono ?_
    rintro e w6 ⟨rfl, hg6⟩
    go_wp2
    go_ret
    exact ⟨rfl, grown_trans hgD5 hg6⟩
  · have hr1 := HrdN.out hb0
    have HRd := Lib.hid (Read_no a b c (some ⟨b3, 0, none⟩) Z cp2 XS _ hxs5.out hlc2 hr1)
    unfold gv at HRd
    have hb1 : ((a3 : Int) == 0) = false := by simpa using hb0
    clear hr1 hb0
    go_wp2_with fail
    refine HRd.out.mono ?_
    rintro e wa ⟨rfl, hga⟩
    clear HRd y0 y1 y2 cK fK
    have HGa := Lib.hid ((hG5.out.keep hga).keep (grown_drew (World.grownBy.refl _ none)))
    have hxa := Lib.hid (hxk5.out.keep hga (by simp))
    have hgra := Lib.hid (grown_trans hgr5.out hga)
    clear hga
    go_wp2_with fail
    refine wp_region_held_drew (S := fun w' => GeoS G a b c w') (by kernel_rfl) (HGa.out) (fun hS => ?_)
    refine wpAnyH_take (i := 0) (oi := { dst := some 69, op := Op.load 23 (Operand.tmp 4), type := 23, pos := "more.go:41", after := #[], guard := none }) (v := ?vrb6r10o0) rfl (by kernel_rfl) (by kernel_rfl) (by kernel_rfl) (fun _ _ _ h => h) (Or.inl ⟨by rfl, ?hrb6r10o0⟩) hS ?_
    case hrb6r10o0 => (intro wx hx; obtain ⟨y0, y1, y2⟩ := GeoS.cells hx; go_simp; (try with_reducible rfl))
    try simp only [Act.put, List.setIfInBounds_toArray, List.set_cons_zero, List.set_cons_succ]
    refine wpAnyH_take (i := 1) (oi := { dst := some 70, op := Op.move (Operand.tmp 9), type := 25, pos := "more.go:41", after := #[], guard := none }) (v := ?vrb6r10o1) rfl (by kernel_rfl) (by kernel_rfl) (by kernel_rfl) (fun _ _ _ h => h) (Or.inl ⟨by rfl, ?hrb6r10o1⟩) hS ?_
    case hrb6r10o1 => (intro wx hx; skip; go_simp; (try with_reducible rfl))
    try simp only [Act.put, List.setIfInBounds_toArray, List.set_cons_zero, List.set_cons_succ]
    refine wpAnyH_take (i := 2) (oi := { dst := some 71, op := Op.move (Operand.tmp 11), type := 3, pos := "more.go:41", after := #[], guard := none }) (v := ?vrb6r10o2) rfl (by kernel_rfl) (by kernel_rfl) (by kernel_rfl) (fun _ _ _ h => h) (Or.inl ⟨by rfl, ?hrb6r10o2⟩) hS ?_
    case hrb6r10o2 => (intro wx hx; skip; go_simp; (try with_reducible rfl))
    try simp only [Act.put, List.setIfInBounds_toArray, List.set_cons_zero, List.set_cons_succ]
    refine wpAnyH_take (i := 3) (oi := { dst := some 72, op := Op.slice 25 (Operand.tmp 70) none (some (Operand.tmp 71)) none, type := 25, pos := "more.go:41", after := #[{ on := 1, ground := Ground.data }, { on := 2, ground := Ground.data }], guard := none }) (v := ?vrb6r10o3) rfl (by kernel_rfl) (by kernel_rfl) (by kernel_rfl) (fun _ _ _ h => h) (Or.inl ⟨by rfl, ?hrb6r10o3⟩) hS ?_
    case hrb6r10o3 => (intro wx hx; obtain ⟨y0, y1, y2⟩ := GeoS.cells hx; go_simp; (try with_reducible rfl))
    try simp only [Act.put, List.setIfInBounds_toArray, List.set_cons_zero, List.set_cons_succ]
    refine wpAnyH_ready (rs := [4]) (by kernel_rfl) (by simp) ?_
    refine AllReadyH.cons (o := { dst := some 73, op := Op.call { callee := Callee.value (Operand.func 14), args := #[Operand.tmp 69, Operand.tmp 72], argTypes := #[23, 25] }, type := 37, pos := "more.go:41", after := #[{ on := 0, ground := Ground.data }, { on := 3, ground := Ground.data }], guard := none }) rfl (fun K hK => ?_) AllReadyH.nil
    go_simp
    refine (HRk.out _ (hxa.out.keep (grown_drew (World.grownBy.refl _ none)) (by simp))).mono ?_
    rintro e wB ⟨rfl, hgB⟩
    have hS1 := GeoS.keep hS hgB
    have hgB5 := grown_trans (grown_drew (World.grownBy.refl _ none)) hgB
    refine hK.out _ _ ?hsrb6r10o4 (fun hS => ?_)
    case hsrb6r10o4 => (exact hS1)
    clear hK K
    try simp only [Act.put, List.setIfInBounds_toArray, List.set_cons_zero, List.set_cons_succ]
    refine wpAnyH_take (i := 5) (oi := { dst := some 68, op := Op.move (Operand.tmp 73), type := 37, pos := "more.go:41", after := #[{ on := 4, ground := Ground.data }], guard := none }) (v := ?vrb6r10o5) rfl (by kernel_rfl) (by kernel_rfl) (by kernel_rfl) (fun _ _ _ h => h) (Or.inl ⟨by rfl, ?hrb6r10o5⟩) hS ?_
    case hrb6r10o5 => (intro wx hx; skip; go_simp; (try with_reducible rfl))
    try simp only [Act.put, List.setIfInBounds_toArray, List.set_cons_zero, List.set_cons_succ]
    refine wpAnyH_take (i := 6) (oi := { dst := some 74, op := Op.extract (Operand.tmp 68) 0, type := 24, pos := "more.go:41", after := #[{ on := 5, ground := Ground.data }], guard := none }) (v := ?vrb6r10o6) rfl (by kernel_rfl) (by kernel_rfl) (by kernel_rfl) (fun _ _ _ h => h) (Or.inl ⟨by rfl, ?hrb6r10o6⟩) hS ?_
    case hrb6r10o6 => (intro wx hx; skip; go_simp; (try with_reducible rfl))
    try simp only [Act.put, List.setIfInBounds_toArray, List.set_cons_zero, List.set_cons_succ]
    refine wpAnyH_take (i := 7) (oi := { dst := some 75, op := Op.extract (Operand.tmp 68) 1, type := 30, pos := "more.go:41", after := #[{ on := 5, ground := Ground.data }, { on := 8, ground := Ground.gcOnly Departure.lateStores }], guard := none }) (v := ?vrb6r10o7) rfl (by kernel_rfl) (by kernel_rfl) (by kernel_rfl) (fun _ _ _ h => h) (Or.inl ⟨by rfl, ?hrb6r10o7⟩) hS ?_
    case hrb6r10o7 => (intro wx hx; skip; go_simp; (try with_reducible rfl))
    try simp only [Act.put, List.setIfInBounds_toArray, List.set_cons_zero, List.set_cons_succ]
    refine wpAnyH_take (i := 8) (oi := { dst := some 15, op := Op.assign (Operand.tmp 74), type := 24, pos := "more.go:41", after := #[{ on := 6, ground := Ground.data }, { on := 4, ground := Ground.chain }, { on := 0, ground := Ground.phase }, { on := 1, ground := Ground.phase }, { on := 2, ground := Ground.phase }, { on := 3, ground := Ground.phase }, { on := 4, ground := Ground.phase }, { on := 5, ground := Ground.phase }, { on := 6, ground := Ground.phase }, { on := 7, ground := Ground.textOnly Departure.lateStores }], guard := none }) (v := ?vrb6r10o8) rfl (by kernel_rfl) (by kernel_rfl) (by kernel_rfl) (fun _ _ _ h => h) (Or.inl ⟨by rfl, ?hrb6r10o8⟩) hS ?_
    case hrb6r10o8 => (intro wx hx; skip; go_simp; (try with_reducible rfl))
    try simp only [Act.put, List.setIfInBounds_toArray, List.set_cons_zero, List.set_cons_succ]
    refine wpAnyH_take (i := 9) (oi := { dst := some 16, op := Op.assign (Operand.tmp 75), type := 30, pos := "more.go:41", after := #[{ on := 7, ground := Ground.data }, { on := 8, ground := Ground.chain }, { on := 0, ground := Ground.phase }, { on := 1, ground := Ground.phase }, { on := 2, ground := Ground.phase }, { on := 3, ground := Ground.phase }, { on := 4, ground := Ground.phase }, { on := 5, ground := Ground.phase }, { on := 6, ground := Ground.phase }, { on := 7, ground := Ground.phase }, { on := 8, ground := Ground.phase }], guard := none }) (v := ?vrb6r10o9) rfl (by kernel_rfl) (by kernel_rfl) (by kernel_rfl) (fun _ _ _ h => h) (Or.inl ⟨by rfl, ?hrb6r10o9⟩) hS ?_
    case hrb6r10o9 => (intro wx hx; skip; go_simp; (try with_reducible rfl))
    try simp only [Act.put, List.setIfInBounds_toArray, List.set_cons_zero, List.set_cons_succ]
    refine wpAnyH_done (by kernel_rfl) ?_ _
    have HMk := Lib.hid (Mark_any (some ⟨q1, o1, none⟩) k cp1 XK wB (hxa.out.keep hgB5 (by simp)) (by omega))
    rw [HmkP.out] at HMk
    have hg := grown_trans hgra.out hgB5
    clear hS hgB5 hgB hS1
    go_wp2_with fail
    refine HMk.out.mono ?_
    rintro e wD ⟨rfl, hgD⟩
    have hgD5 := grown_trans hg hgD
    clear hgD HMk
    go_wp2_with fail
    refine (works_any _).mono ?_
    rintro e w6 ⟨rfl, hg6⟩
    go_wp2
    go_ret
    exact ⟨rfl, grown_trans hgD5 hg6⟩

theorem walk (a b c : Int) (a0 : Option Addr) (l0 c0 : Nat) (z0 : List Wrt) (a2 a3 : Int) (w : World) (_ : (Lit.int .i64 a).wf = true) (_ : (Lit.int .i64 b).wf = true) (_ : (Lit.int .i64 c).wf = true) (w0 : WrtsIn w a0 l0 z0) (w2 : (Lit.int .u16 a2).wf = true) (w3 : (Lit.int .u64 a3).wf = true) :
    Calls Try.prog 6 #[.agg #[.int .i64 a, .int .i64 b, .int .i64 c], .slice a0 l0 c0, .int .u16 a2, .int .u64 a3] w (WorksIs w) := by
  obtain ⟨M, hM⟩ := wrts_given w0
  have b2 := bounds_u16 w2
  have b3 := bounds_u64 w3
  obtain ⟨v2, rfl⟩ := Int.eq_ofNat_of_zero_le b2.1
  obtain ⟨v3, rfl⟩ := Int.eq_ofNat_of_zero_le b3.1
  by_cases h0 : 200 < l0
  · exact walk_far1 a b c a0 l0 c0 _ _ w h0
  · cases hm : mayW a b c M with
    | false => exact walk_no a b c a0 l0 c0 _ _ M w h0 hM hm
    | true => exact walk_at a b c a0 l0 c0 v2 v3 M w hM hm (by omega) (by omega)
end Go.Proofs.Ythcaeepngdohfaa.recordHurt
