/- RecordBack, walked. -/
import Derived.Test.YthcaeepngdohfaaRecF
namespace Go.Proofs.Ythcaeepngdohfaa.recordBack
open Go.RowKit Go.Grommet

set_option maxRecDepth 100000 in
set_option maxHeartbeats 1000000 in
theorem walk_far1 (a b c : Int) (a0 : Option Addr) (l0 c0 : Nat) (a1 : Option Addr) (l1 c1 : Nat) (w : World) (h : 200 < l0) :
    Calls Try.prog 4 #[gv a b c, .slice a0 l0 c0, .slice a1 l1 c1] w (WorksIs w) := by
  have g1 : (200 : Int) < (l0 : Int) := by omega
  unfold gv
  go_enter Try.func4, Try.ntmps4
  go_wp2_with fail
  refine (works_any _).mono ?_
  rintro e w5 ⟨rfl, hg⟩
  go_wp2
  go_ret
  exact ⟨rfl, grown_trans (World.grownBy_alloc w _ none) hg⟩
set_option maxRecDepth 100000 in
set_option maxHeartbeats 1000000 in
theorem walk_far2 (a b c : Int) (a0 : Option Addr) (l0 c0 : Nat) (a1 : Option Addr) (l1 c1 : Nat) (w : World) (h0 : ¬ 200 < l0) (h : 100 < l1) :
    Calls Try.prog 4 #[gv a b c, .slice a0 l0 c0, .slice a1 l1 c1] w (WorksIs w) := by
  have g0 : ¬ (200 : Int) < (l0 : Int) := by omega
  have g1 : (100 : Int) < (l1 : Int) := by omega
  unfold gv
  go_enter Try.func4, Try.ntmps4
  go_wp2_with fail
  refine (works_any _).mono ?_
  rintro e w5 ⟨rfl, hg⟩
  go_wp2
  go_ret
  exact ⟨rfl, grown_trans (World.grownBy_alloc w _ none) hg⟩

set_option maxRecDepth 100000 in
set_option maxHeartbeats 1000000 in
theorem walk_no (en : Int) (he : en = 1 ∨ en = 5) (a b c : Int) (a0 : Option Addr) (l0 c0 : Nat) (a1 : Option Addr) (l1 c1 : Nat) (M : List (Int × Nat)) (w : World) (h0 : ¬ 200 < l0) (h : ¬ 100 < l1) (hM : Given w a0 l0 M)
    (hW : ∀ wx, At wx a0 (icells M) → Calls Try.prog 9 #[.slice a0 l0 c0] wx (WordsNo en wx)) (hmay : mayW a b c M = false) :
    Calls Try.prog 4 #[gv a b c, .slice a0 l0 c0, .slice a1 l1 c1] w (WorksIs w) := by
  have g0 : ¬ (200 : Int) < (l0 : Int) := by omega
  have g1 : ¬ (100 : Int) < (l1 : Int) := by omega
  have ge : (en != 0) = true := by rcases he with rfl | rfl <;> rfl
  have HW := Lib.hid hW
  have hgw := World.grownBy_alloc w (.cells #[.int .i64 a, .int .i64 b, .int .i64 c] 23) none
  have hG : GeoS w.heap.size a b c (w.alloc (.cells #[.int .i64 a, .int .i64 b, .int .i64 c] 23)) := heap_alloc_new w _
  have hat := Lib.hid (hM.at_.grown hgw (by simp))
  have hl := Lib.hid hM.len
  have hwf := Lib.hid hM.wf
  replace hG := Lib.hid hG
  have HM := Lib.hid (fun wx (hx : At wx a0 (icells M)) => RMay0_any a b c a0 l0 c0 M wx hx hl.out hwf.out)
  rw [hmay] at HM
  unfold gv at HM ⊢
  clear hM hW hgw
  have hgw := Lib.hid (World.grownBy_alloc w (.cells #[.int .i64 a, .int .i64 b, .int .i64 c] 23) none)
  go_enter Try.func4, Try.ntmps4
  go_wp2_with fail
  refine (HW.out _ hat.out).mono ?_
  rintro e w4 ⟨rfl, hg4⟩
  clear HW
  have hg := grown_trans hgw.out hg4
  obtain ⟨y0, y1, y2⟩ := (hG.out.keep hg4).cells
  have hat4 := Lib.hid (hat.out.grown hg4 (by simp))
  clear hg4
  go_wp2_with fail
  refine (HM.out _ hat4.out).mono ?_
  rintro e w5 ⟨rfl, hg5⟩
  have hg := grown_trans hg hg5
  clear hg5 HM
  go_wp2_with fail
  refine (works_any _).mono ?_
  rintro e w6 ⟨rfl, hg6⟩
  go_wp2
  go_ret
  exact ⟨rfl, grown_trans hg hg6⟩

set_option maxRecDepth 100000 in
set_option maxHeartbeats 1000000 in
theorem walk_at (a b c : Int) (a0 : Option Addr) (l0 c0 : Nat) (a1 : Option Addr) (l1 c1 : Nat) (ys : List Nat) (M : List (Int × Nat)) (w : World) (h0 : ¬ 96 < l0) (h : ¬ 100 < l1) (hM : Given w a0 l0 M) (hn : negB M = false) (hy : Words w a1 l1 ys) (hnil : a1 = none → l1 = 0 ∧ c1 = 0) :
    Calls Try.prog 4 #[gv a b c, .slice a0 l0 c0, .slice a1 l1 c1] w (WorksIs w) := by
  have g0 : ¬ (200 : Int) < (l0 : Int) := by omega
  have g1 : ¬ (100 : Int) < (l1 : Int) := by omega
  have hF := hM.fine (by omega) hn
  obtain ⟨R, HRR⟩ : ∃ R, Hid (recR M = R) := ⟨_, Lib.hid rfl⟩
  obtain ⟨S, HSS⟩ : ∃ S, Hid (sumN (bodyR M) = S) := ⟨_, Lib.hid rfl⟩
  obtain ⟨Z, HZ⟩ : ∃ Z, Hid (Z = 2 + 2 * l0) := ⟨_, Lib.hid rfl⟩
  obtain ⟨N, HN⟩ : ∃ N, Hid (Z + l1 = N) := ⟨_, Lib.hid rfl⟩
  obtain ⟨XS, HXS⟩ : ∃ XS, Hid (R ++ ys = XS) := ⟨_, Lib.hid rfl⟩
  have Hlen : Hid (R.length = Z) := Lib.hid (by rw [← HRR.out, recR_length, hM.len, HZ.out])
  have Hbeg : Begins R l0 S := by
    have := recR_begins M []
    rw [HRR.out, HSS.out, hM.len, List.append_nil] at this
    exact this
  have Hsm := Lib.hid (recR_small' hF)
  rw [HRR.out] at Hsm
  have HX2 : Hid (∀ n ∈ XS, n < 18446744073709551616) := Lib.hid (fun n hn => by
    rw [← HXS.out] at hn
    rcases List.mem_append.1 hn with h | h
    · exact Hsm.out n h
    · exact hy.small n h)
  have HXl : Hid (XS.length = N) := Lib.hid (by rw [← HXS.out, ← HN.out, List.length_append, Hlen.out, hy.len])
  obtain ⟨T, HT⟩ : ∃ T, Hid (T = (S * 65536 + l0 * 256 + 1) % 18446744073709551616) := ⟨_, Lib.hid rfl⟩
  have Hmark : markV R = T := by rw [Hbeg.mark (by omega), HT.out]
  have hrb : readB a b c XS = mayW a b c M := by rw [← HXS.out, ← HRR.out]; exact read_back hF ys a b c
  have hwb : writesR XS l0 = M := by rw [← HXS.out, ← HRR.out, ← hM.len]; exact writes_back hF ys
  have hh : XS.getD 0 0 = l0 := by
    have := (recR_begins M ys).head
    rw [HRR.out, HXS.out, hM.len] at this
    exact this
  have HW := Lib.hid (fun wx (hx : At wx a0 (icells M)) => Words_at a0 l0 c0 M R Z wx hx hM.len (by omega) hM.bd hn HRR.out Hlen.out)
  have eN : (2 : Int) + 2 * (l0 : Int) = (Z : Int) := by rw [HZ.out]; omega
  have Z194 : ¬ (194 : Int) < (Z : Int) := by rw [HZ.out]; omega
  have t1 : (T : Int).tmod 256 = 1 := by rw [Int.tmod_eq_emod_of_nonneg (by omega), HT.out]; omega
  have t2 : wrap64 ((IntKind.u64.wrap ((T : Int) / 256)).tmod 256) = (l0 : Int) := by
    rw [IntWalk.u64_in _ ⟨by omega, by have := HT.out; omega⟩, Int.tmod_eq_emod_of_nonneg (by omega)]
    have e : ((T : Int) / 256) % 256 = (l0 : Int) := by rw [HT.out]; omega
    rw [e]
    unfold wrap64; omega
  have hN300 : N ≤ 300 := by have := HN.out; have := HZ.out; omega
  have hZ200 : Z ≤ 200 := by have := HZ.out; omega
  have hgw := Lib.hid (World.grownBy_alloc w (.cells #[.int .i64 a, .int .i64 b, .int .i64 c] 23) none)
  have hG : GeoS w.heap.size a b c (w.alloc (.cells #[.int .i64 a, .int .i64 b, .int .i64 c] 23)) := heap_alloc_new w _
  obtain ⟨G, HGe⟩ : ∃ G, Hid (G = w.heap.size) := ⟨_, Lib.hid rfl⟩
  rw [← HGe.out] at hG
  have hat := Lib.hid (hM.at_.grown hgw.out (by simp))
  have hl := Lib.hid hM.len
  have hwf := Lib.hid hM.wf
  replace hG := Lib.hid hG
  have HM := Lib.hid (fun wx (hx : At wx a0 (icells M)) => RMay0_any a b c a0 l0 c0 M wx hx hl.out hwf.out)
  have HMk := Lib.hid (fun wx q o cc (hx : Words wx (some ⟨q, o, none⟩) Z R) (hc : Z ≤ cc) => Mark_any (some ⟨q, o, none⟩) Z cc R wx hx hc)
  rw [Hmark] at HMk
  have Hrb := Lib.hid hrb
  have Hwb := Lib.hid hwb
  have Hh := Lib.hid hh
  have Hy := Lib.hid hy
  clear hF hM hn hrb hwb hh hy HRR HSS Hbeg Hmark
  unfold gv
  go_enter Try.func4, Try.ntmps4
  go_wp2_with fail
  refine (HW.out _ hat.out).mono ?_
  rintro e w1 ⟨ad1, cp1, rfl, hrow, hg1⟩
  clear HW
  obtain ⟨ad1', cp1', he1, hat1, hn1, hlc1⟩ := row_slice hrow
  cases he1
  have hx1 : Words w1 ad1 Z R := ⟨Hlen.out, Hsm.out, hat1, by omega⟩
  obtain ⟨q1, o1, rfl⟩ := Words.lit hx1 (by rw [HZ.out]; omega)
  have hgr := grown_trans hgw.out hg1
  have HG1 := Lib.hid (hG.out.keep hg1)
  have hat1 := Lib.hid (hat.out.grown hg1 (by simp))
  have HMk1 := Lib.hid (HMk.out w1 q1 o1 cp1 hx1 hlc1)
  replace hx1 := Lib.hid hx1
  clear hrow hg1 hn1 HMk hG hat
  go_wp2_with fail
  refine HMk1.out.mono ?_
  rintro e w8 ⟨rfl, hg8⟩
  clear HMk1
  have hgr := Lib.hid (grown_trans hgr hg8)
  have hx8 := Lib.hid (hx1.out.keep hg8 (by simp))
  have HG8 := Lib.hid (HG1.out.keep hg8)
  have hat8 := Lib.hid (hat1.out.grown hg8 (by simp))
  have hy8 := Lib.hid (Hy.out.keep hgr.out (by simp))
  clear hg8 hat1 HG1 hx1 Hy hgw
  go_wp2_with fail
  rw [← HGe.out]
  cases hmw : mayW a b c M with
  | true =>
    rw [hmw] at HM Hrb
    have HRd := Lib.hid (fun wx adx cx (hx : Words wx adx N XS) (hc : N ≤ cx) => Read_yes wx.heap.size a b c adx N cx XS l0 M wx hx hc (Nat.le_refl _) Hrb.out Hh.out Hwb.out)
    unfold gv at HRd HM
    clear hmw
    refine wp_region_held_drew (S := fun w' => GeoS G a b c w') (by kernel_rfl) (GeoS.keep HG8.out (grown_drew (World.grownBy.refl _ none))) (fun hS => ?_)
    refine wpAnyH_take (i := 0) (oi := { dst := some 67, op := Op.load 23 (Operand.tmp 3), type := 23, pos := "law.go:66", after := #[], guard := none }) (v := ?vya4r11o0) rfl (by kernel_rfl) (by kernel_rfl) (by kernel_rfl) (fun _ _ _ h => h) (Or.inl ⟨by rfl, ?hya4r11o0⟩) hS ?_
    case hya4r11o0 => (intro wx hx; obtain ⟨y0, y1, y2⟩ := GeoS.cells hx; go_simp; (try with_reducible rfl))
    try simp only [Act.put, List.setIfInBounds_toArray, List.set_cons_zero, List.set_cons_succ]
    refine wpAnyH_take (i := 2) (oi := { dst := some 69, op := Op.move (Operand.tmp 7), type := 25, pos := "law.go:66", after := #[], guard := none }) (v := ?vya4r11o2) rfl (by kernel_rfl) (by kernel_rfl) (by kernel_rfl) (fun _ _ _ h => h) (Or.inl ⟨by rfl, ?hya4r11o2⟩) hS ?_
    case hya4r11o2 => (intro wx hx; skip; go_simp; (try with_reducible rfl))
    try simp only [Act.put, List.setIfInBounds_toArray, List.set_cons_zero, List.set_cons_succ]
    refine wpAnyH_take (i := 4) (oi := { dst := some 71, op := Op.move (Operand.tmp 2), type := 25, pos := "law.go:66", after := #[], guard := none }) (v := ?vya4r11o4) rfl (by kernel_rfl) (by kernel_rfl) (by kernel_rfl) (fun _ _ _ h => h) (Or.inl ⟨by rfl, ?hya4r11o4⟩) hS ?_
    case hya4r11o4 => (intro wx hx; skip; go_simp; (try with_reducible rfl))
    try simp only [Act.put, List.setIfInBounds_toArray, List.set_cons_zero, List.set_cons_succ]
    refine wpAnyH_ready (rs := [1]) (by kernel_rfl) (by simp) ?_
    refine AllReadyH.cons (o := { dst := some 68, op := Op.buildSlice 25 0 #[], type := 25, pos := "law.go:66", after := #[], guard := none }) rfl (fun K hK => ?_) AllReadyH.nil
    go_simp
    skip
    refine hK.out _ _ ?hsya4r11o1 (fun hS => ?_)
    case hsya4r11o1 => (exact GeoS.keep hS (World.grownBy_alloc _ _ none))
    clear hK K
    try simp only [Act.put, List.setIfInBounds_toArray, List.set_cons_zero, List.set_cons_succ]
    refine wpAnyH_ready (rs := [3]) (by kernel_rfl) (by simp) ?_
    refine AllReadyH.cons (o := { dst := some 70, op := Op.call { callee := Callee.builtin Builtin.append, args := #[Operand.tmp 68, Operand.tmp 69], argTypes := #[25, 25] }, type := 25, pos := "law.go:66", after := #[{ on := 1, ground := Ground.data }, { on := 2, ground := Ground.data }], guard := none }) rfl (fun K hK => ?_) AllReadyH.nil
    refine wp_app64 _ _ rfl w8.drew.heap.size _ 0 [] rfl (own_lit w8.drew _ 1 _ (Nat.le_refl _)) (some ⟨q1, o1, none⟩) Z cp1 R rfl ?ga1 (by simp) Z (Nat.zero_add Z) R (List.nil_append R) ?ga2 ?ga3 ?_
    case ga1 => exact (hx8.out.keep (grown_drew (World.grownBy.refl _ none)) (by simp)).keep (World.grownBy_alloc w8.drew _ none) (by simp)
    case ga2 => omega
    case ga3 => simp
    intro ad2 cp2 w4 hown hg4
    have hg4 := grown_new (World.grownBy_alloc w8.drew _ none) hg4 (by intro g e; cases e; exact Nat.le_refl _)
    have hgd4 := grown_trans (grown_drew (World.grownBy.refl w8 none)) hg4
    refine hK.out _ _ ?hsA (fun hS => ?_)
    case hsA => exact GeoS.keep HG8.out hgd4
    clear hK K
    try simp only [Act.put, List.setIfInBounds_toArray, List.set_cons_zero, List.set_cons_succ]
    refine wpAnyH_ready (rs := [5]) (by kernel_rfl) (by simp) ?_
    refine AllReadyH.cons (o := { dst := some 72, op := Op.call { callee := Callee.builtin Builtin.append, args := #[Operand.tmp 70, Operand.tmp 71], argTypes := #[25, 25] }, type := 25, pos := "law.go:66", after := #[{ on := 3, ground := Ground.data }, { on := 4, ground := Ground.data }, { on := 3, ground := Ground.chain }], guard := none }) rfl (fun K hK => ?_) AllReadyH.nil
    refine wp_app64 _ _ rfl w8.drew.heap.size _ Z R rfl hown a1 l1 c1 ys rfl ?gb1 hnil N HN.out XS HXS.out ?gb2 hg4.size ?_
    case gb1 => exact hy8.out.keep hgd4 (by simp)
    case gb2 => omega
    intro ad3 cp3 w5 hown5 hg5
    have hg5 := grown_new hg4 hg5 (fun i hi => (hown.lt i hi).1)
    have hgd5 := grown_trans (grown_drew (World.grownBy.refl w8 none)) hg5
    obtain ⟨ad3', cp3', he3, hat3, hn3, hlc3⟩ := row_slice hown5
    cases he3
    have hw5 : Words w5 ad3 N XS := ⟨HXl.out, HX2.out, hat3, by omega⟩
    refine hK.out _ _ ?hsB (fun hS => ?_)
    case hsB => exact GeoS.keep HG8.out hgd5
    clear hK K
    try simp only [Act.put, List.setIfInBounds_toArray, List.set_cons_zero, List.set_cons_succ]
    refine wpAnyH_ready (rs := [6]) (by kernel_rfl) (by simp) ?_
    refine AllReadyH.cons (o := { dst := some 73, op := Op.call { callee := Callee.value (Operand.func 14), args := #[Operand.tmp 67, Operand.tmp 72], argTypes := #[23, 25] }, type := 37, pos := "law.go:66", after := #[{ on := 0, ground := Ground.data }, { on := 5, ground := Ground.data }, { on := 5, ground := Ground.chain }], guard := none }) rfl (fun K hK => ?_) AllReadyH.nil
    go_simp
    refine (HRd.out _ _ _ hw5 hlc3).mono ?_
    rintro e wA ⟨ad5, cp5, rfl, hrow5, hgA⟩
    have hS1 := GeoS.keep hS hgA
    have hgA5 := grown_trans hgd5 hgA
    refine hK.out _ _ ?hsya4r11o6 (fun hS => ?_)
    case hsya4r11o6 => (exact hS1)
    clear hK K
    try simp only [Act.put, List.setIfInBounds_toArray, List.set_cons_zero, List.set_cons_succ]
    refine wpAnyH_take (i := 7) (oi := { dst := some 66, op := Op.move (Operand.tmp 73), type := 37, pos := "law.go:66", after := #[{ on := 6, ground := Ground.data }], guard := none }) (v := ?vya4r11o7) rfl (by kernel_rfl) (by kernel_rfl) (by kernel_rfl) (fun _ _ _ h => h) (Or.inl ⟨by rfl, ?hya4r11o7⟩) hS ?_
    case hya4r11o7 => (intro wx hx; skip; go_simp; (try with_reducible rfl))
    try simp only [Act.put, List.setIfInBounds_toArray, List.set_cons_zero, List.set_cons_succ]
    refine wpAnyH_take (i := 8) (oi := { dst := some 74, op := Op.extract (Operand.tmp 66) 0, type := 24, pos := "law.go:66", after := #[{ on := 7, ground := Ground.data }], guard := none }) (v := ?vya4r11o8) rfl (by kernel_rfl) (by kernel_rfl) (by kernel_rfl) (fun _ _ _ h => h) (Or.inl ⟨by rfl, ?hya4r11o8⟩) hS ?_
    case hya4r11o8 => (intro wx hx; skip; go_simp; (try with_reducible rfl))
    try simp only [Act.put, List.setIfInBounds_toArray, List.set_cons_zero, List.set_cons_succ]
    refine wpAnyH_take (i := 9) (oi := { dst := some 75, op := Op.extract (Operand.tmp 66) 1, type := 30, pos := "law.go:66", after := #[{ on := 7, ground := Ground.data }, { on := 10, ground := Ground.gcOnly Departure.lateStores }], guard := none }) (v := ?vya4r11o9) rfl (by kernel_rfl) (by kernel_rfl) (by kernel_rfl) (fun _ _ _ h => h) (Or.inl ⟨by rfl, ?hya4r11o9⟩) hS ?_
    case hya4r11o9 => (intro wx hx; skip; go_simp; (try with_reducible rfl))
    try simp only [Act.put, List.setIfInBounds_toArray, List.set_cons_zero, List.set_cons_succ]
    refine wpAnyH_take (i := 10) (oi := { dst := some 10, op := Op.assign (Operand.tmp 74), type := 24, pos := "law.go:66", after := #[{ on := 8, ground := Ground.data }, { on := 6, ground := Ground.chain }, { on := 0, ground := Ground.phase }, { on := 1, ground := Ground.phase }, { on := 2, ground := Ground.phase }, { on := 3, ground := Ground.phase }, { on := 4, ground := Ground.phase }, { on := 5, ground := Ground.phase }, { on := 6, ground := Ground.phase }, { on := 7, ground := Ground.phase }, { on := 8, ground := Ground.phase }, { on := 9, ground := Ground.textOnly Departure.lateStores }], guard := none }) (v := ?vya4r11o10) rfl (by kernel_rfl) (by kernel_rfl) (by kernel_rfl) (fun _ _ _ h => h) (Or.inl ⟨by rfl, ?hya4r11o10⟩) hS ?_
    case hya4r11o10 => (intro wx hx; skip; go_simp; (try with_reducible rfl))
    try simp only [Act.put, List.setIfInBounds_toArray, List.set_cons_zero, List.set_cons_succ]
    refine wpAnyH_take (i := 11) (oi := { dst := some 11, op := Op.assign (Operand.tmp 75), type := 30, pos := "law.go:66", after := #[{ on := 9, ground := Ground.data }, { on := 10, ground := Ground.chain }, { on := 0, ground := Ground.phase }, { on := 1, ground := Ground.phase }, { on := 2, ground := Ground.phase }, { on := 3, ground := Ground.phase }, { on := 4, ground := Ground.phase }, { on := 5, ground := Ground.phase }, { on := 6, ground := Ground.phase }, { on := 7, ground := Ground.phase }, { on := 8, ground := Ground.phase }, { on := 9, ground := Ground.phase }, { on := 10, ground := Ground.phase }], guard := none }) (v := ?vya4r11o11) rfl (by kernel_rfl) (by kernel_rfl) (by kernel_rfl) (fun _ _ _ h => h) (Or.inl ⟨by rfl, ?hya4r11o11⟩) hS ?_
    case hya4r11o11 => (intro wx hx; skip; go_simp; (try with_reducible rfl))
    try simp only [Act.put, List.setIfInBounds_toArray, List.set_cons_zero, List.set_cons_succ]
    refine wpAnyH_done (by kernel_rfl) ?_ _
    obtain ⟨ad5', cp5', he5, hat5, _, _⟩ := row_slice hrow5
    cases he5
    have hatA := Lib.hid (hat8.out.grown hgA5 (by simp))
    have hg := grown_trans hgr.out hgA5
    obtain ⟨y0, y1, y2⟩ := GeoS.cells hS
    have HSm := Lib.hid (fun wx (h1 : At wx ad5 (icells M)) (h2 : At wx a0 (icells M)) => SameI_any ad5 a0 l0 l0 cp5 c0 M M wx h1 h2 hl.out hl.out (by omega))
    rw [decide_eq_true rfl] at HSm
    replace hat5 := Lib.hid hat5
    clear hS hrow5 hgA hgA5 hgd5 hg5 hown5 hw5 hlc3 hn3 hat3 hgd4 hg4 hown
    go_wp2_with fail
    refine (HM.out _ hatA.out).mono ?_
    rintro e wB ⟨rfl, hgB⟩
    have hgAB := grown_trans hg hgB
    have hat6 := hat5.out.grown hgB (by simp)
    have hat7 := hatA.out.grown hgB (by simp)
    replace hat6 := Lib.hid hat6
    replace hat7 := Lib.hid hat7
    clear hgB HM
    go_wp2_with fail
    refine (HSm.out _ hat6.out hat7.out).mono ?_
    rintro e wC ⟨rfl, hgC⟩
    have hgAC := grown_trans hgAB hgC
    clear hgC HSm
    go_wp2_with fail
    refine (works_any _).mono ?_
    rintro e w6 ⟨rfl, hg6⟩
    go_wp2
    go_ret
    exact ⟨rfl, grown_trans hgAC hg6⟩
  | false =>
    rw [hmw] at HM Hrb
    have HRd := Lib.hid (fun wx adx cx (hx : Words wx adx N XS) (hc : N ≤ cx) => Read_no a b c adx N cx XS wx hx hc Hrb.out)
    unfold gv at HRd HM
    clear hmw
    refine wp_region_held_drew (S := fun w' => GeoS G a b c w') (by kernel_rfl) (GeoS.keep HG8.out (grown_drew (World.grownBy.refl _ none))) (fun hS => ?_)
    refine wpAnyH_take (i := 0) (oi := { dst := some 67, op := Op.load 23 (Operand.tmp 3), type := 23, pos := "law.go:66", after := #[], guard := none }) (v := ?vna4r11o0) rfl (by kernel_rfl) (by kernel_rfl) (by kernel_rfl) (fun _ _ _ h => h) (Or.inl ⟨by rfl, ?hna4r11o0⟩) hS ?_
    case hna4r11o0 => (intro wx hx; obtain ⟨y0, y1, y2⟩ := GeoS.cells hx; go_simp; (try with_reducible rfl))
    try simp only [Act.put, List.setIfInBounds_toArray, List.set_cons_zero, List.set_cons_succ]
    refine wpAnyH_take (i := 2) (oi := { dst := some 69, op := Op.move (Operand.tmp 7), type := 25, pos := "law.go:66", after := #[], guard := none }) (v := ?vna4r11o2) rfl (by kernel_rfl) (by kernel_rfl) (by kernel_rfl) (fun _ _ _ h => h) (Or.inl ⟨by rfl, ?hna4r11o2⟩) hS ?_
    case hna4r11o2 => (intro wx hx; skip; go_simp; (try with_reducible rfl))
    try simp only [Act.put, List.setIfInBounds_toArray, List.set_cons_zero, List.set_cons_succ]
    refine wpAnyH_take (i := 4) (oi := { dst := some 71, op := Op.move (Operand.tmp 2), type := 25, pos := "law.go:66", after := #[], guard := none }) (v := ?vna4r11o4) rfl (by kernel_rfl) (by kernel_rfl) (by kernel_rfl) (fun _ _ _ h => h) (Or.inl ⟨by rfl, ?hna4r11o4⟩) hS ?_
    case hna4r11o4 => (intro wx hx; skip; go_simp; (try with_reducible rfl))
    try simp only [Act.put, List.setIfInBounds_toArray, List.set_cons_zero, List.set_cons_succ]
    refine wpAnyH_ready (rs := [1]) (by kernel_rfl) (by simp) ?_
    refine AllReadyH.cons (o := { dst := some 68, op := Op.buildSlice 25 0 #[], type := 25, pos := "law.go:66", after := #[], guard := none }) rfl (fun K hK => ?_) AllReadyH.nil
    go_simp
    skip
    refine hK.out _ _ ?hsna4r11o1 (fun hS => ?_)
    case hsna4r11o1 => (exact GeoS.keep hS (World.grownBy_alloc _ _ none))
    clear hK K
    try simp only [Act.put, List.setIfInBounds_toArray, List.set_cons_zero, List.set_cons_succ]
    refine wpAnyH_ready (rs := [3]) (by kernel_rfl) (by simp) ?_
    refine AllReadyH.cons (o := { dst := some 70, op := Op.call { callee := Callee.builtin Builtin.append, args := #[Operand.tmp 68, Operand.tmp 69], argTypes := #[25, 25] }, type := 25, pos := "law.go:66", after := #[{ on := 1, ground := Ground.data }, { on := 2, ground := Ground.data }], guard := none }) rfl (fun K hK => ?_) AllReadyH.nil
    refine wp_app64 _ _ rfl w8.drew.heap.size _ 0 [] rfl (own_lit w8.drew _ 1 _ (Nat.le_refl _)) (some ⟨q1, o1, none⟩) Z cp1 R rfl ?ga1 (by simp) Z (Nat.zero_add Z) R (List.nil_append R) ?ga2 ?ga3 ?_
    case ga1 => exact (hx8.out.keep (grown_drew (World.grownBy.refl _ none)) (by simp)).keep (World.grownBy_alloc w8.drew _ none) (by simp)
    case ga2 => omega
    case ga3 => simp
    intro ad2 cp2 w4 hown hg4
    have hg4 := grown_new (World.grownBy_alloc w8.drew _ none) hg4 (by intro g e; cases e; exact Nat.le_refl _)
    have hgd4 := grown_trans (grown_drew (World.grownBy.refl w8 none)) hg4
    refine hK.out _ _ ?hsA (fun hS => ?_)
    case hsA => exact GeoS.keep HG8.out hgd4
    clear hK K
    try simp only [Act.put, List.setIfInBounds_toArray, List.set_cons_zero, List.set_cons_succ]
    refine wpAnyH_ready (rs := [5]) (by kernel_rfl) (by simp) ?_
    refine AllReadyH.cons (o := { dst := some 72, op := Op.call { callee := Callee.builtin Builtin.append, args := #[Operand.tmp 70, Operand.tmp 71], argTypes := #[25, 25] }, type := 25, pos := "law.go:66", after := #[{ on := 3, ground := Ground.data }, { on := 4, ground := Ground.data }, { on := 3, ground := Ground.chain }], guard := none }) rfl (fun K hK => ?_) AllReadyH.nil
    refine wp_app64 _ _ rfl w8.drew.heap.size _ Z R rfl hown a1 l1 c1 ys rfl ?gb1 hnil N HN.out XS HXS.out ?gb2 hg4.size ?_
    case gb1 => exact hy8.out.keep hgd4 (by simp)
    case gb2 => omega
    intro ad3 cp3 w5 hown5 hg5
    have hg5 := grown_new hg4 hg5 (fun i hi => (hown.lt i hi).1)
    have hgd5 := grown_trans (grown_drew (World.grownBy.refl w8 none)) hg5
    obtain ⟨ad3', cp3', he3, hat3, hn3, hlc3⟩ := row_slice hown5
    cases he3
    have hw5 : Words w5 ad3 N XS := ⟨HXl.out, HX2.out, hat3, by omega⟩
    refine hK.out _ _ ?hsB (fun hS => ?_)
    case hsB => exact GeoS.keep HG8.out hgd5
    clear hK K
    try simp only [Act.put, List.setIfInBounds_toArray, List.set_cons_zero, List.set_cons_succ]
    refine wpAnyH_ready (rs := [6]) (by kernel_rfl) (by simp) ?_
    refine AllReadyH.cons (o := { dst := some 73, op := Op.call { callee := Callee.value (Operand.func 14), args := #[Operand.tmp 67, Operand.tmp 72], argTypes := #[23, 25] }, type := 37, pos := "law.go:66", after := #[{ on := 0, ground := Ground.data }, { on := 5, ground := Ground.data }, { on := 5, ground := Ground.chain }], guard := none }) rfl (fun K hK => ?_) AllReadyH.nil
    go_simp
    refine (HRd.out _ _ _ hw5 hlc3).mono ?_
    rintro e wA ⟨rfl, hgA⟩
    have hS1 := GeoS.keep hS hgA
    have hgA5 := grown_trans hgd5 hgA
    refine hK.out _ _ ?hsna4r11o6 (fun hS => ?_)
    case hsna4r11o6 => (exact hS1)
    clear hK K
    try simp only [Act.put, List.setIfInBounds_toArray, List.set_cons_zero, List.set_cons_succ]
    refine wpAnyH_take (i := 7) (oi := { dst := some 66, op := Op.move (Operand.tmp 73), type := 37, pos := "law.go:66", after := #[{ on := 6, ground := Ground.data }], guard := none }) (v := ?vna4r11o7) rfl (by kernel_rfl) (by kernel_rfl) (by kernel_rfl) (fun _ _ _ h => h) (Or.inl ⟨by rfl, ?hna4r11o7⟩) hS ?_
    case hna4r11o7 => (intro wx hx; skip; go_simp; (try with_reducible rfl))
    try simp only [Act.put, List.setIfInBounds_toArray, List.set_cons_zero, List.set_cons_succ]
    refine wpAnyH_take (i := 8) (oi := { dst := some 74, op := Op.extract (Operand.tmp 66) 0, type := 24, pos := "law.go:66", after := #[{ on := 7, ground := Ground.data }], guard := none }) (v := ?vna4r11o8) rfl (by kernel_rfl) (by kernel_rfl) (by kernel_rfl) (fun _ _ _ h => h) (Or.inl ⟨by rfl, ?hna4r11o8⟩) hS ?_
    case hna4r11o8 => (intro wx hx; skip; go_simp; (try with_reducible rfl))
    try simp only [Act.put, List.setIfInBounds_toArray, List.set_cons_zero, List.set_cons_succ]
    refine wpAnyH_take (i := 9) (oi := { dst := some 75, op := Op.extract (Operand.tmp 66) 1, type := 30, pos := "law.go:66", after := #[{ on := 7, ground := Ground.data }, { on := 10, ground := Ground.gcOnly Departure.lateStores }], guard := none }) (v := ?vna4r11o9) rfl (by kernel_rfl) (by kernel_rfl) (by kernel_rfl) (fun _ _ _ h => h) (Or.inl ⟨by rfl, ?hna4r11o9⟩) hS ?_
    case hna4r11o9 => (intro wx hx; skip; go_simp; (try with_reducible rfl))
    try simp only [Act.put, List.setIfInBounds_toArray, List.set_cons_zero, List.set_cons_succ]
    refine wpAnyH_take (i := 10) (oi := { dst := some 10, op := Op.assign (Operand.tmp 74), type := 24, pos := "law.go:66", after := #[{ on := 8, ground := Ground.data }, { on := 6, ground := Ground.chain }, { on := 0, ground := Ground.phase }, { on := 1, ground := Ground.phase }, { on := 2, ground := Ground.phase }, { on := 3, ground := Ground.phase }, { on := 4, ground := Ground.phase }, { on := 5, ground := Ground.phase }, { on := 6, ground := Ground.phase }, { on := 7, ground := Ground.phase }, { on := 8, ground := Ground.phase }, { on := 9, ground := Ground.textOnly Departure.lateStores }], guard := none }) (v := ?vna4r11o10) rfl (by kernel_rfl) (by kernel_rfl) (by kernel_rfl) (fun _ _ _ h => h) (Or.inl ⟨by rfl, ?hna4r11o10⟩) hS ?_
    case hna4r11o10 => (intro wx hx; skip; go_simp; (try with_reducible rfl))
    try simp only [Act.put, List.setIfInBounds_toArray, List.set_cons_zero, List.set_cons_succ]
    refine wpAnyH_take (i := 11) (oi := { dst := some 11, op := Op.assign (Operand.tmp 75), type := 30, pos := "law.go:66", after := #[{ on := 9, ground := Ground.data }, { on := 10, ground := Ground.chain }, { on := 0, ground := Ground.phase }, { on := 1, ground := Ground.phase }, { on := 2, ground := Ground.phase }, { on := 3, ground := Ground.phase }, { on := 4, ground := Ground.phase }, { on := 5, ground := Ground.phase }, { on := 6, ground := Ground.phase }, { on := 7, ground := Ground.phase }, { on := 8, ground := Ground.phase }, { on := 9, ground := Ground.phase }, { on := 10, ground := Ground.phase }], guard := none }) (v := ?vna4r11o11) rfl (by kernel_rfl) (by kernel_rfl) (by kernel_rfl) (fun _ _ _ h => h) (Or.inl ⟨by rfl, ?hna4r11o11⟩) hS ?_
    case hna4r11o11 => (intro wx hx; skip; go_simp; (try with_reducible rfl))
    try simp only [Act.put, List.setIfInBounds_toArray, List.set_cons_zero, List.set_cons_succ]
    refine wpAnyH_done (by kernel_rfl) ?_ _
    have hatA := Lib.hid (hat8.out.grown hgA5 (by simp))
    have hg := grown_trans hgr.out hgA5
    obtain ⟨y0, y1, y2⟩ := GeoS.cells hS
    clear hS hgA hgA5 hgd5 hg5 hown5 hw5 hlc3 hn3 hat3 hgd4 hg4 hown
    go_wp2_with fail
    refine (HM.out _ hatA.out).mono ?_
    rintro e wB ⟨rfl, hgB⟩
    have hgAB := grown_trans hg hgB
    clear hgB HM
    go_wp2_with fail
    refine (works_any _).mono ?_
    rintro e w6 ⟨rfl, hg6⟩
    go_wp2
    go_ret
    exact ⟨rfl, grown_trans hgAB hg6⟩

theorem walk (a b c : Int) (a0 : Option Addr) (l0 c0 : Nat) (z0 : List Wrt) (a1 : Option Addr) (l1 c1 : Nat) (z1 : List Int) (w : World) (_ : (Lit.int .i64 a).wf = true) (_ : (Lit.int .i64 b).wf = true) (_ : (Lit.int .i64 c).wf = true) (w0 : WrtsIn w a0 l0 z0) (w1 : RowIn .u64 w a1 l1 c1 z1) :
    Calls Try.prog 4 #[.agg #[.int .i64 a, .int .i64 b, .int .i64 c], .slice a0 l0 c0, .slice a1 l1 c1] w (WorksIs w) := by
  obtain ⟨M, hM⟩ := wrts_given w0
  obtain ⟨ys, hy⟩ := rowIn_words w1
  by_cases h0 : 200 < l0
  · exact walk_far1 a b c a0 l0 c0 a1 l1 c1 w h0
  · by_cases h1 : 100 < l1
    · exact walk_far2 a b c a0 l0 c0 a1 l1 c1 w h0 h1
    · by_cases h2 : 96 < l0
      · exact walk_no 5 (.inr rfl) a b c a0 l0 c0 a1 l1 c1 M w h0 h1 hM (fun wx _ => Words_many a0 l0 c0 wx h2) (mayW_many (by rw [hM.len]; exact h2))
      · cases hn : negB M with
        | true => exact walk_no 1 (.inl rfl) a b c a0 l0 c0 a1 l1 c1 M w h0 h1 hM (fun wx hx => Words_neg a0 l0 c0 M wx hx hM.len (by omega) hM.bd hn) (mayW_neg hn)
        | false => exact walk_at a b c a0 l0 c0 a1 l1 c1 ys M w h2 h1 hM hn hy (fun e => w1.nil e)
end Go.Proofs.Ythcaeepngdohfaa.recordBack
