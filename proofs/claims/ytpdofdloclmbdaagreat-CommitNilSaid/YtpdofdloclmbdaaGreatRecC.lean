/- Package record: May. -/
import Derived.Test.YtpdofdloclmbdaaGreatRecB
import Derived.Carry
namespace Go.Proofs.YtpdofdloclmbdaaGreat
open Go.RowKit Go.Grommet

theorem plainElem_bool_inv {H : Type} {P : Program} {e : TypeId} (he : P.underlying e = some .bool) {v : Value} {z : DataW H × List MemPlace} (h : plainElem P e v = some z) : ∃ x, v = .bool x ∧ z = (.lit (.bool x), []) := by
  unfold plainElem at h
  rw [he] at h
  cases v <;> simp at h
  exact ⟨_, rfl, h.symm⟩

theorem wpList_lookup_bool {H : Type} {P : Program} (w : World) {ops : Array Oper} {rest : List Oper} {o : Oper} {a : Act} {Q : Exit → Act → World → Prop}
    (hg : o.guard = none) (m x : Operand) (t : TypeId) (hop : o.op = Op.lookup t m x false)
    (k e : TypeId) (K : Maps.Keyed P k) (ht : P.underlying t = some (.map k e)) (he : P.underlying e = some .bool) (hz : (zeroValue e).run P w = .ok (.bool false) w) (b n : Nat) (D : DataW H)
    (hm : a.eval m = .map (some b)) (hown : w.ownsMap P k (plainElem P e) b n D) (key : Value) (kl : Lit) (hx : a.eval x = key) (hkey : keyOf P k key = some kl) (c : Bool) (hat : D.atKey kl (.lit (.bool false)) = .lit (.bool c))
    (hK : wpList P ops Q rest (a.put o.dst (.bool c)) w) :
    wpList P ops Q (o :: rest) a w := by
  refine wpList_plain hg fun K' hK' => ?_
  obtain ⟨v, ps, hrun, hv⟩ := hown.lookup K ht hz (plainElem_bool he false) hkey
  obtain ⟨y, rfl, hy⟩ := plainElem_bool_inv he hv
  have hyc : y = c := by
    have := congrArg Prod.fst hy
    rw [hat] at this
    injection this with this
    injection this with this
    exact this.symm
  subst hyc
  unfold Oper.wp
  simp [execOp, hop, hm, hx, hrun, Result.andThen]
  exact hK' _ _ hK

theorem keyedInt : Maps.Keyed Tryz.prog 3 := Maps.int_keyed Tryz.underlying3
/-- Which numbers have come. -/
def CameIs (w : World) (mb : Nat) (S : List Int) : Prop :=
  ∃ D : DataW Unit, w.ownsMap Tryz.prog 3 (plainElem Tryz.prog 4) mb S.length D ∧ ∀ x : Int, D.atKey (.int .i64 x) (.lit (.bool false)) = .lit (.bool (decide (x ∈ S)))
def cameP (mb : Nat) (S : List Int) : Pr where
  holds w F := CameIs w mb S ∧ F mb ∧ ∀ i, F i → i < w.heap.size
  turn := fun h ht hn => by
    obtain ⟨⟨D, h1, h2⟩, h3, h4⟩ := h
    exact ⟨⟨D, ht.map h1 (hn _ h3), h2⟩, h3, fun i hi => Nat.lt_of_lt_of_le (h4 i hi) ht.size⟩
  old := fun h => h.2.2
theorem Own.came {w0 w : World} {Ps : List Pr} (h : Own w0 w Ps) (k : Nat) {mb : Nat} {S : List Int} (hk : Ps[k]? = some (cameP mb S)) : CameIs w mb S := by
  obtain ⟨F, hF⟩ := h.get k hk
  exact hF.1
theorem Own.newMap {w0 w : World} {Ps : List Pr} (h : Own w0 w Ps) : Own w0 (w.alloc (.map #[] 0)) (Ps ++ [cameP w.heap.size []]) :=
  h.add (P := cameP w.heap.size []) (F := fun i => i = w.heap.size) ⟨⟨.map [], World.ownsMap_made w _ _ _, fun x => by simp [DataW.atKey]⟩, rfl, fun i hi => by rw [hi]; simp⟩ (fun i hi => by rw [hi]; exact Nat.le_refl _) (World.grownBy_alloc w _ none)
theorem Own.putMap {w0 w w' : World} {Ps : List Pr} (h : Own w0 w Ps) (k : Nat) {mb : Nat} {S : List Int} (hk : Ps[k]? = some (cameP mb S)) {D : DataW Unit} (hD : ∀ x : Int, D.atKey (.int .i64 x) (.lit (.bool false)) = .lit (.bool (decide (x ∈ S)))) (hi : Maps.IsMap D) (y : Int)
    (hm : w'.ownsMap Tryz.prog 3 (plainElem Tryz.prog 4) mb (S.length + 1) (D.put (.int .i64 y) (.lit (.bool true)))) (hg : w.grownBy w' (some mb)) : Own w0 w' (Ps.set k (cameP mb (S ++ [y]))) := by
  obtain ⟨F, ⟨_, h1, h2⟩, h3⟩ := h.take k hk
  refine h3 _ (cameP mb (S ++ [y])) ⟨F, ⟨⟨_, by rw [List.length_append]; exact hm, fun x => ?_⟩, h1, fun i hi => Nat.lt_of_lt_of_le (h2 i hi) hg.size⟩, fun i hi => .inl hi, Turn.of hg (fun i e => by cases e; exact h1)⟩
  have hk : WideAt.IsKeyLit (Lit.int .i64 y) := trivial
  by_cases hxy : x = y
  · subst hxy
    rw [Maps.atKey_put_same hi hk]
    simp
  · have hne : Lit.int .i64 x ≠ Lit.int .i64 y := by intro e; injection e with _ e; exact hxy e
    rw [Maps.atKey_put_other hne, hD x]
    simp [hxy]

def firsts (M : List (Int × Nat)) : List Int := M.map Prod.fst
theorem mem_firsts {M : List (Int × Nat)} {k : Nat} {x : Int} (hk : k ≤ M.length) : x ∈ firsts (M.take k) ↔ ∃ j, j < k ∧ (M.getD j (0, 0)).1 = x := by
  unfold firsts
  rw [List.mem_map]
  constructor
  · rintro ⟨p, hp, rfl⟩
    obtain ⟨j, hj, rfl⟩ := List.getElem_of_mem hp
    have hj' : j < k ∧ j < M.length := by rw [List.length_take] at hj; omega
    exact ⟨j, hj'.1, by simp [hj'.2]⟩
  · rintro ⟨j, hj, rfl⟩
    have hj' : j < M.length := by omega
    exact ⟨M[j], by rw [List.mem_take_iff_getElem]; exact ⟨j, by omega, rfl⟩, by simp [hj']⟩

set_option maxHeartbeats 1000000 in
theorem May_many (a b c : Int) (bd : Option Addr) (m cc : Nat) (w : World) (h : 96 < m) : Calls Tryz.prog 54 #[gv a b c, .slice bd m cc] w (BoolIs false w) := by
  have h' : (96 : Int) < (m : Int) := by omega
  unfold gv
  go_enter Tryz.func54, Tryz.ntmps54
  go_wp2
  go_ret
  exact ⟨rfl, World.grownBy_alloc w _ none⟩
set_option maxHeartbeats 1000000 in
theorem May_geo (a b c : Int) (bd : Option Addr) (m cc : Nat) (w : World) (h : ¬ 96 < m) (hb : mayB a b c = false) : Calls Tryz.prog 54 #[gv a b c, .slice bd m cc] w (BoolIs false w) := by
  have h' : ¬ (96 : Int) < (m : Int) := by omega
  have HM := Lib.hid (fun wx => May_any a b c wx)
  rw [hb] at HM
  unfold gv at HM ⊢
  go_enter Tryz.func54, Tryz.ntmps54
  go_wp2_with fail
  refine (HM.out _).mono ?_
  rintro e w1 ⟨rfl, hg⟩
  go_wp2
  go_ret
  exact ⟨rfl, grown_trans (World.grownBy_alloc w _ none) hg⟩

set_option maxRecDepth 100000 in
set_option maxHeartbeats 4000000 in
theorem May_at (a b c : Int) (bd : Option Addr) (m cc : Nat) (M : List (Int × Nat)) (w : World) (hat : At w bd (icells M)) (hL : M.length = m) (hm : ¬ 96 < m) (hb : mayB a b c = true) (hw : ∀ p ∈ M, (Lit.int .i64 p.1).wf = true) :
    Calls Tryz.prog 54 #[gv a b c, .slice bd m cc] w (BoolIs (decide (preB a b c M m)) w) := by
  have h' : ¬ (96 : Int) < (m : Int) := by omega
  have HM := Lib.hid (fun wx => May_any a b c wx)
  rw [hb] at HM
  have HL := Lib.hid hL
  have HW := Lib.hid hw
  have hmm := @run_makeMap Tryz.prog
  unfold gv at HM ⊢
  clear hL hw
  go_enter Tryz.func54, Tryz.ntmps54
  go_wp2_with fail
  refine (HM.out _).mono ?_
  rintro e w1 ⟨rfl, hg⟩
  clear HM
  have hO : Own w (w1.alloc (.map #[] 0)) [boxP w.heap.size 26 #[.int .i64 a, .int .i64 b, .int .i64 c], cameP w1.heap.size (firsts (M.take 0))] := Own.newMap (((Own.nil w).addBox 26 #[.int .i64 a, .int .i64 b, .int .i64 c]).quiet hg)
  obtain ⟨G, hG⟩ : ∃ G, Hid (G = w.heap.size) := ⟨_, Lib.hid rfl⟩
  obtain ⟨B, hB⟩ : ∃ B, Hid (B = w1.heap.size) := ⟨_, Lib.hid rfl⟩
  rw [← hG.out, ← hB.out] at hO
  rw [← hG.out]
  replace hO := Lib.hid hO
  clear hg
  go_wp2_with fail
  rw [← hB.out]
  go_loopw [19] (fun i wr => ∃ k : Nat, k ≤ m ∧ i = .int .i64 (k : Int) ∧ Hid (preB a b c M k) ∧ Hid (Own w wr [boxP G 26 #[.int .i64 a, .int .i64 b, .int .i64 c], cameP B (firsts (M.take k))])) (fun i _ => m - (intOf i).toNat)
  case atStart => exact ⟨0, Nat.zero_le _, rfl, Lib.hid (fun i hi => by omega), hO⟩
  case round =>
    clear hO
    obtain ⟨k, hk, rfl, HP, HO⟩ := hrel
    have k0 : (0 : Int) ≤ (k : Int) := by omega
    by_cases hlt : k < m
    · have hlt' : (k : Int) < (m : Int) := by omega
      have hkL : k < M.length := by rw [HL.out]; exact hlt
      obtain ⟨q, o, rfl, v0, v1⟩ := at_ipair (hat.grown HO.out.grown (by simp)) k hkL
      have hwf := HW.out _ (getD_mem M k (0, 0) hkL)
      have HT := Lib.hid (take_snocD M k (0, 0) hkL)
      have HMem := Lib.hid (fun x => mem_firsts (M := M) (k := k) (x := x) (by omega))
      obtain ⟨A, A0⟩ : ∃ A, Hid (A = (M.getD k (0, 0)).1) := ⟨_, Lib.hid rfl⟩
      obtain ⟨V, V0⟩ : ∃ V, Hid (V = (M.getD k (0, 0)).2) := ⟨_, Lib.hid rfl⟩
      rw [← A0.out] at v0 hwf
      rw [← V0.out] at v1
      have hA1 : A ≤ 9223372036854775807 := by have := bounds_i64 hwf; omega
      have hkey : keyOf Tryz.prog 3 (.int .i64 A) = some (.int .i64 A) := Maps.keyOf_int_mk Tryz.underlying3 hwf
      obtain ⟨D, hown, hD⟩ := Own.came HO.out 1 rfl
      have hisMap := Lib.hid hown.isMap
      have HD := Lib.hid hD
      have hbx := Own.box HO.out 0 rfl
      have g0 : wr.cell? ⟨G, 0, none⟩ = some (.int .i64 a) := by simp [World.cell?, hbx]
      have g1 : wr.cell? ⟨G, 1, none⟩ = some (.int .i64 b) := by simp [World.cell?, hbx]
      have g2 : wr.cell? ⟨G, 2, none⟩ = some (.int .i64 c) := by simp [World.cell?, hbx]
      have hGl : G < wr.heap.size := lt_of_block hbx
      clear hbx hwf hD
      by_cases hin : A ∈ firsts (M.take k)
      · have hc := HD.out A
        rw [decide_eq_true hin] at hc
        have HR : Hid (decide (preB a b c M m) = false) := Lib.hid (by
          rw [decide_eq_false_iff_not]
          intro h
          obtain ⟨j, hj, he⟩ := (HMem.out A).1 hin
          exact (h k hlt).2 j hj (by rw [he, A0.out]))
        have hg := HO.out.grown
        clear HO hin HMem
        go_wp2_with (at_lookup; refine wpList_lookup_bool _ rfl _ _ 156 rfl 3 4 keyedInt Tryz.underlying156 Tryz.underlying4 (Tryz.zeroValue4 _) B _ D rfl (hown.alloc _) _ _ rfl hkey true hc ?_)
        go_ret
        exact boolIs_mk HR.out (grown_trans hg (World.grownBy_alloc _ _ _))
      · have hc := HD.out A
        rw [decide_eq_false hin] at hc
        have HS := Lib.hid (fun wx => mayStand_any a b c A wx hA1)
        unfold gv at HS
        cases hst : standB a b c A with
        | false =>
          rw [hst] at HS
          have HR : Hid (decide (preB a b c M m) = false) := Lib.hid (by
            rw [decide_eq_false_iff_not]
            intro h
            have := (h k hlt).1
            rw [← A0.out, hst] at this
            cases this)
          have hg := HO.out.grown
          clear HO hin HMem hst
          go_wp2_with (at_lookup; refine wpList_lookup_bool _ rfl _ _ 156 rfl 3 4 keyedInt Tryz.underlying156 Tryz.underlying4 (Tryz.zeroValue4 _) B _ D rfl (hown.alloc _) _ _ rfl hkey false hc ?_)
          go_wp2_with fail
          refine (HS.out _).mono ?_
          rintro e w2 ⟨rfl, hg2⟩
          go_wp2
          go_ret
          exact boolIs_mk HR.out (grown_trans (grown_trans hg (World.grownBy_alloc _ _ _)) hg2)
        | true =>
          rw [hst] at HS
          have HP' : Hid (preB a b c M (k + 1)) := Lib.hid (by
            intro i hi
            by_cases hik : i = k
            · subst hik
              refine ⟨by rw [← A0.out]; exact hst, fun j hj he => hin ((HMem.out A).2 ⟨j, hj, by rw [he, A0.out]⟩)⟩
            · exact HP.out i (by omega))
          have hOb := HO.out.addBox 92 #[.int .i64 A, .int .u64 (V : Int)]
          have HU := Lib.hid (fun (wx wy : World) (hox : Own w wx [boxP G 26 #[.int .i64 a, .int .i64 b, .int .i64 c], cameP B (firsts (M.take k)), boxP wr.heap.size 92 #[.int .i64 A, .int .u64 (V : Int)]]) (hm : wy.ownsMap Tryz.prog 3 (plainElem Tryz.prog 4) B ((firsts (M.take k)).length + 1) (D.put (.int .i64 A) (.lit (.bool true)))) (hgx : wx.grownBy wy (some B)) => Own.putMap hox 1 rfl HD.out hisMap.out A hm hgx)
          replace hOb := Lib.hid hOb
          have hfl : (firsts (M.take k)).length < 100 := by unfold firsts; rw [List.length_map, List.length_take]; omega
          clear HO hin HMem hst
          go_wp2_with (at_lookup; refine wpList_lookup_bool _ rfl _ _ 156 rfl 3 4 keyedInt Tryz.underlying156 Tryz.underlying4 (Tryz.zeroValue4 _) B _ D rfl (hown.alloc _) _ _ rfl hkey false hc ?_)
          go_wp2_with fail
          refine (HS.out _).mono ?_
          rintro e w2 ⟨rfl, hg2⟩
          have hO2 : Own w w2 [boxP G 26 #[.int .i64 a, .int .i64 b, .int .i64 c], cameP B (firsts (M.take k)), boxP wr.heap.size 92 #[.int .i64 A, .int .u64 (V : Int)]] := hOb.out.quiet hg2
          have hbx := Own.box hO2 2 rfl
          have d0 : w2.cell? ⟨wr.heap.size, 0, none⟩ = some (.int .i64 A) := by simp [World.cell?, hbx]
          have hown2 := (hown.alloc (.cells #[.int .i64 A, .int .u64 (V : Int)] 92)).kept hg2 (by simp)
          have hval : plainElem (H := Unit) Tryz.prog 4 (.bool true) = some (.lit (.bool true), []) := plainElem_bool Tryz.underlying4 true
          replace hO2 := Lib.hid hO2
          clear hbx hg2 hown hOb HS hc g0 g1 g2 v0 v1
          go_wp2_with (at_mapUpdate; refine wpList_mapUpdate_own _ rfl _ _ _ 156 rfl 3 4 keyedInt Tryz.underlying156 (plainElem Tryz.prog 4) B _ D rfl hown2 ?m9 _ _ (.int .i64 A) rfl rfl hkey (.lit (.bool true)) [] hval ?_)
          case m9 => unfold maxLen; omega
          intro w3 hmap hg3
          have hO3 := HU.out _ _ hO2.out hmap hg3
          have HO3 : Hid (Own w w3 [boxP G 26 #[.int .i64 a, .int .i64 b, .int .i64 c], cameP B (firsts (M.take (k + 1)))]) := Lib.hid (by
            have e1 : firsts (M.take (k + 1)) = firsts (M.take k) ++ [A] := by rw [HT.out]; unfold firsts; rw [List.map_append]; rw [A0.out]; rfl
            rw [e1]
            exact Own.less (Qs := [boxP wr.heap.size 92 #[.int .i64 A, .int .u64 (V : Int)]]) hO3)
          clear hmap hg3 hO3 hown2 d0 HU hO2
          go_wp2
          go_roundw
          case rel => exact ⟨k + 1, by omega, by go_num, HP', HO3⟩
          case measure => simp [intOf]; omega
    · have hlt' : ¬ (k : Int) < (m : Int) := by omega
      obtain rfl : k = m := by omega
      have hg := HO.out.grown
      clear HO
      have HR : Hid (decide (preB a b c M k) = true) := Lib.hid (decide_eq_true HP.out)
      go_wp2
      go_ret
      exact boolIs_mk HR.out hg

theorem RMay0_any (a b c : Int) (bd : Option Addr) (m cc : Nat) (M : List (Int × Nat)) (w : World) (hat : At w bd (icells M)) (hL : M.length = m) (hw : ∀ p ∈ M, (Lit.int .i64 p.1).wf = true) :
    Calls Tryz.prog 54 #[gv a b c, .slice bd m cc] w (BoolIs (mayW a b c M) w) := by
  by_cases h : 96 < m
  · have : mayW a b c M = false := by unfold mayW; rw [decide_eq_false_iff_not]; omega
    rw [this]
    exact May_many a b c bd m cc w h
  · cases hb : mayB a b c with
    | false =>
      have : mayW a b c M = false := by unfold mayW; rw [decide_eq_false_iff_not, hb]; simp
      rw [this]
      exact May_geo a b c bd m cc w h hb
    | true =>
      have : mayW a b c M = decide (preB a b c M m) := by
        unfold mayW
        rw [hL, hb]
        simp
        omega
      rw [this]
      exact May_at a b c bd m cc M w hat hL h hb hw
end Go.Proofs.YtpdofdloclmbdaaGreat
