/- RecordPlaces, walked. -/
import Derived.Test.YthcaeepngdohfaaRecF
import Derived.Deep.DeepCutAuto
namespace Go.Proofs.Ythcaeepngdohfaa.recordPlaces
open Go.RowKit Go.Grommet

def nonB (M : List (Int × Nat)) (k n : Nat) : Bool := decide (∀ j, j < n → (M.getD j (0, 0)).1 ≠ (M.getD k (0, 0)).1)
theorem nonB_zero (M : List (Int × Nat)) (k : Nat) : nonB M k 0 = true := by unfold nonB; simp
theorem nonB_succ (M : List (Int × Nat)) (k n : Nat) : nonB M k (n + 1) = (nonB M k n && decide ((M.getD n (0, 0)).1 ≠ (M.getD k (0, 0)).1)) := by
  unfold nonB
  rw [← Bool.decide_and]
  apply decide_eq_decide.2
  constructor
  · intro h
    exact ⟨fun j hj => h j (by omega), h n (by omega)⟩
  · rintro ⟨h1, h2⟩ j hj
    by_cases e : j = n
    · subst e; exact h2
    · exact h1 j (by omega)
def preD (a b c : Int) (M : List (Int × Nat)) (m k : Nat) : Bool := mayB a b c && decide (m ≤ 96) && decide (preB a b c M k)
theorem preD_zero (a b c : Int) (M : List (Int × Nat)) (m : Nat) : preD a b c M m 0 = (mayB a b c && decide (m ≤ 96)) := by
  unfold preD
  have : preB a b c M 0 := fun i hi => by omega
  rw [decide_eq_true this, Bool.and_true]
theorem preD_succ (a b c : Int) (M : List (Int × Nat)) (m k : Nat) : preD a b c M m (k + 1) = ((preD a b c M m k && standB a b c (M.getD k (0, 0)).1) && nonB M k k) := by
  have h : decide (preB a b c M (k + 1)) = (decide (preB a b c M k) && standB a b c (M.getD k (0, 0)).1 && nonB M k k) := by
    unfold nonB
    cases hs : standB a b c (M.getD k (0, 0)).1 with
    | false =>
      rw [Bool.and_false, Bool.false_and, decide_eq_false_iff_not]
      intro h
      have := (h k (by omega)).1
      rw [hs] at this
      cases this
    | true =>
      rw [Bool.and_true, ← Bool.decide_and]
      apply decide_eq_decide.2
      constructor
      · intro h
        exact ⟨fun i hi => h i (by omega), fun j hj => (h k (by omega)).2 j hj⟩
      · rintro ⟨h1, h2⟩ i hi
        by_cases e : i = k
        · subst e; exact ⟨hs, h2⟩
        · exact h1 i (by omega)
  unfold preD
  rw [h]
  simp only [Bool.and_assoc]
theorem preD_all {a b c : Int} {M : List (Int × Nat)} {m : Nat} (hm : M.length = m) : preD a b c M m m = mayW a b c M := by
  unfold preD mayW
  rw [hm]
  cases hb : mayB a b c <;> simp

set_option maxRecDepth 100000 in
set_option maxHeartbeats 1000000 in
theorem walk_far1 (a b c : Int) (a0 : Option Addr) (l0 c0 : Nat) (w : World) (h : 200 < l0) :
    Calls Try.prog 5 #[gv a b c, .slice a0 l0 c0] w (WorksIs w) := by
  have g1 : (200 : Int) < (l0 : Int) := by omega
  unfold gv
  go_enter Try.func5, Try.ntmps5
  go_wp2_with fail
  refine (works_any _).mono ?_
  rintro e w5 ⟨rfl, hg⟩
  go_wp2
  go_ret
  exact ⟨rfl, grown_trans (World.grownBy_alloc w _ none) hg⟩

set_option maxRecDepth 100000 in
set_option maxHeartbeats 1000000 in
theorem walk_at (a b c : Int) (a0 : Option Addr) (m c0 : Nat) (M : List (Int × Nat)) (w : World) (h0 : ¬ 200 < m) (hM : Given w a0 m M) :
    Calls Try.prog 5 #[gv a b c, .slice a0 m c0] w (WorksIs w) := by
  have g0 : ¬ (200 : Int) < (m : Int) := by omega
  have hgw := Lib.hid (World.grownBy_alloc w (.cells #[.int .i64 a, .int .i64 b, .int .i64 c] 23) none)
  have hG : GeoS w.heap.size a b c (w.alloc (.cells #[.int .i64 a, .int .i64 b, .int .i64 c] 23)) := heap_alloc_new w _
  obtain ⟨G, HGe⟩ : ∃ G, Hid (G = w.heap.size) := ⟨_, Lib.hid rfl⟩
  rw [← HGe.out] at hG
  have hat := Lib.hid hM.at_
  have HL := Lib.hid hM.len
  have hwf := Lib.hid hM.wf
  have hbd := Lib.hid hM.bd
  replace hG := Lib.hid hG
  have HM := Lib.hid (fun wx (hx : At wx a0 (icells M)) => RMay0_any a b c a0 m c0 M wx hx HL.out hwf.out)
  rw [← preD_all hM.len] at HM
  have HMy := Lib.hid (fun wx => May_any a b c wx)
  unfold gv at HM HMy ⊢
  clear hM
  go_enter Try.func5, Try.ntmps5
  go_upto_region 3 with fail
  rw [← HGe.out]
  go_cut [5] (fun s wx => s = .bool (mayB a b c && decide (m ≤ 96)) ∧ GeoS G a b c wx ∧ w.grownBy wx none)
  case first =>
    obtain ⟨y0, y1, y2⟩ := GeoS.cells hG.out
    cases hb : mayB a b c with
    | false =>
      rw [hb] at HMy
      have Hb := Lib.hid hb
      go_wp2_with fail
      refine (HMy.out _).mono ?_
      rintro e w1 ⟨rfl, hg⟩
      have hG1 := Lib.hid (And.intro (hG.out.keep hg) (grown_trans hgw.out hg))
      clear hg y0 y1 y2 hb
      go_wp2_with fail
      go_meet
      case rel => exact ⟨by rw [Hb.out]; rfl, hG1.out⟩
    | true =>
      rw [hb] at HMy
      have Hb := Lib.hid hb
      go_wp2_with fail
      refine (HMy.out _).mono ?_
      rintro e w1 ⟨rfl, hg⟩
      have hG1 := Lib.hid (And.intro (hG.out.keep hg) (grown_trans hgw.out hg))
      clear hg y0 y1 y2 hb
      by_cases h96 : m ≤ 96
      · have g96 : (m : Int) ≤ 96 := by omega
        have g96' := Lib.hid (show decide (m ≤ 96) = true from decide_eq_true h96)
        go_wp2_with fail
        go_meet
        case rel => exact ⟨by rw [Hb.out, g96'.out]; rfl, hG1.out⟩
      · have g96 : ¬ (m : Int) ≤ 96 := by omega
        have g96' := Lib.hid (show decide (m ≤ 96) = false from decide_eq_false h96)
        go_wp2_with fail
        go_meet
        case rel => exact ⟨by rw [Hb.out, g96'.out, decide_eq_false (by omega)]; rfl, hG1.out⟩
  case rest =>
  obtain ⟨rfl, hcG⟩ := hcut
  obtain ⟨bb, HBB⟩ : ∃ bb, Hid (bb = preD a b c M m 0) := ⟨_, Lib.hid rfl⟩
  rw [← preD_zero a b c M m, ← HBB.out]
  replace hcG := Lib.hid hcG
  clear hG hgw
  go_wp2_with fail
  go_loopw [5, 6] (fun mv i wr => ∃ (k : Nat) (bb : Bool), k ≤ m ∧ i = .int .i64 (k : Int) ∧ mv = .bool bb ∧ Hid (bb = preD a b c M m k) ∧ Hid (GeoS G a b c wr ∧ w.grownBy wr none)) (fun _ i _ => m - (intOf i).toNat)
  case atStart => exact ⟨0, bb, Nat.zero_le _, rfl, rfl, HBB, hcG⟩
  case round =>
    clear hcG HBB bb
    obtain ⟨k, bb, hk, rfl, rfl, HBB, HO⟩ := hrel
    have k0 : (0 : Int) ≤ (k : Int) := by omega
    by_cases hlt : k < m
    · have hlt' : (k : Int) < (m : Int) := by omega
      have hkL : k < M.length := by rw [HL.out]; exact hlt
      have HP := Lib.hid (preD_succ a b c M m k)
      rw [← HBB.out] at HP
      obtain ⟨q, o, rfl, c0, _⟩ := at_ipair (hat.out.grown HO.out.2 (by simp)) k hkL
      have hA1 := (hbd.out _ (getD_mem M k (0, 0) hkL)).1
      obtain ⟨A, A0⟩ : ∃ A, Hid (A = (M.getD k (0, 0)).1) := ⟨_, Lib.hid rfl⟩
      rw [← A0.out] at c0 hA1 HP
      have HWh := Lib.hid (fun wx => Where_any a b c A wx hA1)
      have HV : Hid (standB a b c A = decide ((whereV a b c A).1 ≠ 0 ∧ (whereV a b c A).1 ≠ 1 ∧ (whereV a b c A).1 ≠ 5)) := Lib.hid rfl
      generalize whereV a b c A = WV at HWh HV
      obtain ⟨K, i1, i2, i3⟩ := WV
      unfold WhereIs gv at HWh
      dsimp only at HWh HV
      obtain ⟨st, HSt⟩ : ∃ st, Hid (st = standB a b c A) := ⟨_, Lib.hid rfl⟩
      rw [← HSt.out] at HV HP
      clear hA1
      go_wp2_with fail
      refine wp_region_held_drew (S := fun w' => GeoS G a b c w' ∧ CellS q (o + k * 2) (.int .i64 A) w') (by kernel_rfl) (⟨HO.out.1.keep (grown_drew (World.grownBy.refl _ none)), c0⟩) (fun hS => ?_)
      refine wpAnyH_take (i := 0) (oi := { dst := some 30, op := Op.load 23 (Operand.tmp 2), type := 23, pos := "more.go:19", after := #[], guard := none }) (v := ?vr5r7o0) rfl (by kernel_rfl) (by kernel_rfl) (by kernel_rfl) (fun _ _ _ h => h) (Or.inl ⟨by rfl, ?hr5r7o0⟩) hS ?_
      case hr5r7o0 => (intro wx hx; obtain ⟨hx0, hx1⟩ := hx; obtain ⟨y0, y1, y2⟩ := GeoS.cells hx0; unfold CellS at hx1; go_simp; (try with_reducible rfl))
      try simp only [Act.put, List.setIfInBounds_toArray, List.set_cons_zero, List.set_cons_succ]
      refine wpAnyH_take (i := 1) (oi := { dst := some 31, op := Op.move (Operand.tmp 1), type := 24, pos := "more.go:19", after := #[], guard := none }) (v := ?vr5r7o1) rfl (by kernel_rfl) (by kernel_rfl) (by kernel_rfl) (fun _ _ _ h => h) (Or.inl ⟨by rfl, ?hr5r7o1⟩) hS ?_
      case hr5r7o1 => (intro wx hx; skip; go_simp; (try with_reducible rfl))
      try simp only [Act.put, List.setIfInBounds_toArray, List.set_cons_zero, List.set_cons_succ]
      refine wpAnyH_take (i := 2) (oi := { dst := some 32, op := Op.move (Operand.tmp 6), type := 3, pos := "more.go:19", after := #[], guard := none }) (v := ?vr5r7o2) rfl (by kernel_rfl) (by kernel_rfl) (by kernel_rfl) (fun _ _ _ h => h) (Or.inl ⟨by rfl, ?hr5r7o2⟩) hS ?_
      case hr5r7o2 => (intro wx hx; skip; go_simp; (try with_reducible rfl))
      try simp only [Act.put, List.setIfInBounds_toArray, List.set_cons_zero, List.set_cons_succ]
      refine wpAnyH_take (i := 3) (oi := { dst := some 33, op := Op.indexAddr 24 (Operand.tmp 31) (Operand.tmp 32), type := 0, pos := "more.go:19", after := #[{ on := 1, ground := Ground.data }, { on := 2, ground := Ground.data }], guard := none }) (v := ?vr5r7o3) rfl (by kernel_rfl) (by kernel_rfl) (by kernel_rfl) (fun _ _ _ h => h) (Or.inl ⟨by rfl, ?hr5r7o3⟩) hS ?_
      case hr5r7o3 => (intro wx hx; skip; go_simp; (try with_reducible rfl))
      try simp only [Act.put, List.setIfInBounds_toArray, List.set_cons_zero, List.set_cons_succ]
      refine wpAnyH_take (i := 4) (oi := { dst := some 34, op := Op.fieldAddr 49 (Operand.tmp 33) 0, type := 0, pos := "more.go:19", after := #[{ on := 3, ground := Ground.data }], guard := none }) (v := ?vr5r7o4) rfl (by kernel_rfl) (by kernel_rfl) (by kernel_rfl) (fun _ _ _ h => h) (Or.inl ⟨by rfl, ?hr5r7o4⟩) hS ?_
      case hr5r7o4 => (intro wx hx; skip; go_simp; (try with_reducible rfl))
      try simp only [Act.put, List.setIfInBounds_toArray, List.set_cons_zero, List.set_cons_succ]
      refine wpAnyH_take (i := 5) (oi := { dst := some 35, op := Op.load 3 (Operand.tmp 34), type := 3, pos := "more.go:19", after := #[{ on := 4, ground := Ground.data }], guard := none }) (v := ?vr5r7o5) rfl (by kernel_rfl) (by kernel_rfl) (by kernel_rfl) (fun _ _ _ h => h) (Or.inl ⟨by rfl, ?hr5r7o5⟩) hS ?_
      case hr5r7o5 => (intro wx hx; obtain ⟨hx0, hx1⟩ := hx; obtain ⟨y0, y1, y2⟩ := GeoS.cells hx0; unfold CellS at hx1; go_simp; (try with_reducible rfl))
      try simp only [Act.put, List.setIfInBounds_toArray, List.set_cons_zero, List.set_cons_succ]
      refine wpAnyH_ready (rs := [6]) (by kernel_rfl) (by simp) ?_
      refine AllReadyH.cons (o := { dst := some 36, op := Op.call { callee := Callee.value (Operand.func 20), args := #[Operand.tmp 30, Operand.tmp 35], argTypes := #[23, 3] }, type := 46, pos := "more.go:19", after := #[{ on := 0, ground := Ground.data }, { on := 5, ground := Ground.data }], guard := none }) rfl (fun K hK => ?_) AllReadyH.nil
      go_simp
      refine (HWh.out _).mono ?_
      rintro e wB ⟨rfl, hgB⟩
      have hgB5 := grown_trans (grown_drew (World.grownBy.refl _ none)) hgB
      have hS1 : GeoS G a b c wB ∧ CellS q (o + k * 2) (.int .i64 A) wB := ⟨hS.1.keep hgB, hS.2.keep hgB⟩
      refine hK.out _ _ ?hsr5r7o6 (fun hS => ?_)
      case hsr5r7o6 => (exact hS1)
      clear hK K
      try simp only [Act.put, List.setIfInBounds_toArray, List.set_cons_zero, List.set_cons_succ]
      refine wpAnyH_take (i := 7) (oi := { dst := some 29, op := Op.move (Operand.tmp 36), type := 46, pos := "more.go:19", after := #[{ on := 6, ground := Ground.data }], guard := none }) (v := ?vr5r7o7) rfl (by kernel_rfl) (by kernel_rfl) (by kernel_rfl) (fun _ _ _ h => h) (Or.inl ⟨by rfl, ?hr5r7o7⟩) hS ?_
      case hr5r7o7 => (intro wx hx; skip; go_simp; (try with_reducible rfl))
      try simp only [Act.put, List.setIfInBounds_toArray, List.set_cons_zero, List.set_cons_succ]
      refine wpAnyH_take (i := 8) (oi := { dst := some 37, op := Op.extract (Operand.tmp 29) 0, type := 45, pos := "more.go:19", after := #[{ on := 7, ground := Ground.data }], guard := none }) (v := ?vr5r7o8) rfl (by kernel_rfl) (by kernel_rfl) (by kernel_rfl) (fun _ _ _ h => h) (Or.inl ⟨by rfl, ?hr5r7o8⟩) hS ?_
      case hr5r7o8 => (intro wx hx; skip; go_simp; (try with_reducible rfl))
      try simp only [Act.put, List.setIfInBounds_toArray, List.set_cons_zero, List.set_cons_succ]
      refine wpAnyH_take (i := 9) (oi := { dst := some 38, op := Op.extract (Operand.tmp 29) 1, type := 3, pos := "more.go:19", after := #[{ on := 7, ground := Ground.data }, { on := 12, ground := Ground.gcOnly Departure.lateStores }], guard := none }) (v := ?vr5r7o9) rfl (by kernel_rfl) (by kernel_rfl) (by kernel_rfl) (fun _ _ _ h => h) (Or.inl ⟨by rfl, ?hr5r7o9⟩) hS ?_
      case hr5r7o9 => (intro wx hx; skip; go_simp; (try with_reducible rfl))
      try simp only [Act.put, List.setIfInBounds_toArray, List.set_cons_zero, List.set_cons_succ]
      refine wpAnyH_take (i := 10) (oi := { dst := some 39, op := Op.extract (Operand.tmp 29) 2, type := 3, pos := "more.go:19", after := #[{ on := 7, ground := Ground.data }, { on := 13, ground := Ground.gcOnly Departure.lateStores }], guard := none }) (v := ?vr5r7o10) rfl (by kernel_rfl) (by kernel_rfl) (by kernel_rfl) (fun _ _ _ h => h) (Or.inl ⟨by rfl, ?hr5r7o10⟩) hS ?_
      case hr5r7o10 => (intro wx hx; skip; go_simp; (try with_reducible rfl))
      try simp only [Act.put, List.setIfInBounds_toArray, List.set_cons_zero, List.set_cons_succ]
      refine wpAnyH_take (i := 11) (oi := { dst := some 40, op := Op.extract (Operand.tmp 29) 3, type := 3, pos := "more.go:19", after := #[{ on := 7, ground := Ground.data }, { on := 14, ground := Ground.gcOnly Departure.lateStores }], guard := none }) (v := ?vr5r7o11) rfl (by kernel_rfl) (by kernel_rfl) (by kernel_rfl) (fun _ _ _ h => h) (Or.inl ⟨by rfl, ?hr5r7o11⟩) hS ?_
      case hr5r7o11 => (intro wx hx; skip; go_simp; (try with_reducible rfl))
      try simp only [Act.put, List.setIfInBounds_toArray, List.set_cons_zero, List.set_cons_succ]
      refine wpAnyH_take (i := 12) (oi := { dst := some 7, op := Op.assign (Operand.tmp 37), type := 45, pos := "more.go:19", after := #[{ on := 8, ground := Ground.data }, { on := 6, ground := Ground.chain }, { on := 0, ground := Ground.phase }, { on := 1, ground := Ground.phase }, { on := 2, ground := Ground.phase }, { on := 3, ground := Ground.phase }, { on := 4, ground := Ground.phase }, { on := 5, ground := Ground.phase }, { on := 6, ground := Ground.phase }, { on := 7, ground := Ground.phase }, { on := 8, ground := Ground.phase }, { on := 9, ground := Ground.textOnly Departure.lateStores }, { on := 10, ground := Ground.textOnly Departure.lateStores }, { on := 11, ground := Ground.textOnly Departure.lateStores }], guard := none }) (v := ?vr5r7o12) rfl (by kernel_rfl) (by kernel_rfl) (by kernel_rfl) (fun _ _ _ h => h) (Or.inl ⟨by rfl, ?hr5r7o12⟩) hS ?_
      case hr5r7o12 => (intro wx hx; skip; go_simp; (try with_reducible rfl))
      try simp only [Act.put, List.setIfInBounds_toArray, List.set_cons_zero, List.set_cons_succ]
      refine wpAnyH_take (i := 13) (oi := { dst := some 8, op := Op.assign (Operand.tmp 38), type := 3, pos := "more.go:19", after := #[{ on := 9, ground := Ground.data }, { on := 12, ground := Ground.chain }, { on := 0, ground := Ground.phase }, { on := 1, ground := Ground.phase }, { on := 2, ground := Ground.phase }, { on := 3, ground := Ground.phase }, { on := 4, ground := Ground.phase }, { on := 5, ground := Ground.phase }, { on := 6, ground := Ground.phase }, { on := 7, ground := Ground.phase }, { on := 8, ground := Ground.phase }, { on := 9, ground := Ground.phase }, { on := 10, ground := Ground.textOnly Departure.lateStores }, { on := 11, ground := Ground.textOnly Departure.lateStores }, { on := 12, ground := Ground.phase }], guard := none }) (v := ?vr5r7o13) rfl (by kernel_rfl) (by kernel_rfl) (by kernel_rfl) (fun _ _ _ h => h) (Or.inl ⟨by rfl, ?hr5r7o13⟩) hS ?_
      case hr5r7o13 => (intro wx hx; skip; go_simp; (try with_reducible rfl))
      try simp only [Act.put, List.setIfInBounds_toArray, List.set_cons_zero, List.set_cons_succ]
      refine wpAnyH_take (i := 14) (oi := { dst := some 9, op := Op.assign (Operand.tmp 39), type := 3, pos := "more.go:19", after := #[{ on := 10, ground := Ground.data }, { on := 13, ground := Ground.chain }, { on := 0, ground := Ground.phase }, { on := 1, ground := Ground.phase }, { on := 2, ground := Ground.phase }, { on := 3, ground := Ground.phase }, { on := 4, ground := Ground.phase }, { on := 5, ground := Ground.phase }, { on := 6, ground := Ground.phase }, { on := 7, ground := Ground.phase }, { on := 8, ground := Ground.phase }, { on := 9, ground := Ground.phase }, { on := 10, ground := Ground.phase }, { on := 11, ground := Ground.textOnly Departure.lateStores }, { on := 12, ground := Ground.phase }, { on := 13, ground := Ground.phase }], guard := none }) (v := ?vr5r7o14) rfl (by kernel_rfl) (by kernel_rfl) (by kernel_rfl) (fun _ _ _ h => h) (Or.inl ⟨by rfl, ?hr5r7o14⟩) hS ?_
      case hr5r7o14 => (intro wx hx; skip; go_simp; (try with_reducible rfl))
      try simp only [Act.put, List.setIfInBounds_toArray, List.set_cons_zero, List.set_cons_succ]
      refine wpAnyH_take (i := 15) (oi := { dst := some 10, op := Op.assign (Operand.tmp 40), type := 3, pos := "more.go:19", after := #[{ on := 11, ground := Ground.data }, { on := 14, ground := Ground.chain }, { on := 0, ground := Ground.phase }, { on := 1, ground := Ground.phase }, { on := 2, ground := Ground.phase }, { on := 3, ground := Ground.phase }, { on := 4, ground := Ground.phase }, { on := 5, ground := Ground.phase }, { on := 6, ground := Ground.phase }, { on := 7, ground := Ground.phase }, { on := 8, ground := Ground.phase }, { on := 9, ground := Ground.phase }, { on := 10, ground := Ground.phase }, { on := 11, ground := Ground.phase }, { on := 12, ground := Ground.phase }, { on := 13, ground := Ground.phase }, { on := 14, ground := Ground.phase }], guard := none }) (v := ?vr5r7o15) rfl (by kernel_rfl) (by kernel_rfl) (by kernel_rfl) (fun _ _ _ h => h) (Or.inl ⟨by rfl, ?hr5r7o15⟩) hS ?_
      case hr5r7o15 => (intro wx hx; skip; go_simp; (try with_reducible rfl))
      try simp only [Act.put, List.setIfInBounds_toArray, List.set_cons_zero, List.set_cons_succ]
      refine wpAnyH_done (by kernel_rfl) ?_ _
      have hGB := Lib.hid (And.intro hS.1 (grown_trans HO.out.2 hgB5))
      clear hS hgB hgB5 hS1 HO c0 HWh
      go_upto_region 8 with fail
      go_cut [5] (fun s wx => s = .bool (bb && st) ∧ wx = wB)
      case first =>
        cases bb with
        | false =>
          go_wp2_with fail
          go_meet
          case rel => exact ⟨rfl, rfl⟩
        | true =>
          by_cases h0 : K = 0
          · subst h0
            have : st = false := by rw [HV.out]; simp
            subst this
            go_wp2_with fail
            go_meet
            case rel => exact ⟨rfl, rfl⟩
          · by_cases h1 : K = 1
            · subst h1
              have : st = false := by rw [HV.out]; simp
              subst this
              go_wp2_with fail
              go_meet
              case rel => exact ⟨rfl, rfl⟩
            · by_cases h5 : K = 5
              · subst h5
                have : st = false := by rw [HV.out]; simp
                subst this
                go_wp2_with fail
                go_meet
                case rel => exact ⟨rfl, rfl⟩
              · have : st = true := by rw [HV.out]; simp [h0, h1, h5]
                subst this
                have e0 : (K != 0) = true := by simpa using h0
                have e1 : (K != 1) = true := by simpa using h1
                have e5 : (K != 5) = true := by simpa using h5
                clear h0 h1 h5
                go_wp2_with fail
                go_meet
                case rel => exact ⟨rfl, rfl⟩
      case rest =>
      obtain ⟨rfl, rfl⟩ := hcut
      obtain ⟨B0, HB0⟩ : ∃ B0, Hid (B0 = (bb && st)) := ⟨_, Lib.hid rfl⟩
      rw [← HB0.out] at HP ⊢
      clear HV HSt
      go_wp2_with fail
      go_loopw [5, 11] (fun mv j wr => ∃ (n : Nat) (b1 : Bool), n ≤ k ∧ j = .int .i64 (n : Int) ∧ mv = .bool b1 ∧ Hid (b1 = (B0 && nonB M k n)) ∧ Hid (GeoS G a b c wr ∧ w.grownBy wr none)) (fun _ j _ => k - (intOf j).toNat)
      case atStart => exact ⟨0, B0, Nat.zero_le _, rfl, rfl, Lib.hid (by rw [nonB_zero, Bool.and_true]), hGB⟩
      case round =>
        clear hGB
        obtain ⟨n, b1, hn, rfl, rfl, HB1, HO⟩ := hrel
        have n0 : (0 : Int) ≤ (n : Int) := by omega
        by_cases hltn : n < k
        · have hltn' : (n : Int) < (k : Int) := by omega
          have hltm' : (n : Int) < (m : Int) := by omega
          have HN := Lib.hid (nonB_succ M k n)
          cases b1 with
          | false =>
            have HB2 : Hid (false = (B0 && nonB M k (n + 1))) := Lib.hid (by rw [HN.out, ← Bool.and_assoc, ← HB1.out]; rfl)
            go_wp2_with fail
            go_quiet (fail)
            generalize hWy : World.drewN _ _ = Wy
            have hO1 : Hid (GeoS G a b c Wy ∧ w.grownBy Wy none) := Lib.hid (by rw [← hWy]; exact ⟨HO.out.1.keep (grown_drewN _ _ _), grown_trans HO.out.2 (grown_drewN _ _ _)⟩)
            clear hWy HO
            go_wp2
            go_roundw
            case rel => exact ⟨n + 1, false, by omega, by go_num, rfl, HB2, hO1⟩
            case measure => simp [intOf]; omega
          | true =>
            obtain ⟨q', o', he, c1, _⟩ := at_ipair (hat.out.grown HO.out.2 (by simp)) n (by omega)
            cases he
            obtain ⟨q', o', he, c2, _⟩ := at_ipair (hat.out.grown HO.out.2 (by simp)) k hkL
            cases he
            rw [← A0.out] at c2 HN
            obtain ⟨A', A0'⟩ : ∃ A', Hid (A' = (M.getD n (0, 0)).1) := ⟨_, Lib.hid rfl⟩
            rw [← A0'.out] at c1 HN
            by_cases hAA : A' = A
            · have HB2 : Hid (false = (B0 && nonB M k (n + 1))) := Lib.hid (by rw [HN.out, ← Bool.and_assoc, ← HB1.out]; simp [hAA])
              have e1 : (A' != A) = false := by simpa using hAA
              clear hAA
              go_wp2_with fail
              go_quiet (fail)
              generalize hWy : World.drewN _ _ = Wy
              have hO1 : Hid (GeoS G a b c Wy ∧ w.grownBy Wy none) := Lib.hid (by rw [← hWy]; exact ⟨HO.out.1.keep (grown_drewN _ _ _), grown_trans HO.out.2 (grown_drewN _ _ _)⟩)
              clear hWy HO c1 c2
              go_wp2
              go_roundw
              case rel => exact ⟨n + 1, false, by omega, by go_num, rfl, HB2, hO1⟩
              case measure => simp [intOf]; omega
            · have HB2 : Hid (true = (B0 && nonB M k (n + 1))) := Lib.hid (by rw [HN.out, ← Bool.and_assoc, ← HB1.out]; simp [hAA])
              have e1 : (A' != A) = true := by simpa using hAA
              clear hAA
              go_wp2_with fail
              go_quiet (fail)
              generalize hWy : World.drewN _ _ = Wy
              have hO1 : Hid (GeoS G a b c Wy ∧ w.grownBy Wy none) := Lib.hid (by rw [← hWy]; exact ⟨HO.out.1.keep (grown_drewN _ _ _), grown_trans HO.out.2 (grown_drewN _ _ _)⟩)
              clear hWy HO c1 c2
              go_wp2
              go_roundw
              case rel => exact ⟨n + 1, true, by omega, by go_num, rfl, HB2, hO1⟩
              case measure => simp [intOf]; omega
        · have hltn' : ¬ (n : Int) < (k : Int) := by omega
          obtain rfl : n = k := by omega
          have HB3 : Hid (b1 = preD a b c M m (n + 1)) := Lib.hid (by rw [HP.out]; exact HB1.out)
          go_wp2
          go_roundw
          case rel => exact ⟨n + 1, b1, by omega, by go_num, rfl, HB3, HO⟩
          case measure => simp [intOf]; omega
    · have hlt' : ¬ (k : Int) < (m : Int) := by omega
      obtain rfl : k = m := by omega
      rw [← HBB.out] at HM
      obtain ⟨y0, y1, y2⟩ := GeoS.cells HO.out.1
      have hatr := Lib.hid (hat.out.grown HO.out.2 (by simp))
      go_wp2_with fail
      refine (HM.out _ hatr.out).mono ?_
      rintro e w4 ⟨rfl, hg4⟩
      have hg := grown_trans HO.out.2 hg4
      clear hg4 HM HO HBB
      cases bb with
      | false =>
        go_wp2_with fail
        refine (works_any _).mono ?_
        rintro e w6 ⟨rfl, hg6⟩
        go_wp2
        go_ret
        exact ⟨rfl, grown_trans hg hg6⟩
      | true =>
        go_wp2_with fail
        refine (works_any _).mono ?_
        rintro e w6 ⟨rfl, hg6⟩
        go_wp2
        go_ret
        exact ⟨rfl, grown_trans hg hg6⟩

theorem walk (a b c : Int) (a0 : Option Addr) (l0 c0 : Nat) (z0 : List Wrt) (w : World) (_ : (Lit.int .i64 a).wf = true) (_ : (Lit.int .i64 b).wf = true) (_ : (Lit.int .i64 c).wf = true) (w0 : WrtsIn w a0 l0 z0) :
    Calls Try.prog 5 #[.agg #[.int .i64 a, .int .i64 b, .int .i64 c], .slice a0 l0 c0] w (WorksIs w) := by
  obtain ⟨M, hM⟩ := wrts_given w0
  by_cases h0 : 200 < l0
  · exact walk_far1 a b c a0 l0 c0 w h0
  · exact walk_at a b c a0 l0 c0 M w h0 hM
end Go.Proofs.Ythcaeepngdohfaa.recordPlaces
