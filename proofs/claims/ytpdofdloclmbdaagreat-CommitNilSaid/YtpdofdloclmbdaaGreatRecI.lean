/- The document's record: May. -/
import Derived.Test.YtpdofdloclmbdaaGreatRecH
namespace Go.Proofs.YtpdofdloclmbdaaGreat
open Go.RowKit Go.Grommet

/-- The document's geometry stands in a block. -/
def GeoR (G : Nat) (a b c : Int) (w : World) : Prop := w.heap[G]? = some (.cells #[.int .i64 a, .int .i64 b, .int .i64 c] 28 (0, 0))
theorem GeoR.keep {G : Nat} {a b c : Int} {w w' : World} (h : GeoR G a b c w) (hg : w.grownBy w' none) : GeoR G a b c w' := (hg.block G (lt_of_block h) (by simp)).trans h
theorem GeoR.cells {G : Nat} {a b c : Int} {w : World} (h : GeoR G a b c w) : w.cell? ⟨G, 0, none⟩ = some (.int .i64 a) ∧ w.cell? ⟨G, 1, none⟩ = some (.int .i64 b) ∧ w.cell? ⟨G, 2, none⟩ = some (.int .i64 c) := by
  unfold GeoR at h
  refine ⟨?_, ?_, ?_⟩ <;> simp [World.cell?, h]

set_option maxHeartbeats 1000000 in
theorem RefMay_geo (a b c : Int) (bd : Option Addr) (m cc : Nat) (w : World) (hb : mayB a b c = false) : Calls Tryz.prog 60 #[gv a b c, .slice bd m cc] w (BoolIs false w) := by
  have HM := Lib.hid (fun wx => RMay_any a b c wx)
  rw [hb] at HM
  unfold gv at HM ⊢
  clear hb
  go_enter Tryz.func60, Tryz.ntmps60
  go_wp2_with fail
  refine (HM.out _).mono ?_
  rintro e w1 ⟨rfl, hg⟩
  go_wp2
  go_ret
  exact ⟨rfl, grown_trans (World.grownBy_alloc w _ none) hg⟩
set_option maxHeartbeats 1000000 in
theorem RefMay_many (a b c : Int) (bd : Option Addr) (m cc : Nat) (w : World) (hb : mayB a b c = true) (h : 96 < m) : Calls Tryz.prog 60 #[gv a b c, .slice bd m cc] w (BoolIs false w) := by
  have h' : (96 : Int) < (m : Int) := by omega
  have HM := Lib.hid (fun wx => RMay_any a b c wx)
  rw [hb] at HM
  unfold gv at HM ⊢
  clear hb
  go_enter Tryz.func60, Tryz.ntmps60
  go_wp2_with fail
  refine (HM.out _).mono ?_
  rintro e w1 ⟨rfl, hg⟩
  go_wp2
  go_ret
  exact ⟨rfl, grown_trans (World.grownBy_alloc w _ none) hg⟩

set_option maxRecDepth 100000 in
set_option maxHeartbeats 1000000 in
theorem RefMay_at (a b c : Int) (a0 : Option Addr) (m cc : Nat) (M : List (Int × Nat)) (w : World) (hat0 : At w a0 (icells M)) (hL : M.length = m) (hm : ¬ 96 < m) (hb : mayB a b c = true) :
    Calls Tryz.prog 60 #[gv a b c, .slice a0 m cc] w (BoolIs (mayW a b c M) w) := by
  have h' : ¬ (96 : Int) < (m : Int) := by omega
  have HM := Lib.hid (fun wx => RMay_any a b c wx)
  have HY : Hid (preB a b c M m → mayW a b c M = true) := Lib.hid (fun h => by
    unfold mayW; rw [hL, decide_eq_true_eq]; exact ⟨by omega, hb, h⟩)
  have HN0 : Hid (¬ preB a b c M m → mayW a b c M = false) := Lib.hid (fun h => by
    unfold mayW; rw [hL, decide_eq_false_iff_not]; exact fun x => h x.2.2)
  rw [hb] at HM
  have hgw := Lib.hid (World.grownBy_alloc w (.cells #[.int .i64 a, .int .i64 b, .int .i64 c] 28) none)
  have hG : GeoR w.heap.size a b c (w.alloc (.cells #[.int .i64 a, .int .i64 b, .int .i64 c] 28)) := heap_alloc_new w _
  obtain ⟨G, HGe⟩ : ∃ G, Hid (G = w.heap.size) := ⟨_, Lib.hid rfl⟩
  rw [← HGe.out] at hG
  have hat := Lib.hid hat0
  have HL := Lib.hid hL
  replace hG := Lib.hid hG
  clear hL hb hat0
  unfold gv at HM ⊢
  go_enter Tryz.func60, Tryz.ntmps60
  go_wp2_with fail
  refine (HM.out _).mono ?_
  rintro e w1 ⟨rfl, hg⟩
  clear HM
  rw [← HGe.out]
  have hcG := Lib.hid (And.intro (hG.out.keep hg) (grown_trans hgw.out hg))
  clear hg hG hgw
  go_wp2_with fail
  go_loopw [5] (fun i wr => ∃ k : Nat, k ≤ m ∧ i = .int .i64 (k : Int) ∧ Hid (preB a b c M k) ∧ Hid (GeoR G a b c wr ∧ w.grownBy wr none)) (fun i _ => m - (intOf i).toNat)
  case atStart => exact ⟨0, Nat.zero_le _, rfl, Lib.hid (fun i hi => by omega), hcG⟩
  case round =>
    clear hcG
    obtain ⟨k, hk, rfl, HP, HO⟩ := hrel
    have k0 : (0 : Int) ≤ (k : Int) := by omega
    by_cases hlt : k < m
    · have hlt' : (k : Int) < (m : Int) := by omega
      have hkL : k < M.length := by rw [HL.out]; exact hlt
      obtain ⟨q, o, rfl, c0, _⟩ := at_ipair (hat.out.grown HO.out.2 (by simp)) k hkL
      obtain ⟨A, A0⟩ : ∃ A, Hid (A = (M.getD k (0, 0)).1) := ⟨_, Lib.hid rfl⟩
      rw [← A0.out] at c0
      have HWh := Lib.hid (fun wx => RWhere_any a b c A wx)
      have HV : Hid (standB a b c A = decide ((whereV a b c A).1 ≠ 0 ∧ (whereV a b c A).1 ≠ 1 ∧ (whereV a b c A).1 ≠ 5)) := Lib.hid rfl
      have HNo : Hid (standB a b c A = false → mayW a b c M = false) := Lib.hid (fun e => HN0.out (fun h => by
        have := (h k hlt).1
        rw [← A0.out, e] at this
        cases this))
      generalize whereV a b c A = WV at HWh HV
      obtain ⟨K, i1, i2, i3⟩ := WV
      unfold RWhereIs gv at HWh
      dsimp only at HWh HV
      go_wp2_with fail
      refine wp_region_held_drew (S := fun w' => GeoR G a b c w' ∧ CellS q (o + k * 2) (.int .i64 A) w') (by kernel_rfl) (⟨HO.out.1.keep (grown_drew (World.grownBy.refl _ none)), c0⟩) (fun hS => ?_)
      refine wpAnyH_take (i := 0) (oi := { dst := some 26, op := Op.load 28 (Operand.tmp 2), type := 28, pos := "ref.go:24", after := #[], guard := none }) (v := ?vr60r6o0) rfl (by kernel_rfl) (by kernel_rfl) (by kernel_rfl) (fun _ _ _ h => h) (Or.inl ⟨by rfl, ?hr60r6o0⟩) hS ?_
      case hr60r6o0 => (intro wx hx; obtain ⟨hx0, hx1⟩ := hx; obtain ⟨y0, y1, y2⟩ := GeoR.cells hx0; unfold CellS at hx1; go_simp; (try with_reducible rfl))
      try simp only [Act.put, List.setIfInBounds_toArray, List.set_cons_zero, List.set_cons_succ]
      refine wpAnyH_take (i := 1) (oi := { dst := some 27, op := Op.move (Operand.tmp 1), type := 43, pos := "ref.go:24", after := #[], guard := none }) (v := ?vr60r6o1) rfl (by kernel_rfl) (by kernel_rfl) (by kernel_rfl) (fun _ _ _ h => h) (Or.inl ⟨by rfl, ?hr60r6o1⟩) hS ?_
      case hr60r6o1 => (intro wx hx; skip; go_simp; (try with_reducible rfl))
      try simp only [Act.put, List.setIfInBounds_toArray, List.set_cons_zero, List.set_cons_succ]
      refine wpAnyH_take (i := 2) (oi := { dst := some 28, op := Op.move (Operand.tmp 5), type := 3, pos := "ref.go:24", after := #[], guard := none }) (v := ?vr60r6o2) rfl (by kernel_rfl) (by kernel_rfl) (by kernel_rfl) (fun _ _ _ h => h) (Or.inl ⟨by rfl, ?hr60r6o2⟩) hS ?_
      case hr60r6o2 => (intro wx hx; skip; go_simp; (try with_reducible rfl))
      try simp only [Act.put, List.setIfInBounds_toArray, List.set_cons_zero, List.set_cons_succ]
      refine wpAnyH_take (i := 3) (oi := { dst := some 29, op := Op.indexAddr 43 (Operand.tmp 27) (Operand.tmp 28), type := 0, pos := "ref.go:24", after := #[{ on := 1, ground := Ground.data }, { on := 2, ground := Ground.data }], guard := none }) (v := ?vr60r6o3) rfl (by kernel_rfl) (by kernel_rfl) (by kernel_rfl) (fun _ _ _ h => h) (Or.inl ⟨by rfl, ?hr60r6o3⟩) hS ?_
      case hr60r6o3 => (intro wx hx; skip; go_simp; (try with_reducible rfl))
      try simp only [Act.put, List.setIfInBounds_toArray, List.set_cons_zero, List.set_cons_succ]
      refine wpAnyH_take (i := 4) (oi := { dst := some 30, op := Op.fieldAddr 92 (Operand.tmp 29) 0, type := 0, pos := "ref.go:24", after := #[{ on := 3, ground := Ground.data }], guard := none }) (v := ?vr60r6o4) rfl (by kernel_rfl) (by kernel_rfl) (by kernel_rfl) (fun _ _ _ h => h) (Or.inl ⟨by rfl, ?hr60r6o4⟩) hS ?_
      case hr60r6o4 => (intro wx hx; skip; go_simp; (try with_reducible rfl))
      try simp only [Act.put, List.setIfInBounds_toArray, List.set_cons_zero, List.set_cons_succ]
      refine wpAnyH_take (i := 5) (oi := { dst := some 31, op := Op.load 3 (Operand.tmp 30), type := 3, pos := "ref.go:24", after := #[{ on := 4, ground := Ground.data }], guard := none }) (v := ?vr60r6o5) rfl (by kernel_rfl) (by kernel_rfl) (by kernel_rfl) (fun _ _ _ h => h) (Or.inl ⟨by rfl, ?hr60r6o5⟩) hS ?_
      case hr60r6o5 => (intro wx hx; obtain ⟨hx0, hx1⟩ := hx; obtain ⟨y0, y1, y2⟩ := GeoR.cells hx0; unfold CellS at hx1; go_simp; (try with_reducible rfl))
      try simp only [Act.put, List.setIfInBounds_toArray, List.set_cons_zero, List.set_cons_succ]
      refine wpAnyH_ready (rs := [6]) (by kernel_rfl) (by simp) ?_
      refine AllReadyH.cons (o := { dst := some 32, op := Op.call { callee := Callee.value (Operand.func 99), args := #[Operand.tmp 26, Operand.tmp 31], argTypes := #[28, 3] }, type := 164, pos := "ref.go:24", after := #[{ on := 0, ground := Ground.data }, { on := 5, ground := Ground.data }], guard := none }) rfl (fun K hK => ?_) AllReadyH.nil
      go_simp
      refine (HWh.out _).mono ?_
      rintro e wB ⟨rfl, hgB⟩
      have hgB5 := grown_trans (grown_drew (World.grownBy.refl _ none)) hgB
      have hS1 : GeoR G a b c wB ∧ CellS q (o + k * 2) (.int .i64 A) wB := ⟨hS.1.keep hgB, hS.2.keep hgB⟩
      refine hK.out _ _ ?hsr60r6o6 (fun hS => ?_)
      case hsr60r6o6 => (exact hS1)
      clear hK K
      try simp only [Act.put, List.setIfInBounds_toArray, List.set_cons_zero, List.set_cons_succ]
      refine wpAnyH_take (i := 7) (oi := { dst := some 25, op := Op.move (Operand.tmp 32), type := 164, pos := "ref.go:24", after := #[{ on := 6, ground := Ground.data }], guard := none }) (v := ?vr60r6o7) rfl (by kernel_rfl) (by kernel_rfl) (by kernel_rfl) (fun _ _ _ h => h) (Or.inl ⟨by rfl, ?hr60r6o7⟩) hS ?_
      case hr60r6o7 => (intro wx hx; skip; go_simp; (try with_reducible rfl))
      try simp only [Act.put, List.setIfInBounds_toArray, List.set_cons_zero, List.set_cons_succ]
      refine wpAnyH_take (i := 8) (oi := { dst := some 33, op := Op.extract (Operand.tmp 25) 0, type := 3, pos := "ref.go:24", after := #[{ on := 7, ground := Ground.data }], guard := none }) (v := ?vr60r6o8) rfl (by kernel_rfl) (by kernel_rfl) (by kernel_rfl) (fun _ _ _ h => h) (Or.inl ⟨by rfl, ?hr60r6o8⟩) hS ?_
      case hr60r6o8 => (intro wx hx; skip; go_simp; (try with_reducible rfl))
      try simp only [Act.put, List.setIfInBounds_toArray, List.set_cons_zero, List.set_cons_succ]
      refine wpAnyH_take (i := 9) (oi := { dst := some 34, op := Op.extract (Operand.tmp 25) 1, type := 3, pos := "ref.go:24", after := #[{ on := 7, ground := Ground.data }, { on := 12, ground := Ground.gcOnly Departure.lateStores }], guard := none }) (v := ?vr60r6o9) rfl (by kernel_rfl) (by kernel_rfl) (by kernel_rfl) (fun _ _ _ h => h) (Or.inl ⟨by rfl, ?hr60r6o9⟩) hS ?_
      case hr60r6o9 => (intro wx hx; skip; go_simp; (try with_reducible rfl))
      try simp only [Act.put, List.setIfInBounds_toArray, List.set_cons_zero, List.set_cons_succ]
      refine wpAnyH_take (i := 10) (oi := { dst := some 35, op := Op.extract (Operand.tmp 25) 2, type := 3, pos := "ref.go:24", after := #[{ on := 7, ground := Ground.data }, { on := 13, ground := Ground.gcOnly Departure.lateStores }], guard := none }) (v := ?vr60r6o10) rfl (by kernel_rfl) (by kernel_rfl) (by kernel_rfl) (fun _ _ _ h => h) (Or.inl ⟨by rfl, ?hr60r6o10⟩) hS ?_
      case hr60r6o10 => (intro wx hx; skip; go_simp; (try with_reducible rfl))
      try simp only [Act.put, List.setIfInBounds_toArray, List.set_cons_zero, List.set_cons_succ]
      refine wpAnyH_take (i := 11) (oi := { dst := some 36, op := Op.extract (Operand.tmp 25) 3, type := 3, pos := "ref.go:24", after := #[{ on := 7, ground := Ground.data }, { on := 14, ground := Ground.gcOnly Departure.lateStores }], guard := none }) (v := ?vr60r6o11) rfl (by kernel_rfl) (by kernel_rfl) (by kernel_rfl) (fun _ _ _ h => h) (Or.inl ⟨by rfl, ?hr60r6o11⟩) hS ?_
      case hr60r6o11 => (intro wx hx; skip; go_simp; (try with_reducible rfl))
      try simp only [Act.put, List.setIfInBounds_toArray, List.set_cons_zero, List.set_cons_succ]
      refine wpAnyH_take (i := 12) (oi := { dst := some 6, op := Op.assign (Operand.tmp 33), type := 3, pos := "ref.go:24", after := #[{ on := 8, ground := Ground.data }, { on := 6, ground := Ground.chain }, { on := 0, ground := Ground.phase }, { on := 1, ground := Ground.phase }, { on := 2, ground := Ground.phase }, { on := 3, ground := Ground.phase }, { on := 4, ground := Ground.phase }, { on := 5, ground := Ground.phase }, { on := 6, ground := Ground.phase }, { on := 7, ground := Ground.phase }, { on := 8, ground := Ground.phase }, { on := 9, ground := Ground.textOnly Departure.lateStores }, { on := 10, ground := Ground.textOnly Departure.lateStores }, { on := 11, ground := Ground.textOnly Departure.lateStores }], guard := none }) (v := ?vr60r6o12) rfl (by kernel_rfl) (by kernel_rfl) (by kernel_rfl) (fun _ _ _ h => h) (Or.inl ⟨by rfl, ?hr60r6o12⟩) hS ?_
      case hr60r6o12 => (intro wx hx; skip; go_simp; (try with_reducible rfl))
      try simp only [Act.put, List.setIfInBounds_toArray, List.set_cons_zero, List.set_cons_succ]
      refine wpAnyH_take (i := 13) (oi := { dst := some 7, op := Op.assign (Operand.tmp 34), type := 3, pos := "ref.go:24", after := #[{ on := 9, ground := Ground.data }, { on := 12, ground := Ground.chain }, { on := 0, ground := Ground.phase }, { on := 1, ground := Ground.phase }, { on := 2, ground := Ground.phase }, { on := 3, ground := Ground.phase }, { on := 4, ground := Ground.phase }, { on := 5, ground := Ground.phase }, { on := 6, ground := Ground.phase }, { on := 7, ground := Ground.phase }, { on := 8, ground := Ground.phase }, { on := 9, ground := Ground.phase }, { on := 10, ground := Ground.textOnly Departure.lateStores }, { on := 11, ground := Ground.textOnly Departure.lateStores }, { on := 12, ground := Ground.phase }], guard := none }) (v := ?vr60r6o13) rfl (by kernel_rfl) (by kernel_rfl) (by kernel_rfl) (fun _ _ _ h => h) (Or.inl ⟨by rfl, ?hr60r6o13⟩) hS ?_
      case hr60r6o13 => (intro wx hx; skip; go_simp; (try with_reducible rfl))
      try simp only [Act.put, List.setIfInBounds_toArray, List.set_cons_zero, List.set_cons_succ]
      refine wpAnyH_take (i := 14) (oi := { dst := some 8, op := Op.assign (Operand.tmp 35), type := 3, pos := "ref.go:24", after := #[{ on := 10, ground := Ground.data }, { on := 13, ground := Ground.chain }, { on := 0, ground := Ground.phase }, { on := 1, ground := Ground.phase }, { on := 2, ground := Ground.phase }, { on := 3, ground := Ground.phase }, { on := 4, ground := Ground.phase }, { on := 5, ground := Ground.phase }, { on := 6, ground := Ground.phase }, { on := 7, ground := Ground.phase }, { on := 8, ground := Ground.phase }, { on := 9, ground := Ground.phase }, { on := 10, ground := Ground.phase }, { on := 11, ground := Ground.textOnly Departure.lateStores }, { on := 12, ground := Ground.phase }, { on := 13, ground := Ground.phase }], guard := none }) (v := ?vr60r6o14) rfl (by kernel_rfl) (by kernel_rfl) (by kernel_rfl) (fun _ _ _ h => h) (Or.inl ⟨by rfl, ?hr60r6o14⟩) hS ?_
      case hr60r6o14 => (intro wx hx; skip; go_simp; (try with_reducible rfl))
      try simp only [Act.put, List.setIfInBounds_toArray, List.set_cons_zero, List.set_cons_succ]
      refine wpAnyH_take (i := 15) (oi := { dst := some 9, op := Op.assign (Operand.tmp 36), type := 3, pos := "ref.go:24", after := #[{ on := 11, ground := Ground.data }, { on := 14, ground := Ground.chain }, { on := 0, ground := Ground.phase }, { on := 1, ground := Ground.phase }, { on := 2, ground := Ground.phase }, { on := 3, ground := Ground.phase }, { on := 4, ground := Ground.phase }, { on := 5, ground := Ground.phase }, { on := 6, ground := Ground.phase }, { on := 7, ground := Ground.phase }, { on := 8, ground := Ground.phase }, { on := 9, ground := Ground.phase }, { on := 10, ground := Ground.phase }, { on := 11, ground := Ground.phase }, { on := 12, ground := Ground.phase }, { on := 13, ground := Ground.phase }, { on := 14, ground := Ground.phase }], guard := none }) (v := ?vr60r6o15) rfl (by kernel_rfl) (by kernel_rfl) (by kernel_rfl) (fun _ _ _ h => h) (Or.inl ⟨by rfl, ?hr60r6o15⟩) hS ?_
      case hr60r6o15 => (intro wx hx; skip; go_simp; (try with_reducible rfl))
      try simp only [Act.put, List.setIfInBounds_toArray, List.set_cons_zero, List.set_cons_succ]
      refine wpAnyH_done (by kernel_rfl) ?_ _
      have hGB := Lib.hid (And.intro hS.1 (grown_trans HO.out.2 hgB5))
      clear hS hgB hgB5 hS1 c0 HWh
      by_cases h0 : K = 0
      · subst h0
        have HR : Hid (mayW a b c M = false) := Lib.hid (HNo.out (by rw [HV.out]; simp))
        have hg := hGB.out.2
        clear HO hGB
        go_wp2
        go_ret
        exact boolIs_mk HR.out hg
      · by_cases h1 : K = 1
        · subst h1
          have HR : Hid (mayW a b c M = false) := Lib.hid (HNo.out (by rw [HV.out]; simp))
          have hg := hGB.out.2
          clear HO hGB
          go_wp2
          go_ret
          exact boolIs_mk HR.out hg
        · by_cases h5 : K = 5
          · subst h5
            have HR : Hid (mayW a b c M = false) := Lib.hid (HNo.out (by rw [HV.out]; simp))
            have hg := hGB.out.2
            clear HO hGB
            go_wp2
            go_ret
            exact boolIs_mk HR.out hg
          · have hst : standB a b c A = true := by rw [HV.out]; simp [h0, h1, h5]
            have e0 : (K == 0) = false := by simpa using h0
            have e1 : (K == 1) = false := by simpa using h1
            have e5 : (K == 5) = false := by simpa using h5
            replace hst := Lib.hid hst
            clear h0 h1 h5 HO
            go_wp2_with fail
            go_loopw [10] (fun j wr => ∃ n : Nat, n ≤ k ∧ j = .int .i64 (n : Int) ∧ Hid (∀ j, j < n → (M.getD j (0, 0)).1 ≠ A) ∧ Hid (GeoR G a b c wr ∧ w.grownBy wr none)) (fun j _ => k - (intOf j).toNat)
            case atStart => exact ⟨0, Nat.zero_le _, rfl, Lib.hid (fun j hj => by omega), hGB⟩
            case round =>
              clear hGB
              obtain ⟨n, hn, rfl, HU, HO⟩ := hrel
              have n0 : (0 : Int) ≤ (n : Int) := by omega
              by_cases hltn : n < k
              · have hltn' : (n : Int) < (k : Int) := by omega
                have hltm' : (n : Int) < (m : Int) := by omega
                obtain ⟨q', o', he, c1, _⟩ := at_ipair (hat.out.grown HO.out.2 (by simp)) n (by omega)
                cases he
                obtain ⟨q', o', he, c2, _⟩ := at_ipair (hat.out.grown HO.out.2 (by simp)) k hkL
                cases he
                rw [← A0.out] at c2
                obtain ⟨A', A0'⟩ : ∃ A', Hid (A' = (M.getD n (0, 0)).1) := ⟨_, Lib.hid rfl⟩
                rw [← A0'.out] at c1
                by_cases hAA : A' = A
                · have HR : Hid (mayW a b c M = false) := Lib.hid (HN0.out (fun h => (h k hlt).2 n hltn (by rw [← A0'.out, hAA, A0.out])))
                  have e1 : (A' == A) = true := by simpa using hAA
                  clear hAA
                  go_wp2_with fail
                  go_quiet (fail)
                  generalize hWy : World.drewN _ _ = Wy
                  have hg : w.grownBy Wy none := by rw [← hWy]; exact grown_trans HO.out.2 (grown_drewN _ _ _)
                  clear hWy HO c1 c2
                  go_wp2
                  go_ret
                  exact boolIs_mk HR.out hg
                · have HU2 : Hid (∀ j, j < n + 1 → (M.getD j (0, 0)).1 ≠ A) := Lib.hid (fun j hj => by
                    by_cases e : j = n
                    · subst e; rw [← A0'.out]; exact hAA
                    · exact HU.out j (by omega))
                  have e1 : (A' == A) = false := by simpa using hAA
                  clear hAA
                  go_wp2_with fail
                  go_quiet (fail)
                  generalize hWy : World.drewN _ _ = Wy
                  have hO1 : Hid (GeoR G a b c Wy ∧ w.grownBy Wy none) := Lib.hid (by rw [← hWy]; exact ⟨HO.out.1.keep (grown_drewN _ _ _), grown_trans HO.out.2 (grown_drewN _ _ _)⟩)
                  clear hWy HO c1 c2
                  go_wp2
                  go_roundw
                  case rel => exact ⟨n + 1, by omega, by go_num, HU2, hO1⟩
                  case measure => simp [intOf]; omega
              · have hltn' : ¬ (n : Int) < (k : Int) := by omega
                obtain rfl : n = k := by omega
                have HP2 : Hid (preB a b c M (n + 1)) := Lib.hid (fun i hi => by
                  by_cases e : i = n
                  · subst e; exact ⟨by rw [← A0.out]; exact hst.out, fun j hj => by rw [← A0.out]; exact HU.out j hj⟩
                  · exact HP.out i (by omega))
                go_wp2
                go_roundw
                case rel => exact ⟨n + 1, by omega, by go_num, HP2, HO⟩
                case measure => simp [intOf]; omega
    · have hlt' : ¬ (k : Int) < (m : Int) := by omega
      obtain rfl : k = m := by omega
      have HR := Lib.hid (HY.out HP.out)
      have hg := HO.out.2
      clear HO
      go_wp2
      go_ret
      exact boolIs_mk HR.out hg

theorem RefMay_any (a b c : Int) (bd : Option Addr) (m cc : Nat) (M : List (Int × Nat)) (w : World) (hat : At w bd (icells M)) (hL : M.length = m) :
    Calls Tryz.prog 60 #[gv a b c, .slice bd m cc] w (BoolIs (mayW a b c M) w) := by
  cases hb : mayB a b c with
  | false =>
    have : mayW a b c M = false := by unfold mayW; rw [decide_eq_false_iff_not, hb]; simp
    rw [this]
    exact RefMay_geo a b c bd m cc w hb
  | true =>
    by_cases h : 96 < m
    · rw [mayW_many (by rw [hL]; exact h)]
      exact RefMay_many a b c bd m cc w hb h
    · exact RefMay_at a b c bd m cc M w hat hL h hb
end Go.Proofs.YtpdofdloclmbdaaGreat
