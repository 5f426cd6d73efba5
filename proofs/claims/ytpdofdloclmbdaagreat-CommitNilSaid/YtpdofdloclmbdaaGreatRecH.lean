/- The document's record: Words. -/
import Derived.Test.YtpdofdloclmbdaaGreatRecG
namespace Go.Proofs.YtpdofdloclmbdaaGreat
open Go.RowKit Go.Grommet

theorem wp_app64b {w : World} {o : Oper} {a : Act} {K : Act → World → Prop} {Q : Exit → Act → World → Prop} (s x : Operand)
    (ho : o.op = .call { callee := .builtin .append, args := #[s, x], argTypes := #[33, 33] })
    (base : Nat) (v : Value) (n : Nat) (xs : List Nat) (hs : a.eval s = v) (hown : w.ownsRow base 44 1 v n (xs.map wv))
    (ad : Addr) (m c : Nat) (ys : List Nat) (hx : a.eval x = .slice (some ad) m c) (hl : ys.length = m) (hw : At w (some ad) (ys.map wv))
    (hb : n + m ≤ 1099511627776) (hbase : base ≤ w.heap.size)
    (h : ∀ ad' cap' w', w'.ownsRow base 44 1 (.slice ad' (n + m) cap') (n + m) ((xs ++ ys).map wv) → w.grownBy w' v.ownBlock → (∀ g, (Value.slice ad' (n + m) cap').ownBlock = some g → v.ownBlock = some g ∨ w.heap.size ≤ g) → K (a.put o.dst (.slice ad' (n + m) cap')) w') : o.wp Tryz.prog a w K Q := by
  obtain ⟨i0, hi, hz0, hz1, hz2⟩ := info_parts Tryz.info44
  obtain ⟨v', w', hr, h2, h3, h4⟩ := run_append_blk (P := Tryz.prog) w base 33 o.type 44 i0 (.int .u64 0) 1 8 Tryz.underlying33 hi hz0 hz1 hz2 rfl (by decide) v n (xs.map wv) hown ad m c (ys.map wv) (by rw [List.length_map, hl, Nat.mul_one]) hw.some (wv_oneCell ys) (by unfold maxLen; omega) (by omega) hbase
  obtain ⟨ad', cap', rfl, _⟩ := row_slice h2
  unfold Oper.wp execOp
  simp only [ho, resolve, invoke, builtin, Sem.run_bind, Sem.run_pure, Result.andThen_ok, List.map_toArray, List.map_cons, List.map_nil, hs, hx, hr]
  exact h ad' cap' w' (by rw [List.map_append]; exact h2) h3 h4

set_option maxHeartbeats 400000 in
theorem RefWords_many (ad : Option Addr) (l c : Nat) (w : World) (h : 96 < l) : Calls Tryz.prog 61 #[.slice ad l c] w (WordsNo 5 w) := by
  have h' : (96 : Int) < (l : Int) := by omega
  go_enter Tryz.func61, Tryz.ntmps61
  go_wp2
  go_ret2
  exact ⟨rfl, World.grownBy.refl _ _⟩

set_option maxRecDepth 100000 in
set_option maxHeartbeats 1000000 in
theorem RefWords_few (base : Nat) (bd : Option Addr) (m c : Nat) (M : List (Int × Nat)) (w : World) (hat : At w bd (icells M)) (hL : M.length = m) (hm : m ≤ 96) (hv : ∀ p ∈ M, p.1 ≤ 9223372036854775807 ∧ p.2 < 18446744073709551616) (hb : base ≤ w.heap.size) :
    Calls Tryz.prog 61 #[.slice bd m c] w (WordsAny base M w) := by
  have HL := Lib.hid hL
  have HV := Lib.hid hv
  clear hL hv
  have h96 : ¬ (96 : Int) < (m : Int) := by omega
  have hwm := u64_of_nat m (by omega)
  have hown0 : (w.alloc (.cells #[.int .u64 (m : Int)] 44)).ownsRow w.heap.size 44 1 (.slice (some ⟨w.heap.size, 0, none⟩) 1 1) 1 ([m].map wv) := World.ownsRow_lit (size := 1) (base := w.heap.size) (e := 44) w #[.int .u64 (m : Int)] 1 (Nat.le_refl _) (by unfold maxLen; omega) (by simp)
  have hO : Own w (w.alloc (.cells #[.int .u64 (m : Int)] 44)) [rowP 44 1 (.slice (some ⟨w.heap.size, 0, none⟩) 1 1) 1 ((m :: flatR (M.take 0)).map wv)] := (Own.nil w).addRow hown0 (World.grownBy_alloc w _ none)
  replace hO := Lib.hid hO
  clear hown0
  go_enter Tryz.func61, Tryz.ntmps61
  go_wp2_with fail
  go_loopw [4, 5] (fun lv i wr => ∃ k : Nat, k ≤ m ∧ i = .int .i64 (k : Int) ∧ ∃ (ad : Option Addr) (cap z : Nat), lv = .slice ad z cap ∧ Hid (z = 1 + 2 * k) ∧ Hid ((∀ p ∈ M.take k, 0 ≤ p.1) ∧ Own w wr [rowP 44 1 (.slice ad z cap) z ((m :: flatR (M.take k)).map wv)])) (fun _ i _ => m - (intOf i).toNat)
  case atStart => exact ⟨0, Nat.zero_le _, rfl, some ⟨w.heap.size, 0, none⟩, 1, 1, rfl, Lib.hid rfl, Lib.hid ⟨by simp, hO.out⟩⟩
  case round =>
    clear hO
    obtain ⟨k, hk, rfl, ad, cap, z, rfl, Hz, HO⟩ := hrel
    have k0 : (0 : Int) ≤ (k : Int) := by omega
    have hz200 : z ≤ 200 := by rw [Hz.out]; omega
    by_cases hlt : k < m
    · have hlt' : (k : Int) < (m : Int) := by omega
      have hkL : k < M.length := by rw [HL.out]; exact hlt
      obtain ⟨q, o, rfl, v0, v1⟩ := at_ipair (hat.grown HO.out.2.grown (by simp)) k hkL
      have hpv := HV.out _ (getD_mem M k (0, 0) hkL)
      have HT := Lib.hid (take_snocD M k (0, 0) hkL)
      have HM := Lib.hid (getD_mem M k (0, 0) hkL)
      obtain ⟨A, A0⟩ : ∃ A, Hid (A = (M.getD k (0, 0)).1) := ⟨_, Lib.hid rfl⟩
      obtain ⟨V, V0⟩ : ∃ V, Hid (V = (M.getD k (0, 0)).2) := ⟨_, Lib.hid rfl⟩
      rw [← A0.out] at v0 hpv
      rw [← V0.out] at v1 hpv
      obtain ⟨hp1, hp2⟩ := hpv
      have HNn := Lib.hid HO.out.1
      by_cases hA : A < 0
      · have hg := HO.out.2.grown
        have HR : WordsAny base M w (.returned (.tuple #[.slice none 0 0, .int .i64 1])) wr :=
          .inl ⟨by unfold negB; rw [List.any_eq_true]; exact ⟨_, HM.out, by rw [← A0.out]; simpa using hA⟩, rfl, hg⟩
        replace HR := Lib.hid HR
        clear HO hg
        go_wp2
        go_ret2
        exact HR.out
      · obtain ⟨a, ha⟩ := Int.eq_ofNat_of_zero_le (show 0 ≤ A by omega)
        rw [ha] at v0
        have A1 : Hid (A = (a : Int)) := Lib.hid ha
        have hwa := u64_of_nat a (by omega)
        have ha0 : ¬ (a : Int) < 0 := by omega
        have hrow := Own.row HO.out.2 0 rfl
        obtain ⟨zs, Hzs⟩ : ∃ zs, Hid (zs = m :: flatR (M.take k)) := ⟨_, Lib.hid rfl⟩
        rw [← Hzs.out] at hrow
        have HO : Hid ((∀ p ∈ M.take k, 0 ≤ p.1) ∧ Own w wr [rowP 44 1 (.slice ad z cap) z (zs.map wv)]) := Lib.hid (by rw [Hzs.out]; exact HO.out)
        clear ha hA
        go_wp2_with fail
        refine wp_region_held_drew (S := fun w' => (w'.cell? ⟨q, o + k * 2, none⟩ = some (.int .i64 (a : Int)) ∧ w'.cell? ⟨q, o + k * 2 + 1, none⟩ = some (.int .u64 (V : Int)))) (by kernel_rfl) (⟨v0, v1⟩) (fun hS => ?_)
        refine wpAnyH_take (i := 0) (oi := { dst := some 25, op := Op.move (Operand.tmp 4), type := 33, pos := "ref.go:47", after := #[], guard := none }) (v := ?vr61r9o0) rfl (by kernel_rfl) (by kernel_rfl) (by kernel_rfl) (fun _ _ _ h => h) (Or.inl ⟨by rfl, ?hr61r9o0⟩) hS ?_
        case hr61r9o0 => (intro wx hx; skip; go_simp; (try with_reducible rfl))
        try simp only [Act.put, List.setIfInBounds_toArray, List.set_cons_zero, List.set_cons_succ]
        refine wpAnyH_take (i := 1) (oi := { dst := some 26, op := Op.move (Operand.tmp 0), type := 43, pos := "ref.go:47", after := #[], guard := none }) (v := ?vr61r9o1) rfl (by kernel_rfl) (by kernel_rfl) (by kernel_rfl) (fun _ _ _ h => h) (Or.inl ⟨by rfl, ?hr61r9o1⟩) hS ?_
        case hr61r9o1 => (intro wx hx; skip; go_simp; (try with_reducible rfl))
        try simp only [Act.put, List.setIfInBounds_toArray, List.set_cons_zero, List.set_cons_succ]
        refine wpAnyH_take (i := 2) (oi := { dst := some 27, op := Op.move (Operand.tmp 5), type := 3, pos := "ref.go:47", after := #[], guard := none }) (v := ?vr61r9o2) rfl (by kernel_rfl) (by kernel_rfl) (by kernel_rfl) (fun _ _ _ h => h) (Or.inl ⟨by rfl, ?hr61r9o2⟩) hS ?_
        case hr61r9o2 => (intro wx hx; skip; go_simp; (try with_reducible rfl))
        try simp only [Act.put, List.setIfInBounds_toArray, List.set_cons_zero, List.set_cons_succ]
        refine wpAnyH_take (i := 3) (oi := { dst := some 28, op := Op.indexAddr 43 (Operand.tmp 26) (Operand.tmp 27), type := 0, pos := "ref.go:47", after := #[{ on := 1, ground := Ground.data }, { on := 2, ground := Ground.data }], guard := none }) (v := ?vr61r9o3) rfl (by kernel_rfl) (by kernel_rfl) (by kernel_rfl) (fun _ _ _ h => h) (Or.inl ⟨by rfl, ?hr61r9o3⟩) hS ?_
        case hr61r9o3 => (intro wx hx; skip; go_simp; (try with_reducible rfl))
        try simp only [Act.put, List.setIfInBounds_toArray, List.set_cons_zero, List.set_cons_succ]
        refine wpAnyH_take (i := 4) (oi := { dst := some 29, op := Op.fieldAddr 92 (Operand.tmp 28) 0, type := 0, pos := "ref.go:47", after := #[{ on := 3, ground := Ground.data }], guard := none }) (v := ?vr61r9o4) rfl (by kernel_rfl) (by kernel_rfl) (by kernel_rfl) (fun _ _ _ h => h) (Or.inl ⟨by rfl, ?hr61r9o4⟩) hS ?_
        case hr61r9o4 => (intro wx hx; skip; go_simp; (try with_reducible rfl))
        try simp only [Act.put, List.setIfInBounds_toArray, List.set_cons_zero, List.set_cons_succ]
        refine wpAnyH_take (i := 5) (oi := { dst := some 30, op := Op.load 3 (Operand.tmp 29), type := 3, pos := "ref.go:47", after := #[{ on := 4, ground := Ground.data }], guard := none }) (v := ?vr61r9o5) rfl (by kernel_rfl) (by kernel_rfl) (by kernel_rfl) (fun _ _ _ h => h) (Or.inl ⟨by rfl, ?hr61r9o5⟩) hS ?_
        case hr61r9o5 => (intro wx hx; obtain ⟨y0, y1⟩ := hx; go_simp; (try with_reducible rfl))
        try simp only [Act.put, List.setIfInBounds_toArray, List.set_cons_zero, List.set_cons_succ]
        refine wpAnyH_take (i := 6) (oi := { dst := some 31, op := Op.convert 3 44 (Operand.tmp 30), type := 44, pos := "ref.go:47", after := #[{ on := 5, ground := Ground.data }], guard := none }) (v := ?vr61r9o6) rfl (by kernel_rfl) (by kernel_rfl) (by kernel_rfl) (fun _ _ _ h => h) (Or.inl ⟨by rfl, ?hr61r9o6⟩) hS ?_
        case hr61r9o6 => (intro wx hx; obtain ⟨y0, y1⟩ := hx; go_simp; (try with_reducible rfl))
        try simp only [Act.put, List.setIfInBounds_toArray, List.set_cons_zero, List.set_cons_succ]
        refine wpAnyH_take (i := 7) (oi := { dst := some 32, op := Op.move (Operand.tmp 0), type := 43, pos := "ref.go:47", after := #[], guard := none }) (v := ?vr61r9o7) rfl (by kernel_rfl) (by kernel_rfl) (by kernel_rfl) (fun _ _ _ h => h) (Or.inl ⟨by rfl, ?hr61r9o7⟩) hS ?_
        case hr61r9o7 => (intro wx hx; skip; go_simp; (try with_reducible rfl))
        try simp only [Act.put, List.setIfInBounds_toArray, List.set_cons_zero, List.set_cons_succ]
        refine wpAnyH_take (i := 8) (oi := { dst := some 33, op := Op.move (Operand.tmp 5), type := 3, pos := "ref.go:47", after := #[], guard := none }) (v := ?vr61r9o8) rfl (by kernel_rfl) (by kernel_rfl) (by kernel_rfl) (fun _ _ _ h => h) (Or.inl ⟨by rfl, ?hr61r9o8⟩) hS ?_
        case hr61r9o8 => (intro wx hx; skip; go_simp; (try with_reducible rfl))
        try simp only [Act.put, List.setIfInBounds_toArray, List.set_cons_zero, List.set_cons_succ]
        refine wpAnyH_take (i := 9) (oi := { dst := some 34, op := Op.indexAddr 43 (Operand.tmp 32) (Operand.tmp 33), type := 0, pos := "ref.go:47", after := #[{ on := 7, ground := Ground.data }, { on := 8, ground := Ground.data }], guard := none }) (v := ?vr61r9o9) rfl (by kernel_rfl) (by kernel_rfl) (by kernel_rfl) (fun _ _ _ h => h) (Or.inl ⟨by rfl, ?hr61r9o9⟩) hS ?_
        case hr61r9o9 => (intro wx hx; skip; go_simp; (try with_reducible rfl))
        try simp only [Act.put, List.setIfInBounds_toArray, List.set_cons_zero, List.set_cons_succ]
        refine wpAnyH_take (i := 10) (oi := { dst := some 35, op := Op.fieldAddr 92 (Operand.tmp 34) 1, type := 0, pos := "ref.go:47", after := #[{ on := 9, ground := Ground.data }], guard := none }) (v := ?vr61r9o10) rfl (by kernel_rfl) (by kernel_rfl) (by kernel_rfl) (fun _ _ _ h => h) (Or.inl ⟨by rfl, ?hr61r9o10⟩) hS ?_
        case hr61r9o10 => (intro wx hx; skip; go_simp; (try with_reducible rfl))
        try simp only [Act.put, List.setIfInBounds_toArray, List.set_cons_zero, List.set_cons_succ]
        refine wpAnyH_take (i := 11) (oi := { dst := some 36, op := Op.load 44 (Operand.tmp 35), type := 44, pos := "ref.go:47", after := #[{ on := 10, ground := Ground.data }], guard := none }) (v := ?vr61r9o11) rfl (by kernel_rfl) (by kernel_rfl) (by kernel_rfl) (fun _ _ _ h => h) (Or.inl ⟨by rfl, ?hr61r9o11⟩) hS ?_
        case hr61r9o11 => (intro wx hx; obtain ⟨y0, y1⟩ := hx; go_simp; (try with_reducible rfl))
        try simp only [Act.put, List.setIfInBounds_toArray, List.set_cons_zero, List.set_cons_succ]
        refine wpAnyH_ready (rs := [12]) (by kernel_rfl) (by simp) ?_
        refine AllReadyH.cons (o := { dst := some 37, op := Op.buildSlice 33 2 #[(0, Operand.tmp 31), (1, Operand.tmp 36)], type := 33, pos := "ref.go:47", after := #[{ on := 6, ground := Ground.data }, { on := 11, ground := Ground.data }], guard := none }) rfl (fun K hK => ?_) AllReadyH.nil
        go_simp
        skip
        refine hK.out _ _ ?hsr61r9o12 (fun hS => ?_)
        case hsr61r9o12 => (exact ⟨(World.grownBy_alloc _ _ none).cell hS.1 (by simp), (World.grownBy_alloc _ _ none).cell hS.2 (by simp)⟩)
        clear hK K
        try simp only [Act.put, List.setIfInBounds_toArray, List.set_cons_zero, List.set_cons_succ]
        refine wpAnyH_ready (rs := [13]) (by kernel_rfl) (by simp) ?_
        refine AllReadyH.cons (o := { dst := some 38, op := Op.call { callee := Callee.builtin Builtin.append, args := #[Operand.tmp 25, Operand.tmp 37], argTypes := #[33, 33] }, type := 33, pos := "ref.go:47", after := #[{ on := 0, ground := Ground.data }, { on := 12, ground := Ground.data }], guard := none }) rfl (fun K hK => ?_) AllReadyH.nil
        refine wp_app64b _ _ rfl 0 _ z zs rfl (show (wr.drew.alloc (.cells #[.int .u64 (a : Int), .int .u64 (V : Int)] 44)).ownsRow 0 44 1 (.slice ad z cap) z (zs.map wv) from World.ownsRow.alloc hrow _) ⟨wr.heap.size, 0, none⟩ 2 2 [a, V] rfl rfl (at_of_row (heap_alloc_new wr.drew _)) ?gl (Nat.zero_le _) ?_
        case gl => omega
        intro ad2 cap2 w2 hrow2 hg2 hnew2
        have hOx := Own.append (Own.quiet HO.out.2 (grown_trans (grown_drew (World.grownBy.refl _ none)) (World.grownBy_alloc wr.drew (.cells #[.int .u64 (a : Int), .int .u64 (V : Int)] 44) none))) 0 rfl hrow2 hg2 hnew2
        have hcx := Own.grown hOx
        obtain ⟨q1, o1, he1, z1, z2⟩ := at_ipair (hat.grown hcx (by simp)) k hkL
        cases he1
        rw [← A0.out, A1.out] at z1
        rw [← V0.out] at z2
        refine hK.out _ _ ?hsq (fun hS => ?_)
        case hsq => exact ⟨z1, z2⟩
        clear hK K
        try simp only [Act.put, List.setIfInBounds_toArray, List.set_cons_zero, List.set_cons_succ]
        refine wpAnyH_take (i := 14) (oi := { dst := some 4, op := Op.assign (Operand.tmp 38), type := 33, pos := "ref.go:47", after := #[{ on := 13, ground := Ground.data }, { on := 13, ground := Ground.chain }, { on := 0, ground := Ground.phase }, { on := 1, ground := Ground.phase }, { on := 2, ground := Ground.phase }, { on := 3, ground := Ground.phase }, { on := 4, ground := Ground.phase }, { on := 5, ground := Ground.phase }, { on := 6, ground := Ground.phase }, { on := 7, ground := Ground.phase }, { on := 8, ground := Ground.phase }, { on := 9, ground := Ground.phase }, { on := 10, ground := Ground.phase }, { on := 11, ground := Ground.phase }, { on := 12, ground := Ground.phase }, { on := 13, ground := Ground.phase }], guard := none }) (v := ?vr61r9o14) rfl (by kernel_rfl) (by kernel_rfl) (by kernel_rfl) (fun _ _ _ h => h) (Or.inl ⟨by rfl, ?hr61r9o14⟩) hS ?_
        case hr61r9o14 => (intro wx hx; skip; go_simp; (try with_reducible rfl))
        try simp only [Act.put, List.setIfInBounds_toArray, List.set_cons_zero, List.set_cons_succ]
        refine wpAnyH_done (by kernel_rfl) ?_ _
        have HS : Hid ((∀ p ∈ M.take (k + 1), 0 ≤ p.1) ∧ Own w w2 [rowP 44 1 (.slice ad2 (z + 2) cap2) (z + 2) ((m :: flatR (M.take (k + 1))).map wv)]) := Lib.hid (by
          refine ⟨?_, ?_⟩
          · rw [HT.out]
            intro p hp
            rcases List.mem_append.1 hp with h | h
            · exact HNn.out p h
            · rw [List.mem_singleton.1 h, ← A0.out, A1.out]; omega
          · have e1 : m :: flatR (M.take (k + 1)) = zs ++ [a, V] := by
              rw [HT.out, flatR_append, Hzs.out]
              have : flatR [M.getD k (0, 0)] = [a, V] := by
                simp only [flatR, ← A0.out, ← V0.out, A1.out, Int.toNat_natCast]
              rw [this]
              rfl
            rw [e1]
            exact hOx)
        clear hOx hcx z1 z2 hS hrow2 hg2 hnew2 hrow v0 v1 HO
        go_wp2
        go_roundw
        case rel => exact ⟨k + 1, by omega, by go_num, ad2, cap2, z + 2, rfl, Lib.hid (by rw [Hz.out]; omega), HS⟩
        case measure => simp [intOf]; omega
    · have hlt' : ¬ (k : Int) < (m : Int) := by omega
      obtain rfl : k = m := by omega
      have hM := HO.out
      rw [List.take_of_length_le (by rw [HL.out]; omega)] at hM
      obtain ⟨hno, hO⟩ := hM
      have Hno := Lib.hid hno
      have Hm : Hid (k :: flatR M = bodyR M) := Lib.hid (by unfold bodyR; rw [HL.out])
      rw [Hm.out] at hO
      have hbl : (bodyR M).length = z := by rw [bodyR_length, HL.out, Hz.out]
      have hsm : ∀ n ∈ bodyR M, n < 18446744073709551616 := fun n hn => recR_small HV.out (by rw [HL.out]; exact hm) n (by unfold recR; exact List.mem_append_left _ hn)
      obtain ⟨hx, hnil, hlc⟩ := Own.words hO 0 rfl hsm (by omega)
      have HS := Lib.hid (RefOf_any ad z cap (bodyR M) wr hx)
      obtain ⟨U, HU⟩ : ∃ U, Hid (U = sumN (bodyR M)) := ⟨_, Lib.hid rfl⟩
      rw [← HU.out] at HS
      have hrow := Own.row hO 0 rfl
      have hnew := Own.rowNew hO 0 rfl
      have Hg := Lib.hid hO.grown
      have hrl : (recR M).length = z + 1 := by rw [recR_length, HL.out, Hz.out]; omega
      have Hrl := Lib.hid hrl
      clear hbl hx hno HO hO hsm hrl hnil
      go_wp2_with fail
      refine HS.out.mono ?_
      rintro e u4 ⟨rfl, rfl⟩
      clear HS
      have hrow := row_base (base' := base) hrow (fun i hi => Nat.le_trans hb (hnew i hi))
      have hsz := Hg.out.size
      go_wp2_with (at_builtin; refine app64b rfl _ _ rfl base _ z (bodyR M) rfl (World.ownsRow.alloc hrow _) ⟨wr.heap.size, 0, none⟩ 1 1 [U] rfl rfl (at_of_row (heap_alloc_new wr _)) ?a2 ?a3 ?_)
      case a2 => omega
      case a3 => simp; omega
      intro ad2 cap2 w2 hrow2 hg2 hnew2
      have hrec : bodyR M ++ [U] = recR M := by unfold recR; rw [HU.out]
      have hrow2 : w2.ownsRow base 44 1 (.slice ad2 (z + 1) cap2) (z + 1) ((recR M).map wv) := by rw [← hrec]; simpa using hrow2
      have hgA : w.grownBy w2 none := grown_new (grown_trans Hg.out (World.grownBy_alloc wr _ none)) hg2 hnew
      have HR : WordsAny base M w (.returned (.tuple #[.slice ad2 (z + 1) cap2, .int .i64 0])) w2 := by
        refine .inr ⟨?_, ad2, cap2, ?_, ?_, hgA⟩
        · unfold negB
          rw [List.any_eq_false]
          intro p hp
          have := Hno.out p hp
          simpa using this
        · rw [Hrl.out]
        · rw [Hrl.out]; exact hrow2
      replace HR := Lib.hid HR
      clear hrow2 hnew2 hrow hnew hg2 hgA hrec
      go_wp2
      go_ret2
      exact HR.out
end Go.Proofs.YtpdofdloclmbdaaGreat
