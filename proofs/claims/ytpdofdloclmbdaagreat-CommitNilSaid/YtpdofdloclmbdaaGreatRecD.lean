/- Package record: Read. -/
import Derived.Test.YtpdofdloclmbdaaGreatRecC
import Derived.Deep.RegionHeld
namespace Go.Proofs.YtpdofdloclmbdaaGreat
open Go.RowKit Go.Grommet

theorem Own.append {w0 w w' : World} {Ps : List Pr} (h : Own w0 w Ps) (k : Nat) {e sz n n' : Nat} {v v' : Value} {xs ys : List Value} (hk : Ps[k]? = some (rowP e sz v n xs)) (hr : w'.ownsRow 0 e sz v' n' ys) (hg : w.grownBy w' v.ownBlock)
    (hnew : ∀ g, v'.ownBlock = some g → v.ownBlock = some g ∨ w.heap.size ≤ g) : Own w0 w' (Ps.set k (rowP e sz v' n' ys)) := by
  obtain ⟨F, h1, h2⟩ := h.take k hk
  refine h2 _ _ ⟨fun i => F i ∨ w.heap.size ≤ i ∧ i < w'.heap.size, ⟨hr, fun i hi => ?_, fun i hi => ?_⟩, fun i hi => hi.imp id (fun x => x.1), Turn.of hg (fun i e => h1.2.1 i e)⟩
  · rcases hnew i hi with e | e
    · exact .inl (h1.2.1 i e)
    · exact .inr ⟨e, row_old hr i hi⟩
  · rcases hi with hi | hi
    · exact Nat.lt_of_lt_of_le (h1.2.2 i hi) hg.size
    · exact hi.2

theorem Own.rowNew {w0 w : World} {Ps : List Pr} (h : Own w0 w Ps) (k : Nat) {e s n : Nat} {v : Value} {xs : List Value} (hk : Ps[k]? = some (rowP e s v n xs)) : ∀ i, v.ownBlock = some i → w0.heap.size ≤ i := by
  obtain ⟨Fs, h1, _, h3, _⟩ := h
  intro i hi
  exact h3 k (List.getElem?_eq_some_iff.1 hk).1 i ((h1 k _ hk).2.1 i hi)

theorem si_wrap (v : Nat) (hv : v < 18446744073709551616) : IntKind.i64.wrap (v : Int) = si v := by
  unfold si
  split
  · exact IntWalk.i64_in _ ⟨by omega, by omega⟩
  · simp only [IntKind.wrap, IntKind.bits, IntKind.signed]
    simp
    omega
theorem si_wf (v : Nat) (hv : v < 18446744073709551616) : (Lit.int .i64 (si v)).wf = true := by
  simp only [Lit.wf, Bool.and_eq_true, decide_eq_true_eq]
  unfold si
  exact ⟨by show (-9223372036854775808 : Int) ≤ _; split <;> omega, by show _ ≤ (9223372036854775807 : Int); split <;> omega⟩

theorem wp_appI {w : World} {o : Oper} {a : Act} {K : Act → World → Prop} {Q : Exit → Act → World → Prop} (s x : Operand)
    (ho : o.op = .call { callee := .builtin .append, args := #[s, x], argTypes := #[43, 43] })
    (base : Nat) (v : Value) (n : Nat) (L : List (Int × Nat)) (hs : a.eval s = v) (hown : w.ownsRow base 92 2 v n (icells L))
    (ad : Addr) (m c : Nat) (M : List (Int × Nat)) (hx : a.eval x = .slice (some ad) m c) (hl : M.length = m) (hw : At w (some ad) (icells M))
    (hb : n + m ≤ 1099511627776) (hbase : base ≤ w.heap.size)
    (h : ∀ ad' cap' w', w'.ownsRow base 92 2 (.slice ad' (n + m) cap') (n + m) (icells (L ++ M)) → w.grownBy w' v.ownBlock → (∀ g, (Value.slice ad' (n + m) cap').ownBlock = some g → v.ownBlock = some g ∨ w.heap.size ≤ g) → K (a.put o.dst (.slice ad' (n + m) cap')) w') : o.wp Tryz.prog a w K Q := by
  obtain ⟨i0, hi, hz0, hz1, hz2⟩ := info_parts Tryz.info92
  obtain ⟨v', w', hr, h2, h3, h4⟩ := run_append_blk (P := Tryz.prog) w base 43 o.type 92 i0 (.agg #[.int .i64 0, .int .u64 0]) 2 16 Tryz.underlying43 hi hz0 hz1 hz2 rfl (by decide) v n (icells L) hown ad m c (icells M) (by rw [icells_length, hl]) hw.some (icells_oneCell M) (by unfold maxLen; omega) (by omega) hbase
  obtain ⟨ad', cap', rfl, _⟩ := row_slice h2
  unfold Oper.wp execOp
  simp only [ho, resolve, invoke, builtin, Sem.run_bind, Sem.run_pure, Result.andThen_ok, List.map_toArray, List.map_cons, List.map_nil, hs, hx, hr]
  exact h ad' cap' w' (by rw [icells_append]; exact h2) h3 h4

/-- Two cells stand. -/
def TwoS (q o1 : Nat) (v1 : Value) (o2 : Nat) (v2 : Value) (w : World) : Prop := w.cell? ⟨q, o1, none⟩ = some v1 ∧ w.cell? ⟨q, o2, none⟩ = some v2

/-- One cell stands. -/
def CellS (q o : Nat) (v : Value) (w : World) : Prop := w.cell? ⟨q, o, none⟩ = some v
theorem CellS.keep {q o : Nat} {v : Value} {w w' : World} (h : CellS q o v w) (hg : w.grownBy w' none) : CellS q o v w' := hg.cell h (by simp)

def ReadIs (base : Nat) (a b c : Int) (xs : List Nat) (w : World) (e : Ending) (w' : World) : Prop :=
  (readB a b c xs = true ∧ ∃ ad cap, e = .returned (.tuple #[.slice ad (xs.getD 0 0) cap, .int .i64 0]) ∧ w'.ownsRow base 92 2 (.slice ad (xs.getD 0 0) cap) (xs.getD 0 0) (icells (writesR xs (xs.getD 0 0))) ∧ w.grownBy w' none) ∨
  (readB a b c xs = false ∧ e = .returned (.tuple #[.slice none 0 0, .int .i64 4]) ∧ w.grownBy w' none)

set_option maxHeartbeats 1000000 in
theorem Read_cut (base : Nat) (a b c : Int) (ad : Option Addr) (l cc : Nat) (xs : List Nat) (w : World) (hx : Words w ad l xs) (h : cutB xs = false) :
    Calls Tryz.prog 101 #[gv a b c, .slice ad l cc] w (ReadIs base a b c xs w) := by
  have HC := Lib.hid (fun wx (h' : Words wx ad l xs) => cut_no ad l cc xs wx h' h)
  have HR : ∀ w', w.grownBy w' none → ReadIs base a b c xs w (.returned (.tuple #[.slice none 0 0, .int .i64 4])) w' := fun w' hg => .inr ⟨by unfold readB; rw [h]; rfl, rfl, hg⟩
  replace HR := Lib.hid HR
  unfold gv
  have hg := World.grownBy_alloc w (.cells #[.int .i64 a, .int .i64 b, .int .i64 c] 26) none
  have hx1 := Lib.hid (hx.keep hg (by simp))
  clear hx h
  go_enter Tryz.func101, Tryz.ntmps101
  go_wp2_with fail
  refine (HC.out _ hx1.out).mono ?_
  rintro e w1 ⟨rfl, rfl⟩
  clear HC hx1
  go_wp2
  go_ret2
  exact HR.out _ hg

set_option maxRecDepth 100000 in
set_option maxHeartbeats 4000000 in
theorem Read_at (base : Nat) (a b c : Int) (q o l cc : Nat) (xs : List Nat) (w : World) (hx : Words w (some ⟨q, o, none⟩) l xs) (hlc : l ≤ cc) (h : cutB xs = true) (hb : base ≤ w.heap.size) :
    Calls Tryz.prog 101 #[gv a b c, .slice (some ⟨q, o, none⟩) l cc] w (ReadIs base a b c xs w) := by
  obtain ⟨h0, h1, h2⟩ := cutB_yes h
  have hl := hx.len
  have HC := Lib.hid (fun wx (h' : Words wx (some ⟨q, o, none⟩) l xs) => cut_yes q o l cc xs wx h' hlc h)
  obtain ⟨n, Hn⟩ : ∃ n, Hid (n = xs.getD 0 0) := ⟨_, Lib.hid rfl⟩
  rw [← Hn.out] at HC h1 h2
  have HX := Lib.hid hx
  have hsm := Lib.hid hx.small
  obtain ⟨k, Hk⟩ : ∃ k, Hid (k = 1 + 2 * n) := ⟨_, Lib.hid rfl⟩
  obtain ⟨K, HK⟩ : ∃ K, Hid (K = k + 1) := ⟨_, Lib.hid rfl⟩
  rw [show 2 + 2 * n = (1 + 2 * n) + 1 from by omega, ← Hk.out, ← HK.out] at HC
  have hK1 : (K : Int) - 1 = (k : Int) := by rw [HK.out]; omega
  have hK2 : (k : Int) < (K : Int) := by rw [HK.out]; omega
  have hkl : k < l := by rw [Hk.out]; omega
  obtain ⟨q', o', he, c1⟩ := hx.cell k hkl
  cases he
  have hs := hx.get k hkl
  have hRB : Hid (readB a b c xs = (decide (xs.getD k 0 = sumN (xs.take k)) && mayW a b c (writesR xs n))) := Lib.hid (by unfold readB; rw [h, ← Hn.out, ← Hk.out]; rfl)
  obtain ⟨S, HS⟩ : ∃ S, Hid (S = xs.getD k 0) := ⟨_, Lib.hid rfl⟩
  rw [← HS.out] at c1 hs hRB
  obtain ⟨U, HU⟩ : ∃ U, Hid (U = sumN (xs.take k)) := ⟨_, Lib.hid rfl⟩
  rw [← HU.out] at hRB
  have hWk : Words w (some ⟨q, o, none⟩) k (xs.take k) := ⟨by rw [List.length_take, hl]; omega, fun n hn => hx.small n (List.mem_of_mem_take hn), by
    have := hx.at_
    rw [← List.take_append_drop k xs, List.map_append] at this
    exact at_prefix this, by have := hx.fits; omega⟩
  have HWk := Lib.hid hWk
  have hsl := fun wx => slice_to_lit (P := Tryz.prog) 33 44 Tryz.underlying33 Tryz.sizeOf44 q o K cc k (by omega) wx
  have hkk : k ≤ 200 := by rw [Hk.out]; omega
  have hg := World.grownBy_alloc w (.cells #[.int .i64 a, .int .i64 b, .int .i64 c] 26) none
  have hx1 := Lib.hid (hx.keep hg (by simp))
  have hO : Own w (w.alloc (.cells #[.int .i64 a, .int .i64 b, .int .i64 c] 26)) [boxP w.heap.size 26 #[.int .i64 a, .int .i64 b, .int .i64 c]] := (Own.nil w).addBox _ _
  have HO := Lib.hid hO
  have hcS : CellS q (o + k) (.int .u64 (S : Int)) (w.alloc (.cells #[.int .i64 a, .int .i64 b, .int .i64 c] 26)) := hg.cell c1 (by simp)
  have HOf := Lib.hid (fun wx (h' : Words wx (some ⟨q, o, none⟩) k (xs.take k)) => Of_any (some ⟨q, o, none⟩) k cc (xs.take k) wx h')
  rw [← HU.out] at HOf
  obtain ⟨G, hG⟩ : ∃ G, Hid (G = w.heap.size) := ⟨_, Lib.hid rfl⟩
  rw [← hG.out] at HO
  unfold gv
  clear hx h hWk hO c1 hl h2
  go_enter Tryz.func101, Tryz.ntmps101
  go_wp2_with fail
  refine (HC.out _ hx1.out).mono ?_
  rintro e w1 ⟨rfl, rfl⟩
  clear HC hx1
  rw [← hG.out]
  go_wp2_with fail
  refine wp_region_held_drew (S := fun w' => CellS q (o + k) (.int .u64 (S : Int)) w') (by kernel_rfl) (hcS) (fun hS => ?_)
  refine wpAnyH_take (i := 0) (oi := { dst := some 20, op := Op.move (Operand.tmp 1), type := 33, pos := "record.go:77", after := #[], guard := none }) (v := ?vr101r5o0) rfl (by kernel_rfl) (by kernel_rfl) (by kernel_rfl) (fun _ _ _ h => h) (Or.inl ⟨by rfl, ?hr101r5o0⟩) hS ?_
  case hr101r5o0 => (intro wx hx; skip; go_simp; (try with_reducible rfl))
  try simp only [Act.put, List.setIfInBounds_toArray, List.set_cons_zero, List.set_cons_succ]
  refine wpAnyH_take (i := 1) (oi := { dst := some 21, op := Op.move (Operand.tmp 7), type := 3, pos := "record.go:77", after := #[], guard := none }) (v := ?vr101r5o1) rfl (by kernel_rfl) (by kernel_rfl) (by kernel_rfl) (fun _ _ _ h => h) (Or.inl ⟨by rfl, ?hr101r5o1⟩) hS ?_
  case hr101r5o1 => (intro wx hx; skip; go_simp; (try with_reducible rfl))
  try simp only [Act.put, List.setIfInBounds_toArray, List.set_cons_zero, List.set_cons_succ]
  refine wpAnyH_take (i := 2) (oi := { dst := some 22, op := Op.indexAddr 33 (Operand.tmp 20) (Operand.tmp 21), type := 0, pos := "record.go:77", after := #[{ on := 0, ground := Ground.data }, { on := 1, ground := Ground.data }], guard := none }) (v := ?vr101r5o2) rfl (by kernel_rfl) (by kernel_rfl) (by kernel_rfl) (fun _ _ _ h => h) (Or.inl ⟨by rfl, ?hr101r5o2⟩) hS ?_
  case hr101r5o2 => (intro wx hx; skip; go_simp; (try with_reducible rfl))
  try simp only [Act.put, List.setIfInBounds_toArray, List.set_cons_zero, List.set_cons_succ]
  refine wpAnyH_take (i := 3) (oi := { dst := some 23, op := Op.load 44 (Operand.tmp 22), type := 44, pos := "record.go:77", after := #[{ on := 2, ground := Ground.data }], guard := none }) (v := ?vr101r5o3) rfl (by kernel_rfl) (by kernel_rfl) (by kernel_rfl) (fun _ _ _ h => h) (Or.inl ⟨by rfl, ?hr101r5o3⟩) hS ?_
  case hr101r5o3 => (intro wx hx; have x0 : wx.cell? ⟨q, o + k, none⟩ = some (.int .u64 (S : Int)) := hx; go_simp; (try with_reducible rfl))
  try simp only [Act.put, List.setIfInBounds_toArray, List.set_cons_zero, List.set_cons_succ]
  refine wpAnyH_take (i := 4) (oi := { dst := some 24, op := Op.move (Operand.tmp 1), type := 33, pos := "record.go:77", after := #[], guard := none }) (v := ?vr101r5o4) rfl (by kernel_rfl) (by kernel_rfl) (by kernel_rfl) (fun _ _ _ h => h) (Or.inl ⟨by rfl, ?hr101r5o4⟩) hS ?_
  case hr101r5o4 => (intro wx hx; skip; go_simp; (try with_reducible rfl))
  try simp only [Act.put, List.setIfInBounds_toArray, List.set_cons_zero, List.set_cons_succ]
  refine wpAnyH_take (i := 5) (oi := { dst := some 25, op := Op.move (Operand.tmp 7), type := 3, pos := "record.go:77", after := #[], guard := none }) (v := ?vr101r5o5) rfl (by kernel_rfl) (by kernel_rfl) (by kernel_rfl) (fun _ _ _ h => h) (Or.inl ⟨by rfl, ?hr101r5o5⟩) hS ?_
  case hr101r5o5 => (intro wx hx; skip; go_simp; (try with_reducible rfl))
  try simp only [Act.put, List.setIfInBounds_toArray, List.set_cons_zero, List.set_cons_succ]
  refine wpAnyH_take (i := 6) (oi := { dst := some 26, op := Op.slice 33 (Operand.tmp 24) none (some (Operand.tmp 25)) none, type := 33, pos := "record.go:77", after := #[{ on := 4, ground := Ground.data }, { on := 5, ground := Ground.data }], guard := none }) (v := ?vr101r5o6) rfl (by kernel_rfl) (by kernel_rfl) (by kernel_rfl) (fun _ _ _ h => h) (Or.inl ⟨by rfl, ?hr101r5o6⟩) hS ?_
  case hr101r5o6 => (intro wx hx; have x0 : wx.cell? ⟨q, o + k, none⟩ = some (.int .u64 (S : Int)) := hx; go_simp; (try with_reducible rfl))
  try simp only [Act.put, List.setIfInBounds_toArray, List.set_cons_zero, List.set_cons_succ]
  refine wpAnyH_ready (rs := [7]) (by kernel_rfl) (by simp) ?_
  refine AllReadyH.cons (o := { dst := some 27, op := Op.call { callee := Callee.value (Operand.func 95), args := #[Operand.tmp 26], argTypes := #[33] }, type := 44, pos := "record.go:77", after := #[{ on := 6, ground := Ground.data }], guard := none }) rfl (fun K hK => ?_) AllReadyH.nil
  go_simp
  refine (HOf.out _ (HWk.out.keep (grown_trans hg (grown_drew (World.grownBy.refl _ none))) (by simp))).mono ?_
  rintro e wA ⟨rfl, hgA⟩
  have hS1 := CellS.keep hS hgA
  have hgA2 := grown_trans (grown_drew (World.grownBy.refl _ none)) hgA
  refine hK.out _ _ ?hsr101r5o7 (fun hS => ?_)
  case hsr101r5o7 => (exact hS1)
  clear hK K
  try simp only [Act.put, List.setIfInBounds_toArray, List.set_cons_zero, List.set_cons_succ]
  refine wpAnyH_take (i := 8) (oi := { dst := some 28, op := Op.binOp BinOp.neq 44 (Operand.tmp 23) (Operand.tmp 27) 44, type := 4, pos := "record.go:77", after := #[{ on := 3, ground := Ground.data }, { on := 7, ground := Ground.data }], guard := none }) (v := ?vr101r5o8) rfl (by kernel_rfl) (by kernel_rfl) (by kernel_rfl) (fun _ _ _ h => h) (Or.inl ⟨by rfl, ?hr101r5o8⟩) hS ?_
  case hr101r5o8 => (intro wx hx; skip; go_simp; (try with_reducible rfl))
  try simp only [Act.put, List.setIfInBounds_toArray, List.set_cons_zero, List.set_cons_succ]
  refine wpAnyH_done (by kernel_rfl) ?_ _
  have HO1 := Lib.hid (HO.out.quiet hgA2)
  clear HO HOf hgA hgA2 hcS hS hS1 hsl
  by_cases hSU : S = U
  · subst hSU
    have e1 : ((S : Int) != (S : Int)) = false := by simp
    replace HO1 := Lib.hid (show Own w wA ([boxP G 26 #[.int .i64 a, .int .i64 b, .int .i64 c]] ++ [rowP 92 2 (.slice none 0 0) 0 (icells (writesR xs 0))]) from HO1.out.add (P := rowP 92 2 (.slice none 0 0) 0 (icells (writesR xs 0))) (F := fun _ => False) ⟨World.ownsRow_nil _ _ _ _, ⟨fun i hi => (by cases hi), fun i hi => False.elim hi⟩⟩ (fun i hi => False.elim hi) (World.grownBy.refl _ _))
    go_wp2_with fail
    go_loopw [8, 9] (fun lv i wr => ∃ j : Nat, j ≤ n ∧ i = .int .i64 ((1 + 2 * j : Nat) : Int) ∧ ∃ (ad : Option Addr) (cap : Nat), lv = .slice ad j cap ∧ Hid (Own w wr [boxP G 26 #[.int .i64 a, .int .i64 b, .int .i64 c], rowP 92 2 (.slice ad j cap) j (icells (writesR xs j))])) (fun _ i _ => k - (intOf i).toNat)
    case atStart => exact ⟨0, Nat.zero_le _, rfl, none, 0, rfl, HO1⟩
    case round =>
      clear HO1 e1
      obtain ⟨j, hj, rfl, ad, cap, rfl, HO⟩ := hrel
      obtain ⟨i, Hi⟩ : ∃ i, Hid (i = 1 + 2 * j) := ⟨_, Lib.hid rfl⟩
      rw [← Hi.out]
      have i0 : (0 : Int) ≤ (i : Int) := by omega
      have ik : i ≤ k := by rw [Hi.out, Hk.out]; omega
      by_cases hlt : j < n
      · have hik : i + 1 < k := by rw [Hi.out, Hk.out]; omega
        have hlt' : (i : Int) < (k : Int) := by omega
        have x1 : (i : Int) < (K : Int) := by omega
        have x2 : (i : Int) + 1 < (K : Int) := by omega
        have hWr := HX.out.keep HO.out.grown (by simp)
        obtain ⟨q', o', he, c1⟩ := hWr.cell i (by omega)
        cases he
        obtain ⟨q', o', he, c2⟩ := hWr.cell (i + 1) (by omega)
        cases he
        have s1 := hWr.get i (by omega)
        have s2 := hWr.get (i + 1) (by omega)
        have HT : Hid (writesR xs (j + 1) = writesR xs j ++ [(si (xs.getD i 0), xs.getD (i + 1) 0)]) := Lib.hid (by rw [writesR_succ, Hi.out, show 1 + 2 * j + 1 = 2 + 2 * j from by omega])
        have wq1 := si_wrap _ s1
        obtain ⟨A, HA⟩ : ∃ A, Hid (A = xs.getD i 0) := ⟨_, Lib.hid rfl⟩
        obtain ⟨V, HV⟩ : ∃ V, Hid (V = xs.getD (i + 1) 0) := ⟨_, Lib.hid rfl⟩
        rw [← HA.out] at c1 wq1 HT
        rw [← HV.out] at c2 HT
        have wq2 : IntKind.i64.wrap ((i : Int) + 1) = (i : Int) + 1 := IntWalk.i64_in _ ⟨by omega, by omega⟩
        have hrow := (Own.row HO.out 1 rfl)
        obtain ⟨B, HB⟩ : ∃ B, Hid (B = si A) := ⟨_, Lib.hid rfl⟩
        rw [← HB.out] at wq1 HT
        have i1 : (0 : Int) ≤ (i : Int) + 1 := by omega
        clear s1 s2 hWr
        go_wp2_with fail
        refine wp_region_held_drew (S := fun w' => (w'.cell? ⟨q, o + i, none⟩ = some (.int .u64 (A : Int)) ∧ w'.cell? ⟨q, o + (i + 1), none⟩ = some (.int .u64 (V : Int)))) (by kernel_rfl) (⟨c1, c2⟩) (fun hS => ?_)
        refine wpAnyH_take (i := 0) (oi := { dst := some 34, op := Op.move (Operand.tmp 8), type := 43, pos := "record.go:82", after := #[], guard := none }) (v := ?vr101r11o0) rfl (by kernel_rfl) (by kernel_rfl) (by kernel_rfl) (fun _ _ _ h => h) (Or.inl ⟨by rfl, ?hr101r11o0⟩) hS ?_
        case hr101r11o0 => (intro wx hx; skip; go_simp; (try with_reducible rfl))
        try simp only [Act.put, List.setIfInBounds_toArray, List.set_cons_zero, List.set_cons_succ]
        refine wpAnyH_take (i := 1) (oi := { dst := some 35, op := Op.move (Operand.tmp 1), type := 33, pos := "record.go:82", after := #[], guard := none }) (v := ?vr101r11o1) rfl (by kernel_rfl) (by kernel_rfl) (by kernel_rfl) (fun _ _ _ h => h) (Or.inl ⟨by rfl, ?hr101r11o1⟩) hS ?_
        case hr101r11o1 => (intro wx hx; skip; go_simp; (try with_reducible rfl))
        try simp only [Act.put, List.setIfInBounds_toArray, List.set_cons_zero, List.set_cons_succ]
        refine wpAnyH_take (i := 2) (oi := { dst := some 36, op := Op.move (Operand.tmp 9), type := 3, pos := "record.go:82", after := #[], guard := none }) (v := ?vr101r11o2) rfl (by kernel_rfl) (by kernel_rfl) (by kernel_rfl) (fun _ _ _ h => h) (Or.inl ⟨by rfl, ?hr101r11o2⟩) hS ?_
        case hr101r11o2 => (intro wx hx; skip; go_simp; (try with_reducible rfl))
        try simp only [Act.put, List.setIfInBounds_toArray, List.set_cons_zero, List.set_cons_succ]
        refine wpAnyH_take (i := 3) (oi := { dst := some 37, op := Op.indexAddr 33 (Operand.tmp 35) (Operand.tmp 36), type := 0, pos := "record.go:82", after := #[{ on := 1, ground := Ground.data }, { on := 2, ground := Ground.data }], guard := none }) (v := ?vr101r11o3) rfl (by kernel_rfl) (by kernel_rfl) (by kernel_rfl) (fun _ _ _ h => h) (Or.inl ⟨by rfl, ?hr101r11o3⟩) hS ?_
        case hr101r11o3 => (intro wx hx; skip; go_simp; (try with_reducible rfl))
        try simp only [Act.put, List.setIfInBounds_toArray, List.set_cons_zero, List.set_cons_succ]
        refine wpAnyH_take (i := 4) (oi := { dst := some 38, op := Op.load 44 (Operand.tmp 37), type := 44, pos := "record.go:82", after := #[{ on := 3, ground := Ground.data }], guard := none }) (v := ?vr101r11o4) rfl (by kernel_rfl) (by kernel_rfl) (by kernel_rfl) (fun _ _ _ h => h) (Or.inl ⟨by rfl, ?hr101r11o4⟩) hS ?_
        case hr101r11o4 => (intro wx hx; obtain ⟨y0, y1⟩ := hx; go_simp; (try with_reducible rfl))
        try simp only [Act.put, List.setIfInBounds_toArray, List.set_cons_zero, List.set_cons_succ]
        refine wpAnyH_take (i := 5) (oi := { dst := some 39, op := Op.convert 44 3 (Operand.tmp 38), type := 3, pos := "record.go:82", after := #[{ on := 4, ground := Ground.data }], guard := none }) (v := ?vr101r11o5) rfl (by kernel_rfl) (by kernel_rfl) (by kernel_rfl) (fun _ _ _ h => h) (Or.inl ⟨by rfl, ?hr101r11o5⟩) hS ?_
        case hr101r11o5 => (intro wx hx; obtain ⟨y0, y1⟩ := hx; go_simp; (try with_reducible rfl))
        try simp only [Act.put, List.setIfInBounds_toArray, List.set_cons_zero, List.set_cons_succ]
        refine wpAnyH_take (i := 6) (oi := { dst := some 40, op := Op.move (Operand.tmp 1), type := 33, pos := "record.go:82", after := #[], guard := none }) (v := ?vr101r11o6) rfl (by kernel_rfl) (by kernel_rfl) (by kernel_rfl) (fun _ _ _ h => h) (Or.inl ⟨by rfl, ?hr101r11o6⟩) hS ?_
        case hr101r11o6 => (intro wx hx; skip; go_simp; (try with_reducible rfl))
        try simp only [Act.put, List.setIfInBounds_toArray, List.set_cons_zero, List.set_cons_succ]
        refine wpAnyH_take (i := 7) (oi := { dst := some 41, op := Op.move (Operand.tmp 9), type := 3, pos := "record.go:82", after := #[], guard := none }) (v := ?vr101r11o7) rfl (by kernel_rfl) (by kernel_rfl) (by kernel_rfl) (fun _ _ _ h => h) (Or.inl ⟨by rfl, ?hr101r11o7⟩) hS ?_
        case hr101r11o7 => (intro wx hx; skip; go_simp; (try with_reducible rfl))
        try simp only [Act.put, List.setIfInBounds_toArray, List.set_cons_zero, List.set_cons_succ]
        refine wpAnyH_take (i := 8) (oi := { dst := some 42, op := Op.binOp BinOp.add 3 (Operand.tmp 41) (Operand.const (Value.int IntKind.i64 1)) 3, type := 3, pos := "record.go:82", after := #[{ on := 7, ground := Ground.data }], guard := none }) (v := ?vr101r11o8) rfl (by kernel_rfl) (by kernel_rfl) (by kernel_rfl) (fun _ _ _ h => h) (Or.inl ⟨by rfl, ?hr101r11o8⟩) hS ?_
        case hr101r11o8 => (intro wx hx; skip; go_simp; (try with_reducible rfl))
        try simp only [Act.put, List.setIfInBounds_toArray, List.set_cons_zero, List.set_cons_succ]
        refine wpAnyH_take (i := 9) (oi := { dst := some 43, op := Op.indexAddr 33 (Operand.tmp 40) (Operand.tmp 42), type := 0, pos := "record.go:82", after := #[{ on := 6, ground := Ground.data }, { on := 8, ground := Ground.data }], guard := none }) (v := ?vr101r11o9) rfl (by kernel_rfl) (by kernel_rfl) (by kernel_rfl) (fun _ _ _ h => h) (Or.inl ⟨by rfl, ?hr101r11o9⟩) hS ?_
        case hr101r11o9 => (intro wx hx; skip; go_simp; (try with_reducible rfl))
        try simp only [Act.put, List.setIfInBounds_toArray, List.set_cons_zero, List.set_cons_succ]
        refine wpAnyH_take (i := 10) (oi := { dst := some 44, op := Op.load 44 (Operand.tmp 43), type := 44, pos := "record.go:82", after := #[{ on := 9, ground := Ground.data }], guard := none }) (v := ?vr101r11o10) rfl (by kernel_rfl) (by kernel_rfl) (by kernel_rfl) (fun _ _ _ h => h) (Or.inl ⟨by rfl, ?hr101r11o10⟩) hS ?_
        case hr101r11o10 => (intro wx hx; obtain ⟨y0, y1⟩ := hx; go_simp; (try with_reducible rfl))
        try simp only [Act.put, List.setIfInBounds_toArray, List.set_cons_zero, List.set_cons_succ]
        refine wpAnyH_take (i := 11) (oi := { dst := some 45, op := Op.build 92 #[(0, Operand.tmp 39), (1, Operand.tmp 44)], type := 92, pos := "record.go:82", after := #[{ on := 5, ground := Ground.data }, { on := 10, ground := Ground.data }], guard := none }) (v := ?vr101r11o11) rfl (by kernel_rfl) (by kernel_rfl) (by kernel_rfl) (fun _ _ _ h => h) (Or.inl ⟨by rfl, ?hr101r11o11⟩) hS ?_
        case hr101r11o11 => (intro wx hx; skip; go_simp; (try with_reducible rfl))
        try simp only [Act.put, List.setIfInBounds_toArray, List.set_cons_zero, List.set_cons_succ]
        refine wpAnyH_ready (rs := [12]) (by kernel_rfl) (by simp) ?_
        refine AllReadyH.cons (o := { dst := some 46, op := Op.buildSlice 43 1 #[(0, Operand.tmp 45)], type := 43, pos := "record.go:82", after := #[{ on := 11, ground := Ground.data }], guard := none }) rfl (fun K hK => ?_) AllReadyH.nil
        go_simp
        skip
        refine hK.out _ _ ?hsr101r11o12 (fun hS => ?_)
        case hsr101r11o12 => (exact ⟨(World.grownBy_alloc _ _ none).cell hS.1 (by simp), (World.grownBy_alloc _ _ none).cell hS.2 (by simp)⟩)
        clear hK K
        try simp only [Act.put, List.setIfInBounds_toArray, List.set_cons_zero, List.set_cons_succ]
        refine wpAnyH_ready (rs := [13]) (by kernel_rfl) (by simp) ?_
        refine AllReadyH.cons (o := { dst := some 47, op := Op.call { callee := Callee.builtin Builtin.append, args := #[Operand.tmp 34, Operand.tmp 46], argTypes := #[43, 43] }, type := 43, pos := "record.go:82", after := #[{ on := 0, ground := Ground.data }, { on := 12, ground := Ground.data }], guard := none }) rfl (fun K hK => ?_) AllReadyH.nil
        refine wp_appI _ _ rfl 0 _ j (writesR xs j) rfl (show (wr.drew.alloc (.cells #[.int .i64 B, .int .u64 (V : Int)] 92)).ownsRow 0 92 2 (.slice ad j cap) j (icells (writesR xs j)) from World.ownsRow.alloc hrow _) ⟨wr.heap.size, 0, none⟩ 1 1 [(B, V)] rfl rfl (at_of_row (heap_alloc_new wr.drew _)) ?gl (Nat.zero_le _) ?_
        case gl => omega
        intro ad2 cap2 w2 hrow2 hg2 hnew2
        have hOx := Own.append (Own.quiet HO.out (grown_trans (grown_drew (World.grownBy.refl _ none)) (World.grownBy_alloc wr.drew (.cells #[.int .i64 B, .int .u64 (V : Int)] 92) none))) 1 rfl hrow2 hg2 hnew2
        have hcx := Own.grown hOx
        have hyy := HX.out.keep hcx (by simp)
        obtain ⟨q1, o1, he1, z1⟩ := hyy.cell i (by omega)
        cases he1
        obtain ⟨q1, o1, he1, z2⟩ := hyy.cell (i + 1) (by omega)
        cases he1
        rw [← HA.out] at z1
        rw [← HV.out] at z2
        refine hK.out _ _ ?hsq (fun hS => ?_)
        case hsq => exact ⟨z1, z2⟩
        clear hK K
        try simp only [Act.put, List.setIfInBounds_toArray, List.set_cons_zero, List.set_cons_succ]
        refine wpAnyH_take (i := 14) (oi := { dst := some 8, op := Op.assign (Operand.tmp 47), type := 43, pos := "record.go:82", after := #[{ on := 13, ground := Ground.data }, { on := 13, ground := Ground.chain }, { on := 0, ground := Ground.phase }, { on := 1, ground := Ground.phase }, { on := 2, ground := Ground.phase }, { on := 3, ground := Ground.phase }, { on := 4, ground := Ground.phase }, { on := 5, ground := Ground.phase }, { on := 6, ground := Ground.phase }, { on := 7, ground := Ground.phase }, { on := 8, ground := Ground.phase }, { on := 9, ground := Ground.phase }, { on := 10, ground := Ground.phase }, { on := 11, ground := Ground.phase }, { on := 12, ground := Ground.phase }, { on := 13, ground := Ground.phase }], guard := none }) (v := ?vr101r11o14) rfl (by kernel_rfl) (by kernel_rfl) (by kernel_rfl) (fun _ _ _ h => h) (Or.inl ⟨by rfl, ?hr101r11o14⟩) hS ?_
        case hr101r11o14 => (intro wx hx; skip; go_simp; (try with_reducible rfl))
        try simp only [Act.put, List.setIfInBounds_toArray, List.set_cons_zero, List.set_cons_succ]
        refine wpAnyH_done (by kernel_rfl) ?_ _
        have hOy : Hid (Own w w2 [boxP G 26 #[.int .i64 a, .int .i64 b, .int .i64 c], rowP 92 2 (.slice ad2 (j + 1) cap2) (j + 1) (icells (writesR xs (j + 1)))]) := Lib.hid (by rw [HT.out]; exact hOx)
        clear hOx hcx hyy z1 z2 hS hrow2 hg2 hnew2 hrow c1 c2 wq1 wq2
        go_wp2
        go_roundw
        case rel =>
          have he : Value.int .i64 ((i : Int) + 2) = .int .i64 ((1 + 2 * (j + 1) : Nat) : Int) := by rw [Hi.out]; congr 1
          exact ⟨j + 1, by omega, he, ad2, cap2, rfl, hOy⟩
        case measure => simp [intOf]; omega
      · obtain rfl : j = n := by omega
        have hik : i = k := by rw [Hi.out, Hk.out]
        have hlt' : ¬ (i : Int) < (k : Int) := by omega
        have hbx := Own.box HO.out 0 rfl
        have g0 : wr.cell? ⟨G, 0, none⟩ = some (.int .i64 a) := by simp [World.cell?, hbx]
        have g1 : wr.cell? ⟨G, 1, none⟩ = some (.int .i64 b) := by simp [World.cell?, hbx]
        have g2 : wr.cell? ⟨G, 2, none⟩ = some (.int .i64 c) := by simp [World.cell?, hbx]
        obtain ⟨hat, hLn, _⟩ := Own.pairs HO.out 1 rfl
        have HM := Lib.hid (RMay0_any a b c ad j cap (writesR xs j) wr hat hLn (fun p hp => by
          obtain ⟨t, ht, rfl⟩ := List.mem_map.1 hp
          refine si_wf _ ?_
          have := List.mem_range.1 ht
          exact HX.out.get _ (by have := Hk.out; omega)))
        have hrow := Own.row HO.out 1 rfl
        have hnew := Own.rowNew HO.out 1 rfl
        have hgr := HO.out.grown
        unfold gv at HM
        cases hmw : mayW a b c (writesR xs j) with
        | true =>
          rw [hmw] at HM
          have HR : ∀ w', wr.grownBy w' none → ReadIs base a b c xs w (.returned (.tuple #[.slice ad j cap, .int .i64 0])) w' := fun w' hg' => .inl ⟨by rw [hRB.out, hmw]; simp, ad, cap, by rw [← Hn.out], by
            rw [← Hn.out]
            exact row_base (hrow.kept hg' (by
              cases (Value.slice ad j cap).ownBlock with
              | none => exact .inl rfl
              | some t => exact .inr (by simp))) (fun i hi => Nat.le_trans hb (hnew i hi)), grown_trans hgr hg'⟩
          replace HR := Lib.hid HR
          clear hbx hat hLn hrow hnew hgr hmw HO hik
          go_wp2_with fail
          refine HM.out.mono ?_
          rintro e w5 ⟨rfl, hg5⟩
          clear HM
          go_wp2
          go_ret2
          exact HR.out _ hg5
        | false =>
          rw [hmw] at HM
          have HR : ∀ w', wr.grownBy w' none → ReadIs base a b c xs w (.returned (.tuple #[.slice none 0 0, .int .i64 4])) w' := fun w' hg' => .inr ⟨by rw [hRB.out, hmw, Bool.and_false], rfl, grown_trans hgr hg'⟩
          replace HR := Lib.hid HR
          clear hbx hat hLn hrow hnew hgr hmw HO hik
          go_wp2_with fail
          refine HM.out.mono ?_
          rintro e w5 ⟨rfl, hg5⟩
          clear HM
          go_wp2
          go_ret2
          exact HR.out _ hg5
  · have e1 : ((S : Int) != (U : Int)) = true := by simp; omega
    have HR : ReadIs base a b c xs w (.returned (.tuple #[.slice none 0 0, .int .i64 4])) wA := .inr ⟨by rw [hRB.out, decide_eq_false hSU]; rfl, rfl, HO1.out.grown⟩
    replace HR := Lib.hid HR
    clear HO1 hSU
    go_wp2
    go_ret2
    exact HR.out

theorem Read_any (base : Nat) (a b c : Int) (ad : Option Addr) (l cc : Nat) (xs : List Nat) (w : World) (hx : Words w ad l xs) (hlc : l ≤ cc) (hb : base ≤ w.heap.size) :
    Calls Tryz.prog 101 #[gv a b c, .slice ad l cc] w (ReadIs base a b c xs w) := by
  cases h : cutB xs with
  | false => exact Read_cut base a b c ad l cc xs w hx h
  | true =>
    have h0 := (cutB_yes h).1
    have hl := hx.len
    obtain ⟨q, o, rfl⟩ := Words.lit hx (by omega)
    exact Read_at base a b c q o l cc xs w hx hlc h hb
end Go.Proofs.YtpdofdloclmbdaaGreat
