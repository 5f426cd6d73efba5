/- Package layout: the geometry that words tell. -/
import Derived.Test.YtjhfipgjnlhoaaaLayE
import Derived.Test.YtjhfipgjnlhoaaaOfMath
-- OPTIONAL
namespace Go.Proofs.Ytjhfipgjnlhoaaa
open Go.RowKit Go.Grommet

def OfIs (v : Option (Int × Int × Int)) (w : World) (e : Ending) (w' : World) : Prop :=
  (match v with
    | none => e = .returned (.tuple #[gv 0 0 0, .bool false])
    | some g => e = .returned (.tuple #[gv g.1 g.2.1 g.2.2, .bool true])) ∧ w.grownBy w' none

theorem ofIs_none {v : Option (Int × Int × Int)} {w w' : World} (h : v = none) (hg : w.grownBy w' none) : OfIs v w (.returned (.tuple #[.agg #[.int .i64 0, .int .i64 0, .int .i64 0], .bool false])) w' := by subst h; exact ⟨rfl, hg⟩
theorem ofIs_some {v : Option (Int × Int × Int)} {a b c : Int} {w w' : World} (h : v = some (a, b, c)) (hg : w.grownBy w' none) : OfIs v w (.returned (.tuple #[.agg #[.int .i64 a, .int .i64 b, .int .i64 c], .bool true])) w' := by subst h; exact ⟨rfl, hg⟩

theorem W3 {w : World} {ad : Option Addr} {l : Nat} {ws : List Nat} (h : Words w ad l ws) (hl : 8 ≤ l) : ∃ q o, ad = some ⟨q, o, none⟩ ∧ w.cell? ⟨q, o, none⟩ = some (.int .u64 ((ws.getD 0 0 : Nat) : Int)) ∧ w.cell? ⟨q, o + 1, none⟩ = some (.int .u64 ((ws.getD 1 0 : Nat) : Int)) ∧
    w.cell? ⟨q, o + 2, none⟩ = some (.int .u64 ((ws.getD 2 0 : Nat) : Int)) ∧ w.cell? ⟨q, o + 3, none⟩ = some (.int .u64 ((ws.getD 3 0 : Nat) : Int)) := by
  obtain ⟨q, o, he, c0⟩ := h.cell 0 (by omega)
  obtain ⟨q1, o1, he1, c1⟩ := h.cell 1 (by omega)
  obtain ⟨q2, o2, he2, c2⟩ := h.cell 2 (by omega)
  obtain ⟨q3, o3, he3, c3⟩ := h.cell 3 (by omega)
  subst he
  cases he1
  cases he2
  cases he3
  exact ⟨q, o, rfl, c0, c1, c2, c3⟩

set_option maxRecDepth 100000 in
set_option maxHeartbeats 1000000 in
theorem Of_any (ad : Option Addr) (l cap : Nat) (ws : List Nat) (w : World) (h : Words w ad l ws) : Calls Try.prog 8 #[.slice ad l cap] w (OfIs (ofV ws) w) := by
  have hfit := h.fits
  by_cases hl : l < 8
  · have hv : ofV ws = none := by unfold ofV; rw [if_neg (by rw [h.len]; omega)]
    have hl' : (l : Int) < 8 := by omega
    have hr := fun hg => ofIs_none (w := w) (w' := w.alloc (.cells #[.int .i64 0, .int .i64 0, .int .i64 0] 23)) hv hg
    have HR := Lib.hid (hr (World.grownBy_alloc w _ none))
    clear hr hv hl h
    go_enter Try.func8, Try.ntmps8
    go_wp2
    exact bodyPost_ret (v := .tuple #[.agg #[.int .i64 0, .int .i64 0, .int .i64 0], .bool false]) (by simp [results, Try.results8, go_sem]) rfl HR.out
  · have hl' : ¬ (l : Int) < 8 := by omega
    have d8 : decide ((l : Int) < 8) = false := by simp; omega
    obtain ⟨q, o, rfl, c0, c1, c2, c3⟩ := W3 h (by omega)
    have s1 := h.get 1 (by omega)
    have s2 := h.get 2 (by omega)
    have s3 := h.get 3 (by omega)
    have HL := Lib.hid h.len
    have hv : ofV ws = if 8 ≤ ws.length ∧ ws.getD 0 0 = 32762617960297063 ∧ mayB (ws.getD 1 0) (ws.getD 2 0) (ws.getD 3 0) = true ∧ wordsV (ws.getD 1 0) (ws.getD 2 0) (ws.getD 3 0) ≤ ws.length then some (((ws.getD 1 0 : Nat) : Int), ((ws.getD 2 0 : Nat) : Int), ((ws.getD 3 0 : Nat) : Int)) else none := rfl
    rw [h.len] at hv
    generalize ws.getD 0 0 = m at c0 hv
    generalize ws.getD 1 0 = a at c1 hv s1
    generalize ws.getD 2 0 = b at c2 hv s2
    generalize ws.getD 3 0 = c at c3 hv s3
    have hlt := World.block_lt_of_cell? w _ c0
    have Hv := Lib.hid hv
    clear h hv
    by_cases hm : m = 32762617960297063
    · subst hm
      have c0' : w.cell? ⟨q, o, none⟩ = some (.int .u64 32762617960297063) := c0
      have hl1 : (1 : Int) < (l : Int) := by omega
      have hl2 : (2 : Int) < (l : Int) := by omega
      have hl3 : (3 : Int) < (l : Int) := by omega
      have hl0 : (0 : Int) < (l : Int) := by omega
      have hmw := may_wrap a b c s1 s2 s3
      have HwA := Lib.hid (fun h => wrap_le1000 a h)
      have HwB := Lib.hid (fun h => wrap_le1000 b h)
      have HwC := Lib.hid (fun h => wrap_le1000 c h)
      obtain ⟨A, hA⟩ : ∃ A, IntKind.i64.wrap (a : Int) = A := ⟨_, rfl⟩
      obtain ⟨B, hB⟩ : ∃ B, IntKind.i64.wrap (b : Int) = B := ⟨_, rfl⟩
      obtain ⟨C, hC⟩ : ∃ C, IntKind.i64.wrap (c : Int) = C := ⟨_, rfl⟩
      rw [hA, hB, hC] at hmw
      rw [hA] at HwA
      rw [hB] at HwB
      rw [hC] at HwC
      have HM := Lib.hid (fun wx => May_any A B C wx)
      rw [hmw] at HM
      clear hmw
      unfold gv at HM
      have HC : Hid (∀ wx : World, w.grownBy wx none → wx.cell? ⟨q, o + 1, none⟩ = some (.int .u64 (a : Int)) ∧ wx.cell? ⟨q, o + 2, none⟩ = some (.int .u64 (b : Int)) ∧ wx.cell? ⟨q, o + 3, none⟩ = some (.int .u64 (c : Int))) :=
        fun wx hx => ⟨hx.cell c1 (by simp), hx.cell c2 (by simp), hx.cell c3 (by simp)⟩
      have HA := Lib.hid (And.intro s1 (And.intro s2 s3))
      have c0a := (World.grownBy_alloc w (.cells #[.int .i64 0, .int .i64 0, .int .i64 0] 23) none).cell c0' (by simp)
      clear c0 c0' c1 c2 c3 s1 s2 s3 hlt hl'
      go_enter Try.func8, Try.ntmps8
      go_wp2_with fail
      refine wp_region_held_drew (S := fun w' => w.grownBy w' none) (by kernel_rfl) (grown_drew (World.grownBy_alloc w _ none)) (fun hS => ?_)
      refine wpAnyH_take (i := 0) (oi := { dst := some 15, op := Op.move (Operand.tmp 0), type := 24, pos := "layout.go:219", after := #[], guard := none }) (v := ?vr8r3o0) rfl (by kernel_rfl) (by kernel_rfl) (by kernel_rfl) (fun _ _ _ h => h) (Or.inl ⟨by rfl, ?hr8r3o0⟩) hS ?_
      case hr8r3o0 => (intro wx hx; skip; go_simp; (try with_reducible rfl))
      try simp only [Act.put, List.setIfInBounds_toArray, List.set_cons_zero, List.set_cons_succ]
      refine wpAnyH_take (i := 1) (oi := { dst := some 16, op := Op.indexAddr 24 (Operand.tmp 15) (Operand.const (Value.int IntKind.i64 1)), type := 0, pos := "layout.go:219", after := #[{ on := 0, ground := Ground.data }], guard := none }) (v := ?vr8r3o1) rfl (by kernel_rfl) (by kernel_rfl) (by kernel_rfl) (fun _ _ _ h => h) (Or.inl ⟨by rfl, ?hr8r3o1⟩) hS ?_
      case hr8r3o1 => (intro wx hx; skip; go_simp; (try with_reducible rfl))
      try simp only [Act.put, List.setIfInBounds_toArray, List.set_cons_zero, List.set_cons_succ]
      refine wpAnyH_take (i := 2) (oi := { dst := some 17, op := Op.load 31 (Operand.tmp 16), type := 31, pos := "layout.go:219", after := #[{ on := 1, ground := Ground.data }], guard := none }) (v := ?vr8r3o2) rfl (by kernel_rfl) (by kernel_rfl) (by kernel_rfl) (fun _ _ _ h => h) (Or.inl ⟨by rfl, ?hr8r3o2⟩) hS ?_
      case hr8r3o2 => (intro wx hx; obtain ⟨c1, c2, c3⟩ := HC.out wx hx; go_simp; (try with_reducible rfl))
      try simp only [Act.put, List.setIfInBounds_toArray, List.set_cons_zero, List.set_cons_succ]
      refine wpAnyH_take (i := 3) (oi := { dst := some 18, op := Op.convert 31 3 (Operand.tmp 17), type := 3, pos := "layout.go:219", after := #[{ on := 2, ground := Ground.data }], guard := none }) (v := ?vr8r3o3) rfl (by kernel_rfl) (by kernel_rfl) (by kernel_rfl) (fun _ _ _ h => h) (Or.inl ⟨by rfl, ?hr8r3o3⟩) hS ?_
      case hr8r3o3 => (intro wx hx; obtain ⟨c1, c2, c3⟩ := HC.out wx hx; go_simp; (try with_reducible rfl))
      try simp only [Act.put, List.setIfInBounds_toArray, List.set_cons_zero, List.set_cons_succ]
      refine wpAnyH_take (i := 4) (oi := { dst := some 19, op := Op.move (Operand.tmp 0), type := 24, pos := "layout.go:219", after := #[], guard := none }) (v := ?vr8r3o4) rfl (by kernel_rfl) (by kernel_rfl) (by kernel_rfl) (fun _ _ _ h => h) (Or.inl ⟨by rfl, ?hr8r3o4⟩) hS ?_
      case hr8r3o4 => (intro wx hx; skip; go_simp; (try with_reducible rfl))
      try simp only [Act.put, List.setIfInBounds_toArray, List.set_cons_zero, List.set_cons_succ]
      refine wpAnyH_take (i := 5) (oi := { dst := some 20, op := Op.indexAddr 24 (Operand.tmp 19) (Operand.const (Value.int IntKind.i64 2)), type := 0, pos := "layout.go:219", after := #[{ on := 4, ground := Ground.data }], guard := none }) (v := ?vr8r3o5) rfl (by kernel_rfl) (by kernel_rfl) (by kernel_rfl) (fun _ _ _ h => h) (Or.inl ⟨by rfl, ?hr8r3o5⟩) hS ?_
      case hr8r3o5 => (intro wx hx; skip; go_simp; (try with_reducible rfl))
      try simp only [Act.put, List.setIfInBounds_toArray, List.set_cons_zero, List.set_cons_succ]
      refine wpAnyH_take (i := 6) (oi := { dst := some 21, op := Op.load 31 (Operand.tmp 20), type := 31, pos := "layout.go:219", after := #[{ on := 5, ground := Ground.data }], guard := none }) (v := ?vr8r3o6) rfl (by kernel_rfl) (by kernel_rfl) (by kernel_rfl) (fun _ _ _ h => h) (Or.inl ⟨by rfl, ?hr8r3o6⟩) hS ?_
      case hr8r3o6 => (intro wx hx; obtain ⟨c1, c2, c3⟩ := HC.out wx hx; go_simp; (try with_reducible rfl))
      try simp only [Act.put, List.setIfInBounds_toArray, List.set_cons_zero, List.set_cons_succ]
      refine wpAnyH_take (i := 7) (oi := { dst := some 22, op := Op.convert 31 3 (Operand.tmp 21), type := 3, pos := "layout.go:219", after := #[{ on := 6, ground := Ground.data }], guard := none }) (v := ?vr8r3o7) rfl (by kernel_rfl) (by kernel_rfl) (by kernel_rfl) (fun _ _ _ h => h) (Or.inl ⟨by rfl, ?hr8r3o7⟩) hS ?_
      case hr8r3o7 => (intro wx hx; obtain ⟨c1, c2, c3⟩ := HC.out wx hx; go_simp; (try with_reducible rfl))
      try simp only [Act.put, List.setIfInBounds_toArray, List.set_cons_zero, List.set_cons_succ]
      refine wpAnyH_take (i := 8) (oi := { dst := some 23, op := Op.move (Operand.tmp 0), type := 24, pos := "layout.go:219", after := #[], guard := none }) (v := ?vr8r3o8) rfl (by kernel_rfl) (by kernel_rfl) (by kernel_rfl) (fun _ _ _ h => h) (Or.inl ⟨by rfl, ?hr8r3o8⟩) hS ?_
      case hr8r3o8 => (intro wx hx; skip; go_simp; (try with_reducible rfl))
      try simp only [Act.put, List.setIfInBounds_toArray, List.set_cons_zero, List.set_cons_succ]
      refine wpAnyH_take (i := 9) (oi := { dst := some 24, op := Op.indexAddr 24 (Operand.tmp 23) (Operand.const (Value.int IntKind.i64 3)), type := 0, pos := "layout.go:219", after := #[{ on := 8, ground := Ground.data }], guard := none }) (v := ?vr8r3o9) rfl (by kernel_rfl) (by kernel_rfl) (by kernel_rfl) (fun _ _ _ h => h) (Or.inl ⟨by rfl, ?hr8r3o9⟩) hS ?_
      case hr8r3o9 => (intro wx hx; skip; go_simp; (try with_reducible rfl))
      try simp only [Act.put, List.setIfInBounds_toArray, List.set_cons_zero, List.set_cons_succ]
      refine wpAnyH_take (i := 10) (oi := { dst := some 25, op := Op.load 31 (Operand.tmp 24), type := 31, pos := "layout.go:219", after := #[{ on := 9, ground := Ground.data }], guard := none }) (v := ?vr8r3o10) rfl (by kernel_rfl) (by kernel_rfl) (by kernel_rfl) (fun _ _ _ h => h) (Or.inl ⟨by rfl, ?hr8r3o10⟩) hS ?_
      case hr8r3o10 => (intro wx hx; obtain ⟨c1, c2, c3⟩ := HC.out wx hx; go_simp; (try with_reducible rfl))
      try simp only [Act.put, List.setIfInBounds_toArray, List.set_cons_zero, List.set_cons_succ]
      refine wpAnyH_take (i := 11) (oi := { dst := some 26, op := Op.convert 31 3 (Operand.tmp 25), type := 3, pos := "layout.go:219", after := #[{ on := 10, ground := Ground.data }], guard := none }) (v := ?vr8r3o11) rfl (by kernel_rfl) (by kernel_rfl) (by kernel_rfl) (fun _ _ _ h => h) (Or.inl ⟨by rfl, ?hr8r3o11⟩) hS ?_
      case hr8r3o11 => (intro wx hx; obtain ⟨c1, c2, c3⟩ := HC.out wx hx; go_simp; (try with_reducible rfl))
      try simp only [Act.put, List.setIfInBounds_toArray, List.set_cons_zero, List.set_cons_succ]
      refine wpAnyH_take (i := 12) (oi := { dst := some 27, op := Op.build 23 #[(0, Operand.tmp 18), (1, Operand.tmp 22), (2, Operand.tmp 26)], type := 23, pos := "layout.go:219", after := #[{ on := 3, ground := Ground.data }, { on := 7, ground := Ground.data }, { on := 11, ground := Ground.data }], guard := none }) (v := ?vr8r3o12) rfl (by kernel_rfl) (by kernel_rfl) (by kernel_rfl) (fun _ _ _ h => h) (Or.inl ⟨by rfl, ?hr8r3o12⟩) hS ?_
      case hr8r3o12 => (intro wx hx; skip; go_simp; (try with_reducible rfl))
      try simp only [Act.put, List.setIfInBounds_toArray, List.set_cons_zero, List.set_cons_succ]
      refine wpAnyH_ready (rs := [13]) (by kernel_rfl) (by simp) ?_
      refine AllReadyH.cons (o := { dst := some 4, op := Op.alloc 23, type := 0, pos := "layout.go:219", after := #[], guard := none }) rfl (fun K hK => ?_) AllReadyH.nil
      go_simp
      skip
      refine hK.out _ _ ?hsr8r3o13 (fun hS => ?_)
      case hsr8r3o13 => (exact grown_trans hS (World.grownBy_alloc _ _ none))
      clear hK K
      try simp only [Act.put, List.setIfInBounds_toArray, List.set_cons_zero, List.set_cons_succ]
      refine wpAnyH_ready (rs := [14]) (by kernel_rfl) (by simp) ?_
      refine AllReadyH.cons (o := { dst := none, op := Op.store 23 (Operand.tmp 4) (Operand.tmp 27), type := 0, pos := "layout.go:219", after := #[{ on := 13, ground := Ground.data }, { on := 12, ground := Ground.data }, { on := 0, ground := Ground.phase }, { on := 1, ground := Ground.phase }, { on := 2, ground := Ground.phase }, { on := 3, ground := Ground.phase }, { on := 4, ground := Ground.phase }, { on := 5, ground := Ground.phase }, { on := 6, ground := Ground.phase }, { on := 7, ground := Ground.phase }, { on := 8, ground := Ground.phase }, { on := 9, ground := Ground.phase }, { on := 10, ground := Ground.phase }, { on := 11, ground := Ground.phase }, { on := 12, ground := Ground.phase }, { on := 13, ground := Ground.phase }], guard := none }) rfl (fun K hK => ?_) AllReadyH.nil
      go_simp
      skip
      refine hK.out _ _ ?hsr8r3o14 (fun hS => ?_)
      case hsr8r3o14 => (exact grown_drew (grown_alloc2 w _ _))
      clear hK K
      try simp only [Act.put, List.setIfInBounds_toArray, List.set_cons_zero, List.set_cons_succ]
      refine wpAnyH_done (by kernel_rfl) ?_ _
      have hg0 := hS
      have hb0 : ((w.alloc (.cells #[.int .i64 0, .int .i64 0, .int .i64 0] 23)).alloc (.cells #[.int .i64 A, .int .i64 B, .int .i64 C] 23)).drew.heap[w.heap.size + 1]? = some (.cells #[.int .i64 A, .int .i64 B, .int .i64 C] 23 (0, 0)) := heap_alloc_new2 w _ _
      have hz0 : ((w.alloc (.cells #[.int .i64 0, .int .i64 0, .int .i64 0] 23)).alloc (.cells #[.int .i64 A, .int .i64 B, .int .i64 C] 23)).drew.heap[w.heap.size]? = some (.cells #[.int .i64 0, .int .i64 0, .int .i64 0] 23 (0, 0)) := ((World.grownBy_alloc _ _ none).block _ (by simp) (by simp)).trans (heap_alloc_new w _)
      go_wp2_with fail
      refine (HM.out _).mono ?_
      rintro e w1 ⟨rfl, hgx⟩
      have hb := (hgx.block _ (lt_of_block hb0) (by simp)).trans hb0
      have hz := (hgx.block _ (lt_of_block hz0) (by simp)).trans hz0
      have hg := grown_trans hg0 hgx
      clear hgx hb0 hz0 hg0 hS HM hA hB hC
      by_cases hmay : mayB (a : Int) (b : Int) (c : Int) = true
      · have hq := mayB_yes hmay
        have wa := HwA.out (by omega)
        have wb := HwB.out (by omega)
        have wc := HwC.out (by omega)
        rw [wa, wb, wc] at hb ⊢
        have HW := Lib.hid (fun wx => Words_any a b c wx)
        unfold gv at HW
        have f0 : w1.cell? ⟨w.heap.size + 1, 0, none⟩ = some (.int .i64 (a : Int)) := by simp [World.cell?, hb]
        have f1 : w1.cell? ⟨w.heap.size + 1, 1, none⟩ = some (.int .i64 (b : Int)) := by simp [World.cell?, hb]
        have f2 : w1.cell? ⟨w.heap.size + 1, 2, none⟩ = some (.int .i64 (c : Int)) := by simp [World.cell?, hb]
        rw [hmay]
        clear hq wa wb wc
        go_wp2_with fail
        refine (HW.out _).mono ?_
        rintro e w2 ⟨rfl, hgx⟩
        have hb := (hgx.block _ (lt_of_block hb) (by simp)).trans hb
        have hz := (hgx.block _ (lt_of_block hz) (by simp)).trans hz
        have hg := grown_trans hg hgx
        clear hgx HW f0 f1 f2
        by_cases hww : wordsV a b c ≤ (l : Int)
        · have hv1 : ofV ws = some ((a : Int), (b : Int), (c : Int)) := by rw [Hv.out]; exact if_pos ⟨by omega, by first | rfl | trivial, hmay, hww⟩
          have HV := Lib.hid hv1
          have hn : ¬ (l : Int) < wordsV a b c := by omega
          generalize wordsV (a : Int) (b : Int) (c : Int) = W at hn
          have f0 : w2.cell? ⟨w.heap.size + 1, 0, none⟩ = some (.int .i64 (a : Int)) := by simp [World.cell?, hb]
          have f1 : w2.cell? ⟨w.heap.size + 1, 1, none⟩ = some (.int .i64 (b : Int)) := by simp [World.cell?, hb]
          have f2 : w2.cell? ⟨w.heap.size + 1, 2, none⟩ = some (.int .i64 (c : Int)) := by simp [World.cell?, hb]
          have z0 : w2.cell? ⟨w.heap.size, 0, none⟩ = some (.int .i64 0) := by simp [World.cell?, hz]
          have z1 : w2.cell? ⟨w.heap.size, 1, none⟩ = some (.int .i64 0) := by simp [World.cell?, hz]
          have z2 : w2.cell? ⟨w.heap.size, 2, none⟩ = some (.int .i64 0) := by simp [World.cell?, hz]
          have y0 : w2.frozen? ⟨w.heap.size, 0, none⟩ = false := by simp [World.frozen?, hz]
          have y1 : w2.frozen? ⟨w.heap.size, 1, none⟩ = false := by simp [World.frozen?, hz]
          have y2 : w2.frozen? ⟨w.heap.size, 2, none⟩ = false := by simp [World.frozen?, hz]
          clear hv1 hmay hww
          go_wp2
          have hz1 := heap_setCell_at (o := 0) hz (.int .i64 (a : Int))
          have hz2 := heap_setCell_at (o := 1) hz1 (.int .i64 (b : Int))
          have hz3 := heap_setCell_at (o := 2) hz2 (.int .i64 (c : Int))
          have g1 := grown_new hg (grown_trans (grown_trans (grown_setCell w2 ⟨w.heap.size, 0, none⟩ (.int .i64 (a : Int))) (grown_setCell _ ⟨w.heap.size, 1, none⟩ (.int .i64 (b : Int)))) (grown_setCell _ ⟨w.heap.size, 2, none⟩ (.int .i64 (c : Int)))) (by intro k e; cases e; exact Nat.le_refl _)
          obtain ⟨W3, hW3⟩ : ∃ W3, W3 = (((w2.setCell ⟨w.heap.size, 0, none⟩ (.int .i64 (a : Int))).setCell ⟨w.heap.size, 1, none⟩ (.int .i64 (b : Int))).setCell ⟨w.heap.size, 2, none⟩ (.int .i64 (c : Int))) := ⟨_, rfl⟩
          rw [← hW3] at hz3 g1 ⊢
          have Z0 : W3.cell? ⟨w.heap.size, 0, none⟩ = some (.int .i64 (a : Int)) := by simp [World.cell?, hz3]
          have Z1 : W3.cell? ⟨w.heap.size, 1, none⟩ = some (.int .i64 (b : Int)) := by simp [World.cell?, hz3]
          have Z2 : W3.cell? ⟨w.heap.size, 2, none⟩ = some (.int .i64 (c : Int)) := by simp [World.cell?, hz3]
          exact bodyPost_ret (v := .tuple #[.agg #[.int .i64 (a : Int), .int .i64 (b : Int), .int .i64 (c : Int)], .bool true]) (by simp [results, Try.results8, go_sem, Z0, Z1, Z2]) rfl (ofIs_some HV.out g1)
        · have hv1 : ofV ws = none := by rw [Hv.out]; exact if_neg (fun q => hww q.2.2.2)
          have HV := Lib.hid hv1
          have hn : (l : Int) < wordsV a b c := by omega
          generalize wordsV (a : Int) (b : Int) (c : Int) = W at hn
          have z0 : w2.cell? ⟨w.heap.size, 0, none⟩ = some (.int .i64 0) := by simp [World.cell?, hz]
          have z1 : w2.cell? ⟨w.heap.size, 1, none⟩ = some (.int .i64 0) := by simp [World.cell?, hz]
          have z2 : w2.cell? ⟨w.heap.size, 2, none⟩ = some (.int .i64 0) := by simp [World.cell?, hz]
          have y0 : w2.frozen? ⟨w.heap.size, 0, none⟩ = false := by simp [World.frozen?, hz]
          have y1 : w2.frozen? ⟨w.heap.size, 1, none⟩ = false := by simp [World.frozen?, hz]
          have y2 : w2.frozen? ⟨w.heap.size, 2, none⟩ = false := by simp [World.frozen?, hz]
          clear hv1 hmay hww
          have hz1 := heap_setCell_at (o := 0) hz (.int .i64 0)
          have hz2 := heap_setCell_at (o := 1) hz1 (.int .i64 0)
          have hz3 := heap_setCell_at (o := 2) hz2 (.int .i64 0)
          have g1 := grown_new hg (grown_trans (grown_trans (grown_setCell w2 ⟨w.heap.size, 0, none⟩ (.int .i64 0)) (grown_setCell _ ⟨w.heap.size, 1, none⟩ (.int .i64 0))) (grown_setCell _ ⟨w.heap.size, 2, none⟩ (.int .i64 0))) (by intro k e; cases e; exact Nat.le_refl _)
          obtain ⟨W3, hW3⟩ : ∃ W3, W3 = (((w2.setCell ⟨w.heap.size, 0, none⟩ (.int .i64 0)).setCell ⟨w.heap.size, 1, none⟩ (.int .i64 0)).setCell ⟨w.heap.size, 2, none⟩ (.int .i64 0)) := ⟨_, rfl⟩
          go_wp2
          rw [← hW3] at hz3 g1 ⊢
          have Z0 : W3.cell? ⟨w.heap.size, 0, none⟩ = some (.int .i64 0) := by simp [World.cell?, hz3]
          have Z1 : W3.cell? ⟨w.heap.size, 1, none⟩ = some (.int .i64 0) := by simp [World.cell?, hz3]
          have Z2 : W3.cell? ⟨w.heap.size, 2, none⟩ = some (.int .i64 0) := by simp [World.cell?, hz3]
          exact bodyPost_ret (v := .tuple #[.agg #[.int .i64 0, .int .i64 0, .int .i64 0], .bool false]) (by simp [results, Try.results8, go_sem, Z0, Z1, Z2]) rfl (ofIs_none HV.out g1)
      · have hv1 : ofV ws = none := by rw [Hv.out]; exact if_neg (fun q => hmay q.2.2.1)
        have HV := Lib.hid hv1
        have hm' : mayB (a : Int) (b : Int) (c : Int) = false := by simpa using hmay
        rw [hm']
        have z0 : w1.cell? ⟨w.heap.size, 0, none⟩ = some (.int .i64 0) := by simp [World.cell?, hz]
        have z1 : w1.cell? ⟨w.heap.size, 1, none⟩ = some (.int .i64 0) := by simp [World.cell?, hz]
        have z2 : w1.cell? ⟨w.heap.size, 2, none⟩ = some (.int .i64 0) := by simp [World.cell?, hz]
        have y0 : w1.frozen? ⟨w.heap.size, 0, none⟩ = false := by simp [World.frozen?, hz]
        have y1 : w1.frozen? ⟨w.heap.size, 1, none⟩ = false := by simp [World.frozen?, hz]
        have y2 : w1.frozen? ⟨w.heap.size, 2, none⟩ = false := by simp [World.frozen?, hz]
        clear hv1 hmay hm'
        have hz1 := heap_setCell_at (o := 0) hz (.int .i64 0)
        have hz2 := heap_setCell_at (o := 1) hz1 (.int .i64 0)
        have hz3 := heap_setCell_at (o := 2) hz2 (.int .i64 0)
        have g1 := grown_new hg (grown_trans (grown_trans (grown_setCell w1 ⟨w.heap.size, 0, none⟩ (.int .i64 0)) (grown_setCell _ ⟨w.heap.size, 1, none⟩ (.int .i64 0))) (grown_setCell _ ⟨w.heap.size, 2, none⟩ (.int .i64 0))) (by intro k e; cases e; exact Nat.le_refl _)
        obtain ⟨W3, hW3⟩ : ∃ W3, W3 = (((w1.setCell ⟨w.heap.size, 0, none⟩ (.int .i64 0)).setCell ⟨w.heap.size, 1, none⟩ (.int .i64 0)).setCell ⟨w.heap.size, 2, none⟩ (.int .i64 0)) := ⟨_, rfl⟩
        go_wp2
        rw [← hW3] at hz3 g1 ⊢
        have Z0 : W3.cell? ⟨w.heap.size, 0, none⟩ = some (.int .i64 0) := by simp [World.cell?, hz3]
        have Z1 : W3.cell? ⟨w.heap.size, 1, none⟩ = some (.int .i64 0) := by simp [World.cell?, hz3]
        have Z2 : W3.cell? ⟨w.heap.size, 2, none⟩ = some (.int .i64 0) := by simp [World.cell?, hz3]
        exact bodyPost_ret (v := .tuple #[.agg #[.int .i64 0, .int .i64 0, .int .i64 0], .bool false]) (by simp [results, Try.results8, go_sem, Z0, Z1, Z2]) rfl (ofIs_none HV.out g1)
    · have hv1 : ofV ws = none := by rw [Hv.out]; exact if_neg (fun q => hm q.2.1)
      have HV := Lib.hid hv1
      have hm' : ((m : Int) != 32762617960297063) = true := by simp; omega
      have hl0 : (0 : Int) < (l : Int) := by omega
      have hg := World.grownBy_alloc w (.cells #[.int .i64 0, .int .i64 0, .int .i64 0] 23) none
      have hm2 : (m == 32762617960297063) = false := by simpa using hm
      have hm3 : ((m : Int) == 32762617960297063) = false := by simp; omega
      have hm4 : ¬ (m : Int) = 32762617960297063 := by omega
      clear hv1 c1 c2 c3 s1 s2 s3
      go_enter Try.func8, Try.ntmps8
      go_wp2

      exact bodyPost_ret (v := .tuple #[.agg #[.int .i64 0, .int .i64 0, .int .i64 0], .bool false]) (by simp [results, Try.results8, go_sem]) rfl (ofIs_none HV.out hg)
end Go.Proofs.Ytjhfipgjnlhoaaa
