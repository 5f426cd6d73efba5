/- The document's Of: whole. -/
import Derived.Test.YtjhfipgjnlhoaaaLayP2
-- OPTIONAL
namespace Go.Proofs.Ytjhfipgjnlhoaaa
open Go.RowKit Go.Grommet

theorem rofIs_some {v : Option (Int × Int × Int)} {a b c : Int} {w w' : World} (h : v = some (a, b, c)) (hg : w.grownBy w' none) : ROfIs v w (.returned (.tuple #[.agg #[.int .i64 a, .int .i64 b, .int .i64 c], .bool true])) w' := by subst h; exact ⟨rfl, hg⟩

set_option maxRecDepth 100000 in
set_option maxHeartbeats 1000000 in
theorem ROf_at (ad : Option Addr) (l cap : Nat) (ws : List Nat) (w : World) (h : Words w ad l ws) (hl : ¬ l < 8) (hm : ws.getD 0 0 = 32762617960297063) (hsm : ∀ j, 1 ≤ j → j < 4 → ws.getD j 0 ≤ 512) : Calls Try.prog 9 #[.slice ad l cap] w (ROfIs (ofV ws) w) := by
  have hl' : ¬ (l : Int) < 8 := by omega
  have hl0 : (0 : Int) < (l : Int) := by omega
  have hl1 : (1 : Int) < (l : Int) := by omega
  have hl2 : (2 : Int) < (l : Int) := by omega
  have hl3 : (3 : Int) < (l : Int) := by omega
  obtain ⟨q, o, rfl, c0, c1, c2, c3⟩ := W3 h (by omega)
  rw [hm] at c0
  have hga := World.grownBy_alloc w (.cells #[.int .i64 0, .int .i64 0, .int .i64 0] 27) none
  have c0b : (w.alloc (.cells #[.int .i64 0, .int .i64 0, .int .i64 0] 27)).cell? ⟨q, o, none⟩ = some (.int .u64 32762617960297063) := hga.cell c0 (by simp)
  have HCj := Lib.hid (fun j (hj : j < l) => (h.keep hga (by simp)).cell j hj)
  have Hsm := Lib.hid hsm
  have s1 := hsm 1 (by omega) (by omega)
  have s2 := hsm 2 (by omega) (by omega)
  have s3 := hsm 3 (by omega) (by omega)
  have hv : ofV ws = if 8 ≤ ws.length ∧ ws.getD 0 0 = 32762617960297063 ∧ mayB (ws.getD 1 0) (ws.getD 2 0) (ws.getD 3 0) = true ∧ wordsV (ws.getD 1 0) (ws.getD 2 0) (ws.getD 3 0) ≤ ws.length then some (((ws.getD 1 0 : Nat) : Int), ((ws.getD 2 0 : Nat) : Int), ((ws.getD 3 0 : Nat) : Int)) else none := rfl
  rw [h.len, hm] at hv
  have hl8 : 8 ≤ l := by omega
  obtain ⟨a, Ha⟩ : ∃ a, Hid (a = ws.getD 1 0) := ⟨_, Lib.hid rfl⟩
  obtain ⟨b, Hb⟩ : ∃ b, Hid (b = ws.getD 2 0) := ⟨_, Lib.hid rfl⟩
  obtain ⟨c, Hc⟩ : ∃ c, Hid (c = ws.getD 3 0) := ⟨_, Lib.hid rfl⟩
  rw [← Ha.out] at c1 hv s1
  rw [← Hb.out] at c2 hv s2
  rw [← Hc.out] at c3 hv s3
  have Hv := Lib.hid hv
  have HC : Hid (∀ wx : World, w.grownBy wx none → wx.cell? ⟨q, o + 1, none⟩ = some (.int .u64 (a : Int)) ∧ wx.cell? ⟨q, o + 2, none⟩ = some (.int .u64 (b : Int)) ∧ wx.cell? ⟨q, o + 3, none⟩ = some (.int .u64 (c : Int))) :=
    fun wx hx => ⟨hx.cell c1 (by simp), hx.cell c2 (by simp), hx.cell c3 (by simp)⟩
  have HM := Lib.hid (fun wx => RMay_any a b c wx)
  unfold gv at HM
  clear hv h hm hsm c0 c1 c2 c3 hga hl
  go_enter Try.func9, Try.ntmps9
  go_wp2_with fail
  go_loopw [4] (fun i wr => ∃ k : Nat, 1 ≤ k ∧ k ≤ 4 ∧ i = .int .i64 (k : Int) ∧ wr = w.alloc (.cells #[.int .i64 0, .int .i64 0, .int .i64 0] 27)) (fun i _ => 4 - (intOf i).toNat)
  case atStart => exact ⟨1, by omega, by omega, rfl, rfl⟩
  case round =>
    clear c0b
    obtain ⟨k, k1, k4, rfl, rfl⟩ := hrel
    have k0 : (0 : Int) ≤ (k : Int) := by omega
    by_cases hlt : k < 4
    · have hlt' : (k : Int) < 4 := by omega
      have hkl : (k : Int) < (l : Int) := by omega
      obtain ⟨q', o', he, c1⟩ := HCj.out k (by omega)
      cases he
      have hA := Hsm.out k k1 hlt
      generalize ws.getD k 0 = A at c1 hA
      have gA : ¬ (512 : Int) < (A : Int) := by omega
      clear hA
      go_wp2
      go_roundw
      case rel => exact ⟨k + 1, by omega, by omega, by go_num, trivial⟩
      case measure => simp [intOf]; omega
    · obtain rfl : k = 4 := by omega
      have wa : IntKind.i64.wrap (a : Int) = (a : Int) := IntWalk.i64_in _ ⟨by omega, by omega⟩
      have wb : IntKind.i64.wrap (b : Int) = (b : Int) := IntWalk.i64_in _ ⟨by omega, by omega⟩
      have wc : IntKind.i64.wrap (c : Int) = (c : Int) := IntWalk.i64_in _ ⟨by omega, by omega⟩
      clear hlt k0 k1 k4
      go_wp2_with fail
      refine wp_region_held_drew (S := fun w' => w.grownBy w' none) (by kernel_rfl) (grown_drew (World.grownBy_alloc w _ none)) (fun hS => ?_)
      refine wpAnyH_take (i := 0) (oi := { dst := some 26, op := Op.move (Operand.tmp 0), type := 24, pos := "ref.go:180", after := #[], guard := none }) (v := ?vr9r8o0) rfl (by kernel_rfl) (by kernel_rfl) (by kernel_rfl) (fun _ _ _ h => h) (Or.inl ⟨by rfl, ?hr9r8o0⟩) hS ?_
      case hr9r8o0 => (intro wx hx; skip; go_simp; (try with_reducible rfl))
      try simp only [Act.put, List.setIfInBounds_toArray, List.set_cons_zero, List.set_cons_succ]
      refine wpAnyH_take (i := 1) (oi := { dst := some 27, op := Op.indexAddr 24 (Operand.tmp 26) (Operand.const (Value.int IntKind.i64 1)), type := 0, pos := "ref.go:180", after := #[{ on := 0, ground := Ground.data }], guard := none }) (v := ?vr9r8o1) rfl (by kernel_rfl) (by kernel_rfl) (by kernel_rfl) (fun _ _ _ h => h) (Or.inl ⟨by rfl, ?hr9r8o1⟩) hS ?_
      case hr9r8o1 => (intro wx hx; skip; go_simp; (try with_reducible rfl))
      try simp only [Act.put, List.setIfInBounds_toArray, List.set_cons_zero, List.set_cons_succ]
      refine wpAnyH_take (i := 2) (oi := { dst := some 28, op := Op.load 31 (Operand.tmp 27), type := 31, pos := "ref.go:180", after := #[{ on := 1, ground := Ground.data }], guard := none }) (v := ?vr9r8o2) rfl (by kernel_rfl) (by kernel_rfl) (by kernel_rfl) (fun _ _ _ h => h) (Or.inl ⟨by rfl, ?hr9r8o2⟩) hS ?_
      case hr9r8o2 => (intro wx hx; obtain ⟨c1, c2, c3⟩ := HC.out wx hx; go_simp; (try with_reducible rfl))
      try simp only [Act.put, List.setIfInBounds_toArray, List.set_cons_zero, List.set_cons_succ]
      refine wpAnyH_take (i := 3) (oi := { dst := some 29, op := Op.convert 31 3 (Operand.tmp 28), type := 3, pos := "ref.go:180", after := #[{ on := 2, ground := Ground.data }], guard := none }) (v := ?vr9r8o3) rfl (by kernel_rfl) (by kernel_rfl) (by kernel_rfl) (fun _ _ _ h => h) (Or.inl ⟨by rfl, ?hr9r8o3⟩) hS ?_
      case hr9r8o3 => (intro wx hx; obtain ⟨c1, c2, c3⟩ := HC.out wx hx; go_simp; (try with_reducible rfl))
      try simp only [Act.put, List.setIfInBounds_toArray, List.set_cons_zero, List.set_cons_succ]
      refine wpAnyH_take (i := 4) (oi := { dst := some 30, op := Op.move (Operand.tmp 0), type := 24, pos := "ref.go:180", after := #[], guard := none }) (v := ?vr9r8o4) rfl (by kernel_rfl) (by kernel_rfl) (by kernel_rfl) (fun _ _ _ h => h) (Or.inl ⟨by rfl, ?hr9r8o4⟩) hS ?_
      case hr9r8o4 => (intro wx hx; skip; go_simp; (try with_reducible rfl))
      try simp only [Act.put, List.setIfInBounds_toArray, List.set_cons_zero, List.set_cons_succ]
      refine wpAnyH_take (i := 5) (oi := { dst := some 31, op := Op.indexAddr 24 (Operand.tmp 30) (Operand.const (Value.int IntKind.i64 2)), type := 0, pos := "ref.go:180", after := #[{ on := 4, ground := Ground.data }], guard := none }) (v := ?vr9r8o5) rfl (by kernel_rfl) (by kernel_rfl) (by kernel_rfl) (fun _ _ _ h => h) (Or.inl ⟨by rfl, ?hr9r8o5⟩) hS ?_
      case hr9r8o5 => (intro wx hx; skip; go_simp; (try with_reducible rfl))
      try simp only [Act.put, List.setIfInBounds_toArray, List.set_cons_zero, List.set_cons_succ]
      refine wpAnyH_take (i := 6) (oi := { dst := some 32, op := Op.load 31 (Operand.tmp 31), type := 31, pos := "ref.go:180", after := #[{ on := 5, ground := Ground.data }], guard := none }) (v := ?vr9r8o6) rfl (by kernel_rfl) (by kernel_rfl) (by kernel_rfl) (fun _ _ _ h => h) (Or.inl ⟨by rfl, ?hr9r8o6⟩) hS ?_
      case hr9r8o6 => (intro wx hx; obtain ⟨c1, c2, c3⟩ := HC.out wx hx; go_simp; (try with_reducible rfl))
      try simp only [Act.put, List.setIfInBounds_toArray, List.set_cons_zero, List.set_cons_succ]
      refine wpAnyH_take (i := 7) (oi := { dst := some 33, op := Op.convert 31 3 (Operand.tmp 32), type := 3, pos := "ref.go:180", after := #[{ on := 6, ground := Ground.data }], guard := none }) (v := ?vr9r8o7) rfl (by kernel_rfl) (by kernel_rfl) (by kernel_rfl) (fun _ _ _ h => h) (Or.inl ⟨by rfl, ?hr9r8o7⟩) hS ?_
      case hr9r8o7 => (intro wx hx; obtain ⟨c1, c2, c3⟩ := HC.out wx hx; go_simp; (try with_reducible rfl))
      try simp only [Act.put, List.setIfInBounds_toArray, List.set_cons_zero, List.set_cons_succ]
      refine wpAnyH_take (i := 8) (oi := { dst := some 34, op := Op.move (Operand.tmp 0), type := 24, pos := "ref.go:180", after := #[], guard := none }) (v := ?vr9r8o8) rfl (by kernel_rfl) (by kernel_rfl) (by kernel_rfl) (fun _ _ _ h => h) (Or.inl ⟨by rfl, ?hr9r8o8⟩) hS ?_
      case hr9r8o8 => (intro wx hx; skip; go_simp; (try with_reducible rfl))
      try simp only [Act.put, List.setIfInBounds_toArray, List.set_cons_zero, List.set_cons_succ]
      refine wpAnyH_take (i := 9) (oi := { dst := some 35, op := Op.indexAddr 24 (Operand.tmp 34) (Operand.const (Value.int IntKind.i64 3)), type := 0, pos := "ref.go:180", after := #[{ on := 8, ground := Ground.data }], guard := none }) (v := ?vr9r8o9) rfl (by kernel_rfl) (by kernel_rfl) (by kernel_rfl) (fun _ _ _ h => h) (Or.inl ⟨by rfl, ?hr9r8o9⟩) hS ?_
      case hr9r8o9 => (intro wx hx; skip; go_simp; (try with_reducible rfl))
      try simp only [Act.put, List.setIfInBounds_toArray, List.set_cons_zero, List.set_cons_succ]
      refine wpAnyH_take (i := 10) (oi := { dst := some 36, op := Op.load 31 (Operand.tmp 35), type := 31, pos := "ref.go:180", after := #[{ on := 9, ground := Ground.data }], guard := none }) (v := ?vr9r8o10) rfl (by kernel_rfl) (by kernel_rfl) (by kernel_rfl) (fun _ _ _ h => h) (Or.inl ⟨by rfl, ?hr9r8o10⟩) hS ?_
      case hr9r8o10 => (intro wx hx; obtain ⟨c1, c2, c3⟩ := HC.out wx hx; go_simp; (try with_reducible rfl))
      try simp only [Act.put, List.setIfInBounds_toArray, List.set_cons_zero, List.set_cons_succ]
      refine wpAnyH_take (i := 11) (oi := { dst := some 37, op := Op.convert 31 3 (Operand.tmp 36), type := 3, pos := "ref.go:180", after := #[{ on := 10, ground := Ground.data }], guard := none }) (v := ?vr9r8o11) rfl (by kernel_rfl) (by kernel_rfl) (by kernel_rfl) (fun _ _ _ h => h) (Or.inl ⟨by rfl, ?hr9r8o11⟩) hS ?_
      case hr9r8o11 => (intro wx hx; obtain ⟨c1, c2, c3⟩ := HC.out wx hx; go_simp; (try with_reducible rfl))
      try simp only [Act.put, List.setIfInBounds_toArray, List.set_cons_zero, List.set_cons_succ]
      refine wpAnyH_take (i := 12) (oi := { dst := some 38, op := Op.build 27 #[(0, Operand.tmp 29), (1, Operand.tmp 33), (2, Operand.tmp 37)], type := 27, pos := "ref.go:180", after := #[{ on := 3, ground := Ground.data }, { on := 7, ground := Ground.data }, { on := 11, ground := Ground.data }], guard := none }) (v := ?vr9r8o12) rfl (by kernel_rfl) (by kernel_rfl) (by kernel_rfl) (fun _ _ _ h => h) (Or.inl ⟨by rfl, ?hr9r8o12⟩) hS ?_
      case hr9r8o12 => (intro wx hx; skip; go_simp; (try with_reducible rfl))
      try simp only [Act.put, List.setIfInBounds_toArray, List.set_cons_zero, List.set_cons_succ]
      refine wpAnyH_ready (rs := [13]) (by kernel_rfl) (by simp) ?_
      refine AllReadyH.cons (o := { dst := some 5, op := Op.alloc 27, type := 0, pos := "ref.go:180", after := #[], guard := none }) rfl (fun K hK => ?_) AllReadyH.nil
      go_simp
      skip
      refine hK.out _ _ ?hsr9r8o13 (fun hS => ?_)
      case hsr9r8o13 => (exact grown_trans hS (World.grownBy_alloc _ _ none))
      clear hK K
      try simp only [Act.put, List.setIfInBounds_toArray, List.set_cons_zero, List.set_cons_succ]
      refine wpAnyH_ready (rs := [14]) (by kernel_rfl) (by simp) ?_
      refine AllReadyH.cons (o := { dst := none, op := Op.store 27 (Operand.tmp 5) (Operand.tmp 38), type := 0, pos := "ref.go:180", after := #[{ on := 13, ground := Ground.data }, { on := 12, ground := Ground.data }, { on := 0, ground := Ground.phase }, { on := 1, ground := Ground.phase }, { on := 2, ground := Ground.phase }, { on := 3, ground := Ground.phase }, { on := 4, ground := Ground.phase }, { on := 5, ground := Ground.phase }, { on := 6, ground := Ground.phase }, { on := 7, ground := Ground.phase }, { on := 8, ground := Ground.phase }, { on := 9, ground := Ground.phase }, { on := 10, ground := Ground.phase }, { on := 11, ground := Ground.phase }, { on := 12, ground := Ground.phase }, { on := 13, ground := Ground.phase }], guard := none }) rfl (fun K hK => ?_) AllReadyH.nil
      go_simp
      skip
      refine hK.out _ _ ?hsr9r8o14 (fun hS => ?_)
      case hsr9r8o14 => (exact grown_drew (grown_alloc2 w _ _))
      clear hK K
      try simp only [Act.put, List.setIfInBounds_toArray, List.set_cons_zero, List.set_cons_succ]
      refine wpAnyH_done (by kernel_rfl) ?_ _
      have hg0 := hS
      have hb0 : ((w.alloc (.cells #[.int .i64 0, .int .i64 0, .int .i64 0] 27)).alloc (.cells #[.int .i64 (a : Int), .int .i64 (b : Int), .int .i64 (c : Int)] 27)).drew.heap[w.heap.size + 1]? = some (.cells #[.int .i64 (a : Int), .int .i64 (b : Int), .int .i64 (c : Int)] 27 (0, 0)) := heap_alloc_new2 w _ _
      have hz0 : ((w.alloc (.cells #[.int .i64 0, .int .i64 0, .int .i64 0] 27)).alloc (.cells #[.int .i64 (a : Int), .int .i64 (b : Int), .int .i64 (c : Int)] 27)).drew.heap[w.heap.size]? = some (.cells #[.int .i64 0, .int .i64 0, .int .i64 0] 27 (0, 0)) := ((World.grownBy_alloc _ _ none).block _ (by simp) (by simp)).trans (heap_alloc_new w _)
      go_wp2_with fail
      refine (HM.out _).mono ?_
      rintro e w1 ⟨rfl, hgx⟩
      have hb := (hgx.block _ (lt_of_block hb0) (by simp)).trans hb0
      have hz := (hgx.block _ (lt_of_block hz0) (by simp)).trans hz0
      have hg := grown_trans hg0 hgx
      clear hgx hb0 hz0 hg0 hS HM wa wb wc
      by_cases hmay : mayB (a : Int) (b : Int) (c : Int) = true
      · have hq := mayB_yes hmay
        have HW := Lib.hid (fun wx => RWords_any a b c wx)
        unfold gv at HW
        have f0 : w1.cell? ⟨w.heap.size + 1, 0, none⟩ = some (.int .i64 (a : Int)) := by simp [World.cell?, hb]
        have f1 : w1.cell? ⟨w.heap.size + 1, 1, none⟩ = some (.int .i64 (b : Int)) := by simp [World.cell?, hb]
        have f2 : w1.cell? ⟨w.heap.size + 1, 2, none⟩ = some (.int .i64 (c : Int)) := by simp [World.cell?, hb]
        rw [hmay]
        clear hq
        go_wp2_with fail
        refine (HW.out _).mono ?_
        rintro e w2 ⟨rfl, hgx⟩
        have hb := (hgx.block _ (lt_of_block hb) (by simp)).trans hb
        have hz := (hgx.block _ (lt_of_block hz) (by simp)).trans hz
        have hg := grown_trans hg hgx
        clear hgx HW f0 f1 f2
        by_cases hww : wordsV a b c ≤ (l : Int)
        · have hv1 : ofV ws = some ((a : Int), (b : Int), (c : Int)) := by rw [Hv.out]; exact if_pos ⟨by omega, by first | rfl | trivial, hmay, hww⟩
          have HV := Lib.hid hv1
          have hn : ¬ (l : Int) < wordsV a b c := by omega
          generalize wordsV (a : Int) (b : Int) (c : Int) = W at hn
          have f0 : w2.cell? ⟨w.heap.size + 1, 0, none⟩ = some (.int .i64 (a : Int)) := by simp [World.cell?, hb]
          have f1 : w2.cell? ⟨w.heap.size + 1, 1, none⟩ = some (.int .i64 (b : Int)) := by simp [World.cell?, hb]
          have f2 : w2.cell? ⟨w.heap.size + 1, 2, none⟩ = some (.int .i64 (c : Int)) := by simp [World.cell?, hb]
          have z0 : w2.cell? ⟨w.heap.size, 0, none⟩ = some (.int .i64 0) := by simp [World.cell?, hz]
          have z1 : w2.cell? ⟨w.heap.size, 1, none⟩ = some (.int .i64 0) := by simp [World.cell?, hz]
          have z2 : w2.cell? ⟨w.heap.size, 2, none⟩ = some (.int .i64 0) := by simp [World.cell?, hz]
          have y0 : w2.frozen? ⟨w.heap.size, 0, none⟩ = false := by simp [World.frozen?, hz]
          have y1 : w2.frozen? ⟨w.heap.size, 1, none⟩ = false := by simp [World.frozen?, hz]
          have y2 : w2.frozen? ⟨w.heap.size, 2, none⟩ = false := by simp [World.frozen?, hz]
          clear hv1 hmay hww
          go_wp2
          have hz1 := heap_setCell_at (o := 0) hz (.int .i64 (a : Int))
          have hz2 := heap_setCell_at (o := 1) hz1 (.int .i64 (b : Int))
          have hz3 := heap_setCell_at (o := 2) hz2 (.int .i64 (c : Int))
          have g1 := grown_new hg (grown_trans (grown_trans (grown_setCell w2 ⟨w.heap.size, 0, none⟩ (.int .i64 (a : Int))) (grown_setCell _ ⟨w.heap.size, 1, none⟩ (.int .i64 (b : Int)))) (grown_setCell _ ⟨w.heap.size, 2, none⟩ (.int .i64 (c : Int)))) (by intro k e; cases e; exact Nat.le_refl _)
          obtain ⟨W3, hW3⟩ : ∃ W3, W3 = (((w2.setCell ⟨w.heap.size, 0, none⟩ (.int .i64 (a : Int))).setCell ⟨w.heap.size, 1, none⟩ (.int .i64 (b : Int))).setCell ⟨w.heap.size, 2, none⟩ (.int .i64 (c : Int))) := ⟨_, rfl⟩
          rw [← hW3] at hz3 g1 ⊢
          have Z0 : W3.cell? ⟨w.heap.size, 0, none⟩ = some (.int .i64 (a : Int)) := by simp [World.cell?, hz3]
          have Z1 : W3.cell? ⟨w.heap.size, 1, none⟩ = some (.int .i64 (b : Int)) := by simp [World.cell?, hz3]
          have Z2 : W3.cell? ⟨w.heap.size, 2, none⟩ = some (.int .i64 (c : Int)) := by simp [World.cell?, hz3]
          exact bodyPost_ret (v := .tuple #[.agg #[.int .i64 (a : Int), .int .i64 (b : Int), .int .i64 (c : Int)], .bool true]) (by simp [results, Try.results9, go_sem, Z0, Z1, Z2]) rfl (rofIs_some HV.out g1)
        · have hv1 : ofV ws = none := by rw [Hv.out]; exact if_neg (fun q => hww q.2.2.2)
          have HV := Lib.hid hv1
          have hn : (l : Int) < wordsV a b c := by omega
          generalize wordsV (a : Int) (b : Int) (c : Int) = W at hn
          have z0 : w2.cell? ⟨w.heap.size, 0, none⟩ = some (.int .i64 0) := by simp [World.cell?, hz]
          have z1 : w2.cell? ⟨w.heap.size, 1, none⟩ = some (.int .i64 0) := by simp [World.cell?, hz]
          have z2 : w2.cell? ⟨w.heap.size, 2, none⟩ = some (.int .i64 0) := by simp [World.cell?, hz]
          have y0 : w2.frozen? ⟨w.heap.size, 0, none⟩ = false := by simp [World.frozen?, hz]
          have y1 : w2.frozen? ⟨w.heap.size, 1, none⟩ = false := by simp [World.frozen?, hz]
          have y2 : w2.frozen? ⟨w.heap.size, 2, none⟩ = false := by simp [World.frozen?, hz]
          clear hv1 hmay hww
          have hz1 := heap_setCell_at (o := 0) hz (.int .i64 0)
          have hz2 := heap_setCell_at (o := 1) hz1 (.int .i64 0)
          have hz3 := heap_setCell_at (o := 2) hz2 (.int .i64 0)
          have g1 := grown_new hg (grown_trans (grown_trans (grown_setCell w2 ⟨w.heap.size, 0, none⟩ (.int .i64 0)) (grown_setCell _ ⟨w.heap.size, 1, none⟩ (.int .i64 0))) (grown_setCell _ ⟨w.heap.size, 2, none⟩ (.int .i64 0))) (by intro k e; cases e; exact Nat.le_refl _)
          obtain ⟨W3, hW3⟩ : ∃ W3, W3 = (((w2.setCell ⟨w.heap.size, 0, none⟩ (.int .i64 0)).setCell ⟨w.heap.size, 1, none⟩ (.int .i64 0)).setCell ⟨w.heap.size, 2, none⟩ (.int .i64 0)) := ⟨_, rfl⟩
          go_wp2
          rw [← hW3] at hz3 g1 ⊢
          have Z0 : W3.cell? ⟨w.heap.size, 0, none⟩ = some (.int .i64 0) := by simp [World.cell?, hz3]
          have Z1 : W3.cell? ⟨w.heap.size, 1, none⟩ = some (.int .i64 0) := by simp [World.cell?, hz3]
          have Z2 : W3.cell? ⟨w.heap.size, 2, none⟩ = some (.int .i64 0) := by simp [World.cell?, hz3]
          exact bodyPost_ret (v := .tuple #[.agg #[.int .i64 0, .int .i64 0, .int .i64 0], .bool false]) (by simp [results, Try.results9, go_sem, Z0, Z1, Z2]) rfl (rofIs_none HV.out g1)
      · have hv1 : ofV ws = none := by rw [Hv.out]; exact if_neg (fun q => hmay q.2.2.1)
        have HV := Lib.hid hv1
        have hm' : mayB (a : Int) (b : Int) (c : Int) = false := by simpa using hmay
        rw [hm']
        have z0 : w1.cell? ⟨w.heap.size, 0, none⟩ = some (.int .i64 0) := by simp [World.cell?, hz]
        have z1 : w1.cell? ⟨w.heap.size, 1, none⟩ = some (.int .i64 0) := by simp [World.cell?, hz]
        have z2 : w1.cell? ⟨w.heap.size, 2, none⟩ = some (.int .i64 0) := by simp [World.cell?, hz]
        have y0 : w1.frozen? ⟨w.heap.size, 0, none⟩ = false := by simp [World.frozen?, hz]
        have y1 : w1.frozen? ⟨w.heap.size, 1, none⟩ = false := by simp [World.frozen?, hz]
        have y2 : w1.frozen? ⟨w.heap.size, 2, none⟩ = false := by simp [World.frozen?, hz]
        clear hv1 hmay hm'
        have hz1 := heap_setCell_at (o := 0) hz (.int .i64 0)
        have hz2 := heap_setCell_at (o := 1) hz1 (.int .i64 0)
        have hz3 := heap_setCell_at (o := 2) hz2 (.int .i64 0)
        have g1 := grown_new hg (grown_trans (grown_trans (grown_setCell w1 ⟨w.heap.size, 0, none⟩ (.int .i64 0)) (grown_setCell _ ⟨w.heap.size, 1, none⟩ (.int .i64 0))) (grown_setCell _ ⟨w.heap.size, 2, none⟩ (.int .i64 0))) (by intro k e; cases e; exact Nat.le_refl _)
        obtain ⟨W3, hW3⟩ : ∃ W3, W3 = (((w1.setCell ⟨w.heap.size, 0, none⟩ (.int .i64 0)).setCell ⟨w.heap.size, 1, none⟩ (.int .i64 0)).setCell ⟨w.heap.size, 2, none⟩ (.int .i64 0)) := ⟨_, rfl⟩
        go_wp2
        rw [← hW3] at hz3 g1 ⊢
        have Z0 : W3.cell? ⟨w.heap.size, 0, none⟩ = some (.int .i64 0) := by simp [World.cell?, hz3]
        have Z1 : W3.cell? ⟨w.heap.size, 1, none⟩ = some (.int .i64 0) := by simp [World.cell?, hz3]
        have Z2 : W3.cell? ⟨w.heap.size, 2, none⟩ = some (.int .i64 0) := by simp [World.cell?, hz3]
        exact bodyPost_ret (v := .tuple #[.agg #[.int .i64 0, .int .i64 0, .int .i64 0], .bool false]) (by simp [results, Try.results9, go_sem, Z0, Z1, Z2]) rfl (rofIs_none HV.out g1)

theorem ROf_any (ad : Option Addr) (l cap : Nat) (ws : List Nat) (w : World) (h : Words w ad l ws) : Calls Try.prog 9 #[.slice ad l cap] w (ROfIs (ofV ws) w) := by
  by_cases hl : l < 8
  · exact ROf_short ad l cap ws w h hl
  · by_cases hm : ws.getD 0 0 = 32762617960297063
    · by_cases hs : ∀ j, 1 ≤ j → j < 4 → ws.getD j 0 ≤ 512
      · exact ROf_at ad l cap ws w h hl hm hs
      · exact ROf_big ad l cap ws w h hl hm hs
    · exact ROf_magic ad l cap ws w h hl hm
/-- The program's own Of, in the same words. -/
theorem Of_same (ad : Option Addr) (l cap : Nat) (ws : List Nat) (w : World) (h : Words w ad l ws) : Calls Try.prog 8 #[.slice ad l cap] w (ROfIs (ofV ws) w) := by
  refine (Of_any ad l cap ws w h).mono ?_
  intro e w' ho
  unfold OfIs at ho
  unfold ROfIs
  cases hv : ofV ws with
  | none => rw [hv] at ho; exact ho
  | some g => rw [hv] at ho; exact ho
end Go.Proofs.Ytjhfipgjnlhoaaa
