/- ClaA, RefF2, ClaY, KeepMath, ClaP in one. -/
import Derived.Test.YtdpkpphjpihhkaaSloO
import Derived.Test.YtdpkpphjpihhkaaPlaK
import Derived.StillTailTactics
import Derived.Deep.DeepCutAuto
import Derived.Deep.CutBlock
section
/- Package class: a number, a session's head, what becomes of a call. -/
namespace Go.Proofs.Ytdpkpphjpihhkaa
open Go.RowKit Go.Grommet

def numB (n : Nat) : Bool := decide (1 ≤ n) && decide (n ≤ 1099511627776)
set_option maxHeartbeats 400000 in
theorem isNumber_any (n : Nat) (w : World) : Calls Try.prog 36 #[.int .u64 (n : Int)] w fun e w' => e = .returned (.bool (numB n)) ∧ w' = w := by
  unfold numB
  go_enter Try.func36, Try.ntmps36
  by_cases h1 : 1 ≤ n
  · rw [decide_eq_true h1, Bool.true_and]
    by_cases h2 : n ≤ 1099511627776
    · rw [decide_eq_true h2]
      have l1 : (1 : Int) ≤ (n : Int) := by omega
      have l2 : (n : Int) ≤ 1099511627776 := by omega
      go_wp2
      go_ret
      exact ⟨rfl, rfl⟩
    · rw [decide_eq_false h2]
      have l1 : (1 : Int) ≤ (n : Int) := by omega
      have l2 : ¬ (n : Int) ≤ 1099511627776 := by omega
      go_wp2
      go_ret
      exact ⟨rfl, rfl⟩
  · obtain rfl : n = 0 := by omega
    go_wp2
    go_ret
    exact ⟨rfl, rfl⟩
set_option maxHeartbeats 400000 in
theorem slotOf_any (n : Nat) (w : World) : Calls Try.prog 38 #[.int .u64 (n : Int)] w fun e w' => e = .returned (.int .i64 ((n % 4 : Nat) : Int)) ∧ w' = w := by
  obtain ⟨a, ha⟩ : ∃ a, n % 4 = a := ⟨_, rfl⟩
  have ha4 : a < 4 := by omega
  have e1 : (n : Int) % 4 = (a : Int) := by omega
  have e2 : Int.tmod (n : Int) 4 = (a : Int) := by rw [Int.tmod_eq_emod_of_nonneg (by omega)]; omega
  have w1 : IntKind.u64.wrap (a : Int) = (a : Int) := IntWalk.u64_in _ ⟨by omega, by omega⟩
  have w2 : IntKind.i64.wrap (a : Int) = (a : Int) := IntWalk.i64_in _ ⟨by omega, by omega⟩
  rw [ha]
  clear ha
  go_enter Try.func38, Try.ntmps38
  go_wp2
  go_ret
  exact ⟨rfl, rfl⟩

set_option maxHeartbeats 1000000 in
/-- The head of an open session. -/
theorem headH (k g : Nat) (xs : List Nat) (L : List (Nat × Nat)) (i at_ : Int) (ge mk : Nat) (w0 w : World) (Ps : List Pr) (h : Own w0 w Ps) (hk : Ps[k]? = some (viewP g xs L)) (hat : sessionV i = at_) (ha : 0 ≤ at_ ∧ at_ + 64 ≤ (xs.length : Int)) (hxl : xs.length ≤ 1000000) (ho : gotI xs L at_ = 1) (hge : gotI xs L (at_ + 1) = ge) (hmk : gotI xs L (at_ + 2) = mk) :
    Calls Try.prog 35 #[.pointer (some ⟨g, 0, none⟩), .int .i64 i, .bool true] w fun e w' => e = .returned (.tuple #[.agg #[.bool true, .int .u64 (ge : Int), .int .u64 (mk : Int)], .int .i64 0]) ∧ Own w0 w' Ps := by
  have hkl := (List.getElem?_eq_some_iff.1 hk).1
  obtain ⟨X, HX⟩ : ∃ X, Hid (X = w.heap.size) := ⟨_, Lib.hid rfl⟩
  have hO : Own w0 (w.alloc (.cells #[.bool false, .int .u64 0, .int .u64 0] 87)) (Ps ++ [boxP X 87 #[.bool false, .int .u64 0, .int .u64 0]]) := by rw [HX.out]; exact h.addBox _ _
  have HG := Lib.hid (GetOk k g xs L i at_ 1 ge mk true w0 _ _ hO (by rw [List.getElem?_append_left hkl]; exact hk) hat ha hxl ho rfl (by decide) hge hmk)
  clear hO h hk hkl hat ha hxl ho hge hmk
  go_enter Try.func35, Try.ntmps35
  go_wp2_with fail
  rw [← HX.out]
  refine HG.out.mono ?_
  rintro e w5 ⟨rfl, hO⟩
  clear HG
  have hz : w5.heap[X]? = some (.cells #[.bool false, .int .u64 0, .int .u64 0] 87 (0, 0)) := Own.box hO Ps.length (by rw [List.getElem?_append_right (Nat.le_refl _), Nat.sub_self]; rfl)
  have Hq : Hid (∀ w6 : World, w5.grownBy w6 (some X) → Own w0 w6 Ps) := Lib.hid (fun w6 hg => hO.forget hg)
  clear hO
  have m0 : w5.cell? ⟨X, 0, none⟩ = some (.bool false) := by simp [World.cell?, hz]
  have q0 : w5.frozen? ⟨X, 0, none⟩ = false := by simp [World.frozen?, hz]
  have m1 : w5.cell? ⟨X, 1, none⟩ = some (.int .u64 0) := by simp [World.cell?, hz]
  have q1 : w5.frozen? ⟨X, 1, none⟩ = false := by simp [World.frozen?, hz]
  have m2 : w5.cell? ⟨X, 2, none⟩ = some (.int .u64 0) := by simp [World.cell?, hz]
  have q2 : w5.frozen? ⟨X, 2, none⟩ = false := by simp [World.frozen?, hz]
  have hz1 := heap_setCell_at (o := 0) hz (.bool true)
  have hz2 := heap_setCell_at (o := 1) hz1 (.int .u64 (ge : Int))
  have hz3 := heap_setCell_at (o := 2) hz2 (.int .u64 (mk : Int))
  have g1 : w5.grownBy (((w5.setCell ⟨X, 0, none⟩ (.bool true)).setCell ⟨X, 1, none⟩ (.int .u64 (ge : Int))).setCell ⟨X, 2, none⟩ (.int .u64 (mk : Int))) (some X) := grown_trans (grown_trans (grown_setCell _ ⟨X, 0, none⟩ _) (grown_setCell _ ⟨X, 1, none⟩ _)) (grown_setCell _ ⟨X, 2, none⟩ _)
  obtain ⟨W3, hW3⟩ : ∃ W3, W3 = (((w5.setCell ⟨X, 0, none⟩ (.bool true)).setCell ⟨X, 1, none⟩ (.int .u64 (ge : Int))).setCell ⟨X, 2, none⟩ (.int .u64 (mk : Int))) := ⟨_, rfl⟩
  clear hz1 hz2
  go_wp2
  rw [← hW3] at hz3 g1 ⊢
  have Z0 : W3.cell? ⟨X, 0, none⟩ = some (.bool true) := by simp [World.cell?, hz3]
  have Z1 : W3.cell? ⟨X, 1, none⟩ = some (.int .u64 (ge : Int)) := by simp [World.cell?, hz3]
  have Z2 : W3.cell? ⟨X, 2, none⟩ = some (.int .u64 (mk : Int)) := by simp [World.cell?, hz3]
  exact bodyPost_ret (v := .tuple #[.agg #[.bool true, .int .u64 (ge : Int), .int .u64 (mk : Int)], .int .i64 0]) (by simp [results, Try.results35, go_sem, Z0, Z1, Z2]) rfl ⟨rfl, Hq.out _ g1⟩
end Go.Proofs.Ytdpkpphjpihhkaa
end
section
/- The reference of stage 11: a session's head, if it is open with that generation. -/
namespace Go.Proofs.Ytdpkpphjpihhkaa
open Go.RowKit Go.Grommet

set_option maxRecDepth 100000 in
set_option maxHeartbeats 2000000 in
theorem ROpened (g gen er ge mk R : Nat) (ob : Bool) (i : Int) (hR : (er = 0 ∧ (ob = false ∨ ge ≠ gen) ∧ R = 22) ∨ ((er ≠ 0 ∨ (ob = true ∧ ge = gen)) ∧ R = er)) (w0 w : World) (Ps : List Pr)
    (HGt : ∀ wx Rs, Own w0 wx (Ps ++ Rs) → Calls Try.prog 44 #[.pointer (some ⟨g, 0, none⟩), .int .i64 i] wx fun e w' => e = .returned (.tuple #[.agg #[.bool ob, .int .u64 (ge : Int), .int .u64 (mk : Int)], .int .i64 (er : Int)]) ∧ Own w0 w' (Ps ++ Rs)) (h : Own w0 w Ps) :
    Calls Try.prog 39 #[.pointer (some ⟨g, 0, none⟩), .int .i64 i, .int .u64 (gen : Int)] w fun e w' => e = .returned (.tuple #[.agg #[.bool ob, .int .u64 (ge : Int), .int .u64 (mk : Int)], .int .i64 (R : Int)]) ∧ Own w0 w' Ps := by
  obtain ⟨X, HX⟩ : ∃ X, Hid (X = w.heap.size) := ⟨_, Lib.hid rfl⟩
  have hO : Own w0 (w.alloc (.cells #[.bool false, .int .u64 0, .int .u64 0] 94)) (Ps ++ [boxP X 94 #[.bool false, .int .u64 0, .int .u64 0]]) := by rw [HX.out]; exact h.addBox _ _
  have HG := Lib.hid (HGt _ _ hO)
  have HR := Lib.hid hR
  clear hO h HGt hR
  go_enter Try.func39, Try.ntmps39
  go_wp2_with fail
  rw [← HX.out]
  refine HG.out.mono ?_
  rintro e w1 ⟨rfl, hO⟩
  clear HG
  have hO := hO.addBox 94 #[.bool ob, .int .u64 (ge : Int), .int .u64 (mk : Int)]
  obtain ⟨Y, HY⟩ : ∃ Y, Hid (Y = w1.heap.size) := ⟨_, Lib.hid rfl⟩
  have hYs : w1.heap.size = Y := HY.out.symm
  rw [hYs] at hO
  rw [List.append_assoc] at hO
  have hO : Own w0 (w1.alloc (.cells #[.bool ob, .int .u64 (ge : Int), .int .u64 (mk : Int)] 94)) (Ps ++ boxP X 94 #[.bool false, .int .u64 0, .int .u64 0] :: [boxP Y 94 #[.bool ob, .int .u64 (ge : Int), .int .u64 (mk : Int)]]) := hO
  obtain ⟨w2, hw2⟩ : ∃ w2, w1.alloc (.cells #[.bool ob, .int .u64 (ge : Int), .int .u64 (mk : Int)] 94) = w2 := ⟨_, rfl⟩
  rw [hw2] at hO
  have hy : w2.heap[Y]? = some (.cells #[.bool ob, .int .u64 (ge : Int), .int .u64 (mk : Int)] 94 (0, 0)) := Own.box hO (Ps.length + 1) (by rw [List.getElem?_append_right (by omega), show Ps.length + 1 - Ps.length = 1 from by omega]; rfl)
  have y0 : w2.cell? ⟨Y, 0, none⟩ = some (.bool ob) := by simp [World.cell?, hy]
  have y1 : w2.cell? ⟨Y, 1, none⟩ = some (.int .u64 (ge : Int)) := by simp [World.cell?, hy]
  have y2 : w2.cell? ⟨Y, 2, none⟩ = some (.int .u64 (mk : Int)) := by simp [World.cell?, hy]
  clear hy
  have hz : w2.heap[X]? = some (.cells #[.bool false, .int .u64 0, .int .u64 0] 94 (0, 0)) := Own.box hO Ps.length (by rw [List.getElem?_append_right (Nat.le_refl _), Nat.sub_self]; rfl)
  have Hq : Hid (∀ w6 : World, w2.grownBy w6 (some X) → Own w0 w6 Ps) := Lib.hid (fun w6 hg => Own.forget (Qs := [_]) hO hg)
  clear hO
  have m0 : w2.cell? ⟨X, 0, none⟩ = some (.bool false) := by simp [World.cell?, hz]
  have q0 : w2.frozen? ⟨X, 0, none⟩ = false := by simp [World.frozen?, hz]
  have m1 : w2.cell? ⟨X, 1, none⟩ = some (.int .u64 0) := by simp [World.cell?, hz]
  have q1 : w2.frozen? ⟨X, 1, none⟩ = false := by simp [World.frozen?, hz]
  have m2 : w2.cell? ⟨X, 2, none⟩ = some (.int .u64 0) := by simp [World.cell?, hz]
  have q2 : w2.frozen? ⟨X, 2, none⟩ = false := by simp [World.frozen?, hz]
  have hz1 := heap_setCell_at (o := 0) hz (.bool ob)
  have hz2 := heap_setCell_at (o := 1) hz1 (.int .u64 (ge : Int))
  have hz3 := heap_setCell_at (o := 2) hz2 (.int .u64 (mk : Int))
  have g1 : w2.grownBy (((w2.setCell ⟨X, 0, none⟩ (.bool ob)).setCell ⟨X, 1, none⟩ (.int .u64 (ge : Int))).setCell ⟨X, 2, none⟩ (.int .u64 (mk : Int))) (some X) := grown_trans (grown_trans (grown_setCell _ ⟨X, 0, none⟩ _) (grown_setCell _ ⟨X, 1, none⟩ _)) (grown_setCell _ ⟨X, 2, none⟩ _)
  obtain ⟨W3, hW3⟩ : ∃ W3, W3 = (((w2.setCell ⟨X, 0, none⟩ (.bool ob)).setCell ⟨X, 1, none⟩ (.int .u64 (ge : Int))).setCell ⟨X, 2, none⟩ (.int .u64 (mk : Int))) := ⟨_, rfl⟩
  clear hz1 hz2
  by_cases c1 : er = 0
  · subst c1
    cases ob with
    | false =>
      have f : R = 22 := by rcases HR.out with ⟨_, _, h⟩ | ⟨h | h, _⟩ <;> first | exact h | exact absurd rfl h | (have := h.1; cases this)
      subst f
      go_wp2_with fail
      rw [← hW3] at hz3 g1 ⊢
      have Z0 : W3.cell? ⟨X, 0, none⟩ = some (.bool false) := by simp [World.cell?, hz3]
      have Z1 : W3.cell? ⟨X, 1, none⟩ = some (.int .u64 (ge : Int)) := by simp [World.cell?, hz3]
      have Z2 : W3.cell? ⟨X, 2, none⟩ = some (.int .u64 (mk : Int)) := by simp [World.cell?, hz3]
      exact bodyPost_ret (v := .tuple #[.agg #[(.bool false), (.int .u64 (ge : Int)), (.int .u64 (mk : Int))], .int .i64 22]) (by simp [results, Try.results39, go_sem, Z0, Z1, Z2]) rfl ⟨rfl, Hq.out _ g1⟩
    | true =>
      by_cases c2 : ge = gen
      · have f : R = 0 := by rcases HR.out with ⟨_, h | h, _⟩ | ⟨_, h⟩ <;> first | exact h | exact absurd c2 h | (cases h)
        subst f
        have qg : ((ge : Int) != (gen : Int)) = false := by rw [c2]; simp
        clear c2
        go_wp2_with fail
        rw [← hW3] at hz3 g1 ⊢
        have Z0 : W3.cell? ⟨X, 0, none⟩ = some (.bool true) := by simp [World.cell?, hz3]
        have Z1 : W3.cell? ⟨X, 1, none⟩ = some (.int .u64 (ge : Int)) := by simp [World.cell?, hz3]
        have Z2 : W3.cell? ⟨X, 2, none⟩ = some (.int .u64 (mk : Int)) := by simp [World.cell?, hz3]
        exact bodyPost_ret (v := .tuple #[.agg #[(.bool true), (.int .u64 (ge : Int)), (.int .u64 (mk : Int))], .int .i64 0]) (by simp [results, Try.results39, go_sem, Z0, Z1, Z2]) rfl ⟨rfl, Hq.out _ g1⟩
      · have f : R = 22 := by rcases HR.out with ⟨_, _, h⟩ | ⟨h | h, _⟩ <;> first | exact h | exact absurd rfl h | exact absurd h.2 c2
        subst f
        have qg : ((ge : Int) != (gen : Int)) = true := by simp; omega
        clear c2
        go_wp2_with fail
        rw [← hW3] at hz3 g1 ⊢
        have Z0 : W3.cell? ⟨X, 0, none⟩ = some (.bool true) := by simp [World.cell?, hz3]
        have Z1 : W3.cell? ⟨X, 1, none⟩ = some (.int .u64 (ge : Int)) := by simp [World.cell?, hz3]
        have Z2 : W3.cell? ⟨X, 2, none⟩ = some (.int .u64 (mk : Int)) := by simp [World.cell?, hz3]
        exact bodyPost_ret (v := .tuple #[.agg #[(.bool true), (.int .u64 (ge : Int)), (.int .u64 (mk : Int))], .int .i64 22]) (by simp [results, Try.results39, go_sem, Z0, Z1, Z2]) rfl ⟨rfl, Hq.out _ g1⟩
  · have f : R = er := by rcases HR.out with ⟨h, _⟩ | ⟨_, h⟩ <;> first | exact h | exact absurd h c1
    subst f
    have qe : ((R : Int) == 0) = false := by rw [beq_eq_false_iff_ne]; omega
    clear c1
    go_wp2_with fail
    rw [← hW3] at hz3 g1 ⊢
    have Z0 : W3.cell? ⟨X, 0, none⟩ = some (.bool ob) := by simp [World.cell?, hz3]
    have Z1 : W3.cell? ⟨X, 1, none⟩ = some (.int .u64 (ge : Int)) := by simp [World.cell?, hz3]
    have Z2 : W3.cell? ⟨X, 2, none⟩ = some (.int .u64 (mk : Int)) := by simp [World.cell?, hz3]
    exact bodyPost_ret (v := .tuple #[.agg #[(.bool ob), (.int .u64 (ge : Int)), (.int .u64 (mk : Int))], .int .i64 (R : Int)]) (by simp [results, Try.results39, go_sem, Z0, Z1, Z2]) rfl ⟨rfl, Hq.out _ g1⟩
end Go.Proofs.Ytdpkpphjpihhkaa
end
section
/- What package slot's calls hand back, in numbers; the program's head. -/
namespace Go.Proofs.Ytdpkpphjpihhkaa
open Go.RowKit Go.Grommet

def GetC (xs : List Nat) (L : List (Nat × Nat)) (i : Int) (ob : Bool) (ge mk en : Nat) : Prop := ∀ (k g : Nat) (w0 w : World) (Ps : List Pr), Own w0 w Ps → Ps[k]? = some (viewP g xs L) → Calls Try.prog 65 #[.pointer (some ⟨g, 0, none⟩), .int .i64 i] w fun e w' => e = .returned (.tuple #[.agg #[.bool ob, .int .u64 (ge : Int), .int .u64 (mk : Int)], .int .i64 (en : Int)]) ∧ Own w0 w' Ps
def PutC (xs : List Nat) (L L2 : List (Nat × Nat)) (i : Int) (ob : Bool) (ge mk en : Nat) : Prop := ∀ (k g : Nat) (w0 w : World) (Ps : List Pr), Own w0 w Ps → Ps[k]? = some (viewP g xs L) → Calls Try.prog 41 #[.pointer (some ⟨g, 0, none⟩), .int .i64 i, .agg #[.bool ob, .int .u64 (ge : Int), .int .u64 (mk : Int)]] w fun e w' => e = .returned (.int .i64 (en : Int)) ∧ Own w0 w' (Ps.set k (viewP g xs L2))
def LoadC (xs : List Nat) (L : List (Nat × Nat)) (i : Int) (a lq le la lb : Nat) (ld : ByteArray) (en : Nat) : Prop := ∀ (k g : Nat) (w0 w : World) (Ps : List Pr), Own w0 w Ps → Ps[k]? = some (viewP g xs L) → Calls Try.prog 37 #[.pointer (some ⟨g, 0, none⟩), .int .i64 i, .int .i64 (a : Int)] w fun e w' => e = .returned (.tuple #[.int .u64 (lq : Int), .agg #[.int .i64 (le : Int), .int .u64 (la : Int), .int .u64 (lb : Int), .string ld], .int .i64 (en : Int)]) ∧ Own w0 w' Ps
def WipeC (xs : List Nat) (L L2 : List (Nat × Nat)) (i : Int) (en : Nat) : Prop := ∀ (k g : Nat) (w0 w : World) (Ps : List Pr), Own w0 w Ps → Ps[k]? = some (viewP g xs L) → Calls Try.prog 43 #[.pointer (some ⟨g, 0, none⟩), .int .i64 i] w fun e w' => e = .returned (.int .i64 (en : Int)) ∧ Own w0 w' (Ps.set k (viewP g xs L2))

def RGetC (xs : List Nat) (L : List (Nat × Nat)) (i : Int) (ob : Bool) (ge mk en : Nat) : Prop := ∀ (k g : Nat) (w0 w : World) (Ps : List Pr), Own w0 w Ps → Ps[k]? = some (refQ g xs L) → Calls Try.prog 44 #[.pointer (some ⟨g, 0, none⟩), .int .i64 i] w fun e w' => e = .returned (.tuple #[.agg #[.bool ob, .int .u64 (ge : Int), .int .u64 (mk : Int)], .int .i64 (en : Int)]) ∧ Own w0 w' Ps
def RPutC (xs : List Nat) (L L2 : List (Nat × Nat)) (i : Int) (ob : Bool) (ge mk en : Nat) : Prop := ∀ (k g : Nat) (w0 w : World) (Ps : List Pr), Own w0 w Ps → Ps[k]? = some (refQ g xs L) → Calls Try.prog 42 #[.pointer (some ⟨g, 0, none⟩), .int .i64 i, .agg #[.bool ob, .int .u64 (ge : Int), .int .u64 (mk : Int)]] w fun e w' => e = .returned (.int .i64 (en : Int)) ∧ Own w0 w' (Ps.set k (refQ g xs L2))
def RLoadC (xs : List Nat) (L : List (Nat × Nat)) (i : Int) (a lq le la lb : Nat) (ld : ByteArray) (en : Nat) : Prop := ∀ (k g : Nat) (w0 w : World) (Ps : List Pr), Own w0 w Ps → Ps[k]? = some (refQ g xs L) → Calls Try.prog 40 #[.pointer (some ⟨g, 0, none⟩), .int .i64 i, .int .i64 (a : Int)] w fun e w' => e = .returned (.tuple #[.int .u64 (lq : Int), .agg #[.int .i64 (le : Int), .int .u64 (la : Int), .int .u64 (lb : Int), .string ld], .int .i64 (en : Int)]) ∧ Own w0 w' Ps
def RWipeC (xs : List Nat) (L L2 : List (Nat × Nat)) (i : Int) (en : Nat) : Prop := ∀ (k g : Nat) (w0 w : World) (Ps : List Pr), Own w0 w Ps → Ps[k]? = some (refQ g xs L) → Calls Try.prog 45 #[.pointer (some ⟨g, 0, none⟩), .int .i64 i] w fun e w' => e = .returned (.int .i64 (en : Int)) ∧ Own w0 w' (Ps.set k (refQ g xs L2))

theorem get_nat (i : Int) (xs : List Nat) (L : List (Nat × Nat)) (hxl : xs.length ≤ 1000000) (hg : ∀ a, gotI xs L a < 18446744073709551616) : ∃ (ob : Bool) (ge mk en : Nat), GetC xs L i ob ge mk en ∧ RGetC xs L i ob ge mk en ∧ ge < 18446744073709551616 ∧ mk < 18446744073709551616 := by
  by_cases h0 : hasS i true xs.length = 0
  · obtain ⟨h1, h2, _, h3, _, _⟩ := hasS_yes h0
    by_cases c : 1 < gotI xs L (sessionV i)
    · exact ⟨false, 0, 0, 4, fun k g w0 w Ps h hk => GetBad k g xs L i _ _ w0 w Ps h hk rfl ⟨h1, h3⟩ hxl rfl c, fun k g w0 w Ps h hk => RHeadBad k g xs L i _ _ rfl (head_zero h0) rfl c w0 w Ps h hk, by decide, by decide⟩
    · exact ⟨_, _, _, 0, fun k g w0 w Ps h hk => GetOk k g xs L i _ _ _ _ _ w0 w Ps h hk rfl ⟨h1, h3⟩ hxl rfl rfl (by omega) rfl rfl, fun k g w0 w Ps h hk => RHeadYes k g xs L i _ _ _ _ _ rfl ⟨h1, by omega⟩ (head_zero h0) rfl rfl (by omega) rfl rfl w0 w Ps h hk, hg _, hg _⟩
  · exact ⟨false, 0, 0, _, fun k g w0 w Ps h hk => GetE k g xs L i _ w0 w Ps h hk (head_has i xs.length).symm (by have := head_ne h0; omega), fun k g w0 w Ps h hk => RHeadNo k g xs L i _ rfl (head_ne h0) w0 w Ps h hk, by decide, by decide⟩
theorem put_nat (i : Int) (ob : Bool) (ge mk : Nat) (hge : ge < 18446744073709551616) (hmk : mk < 18446744073709551616) (xs : List Nat) (L : List (Nat × Nat)) (hxl : xs.length ≤ 1000000) : ∃ (L2 : List (Nat × Nat)) (en : Nat), PutC xs L L2 i ob ge mk en ∧ RPutC xs L L2 i ob ge mk en := by
  by_cases h0 : hasS i true xs.length = 0
  · obtain ⟨h1, h2, _, h3, _, _⟩ := hasS_yes h0
    cases ob with
    | true => exact ⟨_, _, fun k g w0 w Ps h hk => PutTrue k g xs L i _ ge mk w0 w Ps h hk rfl ⟨h1, h3⟩ hxl hge hmk, fun k g w0 w Ps h hk => RPutT k g xs L i ge mk _ _ w0 w Ps _ h hk (head_zero h0) rfl ⟨h1, by omega⟩ hge hmk (by rw [seqS_head]) (by rw [seqS_head])⟩
    | false => exact ⟨_, _, fun k g w0 w Ps h hk => PutFalse k g xs L i _ ge mk w0 w Ps h hk rfl ⟨h1, h3⟩ hxl hge hmk, fun k g w0 w Ps h hk => RPutF k g xs L i ge mk _ _ w0 w Ps _ h hk (head_zero h0) rfl ⟨h1, by omega⟩ hge hmk (by rw [seqS_head]) (by rw [seqS_head])⟩
  · exact ⟨L, _, fun k g w0 w Ps h hk => by rw [set_id hk]; exact PutE k g xs L i ob _ _ _ w0 w Ps h hk (head_has i xs.length).symm (by have := head_ne h0; omega), fun k g w0 w Ps h hk => by rw [set_id hk]; exact RPutHE k g xs L i ob ge mk _ w0 w Ps h hk rfl (head_ne h0)⟩
theorem wipe_nat (i : Int) (xs : List Nat) (L : List (Nat × Nat)) : ∃ (L2 : List (Nat × Nat)) (en : Nat), WipeC xs L L2 i en ∧ RWipeC xs L L2 i en := by
  by_cases h0 : hasS i true xs.length = 0
  · obtain ⟨h1, h2, _, h3, _, _⟩ := hasS_yes h0
    exact ⟨_, _, fun k g w0 w Ps h hk => WipeH k g xs L i _ w0 w Ps h hk rfl ⟨h1, h3⟩, fun k g w0 w Ps h hk => RWipeQ k g xs L i 0 _ _ w0 w Ps _ h hk (head_zero h0) (.inl ⟨rfl, rfl, rfl⟩) rfl⟩
  · exact ⟨L, _, fun k g w0 w Ps h hk => by rw [set_id hk]; exact WipeE k g xs L i _ w0 w Ps h hk (head_has i xs.length).symm (by have := head_ne h0; omega), fun k g w0 w Ps h hk => RWipeQ k g xs L i _ _ _ w0 w Ps _ h hk rfl (.inr ⟨head_ne h0, rfl, rfl⟩) rfl⟩
theorem load_nat (i : Int) (a : Nat) (xs : List Nat) (L : List (Nat × Nat)) (hg : ∀ a, gotI xs L a < 18446744073709551616) : ∃ (lq le la lb : Nat) (ld : ByteArray) (en : Nat), LoadC xs L i a lq le la lb ld en ∧ RLoadC xs L i a lq le la lb ld en := by
  by_cases h0 : hasS i (decide (0 ≤ slotV i (a : Int))) xs.length = 0
  · obtain ⟨h1, h2, hm, h3, _, _⟩ := hasS_yes h0
    have hs0 : 0 ≤ slotV i (a : Int) := by simpa using hm
    have hs1 : slotV i (a : Int) ≤ 1000 := by unfold slotV; split <;> omega
    by_cases c : gotI xs L (slotV i (a : Int)) = 0
    · exact ⟨0, 0, 0, 0, ⟨#[]⟩, 0, fun k g w0 w Ps h hk => LoadZero k g xs L i _ _ _ w0 w Ps h hk rfl ⟨h1, h3⟩ rfl ⟨hs0, hs1⟩ c, fun k g w0 w Ps h hk => RLoadZero k g xs L i _ _ w0 w Ps h hk (there_zero h0) rfl c⟩
    · by_cases cb : 24 < gotI xs L (slotV i (a : Int) + 1) % 256 ∨ 64 < gotI xs L (slotV i (a : Int) + 1) / 256
      · exact ⟨0, 0, 0, 0, ⟨#[]⟩, 4, fun k g w0 w Ps h hk => LoadBad k g xs L i _ _ _ _ _ w0 w Ps h hk rfl ⟨h1, h3⟩ rfl ⟨hs0, hs1⟩ rfl (by omega) rfl (hg _) cb, fun k g w0 w Ps h hk => RLoadBad k g xs L i _ _ _ _ w0 w Ps h hk (there_zero h0) rfl ⟨hs0, hs1⟩ rfl (by omega) rfl (hg _) cb⟩
      · exact ⟨_, gotI xs L (slotV i (a : Int) + 1) % 256, _, _, _, 0, fun k g w0 w Ps h hk => LoadYes k g xs L i _ _ _ _ _ _ (gotI xs L (slotV i (a : Int) + 1) / 256) _ _ _ w0 w Ps h hk rfl ⟨h1, h3⟩ rfl ⟨hs0, hs1⟩ rfl (by omega) rfl (by omega) (by omega) (by omega) rfl rfl rfl, fun k g w0 w Ps h hk => RLoadYes k g xs L i _ _ _ _ _ (gotI xs L (slotV i (a : Int) + 1) / 256) _ _ _ w0 w Ps h hk (there_zero h0) rfl ⟨hs0, hs1⟩ rfl (by omega) rfl (by omega) (by omega) (by omega) rfl rfl rfl⟩
  · exact ⟨0, 0, 0, 0, ⟨#[]⟩, _, fun k g w0 w Ps h hk => LoadE k g xs L i _ _ _ w0 w Ps h hk rfl (there_has i (a : Int) xs.length).symm (by have := there_ne h0; omega), fun k g w0 w Ps h hk => RLoadE k g xs L i _ _ w0 w Ps h hk rfl (there_ne h0)⟩
/-- The document's Save. -/
theorem save_nat (i : Int) (a sq ra rb : Nat) (er : Int) (d : ByteArray) (hra : ra < 18446744073709551616) (hrb : rb < 18446744073709551616) (xs : List Nat) (L : List (Nat × Nat)) : ∃ (S : List (Int × Nat)) (en : Nat), ∀ (k g : Nat) (w0 w : World) (Ps : List Pr), Own w0 w Ps → Ps[k]? = some (refQ g xs L) → Calls Try.prog 32 #[.pointer (some ⟨g, 0, none⟩), .int .i64 i, .int .i64 (a : Int), .int .u64 (sq : Int), .agg #[.int .i64 er, .int .u64 (ra : Int), .int .u64 (rb : Int), .string d]] w fun e w' => e = .returned (.int .i64 (en : Int)) ∧ Own w0 w' (Ps.set k (refQ g xs (allL xs L S))) := by
  by_cases hs : slotV i (a : Int) < 0
  · have hn : ¬ ((0 ≤ i ∧ i < 4) ∧ 0 ≤ (a : Int) ∧ (a : Int) < 4) := by
      intro c
      unfold slotV at hs
      rw [if_pos c] at hs
      omega
    exact ⟨[], 1, fun k g w0 w Ps h hk => by rw [show allL xs L [] = L from rfl, set_id hk]; exact RSaveArg k g xs L i _ er sq ra rb d w0 w Ps h hk (fun c => absurd c hn)⟩
  · have hs0 : 0 ≤ slotV i (a : Int) := by omega
    have hs1 : slotV i (a : Int) ≤ 1000 := by unfold slotV; split <;> omega
    have hik := slot_there hs0
    cases hb : (seqB sq && mayR er d.size) with
    | false => exact ⟨[], 1, fun k g w0 w Ps h hk => by rw [show allL xs L [] = L from rfl, set_id hk]; exact RSaveArg k g xs L i _ er sq ra rb d w0 w Ps h hk (fun _ => hb)⟩
    | true =>
      rw [Bool.and_eq_true] at hb
      obtain ⟨hq, hm⟩ := hb
      have hsq : 1 ≤ sq ∧ sq ≤ 1099511627776 := by unfold seqB at hq; simpa using hq
      have hmm : (0 ≤ er ∧ er ≤ 24) ∧ d.size ≤ 64 := by unfold mayR at hm; simpa using hm
      have hd0 : decide (0 ≤ slotV i (a : Int)) = true := by simpa using hs0
      by_cases h0 : hasS i true xs.length = 0
      · obtain ⟨en, rfl⟩ := Int.eq_ofNat_of_zero_le hmm.1.1
        exact ⟨_, _, fun k g w0 w Ps h hk => RSaveYes k g xs L i _ en _ _ _ sq ra rb d w0 w Ps _ h hk hik hsq (by omega) hmm.2 hra hrb (there_zero (by rw [hd0]; exact h0)) rfl ⟨hs0, hs1⟩ rfl rfl rfl⟩
      · have ht := there_has i (a : Int) xs.length
        rw [hd0] at ht
        exact ⟨[], _, fun k g w0 w Ps h hk => by rw [show allL xs L [] = L from rfl, set_id hk]; exact RSaveE k g xs L i _ er _ sq ra rb d w0 w Ps h hk hik hsq hm rfl (by omega)⟩

set_option maxRecDepth 100000 in
set_option maxHeartbeats 1000000 in
theorem headT (k g : Nat) (xs : List Nat) (L : List (Nat × Nat)) (i : Int) (ob : Bool) (ge mk en : Nat) (hG : GetC xs L i ob ge mk en) (w0 w : World) (Ps : List Pr) (h : Own w0 w Ps) (hk : Ps[k]? = some (viewP g xs L)) :
    Calls Try.prog 35 #[.pointer (some ⟨g, 0, none⟩), .int .i64 i, .bool true] w fun e w' => e = .returned (.tuple #[.agg #[.bool ob, .int .u64 (ge : Int), .int .u64 (mk : Int)], .int .i64 (en : Int)]) ∧ Own w0 w' Ps := by
  have hkl := (List.getElem?_eq_some_iff.1 hk).1
  obtain ⟨X, HX⟩ : ∃ X, Hid (X = w.heap.size) := ⟨_, Lib.hid rfl⟩
  have hO : Own w0 (w.alloc (.cells #[.bool false, .int .u64 0, .int .u64 0] 87)) (Ps ++ [boxP X 87 #[.bool false, .int .u64 0, .int .u64 0]]) := by rw [HX.out]; exact h.addBox _ _
  have HG := Lib.hid (hG k g w0 _ _ hO (by rw [List.getElem?_append_left hkl]; exact hk))
  clear hO h hk hkl hG
  go_enter Try.func35, Try.ntmps35
  go_wp2_with fail
  rw [← HX.out]
  refine HG.out.mono ?_
  rintro e w5 ⟨rfl, hO⟩
  clear HG
  have hz : w5.heap[X]? = some (.cells #[.bool false, .int .u64 0, .int .u64 0] 87 (0, 0)) := Own.box hO Ps.length (by rw [List.getElem?_append_right (Nat.le_refl _), Nat.sub_self]; rfl)
  have Hq : Hid (∀ w6 : World, w5.grownBy w6 (some X) → Own w0 w6 Ps) := Lib.hid (fun w6 hg => hO.forget hg)
  clear hO
  have m0 : w5.cell? ⟨X, 0, none⟩ = some (.bool false) := by simp [World.cell?, hz]
  have q0 : w5.frozen? ⟨X, 0, none⟩ = false := by simp [World.frozen?, hz]
  have m1 : w5.cell? ⟨X, 1, none⟩ = some (.int .u64 0) := by simp [World.cell?, hz]
  have q1 : w5.frozen? ⟨X, 1, none⟩ = false := by simp [World.frozen?, hz]
  have m2 : w5.cell? ⟨X, 2, none⟩ = some (.int .u64 0) := by simp [World.cell?, hz]
  have q2 : w5.frozen? ⟨X, 2, none⟩ = false := by simp [World.frozen?, hz]
  have hz1 := heap_setCell_at (o := 0) hz (.bool ob)
  have hz2 := heap_setCell_at (o := 1) hz1 (.int .u64 (ge : Int))
  have hz3 := heap_setCell_at (o := 2) hz2 (.int .u64 (mk : Int))
  have g1 : w5.grownBy (((w5.setCell ⟨X, 0, none⟩ (.bool ob)).setCell ⟨X, 1, none⟩ (.int .u64 (ge : Int))).setCell ⟨X, 2, none⟩ (.int .u64 (mk : Int))) (some X) := grown_trans (grown_trans (grown_setCell _ ⟨X, 0, none⟩ _) (grown_setCell _ ⟨X, 1, none⟩ _)) (grown_setCell _ ⟨X, 2, none⟩ _)
  obtain ⟨W3, hW3⟩ : ∃ W3, W3 = (((w5.setCell ⟨X, 0, none⟩ (.bool ob)).setCell ⟨X, 1, none⟩ (.int .u64 (ge : Int))).setCell ⟨X, 2, none⟩ (.int .u64 (mk : Int))) := ⟨_, rfl⟩
  clear hz1 hz2
  go_wp2
  rw [← hW3] at hz3 g1 ⊢
  have Z0 : W3.cell? ⟨X, 0, none⟩ = some (.bool ob) := by simp [World.cell?, hz3]
  have Z1 : W3.cell? ⟨X, 1, none⟩ = some (.int .u64 (ge : Int)) := by simp [World.cell?, hz3]
  have Z2 : W3.cell? ⟨X, 2, none⟩ = some (.int .u64 (mk : Int)) := by simp [World.cell?, hz3]
  exact bodyPost_ret (v := .tuple #[.agg #[.bool ob, .int .u64 (ge : Int), .int .u64 (mk : Int)], .int .i64 (en : Int)]) (by simp [results, Try.results35, go_sem, Z0, Z1, Z2]) rfl ⟨rfl, Hq.out _ g1⟩

set_option maxRecDepth 100000 in
set_option maxHeartbeats 1000000 in
theorem headN (k g : Nat) (xs : List Nat) (L : List (Nat × Nat)) (i : Int)  (w0 w : World) (Ps : List Pr) (h : Own w0 w Ps) (hk : Ps[k]? = some (viewP g xs L)) :
    Calls Try.prog 35 #[.pointer (some ⟨g, 0, none⟩), .int .i64 i, .bool false] w fun e w' => e = .returned (.tuple #[.agg #[.bool false, .int .u64 0, .int .u64 0], .int .i64 1]) ∧ Own w0 w' Ps := by
  have hkl := (List.getElem?_eq_some_iff.1 hk).1
  obtain ⟨X, HX⟩ : ∃ X, Hid (X = w.heap.size) := ⟨_, Lib.hid rfl⟩
  have hO : Own w0 (w.alloc (.cells #[.bool false, .int .u64 0, .int .u64 0] 87)) (Ps ++ [boxP X 87 #[.bool false, .int .u64 0, .int .u64 0]]) := by rw [HX.out]; exact h.addBox _ _
  obtain ⟨w5, hw5⟩ : ∃ w5, w.alloc (.cells #[.bool false, .int .u64 0, .int .u64 0] 87) = w5 := ⟨_, rfl⟩
  rw [hw5] at hO
  have hz : w5.heap[X]? = some (.cells #[.bool false, .int .u64 0, .int .u64 0] 87 (0, 0)) := Own.box hO Ps.length (by rw [List.getElem?_append_right (Nat.le_refl _), Nat.sub_self]; rfl)
  have Hq : Hid (∀ w6 : World, w5.grownBy w6 (some X) → Own w0 w6 Ps) := Lib.hid (fun w6 hg => hO.forget hg)
  have hXs : w.heap.size = X := HX.out.symm
  clear hO h hk hkl
  go_enter Try.func35, Try.ntmps35
  have m0 : w5.cell? ⟨X, 0, none⟩ = some (.bool false) := by simp [World.cell?, hz]
  have q0 : w5.frozen? ⟨X, 0, none⟩ = false := by simp [World.frozen?, hz]
  have m1 : w5.cell? ⟨X, 1, none⟩ = some (.int .u64 0) := by simp [World.cell?, hz]
  have q1 : w5.frozen? ⟨X, 1, none⟩ = false := by simp [World.frozen?, hz]
  have m2 : w5.cell? ⟨X, 2, none⟩ = some (.int .u64 0) := by simp [World.cell?, hz]
  have q2 : w5.frozen? ⟨X, 2, none⟩ = false := by simp [World.frozen?, hz]
  have hz1 := heap_setCell_at (o := 0) hz (.bool false)
  have hz2 := heap_setCell_at (o := 1) hz1 (.int .u64 0)
  have hz3 := heap_setCell_at (o := 2) hz2 (.int .u64 0)
  have g1 : w5.grownBy (((w5.setCell ⟨X, 0, none⟩ (.bool false)).setCell ⟨X, 1, none⟩ (.int .u64 0)).setCell ⟨X, 2, none⟩ (.int .u64 0)) (some X) := grown_trans (grown_trans (grown_setCell _ ⟨X, 0, none⟩ _) (grown_setCell _ ⟨X, 1, none⟩ _)) (grown_setCell _ ⟨X, 2, none⟩ _)
  obtain ⟨W3, hW3⟩ : ∃ W3, W3 = (((w5.setCell ⟨X, 0, none⟩ (.bool false)).setCell ⟨X, 1, none⟩ (.int .u64 0)).setCell ⟨X, 2, none⟩ (.int .u64 0)) := ⟨_, rfl⟩
  clear hz1 hz2
  go_wp2
  rw [← hW3] at hz3 g1 ⊢
  have Z0 : W3.cell? ⟨X, 0, none⟩ = some (.bool false) := by simp [World.cell?, hz3]
  have Z1 : W3.cell? ⟨X, 1, none⟩ = some (.int .u64 0) := by simp [World.cell?, hz3]
  have Z2 : W3.cell? ⟨X, 2, none⟩ = some (.int .u64 0) := by simp [World.cell?, hz3]
  exact bodyPost_ret (v := .tuple #[.agg #[.bool false, .int .u64 0, .int .u64 0], .int .i64 1]) (by simp [results, Try.results35, go_sem, Z0, Z1, Z2]) rfl ⟨rfl, Hq.out _ g1⟩

end Go.Proofs.Ytdpkpphjpihhkaa
end
section
/- The law's keep: what the document put is put into the view. -/
namespace Go.Grommet
open Go.RowKit

/-- The keys of one list of writes begin those of another one. -/
def PreK (L M : List (Nat × Nat)) : Prop := L.map Prod.fst = (M.map Prod.fst).take L.length
theorem PreK.refl (L : List (Nat × Nat)) : PreK L L := by unfold PreK; rw [List.take_of_length_le (by simp)]
theorem PreK.len {L M : List (Nat × Nat)} (h : PreK L M) : L.length ≤ M.length := by
  have := congrArg List.length h
  simp at this
  omega
theorem PreK.key {L M : List (Nat × Nat)} (h : PreK L M) (j : Nat) (hj : j < L.length) : (L.getD j (0, 0)).1 = (M.getD j (0, 0)).1 := by
  have hl := h.len
  have e := congrArg (fun l => l.getD j 0) h
  try simp only at e
  rw [List.getD_eq_getElem?_getD, List.getD_eq_getElem?_getD, List.getElem?_map, List.getElem?_take, if_pos hj, List.getElem?_map, List.getElem?_eq_getElem hj, List.getElem?_eq_getElem (by omega)] at e
  rw [List.getD_eq_getElem?_getD, List.getD_eq_getElem?_getD, List.getElem?_eq_getElem hj, List.getElem?_eq_getElem (by omega)]
  exact e
theorem PreK.trans {L M N : List (Nat × Nat)} (h1 : PreK L M) (h2 : PreK M N) : PreK L N := by
  have hl := h1.len
  unfold PreK at *
  rw [h1, h2, List.take_take, Nat.min_eq_left hl]
theorem map_set_same {L : List (Nat × Nat)} {i a w : Nat} (hi : i < L.length) (ha : (L.getD i (0, 0)).1 = a) : (L.set i (a, w)).map Prod.fst = L.map Prod.fst := by
  apply List.ext_getElem?
  intro j
  rw [List.getElem?_map, List.getElem?_map]
  by_cases hj : i = j
  · subst hj
    rw [List.getElem?_set_self hi, List.getElem?_eq_getElem hi]
    rw [List.getD_eq_getElem?_getD, List.getElem?_eq_getElem hi] at ha
    simpa using ha.symm
  · rw [List.getElem?_set_ne hj]
theorem putL_pre (L : List (Nat × Nat)) (a w : Nat) : PreK L (putL L a w) := by
  unfold putL
  split
  · rename_i i hi
    obtain ⟨h1, h2, _⟩ := fidx_some hi
    unfold PreK
    rw [map_set_same h1 h2, List.take_of_length_le (by simp)]
  · split
    · exact PreK.refl L
    · unfold PreK
      rw [List.map_append, List.take_left' (by simp)]
/-- The first writes as they are, the others as they were. -/
def mixL (L M : List (Nat × Nat)) (k : Nat) : List (Nat × Nat) := M.take k ++ L.drop k
theorem mix_zero (L M : List (Nat × Nat)) : mixL L M 0 = L := rfl
theorem mix_all {L M : List (Nat × Nat)} (h : PreK L M) {k : Nat} (hk : M.length ≤ k) : mixL L M k = M := by
  have := h.len
  unfold mixL
  rw [List.take_of_length_le hk, List.drop_eq_nil_of_le (by omega), List.append_nil]
theorem mix_step {n : Nat} {L M : List (Nat × Nat)} (h : PreK L M) (hM : Wl n M) {k : Nat} (hk : k < M.length) :
    putL (mixL L M k) (M.getD k (0, 0)).1 (M.getD k (0, 0)).2 = mixL L M (k + 1) ∧ putE (mixL L M k) (M.getD k (0, 0)).1 = 0 := by
  have hl := h.len
  have hMk : M.take (k + 1) = M.take k ++ [M.getD k (0, 0)] := by
    rw [List.take_add_one, List.getElem?_eq_getElem hk, List.getD_eq_getElem?_getD, List.getElem?_eq_getElem hk]; rfl
  have hkey : ∀ j, j < k → ((mixL L M k).getD j (0, 0)).1 = (M.getD j (0, 0)).1 := by
    intro j hj
    unfold mixL
    rw [List.getD_eq_getElem?_getD, List.getElem?_append_left (by simp; omega), List.getElem?_take, if_pos hj, List.getD_eq_getElem?_getD]
  have hno : ∀ j, j < k → ((mixL L M k).getD j (0, 0)).1 ≠ (M.getD k (0, 0)).1 := by
    intro j hj e
    rw [hkey j hj] at e
    have := hM.one j k (by omega) hk e
    omega
  by_cases c : k < L.length
  · have hlen : k < (mixL L M k).length := by unfold mixL; simp; omega
    have hat : ((mixL L M k).getD k (0, 0)).1 = (M.getD k (0, 0)).1 := by
      rw [← h.key k c]
      unfold mixL
      rw [List.getD_eq_getElem?_getD, List.getElem?_append_right (by simp; omega), List.length_take, Nat.min_eq_left (by omega), Nat.sub_self, List.getElem?_drop, Nat.add_zero, List.getD_eq_getElem?_getD]
    have hf := fidx_at hlen hat hno
    unfold putL putE
    rw [hf]
    refine ⟨?_, rfl⟩
    show (mixL L M k).set k ((M.getD k (0, 0)).1, (M.getD k (0, 0)).2) = _
    unfold mixL
    rw [List.set_append_right _ _ (by simp; omega), List.length_take, Nat.min_eq_left (by omega), Nat.sub_self, hMk, List.append_assoc, List.drop_eq_getElem_cons c]
    rfl
  · have hm : mixL L M k = M.take k := by unfold mixL; rw [List.drop_eq_nil_of_le (by omega), List.append_nil]
    have hm2 : mixL L M (k + 1) = M.take (k + 1) := by unfold mixL; rw [List.drop_eq_nil_of_le (by omega), List.append_nil]
    have hf : fidx (M.take k) (M.getD k (0, 0)).1 = none := by
      apply fidx_of_not
      intro p hp e
      obtain ⟨j, hj, rfl⟩ := List.getElem_of_mem hp
      have hj' : j < k := by simp at hj; omega
      apply hno j hj'
      rw [hm, ← e, List.getD_eq_getElem?_getD, List.getElem?_eq_getElem hj]; rfl
    have hfew := hM.few
    unfold putL putE
    rw [hm, hf, hm2, hMk]
    rw [if_neg (by simp; omega), if_neg (by simp; omega)]
    exact ⟨rfl, rfl⟩
theorem mix_key {M : List (Nat × Nat)} {n : Nat} (hM : Wl n M) {k : Nat} (hk : k < M.length) : (M.getD k (0, 0)).1 < n ∧ (M.getD k (0, 0)).2 < 18446744073709551616 := ⟨hM.at_ _ (getD_mem M k _ hk), hM.val _ (getD_mem M k _ hk)⟩
end Go.Grommet
namespace Go.Proofs.Ytdpkpphjpihhkaa
open Go.RowKit Go.Grommet
theorem setL_pre (xs : List Nat) (L : List (Nat × Nat)) (a : Int) (v : Nat) : PreK L (setL xs L a v) := by
  unfold setL
  split
  · split
    · exact PreK.refl L
    · exact putL_pre _ _ _
  · exact PreK.refl L
theorem allL_pre (xs : List Nat) : ∀ (S : List (Int × Nat)) (L : List (Nat × Nat)), PreK L (allL xs L S)
  | [], L => PreK.refl L
  | (a, v) :: t, L => by
    obtain ⟨p1, p2⟩ := all_cons xs L a v t
    by_cases e : setE xs L a v = 0
    · rw [(p1 e).2]; exact (setL_pre xs L a v).trans (allL_pre xs t _)
    · rw [(p2 e).2]; exact setL_pre xs L a v
end Go.Proofs.Ytdpkpphjpihhkaa
end
section
/- The law's keep: what is saved is saved in both views. -/
namespace Go.Proofs.Ytdpkpphjpihhkaa
open Go.RowKit Go.Grommet

/-- A row of writes is laid into the document's view: it is the view's own from then on. -/
theorem refQ_lay {w0 w : World} {Ps : List Pr} {ad : Option Addr} {n cap : Nat} {M : List (Nat × Nat)} (h : Grommet.Own w0 w (Ps ++ [rowP 79 2 (.slice ad n cap) n (wcells M)])) (k : Nat) {r : Nat} {xs : List Nat} {L : List (Nat × Nat)} (hk : Ps[k]? = some (refQ r xs L)) (hn : M.length = n) (hW : Wl xs.length M) :
    Grommet.Own w0 (w.setCell ⟨r, 1, none⟩ (.slice ad n cap)) (Ps.set k (refQ r xs M)) := by
  have hkl := (List.getElem?_eq_some_iff.1 hk).1
  obtain ⟨Fs, h1, h2, h3, h4⟩ := h
  have hq : (Ps ++ [rowP 79 2 (.slice ad n cap) n (wcells M)])[Ps.length]? = some (rowP 79 2 (.slice ad n cap) n (wcells M)) := by rw [List.getElem?_append_right (Nat.le_refl _), Nat.sub_self]; rfl
  have hlt : ∀ j, j < Ps.length → j < (Ps ++ [rowP 79 2 (.slice ad n cap) n (wcells M)]).length := fun j hj => by rw [List.length_append]; omega
  have hlq : Ps.length < (Ps ++ [rowP 79 2 (.slice ad n cap) n (wcells M)]).length := by simp
  obtain ⟨r1, r2, r3⟩ := h1 Ps.length _ hq
  obtain ⟨b, vi, vl, hR⟩ := h1 k _ (by rw [List.getElem?_append_left hkl]; exact hk)
  have hob : w.heap[r]? = some (.cells [vi, vl, .bool b].toArray 44 (0, 0)) := hR.obj
  have t0 : Turn (fun i => i = r) w (w.setCell ⟨r, 1, none⟩ (.slice ad n cap)) := Turn.of (grown_setCell _ _ _) (fun i e => by cases e; rfl)
  have hsz : w.heap.size ≤ (w.setCell ⟨r, 1, none⟩ (.slice ad n cap)).heap.size := t0.size
  have apart : ∀ j, j < (Ps ++ [rowP 79 2 (.slice ad n cap) n (wcells M)]).length → j ≠ k → ∀ i, Fs j i → i ≠ r := fun j hj hne i hi e => h2 j k hj (hlt k hkl) hne i hi (by rw [e]; exact hR.fg)
  refine ⟨upd Fs k (fun i => Fs k i ∨ Fs Ps.length i), ?_, ?_, ?_, grown_turn h4 t0 (fun i e => by subst e; exact h3 k (hlt k hkl) _ hR.fg)⟩
  · intro j Q hQ
    by_cases hj : j = k
    · subst hj
      rw [upd_same]
      rw [List.getElem?_set_self hkl] at hQ
      cases hQ
      subst hn
      exact ⟨b, vi, .slice ad M.length cap, ⟨row_set hob 1 _, t0.row hR.words (fun i hi e => hR.apart.1 i hi e), t0.row r1 (fun i hi => apart _ hlq (by omega) i (r2 i hi)), hR.small, hR.fits, hW,
        fun i hi => by rcases hi with hi | hi; exact Nat.lt_of_lt_of_le (hR.old i hi) hsz; exact Nat.lt_of_lt_of_le (r3 i hi) hsz, .inl hR.fg, fun i hi => .inl (hR.fw i hi), fun i hi => .inr (r2 i hi)⟩⟩
    · rw [upd_ne _ _ hj]
      rw [List.getElem?_set_ne (fun e => hj e.symm)] at hQ
      have hjl := (List.getElem?_eq_some_iff.1 hQ).1
      exact Q.turn (h1 j Q (by rw [List.getElem?_append_left hjl]; exact hQ)) t0 (fun i hi => apart j (hlt j hjl) hj i hi)
  · intro j l hj hl hne i hi
    rw [List.length_set] at hj hl
    by_cases hjk : j = k
    · subst hjk
      rw [upd_same] at hi
      rw [upd_ne _ _ (fun e => hne e.symm)]
      rcases hi with e | e
      · exact h2 _ l (hlt _ hj) (hlt _ hl) hne i e
      · exact h2 Ps.length l hlq (hlt _ hl) (by omega) i e
    · rw [upd_ne _ _ hjk] at hi
      by_cases hlk : l = k
      · subst hlk
        rw [upd_same]
        rintro (e | e)
        · exact h2 j _ (hlt _ hj) (hlt _ hl) hne i hi e
        · exact h2 j Ps.length (hlt _ hj) hlq (by omega) i hi e
      · rw [upd_ne _ _ hlk]
        exact h2 j l (hlt _ hj) (hlt _ hl) hne i hi
  · intro j hj i hi
    rw [List.length_set] at hj
    by_cases hjk : j = k
    · subst hjk
      rw [upd_same] at hi
      rcases hi with e | e
      · exact h3 _ (hlt _ hj) i e
      · exact h3 Ps.length hlq i e
    · rw [upd_ne _ _ hjk] at hi
      exact h3 j (hlt _ hj) i hi

/-- Writes from anywhere, or none, behind an empty row of the call's own. -/
theorem appK {w : World} {ops : Array Oper} {rest : List Oper} {o : Oper} {a : Act} {Q : Exit → Act → World → Prop} (hgd : o.guard = none) (s x : Operand)
    (ho : o.op = .call { callee := .builtin .append, args := #[s, x], argTypes := #[42, 42] })
    (ad0 : Option Addr) (hs : a.eval s = .slice ad0 0 0) (hown : w.ownsRow 0 79 2 (.slice ad0 0 0) 0 (wcells []))
    (ad : Option Addr) (m c : Nat) (M : List (Nat × Nat)) (hx : a.eval x = .slice ad m c) (hl : M.length = m) (hw : At w ad (wcells M)) (hnil : ad = none → m = 0 ∧ c = 0)
    (hb : m ≤ 1099511627776)
    (h : ∀ ad' cap' w', w'.ownsRow 0 79 2 (.slice ad' m cap') m (wcells M) → w.grownBy w' (Value.slice ad0 0 0).ownBlock → (∀ g, (Value.slice ad' m cap').ownBlock = some g → (Value.slice ad0 0 0).ownBlock = some g ∨ w.heap.size ≤ g) → wpList Try.prog ops Q rest (a.put o.dst (.slice ad' m cap')) w') : wpList Try.prog ops Q (o :: rest) a w := by
  cases ad with
  | none =>
    obtain ⟨rfl, rfl⟩ := hnil rfl
    obtain rfl := List.eq_nil_of_length_eq_zero hl
    obtain ⟨i0, hi, hz0, hz1, hz2⟩ := info_parts Try.info79
    refine wpList_append_own_none hgd s x 42 ho 0 79 i0 2 Try.underlying42 hi _ 0 (wcells []) hs hown hx ?_
    exact h ad0 0 w hown (World.grownBy.refl _ _) (fun g hg => .inl hg)
  | some ad =>
    refine appW hgd s x ho 0 _ 0 [] hs hown ad m c M hx hl hw (by omega) (Nat.zero_le _) ?_
    intro ad' cap' w' h1 h2 h3
    rw [Nat.zero_add] at h1 h3 ⊢
    exact h ad' cap' w' h1 h2 h3
/-- What is written, as it stands in memory; a nil row is empty. -/
theorem refQ_obj2 {w0 w : World} {Ps : List Pr} (h : Grommet.Own w0 w Ps) (k : Nat) {r : Nat} {xs : List Nat} {L : List (Nat × Nat)} (hk : Ps[k]? = some (refQ r xs L)) :
    ∃ ad cap, w.cell? ⟨r, 1, none⟩ = some (.slice ad L.length cap) ∧ w.frozen? ⟨r, 1, none⟩ = false ∧ At w ad (wcells L) ∧ (ad = none → L.length = 0 ∧ cap = 0) ∧ Wl xs.length L := by
  obtain ⟨F, b, vi, vl, h1⟩ := h.get k hk
  obtain ⟨ad, cap, rfl, hat, hnil, _⟩ := row_slice h1.writes
  have hob : w.heap[r]? = some (.cells [vi, .slice ad L.length cap, .bool b].toArray 44 (0, 0)) := h1.obj
  exact ⟨ad, cap, by simp [World.cell?, hob], by simp [World.frozen?, hob], hat, hnil, h1.good⟩
set_option maxRecDepth 100000 in
set_option maxHeartbeats 8000000 in
theorem KeepQ (kv kr g r : Nat) (xs : List Nat) (L : List (Nat × Nat)) (d i gen : Int) (nn : Nat) (er : Int) (ra rb : Nat) (dd : ByteArray) (dr : Bool) (hnn : nn < 18446744073709551616) (hra : ra < 18446744073709551616) (hrb : rb < 18446744073709551616) (w0 w : World) (Ps : List Pr) (h : Grommet.Own w0 w Ps) (hv : Ps[kv]? = some (viewP g xs L)) (hr : Ps[kr]? = some (refQ r xs L)) (hne : kv ≠ kr) :
    Calls Try.prog 22 #[.pointer (some ⟨g, 0, none⟩), .pointer (some ⟨r, 0, none⟩), .agg #[.int .u8 d, .int .i64 i, .int .u64 gen, .int .u64 (nn : Int), .int .i64 er, .int .u64 (ra : Int), .int .u64 (rb : Int), .string dd, .bool dr]] w fun e w' => e = .returned (.tuple #[]) ∧ ∃ L2 : List (Nat × Nat), Grommet.Own w0 w' ((Ps.set kv (viewP g xs L2)).set kr (refQ r xs L2)) := by
  obtain ⟨a, ha⟩ : ∃ a, nn % 4 = a := ⟨_, rfl⟩
  obtain ⟨S, en, HS⟩ := save_nat i a nn ra rb er dd hra hrb xs L
  obtain ⟨M, hM⟩ : ∃ M, allL xs L S = M := ⟨_, rfl⟩
  have hpre : PreK L M := by rw [← hM]; exact allL_pre xs S L
  rw [hM] at HS
  have hvl := (List.getElem?_eq_some_iff.1 hv).1
  have hrl := (List.getElem?_eq_some_iff.1 hr).1
  obtain ⟨X, HX⟩ : ∃ X, Hid (X = w.heap.size) := ⟨_, Lib.hid rfl⟩
  have hO : Grommet.Own w0 (w.alloc (.cells #[.int .u8 d, .int .i64 i, .int .u64 gen, .int .u64 (nn : Int), .int .i64 er, .int .u64 (ra : Int), .int .u64 (rb : Int), .string dd, .bool dr] 41)) (Ps ++ [boxP X 41 #[.int .u8 d, .int .i64 i, .int .u64 gen, .int .u64 (nn : Int), .int .i64 er, .int .u64 (ra : Int), .int .u64 (rb : Int), .string dd, .bool dr]]) := by rw [HX.out]; exact h.addBox _ _
  have Hr := Lib.hid (show ∀ Rs, (Ps ++ Rs)[kr]? = some (refQ r xs L) from fun Rs => by rw [List.getElem?_append_left hrl]; exact hr)
  have HS2 := Lib.hid (fun wx Rs (hO : Grommet.Own w0 wx (Ps ++ Rs)) => HS kr r w0 wx _ hO (Hr.out _))
  have Hset := Lib.hid (fun Rs => show (Ps ++ Rs).set kr (refQ r xs M) = Ps.set kr (refQ r xs M) ++ Rs from List.set_append_left _ _ hrl)
  have Hsame := Lib.hid (show Ps = (Ps.set kv (viewP g xs L)).set kr (refQ r xs L) by rw [set_id hv, set_id hr])
  have HwL := Lib.hid (Own.wl h kv hv)
  have Hpre := Lib.hid hpre
  have Hv := Lib.hid hv
  have Hvl := Lib.hid hvl
  have Hrl := Lib.hid hrl
  have Hne := Lib.hid hne
  have e1 : (nn : Int) % 4 = (a : Int) := by omega
  have e2 : Int.tmod (nn : Int) 4 = (a : Int) := by rw [Int.tmod_eq_emod_of_nonneg (by omega)]; exact e1
  have e3 : IntKind.u64.wrap (a : Int) = (a : Int) := IntWalk.u64_in _ ⟨by omega, by omega⟩
  have e4 : IntKind.i64.wrap (a : Int) = (a : Int) := IntWalk.i64_in _ ⟨by omega, by omega⟩
  -- the copy
  have hO1 : Grommet.Own w0 ((w.alloc (.cells #[.int .u8 d, .int .i64 i, .int .u64 gen, .int .u64 (nn : Int), .int .i64 er, .int .u64 (ra : Int), .int .u64 (rb : Int), .string dd, .bool dr] 41)).alloc (.cells #[] 79)) (Ps ++ [boxP X 41 #[.int .u8 d, .int .i64 i, .int .u64 gen, .int .u64 (nn : Int), .int .i64 er, .int .u64 (ra : Int), .int .u64 (rb : Int), .string dd, .bool dr], rowP 79 2 (.slice (some ⟨(w.alloc (.cells #[.int .u8 d, .int .i64 i, .int .u64 gen, .int .u64 (nn : Int), .int .i64 er, .int .u64 (ra : Int), .int .u64 (rb : Int), .string dd, .bool dr] 41)).heap.size, 0, none⟩) 0 0) 0 (wcells [])]) := by
    have h9 := hO.addRow (own_lit _ 79 2 _ (Nat.le_refl _)) (World.grownBy_alloc _ _ none)
    rw [List.append_assoc] at h9
    exact h9
  obtain ⟨adl, cpl, c1, f1, hat, hnil, hWl⟩ := refQ_obj2 hO1 kr (Hr.out _)
  obtain ⟨nL, hnL⟩ : ∃ nL, L.length = nL := ⟨_, rfl⟩
  have hnb : nL ≤ 96 := by rw [← hnL]; exact hWl.few
  rw [hnL] at c1 hnil
  have HnL := Lib.hid hnL
  obtain ⟨R, HR⟩ : ∃ R, Hid (R = w.heap.size + 1) := ⟨_, Lib.hid rfl⟩
  have hXs : w.heap.size = X := HX.out.symm
  have hRs : X + 1 = R := by rw [HX.out]; exact HR.out.symm
  have hsz : (w.alloc (.cells #[.int .u8 d, .int .i64 i, .int .u64 gen, .int .u64 (nn : Int), .int .i64 er, .int .u64 (ra : Int), .int .u64 (rb : Int), .string dd, .bool dr] 41)).heap.size = R := by rw [World.size_alloc]; exact HR.out.symm
  rw [hsz] at hO1
  have hO1 := Lib.hid hO1
  have Hat := Lib.hid hat
  clear hO h hv hr hvl hrl hne hnn hra hrb ha hM hpre hnL hWl HS hat hsz
  go_enter Try.func22, Try.ntmps22
  go_wp2_with (at_builtin; refine appK rfl _ _ rfl (some ⟨R, 0, none⟩) rfl (Own.row hO1.out (Ps.length + 1) (by rw [List.getElem?_append_right (by omega), Nat.add_sub_cancel_left]; rfl)) adl nL cpl L rfl HnL.out Hat.out hnil ?a2 ?_)
  case a2 => omega
  intro ad2 cap2 w2 hr2 hg2 hn2
  have hO2 := Own.append hO1.out (Ps.length + 1) (by rw [List.getElem?_append_right (by omega), Nat.add_sub_cancel_left]; rfl) hr2 hg2 (fun y e => (hn2 y e).imp id (fun h => by have := HR.out; rw [World.size_alloc, World.size_alloc]; omega))
  rw [List.set_append_right _ _ (by omega), Nat.add_sub_cancel_left] at hO2
  have hO2 : Hid (Grommet.Own w0 w2 (Ps ++ [boxP X 41 #[.int .u8 d, .int .i64 i, .int .u64 gen, .int .u64 (nn : Int), .int .i64 er, .int .u64 (ra : Int), .int .u64 (rb : Int), .string dd, .bool dr], rowP 79 2 (.slice ad2 nL cap2) nL (wcells L)])) := Lib.hid hO2
  have hx : w2.heap[X]? = some (.cells #[.int .u8 d, .int .i64 i, .int .u64 gen, .int .u64 (nn : Int), .int .i64 er, .int .u64 (ra : Int), .int .u64 (rb : Int), .string dd, .bool dr] 41 (0, 0)) := Own.box hO2.out Ps.length (by rw [List.getElem?_append_right (Nat.le_refl _), Nat.sub_self]; rfl)
  have x0 : w2.cell? ⟨X, 0, none⟩ = some (.int .u8 d) := by simp [World.cell?, hx]
  have x1 : w2.cell? ⟨X, 1, none⟩ = some (.int .i64 i) := by simp [World.cell?, hx]
  have x2 : w2.cell? ⟨X, 2, none⟩ = some (.int .u64 gen) := by simp [World.cell?, hx]
  have x3 : w2.cell? ⟨X, 3, none⟩ = some (.int .u64 (nn : Int)) := by simp [World.cell?, hx]
  have x4 : w2.cell? ⟨X, 4, none⟩ = some (.int .i64 er) := by simp [World.cell?, hx]
  have x5 : w2.cell? ⟨X, 5, none⟩ = some (.int .u64 (ra : Int)) := by simp [World.cell?, hx]
  have x6 : w2.cell? ⟨X, 6, none⟩ = some (.int .u64 (rb : Int)) := by simp [World.cell?, hx]
  have x7 : w2.cell? ⟨X, 7, none⟩ = some (.string dd) := by simp [World.cell?, hx]
  have x8 : w2.cell? ⟨X, 8, none⟩ = some (.bool dr) := by simp [World.cell?, hx]
  have HS3 := Lib.hid (HS2.out w2 _ hO2.out)
  rw [Hset.out] at HS3
  clear hr2 hg2 hn2 hO1 hO2 c1 f1 hnil hx Hat HS2 hXs hRs
  go_wp2_with fail
  refine HS3.out.mono ?_
  rintro e w3 ⟨rfl, hO3⟩
  clear HS3 x0 x1 x2 x3 x4 x5 x6 x7 x8 e1 e2 e3 e4
  have HkM := Lib.hid (show ∀ Rs, (Ps.set kr (refQ r xs M) ++ Rs)[kr]? = some (refQ r xs M) from fun Rs => by rw [List.getElem?_append_left (by rw [List.length_set]; exact Hrl.out)]; exact List.getElem?_set_self Hrl.out)
  obtain ⟨adm, cpm, c1, f1, hat, hnil, hWm⟩ := refQ_obj2 hO3 kr (HkM.out _)
  obtain ⟨nM, hnM⟩ : ∃ nM, M.length = nM := ⟨_, rfl⟩
  have hmb : nM ≤ 96 := by rw [← hnM]; exact hWm.few
  rw [hnM] at c1 hnil
  have HWm := Lib.hid hWm
  have HnM := Lib.hid hnM
  clear hWm hnM hnil hat
  by_cases c : en = 0
  · have q : ((en : Int) != 0) = false := by rw [c]; rfl
    clear c c1 f1
    have hV0 : Hid (Grommet.Own w0 w3 ((Ps.set kv (viewP g xs (mixL L M 0))).set kr (refQ r xs M))) := Lib.hid (by
      rw [mix_zero, set_id Hv.out]
      exact hO3.less)
    clear hO3
    go_wp2_with fail
    go_loopw [7] (fun s wr => ∃ k : Nat, k ≤ nM ∧ s = .int .i64 (k : Int) ∧ Hid (Grommet.Own w0 wr ((Ps.set kv (viewP g xs (mixL L M k))).set kr (refQ r xs M)))) (fun s _ => nM - (intOf s).toNat)
    case atStart => exact ⟨0, Nat.zero_le _, rfl, hV0⟩
    case round =>
      clear hV0
      obtain ⟨k, hk, rfl, hO⟩ := hrel
      have k0 : (0 : Int) ≤ (k : Int) := by omega
      have Hkr := Lib.hid (show ((Ps.set kv (viewP g xs (mixL L M k))).set kr (refQ r xs M))[kr]? = some (refQ r xs M) from List.getElem?_set_self (by rw [List.length_set]; exact Hrl.out))
      have Hkv := Lib.hid (show ((Ps.set kv (viewP g xs (mixL L M k))).set kr (refQ r xs M))[kv]? = some (viewP g xs (mixL L M k)) from by rw [List.getElem?_set_ne (fun e => Hne.out e.symm)]; exact List.getElem?_set_self Hvl.out)
      obtain ⟨ad9, cp9, c1, f1, hat, hnil, _⟩ := refQ_obj2 hO.out kr Hkr.out
      rw [HnM.out] at c1
      by_cases hlt : k < nM
      · have hlt' : (k : Int) < (nM : Int) := by omega
        have hkM : k < M.length := by rw [HnM.out]; exact hlt
        obtain ⟨m1, m2⟩ := mix_key HWm.out hkM
        obtain ⟨s1, s2⟩ := mix_step Hpre.out HWm.out hkM
        obtain ⟨q, o, rfl, p0, p1⟩ := at_pair hat k hkM
        obtain ⟨A, hA⟩ : ∃ A, (M.getD k (0, 0)).1 = A := ⟨_, rfl⟩
        obtain ⟨V, hV⟩ : ∃ V, (M.getD k (0, 0)).2 = V := ⟨_, rfl⟩
        rw [hA] at m1 s1 s2 p0
        rw [hV] at m2 s1 p1
        have HP := Lib.hid (PutH kv g xs (mixL L M k) (A : Int) V 0 w0 wr.drew _ ((Ps.set kv (viewP g xs (mixL L M (k + 1)))).set kr (refQ r xs M)) (hO.out.quiet (grown_drew (World.grownBy.refl _ none))) Hkv.out m2 (by unfold putEI; rw [if_pos (by omega), Int.toNat_natCast, s2]; rfl) (by
          unfold putI
          rw [if_pos (by omega), Int.toNat_natCast, s1, List.set_comm _ _ (fun e => Hne.out e), List.set_set]
          exact List.set_comm _ _ (fun e => Hne.out e.symm)))
        have Hlt := Lib.hid (show k + 1 ≤ nM by omega)
        clear hk hlt hkM m1 m2 s1 s2 hA hV hat hnil hO
        go_wp2_with fail
        go_still_tail 17, (by kernel_rfl)
        change wpList _ _ _ _ _ wr.drew
        go_wp2_with fail
        refine HP.out.mono ?_
        rintro e w5 ⟨rfl, hO5⟩
        replace hO5 := Lib.hid hO5
        clear HP
        go_wp2
        go_roundw
        case rel => exact ⟨k + 1, Hlt.out, by go_num, hO5⟩
        case measure => have := Hlt.out; simp [intOf]; omega
      · have hlt' : ¬ (k : Int) < (nM : Int) := by omega
        have hO6 : Hid (Grommet.Own w0 wr ((Ps.set kv (viewP g xs M)).set kr (refQ r xs M))) := Lib.hid (by
          have h9 := hO.out
          rw [mix_all Hpre.out (by rw [HnM.out]; omega)] at h9
          exact h9)
        clear hO hlt hat hnil hk
        go_wp2
        go_end0
        exact ⟨rfl, M, hO6.out⟩
  · have q : ((en : Int) != 0) = true := by simp; omega
    have hO4 : Grommet.Own w0 w3 ((Ps.set kr (refQ r xs M) ++ [boxP X 41 #[.int .u8 d, .int .i64 i, .int .u64 gen, .int .u64 (nn : Int), .int .i64 er, .int .u64 (ra : Int), .int .u64 (rb : Int), .string dd, .bool dr]]) ++ [rowP 79 2 (.slice ad2 nL cap2) nL (wcells L)]) := by rw [List.append_assoc]; exact hO3
    have hO5 := refQ_lay hO4 kr (HkM.out _) HnL.out HwL.out.1
    have hO6 : Hid (Grommet.Own w0 (w3.setCell ⟨r, 1, none⟩ (.slice ad2 nL cap2)) ((Ps.set kv (viewP g xs L)).set kr (refQ r xs L))) := Lib.hid (by
      rw [List.set_append_left _ _ (by rw [List.length_set]; exact Hrl.out), List.set_set] at hO5
      rw [set_id Hv.out]
      exact hO5.less)
    clear c hO3 hO4 hO5
    go_wp2
    exact bodyPost_ret (v := .tuple #[]) (by simp [results, Try.results22, go_sem]) rfl ⟨rfl, L, hO6.out⟩
end Go.Proofs.Ytdpkpphjpihhkaa
end
