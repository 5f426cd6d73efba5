/- Package class: a number, a session's head, what becomes of a call. -/
import Derived.Test.YtdpkpphjpihhkaaSloO
namespace Go.Proofs.Ytdpkpphjpihhkaa
open Go.RowKit Go.Grommet

def numB (n : Nat) : Bool := decide (1 ≤ n) && decide (n ≤ 1099511627776)
set_option maxHeartbeats 400000 in
theorem isNumber_any (n : Nat) (w : World) : Calls Try.prog 36 #[.int .u64 (n : Int)] w fun e w' => e = .returned (.bool (numB n)) ∧ w' = w := by
  unfold numB
  go_enter Try.func36, Try.ntmps36
  by_cases h1 : 1 ≤ n
  · rw [decide_eq_true h1, Bool.true_and]
    by_cases h2 : n ≤ 1099511627776
    · rw [decide_eq_true h2]
      have l1 : (1 : Int) ≤ (n : Int) := by omega
      have l2 : (n : Int) ≤ 1099511627776 := by omega
      go_wp2
      go_ret
      exact ⟨rfl, rfl⟩
    · rw [decide_eq_false h2]
      have l1 : (1 : Int) ≤ (n : Int) := by omega
      have l2 : ¬ (n : Int) ≤ 1099511627776 := by omega
      go_wp2
      go_ret
      exact ⟨rfl, rfl⟩
  · obtain rfl : n = 0 := by omega
    go_wp2
    go_ret
    exact ⟨rfl, rfl⟩
set_option maxHeartbeats 400000 in
theorem slotOf_any (n : Nat) (w : World) : Calls Try.prog 38 #[.int .u64 (n : Int)] w fun e w' => e = .returned (.int .i64 ((n % 4 : Nat) : Int)) ∧ w' = w := by
  obtain ⟨a, ha⟩ : ∃ a, n % 4 = a := ⟨_, rfl⟩
  have ha4 : a < 4 := by omega
  have e1 : (n : Int) % 4 = (a : Int) := by omega
  have e2 : Int.tmod (n : Int) 4 = (a : Int) := by rw [Int.tmod_eq_emod_of_nonneg (by omega)]; omega
  have w1 : IntKind.u64.wrap (a : Int) = (a : Int) := IntWalk.u64_in _ ⟨by omega, by omega⟩
  have w2 : IntKind.i64.wrap (a : Int) = (a : Int) := IntWalk.i64_in _ ⟨by omega, by omega⟩
  rw [ha]
  clear ha
  go_enter Try.func38, Try.ntmps38
  go_wp2
  go_ret
  exact ⟨rfl, rfl⟩

set_option maxHeartbeats 1000000 in
/-- The head of an open session. -/
theorem headH (k g : Nat) (xs : List Nat) (L : List (Nat × Nat)) (i at_ : Int) (ge mk : Nat) (w0 w : World) (Ps : List Pr) (h : Own w0 w Ps) (hk : Ps[k]? = some (viewP g xs L)) (hat : sessionV i = at_) (ha : 0 ≤ at_ ∧ at_ + 64 ≤ (xs.length : Int)) (hxl : xs.length ≤ 1000000) (ho : gotI xs L at_ = 1) (hge : gotI xs L (at_ + 1) = ge) (hmk : gotI xs L (at_ + 2) = mk) :
    Calls Try.prog 35 #[.pointer (some ⟨g, 0, none⟩), .int .i64 i, .bool true] w fun e w' => e = .returned (.tuple #[.agg #[.bool true, .int .u64 (ge : Int), .int .u64 (mk : Int)], .int .i64 0]) ∧ Own w0 w' Ps := by
  have hkl := (List.getElem?_eq_some_iff.1 hk).1
  obtain ⟨X, HX⟩ : ∃ X, Hid (X = w.heap.size) := ⟨_, Lib.hid rfl⟩
  have hO : Own w0 (w.alloc (.cells #[.bool false, .int .u64 0, .int .u64 0] 87)) (Ps ++ [boxP X 87 #[.bool false, .int .u64 0, .int .u64 0]]) := by rw [HX.out]; exact h.addBox _ _
  have HG := Lib.hid (GetOk k g xs L i at_ 1 ge mk true w0 _ _ hO (by rw [List.getElem?_append_left hkl]; exact hk) hat ha hxl ho rfl (by decide) hge hmk)
  clear hO h hk hkl hat ha hxl ho hge hmk
  go_enter Try.func35, Try.ntmps35
  go_wp2_with fail
  rw [← HX.out]
  refine HG.out.mono ?_
  rintro e w5 ⟨rfl, hO⟩
  clear HG
  have hz : w5.heap[X]? = some (.cells #[.bool false, .int .u64 0, .int .u64 0] 87 (0, 0)) := Own.box hO Ps.length (by rw [List.getElem?_append_right (Nat.le_refl _), Nat.sub_self]; rfl)
  have Hq : Hid (∀ w6 : World, w5.grownBy w6 (some X) → Own w0 w6 Ps) := Lib.hid (fun w6 hg => hO.forget hg)
  clear hO
  have m0 : w5.cell? ⟨X, 0, none⟩ = some (.bool false) := by simp [World.cell?, hz]
  have q0 : w5.frozen? ⟨X, 0, none⟩ = false := by simp [World.frozen?, hz]
  have m1 : w5.cell? ⟨X, 1, none⟩ = some (.int .u64 0) := by simp [World.cell?, hz]
  have q1 : w5.frozen? ⟨X, 1, none⟩ = false := by simp [World.frozen?, hz]
  have m2 : w5.cell? ⟨X, 2, none⟩ = some (.int .u64 0) := by simp [World.cell?, hz]
  have q2 : w5.frozen? ⟨X, 2, none⟩ = false := by simp [World.frozen?, hz]
  have hz1 := heap_setCell_at (o := 0) hz (.bool true)
  have hz2 := heap_setCell_at (o := 1) hz1 (.int .u64 (ge : Int))
  have hz3 := heap_setCell_at (o := 2) hz2 (.int .u64 (mk : Int))
  have g1 : w5.grownBy (((w5.setCell ⟨X, 0, none⟩ (.bool true)).setCell ⟨X, 1, none⟩ (.int .u64 (ge : Int))).setCell ⟨X, 2, none⟩ (.int .u64 (mk : Int))) (some X) := grown_trans (grown_trans (grown_setCell _ ⟨X, 0, none⟩ _) (grown_setCell _ ⟨X, 1, none⟩ _)) (grown_setCell _ ⟨X, 2, none⟩ _)
  obtain ⟨W3, hW3⟩ : ∃ W3, W3 = (((w5.setCell ⟨X, 0, none⟩ (.bool true)).setCell ⟨X, 1, none⟩ (.int .u64 (ge : Int))).setCell ⟨X, 2, none⟩ (.int .u64 (mk : Int))) := ⟨_, rfl⟩
  clear hz1 hz2
  go_wp2
  rw [← hW3] at hz3 g1 ⊢
  have Z0 : W3.cell? ⟨X, 0, none⟩ = some (.bool true) := by simp [World.cell?, hz3]
  have Z1 : W3.cell? ⟨X, 1, none⟩ = some (.int .u64 (ge : Int)) := by simp [World.cell?, hz3]
  have Z2 : W3.cell? ⟨X, 2, none⟩ = some (.int .u64 (mk : Int)) := by simp [World.cell?, hz3]
  exact bodyPost_ret (v := .tuple #[.agg #[.bool true, .int .u64 (ge : Int), .int .u64 (mk : Int)], .int .i64 0]) (by simp [results, Try.results35, go_sem, Z0, Z1, Z2]) rfl ⟨rfl, Hq.out _ g1⟩
end Go.Proofs.Ytdpkpphjpihhkaa
