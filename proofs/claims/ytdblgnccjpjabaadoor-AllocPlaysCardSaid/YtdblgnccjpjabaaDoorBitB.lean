/- Package bitmap: bit, has, own. -/
import Derived.Test.YtdblgnccjpjabaaDoorBitA
-- OPTIONAL
namespace Go.Proofs.YtdblgnccjpjabaaDoor
open Go.RowKit Go.Grommet

theorem map_cells {w : World} {X g a m : Nat} (h : w.heap[X]? = some (.cells (mapCs g a m) 114 (0, 0))) :
    w.cell? ⟨X, 0, none⟩ = some (.pointer (some ⟨g, 0, none⟩)) ∧ w.cell? ⟨X, 1, none⟩ = some (.int .i64 (a : Int)) ∧ w.cell? ⟨X, 2, none⟩ = some (.int .i64 (m : Int)) := by
  simp [World.cell?, h, mapCs]

theorem bit_any (i : Nat) (w : World) (h : i ≤ 9223372036854775807) : Calls Tryd.prog 78 #[.int .i64 (i : Int)] w fun e w' => e = .returned (.int .u64 ((2 ^ (i % 64) : Nat) : Int)) ∧ w = w' := by
  have e0 : ((i : Int) % 64).toNat = i % 64 := by omega
  have e1 : IntKind.u64.wrap (1 * 2 ^ ((i : Int) % 64).toNat) = ((2 ^ (i % 64) : Nat) : Int) := by
    have hp := pow_lt64 (j := i % 64) (by omega)
    rw [e0, Int.one_mul, show (2 : Int) ^ (i % 64) = ((2 ^ (i % 64) : Nat) : Int) from by simp]
    generalize 2 ^ (i % 64) = p at hp
    rw [IntWalk.u64_in _ ⟨by omega, by omega⟩]
  have e2 : IntKind.u64.wrap (2 ^ ((i : Int) % 64).toNat) = ((2 ^ (i % 64) : Nat) : Int) := by rw [← e1, Int.one_mul]
  have h0 : (0 : Int) ≤ (i : Int) % 64 := by omega
  have h1 : (i : Int) % 64 ≤ 64 := by omega
  generalize ((2 ^ (i % 64) : Nat) : Int) = B at e1 e2 ⊢
  clear e0
  go_enter Tryd.func78, Tryd.ntmps78
  go_wp2
  go_ret
  exact ⟨by first | rfl | rw [e2] | rw [e1], rfl⟩

set_option maxRecDepth 100000 in
theorem has_any (X g a m : Nat) (i : Int) (w : World) (h : w.heap[X]? = some (.cells (mapCs g a m) 114 (0, 0))) : Calls Tryd.prog 76 #[.pointer (some ⟨X, 0, none⟩), .int .i64 i] w fun e w' => e = .returned (.bool (inB i m)) ∧ w = w' := by
  obtain ⟨_, _, c2⟩ := map_cells h
  clear h
  unfold inB
  by_cases h : 0 ≤ i
  · by_cases h2 : i < m
    · rw [show (decide (0 ≤ i) && decide (i < m)) = true from by simp [h, h2]]
      have d1 : decide (0 ≤ i) = true := by simpa using h
      have d2 : decide (i < (m : Int)) = true := by simpa using h2
      go_enter Tryd.func76, Tryd.ntmps76
      go_wp2
      go_ret
      exact ⟨rfl, rfl⟩
    · rw [show (decide (0 ≤ i) && decide (i < m)) = false from by simp [h2]]
      have d1 : decide (0 ≤ i) = true := by simpa using h
      have d2 : decide (i < (m : Int)) = false := by simpa using h2
      go_enter Tryd.func76, Tryd.ntmps76
      go_wp2
      go_ret
      exact ⟨rfl, rfl⟩
  · rw [show (decide (0 ≤ i) && decide (i < m)) = false from by simp [h]]
    have d1 : decide (0 ≤ i) = false := by simpa using h
    go_enter Tryd.func76, Tryd.ntmps76
    go_wp2
    go_ret
    exact ⟨rfl, rfl⟩

theorem own_any (X g a m n : Nat) (w : World) (h : w.heap[X]? = some (.cells (mapCs g a m) 114 (0, 0))) (hm : m ≤ 64000000) (hn : n * 64 < m) : Calls Tryd.prog 73 #[.pointer (some ⟨X, 0, none⟩), .int .i64 (n : Int)] w fun e w' => e = .returned (.int .u64 ((ownM m n : Nat) : Int)) ∧ w = w' := by
  obtain ⟨_, _, c2⟩ := map_cells h
  clear h
  have e0 : IntKind.i64.wrap ((n : Int) + 1) = (n : Int) + 1 := IntWalk.i64_in _ ⟨by omega, by omega⟩
  have e1 : IntKind.i64.wrap (((n : Int) + 1) * 64) = ((n : Int) + 1) * 64 := IntWalk.i64_in _ ⟨by omega, by omega⟩
  have e2 : IntKind.i64.wrap (((n : Int) + 1) * 64 - (m : Int)) = ((n : Int) + 1) * 64 - (m : Int) := IntWalk.i64_in _ ⟨by omega, by omega⟩
  by_cases hb : (n + 1) * 64 ≤ m
  · have ho : ownM m n = 18446744073709551615 := by unfold ownM; rw [show (n + 1) * 64 - m = 0 from by omega]
    have d1 : decide (((n : Int) + 1) * 64 - (m : Int) ≤ 0) = true := by simp; omega
    have d2 : ((n : Int) + 1) * 64 - (m : Int) ≤ 0 := by omega
    rw [ho]
    go_enter Tryd.func73, Tryd.ntmps73
    go_wp2
    go_ret
    exact ⟨rfl, rfl⟩
  · obtain ⟨b, hbe⟩ : ∃ b : Nat, ((n : Int) + 1) * 64 - (m : Int) = (b : Int) := ⟨(n + 1) * 64 - m, by omega⟩
    have hb1 : (n + 1) * 64 - m = b := by omega
    have hb0 : (0 : Int) ≤ (b : Int) := by omega
    have hb2 : (b : Int) ≤ 64 := by omega
    have hb3 : ¬ (b : Int) ≤ 0 := by omega
    have ho : Hid (((ownM m n : Nat) : Int) = 18446744073709551615 / 2 ^ b) := Lib.hid (by unfold ownM; rw [hb1]; simp)
    rw [ho.out]
    rw [hbe] at e2
    go_enter Tryd.func73, Tryd.ntmps73
    go_wp2
    go_ret
    exact ⟨by first | rfl | simp, rfl⟩
end Go.Proofs.YtdblgnccjpjabaaDoor
