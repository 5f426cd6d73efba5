/- strings.Builder as path.Join uses it: what its methods leave behind. -/
import Derived.Test.YtljcmlcdamlbcaaApp
import Derived.Test.YtljcmlcdamlbcaaPatN
import Derived.Lib.Builder
namespace Go.Proofs.Ytljcmlcdamlbcaa
open Go.RowKit Go.Grommet

/-- A builder in block B that holds n bytes, in a row of its own. -/
def BldS (B n : Nat) (w : World) : Prop :=
  ∃ (p : Value) (ad : Option Addr) (cap : Nat) (xs : List Value), (p = .pointer none ∨ p = .pointer (some ⟨B, 0, none⟩)) ∧
    w.heap[B]? = some (.cells #[p, .slice ad n cap] 53 (0, 0)) ∧ w.ownsRow (B + 1) 5 1 (.slice ad n cap) n xs
def BldP (B n : Nat) (w : World) : Prop :=
  ∃ (ad : Option Addr) (cap : Nat) (xs : List Value),
    w.heap[B]? = some (.cells #[.pointer (some ⟨B, 0, none⟩), .slice ad n cap] 53 (0, 0)) ∧ w.ownsRow (B + 1) 5 1 (.slice ad n cap) n xs

theorem bld_size : (Try.prog.info? 53).map (·.size) = some 2 := by kernel_rfl
theorem bld_lies : liesAt Try.prog Try.prog.depth 53 (2 / Try.prog.cellsOf 53) 0 53 1 = true := by kernel_rfl

set_option maxRecDepth 100000 in
set_option maxHeartbeats 1000000 in
theorem check_used (B : Nat) (w : World) (h0 : w.cell? ⟨B, 0, none⟩ = some (.pointer (some ⟨B, 0, none⟩))) :
    Calls Try.prog 37 #[.pointer (some ⟨B, 0, none⟩)] w fun e w' => e = .returned (.tuple #[]) ∧ w' = w := by
  obtain ⟨j, hj, hj1⟩ := Option.map_eq_some_iff.1 bld_size
  go_enter Try.func37, Try.ntmps37
  go_wp2
  rw [Lib.run_neq_ptr_same w _ Try.underlying50 hj]
  go_wp2
  go_end0
  exact ⟨rfl, rfl⟩

set_option maxRecDepth 100000 in
set_option maxHeartbeats 1000000 in
theorem check_fresh (B : Nat) (v : Value) (w : World) (hb : w.heap[B]? = some (.cells #[.pointer none, v] 53 (0, 0))) :
    Calls Try.prog 37 #[.pointer (some ⟨B, 0, none⟩)] w fun e w' => e = .returned (.tuple #[]) ∧ w' = w.setCell ⟨B, 0, none⟩ (.pointer (some ⟨B, 0, none⟩)) := by
  obtain ⟨j, hj, hj1⟩ := Option.map_eq_some_iff.1 bld_size
  have h0 : w.cell? ⟨B, 0, none⟩ = some (.pointer none) := by simp [World.cell?, hb]
  have hfz : w.frozen? ⟨B, 0, none⟩ = false := by simp [World.frozen?, hb]
  have hsh : w.shape? B = some (53, 2) := by simp [World.shape?, hb]
  go_enter Try.func37, Try.ntmps37
  go_wp2
  rw [Lib.run_to_unsafe w ⟨B, 0, none⟩ Try.underlying50 Try.underlying93 hj (by rw [hj1]; decide) hsh (Nat.zero_lt_succ 1)]
  simp only [Result.andThen]
  rw [Oper.upon_value]
  go_wp2
  rw [run_callFunc_extern Try.func48 (by kernel_rfl) (by kernel_rfl) (by kernel_rfl) (e := Extern.AbiNoEscape.same) (by kernel_rfl)]
  rw [Lib.run_noEscape]
  simp only [Result.andThen]
  rw [Oper.upon_value]
  go_wp2
  rw [Lib.run_from_unsafe w ⟨B, 0, none⟩ Try.underlying93 Try.underlying50 hj hsh bld_lies]
  simp only [Result.andThen]
  rw [Oper.upon_value]
  go_wp2
  go_end0
  exact ⟨rfl, rfl⟩
end Go.Proofs.Ytljcmlcdamlbcaa
