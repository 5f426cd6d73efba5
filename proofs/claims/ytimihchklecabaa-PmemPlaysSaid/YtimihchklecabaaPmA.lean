/- Package pmem: its plain functions. -/
import Derived.Test.YtimihchklecabaaRows
import Derived.Test.YtimihchklecabaaMarks
import Derived.BigQuiet
import Derived.Deep.QuietTactic
namespace Go.Proofs.Ytimihchklecabaa
open Go.RowKit Go.Grommet

/-- A device of these words. -/
structure DevIs (w : World) (d g : Nat) (ws : List PW) : Prop where
  dev : w.heap[d]? = some (.cells #[.slice (some ⟨g, 0, none⟩) ws.length ws.length] 61 (0, 0))
  row : w.heap[g]? = some (.cells (flat ws).toArray 69 (0, 0))
  ne : d ≠ g
  fits : ws.length ≤ 65536
  small : ∀ c ∈ ws, c.Small

def ptr (d : Nat) : Value := .pointer (some ⟨d, 0, none⟩)
def wordAt (g k : Nat) : Value := .pointer (some ⟨g, k * 6, none⟩)

theorem Words_any (w : World) (d g : Nat) (ws : List PW) (h : DevIs w d g ws) : Calls Try.prog 27 #[ptr d] w fun e w' => e = .returned (.int .i64 (ws.length : Int)) ∧ w' = w := by
  have c1 : w.cell? ⟨d, 0, none⟩ = some (.slice (some ⟨g, 0, none⟩) ws.length ws.length) := by simp [World.cell?, h.dev]
  unfold ptr
  generalize ws.length = n at c1
  clear h
  go_enter Try.func27, Try.ntmps27
  go_wp2
  go_ret
  exact ⟨rfl, rfl⟩

theorem lines_any (w : World) (d g : Nat) (ws : List PW) (h : DevIs w d g ws) : Calls Try.prog 35 #[ptr d] w fun e w' => e = .returned (.int .i64 ((ws.length / 8 : Nat) : Int)) ∧ w' = w := by
  have HW := Lib.hid (Words_any w d g ws h)
  have hf := h.fits
  unfold ptr at HW ⊢
  generalize ws.length = n at HW hf
  have hd : Int.tdiv (n : Int) 8 = ((n / 8 : Nat) : Int) := by
    rw [Int.tdiv_eq_ediv_of_nonneg (by omega)]; omega
  have hwr : IntKind.i64.wrap ((n / 8 : Nat) : Int) = ((n / 8 : Nat) : Int) := IntWalk.i64_in _ ⟨by omega, by omega⟩
  clear h
  go_enter Try.func35, Try.ntmps35
  go_wp2_with fail
  refine HW.out.mono ?_
  rintro e w1 ⟨rfl, rfl⟩
  go_wp2
  go_ret
  refine ⟨?_, rfl⟩
  go_num

/-- What is wrong with a number. -/
def hasE (at_ : Int) (many : Nat) : Nat := if at_ < 0 ∨ (many : Int) ≤ at_ then 8 else 0
theorem has_any (w : World) (d : Nat) (at_ : Int) (many : Nat) : Calls Try.prog 34 #[ptr d, .int .i64 at_, .int .i64 (many : Int)] w fun e w' => e = .returned (.int .i64 (hasE at_ many : Int)) ∧ w' = w := by
  unfold ptr
  go_enter Try.func34, Try.ntmps34
  by_cases h1 : at_ < 0
  · have HE := Lib.hid (show hasE at_ many = 8 by unfold hasE; rw [if_pos (.inl h1)])
    go_wp2
    go_ret
    exact ⟨by rw [HE.out]; rfl, rfl⟩
  · by_cases h2 : (many : Int) ≤ at_
    · have HE := Lib.hid (show hasE at_ many = 8 by unfold hasE; rw [if_pos (.inr h2)])
      have h3 : 0 ≤ at_ := by omega
      go_wp2
      go_ret
      exact ⟨by rw [HE.out]; rfl, rfl⟩
    · have HE := Lib.hid (show hasE at_ many = 0 by unfold hasE; rw [if_neg (by omega)])
      have h3 : 0 ≤ at_ := by omega
      have h4 : at_ < (many : Int) := by omega
      go_wp2
      go_ret
      exact ⟨by rw [HE.out]; rfl, rfl⟩
end Go.Proofs.Ytimihchklecabaa
