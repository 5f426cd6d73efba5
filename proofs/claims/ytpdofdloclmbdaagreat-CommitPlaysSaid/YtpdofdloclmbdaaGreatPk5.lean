/- Texts of ours, packed. -/
import Derived.Test.YtpdofdloclmbdaaGreatPk3
import Derived.Test.YtpdofdloclmbdaaGreatPk4
section
/- Package record: plain mathematics. -/
namespace Go.Grommet

/-- A record's words but the last one, and all of them. -/
def flatR : List (Int × Nat) → List Nat
  | [] => []
  | p :: t => p.1.toNat :: p.2 :: flatR t
def bodyR (M : List (Int × Nat)) : List Nat := M.length :: flatR M
def recR (M : List (Int × Nat)) : List Nat := bodyR M ++ [sumN (bodyR M)]
theorem flatR_length : ∀ M : List (Int × Nat), (flatR M).length = 2 * M.length
  | [] => rfl
  | p :: t => by simp [flatR, flatR_length t]; omega
theorem flatR_append : ∀ L M : List (Int × Nat), flatR (L ++ M) = flatR L ++ flatR M
  | [], M => rfl
  | p :: t, M => by simp [flatR, flatR_append t M]
theorem bodyR_length (M : List (Int × Nat)) : (bodyR M).length = 1 + 2 * M.length := by simp [bodyR, flatR_length]; omega
theorem recR_length (M : List (Int × Nat)) : (recR M).length = 2 + 2 * M.length := by simp [recR, bodyR_length]; omega
theorem recR_small {M : List (Int × Nat)} (h1 : ∀ p ∈ M, p.1 ≤ 9223372036854775807 ∧ p.2 < 18446744073709551616) (hl : M.length ≤ 96) : ∀ n ∈ recR M, n < 18446744073709551616 := by
  have hf : ∀ L : List (Int × Nat), (∀ p ∈ L, p.1 ≤ 9223372036854775807 ∧ p.2 < 18446744073709551616) → ∀ n ∈ flatR L, n < 18446744073709551616 := by
    intro L
    induction L with
    | nil => intro _ n hn; simp [flatR] at hn
    | cons p t ih =>
      intro h n hn
      simp only [flatR, List.mem_cons] at hn
      have := h p (by simp)
      rcases hn with rfl | rfl | hn
      · omega
      · omega
      · exact ih (fun q hq => h q (by simp [hq])) n hn
  intro n hn
  unfold recR bodyR at hn
  simp only [List.mem_append, List.mem_cons, List.not_mem_nil, or_false] at hn
  rcases hn with (rfl | hn) | rfl
  · omega
  · exact hf M h1 n hn
  · exact sumN_lt _

/-- May words be cut to a record? How many writes. -/
def cutB (xs : List Nat) : Bool := decide (0 < xs.length ∧ xs.getD 0 0 ≤ 96 ∧ 2 + 2 * xs.getD 0 0 ≤ xs.length)
/-- A word as a number that has a sign. -/
def si (v : Nat) : Int := if v < 9223372036854775808 then (v : Int) else (v : Int) - 18446744073709551616
def writesR (xs : List Nat) (n : Nat) : List (Int × Nat) := (List.range n).map fun i => (si (xs.getD (1 + 2 * i) 0), xs.getD (2 + 2 * i) 0)
theorem writesR_length (xs : List Nat) (n : Nat) : (writesR xs n).length = n := by simp [writesR]
theorem writesR_succ (xs : List Nat) (n : Nat) : writesR xs (n + 1) = writesR xs n ++ [(si (xs.getD (1 + 2 * n) 0), xs.getD (2 + 2 * n) 0)] := by
  unfold writesR; rw [List.range_succ, List.map_append]; rfl

/-- May a word be written? May writes be? -/
def standB (a b c x : Int) : Bool := decide ((whereV a b c x).1 ≠ 0 ∧ (whereV a b c x).1 ≠ 1 ∧ (whereV a b c x).1 ≠ 5)
def preB (a b c : Int) (M : List (Int × Nat)) (k : Nat) : Prop := ∀ i, i < k → standB a b c (M.getD i (0, 0)).1 = true ∧ ∀ j, j < i → (M.getD j (0, 0)).1 ≠ (M.getD i (0, 0)).1
instance (a b c : Int) (M : List (Int × Nat)) (k : Nat) : Decidable (preB a b c M k) := by unfold preB; infer_instance
def mayW (a b c : Int) (M : List (Int × Nat)) : Bool := decide (M.length ≤ 96 ∧ mayB a b c = true ∧ preB a b c M M.length)
/-- What is read. -/
def readB (a b c : Int) (xs : List Nat) : Bool := cutB xs && decide (xs.getD (1 + 2 * xs.getD 0 0) 0 = sumN (xs.take (1 + 2 * xs.getD 0 0))) && mayW a b c (writesR xs (xs.getD 0 0))
/-- The commit word. -/
def markV (xs : List Nat) : Nat := if cutB xs = true then (xs.getD (1 + 2 * xs.getD 0 0) 0 * 65536 + xs.getD 0 0 * 256 + 1) % 18446744073709551616 else 0
end Go.Grommet
end
section
/- Package record: what was recorded is read again. -/
namespace Go.Grommet

structure Fine (M : List (Int × Nat)) : Prop where
  at_ : ∀ p ∈ M, 0 ≤ p.1 ∧ p.1 ≤ 9223372036854775807
  val : ∀ p ∈ M, p.2 < 18446744073709551616
  few : M.length ≤ 96

section
variable {M : List (Int × Nat)} {xs : List Nat}

/-- Words that begin as a record does, but for what stands between its ends. -/
structure Begins (xs : List Nat) (n s : Nat) : Prop where
  head : xs.getD 0 0 = n
  last : xs.getD (1 + 2 * n) 0 = s
  long : 2 + 2 * n ≤ xs.length
theorem Begins.cut {n s : Nat} (h : Begins xs n s) (hn : n ≤ 96) : cutB xs = true := by
  unfold cutB
  rw [decide_eq_true_eq, h.head]
  have := h.long
  omega
theorem Begins.mark {n s : Nat} (h : Begins xs n s) (hn : n ≤ 96) : markV xs = (s * 65536 + n * 256 + 1) % 18446744073709551616 := by
  unfold markV
  rw [if_pos (h.cut hn), h.head, h.last]
theorem Begins.set {n s : Nat} (h : Begins xs n s) (k v : Nat) (h0 : k ≠ 0) (h1 : k ≠ 1 + 2 * n) : Begins (xs.set k v) n s where
  head := by have := h.head; rw [List.getD_eq_getElem?_getD] at this ⊢; rw [List.getElem?_set_ne h0]; exact this
  last := by have := h.last; rw [List.getD_eq_getElem?_getD] at this ⊢; rw [List.getElem?_set_ne h1]; exact this
  long := by rw [List.length_set]; exact h.long

end
end Go.Grommet
end
