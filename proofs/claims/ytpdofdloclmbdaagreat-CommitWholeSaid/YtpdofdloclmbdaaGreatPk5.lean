/- Texts of ours, packed. -/
import Derived.Test.YtpdofdloclmbdaaGreatPk3
import Derived.Test.YtpdofdloclmbdaaGreatPk4
section
/- Package record: plain mathematics. -/
namespace Go.Grommet

/-- A record's words but the last one, and all of them. -/
def flatR : List (Int × Nat) → List Nat
  | [] => []
  | p :: t => p.1.toNat :: p.2 :: flatR t
def bodyR (M : List (Int × Nat)) : List Nat := M.length :: flatR M
def recR (M : List (Int × Nat)) : List Nat := bodyR M ++ [sumN (bodyR M)]
theorem flatR_length : ∀ M : List (Int × Nat), (flatR M).length = 2 * M.length
  | [] => rfl
  | p :: t => by simp [flatR, flatR_length t]; omega
theorem flatR_append : ∀ L M : List (Int × Nat), flatR (L ++ M) = flatR L ++ flatR M
  | [], M => rfl
  | p :: t, M => by simp [flatR, flatR_append t M]
theorem bodyR_length (M : List (Int × Nat)) : (bodyR M).length = 1 + 2 * M.length := by simp [bodyR, flatR_length]; omega
theorem recR_length (M : List (Int × Nat)) : (recR M).length = 2 + 2 * M.length := by simp [recR, bodyR_length]; omega
theorem flatR_at : ∀ (M : List (Int × Nat)) (i : Nat), i < M.length → (flatR M)[2 * i]? = some (M.getD i (0, 0)).1.toNat ∧ (flatR M)[2 * i + 1]? = some (M.getD i (0, 0)).2
  | [], i, h => by simp at h
  | p :: t, 0, _ => by simp [flatR]
  | p :: t, i + 1, h => by
    have := flatR_at t i (by simpa using h)
    rw [show 2 * (i + 1) = 2 * i + 1 + 1 from by omega]
    simpa [flatR] using this
theorem recR_head (M : List (Int × Nat)) : (recR M).getD 0 0 = M.length := by simp [recR, bodyR]
theorem recR_take (M : List (Int × Nat)) : (recR M).take (1 + 2 * M.length) = bodyR M := by
  unfold recR
  rw [List.take_append_of_le_length (by rw [bodyR_length]; omega), List.take_of_length_le (by rw [bodyR_length]; omega)]
theorem recR_last (M : List (Int × Nat)) : (recR M).getD (1 + 2 * M.length) 0 = sumN (bodyR M) := by
  unfold recR
  rw [List.getD_eq_getElem?_getD, List.getElem?_append_right (by rw [bodyR_length]; omega), bodyR_length]
  simp
theorem recR_small {M : List (Int × Nat)} (h1 : ∀ p ∈ M, p.1 ≤ 9223372036854775807 ∧ p.2 < 18446744073709551616) (hl : M.length ≤ 96) : ∀ n ∈ recR M, n < 18446744073709551616 := by
  have hf : ∀ L : List (Int × Nat), (∀ p ∈ L, p.1 ≤ 9223372036854775807 ∧ p.2 < 18446744073709551616) → ∀ n ∈ flatR L, n < 18446744073709551616 := by
    intro L
    induction L with
    | nil => intro _ n hn; simp [flatR] at hn
    | cons p t ih =>
      intro h n hn
      simp only [flatR, List.mem_cons] at hn
      have := h p (by simp)
      rcases hn with rfl | rfl | hn
      · omega
      · omega
      · exact ih (fun q hq => h q (by simp [hq])) n hn
  intro n hn
  unfold recR bodyR at hn
  simp only [List.mem_append, List.mem_cons, List.not_mem_nil, or_false] at hn
  rcases hn with (rfl | hn) | rfl
  · omega
  · exact hf M h1 n hn
  · exact sumN_lt _

/-- May words be cut to a record? How many writes. -/
def cutB (xs : List Nat) : Bool := decide (0 < xs.length ∧ xs.getD 0 0 ≤ 96 ∧ 2 + 2 * xs.getD 0 0 ≤ xs.length)
/-- A word as a number that has a sign. -/
def si (v : Nat) : Int := if v < 9223372036854775808 then (v : Int) else (v : Int) - 18446744073709551616
def writesR (xs : List Nat) (n : Nat) : List (Int × Nat) := (List.range n).map fun i => (si (xs.getD (1 + 2 * i) 0), xs.getD (2 + 2 * i) 0)
theorem writesR_length (xs : List Nat) (n : Nat) : (writesR xs n).length = n := by simp [writesR]
theorem writesR_succ (xs : List Nat) (n : Nat) : writesR xs (n + 1) = writesR xs n ++ [(si (xs.getD (1 + 2 * n) 0), xs.getD (2 + 2 * n) 0)] := by
  unfold writesR; rw [List.range_succ, List.map_append]; rfl

/-- May a word be written? May writes be? -/
def standB (a b c x : Int) : Bool := decide ((whereV a b c x).1 ≠ 0 ∧ (whereV a b c x).1 ≠ 1 ∧ (whereV a b c x).1 ≠ 5)
def preB (a b c : Int) (M : List (Int × Nat)) (k : Nat) : Prop := ∀ i, i < k → standB a b c (M.getD i (0, 0)).1 = true ∧ ∀ j, j < i → (M.getD j (0, 0)).1 ≠ (M.getD i (0, 0)).1
instance (a b c : Int) (M : List (Int × Nat)) (k : Nat) : Decidable (preB a b c M k) := by unfold preB; infer_instance
def mayW (a b c : Int) (M : List (Int × Nat)) : Bool := decide (M.length ≤ 96 ∧ mayB a b c = true ∧ preB a b c M M.length)
/-- What is read. -/
def readB (a b c : Int) (xs : List Nat) : Bool := cutB xs && decide (xs.getD (1 + 2 * xs.getD 0 0) 0 = sumN (xs.take (1 + 2 * xs.getD 0 0))) && mayW a b c (writesR xs (xs.getD 0 0))
def readV (a b c : Int) (xs : List Nat) : List (Int × Nat) := if readB a b c xs = true then writesR xs (xs.getD 0 0) else []
/-- The commit word. -/
def markV (xs : List Nat) : Nat := if cutB xs = true then (xs.getD (1 + 2 * xs.getD 0 0) 0 * 65536 + xs.getD 0 0 * 256 + 1) % 18446744073709551616 else 0
end Go.Grommet
end
section
/- Package record: what was recorded is read again. -/
namespace Go.Grommet

structure Fine (M : List (Int × Nat)) : Prop where
  at_ : ∀ p ∈ M, 0 ≤ p.1 ∧ p.1 ≤ 9223372036854775807
  val : ∀ p ∈ M, p.2 < 18446744073709551616
  few : M.length ≤ 96

theorem getD_left {α : Type} (L B : List α) (i : Nat) (d : α) (h : i < L.length) : (L ++ B).getD i d = L.getD i d := by
  simp [List.getElem?_append_left h]

section
variable {M : List (Int × Nat)} {xs : List Nat}

/-- Words that begin as a record does, but for what stands between its ends. -/
structure Begins (xs : List Nat) (n s : Nat) : Prop where
  head : xs.getD 0 0 = n
  last : xs.getD (1 + 2 * n) 0 = s
  long : 2 + 2 * n ≤ xs.length
theorem Begins.cut {n s : Nat} (h : Begins xs n s) (hn : n ≤ 96) : cutB xs = true := by
  unfold cutB
  rw [decide_eq_true_eq, h.head]
  have := h.long
  omega
theorem Begins.mark {n s : Nat} (h : Begins xs n s) (hn : n ≤ 96) : markV xs = (s * 65536 + n * 256 + 1) % 18446744073709551616 := by
  unfold markV
  rw [if_pos (h.cut hn), h.head, h.last]
theorem recR_begins (M : List (Int × Nat)) (B : List Nat) : Begins (recR M ++ B) M.length (sumN (bodyR M)) where
  head := by rw [getD_left _ _ _ _ (by rw [recR_length]; omega), recR_head]
  last := by rw [getD_left _ _ _ _ (by rw [recR_length]; omega), recR_last]
  long := by rw [List.length_append, recR_length]; omega
theorem Begins.set {n s : Nat} (h : Begins xs n s) (k v : Nat) (h0 : k ≠ 0) (h1 : k ≠ 1 + 2 * n) : Begins (xs.set k v) n s where
  head := by have := h.head; rw [List.getD_eq_getElem?_getD] at this ⊢; rw [List.getElem?_set_ne h0]; exact this
  last := by have := h.last; rw [List.getD_eq_getElem?_getD] at this ⊢; rw [List.getElem?_set_ne h1]; exact this
  long := by rw [List.length_set]; exact h.long

theorem recR_at {i : Nat} (h : i < M.length) (B : List Nat) : (recR M ++ B).getD (1 + 2 * i) 0 = (M.getD i (0, 0)).1.toNat ∧ (recR M ++ B).getD (2 + 2 * i) 0 = (M.getD i (0, 0)).2 := by
  have hf := flatR_at M i h
  have hl := flatR_length M
  rw [getD_left _ _ _ _ (by rw [recR_length]; omega), getD_left _ _ _ _ (by rw [recR_length]; omega)]
  unfold recR
  rw [getD_left _ _ _ _ (by rw [bodyR_length]; omega), getD_left _ _ _ _ (by rw [bodyR_length]; omega)]
  unfold bodyR
  rw [show 1 + 2 * i = 2 * i + 1 from by omega, show 2 + 2 * i = 2 * i + 1 + 1 from by omega]
  rw [List.getD_cons_succ, List.getD_cons_succ]
  refine ⟨?_, ?_⟩
  · rw [List.getD_eq_getElem?_getD (l := flatR M), hf.1]; rfl
  · rw [List.getD_eq_getElem?_getD (l := flatR M), hf.2]; rfl

theorem si_toNat {x : Int} (h0 : 0 ≤ x) (h1 : x ≤ 9223372036854775807) : si x.toNat = x := by
  unfold si
  rw [if_pos (by omega)]
  omega

theorem writes_back (hF : Fine M) (B : List Nat) : writesR (recR M ++ B) M.length = M := by
  apply List.ext_getElem?
  intro i
  by_cases h2 : i < M.length
  · obtain ⟨e1, e2⟩ := recR_at (B := B) h2
    have hm := hF.at_ M[i] (List.getElem_mem h2)
    have hg : M.getD i (0, 0) = M[i] := by simp [h2]
    unfold writesR
    rw [List.getElem?_map, List.getElem?_range h2, Option.map_some, e1, e2, hg, si_toNat hm.1 hm.2, List.getElem?_eq_getElem h2]
  · rw [List.getElem?_eq_none (by rw [writesR_length]; omega), List.getElem?_eq_none (by omega)]

theorem read_back (hF : Fine M) (B : List Nat) (a b c : Int) : readB a b c (recR M ++ B) = mayW a b c M := by
  have hb := recR_begins M B
  unfold readB
  rw [hb.cut hF.few, hb.head, hb.last, writes_back hF B]
  have ht : (recR M ++ B).take (1 + 2 * M.length) = bodyR M := by
    rw [List.take_append_of_le_length (by rw [recR_length]; omega), recR_take]
  rw [ht, decide_eq_true rfl]
  rfl
end
end Go.Grommet
end
