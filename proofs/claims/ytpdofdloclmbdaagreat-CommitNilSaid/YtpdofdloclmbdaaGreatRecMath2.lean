/- Package record: what was recorded is read again. -/
import Derived.Test.YtpdofdloclmbdaaGreatRecMath
namespace Go.Grommet

structure Fine (M : List (Int × Nat)) : Prop where
  at_ : ∀ p ∈ M, 0 ≤ p.1 ∧ p.1 ≤ 9223372036854775807
  val : ∀ p ∈ M, p.2 < 18446744073709551616
  few : M.length ≤ 96

theorem getD_left {α : Type} (L B : List α) (i : Nat) (d : α) (h : i < L.length) : (L ++ B).getD i d = L.getD i d := by
  simp [List.getElem?_append_left h]

section
variable {M : List (Int × Nat)} {xs : List Nat}

/-- Words that begin as a record does, but for what stands between its ends. -/
structure Begins (xs : List Nat) (n s : Nat) : Prop where
  head : xs.getD 0 0 = n
  last : xs.getD (1 + 2 * n) 0 = s
  long : 2 + 2 * n ≤ xs.length
theorem Begins.cut {n s : Nat} (h : Begins xs n s) (hn : n ≤ 96) : cutB xs = true := by
  unfold cutB
  rw [decide_eq_true_eq, h.head]
  have := h.long
  omega
theorem Begins.mark {n s : Nat} (h : Begins xs n s) (hn : n ≤ 96) : markV xs = (s * 65536 + n * 256 + 1) % 18446744073709551616 := by
  unfold markV
  rw [if_pos (h.cut hn), h.head, h.last]
theorem recR_begins (M : List (Int × Nat)) (B : List Nat) : Begins (recR M ++ B) M.length (sumN (bodyR M)) where
  head := by rw [getD_left _ _ _ _ (by rw [recR_length]; omega), recR_head]
  last := by rw [getD_left _ _ _ _ (by rw [recR_length]; omega), recR_last]
  long := by rw [List.length_append, recR_length]; omega
theorem Begins.set {n s : Nat} (h : Begins xs n s) (k v : Nat) (h0 : k ≠ 0) (h1 : k ≠ 1 + 2 * n) : Begins (xs.set k v) n s where
  head := by have := h.head; rw [List.getD_eq_getElem?_getD] at this ⊢; rw [List.getElem?_set_ne h0]; exact this
  last := by have := h.last; rw [List.getD_eq_getElem?_getD] at this ⊢; rw [List.getElem?_set_ne h1]; exact this
  long := by rw [List.length_set]; exact h.long

theorem recR_at {i : Nat} (h : i < M.length) (B : List Nat) : (recR M ++ B).getD (1 + 2 * i) 0 = (M.getD i (0, 0)).1.toNat ∧ (recR M ++ B).getD (2 + 2 * i) 0 = (M.getD i (0, 0)).2 := by
  have hf := flatR_at M i h
  have hl := flatR_length M
  rw [getD_left _ _ _ _ (by rw [recR_length]; omega), getD_left _ _ _ _ (by rw [recR_length]; omega)]
  unfold recR
  rw [getD_left _ _ _ _ (by rw [bodyR_length]; omega), getD_left _ _ _ _ (by rw [bodyR_length]; omega)]
  unfold bodyR
  rw [show 1 + 2 * i = 2 * i + 1 from by omega, show 2 + 2 * i = 2 * i + 1 + 1 from by omega]
  rw [List.getD_cons_succ, List.getD_cons_succ]
  refine ⟨?_, ?_⟩
  · rw [List.getD_eq_getElem?_getD (l := flatR M), hf.1]; rfl
  · rw [List.getD_eq_getElem?_getD (l := flatR M), hf.2]; rfl

theorem si_toNat {x : Int} (h0 : 0 ≤ x) (h1 : x ≤ 9223372036854775807) : si x.toNat = x := by
  unfold si
  rw [if_pos (by omega)]
  omega

theorem writes_back (hF : Fine M) (B : List Nat) : writesR (recR M ++ B) M.length = M := by
  apply List.ext_getElem?
  intro i
  by_cases h2 : i < M.length
  · obtain ⟨e1, e2⟩ := recR_at (B := B) h2
    have hm := hF.at_ M[i] (List.getElem_mem h2)
    have hg : M.getD i (0, 0) = M[i] := by simp [h2]
    unfold writesR
    rw [List.getElem?_map, List.getElem?_range h2, Option.map_some, e1, e2, hg, si_toNat hm.1 hm.2, List.getElem?_eq_getElem h2]
  · rw [List.getElem?_eq_none (by rw [writesR_length]; omega), List.getElem?_eq_none (by omega)]

theorem read_back (hF : Fine M) (B : List Nat) (a b c : Int) : readB a b c (recR M ++ B) = mayW a b c M := by
  have hb := recR_begins M B
  unfold readB
  rw [hb.cut hF.few, hb.head, hb.last, writes_back hF B]
  have ht : (recR M ++ B).take (1 + 2 * M.length) = bodyR M := by
    rw [List.take_append_of_le_length (by rw [recR_length]; omega), recR_take]
  rw [ht, decide_eq_true rfl]
  rfl
end
end Go.Grommet
