/- Texts of ours, packed. -/
import Derived.Lib.SlicesCompact
section
/- Lines, sorted, each once. -/
namespace Go.Grommet

/-- Two rising lists of the same members are one. -/
theorem rising_eq : ∀ (xs ys : List Int), xs.Pairwise (· < ·) → ys.Pairwise (· < ·) → (∀ x, x ∈ xs ↔ x ∈ ys) → xs = ys
  | [], [], _, _, _ => rfl
  | [], y :: ys, _, _, h => absurd ((h y).2 (List.mem_cons_self ..)) (by simp)
  | x :: xs, [], _, _, h => absurd ((h x).1 (List.mem_cons_self ..)) (by simp)
  | x :: xs, y :: ys, hx, hy, h => by
    rw [List.pairwise_cons] at hx hy
    have e : x = y := by
      have h1 := (h x).1 (List.mem_cons_self ..)
      have h2 := (h y).2 (List.mem_cons_self ..)
      rcases List.mem_cons.1 h1 with e | e
      · exact e
      · rcases List.mem_cons.1 h2 with e' | e'
        · exact e'.symm
        · have := hy.1 x e
          have := hx.1 y e'
          omega
    subst e
    congr 1
    refine rising_eq xs ys hx.2 hy.2 (fun z => ?_)
    constructor
    · intro hz
      rcases List.mem_cons.1 ((h z).1 (List.mem_cons_of_mem _ hz)) with e | e
      · have := hx.1 z hz; omega
      · exact e
    · intro hz
      rcases List.mem_cons.1 ((h z).2 (List.mem_cons_of_mem _ hz)) with e | e
      · have := hy.1 z hz; omega
      · exact e
theorem get_bang {d : Array Int} {j : Nat} (h : j < d.size) : d[j]! = d[j] := by simp [h]
/-- What compact makes of a row that doesn't fall. -/
theorem compact_rising (zs : List Int) (h : zs.Pairwise (· ≤ ·)) : (Lib.compact zs).Pairwise (· < ·) := by
  unfold Lib.compact Lib.compactUpTo
  have hle : ∀ i j, i ≤ j → j < zs.length → zs.toArray[i]! ≤ zs.toArray[j]! := by
    intro i j hij hj
    rcases Nat.lt_or_eq_of_le hij with hlt | rfl
    · have := (List.pairwise_iff_getElem.1 h) i j (by omega) hj hlt
      simpa [get_bang (d := zs.toArray) (j := i) (by simpa using (by omega : i < zs.length)), get_bang (d := zs.toArray) (j := j) (by simpa using hj)] using this
    · exact Int.le_refl _
  rw [List.pairwise_map]
  have h1 : (List.range zs.length).Pairwise (· < ·) := List.pairwise_lt_range
  have h2 : ((List.range zs.length).filter (Lib.keeps zs.toArray)).Pairwise (· < ·) := List.Pairwise.filter _ h1
  refine List.Pairwise.imp_of_mem ?_ h2
  intro i j hi hj hij
  have hj' := (List.mem_filter.1 hj)
  have hjl := List.mem_range.1 hj'.1
  have hk : j = 0 ∨ zs.toArray[j]! ≠ zs.toArray[j - 1]! := by simpa [Lib.keeps] using hj'.2
  have hne : zs.toArray[j]! ≠ zs.toArray[j - 1]! := by
    rcases hk with e | e
    · omega
    · exact e
  have h3 := hle i (j - 1) (by omega) (by omega)
  have h4 := hle (j - 1) j (by omega) hjl
  omega
theorem compact_mem (zs : List Int) (x : Int) : x ∈ Lib.compact zs ↔ x ∈ zs := by
  unfold Lib.compact Lib.compactUpTo
  constructor
  · intro h
    obtain ⟨j, hj, rfl⟩ := List.mem_map.1 h
    have hjl := List.mem_range.1 (List.mem_filter.1 hj).1
    rw [get_bang (by simpa using hjl)]
    simp
  · intro h
    have key : ∀ j, j < zs.length → zs.toArray[j]! = x → ∃ i, i < zs.length ∧ zs.toArray[i]! = x ∧ Lib.keeps zs.toArray i = true := by
      intro j
      induction j with
      | zero => intro hj e; exact ⟨0, hj, e, by simp [Lib.keeps]⟩
      | succ j ih =>
        intro hj e
        by_cases hk : zs.toArray[j + 1]! ≠ zs.toArray[j + 1 - 1]!
        · exact ⟨j + 1, hj, e, by unfold Lib.keeps; exact decide_eq_true (.inr hk)⟩
        · refine ih (by omega) ?_
          have : zs.toArray[j + 1]! = zs.toArray[j]! := by
            have := Classical.not_not.1 hk
            simpa using this
          rw [← this]; exact e
    obtain ⟨j, hj, e⟩ := List.getElem_of_mem h
    obtain ⟨i, hi, e2, hk⟩ := key j hj (by rw [get_bang (by simpa using hj)]; simpa using e)
    exact List.mem_map.2 ⟨i, List.mem_filter.2 ⟨List.mem_range.2 hi, hk⟩, e2⟩
theorem compact_len (zs : List Int) : (Lib.compact zs).length ≤ zs.length := by
  unfold Lib.compact Lib.compactUpTo
  rw [List.length_map]
  have := List.length_filter_le (Lib.keeps zs.toArray) (List.range zs.length)
  simpa using this

/-- The lines that places are in, rising. -/
def linesOf (M : Nat) (ps : List Nat) : List Nat := (List.range M).filter (fun x => ps.any (fun p => p / 8 == x))
theorem lines_mem {M : Nat} {ps : List Nat} {x : Nat} : x ∈ linesOf M ps ↔ x < M ∧ ∃ p ∈ ps, p / 8 = x := by
  simp [linesOf]
theorem lines_rising (M : Nat) (ps : List Nat) : (linesOf M ps).Pairwise (· < ·) := List.Pairwise.filter _ List.pairwise_lt_range
/-- .. as sort and compact make them. -/
theorem lines_sorted (M : Nat) (ps : List Nat) (h : ∀ p ∈ ps, p / 8 < M) :
    Lib.compact ((ps.map (fun p => ((p / 8 : Nat) : Int))).mergeSort (fun x y => decide (x ≤ y))) = (linesOf M ps).map (fun l : Nat => (l : Int)) := by
  have hs : ((ps.map (fun p => ((p / 8 : Nat) : Int))).mergeSort (fun x y => decide (x ≤ y))).Pairwise (· ≤ ·) := by
    have := List.pairwise_mergeSort (le := fun (x y : Int) => decide (x ≤ y)) (fun a b c h1 h2 => by simp at *; omega) (fun a b => by simp; omega) (ps.map (fun p => ((p / 8 : Nat) : Int)))
    exact this.imp (fun h => by simpa using h)
  refine rising_eq _ _ (compact_rising _ hs) ?_ ?_
  · rw [List.pairwise_map]
    exact (lines_rising M ps).imp (fun h => by omega)
  · intro x
    rw [compact_mem, List.mem_mergeSort]
    constructor
    · intro hx
      obtain ⟨p, hp, rfl⟩ := List.mem_map.1 hx
      exact List.mem_map.2 ⟨p / 8, lines_mem.2 ⟨h p hp, p, hp, rfl⟩, rfl⟩
    · intro hx
      obtain ⟨l, hl, rfl⟩ := List.mem_map.1 hx
      obtain ⟨_, p, hp, e⟩ := lines_mem.1 hl
      exact List.mem_map.2 ⟨p, hp, by rw [e]⟩
end Go.Grommet
end
