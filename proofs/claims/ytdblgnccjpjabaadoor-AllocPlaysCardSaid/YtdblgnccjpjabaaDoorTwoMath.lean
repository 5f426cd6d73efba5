/- BitmapTwo: plain mathematics. -/
import Derived.Test.YtdblgnccjpjabaaDoorBitI
-- OPTIONAL
namespace Go.Proofs.YtdblgnccjpjabaaDoor
open Go.RowKit Go.Grommet

/-- Writes of places below b alone are fewer. -/
theorem few_below {m b : Nat} {L : List (Nat × Nat)} (hW : Wl m L) (hb : ∀ p ∈ L, p.1 < b) : L.length ≤ b := by
  -- as many places below b are put as there are writes
  have key : ∀ (M : List (Nat × Nat)), (∀ p ∈ M, p.1 < b) → (∀ i j, i < M.length → j < M.length → (M.getD i (0, 0)).1 = (M.getD j (0, 0)).1 → i = j) → cntF (fun a => (fidx M a).isSome) b = M.length := by
    intro M
    induction M with
    | nil => intro _ _; exact cntF_none b
    | cons p t ih =>
      intro h1 h2
      have ht := ih (fun q hq => h1 q (by simp [hq])) (fun i j hi hj e => by have := h2 (i + 1) (j + 1) (by simpa using hi) (by simpa using hj) (by simpa using e); omega)
      have hno : fidx t p.1 = none := fidx_of_not (fun q hq => by
        obtain ⟨i, hi, rfl⟩ := List.getElem_of_mem hq
        intro e
        have := h2 (i + 1) 0 (by simpa using hi) (by simp) (by simpa [hi] using e)
        omega)
      have := cntF_turn (f := fun a => (fidx t a).isSome) (g := fun a => (fidx (p :: t) a).isSome) (k := p.1) (fun i hi => by
        show (fidx (p :: t) i).isSome = (fidx t i).isSome
        rw [fidx, if_neg (fun e => hi e.symm)]
        cases fidx t i <;> rfl) b (h1 p (by simp))
      have e1 : (fidx (p :: t) p.1).isSome = true := by rw [fidx, if_pos rfl]; rfl
      simp only [hno, e1] at this
      rw [List.length_cons, ← ht]
      simpa using this
  have h := key L hb hW.one
  rw [← h]
  exact cntF_le _ _
theorem putL_below {b : Nat} {L : List (Nat × Nat)} {a v : Nat} (hb : ∀ p ∈ L, p.1 < b) (ha : a < b) : ∀ p ∈ putL L a v, p.1 < b := by
  intro p hp
  unfold putL at hp
  split at hp
  · rcases List.mem_or_eq_of_mem_set hp with h | rfl
    · exact hb p h
    · exact ha
  · split at hp
    · exact hb p hp
    · rcases List.mem_append.1 hp with h | h
      · exact hb p h
      · obtain rfl : p = (a, v) := by simpa using h
        exact ha
theorem setMI_below {xs : List Nat} {L : List (Nat × Nat)} {a m b : Nat} {i : Int} {is : Bool} (hb : ∀ p ∈ L, p.1 < b) (ha : ∀ j : Nat, j < m → a + j / 64 < b) : ∀ p ∈ setMI xs L a m i is, p.1 < b := by
  unfold setMI
  split
  · rename_i h
    unfold inB at h
    unfold putI
    split
    · rw [Int.toNat_natCast]
      exact putL_below hb (ha _ (by simp at h; omega))
    · exact hb
  · exact hb
theorem got_beyond {xs : List Nat} {L : List (Nat × Nat)} {b : Nat} (hb : ∀ p ∈ L, p.1 < b) (a : Nat) (ha : b ≤ a) : gotV xs L a = xs.getD a 0 := by
  unfold gotV
  rw [fidx_of_not (fun p hp => by have := hb p hp; omega)]
/-- A shorter map's answer, by a longer one's. -/
theorem clr_shorter {f : Nat → Bool} {n m : Nat} (hn : n ≤ m) {p q : Int} {so too : Bool} (h1 : ClrR f n p so) (h2 : ClrR f m q too) : so = (too && decide (q < (n : Int))) ∧ (so = true → p = q) := by
  rcases h1 with ⟨rfl, i, rfl, hi, hf, hl⟩ | ⟨rfl, rfl, hl⟩ <;> rcases h2 with ⟨rfl, i', rfl, hi', hf', hl'⟩ | ⟨rfl, rfl, hl'⟩
  · obtain rfl : i = i' := by
      rcases Nat.lt_trichotomy i i' with e | e | e
      · rw [hl' i e] at hf; cases hf
      · exact e
      · rw [hl i' e] at hf'; cases hf'
    exact ⟨by simp; omega, fun _ => rfl⟩
  · rw [hl' i (by omega)] at hf; cases hf
  · refine ⟨?_, fun h => by cases h⟩
    rcases Nat.lt_or_ge i' n with e | e
    · rw [hl i' e] at hf'; cases hf'
    · simp; omega
  · exact ⟨rfl, fun h => by cases h⟩
end Go.Proofs.YtdblgnccjpjabaaDoor
