/- Package view: what is seen behind a Put. -/
import Derived.Test.YtdohnfiaiganbaaViewMath
namespace Go.Grommet

theorem flat_get_aux : ∀ (L : List (Nat × Nat)) (xs : List Nat) (a : Nat), (∀ i j, i < L.length → j < L.length → (L.getD i (0, 0)).1 = (L.getD j (0, 0)).1 → i = j) → (∀ p ∈ L, p.1 < xs.length) → a < xs.length → (flatV xs L).getD a 0 = gotV xs L a
  | [], xs, a, _, _, _ => rfl
  | p :: t, xs, a, h1, h2, ha => by
    have ht : ∀ i j, i < t.length → j < t.length → (t.getD i (0, 0)).1 = (t.getD j (0, 0)).1 → i = j := by
      intro i j hi hj e
      have := h1 (i + 1) (j + 1) (by simpa using hi) (by simpa using hj) (by simpa using e)
      omega
    have hp : ∀ i, i < t.length → (t.getD i (0, 0)).1 ≠ p.1 := by
      intro i hi e
      have := h1 (i + 1) 0 (by simpa using hi) (by simp) (by simpa using e)
      omega
    have ih := flat_get_aux t (xs.set p.1 p.2) a ht (fun q hq => by rw [List.length_set]; exact h2 q (by simp [hq])) (by rw [List.length_set]; exact ha)
    have e1 : flatV xs (p :: t) = flatV (xs.set p.1 p.2) t := rfl
    rw [e1, ih]
    unfold gotV
    rw [fidx]
    by_cases hpa : p.1 = a
    · rw [if_pos hpa]
      have hno : fidx t a = none := fidx_of_not (fun q hq => by
        obtain ⟨i, hi, rfl⟩ := List.getElem_of_mem hq
        have := hp i hi
        rw [List.getD_eq_getElem?_getD, List.getElem?_eq_getElem hi] at this
        intro e; exact this (by rw [hpa]; exact e))
      rw [hno]
      subst hpa
      simp [ha]
    · rw [if_neg hpa]
      cases fidx t a with
      | some i => simp
      | none => simp [List.getElem?_set_ne hpa]

theorem flat_get {xs : List Nat} {L : List (Nat × Nat)} (h : Wl xs.length L) (a : Nat) (ha : a < xs.length) : (flatV xs L).getD a 0 = gotV xs L a :=
  flat_get_aux L xs a h.one h.at_ ha

theorem got_put {xs : List Nat} {L : List (Nat × Nat)} {a w : Nat} (hl : L.length < 96 ∨ fidx L a ≠ none) (b : Nat) : gotV xs (putL L a w) b = if b = a then w else gotV xs L b := by
  unfold putL
  cases hfi : fidx L a with
  | some i =>
    obtain ⟨h1, h2, h3⟩ := fidx_some hfi
    simp only
    unfold gotV
    rw [fidx_set h2]
    by_cases hb : b = a
    · subst hb
      rw [if_pos rfl, hfi]
      simp [h1]
    · rw [if_neg hb]
      cases hfb : fidx L b with
      | some j =>
        obtain ⟨k1, k2, k3⟩ := fidx_some hfb
        have hne : i ≠ j := by rintro rfl; exact hb (k2.symm.trans h2)
        simp [List.getElem?_set_ne hne]
      | none => rfl
  | none =>
    have hlt : L.length < 96 := by
      rcases hl with h | h
      · exact h
      · exact absurd hfi h
    simp only
    rw [if_neg (by omega)]
    unfold gotV
    rw [fidx_snoc]
    by_cases hb : b = a
    · subst hb
      rw [if_pos rfl, hfi]
      simp
    · rw [if_neg hb]
      cases hfb : fidx L b with
      | some j =>
        have hj := (fidx_some hfb).1
        simp [List.getElem?_append_left hj]
      | none => simp only; rw [if_neg (fun e => hb (Eq.symm e))]
end Go.Grommet
