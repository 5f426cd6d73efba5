/- Package view: what is seen behind a Put. -/
import Derived.Test.YtdpkpphjpihhkaaViewMath
namespace Go.Grommet

theorem flat_get_aux : ∀ (L : List (Nat × Nat)) (xs : List Nat) (a : Nat), (∀ i j, i < L.length → j < L.length → (L.getD i (0, 0)).1 = (L.getD j (0, 0)).1 → i = j) → (∀ p ∈ L, p.1 < xs.length) → a < xs.length → (flatV xs L).getD a 0 = gotV xs L a
  | [], xs, a, _, _, _ => rfl
  | p :: t, xs, a, h1, h2, ha => by
    have ht : ∀ i j, i < t.length → j < t.length → (t.getD i (0, 0)).1 = (t.getD j (0, 0)).1 → i = j := by
      intro i j hi hj e
      have := h1 (i + 1) (j + 1) (by simpa using hi) (by simpa using hj) (by simpa using e)
      omega
    have hp : ∀ i, i < t.length → (t.getD i (0, 0)).1 ≠ p.1 := by
      intro i hi e
      have := h1 (i + 1) 0 (by simpa using hi) (by simp) (by simpa using e)
      omega
    have ih := flat_get_aux t (xs.set p.1 p.2) a ht (fun q hq => by rw [List.length_set]; exact h2 q (by simp [hq])) (by rw [List.length_set]; exact ha)
    have e1 : flatV xs (p :: t) = flatV (xs.set p.1 p.2) t := rfl
    rw [e1, ih]
    unfold gotV
    rw [fidx]
    by_cases hpa : p.1 = a
    · rw [if_pos hpa]
      have hno : fidx t a = none := fidx_of_not (fun q hq => by
        obtain ⟨i, hi, rfl⟩ := List.getElem_of_mem hq
        have := hp i hi
        rw [List.getD_eq_getElem?_getD, List.getElem?_eq_getElem hi] at this
        intro e; exact this (by rw [hpa]; exact e))
      rw [hno]
      subst hpa
      simp [ha]
    · rw [if_neg hpa]
      cases fidx t a with
      | some i => simp
      | none => simp [List.getElem?_set_ne hpa]

theorem flat_get {xs : List Nat} {L : List (Nat × Nat)} (h : Wl xs.length L) (a : Nat) (ha : a < xs.length) : (flatV xs L).getD a 0 = gotV xs L a :=
  flat_get_aux L xs a h.one h.at_ ha

theorem got_put {xs : List Nat} {L : List (Nat × Nat)} {a w : Nat} (hl : L.length < 96 ∨ fidx L a ≠ none) (b : Nat) : gotV xs (putL L a w) b = if b = a then w else gotV xs L b := by
  unfold putL
  cases hfi : fidx L a with
  | some i =>
    obtain ⟨h1, h2, h3⟩ := fidx_some hfi
    simp only
    unfold gotV
    rw [fidx_set h2]
    by_cases hb : b = a
    · subst hb
      rw [if_pos rfl, hfi]
      simp [h1]
    · rw [if_neg hb]
      cases hfb : fidx L b with
      | some j =>
        obtain ⟨k1, k2, k3⟩ := fidx_some hfb
        have hne : i ≠ j := by rintro rfl; exact hb (k2.symm.trans h2)
        simp [List.getElem?_set_ne hne]
      | none => rfl
  | none =>
    have hlt : L.length < 96 := by
      rcases hl with h | h
      · exact h
      · exact absurd hfi h
    simp only
    rw [if_neg (by omega)]
    unfold gotV
    rw [fidx_snoc]
    by_cases hb : b = a
    · subst hb
      rw [if_pos rfl, hfi]
      simp
    · rw [if_neg hb]
      cases hfb : fidx L b with
      | some j =>
        have hj := (fidx_some hfb).1
        simp [List.getElem?_append_left hj]
      | none => simp only; rw [if_neg (fun e => hb (Eq.symm e))]

theorem Wl.take {m : Nat} {L : List (Nat × Nat)} (h : Wl m L) (c : Nat) : Wl m (L.take c) := by
  have key : ∀ i, i < (L.take c).length → (L.take c).getD i (0, 0) = L.getD i (0, 0) := by
    intro i hi
    rw [List.length_take] at hi
    rw [List.getD_eq_getElem?_getD, List.getD_eq_getElem?_getD, List.getElem?_take, if_pos (by omega)]
  refine ⟨by rw [List.length_take]; have := h.few; omega, fun p hp => h.at_ p (List.mem_of_mem_take hp), fun p hp => h.val p (List.mem_of_mem_take hp), fun i j hi hj e => ?_⟩
  rw [key i hi, key j hj] at e
  rw [List.length_take] at hi hj
  exact h.one i j (by omega) (by omega) e

/-- Done over some of itself it makes the same. -/
theorem flat_over {xs ys : List Nat} {L : List (Nat × Nat)} (h : Wl xs.length L) (hl : ys.length = xs.length) (hy : ∀ a, a < xs.length → fidx L a = none → ys.getD a 0 = xs.getD a 0) : flatV ys L = flatV xs L := by
  have hly : Wl ys.length L := by rw [hl]; exact h
  apply List.ext_getElem
  · rw [flatV_length, flatV_length, hl]
  · intro a h1 h2
    have ha : a < xs.length := by rw [flatV_length] at h2; exact h2
    have e1 := flat_get hly a (by omega)
    have e2 := flat_get h a ha
    rw [List.getD_eq_getElem?_getD, List.getElem?_eq_getElem h1] at e1
    rw [List.getD_eq_getElem?_getD, List.getElem?_eq_getElem h2] at e2
    have e3 : gotV ys L a = gotV xs L a := by
      unfold gotV
      cases hf : fidx L a with
      | some i => rfl
      | none => exact hy a ha hf
    have e1' : (flatV ys L)[a] = gotV ys L a := by simpa using e1
    have e2' : (flatV xs L)[a] = gotV xs L a := by simpa using e2
    rw [e1', e2', e3]
theorem flat_part {xs : List Nat} {L : List (Nat × Nat)} (h : Wl xs.length L) (c : Nat) : flatV (flatV xs (L.take c)) L = flatV xs L := by
  refine flat_over h (flatV_length _ _) fun a ha hf => ?_
  rw [flat_get (h.take c) a ha]
  unfold gotV
  rw [fidx_of_not (fun p hp => fidx_none hf p (List.mem_of_mem_take hp))]
theorem flat_twice {xs : List Nat} {L : List (Nat × Nat)} (h : Wl xs.length L) : flatV (flatV xs L) L = flatV xs L := by
  have := flat_part h L.length
  rwa [List.take_length] at this
end Go.Grommet
