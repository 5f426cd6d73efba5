/- Package view: plain mathematics: writes over an image. -/
import Derived.RowKit
namespace Go.Grommet

/-- The first write of a place. -/
def fidx : List (Nat × Nat) → Nat → Option Nat
  | [], _ => none
  | p :: t, a => if p.1 = a then some 0 else (fidx t a).map (· + 1)

theorem fidx_some {a : Nat} : ∀ {L : List (Nat × Nat)} {i : Nat}, fidx L a = some i → i < L.length ∧ (L.getD i (0, 0)).1 = a ∧ ∀ j, j < i → (L.getD j (0, 0)).1 ≠ a
  | [], i, h => by simp [fidx] at h
  | p :: t, i, h => by
    unfold fidx at h
    split at h
    · rename_i hp
      cases h
      exact ⟨by simp, by simpa using hp, fun j hj => by omega⟩
    · rename_i hp
      obtain ⟨k, hk, rfl⟩ := Option.map_eq_some_iff.1 h
      obtain ⟨h1, h2, h3⟩ := fidx_some hk
      refine ⟨by simp; omega, by simpa using h2, fun j hj => ?_⟩
      cases j with
      | zero => simpa using hp
      | succ j => simpa using h3 j (by omega)

theorem fidx_none {a : Nat} : ∀ {L : List (Nat × Nat)}, fidx L a = none → ∀ p ∈ L, p.1 ≠ a
  | [], _, p, hp => by simp at hp
  | q :: t, h, p, hp => by
    unfold fidx at h
    split at h
    · cases h
    · rename_i hq
      rcases List.mem_cons.1 hp with rfl | hp
      · exact hq
      · exact fidx_none (Option.map_eq_none_iff.1 h) p hp

theorem fidx_of_not {a : Nat} : ∀ {L : List (Nat × Nat)}, (∀ p ∈ L, p.1 ≠ a) → fidx L a = none
  | [], _ => rfl
  | q :: t, h => by
    unfold fidx
    rw [if_neg (h q (by simp)), fidx_of_not (fun p hp => h p (by simp [hp]))]; rfl

theorem fidx_at {a : Nat} : ∀ {L : List (Nat × Nat)} {i : Nat}, i < L.length → (L.getD i (0, 0)).1 = a → (∀ j, j < i → (L.getD j (0, 0)).1 ≠ a) → fidx L a = some i
  | [], i, h, _, _ => by simp at h
  | p :: t, 0, _, h2, _ => by unfold fidx; rw [if_pos (by simpa using h2)]
  | p :: t, i + 1, h1, h2, h3 => by
    unfold fidx
    rw [if_neg (by simpa using h3 0 (by omega)), fidx_at (i := i) (by simpa using h1) (by simpa using h2) (fun j hj => by simpa using h3 (j + 1) (by omega))]; rfl

theorem fidx_snoc (L : List (Nat × Nat)) (a w b : Nat) : fidx (L ++ [(a, w)]) b = match fidx L b with | some i => some i | none => if a = b then some L.length else none := by
  induction L with
  | nil => simp [fidx]
  | cons p t ih =>
    rw [List.cons_append, fidx, fidx]
    by_cases hp : p.1 = b
    · rw [if_pos hp, if_pos hp]
    · rw [if_neg hp, if_neg hp, ih]
      cases fidx t b with
      | some i => rfl
      | none =>
        by_cases hb : a = b
        · simp [hb]
        · simp [hb]

theorem fidx_set {L : List (Nat × Nat)} {i a w : Nat} (ha : (L.getD i (0, 0)).1 = a) (b : Nat) : fidx (L.set i (a, w)) b = fidx L b := by
  induction L generalizing i with
  | nil => rfl
  | cons p t ih =>
    cases i with
    | zero =>
      have : p.1 = a := by simpa using ha
      rw [List.set_cons_zero, fidx, fidx, this]
    | succ i => rw [List.set_cons_succ, fidx, fidx, ih (by simpa using ha)]

/-- What is seen of a word. -/
def gotV (xs : List Nat) (L : List (Nat × Nat)) (a : Nat) : Nat :=
  match fidx L a with | some i => (L.getD i (0, 0)).2 | none => xs.getD a 0
/-- Behind a Put. -/
def putL (L : List (Nat × Nat)) (a w : Nat) : List (Nat × Nat) :=
  match fidx L a with | some i => L.set i (a, w) | none => if 96 ≤ L.length then L else L ++ [(a, w)]
def putE (L : List (Nat × Nat)) (a : Nat) : Nat :=
  match fidx L a with | some _ => 0 | none => if 96 ≤ L.length then 5 else 0
/-- All that is seen. -/
def flatV (xs : List Nat) (L : List (Nat × Nat)) : List Nat := L.foldl (fun l p => l.set p.1 p.2) xs

theorem flatV_length (xs : List Nat) (L : List (Nat × Nat)) : (flatV xs L).length = xs.length := by
  unfold flatV
  induction L generalizing xs with
  | nil => rfl
  | cons p t ih => rw [List.foldl_cons, ih]; simp
theorem flatV_snoc (xs : List Nat) (L : List (Nat × Nat)) (p : Nat × Nat) : flatV xs (L ++ [p]) = (flatV xs L).set p.1 p.2 := by
  unfold flatV; rw [List.foldl_append]; rfl
theorem flatV_small {xs : List Nat} {L : List (Nat × Nat)} (hx : ∀ n ∈ xs, n < 18446744073709551616) (hL : ∀ p ∈ L, p.2 < 18446744073709551616) : ∀ n ∈ flatV xs L, n < 18446744073709551616 := by
  unfold flatV
  induction L generalizing xs with
  | nil => exact hx
  | cons p t ih =>
    rw [List.foldl_cons]
    refine ih ?_ (fun q hq => hL q (by simp [hq]))
    intro n hn
    rcases List.mem_or_eq_of_mem_set hn with h | h
    · exact hx n h
    · rw [h]; exact hL p (by simp)

/-- What a list of writes must be. -/
structure Wl (m : Nat) (L : List (Nat × Nat)) : Prop where
  few : L.length ≤ 96
  at_ : ∀ p ∈ L, p.1 < m
  val : ∀ p ∈ L, p.2 < 18446744073709551616
  one : ∀ i j, i < L.length → j < L.length → (L.getD i (0, 0)).1 = (L.getD j (0, 0)).1 → i = j

theorem Wl.nil (m : Nat) : Wl m [] := ⟨by simp, by simp, by simp, fun i j hi => by simp at hi⟩
theorem getD_mem {α : Type} (L : List α) (i : Nat) (d : α) (h : i < L.length) : L.getD i d ∈ L := by simp [h]
theorem getD_set_same {α : Type} (L : List α) (i : Nat) (x d : α) (h : i < L.length) : (L.set i x).getD i d = x := by simp [h]
theorem getD_set_ne {α : Type} (L : List α) (i j : Nat) (x d : α) (h : i ≠ j) : (L.set i x).getD j d = L.getD j d := by simp [h]
theorem getD_snoc_lt {α : Type} (L : List α) (j : Nat) (x d : α) (h : j < L.length) : (L ++ [x]).getD j d = L.getD j d := by
  simp [List.getElem?_append_left h]
theorem getD_snoc_eq {α : Type} (L : List α) (x d : α) : (L ++ [x]).getD L.length d = x := by simp

theorem Wl.put {m : Nat} {L : List (Nat × Nat)} (h : Wl m L) {a w : Nat} (ha : a < m) (hw : w < 18446744073709551616) : Wl m (putL L a w) := by
  unfold putL
  split
  · rename_i i hi
    obtain ⟨h1, h2, h3⟩ := fidx_some hi
    refine ⟨by simpa using h.few, ?_, ?_, ?_⟩
    · intro p hp
      rcases List.mem_or_eq_of_mem_set hp with hp | rfl
      · exact h.at_ p hp
      · exact ha
    · intro p hp
      rcases List.mem_or_eq_of_mem_set hp with hp | rfl
      · exact h.val p hp
      · exact hw
    · have key : ∀ j, ((L.set i (a, w)).getD j (0, 0)).1 = (L.getD j (0, 0)).1 := by
        intro j
        by_cases hj : i = j
        · subst hj; rw [getD_set_same _ _ _ _ h1, h2]
        · rw [getD_set_ne _ _ _ _ _ hj]
      intro j k hj hk e
      rw [key, key] at e
      exact h.one j k (by simpa using hj) (by simpa using hk) e
  · rename_i hi
    have hno := fidx_none hi
    split
    · exact h
    · rename_i hl
      refine ⟨by simp; omega, ?_, ?_, ?_⟩
      · intro p hp
        rcases List.mem_append.1 hp with hp | hp
        · exact h.at_ p hp
        · obtain rfl : p = (a, w) := by simpa using hp
          exact ha
      · intro p hp
        rcases List.mem_append.1 hp with hp | hp
        · exact h.val p hp
        · obtain rfl : p = (a, w) := by simpa using hp
          exact hw
      · intro j k hj hk e
        rw [List.length_append, List.length_singleton] at hj hk
        by_cases hj' : j < L.length
        · by_cases hk' : k < L.length
          · rw [getD_snoc_lt _ _ _ _ hj', getD_snoc_lt _ _ _ _ hk'] at e
            exact h.one j k hj' hk' e
          · obtain rfl : k = L.length := by omega
            rw [getD_snoc_lt _ _ _ _ hj', getD_snoc_eq] at e
            exact absurd e (hno _ (getD_mem L j _ hj'))
        · obtain rfl : j = L.length := by omega
          by_cases hk' : k < L.length
          · rw [getD_snoc_lt _ _ _ _ hk', getD_snoc_eq] at e
            exact absurd e.symm (hno _ (getD_mem L k _ hk'))
          · omega

theorem gotV_small {xs : List Nat} {L : List (Nat × Nat)} (hx : ∀ n ∈ xs, n < 18446744073709551616) (hL : ∀ p ∈ L, p.2 < 18446744073709551616) (a : Nat) : gotV xs L a < 18446744073709551616 := by
  unfold gotV
  split
  · rename_i i hi
    exact hL _ (getD_mem L i _ (fidx_some hi).1)
  · by_cases h : a < xs.length
    · exact hx _ (getD_mem xs a _ h)
    · rw [List.getD_eq_getElem?_getD, List.getElem?_eq_none (by omega)]; simp
end Go.Grommet
