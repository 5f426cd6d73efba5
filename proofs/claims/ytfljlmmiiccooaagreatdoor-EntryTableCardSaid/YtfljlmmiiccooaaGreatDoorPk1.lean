import Derived.RowKit
section
namespace Go.Grommet
def fidx : List (Nat × Nat) → Nat → Option Nat
 | [], _ => none
 | p :: t, a => if p.1 = a then some 0 else (fidx t a).map (· + 1)
theorem fidx_some {a : Nat} : ∀ {L : List (Nat × Nat)} {i : Nat}, fidx L a = some i → i < L.length ∧ (L.getD i (0, 0)).1 = a ∧ ∀ j, j < i → (L.getD j (0, 0)).1 ≠ a
 | [], i, h => by simp [fidx] at h
 | p :: t, i, h => by
  unfold fidx at h
  split at h
  ·rename_i hp
   cases h
   exact ⟨by simp, by simpa using hp, fun j hj => by omega⟩
  ·rename_i hp
   obtain ⟨k, hk, rfl⟩ := Option.map_eq_some_iff.1 h
   obtain ⟨h1, h2, h3⟩ := fidx_some hk
   refine ⟨by simp; omega, by simpa using h2, fun j hj => ?_⟩
   cases j with
   | zero => simpa using hp
   | succ j => simpa using h3 j (by omega)
theorem fidx_none {a : Nat} : ∀ {L : List (Nat × Nat)}, fidx L a = none → ∀ p ∈ L, p.1 ≠ a
 | [], _, p, hp => by simp at hp
 | q :: t, h, p, hp => by
  unfold fidx at h
  split at h
  ·cases h
  ·rename_i hq
   rcases List.mem_cons.1 hp with rfl | hp
   ·exact hq
   ·exact fidx_none (Option.map_eq_none_iff.1 h) p hp
theorem fidx_of_not {a : Nat} : ∀ {L : List (Nat × Nat)}, (∀ p ∈ L, p.1 ≠ a) → fidx L a = none
 | [], _ => rfl
 | q :: t, h => by
  unfold fidx
  rw [if_neg (h q (by simp)), fidx_of_not (fun p hp => h p (by simp [hp]))]; rfl
theorem fidx_snoc (L : List (Nat × Nat)) (a w b : Nat) : fidx (L ++ [(a, w)]) b = match fidx L b with | some i => some i | none => if a = b then some L.length else none := by
 induction L with
 | nil => simp [fidx]
 | cons p t ih =>
  rw [List.cons_append, fidx, fidx]
  by_cases hp : p.1 = b
  ·rw [if_pos hp, if_pos hp]
  ·rw [if_neg hp, if_neg hp, ih]
   cases fidx t b with
   | some i => rfl
   | none =>
    by_cases hb : a = b
    ·simp [hb]
    ·simp [hb]
theorem fidx_set {L : List (Nat × Nat)} {i a w : Nat} (ha : (L.getD i (0, 0)).1 = a) (b : Nat) : fidx (L.set i (a, w)) b = fidx L b := by
 induction L generalizing i with
 | nil => rfl
 | cons p t ih =>
  cases i with
  | zero =>
   have : p.1 = a := by simpa using ha
   rw [List.set_cons_zero, fidx, fidx, this]
  | succ i => rw [List.set_cons_succ, fidx, fidx, ih (by simpa using ha)]
def gotV (xs : List Nat) (L : List (Nat × Nat)) (a : Nat) : Nat :=
 match fidx L a with | some i => (L.getD i (0, 0)).2 | none => xs.getD a 0
def putL (L : List (Nat × Nat)) (a w : Nat) : List (Nat × Nat) :=
 match fidx L a with | some i => L.set i (a, w) | none => if 96 ≤ L.length then L else L ++ [(a, w)]
def putE (L : List (Nat × Nat)) (a : Nat) : Nat :=
 match fidx L a with | some _ => 0 | none => if 96 ≤ L.length then 5 else 0
def flatV (xs : List Nat) (L : List (Nat × Nat)) : List Nat := L.foldl (fun l p => l.set p.1 p.2) xs
theorem flatV_length (xs : List Nat) (L : List (Nat × Nat)) : (flatV xs L).length = xs.length := by
 unfold flatV
 induction L generalizing xs with
 | nil => rfl
 | cons p t ih => rw [List.foldl_cons, ih]; simp
theorem flatV_snoc (xs : List Nat) (L : List (Nat × Nat)) (p : Nat × Nat) : flatV xs (L ++ [p]) = (flatV xs L).set p.1 p.2 := by
 unfold flatV; rw [List.foldl_append]; rfl
theorem flatV_small {xs : List Nat} {L : List (Nat × Nat)} (hx : ∀ n ∈ xs, n < 18446744073709551616) (hL : ∀ p ∈ L, p.2 < 18446744073709551616) : ∀ n ∈ flatV xs L, n < 18446744073709551616 := by
 unfold flatV
 induction L generalizing xs with
 | nil => exact hx
 | cons p t ih =>
  rw [List.foldl_cons]
  refine ih ?_ (fun q hq => hL q (by simp [hq]))
  intro n hn
  rcases List.mem_or_eq_of_mem_set hn with h | h
  ·exact hx n h
  ·rw [h]; exact hL p (by simp)
structure Wl (m : Nat) (L : List (Nat × Nat)) : Prop where
 few : L.length ≤ 96
 at_ : ∀ p ∈ L, p.1 < m
 val : ∀ p ∈ L, p.2 < 18446744073709551616
 one : ∀ i j, i < L.length → j < L.length → (L.getD i (0, 0)).1 = (L.getD j (0, 0)).1 → i = j
theorem Wl.nil (m : Nat) : Wl m [] := ⟨by simp, by simp, by simp, fun i j hi => by simp at hi⟩
theorem getD_mem {α : Type} (L : List α) (i : Nat) (d : α) (h : i < L.length) : L.getD i d ∈ L := by simp [h]
theorem getD_set_same {α : Type} (L : List α) (i : Nat) (x d : α) (h : i < L.length) : (L.set i x).getD i d = x := by simp [h]
theorem getD_set_ne {α : Type} (L : List α) (i j : Nat) (x d : α) (h : i ≠ j) : (L.set i x).getD j d = L.getD j d := by simp [h]
theorem getD_snoc_lt {α : Type} (L : List α) (j : Nat) (x d : α) (h : j < L.length) : (L ++ [x]).getD j d = L.getD j d := by
 simp [List.getElem?_append_left h]
theorem getD_snoc_eq {α : Type} (L : List α) (x d : α) : (L ++ [x]).getD L.length d = x := by simp
theorem Wl.put {m : Nat} {L : List (Nat × Nat)} (h : Wl m L) {a w : Nat} (ha : a < m) (hw : w < 18446744073709551616) : Wl m (putL L a w) := by
 unfold putL
 split
 ·rename_i i hi
  obtain ⟨h1, h2, h3⟩ := fidx_some hi
  refine ⟨by simpa using h.few, ?_, ?_, ?_⟩
  ·intro p hp
   rcases List.mem_or_eq_of_mem_set hp with hp | rfl
   ·exact h.at_ p hp
   ·exact ha
  ·intro p hp
   rcases List.mem_or_eq_of_mem_set hp with hp | rfl
   ·exact h.val p hp
   ·exact hw
  ·have key : ∀ j, ((L.set i (a, w)).getD j (0, 0)).1 = (L.getD j (0, 0)).1 := by
    intro j
    by_cases hj : i = j
    ·subst hj; rw [getD_set_same _ _ _ _ h1, h2]
    ·rw [getD_set_ne _ _ _ _ _ hj]
   intro j k hj hk e
   rw [key, key] at e
   exact h.one j k (by simpa using hj) (by simpa using hk) e
 ·rename_i hi
  have hno := fidx_none hi
  split
  ·exact h
  ·rename_i hl
   refine ⟨by simp; omega, ?_, ?_, ?_⟩
   ·intro p hp
    rcases List.mem_append.1 hp with hp | hp
    ·exact h.at_ p hp
    ·obtain rfl : p = (a, w) := by simpa using hp
     exact ha
   ·intro p hp
    rcases List.mem_append.1 hp with hp | hp
    ·exact h.val p hp
    ·obtain rfl : p = (a, w) := by simpa using hp
     exact hw
   ·intro j k hj hk e
    rw [List.length_append, List.length_singleton] at hj hk
    by_cases hj' : j < L.length
    ·by_cases hk' : k < L.length
     ·rw [getD_snoc_lt _ _ _ _ hj', getD_snoc_lt _ _ _ _ hk'] at e
      exact h.one j k hj' hk' e
     ·obtain rfl : k = L.length := by omega
      rw [getD_snoc_lt _ _ _ _ hj', getD_snoc_eq] at e
      exact absurd e (hno _ (getD_mem L j _ hj'))
    ·obtain rfl : j = L.length := by omega
     by_cases hk' : k < L.length
     ·rw [getD_snoc_lt _ _ _ _ hk', getD_snoc_eq] at e
      exact absurd e.symm (hno _ (getD_mem L k _ hk'))
     ·omega
theorem gotV_small {xs : List Nat} {L : List (Nat × Nat)} (hx : ∀ n ∈ xs, n < 18446744073709551616) (hL : ∀ p ∈ L, p.2 < 18446744073709551616) (a : Nat) : gotV xs L a < 18446744073709551616 := by
 unfold gotV
 split
 ·rename_i i hi
  exact hL _ (getD_mem L i _ (fidx_some hi).1)
 ·by_cases h : a < xs.length
  ·exact hx _ (getD_mem xs a _ h)
  ·rw [List.getD_eq_getElem?_getD, List.getElem?_eq_none (by omega)]; simp
end Go.Grommet
end
section
namespace Go.Grommet
theorem flat_get_aux : ∀ (L : List (Nat × Nat)) (xs : List Nat) (a : Nat), (∀ i j, i < L.length → j < L.length → (L.getD i (0, 0)).1 = (L.getD j (0, 0)).1 → i = j) → (∀ p ∈ L, p.1 < xs.length) → a < xs.length → (flatV xs L).getD a 0 = gotV xs L a
 | [], xs, a, _, _, _ => rfl
 | p :: t, xs, a, h1, h2, ha => by
  have ht : ∀ i j, i < t.length → j < t.length → (t.getD i (0, 0)).1 = (t.getD j (0, 0)).1 → i = j := by
   intro i j hi hj e
   have := h1 (i + 1) (j + 1) (by simpa using hi) (by simpa using hj) (by simpa using e)
   omega
  have hp : ∀ i, i < t.length → (t.getD i (0, 0)).1 ≠ p.1 := by
   intro i hi e
   have := h1 (i + 1) 0 (by simpa using hi) (by simp) (by simpa using e)
   omega
  have ih := flat_get_aux t (xs.set p.1 p.2) a ht (fun q hq => by rw [List.length_set]; exact h2 q (by simp [hq])) (by rw [List.length_set]; exact ha)
  have e1 : flatV xs (p :: t) = flatV (xs.set p.1 p.2) t := rfl
  rw [e1, ih]
  unfold gotV
  rw [fidx]
  by_cases hpa : p.1 = a
  ·rw [if_pos hpa]
   have hno : fidx t a = none := fidx_of_not (fun q hq => by
    obtain ⟨i, hi, rfl⟩ := List.getElem_of_mem hq
    have := hp i hi
    rw [List.getD_eq_getElem?_getD, List.getElem?_eq_getElem hi] at this
    intro e; exact this (by rw [hpa]; exact e))
   rw [hno]
   subst hpa
   simp [ha]
  ·rw [if_neg hpa]
   cases fidx t a with
   | some i => simp
   | none => simp [List.getElem?_set_ne hpa]
theorem flat_get {xs : List Nat} {L : List (Nat × Nat)} (h : Wl xs.length L) (a : Nat) (ha : a < xs.length) : (flatV xs L).getD a 0 = gotV xs L a :=
 flat_get_aux L xs a h.one h.at_ ha
theorem got_put {xs : List Nat} {L : List (Nat × Nat)} {a w : Nat} (hl : L.length < 96 ∨ fidx L a ≠ none) (b : Nat) : gotV xs (putL L a w) b = if b = a then w else gotV xs L b := by
 unfold putL
 cases hfi : fidx L a with
 | some i =>
  obtain ⟨h1, h2, h3⟩ := fidx_some hfi
  simp only
  unfold gotV
  rw [fidx_set h2]
  by_cases hb : b = a
  ·subst hb
   rw [if_pos rfl, hfi]
   simp [h1]
  ·rw [if_neg hb]
   cases hfb : fidx L b with
   | some j =>
    obtain ⟨k1, k2, k3⟩ := fidx_some hfb
    have hne : i ≠ j := by rintro rfl; exact hb (k2.symm.trans h2)
    simp [List.getElem?_set_ne hne]
   | none => rfl
 | none =>
  have hlt : L.length < 96 := by
   rcases hl with h | h
   ·exact h
   ·exact absurd hfi h
  simp only
  rw [if_neg (by omega)]
  unfold gotV
  rw [fidx_snoc]
  by_cases hb : b = a
  ·subst hb
   rw [if_pos rfl, hfi]
   simp
  ·rw [if_neg hb]
   cases hfb : fidx L b with
   | some j =>
    have hj := (fidx_some hfb).1
    simp [List.getElem?_append_left hj]
   | none => simp only; rw [if_neg (fun e => hb (Eq.symm e))]
theorem Wl.take {m : Nat} {L : List (Nat × Nat)} (h : Wl m L) (c : Nat) : Wl m (L.take c) := by
 have key : ∀ i, i < (L.take c).length → (L.take c).getD i (0, 0) = L.getD i (0, 0) := by
  intro i hi
  rw [List.length_take] at hi
  rw [List.getD_eq_getElem?_getD, List.getD_eq_getElem?_getD, List.getElem?_take, if_pos (by omega)]
 refine ⟨by rw [List.length_take]; have := h.few; omega, fun p hp => h.at_ p (List.mem_of_mem_take hp), fun p hp => h.val p (List.mem_of_mem_take hp), fun i j hi hj e => ?_⟩
 rw [key i hi, key j hj] at e
 rw [List.length_take] at hi hj
 exact h.one i j (by omega) (by omega) e
end Go.Grommet
end
section
namespace Go.Grommet
def setE (xs : List Nat) (L : List (Nat × Nat)) (a : Int) (v : Nat) : Nat :=
 if 0 ≤ a ∧ a < (xs.length : Int) then (if gotV xs L a.toNat = v then 0 else putE L a.toNat) else 8
def setL (xs : List Nat) (L : List (Nat × Nat)) (a : Int) (v : Nat) : List (Nat × Nat) :=
 if 0 ≤ a ∧ a < (xs.length : Int) then (if gotV xs L a.toNat = v then L else putL L a.toNat v) else L
theorem setE_ok {xs : List Nat} {L : List (Nat × Nat)} {a : Nat} {v : Nat} (ha : a < xs.length) (hl : L.length < 96) : setE xs L (a : Int) v = 0 := by
 unfold setE
 rw [if_pos ⟨by omega, by omega⟩]
 split
 ·rfl
 ·unfold putE
  split
  ·rfl
  ·rw [if_neg (by omega)]
theorem setL_got {xs : List Nat} {L : List (Nat × Nat)} {a : Nat} {v : Nat} (ha : a < xs.length) (hl : L.length < 96) (b : Nat) : gotV xs (setL xs L (a : Int) v) b = if b = a then v else gotV xs L b := by
 unfold setL
 rw [if_pos ⟨by omega, by omega⟩, Int.toNat_natCast]
 by_cases h : gotV xs L a = v
 ·rw [if_pos h]
  by_cases hb : b = a
  ·rw [if_pos hb, hb, h]
  ·rw [if_neg hb]
 ·rw [if_neg h, got_put (.inl hl) b]
end Go.Grommet
end
section
namespace Go.Grommet
open Go
structure Row where
 kind : Int
 many : Int
 size : Int
def Row.all (r : Row) : Int := r.many * r.size
def Row.ok (r : Row) : Prop := 0 ≤ r.kind ∧ r.kind ≤ 9 ∧ 0 ≤ r.many ∧ r.many ≤ 1000 ∧ 1 ≤ r.size ∧ r.size ≤ 1000
def sumR : List Row → Int
 | [] => 0
 | r :: t => r.all + sumR t
def startR : List Row → Int → Int → Int → Int
 | [], _, _, _ => -1
 | r :: t, k, i, acc => if r.kind = k ∧ 0 ≤ i ∧ i < r.many then acc + i * r.size else startR t k i (acc + r.all)
theorem sumR_append (a b : List Row) : sumR (a ++ b) = sumR a + sumR b := by
 induction a with
 | nil => simp [sumR]
 | cons r t ih => simp [sumR, ih]; omega
theorem all_bd (r : Row) (h : r.ok) : 0 ≤ r.all ∧ r.all ≤ 1000000 := by
 obtain ⟨_, _, h1, h2, h3, h4⟩ := h
 unfold Row.all
 constructor
 ·exact Int.mul_nonneg h1 (by omega)
 ·have := Int.mul_le_mul h2 h4 (by omega) (by omega)
  omega
theorem sumR_bd (l : List Row) (h : ∀ r ∈ l, r.ok) : 0 ≤ sumR l ∧ sumR l ≤ 1000000 * (l.length : Int) := by
 induction l with
 | nil => simp [sumR]
 | cons r t ih =>
  have a := all_bd r (h r (by simp))
  have b := ih (fun x hx => h x (by simp [hx]))
  simp only [sumR, List.length_cons]
  omega
theorem sumR_snoc (l : List Row) (k : Nat) (r : Row) (h : l[k]? = some r) : sumR (l.take (k + 1)) = sumR (l.take k) + r.all := by
 rw [List.take_add_one, h, sumR_append]
 simp [sumR]
theorem startR_drop (l : List Row) (n : Nat) (r : Row) (k i : Int) (acc : Int) (h : l[n]? = some r) : startR (l.drop n) k i acc = if r.kind = k ∧ 0 ≤ i ∧ i < r.many then acc + i * r.size else startR (l.drop (n + 1)) k i (acc + r.all) := by
 have hn := (List.getElem?_eq_some_iff.1 h)
 obtain ⟨hn, he⟩ := hn
 rw [List.drop_eq_getElem_cons hn, he, startR]
def placesR (a b c : Int) : List Row := [⟨1, 1, 8⟩, ⟨2, 4, 64⟩, ⟨5, a, 208⟩, ⟨6, 1, 8⟩, ⟨7, 1, 8⟩, ⟨8, b, 16⟩, ⟨9, c, 8⟩]
def mayB (a b c : Int) : Bool := decide (1 ≤ a ∧ a ≤ 4 ∧ 2 ≤ b ∧ b ≤ 64 ∧ 2 ≤ c ∧ c ≤ 512)
theorem mayB_yes {a b c : Int} (h : mayB a b c = true) : 1 ≤ a ∧ a ≤ 4 ∧ 2 ≤ b ∧ b ≤ 64 ∧ 2 ≤ c ∧ c ≤ 512 := by simpa [mayB] using h
theorem places_ok {a b c : Int} (h : mayB a b c = true) : ∀ r ∈ placesR a b c, r.ok := by
 have := mayB_yes h
 intro r hr
 simp only [placesR, List.mem_cons, List.not_mem_nil, or_false] at hr
 unfold Row.ok
 rcases hr with rfl | rfl | rfl | rfl | rfl | rfl | rfl <;> dsimp only <;> omega
def wordsV (a b c : Int) : Int := if mayB a b c = true then 280 + 208 * a + 16 * b + 8 * c else 0
def imapV (a b c : Int) : Int := if mayB a b c = true then 264 + 208 * a else -1
def bmapV (a b c : Int) : Int := if mayB a b c = true then 272 + 208 * a else -1
def inodeV (a b c i : Int) : Int := if mayB a b c = true ∧ 0 ≤ i ∧ i < b then 280 + 208 * a + 16 * i else -1
def blockV (a b c i : Int) : Int := if mayB a b c = true ∧ 0 ≤ i ∧ i < c then 280 + 208 * a + 16 * b + 8 * i else -1
theorem sum_places (a b c : Int) : sumR (placesR a b c) = 280 + 208 * a + 16 * b + 8 * c := by
 simp [sumR, placesR, Row.all]; omega
theorem start_imap (a b c : Int) : startR (placesR a b c) 6 0 0 = 264 + 208 * a := by
 simp [placesR, startR, Row.all]; omega
theorem start_bmap (a b c : Int) : startR (placesR a b c) 7 0 0 = 272 + 208 * a := by
 simp [placesR, startR, Row.all]; omega
theorem start_inode (a b c i : Int) : startR (placesR a b c) 8 i 0 = if 0 ≤ i ∧ i < b then 280 + 208 * a + 16 * i else -1 := by
 simp only [placesR, startR, Row.all]
 by_cases h : 0 ≤ i ∧ i < b
 ·simp [h]; omega
 ·simp [h]
theorem start_block (a b c i : Int) : startR (placesR a b c) 9 i 0 = if 0 ≤ i ∧ i < c then 280 + 208 * a + 16 * b + 8 * i else -1 := by
 simp only [placesR, startR, Row.all]
 by_cases h : 0 ≤ i ∧ i < c
 ·simp [h]; omega
 ·simp [h]
end Go.Grommet
end
section
namespace Go.Grommet
def setB (v j : Nat) (is : Bool) : Nat := if is then (v &&& (18446744073709551615 - 2 ^ j)) ||| 2 ^ j else v &&& (18446744073709551615 - 2 ^ j)
theorem pow_lt64 {j : Nat} (h : j < 64) : 2 ^ j < 18446744073709551616 := by
 have := Nat.pow_lt_pow_right (a := 2) (by decide) h
 exact this
theorem mask_bit {j : Nat} (hj : j < 64) (i : Nat) : (18446744073709551615 - 2 ^ j).testBit i = (decide (i < 64) && !decide (i = j)) := by
 have hp := pow_lt64 hj
 have e : 18446744073709551615 - 2 ^ j = 2 ^ 64 - (2 ^ j + 1) := by omega
 rw [e, Nat.testBit_two_pow_sub_succ hp, Nat.testBit_two_pow]
 congr 2
 exact decide_eq_decide.2 ⟨fun h => h.symm, fun h => h.symm⟩
theorem bit_far {v : Nat} (hv : v < 18446744073709551616) {i : Nat} (h : 64 ≤ i) : v.testBit i = false :=
 Nat.testBit_lt_two_pow (Nat.lt_of_lt_of_le hv (Nat.pow_le_pow_right (n := 2) (by decide) h))
theorem setB_bit {v j : Nat} (is : Bool) (hj : j < 64) (hv : v < 18446744073709551616) (i : Nat) : (setB v j is).testBit i = if i = j then is else v.testBit i := by
 have hm := mask_bit hj i
 have key : (v &&& (18446744073709551615 - 2 ^ j)).testBit i = (v.testBit i && !decide (i = j)) := by
  rw [Nat.testBit_and, hm]
  by_cases h : i < 64
  ·simp [h]
  ·rw [bit_far hv (by omega)]; simp
 unfold setB
 cases is with
 | false =>
  rw [if_neg (by decide), key]
  by_cases h : i = j <;> simp [h]
 | true =>
  rw [if_pos rfl, Nat.testBit_or, key, Nat.testBit_two_pow]
  by_cases h : i = j
  ·simp [h]
  ·have : ¬ j = i := fun e => h e.symm
   simp [h, this]
theorem setB_small {v j : Nat} (is : Bool) (hj : j < 64) (hv : v < 18446744073709551616) : setB v j is < 18446744073709551616 := by
 have h1 : v &&& (18446744073709551615 - 2 ^ j) < 2 ^ 64 := Nat.lt_of_le_of_lt Nat.and_le_left hv
 unfold setB
 split
 ·exact Nat.or_lt_two_pow h1 (pow_lt64 hj)
 ·exact h1
theorem and_bit (v j : Nat) : (v &&& 2 ^ j = 0) ↔ v.testBit j = false := by
 constructor
 ·intro h
  have e : (v &&& 2 ^ j).testBit j = false := by rw [h, Nat.zero_testBit]
  rw [Nat.testBit_and, Nat.testBit_two_pow] at e
  simpa using e
 ·intro h
  apply Nat.eq_of_testBit_eq
  intro i
  rw [Nat.testBit_and, Nat.testBit_two_pow, Nat.zero_testBit]
  by_cases e : j = i
  ·subst e; simp [h]
  ·simp [e]
def cntF (f : Nat → Bool) : Nat → Nat
 | 0 => 0
 | n + 1 => cntF f n + (f n).toNat
theorem cntF_add (f : Nat → Bool) (m : Nat) : ∀ n, cntF f (m + n) = cntF f m + cntF (fun i => f (m + i)) n
 | 0 => rfl
 | n + 1 => by
  show cntF f (m + n) + (f (m + n)).toNat = cntF f m + (cntF (fun i => f (m + i)) n + (f (m + n)).toNat)
  rw [cntF_add f m n]; omega
theorem cntF_congr {f g : Nat → Bool} : ∀ n, (∀ i, i < n → f i = g i) → cntF f n = cntF g n
 | 0, _ => rfl
 | n + 1, h => by
  show cntF f n + (f n).toNat = cntF g n + (g n).toNat
  rw [cntF_congr n (fun i hi => h i (by omega)), h n (by omega)]
theorem cntF_none : ∀ n, cntF (fun _ => false) n = 0
 | 0 => rfl
 | n + 1 => by show cntF (fun _ => false) n + _ = 0; rw [cntF_none n]; rfl
theorem cntF_le (f : Nat → Bool) : ∀ n, cntF f n ≤ n
 | 0 => Nat.le_refl _
 | n + 1 => by
  show cntF f n + (f n).toNat ≤ _
  have := cntF_le f n
  have : (f n).toNat ≤ 1 := by cases f n <;> decide
  omega
theorem cntF_clip (f : Nat → Bool) (m k : Nat) (h : m ≤ k) : cntF (fun i => decide (i < m) && f i) k = cntF f m := by
 obtain ⟨d, rfl⟩ : ∃ d, k = m + d := ⟨k - m, by omega⟩
 rw [cntF_add]
 have e1 : cntF (fun i => decide (i < m) && f i) m = cntF f m := cntF_congr m (fun i hi => by simp [hi])
 have e2 : cntF (fun i => decide (m + i < m) && f (m + i)) d = 0 := by
  rw [cntF_congr (g := fun _ => false) d (fun i _ => by simp; omega), cntF_none]
 rw [e1, e2]; rfl
theorem cntF_turn {f g : Nat → Bool} {k : Nat} (hne : ∀ i, i ≠ k → g i = f i) : ∀ n, k < n → cntF g n + (f k).toNat = cntF f n + (g k).toNat
 | 0, h => by omega
 | n + 1, h => by
  show cntF g n + (g n).toNat + (f k).toNat = cntF f n + (f n).toNat + (g k).toNat
  by_cases e : k = n
  ·subst e
   rw [cntF_congr (f := g) (g := f) k (fun i hi => hne i (by omega))]; omega
  ·have := cntF_turn hne n (by omega)
   rw [hne n (fun x => e x.symm)]; omega
theorem and_split (k : Nat) (A a B b : Nat) (ha : a < 2 ^ k) (hb : b < 2 ^ k) : (2 ^ k * A + a) &&& (2 ^ k * B + b) = 2 ^ k * (A &&& B) + (a &&& b) := by
 apply Nat.eq_of_testBit_eq
 intro i
 rw [Nat.testBit_and, Nat.testBit_two_pow_mul_add _ ha, Nat.testBit_two_pow_mul_add _ hb, Nat.testBit_two_pow_mul_add _ (Nat.and_lt_two_pow _ hb)]
 split <;> rw [Nat.testBit_and]
def gp (M0 M1 M2 x : Nat) : Nat :=
 let a := (x / 2 &&& M0) + (x &&& M0)
 let b := (a / 4 &&& M1) + (a &&& M1)
 (b / 16 + b) &&& M2
theorem gp_byte : ∀ b : Fin 256, gp 85 51 15 b.1 = cntF b.1.testBit 8 := by decide +kernel
theorem half_byte : ∀ (c : Fin 2) (b : Fin 256), (c.1 * 128 + b.1 / 2) &&& 85 = (b.1 / 2 &&& 85) := by decide +kernel
theorem quart_byte : ∀ (c : Fin 4) (b : Fin 256), (c.1 * 64 + b.1 / 4) &&& 51 = (b.1 / 4 &&& 51) := by decide +kernel
theorem nib_byte : ∀ (c : Fin 7) (b : Fin 120), (c.1 * 16 + b.1 / 16 + b.1) &&& 15 = (b.1 / 16 + b.1) &&& 15 := by decide +kernel
theorem gp_split (M0 M1 M2 hi lo : Nat) (hlo : lo < 256) (h1 : M1 % 16 ≤ 3) :
  gp (256 * M0 + 85) (256 * M1 + 51) (256 * M2 + 15) (256 * hi + lo) = 256 * gp M0 M1 M2 hi + gp 85 51 15 lo := by
 have s := fun (A a B b : Nat) (ha : a < 256) (hb : b < 256) => and_split 8 A a B b ha hb
 have ea : ((256 * hi + lo) / 2 &&& (256 * M0 + 85)) = 256 * (hi / 2 &&& M0) + (lo / 2 &&& 85) := by
  have e : (256 * hi + lo) / 2 = 256 * (hi / 2) + ((hi % 2) * 128 + lo / 2) := by omega
  rw [e, s _ _ _ _ (by omega) (by decide)]
  have := half_byte ⟨hi % 2, by omega⟩ ⟨lo, hlo⟩
  simp only at this
  rw [this]
 have eb : ((256 * hi + lo) &&& (256 * M0 + 85)) = 256 * (hi &&& M0) + (lo &&& 85) := s _ _ _ _ hlo (by decide)
 unfold gp
 simp only
 rw [ea, eb]
 have ha1 : lo / 2 &&& 85 ≤ 85 := Nat.and_le_right
 have ha2 : lo &&& 85 ≤ 85 := Nat.and_le_right
 generalize lo / 2 &&& 85 = u at ha1 ⊢
 generalize lo &&& 85 = v at ha2 ⊢
 generalize hi / 2 &&& M0 = U
 generalize hi &&& M0 = V
 have e0 : 256 * U + u + (256 * V + v) = 256 * (U + V) + (u + v) := by omega
 rw [e0]
 have hl : u + v < 256 := by omega
 generalize u + v = p at hl ⊢
 generalize U + V = P
 have ec : ((256 * P + p) / 4 &&& (256 * M1 + 51)) = 256 * (P / 4 &&& M1) + (p / 4 &&& 51) := by
  have e : (256 * P + p) / 4 = 256 * (P / 4) + ((P % 4) * 64 + p / 4) := by omega
  rw [e, s _ _ _ _ (by omega) (by decide)]
  have := quart_byte ⟨P % 4, by omega⟩ ⟨p, hl⟩
  simp only at this
  rw [this]
 have ed : ((256 * P + p) &&& (256 * M1 + 51)) = 256 * (P &&& M1) + (p &&& 51) := s _ _ _ _ hl (by decide)
 rw [ec, ed]
 have nib : ∀ X, (X &&& M1) % 16 ≤ 3 := by
  intro X
  have e := and_split 4 (X / 16) (X % 16) (M1 / 16) (M1 % 16) (by omega) (by omega)
  rw [show 2 ^ 4 * (X / 16) + X % 16 = X from by omega, show 2 ^ 4 * (M1 / 16) + M1 % 16 = M1 from by omega] at e
  have := Nat.and_le_right (n := X % 16) (m := M1 % 16)
  omega
 have n1 := nib (P / 4)
 have n2 := nib P
 have q1 : p / 4 &&& 51 ≤ 51 := Nat.and_le_right
 have q2 : p &&& 51 ≤ 51 := Nat.and_le_right
 generalize p / 4 &&& 51 = x at q1 ⊢
 generalize p &&& 51 = y at q2 ⊢
 generalize P / 4 &&& M1 = X at n1 ⊢
 generalize P &&& M1 = Y at n2 ⊢
 have e1 : 256 * X + x + (256 * Y + y) = 256 * (X + Y) + (x + y) := by omega
 rw [e1]
 have hq : x + y < 120 := by omega
 have hQ : (X + Y) % 16 < 7 := by omega
 generalize x + y = q at hq ⊢
 generalize X + Y = Q at hQ ⊢
 have e2 : (256 * Q + q) / 16 + (256 * Q + q) = 256 * (Q / 16 + Q) + ((Q % 16) * 16 + q / 16 + q) := by omega
 rw [e2, s _ _ _ _ (by omega) (by decide)]
 have := nib_byte ⟨Q % 16, hQ⟩ ⟨q, hq⟩
 simp only at this
 rw [this]
theorem cnt_byte (hi lo n : Nat) (hlo : lo < 256) : cntF (256 * hi + lo).testBit (8 + n) = cntF lo.testBit 8 + cntF hi.testBit n := by
 rw [cntF_add]
 have e : ∀ i, (256 * hi + lo).testBit i = if i < 8 then lo.testBit i else hi.testBit (i - 8) := fun i => Nat.testBit_two_pow_mul_add hi (i := 8) hlo i
 congr 1
 ·exact cntF_congr 8 (fun i hi => by rw [e, if_pos hi])
 ·exact cntF_congr n (fun i _ => by show (256 * hi + lo).testBit (8 + i) = _; rw [e, if_neg (by omega)]; congr 1; omega)
def popW (x : Nat) : Nat := cntF x.testBit 64
def popS (x : Nat) : Nat :=
 let c := gp 6148914691236517205 3689348814741910323 1085102592571150095 x
 let d := c + c / 256
 let e := d + d / 65536
 let f := e + e / 4294967296
 f % 128
theorem popS_eq (x : Nat) (h : x < 18446744073709551616) : popS x = popW x := by
 obtain ⟨b0, x1, h0, r0, k0⟩ : ∃ b y, b < 256 ∧ x = 256 * y + b ∧ y < 72057594037927936 := ⟨x % 256, x / 256, by omega, by omega, by omega⟩
 obtain ⟨b1, x2, h1, r1, k1⟩ : ∃ b y, b < 256 ∧ x1 = 256 * y + b ∧ y < 281474976710656 := ⟨x1 % 256, x1 / 256, by omega, by omega, by omega⟩
 obtain ⟨b2, x3, h2, r2, k2⟩ : ∃ b y, b < 256 ∧ x2 = 256 * y + b ∧ y < 1099511627776 := ⟨x2 % 256, x2 / 256, by omega, by omega, by omega⟩
 obtain ⟨b3, x4, h3, r3, k3⟩ : ∃ b y, b < 256 ∧ x3 = 256 * y + b ∧ y < 4294967296 := ⟨x3 % 256, x3 / 256, by omega, by omega, by omega⟩
 obtain ⟨b4, x5, h4, r4, k4⟩ : ∃ b y, b < 256 ∧ x4 = 256 * y + b ∧ y < 16777216 := ⟨x4 % 256, x4 / 256, by omega, by omega, by omega⟩
 obtain ⟨b5, x6, h5, r5, k5⟩ : ∃ b y, b < 256 ∧ x5 = 256 * y + b ∧ y < 65536 := ⟨x5 % 256, x5 / 256, by omega, by omega, by omega⟩
 obtain ⟨b6, b7, h6, r6, h7⟩ : ∃ b y, b < 256 ∧ x6 = 256 * y + b ∧ y < 256 := ⟨x6 % 256, x6 / 256, by omega, by omega, by omega⟩
 have g := fun (b : Nat) (hb : b < 256) => gp_byte ⟨b, hb⟩
 simp only at g
 have c := fun (b : Nat) => cntF_le b.testBit 8
 have E : gp 6148914691236517205 3689348814741910323 1085102592571150095 x =
   256 * (256 * (256 * (256 * (256 * (256 * (256 * cntF b7.testBit 8 + cntF b6.testBit 8) + cntF b5.testBit 8) + cntF b4.testBit 8) + cntF b3.testBit 8) + cntF b2.testBit 8) + cntF b1.testBit 8) + cntF b0.testBit 8 := by
  subst r0 r1 r2 r3 r4 r5 r6
  rw [gp_split 24019198012642645 14411518807585587 4238682002231055 _ b0 h0 (by decide), g b0 h0,
   gp_split 93824992236885 56294995342131 16557351571215 _ b1 h1 (by decide), g b1 h1,
   gp_split 366503875925 219902325555 64677154575 _ b2 h2 (by decide), g b2 h2,
   gp_split 1431655765 858993459 252645135 _ b3 h3 (by decide), g b3 h3,
   gp_split 5592405 3355443 986895 _ b4 h4 (by decide), g b4 h4,
   gp_split 21845 13107 3855 _ b5 h5 (by decide), g b5 h5,
   gp_split 85 51 15 _ b6 h6 (by decide), g b6 h6, g b7 h7]
 have P : popW x = cntF b0.testBit 8 + (cntF b1.testBit 8 + (cntF b2.testBit 8 + (cntF b3.testBit 8 + (cntF b4.testBit 8 + (cntF b5.testBit 8 + (cntF b6.testBit 8 + cntF b7.testBit 8)))))) := by
  subst r0 r1 r2 r3 r4 r5 r6
  unfold popW
  rw [show 64 = 8 + 56 from rfl, cnt_byte _ _ _ h0, show 56 = 8 + 48 from rfl, cnt_byte _ _ _ h1, show 48 = 8 + 40 from rfl, cnt_byte _ _ _ h2, show 40 = 8 + 32 from rfl, cnt_byte _ _ _ h3,
   show 32 = 8 + 24 from rfl, cnt_byte _ _ _ h4, show 24 = 8 + 16 from rfl, cnt_byte _ _ _ h5, show 16 = 8 + 8 from rfl, cnt_byte _ _ _ h6]
 rw [P]
 unfold popS
 simp only
 rw [E]
 have l0 := c b0; have l1 := c b1; have l2 := c b2; have l3 := c b3; have l4 := c b4; have l5 := c b5; have l6 := c b6; have l7 := c b7
 generalize cntF b0.testBit 8 = p0 at *; generalize cntF b1.testBit 8 = p1 at *; generalize cntF b2.testBit 8 = p2 at *; generalize cntF b3.testBit 8 = p3 at *
 generalize cntF b4.testBit 8 = p4 at *; generalize cntF b5.testBit 8 = p5 at *; generalize cntF b6.testBit 8 = p6 at *; generalize cntF b7.testBit 8 = p7 at *
 clear E P g c r0 r1 r2 r3 r4 r5 r6 k0 k1 k2 k3 k4 k5 h h0 h1 h2 h3 h4 h5 h6 h7
 have d1 : (256 * (256 * (256 * (256 * (256 * (256 * (256 * p7 + p6) + p5) + p4) + p3) + p2) + p1) + p0) / 256 = 256 * (256 * (256 * (256 * (256 * (256 * p7 + p6) + p5) + p4) + p3) + p2) + p1 := by omega
 rw [d1]
 have d2 : 256 * (256 * (256 * (256 * (256 * (256 * (256 * p7 + p6) + p5) + p4) + p3) + p2) + p1) + p0 + (256 * (256 * (256 * (256 * (256 * (256 * p7 + p6) + p5) + p4) + p3) + p2) + p1) =
   65536 * (65536 * (65536 * (256 * p7 + (p7 + p6)) + (256 * (p6 + p5) + (p5 + p4))) + (256 * (p4 + p3) + (p3 + p2))) + (256 * (p2 + p1) + (p1 + p0)) := by omega
 rw [d2]
 generalize hA : 256 * p7 + (p7 + p6) = A
 generalize hB : 256 * (p6 + p5) + (p5 + p4) = B
 generalize hC : 256 * (p4 + p3) + (p3 + p2) = C
 generalize hD : 256 * (p2 + p1) + (p1 + p0) = D
 have bD : D < 65536 := by omega
 have bC : C < 65536 := by omega
 have bB : B < 65536 := by omega
 have d3 : (65536 * (65536 * (65536 * A + B) + C) + D) / 65536 = 65536 * (65536 * A + B) + C := by omega
 rw [d3]
 have d4 : 65536 * (65536 * (65536 * A + B) + C) + D + (65536 * (65536 * A + B) + C) = 4294967296 * (65536 * A + (A + B)) + (65536 * (B + C) + (C + D)) := by omega
 rw [d4]
 have bX : 65536 * (B + C) + (C + D) < 4294967296 := by omega
 have d5 : (4294967296 * (65536 * A + (A + B)) + (65536 * (B + C) + (C + D))) / 4294967296 = 65536 * A + (A + B) := by omega
 rw [d5]
 omega
theorem low_bit (t m : Nat) (ht : t < 64) (h : 2 ^ t * (2 * m + 1) < 18446744073709551616) : (2 ^ t * (2 * m + 1)) &&& (18446744073709551616 - 2 ^ t * (2 * m + 1)) = 2 ^ t := by
 have hp : 0 < 2 ^ t := Nat.pow_pos (by decide)
 have ex : 2 ^ t * (2 * m + 1) = 2 ^ (t + 1) * m + 2 ^ t := by rw [Nat.pow_succ, Nat.mul_add, Nat.mul_one, Nat.mul_assoc]
 have hlt : 2 ^ t < 2 ^ (t + 1) := by rw [Nat.pow_succ]; omega
 rw [ex] at h ⊢
 have en : 18446744073709551616 - (2 ^ (t + 1) * m + 2 ^ t) = 2 ^ 64 - ((2 ^ (t + 1) * m + (2 ^ t - 1)) + 1) := by omega
 apply Nat.eq_of_testBit_eq
 intro i
 rw [en, Nat.testBit_and, Nat.testBit_two_pow_sub_succ (by omega), Nat.testBit_two_pow_mul_add _ hlt, Nat.testBit_two_pow_mul_add _ (by omega : 2 ^ t - 1 < 2 ^ (t + 1)), Nat.testBit_two_pow, Nat.testBit_two_pow_sub_one]
 by_cases h1 : i < t + 1
 ·rw [if_pos h1, if_pos h1]
  by_cases h2 : t = i
  ·subst h2; simp [ht]
  ·simp [h2]
 ·rw [if_neg h1, if_neg h1]
  have : ¬ t = i := by omega
  cases hb : m.testBit (i - (t + 1)) <;> simp [this]
theorem odd_part : ∀ (f x : Nat), x ≠ 0 → x < 2 ^ f → ∃ t m, x = 2 ^ t * (2 * m + 1) ∧ t < f
 | 0, x, h0, h => by omega
 | f + 1, x, h0, h => by
  by_cases hx : x % 2 = 1
  ·exact ⟨0, x / 2, by omega, by omega⟩
  ·obtain ⟨t, m, e, ht⟩ := odd_part f (x / 2) (by omega) (by rw [Nat.pow_succ] at h; omega)
   refine ⟨t + 1, m, ?_, by omega⟩
   rw [Nat.pow_succ, Nat.mul_right_comm, ← e]; omega
theorem odd_bit (t m i : Nat) (h : i < t) : (2 ^ t * (2 * m + 1)).testBit i = false := by
 rw [show 2 ^ t * (2 * m + 1) = 2 ^ t * (2 * m + 1) + 0 from rfl, Nat.testBit_two_pow_mul_add _ (Nat.pow_pos (by decide)), if_pos h]; simp
theorem odd_here (t m : Nat) : (2 ^ t * (2 * m + 1)).testBit t = true := by
 rw [show 2 ^ t * (2 * m + 1) = 2 ^ t * (2 * m + 1) + 0 from rfl, Nat.testBit_two_pow_mul_add _ (Nat.pow_pos (by decide)), if_neg (by omega)]; simp [Nat.testBit_zero]
def ownM (many n : Nat) : Nat := 18446744073709551615 / 2 ^ ((n + 1) * 64 - many)
theorem ownM_bit (many n j : Nat) (hj : j < 64) : (ownM many n).testBit j = decide (n * 64 + j < many) := by
 unfold ownM
 rw [Nat.testBit_div_two_pow, show 18446744073709551615 = 2 ^ 64 - 1 from rfl, Nat.testBit_two_pow_sub_one]
 exact decide_eq_decide.2 ⟨fun h => by omega, fun h => by omega⟩
theorem ownM_small (many n : Nat) : ownM many n < 18446744073709551616 := by
 unfold ownM
 exact Nat.lt_of_le_of_lt (Nat.div_le_self _ _) (by decide)
theorem pop_own (w many n : Nat) : popW (w &&& ownM many n) = cntF (fun j => decide (n * 64 + j < many) && w.testBit j) 64 := by
 unfold popW
 refine cntF_congr 64 (fun i hi => ?_)
 rw [Nat.testBit_and, ownM_bit _ _ _ hi, Bool.and_comm]
def nghts (many n w : Nat) : Nat := ownM many n &&& (18446744073709551615 - w)
theorem nghts_small (many n w : Nat) : nghts many n w < 18446744073709551616 := Nat.lt_of_le_of_lt Nat.and_le_left (ownM_small _ _)
theorem nghts_bit (many n w j : Nat) (hw : w < 18446744073709551616) (hj : j < 64) : (nghts many n w).testBit j = (decide (n * 64 + j < many) && !w.testBit j) := by
 unfold nghts
 rw [Nat.testBit_and, ownM_bit _ _ _ hj, show 18446744073709551615 - w = 2 ^ 64 - (w + 1) from by omega, Nat.testBit_two_pow_sub_succ hw]
 simp [hj]
end Go.Grommet
end
