/- Things of a call's own, side by side. -/
import Derived.Test.YtdpkpphjpihhkaaApp
import Derived.IntWalk
namespace Go.Grommet
open Go.RowKit

/-- A thing in memory: what it is, in which blocks; it stays where these stay. -/
structure Pr where
  holds : World → (Nat → Prop) → Prop
  turn : ∀ {w w' : World} {F H : Nat → Prop}, holds w F → Turn H w w' → (∀ i, F i → ¬ H i) → holds w' F
  old : ∀ {w : World} {F : Nat → Prop}, holds w F → ∀ i, F i → i < w.heap.size

/-- These things were made since w0, each in blocks of its own; nothing old has turned. -/
def Own (w0 w : World) (Ps : List Pr) : Prop :=
  ∃ Fs : Nat → Nat → Prop, (∀ (k : Nat) (P : Pr), Ps[k]? = some P → P.holds w (Fs k)) ∧ (∀ j k, j < Ps.length → k < Ps.length → j ≠ k → ∀ i, Fs j i → ¬ Fs k i) ∧ (∀ k, k < Ps.length → ∀ i, Fs k i → w0.heap.size ≤ i) ∧ w0.grownBy w none

def upd (Fs : Nat → Nat → Prop) (k : Nat) (F : Nat → Prop) (j : Nat) : Nat → Prop := if j = k then F else Fs j
theorem upd_same (Fs : Nat → Nat → Prop) (k : Nat) (F : Nat → Prop) : upd Fs k F k = F := by unfold upd; rw [if_pos rfl]
theorem upd_ne (Fs : Nat → Nat → Prop) {k j : Nat} (F : Nat → Prop) (h : j ≠ k) : upd Fs k F j = Fs j := by unfold upd; rw [if_neg h]

/-- What a call does with a thing: its blocks, and new ones, alone. -/
def DoesP (F : Nat → Prop) (w w' : World) (P : Pr) : Prop := ∃ F', P.holds w' F' ∧ (∀ i, F' i → F i ∨ w.heap.size ≤ i) ∧ Turn F w w'

theorem Own.nil (w : World) : Own w w [] := ⟨fun _ _ => False, fun k P h => by simp at h, fun _ _ _ _ _ _ h => h.elim, fun _ _ _ h => h.elim, World.grownBy.refl _ _⟩
theorem Own.grown {w0 w : World} {Ps : List Pr} (h : Own w0 w Ps) : w0.grownBy w none := by obtain ⟨_, _, _, _, hg⟩ := h; exact hg
theorem Own.get {w0 w : World} {Ps : List Pr} (h : Own w0 w Ps) (k : Nat) {P : Pr} (hk : Ps[k]? = some P) : ∃ F, P.holds w F := by
  obtain ⟨Fs, h1, _⟩ := h
  exact ⟨Fs k, h1 k P hk⟩
theorem Own.quiet {w0 w w' : World} {Ps : List Pr} (h : Own w0 w Ps) (hg : w.grownBy w' none) : Own w0 w' Ps := by
  obtain ⟨Fs, h1, h2, h3, h4⟩ := h
  exact ⟨Fs, fun k P hk => P.turn (h1 k P hk) (Turn.of (F := fun _ => False) hg (fun _ e => by cases e)) (fun _ _ e => e), h2, h3, grown_trans h4 hg⟩
/-- A thing, and what becomes of all when it is turned. -/
theorem Own.take {w0 w : World} {Ps : List Pr} (h : Own w0 w Ps) (k : Nat) {P : Pr} (hk : Ps[k]? = some P) :
    ∃ F, P.holds w F ∧ ∀ w' P', DoesP F w w' P' → Own w0 w' (Ps.set k P') := by
  obtain ⟨Fs, h1, h2, h3, h4⟩ := h
  refine ⟨Fs k, h1 k P hk, ?_⟩
  rintro w' P' ⟨F', d1, d2, d3⟩
  have hkl : k < Ps.length := (List.getElem?_eq_some_iff.1 hk).1
  have hin : ∀ i, Fs k i → w0.heap.size ≤ i := h3 k hkl
  refine ⟨upd Fs k F', ?_, ?_, ?_, grown_turn h4 d3 hin⟩
  · intro j Q hQ
    by_cases hj : j = k
    · subst hj
      rw [upd_same]
      rw [List.getElem?_set_self hkl] at hQ
      cases hQ
      exact d1
    · rw [upd_ne _ _ hj]
      rw [List.getElem?_set_ne (fun e => hj e.symm)] at hQ
      exact Q.turn (h1 j Q hQ) d3 (h2 j k (List.getElem?_eq_some_iff.1 hQ).1 hkl hj)
  · intro j l hj hl hne i hi
    rw [List.length_set] at hj hl
    have oldOf : ∀ m, m < Ps.length → ∀ i, Fs m i → i < w.heap.size := fun m hm i hi => (Ps[m]).old (h1 m _ (by simp [hm])) i hi
    by_cases hjk : j = k
    · subst hjk
      rw [upd_same] at hi
      rw [upd_ne _ _ (fun e => hne e.symm)]
      rcases d2 i hi with e | e
      · exact h2 _ l hj hl hne i e
      · intro hl'; have := oldOf l hl i hl'; omega
    · rw [upd_ne _ _ hjk] at hi
      by_cases hlk : l = k
      · subst hlk
        rw [upd_same]
        intro hF
        rcases d2 i hF with e | e
        · exact h2 j _ hj hl hne i hi e
        · have := oldOf j hj i hi; omega
      · rw [upd_ne _ _ hlk]; exact h2 j l hj hl hne i hi
  · intro j hj i hi
    rw [List.length_set] at hj
    by_cases hjk : j = k
    · subst hjk
      rw [upd_same] at hi
      rcases d2 i hi with e | e
      · exact hin i e
      · exact Nat.le_trans h4.size e
    · rw [upd_ne _ _ hjk] at hi; exact h3 j hj i hi
/-- A thing that is new. -/
theorem Own.add {w0 w w' : World} {Ps : List Pr} (h : Own w0 w Ps) {P : Pr} {F : Nat → Prop} (hP : P.holds w' F) (hF : ∀ i, F i → w.heap.size ≤ i) (hg : w.grownBy w' none) : Own w0 w' (Ps ++ [P]) := by
  have hq := h.quiet hg
  obtain ⟨Fs, h1, h2, h3, h4⟩ := h
  have oldOf : ∀ m, m < Ps.length → ∀ i, Fs m i → i < w.heap.size := fun m hm i hi => (Ps[m]).old (h1 m _ (by simp [hm])) i hi
  refine ⟨upd Fs Ps.length F, ?_, ?_, ?_, hq.grown⟩
  · intro j Q hQ
    by_cases hj : j = Ps.length
    · subst hj
      rw [upd_same]
      rw [List.getElem?_append_right (Nat.le_refl _)] at hQ
      simp at hQ
      subst hQ
      exact hP
    · rw [upd_ne _ _ hj]
      have hjl : j < Ps.length := by
        have := (List.getElem?_eq_some_iff.1 hQ).1
        rw [List.length_append, List.length_singleton] at this
        omega
      rw [List.getElem?_append_left hjl] at hQ
      exact Q.turn (h1 j Q hQ) (Turn.of (F := fun _ => False) hg (fun _ e => by cases e)) (fun _ _ e => e)
  · intro j l hj hl hne i hi
    rw [List.length_append, List.length_singleton] at hj hl
    by_cases hjk : j = Ps.length
    · rw [hjk, upd_same] at hi
      rw [upd_ne _ _ (by omega)]
      intro hl'
      have := oldOf l (by omega) i hl'
      have := hF i hi
      omega
    · rw [upd_ne _ _ hjk] at hi
      by_cases hlk : l = Ps.length
      · rw [hlk, upd_same]
        intro hF'
        have := oldOf j (by omega) i hi
        have := hF i hF'
        omega
      · rw [upd_ne _ _ hlk]; exact h2 j l (by omega) (by omega) hne i hi
  · intro j hj i hi
    rw [List.length_append, List.length_singleton] at hj
    by_cases hjk : j = Ps.length
    · rw [hjk, upd_same] at hi
      exact Nat.le_trans h4.size (hF i hi)
    · rw [upd_ne _ _ hjk] at hi; exact h3 j (by omega) i hi
/-- Fewer things. -/
theorem Own.less {w0 w : World} {Ps Qs : List Pr} (h : Own w0 w (Ps ++ Qs)) : Own w0 w Ps := by
  obtain ⟨Fs, h1, h2, h3, h4⟩ := h
  refine ⟨Fs, fun k P hk => h1 k P ?_, fun j k hj hk => h2 j k (by rw [List.length_append]; omega) (by rw [List.length_append]; omega), fun k hk => h3 k (by rw [List.length_append]; omega), h4⟩
  rw [List.getElem?_append_left (List.getElem?_eq_some_iff.1 hk).1]
  exact hk

/-- A row of the call's own. -/
def rowP (e size : Nat) (v : Value) (n : Nat) (xs : List Value) : Pr where
  holds w F := w.ownsRow 0 e size v n xs ∧ (∀ i, v.ownBlock = some i → F i) ∧ ∀ i, F i → i < w.heap.size
  turn := fun h ht hn => ⟨ht.row h.1 (fun i hi => hn i (h.2.1 i hi)), h.2.1, fun i hi => Nat.lt_of_lt_of_le (h.2.2 i hi) ht.size⟩
  old := fun h => h.2.2
theorem Own.addRow {w0 w w' : World} {Ps : List Pr} (h : Own w0 w Ps) {e size n : Nat} {v : Value} {xs : List Value} (hr : w'.ownsRow w.heap.size e size v n xs) (hg : w.grownBy w' none) : Own w0 w' (Ps ++ [rowP e size v n xs]) :=
  h.add (F := fun i => v.ownBlock = some i) ⟨row_base hr (fun _ _ => Nat.zero_le _), fun _ hi => hi, fun i hi => row_old hr i hi⟩ (fun i hi => (hr.lt i hi).1) hg
theorem Own.row {w0 w : World} {Ps : List Pr} (h : Own w0 w Ps) (k : Nat) {e size n : Nat} {v : Value} {xs : List Value} (hk : Ps[k]? = some (rowP e size v n xs)) : w.ownsRow 0 e size v n xs := by
  obtain ⟨F, hF⟩ := h.get k hk
  exact hF.1

/-- A store into such a row. -/
theorem row_put' {w : World} {base e size n cap b : Nat} {xs : List Value} (h : w.ownsRow base e size (.slice (some ⟨b, 0, none⟩) n cap) n xs) (o : Nat) (u : Value) :
    (w.setCell ⟨b, o, none⟩ u).ownsRow base e size (.slice (some ⟨b, 0, none⟩) n cap) n (xs.set o u) := by
  obtain ⟨hl, h | ⟨g, cap', cur, he, hb, hh, hn, hm, hc, htk⟩⟩ := h
  · cases h.1
  · cases he
    refine ⟨by simpa using hl, .inr ⟨b, cap, cur.setIfInBounds o u, rfl, hb, heap_setCell_at hh u, hn, hm, by simpa using hc, ?_⟩⟩
    rw [Array.toList_setIfInBounds, List.take_set, htk]
theorem Own.store {w0 w : World} {Ps : List Pr} (h : Own w0 w Ps) (k : Nat) {e size n cap b : Nat} {xs : List Value} (hk : Ps[k]? = some (rowP e size (.slice (some ⟨b, 0, none⟩) n cap) n xs)) (o : Nat) (u : Value) :
    Own w0 (w.setCell ⟨b, o, none⟩ u) (Ps.set k (rowP e size (.slice (some ⟨b, 0, none⟩) n cap) n (xs.set o u))) := by
  obtain ⟨F, h1, h2⟩ := h.take k hk
  refine h2 _ _ ⟨F, ⟨row_put' h1.1 o u, h1.2.1, fun i hi => Nat.lt_of_lt_of_le (h1.2.2 i hi) (by simp [World.setCell])⟩, fun i hi => .inl hi, Turn.of (grown_setCell _ _ _) (fun i e => by cases e; exact h1.2.1 _ rfl)⟩
/-- A cell of such a row. -/
theorem Own.cell {w0 w : World} {Ps : List Pr} (h : Own w0 w Ps) (k : Nat) {e size n cap : Nat} {ad : Option Addr} {xs : List Value} (hk : Ps[k]? = some (rowP e size (.slice ad n cap) n xs)) (j : Nat) (v : Value) (hj : xs[j]? = some v) :
    ∃ b, ad = some ⟨b, 0, none⟩ ∧ w.cell? ⟨b, j, none⟩ = some v ∧ w.frozen? ⟨b, j, none⟩ = false ∧ n ≤ cap := by
  have hr := h.row k hk
  obtain ⟨hl, hr | ⟨g, cap', cur, he, _, hh, hn, hm, hc, htk⟩⟩ := hr
  · obtain ⟨_, rfl⟩ := hr
    rw [Nat.zero_mul] at hl
    obtain rfl := List.eq_nil_of_length_eq_zero hl
    simp at hj
  · cases he
    rw [← htk] at hj
    have hlt := (List.getElem?_eq_some_iff.1 hj).1
    rw [List.length_take] at hlt
    rw [List.getElem?_take, if_pos (by omega), Array.getElem?_toList] at hj
    exact ⟨g, rfl, by simp [World.cell?, hh, hj], by simp [World.frozen?, hh], hn⟩

/-- A variable of the call's own. -/
def boxP (X : Nat) (T : TypeId) (cs : Array Value) : Pr where
  holds w F := w.heap[X]? = some (.cells cs T (0, 0)) ∧ F X ∧ ∀ i, F i → i < w.heap.size
  turn := fun h ht hn => ⟨ht.obj h.1 (hn _ h.2.1), h.2.1, fun i hi => Nat.lt_of_lt_of_le (h.2.2 i hi) ht.size⟩
  old := fun h => h.2.2
theorem Own.box {w0 w : World} {Ps : List Pr} (h : Own w0 w Ps) (k : Nat) {X : Nat} {T : TypeId} {cs : Array Value} (hk : Ps[k]? = some (boxP X T cs)) : w.heap[X]? = some (.cells cs T (0, 0)) := by
  obtain ⟨F, hF⟩ := h.get k hk
  exact hF.1
theorem Own.addBox {w0 w : World} {Ps : List Pr} (h : Own w0 w Ps) (T : TypeId) (cs : Array Value) : Own w0 (w.alloc (.cells cs T)) (Ps ++ [boxP w.heap.size T cs]) :=
  h.add (P := boxP w.heap.size T cs) (F := fun i => i = w.heap.size) ⟨heap_alloc_new w _, rfl, fun i hi => by rw [hi]; simp⟩ (fun i hi => by rw [hi]; exact Nat.le_refl _) (World.grownBy_alloc w _ none)
theorem wrap_succ (v : Nat) (hv : v < 18446744073709551616) : IntKind.u64.wrap ((v : Int) + 1) = (((v + 1) % 18446744073709551616 : Nat) : Int) := by
  by_cases h : v + 1 < 18446744073709551616
  · rw [Nat.mod_eq_of_lt h, IntWalk.u64_in _ ⟨by omega, by omega⟩]; rfl
  · obtain rfl : v = 18446744073709551615 := by omega
    decide
end Go.Grommet
