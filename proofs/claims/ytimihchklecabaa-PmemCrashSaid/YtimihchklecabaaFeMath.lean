/- Words that are stored and flushed, and what a fence makes of them. -/
import Derived.Test.YtimihchklecabaaPkMath
import Derived.Test.YtimihchklecabaaHeap
namespace Go.Grommet
open Go.RowKit

/-- A tracker of a word: kept: what stood there at the last flush; seen; again: was it stored since? -/
def PW.t1 (c : PW) : PW := { c with kept := c.seen, again := false }
def PW.t2 (v : Nat) (c : PW) : PW := { c with seen := v, again := true }
structure Rel (c t : PW) : Prop where
  seen : c.seen = t.seen
  sure : c.sure = 0
  same : t.again = false → t.kept = t.seen
  way : (c.flushed = true ∧ c.kept = t.kept ∧ c.again = t.again ∧ c.loose = true) ∨ (c.flushed = false ∧ t.kept = 0 ∧ c.loose = t.again ∧ c.again = false)
theorem Rel.zero : Rel PW.nought PW.nought := ⟨rfl, rfl, fun _ => rfl, .inr ⟨rfl, rfl, rfl, rfl⟩⟩
theorem Rel.store {c t : PW} (h : Rel c t) (v : Nat) : Rel (c.store v) (t.t2 v) := by
  refine ⟨rfl, h.sure, fun e => by simp [PW.t2] at e, ?_⟩
  rcases h.way with ⟨h1, h2, h3, h4⟩ | ⟨h1, h2, h3, h4⟩
  · exact .inl ⟨h1, h2, h1, rfl⟩
  · exact .inr ⟨h1, h2, rfl, h1⟩
theorem Rel.flush {c t : PW} (h : Rel c t) : Rel c.flush t.t1 := by
  rcases h.way with ⟨h1, h2, h3, h4⟩ | ⟨h1, h2, h3, h4⟩
  · unfold PW.flush
    rw [if_pos h4]
    exact ⟨h.seen, h.sure, fun _ => rfl, .inl ⟨rfl, h.seen, rfl, rfl⟩⟩
  · unfold PW.flush
    cases hl : c.loose with
    | true => rw [if_pos rfl]; exact ⟨h.seen, h.sure, fun _ => rfl, .inl ⟨rfl, h.seen, rfl, rfl⟩⟩
    | false =>
      rw [if_neg (by simp)]
      rw [hl] at h3
      have hk := h.same h3.symm
      exact ⟨h.seen, h.sure, fun _ => rfl, .inr ⟨h1, by show t.seen = 0; rw [← hk, h2], hl, h4⟩⟩
theorem Rel.fence {c t : PW} (h : Rel c t) : c.fence.sure = t.kept ∧ c.fence.seen = t.seen ∧ c.fence.loose = t.again ∧ c.fence.Fair := by
  rcases h.way with ⟨h1, h2, h3, h4⟩ | ⟨h1, h2, h3, h4⟩
  · unfold PW.fence
    rw [if_pos h1]
    refine ⟨h2, h.seen, h3, fun e => ?_⟩
    have e : c.again = false := e
    rw [h3] at e
    show c.kept = c.seen
    rw [h2, h.seen]; exact h.same e
  · unfold PW.fence
    rw [if_neg (by rw [h1]; decide)]
    refine ⟨by rw [h.sure, h2], h.seen, h3, fun e => ?_⟩
    rw [h3] at e
    rw [h.sure, h.seen, ← h.same e, h2]

structure Rels (ws ts : List PW) : Prop where
  len : ws.length = ts.length
  rel : ∀ (k : Nat) (c t : PW), ws[k]? = some c → ts[k]? = some t → Rel c t
theorem Rels.turn {f g : PW → PW} {a m : Nat} {ws ts : List PW} (h : Rels ws ts) (hf : ∀ c t, Rel c t → Rel (f c) (g t)) : Rels (turnFrom f a m ws) (turnFrom g a m ts) := by
  refine ⟨by rw [turnFrom_len, turnFrom_len, h.len], fun k c t hc ht => ?_⟩
  rw [turnFrom_get] at hc ht
  by_cases hk : a ≤ k ∧ k < a + m
  · rw [if_pos hk] at hc ht
    cases hw : ws[k]? with
    | none => rw [hw] at hc; cases hc
    | some c0 =>
      cases ht' : ts[k]? with
      | none => rw [ht'] at ht; cases ht
      | some t0 => rw [hw] at hc; rw [ht'] at ht; cases hc; cases ht; exact hf _ _ (h.rel k _ _ hw ht')
  · rw [if_neg hk] at hc ht
    exact h.rel k _ _ hc ht
theorem Rels.modify {f g : PW → PW} {a : Nat} {ws ts : List PW} (h : Rels ws ts) (hf : ∀ c t, Rel c t → Rel (f c) (g t)) : Rels (ws.modify a f) (ts.modify a g) := by
  have e : ∀ (f : PW → PW) (l : List PW), l.modify a f = turnFrom f a 1 l := fun f l => rfl
  rw [e, e]; exact h.turn hf
theorem map_set_of {α : Type} (g : PW → α) {f : PW → PW} {ts : List PW} {p : Nat} {c : PW} (hc : ts[p]? = some c) : (ts.modify p f).map g = (ts.map g).set p (g (f c)) := by
  apply List.ext_getElem?
  intro k
  rw [List.getElem?_map, List.getElem?_modify]
  by_cases e : p = k
  · subst e
    rw [List.getElem?_set_self (by rw [List.length_map]; exact (List.getElem?_eq_some_iff.1 hc).1), hc]; simp
  · rw [List.getElem?_set_ne e, List.getElem?_map]
    cases ts[k]? <;> simp [e]
theorem map_same_of {α : Type} (g : PW → α) {f : PW → PW} {ts : List PW} {p : Nat} (h : ∀ c, g (f c) = g c) : (ts.modify p f).map g = ts.map g := by
  apply List.ext_getElem?
  intro k
  rw [List.getElem?_map, List.getElem?_modify, List.getElem?_map]
  cases ts[k]? with
  | none => rfl
  | some c => by_cases e : p = k <;> simp [e, h]
theorem Rels.fence {ws ts : List PW} (h : Rels ws ts) : (ws.map PW.fence).map (·.sure) = ts.map (·.kept) ∧ (ws.map PW.fence).map (·.seen) = ts.map (·.seen) ∧ looseOf (ws.map PW.fence) = (ts.filter (·.again)).length ∧ Fairs (ws.map PW.fence) := by
  have key : ∀ {α : Type} (g1 g2 : PW → α), (∀ c t, Rel c t → g1 c.fence = g2 t) → (ws.map PW.fence).map g1 = ts.map g2 := by
    intro α g1 g2 hg
    apply List.ext_getElem?
    intro k
    rw [List.getElem?_map, List.getElem?_map, List.getElem?_map]
    cases hw : ws[k]? with
    | none =>
      have := List.getElem?_eq_none_iff.1 hw
      rw [List.getElem?_eq_none (by rw [← h.len]; exact this)]; rfl
    | some c =>
      have hlt := (List.getElem?_eq_some_iff.1 hw).1
      have ht : ts[k]? = some (ts[k]'(by rw [← h.len]; exact hlt)) := List.getElem?_eq_getElem _
      rw [ht]
      show some (g1 c.fence) = some (g2 _)
      rw [hg c _ (h.rel k c _ hw ht)]
  refine ⟨key _ _ (fun c t r => r.fence.1), key _ _ (fun c t r => r.fence.2.1), ?_, ?_⟩
  · have hb := key (·.loose) (·.again) (fun c t r => r.fence.2.2.1)
    have hcount : ∀ (g : PW → Bool) (l : List PW), (l.filter g).length = ((l.map g).filter (fun b => b)).length := by
      intro g l
      rw [List.filter_map, List.length_map]; rfl
    unfold looseOf
    rw [hcount (·.loose), hcount (·.again), hb]
  · intro k c hc
    rw [List.getElem?_map] at hc
    cases hw : ws[k]? with
    | none => rw [hw] at hc; cases hc
    | some c0 =>
      rw [hw] at hc; cases hc
      have hlt := (List.getElem?_eq_some_iff.1 hw).1
      exact (h.rel k c0 _ hw (List.getElem?_eq_getElem (by rw [← h.len]; exact hlt))).fence.2.2.2
/-- A store into a variable of the call's own. -/
theorem own_boxset {w0 w : World} {Ps : List Pr} (h : Grommet.Own w0 w Ps) (k : Nat) {X : Nat} {T : TypeId} {cs : List Value} (hk : Ps[k]? = some (boxP X T cs.toArray)) (o : Nat) (u : Value) : Grommet.Own w0 (w.setCell ⟨X, o, none⟩ u) (Ps.set k (boxP X T (cs.set o u).toArray)) := by
  obtain ⟨F, h1, h2⟩ := h.take k hk
  refine h2 _ _ ⟨F, ⟨row_set h1.1 o u, h1.2.1, fun i hi => Nat.lt_of_lt_of_le (h1.2.2 i hi) (by simp [World.setCell])⟩, fun i hi => .inl hi, Turn.of (grown_setCell _ _ _) (fun i e => by cases e; exact h1.2.1)⟩
theorem filter_take_succ (ts : List PW) (j : Nat) (t : PW) (ht : ts[j]? = some t) : ((ts.take (j + 1)).filter (·.again)).length = ((ts.take j).filter (·.again)).length + (if t.again then 1 else 0) := by
  rw [List.take_add_one, ht, List.filter_append, List.length_append]
  cases ha : t.again <;> simp [ha]
end Go.Grommet
