/- A region that draws its order: whatever the order, what the plan comes to. -/
import Derived.Test.YtmoddhfemejekaaEvO
namespace Go.Ev

/-- Directly ahead. -/
def Dir (ops : Array Oper) (i j : Nat) : Prop := ∃ o, ops[j]? = some o ∧ ∃ e ∈ o.after, Region.binds .any e = true ∧ e.on = i
inductive Bef (ops : Array Oper) : Nat → Nat → Prop where
  | one {i j : Nat} (h : Dir ops i j) : Bef ops i j
  | more {i k j : Nat} (h : Dir ops k j) (hk : Bef ops i k) : Bef ops i j
theorem maskEdges_spec (acc : Array Nat) (i : Nat) : ∀ l : List Edge, (maskEdges acc l).testBit i = true → ∃ e ∈ l, Region.binds .any e = true ∧ (e.on = i ∨ (acc.getD e.on 0).testBit i = true)
  | [], h => by simp [maskEdges] at h
  | e :: l, h => by
    unfold maskEdges at h
    split at h
    · rename_i hb
      simp only [Nat.testBit_or, Bool.or_eq_true, Nat.testBit_two_pow, decide_eq_true_eq] at h
      rcases h with (h | h) | h
      · exact ⟨e, by simp, hb, .inl h⟩
      · exact ⟨e, by simp, hb, .inr h⟩
      · obtain ⟨e', h1, h2⟩ := maskEdges_spec acc i l h
        exact ⟨e', by simp [h1], h2⟩
    · obtain ⟨e', h1, h2⟩ := maskEdges_spec acc i l h
      exact ⟨e', by simp [h1], h2⟩
theorem masksGo_spec (ops : Array Oper) : ∀ (l pre : List Oper) (acc : Array Nat), ops.toList = pre ++ l → acc.size = pre.length → (∀ j i, (acc.getD j 0).testBit i = true → Bef ops i j) → ∀ j i, ((masksGo l acc).getD j 0).testBit i = true → Bef ops i j
  | [], pre, acc, _, _, h => h
  | o :: l, pre, acc, he, hs, h => by
    unfold masksGo
    refine masksGo_spec ops l (pre ++ [o]) _ (by simp [he]) (by simp [hs]) ?_
    intro j i hj
    by_cases e : j = acc.size
    · subst e
      rw [Array.getD_eq_getD_getElem?, Array.getElem?_push_size] at hj
      obtain ⟨ed, h1, h2, h3⟩ := maskEdges_spec _ _ _ hj
      have hd : ∀ k, ed.on = k → Dir ops k acc.size := fun k hk => ⟨o, by rw [← Array.getElem?_toList, he, hs]; simp, ed, by simpa using h1, h2, hk⟩
      rcases h3 with h3 | h3
      · exact .one (hd i h3)
      · exact .more (hd _ rfl) (h _ _ h3)
    · have : (acc.push (maskEdges acc o.after.toList)).getD j 0 = acc.getD j 0 := by
        rw [Array.getD_eq_getD_getElem?, Array.getD_eq_getD_getElem?, Array.getElem?_push, if_neg e]
      rw [this] at hj
      exact h j i hj
theorem masks_spec {ops : Array Oper} {j i : Nat} (h : ((masks ops).getD j 0).testBit i = true) : Bef ops i j :=
  masksGo_spec ops ops.toList [] #[] (by simp) rfl (fun j i h => by simp at h) j i h
theorem bef_closed {ops : Array Oper} {l : Array Bool} (hcl : ∀ j, l.getD j false = true → ∀ i, Dir ops i j → l.getD i false = true) {i j : Nat} (h : Bef ops i j) (hj : ∀ i, Dir ops i j → l.getD i false = true) : l.getD i false = true := by
  induction h with
  | one h => exact hj _ h
  | more h _ ih => exact ih (fun i hi => hcl _ (hj _ h) i hi)
theorem ready_iff {ops : Array Oper} {l : Array Bool} (hs : l.size = ops.size) {j : Nat} : j ∈ Region.ready .any ops l ↔ j < ops.size ∧ l.getD j false = false ∧ ∀ i, Dir ops i j → l.getD i false = true := by
  rw [mem_ready]
  constructor
  · rintro ⟨h1, o, h2, h3⟩
    have hl : j < ops.size := (Array.getElem?_eq_some_iff.1 h2).1
    refine ⟨hl, ?_, ?_⟩
    · rw [Array.getD_eq_getD_getElem?] at h1 ⊢
      rw [Array.getElem?_eq_getElem (by omega)] at h1 ⊢
      exact h1
    · rintro i ⟨o', h4, e, h5, h6, rfl⟩
      rw [h2] at h4
      cases h4
      exact h3 e h5 h6
  · rintro ⟨hl, h1, h3⟩
    refine ⟨?_, ops[j], Array.getElem?_eq_getElem hl, fun e he hb => h3 e.on ⟨ops[j], Array.getElem?_eq_getElem hl, e, he, hb, rfl⟩⟩
    rw [Array.getD_eq_getD_getElem?] at h1 ⊢
    rw [Array.getElem?_eq_getElem (by omega)] at h1 ⊢
    exact h1
theorem set_getD {l : Array Bool} {i j : Nat} (hi : i < l.size) : (l.setIfInBounds i true).getD j false = true ↔ j = i ∨ l.getD j false = true := by
  rw [Array.getD_eq_getD_getElem?, Array.getD_eq_getD_getElem?, Array.getElem?_setIfInBounds]
  by_cases e : i = j
  · subst e; simp [hi]
  · rw [if_neg e]
    constructor
    · exact .inr
    · rintro (h | h)
      · exact absurd h.symm e
      · exact h

/-! ### What is read stays read where more is made -/
section
variable {P : Program} {gl : Nat → Option Nat}
theorem cell_mono {H H' : Hp} (h : ∀ n o, H.get n = some o → H'.get n = some o) {n off : Nat} {v : V} (hc : H.cell n off = some v) : H'.cell n off = some v := by
  unfold Hp.cell at hc ⊢
  split at hc
  · rename_i hg; rw [h _ _ hg]; exact hc
  · cases hc
theorem cellsAt_mono {H H' : Hp} (h : ∀ n o, H.get n = some o → H'.get n = some o) {n : Nat} : ∀ {k off : Nat} {l : List V}, H.cellsAt n off k = some l → H'.cellsAt n off k = some l
  | 0, _, _, hc => hc
  | k + 1, off, l, hc => by
    unfold Hp.cellsAt at hc ⊢
    split at hc
    · rename_i v hv
      rw [cell_mono h hv]
      simp only
      split at hc
      · rename_i l' hl
        rw [cellsAt_mono h hl]
        exact hc
      · cases hc
    · cases hc
theorem loadV_mono {H H' : Hp} (h : ∀ n o, H.get n = some o → H'.get n = some o) {t : TypeId} {n off : Nat} {v : V} (hc : loadV P H t n off = some v) : loadV P H' t n off = some v := by
  unfold loadV at hc ⊢
  split at hc
  · split at hc
    · split at hc
      · rename_i l hl
        rw [cellsAt_mono h hl]
        exact hc
      · cases hc
    · cases hc
  · exact cell_mono h hc
  · cases hc
theorem readV_mono {H H' : Hp} (h : ∀ n o, H.get n = some o → H'.get n = some o) {tm : List V} {o : Op} {v : V} (hc : readV P gl tm H o = some v) : readV P gl tm H' o = some v := by
  unfold readV at hc ⊢
  split at hc
  · split at hc
    · exact loadV_mono h hc
    · cases hc
  · split at hc
    · exact hc
    · split at hc
      · rename_i hg; rw [h _ _ hg]; exact hc
      · cases hc
    · cases hc
  · split at hc
    · exact hc
    · rename_i n off len c ex _ _ _
      cases hl : H.cellsAt n off len with
      | none =>
        rw [hl] at hc
        split at hc <;> simp at hc
      | some l =>
        rw [hl] at hc
        rw [cellsAt_mono h hl]
        exact hc
    · cases hc
  · split at hc
    · split at hc
      · rename_i hg; rw [h _ _ hg]; exact hc
      · cases hc
    · cases hc
  · cases hc
theorem sameV_eq : ∀ {a b : V}, sameV a b = true → a = b := by
  intro a
  induction a <;> intro b h <;> cases b <;> simp only [sameV, Bool.and_eq_true, beq_iff_eq, Bool.false_eq_true] at h
  all_goals first | rfl | skip
  all_goals simp_all
  case fn.fn f x y ihx ihy g c d => exact ⟨ihx h.1.2, ihy h.2⟩
  case cons.cons x y ihx ihy c d => exact ⟨ihx h.1, ihy h.2⟩
  case agg.agg x ih c => exact ih h
  case tup.tup x ih c => exact ih h
theorem still_spec {ms : Array Nat} {j : Nat} {H : Hp} : ∀ {l : List Read}, stillV P gl ms j H l = true → ∀ r ∈ l, (ms.getD j 0).testBit r.i = true ∨ readV P gl r.tm H r.o = some r.v
  | [], _, r, hr => by simp at hr
  | x :: l, h, r, hr => by
    simp only [stillV, Bool.and_eq_true, Bool.or_eq_true] at h
    rcases List.mem_cons.1 hr with rfl | hr
    · rcases h.1 with h1 | h1
      · exact .inl h1
      · right
        split at h1
        · rename_i v hv
          rw [hv, sameV_eq h1]
        · cases h1
    · exact still_spec h.2 r hr
end
end Go.Ev
