/- What turns memory: as the model does it. -/
import Derived.Test.YtmoddhfemejekaaEvJ
namespace Go.Ev

section
variable {P : Program} {gl : Nat → Option Nat} {w0 w : World} {D : Nat → Prop} {ρ : Nat → Loc} {H : Hp}
theorem heap_setCell_at {w : World} {g o : Nat} {c : Array Value} {e : TypeId} {fz : Nat × Nat} (h : w.heap[g]? = some (.cells c e fz)) (v : Value) : (w.setCell ⟨g, o, none⟩ v).heap[g]? = some (.cells (c.setIfInBounds o v) e fz) := by
  have hl := (Array.getElem?_eq_some_iff.1 h).1
  simp only [World.setCell, Array.getElem?_modify, if_true, h]
  simp
theorem grown_setCell (w : World) (g o : Nat) (v : Value) : w.grownBy (w.setCell ⟨g, o, none⟩ v) (some g) :=
  ⟨rfl, rfl, rfl, by simp [World.setCell], fun k _ hk => by
    simp only [World.setCell, Array.getElem?_modify]
    rw [if_neg]
    rintro rfl
    exact hk rfl⟩
theorem r_store {w : World} {g o : Nat} {c : Array Value} {e : TypeId} {fz : Nat × Nat} (h : w.heap[g]? = some (.cells c e fz)) (ho : o < c.size) (hf : ¬ (fz.1 ≤ o ∧ o < fz.2)) {v : V} (h1 : v.one = true) (ρ : Nat → Loc) :
    (store ⟨g, o, none⟩ (v.val ρ)).run P w = .ok () (w.setCell ⟨g, o, none⟩ (v.val ρ)) := by
  have hc : w.cell? ⟨g, o, none⟩ = some c[o] := by simp [World.cell?, h, ho]
  have hz : w.frozen? ⟨g, o, none⟩ = false := by
    simp only [World.frozen?, h]
    simpa using hf
  unfold store
  cases v
  case raw x hx => cases x <;> first | (cases hx; done) | simp [V.val, V.cv, Sem.run, hc, hz]
  all_goals simp only [V.one, reduceCtorEq] at h1 <;> simp [V.val, V.cv, Sem.run, hc, hz]
theorem grown_some {a b c : World} {g : Nat} (h : a.grownBy b (some g)) (k : b.grownBy c (some g)) : a.grownBy c (some g) :=
  ⟨k.os.trans h.os, k.tape.trans h.tape, k.output.trans h.output, Nat.le_trans h.size k.size, fun i hi hn => (k.block i (Nat.lt_of_lt_of_le hi h.size) hn).trans (h.block i hi hn)⟩
theorem r_storeCells (g o : Nat) (e : TypeId) (fz : Nat × Nat) (ρ : Nat → Loc) : ∀ (vs : List V) (i : Nat) (c : Array Value) (w : World), w.heap[g]? = some (.cells c e fz) → (∀ j, j < c.size → ¬ (fz.1 ≤ j ∧ j < fz.2)) → (∀ v ∈ vs, v.one = true) → o + i + vs.length ≤ c.size →
    ∃ w' c', (storeCells ⟨g, o, none⟩ (vs.map (V.val ρ)) i).run P w = .ok () w' ∧ w'.heap[g]? = some (.cells c' e fz) ∧ c'.size = c.size ∧ (∀ j, c'[j]? = if o + i ≤ j ∧ j < o + i + vs.length then (vs.map (V.val ρ))[j - (o + i)]? else c[j]?) ∧ w.grownBy w' (some g)
  | [], i, c, w, h, _, _, _ => ⟨w, c, rfl, h, rfl, fun j => by rw [if_neg (by simp only [List.length_nil]; omega)], World.grownBy.refl _ _⟩
  | v :: vs, i, c, w, h, hf, h1, hl => by
    simp only [List.length_cons] at hl
    have hs := r_store (P := P) h (o := o + i) (by omega) (hf _ (by omega)) (h1 v (by simp)) ρ
    obtain ⟨w', c', a1, a2, a3, a4, a5⟩ := r_storeCells g o e fz ρ vs (i + 1) _ _ (heap_setCell_at (o := o + i) h (v.val ρ)) (fun j hj => hf j (by simpa using hj)) (fun u hu => h1 u (by simp [hu])) (by simp; omega)
    refine ⟨w', c', ?_, a2, by simpa using a3, fun j => ?_, grown_some (grown_setCell w g (o + i) _) a5⟩
    · simp only [List.map_cons, storeCells, Addr_add, Sem.run_bind, hs, Result.andThen_ok, a1]
    · rw [a4]
      by_cases hj : o + (i + 1) ≤ j ∧ j < o + (i + 1) + vs.length
      · rw [if_pos hj, if_pos (by simp only [List.length_cons]; omega), show j - (o + i) = (j - (o + (i + 1))) + 1 from by omega]
        rfl
      · rw [if_neg hj, Array.getElem?_setIfInBounds]
        by_cases ej : o + i = j
        · subst ej
          rw [if_pos rfl, if_pos (by omega), if_pos (by simp), Nat.sub_self]
          rfl
        · rw [if_neg ej, if_neg (by simp only [List.length_cons]; omega)]
theorem store_sound (hR : Rel gl w0 D ρ H w) {n off : Nat} {vs : List V} {H' : Hp} (h : H.store n off vs = some H') (hn : D n) (hv : ∀ v ∈ vs, v.In D ρ) :
    H'.next = H.next ∧ (∀ m, m ≠ n → H'.get m = H.get m) ∧ ∃ w', (storeCells ⟨(ρ n).blk, (ρ n).base + off, none⟩ (vs.map (V.val ρ)) 0).run P w = .ok () w' ∧ Rel gl w0 D ρ H' w' := by
  unfold Hp.store at h
  split at h
  · rename_i size ov base g hg
    split at h
    · rename_i ov' hp
      simp only [Option.some.injEq] at h
      subst h
      obtain ⟨p1, p2, p3⟩ := putCells_one vs size ov off ov' hp
      obtain ⟨c, e, fz, hh, hc, hw, _⟩ := hR.ob n _ hn hg
      obtain ⟨w1, w2, w3, w4⟩ := hw rfl
      have hlen : vs = [] ∨ off + vs.length ≤ size := by
        cases vs with
        | nil => exact .inl rfl
        | cons v l => have := p2 l.length (by simp); exact .inr (by simp only [List.length_cons]; omega)
      refine ⟨rfl, fun m hm => by rw [Hp.get_set (Hp.get_lt hg), if_neg hm], ?_⟩
      rcases hlen with rfl | hlen
      · have he : ov' = ov := by simpa [putCells] using hp.symm
        subst he
        refine ⟨w, rfl, ?_⟩
        refine hR.turn hn hg rfl (World.grownBy.refl _ _) (hR.ob n _ hn hg)
      · obtain ⟨w', c', a1, a2, a3, a4, a5⟩ := r_storeCells (P := P) (ρ n).blk ((ρ n).base + off) e fz ρ vs 0 c w hh w3 p1 (by omega)
        refine ⟨w', a1, hR.turn hn hg rfl a5 ⟨c', e, fz, a2, fun i v hi => ?_, fun _ => ⟨w1, by omega, fun i hi => w3 i (by omega), fun hg => by rw [a3]; exact w4 hg⟩, by simp⟩⟩
        unfold cellOf at hi
        split at hi
        · rename_i his
          rw [p3] at hi
          rw [a4]
          by_cases hin : off ≤ i ∧ i < off + vs.length
          · rw [if_pos hin] at hi
            rw [if_pos (by omega), show (ρ n).base + i - ((ρ n).base + off + 0) = i - off from by omega]
            have hx : vs[i - off]? = some (vs[i - off]'(by omega)) := List.getElem?_eq_getElem (by omega)
            rw [hx] at hi
            simp only [Option.some.injEq] at hi
            rw [List.getElem?_map, hx, ← hi]
            exact ⟨rfl, hv _ (List.getElem_mem _), p1 _ (List.getElem_mem _)⟩
          · rw [if_neg hin] at hi
            rw [if_neg (by omega)]
            exact hc i v (by unfold cellOf; rw [if_pos his]; exact hi)
        · cases hi
    · cases h
  · cases h
theorem nx_same {H' : Hp} (hnext : H'.next = H.next) {n : Nat} (hn : D n) (h : ∀ m, m ≠ n → H'.get m = H.get m) : Nx D ρ H D ρ H' :=
  ⟨fun _ _ => rfl, fun m => ⟨.inl, fun e => e.elim id fun ⟨a, b⟩ => absurd b (by omega)⟩, by omega, fun m _ hd => h m (fun e => hd (e ▸ hn))⟩
theorem setObj_run {r : Nat} {o : Obj} (o' : Obj) (h : w.heap[r]? = some o) (hc : ∀ c e fz, o ≠ .cells c e fz) : ∃ w', (setObj r o').run P w = .ok () w' ∧ w'.heap[r]? = some o' ∧ w.grownBy w' (some r) := by
  have hl := (Array.getElem?_eq_some_iff.1 h).1
  refine ⟨{ w with heap := w.heap.setIfInBounds r o' }, ?_, by simp [hl], ⟨rfl, rfl, rfl, by simp, fun k _ hk => ?_⟩⟩
  · simp only [setObj, Sem.run, h]
  · simp only [Array.getElem?_setIfInBounds]
    rw [if_neg]
    rintro rfl
    exact hk rfl
theorem sameKey_bits {k a : V} (h : sameKey k a = some true) (ρ : Nat → Loc) : a.val ρ = k.val ρ := by
  cases k <;> cases a <;> simp only [sameKey, reduceCtorEq] at h
  case int.int k n k' m =>
    split at h
    · rename_i e; subst e
      simp only [Option.some.injEq, beq_iff_eq] at h
      rw [h]
    · cases h
  case str.str s t => simp only [Option.some.injEq, beq_iff_eq] at h; rw [h]
  case bool.bool s t => simp only [Option.some.injEq, beq_iff_eq] at h; rw [h]
theorem keyStays {k : V} {kt : TypeId} (hk : keyKind P kt k = true) (ρ : Nat → Loc) (w : World) : (Instr.keyThatStays (k.val ρ) (k.val ρ)).run P w = .ok (k.val ρ) w := by
  unfold keyKind at hk
  split at hk
  · simp [Instr.keyThatStays, Instr.sameBits, V.val_int]
  · rename_i s
    have := bytes_beq s s
    simp only [beq_self_eq_true] at this
    simp [Instr.keyThatStays, Instr.sameBits, V.val_str, this]
  · simp [Instr.keyThatStays, Instr.sameBits, V.val_bool]
  · cases hk
end
end Go.Ev
