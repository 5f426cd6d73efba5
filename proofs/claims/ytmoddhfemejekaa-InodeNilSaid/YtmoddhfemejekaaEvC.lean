/- What looks at no memory: as the model does it. -/
import Derived.Test.YtmoddhfemejekaaEvB
import Derived.Laws.Entries
import Derived.Laws.Cells
import Derived.ChangeKeysEq
namespace Go.Ev

theorem ofScalar_sound {z : Value} {v : V} (h : ofScalar z = some v) (ρ : Nat → Loc) (D : Nat → Prop) : v.val ρ = z ∧ v.In D ρ ∧ v.one = true := by
  unfold ofScalar at h
  split at h <;> simp only [Option.some.injEq, reduceCtorEq] at h <;> (subst h; exact ⟨rfl, trivial, rfl⟩)
theorem ofScalars_sound : ∀ {l : List Value} {m : List V}, ofScalars l = some m → ∀ (ρ : Nat → Loc) (D : Nat → Prop), m.map (V.val ρ) = l ∧ (∀ u ∈ m, u.In D ρ) ∧ ∀ u ∈ m, u.one = true
  | [], m, h, ρ, D => by simp only [ofScalars, Option.some.injEq] at h; subst h; exact ⟨rfl, by simp, by simp⟩
  | z :: l, m, h, ρ, D => by
    simp only [ofScalars] at h
    split at h
    · rename_i x hx
      split at h
      · rename_i m' hm
        simp only [Option.some.injEq] at h
        subst h
        obtain ⟨a, b, c⟩ := ofScalar_sound hx ρ D
        obtain ⟨a', b', c'⟩ := ofScalars_sound hm ρ D
        exact ⟨by simp [a, a'], by simpa using ⟨b, b'⟩, by simpa using ⟨c, c'⟩⟩
      · cases h
    · cases h
/-- A value whose cells are cells. -/
def V.flat (v : V) : Prop := ∀ u ∈ v.cells, u.one = true
theorem ofConst_sound {z : Value} {v : V} (h : ofConst z = some v) (ρ : Nat → Loc) (D : Nat → Prop) : v.val ρ = z ∧ v.In D ρ := by
  unfold ofConst at h
  split at h
  · rename_i cs
    split at h
    · rename_i l hl
      simp only [Option.some.injEq] at h
      subst h
      obtain ⟨a, b, _⟩ := ofScalars_sound hl ρ D
      refine ⟨?_, V.In.ofL b⟩
      rw [V.val_agg, V.vals_ofL, a]
    · cases h
  · simp only [Option.some.injEq] at h; subst h; exact ⟨rfl, trivial⟩
  · exact ⟨(ofScalar_sound h ρ D).1, (ofScalar_sound h ρ D).2.1⟩
theorem ofConst_flat {z : Value} {v : V} (h : ofConst z = some v) (hne : v ≠ .undef) : v.flat := by
  unfold ofConst at h
  split at h
  · rename_i cs
    split at h
    · rename_i l hl
      simp only [Option.some.injEq] at h
      subst h
      obtain ⟨a, b, c⟩ := ofScalars_sound hl (fun _ => ⟨0, 0, 0⟩) (fun _ => True)
      intro u hu
      simp only [V.cells, V.toL_ofL] at hu
      exact c u hu
    · cases h
  · simp only [Option.some.injEq] at h; exact absurd h.symm hne
  · have := (ofScalar_sound h (fun _ => ⟨0, 0, 0⟩) (fun _ => True)).2.2
    intro u hu
    cases v <;> simp only [V.cells, List.mem_singleton] at hu <;> first | (subst hu; exact this) | simp [V.one] at this

section
variable {P : Program}
theorem run_typeInfo_some' {t : TypeId} {info : TypeInfo} (h : P.info? t = some info) (w : World) : (typeInfo t).run P w = .ok info w := by
  simp [typeInfo, program, Sem.run, h]
theorem r_info {t : TypeId} {i : TypeInfo} (h : P.info? t = some i) (w : World) : (typeInfo t).run P w = .ok i w := run_typeInfo_some' h w
theorem r_zero {t : TypeId} {v : V} (h : zeroV P t = some v) (ρ : Nat → Loc) (D : Nat → Prop) : v.In D ρ ∧ ∀ w, (zeroValue t).run P w = .ok (v.val ρ) w := by
  unfold zeroV at h
  split at h
  · rename_i i hi
    split at h
    · rename_i z hz
      obtain ⟨a, b⟩ := ofConst_sound h ρ D
      refine ⟨b, fun w => ?_⟩
      simp [zeroValue, r_info hi, hz, a]
    · cases h
  · cases h
theorem r_size {t : TypeId} {s : Nat} (h : sizeV P t = some s) (w : World) : (sizeOf t).run P w = .ok s w := by
  unfold sizeV at h
  split at h
  · rename_i i hi
    simp only [Option.some.injEq] at h
    subst h
    simp [sizeOf, r_info hi]
  · cases h
theorem r_bytes {t : TypeId} {s : Nat} (h : bytesV P t = some s) : ∃ i, P.info? t = some i ∧ i.bytes = s := by
  unfold bytesV at h
  split at h
  · rename_i i hi
    simp only [Option.some.injEq] at h
    exact ⟨i, hi, h⟩
  · cases h
theorem r_isAgg {t : TypeId} {b : Bool} (h : isAggV P t = some b) (w : World) : (isAgg t).run P w = .ok b w := by
  unfold isAggV at h
  split at h
  · rename_i d hd; simp only [Option.some.injEq] at h; subst h; simp [isAgg, run_underlying hd]
  · rename_i d e hd; simp only [Option.some.injEq] at h; subst h; simp [isAgg, run_underlying hd]
  · rename_i d h1 h2 hd
    simp only [Option.some.injEq] at h; subst h
    simp only [isAgg, Sem.run_bind, run_underlying hd, Result.andThen_ok]
    cases d <;> first | rfl | exact absurd hd (by first | exact h1 _ | exact h2 _ _)
  · cases h
theorem r_part {t : TypeId} {cs : List V} {off : Nat} {v : V} (h : partV P t cs off = some v) (ρ : Nat → Loc) (D : Nat → Prop) (hD : ∀ u ∈ cs, u.In D ρ) :
    v.In D ρ ∧ ∀ w, (part t (cs.map (V.val ρ)).toArray off).run P w = .ok (v.val ρ) w := by
  unfold partV at h
  split at h
  · rename_i hb
    split at h
    · rename_i s hs
      simp only [Option.some.injEq] at h
      subst h
      refine ⟨V.In.ofL fun u hu => hD u (List.mem_of_mem_drop (List.mem_of_mem_take hu)), fun w => ?_⟩
      simp only [part, Sem.run_bind, r_isAgg hb, Result.andThen_ok, if_true, r_size hs, Sem.run_pure]
      rw [V.val_agg, V.vals_ofL]
      congr 2
      apply Array.ext'
      simp [List.map_take, List.map_drop, Nat.add_sub_cancel_left]
    · cases h
  · rename_i hb
    refine ⟨hD v (List.mem_of_getElem? h), fun w => ?_⟩
    simp [part, r_isAgg hb, h]
  · cases h
theorem putAt_length {cs vs : List V} {off : Nat} (h : off + vs.length ≤ cs.length) : (putAt cs off vs).length = cs.length := by
  simp only [putAt, List.length_append, List.length_take, List.length_drop]; omega
theorem foldl_put (ρ : Nat → Loc) : ∀ (vs : List Value) (k off : Nat) (cs : Array Value), off + k + vs.length ≤ cs.size →
    ((vs.zipIdx k).foldl (fun (cs : Array Value) (p : Value × Nat) => cs.setIfInBounds (off + p.2) p.1) cs).toList = cs.toList.take (off + k) ++ vs ++ cs.toList.drop (off + k + vs.length)
  | [], k, off, cs, h => by simp
  | v :: vs, k, off, cs, h => by
    simp only [List.length_cons] at h
    rw [List.zipIdx_cons, List.foldl_cons, foldl_put ρ vs (k + 1) off _ (by simp; omega)]
    have hl : off + k < cs.toList.length := by simp; omega
    simp only [Array.toList_setIfInBounds, List.length_cons]
    rw [show off + (k + 1) = off + k + 1 from by omega, List.take_set, List.drop_set_of_lt (by omega), List.take_succ_eq_append_getElem hl, List.set_append_right _ _ (by simp; omega)]
    have hz : off + k - (List.take (off + k) cs.toList).length = 0 := by rw [List.length_take]; omega
    rw [hz]
    simp [show off + k + 1 + vs.length = off + k + (vs.length + 1) from by omega]
theorem r_fill {pl : Nat → Option (Nat × Nat)} (ρ : Nat → Loc) (D : Nat → Prop) : ∀ {ps : List (Nat × V)} {cs out : List V}, fillV pl cs ps = some out → (∀ u ∈ cs, u.In D ρ) → (∀ p ∈ ps, p.2.In D ρ) →
    (∀ u ∈ out, u.In D ρ) ∧ out.length = cs.length ∧ Instr.fill pl (cs.map (V.val ρ)).toArray (ps.map fun p => (p.1, p.2.val ρ)) = some (out.map (V.val ρ)).toArray
  | [], cs, out, h, hc, hp => by
    simp only [fillV, Option.some.injEq] at h; subst h
    exact ⟨hc, rfl, rfl⟩
  | (i, v) :: rest, cs, out, h, hc, hp => by
    simp only [fillV] at h
    split at h
    · cases h
    · rename_i off size hpl
      split at h
      · rename_i hs
        have hvc : (v.val ρ).cells.toList = v.cells.map (V.val ρ) := V.val_cells ρ v
        have hvl : (v.val ρ).cells.size = v.cells.length := by rw [← Array.length_toList, hvc, List.length_map]
        obtain ⟨a, b, c⟩ := r_fill ρ D h (fun u hu => by
          unfold putAt at hu
          rcases List.mem_append.1 hu with hu | hu
          · rcases List.mem_append.1 hu with hu | hu
            · exact hc u (List.mem_of_mem_take hu)
            · exact V.In.cells (hp (i, v) (by simp)) u hu
          · exact hc u (List.mem_of_mem_drop hu)) (fun p hq => hp p (by simp [hq]))
        refine ⟨a, by rw [b, putAt_length hs.2], ?_⟩
        simp only [List.map_cons, Instr.fill, hpl]
        rw [if_neg (by simp [hvl, hs.1]; omega)]
        rw [← c]
        congr 1
        apply Array.ext'
        have := foldl_put ρ (v.val ρ).cells.toList 0 off (cs.map (V.val ρ)).toArray (by simp [hvl]; omega)
        simp only [Nat.add_zero] at this
        rw [← Array.toList_zipIdx, Array.foldl_toList] at this
        rw [this, hvc]
        simp [putAt, List.map_take, List.map_drop]
      · cases h
end
end Go.Ev
