/- What looks at no memory: as the model does it (5). -/
import Derived.Test.YtmoddhfemejekaaEvF
namespace Go.Ev

section
variable {P : Program} {gl : Nat → Option Nat}
theorem r_fieldAddr {t : TypeId} {x v : V} {f : Nat} (h : fieldAddrV P t x f = some v) (ρ : Nat → Loc) (D : Nat → Prop) (hx : x.In D ρ) : v.In D ρ ∧ ∀ w, (Instr.fieldAt t (x.val ρ) f).run P w = .ok (v.val ρ) w := by
  unfold fieldAddrV at h
  split at h
  · rename_i fields n off hu
    split at h
    · rename_i fd hf
      split at h
      · rename_i s hs
        simp only [Option.some.injEq] at h
        subst h
        refine ⟨hx, fun w => ?_⟩
        simp [Instr.fieldAt, run_underlying hu, hf, Instr.sureAddr, V.val_ptr, fieldPlace, r_size hs, Addr_add, Nat.add_assoc]
      · cases h
    · cases h
  · cases h
theorem r_field {t : TypeId} {x v : V} {f : Nat} (h : fieldV P t x f = some v) (ρ : Nat → Loc) (D : Nat → Prop) (hx : x.In D ρ) : v.In D ρ ∧ ∀ w, (Instr.field t (x.val ρ) f).run P w = .ok (v.val ρ) w := by
  unfold fieldV at h
  split at h
  · rename_i fields l hu
    split at h
    · rename_i fd hf
      obtain ⟨a, b⟩ := r_part h ρ D (V.In.toL (v := l) hx)
      refine ⟨a, fun w => ?_⟩
      simp only [Instr.field, Sem.run_bind, run_underlying hu, Result.andThen_ok, hf, val_agg_eq, asAgg, Sem.run_pure, b]
    · cases h
  · cases h
theorem r_indexAddr {t : TypeId} {x i v : V} (h : indexAddrV P t x i = some v) (ρ : Nat → Loc) (D : Nat → Prop) (hx : x.In D ρ) : v.In D ρ ∧ ∀ w, (Instr.indexAt t (x.val ρ) (i.val ρ)).run P w = .ok (v.val ρ) w := by
  unfold indexAddrV at h
  split at h
  · cases h
  · rename_i k hk
    obtain ⟨kk, rfl⟩ := natOf_some hk
    split at h
    · rename_i e n off len c ex hu
      split at h
      · rename_i s hs
        split at h
        · rename_i hlt
          simp only [Option.some.injEq] at h
          subst h
          refine ⟨hx.1, fun w => ?_⟩
          simp only [Instr.indexAt, asIntOf, V.val_int, V.val_slice, V.val_ptr, Sem.run_bind, Sem.run_pure, run_underlying hu, Result.andThen_ok]
          rw [if_pos ⟨by omega, by omega⟩]
          simp [r_size hs, Addr_add, Nat.add_assoc]
        · cases h
      · cases h
    · rename_i len e n off hu
      split at h
      · rename_i s hs
        split at h
        · rename_i hlt
          simp only [Option.some.injEq] at h
          subst h
          refine ⟨hx, fun w => ?_⟩
          simp only [Instr.indexAt, asIntOf, V.val_int, V.val_ptr, Sem.run_bind, Sem.run_pure, run_underlying hu, Result.andThen_ok, Instr.sureAddr]
          rw [if_pos ⟨by omega, by omega⟩]
          simp [r_size hs, Addr_add, Nat.add_assoc]
        · cases h
      · cases h
    · cases h
theorem r_index {t : TypeId} {x i v : V} (h : indexV P t x i = some v) (ρ : Nat → Loc) (D : Nat → Prop) (hx : x.In D ρ) : v.In D ρ ∧ ∀ w, (Instr.index t (x.val ρ) (i.val ρ)).run P w = .ok (v.val ρ) w := by
  unfold indexV at h
  split at h
  · cases h
  · rename_i k hk
    obtain ⟨kk, rfl⟩ := natOf_some hk
    split at h
    · rename_i len e l hu
      split at h
      · rename_i s hs
        split at h
        · rename_i hlt
          obtain ⟨a, b⟩ := r_part h ρ D (V.In.toL (v := l) hx)
          refine ⟨a, fun w => ?_⟩
          simp only [Instr.index, asIntOf, V.val_int, val_agg_eq, Sem.run_bind, Sem.run_pure, run_underlying hu, Result.andThen_ok]
          rw [if_pos ⟨by omega, by omega⟩]
          simp [r_size hs, b]
        · cases h
      · cases h
    · rename_i s hu
      split at h
      · rename_i b hb
        simp only [Option.some.injEq] at h
        subst h
        refine ⟨trivial, fun w => ?_⟩
        simp only [Instr.index, asIntOf, V.val_int, V.val_str, Sem.run_bind, Sem.run_pure, run_underlying hu, Result.andThen_ok]
        rw [if_pos (by omega)]
        have : (⟨s.toArray⟩ : ByteArray)[(k : Int).toNat]? = some b := by
          have hl : k < s.length := (List.getElem?_eq_some_iff.1 hb).1
          rw [Int.toNat_natCast, getElem?_pos _ _ (by simpa [ByteArray.size] using hl)]
          have := (List.getElem?_eq_some_iff.1 hb).2
          show some (s.toArray[k]'(by simpa using hl)) = some b
          simpa using this
        simp only [this, Sem.run_pure]
      · cases h
    · cases h
theorem r_convert {s d : TypeId} {x v : V} (h : convertV P s d x = some v) (ρ : Nat → Loc) (D : Nat → Prop) : v.In D ρ ∧ ∀ w, (convert s d (x.val ρ)).run P w = .ok (v.val ρ) w := by
  unfold convertV at h
  split at h
  · rename_i ds k k' n hs hd
    simp only [Option.some.injEq] at h
    subst h
    refine ⟨trivial, fun w => ?_⟩
    simp [convert, run_underlying hs, run_underlying hd, V.val_int, Conv.intToInt]
  · rename_i ds a hs hd
    simp only [Option.some.injEq] at h
    subst h
    refine ⟨trivial, fun w => ?_⟩
    simp [convert, run_underlying hs, run_underlying hd, V.val_str]
  · cases h
theorem r_un {op : UnOp} {x v : V} (h : unV op x = some v) (ρ : Nat → Loc) (D : Nat → Prop) : v.In D ρ ∧ ∀ w, (Op.unary op (x.val ρ)).run P w = .ok (v.val ρ) w := by
  unfold unV at h
  split at h
  · simp only [Option.some.injEq] at h; subst h
    exact ⟨trivial, fun w => by simp [Op.unary, Op.intArith, V.val_int]⟩
  · simp only [Option.some.injEq] at h; subst h
    exact ⟨trivial, fun w => by simp [Op.unary, Op.intBits, V.val_int]⟩
  · simp only [Option.some.injEq] at h; subst h
    exact ⟨trivial, fun w => by simp [Op.unary, V.val_bool]⟩
  · cases h
theorem r_min : ∀ {l : List V} {x v : V}, minV x l = some v → ∀ (ρ : Nat → Loc) (D : Nat → Prop), x.In D ρ → v.In D ρ ∧ ∀ w, ((l.map (V.val ρ)).foldlM Builtin.min2 (x.val ρ)).run P w = .ok (v.val ρ) w
  | [], x, v, h, ρ, D, hx => by
    unfold minV at h
    simp only [Option.some.injEq] at h; subst h
    exact ⟨hx, fun w => rfl⟩
  | y :: l, x, v, h, ρ, D, hx => by
    unfold minV at h
    split at h
    · rename_i e; cases e
    · rename_i k a k' b l' e
      simp only [List.cons.injEq] at e
      obtain ⟨rfl, rfl⟩ := e
      obtain ⟨p, q⟩ := r_min h ρ D trivial
      refine ⟨p, fun w => ?_⟩
      simp only [List.map_cons, List.foldlM_cons, Sem.run_bind, V.val_int, Builtin.min2, Sem.run_pure, Result.andThen_ok]
      exact q w
    · cases h
theorem r_max : ∀ {l : List V} {x v : V}, maxV x l = some v → ∀ (ρ : Nat → Loc) (D : Nat → Prop), x.In D ρ → v.In D ρ ∧ ∀ w, ((l.map (V.val ρ)).foldlM Builtin.max2 (x.val ρ)).run P w = .ok (v.val ρ) w
  | [], x, v, h, ρ, D, hx => by
    unfold maxV at h
    simp only [Option.some.injEq] at h; subst h
    exact ⟨hx, fun w => rfl⟩
  | y :: l, x, v, h, ρ, D, hx => by
    unfold maxV at h
    split at h
    · rename_i e; cases e
    · rename_i k a k' b l' e
      simp only [List.cons.injEq] at e
      obtain ⟨rfl, rfl⟩ := e
      obtain ⟨p, q⟩ := r_max h ρ D trivial
      refine ⟨p, fun w => ?_⟩
      simp only [List.map_cons, List.foldlM_cons, Sem.run_bind, V.val_int, Builtin.max2, Sem.run_pure, Result.andThen_ok]
      exact q w
    · cases h
theorem r_len {t : TypeId} {x v : V} (h : lenV P t x = some v) (ρ : Nat → Loc) (D : Nat → Prop) (ty : TypeId) : v.In D ρ ∧ ∀ w, (Builtin.len_ #[t] ty #[x.val ρ]).run P w = .ok (v.val ρ) w := by
  unfold lenV at h
  split at h
  case h_6 => cases h
  all_goals
    rename_i hu
    simp only [Option.some.injEq] at h
    subst h
    refine ⟨trivial, fun w => ?_⟩
    simp only [Builtin.len_, List.getElem?_toArray, List.getElem?_cons_zero, Sem.run_bind, run_underlying hu, Result.andThen_ok, V.val_str, V.val_nilslice, V.val_slice, V.val_tail, V.val_nilmap, V.val_int, goInt, Sem.run_pure]
    try rfl

/-- What an evaluation of operands has to give. -/
def Opnds (gl : Nat → Option Nat) (tm : List V) (ρ : Nat → Loc) (D : Nat → Prop) (ev : Operand → Value) (xs : Array Operand) : Prop :=
  ∀ x ∈ xs, ∀ u, opnd gl tm x = some u → ev x = u.val ρ ∧ u.In D ρ
theorem r_opnds {tm : List V} {ρ : Nat → Loc} {D : Nat → Prop} {ev : Operand → Value} : ∀ {l : List Operand} {m : List V}, opnds gl tm l = some m → (∀ x ∈ l, ∀ u, opnd gl tm x = some u → ev x = u.val ρ ∧ u.In D ρ) → l.map ev = m.map (V.val ρ) ∧ ∀ u ∈ m, u.In D ρ
  | [], m, h, _ => by simp only [opnds, Option.some.injEq] at h; subst h; exact ⟨rfl, by simp⟩
  | x :: l, m, h, he => by
    simp only [opnds] at h
    split at h
    · rename_i v hv
      split at h
      · rename_i m' hm
        simp only [Option.some.injEq] at h
        subst h
        obtain ⟨a, b⟩ := he x (by simp) v hv
        obtain ⟨a', b'⟩ := r_opnds hm (fun y hy => he y (by simp [hy]))
        exact ⟨by simp [a, a'], by simpa using ⟨b, b'⟩⟩
      · cases h
    · cases h
theorem r_parts {tm : List V} {ρ : Nat → Loc} {D : Nat → Prop} {ev : Operand → Value} : ∀ {l : List (Nat × Operand)} {m : List (Nat × V)}, parts gl tm l = some m → (∀ x ∈ l, ∀ u, opnd gl tm x.2 = some u → ev x.2 = u.val ρ ∧ u.In D ρ) →
    (l.map fun (p : Nat × Operand) => (p.1, ev p.2)) = (m.map fun p => (p.1, p.2.val ρ)) ∧ ∀ p ∈ m, p.2.In D ρ
  | [], m, h, _ => by simp only [parts, Option.some.injEq] at h; subst h; exact ⟨rfl, by simp⟩
  | (i, x) :: l, m, h, he => by
    simp only [parts] at h
    split at h
    · rename_i v hv
      split at h
      · rename_i m' hm
        simp only [Option.some.injEq] at h
        subst h
        obtain ⟨a, b⟩ := he (i, x) (by simp) v hv
        obtain ⟨a', b'⟩ := r_parts hm (fun y hy => he y (by simp [hy]))
        refine ⟨by simp [a, a'], fun p hp => ?_⟩
        rcases List.mem_cons.1 hp with rfl | hp
        · exact b
        · exact b' p hp
      · cases h
    · cases h
theorem r_optOpnd {tm : List V} {ρ : Nat → Loc} {D : Nat → Prop} {ev : Operand → Value} {x : Option Operand} {m : Option V} (h : optOpnd gl tm x = some m) (he : ∀ y, x = some y → ∀ u, opnd gl tm y = some u → ev y = u.val ρ ∧ u.In D ρ) : x.map ev = m.map (V.val ρ) := by
  unfold optOpnd at h
  split at h
  · simp only [Option.some.injEq] at h; subst h; rfl
  · rename_i y
    split at h
    · rename_i v hv
      simp only [Option.some.injEq] at h
      subst h
      simp [(he y rfl v hv).1]
    · cases h
end
end Go.Ev
