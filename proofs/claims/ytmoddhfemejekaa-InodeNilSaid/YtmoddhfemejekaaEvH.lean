/- What looks at no memory: as the model does it (6). -/
import Derived.Test.YtmoddhfemejekaaEvG
namespace Go.Ev

section
variable {P : Program} {gl : Nat → Option Nat}
theorem mem_toArray_map {ps : Array (Nat × Operand)} {p : Nat × Operand} (h : p ∈ ps.toList) : p.2 ∈ ((ps.toList.map (·.2)).toArray : Array Operand) := by
  simp only [List.mem_toArray]
  exact List.mem_map.2 ⟨p, h, rfl⟩
theorem pure_sound {tm : List V} {o : Oper} {v : V} (h : pureV P gl tm o.op = some v) {ρ : Nat → Loc} {D : Nat → Prop} {ev : Operand → Value} (he : Opnds gl tm ρ D ev o.op.operands) :
    v.In D ρ ∧ ∀ w, (execOp ev o).run P w = .ok (.value (v.val ρ)) w := by
  obtain ⟨dst, op, type, pos, after, guard⟩ := o
  simp only at h he
  unfold Opnds at he
  unfold pureV at h
  split at h
  · rename_i x
    obtain ⟨a, b⟩ := he x (by simp [Op.operands]) v h
    exact ⟨b, fun w => by simp [execOp, a]⟩
  · rename_i x
    obtain ⟨a, b⟩ := he x (by simp [Op.operands]) v h
    exact ⟨b, fun w => by simp [execOp, a]⟩
  · rename_i c a b
    split at h
    · rename_i t x y hc hx hy
      simp only [Option.some.injEq] at h
      subst h
      obtain ⟨c1, _⟩ := he c (by simp [Op.operands]) _ hc
      obtain ⟨a1, a2⟩ := he a (by simp [Op.operands]) _ hx
      obtain ⟨b1, b2⟩ := he b (by simp [Op.operands]) _ hy
      refine ⟨by split <;> assumption, fun w => ?_⟩
      simp only [execOp, c1, a1, b1, V.val_bool, asBool, Sem.run_bind, Sem.run_pure, Result.andThen_ok]
      cases t <;> rfl
    · cases h
  · rename_i t ps
    split at h
    · rename_i l hl
      obtain ⟨a, b⟩ := r_parts hl (fun x hx u hu => he x.2 (by simp only [Op.operands]; exact mem_toArray_map hx) u hu)
      obtain ⟨c, d⟩ := r_build h ρ D b
      refine ⟨c, fun w => ?_⟩
      simp only [execOp, Sem.run_bind]
      rw [d w _ (by rw [← a]; simp)]
      rfl
    · cases h
  · rename_i x
    split at h
    · rename_i n off hx
      simp only [Option.some.injEq] at h
      subst h
      obtain ⟨a, b⟩ := he x (by simp [Op.operands]) _ hx
      exact ⟨b, fun w => by simp [execOp, a, V.val_ptr]⟩
    · rename_i f a c hx
      simp only [Option.some.injEq] at h
      subst h
      obtain ⟨a, b⟩ := he x (by simp [Op.operands]) _ hx
      exact ⟨b, fun w => by simp [execOp, a, V.val_fn]⟩
    · rename_i n hx
      simp only [Option.some.injEq] at h
      subst h
      obtain ⟨a, b⟩ := he x (by simp [Op.operands]) _ hx
      exact ⟨b, fun w => by simp [execOp, a, V.val_yield]⟩
    · cases h
  · rename_i op t x y yt
    split at h
    · rename_i a b hx hy
      obtain ⟨a1, a2⟩ := he x (by simp [Op.operands]) _ hx
      obtain ⟨b1, b2⟩ := he y (by simp [Op.operands]) _ hy
      obtain ⟨c, d⟩ := r_bin h ρ D a2 b2 x y
      refine ⟨c, fun w => ?_⟩
      have := d w
      simp only [Sem.run_bind] at this
      simp only [execOp, a1, b1, Sem.run_bind, this, Result.andThen_ok, Sem.run_pure]
    · cases h
  · rename_i op t x
    split at h
    · rename_i a hx
      obtain ⟨a1, a2⟩ := he x (by simp [Op.operands]) _ hx
      obtain ⟨c, d⟩ := r_un (P := P) h ρ D
      exact ⟨c, fun w => by simp [execOp, a1, d]⟩
    · cases h
  · rename_i s d x
    split at h
    · rename_i a hx
      obtain ⟨a1, a2⟩ := he x (by simp [Op.operands]) _ hx
      obtain ⟨c, d⟩ := r_convert h ρ D
      exact ⟨c, fun w => by simp [execOp, a1, d]⟩
    · cases h
  · rename_i f a c
    split at h
    · rename_i l m hl hm
      simp only [Option.some.injEq] at h
      subst h
      obtain ⟨a1, a2⟩ := r_opnds hl (fun x hx u hu => he x (by simp [Op.operands]; exact .inl (Array.mem_toList_iff.1 hx)) u hu)
      obtain ⟨b1, b2⟩ := r_opnds hm (fun x hx u hu => he x (by simp [Op.operands]; exact .inr (Array.mem_toList_iff.1 hx)) u hu)
      refine ⟨⟨V.In.ofL a2, V.In.ofL b2⟩, fun w => ?_⟩
      simp only [execOp, Instr.makeFunc, Sem.run_bind, Sem.run_pure, Result.andThen_ok, V.val_fn, V.vals_ofL, ← a1, ← b1]
      congr 3 <;> (apply Array.ext'; simp)
    · cases h
  · rename_i t x lo hi mx
    split at h
    · rename_i a l hh m hx hl hhi hm
      obtain ⟨a1, a2⟩ := he x (by simp [Op.operands]) _ hx
      have e1 := r_optOpnd (ρ := ρ) (D := D) (ev := ev) hl (fun y hy u hu => he y (by subst hy; simp [Op.operands]) u hu)
      have e2 := r_optOpnd (ρ := ρ) (D := D) (ev := ev) hhi (fun y hy u hu => he y (by subst hy; simp [Op.operands]) u hu)
      have e3 := r_optOpnd (ρ := ρ) (D := D) (ev := ev) hm (fun y hy u hu => he y (by subst hy; simp [Op.operands]) u hu)
      obtain ⟨c, d⟩ := r_slice h ρ D a2
      exact ⟨c, fun w => by simp only [execOp, a1, e1, e2, e3, Sem.run_bind, d, Result.andThen_ok, Sem.run_pure]⟩
    · cases h
  · rename_i t x f
    split at h
    · rename_i a hx
      obtain ⟨a1, a2⟩ := he x (by simp [Op.operands]) _ hx
      obtain ⟨c, d⟩ := r_fieldAddr h ρ D a2
      exact ⟨c, fun w => by simp [execOp, a1, d]⟩
    · cases h
  · rename_i t x f
    split at h
    · rename_i a hx
      obtain ⟨a1, a2⟩ := he x (by simp [Op.operands]) _ hx
      obtain ⟨c, d⟩ := r_field h ρ D a2
      exact ⟨c, fun w => by simp [execOp, a1, d]⟩
    · cases h
  · rename_i t x i
    split at h
    · rename_i a b hx hi
      obtain ⟨a1, a2⟩ := he x (by simp [Op.operands]) _ hx
      obtain ⟨b1, b2⟩ := he i (by simp [Op.operands]) _ hi
      obtain ⟨c, d⟩ := r_indexAddr h ρ D a2
      exact ⟨c, fun w => by simp [execOp, a1, b1, d]⟩
    · cases h
  · rename_i t x i
    split at h
    · rename_i a b hx hi
      obtain ⟨a1, a2⟩ := he x (by simp [Op.operands]) _ hx
      obtain ⟨b1, b2⟩ := he i (by simp [Op.operands]) _ hi
      obtain ⟨c, d⟩ := r_index h ρ D a2
      exact ⟨c, fun w => by simp [execOp, a1, b1, d]⟩
    · cases h
  · rename_i x i
    split at h
    · rename_i l hx
      obtain ⟨a1, a2⟩ := he x (by simp [Op.operands]) _ hx
      refine ⟨V.In.toL (v := l) a2 v (List.mem_of_getElem? h), fun w => ?_⟩
      simp [execOp, a1, V.val_tup, V.vals_eq, Instr.extract, h]
    · cases h
  · rename_i x t
    split at h
    · rename_i a hx
      obtain ⟨a1, a2⟩ := he x (by simp [Op.operands, Call.operands]) _ hx
      obtain ⟨c, d⟩ := r_len h ρ D type
      refine ⟨c, fun w => ?_⟩
      have := d w
      simp only [execOp, resolve, invoke, builtin, Sem.run_bind, Sem.run_pure, Result.andThen_ok, List.map_toArray, List.map_cons, List.map_nil, a1, this]
    · cases h
  · rename_i x l ts
    split at h
    · rename_i a m hx hl
      obtain ⟨a1, a2⟩ := he x (by simp [Op.operands, Call.operands]) _ hx
      obtain ⟨b1, b2⟩ := r_opnds hl (fun y hy u hu => he y (by simp [Op.operands, Call.operands]; exact .inr hy) u hu)
      obtain ⟨c, d⟩ := r_min (P := P) h ρ D a2
      refine ⟨c, fun w => ?_⟩
      have := d w
      simp only [execOp, resolve, invoke, builtin, Builtin.min_, Sem.run_bind, Sem.run_pure, Result.andThen_ok, List.map_toArray, List.map_cons, a1, b1, this]
    · cases h
  · rename_i x l ts
    split at h
    · rename_i a m hx hl
      obtain ⟨a1, a2⟩ := he x (by simp [Op.operands, Call.operands]) _ hx
      obtain ⟨b1, b2⟩ := r_opnds hl (fun y hy u hu => he y (by simp [Op.operands, Call.operands]; exact .inr hy) u hu)
      obtain ⟨c, d⟩ := r_max (P := P) h ρ D a2
      refine ⟨c, fun w => ?_⟩
      have := d w
      simp only [execOp, resolve, invoke, builtin, Builtin.max_, Sem.run_bind, Sem.run_pure, Result.andThen_ok, List.map_toArray, List.map_cons, a1, b1, this]
    · cases h
  · cases h
end
end Go.Ev
