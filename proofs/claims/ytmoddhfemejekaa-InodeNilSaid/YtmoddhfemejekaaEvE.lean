/- What looks at no memory: as the model does it (3). -/
import Derived.Test.YtmoddhfemejekaaEvD
namespace Go.Ev

theorem toList_bytes (a : List UInt8) : (⟨a.toArray⟩ : ByteArray).toList = a := by
  rw [ByteArray.toList_eq]
section
variable {P : Program}
theorem r_int {op : BinOp} {k : IntKind} {a b : Int} {v : V} (h : intV op k a b = some v) (hs : op ≠ .shl) (hr : op ≠ .shr) (ρ : Nat → Loc) (D : Nat → Prop) (t : TypeId) : v.In D ρ ∧ ∀ w, (binOp op t (.int k a) (.int k b)).run P w = .ok (v.val ρ) w := by
  cases op <;> simp only [intV] at h <;> first | exact absurd rfl hs | exact absurd rfl hr | skip
  case quo =>
    split at h
    · cases h
    · rename_i hb
      simp only [Option.some.injEq] at h; subst h
      exact ⟨trivial, fun w => by simp [binOp, Op.intDiv, hb, V.val_int]⟩
  case rem =>
    split at h
    · cases h
    · rename_i hb
      simp only [Option.some.injEq] at h; subst h
      exact ⟨trivial, fun w => by simp [binOp, Op.intDiv, hb, V.val_int]⟩
  all_goals
    simp only [Option.some.injEq] at h
    subst h
    exact ⟨trivial, fun w => by simp [binOp, Op.intArith, Op.intBits, Op.intCmp, V.val_int, V.val_bool]⟩
theorem r_str {op : BinOp} {a b : List UInt8} {v : V} (h : strV op a b = some v) (ρ : Nat → Loc) (D : Nat → Prop) (t : TypeId) : v.In D ρ ∧ ∀ w, (binOp op t (.string ⟨a.toArray⟩) (.string ⟨b.toArray⟩)).run P w = .ok (v.val ρ) w := by
  cases op <;> simp only [strV] at h <;> first | cases h | skip
  case add =>
    split at h
    · rename_i hl
      simp only [Option.some.injEq] at h; subst h
      refine ⟨trivial, fun w => ?_⟩
      have hm : IntKind.max .i64 = 9223372036854775807 := by rfl
      simp only [binOp, Op.stringOp, hm]
      rw [if_neg]
      · simp only [Sem.run_pure, V.val_str]
        congr 2
      · simp only [ByteArray.size, List.size_toArray]; omega
    · cases h
  all_goals
    exact ⟨trivial, fun w => by simp [binOp, Op.stringOp, V.val_bool]⟩
def V.isRaw : V → Bool
  | .raw _ _ => true
  | _ => false
theorem eq_raw {d : Nat} {t : TypeId} {x y : V} {b : Bool} (h : eqV P d t x y = some b) : x.isRaw = false ∧ y.isRaw = false := by
  cases d with
  | zero => simp [eqV] at h
  | succ d =>
    unfold eqV at h
    split at h <;> first | exact ⟨rfl, rfl⟩ | cases h
theorem guard_pass {op : BinOp} {t : TypeId} {xo yo : Operand} {x y : V} (ρ : Nat → Loc) (hr : x.isRaw = false ∧ y.isRaw = false) (h : op = .eql ∨ op = .neq → guardOk P t x y = true) (w : World) : (eqGuard op t xo yo (x.val ρ) (y.val ρ)).run P w = .ok () w := by
  by_cases ho : op = .eql ∨ op = .neq
  · have hg := h ho
    unfold eqGuard
    rcases ho with rfl | rfl
    all_goals
      cases x <;> simp only [V.isRaw, Bool.true_eq_false, false_and] at hr <;> cases y <;> simp only [Bool.true_eq_false, and_false] at hr <;> simp [V.val, V.cv, Go.undef]
      all_goals
        simp only [guardOk, Bool.not_eq_true'] at hg
        simp [hg]
  · unfold eqGuard
    cases op <;> simp at ho ⊢
theorem binOp_eql_val {t : TypeId} {x y : V} (ρ : Nat → Loc) (hr : x.isRaw = false ∧ y.isRaw = false) (h1 : ∀ k a k' b, x = .int k a → y = .int k' b → False) (h2 : ∀ a b, x = .str a → y = .str b → False) :
    binOp .eql t (x.val ρ) (y.val ρ) = (do pure (.bool (← Op.equal t (x.val ρ) (y.val ρ)))) := by
  cases x <;> cases y <;> first | rfl | (cases hr.1; done) | (cases hr.2; done) | exact (h1 _ _ _ _ rfl rfl).elim | exact (h2 _ _ rfl rfl).elim
theorem binOp_neq_val {t : TypeId} {x y : V} (ρ : Nat → Loc) (hr : x.isRaw = false ∧ y.isRaw = false) (h1 : ∀ k a k' b, x = .int k a → y = .int k' b → False) (h2 : ∀ a b, x = .str a → y = .str b → False) :
    binOp .neq t (x.val ρ) (y.val ρ) = (do pure (.bool (!(← Op.equal t (x.val ρ) (y.val ρ))))) := by
  cases x <;> cases y <;> first | rfl | (cases hr.1; done) | (cases hr.2; done) | exact (h1 _ _ _ _ rfl rfl).elim | exact (h2 _ _ rfl rfl).elim
theorem r_bin {op : BinOp} {t : TypeId} {x y v : V} (h : binV P op t x y = some v) (ρ : Nat → Loc) (D : Nat → Prop) (hx : x.In D ρ) (hy : y.In D ρ) (xo yo : Operand) :
    v.In D ρ ∧ ∀ w, (do eqGuard op t xo yo (x.val ρ) (y.val ρ); binOp op t (x.val ρ) (y.val ρ) : Sem Value).run P w = .ok (v.val ρ) w := by
  unfold binV at h
  split at h
  · rename_i k a k' b
    split at h
    · cases h
    · rename_i hb
      simp only [Option.some.injEq] at h; subst h
      refine ⟨trivial, fun w => ?_⟩
      simp only [Sem.run_bind, guard_pass (P := P) (t := t) (x := .int k a) (y := .int k' b) ρ ⟨rfl, rfl⟩ (fun _ => rfl), Result.andThen_ok]
      simp [binOp, Op.shift, V.val_int, hb]
  · rename_i k a k' b
    split at h
    · cases h
    · rename_i hb
      simp only [Option.some.injEq] at h; subst h
      refine ⟨trivial, fun w => ?_⟩
      simp only [Sem.run_bind, guard_pass (P := P) (t := t) (x := .int k a) (y := .int k' b) ρ ⟨rfl, rfl⟩ (fun _ => rfl), Result.andThen_ok]
      simp [binOp, Op.shift, V.val_int, hb]
  · rename_i k a k' b h1 h2
    split at h
    · rename_i hk
      subst hk
      obtain ⟨i1, i2⟩ := r_int (P := P) h h1 h2 ρ D t
      refine ⟨i1, fun w => ?_⟩
      simp only [Sem.run_bind, guard_pass (P := P) (t := t) (x := .int k a) (y := .int k b) ρ ⟨rfl, rfl⟩ (fun _ => rfl), Result.andThen_ok]
      exact i2 w
    · cases h
  · rename_i a b
    obtain ⟨i1, i2⟩ := r_str (P := P) h ρ D t
    refine ⟨i1, fun w => ?_⟩
    simp only [Sem.run_bind, guard_pass (P := P) (t := t) (x := .str a) (y := .str b) ρ ⟨rfl, rfl⟩ (fun _ => rfl), Result.andThen_ok]
    exact i2 w
  · rename_i h1 h2
    split at h
    · rename_i hg
      split at h
      · rename_i b hb
        simp only [Option.some.injEq] at h; subst h
        refine ⟨trivial, fun w => ?_⟩
        have he : (Op.equal t (x.val ρ) (y.val ρ)).run P w = .ok b w := r_eq hb ρ D hx hy 9900 w
        simp only [Sem.run_bind, guard_pass (P := P) ρ (eq_raw hb) (fun _ => hg), Result.andThen_ok]
        rw [binOp_eql_val ρ (eq_raw hb) (fun k a k' b e1 e2 => h1 k a k' b e1 e2) (fun a b e1 e2 => h2 a b e1 e2)]
        simp [he, V.val_bool]
      · cases h
    · cases h
  · rename_i h1 h2
    split at h
    · rename_i hg
      split at h
      · rename_i b hb
        simp only [Option.some.injEq] at h; subst h
        refine ⟨trivial, fun w => ?_⟩
        have he : (Op.equal t (x.val ρ) (y.val ρ)).run P w = .ok b w := r_eq hb ρ D hx hy 9900 w
        simp only [Sem.run_bind, guard_pass (P := P) ρ (eq_raw hb) (fun _ => hg), Result.andThen_ok]
        rw [binOp_neq_val ρ (eq_raw hb) (fun k a k' b e1 e2 => h1 k a k' b e1 e2) (fun a b e1 e2 => h2 a b e1 e2)]
        simp [he, V.val_bool]
      · cases h
    · cases h
  · cases h
end
end Go.Ev
