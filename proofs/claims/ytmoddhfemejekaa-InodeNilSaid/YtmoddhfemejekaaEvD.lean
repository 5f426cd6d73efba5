/- What looks at no memory: as the model does it (2). -/
import Derived.Test.YtmoddhfemejekaaEvC
namespace Go.Ev

section
variable {P : Program}
theorem r_places : ∀ {l : List Field} {m : List (Nat × Nat)}, placesV P l = some m → ∀ w, (l.mapM fun (f : Field) => (do pure (f.offset, ← sizeOf f.type) : Sem (Nat × Nat))).run P w = .ok m w
  | [], m, h, w => by simp only [placesV, Option.some.injEq] at h; subst h; rfl
  | f :: l, m, h, w => by
    simp only [placesV] at h
    split at h
    · rename_i s hs
      split at h
      · rename_i m' hm
        simp only [Option.some.injEq] at h
        subst h
        rw [List.mapM_cons]
        have := r_places hm w
        simp only [Sem.run_bind, Sem.run_pure, r_size hs, Result.andThen_ok, this]
      · cases h
    · cases h
theorem r_build {t : TypeId} {ps : List (Nat × V)} {v : V} (h : buildV P t ps = some v) (ρ : Nat → Loc) (D : Nat → Prop) (hp : ∀ p ∈ ps, p.2.In D ρ) :
    v.In D ρ ∧ ∀ w (a : Array (Nat × Value)), a.toList = (ps.map fun p => (p.1, p.2.val ρ)) → (Instr.build t a).run P w = .ok (v.val ρ) w := by
  unfold buildV at h
  split at h
  · rename_i z fields hz hu
    split at h
    · rename_i pl hpl
      split at h
      · rename_i cs hcs
        simp only [Option.some.injEq] at h
        subst h
        obtain ⟨hzi, hzr⟩ := r_zero hz ρ D
        obtain ⟨a1, _, a3⟩ := r_fill ρ D hcs (V.In.cells hzi) hp
        refine ⟨V.In.ofL a1, fun w a ha => ?_⟩
        have hzc : (z.val ρ).cells = (z.cells.map (V.val ρ)).toArray := by apply Array.ext'; simpa using V.val_cells ρ z
        have hpl' := r_places hpl w
        simp only [Instr.build, Sem.run_bind, hzr, Result.andThen_ok, run_underlying hu, Array.mapM_eq_mapM_toList, Sem.run_map]
        rw [hpl']
        simp only [Result.andThen_ok, ha, hzc]
        have a3' : Instr.fill (fun x => pl.toArray[x]?) (z.cells.map (V.val ρ)).toArray (ps.map fun p => (p.1, p.2.val ρ)) = some (cs.map (V.val ρ)).toArray := by
          simpa using a3
        rw [a3', V.val_agg, V.vals_ofL]
        rfl
      · cases h
    · cases h
  · rename_i z n e hz hu
    split at h
    · rename_i s hs
      split at h
      · rename_i cs hcs
        simp only [Option.some.injEq] at h
        subst h
        obtain ⟨hzi, hzr⟩ := r_zero hz ρ D
        obtain ⟨a1, _, a3⟩ := r_fill ρ D hcs (V.In.cells hzi) hp
        refine ⟨V.In.ofL a1, fun w a ha => ?_⟩
        have hzc : (z.val ρ).cells = (z.cells.map (V.val ρ)).toArray := by apply Array.ext'; simpa using V.val_cells ρ z
        simp only [Instr.build, Sem.run_bind, hzr, Result.andThen_ok, run_underlying hu, r_size hs, ha, hzc]
        rw [a3, V.val_agg, V.vals_ofL]
        rfl
      · cases h
    · cases h
  · cases h

theorem val_agg_eq (ρ : Nat → Loc) (l : V) : (V.agg l).val ρ = .agg (l.toL.map (V.val ρ)).toArray := by rw [V.val_agg, V.vals_eq]
theorem bytes_beq (a b : List UInt8) : ((⟨a.toArray⟩ : ByteArray) == ⟨b.toArray⟩) = (a == b) := by
  change (a.toArray == b.toArray) = _
  simp

def fieldsLoop (eq : TypeId → Value → Value → Sem Bool) (xs ys : Array Value) : List Field → Sem Bool
  | [] => pure true
  | f :: fs =>
    if f.name ≠ "_" then do
      let x ← part f.type xs f.offset
      let y ← part f.type ys f.offset
      let b ← eq f.type x y
      if (!b) = true then pure false else fieldsLoop eq xs ys fs
    else fieldsLoop eq xs ys fs
def elemsLoop (eq : Value → Value → Sem Bool) (e : TypeId) (n : Nat) (xs ys : Array Value) : List Nat → Sem Bool
  | [] => pure true
  | i :: l => do
    let x ← part e xs (i * n)
    let y ← part e ys (i * n)
    let b ← eq x y
    if (!b) = true then pure false else elemsLoop eq e n xs ys l
theorem andThen_ok' {α β : Type} (r : Result α) (f : α → World → Result β) (a : α) (w : World) (h : r = .ok a w) : r.andThen f = f a w := by rw [h]; rfl
theorem andThen_assoc {α β γ : Type} (r : Result α) (f : α → World → Result β) (g : β → World → Result γ) : (r.andThen f).andThen g = r.andThen fun a w => (f a w).andThen g := by
  cases r <;> rfl
theorem equalIn_struct {d : Nat} {t : TypeId} {fields : Array Field} (hu : P.underlying t = some (.struct fields)) (hs : P.stoodInHeld t = false) (xs ys : Array Value) (w : World) :
    (Op.equalIn (d + 1) t (.agg xs) (.agg ys)).run P w = (fieldsLoop (Op.equalIn d) xs ys fields.toList).run P w := by
  simp only [Op.equalIn, Sem.run_bind, run_underlying hu, Result.andThen_ok, program, Sem.run, hs, Bool.false_eq_true, if_false]
  rw [← Array.forIn_toList]
  generalize fields.toList = l
  induction l generalizing w with
  | nil => simp [fieldsLoop]
  | cons f l ih =>
    rw [List.forIn_cons, fieldsLoop]
    by_cases hn : f.name ≠ "_"
    · rw [if_pos hn, if_pos hn]
      simp only [Sem.run_bind, andThen_assoc]
      congr 1
      funext x w1
      congr 1
      funext y w2
      congr 1
      funext b w3
      cases b
      · simp
      · simpa using ih w3
    · rw [if_neg hn, if_neg hn]
      simpa using ih w
theorem equalIn_array {d : Nat} {t e : TypeId} {n len : Nat} (hu : P.underlying t = some (.array len e)) (hs : sizeV P e = some n) (xs ys : Array Value) (w : World) :
    (Op.equalIn (d + 1) t (.agg xs) (.agg ys)).run P w = (elemsLoop (Op.equalIn d e) e n xs ys (List.range' 0 len)).run P w := by
  simp only [Op.equalIn, Sem.run_bind, run_underlying hu, Result.andThen_ok, r_size hs]
  rw [Std.Legacy.Range.forIn_eq_forIn_range']
  simp only [Std.Legacy.Range.size, Nat.sub_zero, Nat.add_sub_cancel, Nat.div_one]
  generalize List.range' 0 len = l
  induction l generalizing w with
  | nil => simp [elemsLoop]
  | cons f l ih =>
    rw [List.forIn_cons, elemsLoop]
    simp only [Sem.run_bind, andThen_assoc]
    congr 1
    funext x w1
    congr 1
    funext y w2
    congr 1
    funext b w3
    cases b
    · simp
    · simpa using ih w3
theorem r_fields {eq : TypeId → V → V → Option Bool} {eqM : TypeId → Value → Value → Sem Bool} (ρ : Nat → Loc) (D : Nat → Prop) {xs ys : List V} (hx : ∀ u ∈ xs, u.In D ρ) (hy : ∀ u ∈ ys, u.In D ρ)
    (he : ∀ t a b r, eq t a b = some r → a.In D ρ → b.In D ρ → ∀ w, (eqM t (a.val ρ) (b.val ρ)).run P w = .ok r w) : ∀ {l : List Field} {r : Bool}, fieldsEq P eq xs ys l = some r →
    ∀ w, (fieldsLoop eqM (xs.map (V.val ρ)).toArray (ys.map (V.val ρ)).toArray l).run P w = .ok r w
  | [], r, h, w => by simp only [fieldsEq, Option.some.injEq] at h; subst h; rfl
  | f :: l, r, h, w => by
    simp only [fieldsEq] at h
    split at h
    · cases h
    · rename_i hn
      split at h
      · rename_i a b ha hb
        obtain ⟨a1, a2⟩ := r_part ha ρ D hx
        obtain ⟨b1, b2⟩ := r_part hb ρ D hy
        rw [fieldsLoop, if_pos hn]
        split at h
        · rename_i hq
          simp only [Sem.run_bind, a2, b2, Result.andThen_ok, he _ _ _ _ hq a1 b1, Bool.not_true, Bool.false_eq_true, if_false]
          exact r_fields ρ D hx hy he h w
        · rename_i hq
          have hr : r = false := by cases r <;> simp_all
          subst hr
          simp only [Sem.run_bind, a2, b2, Result.andThen_ok, he _ _ _ _ h a1 b1, Bool.not_false, if_true, Sem.run_pure]
      · cases h
theorem r_elems {eq : TypeId → V → V → Option Bool} {eqM : TypeId → Value → Value → Sem Bool} (ρ : Nat → Loc) (D : Nat → Prop) {e : TypeId} {s : Nat} {xs ys : List V} (hx : ∀ u ∈ xs, u.In D ρ) (hy : ∀ u ∈ ys, u.In D ρ)
    (he : ∀ t a b r, eq t a b = some r → a.In D ρ → b.In D ρ → ∀ w, (eqM t (a.val ρ) (b.val ρ)).run P w = .ok r w) : ∀ {k i : Nat} {r : Bool}, elemsEq P eq e s xs ys i k = some r →
    ∀ w, (elemsLoop (eqM e) e s (xs.map (V.val ρ)).toArray (ys.map (V.val ρ)).toArray (List.range' i k)).run P w = .ok r w
  | 0, i, r, h, w => by simp only [elemsEq, Option.some.injEq] at h; subst h; rfl
  | k + 1, i, r, h, w => by
    simp only [elemsEq] at h
    split at h
    · rename_i a b ha hb
      obtain ⟨a1, a2⟩ := r_part ha ρ D hx
      obtain ⟨b1, b2⟩ := r_part hb ρ D hy
      rw [List.range'_succ, elemsLoop]
      split at h
      · rename_i hq
        simp only [Sem.run_bind, a2, b2, Result.andThen_ok, he _ _ _ _ hq a1 b1, Bool.not_true, Bool.false_eq_true, if_false]
        exact r_elems ρ D hx hy he h w
      · rename_i hq
        have hr : r = false := by cases r <;> simp_all
        subst hr
        simp only [Sem.run_bind, a2, b2, Result.andThen_ok, he _ _ _ _ h a1 b1, Bool.not_false, if_true, Sem.run_pure]
    · cases h
theorem r_eq : ∀ {d : Nat} {t : TypeId} {x y : V} {b : Bool}, eqV P d t x y = some b → ∀ (ρ : Nat → Loc) (D : Nat → Prop), x.In D ρ → y.In D ρ → ∀ (k : Nat) (w : World), (Op.equalIn (d + k) t (x.val ρ) (y.val ρ)).run P w = .ok b w
  | 0, t, x, y, b, h, ρ, D, hx, hy, k, w => by simp [eqV] at h
  | d + 1, t, x, y, b, h, ρ, D, hx, hy, k, w => by
    rw [show d + 1 + k = (d + k) + 1 from by omega]
    unfold eqV at h
    split at h
    case h_18 fields xs ys hu =>
      split at h
      · cases h
      · rename_i hs
        rw [val_agg_eq, val_agg_eq, equalIn_struct hu (by simpa using hs)]
        exact r_fields (eq := eqV P d) ρ D (V.In.toL (v := xs) hx) (V.In.toL (v := ys) hy) (fun t a b r hr ha hb w => r_eq hr ρ D ha hb k w) h w
    case h_19 len e xs ys hu =>
      split at h
      · cases h
      · rename_i s hs
        rw [val_agg_eq, val_agg_eq, equalIn_array hu hs]
        exact r_elems (eq := eqV P d) (eqM := Op.equalIn (d + k)) ρ D (V.In.toL (v := xs) hx) (V.In.toL (v := ys) hy) (fun t a b r hr ha hb w => r_eq hr ρ D ha hb k w) h w
    case h_20 => cases h
    case h_2 kk k1 a k2 b1 hu =>
      split at h
      · rename_i hk
        simp only [Option.some.injEq] at h
        subst h
        simp [Op.equalIn, run_underlying hu, V.val_int, hk]
      · cases h
    case h_3 a b1 hu =>
      simp only [Option.some.injEq] at h
      subst h
      simp only [Op.equalIn, Sem.run_bind, run_underlying hu, Result.andThen_ok, V.val_str, Sem.run_pure, bytes_beq]
    all_goals
      rename_i hu
      simp only [Option.some.injEq] at h
      subst h
      simp [Op.equalIn, run_underlying hu, V.val_bool, V.val_nilptr, V.val_ptr, V.val_nilslice, V.val_slice, V.val_tail, V.val_nilmap, V.val_map, V.val_nilfn, V.val_fn]
end
end Go.Ev
