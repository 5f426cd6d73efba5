/- What looks at no memory: as the model does it (4). -/
import Derived.Test.YtmoddhfemejekaaEvE
namespace Go.Ev

section
variable {P : Program}
theorem Addr_add (b o n : Nat) : (⟨b, o, none⟩ : Addr).add n = ⟨b, o + n, none⟩ := by
  unfold Addr.add
  split
  · rename_i h; subst h; rfl
  · rfl
theorem natOf_some {v : V} {n : Nat} (h : natOf v = some n) : ∃ k, v = .int k (n : Int) := by
  unfold natOf at h
  split at h
  · rename_i k i
    split at h
    · rename_i hi
      simp only [Option.some.injEq] at h
      subst h
      exact ⟨k, by rw [Int.toNat_of_nonneg hi]⟩
    · cases h
  · cases h
theorem r_bound {y d n : Nat} {v : V} (h : bound y d (some v) = some n) (ρ : Nat → Loc) (code : BoundsCode) (w : World) : (Instr.sliceBound (v.val ρ) y code).run P w = .ok n w ∧ n ≤ y := by
  unfold bound at h
  simp only at h
  split at h
  · rename_i m hm
    split at h
    · rename_i hle
      simp only [Option.some.injEq] at h
      subst h
      obtain ⟨k, rfl⟩ := natOf_some hm
      refine ⟨?_, hle⟩
      simp only [Instr.sliceBound, asIntOf, V.val_int, Sem.run_bind, Sem.run_pure, Result.andThen_ok]
      rw [if_pos ⟨by omega, by omega⟩]
      simp
    · cases h
  · cases h
theorem r_bounds {isSlice : Bool} {len cap m h l : Nat} {lo hi mx : Option V} (h1 : bound cap cap mx = some m) (h2 : bound m len hi = some h) (h3 : bound h 0 lo = some l) (h4 : (mx.isSome && hi.isNone) = false) (ρ : Nat → Loc) (w : World) :
    (Instr.sliceBounds isSlice len cap (lo.map (V.val ρ)) (hi.map (V.val ρ)) (mx.map (V.val ρ))).run P w = .ok (l, h, m) w := by
  unfold Instr.sliceBounds
  cases mx with
  | none =>
    simp only [bound, Option.some.injEq] at h1
    subst h1
    cases hi with
    | none =>
      simp only [bound, Option.some.injEq] at h2
      subst h2
      cases lo with
      | none => simp only [bound, Option.some.injEq] at h3; subst h3; simp
      | some v => simp [(r_bound h3 ρ _ _).1]
    | some u =>
      cases lo with
      | none => simp only [bound, Option.some.injEq] at h3; subst h3; simp [(r_bound h2 ρ _ _).1]
      | some v => simp [(r_bound h2 ρ _ _).1, (r_bound h3 ρ _ _).1]
  | some x =>
    cases hi with
    | none => simp at h4
    | some u =>
      cases lo with
      | none => simp only [bound, Option.some.injEq] at h3; subst h3; simp [(r_bound h1 ρ _ _).1, (r_bound h2 ρ _ _).1]
      | some v => simp [(r_bound h1 ρ _ _).1, (r_bound h2 ρ _ _).1, (r_bound h3 ρ _ _).1]
theorem bound_le {y d n : Nat} {v : Option V} (h : bound y d v = some n) (hd : d ≤ y) : n ≤ y := by
  cases v with
  | none => simp only [bound, Option.some.injEq] at h; omega
  | some v => exact (r_bound (P := { (default : Program) with funcs := #[] }) h (fun _ => ⟨0, 0, 0⟩) .index default).2
/-- The arithmetic of a slice of a slice. -/
theorem r_sliceV {esz n off len c : Nat} {ex : Bool} {lo hi mx : Option V} {v : V} (h : sliceV esz n off len c ex lo hi mx = some v) (ρ : Nat → Loc) (D : Nat → Prop) (hi' : (V.slice n off len c ex).In D ρ) (isSlice : Bool) :
    v.In D ρ ∧ ∃ l h' m, (∀ w, (Instr.sliceBounds isSlice len (if ex then c else (ρ n).cap - c) (lo.map (V.val ρ)) (hi.map (V.val ρ)) (mx.map (V.val ρ))).run P w = .ok (l, h', m) w) ∧
      v.val ρ = .slice (some (if m = l then ⟨(ρ n).blk, (ρ n).base + off, none⟩ else (⟨(ρ n).blk, (ρ n).base + off, none⟩ : Addr).add (l * esz))) (h' - l) (m - l) := by
  unfold sliceV at h
  split at h
  · cases h
  · rename_i h4
    have h4 : (mx.isSome && hi.isNone) = false := Bool.eq_false_iff.2 h4
    split at h
    · rename_i hex
      split at h
      · cases h
      · rename_i m h1
        split at h
        · cases h
        · rename_i hh h2
          split at h
          · cases h
          · rename_i l h3
            simp only [Option.some.injEq] at h
            subst h
            refine ⟨⟨hi'.1, by simp⟩, l, hh, m, fun w => ?_, ?_⟩
            · rw [if_pos hex]; exact r_bounds h1 h2 h3 h4 ρ w
            · rw [V.val_slice, if_pos rfl]
              split
              · rfl
              · rw [Addr_add, Nat.add_assoc]
    · rename_i hex
      have hroom := hi'.2 (by simpa using hex)
      rw [if_neg hex]
      split at h
      · split at h
        · rename_i m u hn _
          split at h
          · rename_i hml
            split at h
            · cases h
            · rename_i hh h2
              split at h
              · cases h
              · rename_i l h3
                simp only [Option.some.injEq] at h
                subst h
                refine ⟨⟨hi'.1, by simp⟩, l, hh, m, fun w => ?_, ?_⟩
                · refine r_bounds ?_ h2 h3 h4 ρ w
                  simp only [bound, hn]
                  rw [if_pos (by omega)]
                · rw [V.val_slice, if_pos rfl]
                  split
                  · rfl
                  · rw [Addr_add, Nat.add_assoc]
          · cases h
        · cases h
      · split at h
        · cases h
        · rename_i hh h2
          split at h
          · cases h
          · rename_i l h3
            split at h
            · rename_i hl
              simp only [Option.some.injEq] at h
              subst h
              have hhl : hh ≤ len := bound_le h2 (Nat.le_refl _)
              have hlh : l ≤ hh := bound_le h3 (Nat.zero_le _)
              refine ⟨⟨hi'.1, fun _ => by omega⟩, l, hh, (ρ n).cap - c, fun w => ?_, ?_⟩
              · refine r_bounds (isSlice := isSlice) (mx := none) rfl ?_ h3 h4 ρ w
                cases hi with
                | none => exact h2
                | some u =>
                  simp only [bound] at h2 ⊢
                  split at h2
                  · split at h2
                    · simp only [Option.some.injEq] at h2; subst h2
                      rw [if_pos (by omega)]
                    · cases h2
                  · cases h2
              · rw [V.val_slice]
                simp only [Bool.false_eq_true, if_false]
                split
                · rename_i he
                  have : l = 0 := by omega
                  subst this
                  simp
                · rw [Addr_add]
                  simp only [Nat.add_assoc, Value.slice.injEq, true_and]
                  omega
            · rename_i hl
              simp only [Option.some.injEq] at h
              subst h
              have hhl : hh ≤ len := bound_le h2 (Nat.le_refl _)
              have hlh : l ≤ hh := bound_le h3 (Nat.zero_le _)
              refine ⟨⟨hi'.1, by omega⟩, l, hh, (ρ n).cap - c, fun w => ?_, ?_⟩
              · refine r_bounds (isSlice := isSlice) (mx := none) rfl ?_ h3 h4 ρ w
                cases hi with
                | none => exact h2
                | some u =>
                  simp only [bound] at h2 ⊢
                  split at h2
                  · split at h2
                    · simp only [Option.some.injEq] at h2; subst h2
                      rw [if_pos (by omega)]
                    · cases h2
                  · cases h2
              · rw [V.val_tail]
                have e1 : hh - l = 0 := by omega
                rw [e1, show (ρ n).cap - (c + l) = (ρ n).cap - c - l from by omega]
                by_cases he : (ρ n).cap - c = l
                · rw [if_pos (by omega), if_pos he]
                · rw [if_neg (by omega), if_neg he, Addr_add, Nat.add_assoc]
theorem r_slice {t : TypeId} {x v : V} {lo hi mx : Option V} (h : sliceOpV P t x lo hi mx = some v) (ρ : Nat → Loc) (D : Nat → Prop) (hx : x.In D ρ) :
    v.In D ρ ∧ ∀ w, (Instr.sliceAt t (x.val ρ) (lo.map (V.val ρ)) (hi.map (V.val ρ)) (mx.map (V.val ρ))).run P w = .ok (v.val ρ) w := by
  unfold sliceOpV at h
  split at h
  · rename_i s hu
    split at h
    · cases h
    · split at h
      · cases h
      · rename_i hh h2
        split at h
        · cases h
        · rename_i l h3
          simp only [Option.some.injEq] at h
          subst h
          refine ⟨trivial, fun w => ?_⟩
          have hb := r_bounds (P := P) (isSlice := false) (len := s.length) (mx := none) rfl h2 h3 rfl ρ w
          simp only [Option.map_none] at hb
          have hz : (⟨s.toArray⟩ : ByteArray).size = s.length := by simp [ByteArray.size]
          simp only [Instr.sliceAt, Sem.run_bind, run_underlying hu, Result.andThen_ok, Instr.slice, V.val_str, Option.map_none, Option.isSome_none, Bool.false_eq_true, if_false, hz, hb]
          simp only [Sem.run_pure]
          congr 2
          apply ByteArray.ext
          simp
  · rename_i e hu
    split at h
    · cases h
    · rename_i h4
      split at h
      · cases h
      · rename_i m h1
        split at h
        · cases h
        · rename_i hh h2
          split at h
          · cases h
          · rename_i l h3
            simp only [Option.some.injEq] at h
            subst h
            have m0 : m = 0 := by have := bound_le h1 (Nat.le_refl _); omega
            have hh0 : hh = 0 := by have := bound_le h2 (Nat.le_refl _); omega
            have l0 : l = 0 := by have := bound_le h3 (Nat.zero_le _); omega
            subst m0 hh0 l0
            refine ⟨trivial, fun w => ?_⟩
            rw [Bool.or_eq_true, not_or] at h4
            obtain ⟨s, hs⟩ : ∃ s, sizeV P e = some s := by
              cases hs : sizeV P e with
              | none => rw [hs] at h4; exact absurd rfl h4.2
              | some s => exact ⟨s, rfl⟩
            have hb := r_bounds (P := P) (isSlice := true) h1 h2 h3 (Bool.eq_false_iff.2 h4.1) ρ w
            simp only [Instr.sliceAt, Sem.run_bind, run_underlying hu, Result.andThen_ok, Instr.slice, V.val_nilslice, hb, r_size hs, Sem.run_pure]
            rfl
  · rename_i e n off len c ex hu
    split at h
    · rename_i s hs
      obtain ⟨a, l, hh, m, hb, hv⟩ := r_sliceV (P := P) h ρ D hx true
      refine ⟨a, fun w => ?_⟩
      simp only [Instr.sliceAt, Sem.run_bind, run_underlying hu, Result.andThen_ok, Instr.slice, V.val_slice, hb, r_size hs, Sem.run_pure, hv]
      split <;> simp_all
    · cases h
  · rename_i k e n off hu
    split at h
    · rename_i s hs
      obtain ⟨a, l, hh, m, hb, hv⟩ := r_sliceV (P := P) h ρ D ⟨hx, by simp⟩ false
      refine ⟨a, fun w => ?_⟩
      simp only [if_true] at hb
      simp only [Instr.sliceAt, Sem.run_bind, run_underlying hu, Result.andThen_ok, Instr.sureAddr, V.val_ptr, hb, r_size hs, Sem.run_pure, hv]
    · cases h
  · cases h
end
end Go.Ev
