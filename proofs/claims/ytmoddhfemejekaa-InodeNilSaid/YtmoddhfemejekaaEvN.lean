/- What turns memory: as the model does it (4). -/
import Derived.Test.YtmoddhfemejekaaEvM
namespace Go.Ev

section
variable {P : Program} {gl : Nat → Option Nat} {w0 w : World} {D : Nat → Prop} {ρ : Nat → Loc} {H : Hp}
theorem eff_sound {tm : List V} {o : Oper} {v : V} {H' : Hp} (hR : Rel gl w0 D ρ H w) (h : effV P gl tm H o.op = some (v, H')) {ev : Operand → Value} (he : Opnds gl tm ρ D ev o.op.operands) :
    Does gl w0 D ρ H v H' ((execOp ev o).run P w) := by
  obtain ⟨dst, op, type, pos, after, guard⟩ := o
  simp only at h he
  unfold Opnds at he
  unfold effV at h
  split at h
  · rename_i t x y
    split at h
    · rename_i n off v1 s hx hy hs
      split at h
      · rename_i hsz
        split at h
        · rename_i H1 hst
          simp only [Option.some.injEq, Prod.mk.injEq] at h
          obtain ⟨rfl, rfl⟩ := h
          obtain ⟨a1, a2⟩ := he x (by simp [Op.operands]) _ hx
          obtain ⟨b1, b2⟩ := he y (by simp [Op.operands]) _ hy
          obtain ⟨s1, s2, w', s3, s4⟩ := store_sound (P := P) hR hst a2 (V.In.cells b2)
          refine ⟨D, ρ, w', .skip, ?_, .inr ⟨rfl, rfl⟩, nx_same s1 a2 s2, s4, trivial⟩
          have hc : (v1.val ρ).cells.toList = v1.cells.map (V.val ρ) := V.val_cells ρ v1
          have hcs : (v1.val ρ).cells.size = s := by rw [← Array.length_toList, hc, List.length_map, hsz]
          simp only [execOp, Instr.storeAt, a1, b1, V.val_ptr, Instr.sureAddr, Sem.run_bind, Sem.run_pure, Result.andThen_ok, storeVar, r_size hs, hcs]
          rw [if_neg (by simp)]
          rw [hc, s3]
          rfl
        · cases h
      · cases h
    · cases h
  · rename_i t m k y
    split at h
    · rename_i kt et n kv v1 hu hm hk hy
      split at h
      · rename_i hkk
        split at h
        · rename_i es hg
          obtain ⟨a1, a2⟩ := he m (by simp [Op.operands]) _ hm
          obtain ⟨b1, b2⟩ := he k (by simp [Op.operands]) _ hk
          obtain ⟨c1, c2⟩ := he y (by simp [Op.operands]) _ hy
          split at h
          · rename_i i u hf
            simp only [Option.some.injEq, Prod.mk.injEq] at h
            obtain ⟨rfl, rfl⟩ := h
            obtain ⟨w', s3, s4⟩ := update_sound hR hu hkk a2 hg hf b2 c2
            exact ⟨D, ρ, w', .skip, by simp only [execOp, a1, b1, c1, V.val_map, Sem.run_bind, s3, Result.andThen_ok, Sem.run_pure], .inr ⟨rfl, rfl⟩, nx_same rfl a2 (fun m hm => by rw [Hp.get_set (Hp.get_lt hg), if_neg hm]), s4, trivial⟩
          · rename_i hf
            simp only [Option.some.injEq, Prod.mk.injEq] at h
            obtain ⟨rfl, rfl⟩ := h
            obtain ⟨w', s3, s4⟩ := update_sound hR hu hkk a2 hg hf b2 c2
            exact ⟨D, ρ, w', .skip, by simp only [execOp, a1, b1, c1, V.val_map, Sem.run_bind, s3, Result.andThen_ok, Sem.run_pure], .inr ⟨rfl, rfl⟩, nx_same rfl a2 (fun m hm => by rw [Hp.get_set (Hp.get_lt hg), if_neg hm]), s4, trivial⟩
          · cases h
        · cases h
      · cases h
    · cases h
  · rename_i t m k y
    split at h
    · rename_i kt et n kv v1 hu hm hk hy
      split at h
      · rename_i hkk
        split at h
        · rename_i es hg
          obtain ⟨a1, a2⟩ := he m (by simp [Op.operands]) _ hm
          obtain ⟨b1, b2⟩ := he k (by simp [Op.operands]) _ hk
          obtain ⟨c1, c2⟩ := he y (by simp [Op.operands]) _ hy
          split at h
          · rename_i i u hf
            simp only [Option.some.injEq, Prod.mk.injEq] at h
            obtain ⟨rfl, rfl⟩ := h
            obtain ⟨w', s3, s4⟩ := update_sound hR hu hkk a2 hg hf b2 c2
            exact ⟨D, ρ, w', .skip, by simp only [execOp, a1, b1, c1, V.val_map, Sem.run_bind, s3, Result.andThen_ok, Sem.run_pure], .inr ⟨rfl, rfl⟩, nx_same rfl a2 (fun m hm => by rw [Hp.get_set (Hp.get_lt hg), if_neg hm]), s4, trivial⟩
          · rename_i hf
            simp only [Option.some.injEq, Prod.mk.injEq] at h
            obtain ⟨rfl, rfl⟩ := h
            obtain ⟨w', s3, s4⟩ := update_sound hR hu hkk a2 hg hf b2 c2
            exact ⟨D, ρ, w', .skip, by simp only [execOp, a1, b1, c1, V.val_map, Sem.run_bind, s3, Result.andThen_ok, Sem.run_pure], .inr ⟨rfl, rfl⟩, nx_same rfl a2 (fun m hm => by rw [Hp.get_set (Hp.get_lt hg), if_neg hm]), s4, trivial⟩
          · cases h
        · cases h
      · cases h
    · cases h
  · rename_i s x t u
    split at h
    · rename_i e ud sv xv ht hu hs hx
      split at h
      · rename_i hd
        obtain ⟨a1, a2⟩ := he s (by simp [Op.operands, Call.operands]) _ hs
        obtain ⟨b1, b2⟩ := he x (by simp [Op.operands, Call.operands]) _ hx
        obtain ⟨D', ρ', w', c1, c2, c3, c4⟩ := append_sound (ty := type) hR ht hu hd h a2 b2
        refine ⟨D', ρ', w', .value (v.val ρ'), ?_, .inl rfl, c2, c3, c4⟩
        simp only [execOp, resolve, invoke, builtin, Sem.run_bind, Sem.run_pure, Result.andThen_ok, List.map_toArray, List.map_cons, List.map_nil, a1, b1, c1]
      · cases h
    · cases h
  · rename_i dd x t u
    split at h
    · rename_i e dv xv ht hd hx
      obtain ⟨a1, a2⟩ := he dd (by simp [Op.operands, Call.operands]) _ hd
      obtain ⟨b1, b2⟩ := he x (by simp [Op.operands, Call.operands]) _ hx
      split at h
      · rename_i esz m hsz hm
        simp only [Option.some.injEq, Prod.mk.injEq] at h
        obtain ⟨rfl, rfl⟩ := h
        refine ⟨D, ρ, w, .value (.int .i64 0), ?_, .inl rfl, Nx.refl _ _ _, hR, trivial⟩
        have h0 : (Builtin.firstCells esz 0 (xv.val ρ)).run P w = .ok #[] w := by
          unfold rowLen at hm
          split at hm
          · rfl
          · simp [Builtin.firstCells, V.val_tail, loadCells, loadCellsFrom]
          · simp [Builtin.firstCells, V.val_slice, loadCells, loadCellsFrom]
          · simp [Builtin.firstCells, V.val_str]
          · cases hm
        simp only [execOp, resolve, invoke, builtin, Builtin.copy_, List.getElem?_toArray, List.getElem?_cons_zero, List.getElem?_cons_succ, Sem.run_bind, Sem.run_pure, Result.andThen_ok, List.map_toArray, List.map_cons, List.map_nil, a1, b1, V.val_nilslice, run_underlying ht, rowLen_sound hm, r_size hsz, Nat.min_zero, h0, goInt]
        simp
      · rename_i esz m n0 o0 o1 c0 hsz hm
        simp only [Option.some.injEq, Prod.mk.injEq] at h
        obtain ⟨rfl, rfl⟩ := h
        refine ⟨D, ρ, w, .value (.int .i64 0), ?_, .inl rfl, Nx.refl _ _ _, hR, trivial⟩
        have h0 : (Builtin.firstCells esz 0 (xv.val ρ)).run P w = .ok #[] w := by
          unfold rowLen at hm
          split at hm
          · rfl
          · simp [Builtin.firstCells, V.val_tail, loadCells, loadCellsFrom]
          · simp [Builtin.firstCells, V.val_slice, loadCells, loadCellsFrom]
          · simp [Builtin.firstCells, V.val_str]
          · cases hm
        simp only [execOp, resolve, invoke, builtin, Builtin.copy_, List.getElem?_toArray, List.getElem?_cons_zero, List.getElem?_cons_succ, Sem.run_bind, Sem.run_pure, Result.andThen_ok, List.map_toArray, List.map_cons, List.map_nil, a1, b1, V.val_tail, run_underlying ht, rowLen_sound hm, r_size hsz, Nat.min_zero, h0, goInt]
        simp [storeCells]
      · rename_i esz m n off len c ex hsz hm
        split at h
        · rename_i cs hcs
          split at h
          · rename_i H1 hst
            simp only [Option.some.injEq, Prod.mk.injEq] at h
            obtain ⟨rfl, rfl⟩ := h
            obtain ⟨n1, n2, n3⟩ := rowCells_sound (P := P) hR hcs b2
            obtain ⟨s1, s2, w', s3, s4⟩ := store_sound (P := P) hR hst a2.1 (fun v hv => (n1 v hv).1)
            refine ⟨D, ρ, w', .value (.int .i64 (min m len : Nat)), ?_, .inl rfl, nx_same s1 a2.1 s2, s4, trivial⟩
            simp only [execOp, resolve, invoke, builtin, Builtin.copy_, List.getElem?_toArray, List.getElem?_cons_zero, List.getElem?_cons_succ, Sem.run_bind, Sem.run_pure, Result.andThen_ok, List.map_toArray, List.map_cons, List.map_nil, a1, b1, V.val_slice, run_underlying ht, rowLen_sound hm, r_size hsz, goInt]
            have n2' : (Builtin.firstCells esz (m.min len) (xv.val ρ)).run P w = .ok (cs.map (V.val ρ)).toArray w := n2
            simp only [n2', Result.andThen_ok, s3]
          · cases h
        · cases h
      · cases h
    · cases h
  · rename_i dd t
    split at h
    · rename_i e ht hd
      simp only [Option.some.injEq, Prod.mk.injEq] at h
      obtain ⟨rfl, rfl⟩ := h
      obtain ⟨a1, a2⟩ := he dd (by simp [Op.operands, Call.operands]) _ hd
      refine ⟨D, ρ, w, .value undef, ?_, .inl rfl, Nx.refl _ _ _, hR, trivial⟩
      simp [execOp, resolve, invoke, builtin, Builtin.clear_, a1, V.val_nilslice, run_underlying ht, undef]
    · rename_i e n off len c ex ht hd
      split at h
      · rename_i s z hs hz
        split at h
        · rename_i hzl
          split at h
          · rename_i H1 hst
            simp only [Option.some.injEq, Prod.mk.injEq] at h
            obtain ⟨rfl, rfl⟩ := h
            obtain ⟨a1, a2⟩ := he dd (by simp [Op.operands, Call.operands]) _ hd
            obtain ⟨z1, z2⟩ := r_zero hz ρ D
            obtain ⟨s1, s2, w', s3, s4⟩ := store_sound (P := P) hR hst a2.1 (zerosL_in (V.In.cells z1))
            refine ⟨D, ρ, w', .value undef, ?_, .inl rfl, nx_same s1 a2.1 s2, s4, trivial⟩
            have hzc : (z.val ρ).cells = (z.cells.map (V.val ρ)).toArray := by apply Array.ext'; simpa using V.val_cells ρ z
            cases len with
            | zero =>
              have hw : w' = w := by
                rw [Nat.zero_mul] at s3
                have : (zerosL z.cells 0).map (V.val ρ) = [] := rfl
                rw [this] at s3
                injection s3 with _ hw
                exact hw.symm
              subst hw
              simp [execOp, resolve, invoke, builtin, Builtin.clear_, a1, V.val_slice, run_underlying ht, undef]
            | succ k =>
              have hz0 : (k + 1) * s = 0 ∨ 0 < z.cells.length := by
                rw [hzl]
                rcases Nat.eq_zero_or_pos s with h | h
                · left; rw [h, Nat.mul_zero]
                · exact .inr h
              have hcl : (Builtin.zeroCells (z.val ρ).cells (k + 1)).toList = (zerosL z.cells ((k + 1) * s)).map (V.val ρ) := by
                rw [zerosL_map ρ _ _ hz0, hzc]
                simp [Builtin.zeroCells, hzl]
              simp only [execOp, resolve, invoke, builtin, Builtin.clear_, List.getElem?_toArray, List.getElem?_cons_zero, Sem.run_bind, Sem.run_pure, Result.andThen_ok, List.map_toArray, List.map_cons, List.map_nil, a1, V.val_slice, run_underlying ht, z2, hcl, s3]
              rfl
          · cases h
        · cases h
      · cases h
    · cases h
  · cases h
end
end Go.Ev
