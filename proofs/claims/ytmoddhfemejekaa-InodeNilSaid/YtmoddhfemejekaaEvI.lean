/- What reads memory: as the model does it. -/
import Derived.Test.YtmoddhfemejekaaEvH
namespace Go.Ev

section
variable {P : Program} {gl : Nat → Option Nat} {w0 w : World} {D : Nat → Prop} {ρ : Nat → Loc} {H : Hp}
theorem cell_sound (hR : Rel gl w0 D ρ H w) {n off : Nat} {v : V} (hn : D n) (h : H.cell n off = some v) : w.cell? ⟨(ρ n).blk, (ρ n).base + off, none⟩ = some (v.val ρ) ∧ v.In D ρ ∧ v.one = true := by
  unfold Hp.cell at h
  split at h
  · rename_i size ov base g ro hg
    obtain ⟨c, e, fz, hh, hc, _⟩ := hR.ob n _ hn hg
    obtain ⟨a, b, o⟩ := hc off v h
    exact ⟨by simp [World.cell?, hh, a], b, o⟩
  · cases h
theorem cellsAt_sound (hR : Rel gl w0 D ρ H w) {n : Nat} (hn : D n) : ∀ {k off : Nat} {l : List V}, H.cellsAt n off k = some l →
    l.length = k ∧ (∀ u ∈ l, u.In D ρ ∧ u.one = true) ∧ ∀ j u, (l.map (V.val ρ))[j]? = some u → w.cell? ⟨(ρ n).blk, (ρ n).base + off + j, none⟩ = some u
  | 0, off, l, h => by
    simp only [Hp.cellsAt, Option.some.injEq] at h; subst h
    exact ⟨rfl, by simp, by simp⟩
  | k + 1, off, l, h => by
    simp only [Hp.cellsAt] at h
    split at h
    · rename_i v hv
      split at h
      · rename_i l' hl
        simp only [Option.some.injEq] at h
        subst h
        obtain ⟨a, b, c⟩ := cellsAt_sound hR hn hl
        obtain ⟨p, q, r⟩ := cell_sound hR hn hv
        refine ⟨by simp [a], fun u hu => ?_, fun j u hu => ?_⟩
        · rcases List.mem_cons.1 hu with rfl | hu
          · exact ⟨q, r⟩
          · exact b u hu
        · cases j with
          | zero => simp only [List.map_cons, List.getElem?_cons_zero, Option.some.injEq] at hu; subst hu; exact p
          | succ j =>
            simp only [List.map_cons, List.getElem?_cons_succ] at hu
            have := c j u hu
            rw [show (ρ n).base + off + (j + 1) = (ρ n).base + (off + 1) + j from by omega]
            exact this
      · cases h
    · cases h
theorem load_cells (hR : Rel gl w0 D ρ H w) {n : Nat} (hn : D n) {k off : Nat} {l : List V} (h : H.cellsAt n off k = some l) :
    (loadCells ⟨(ρ n).blk, (ρ n).base + off, none⟩ k).run P w = .ok (l.map (V.val ρ)).toArray w := by
  obtain ⟨a, _, c⟩ := cellsAt_sound hR hn h
  have := run_loadCells_list (P := P) (w := w) ⟨(ρ n).blk, (ρ n).base + off, none⟩ (l.map (V.val ρ)) (fun j u hu => by rw [Addr_add]; exact c j u hu)
  rwa [List.length_map, a] at this
theorem loadVar_sound (hR : Rel gl w0 D ρ H w) {t : TypeId} {n off : Nat} {v : V} (hn : D n) (h : loadV P H t n off = some v) :
    v.In D ρ ∧ (loadVar t ⟨(ρ n).blk, (ρ n).base + off, none⟩).run P w = .ok (v.val ρ) w := by
  unfold loadV at h
  split at h
  · rename_i hb
    split at h
    · rename_i s hs
      split at h
      · rename_i l hl
        simp only [Option.some.injEq] at h
        subst h
        obtain ⟨_, b, _⟩ := cellsAt_sound hR hn hl
        refine ⟨V.In.ofL fun u hu => (b u hu).1, ?_⟩
        simp only [loadVar, Sem.run_bind, r_isAgg hb, Result.andThen_ok, if_true, r_size hs, load_cells hR hn hl, Sem.run_pure, V.val_agg, V.vals_ofL]
      · cases h
    · cases h
  · rename_i hb
    obtain ⟨a, b, _⟩ := cell_sound hR hn h
    refine ⟨b, ?_⟩
    simp [loadVar, r_isAgg hb, a]
  · cases h

/-! ### Maps -/
theorem keyKind_check {kt : TypeId} {k : V} (h : keyKind P kt k = true) (ρ : Nat → Loc) (e : Bool) (n : Nat) (w : World) : (Instr.checkKey e (n + 1) kt (k.val ρ)).run P w = .ok () w := by
  unfold keyKind at h
  split at h
  · rename_i k i
    split at h
    · rename_i k' hu; simp [Instr.checkKey, run_underlying hu, V.val_int]
    · cases h
  · split at h
    · rename_i hu; simp [Instr.checkKey, run_underlying hu, V.val_str]
    · cases h
  · split at h
    · rename_i hu; simp [Instr.checkKey, run_underlying hu, V.val_bool]
    · cases h
  · cases h
def kindOf : V → Option TypeDesc
  | .int k _ => some (.int k)
  | .str _ => some .string
  | .bool _ => some .bool
  | _ => none
theorem keyKind_under {kt : TypeId} {k : V} (h : keyKind P kt k = true) : ∃ d, P.underlying kt = some d ∧ ∀ (ρ : Nat → Loc) (a : V) (b : Bool), sameKey k a = some b → Instr.sameNow d (k.val ρ) (a.val ρ) = some b := by
  unfold keyKind at h
  split at h
  · rename_i k i
    split at h
    · rename_i k' hu
      refine ⟨_, hu, fun ρ a b hs => ?_⟩
      cases a <;> simp only [sameKey, reduceCtorEq] at hs
      simpa [Instr.sameNow, V.val_int] using hs
    · cases h
  · split at h
    · rename_i s hu
      refine ⟨_, hu, fun ρ a b hs => ?_⟩
      cases a <;> simp only [sameKey, reduceCtorEq] at hs
      simp only [Instr.sameNow, V.val_str, bytes_beq]
      exact hs
    · cases h
  · split at h
    · rename_i s hu
      refine ⟨_, hu, fun ρ a b hs => ?_⟩
      cases a <;> simp only [sameKey, reduceCtorEq] at hs
      simpa [Instr.sameNow, V.val_bool] using hs
    · cases h
  · cases h
theorem find_now {k : V} {d : TypeDesc} (ρ : Nat → Loc) (hd : ∀ (a : V) (b : Bool), sameKey k a = some b → Instr.sameNow d (k.val ρ) (a.val ρ) = some b) : ∀ {es : List (V × V)} {ents : List MapEntry} {i : Nat} {r : Option (Nat × V)},
    findV k es i = some r → ents.map (fun e => (e.key, e.val)) = es.map (fun p => (p.1.val ρ, p.2.val ρ)) → Instr.findNow d (k.val ρ) ents i = some (r.map fun p => (p.1, p.2.val ρ))
  | [], ents, i, r, h, he => by
    simp only [List.map_nil, List.map_eq_nil_iff] at he
    subst he
    simp only [findV, Option.some.injEq] at h
    subst h
    rfl
  | (a, v) :: es, ents, i, r, h, he => by
    match ents, he with
    | e :: ents, he =>
      simp only [List.map_cons, List.cons.injEq, Prod.mk.injEq] at he
      obtain ⟨⟨h1, h2⟩, he⟩ := he
      simp only [findV] at h
      split at h
      · rename_i hs
        simp only [Option.some.injEq] at h
        subst h
        simp only [Instr.findNow, h1, hd a true hs, h2, Option.map_some]
      · rename_i hs
        simp only [Instr.findNow, h1, hd a false hs]
        exact find_now ρ hd h he
      · cases h
theorem findV_mem {k : V} : ∀ {es : List (V × V)} {i j : Nat} {v : V}, findV k es i = some (some (j, v)) → i ≤ j ∧ ∃ a, es[j - i]? = some (a, v) ∧ sameKey k a = some true
  | [], i, j, v, h => by simp [findV] at h
  | (a, u) :: es, i, j, v, h => by
    simp only [findV] at h
    split at h
    · rename_i hs
      simp only [Option.some.injEq, Prod.mk.injEq] at h
      obtain ⟨rfl, rfl⟩ := h
      exact ⟨Nat.le_refl _, a, by simp, hs⟩
    · obtain ⟨a1, a2, a3, a4⟩ := findV_mem h
      refine ⟨by omega, a2, ?_, a4⟩
      rw [show j - i = (j - (i + 1)) + 1 from by omega]
      simpa using a3
    · cases h
theorem look_sound {t : TypeId} {es : List (V × V)} {k : V} {ok : Bool} {v : V} (h : lookV P t es k ok = some v) (hes : ∀ p ∈ es, p.1.In D ρ ∧ p.2.In D ρ) :
    v.In D ρ ∧ ∃ key elem, P.underlying t = some (.map key elem) ∧ (∀ e n w, (Instr.checkKey e (n + 1) key (k.val ρ)).run P w = .ok () w) ∧ ∀ ents : List MapEntry, ents.map (fun e => (e.key, e.val)) = es.map (fun p => (p.1.val ρ, p.2.val ρ)) → ∀ w,
      ∃ r, (Instr.findKey key (k.val ρ) ents).run P w = .ok r w ∧ ((do
        let (v, ok') ← match r with
          | some (_, v) => pure (v, true)
          | none => do pure (← zeroValue elem, false)
        pure (if ok then .tuple #[v, .bool ok'] else v) : Sem Value)).run P w = .ok (v.val ρ) w := by
  unfold lookV at h
  split at h
  · rename_i kt et hu
    split at h
    · rename_i hk
      obtain ⟨d, hd, hsame⟩ := keyKind_under hk
      have hfind : ∀ (r : Option (Nat × V)), findV k es 0 = some r → ∀ ents : List MapEntry, ents.map (fun e => (e.key, e.val)) = es.map (fun p => (p.1.val ρ, p.2.val ρ)) → ∀ w, (Instr.findKey kt (k.val ρ) ents).run P w = .ok (r.map fun p => (p.1, p.2.val ρ)) w := by
        intro r hr ents he w
        have := find_now ρ (fun a b => hsame ρ a b) hr he
        simp only [Instr.findKey, Sem.run_bind, run_underlying hd, Result.andThen_ok, this, Sem.run_pure]
      split at h
      · rename_i i u hf
        simp only [Option.some.injEq] at h
        subst h
        obtain ⟨_, a, hm, _⟩ := findV_mem hf
        have hu2 := (hes _ (List.mem_of_getElem? hm)).2
        refine ⟨by split; exact ⟨hu2, trivial, trivial⟩; exact hu2, kt, et, hu, fun e n w => keyKind_check hk ρ e n w, fun ents he w => ⟨_, hfind _ hf ents he w, ?_⟩⟩
        cases ok <;> simp [V.cv, V.val]
      · rename_i hf
        split at h
        · rename_i z hz
          simp only [Option.some.injEq] at h
          subst h
          obtain ⟨z1, z2⟩ := r_zero hz ρ D
          refine ⟨by split; exact ⟨z1, trivial, trivial⟩; exact z1, kt, et, hu, fun e n w => keyKind_check hk ρ e n w, fun ents he w => ⟨_, hfind _ hf ents he w, ?_⟩⟩
          cases ok <;> simp [z2, V.cv, V.val]
        · cases h
      · cases h
    · cases h
  · cases h
theorem bytesOf_sound : ∀ {l : List V} {b : List UInt8}, bytesOf l = some b → ∀ (acc : ByteArray) (w : World),
    (forIn (l.map (V.val ρ)) acc (fun c (s : ByteArray) => (match c with
      | .int .u8 n => pure (ForInStep.yield (s.push (UInt8.ofNat n.toNat)))
      | _ => do
        stuck "bytesToString: byte expected"
        pure (ForInStep.yield s) : Sem (ForInStep ByteArray)))).run P w = .ok ⟨(acc.data.toList ++ b).toArray⟩ w
  | [], b, h, acc, w => by
    simp only [bytesOf, Option.some.injEq] at h
    subst h
    simp
  | v :: l, b, h, acc, w => by
    unfold bytesOf at h
    split at h
    · rename_i e; cases e
    · rename_i n l' e
      simp only [List.cons.injEq] at e
      obtain ⟨rfl, rfl⟩ := e
      split at h
      · rename_i m hm
        simp only [Option.some.injEq] at h
        subst h
        have ih := bytesOf_sound hm (acc.push (UInt8.ofNat n.toNat)) w
        simp only [List.map_cons, List.forIn_cons, V.val_int, Sem.run_bind, Sem.run_pure, Result.andThen_ok]
        rw [ih]
        simp [ByteArray.push]
      · cases h
    · cases h
theorem map_at (hR : Rel gl w0 D ρ H w) {n : Nat} {es : List (V × V)} (hn : D n) (h : H.get n = some (.map es)) : ∃ ents clock, w.heap[(ρ n).blk]? = some (.map ents clock) ∧ ents.toList.map (fun e => (e.key, e.val)) = es.map (fun p => (p.1.val ρ, p.2.val ρ)) ∧ ∀ p ∈ es, p.1.In D ρ ∧ p.2.In D ρ := by
  obtain ⟨_, ents, clock, a, b, c⟩ := hR.ob n _ hn h
  exact ⟨ents, clock, a, b, c⟩
theorem run_getObj_map {r : Nat} {ents : Array MapEntry} {clock : Nat} (h : w.heap[r]? = some (.map ents clock)) : (getObj r).run P w = .ok (.map ents clock) w := by
  simp [getObj, Sem.run, h]
theorem read_sound {tm : List V} {o : Oper} {v : V} (hR : Rel gl w0 D ρ H w) (h : readV P gl tm H o.op = some v) {ev : Operand → Value} (he : Opnds gl tm ρ D ev o.op.operands) :
    v.In D ρ ∧ (execOp ev o).run P w = .ok (.value (v.val ρ)) w := by
  obtain ⟨dst, op, type, pos, after, guard⟩ := o
  simp only at h he
  unfold Opnds at he
  unfold readV at h
  split at h
  · rename_i t x
    split at h
    · rename_i n off hx
      obtain ⟨a1, a2⟩ := he x (by simp [Op.operands]) _ hx
      obtain ⟨b1, b2⟩ := loadVar_sound hR a2 h
      exact ⟨b1, by simp only [execOp, Instr.loadAt, a1, V.val_ptr, Instr.sureAddr, Sem.run_bind, Sem.run_pure, Result.andThen_ok, b2]⟩
    · cases h
  · rename_i t x k ok
    split at h
    · rename_i kv hx hk
      obtain ⟨a1, a2⟩ := he x (by simp [Op.operands]) _ hx
      obtain ⟨k1, k2⟩ := he k (by simp [Op.operands]) _ hk
      obtain ⟨c1, key, elem, hu, hck, hfind⟩ := look_sound (ρ := ρ) (D := D) h (by simp)
      obtain ⟨r, f1, f2⟩ := hfind [] rfl w
      refine ⟨c1, ?_⟩
      simp only [execOp, Instr.lookup, a1, k1, V.val_nilmap, Sem.run_bind, Sem.run_pure, run_underlying hu, Result.andThen_ok, hck, f1]
      cases ok <;> cases r <;> simp_all
    · rename_i n kv hx hk
      split at h
      · rename_i es hg
        obtain ⟨a1, a2⟩ := he x (by simp [Op.operands]) _ hx
        obtain ⟨k1, k2⟩ := he k (by simp [Op.operands]) _ hk
        obtain ⟨ents, clock, m1, m2, m3⟩ := map_at hR a2 hg
        obtain ⟨c1, key, elem, hu, hck, hfind⟩ := look_sound (ρ := ρ) (D := D) h m3
        obtain ⟨r, f1, f2⟩ := hfind ents.toList m2 w
        refine ⟨c1, ?_⟩
        simp only [execOp, Instr.lookup, a1, k1, V.val_map, Sem.run_bind, Sem.run_pure, run_underlying hu, Result.andThen_ok, run_getObj_map m1, hck, f1]
        cases ok <;> cases r <;> simp_all
      · cases h
    · cases h
  · rename_i s d x
    split at h
    · rename_i e hs hd hx
      split at h
      · rename_i hu
        simp only [if_true, Option.some.injEq] at h
        subst h
        obtain ⟨a1, a2⟩ := he x (by simp [Op.operands]) _ hx
        refine ⟨trivial, ?_⟩
        simp [execOp, a1, V.val_nilslice, convert, run_underlying hs, run_underlying hd, run_underlying hu, Conv.bytesToString, V.val_str]
        rfl
      · simp at h
    · rename_i e n off len c ex hs hd hx
      split at h
      · rename_i hu
        simp only [if_true] at h
        split at h
        · rename_i l hl
          split at h
          · rename_i b hb
            simp only [Option.some.injEq] at h
            subst h
            obtain ⟨a1, a2⟩ := he x (by simp [Op.operands]) _ hx
            refine ⟨trivial, ?_⟩
            have hc := load_cells (P := P) hR a2.1 hl
            have hb' := bytesOf_sound (P := P) (ρ := ρ) hb ByteArray.empty w
            simp only [execOp, a1, V.val_slice, convert, Sem.run_bind, run_underlying hs, run_underlying hd, Result.andThen_ok, run_underlying hu, Conv.bytesToString, hc, V.val_str]
            rw [← Array.forIn_toList]
            simp only [List.nil_append, show ByteArray.empty.data.toList = [] from rfl] at hb'
            exact (congrArg (fun (r : Result ByteArray) => (r.andThen fun a w' => Sem.run P (pure (Value.string a)) w').andThen fun a w' => Sem.run P (pure (Next.value a)) w') hb').trans rfl
          · cases h
        · cases h
      · simp at h
    · cases h
  · rename_i x t
    split at h
    · rename_i k e n hu hx
      split at h
      · rename_i es hg
        simp only [Option.some.injEq] at h
        subst h
        obtain ⟨a1, a2⟩ := he x (by simp [Op.operands, Call.operands]) _ hx
        obtain ⟨ents, clock, m1, m2, m3⟩ := map_at hR a2 hg
        refine ⟨trivial, ?_⟩
        have hl : ents.size = es.length := by
          have := congrArg List.length m2
          simpa using this
        simp only [execOp, resolve, invoke, builtin, Builtin.len_, Sem.run_bind, Sem.run_pure, Result.andThen_ok, List.map_toArray, List.map_cons, List.map_nil, a1, V.val_map, List.getElem?_toArray, List.getElem?_cons_zero, run_underlying hu, run_getObj_map m1, goInt, V.val_int, hl]
      · cases h
    · cases h
  · cases h
end
end Go.Ev
