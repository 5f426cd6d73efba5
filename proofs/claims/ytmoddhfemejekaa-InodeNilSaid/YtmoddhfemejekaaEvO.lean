/- Operations, one after the other: as the model does them. -/
import Derived.Test.YtmoddhfemejekaaEvN
import Derived.OrdersIn
import Derived.RangeFuncIn
import Derived.Lib.Bytealg
namespace Go.Ev

/-- The fence of a frame: no bound; in a round, which. -/
def Fr (rb : Option Nat) : Fence := { fn := fun _ => True, depth := none, alive := false, round := rb }

section
variable (P : Program) (gl : Nat → Option Nat) (w0 : World)
/-- What is asked of a call's end. -/
def Ends (D : Nat → Prop) (ρ : Nat → Loc) (H : Hp) (v : V) (H' : Hp) (e : Ending) (w' : World) : Prop :=
  ∃ D' ρ', e = .returned (v.val ρ') ∧ Nx D ρ H D' ρ' H' ∧ Rel gl w0 D' ρ' H' w' ∧ v.In D' ρ'
def CallOk (call : Call) : Prop :=
  ∀ f args H v H', call f args H = some (v, H') → ∀ D ρ w, Rel gl w0 D ρ H w → (∀ a ∈ args, a.In D ρ) →
    ((∀ A w, (callFunc f A).run P w = .ok (.enter f A) w) ∧ CallsIn (Fr none) 0 P f (args.map (V.val ρ)).toArray w (Ends gl w0 D ρ H v H')) ∨
    (((P.funcs[f]?).bind (·.body)).isNone = true ∧ H' = H ∧ v.In D ρ ∧ (callFunc f (args.map (V.val ρ)).toArray).run P w = .ok (.value (v.val ρ)) w)
def YldOk (yld : Nat → List V → Hp → Option (V × Hp)) : Prop :=
  ∀ l args H v H', yld l args H = some (v, H') → ∀ D ρ w, Rel gl w0 D ρ H w → D l → (∀ a ∈ args, a.In D ρ) →
    ∃ f tmps assign body, (Instr.yield (ρ l).blk (args.map (V.val ρ)).toArray).run P w = .ok (.round (ρ l).blk f tmps assign body) w ∧
      RoundIn (Fr none) 0 P (ρ l).blk f tmps assign body w (Ends gl w0 D ρ H v H')
end

section
variable {P : Program} {gl : Nat → Option Nat} {w0 w : World} {D : Nat → Prop} {ρ : Nat → Loc} {H : Hp} {call : Call} {yld : Nat → List V → Hp → Option (V × Hp)} {rb : Option Nat}
theorem value_in {F : Fence} {n : Nat} {o : Oper} {a : Act} {K : Act → World → Prop} {Q : Exit → Act → World → Prop} {v : Value} {w' : World} (hF : F = Fr rb) (hd : ∀ c, o.op ≠ .defer c) (h : (execOp a.eval o).run P w = .ok (.value v) w') (hk : K (a.put o.dst v) w') : o.wpIn F n P a w K Q := by
  subst hF
  refine ⟨fun _ _ => trivial, ?_⟩
  rw [Oper.semAt_eq _ _ _ hd, h]
  exact hk
theorem no_defer {tm : List V} {o : Op} {v : V} {H' : Hp} (h : opV P gl call yld tm H o = some (v, H')) : ∀ c, o ≠ .defer c := by
  rintro c rfl
  simp [opV, isEff, neV, pureV, readV, allocV] at h
theorem op_sound (hc : CallOk P gl w0 call) (hy : YldOk P gl w0 yld) {tm : List V} {o : Oper} {v : V} {H' : Hp} (h : opV P gl call yld tm H o.op = some (v, H')) (hR : Rel gl w0 D ρ H w) {a : Act} (he : Opnds gl tm ρ D a.eval o.op.operands)
    {K : Act → World → Prop} {Q : Exit → Act → World → Prop} (hk : ∀ D' ρ' w', Nx D ρ H D' ρ' H' → Rel gl w0 D' ρ' H' w' → v.In D' ρ' → K (a.put o.dst (v.val ρ')) w') : o.wpIn (Fr rb) 0 P a w K Q := by
  have hd := no_defer h
  unfold opV at h
  split at h
  · rename_i hEff
    split at h
    · rename_i f args hcal
      -- a call
      obtain ⟨dst, op, type, pos, after, guard⟩ := o
      simp only at h he hcal hd hk
      unfold calleeV at hcal
      split at hcal
      · rename_i fo as ts
        split at hcal
        · rename_i f' l hf hl
          simp only [Option.some.injEq, Prod.mk.injEq] at hcal
          obtain ⟨rfl, rfl⟩ := hcal
          obtain ⟨f1, f2⟩ := he fo (by simp [Op.operands, Call.operands]) _ hf
          obtain ⟨l1, l2⟩ := r_opnds hl (fun x hx u hu => he x (by simp [Op.operands, Call.operands]; exact .inr (Array.mem_toList_iff.1 hx)) u hu)
          have hargs : as.map a.eval = (l.map (V.val ρ)).toArray := by
            apply Array.ext'; simpa using l1
          unfold callV at h
          split at h
          · rename_i g x y
            rcases hc _ _ _ _ _ h D ρ w hR (by
              intro u hu
              rcases List.mem_append.1 hu with hu | hu
              · rcases List.mem_append.1 hu with hu | hu
                · exact V.In.toL (v := x) f2.1 u hu
                · exact l2 u hu
              · exact V.In.toL (v := y) f2.2 u hu) with ⟨c1, c2⟩ | ⟨_, rfl, c3, c4⟩
            case inr =>
              refine value_in rfl hd ?_ (hk D ρ w (Nx.refl _ _ _) hR c3)
              simp only [execOp, resolve, hargs, f1, V.val_fn, Deferred.ofValue, Sem.run_bind, Sem.run_pure, Result.andThen_ok, invoke, V.vals_eq]
              rw [← c4]
              congr 2
              simp
            refine ⟨fun _ _ => trivial, ?_⟩
            have hrun : (execOp a.eval { dst, op := .call { callee := .value fo, args := as, argTypes := ts }, type, pos, after, guard }).run P w = .ok (.enter g ((x.toL ++ l ++ y.toL).map (V.val ρ)).toArray) w := by
              simp only [execOp, resolve, hargs, f1, V.val_fn, Deferred.ofValue, Sem.run_bind, Sem.run_pure, Result.andThen_ok, invoke, V.vals_eq, c1]
              simp
            rw [Oper.semAt_eq _ _ _ hd, hrun]
            refine ⟨by simp [Fr], ?_⟩
            refine CallsIn.mono (F := Fr none) c2 ?_
            rintro e w' ⟨D', ρ', rfl, n1, n2, n3⟩
            exact hk D' ρ' w' n1 n2 n3
          · rename_i ln
            obtain ⟨g, tmps, assign, body, y1, y2⟩ := hy _ _ _ _ _ h D ρ w hR f2 l2
            refine ⟨fun _ _ => trivial, ?_⟩
            have hrun : (execOp a.eval { dst, op := .call { callee := .value fo, args := as, argTypes := ts }, type, pos, after, guard }).run P w = .ok (.round (ρ ln).blk g tmps assign body) w := by
              simp only [execOp, resolve, hargs, f1, V.val_yield, Deferred.ofValue, Sem.run_bind, Sem.run_pure, Result.andThen_ok, invoke]
              simpa using y1
            rw [Oper.semAt_eq _ _ _ hd, hrun]
            refine ⟨by simp [Fr], ?_⟩
            refine RoundIn.mono (F := Fr none) y2 ?_
            rintro e w' ⟨D', ρ', rfl, n1, n2, n3⟩
            exact hk D' ρ' w' n1 n2 n3
          · cases h
        · cases hcal
      · cases hcal
    · obtain ⟨D', ρ', w', x, hr, hx, n1, n2, n3⟩ := eff_sound (P := P) hR h he
      refine ⟨fun _ _ => trivial, ?_⟩
      rw [Oper.semAt_eq _ _ _ hd, hr]
      have := hk D' ρ' w' n1 n2 n3
      rcases hx with rfl | ⟨rfl, rfl⟩
      · exact this
      · exact this
  · split at h
    · rename_i u hne
      simp only [Option.some.injEq, Prod.mk.injEq] at h
      obtain ⟨rfl, rfl⟩ := h
      unfold neV at hne
      split at hne
      · rename_i u' hp
        simp only [Option.some.injEq] at hne
        subst hne
        obtain ⟨p1, p2⟩ := pure_sound hp he
        exact value_in rfl hd (p2 w) (hk D ρ w (Nx.refl _ _ _) hR p1)
      · obtain ⟨p1, p2⟩ := read_sound hR hne he
        exact value_in rfl hd p2 (hk D ρ w (Nx.refl _ _ _) hR p1)
    · split at h
      · rename_i ob mk hal
        simp only [Option.some.injEq, Prod.mk.injEq] at h
        obtain ⟨rfl, rfl⟩ := h
        obtain ⟨cap, w', o1, o2, o3, o4⟩ := alloc_sound (P := P) (w0 := w0) hal he H.next (not_next hR) w hR.grown.size
        exact value_in rfl hd o1 (hk _ _ _ (nx_push hR _ _) (rel_push' hR rfl o2 o3) o4)
      · cases h

/-! ### Temporaries -/
structure Tm (D : Nat → Prop) (ρ : Nat → Loc) (tm : List V) (a : Act) : Prop where
  eq : a.tmps = (tm.map (V.val ρ)).toArray
  in_ : ∀ v ∈ tm, v.In D ρ
theorem Tm.opnd {tm : List V} {a : Act} (h : Tm D ρ tm a) (hR : Rel gl w0 D ρ H w) (x : Operand) (u : V) (hu : opnd gl tm x = some u) : a.eval x = u.val ρ ∧ u.In D ρ := by
  unfold Ev.opnd at hu
  split at hu
  · rename_i t
    simp only [Option.some.injEq] at hu
    subst hu
    refine ⟨?_, ?_⟩
    · simp only [Act.eval, h.eq]
      rw [List.getD_eq_getElem?_getD, Array.getD_eq_getD_getElem?]
      cases ht : tm[t]? with
      | none => simp [ht, V.val_undef]
      | some v => simp [ht]
    · rw [List.getD_eq_getElem?_getD]
      cases ht : tm[t]? with
      | none => exact trivial
      | some v => exact h.in_ v (List.mem_of_getElem? ht)
  · obtain ⟨p, q⟩ := ofConst_sound hu ρ D
    exact ⟨p.symm, q⟩
  · rename_i g
    split at hu
    · rename_i n hg
      simp only [Option.some.injEq] at hu
      subst hu
      obtain ⟨p, q, r⟩ := hR.gl g n hg
      exact ⟨by simp [Act.eval, V.val_ptr, q, r], p⟩
    · cases hu
  · simp only [Option.some.injEq] at hu
    subst hu
    exact ⟨rfl, trivial, trivial⟩
theorem Tm.put {tm : List V} {a : Act} (h : Tm D ρ tm a) (d : Option Tmp) {v : V} (hv : v.In D ρ) : Tm D ρ (putV tm d v) (a.put d (v.val ρ)) := by
  cases d with
  | none => exact h
  | some t =>
    refine ⟨?_, fun u hu => ?_⟩
    · simp only [Act.put, putV, h.eq]
      apply Array.ext'
      simp [List.map_set]
    · simp only [putV] at hu
      rcases List.mem_or_eq_of_mem_set hu with hu | rfl
      · exact h.in_ u hu
      · exact hv
theorem Tm.nx {tm : List V} {a : Act} {D' : Nat → Prop} {ρ' : Nat → Loc} {H' : Hp} (h : Tm D ρ tm a) (hn : Nx D ρ H D' ρ' H') : Tm D' ρ' tm a :=
  ⟨by rw [h.eq, map_ext hn.loc h.in_], fun v hv => hn.in (h.in_ v hv)⟩
theorem Tm.yield {ops : Array Oper} {tm : List V} {a : Act} (h : Tm D ρ tm a) (j : Nat) : yielded ops a.tmps j = boolAt ops tm j := by
  unfold boolAt yielded
  cases ht : (ops[j]?).bind (·.dst) with
  | none => rfl
  | some t =>
    simp only [Option.bind_some, h.eq, List.getElem?_toArray, List.getElem?_map]
    cases hv : tm[t]? with
    | none => rfl
    | some v =>
      cases v
      case raw x hx => cases x <;> first | rfl | (cases hx; done)
      all_goals rfl
theorem Tm.wanted {ops : Array Oper} {tm : List V} {a : Act} (h : Tm D ρ tm a) (o : Oper) : Region.wanted o (yielded ops a.tmps) = wantedV ops tm o := by
  unfold Region.wanted wantedV
  cases o.guard with
  | none => rfl
  | some g => simp only [h.yield]
theorem put_defers (a : Act) (d : Option Tmp) (v : Value) : (a.put d v).defers = a.defers := by cases d <;> rfl

theorem ops_sound (hc : CallOk P gl w0 call) (hy : YldOk P gl w0 yld) {ops : Array Oper} {Q : Exit → Act → World → Prop} : ∀ (k i : Nat) {tm tm' : List V} {H H' : Hp} {D : Nat → Prop} {ρ : Nat → Loc} {w : World} {a : Act}, i + k = ops.size →
    opsV P gl call yld ops (ops.toList.drop i) tm H = some (tm', H') → Rel gl w0 D ρ H w → Tm D ρ tm a →
    (∀ D' ρ' a' w', Nx D ρ H D' ρ' H' → Rel gl w0 D' ρ' H' w' → Tm D' ρ' tm' a' → a'.defers = a.defers → Q .normal a' w') → wpOpsIn (Fr rb) 0 P ops Q (List.range' i k) a w
  | 0, i, tm, tm', H, H', D, ρ, w, a, hi, h, hR, hT, hQ => by
    rw [List.drop_of_length_le (by simp; omega)] at h
    simp only [opsV, Option.some.injEq, Prod.mk.injEq] at h
    obtain ⟨rfl, rfl⟩ := h
    exact hQ D ρ a w (Nx.refl _ _ _) hR hT rfl
  | k + 1, i, tm, tm', H, H', D, ρ, w, a, hi, h, hR, hT, hQ => by
    have hlt : i < ops.toList.length := by simp; omega
    rw [List.drop_eq_getElem_cons hlt] at h
    have ho : ops[i]? = some ops.toList[i] := by simp
    generalize ops.toList[i] = o at h ho
    rw [List.range'_succ]
    simp only [wpOpsIn, ho]
    unfold opsV at h
    rw [hT.wanted]
    split at h
    · rename_i hw
      rw [if_pos hw]
      split at h
      · rename_i v H1 hop
        refine op_sound hc hy hop hR (fun x _ u hu => hT.opnd hR x u hu) fun D' ρ' w' hn hR' hv => ?_
        exact ops_sound hc hy k (i + 1) (by omega) h hR' ((hT.nx hn).put o.dst hv) fun D2 ρ2 a2 w2 n2 r2 t2 d2 => hQ D2 ρ2 a2 w2 (hn.trans n2) r2 t2 (d2.trans (put_defers _ _ _))
      · cases h
    · rename_i hw
      rw [if_neg hw]
      refine ⟨fun _ _ => trivial, ?_⟩
      have hT' := hT.put o.dst (v := .undef) trivial
      exact ops_sound hc hy k (i + 1) (by omega) h hR hT' fun D2 ρ2 a2 w2 n2 r2 t2 d2 => hQ D2 ρ2 a2 w2 n2 r2 t2 (d2.trans (put_defers _ _ _))
theorem region_sound (hc : CallOk P gl w0 call) (hy : YldOk P gl w0 yld) {id : Nat} {ops : Array Oper} {Q : Exit → Act → World → Prop} {tm tm' : List V} {H' : Hp} {a : Act} (h : opsV P gl call yld ops ops.toList tm H = some (tm', H')) (hR : Rel gl w0 D ρ H w) (hT : Tm D ρ tm a)
    (hQ : ∀ D' ρ' a' w', Nx D ρ H D' ρ' H' → Rel gl w0 D' ρ' H' w' → Tm D' ρ' tm' a' → a'.defers = a.defers → Q .normal a' w') : (Code.region id ops false).wpIn (Fr rb) 0 P Q a w := by
  refine wpIn_region ?_
  rw [List.range_eq_range']
  exact ops_sound hc hy ops.size 0 (by omega) (by simpa using h) hR hT hQ
end
end Go.Ev
