/- A region that draws its order: whatever the order, what the plan comes to (2). -/
import Derived.Test.YtmoddhfemejekaaEvP
namespace Go.Ev

/-- What the plan has done and the machine has not yet. -/
structure Pend where
  i : Nat
  o : Oper
  tm : List V
  v : V
  al : Option (Nat × Ob)

section
variable (P : Program) (gl : Nat → Option Nat) (w0 : World) (ops : Array Oper)
def Sem1 (H : Hp) (rd : List Read) (p : Pend) : Prop :=
  (wantedV ops p.tm p.o = false ∧ p.v = .undef ∧ p.al = none) ∨
  (wantedV ops p.tm p.o = true ∧ p.al = none ∧ pureV P gl p.tm p.o.op = some p.v) ∨
  (wantedV ops p.tm p.o = true ∧ p.al = none ∧ readV P gl p.tm H p.o.op = some p.v ∧ ⟨p.i, p.o.op, p.tm, p.v⟩ ∈ rd ∧ pureV P gl p.tm p.o.op = none) ∨
  (wantedV ops p.tm p.o = true ∧ ∃ mk n ob, allocV P gl p.tm p.o.op = some (ob, mk) ∧ p.al = some (n, ob) ∧ p.v = mk n)
structure Inv (D0 : Nat → Prop) (ρ0 : Nat → Loc) (H0 : Hp) (E : List Pend) (le : Array Bool) (tm : List V) (H : Hp) (rd : List Read) (lc : Array Bool) (a : Act) (w : World) (D : Nat → Prop) (ρ : Nat → Loc) : Prop where
  sze : le.size = ops.size
  szc : lc.size = ops.size
  lcs : ∀ j, lc.getD j false = true ↔ le.getD j false = true ∧ ∀ p ∈ E, p.i ≠ j
  cle : ∀ j, le.getD j false = true → ∀ i, Dir ops i j → le.getD i false = true
  clc : ∀ j, lc.getD j false = true → ∀ i, Dir ops i j → lc.getD i false = true
  rel : Rel gl w0 D ρ H w
  loc : ∀ n, D0 n → ρ n = ρ0 n
  dom : ∀ n, (D n ∨ ∃ p ∈ E, ∃ ob, p.al = some (n, ob)) ↔ D0 n ∨ (H0.next ≤ n ∧ n < H.next)
  off : ∀ p ∈ E, ∀ n ob, p.al = some (n, ob) → ¬ D n ∧ H.get n = some ob ∧ ¬ D0 n
  uni : ∀ p ∈ E, ∀ q ∈ E, ∀ n ob ob', p.al = some (n, ob) → q.al = some (n, ob') → p.i = q.i
  rest : ∀ n, n < H0.next → ¬ D0 n → H.get n = H0.get n
  nxt : H0.next ≤ H.next
  tms : a.tmps.size = tm.length
  tmp : ∀ t, (∀ p ∈ E, p.o.dst ≠ some t) → ∀ v, tm[t]? = some v → a.tmps[t]? = some (v.val ρ) ∧ v.In D ρ
  mem : ∀ p ∈ E, ops[p.i]? = some p.o ∧ le.getD p.i false = true
  dst : ∀ p ∈ E, ∀ t, p.o.dst = some t → t < tm.length → tm[t]? = some p.v
  lone : ∀ p ∈ E, loneDst ops p.i p.o = true
  len : ∀ p ∈ E, p.tm.length = tm.length
  nod : E.Pairwise (fun p q => p.i ≠ q.i)
  ord : E.Pairwise (fun p q => ¬ Dir ops q.i p.i)
  op1 : ∀ p ∈ E, ∀ q ∈ E, Dir ops q.i p.i → ∀ t, q.o.dst = some t → t ∈ p.o.looksAt ops → t < tm.length → p.tm[t]? = some q.v
  op2 : ∀ p ∈ E, ∀ t ∈ p.o.looksAt ops, (∀ q ∈ E, Dir ops q.i p.i → q.o.dst ≠ some t) → ∀ v, p.tm[t]? = some v → a.tmps[t]? = some (v.val ρ) ∧ v.In D ρ
  exc : ∀ p ∈ E, ∀ q ∈ E, p.i ≠ q.i → ∀ t, q.o.dst = some t → t ∈ p.o.looksAt ops → Dir ops q.i p.i ∨ Dir ops p.i q.i
  free : ∀ p ∈ E, ∀ j oj, ops[j]? = some oj → j ≠ p.i → le.getD j false = false → Dir ops p.i j ∨ p.o.apart ops oj = true
  eff : ∀ p ∈ E, isEff p.o.op = false
  slf : ∀ p ∈ E, ¬ Dir ops p.i p.i
  sem : ∀ p ∈ E, Sem1 P gl ops H rd p
end

section
variable {P : Program} {gl : Nat → Option Nat} {w0 w : World} {ops : Array Oper} {D0 : Nat → Prop} {ρ0 : Nat → Loc} {H0 : Hp} {E : List Pend} {le : Array Bool} {tm : List V} {H : Hp} {rd : List Read} {lc : Array Bool} {a : Act} {D : Nat → Prop} {ρ : Nat → Loc}
theorem loneDst_spec {i : Nat} {o : Oper} (h : loneDst ops i o = true) {d : Tmp} (hd : o.dst = some d) {j : Nat} {p : Oper} (hj : ops[j]? = some p) (hne : j ≠ i) : p.dst ≠ some d := by
  unfold loneDst at h
  rw [hd] at h
  simp only [List.all_eq_true, List.mem_range] at h
  have := h j (Array.getElem?_eq_some_iff.1 hj).1
  simp only [hj, Bool.or_eq_true, beq_iff_eq, hne, false_or, bne_iff_ne] at this
  exact this
/-- Operands that stand in the temporaries. -/
theorem opnds_of {tm : List V} {a : Act} (hR : Rel gl w0 D ρ H w) (hl : a.tmps.size = tm.length) {xs : Array Operand} (h : ∀ t, .tmp t ∈ xs → ∀ v, tm[t]? = some v → a.tmps[t]? = some (v.val ρ) ∧ v.In D ρ) : Opnds gl tm ρ D a.eval xs := by
  intro x hx u hu
  unfold opnd at hu
  split at hu
  · rename_i t
    simp only [Option.some.injEq] at hu
    subst hu
    simp only [Act.eval]
    rw [List.getD_eq_getElem?_getD, Array.getD_eq_getD_getElem?]
    cases ht : tm[t]? with
    | none =>
      have : a.tmps[t]? = none := by
        rw [List.getElem?_eq_none_iff] at ht
        rw [Array.getElem?_eq_none_iff]
        omega
      rw [this]
      exact ⟨V.val_undef ρ, trivial⟩
    | some v =>
      obtain ⟨p, q⟩ := h t hx v ht
      rw [p]
      exact ⟨rfl, q⟩
  · obtain ⟨p, q⟩ := ofConst_sound hu ρ D
    exact ⟨p.symm, q⟩
  · rename_i g
    split at hu
    · rename_i n hg
      simp only [Option.some.injEq] at hu
      subst hu
      obtain ⟨p, q, r⟩ := hR.gl g n hg
      exact ⟨by simp [Act.eval, V.val_ptr, q, r], p⟩
    · cases hu
  · simp only [Option.some.injEq] at hu
    subst hu
    exact ⟨rfl, trivial, trivial⟩
theorem wanted_of {tm : List V} {a : Act} (hl : a.tmps.size = tm.length) {o : Oper} (h : ∀ t ∈ o.looksAt ops, ∀ v, tm[t]? = some v → a.tmps[t]? = some (v.val ρ) ∧ v.In D ρ) : Region.wanted o (yielded ops a.tmps) = wantedV ops tm o := by
  unfold Region.wanted wantedV
  cases hg : o.guard with
  | none => rfl
  | some g =>
    obtain ⟨j, want⟩ := g
    simp only
    have : yielded ops a.tmps j = boolAt ops tm j := by
      unfold boolAt yielded
      cases ht : (ops[j]?).bind (·.dst) with
      | none => rfl
      | some t =>
        simp only [Option.bind_some]
        cases hv : tm[t]? with
        | none =>
          have : a.tmps[t]? = none := by
            rw [List.getElem?_eq_none_iff] at hv
            rw [Array.getElem?_eq_none_iff]
            omega
          rw [this]
        | some v =>
          have hm : t ∈ o.looksAt ops := by
            unfold Oper.looksAt
            rw [hg]
            simp [ht]
          rw [(h t hm v hv).1]
          cases v
          case raw x hx => cases x <;> first | rfl | (cases hx; done)
          all_goals rfl
    rw [this]
theorem mem_looks {o : Oper} {t : Tmp} (h : .tmp t ∈ o.op.operands) : t ∈ o.looksAt ops :=
  List.mem_append_left _ (List.mem_filterMap.2 ⟨.tmp t, by simpa using h, rfl⟩)
theorem apart_dst {x y : Oper} (h : x.apart ops y = true) : (∀ d, x.dst = some d → d ∉ y.looksAt ops) ∧ (∀ d, x.dst = some d → y.dst ≠ some d) ∧ (∀ d, y.dst = some d → d ∉ x.looksAt ops) := Oper.apart_spec h

/-- One that is ready stands where all that it looks at has come. -/
theorem Inv.looks (hI : Inv P gl w0 ops D0 ρ0 H0 E le tm H rd lc a w D ρ) {p : Pend} (hp : p ∈ E) (hr : p.i ∈ Region.ready .any ops lc) : ∀ t ∈ p.o.looksAt ops, ∀ v, p.tm[t]? = some v → a.tmps[t]? = some (v.val ρ) ∧ v.In D ρ := by
  intro t ht v hv
  refine hI.op2 p hp t ht (fun q hq hd _ => ?_) v hv
  have := ((ready_iff hI.szc).1 hr).2.2 q.i hd
  exact ((hI.lcs _).1 this).2 q hq rfl
theorem a_put_get {a : Act} {d : Option Tmp} {v : Value} {t : Nat} (h : d ≠ some t) : (a.put d v).tmps[t]? = a.tmps[t]? := by
  cases d with
  | none => rfl
  | some d =>
    simp only [Act.put, Array.getElem?_setIfInBounds]
    rw [if_neg (fun e => h (by rw [e]))]
theorem a_put_self {a : Act} {t : Tmp} {v : Value} (h : t < a.tmps.size) : (a.put (some t) v).tmps[t]? = some v := by
  simp [Act.put, h]
theorem a_put_size (a : Act) (d : Option Tmp) (v : Value) : (a.put d v).tmps.size = a.tmps.size := by
  cases d <;> simp [Act.put]
theorem putV_length (tm : List V) (d : Option Tmp) (v : V) : (putV tm d v).length = tm.length := by
  cases d <;> simp [putV]
theorem putV_get {tm : List V} {d : Option Tmp} {v : V} {t : Nat} (h : d ≠ some t) : (putV tm d v)[t]? = tm[t]? := by
  cases d with
  | none => rfl
  | some d =>
    simp only [putV]
    rw [List.getElem?_set_ne (fun e => h (by rw [e]))]
theorem putV_self {tm : List V} {t : Nat} {v : V} (h : t < tm.length) : (putV tm (some t) v)[t]? = some v := by
  simp [putV, h]
/-- The machine does what the plan had done ahead: common part. -/
theorem Inv.drop (hI : Inv P gl w0 ops D0 ρ0 H0 E le tm H rd lc a w D ρ) {p : Pend} (hp : p ∈ E) (hr : p.i ∈ Region.ready .any ops lc) {D' : Nat → Prop} {ρ' : Nat → Loc} {w' : World}
    (hR : Rel gl w0 D' ρ' H w') (hD : ∀ n, D n → D' n ∧ ρ' n = ρ n) (hal : ∀ n, D' n ↔ D n ∨ ∃ ob, p.al = some (n, ob)) (hv : p.v.In D' ρ') :
    Inv P gl w0 ops D0 ρ0 H0 (E.filter fun q => q.i != p.i) le tm H rd (lc.setIfInBounds p.i true) (a.put p.o.dst (p.v.val ρ')) w' D' ρ' := by
  have hrr := (ready_iff hI.szc).1 hr
  have sub : ∀ q, q ∈ E.filter (fun q => q.i != p.i) → q ∈ E ∧ q.i ≠ p.i := fun q hq => by simpa using hq
  have inE : ∀ q, q ∈ E → q.i ≠ p.i → q ∈ E.filter (fun q => q.i != p.i) := fun q hq hne => by simpa using ⟨hq, hne⟩
  have same : ∀ q ∈ E, q.i = p.i → q = p := by
    intro q hq e
    have hn := hI.nod
    have : ∀ (l : List Pend), l.Pairwise (fun p q => p.i ≠ q.i) → q ∈ l → p ∈ l → q = p := by
      intro l hl
      induction hl with
      | nil => intro h; cases h
      | cons h1 _ ih =>
        intro hq hp
        rcases List.mem_cons.1 hq with eq | mq
        · rcases List.mem_cons.1 hp with ep | mp
          · rw [eq, ep]
          · rw [eq] at e
            exact absurd e (h1 _ mp)
        · rcases List.mem_cons.1 hp with ep | mp
          · rw [ep] at e
            exact absurd e.symm (h1 _ mq)
          · exact ih mq mp
    exact this E hn hq hp
  have vext : ∀ {v : V}, v.In D ρ → v.val ρ' = v.val ρ := fun hv => V.val_ext (fun n hn => (hD n hn).2) hv
  have up : ∀ (t : Nat) (v : V), a.tmps[t]? = some (V.val ρ v) ∧ v.In D ρ → a.tmps[t]? = some (v.val ρ') ∧ v.In D' ρ' := fun t v h => ⟨by rw [vext h.2]; exact h.1, h.2.mono hD⟩
  refine ⟨hI.sze, by simp [hI.szc], fun j => ?_, hI.cle, fun j hj i hi => ?_, hR, fun n hn => ?_, fun n => ?_, fun q hq n ob hal' => ?_, fun q hq r hr n ob ob' h1 h2 => hI.uni q (sub q hq).1 r (sub r hr).1 n ob ob' h1 h2, hI.rest, hI.nxt, by rw [a_put_size]; exact hI.tms, ?_, fun q hq => hI.mem q (sub q hq).1, fun q hq => hI.dst q (sub q hq).1, fun q hq => hI.lone q (sub q hq).1, fun q hq => hI.len q (sub q hq).1, hI.nod.filter _, hI.ord.filter _, fun q hq r hr => hI.op1 q (sub q hq).1 r (sub r hr).1, ?_, fun q hq r hr => hI.exc q (sub q hq).1 r (sub r hr).1, fun q hq => hI.free q (sub q hq).1, fun q hq => hI.eff q (sub q hq).1, fun q hq => hI.slf q (sub q hq).1, fun q hq => hI.sem q (sub q hq).1⟩
  · rw [set_getD (by rw [hI.szc]; exact hrr.1), hI.lcs]
    constructor
    · rintro (rfl | ⟨h1, h2⟩)
      · exact ⟨(hI.mem p hp).2, fun q hq => (sub q hq).2⟩
      · exact ⟨h1, fun q hq => h2 q (sub q hq).1⟩
    · rintro ⟨h1, h2⟩
      by_cases e : j = p.i
      · exact .inl e
      · refine .inr ⟨h1, fun q hq e2 => ?_⟩
        by_cases e3 : q.i = p.i
        · exact e (by rw [← e2, e3])
        · exact h2 q (inE q hq e3) e2
  · rw [set_getD (by rw [hI.szc]; exact hrr.1)] at hj ⊢
    rcases hj with rfl | hj
    · exact .inr (hrr.2.2 i hi)
    · exact .inr (hI.clc j hj i hi)
  · by_cases hd : D n
    · rw [(hD n hd).2]; exact hI.loc n hn
    · have := (hI.dom n).2 (.inl hn)
      rcases this with h | ⟨q, hq, ob, hqa⟩
      · exact absurd h hd
      · exact absurd hn (hI.off q hq n ob hqa).2.2
  · rw [← hI.dom, hal]
    constructor
    · rintro ((h | ⟨ob, h⟩) | ⟨q, hq, ob, h⟩)
      · exact .inl h
      · exact .inr ⟨p, hp, ob, h⟩
      · exact .inr ⟨q, (sub q hq).1, ob, h⟩
    · rintro (h | ⟨q, hq, ob, h⟩)
      · exact .inl (.inl h)
      · by_cases e : q.i = p.i
        · rw [same q hq e] at h; exact .inl (.inr ⟨ob, h⟩)
        · exact .inr ⟨q, inE q hq e, ob, h⟩
  · obtain ⟨h1, h2, h3⟩ := hI.off q (sub q hq).1 n ob hal'
    refine ⟨fun hd => ?_, h2, h3⟩
    rcases (hal n).1 hd with h | ⟨ob', h⟩
    · exact h1 h
    · exact (sub q hq).2 (hI.uni q (sub q hq).1 p hp n ob ob' hal' h)
  · intro t ht v htv
    by_cases e : p.o.dst = some t
    · have hlt : t < tm.length := (List.getElem?_eq_some_iff.1 htv).1
      have := hI.dst p hp t e hlt
      rw [this] at htv
      cases htv
      rw [e]
      exact ⟨a_put_self (by rw [hI.tms]; exact hlt), hv⟩
    · rw [a_put_get e]
      refine up t v (hI.tmp t (fun q hq e2 => ?_) v htv)
      by_cases e3 : q.i = p.i
      · rw [same q hq e3] at e2; exact e e2
      · exact ht q (inE q hq e3) e2
  · intro q hq t ht hall v htv
    obtain ⟨hqE, hne⟩ := sub q hq
    by_cases e : p.o.dst = some t
    · have hlt : t < tm.length := by rw [← hI.len q hqE]; exact (List.getElem?_eq_some_iff.1 htv).1
      rcases hI.exc q hqE p hp hne t e ht with h | h
      · have := hI.op1 q hqE p hp h t e ht hlt
        rw [this] at htv
        cases htv
        rw [e]
        exact ⟨a_put_self (by rw [hI.tms]; exact hlt), hv⟩
      · have := hrr.2.2 q.i h
        exact absurd rfl (((hI.lcs _).1 this).2 q hqE)
    · rw [a_put_get e]
      refine up t v (hI.op2 q hqE t ht (fun r hrE hd e2 => ?_) v htv)
      by_cases e3 : r.i = p.i
      · rw [same r hrE e3] at e2; exact e e2
      · exact hall r (inE r hrE e3) hd e2
end
end Go.Ev
