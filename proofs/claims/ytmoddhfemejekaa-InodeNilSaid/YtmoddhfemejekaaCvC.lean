/- Code, functions, rounds, with what hangs on the text alone told apart; it yields what the evaluator yields. -/
import Derived.Test.YtmoddhfemejekaaCvB
namespace Go.Ev

inductive R where
  | fail
  | normal (m : Frm) (ks : List Nat) (H : Hp)
  | exit (id : Nat) (m : Frm) (ks : List Nat) (H : Hp)
  | ret (m : Frm) (ks : List Nat) (H : Hp)
inductive RV where
  | fail
  | ok (v : V) (H : Hp)
abbrev CallC := Nat → List V → Hp → RV
noncomputable def RV.to (r : RV) : Option (V × Hp) := RV.rec (motive := fun _ => Option (V × Hp)) none (fun v H => some (v, H)) r
noncomputable def toO (call : CallC) : Call := fun f a H => (call f a H).to
/-- What is yielded, of a frame of so many. -/
def RelR (n : Nat) : R → Option (Ex × St × Hp) → Prop
  | .fail, x => x = none
  | .normal m ks H, x => ∃ tm, Rep n m tm ∧ x = some (.normal, ⟨tm, ks⟩, H)
  | .exit id m ks H, x => ∃ tm, Rep n m tm ∧ x = some (.exit id, ⟨tm, ks⟩, H)
  | .ret m ks H, x => ∃ tm, Rep n m tm ∧ x = some (.ret, ⟨tm, ks⟩, H)
noncomputable def fin2 (x : Option (V × Hp)) (K : V → Hp → R) : R :=
  Option.rec (motive := fun _ => R) .fail (fun p => Prod.rec (motive := fun _ => R) (fun v H => K v H) p) x

inductive OpC where
  | mk (run : CallC → CallC → Nat → Frm → Hp → (V → Hp → R) → R)
inductive OpsC where
  | mk (run : CallC → CallC → Nat → Frm → Hp → (Frm → Hp → R) → R)
inductive WC where
  | mk (run : Frm → Bool)
structure RdC where
  i : Nat
  still : Hp → Bool
inductive DrawC where
  | mk (run : CallC → CallC → Nat → List RdC → Frm → Hp → (Frm → Hp → R) → R)
inductive CC where
  | mk (run : CallC → CallC → Option Nat → Nat → Nat → Frm → List Nat → Hp → R)
inductive ResC where
  | mk (run : Frm → Hp → Option (List V))
inductive FnC where
  | mk (run : CallC → CallC → Nat → List V → Hp → RV)
structure Two where
  call : CallC
  yld : CallC

section
variable (P : Program) (gl : Nat → Option Nat)

noncomputable def callC (f : Operand) (as : List Operand) : OpC :=
  match opndsC gl as with
  | none => ⟨fun _ _ _ _ _ _ => .fail⟩
  | some r => match f with
    | .func id => ⟨fun call _ _ m H K => RV.rec (motive := fun _ => R) .fail (fun v H => K v H) (call id (r.1 m) H)⟩
    | f => match opndC gl f with
      | none => ⟨fun _ _ _ _ _ _ => .fail⟩
      | some g => ⟨fun call yld _ m H K => (g.1 m).onFn (fun id a c => RV.rec (motive := fun _ => R) .fail (fun v H => K v H) (call id (a.toL ++ r.1 m ++ c.toL) H))
        (match g.1 m with
        | .yield l => RV.rec (motive := fun _ => R) .fail (fun v H => K v H) (yld l (r.1 m) H)
        | _ => .fail)⟩
theorem RV.fin2 (r : RV) (K : V → Hp → R) : RV.rec (motive := fun _ => R) .fail (fun v H => K v H) r = Ev.fin2 r.to K := by cases r <;> rfl
theorem callC_eq {n : Nat} {m : Frm} {tm : List V} (h : Rep n m tm) (call yld : CallC) (H : Hp) (K : V → Hp → R) (f : Operand) (as : List Operand) :
    (callC gl f as).1 call yld n m H K = match opnd gl tm f, opnds gl tm as with
      | some f, some l => fin2 (callV (toO call) (toO yld) f l H) K
      | _, _ => .fail := by
  unfold callC
  rw [opndC_eq gl h, opndsC_eq gl h]
  cases opndsC gl as with
  | none => dsimp only [Option.map_none]; cases (Option.map (fun x => x.1 m) (opndC gl f)) <;> rfl
  | some r =>
    dsimp only [Option.map_some]
    split
    · rename_i id
      dsimp only
      rw [RV.fin2]
      show _ = fin2 (toO call id (V.nil.toL ++ r.1 m ++ V.nil.toL) H) K
      rw [show V.nil.toL ++ r.1 m ++ V.nil.toL = r.1 m by simp [V.toL]]
      rfl
    · cases opndC gl f with
      | none => rfl
      | some g =>
        dsimp only [Option.map_some]
        cases g.1 m
        case fn id a c => exact RV.fin2 _ _
        case yield l => exact RV.fin2 _ _
        all_goals rfl

/-- What alone may be told of an operation: 1, a value; 2, a value out of memory; 3, memory; else any. -/
def opKind : Op → Nat
  | .move _ | .assign _ => 4
  | .build _ _ | .nilCheck _ | .binOp _ _ _ _ _ | .unOp _ _ _ | .fieldAddr _ _ _ | .field _ _ _ | .indexAddr _ _ _ | .index _ _ _ | .extract _ _ | .pick _ _ _ | .makeFunc _ _ _ | .slice _ _ _ _ _ => 1
  | .load _ _ => 2
  | .alloc _ | .box _ _ | .makeSlice _ _ _ | .buildSlice _ _ _ => 3
  | _ => 0
theorem kind1 {o : Op} (h : opKind o = 1) (tm : List V) (H : Hp) : isEff o = false ∧ readV P gl tm H o = none ∧ allocV P gl tm o = none := by
  cases o <;> first | exact ⟨rfl, rfl, rfl⟩ | (exact absurd h (by simp [opKind]))
theorem kind2 {o : Op} (h : opKind o = 2) (tm : List V) : isEff o = false ∧ pureV P gl tm o = none ∧ allocV P gl tm o = none := by
  cases o <;> first | exact ⟨rfl, rfl, rfl⟩ | (exact absurd h (by simp [opKind]))
theorem kind3 {o : Op} (h : opKind o = 3) (tm : List V) (H : Hp) : isEff o = false ∧ pureV P gl tm o = none ∧ readV P gl tm H o = none := by
  cases o <;> first | exact ⟨rfl, rfl, rfl⟩ | (exact absurd h (by simp [opKind]))
noncomputable def moveC : Op → Option GetC
  | .move x | .assign x => opndC gl x
  | _ => none
theorem kind4 {o : Op} (h : opKind o = 4) {n : Nat} {m : Frm} {tm : List V} (hr : Rep n m tm) (H : Hp) : isEff o = false ∧ pureV P gl tm o = (moveC gl o).map (·.1 m) ∧ readV P gl tm H o = none ∧ allocV P gl tm o = none := by
  cases o <;> first | exact ⟨rfl, opndC_eq gl hr _, rfl, rfl⟩ | (exact absurd h (by simp [opKind]))
noncomputable def opC0 (o : Op) : OpC :=
  match isEff o with
  | true => match o with
    | .call { callee := .value f, args := as, argTypes := _ } => callC gl f as.toList
    | o => ⟨fun _ _ n m H K => fin2 ((effC P gl o).1 n m H) K⟩
  | false => ⟨fun _ _ n m H K => Option.rec (motive := fun _ => R)
      (Option.rec (motive := fun _ => R)
        (Option.rec (motive := fun _ => R) .fail (fun a => Prod.rec (motive := fun _ => R) (fun ob mk => K (mk H.next) (H.pushR ob)) a) ((allocC P gl o).1 n m))
        (fun v => K v H) ((readC P gl o).1 n m H))
      (fun v => K v H) ((pureC P gl o).1 n m)⟩
theorem opC0_eq {n : Nat} {m : Frm} {tm : List V} (h : Rep n m tm) (call yld : CallC) (H : Hp) (K : V → Hp → R) (o : Op) :
    (opC0 P gl o).1 call yld n m H K = fin2 (opV P gl (toO call) (toO yld) tm H o) K := by
  unfold opC0 opV
  cases hE : isEff o with
  | false =>
    dsimp only
    rw [if_neg (by simp), pureC_eq P gl h, readC_eq P gl h, allocC_eq P gl h]
    unfold neV
    cases pureV P gl tm o with
    | some v => rfl
    | none =>
      dsimp only
      cases readV P gl tm H o with
      | some v => rfl
      | none =>
        dsimp only
        cases allocV P gl tm o with
        | none => rfl
        | some a => obtain ⟨ob, mk⟩ := a; dsimp only; rw [Hp.pushR_eq]; rfl
  | true =>
    rw [if_pos rfl]
    dsimp only
    split
    · rename_i f as ts
      rw [callC_eq gl h, show calleeV gl tm (.call { callee := .value f, args := as, argTypes := ts }) = match opnd gl tm f, opnds gl tm as.toList with | some f, some l => some (f, l) | _, _ => none from rfl]
      cases opnd gl tm f <;> cases opnds gl tm as.toList <;> rfl
    · rename_i hn
      dsimp only
      rw [effC_eq P gl h]
      have : calleeV gl tm o = none := by
        unfold calleeV
        split
        · exact absurd rfl (hn _ _ _)
        · rfl
      rw [this]

noncomputable def opC (o : Op) : OpC :=
  match opKind o with
  | 1 => ⟨fun _ _ n m H K => Option.rec (motive := fun _ => R) .fail (fun v => K v H) ((pureC P gl o).1 n m)⟩
  | 2 => ⟨fun _ _ n m H K => Option.rec (motive := fun _ => R) .fail (fun v => K v H) ((readC P gl o).1 n m H)⟩
  | 3 => ⟨fun _ _ n m H K => Option.rec (motive := fun _ => R) .fail (fun a => Prod.rec (motive := fun _ => R) (fun ob mk => K (mk H.next) (H.pushR ob)) a) ((allocC P gl o).1 n m)⟩
  | 4 => match moveC gl o with
    | some g => ⟨fun _ _ _ m H K => K (g.1 m) H⟩
    | none => ⟨fun _ _ _ _ _ _ => .fail⟩
  | _ => opC0 P gl o
theorem opC_eq {n : Nat} {m : Frm} {tm : List V} (h : Rep n m tm) (call yld : CallC) (H : Hp) (K : V → Hp → R) (o : Op) :
    (opC P gl o).1 call yld n m H K = fin2 (opV P gl (toO call) (toO yld) tm H o) K := by
  unfold opC
  split
  · rename_i hk
    obtain ⟨h1, h2, h3⟩ := kind1 P gl hk tm H
    dsimp only
    rw [pureC_eq P gl h]
    unfold opV neV
    rw [if_neg (by rw [h1]; simp), h2, h3]
    cases pureV P gl tm o <;> rfl
  · rename_i hk
    obtain ⟨h1, h2, h3⟩ := kind2 P gl hk tm
    dsimp only
    rw [readC_eq P gl h]
    unfold opV neV
    rw [if_neg (by rw [h1]; simp), h2, h3]
    dsimp only
    cases readV P gl tm H o <;> rfl
  · rename_i hk
    obtain ⟨h1, h2, h3⟩ := kind3 P gl hk tm H
    dsimp only
    rw [allocC_eq P gl h]
    unfold opV neV
    rw [if_neg (by rw [h1]; simp), h2, h3]
    dsimp only
    cases allocV P gl tm o with
    | none => rfl
    | some a => obtain ⟨ob, mk⟩ := a; dsimp only; rw [Hp.pushR_eq]; rfl
  · rename_i hk
    obtain ⟨h1, h2, h3, h4⟩ := kind4 P gl hk h H
    unfold opV neV
    rw [if_neg (by rw [h1]; simp), h2, h3, h4]
    cases moveC gl o <;> rfl
  · exact opC0_eq P gl h call yld H K o

noncomputable def wantC (ops : Array Oper) (o : Oper) : WC :=
  match o.guard with
  | none => ⟨fun _ => true⟩
  | some (j, want) => match (ops[j]?).bind (·.dst) with
    | some t => (match want with
      | true => ⟨fun m => ((getC t).1 m).onBool (fun b => b) false⟩
      | false => ⟨fun m => ((getC t).1 m).onBool (fun b => bNot b) false⟩)
    | none => ⟨fun _ => false⟩
theorem wantC_eq {n : Nat} {m : Frm} {tm : List V} (h : Rep n m tm) (ops : Array Oper) (o : Oper) : (wantC ops o).1 m = wantedV ops tm o := by
  unfold wantC wantedV
  cases o.guard with
  | none => rfl
  | some jw =>
    obtain ⟨j, want⟩ := jw
    dsimp only
    cases hd : (ops[j]?).bind (·.dst) with
    | none =>
      rw [show boolAt ops tm j = none by unfold boolAt; rw [hd]]
      rfl
    | some t =>
      dsimp only
      have E : boolAt ops tm j = ((getC t).1 m).onBool (fun b => some b) none := by
        unfold boolAt
        rw [hd, h.2, List.getD_eq_getElem?_getD]
        dsimp only
        cases tm[t]? with
        | none => rfl
        | some v => cases v <;> rfl
      rw [E]
      cases want <;> dsimp only <;> generalize (getC t).1 m = v <;> cases v <;> first | rfl | (rename_i b; cases b <;> rfl)

noncomputable def stepC0 (ops : Array Oper) (o : Oper) (rest : OpsC) : OpsC :=
  match o.guard with
  | none => ⟨fun call yld n m H K => (opC P gl o.op).1 call yld n m H (fun v H' => rest.1 call yld n ((putD n o.dst).1 v m) H' K)⟩
  | some _ => ⟨fun call yld n m H K => Bool.rec (motive := fun _ => R) (rest.1 call yld n ((putD n o.dst).1 .undef m) H K)
      ((opC P gl o.op).1 call yld n m H (fun v H' => rest.1 call yld n ((putD n o.dst).1 v m) H' K)) ((wantC ops o).1 m)⟩
noncomputable def stepC (ops : Array Oper) (o : Oper) (rest : OpsC) : OpsC :=
  match o.guard, opKind o.op with
  | none, 1 => ⟨fun call yld n m H K => Option.rec (motive := fun _ => R) .fail (fun v => rest.1 call yld n ((putD n o.dst).1 v m) H K) ((pureC P gl o.op).1 n m)⟩
  | none, 2 => ⟨fun call yld n m H K => Option.rec (motive := fun _ => R) .fail (fun v => rest.1 call yld n ((putD n o.dst).1 v m) H K) ((readC P gl o.op).1 n m H)⟩
  | none, 4 => match moveC gl o.op with
    | some g => ⟨fun call yld n m H K => rest.1 call yld n ((putD n o.dst).1 (g.1 m) m) H K⟩
    | none => ⟨fun _ _ _ _ _ _ => .fail⟩
  | _, _ => stepC0 P gl ops o rest
theorem stepC_eq (ops : Array Oper) (o : Oper) (rest : OpsC) : stepC P gl ops o rest = stepC0 P gl ops o rest := by
  unfold stepC
  split
  · rename_i hg hk; unfold stepC0 opC; rw [hg, hk]; rfl
  · rename_i hg hk; unfold stepC0 opC; rw [hg, hk]; rfl
  · rename_i hg hk
    unfold stepC0 opC; rw [hg, hk]
    dsimp only
    cases moveC gl o.op <;> rfl
  · rfl
noncomputable def opsC (ops : Array Oper) (l : List Oper) : OpsC :=
  List.rec (motive := fun _ => OpsC) ⟨fun _ _ _ m H K => K m H⟩ (fun o _ ih => stepC P gl ops o ih) l
theorem opsC_rel {n : Nat} (call yld : CallC) (ops : Array Oper) (K : Frm → Hp → R) (K' : List V → Hp → Option (Ex × St × Hp)) (hK : ∀ m tm H, Rep n m tm → RelR n (K m H) (K' tm H)) :
    ∀ (l : List Oper) {m : Frm} {tm : List V} (H : Hp), Rep n m tm → RelR n ((opsC P gl ops l).1 call yld n m H K) (match opsV P gl (toO call) (toO yld) ops l tm H with | some (tm', H') => K' tm' H' | none => none)
  | [], m, tm, H, h => hK m tm H h
  | o :: l, m, tm, H, h => by
    have ih := fun {m tm} H h => opsC_rel call yld ops K K' hK l (m := m) (tm := tm) H h
    have hs : ∀ (b : Bool), (wantedV ops tm o = b) → RelR n (Bool.rec (motive := fun _ => R) ((opsC P gl ops l).1 call yld n ((putD n o.dst).1 .undef m) H K)
      ((opC P gl o.op).1 call yld n m H (fun v H' => (opsC P gl ops l).1 call yld n ((putD n o.dst).1 v m) H' K)) b) (match opsV P gl (toO call) (toO yld) ops (o :: l) tm H with | some (tm', H') => K' tm' H' | none => none) := by
      intro b hb
      rw [opsV, hb]
      cases b with
      | false => exact ih H (h.putD _ _)
      | true =>
        dsimp only
        rw [opC_eq P gl h, if_pos rfl]
        cases opV P gl (toO call) (toO yld) tm H o.op with
        | none => exact rfl
        | some vH => exact ih vH.2 (h.putD _ _)
    show RelR n ((stepC P gl ops o (opsC P gl ops l)).1 call yld n m H K) _
    rw [stepC_eq]
    unfold stepC0
    split
    · rename_i hg
      exact hs true (by unfold wantedV; rw [hg])
    · dsimp only
      rw [wantC_eq h]
      exact hs _ rfl

/-! ### A region that draws its order -/
noncomputable def stillC (ms : Array Nat) (j : Nat) (H : Hp) (l : List RdC) : Bool :=
  List.rec (motive := fun _ => Bool) true (fun r _ ih => Bool.rec (motive := fun _ => Bool) false ih (Bool.rec (motive := fun _ => Bool) (r.still H) true ((ms.getD j 0).testBit r.i))) l
def againV (s : Read) (H : Hp) : Bool := match readV P gl s.tm H s.o with | some v => sameV v s.v | none => false
theorem stillV_cons (ms : Array Nat) (j : Nat) (H : Hp) (s : Read) (k : List Read) : stillV P gl ms j H (s :: k) = (((ms.getD j 0).testBit s.i || againV P gl s H) && stillV P gl ms j H k) := rfl
def RdRel : List RdC → List Read → Prop
  | [], [] => True
  | r :: l, s :: k => r.i = s.i ∧ (∀ H, r.still H = againV P gl s H) ∧ RdRel l k
  | _, _ => False
theorem stillC_eq (ms : Array Nat) (j : Nat) (H : Hp) : ∀ {l : List RdC} {k : List Read}, RdRel P gl l k → stillC ms j H l = stillV P gl ms j H k
  | [], [], _ => rfl
  | r :: l, s :: k, h => by
    show Bool.rec (motive := fun _ => Bool) false (stillC ms j H l) (Bool.rec (motive := fun _ => Bool) (r.still H) true ((ms.getD j 0).testBit r.i)) = _
    rw [stillV_cons, stillC_eq ms j H h.2.2, h.1, h.2.1 H]
    cases (ms.getD j 0).testBit s.i <;> cases againV P gl s H <;> cases stillV P gl ms j H k <;> rfl
  | [], _ :: _, h => h.elim
  | _ :: _, [], h => h.elim
noncomputable def drawStep (ops : Array Oper) (ms : Array Nat) (i : Nat) (rest : DrawC) : DrawC :=
  match ops[i]? with
  | none => ⟨fun _ _ _ _ _ _ _ => .fail⟩
  | some o => match isEff o.op with
    | true => ⟨fun call yld n rd m H K => Bool.rec (motive := fun _ => R)
        (Bool.rec (motive := fun _ => R) .fail (rest.1 call yld n rd ((putD n o.dst).1 .undef m) H K) (stillC ms i H rd))
        ((opC P gl o.op).1 call yld n m H (fun v H' => Bool.rec (motive := fun _ => R) .fail (rest.1 call yld n rd ((putD n o.dst).1 v m) H' K) (stillC ms i H' rd)))
        ((wantC ops o).1 m)⟩
    | false => match opKind o.op, o.guard with
      | 1, none => ⟨fun call yld n rd m H K => Option.rec (motive := fun _ => R) .fail (fun v => rest.1 call yld n rd ((putD n o.dst).1 v m) H K) ((pureC P gl o.op).1 n m)⟩
      | 2, none => ⟨fun call yld n rd m H K => Option.rec (motive := fun _ => R) .fail (fun v => rest.1 call yld n (⟨i, fun H => Option.rec (motive := fun _ => Bool) false (fun w => sameV w v) ((readC P gl o.op).1 n m H)⟩ :: rd) ((putD n o.dst).1 v m) H K) ((readC P gl o.op).1 n m H)⟩
      | _, _ => ⟨fun call yld n rd m H K => Bool.rec (motive := fun _ => R)
        (rest.1 call yld n rd ((putD n o.dst).1 .undef m) H K)
        (Option.rec (motive := fun _ => R)
          (Option.rec (motive := fun _ => R)
            (Option.rec (motive := fun _ => R) .fail (fun a => Prod.rec (motive := fun _ => R) (fun ob mk => rest.1 call yld n rd ((putD n o.dst).1 (mk H.next) m) (H.pushR ob) K) a) ((allocC P gl o.op).1 n m))
            (fun v => rest.1 call yld n (⟨i, fun H => Option.rec (motive := fun _ => Bool) false (fun w => sameV w v) ((readC P gl o.op).1 n m H)⟩ :: rd) ((putD n o.dst).1 v m) H K) ((readC P gl o.op).1 n m H))
          (fun v => rest.1 call yld n rd ((putD n o.dst).1 v m) H K) ((pureC P gl o.op).1 n m))
        ((wantC ops o).1 m)⟩
noncomputable def drawC (ops : Array Oper) (ms : Array Nat) (l : List Nat) : DrawC :=
  List.rec (motive := fun _ => DrawC) ⟨fun _ _ _ _ m H K => K m H⟩ (fun i _ ih => drawStep P gl ops ms i ih) l
theorem drawC_rel {n : Nat} (call yld : CallC) (ops : Array Oper) (ms : Array Nat) (K : Frm → Hp → R) (K' : List V → Hp → Option (Ex × St × Hp)) (hK : ∀ m tm H, Rep n m tm → RelR n (K m H) (K' tm H)) :
    ∀ (l : List Nat) {rd : List RdC} {rd' : List Read} {m : Frm} {tm : List V} (H : Hp), RdRel P gl rd rd' → Rep n m tm →
      RelR n ((drawC P gl ops ms l).1 call yld n rd m H K) (match drawV P gl (toO call) (toO yld) ops ms l rd' tm H with | some (tm', H') => K' tm' H' | none => none)
  | [], rd, rd', m, tm, H, _, h => hK m tm H h
  | i :: l, rd, rd', m, tm, H, hrd, h => by
    have ih := fun {rd rd' m tm} H hr h => drawC_rel call yld ops ms K K' hK l (rd := rd) (rd' := rd') (m := m) (tm := tm) H hr h
    show RelR n ((drawStep P gl ops ms i (drawC P gl ops ms l)).1 call yld n rd m H K) _
    unfold drawStep
    rw [drawV]
    cases ops[i]? with
    | none => exact rfl
    | some o =>
      dsimp only
      cases hE : isEff o.op with
      | true =>
        dsimp only
        rw [wantC_eq h]
        cases hw : wantedV ops tm o with
        | false =>
          dsimp only
          rw [stillC_eq P gl ms i H hrd]
          simp only [Bool.false_eq_true, if_false, Bool.not_true, Bool.false_or]
          cases stillV P gl ms i H rd' with
          | false => exact rfl
          | true => exact ih H hrd (h.putD _ _)
        | true =>
          dsimp only
          rw [opC_eq P gl h, if_pos rfl, if_pos rfl]
          cases opV P gl (toO call) (toO yld) tm H o.op with
          | none => exact rfl
          | some vH =>
            obtain ⟨v, H'⟩ := vH
            show RelR n (Bool.rec (motive := fun _ => R) .fail _ (stillC ms i H' rd)) _
            rw [stillC_eq P gl ms i H' hrd]
            dsimp only
            cases stillV P gl ms i H' rd' with
            | false => exact rfl
            | true => exact ih H' hrd (h.putD _ _)
      | false =>
        dsimp only
        split
        · rename_i hk hg
          obtain ⟨h1, h2, h3⟩ := kind1 P gl hk tm H
          dsimp only
          rw [pureC_eq P gl h, show wantedV ops tm o = true by unfold wantedV; rw [hg], if_pos rfl, if_neg (by simp), h2, h3]
          cases pureV P gl tm o.op with
          | none => exact rfl
          | some v => exact ih H hrd (h.putD _ _)
        · rename_i hk hg
          obtain ⟨h1, h2, h3⟩ := kind2 P gl hk tm
          dsimp only
          rw [readC_eq P gl h, show wantedV ops tm o = true by unfold wantedV; rw [hg], if_pos rfl, if_neg (by simp), h2, h3]
          dsimp only
          cases readV P gl tm H o.op with
          | none => exact rfl
          | some v =>
            refine ih H ⟨rfl, fun H' => ?_, hrd⟩ (h.putD _ _)
            dsimp only
            unfold againV
            rw [readC_eq P gl h]
            dsimp only
            cases readV P gl tm H' o.op <;> rfl
        dsimp only
        rw [wantC_eq h]
        cases hw : wantedV ops tm o with
        | false => exact ih H hrd (h.putD _ _)
        | true =>
          dsimp only
          rw [pureC_eq P gl h, if_pos rfl, if_neg (by simp)]
          cases pureV P gl tm o.op with
          | some v => exact ih H hrd (h.putD _ _)
          | none =>
            dsimp only
            rw [readC_eq P gl h]
            cases readV P gl tm H o.op with
            | some v =>
              refine ih H ⟨rfl, fun H' => ?_, hrd⟩ (h.putD _ _)
              dsimp only
              unfold againV
              rw [readC_eq P gl h]
              dsimp only
              cases readV P gl tm H' o.op <;> rfl
            | none =>
              dsimp only
              rw [allocC_eq P gl h]
              cases allocV P gl tm o.op with
              | none => exact rfl
              | some a =>
                obtain ⟨ob, mk⟩ := a
                dsimp only
                rw [Hp.pushR_eq]
                exact ih _ hrd (h.putD _ _)
end
end Go.Ev
