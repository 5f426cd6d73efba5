/- Code, functions, rounds: what hangs on the text alone told apart; it yields what the evaluator yields. -/
import Derived.Test.YtmoddhfemejekaaCvC
namespace Go.Ev
section
variable (P : Program) (gl : Nat → Option Nat)

/-! ### Code -/
noncomputable def CC.bad : CC := ⟨fun _ _ _ _ _ _ _ _ => .fail⟩
noncomputable def regionC (ops : Array Oper) (draw : Bool) : CC :=
  match draw with
  | false => ⟨fun call yld _ _ n m ks H => (opsC P gl ops ops.toList).1 call yld n m H (fun m H => .normal m ks H)⟩
  | true => match planV ops ops.size (Array.replicate ops.size false) with
    | some pl => ⟨fun call yld _ _ n m ks H => (drawC P gl ops (masks ops) pl).1 call yld n [] m H (fun m H => .normal m ks H)⟩
    | none => .bad
noncomputable def seqC (a b : CC) : CC :=
  ⟨fun call yld rnd k n m ks H => R.rec (motive := fun _ => R) .fail (fun m ks H => b.1 call yld rnd k n m ks H) (fun i m ks H => .exit i m ks H) (fun m ks H => .ret m ks H) (a.1 call yld rnd k n m ks H)⟩
noncomputable def condC (c : Operand) (a b : CC) : CC :=
  match opndC gl c with
  | some g => ⟨fun call yld rnd k n m ks H => (g.1 m).onBool (fun t => Bool.rec (motive := fun _ => R) (b.1 call yld rnd k n m ks H) (a.1 call yld rnd k n m ks H) t) .fail⟩
  | none => .bad
noncomputable def blockC (id : Nat) (c : CC) : CC :=
  ⟨fun call yld rnd k n m ks H => R.rec (motive := fun _ => R) .fail (fun m ks H => .normal m ks H)
    (fun i m ks H => Bool.rec (motive := fun _ => R) (.exit i m ks H) (.normal m ks H) (Nat.beq i id)) (fun m ks H => .ret m ks H) (c.1 call yld rnd k n m ks H)⟩
noncomputable def loopC (c : CC) : CC :=
  ⟨fun call yld rnd k n m ks H => Nat.rec (motive := fun _ => Frm → List Nat → Hp → R) (fun _ _ _ => .fail)
    (fun _ ih m ks H => R.rec (motive := fun _ => R) .fail (fun m ks H => ih m ks H) (fun i m ks H => .exit i m ks H) (fun m ks H => .ret m ks H) (c.1 call yld rnd k n m ks H)) k m ks H⟩
noncomputable def rangeEnd (l : Nat) (mk ks : List Nat) (m : Frm) (H2 : Hp) : R :=
  match H2.get l with
  | some (.loop st pend tm' ps' a' b' dn') =>
    if st = .busy then .fail else
    (match pend with
    | none => .normal m (mk ++ ks) (H2.set l (.loop .exhausted pend tm' ps' a' b' dn'))
    | some .ret => .ret m (mk ++ ks) (H2.set l (.loop .exhausted pend tm' ps' a' b' dn'))
    | some (.exit id) => .exit id m (mk ++ ks) (H2.set l (.loop .exhausted pend tm' ps' a' b' dn'))
    | _ => .fail)
  | _ => .fail
noncomputable def rangeC (f : Operand) (ps : Array Tmp) (a b : Code) : CC :=
  match opndC gl f with
  | none => .bad
  | some g => ⟨fun call _ rnd _ n m ks H => (g.1 m).onFn (fun i x y => Bool.rec (motive := fun _ => R)
      (match dnOf H rnd with
      | some (dn, mk, H1) => RV.rec (motive := fun _ => R) .fail (fun _ H2 => rangeEnd H1.next mk ks m H2) (call i (x.toL ++ [.yield H1.next] ++ y.toL) (H1.push (.loop .ready none (toL n m) ps a b dn)))
      | none => .fail) .fail (((P.funcs[i]?).bind (·.body)).isNone)) .fail⟩
noncomputable def codeC (c : Code) : CC :=
  Code.rec (motive := fun _ => CC) ⟨fun _ _ _ _ _ m ks H => .normal m ks H⟩ (fun _ ops draw => regionC P gl ops draw) (fun _ _ a b => seqC a b) (fun c _ _ a b => condC gl c a b) (fun id _ c => blockC id c) (fun _ c => loopC c)
    (fun f ps a b _ _ => rangeC P gl f ps a b) (fun id => ⟨fun _ _ _ _ _ m ks H => .exit id m ks H⟩) (fun _ _ => .bad) (fun _ => .bad) (fun _ => .bad) ⟨fun _ _ _ _ _ m ks H => .ret m ks H⟩ (fun _ => .bad) c
theorem codeC_rel (call yld : CallC) (rnd : Option Nat) (k n : Nat) (c : Code) : ∀ {m : Frm} {tm : List V} (ks : List Nat) (H : Hp), Rep n m tm →
    RelR n ((codeC P gl c).1 call yld rnd k n m ks H) (codeV P gl (toO call) (toO yld) rnd k c ⟨tm, ks⟩ H) := by
  induction c with
  | skip => exact fun ks H h => ⟨_, h, rfl⟩
  | region id ops draw =>
    intro m tm ks H h
    cases draw with
    | false =>
      refine cast (congrArg _ ?_) (opsC_rel P gl (n := n) call yld ops (fun m H => .normal m ks H) (fun tm H => some (.normal, ⟨tm, ks⟩, H)) (fun m tm H h => ⟨tm, h, rfl⟩) ops.toList H h)
      rw [codeV]
      cases opsV P gl (toO call) (toO yld) ops ops.toList tm H <;> rfl
    | true =>
      show RelR n ((regionC P gl ops true).1 call yld rnd k n m ks H) _
      unfold regionC
      rw [codeV]
      cases hp : planV ops ops.size (Array.replicate ops.size false) with
      | none => exact rfl
      | some pl =>
        dsimp only
        exact drawC_rel P gl (n := n) call yld ops (masks ops) (fun m H => .normal m ks H) (fun tm H => some (.normal, ⟨tm, ks⟩, H)) (fun m tm H h => ⟨tm, h, rfl⟩) pl (rd := []) (rd' := []) H trivial h
  | seq a b iha ihb =>
    intro m tm ks H h
    rw [codeV]
    have ha := iha ks H h
    show RelR n (R.rec (motive := fun _ => R) .fail (fun m ks H => (codeC P gl b).1 call yld rnd k n m ks H) (fun i m ks H => .exit i m ks H) (fun m ks H => .ret m ks H) ((codeC P gl a).1 call yld rnd k n m ks H)) _
    cases hr : (codeC P gl a).1 call yld rnd k n m ks H <;> rw [hr] at ha
    · rw [show codeV P gl (toO call) (toO yld) rnd k a ⟨tm, ks⟩ H = none from ha]; exact rfl
    · obtain ⟨tm', h', e⟩ := ha; rw [e]; exact ihb _ _ h'
    · obtain ⟨tm', h', e⟩ := ha; rw [e]; exact ⟨tm', h', rfl⟩
    · obtain ⟨tm', h', e⟩ := ha; rw [e]; exact ⟨tm', h', rfl⟩
  | cond c a b iha ihb =>
    intro m tm ks H h
    rw [codeV, opndC_eq gl h]
    show RelR n ((condC gl c (codeC P gl a) (codeC P gl b)).1 call yld rnd k n m ks H) _
    unfold condC
    cases opndC gl c with
    | none => exact rfl
    | some g =>
      dsimp only [Option.map_some]
      cases g.1 m
      case bool t => cases t <;> first | exact ihb ks H h | exact iha ks H h
      all_goals exact rfl
  | block id c ih =>
    intro m tm ks H h
    rw [codeV]
    have ha := ih ks H h
    show RelR n (R.rec (motive := fun _ => R) .fail (fun m ks H => .normal m ks H)
      (fun i m ks H => Bool.rec (motive := fun _ => R) (.exit i m ks H) (.normal m ks H) (Nat.beq i id)) (fun m ks H => .ret m ks H) ((codeC P gl c).1 call yld rnd k n m ks H)) _
    cases hr : (codeC P gl c).1 call yld rnd k n m ks H <;> rw [hr] at ha
    · rw [show codeV P gl (toO call) (toO yld) rnd k c ⟨tm, ks⟩ H = none from ha]; exact rfl
    · obtain ⟨tm', h', e⟩ := ha; rw [e]; exact ⟨tm', h', rfl⟩
    · rename_i i m' ks' H'
      obtain ⟨tm', h', e⟩ := ha; rw [e]
      dsimp only
      rw [beq_eq']
      by_cases hi : i = id
      · rw [decide_eq_true hi, if_pos hi]; exact ⟨tm', h', rfl⟩
      · rw [decide_eq_false hi, if_neg hi]; exact ⟨tm', h', rfl⟩
    · obtain ⟨tm', h', e⟩ := ha; rw [e]; exact ⟨tm', h', rfl⟩
  | loop c ih =>
    intro m tm ks H h
    rw [codeV]
    have key : ∀ (j : Nat) {m : Frm} {tm : List V} (ks : List Nat) (H : Hp), Rep n m tm → RelR n (Nat.rec (motive := fun _ => Frm → List Nat → Hp → R) (fun _ _ _ => .fail)
        (fun _ ih m ks H => R.rec (motive := fun _ => R) .fail (fun m ks H => ih m ks H) (fun i m ks H => .exit i m ks H) (fun m ks H => .ret m ks H) ((codeC P gl c).1 call yld rnd k n m ks H)) j m ks H) (loopV (codeV P gl (toO call) (toO yld) rnd k c) j ⟨tm, ks⟩ H) := by
      intro j
      induction j with
      | zero => intro m tm ks H _; exact rfl
      | succ j ihj =>
        intro m tm ks H h
        rw [loopV]
        have ha := ih ks H h
        dsimp only
        cases hr : (codeC P gl c).1 call yld rnd k n m ks H <;> rw [hr] at ha
        · rw [show codeV P gl (toO call) (toO yld) rnd k c ⟨tm, ks⟩ H = none from ha]; exact rfl
        · obtain ⟨tm', h', e⟩ := ha; rw [e]; exact ihj _ _ h'
        · obtain ⟨tm', h', e⟩ := ha; rw [e]; exact ⟨tm', h', rfl⟩
        · obtain ⟨tm', h', e⟩ := ha; rw [e]; exact ⟨tm', h', rfl⟩
    exact key k ks H h
  | rangeFunc f ps a b _ _ =>
    intro m tm ks H h
    rw [codeV, opndC_eq gl h]
    show RelR n ((rangeC P gl f ps a b).1 call yld rnd k n m ks H) _
    unfold rangeC
    cases opndC gl f with
    | none => exact rfl
    | some g =>
      dsimp only [Option.map_some]
      cases g.1 m
      case fn i x y =>
        show RelR n (Bool.rec (motive := fun _ => R) _ .fail (((P.funcs[i]?).bind (·.body)).isNone)) _
        cases hb : ((P.funcs[i]?).bind (·.body)).isNone with
        | true => simp only [if_true, hb]; exact rfl
        | false =>
          simp only [hb, Bool.false_eq_true, if_false]
          cases hd : dnOf H rnd with
          | none => exact rfl
          | some q =>
            obtain ⟨dn, mk, H1⟩ := q
            dsimp only
            rw [h.toL]
            show RelR n (RV.rec (motive := fun _ => R) .fail (fun _ H2 => rangeEnd H1.next mk ks m H2) (call i (x.toL ++ [.yield H1.next] ++ y.toL) (H1.push (.loop .ready none tm ps a b dn)))) _
            unfold toO
            cases hc : call i (x.toL ++ [.yield H1.next] ++ y.toL) (H1.push (.loop .ready none tm ps a b dn)) with
            | fail => exact rfl
            | ok v H2 =>
              show RelR n (rangeEnd H1.next mk ks m H2) (match H2.get H1.next with
                | some (.loop st pend tm' ps' a' b' dn') =>
                  if st = .busy then none else
                  (match pend with
                  | none => some (.normal, ⟨tm, mk ++ ks⟩, H2.set H1.next (.loop .exhausted pend tm' ps' a' b' dn'))
                  | some .ret => some (.ret, ⟨tm, mk ++ ks⟩, H2.set H1.next (.loop .exhausted pend tm' ps' a' b' dn'))
                  | some (.exit id) => some (.exit id, ⟨tm, mk ++ ks⟩, H2.set H1.next (.loop .exhausted pend tm' ps' a' b' dn'))
                  | _ => none)
                | _ => none)
              unfold rangeEnd
              cases H2.get H1.next with
              | none => exact rfl
              | some o =>
                cases o
                case loop st pend tm' ps' a' b' dn' =>
                  dsimp only
                  by_cases hs : st = .busy
                  · rw [if_pos hs, if_pos hs]; exact rfl
                  · rw [if_neg hs, if_neg hs]
                    cases pend with
                    | none => exact ⟨tm, h, rfl⟩
                    | some c => cases c <;> first | exact rfl | exact ⟨tm, h, rfl⟩
                all_goals exact rfl
      all_goals exact rfl
  | exit id => exact fun ks H h => ⟨_, h, rfl⟩
  | scope c _ => intro m tm ks H h; show codeV P gl _ _ _ _ _ _ _ = none; unfold codeV; rfl
  | label l => intro m tm ks H h; show codeV P gl _ _ _ _ _ _ _ = none; unfold codeV; rfl
  | goto l => intro m tm ks H h; show codeV P gl _ _ _ _ _ _ _ = none; unfold codeV; rfl
  | ret => exact fun ks H h => ⟨_, h, rfl⟩
  | refuse why => intro m tm ks H h; show codeV P gl _ _ _ _ _ _ _ = none; unfold codeV; rfl

/-! ### Functions, rounds -/
noncomputable def resC (l : List ResultVar) : ResC :=
  List.rec (motive := fun _ => ResC) ⟨fun _ _ => some []⟩ (fun r _ ih => match r with
    | .tmp t => ⟨fun m H => Option.rec (motive := fun _ => Option (List V)) none (fun l => some ((getC t).1 m :: l)) (ih.1 m H)⟩
    | .cell a t => ⟨fun m H => ((getC a).1 m).onPtr (fun n off => Option.rec (motive := fun _ => Option (List V)) none (fun v => Option.rec (motive := fun _ => Option (List V)) none (fun l => some (v :: l)) (ih.1 m H)) (loadV P H t n off)) none⟩) l
theorem resC_eq {n : Nat} {m : Frm} {tm : List V} (h : Rep n m tm) (H : Hp) : ∀ l : List ResultVar, (resC P l).1 m H = resultsV P H tm l
  | [] => rfl
  | r :: l => by
    rw [resultsV, ← resC_eq h H l]
    cases r with
    | tmp t =>
      show Option.rec (motive := fun _ => Option (List V)) none (fun l => some ((getC t).1 m :: l)) ((resC P l).1 m H) = _
      rw [h.2]
      show _ = match (some (tm.getD t .undef)) with
        | some v => (match (resC P l).1 m H with | some m => some (v :: m) | none => none)
        | none => none
      cases (resC P l).1 m H <;> rfl
    | cell a t =>
      show ((getC a).1 m).onPtr (fun n off => Option.rec (motive := fun _ => Option (List V)) none (fun v => Option.rec (motive := fun _ => Option (List V)) none (fun l => some (v :: l)) ((resC P l).1 m H)) (loadV P H t n off)) none = _
      rw [h.2, show resultV P H tm (.cell a t) = match tm.getD a .undef with | .ptr n off => loadV P H t n off | _ => none from rfl]
      generalize tm.getD a .undef = x
      cases x
      case ptr b off =>
        show Option.rec (motive := fun _ => Option (List V)) none (fun v => Option.rec (motive := fun _ => Option (List V)) none (fun l => some (v :: l)) ((resC P l).1 m H)) (loadV P H t b off) = match loadV P H t b off with
          | some v => (match (resC P l).1 m H with | some m => some (v :: m) | none => none)
          | none => none
        cases loadV P H t b off with
        | none => rfl
        | some v => dsimp only; cases (resC P l).1 m H <;> rfl
      all_goals rfl
noncomputable def endC (r : ResC) (m : Frm) (ks : List Nat) (H : Hp) : RV :=
  List.rec (motive := fun _ => RV) (Option.rec (motive := fun _ => RV) .fail (fun l => .ok (packV l) H) (r.1 m H))
    (fun _ _ _ => match unmark ks H with | some H' => Option.rec (motive := fun _ => RV) .fail (fun l => .ok (packV l) H') (r.1 m H') | none => .fail) ks
theorem endC_eq {n : Nat} {m : Frm} {tm : List V} (h : Rep n m tm) (l : List ResultVar) (ks : List Nat) (H : Hp) : (endC (resC P l) m ks H).to = match unmark ks H with
    | some H'' => match resultsV P H'' tm l with
      | some vs => some (packV vs, H'')
      | none => none
    | none => none := by
  have key : ∀ H', (Option.rec (motive := fun _ => RV) .fail (fun l => .ok (packV l) H') ((resC P l).1 m H') : RV).to = match resultsV P H' tm l with
      | some vs => some (packV vs, H')
      | none => none := by
    intro H'
    rw [resC_eq P h]
    cases resultsV P H' tm l <;> rfl
  cases ks with
  | nil => exact key H
  | cons r ks =>
    show (match unmark (r :: ks) H with | some H' => Option.rec (motive := fun _ => RV) .fail (fun l => .ok (packV l) H') ((resC P l).1 m H') | none => .fail : RV).to = _
    cases unmark (r :: ks) H with
    | none => rfl
    | some H' => exact key H'
/-- Do so many fit into a frame of so many? -/
noncomputable def fits (a n : Nat) : Bool := Bool.rec (motive := fun _ => Bool) false (Nat.ble a n) (Nat.ble n 512)
theorem fits_t {a n : Nat} (h : fits a n = true) : a ≤ n ∧ n ≤ 512 := by
  unfold fits at h
  cases hb : Nat.ble n 512 with
  | false => rw [hb] at h; cases h
  | true => rw [hb] at h; exact ⟨Nat.le_of_ble_eq_true h, Nat.le_of_ble_eq_true hb⟩
noncomputable def fnC (f : Nat) : FnC :=
  match P.funcs[f]? with
  | none => ⟨fun _ _ _ _ _ => .fail⟩
  | some fn => match decide (fn.name = "runtime.NumGoroutine") with
    | true => ⟨fun _ _ _ _ _ => .fail⟩
    | false => match fn.body with
      | some c => ⟨fun call yld k args H => Bool.rec (motive := fun _ => RV)
          (match codeV P gl (toO call) (toO yld) none k c ⟨args ++ List.replicate (fn.ntmps - args.length) .undef, []⟩ H with
          | some (ex, s, H') => (match ex with
            | .exit _ => .fail
            | _ => match unmark s.marks H' with
              | some H'' => (match resultsV P H'' s.tm fn.results.toList with
                | some vs => .ok (packV vs) H''
                | none => .fail)
              | none => .fail)
          | none => .fail)
          (R.rec (motive := fun _ => RV) .fail (fun m ks H => endC (resC P fn.results.toList) m ks H) (fun _ _ _ _ => .fail) (fun m ks H => endC (resC P fn.results.toList) m ks H)
            ((codeC P gl c).1 call yld none k fn.ntmps (fillFr args 0 fn.ntmps noFr) [] H)) (fits args.length fn.ntmps)⟩
      | none => match decide (fn.origin = "") with
        | true => ⟨fun _ _ _ args H => match extV fn.name args with
          | some v => .ok v H
          | none => .fail⟩
        | false => ⟨fun _ _ _ _ _ => .fail⟩
theorem fnC_eq (call yld : CallC) (k f : Nat) (args : List V) (H : Hp) : ((fnC P gl f).1 call yld k args H).to = fnV P gl (toO call) (toO yld) k f args H := by
  unfold fnV
  unfold fnC
  cases P.funcs[f]? with
  | none => rfl
  | some fn =>
    dsimp only
    by_cases hn : fn.name = "runtime.NumGoroutine"
    · rw [decide_eq_true hn, if_pos hn]; rfl
    · rw [decide_eq_false hn, if_neg hn]
      dsimp only
      cases fn.body with
      | none =>
        dsimp only
        by_cases ho : fn.origin = ""
        · rw [decide_eq_true ho, if_pos ho]
          dsimp only
          cases extV fn.name args <;> rfl
        · rw [decide_eq_false ho, if_neg ho]; rfl
      | some c =>
        dsimp only
        cases hl : fits args.length fn.ntmps with
        | true =>
          dsimp only
          have hl := fits_t hl
          have hr := codeC_rel P gl call yld none k fn.ntmps c [] H (Rep.args fn.ntmps hl.2 args hl.1)
          cases hc : (codeC P gl c).1 call yld none k fn.ntmps (fillFr args 0 fn.ntmps noFr) [] H <;> rw [hc] at hr
          · rw [show codeV P gl (toO call) (toO yld) none k c _ H = none from hr]; rfl
          · obtain ⟨tm, h, e⟩ := hr; rw [e]; exact endC_eq P h _ _ _
          · obtain ⟨tm, h, e⟩ := hr; rw [e]; rfl
          · obtain ⟨tm, h, e⟩ := hr; rw [e]; exact endC_eq P h _ _ _
        | false =>
          dsimp only
          cases codeV P gl (toO call) (toO yld) none k c ⟨args ++ List.replicate (fn.ntmps - args.length) .undef, []⟩ H with
          | none => rfl
          | some q =>
            obtain ⟨ex, s, H'⟩ := q
            cases ex with
            | exit i => rfl
            | normal =>
              dsimp only
              cases unmark s.marks H' with
              | none => rfl
              | some H'' => dsimp only; cases resultsV P H'' s.tm fn.results.toList <;> rfl
            | ret =>
              dsimp only
              cases unmark s.marks H' with
              | none => rfl
              | some H'' => dsimp only; cases resultsV P H'' s.tm fn.results.toList <;> rfl
end
end Go.Ev
