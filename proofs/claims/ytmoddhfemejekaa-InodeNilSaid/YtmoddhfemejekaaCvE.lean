/- The whole: what it yields the evaluator yields. -/
import Derived.Test.YtmoddhfemejekaaCvD
import Derived.Test.YtmoddhfemejekaaEvW
namespace Go.Ev
section
variable (P : Program) (gl : Nat → Option Nat)

noncomputable def ofO (x : Option (V × Hp)) : RV := match x with | some (v, H) => .ok v H | none => .fail
theorem ofO_to (x : Option (V × Hp)) : (ofO x).to = x := by
  cases x with
  | none => rfl
  | some p => rfl
noncomputable def roundC (call yld : CallC) (k l : Nat) (args : List V) (H : Hp) : RV :=
  match H.get l with
  | some (.loop _ _ tm ps a b _) => if args.length = ps.size then
      Bool.rec (motive := fun _ => RV) (ofO (roundV P gl (toO call) (toO yld) k l args H)) (R.rec (motive := fun _ => RV) .fail (fun m ks H1 => match H1.get l with
        | some (.loop .ready pend tm' ps' a' b' dn') =>
          R.rec (motive := fun _ => RV) .fail
            (fun _ ks H2 => if ks = [] then (match H2.get l with | some (.loop _ _ tm' ps' a' b' dn') => .ok (.bool true) (H2.set l (.loop .ready none tm' ps' a' b' dn')) | _ => .fail) else .fail)
            (fun id _ ks H2 => if ks = [] then (match H2.get l with | some (.loop _ _ tm' ps' a' b' dn') => .ok (.bool false) (H2.set l (.loop .done (some (.exit id)) tm' ps' a' b' dn')) | _ => .fail) else .fail)
            (fun _ ks H2 => if ks = [] then (match H2.get l with | some (.loop _ _ tm' ps' a' b' dn') => .ok (.bool false) (H2.set l (.loop .done (some .ret) tm' ps' a' b' dn')) | _ => .fail) else .fail)
            ((codeC P gl b).1 call yld (some l) k tm.length m ks (H1.set l (.loop .busy pend tm' ps' a' b' dn')))
        | _ => .fail) (fun _ _ _ _ => .fail) (fun _ _ _ => .fail)
        ((codeC P gl a).1 call yld (some l) k tm.length (fillFr (putAllV tm (ps.toList.zip args)) 0 tm.length noFr) [] H)) (Nat.ble tm.length 512) else .fail
  | _ => .fail
theorem putAllV_length : ∀ (l : List (Tmp × V)) (tm : List V), (putAllV tm l).length = tm.length
  | [], _ => rfl
  | (t, v) :: l, tm => by rw [putAllV, putAllV_length l, List.length_set]
theorem roundC_eq1 (call yld : CallC) (k l : Nat) (args : List V) (H : Hp) {st0 : LoopState} {pend0 : Option Code} {tm : List V} {ps : Array Tmp} {a b : Code} {dn0 : Nat} (hg : H.get l = some (.loop st0 pend0 tm ps a b dn0)) (h5 : tm.length ≤ 512) :
    (if args.length = ps.size then R.rec (motive := fun _ => RV) .fail (fun m ks H1 => match H1.get l with
        | some (.loop .ready pend tm' ps' a' b' dn') =>
          R.rec (motive := fun _ => RV) .fail
            (fun _ ks H2 => if ks = [] then (match H2.get l with | some (.loop _ _ tm' ps' a' b' dn') => .ok (.bool true) (H2.set l (.loop .ready none tm' ps' a' b' dn')) | _ => .fail) else .fail)
            (fun id _ ks H2 => if ks = [] then (match H2.get l with | some (.loop _ _ tm' ps' a' b' dn') => .ok (.bool false) (H2.set l (.loop .done (some (.exit id)) tm' ps' a' b' dn')) | _ => .fail) else .fail)
            (fun _ ks H2 => if ks = [] then (match H2.get l with | some (.loop _ _ tm' ps' a' b' dn') => .ok (.bool false) (H2.set l (.loop .done (some .ret) tm' ps' a' b' dn')) | _ => .fail) else .fail)
            ((codeC P gl b).1 call yld (some l) k tm.length m ks (H1.set l (.loop .busy pend tm' ps' a' b' dn')))
        | _ => .fail) (fun _ _ _ _ => .fail) (fun _ _ _ => .fail)
        ((codeC P gl a).1 call yld (some l) k tm.length (fillFr (putAllV tm (ps.toList.zip args)) 0 tm.length noFr) [] H) else RV.fail).to = roundV P gl (toO call) (toO yld) k l args H := by
  unfold roundV
  rw [hg]
  dsimp only
  by_cases hp : args.length = ps.size
  · rw [if_pos hp, if_pos hp]
    have hrep : Rep tm.length (fillFr (putAllV tm (ps.toList.zip args)) 0 tm.length noFr) (putAllV tm (ps.toList.zip args)) := by
      have := Rep.args tm.length h5 (putAllV tm (ps.toList.zip args)) (by rw [putAllV_length]; exact Nat.le_refl _)
      rwa [putAllV_length, Nat.sub_self, List.replicate_zero, List.append_nil] at this
    have hr := codeC_rel P gl call yld (some l) k tm.length a [] H hrep
    cases hc : (codeC P gl a).1 call yld (some l) k tm.length (fillFr (putAllV tm (ps.toList.zip args)) 0 tm.length noFr) [] H <;> rw [hc] at hr
    · rw [show codeV P gl (toO call) (toO yld) (some l) k a _ H = none from hr]; rfl
    · rename_i m ks H1
      obtain ⟨tm2, h2, e⟩ := hr
      rw [e]
      dsimp only
      cases H1.get l with
      | none => rfl
      | some o =>
        cases o
        case loop st pend tm' ps' a' b' dn' =>
          cases st
          case ready =>
            dsimp only
            have hr := codeC_rel P gl call yld (some l) k tm.length b ks (H1.set l (.loop .busy pend tm' ps' a' b' dn')) h2
            cases hc : (codeC P gl b).1 call yld (some l) k tm.length m ks (H1.set l (.loop .busy pend tm' ps' a' b' dn')) <;> rw [hc] at hr
            · rw [show codeV P gl (toO call) (toO yld) (some l) k b _ _ = none from hr]; rfl
            all_goals
              obtain ⟨tm3, h3, e⟩ := hr
              rw [e]
              dsimp only
              rename_i ks3 H3
              by_cases hk : ks3 = []
              · rw [if_pos hk, if_pos hk]
                cases H3.get l with
                | none => rfl
                | some o => cases o <;> rfl
              · rw [if_neg hk, if_neg hk]; rfl
          all_goals rfl
        all_goals rfl
    · obtain ⟨tm2, h2, e⟩ := hr; rw [e]; rfl
    · obtain ⟨tm2, h2, e⟩ := hr; rw [e]; rfl
  · rw [if_neg hp, if_neg hp]; rfl
theorem roundC_eq (call yld : CallC) (k l : Nat) (args : List V) (H : Hp) : (roundC P gl call yld k l args H).to = roundV P gl (toO call) (toO yld) k l args H := by
  unfold roundC
  cases hg : H.get l with
  | none => unfold roundV; rw [hg]; rfl
  | some o =>
    cases o
    case loop st0 pend0 tm ps a b dn0 =>
      dsimp only
      by_cases h5 : tm.length ≤ 512
      · rw [ble_t h5]
        dsimp only
        exact roundC_eq1 P gl call yld k l args H hg h5
      · rw [ble_f h5]
        dsimp only
        by_cases hp : args.length = ps.size
        · rw [if_pos hp]; exact ofO_to _
        · rw [if_neg hp]; unfold roundV; rw [hg]; dsimp only; rw [if_neg hp]; rfl
    all_goals (unfold roundV; rw [hg]; rfl)
noncomputable def evC (n : Nat) : Two :=
  Nat.rec (motive := fun _ => Two) ⟨fun _ _ _ => .fail, fun _ _ _ => .fail⟩
    (fun n ih => ⟨fun f args H => (fnC P gl f).1 ih.call ih.yld n args H, fun l args H => roundC P gl ih.call ih.yld n l args H⟩) n
theorem evC_eq : ∀ n : Nat, (toO (evC P gl n).call = fun f a H => evGo P gl n (false, f) a H) ∧ (toO (evC P gl n).yld = fun l a H => evGo P gl n (true, l) a H)
  | 0 => ⟨rfl, rfl⟩
  | n + 1 => by
    obtain ⟨h1, h2⟩ := evC_eq n
    refine ⟨funext fun f => funext fun a => funext fun H => ?_, funext fun l => funext fun a => funext fun H => ?_⟩
    · refine (fnC_eq P gl (evC P gl n).call (evC P gl n).yld n f a H).trans ?_
      rw [h1, h2]
      rfl
    · refine (roundC_eq P gl (evC P gl n).call (evC P gl n).yld n l a H).trans ?_
      rw [h1, h2]
      rfl
noncomputable def isTrueC (r : RV) : Bool := RV.rec (motive := fun _ => Bool) false (fun v _ => v.onBool (fun b => b) false) r
theorem isTrueC_eq {n : Nat} {f : FuncId} {args : List V} {H : Hp} (h : isTrueC ((evC P gl n).call f args H) = true) : isTrue (evFn P gl n f args H) = true := by
  have e : evFn P gl n f args H = ((evC P gl n).call f args H).to := (congrFun (congrFun (congrFun (evC_eq P gl n).1 f) args) H).symm
  rw [e]
  cases hc : (evC P gl n).call f args H with
  | fail => rw [hc] at h; cases h
  | ok v H' =>
    rw [hc] at h
    cases v
    case bool b => exact h
    all_goals cases h
end
end Go.Ev
