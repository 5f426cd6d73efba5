/- The evaluator with some calls told: what a table says of them, each of which is shown by itself. -/
import Derived.Test.YtmoddhfemejekaaCvE
namespace Go.Ev

inductive QC where
  | mk (run : List V → Option V)
section
variable (P : Program) (gl : Nat → Option Nat) (q : Nat → QC)
noncomputable def evQ (n : Nat) : Two :=
  Nat.rec (motive := fun _ => Two) ⟨fun _ _ _ => .fail, fun _ _ _ => .fail⟩
    (fun n ih => ⟨fun f args H => Option.rec (motive := fun _ => RV) ((fnC P gl f).1 ih.call ih.yld n args H) (fun v => .ok v H) ((q f).1 args), fun l args H => roundC P gl ih.call ih.yld n l args H⟩) n
/-- A function that may be told. -/
def tellable (f : Nat) : Bool :=
  match P.funcs[f]? with
  | some fn => fn.body.isSome && decide (fn.name ≠ "runtime.NumGoroutine")
  | none => false
/-- What is told comes so, and turns nothing that there is. -/
def Told : Prop := ∀ f args v, (q f).1 args = some v → tellable P f = true ∧ v.plain = true ∧ ∀ (D : Nat → Prop) (ρ : Nat → Loc), (∀ a ∈ args, a.In D ρ) → ∀ w, Calls P f (args.map (V.val ρ)).toArray w fun e w' => e = .returned (v.val ρ) ∧ w.grownBy w' none
end
section
variable {P : Program} {gl : Nat → Option Nat} {q : Nat → QC} {w0 : World}
theorem told_ok (hq : Told P q) {f : Nat} {args : List V} {v : V} (h : (q f).1 args = some v) {H : Hp} {D : Nat → Prop} {ρ : Nat → Loc} {w : World} (hR : Rel gl w0 D ρ H w) (ha : ∀ a ∈ args, a.In D ρ) :
    (∀ A w, (callFunc f A).run P w = .ok (.enter f A) w) ∧ CallsIn (Fr none) 0 P f (args.map (V.val ρ)).toArray w (Ends gl w0 D ρ H v H) := by
  obtain ⟨h1, h2, h3⟩ := hq f args v h
  refine ⟨fun A w => ?_, callsIn_wide.2 ((h3 D ρ ha w).mono fun e w' ⟨he, hg⟩ => ⟨D, ρ, he, Nx.refl _ _ _, hR.quiet hg, V.plain_in h2⟩)⟩
  unfold tellable at h1
  split at h1
  · rename_i fn hf
    simp only [Bool.and_eq_true, decide_eq_true_eq] at h1
    obtain ⟨hb, hn⟩ := h1
    simp only [callFunc, Sem.run_bind, program, Sem.run, Result.andThen_ok, hf]
    rw [if_neg (by simpa using hn)]
    obtain ⟨c, hc⟩ := Option.isSome_iff_exists.1 hb
    simp [hc]
  · cases h1
theorem evQ_sound (hm : P.follows .mixedOrders = true) (hq : Told P q) : ∀ n, CallOk P gl w0 (toO (evQ P gl q n).call) ∧ YldOk P gl w0 (toO (evQ P gl q n).yld)
  | 0 => ⟨fun f args H v H' h => (by cases h), fun l args H v H' h => (by cases h)⟩
  | n + 1 => by
    obtain ⟨a, b⟩ := evQ_sound hm hq n
    constructor
    · intro f args H v H' h D ρ w hR ha
      have h' : (Option.rec (motive := fun _ => RV) ((fnC P gl f).1 (evQ P gl q n).call (evQ P gl q n).yld n args H) (fun v => .ok v H) ((q f).1 args)).to = some (v, H') := h
      cases hr : (q f).1 args with
      | none =>
        rw [hr] at h'
        dsimp only at h'
        rw [fnC_eq] at h'
        exact fn_sound hm a b f args H v H' h' D ρ w hR ha
      | some u =>
        rw [hr] at h'
        obtain ⟨rfl, rfl⟩ : u = v ∧ H = H' := by
          have : some (u, H) = some (v, H') := h'
          simpa using this
        exact .inl (told_ok hq hr hR ha)
    · intro l args H v H' h
      have h' : (roundC P gl (evQ P gl q n).call (evQ P gl q n).yld n l args H).to = some (v, H') := h
      rw [roundC_eq] at h'
      exact round_sound hm a b l args H v H' h'
theorem evQ_calls (hm : P.follows .mixedOrders = true) (hq : Told P q) {n : Nat} {f : FuncId} (ht : tellable P f = true) {args : List V} {H : Hp} {v : V} {H' : Hp} (h : (evQ P gl q n).call f args H = .ok v H') {D : Nat → Prop} {ρ : Nat → Loc} {w : World} (hR : Rel gl w0 D ρ H w) (ha : ∀ a ∈ args, a.In D ρ) :
    Calls P f (args.map (V.val ρ)).toArray w fun e w' => ∃ D' ρ', e = .returned (v.val ρ') ∧ Nx D ρ H D' ρ' H' ∧ Rel gl w0 D' ρ' H' w' ∧ v.In D' ρ' := by
  have h' : toO (evQ P gl q n).call f args H = some (v, H') := by unfold toO; rw [h]; rfl
  rcases (evQ_sound hm hq n).1 f args H v H' h' D ρ w hR ha with ⟨_, h2⟩ | ⟨h2, _⟩
  · exact callsIn_wide.1 h2
  · unfold tellable at ht
    split at ht
    · rename_i fn hf
      rw [hf] at h2
      simp only [Bool.and_eq_true] at ht
      simp only [Option.bind_some, Option.isNone_iff_eq_none] at h2
      rw [h2] at ht
      cases ht.1
    · cases ht
theorem isTrueC_ok {r : RV} (h : isTrueC r = true) : ∃ H, r = .ok (.bool true) H := by
  cases r with
  | fail => cases h
  | ok v H =>
    cases v
    case bool b => cases b; cases h; exact ⟨H, rfl⟩
    all_goals cases h
theorem evQ_true (hm : P.follows .mixedOrders = true) (hq : Told P q) {n : Nat} {f : FuncId} (ht : tellable P f = true) {args : List V} (h : isTrueC ((evQ P (fun _ => none) q n).call f args Hp.empty) = true) (ha : args.all V.plain = true) (w : World) :
    Calls P f (args.map (V.val fun _ => ⟨0, 0, 0⟩)).toArray w (WorksIs w) := by
  obtain ⟨H, hH⟩ := isTrueC_ok h
  refine (evQ_calls hm hq ht hH (Rel.start w) (fun a m => V.plain_in (List.all_eq_true.1 ha a m))).mono ?_
  rintro e w' ⟨D', ρ', rfl, _, hR, _⟩
  exact ⟨rfl, hR.grown⟩

/-! ### Tables -/
inductive EqC where
  | mk (run : V → Bool)
noncomputable def V.boolB (x : V) (b : Bool) : Bool := Option.rec (motive := fun _ => Bool) false (fun c => Bool.rec (motive := fun _ => Bool) (bNot b) b c) (x.boolO some)
noncomputable def V.isNil (x : V) : Bool :=
  V.rec (motive := fun _ => Bool) (fun _ => false) (fun _ _ => false) (fun _ => false) false (fun _ _ => false) false (fun _ _ _ _ _ => false) (fun _ _ _ _ => false) (fun _ _ => false) false (fun _ => false) false (fun _ _ _ _ _ => false) (fun _ => false) true (fun _ _ _ _ => false) (fun _ _ => false) (fun _ _ => false) x
noncomputable def V.isNilptr (x : V) : Bool :=
  V.rec (motive := fun _ => Bool) (fun _ => false) (fun _ _ => false) (fun _ => false) true (fun _ _ => false) false (fun _ _ _ _ _ => false) (fun _ _ _ _ => false) (fun _ _ => false) false (fun _ => false) false (fun _ _ _ _ _ => false) (fun _ => false) false (fun _ _ _ _ => false) (fun _ _ => false) (fun _ _ => false) x
noncomputable def V.consB (x : V) (f : V → V → Bool) : Bool :=
  V.rec (motive := fun _ => Bool) (fun _ => false) (fun _ _ => false) (fun _ => false) false (fun _ _ => false) false (fun _ _ _ _ _ => false) (fun _ _ _ _ => false) (fun _ _ => false) false (fun _ => false) false (fun _ _ _ _ _ => false) (fun _ => false) false (fun h t _ _ => f h t) (fun _ _ => false) (fun _ _ => false) x
noncomputable def V.intB (x : V) (f : IntKind → Int → Bool) : Bool :=
  V.rec (motive := fun _ => Bool) (fun _ => false) (fun k n => f k n) (fun _ => false) false (fun _ _ => false) false (fun _ _ _ _ _ => false) (fun _ _ _ _ => false) (fun _ _ => false) false (fun _ => false) false (fun _ _ _ _ _ => false) (fun _ => false) false (fun _ _ _ _ => false) (fun _ _ => false) (fun _ _ => false) x
noncomputable def V.aggB (x : V) (f : V → Bool) : Bool :=
  V.rec (motive := fun _ => Bool) (fun _ => false) (fun _ _ => false) (fun _ => false) false (fun _ _ => false) false (fun _ _ _ _ _ => false) (fun _ _ _ _ => false) (fun _ _ => false) false (fun _ => false) false (fun _ _ _ _ _ => false) (fun _ => false) false (fun _ _ _ _ => false) (fun l _ => f l) (fun _ _ => false) x
/-- Is it just that? (Of numbers, truths, nothings, and rows of them.) -/
noncomputable def eqC (k : V) : EqC :=
  V.rec (motive := fun _ => EqC) (fun b => ⟨fun x => x.boolB b⟩) (fun k n => ⟨fun x => x.intB (fun l m => Bool.rec (motive := fun _ => Bool) false (iEq m n) (Nat.beq (kid l) (kid k)))⟩) (fun _ => ⟨fun _ => false⟩) ⟨fun x => x.isNilptr⟩ (fun _ _ => ⟨fun _ => false⟩) ⟨fun _ => false⟩ (fun _ _ _ _ _ => ⟨fun _ => false⟩) (fun _ _ _ _ => ⟨fun _ => false⟩) (fun _ _ => ⟨fun _ => false⟩) ⟨fun _ => false⟩ (fun _ => ⟨fun _ => false⟩) ⟨fun _ => false⟩ (fun _ _ _ _ _ => ⟨fun _ => false⟩) (fun _ => ⟨fun _ => false⟩)
    ⟨fun x => x.isNil⟩ (fun _ _ ih it => ⟨fun x => x.consB (fun h t => Bool.rec (motive := fun _ => Bool) false (it.1 t) (ih.1 h))⟩) (fun _ il => ⟨fun x => x.aggB (fun l => il.1 l)⟩) (fun _ _ => ⟨fun _ => false⟩) k
theorem eqC_eq : ∀ (k x : V), (eqC k).1 x = true → x = k
  | .bool b, x, h => by
    cases x
    case bool c => cases b <;> cases c <;> first | rfl | cases h
    all_goals cases h
  | .int k n, x, h => by
    cases x
    case int l m =>
      have h' : Bool.rec (motive := fun _ => Bool) false (iEq m n) (Nat.beq (kid l) (kid k)) = true := h
      rw [kid_beq] at h'
      by_cases e : l = k
      · rw [decide_eq_true e] at h'
        dsimp only at h'
        rw [iEq_eq] at h'
        rw [e, eq_of_beq h']
      · rw [decide_eq_false e] at h'; cases h'
    all_goals cases h
  | .nilptr, x, h => by
    cases x
    case nilptr => rfl
    all_goals cases h
  | .nil, x, h => by
    cases x
    case nil => rfl
    all_goals cases h
  | .cons a b, x, h => by
    cases x
    case cons c d =>
      have h' : Bool.rec (motive := fun _ => Bool) false ((eqC b).1 d) ((eqC a).1 c) = true := h
      cases hc : (eqC a).1 c with
      | false => rw [hc] at h'; cases h'
      | true =>
        rw [hc] at h'
        rw [eqC_eq a c hc, eqC_eq b d h']
    all_goals cases h
  | .agg l, x, h => by
    cases x
    case agg m => rw [eqC_eq l m h]
    all_goals cases h
  | .str _, _, h | .ptr _ _, _, h | .nilslice, _, h | .slice _ _ _ _ _, _, h | .tail _ _ _ _, _, h | .raw _ _, _, h | .nilmap, _, h | .map _, _, h | .nilfn, _, h | .fn _ _ _, _, h | .yield _, _, h | .tup _, _, h => by cases h
noncomputable def eqsC (l : List V) (xs : List V) : Bool :=
  List.rec (motive := fun _ => List V → Bool) (fun xs => List.rec (motive := fun _ => Bool) true (fun _ _ _ => false) xs) (fun k _ ih xs => List.rec (motive := fun _ => Bool) false (fun x t _ => Bool.rec (motive := fun _ => Bool) false (ih t) ((eqC k).1 x)) xs) l xs
theorem eqsC_eq : ∀ (l xs : List V), eqsC l xs = true → xs = l
  | [], [], _ => rfl
  | [], _ :: _, h => by cases h
  | _ :: _, [], h => by cases h
  | k :: l, x :: xs, h => by
    have h' : Bool.rec (motive := fun _ => Bool) false (eqsC l xs) ((eqC k).1 x) = true := h
    cases hc : (eqC k).1 x with
    | false => rw [hc] at h'; cases h'
    | true => rw [hc] at h'; rw [eqC_eq k x hc, eqsC_eq l xs h']
/-- What one function's calls come to, by their arguments. -/
noncomputable def rowsC (l : List (List V × V)) : QC :=
  List.rec (motive := fun _ => QC) ⟨fun _ => none⟩ (fun p _ ih => ⟨fun xs => Bool.rec (motive := fun _ => Option V) (ih.1 xs) (some p.2) (eqsC p.1 xs)⟩) l
noncomputable def tableC (l : List (Nat × QC)) (f : Nat) : QC :=
  List.rec (motive := fun _ => QC) ⟨fun _ => none⟩ (fun p _ ih => Bool.rec (motive := fun _ => QC) ih p.2 (Nat.beq p.1 f)) l
theorem V.plain_val {ρ ρ' : Nat → Loc} {v : V} (h : v.plain = true) : v.val ρ = v.val ρ' :=
  V.val_ext (D := fun _ => False) (σ := ρ) (fun _ h => h.elim) (V.plain_in h)
/-- Each row as the evaluator yields it. -/
noncomputable def rowsOk (P : Program) (q0 : Nat → QC) (n f : Nat) (l : List (List V × V)) : Bool :=
  List.rec (motive := fun _ => Bool) true (fun p _ ih => Bool.rec (motive := fun _ => Bool) false ih
    (RV.rec (motive := fun _ => Bool) false (fun v _ => (eqC p.2).1 v) ((evQ P (fun _ => none) q0 n).call f p.1 Hp.empty))) l
theorem rowsOk_mem {P : Program} {q0 : Nat → QC} {n f : Nat} : ∀ {l : List (List V × V)}, rowsOk P q0 n f l = true → ∀ p ∈ l, ∃ H, (evQ P (fun _ => none) q0 n).call f p.1 Hp.empty = .ok p.2 H
  | [], _, p, hp => by cases hp
  | r :: l, h, p, hp => by
    have h' : Bool.rec (motive := fun _ => Bool) false (rowsOk P q0 n f l) (RV.rec (motive := fun _ => Bool) false (fun v _ => (eqC r.2).1 v) ((evQ P (fun _ => none) q0 n).call f r.1 Hp.empty)) = true := h
    cases hc : (evQ P (fun _ => none) q0 n).call f r.1 Hp.empty with
    | fail => rw [hc] at h'; cases h'
    | ok v H =>
      rw [hc] at h'
      dsimp only at h'
      cases he : (eqC r.2).1 v with
      | false => rw [he] at h'; cases h'
      | true =>
        rw [he] at h'
        rcases List.mem_cons.1 hp with rfl | hp
        · exact ⟨H, by rw [hc, eqC_eq _ _ he]⟩
        · exact rowsOk_mem h' p hp
theorem rowsC_mem {l : List (List V × V)} {xs : List V} {v : V} : (rowsC l).1 xs = some v → (xs, v) ∈ l := by
  induction l with
  | nil => intro h; cases h
  | cons p l ih =>
    intro h
    have h' : Bool.rec (motive := fun _ => Option V) ((rowsC l).1 xs) (some p.2) (eqsC p.1 xs) = some v := h
    cases he : eqsC p.1 xs with
    | false => rw [he] at h'; exact List.mem_cons_of_mem _ (ih h')
    | true =>
      rw [he] at h'
      obtain rfl : p.2 = v := by simpa using h'
      rw [eqsC_eq _ _ he]
      exact List.mem_cons_self
theorem tableC_mem {l : List (Nat × QC)} {f : Nat} {xs : List V} {v : V} : (tableC l f).1 xs = some v → ∃ r, (f, r) ∈ l ∧ r.1 xs = some v := by
  induction l with
  | nil => intro h; cases h
  | cons p l ih =>
    intro h
    have h' : (Bool.rec (motive := fun _ => QC) (tableC l f) p.2 (Nat.beq p.1 f)).1 xs = some v := h
    cases he : Nat.beq p.1 f with
    | false =>
      rw [he] at h'
      obtain ⟨r, hr, hv⟩ := ih h'
      exact ⟨r, List.mem_cons_of_mem _ hr, hv⟩
    | true =>
      rw [he] at h'
      have := Nat.eq_of_beq_eq_true he
      exact ⟨p.2, by rw [← this]; exact List.mem_cons_self, h'⟩
def plainRows (l : List (List V × V)) : Bool := l.all fun p => p.1.all V.plain && p.2.plain
noncomputable def tableOk (P : Program) (q0 : Nat → QC) (n : Nat) (l : List (Nat × List (List V × V))) : Bool :=
  List.rec (motive := fun _ => Bool) true (fun p _ ih => Bool.rec (motive := fun _ => Bool) false (Bool.rec (motive := fun _ => Bool) false (Bool.rec (motive := fun _ => Bool) false ih (rowsOk P q0 n p.1 p.2)) (plainRows p.2)) (tellable P p.1)) l
theorem tableOk_mem {P : Program} {q0 : Nat → QC} {n : Nat} : ∀ {l : List (Nat × List (List V × V))}, tableOk P q0 n l = true → ∀ p ∈ l, tellable P p.1 = true ∧ plainRows p.2 = true ∧ rowsOk P q0 n p.1 p.2 = true
  | [], _, p, hp => by cases hp
  | r :: l, h, p, hp => by
    have h' : Bool.rec (motive := fun _ => Bool) false (Bool.rec (motive := fun _ => Bool) false (Bool.rec (motive := fun _ => Bool) false (tableOk P q0 n l) (rowsOk P q0 n r.1 r.2)) (plainRows r.2)) (tellable P r.1) = true := h
    cases h1 : tellable P r.1 <;> rw [h1] at h'
    · cases h'
    · cases h2 : plainRows r.2 <;> rw [h2] at h'
      · cases h'
      · cases h3 : rowsOk P q0 n r.1 r.2 <;> rw [h3] at h'
        · cases h'
        · rcases List.mem_cons.1 hp with rfl | hp
          · exact ⟨h1, h2, h3⟩
          · exact tableOk_mem h' p hp
noncomputable def tellC (l : List (Nat × List (List V × V))) : Nat → QC := tableC (l.map fun p => (p.1, rowsC p.2))
theorem told_table {P : Program} (hm : P.follows .mixedOrders = true) {q0 : Nat → QC} (h0 : Told P q0) {n : Nat} {l : List (Nat × List (List V × V))} (h : tableOk P q0 n l = true) : Told P (tellC l) := by
  intro f args v hr
  obtain ⟨r, hmem, hv⟩ := tableC_mem hr
  obtain ⟨p, hp, e⟩ := List.mem_map.1 hmem
  obtain ⟨rfl, rfl⟩ := Prod.mk.inj e
  obtain ⟨h1, h2, h3⟩ := tableOk_mem h p hp
  have hrow := rowsC_mem hv
  obtain ⟨H, hc⟩ := rowsOk_mem h3 _ hrow
  have hpl := List.all_eq_true.1 h2 _ hrow
  simp only [Bool.and_eq_true] at hpl
  refine ⟨h1, hpl.2, fun D ρ _ w => ?_⟩
  have ea : args.map (V.val ρ) = args.map (V.val fun _ => ⟨0, 0, 0⟩) := List.map_congr_left fun a ha => V.plain_val (List.all_eq_true.1 hpl.1 a ha)
  rw [ea]
  refine (evQ_calls hm h0 h1 hc (Rel.start w) (fun a m => V.plain_in (List.all_eq_true.1 hpl.1 a m))).mono ?_
  rintro e w' ⟨D', ρ', rfl, _, hR, _⟩
  exact ⟨by rw [V.plain_val hpl.2], hR.grown⟩
def noQ : Nat → QC := fun _ => ⟨fun _ => none⟩
theorem told_none (P : Program) : Told P noQ := fun f args v h => by cases h
noncomputable def orQ (q r : Nat → QC) : Nat → QC := fun f => ⟨fun xs => Option.rec (motive := fun _ => Option V) ((r f).1 xs) (fun v => some v) ((q f).1 xs)⟩
theorem told_or {P : Program} {q r : Nat → QC} (h : Told P q) (k : Told P r) : Told P (orQ q r) := by
  intro f args v hv
  have hv' : Option.rec (motive := fun _ => Option V) ((r f).1 args) (fun v => some v) ((q f).1 args) = some v := hv
  cases hq : (q f).1 args with
  | none => rw [hq] at hv'; exact k f args v hv'
  | some u =>
    rw [hq] at hv'
    obtain rfl : u = v := by simpa using hv'
    exact h f args u hq
end
end Go.Ev
