/- Package request: the table of kinds, worked out; what is looked up in it. -/
import Derived.Test.YtlphmpimpeekcaaEvM2
import Derived.Test.YtlphmpimpeekcaaChecked
import Derived.Test.YtlphmpimpeekcaaBase
namespace Go.Proofs.Ytlphmpimpeekcaa
open Go.Ev Go.RowKit Go.Grommet

/-- The functions of a kind's fields. -/
def fns (a : Nat) : List Nat :=
  match a with
  | 1 => [47, 48] | 2 => [49] | 3 => [49, 50] | 4 => [49, 51] | 5 => [49, 52] | 6 => [49, 52]
  | 7 => [47] | 8 => [47] | 9 => [47] | 10 => [47, 53] | 11 => [47] | 12 => [47, 53] | 13 => [47, 52]
  | _ => []
def isKind (a : Nat) : Bool := decide (1 ≤ a) && decide (a ≤ 13)
def fnV (f : Nat) : Value := .func (.func f) #[] #[]
def isFn (v : Option V) (f : Nat) : Bool :=
  match v with
  | some (.fn g .nil .nil) => g == f
  | _ => false
def ownRow (o : Option Ob) : Bool :=
  match o with
  | some (.cells _ _ _ _ ro) => !ro
  | _ => false
def rowOk (H : Hp) (v : V) (fs : List Nat) : Bool :=
  match v with
  | .nilslice => fs.length == 0
  | .slice n off len _ _ => len == fs.length && ownRow (H.get n) && (List.range fs.length).all fun j => isFn (H.cell n (off + j)) (fs.getD j 0)
  | _ => false
noncomputable def keyOk (H : Hp) (es : List (V × V)) (a : Nat) : Bool :=
  match lookV Try.prog 50 es (.int .u8 (a : Int)) true, lookV Try.prog 50 es (.int .u8 (a : Int)) false with
  | some (.tup (.cons v (.cons (.bool b) .nil))), some _ => (b == isKind a) && rowOk H v (fns a)
  | _, _ => false
noncomputable def kindsOk (r : RV) : Bool :=
  match r with
  | .ok (.map m) H => (match H.get m with
    | some (.map es) => (List.range 256).all (keyOk H es)
    | _ => false)
  | _ => false
theorem kinds_ok : kindsOk ((evQ Try.prog (fun _ => none) noQ 1000).call 25 [] Hp.empty) = true := by kernel_rfl

def Looks (M : Nat) (ents : Array MapEntry) (clock a : Nat) (v : Value) : Prop :=
  ∀ (W : World), W.heap[M]? = some (.map ents clock) → ∀ (ev : Operand → Value) (o : Oper) (x k : Operand) (ok : Bool), o.op = .lookup 50 x k ok → ev x = .map (some M) → ev k = .int .u8 (a : Int) →
    (execOp ev o).run Try.prog W = .ok (.value (if ok then .tuple #[v, .bool (isKind a)] else v)) W
def FuncsAt (lo : Nat) (w : World) (v : Value) (fs : List Nat) : Prop := ∃ ad cap, v = .slice ad fs.length cap ∧ At w ad (fs.map fnV) ∧ ∀ a, ad = some a → lo ≤ a.block ∧ a.block < w.heap.size
def KindsAt (lo : Nat) (w : World) (M : Nat) : Prop := ∃ ents clock, w.heap[M]? = some (.map ents clock) ∧ ∀ a, a < 256 → ∃ v, Looks M ents clock a v ∧ FuncsAt lo w v (fns a)

theorem lookV_same {P : Program} {t : TypeId} {es : List (V × V)} {k v : V} {b : Bool} {u : V} (h1 : lookV P t es k true = some (.tup (.cons v (.cons (.bool b) .nil)))) (h2 : lookV P t es k false = some u) : u = v := by
  unfold lookV at h1 h2
  cases hu : P.underlying t with
  | none => rw [hu] at h1; cases h1
  | some td =>
    rw [hu] at h1 h2
    cases td <;> simp only [reduceCtorEq] at h1 h2
    rename_i kt et
    by_cases hk : keyKind P kt k = true
    · rw [if_pos hk] at h1 h2
      cases hf : findV k es 0 with
      | none => rw [hf] at h1; cases h1
      | some r =>
        rw [hf] at h1 h2
        cases r with
        | some p =>
          simp at h1 h2
          exact h2.symm.trans h1.1
        | none =>
          cases hz : zeroV P et with
          | none => simp [hz] at h1
          | some z =>
            simp [hz] at h1 h2
            exact h2.symm.trans h1.1
    · rw [if_neg hk] at h1; cases h1
theorem row_at {w0 w : World} {D : Nat → Prop} {ρ : Nat → Ev.Loc} {H : Hp} (hR : Rel (fun _ => none) w0 D ρ H w) {v : V} (hv : v.In D ρ) {fs : List Nat} (h : rowOk H v fs = true) : FuncsAt w0.heap.size w (v.val ρ) fs := by
  unfold rowOk at h
  split at h
  · obtain rfl := List.eq_nil_of_length_eq_zero (beq_iff_eq.1 h)
    exact ⟨none, 0, rfl, At.nil _ _, fun a e => by cases e⟩
  · rename_i n off len c ex
    rw [Bool.and_eq_true, Bool.and_eq_true, beq_iff_eq, List.all_eq_true] at h
    obtain ⟨⟨rfl, ho⟩, h⟩ := h
    have hlo : w0.heap.size ≤ (ρ n).blk ∧ (ρ n).blk < w.heap.size := by
      unfold ownRow at ho
      split at ho
      · rename_i _ _ _ _ ro hg
        obtain ⟨cs, e, fz, h1, _, h3, _⟩ := hR.ob n _ hv.1 hg
        exact ⟨(h3 (by simpa using ho)).1, (Array.getElem?_eq_some_iff.1 h1).1⟩
      · cases ho
    refine ⟨_, _, rfl, fun j u hu => ⟨_, _, rfl, ?_⟩, fun a e => by cases e; exact hlo⟩
    rw [List.getElem?_map] at hu
    have hj : j < fs.length := by
      by_cases hj : j < fs.length
      · exact hj
      · rw [List.getElem?_eq_none (by omega)] at hu; cases hu
    have hb := h j (List.mem_range.2 hj)
    rw [List.getElem?_eq_getElem hj] at hu
    simp only [Option.map_some, Option.some.injEq] at hu
    subst hu
    rw [List.getD_eq_getElem?_getD, List.getElem?_eq_getElem hj] at hb
    simp only [Option.getD_some] at hb
    unfold isFn at hb
    split at hb
    · rename_i g hc
      rw [beq_iff_eq] at hb
      unfold Hp.cell at hc
      split at hc
      · rename_i size ov base e1 e2 hg
        obtain ⟨cs, e, fz, h1, h2, _⟩ := hR.ob n _ hv.1 hg
        obtain ⟨h3, _, _⟩ := h2 _ _ hc
        rw [show (ρ n).base + (off + j) = (ρ n).base + off + j by omega] at h3
        simp only [World.cell?, h1, h3]
        rw [← hb]; rfl
      · cases hc
    · cases hb
  · cases h

theorem kinds_any (w : World) : Calls Try.prog 25 #[] w fun e w' => ∃ M, e = .returned (.map (some M)) ∧ KindsAt w.heap.size w' M ∧ w.grownBy w' none := by
  have h := kinds_ok
  unfold kindsOk at h
  split at h
  · rename_i m H hr
    split at h
    · rename_i es hg
      rw [List.all_eq_true] at h
      refine (evQ_calls (w0 := w) (by kernel_rfl) (told_none _) (by kernel_rfl) hr (Rel.start w) (fun a m => by cases m)).mono ?_
      rintro e w' ⟨D', ρ', rfl, _, hR, hv⟩
      obtain ⟨ents, clock, m1, m2, m3⟩ := map_at hR (show D' m from hv) hg
      refine ⟨_, rfl, ⟨ents, clock, m1, fun a ha => ?_⟩, hR.grown⟩
      have hk := h a (List.mem_range.2 ha)
      unfold keyOk at hk
      split at hk
      · rename_i v b u h1 h2
        rw [Bool.and_eq_true, beq_iff_eq] at hk
        obtain ⟨rfl, hk⟩ := hk
        obtain ⟨c1, key, elem, hu, hck, hfind⟩ := look_sound (ρ := ρ') (D := D') h1 m3
        obtain ⟨_, key2, elem2, hu2, hck2, hfind2⟩ := look_sound (ρ := ρ') (D := D') h2 m3
        obtain rfl := lookV_same h1 h2
        refine ⟨u.val ρ', fun W hW ev o x k ok ho hx hkk => ?_, row_at hR (by exact c1.1) hk⟩
        cases ok
        · obtain ⟨r, f1, f2⟩ := hfind2 ents.toList m2 W
          simp only [V.val_int] at f1 hck2
          obtain ⟨dst, op, type, pos, after, guard⟩ := o
          simp only at ho
          subst ho
          simp only [execOp, Instr.lookup, hx, hkk, Sem.run_bind, Sem.run_pure, run_underlying hu2, Result.andThen_ok, Go.Ev.run_getObj_map (w := W) hW, hck2, f1]
          cases r <;> simp_all
        · obtain ⟨r, f1, f2⟩ := hfind ents.toList m2 W
          simp only [V.val_int] at f1 hck
          obtain ⟨dst, op, type, pos, after, guard⟩ := o
          simp only at ho
          subst ho
          simp only [execOp, Instr.lookup, hx, hkk, Sem.run_bind, Sem.run_pure, run_underlying hu, Result.andThen_ok, Go.Ev.run_getObj_map (w := W) hW, hck, f1]
          have e9 : (V.tup (.cons u (.cons (.bool (isKind a)) .nil))).val ρ' = .tuple #[u.val ρ', .bool (isKind a)] := by simp [V.val, V.cv]
          rw [e9] at f2
          cases r <;> simp_all
      · cases hk
    · cases h
  · cases h
theorem KindsAt.keep {lo : Nat} {w w' : World} {M : Nat} (h : KindsAt lo w M) (hg : w.grownBy w' none) : KindsAt lo w' M := by
  obtain ⟨ents, clock, h1, h2⟩ := h
  refine ⟨ents, clock, (hg.block M (Array.getElem?_eq_some_iff.1 h1).1 (by simp)).trans h1, fun a ha => ?_⟩
  obtain ⟨v, hl, ad, cap, rfl, hat, hlo⟩ := h2 a ha
  exact ⟨_, hl, ad, cap, rfl, hat.grown hg (fun _ _ _ => by simp), fun a e => ⟨(hlo a e).1, Nat.lt_of_lt_of_le (hlo a e).2 hg.size⟩⟩
end Go.Proofs.Ytlphmpimpeekcaa
