/- A rule of our own: to range over an iterator that keeps a variable of its own, which it writes between two yields (Ow), and that must know of the world in which it goes on what its caller's relation tells it (Phi). -/
import Derived.RangeFuncFrom
namespace Go.Grommet
open Go Go.RowKit

variable {F : Fence} {n : Nat} {P : Program}

/-- The iterator's side. -/
def SeqOwn {α : Type} (F : Fence) (n : Nat) (P : Program) (g : Nat) (lb : Array Value) (encs : α → Array Value) (Ow : World → World → Prop) (Phi : List α → World → Prop) (Kp : World → World → Prop) (S Sp : List α → Prop) (N : Nat) (w : World) : Prop :=
  ∀ (l : Nat) (J Jx : List α → World → Prop) (W : World), Below w.heap.size w W → AbidesFrom W.heap.size J → AbidesFrom W.heap.size Jx →
    (∀ pre A B, J pre A → Ow A B → J pre B) → (∀ pre A, J pre A → Phi pre A) →
    (∀ pre x A, J pre A → pre.length < N → YieldAt F (n - 1) P l (encs x) A fun e B => (e = .returned (.bool true) ∧ J (pre ++ [x]) B ∧ Kp A B) ∨ (e = .returned (.bool false) ∧ Jx (pre ++ [x]) B)) →
    J [] W → CallsIn F n P g (#[.func (.yield l) #[] #[]] ++ lb) W fun e B => (∃ v, e = .returned v) ∧ ((∃ xs, S xs ∧ J xs B) ∨ ∃ pre, Sp pre ∧ Jx pre B)

/-- What the loop has laid for itself: its record, and below it the block of its rounds' deferred calls. -/
structure Book (R : Nat) (lp : Loop) (W : World) : Prop where
  lp : W.heap[R + 1]? = some (.loop lp)
  marks : W.heap[R]? = some (.deferred (some []))
theorem Book.stay {R : Nat} {lp : Loop} {A B : World} (h : Book R lp A) (hs : ∀ (k : Nat) (o : Obj), A.heap[k]? = some o → o.isCells = false → o.isWalk = false → B.heap[k]? = some o) : Book R lp B := ⟨hs _ _ h.lp rfl rfl, hs _ _ h.marks rfl rfl⟩
theorem Book.turn {R : Nat} {lp : Loop} {A : World} (h : Book R lp A) (lp' : Loop) : Book R lp' (A.putObj (R + 1) (.loop lp')) :=
  ⟨World.putObj_heap_same (Array.getElem?_eq_some_iff.1 h.lp).1, (World.putObj_heap_other (by omega)).trans h.marks⟩
def lpOf (fn : FuncId) (tmps : Array Value) (ps : Array Tmp) (assign body : Code) (R : Nat) (st : LoopState) (pe : Option Code) : Loop := { state := st, pending := pe, fn, tmps, params := ps, assign, body, defers := R }

theorem wpIn_range_seq {α : Type} {g : Operand} {ps : Array Tmp} {assign body : Code} {Q : Exit → Act → World → Prop} {a : Act} {w : World}
    (hro : F.round = none) (h1 : 1 ≤ n) {gf : Nat} {lb : Array Value} (hg : a.eval g = .func (.func gf) #[] lb) (hFg : F.fn gf) (eg : ∀ args w, (callFunc gf args).run P w = .ok (.enter gf args) w)
    {encs : α → Array Value} {Ow : World → World → Prop} {Phi : List α → World → Prop} {Kp : World → World → Prop} {S Sp : List α → Prop} {N : Nat} {w0 : World} (hseq : SeqOwn F (n - 1) P gf lb encs Ow Phi Kp S Sp N w0)
    (hOw : ∀ A B, Ow A B → KeepsOthers A B) (hKt : ∀ {A B C : World}, Kp A B → Kp B C → Kp A C) (hKb : ∀ (W : World) (l : Nat) (o o' : Obj), w.heap.size ≤ l → W.heap[l]? = some o → o.isCells = false → o.isWalk = false → Kp W (W.putObj l o'))
    (hb0 : Below w0.heap.size w0 w) (hps : ∀ x, (encs x).size = ps.size)
    (I : List α → World → Prop) (Ix : Code → List α → World → Prop) (hI : OwnFrom w.heap.size I) (hIx : ∀ c, OwnFrom w.heap.size (Ix c)) (hIO : ∀ pre A B, I pre A → Ow A B → I pre B) (hPhi : ∀ pre A, I pre A → Phi pre A) (h0 : I [] w) (a₁ : α → Act)
    (hassign : ∀ (l : Nat) (x : α) (W : World) (K : Act → World → Prop), K (a₁ x) W → assign.wpIn (F.inRound l) (n - 1 - 1) P (Exit.then K (fun _ _ _ => False)) { tmps := (ps.zip (encs x)).foldl (fun t (p, v) => t.setIfInBounds p v) a.tmps, defers := [] } W)
    (hbody : ∀ (l : Nat) (pre : List α) (x : α) (W : World), I pre W → pre.length < N → body.wpIn (F.inRound l) (n - 1 - 1) P (ownPostK Kp I Ix (pre ++ [x]) W) (a₁ x) W)
    (hdone : ∀ (D : Nat) (xs : List α) (W : World), w.heap.size ≤ D → S xs → I xs W → W.heap[D]? = some (.deferred (some [])) → Q .normal { a with defers := { target := .collected D, args := #[] } :: a.defers } W)
    (hstop : ∀ (D : Nat) (c : Code) (pre : List α) (W : World), w.heap.size ≤ D → Sp pre → Ix c pre W → W.heap[D]? = some (.deferred (some [])) → c.wpIn F n P Q { a with defers := { target := .collected D, args := #[] } :: a.defers } W) :
    (Code.rangeFunc g ps assign body).wpIn F n P Q a w := by
  obtain ⟨R, hR⟩ : ∃ R, w.heap.size = R := ⟨_, rfl⟩
  rw [hR] at hI hIx hKb hdone hstop
  refine wpIn_rangeFunc fun fn hfn => ?_
  have hlaid : ∃ W1, (Instr.enterLoop fn a.tmps ps assign body F.round).run P w = .ok (R + 1, [{ target := .collected R, args := #[] }]) W1 ∧ Book R (lpOf fn a.tmps ps assign body R .ready none) W1 ∧ I [] W1 ∧ Below w0.heap.size w0 W1 ∧ R + 2 ≤ W1.heap.size := by
    refine ⟨_, by rw [hro]; exact run_enterLoop_outer _ _ _ _ _ |>.trans (by rw [hR]), ⟨?_, ?_⟩, hI.alloc _ (hI.alloc _ h0), hb0.trans ((((Below.refl _ w).alloc (Nat.le_refl _) _).alloc (by simp) _).mono hb0.size), by simp [hR]⟩
    · have := World.alloc_heap_new (w.alloc (.deferred (some []))) (.loop (lpOf fn a.tmps ps assign body R .ready none))
      rw [World.size_alloc, hR] at this
      exact this
    · have := World.alloc_heap_new w (.deferred (some []))
      rw [hR] at this
      exact (Below.heap_alloc _ _ _ (by simp [hR])).trans this
  obtain ⟨W1, hent, hB1, hI1, hb1, hs1⟩ := hlaid
  have hfar : ∀ {A : World} {row : Option Nat}, (∀ r, row = some r → W1.heap.size ≤ r ∧ ∃ o : Obj, A.heap[r]? = some o ∧ o.isWalk = true) → ∀ r, row = some r → R ≤ r ∧ ∃ o : Obj, A.heap[r]? = some o ∧ o.isCells = false := fun h r e => by
    obtain ⟨q, o, ho, hw⟩ := h r e
    exact ⟨by omega, o, ho, Obj.not_cells_of_walk hw⟩
  have hbk : ∀ {lp : Loop} {A B : World} {row : Option Nat}, Book R lp A → A.grownBy B row → (∀ r, row = some r → W1.heap.size ≤ r ∧ ∃ o : Obj, A.heap[r]? = some o ∧ o.isWalk = true) → Book R lp B := fun h hgr hr =>
    h.stay fun k o ho _ hw => (grownBy_keeps hgr (fun r e => (hr r e).2) ho hw).trans ho
  refine ⟨R + 1, _, W1, { target := .fn (.func gf) lb, args := #[.func (.yield (R + 1)) #[] #[]] }, W1, gf, #[.func (.yield (R + 1)) #[] #[]] ++ lb, W1, hent, by simp only [resolve, hg]; simp [go_sem], fun f' hf' => by simp [Target.leads] at hf'; subst hf'; exact hFg, by simp [invoke, go_sem, eg], fun _ => h1, ?_⟩
  refine (hseq (R + 1) (fun pre A => I pre A ∧ Book R (lpOf fn a.tmps ps assign body R .ready none) A) (fun pre A => ∃ c, Ix c pre A ∧ Book R (lpOf fn a.tmps ps assign body R .done (some c)) A) W1 hb1
    (fun s A B row hs hgr hr => ⟨hI s A B row hs.1 hgr (hfar hr), hbk hs.2 hgr hr⟩) (fun s A B row hs hgr hr => by obtain ⟨c, hc, hk⟩ := hs; exact ⟨c, hIx c s A B row hc hgr (hfar hr), hbk hk hgr hr⟩)
    (fun pre A B hs ho => ⟨hIO pre A B hs.1 ho, hs.2.stay fun k o hk hc _ => (hOw A B ho).same k o hk hc⟩) (fun pre A hs => hPhi pre A hs.1) ?round ⟨hI1, hB1⟩).mono ?after
  case after =>
    rintro e B ⟨⟨v, rfl⟩, h | h⟩
    · obtain ⟨xs, hS, hi, hk⟩ := h
      exact ⟨none, _, run_endLoop hk.lp (by intro e; cases e), hdone R xs _ (Nat.le_refl _) hS (hI.putObj _ hi (by omega) hk.lp rfl) ((hk.turn _).marks)⟩
    · obtain ⟨pre, hS, c, hi, hk⟩ := h
      exact ⟨some c, _, run_endLoop hk.lp (by intro e; cases e), hstop R c pre _ (Nat.le_refl _) hS ((hIx c).putObj _ hi (by omega) hk.lp rfl) ((hk.turn _).marks)⟩
  case round =>
    rintro pre x A ⟨hi, hk⟩ hlen
    refine ⟨fn, _, assign, body, run_yield hk.lp (hps x), roundIn_of_wpIn hfn (hassign _ x A _ ⟨_, run_beginRound hk.lp rfl, ?_⟩)⟩
    have hk2 := hk.turn (lpOf fn a.tmps ps assign body R .busy none)
    have hK2 : Kp A (A.putObj (R + 1) (.loop (lpOf fn a.tmps ps assign body R .busy none))) := hKb A (R + 1) _ _ (by omega) hk.lp rfl rfl
    have hi2 := hI.putObj (.loop (lpOf fn a.tmps ps assign body R .busy none)) hi (by omega) hk.lp rfl
    have hstay : ∀ {C : World}, KeepsOthers (A.putObj (R + 1) (.loop (lpOf fn a.tmps ps assign body R .busy none))) C → Book R (lpOf fn a.tmps ps assign body R .busy none) C := fun h => hk2.stay fun k o hk hc _ => h.same k o hk hc
    have hleave : ∀ {C : World} (c : Code), KeepsOthers (A.putObj (R + 1) (.loop (lpOf fn a.tmps ps assign body R .busy none))) C → Ix c (pre ++ [x]) C →
        ∃ v B, (Instr.endRound (R + 1) (some c)).run P C = .ok v B ∧ ((Ending.returned v = .returned (.bool true) ∧ (I (pre ++ [x]) B ∧ Book R (lpOf fn a.tmps ps assign body R .ready none) B) ∧ Kp A B) ∨ (Ending.returned v = .returned (.bool false) ∧ ∃ c, Ix c (pre ++ [x]) B ∧ Book R (lpOf fn a.tmps ps assign body R .done (some c)) B)) := fun c h hx =>
      ⟨_, _, run_endRound (some c) (hstay h).lp, .inr ⟨rfl, c, (hIx c).putObj _ hx (by omega) (hstay h).lp rfl, (hstay h).turn _⟩⟩
    refine wpIn_mono (hbody (R + 1) pre x _ hi2 hlen) ?_
    intro e a3 C hp
    cases e with
    | normal =>
      obtain ⟨h3, hKp, hi3⟩ := hp
      have hk3 := hstay h3
      exact ⟨_, _, run_endRound none hk3.lp, .inl ⟨rfl, ⟨hI.putObj _ hi3 (by omega) hk3.lp rfl, hk3.turn _⟩, hKt (hKt hK2 hKp) (hKb C (R + 1) _ _ (by omega) hk3.lp rfl rfl)⟩⟩
    | ret => exact hleave .ret hp.1 hp.2
    | exit id => exact hleave (.exit id) hp.1 hp.2
    | goto t => exact hleave (.goto t) hp.1 hp.2
    | panic ch => exact hp.elim
    | outgrown => exact hp.elim
end Go.Grommet
