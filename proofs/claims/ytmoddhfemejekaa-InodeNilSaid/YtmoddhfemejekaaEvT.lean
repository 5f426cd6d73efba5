/- Code: as the model does it. -/
import Derived.Test.YtmoddhfemejekaaEvS
import Derived.RangeFuncLeaves
namespace Go.Ev

def Ex.exit' : Ex → Exit
  | .normal => .normal
  | .exit id => .exit id
  | .ret => .ret
/-- A frame stands as the evaluator has it. -/
structure FrOk (D : Nat → Prop) (ρ : Nat → Loc) (s : St) (a : Act) : Prop where
  tm : Tm D ρ s.tm a
  ds : a.defers = s.marks.map fun r => { target := .collected (ρ r).blk, args := #[] }
  mks : ∀ r ∈ s.marks, D r
/-- Which round a frame is of. -/
def RndOk (D : Nat → Prop) (ρ : Nat → Loc) (rnd rb : Option Nat) : Prop :=
  match rnd with
  | none => rb = none
  | some l => D l ∧ rb = some (ρ l).blk

section
variable {P : Program} {gl : Nat → Option Nat} {w0 : World} {call : Call} {yld : Nat → List V → Hp → Option (V × Hp)}
theorem FrOk.nx {D D' : Nat → Prop} {ρ ρ' : Nat → Loc} {H H' : Hp} {s : St} {a : Act} (h : FrOk D ρ s a) (hn : Nx D ρ H D' ρ' H') : FrOk D' ρ' s a :=
  ⟨h.tm.nx hn, by rw [h.ds]; exact List.map_congr_left fun r hr => by rw [hn.loc r (h.mks r hr)], fun r hr => hn.sub r (h.mks r hr)⟩
theorem RndOk.nx {D D' : Nat → Prop} {ρ ρ' : Nat → Loc} {H H' : Hp} {rnd rb : Option Nat} (h : RndOk D ρ rnd rb) (hn : Nx D ρ H D' ρ' H') : RndOk D' ρ' rnd rb := by
  cases rnd with
  | none => exact h
  | some l => exact ⟨hn.sub l h.1, by rw [hn.loc l h.1]; exact h.2⟩
theorem region_draw_sound (hm : P.follows .mixedOrders = true) (hc : CallOk P gl w0 call) (hy : YldOk P gl w0 yld) {rb : Option Nat} {id : Nat} {ops : Array Oper} {pl : List Nat} {Q : Exit → Act → World → Prop} {tm tm' : List V} {H H' : Hp} {D : Nat → Prop} {ρ : Nat → Loc} {w : World} {a : Act}
    (hp : planV ops ops.size (Array.replicate ops.size false) = some pl) (h : drawV P gl call yld ops (masks ops) pl [] tm H = some (tm', H')) (hR : Rel gl w0 D ρ H w) (hT : Tm D ρ tm a)
    (hQ : ∀ D' ρ' a' w', Nx D ρ H D' ρ' H' → Rel gl w0 D' ρ' H' w' → Tm D' ρ' tm' a' → a'.defers = a.defers → Q .normal a' w') : (Code.region id ops true).wpIn (Fr rb) 0 P Q a w := by
  refine wpIn_region_any hm ?_
  have nof : ∀ j, ¬ (Array.replicate ops.size false).getD j false = true := fun j => by
    rw [Array.getD_eq_getD_getElem?]
    rw [Array.getElem?_replicate]
    split <;> simp
  refine drawn (D0 := D) (ρ0 := ρ) (H0 := H) (ds := a.defers) hc hy (fun D' ρ' a' w' n r t d => hQ D' ρ' a' w' n r t d) ops.size (E := []) (D := D) (ρ := ρ) ?_ rfl hp h (by simp)
  refine ⟨by simp, by simp, fun j => by simp, fun j hj => absurd hj (nof j), fun j hj => absurd hj (nof j), hR.quiet ⟨rfl, rfl, rfl, Nat.le_refl _, fun _ _ _ => rfl⟩, fun _ _ => rfl, fun n => ?_, by simp, by simp, fun _ _ _ => rfl, Nat.le_refl _, by rw [hT.eq]; simp, fun t _ v hv => ?_, by simp, by simp, by simp, by simp, List.Pairwise.nil, List.Pairwise.nil, by simp, by simp, by simp, by simp, by simp, by simp, by simp⟩
  · simp only [List.not_mem_nil, false_and, exists_false, or_false]
    exact ⟨.inl, fun h => h.elim (fun x => x) fun ⟨a, b⟩ => absurd b (by omega)⟩
  · exact ⟨by rw [hT.eq]; simp [hv], hT.in_ v (List.mem_of_getElem? hv)⟩

/-- What is asked of a piece of code. -/
def CodeOk (P : Program) (gl : Nat → Option Nat) (w0 : World) (rnd : Option Nat) (f : St → Hp → Option (Ex × St × Hp)) (c : Code) : Prop :=
  ∀ (s : St) (H : Hp) (ex : Ex) (s' : St) (H' : Hp), f s H = some (ex, s', H') → ∀ (D : Nat → Prop) (ρ : Nat → Loc) (w : World) (a : Act) (rb : Option Nat), Rel gl w0 D ρ H w → FrOk D ρ s a → RndOk D ρ rnd rb →
    ∀ (Q : Exit → Act → World → Prop), (∀ D' ρ' a' w', Nx D ρ H D' ρ' H' → Rel gl w0 D' ρ' H' w' → FrOk D' ρ' s' a' → Q ex.exit' a' w') → c.wpIn (Fr rb) 0 P Q a w
theorem CodeOk.go {rnd : Option Nat} {f : St → Hp → Option (Ex × St × Hp)} {c : Code} (hf : CodeOk P gl w0 rnd f c) {s : St} {H : Hp} {ex : Ex} {s' : St} {H' : Hp} (h : f s H = some (ex, s', H')) {D : Nat → Prop} {ρ : Nat → Loc} {w : World} {a : Act} {rb : Option Nat} (hR : Rel gl w0 D ρ H w) (hF : FrOk D ρ s a) (hr : RndOk D ρ rnd rb)
    {Q : Exit → Act → World → Prop} (hQ : ∀ D' ρ' a' w', Nx D ρ H D' ρ' H' → Rel gl w0 D' ρ' H' w' → FrOk D' ρ' s' a' → Q ex.exit' a' w') : c.wpIn (Fr rb) 0 P Q a w := hf s H ex s' H' h D ρ w a rb hR hF hr Q hQ
theorem loop_sound {rnd : Option Nat} {f : St → Hp → Option (Ex × St × Hp)} {c : Code} (hf : CodeOk P gl w0 rnd f c) : ∀ (n : Nat) {s : St} {H : Hp} {ex : Ex} {s' : St} {H' : Hp}, loopV f n s H = some (ex, s', H') → ∀ {D : Nat → Prop} {ρ : Nat → Loc} {w : World} {a : Act} {rb : Option Nat}, Rel gl w0 D ρ H w → FrOk D ρ s a → RndOk D ρ rnd rb →
    ∀ {Q : Exit → Act → World → Prop}, (∀ D' ρ' a' w', Nx D ρ H D' ρ' H' → Rel gl w0 D' ρ' H' w' → FrOk D' ρ' s' a' → Q ex.exit' a' w') →
      ∀ (b : Frame) (k : List Item) (cs : List Frame), b.roundOf = rb → ∃ e a' w', Q e a' w' ∧ ArrivesIn (Machine.fenced P (Fr rb)) P (lone (b.atR a (.code c :: .inLoop c :: k)) cs w) b k cs e a' w'
  | 0, s, H, ex, s', H', h, _, _, _, _, _, _, _, _, _, _, _, _, _, _ => by simp [loopV] at h
  | n + 1, s, H, ex, s', H', h, D, ρ, w, a, rb, hR, hF, hrn, Q, hQ, b, k, cs, hb => by
    have hroom : (Fr rb).room (cs.length + 1 + 0) := fun d hd => by simp [Fr] at hd
    unfold loopV at h
    split at h
    · rename_i s1 H1 h1
      obtain ⟨e, a1, w1, hq, harr⟩ := hf.go h1 hR hF hrn (Q := fun e a1 w1 => e = .normal ∧ ∃ D1 ρ1, Nx D ρ H D1 ρ1 H1 ∧ Rel gl w0 D1 ρ1 H1 w1 ∧ FrOk D1 ρ1 s1 a1) (fun D' ρ' a' w' n r f => ⟨rfl, D', ρ', n, r, f⟩) b (.inLoop c :: k) cs hb trivial hroom
      obtain ⟨rfl, D1, ρ1, n1, r1, f1⟩ := hq
      obtain ⟨e2, a2, w2, hq2, harr2⟩ := loop_sound hf n h r1 f1 (hrn.nx n1) (Q := Q) (fun D' ρ' a' w' n r f => hQ D' ρ' a' w' (n1.trans n) r f) b k cs hb
      exact ⟨e2, a2, w2, hq2, .of_steps (StepsIn.trans harr (.one (fenced_calm trivial hroom rfl) stepR_inLoop)) harr2⟩
    · rename_i hne
      have hex : ex ≠ .normal := fun e => by subst e; exact hne _ _ h
      obtain ⟨e, a1, w1, hq, harr⟩ := hf.go h hR hF hrn (Q := fun e a1 w1 => e = ex.exit' ∧ Q e a1 w1) (fun D' ρ' a' w' n r f => ⟨rfl, hQ D' ρ' a' w' n r f⟩) b (.inLoop c :: k) cs hb trivial hroom
      obtain ⟨rfl, hq⟩ := hq
      refine ⟨_, a1, w1, hq, .pass (x := .inLoop c) rfl (fun _ _ => .inl ?_) harr⟩
      cases ex <;> simp [Ex.exit'] at hex ⊢
theorem getLoop_run {w : World} {l : Nat} {r : Loop} (h : w.heap[l]? = some (.loop r)) : (Instr.getLoop l).run P w = .ok r w := by
  simp [Instr.getLoop, getObj, Sem.run, h]
theorem push_loop {D : Nat → Prop} {ρ : Nat → Loc} {H : Hp} {w : World} (hR : Rel gl w0 D ρ H w) {tm : List V} (htm : ∀ v ∈ tm, v.In D ρ) {dn : Nat} (hdn : D dn) (st : LoopState) (pend : Option Code) (fn : FuncId) (ps : Array Tmp) (x y : Code) :
    Rel gl w0 (fun n => D n ∨ n = H.next) (upd ρ H.next ⟨w.heap.size, 0, 0⟩) (H.push (.loop st pend tm ps x y dn)) (w.alloc (.loop { state := st, pending := pend, fn := fn, tmps := (tm.map (V.val ρ)).toArray, params := ps, assign := x, body := y, defers := (ρ dn).blk })) := by
  have hni := not_next hR
  refine rel_push hR rfl ⟨by rw [upd_self]; exact hR.grown.size, ⟨fn, ?_⟩, fun v hv => (htm v hv).mono (upd_old hni), .inl hdn⟩
  rw [upd_self, heap_alloc_size, map_ext (fun n hn => (upd_old hni n hn).2) htm, (upd_old hni dn hdn).2]
theorem Hp.get_next (H : Hp) : H.get H.next = none := by unfold Hp.get; rw [if_neg (Nat.lt_irrefl _)]
/-- Entering a loop over a function. -/
theorem enter_sound {D : Nat → Prop} {ρ : Nat → Loc} {H : Hp} {w : World} {a : Act} {s : St} {rnd rb : Option Nat} (hR : Rel gl w0 D ρ H w) (hF : FrOk D ρ s a) (hrn : RndOk D ρ rnd rb) {dn : Nat} {mk : List Nat} {H1 : Hp} (h : dnOf H rnd = some (dn, mk, H1)) (fn : FuncId) (ps : Array Tmp) (x y : Code) :
    ∃ l mark w₁ D' ρ', (Instr.enterLoop fn a.tmps ps x y rb).run P w = .ok (l, mark) w₁ ∧ Nx D ρ H D' ρ' (H1.push (.loop .ready none s.tm ps x y dn)) ∧ Rel gl w0 D' ρ' (H1.push (.loop .ready none s.tm ps x y dn)) w₁ ∧
      D' H1.next ∧ (ρ' H1.next).blk = l ∧ FrOk D' ρ' ⟨s.tm, mk ++ s.marks⟩ { a with defers := mark ++ a.defers } := by
  unfold dnOf at h
  split at h
  · rename_i l0
    split at h
    · rename_i st pend tm' ps' x' y' dn' hg
      simp only [Option.some.injEq, Prod.mk.injEq] at h
      obtain ⟨rfl, rfl, rfl⟩ := h
      obtain ⟨hD, rfl⟩ := hrn
      obtain ⟨_, ⟨fn0, hl0⟩, _, hdn⟩ := hR.ob l0 _ hD hg
      have hR1 := push_loop hR hF.tm.in_ hdn .ready none fn ps x y
      have hn1 := nx_push hR (.loop .ready none s.tm ps x y dn') ⟨w.heap.size, 0, 0⟩
      refine ⟨w.heap.size, [], _, _, _, ?_, hn1, hR1, .inr rfl, by rw [upd_self], ?_⟩
      · simp only [Instr.enterLoop, Sem.run_bind, getLoop_run hl0, Result.andThen_ok, Sem.run_pure, r_newObj, hF.tm.eq]
      · have := hF.nx hn1
        exact ⟨⟨this.tm.eq, this.tm.in_⟩, by simpa using this.ds, by simpa using this.mks⟩
    · cases h
  · simp only [Option.some.injEq, Prod.mk.injEq] at h
    obtain ⟨rfl, rfl, rfl⟩ := h
    have hrb : rb = none := hrn
    subst hrb
    have hR0 : Rel gl w0 (fun n => D n ∨ n = H.next) (upd ρ H.next ⟨w.heap.size, 0, 0⟩) (H.push .defd) (w.alloc (.deferred (some []))) :=
      rel_push hR rfl ⟨by rw [upd_self]; exact hR.grown.size, by rw [upd_self]; exact heap_alloc_size _ _⟩
    have hn0 := nx_push hR .defd ⟨w.heap.size, 0, 0⟩
    have hF0 := hF.nx hn0
    have hR1 := push_loop hR0 hF0.tm.in_ (dn := H.next) (.inr rfl) .ready none fn ps x y
    have hn1 := nx_push hR0 (.loop .ready none s.tm ps x y H.next) ⟨(w.alloc (.deferred (some []))).heap.size, 0, 0⟩
    have hF1 := hF0.nx hn1
    refine ⟨(w.alloc (.deferred (some []))).heap.size, [{ target := .collected w.heap.size, args := #[] }], _, _, _, ?_, hn0.trans hn1, hR1, .inr rfl, by rw [upd_self], ?_⟩
    · simp only [Instr.enterLoop, Sem.run_bind, Result.andThen_ok, Sem.run_pure, r_newObj, hF0.tm.eq, upd_self]
    · refine ⟨⟨hF1.tm.eq, hF1.tm.in_⟩, ?_, ?_⟩
      · simp only [List.cons_append, List.nil_append, List.map_cons, hF1.ds]
        congr 3
        rw [hn1.loc H.next (.inr rfl), upd_self]
      · intro r hr
        rcases List.mem_cons.1 hr with rfl | hr
        · exact .inl (.inr rfl)
        · exact hF1.mks r hr
theorem endLoop_sound {D : Nat → Prop} {ρ : Nat → Loc} {H : Hp} {w : World} (hR : Rel gl w0 D ρ H w) {l : Nat} (hl : D l) {st : LoopState} {pend : Option Code} {tm : List V} {ps : Array Tmp} {x y : Code} {dn : Nat} (hg : H.get l = some (.loop st pend tm ps x y dn)) (hst : st ≠ .busy) :
    ∃ w', (Instr.endLoop (ρ l).blk).run P w = .ok pend w' ∧ Rel gl w0 D ρ (H.set l (.loop .exhausted pend tm ps x y dn)) w' := by
  obtain ⟨hw, ⟨fn, hh⟩, hi, hd⟩ := hR.ob l _ hl hg
  obtain ⟨w', s1, s2, s3⟩ := setObj_run (P := P) (w := w) (.loop { state := .exhausted, pending := pend, fn := fn, tmps := (tm.map (V.val ρ)).toArray, params := ps, assign := x, body := y, defers := (ρ dn).blk }) hh (by simp)
  refine ⟨w', ?_, hR.turn hl hg rfl s3 ⟨hw, ⟨fn, s2⟩, hi, hd⟩⟩
  simp only [Instr.endLoop, Sem.run_bind, getLoop_run hh, Result.andThen_ok]
  rw [if_neg (by simpa using hst)]
  simp only [Sem.run_bind, s1, Result.andThen_ok, Sem.run_pure]
theorem code_sound (hm : P.follows .mixedOrders = true) (hc : CallOk P gl w0 call) (hy : YldOk P gl w0 yld) (rnd : Option Nat) (k : Nat) : ∀ c : Code, CodeOk P gl w0 rnd (codeV P gl call yld rnd k c) c
  | .skip => by
    intro s H ex s' H' h D ρ w a rb hR hF hrn Q hQ
    simp only [codeV, Option.some.injEq, Prod.mk.injEq] at h
    obtain ⟨rfl, rfl, rfl⟩ := h
    exact wpIn_skip (hQ D ρ a w (Nx.refl _ _ _) hR hF)
  | .exit id => by
    intro s H ex s' H' h D ρ w a rb hR hF hrn Q hQ
    simp only [codeV, Option.some.injEq, Prod.mk.injEq] at h
    obtain ⟨rfl, rfl, rfl⟩ := h
    exact wpIn_exit (hQ D ρ a w (Nx.refl _ _ _) hR hF)
  | .ret => by
    intro s H ex s' H' h D ρ w a rb hR hF hrn Q hQ
    simp only [codeV, Option.some.injEq, Prod.mk.injEq] at h
    obtain ⟨rfl, rfl, rfl⟩ := h
    exact wpIn_ret (hQ D ρ a w (Nx.refl _ _ _) hR hF)
  | .region id ops false => by
    intro s H ex s' H' h D ρ w a rb hR hF hrn Q hQ
    simp only [codeV] at h
    split at h
    · rename_i tm H1 ho
      simp only [Option.some.injEq, Prod.mk.injEq] at h
      obtain ⟨rfl, rfl, rfl⟩ := h
      exact region_sound hc hy ho hR hF.tm fun D' ρ' a' w' n r t d => hQ D' ρ' a' w' n r ⟨t, by rw [d]; exact (hF.nx n).ds, (hF.nx n).mks⟩
    · cases h
  | .region id ops true => by
    intro s H ex s' H' h D ρ w a rb hR hF hrn Q hQ
    simp only [codeV] at h
    split at h
    · rename_i pl hp
      split at h
      · rename_i tm H1 ho
        simp only [Option.some.injEq, Prod.mk.injEq] at h
        obtain ⟨rfl, rfl, rfl⟩ := h
        exact region_draw_sound hm hc hy hp ho hR hF.tm fun D' ρ' a' w' n r t d => hQ D' ρ' a' w' n r ⟨t, by rw [d]; exact (hF.nx n).ds, (hF.nx n).mks⟩
      · cases h
    · cases h
  | .seq x y => by
    intro s H ex s' H' h D ρ w a rb hR hF hrn Q hQ
    have ihx := code_sound hm hc hy rnd k x
    have ihy := code_sound hm hc hy rnd k y
    simp only [codeV] at h
    refine wpIn_seq ?_
    split at h
    · rename_i s1 H1 h1
      refine ihx.go h1 hR hF hrn fun D1 ρ1 a1 w1 n1 r1 f1 => ?_
      exact ihy.go h r1 f1 (hrn.nx n1) fun D' ρ' a' w' n r f => hQ D' ρ' a' w' (n1.trans n) r f
    · rename_i hne
      refine ihx.go h hR hF hrn fun D1 ρ1 a1 w1 n1 r1 f1 => ?_
      have := hQ D1 ρ1 a1 w1 n1 r1 f1
      cases ex with
      | normal => exact absurd h (hne _ _)
      | exit id => exact this
      | ret => exact this
  | .cond x y z => by
    intro s H ex s' H' h D ρ w a rb hR hF hrn Q hQ
    have ihy := code_sound hm hc hy rnd k y
    have ihz := code_sound hm hc hy rnd k z
    simp only [codeV] at h
    split at h
    · rename_i hx
      exact wpIn_cond_true (hF.tm.opnd hR x _ hx).1 (ihy.go h hR hF hrn hQ)
    · rename_i hx
      exact wpIn_cond_false (hF.tm.opnd hR x _ hx).1 (ihz.go h hR hF hrn hQ)
    · cases h
  | .block id c => by
    intro s H ex s' H' h D ρ w a rb hR hF hrn Q hQ
    have ih := code_sound hm hc hy rnd k c
    simp only [codeV] at h
    refine wpIn_block ?_
    split at h
    · rename_i id' s1 H1 h1
      refine ih.go h1 hR hF hrn fun D1 ρ1 a1 w1 n1 r1 f1 => ?_
      simp only [Ex.exit', Exit.inBlock]
      split at h
      · rename_i e
        simp only [Option.some.injEq, Prod.mk.injEq] at h
        obtain ⟨rfl, rfl, rfl⟩ := h
        rw [if_pos e]
        exact hQ D1 ρ1 a1 w1 n1 r1 f1
      · rename_i e
        simp only [Option.some.injEq, Prod.mk.injEq] at h
        obtain ⟨rfl, rfl, rfl⟩ := h
        rw [if_neg e]
        exact hQ D1 ρ1 a1 w1 n1 r1 f1
    · rename_i hne
      refine ih.go h hR hF hrn fun D1 ρ1 a1 w1 n1 r1 f1 => ?_
      have := hQ D1 ρ1 a1 w1 n1 r1 f1
      cases ex with
      | exit id => exact absurd h (hne _ _ _)
      | normal => exact this
      | ret => exact this
  | .loop c => by
    intro s H ex s' H' h D ρ w a rb hR hF hrn Q hQ
    have ih := code_sound hm hc hy rnd k c
    simp only [codeV] at h
    intro b kk cs hb _ hr
    obtain ⟨e, a', w', q, r⟩ := loop_sound ih k h hR hF hrn hQ b kk cs hb
    exact ⟨e, a', w', q, .of_steps (.one (fenced_calm trivial hr rfl) stepR_loop) r⟩
  | .rangeFunc f ps x y => by
    intro s H ex s' H' h D ρ w a rb hR hF hrn Q hQ
    simp only [codeV] at h
    split at h
    · rename_i g u v hf
      split at h
      · cases h
      rename_i hbody
      split at h
      · rename_i dn mk H1 hdn
        split at h
        · rename_i rv H2 hcall
          split at h
          · rename_i st pend tm' ps' x' y' dn' hg2
            split at h
            · cases h
            · rename_i hst
              refine wpIn_rangeFunc fun fn _ => ?_
              obtain ⟨l, mark, w₁, D1, ρ1, e1, n1, r1, d1, b1, f1⟩ := enter_sound (P := P) hR hF hrn hdn fn ps x y
              obtain ⟨fe, fi⟩ := hF.tm.opnd hR f _ hf
              have hfi := n1.in fi
              rcases hc _ _ _ _ _ hcall D1 ρ1 w₁ r1 (by
                intro z hz
                rcases List.mem_append.1 hz with hz | hz
                · rcases List.mem_append.1 hz with hz | hz
                  · exact V.In.toL (v := u) hfi.1 z hz
                  · simp only [List.mem_singleton] at hz; subst hz; exact d1
                · exact V.In.toL (v := v) hfi.2 z hz) with ⟨c1, c2⟩ | ⟨hnb, _⟩
              case inr => exact absurd hnb hbody
              have hfe : a.eval f = .func (.func g) (u.toL.map (V.val ρ1)).toArray (v.toL.map (V.val ρ1)).toArray := by
                rw [fe, ← n1.val fi, V.val_fn, V.vals_eq, V.vals_eq]
              refine ⟨l, mark, w₁, { target := .fn (.func g) (v.toL.map (V.val ρ1)).toArray, args := (u.toL.map (V.val ρ1)).toArray ++ #[.func (.yield l) #[] #[]] }, w₁, g, ((u.toL ++ [V.yield H1.next] ++ v.toL).map (V.val ρ1)).toArray, w₁, e1, ?_, fun _ _ => trivial, ?_, by simp [Fr], ?_⟩
              · simp only [resolve, hfe, Deferred.ofValue, Sem.run_pure, List.map_toArray, List.map_cons, List.map_nil]
                rfl
              · simp only [invoke, c1]
                simp [V.val_yield, b1]
              · refine CallsIn.mono (F := Fr none) c2 ?_
                rintro e w₂ ⟨D2, ρ2, rfl, n2, r2, i2⟩
                have d2 := n2.sub _ d1
                obtain ⟨w₃, q1, q2⟩ := endLoop_sound (P := P) r2 d2 hg2 hst
                have hbl : (ρ2 H1.next).blk = l := by rw [n2.loc _ d1]; exact b1
                have n3 : Nx D ρ H D2 ρ2 (H2.set H1.next (.loop .exhausted pend tm' ps' x' y' dn')) := (n1.trans n2).trans (nx_same rfl d2 fun m hm => by rw [Hp.get_set (Hp.get_lt hg2), if_neg hm])
                have f2 := f1.nx n2
                refine ⟨pend, w₃, by rw [← hbl]; exact q1, ?_⟩
                split at h
                · simp only [Option.some.injEq, Prod.mk.injEq] at h
                  obtain ⟨rfl, rfl, rfl⟩ := h
                  exact hQ D2 ρ2 _ w₃ n3 q2 f2
                · simp only [Option.some.injEq, Prod.mk.injEq] at h
                  obtain ⟨rfl, rfl, rfl⟩ := h
                  exact wpIn_ret (hQ D2 ρ2 _ w₃ n3 q2 f2)
                · simp only [Option.some.injEq, Prod.mk.injEq] at h
                  obtain ⟨rfl, rfl, rfl⟩ := h
                  exact wpIn_exit (hQ D2 ρ2 _ w₃ n3 q2 f2)
                · cases h
          · cases h
        · cases h
      · cases h
    · cases h
  | .scope c => by intro s H ex s' H' h; simp [codeV] at h
  | .label l => by intro s H ex s' H' h; simp [codeV] at h
  | .goto l => by intro s H ex s' H' h; simp [codeV] at h
  | .refuse w => by intro s H ex s' H' h; simp [codeV] at h
end
end Go.Ev
