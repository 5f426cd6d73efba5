/- Functions and rounds: as the model does them; so does the evaluator tell what a call comes to. -/
import Derived.Test.YtmoddhfemejekaaEvT
namespace Go.Ev

section
variable {P : Program} {gl : Nat → Option Nat} {w0 : World}
theorem unmark_sound {fn : Func} {tmps : Array Value} {R : Ending → World → Prop} : ∀ {l : List Nat} {H H' : Hp} {D : Nat → Prop} {ρ : Nat → Loc} {w : World}, unmark l H = some H' → Rel gl w0 D ρ H w → (∀ r ∈ l, D r) →
    (∀ w', Nx D ρ H D ρ H' → Rel gl w0 D ρ H' w' → ∃ v, (results fn tmps).run P w' = .ok v w' ∧ R (.returned v) w') → LeavesInM (Fr none) 0 P fn tmps R (l.map fun r => { target := .collected (ρ r).blk, args := #[] }) .returning w
  | [], H, H', D, ρ, w, h, hR, _, hk => by
    simp only [unmark, Option.some.injEq] at h
    subst h
    exact hk w (Nx.refl _ _ _) hR
  | r :: l, H, H', D, ρ, w, h, hR, hD, hk => by
    unfold unmark at h
    split at h
    · rename_i hg
      have hr := hD r (by simp)
      obtain ⟨hw, hh⟩ := hR.ob r _ hr hg
      obtain ⟨w', s1, s2, s3⟩ := setObj_run (P := P) (w := w) (.deferred none) hh (by simp)
      have hR' := hR.turn hr hg rfl s3 (o' := .dead) trivial
      have hn := nx_same (ρ := ρ) (H := H) (H' := H.set r .dead) rfl hr (fun m hm => by rw [Hp.get_set (Hp.get_lt hg), if_neg hm])
      refine ⟨by simp, .inl ⟨(ρ r).blk, w', rfl, ?_, unmark_sound h hR' (fun x hx => hD x (by simp [hx])) fun w2 n r2 => hk w2 (hn.trans n) r2⟩⟩
      simp only [Instr.takeDeferred, Sem.run_bind]
      have : (getObj (ρ r).blk).run P w = .ok (.deferred (some [])) w := by simp [getObj, Sem.run, hh]
      simp only [this, Result.andThen_ok, Sem.run_bind, s1, Sem.run_pure]
    · cases h
def resM (tmps : Array Value) : ResultVar → Sem Value
  | .tmp t => pure (tmps.getD t undef)
  | .cell x t => do loadVar t (← asAddr (tmps.getD x undef))
theorem results_eq (fn : Func) (tmps : Array Value) : results fn tmps = (do let vs ← fn.results.mapM (resM tmps); pure (if h : vs.size = 1 then vs[0] else .tuple vs)) := by
  unfold results
  congr 1
theorem result_sound {D : Nat → Prop} {ρ : Nat → Loc} {H : Hp} {w : World} {a : Act} {tm : List V} (hR : Rel gl w0 D ρ H w) (hT : Tm D ρ tm a) : ∀ {l : List ResultVar} {vs : List V}, resultsV P H tm l = some vs →
    (∀ v ∈ vs, v.In D ρ) ∧ (l.mapM (resM a.tmps)).run P w = .ok (vs.map (V.val ρ)) w
  | [], vs, h => by simp only [resultsV, Option.some.injEq] at h; subst h; exact ⟨by simp, rfl⟩
  | r :: l, vs, h => by
    have get : ∀ t, a.tmps.getD t undef = (tm.getD t .undef).val ρ ∧ (tm.getD t .undef).In D ρ := fun t => by
      have := hT.opnd (gl := gl) hR (.tmp t) _ rfl
      exact this
    unfold resultsV at h
    split at h
    · rename_i v hv
      split at h
      · rename_i m hm
        simp only [Option.some.injEq] at h
        subst h
        obtain ⟨i1, i2⟩ := result_sound hR hT hm
        have key : v.In D ρ ∧ (resM a.tmps r).run P w = .ok (v.val ρ) w := by
          cases r with
          | tmp t =>
            simp only [resultV, Option.some.injEq] at hv
            subst hv
            exact ⟨(get t).2, by rw [← (get t).1]; rfl⟩
          | cell x t =>
            unfold resultV at hv
            simp only at hv
            split at hv
            · rename_i n off hx
              have hg := get x
              rw [hx] at hg
              obtain ⟨q1, q2⟩ := loadVar_sound (P := P) hR hg.2 hv
              refine ⟨q1, ?_⟩
              simp only [resM, hg.1, V.val_ptr, asAddr, Sem.run_bind, Sem.run_pure, Result.andThen_ok, q2]
            · cases hv
        refine ⟨fun u hu => ?_, ?_⟩
        · rcases List.mem_cons.1 hu with rfl | hu
          · exact key.1
          · exact i1 u hu
        · rw [List.mapM_cons]
          simp only [Sem.run_bind, key.2, Result.andThen_ok, i2, Sem.run_pure, List.map_cons]
      · cases h
    · cases h
theorem results_sound {D : Nat → Prop} {ρ : Nat → Loc} {H : Hp} {w : World} {a : Act} {tm : List V} (hR : Rel gl w0 D ρ H w) (hT : Tm D ρ tm a) {fn : Func} {vs : List V} (h : resultsV P H tm fn.results.toList = some vs) :
    (packV vs).In D ρ ∧ (results fn a.tmps).run P w = .ok ((packV vs).val ρ) w := by
  obtain ⟨i1, i2⟩ := result_sound hR hT h
  refine ⟨?_, ?_⟩
  · unfold packV
    split
    · exact i1 _ (by simp)
    · exact V.In.ofL i1
  · rw [results_eq]
    simp only [Array.mapM_eq_mapM_toList, Sem.run_bind, Sem.run_map]
    rw [i2]
    simp only [Result.andThen_ok, Sem.run_pure]
    congr 1
    unfold packV
    split
    · rename_i hs
      split
      · rename_i v
        simp
      · rename_i hne
        exfalso
        simp only [List.size_toArray, List.length_map] at hs
        match vs, hs with
        | [v], _ => exact hne v rfl
    · rename_i hs
      split
      · rename_i v
        simp at hs
      · rw [V.val_tup, V.vals_ofL]
theorem findByte_eq (c : UInt8) : ∀ (l : List UInt8) (i : Nat), findByte c l i = if Lib.indexByte l c = -1 then -1 else (i : Int) + Lib.indexByte l c
  | [], i => rfl
  | b :: l, i => by
    unfold findByte Lib.indexByte
    have hge := Lib.indexByte_ge l c
    by_cases hb : (b == c) = true
    · rw [if_pos hb, if_pos hb]; simp
    · rw [if_neg hb, if_neg hb, findByte_eq c l]
      by_cases he : Lib.indexByte l c = -1
      · simp [he]
      · have hb2 : (Lib.indexByte l c == -1) = false := by simpa using he
        rw [if_neg he, hb2]
        simp only [Bool.false_eq_true, if_false]
        rw [if_neg (by omega)]
        omega
theorem ext_sound {fn : Func} {f : FuncId} {args : List V} {v : V} (h : extV fn.name args = some v) (ho : fn.origin = "") (hb : fn.body = none) (hf : P.funcs[f]? = some fn) (hn : ¬ fn.name = "runtime.NumGoroutine") (D : Nat → Prop) (ρ : Nat → Loc) :
    v.In D ρ ∧ ∀ w, (callFunc f (args.map (V.val ρ)).toArray).run P w = .ok (.value (v.val ρ)) w := by
  unfold extV at h
  split at h
  · rename_i hname
    split at h
    · rename_i s c
      simp only [Option.some.injEq] at h
      subst h
      refine ⟨trivial, fun w => ?_⟩
      have h1 : Extern.findNext fn = none := by
        unfold Extern.findNext
        rw [hname, ho]
        have a1 : Extern.allNextRows.lookup "internal/bytealg.IndexByteString" = none := by decide +kernel
        have a2 : Extern.allNextRows.lookup "" = none := by decide +kernel
        simp only [a1, a2]
        rfl
      have h2 : Extern.find fn = some Extern.BytealgIndexByte.indexByte := by
        unfold Extern.find
        rw [hname]
        kernel_rfl
      have hi := Lib.run_indexByteString (P := P) ⟨s.toArray⟩ c w
      have hq : findByte c.toNat.toUInt8 s 0 = Lib.indexByte s c.toNat.toUInt8 := by
        rw [findByte_eq]
        split
        · rename_i e; rw [e]
        · simp
      simp only [callFunc, Sem.run_bind, program, Sem.run, Result.andThen_ok, hf]
      rw [if_neg (by simpa using hn), if_pos (by simp [hb])]
      simp only [mark, Sem.run_bind, Sem.run, Result.andThen_ok, h1, h2, List.map_cons, List.map_nil, V.val_str, V.val_int, hi, Sem.run_pure, hq]
    · cases h
  · cases h
theorem fn_sound (hm : P.follows .mixedOrders = true) {n : Nat} {call : Call} {yld : Nat → List V → Hp → Option (V × Hp)} (hc : CallOk P gl w0 call) (hy : YldOk P gl w0 yld) : CallOk P gl w0 (fnV P gl call yld n) := by
  intro f args H v H' h D ρ w hR ha
  simp only [fnV] at h
  split at h
  · rename_i fn hf
    split at h
    · cases h
    · rename_i hname
      split at h
      · rename_i c hb
        split at h
        · rename_i ex s H1 hcode
          have hrun : ∀ A w, (callFunc f A).run P w = .ok (.enter f A) w := fun A w => by
            simp only [callFunc, Sem.run_bind, program, Sem.run, Result.andThen_ok, hf]
            rw [if_neg (by simpa using hname)]
            simp [hb]
          refine .inl ⟨hrun, ?_⟩
          refine callsIn_of_wp_marks hf hb trivial ?_ rfl
          have hT0 : Tm D ρ (args ++ List.replicate (fn.ntmps - args.length) .undef) { tmps := (args.map (V.val ρ)).toArray ++ Array.replicate (fn.ntmps - (args.map (V.val ρ)).toArray.size) undef, defers := [] } := by
            refine ⟨?_, fun u hu => ?_⟩
            · apply Array.ext'
              simp [V.val_undef]
            · rcases List.mem_append.1 hu with hu | hu
              · exact ha u hu
              · rw [(List.mem_replicate.1 hu).2]; exact trivial
          refine (code_sound hm hc hy none n c).go hcode hR ⟨hT0, rfl, by simp⟩ (rb := none) rfl fun D1 ρ1 a1 w1 n1 r1 f1 => ?_
          have key : (∀ id, ex ≠ .exit id) → unmark s.marks H1 ≠ none → LeavesInM (Fr none) 0 P fn a1.tmps (Ends gl w0 D ρ H v H') a1.defers .returning w1 := by
            intro hne _
            have h2 : ∃ H2 vs, unmark s.marks H1 = some H2 ∧ resultsV P H2 s.tm fn.results.toList = some vs ∧ packV vs = v ∧ H2 = H' := by
              cases ex with
              | exit id => exact absurd rfl (hne id)
              | normal =>
                simp only at h
                split at h
                · rename_i H2 hu
                  split at h
                  · rename_i vs hvs
                    simp only [Option.some.injEq, Prod.mk.injEq] at h
                    exact ⟨H2, vs, hu, hvs, h.1, h.2⟩
                  · cases h
                · cases h
              | ret =>
                simp only at h
                split at h
                · rename_i H2 hu
                  split at h
                  · rename_i vs hvs
                    simp only [Option.some.injEq, Prod.mk.injEq] at h
                    exact ⟨H2, vs, hu, hvs, h.1, h.2⟩
                  · cases h
                · cases h
            obtain ⟨H2, vs, hu, hvs, rfl, rfl⟩ := h2
            rw [f1.ds]
            refine unmark_sound hu r1 f1.mks fun w2 n2 r2 => ?_
            obtain ⟨q1, q2⟩ := results_sound (P := P) r2 f1.tm hvs
            exact ⟨_, q2, D1, ρ1, rfl, n1.trans n2, r2, q1⟩
          cases ex with
          | exit id => cases h
          | normal =>
            refine key (by simp) fun e => ?_
            simp only [e] at h
            cases h
          | ret =>
            refine key (by simp) fun e => ?_
            simp only [e] at h
            cases h
        · cases h
      · rename_i hb
        split at h
        · rename_i ho
          split at h
          · rename_i u hx
            simp only [Option.some.injEq, Prod.mk.injEq] at h
            obtain ⟨rfl, rfl⟩ := h
            obtain ⟨x1, x2⟩ := ext_sound hx ho hb hf (by simpa using hname) D ρ
            exact .inr ⟨by simp [hf, hb], rfl, x1, x2 w⟩
          · cases h
        · cases h
  · cases h
theorem putAll_sound (ρ : Nat → Loc) : ∀ (l : List (Tmp × V)) (tm : List V), ((putAllV tm l).map (V.val ρ)).toArray = (l.map fun p => (p.1, p.2.val ρ)).foldl (fun tmps (p : Tmp × Value) => tmps.setIfInBounds p.1 p.2) (tm.map (V.val ρ)).toArray
  | [], tm => rfl
  | (t, v) :: l, tm => by
    rw [putAllV, putAll_sound ρ l]
    simp only [List.map_cons, List.foldl_cons]
    congr 1
    apply Array.ext'
    simp [List.map_set]
theorem putAll_in {D : Nat → Prop} {ρ : Nat → Loc} : ∀ {l : List (Tmp × V)} {tm : List V}, (∀ v ∈ tm, v.In D ρ) → (∀ p ∈ l, p.2.In D ρ) → ∀ v ∈ putAllV tm l, v.In D ρ
  | [], tm, h, _ => h
  | (t, v) :: l, tm, h, hl => by
    rw [putAllV]
    refine putAll_in (fun u hu => ?_) (fun p hp => hl p (by simp [hp]))
    rcases List.mem_or_eq_of_mem_set hu with hu | rfl
    · exact h u hu
    · exact hl (t, u) (by simp)
theorem setLoop {D : Nat → Prop} {ρ : Nat → Loc} {H : Hp} {w : World} (hR : Rel gl w0 D ρ H w) {l : Nat} (hl : D l) {st : LoopState} {pend : Option Code} {tm : List V} {ps : Array Tmp} {x y : Code} {dn : Nat} (hg : H.get l = some (.loop st pend tm ps x y dn)) (st' : LoopState) (pend' : Option Code) :
    ∃ (r : Loop) (w' : World), (Instr.getLoop (ρ l).blk).run P w = .ok r w ∧ r.state = st ∧ r.pending = pend ∧ (setObj (ρ l).blk (.loop { r with state := st', pending := pend' })).run P w = .ok () w' ∧ Rel gl w0 D ρ (H.set l (.loop st' pend' tm ps x y dn)) w' := by
  obtain ⟨hw, ⟨fn, hh⟩, hi, hd⟩ := hR.ob l _ hl hg
  obtain ⟨w', s1, s2, s3⟩ := setObj_run (P := P) (w := w) (.loop { state := st', pending := pend', fn := fn, tmps := (tm.map (V.val ρ)).toArray, params := ps, assign := x, body := y, defers := (ρ dn).blk }) hh (by simp)
  exact ⟨_, w', getLoop_run hh, rfl, rfl, s1, hR.turn hl hg rfl s3 ⟨hw, ⟨fn, s2⟩, hi, hd⟩⟩
theorem round_sound (hm : P.follows .mixedOrders = true) {n : Nat} {call : Call} {yld : Nat → List V → Hp → Option (V × Hp)} (hc : CallOk P gl w0 call) (hy : YldOk P gl w0 yld) : YldOk P gl w0 (roundV P gl call yld n) := by
  intro l args H v H' h D ρ w hR hl ha
  simp only [roundV] at h
  split at h
  · rename_i st pend tm ps x y dn hg
    split at h
    · rename_i hlen
      obtain ⟨hw, ⟨fn, hh⟩, hi, hd⟩ := hR.ob l _ hl hg
      refine ⟨fn, ((putAllV tm (ps.toList.zip args)).map (V.val ρ)).toArray, x, y, ?_, ?_⟩
      · simp only [Instr.yield, Sem.run_bind, getLoop_run hh, Result.andThen_ok]
        rw [if_neg (by simp [hlen])]
        simp only [Sem.run_pure]
        congr 2
        rw [putAll_sound]
        rw [← Array.foldl_toList]
        congr 1
        simp only [Array.toList_zip, List.zip_map_right]
        rfl
      · refine roundIn_of_wpIn trivial ?_
        split at h
        · rename_i s H1 hx
          split at h
          · rename_i pend1 tm1 ps1 x1 y1 dn1 hg1
            split at h
            · rename_i ex s2 H2 hy2
              split at h
              · rename_i hmk
                split at h
                · rename_i st2 pend2 tm2 ps2 x2 y2 dn2 hg2
                  have hF0 : FrOk D ρ ⟨putAllV tm (ps.toList.zip args), []⟩ { tmps := ((putAllV tm (ps.toList.zip args)).map (V.val ρ)).toArray, defers := [] } :=
                    ⟨⟨rfl, putAll_in hi fun p hp => ha p.2 (List.of_mem_zip hp).2⟩, rfl, by simp⟩
                  refine (code_sound hm hc hy (some l) n x).go hx hR hF0 (rb := some (ρ l).blk) ⟨hl, rfl⟩ fun D1 ρ1 a1 w1 n1 r1 f1 => ?_
                  have l1 := n1.sub l hl
                  obtain ⟨r, w2, g1, g2, g3, g4, g5⟩ := setLoop (P := P) r1 l1 hg1 .busy pend1
                  refine ⟨w2, ?_, ?_⟩
                  · rw [← n1.loc l hl]
                    have hrr : ({ r with state := .busy } : Loop) = { r with state := .busy, pending := pend1 } := by rw [← g3]
                    simp only [Instr.beginRound, Sem.run_bind, g1, Result.andThen_ok, hrr, g4, g2, Sem.run_pure]
                  · have nset : Nx D1 ρ1 H1 D1 ρ1 (H1.set l (.loop .busy pend1 tm1 ps1 x1 y1 dn1)) := nx_same rfl l1 fun m hm => by rw [Hp.get_set (Hp.get_lt hg1), if_neg hm]
                    refine (code_sound hm hc hy (some l) n y).go hy2 g5 f1 (rb := some (ρ l).blk) ⟨l1, by rw [n1.loc l hl]⟩ fun D3 ρ3 a3 w3 n3 r3 f3 => ?_
                    have l3 := n3.sub l l1
                    have hbl : (ρ3 l).blk = (ρ l).blk := by rw [n3.loc l l1, n1.loc l hl]
                    have fin : ∀ (st' : LoopState) (jump : Option Code), st' = (if jump.isNone then .ready else .done) → ∃ v w', (Instr.endRound (ρ l).blk jump).run P w3 = .ok v w' ∧ v = .bool jump.isNone ∧ Rel gl w0 D3 ρ3 (H2.set l (.loop st' jump tm2 ps2 x2 y2 dn2)) w' := by
                      intro st' jump hst'
                      subst hst'
                      obtain ⟨r', w4, k1, k2, k3, k4, k5⟩ := setLoop (P := P) r3 l3 hg2 (if jump.isNone then .ready else .done) jump
                      rw [hbl] at k1 k4
                      exact ⟨_, w4, by simp only [Instr.endRound, Sem.run_bind, k1, Result.andThen_ok, k4, Sem.run_pure], rfl, k5⟩
                    have nall : ∀ st' jump, Nx D ρ H D3 ρ3 (H2.set l (.loop st' jump tm2 ps2 x2 y2 dn2)) := fun st' jump => ((n1.trans nset).trans n3).trans (nx_same rfl l3 fun m hm => by rw [Hp.get_set (Hp.get_lt hg2), if_neg hm])
                    cases ex with
                    | normal =>
                      simp only [Option.some.injEq, Prod.mk.injEq] at h
                      obtain ⟨rfl, rfl⟩ := h
                      obtain ⟨v, w', e1, e2, e3⟩ := fin .ready none rfl
                      exact ⟨v, w', e1, D3, ρ3, by rw [e2]; rfl, nall _ _, e3, trivial⟩
                    | ret =>
                      simp only [Option.some.injEq, Prod.mk.injEq] at h
                      obtain ⟨rfl, rfl⟩ := h
                      obtain ⟨v, w', e1, e2, e3⟩ := fin .done (some .ret) rfl
                      exact ⟨v, w', e1, D3, ρ3, by rw [e2]; rfl, nall _ _, e3, trivial⟩
                    | exit id =>
                      simp only [Option.some.injEq, Prod.mk.injEq] at h
                      obtain ⟨rfl, rfl⟩ := h
                      obtain ⟨v, w', e1, e2, e3⟩ := fin .done (some (.exit id)) rfl
                      exact ⟨v, w', e1, D3, ρ3, by rw [e2]; rfl, nall _ _, e3, trivial⟩
                · cases h
              · cases h
            · cases h
          · cases h
        · cases h
    · cases h
  · cases h
theorem go_sound (hm : P.follows .mixedOrders = true) : ∀ n, CallOk P gl w0 (fun g a H => evGo P gl n (false, g) a H) ∧ YldOk P gl w0 (fun l a H => evGo P gl n (true, l) a H)
  | 0 => ⟨fun f args H v H' h => by simp [evGo] at h, fun l args H v H' h => by simp [evGo] at h⟩
  | n + 1 => by
    obtain ⟨a, b⟩ := go_sound hm n
    exact ⟨fn_sound hm a b, round_sound hm a b⟩
/-- What the evaluator yields a call comes to. -/
theorem ev_calls (hm : P.follows .mixedOrders = true) {n : Nat} {f : FuncId} (hbody : ((P.funcs[f]?).bind (·.body)).isNone = false) {args : List V} {H : Hp} {v : V} {H' : Hp} (h : evFn P gl n f args H = some (v, H')) {D : Nat → Prop} {ρ : Nat → Loc} {w : World} (hR : Rel gl w0 D ρ H w) (ha : ∀ a ∈ args, a.In D ρ) :
    Calls P f (args.map (V.val ρ)).toArray w fun e w' => ∃ D' ρ', e = .returned (v.val ρ') ∧ Nx D ρ H D' ρ' H' ∧ Rel gl w0 D' ρ' H' w' ∧ v.In D' ρ' := by
  rcases (go_sound hm n).1 f args H v H' h D ρ w hR ha with ⟨_, h2⟩ | ⟨h2, _⟩
  · exact callsIn_wide.1 h2
  · rw [hbody] at h2; cases h2
end
/-- No name. -/
theorem Rel.start (w : World) : Rel (fun _ => none) w (fun _ => False) (fun _ => ⟨0, 0, 0⟩) Hp.empty w :=
  ⟨World.grownBy.refl _ _, fun _ h => h.elim, fun _ _ h => h.elim, fun _ _ _ _ h => h.elim, fun _ _ h => by cases h⟩
/-- A call without memory: of numbers, texts and nothings. -/
theorem ev_plain {P : Program} (hm : P.follows .mixedOrders = true) {n : Nat} {f : FuncId} (hbody : ((P.funcs[f]?).bind (·.body)).isNone = false) {args : List V} {v : V} {H' : Hp} (h : evFn P (fun _ => none) n f args Hp.empty = some (v, H')) (ha : ∀ a ∈ args, a.In (fun _ => False) (fun _ => ⟨0, 0, 0⟩)) (w : World) :
    Calls P f (args.map (V.val fun _ => ⟨0, 0, 0⟩)).toArray w fun e w' => ∃ ρ', e = .returned (v.val ρ') ∧ w.grownBy w' none :=
  (ev_calls hm hbody h (Rel.start w) ha).mono fun _ _ ⟨_, ρ', h1, _, h3, _⟩ => ⟨ρ', h1, h3.grown⟩
end Go.Ev
