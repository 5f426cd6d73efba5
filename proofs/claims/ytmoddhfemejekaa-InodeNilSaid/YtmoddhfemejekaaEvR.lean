/- A region that draws its order: whatever the order, what the plan comes to (3). -/
import Derived.Test.YtmoddhfemejekaaEvQ
namespace Go.Ev

section
variable {P : Program} {gl : Nat → Option Nat} {w0 w : World} {ops : Array Oper} {D0 : Nat → Prop} {ρ0 : Nat → Loc} {H0 : Hp} {E : List Pend} {le : Array Bool} {tm : List V} {H : Hp} {rd : List Read} {lc : Array Bool} {a : Act} {D : Nat → Prop} {ρ : Nat → Loc} {call : Call} {yld : Nat → List V → Hp → Option (V × Hp)} {rb : Option Nat}
theorem no_defer_pure {tm : List V} {o : Op} {v : V} (h : pureV P gl tm o = some v) : ∀ c, o ≠ .defer c := by
  rintro c rfl; simp [pureV] at h
theorem no_defer_read {tm : List V} {o : Op} {v : V} (h : readV P gl tm H o = some v) : ∀ c, o ≠ .defer c := by
  rintro c rfl; simp [readV] at h
theorem no_defer_alloc {tm : List V} {o : Op} {v : Ob × (Nat → V)} (h : allocV P gl tm o = some v) : ∀ c, o ≠ .defer c := by
  rintro c rfl; simp [allocV] at h
theorem Inv.exec (hI : Inv P gl w0 ops D0 ρ0 H0 E le tm H rd lc a w D ρ) {p : Pend} (hp : p ∈ E) (hr : p.i ∈ Region.ready .any ops lc) {K : Act → World → Prop} {Q : Exit → Act → World → Prop}
    (hK : ∀ D' ρ' a' w', Inv P gl w0 ops D0 ρ0 H0 (E.filter fun q => q.i != p.i) le tm H rd (lc.setIfInBounds p.i true) a' w' D' ρ' → a'.defers = a.defers → K a' w') : wpOpIn (Fr rb) 0 P ops Q p.i K a w := by
  have hlook := hI.looks hp hr
  have hsz : a.tmps.size = p.tm.length := by rw [hI.tms, hI.len p hp]
  have hw := wanted_of (ops := ops) (o := p.o) hsz hlook
  have hop : Opnds gl p.tm ρ D a.eval p.o.op.operands := opnds_of hI.rel hsz fun t ht => hlook t (mem_looks ht)
  have hsame : ∀ n, D n → D n ∧ ρ n = ρ n := fun n h => ⟨h, rfl⟩
  have halnone : p.al = none → ∀ n, D n ↔ D n ∨ ∃ ob, p.al = some (n, ob) := fun e n => ⟨.inl, fun h => h.elim id fun ⟨ob, h⟩ => by rw [e] at h; cases h⟩
  unfold wpOpIn
  rw [(hI.mem p hp).1]
  simp only [hw]
  rcases hI.sem p hp with ⟨h1, h2, h3⟩ | ⟨h1, h2, h3⟩ | ⟨h1, h2, h3, h4, _⟩ | ⟨h1, mk, n, ob, h3, h4, h5⟩
  · rw [if_neg (by simp [h1])]
    refine ⟨fun _ _ => trivial, ?_⟩
    have := hI.drop hp hr hI.rel hsame (halnone h3) (by rw [h2]; trivial)
    rw [h2] at this
    exact hK _ _ _ _ this (put_defers _ _ _)
  · rw [if_pos h1]
    obtain ⟨p1, p2⟩ := pure_sound h3 hop
    exact value_in rfl (no_defer_pure h3) (p2 w) (hK _ _ _ _ (hI.drop hp hr hI.rel hsame (halnone h2) p1) (put_defers _ _ _))
  · rw [if_pos h1]
    obtain ⟨p1, p2⟩ := read_sound hI.rel h3 hop
    exact value_in rfl (no_defer_read h3) p2 (hK _ _ _ _ (hI.drop hp hr hI.rel hsame (halnone h2) p1) (put_defers _ _ _))
  · rw [if_pos h1]
    obtain ⟨o1, o2, o3⟩ := hI.off p hp n ob h4
    obtain ⟨cap, w', q1, q0, q2, q3⟩ := alloc_sound (P := P) (w0 := w0) h3 hop n o1 w hI.rel.grown.size
    have hR' := hI.rel.add o1 (Hp.get_lt o2) (Nat.le_refl _) (fun _ _ => rfl) o2 q0 (hI.rel.far (Nat.le_refl _)) q2
    have := hI.drop hp hr hR' (upd_old o1) (fun m => by
      constructor
      · rintro (h | rfl)
        · exact .inl h
        · exact .inr ⟨ob, h4⟩
      · rintro (h | ⟨ob', h⟩)
        · exact .inl h
        · rw [h4] at h; cases h; exact .inr rfl) (by rw [h5]; exact q3)
    rw [h5] at this
    exact value_in rfl (no_defer_alloc h3) q1 (hK _ _ _ _ this (put_defers _ _ _))
theorem Rel.ghost (hR : Rel gl w0 D ρ H w) {H' : Hp} (hn : H.next ≤ H'.next) (h : ∀ k, D k → H'.get k = H.get k) : Rel gl w0 D ρ H' w :=
  ⟨hR.grown, fun n hd => Nat.lt_of_lt_of_le (hR.old n hd) hn, fun n o hd ho => hR.ob n o hd (by rw [← h n hd]; exact ho), fun n m o p hn hm hne ho hp => hR.inj n m o p hn hm hne (by rw [← h n hn]; exact ho) (by rw [← h m hm]; exact hp), hR.gl⟩
theorem Sem1.mono {H H' : Hp} {rd rd' : List Read} {p : Pend} (h : Sem1 P gl ops H rd p) (hH : ∀ n o, H.get n = some o → H'.get n = some o) (hr : ∀ r ∈ rd, r ∈ rd') : Sem1 P gl ops H' rd' p := by
  rcases h with h | h | ⟨h1, h2, h3, h4, h5⟩ | h
  · exact .inl h
  · exact .inr (.inl h)
  · exact .inr (.inr (.inl ⟨h1, h2, readV_mono hH h3, hr _ h4, h5⟩))
  · exact .inr (.inr (.inr h))
theorem floats_spec {s : Nat} {o : Oper} (ho : ops[s]? = some o) (h : floats ops le s = true) : isEff o.op = false ∧ loneDst ops s o = true ∧ Region.free .any ops le s = true := by
  unfold floats at h
  rw [ho] at h
  simp only [Bool.and_eq_true, Bool.not_eq_true'] at h
  exact ⟨h.1.1, h.2, h.1.2⟩
theorem free_dir {s j : Nat} {o oj : Oper} (ho : ops[s]? = some o) (h : Region.free .any ops le s = true) (hj : ops[j]? = some oj) (hne : j ≠ s) (hs : le.size = ops.size) (hun : le.getD j false = false) : Dir ops s j ∨ o.apart ops oj = true := by
  by_cases hd : Dir ops s j
  · exact .inl hd
  · refine .inr (Region.free_spec ho h j oj hj hne ?_ fun e he hb hon => hd ⟨oj, hj, e, he, hb, hon⟩)
    have hl : j < ops.size := (Array.getElem?_eq_some_iff.1 hj).1
    rw [Array.getD_eq_getD_getElem?] at hun ⊢
    rw [Array.getElem?_eq_getElem (by omega)] at hun ⊢
    exact hun
/-- The plan goes ahead by one that turns no memory. -/
theorem Inv.add (hI : Inv P gl w0 ops D0 ρ0 H0 E le tm H rd lc a w D ρ) {s : Nat} {o : Oper} (ho : ops[s]? = some o) (hs : s ∈ Region.ready .any ops le) (hfl : floats ops le s = true) {v : V} {al : Option (Nat × Ob)} {H' : Hp} {rd' : List Read}
    (hH : (H' = H ∧ al = none) ∨ ∃ ob, al = some (H.next, ob) ∧ H' = H.push ob) (hrd : ∀ r ∈ rd, r ∈ rd') (hsem : Sem1 P gl ops H' rd' ⟨s, o, tm, v, al⟩) :
    Inv P gl w0 ops D0 ρ0 H0 (E ++ [⟨s, o, tm, v, al⟩]) (le.setIfInBounds s true) (putV tm o.dst v) H' rd' lc a w D ρ := by
  have hsr := (ready_iff hI.sze).1 hs
  obtain ⟨f1, f2, f3⟩ := floats_spec ho hfl
  have hset : ∀ j, (le.setIfInBounds s true).getD j false = true ↔ j = s ∨ le.getD j false = true := fun j => set_getD (by rw [hI.sze]; exact hsr.1)
  have hne : ∀ p ∈ E, p.i ≠ s := fun p hp e => by
    have := (hI.mem p hp).2
    rw [e, hsr.2.1] at this
    cases this
  have mem2 : ∀ q, q ∈ E ++ [⟨s, o, tm, v, al⟩] ↔ q ∈ E ∨ q = ⟨s, o, tm, v, al⟩ := fun q => by simp
  have hnext : H.next ≤ H'.next := by
    rcases hH with ⟨rfl, _⟩ | ⟨ob, _, rfl⟩
    · exact Nat.le_refl _
    · rw [Hp.next_push]; omega
  have hget : ∀ n, n < H.next → H'.get n = H.get n := fun n hn => by
    rcases hH with ⟨rfl, _⟩ | ⟨ob, _, rfl⟩
    · rfl
    · rw [Hp.get_push, if_neg (by omega)]
  have hmono : ∀ n o, H.get n = some o → H'.get n = some o := fun n o h => by rw [hget n (Hp.get_lt h)]; exact h
  have d0lt : ∀ n, D0 n → n < H.next := fun n hn => by
    rcases (hI.dom n).2 (.inl hn) with h | ⟨p, hp, ob, h⟩
    · exact hI.rel.old n h
    · exact Hp.get_lt (hI.off p hp n ob h).2.1
  have nodir : ∀ p ∈ E, ¬ Dir ops s p.i := fun p hp hd => by
    have := hI.cle p.i (hI.mem p hp).2 s hd
    rw [hsr.2.1] at this
    cases this
  have frE : ∀ p ∈ E, Dir ops p.i s ∨ p.o.apart ops o = true := fun p hp => hI.free p hp s o ho (fun e => hne p hp e.symm) hsr.2.1
  have unl : ∀ j, (le.setIfInBounds s true).getD j false = false → le.getD j false = false ∧ j ≠ s := fun j hj => by
    constructor
    · cases h : le.getD j false with
      | false => rfl
      | true => rw [(hset j).2 (.inr h)] at hj; cases hj
    · rintro rfl
      rw [(hset j).2 (.inl rfl)] at hj; cases hj
  have alnew : ∀ n ob, al = some (n, ob) → n = H.next ∧ H'.next = H.next + 1 ∧ H'.get n = some ob := by
    intro n ob h
    rcases hH with ⟨_, rfl⟩ | ⟨ob', rfl, rfl⟩
    · cases h
    · cases h
      exact ⟨rfl, rfl, by rw [Hp.get_push, if_pos rfl]⟩
  refine ⟨by simp [hI.sze], hI.szc, fun j => ?_, fun j hj i hi => ?_, hI.clc, hI.rel.ghost hnext (fun k hk => hget k (hI.rel.old k hk)), hI.loc, fun n => ?_, fun q hq n ob hal' => ?_, fun q hq r hr n ob ob' h1 h2 => ?_, fun n hn hd => by rw [hget n (by have := hI.nxt; omega)]; exact hI.rest n hn hd, Nat.le_trans hI.nxt hnext, by rw [putV_length]; exact hI.tms, ?_, fun q hq => ?_, fun q hq t hqt hlt => ?_, fun q hq => ?_, fun q hq => ?_, ?_, ?_, ?_, ?_, ?_, ?_, ?_, ?_, ?_⟩
  · rw [hset, hI.lcs]
    constructor
    · rintro ⟨h1, h2⟩
      refine ⟨.inr h1, fun q hq => ?_⟩
      rcases (mem2 q).1 hq with hq | rfl
      · exact h2 q hq
      · rintro rfl
        rw [hsr.2.1] at h1; cases h1
    · rintro ⟨h1, h2⟩
      have hjs : j ≠ s := fun e => h2 _ ((mem2 _).2 (.inr rfl)) e.symm
      exact ⟨h1.resolve_left hjs, fun q hq => h2 q ((mem2 q).2 (.inl hq))⟩
  · rw [hset] at hj ⊢
    rcases hj with rfl | hj
    · exact .inr (hsr.2.2 i hi)
    · exact .inr (hI.cle j hj i hi)
  · constructor
    · rintro (h | ⟨q, hq, ob, h⟩)
      · rcases (hI.dom n).1 (.inl h) with h | ⟨h1, h2⟩
        · exact .inl h
        · exact .inr ⟨h1, by omega⟩
      · rcases (mem2 q).1 hq with hq | rfl
        · rcases (hI.dom n).1 (.inr ⟨q, hq, ob, h⟩) with h | ⟨h1, h2⟩
          · exact .inl h
          · exact .inr ⟨h1, by omega⟩
        · obtain ⟨e1, e2, _⟩ := alnew n ob h
          have := hI.nxt
          exact .inr ⟨by omega, by omega⟩
    · rintro h
      have old : (D0 n ∨ H0.next ≤ n ∧ n < H.next) → (D n ∨ ∃ p, p ∈ E ++ [⟨s, o, tm, v, al⟩] ∧ ∃ ob, p.al = some (n, ob)) := fun h => by
        rcases (hI.dom n).2 h with h | ⟨p, hp, ob, h⟩
        · exact .inl h
        · exact .inr ⟨p, (mem2 p).2 (.inl hp), ob, h⟩
      rcases h with h | ⟨h1, h2⟩
      · exact old (.inl h)
      · by_cases e : n < H.next
        · exact old (.inr ⟨h1, e⟩)
        · rcases hH with ⟨rfl, _⟩ | ⟨ob, rfl, rfl⟩
          · exact absurd h2 e
          · rw [Hp.next_push] at h2
            have : n = H.next := by omega
            subst this
            exact .inr ⟨_, (mem2 _).2 (.inr rfl), ob, rfl⟩
  · rcases (mem2 q).1 hq with hq | rfl
    · obtain ⟨h1, h2, h3⟩ := hI.off q hq n ob hal'
      exact ⟨h1, hmono n ob h2, h3⟩
    · obtain ⟨rfl, _, e3⟩ := alnew n ob hal'
      exact ⟨not_next hI.rel, e3, fun h => Nat.lt_irrefl _ (d0lt _ h)⟩
  · rcases (mem2 q).1 hq with hq | rfl
    · rcases (mem2 r).1 hr with hr | rfl
      · exact hI.uni q hq r hr n ob ob' h1 h2
      · obtain ⟨rfl, _, _⟩ := alnew n ob' h2
        exact absurd (Hp.get_lt (hI.off q hq _ ob h1).2.1) (Nat.lt_irrefl _)
    · rcases (mem2 r).1 hr with hr | rfl
      · obtain ⟨rfl, _, _⟩ := alnew n ob h1
        exact absurd (Hp.get_lt (hI.off r hr _ ob' h2).2.1) (Nat.lt_irrefl _)
      · rfl
  · intro t ht u hu
    have hot : o.dst ≠ some t := ht _ ((mem2 _).2 (.inr rfl))
    rw [putV_get hot] at hu
    exact hI.tmp t (fun q hq => ht q ((mem2 q).2 (.inl hq))) u hu
  · rw [hset]
    rcases (mem2 q).1 hq with hq | rfl
    · exact ⟨(hI.mem q hq).1, .inr (hI.mem q hq).2⟩
    · exact ⟨ho, .inl rfl⟩
  · rw [putV_length] at hlt
    rcases (mem2 q).1 hq with hq | rfl
    · have := loneDst_spec (hI.lone q hq) hqt ho (fun e => hne q hq e.symm)
      rw [putV_get this]
      exact hI.dst q hq t hqt hlt
    · simp only at hqt
      rw [hqt]
      exact putV_self hlt
  · rcases (mem2 q).1 hq with hq | rfl
    · exact hI.lone q hq
    · exact f2
  · rw [putV_length]
    rcases (mem2 q).1 hq with hq | rfl
    · exact hI.len q hq
    · rfl
  · refine List.pairwise_append.2 ⟨hI.nod, List.pairwise_singleton _ _, fun p hp q hq => ?_⟩
    simp only [List.mem_singleton] at hq
    subst hq
    exact hne p hp
  · refine List.pairwise_append.2 ⟨hI.ord, List.pairwise_singleton _ _, fun p hp q hq => ?_⟩
    simp only [List.mem_singleton] at hq
    subst hq
    exact nodir p hp
  · intro p hp q hq hd t hqt ht hlt
    rw [putV_length] at hlt
    rcases (mem2 p).1 hp with hp | rfl
    · rcases (mem2 q).1 hq with hq | rfl
      · exact hI.op1 p hp q hq hd t hqt ht hlt
      · exact absurd hd (nodir p hp)
    · rcases (mem2 q).1 hq with hq | rfl
      · exact hI.dst q hq t hqt hlt
      · have := hsr.2.2 s hd
        rw [hsr.2.1] at this; cases this
  · intro p hp t ht hall u hu
    rcases (mem2 p).1 hp with hp | rfl
    · exact hI.op2 p hp t ht (fun q hq => hall q ((mem2 q).2 (.inl hq))) u hu
    · refine hI.tmp t (fun q hq e => ?_) u hu
      rcases frE q hq with h | h
      · exact hall q ((mem2 q).2 (.inl hq)) h e
      · exact (apart_dst h).1 t e ht
  · intro p hp q hq hpq t hqt ht
    rcases (mem2 p).1 hp with hp | rfl
    · rcases (mem2 q).1 hq with hq | rfl
      · exact hI.exc p hp q hq hpq t hqt ht
      · rcases frE p hp with h | h
        · exact .inr h
        · exact absurd ht ((apart_dst h).2.2 t hqt)
    · rcases (mem2 q).1 hq with hq | rfl
      · rcases frE q hq with h | h
        · exact .inl h
        · exact absurd ht ((apart_dst h).1 t hqt)
      · exact absurd rfl hpq
  · intro p hp j oj hj hjne hun
    obtain ⟨u1, u2⟩ := unl j hun
    rcases (mem2 p).1 hp with hp | rfl
    · exact hI.free p hp j oj hj hjne u1
    · exact free_dir ho f3 hj u2 hI.sze u1
  · intro p hp
    rcases (mem2 p).1 hp with hp | rfl
    · exact hI.eff p hp
    · exact f1
  · intro p hp
    rcases (mem2 p).1 hp with hp | rfl
    · exact hI.slf p hp
    · intro hd
      have := hsr.2.2 s hd
      rw [hsr.2.1] at this; cases this
  · intro p hp
    rcases (mem2 p).1 hp with hp | rfl
    · exact (hI.sem p hp).mono hmono hrd
    · exact hsem
/-- Where what turns memory is ready, nothing that is pending stands in its way. -/
theorem Inv.clear (hI : Inv P gl w0 ops D0 ρ0 H0 E le tm H rd lc a w D ρ) {j : Nat} {o : Oper} (ho : ops[j]? = some o) (hjc : j ∈ Region.ready .any ops lc) (hje : le.getD j false = false) {q : Pend} (hq : q ∈ E) : q.i ≠ j ∧ q.o.apart ops o = true := by
  have hr := (ready_iff hI.szc).1 hjc
  have hne : q.i ≠ j := fun e => by
    have := (hI.mem q hq).2
    rw [e, hje] at this
    cases this
  refine ⟨hne, (hI.free q hq j o ho (fun e => hne e.symm) hje).resolve_left fun hd => ?_⟩
  have := hr.2.2 q.i hd
  exact absurd rfl (((hI.lcs _).1 this).2 q hq)
theorem Inv.step (hI : Inv P gl w0 ops D0 ρ0 H0 E le tm H rd lc a w D ρ) {j : Nat} {o : Oper} (ho : ops[j]? = some o) (hjc : j ∈ Region.ready .any ops lc) (hje : le.getD j false = false) {D' : Nat → Prop} {ρ' : Nat → Loc} {H' : Hp} {w' : World} {v : V}
    (hn : Nx D ρ H D' ρ' H') (hR : Rel gl w0 D' ρ' H' w') (hv : v.In D' ρ') (hst : ∀ p ∈ E, readV P gl p.tm H p.o.op = some p.v → ⟨p.i, p.o.op, p.tm, p.v⟩ ∈ rd → Bef ops p.i j ∨ readV P gl p.tm H' p.o.op = some p.v) :
    Inv P gl w0 ops D0 ρ0 H0 E (le.setIfInBounds j true) (putV tm o.dst v) H' rd (lc.setIfInBounds j true) (a.put o.dst (v.val ρ')) w' D' ρ' := by
  have hr := (ready_iff hI.szc).1 hjc
  have hclear := fun q hq => hI.clear (q := q) ho hjc hje hq
  have sete : ∀ k, (le.setIfInBounds j true).getD k false = true ↔ k = j ∨ le.getD k false = true := fun k => set_getD (by rw [hI.sze]; exact hr.1)
  have setc : ∀ k, (lc.setIfInBounds j true).getD k false = true ↔ k = j ∨ lc.getD k false = true := fun k => set_getD (by rw [hI.szc]; exact hr.1)
  have ce : ∀ k, lc.getD k false = true → le.getD k false = true := fun k hk => ((hI.lcs k).1 hk).1
  have up : ∀ (t : Nat) (u : V), a.tmps[t]? = some (u.val ρ) ∧ u.In D ρ → a.tmps[t]? = some (u.val ρ') ∧ u.In D' ρ' := fun t u h => ⟨by rw [hn.val h.2]; exact h.1, hn.in h.2⟩
  have d0 : ∀ n, D0 n → D n := fun n h => by
    rcases (hI.dom n).2 (.inl h) with h' | ⟨p, hp, ob, h'⟩
    · exact h'
    · exact absurd h (hI.off p hp n ob h').2.2
  have keepOff : ∀ p ∈ E, ∀ n ob, p.al = some (n, ob) → ¬ D' n ∧ H'.get n = some ob ∧ ¬ D0 n := fun p hp n ob h => by
    obtain ⟨h1, h2, h3⟩ := hI.off p hp n ob h
    have hlt := Hp.get_lt h2
    refine ⟨fun hd => ?_, by rw [hn.rest n hlt h1]; exact h2, h3⟩
    rcases (hn.dom n).1 hd with e | ⟨e, _⟩
    · exact h1 e
    · omega
  refine ⟨by simp [hI.sze], by simp [hI.szc], fun k => ?_, fun k hk i hi => ?_, fun k hk i hi => ?_, hR, fun n h => by rw [hn.loc n (d0 n h)]; exact hI.loc n h, fun n => ?_, keepOff, hI.uni, fun n h1 h2 => ?_, Nat.le_trans hI.nxt hn.size, by rw [a_put_size, putV_length]; exact hI.tms, ?_, fun p hp => ⟨(hI.mem p hp).1, (sete _).2 (.inr (hI.mem p hp).2)⟩, fun p hp t hpt hlt => ?_, hI.lone, fun p hp => by rw [putV_length]; exact hI.len p hp, hI.nod, hI.ord, fun p hp q hq hd t h1 h2 h3 => hI.op1 p hp q hq hd t h1 h2 (by rwa [putV_length] at h3), ?_, hI.exc, fun p hp k ok hk hne hun => hI.free p hp k ok hk hne ?_, hI.eff, hI.slf, fun p hp => ?_⟩
  · rw [sete, setc, hI.lcs]
    constructor
    · rintro (rfl | ⟨h1, h2⟩)
      · exact ⟨.inl rfl, fun p hp => (hclear p hp).1⟩
      · exact ⟨.inr h1, h2⟩
    · rintro ⟨h1 | h1, h2⟩
      · exact .inl h1
      · exact .inr ⟨h1, h2⟩
  · rw [sete] at hk ⊢
    rcases hk with rfl | hk
    · exact .inr (ce i (hr.2.2 i hi))
    · exact .inr (hI.cle k hk i hi)
  · rw [setc] at hk ⊢
    rcases hk with rfl | hk
    · exact .inr (hr.2.2 i hi)
    · exact .inr (hI.clc k hk i hi)
  · rw [hn.dom]
    have hs := hn.size
    have hx := hI.nxt
    constructor
    · rintro ((h | ⟨h1, h2⟩) | ⟨p, hp, ob, h⟩)
      · rcases (hI.dom n).1 (.inl h) with h | ⟨h1, h2⟩
        · exact .inl h
        · exact .inr ⟨h1, by omega⟩
      · exact .inr ⟨by omega, h2⟩
      · rcases (hI.dom n).1 (.inr ⟨p, hp, ob, h⟩) with h | ⟨h1, h2⟩
        · exact .inl h
        · exact .inr ⟨h1, by omega⟩
    · rintro (h | ⟨h1, h2⟩)
      · exact .inl (.inl (d0 n h))
      · by_cases e : n < H.next
        · rcases (hI.dom n).2 (.inr ⟨h1, e⟩) with h | h
          · exact .inl (.inl h)
          · exact .inr h
        · exact .inl (.inr ⟨by omega, h2⟩)
  · have hx := hI.nxt
    by_cases hd : D n
    · rcases (hI.dom n).1 (.inl hd) with h | ⟨h, _⟩
      · exact absurd h h2
      · omega
    · rw [hn.rest n (by omega) hd]; exact hI.rest n h1 h2
  · intro t ht u hu
    by_cases e : o.dst = some t
    · rw [e] at hu ⊢
      have hlt : t < tm.length := by
        have := (List.getElem?_eq_some_iff.1 hu).1
        rwa [putV_length] at this
      rw [putV_self hlt] at hu
      cases hu
      exact ⟨a_put_self (by rw [hI.tms]; exact hlt), hv⟩
    · rw [putV_get e] at hu
      rw [a_put_get e]
      exact up t u (hI.tmp t ht u hu)
  · rw [putV_length] at hlt
    have := loneDst_spec (hI.lone p hp) hpt ho (fun e => (hclear p hp).1 e.symm)
    rw [putV_get this]
    exact hI.dst p hp t hpt hlt
  · intro p hp t ht hall u hu
    have e : o.dst ≠ some t := fun e => (apart_dst (hclear p hp).2).2.2 t e ht
    rw [a_put_get e]
    exact up t u (hI.op2 p hp t ht hall u hu)
  · cases h : le.getD k false with
    | false => rfl
    | true => rw [(sete k).2 (.inr h)] at hun; cases hun
  · rcases hI.sem p hp with h | h | ⟨h1, h2, h3, h4, h5⟩ | h
    · exact .inl h
    · exact .inr (.inl h)
    · refine .inr (.inr (.inl ⟨h1, h2, ?_, h4, h5⟩))
      rcases hst p hp h3 h4 with h | h
      · have := bef_closed hI.clc h hr.2.2
        exact absurd rfl (((hI.lcs _).1 this).2 p hp)
      · exact h
    · exact .inr (.inr (.inr h))
theorem Inv.eff_ (hc : CallOk P gl w0 call) (hy : YldOk P gl w0 yld) (hI : Inv P gl w0 ops D0 ρ0 H0 E le tm H rd lc a w D ρ) {j : Nat} {o : Oper} (ho : ops[j]? = some o) (hjc : j ∈ Region.ready .any ops lc) (hje : le.getD j false = false) {H' : Hp} {v : V}
    (hop : (wantedV ops tm o = true ∧ opV P gl call yld tm H o.op = some (v, H')) ∨ (wantedV ops tm o = false ∧ v = .undef ∧ H' = H)) (hst : ∀ p ∈ E, readV P gl p.tm H p.o.op = some p.v → ⟨p.i, p.o.op, p.tm, p.v⟩ ∈ rd → Bef ops p.i j ∨ readV P gl p.tm H' p.o.op = some p.v)
    {K : Act → World → Prop} {Q : Exit → Act → World → Prop}
    (hK : ∀ D' ρ' a' w', Inv P gl w0 ops D0 ρ0 H0 E (le.setIfInBounds j true) (putV tm o.dst v) H' rd (lc.setIfInBounds j true) a' w' D' ρ' → a'.defers = a.defers → K a' w') : wpOpIn (Fr rb) 0 P ops Q j K a w := by
  have hlook : ∀ t ∈ o.looksAt ops, ∀ v, tm[t]? = some v → a.tmps[t]? = some (v.val ρ) ∧ v.In D ρ := fun t ht v hv => hI.tmp t (fun q hq e => (apart_dst (hI.clear ho hjc hje hq).2).1 t e ht) v hv
  have hw := wanted_of (ops := ops) (o := o) hI.tms hlook
  have hopn : Opnds gl tm ρ D a.eval o.op.operands := opnds_of hI.rel hI.tms fun t ht => hlook t (mem_looks ht)
  unfold wpOpIn
  rw [ho]
  simp only [hw]
  rcases hop with ⟨h1, h2⟩ | ⟨h1, rfl, rfl⟩
  · rw [if_pos h1]
    exact op_sound hc hy h2 hI.rel hopn fun D' ρ' w' n1 n2 n3 => hK _ _ _ _ (hI.step ho hjc hje n1 n2 n3 hst) (put_defers _ _ _)
  · rw [if_neg (by simp [h1])]
    exact ⟨fun _ _ => trivial, hK _ _ _ _ (hI.step ho hjc hje (Nx.refl _ _ _) hI.rel (v := .undef) trivial hst) (put_defers _ _ _)⟩
theorem still_of {j : Nat} {H' : Hp} (hst : stillV P gl (masks ops) j H' rd = true) : ∀ p ∈ E, readV P gl p.tm H p.o.op = some p.v → ⟨p.i, p.o.op, p.tm, p.v⟩ ∈ rd → Bef ops p.i j ∨ readV P gl p.tm H' p.o.op = some p.v :=
  fun _ _ _ h => (still_spec hst _ h).imp masks_spec id
theorem Inv.more (hI : Inv P gl w0 ops D0 ρ0 H0 E le tm H rd lc a w D ρ) {rd' : List Read} (h : ∀ r ∈ rd, r ∈ rd') : Inv P gl w0 ops D0 ρ0 H0 E le tm H rd' lc a w D ρ :=
  { hI with sem := fun p hp => (hI.sem p hp).mono (fun _ _ h => h) h }
theorem alloc_ne {tm : List V} {o : Op} {v : Ob × (Nat → V)} (h : allocV P gl tm o = some v) : neV P gl tm H o = none := by
  unfold neV
  cases o
  case convert s d x =>
    simp only [allocV] at h
    split at h
    · rename_i e b hs hd hx
      simp [pureV, readV, convertV, hs, hd, hx]
    · cases h
  all_goals first | rfl | (simp [allocV] at h; done)
theorem op_of_sem {s : Nat} {o : Oper} {v : V} {al : Option (Nat × Ob)} {H' : Hp} {rd' : List Read} (he : isEff o.op = false) (hH : (H' = H ∧ al = none) ∨ ∃ ob, al = some (H.next, ob) ∧ H' = H.push ob) (hsem : Sem1 P gl ops H' rd' ⟨s, o, tm, v, al⟩) :
    (wantedV ops tm o = true ∧ opV P gl call yld tm H o.op = some (v, H')) ∨ (wantedV ops tm o = false ∧ v = .undef ∧ H' = H) := by
  have hala : ∀ v, allocV P gl tm o.op = some v → neV P gl tm H o.op = none := fun v h => alloc_ne h
  rcases hsem with ⟨h1, h2, h3⟩ | ⟨h1, h2, h3⟩ | ⟨h1, h2, h3, h4, h5⟩ | ⟨h1, mk, n, ob, h3, h4, h5⟩
  · simp only at h1 h2 h3
    rcases hH with ⟨h, _⟩ | ⟨ob, h, _⟩
    · exact .inr ⟨h1, h2, h⟩
    · rw [h3] at h; cases h
  · simp only at h1 h2 h3
    rcases hH with ⟨rfl, _⟩ | ⟨ob, h, _⟩
    · refine .inl ⟨h1, ?_⟩
      simp [opV, he, neV, h3]
    · rw [h2] at h; cases h
  · simp only at h1 h2 h3 h5
    rcases hH with ⟨rfl, _⟩ | ⟨ob, h, _⟩
    · refine .inl ⟨h1, ?_⟩
      simp [opV, he, neV, h3, h5]
    · rw [h2] at h; cases h
  · simp only at h1 h3 h4 h5
    rcases hH with ⟨_, h⟩ | ⟨ob', h, rfl⟩
    · rw [h] at h4; cases h4
    · rw [h] at h4
      cases h4
      refine .inl ⟨h1, ?_⟩
      simp [opV, he, hala _ h3, h3, h5]
end
end Go.Ev
