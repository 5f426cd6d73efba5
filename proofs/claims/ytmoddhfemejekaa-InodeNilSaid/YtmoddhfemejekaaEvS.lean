/- A region that draws its order: whatever the order, what the plan comes to (4). -/
import Derived.Test.YtmoddhfemejekaaEvR
namespace Go.Ev

section
variable {P : Program} {gl : Nat → Option Nat} {w0 : World} {ops : Array Oper} {D0 : Nat → Prop} {ρ0 : Nat → Loc} {H0 : Hp} {call : Call} {yld : Nat → List V → Hp → Option (V × Hp)} {rb : Option Nat}
theorem plan_next {k : Nat} {le : Array Bool} {pl : List Nat} (h : planV ops (k + 1) le = some pl) : ∃ s pl', pl = s :: pl' ∧ planV ops k (le.setIfInBounds s true) = some pl' ∧ s ∈ Region.ready .any ops le ∧ (floats ops le s = true ∨ Region.ready .any ops le = [s]) := by
  unfold planV at h
  split at h
  · rename_i s hs
    split at h
    · rename_i l hl
      simp only [Option.some.injEq] at h
      exact ⟨s, l, h.symm, hl, List.mem_of_find?_eq_some hs, .inl (List.find?_some hs)⟩
    · cases h
  · split at h
    · rename_i s hr
      split at h
      · rename_i l hl
        simp only [Option.some.injEq] at h
        exact ⟨s, l, h.symm, hl, by rw [hr]; simp, .inr hr⟩
      · cases h
    · cases h
theorem ready_same {l l' : Array Bool} (h1 : l.size = ops.size) (h2 : l'.size = ops.size) (h : ∀ j, l.getD j false = true ↔ l'.getD j false = true) (s : Nat) : s ∈ Region.ready .any ops l ↔ s ∈ Region.ready .any ops l' := by
  have hb : ∀ j, l.getD j false = l'.getD j false := fun j => by rw [Bool.eq_iff_iff]; exact h j
  rw [ready_iff h1, ready_iff h2]
  simp only [hb]
theorem Inv.all_done {E : List Pend} {le : Array Bool} {tm : List V} {H : Hp} {rd : List Read} {lc : Array Bool} {a : Act} {w : World} {D : Nat → Prop} {ρ : Nat → Loc} (hI : Inv P gl w0 ops D0 ρ0 H0 E le tm H rd lc a w D ρ) {k : Nat} {pl : List Nat} (hp : planV ops k le = some pl) (hr : Region.ready .any ops lc = []) : E = [] ∧ pl = [] := by
  have hE : E = [] := by
    cases hE : E with
    | nil => rfl
    | cons p E' =>
      subst hE
      have hmem := hI.mem p (by simp)
      have : p.i ∈ Region.ready .any ops lc := by
        rw [ready_iff hI.szc]
        refine ⟨(Array.getElem?_eq_some_iff.1 hmem.1).1, ?_, fun i hi => ?_⟩
        · cases h : lc.getD p.i false with
          | false => rfl
          | true => exact absurd rfl (((hI.lcs _).1 h).2 p (by simp))
        · rw [hI.lcs]
          refine ⟨hI.cle _ hmem.2 i hi, fun q hq e => ?_⟩
          subst e
          rcases List.mem_cons.1 hq with rfl | hq
          · exact hI.slf q (by simp) hi
          · exact (List.pairwise_cons.1 hI.ord).1 q hq hi
      rw [hr] at this
      cases this
  subst hE
  refine ⟨rfl, ?_⟩
  cases k with
  | zero =>
    unfold planV at hp
    split at hp
    · simp only [Option.some.injEq] at hp; exact hp.symm
    · cases hp
  | succ k =>
    obtain ⟨s, pl', _, _, h, _⟩ := plan_next hp
    have := (ready_same hI.sze hI.szc (fun j => by rw [hI.lcs]; simp) s).1 h
    rw [hr] at this
    cases this
theorem draw_next {s : Nat} {pl : List Nat} {rd : List Read} {tm tmf : List V} {H Hf : Hp} (h : drawV P gl call yld ops (masks ops) (s :: pl) rd tm H = some (tmf, Hf)) : ∃ o, ops[s]? = some o ∧
    ((isEff o.op = true ∧ ∃ v H', ((wantedV ops tm o = true ∧ opV P gl call yld tm H o.op = some (v, H')) ∨ (wantedV ops tm o = false ∧ v = .undef ∧ H' = H)) ∧ stillV P gl (masks ops) s H' rd = true ∧ drawV P gl call yld ops (masks ops) pl rd (putV tm o.dst v) H' = some (tmf, Hf)) ∨
     (isEff o.op = false ∧ ∃ v al H' rd', ((H' = H ∧ al = none) ∨ ∃ ob, al = some (H.next, ob) ∧ H' = H.push ob) ∧ (∀ r ∈ rd, r ∈ rd') ∧ Sem1 P gl ops H' rd' ⟨s, o, tm, v, al⟩ ∧ drawV P gl call yld ops (masks ops) pl rd' (putV tm o.dst v) H' = some (tmf, Hf))) := by
  unfold drawV at h
  split at h
  · cases h
  · rename_i o ho
    refine ⟨o, ho, ?_⟩
    split at h
    · rename_i hw
      split at h
      · rename_i he
        split at h
        · rename_i v H' hop
          split at h
          · rename_i hst
            exact .inl ⟨he, v, H', .inl ⟨hw, hop⟩, hst, h⟩
          · cases h
        · cases h
      · rename_i he
        have he : isEff o.op = false := by simpa using he
        split at h
        · rename_i v hp
          exact .inr ⟨he, v, none, H, rd, .inl ⟨rfl, rfl⟩, fun _ h => h, .inr (.inl ⟨hw, rfl, hp⟩), h⟩
        · rename_i hpn
          split at h
          · rename_i v hr
            exact .inr ⟨he, v, none, H, _, .inl ⟨rfl, rfl⟩, fun r hr => List.mem_cons_of_mem _ hr, .inr (.inr (.inl ⟨hw, rfl, hr, by simp, hpn⟩)), h⟩
          · split at h
            · rename_i ob mk hal
              exact .inr ⟨he, mk H.next, some (H.next, ob), H.push ob, rd, .inr ⟨ob, rfl, rfl⟩, fun _ h => h, .inr (.inr (.inr ⟨hw, mk, H.next, ob, hal, rfl, rfl⟩)), h⟩
            · cases h
    · rename_i hw
      have hw : wantedV ops tm o = false := by simpa using hw
      split at h
      · rename_i hst
        simp only [Bool.or_eq_true, Bool.not_eq_true'] at hst
        cases he : isEff o.op with
        | true =>
          refine .inl ⟨rfl, .undef, H, .inr ⟨hw, rfl, rfl⟩, ?_, h⟩
          rcases hst with h | h
          · rw [he] at h; cases h
          · exact h
        | false => exact .inr ⟨rfl, .undef, none, H, rd, .inl ⟨rfl, rfl⟩, fun _ h => h, .inl ⟨hw, rfl, rfl⟩, h⟩
      · cases h
theorem drawn (hc : CallOk P gl w0 call) (hy : YldOk P gl w0 yld) {Q : Exit → Act → World → Prop} {tmf : List V} {Hf : Hp} {ds : List Deferred} (hQ : ∀ D ρ a w, Nx D0 ρ0 H0 D ρ Hf → Rel gl w0 D ρ Hf w → Tm D ρ tmf a → a.defers = ds → Q .normal a w) :
    ∀ (c : Nat) {E : List Pend} {le : Array Bool} {tm : List V} {H : Hp} {rd : List Read} {lc : Array Bool} {a : Act} {w : World} {D : Nat → Prop} {ρ : Nat → Loc} {k : Nat} {pl : List Nat}, Inv P gl w0 ops D0 ρ0 H0 E le tm H rd lc a w D ρ → a.defers = ds →
      planV ops k le = some pl → drawV P gl call yld ops (masks ops) pl rd tm H = some (tmf, Hf) → E.length + k ≤ c → wpAnyIn (Fr rb) 0 P .any ops Q c lc a w := by
  -- the end
  have fin : ∀ {E : List Pend} {le : Array Bool} {tm : List V} {H : Hp} {rd : List Read} {lc : Array Bool} {a : Act} {w : World} {D : Nat → Prop} {ρ : Nat → Loc} {k : Nat} {pl : List Nat}, Inv P gl w0 ops D0 ρ0 H0 E le tm H rd lc a w D ρ → a.defers = ds →
      planV ops k le = some pl → drawV P gl call yld ops (masks ops) pl rd tm H = some (tmf, Hf) → Region.ready .any ops lc = [] → Q .normal a w := by
    intro E le tm H rd lc a w D ρ k pl hI hd hp hdr hr
    obtain ⟨rfl, rfl⟩ := hI.all_done hp hr
    simp only [drawV, Option.some.injEq, Prod.mk.injEq] at hdr
    obtain ⟨rfl, rfl⟩ := hdr
    refine hQ D ρ a w ⟨hI.loc, fun n => ?_, hI.nxt, hI.rest⟩ hI.rel ⟨?_, fun v hv => ?_⟩ hd
    · have := hI.dom n
      simpa using this
    · apply Array.ext'
      apply List.ext_getElem?
      intro t
      rw [List.toList_toArray, List.getElem?_map, Array.getElem?_toList]
      cases ht : tm[t]? with
      | none =>
        rw [List.getElem?_eq_none_iff] at ht
        simp [hI.tms, ht]
      | some v => rw [(hI.tmp t (by simp) v ht).1]; rfl
    · obtain ⟨t, ht⟩ := List.getElem?_of_mem hv
      exact (hI.tmp t (by simp) v ht).2
  intro c
  induction c with
  | zero =>
    intro E le tm H rd lc a w D ρ k pl hI hd hp hdr hm
    have hE : E = [] := List.eq_nil_of_length_eq_zero (by omega)
    have hk : k = 0 := by omega
    subst hE hk
    have hr : Region.ready .any ops lc = [] := by
      unfold planV at hp
      split at hp
      · rename_i h
        cases hl : Region.ready .any ops lc with
        | nil => rfl
        | cons s l =>
          have := (ready_same hI.szc hI.sze (fun j => by rw [hI.lcs]; simp) s).1 (by rw [hl]; simp)
          rw [h] at this
          cases this
      · cases hp
    exact ⟨hr, fin hI hd hp hdr hr⟩
  | succ c ih =>
    intro E le tm H rd lc a w D ρ k pl hI hd hp hdr hm
    refine ⟨fun hr => fin hI hd hp hdr hr, fun i hi => ?_⟩
    -- the plan goes ahead till what is ready has come
    revert E le tm H rd pl
    induction k with
    | zero =>
      intro E le tm H rd pl hI hp hdr hm
      by_cases hE : ∃ p ∈ E, p.i = i
      · obtain ⟨p, hpE, rfl⟩ := hE
        refine hI.exec hpE hi fun D' ρ' a' w' hI' hd' => ih hI' (hd'.trans hd) hp hdr ?_
        have : (E.filter fun q => q.i != p.i).length < E.length := List.length_filter_lt_length_iff_exists.2 ⟨p, hpE, by simp⟩
        omega
      · exfalso
        have hri := (ready_iff hI.szc).1 hi
        have hle : le.getD i false = false := by
          cases h : le.getD i false with
          | false => rfl
          | true =>
            have := (hI.lcs i).2 ⟨h, fun p hp e => hE ⟨p, hp, e⟩⟩
            rw [hri.2.1] at this
            cases this
        have : i ∈ Region.ready .any ops le := (ready_iff hI.sze).2 ⟨hri.1, hle, fun j hj => ((hI.lcs j).1 (hri.2.2 j hj)).1⟩
        unfold planV at hp
        split at hp
        · rename_i h; rw [h] at this; cases this
        · cases hp
    | succ k ihk =>
      intro E le tm H rd pl hI hp hdr hm
      by_cases hE : ∃ p ∈ E, p.i = i
      · obtain ⟨p, hpE, rfl⟩ := hE
        refine hI.exec hpE hi fun D' ρ' a' w' hI' hd' => ih hI' (hd'.trans hd) hp hdr ?_
        have : (E.filter fun q => q.i != p.i).length < E.length := List.length_filter_lt_length_iff_exists.2 ⟨p, hpE, by simp⟩
        omega
      · have hri := (ready_iff hI.szc).1 hi
        have hle : le.getD i false = false := by
          cases h : le.getD i false with
          | false => rfl
          | true =>
            have := (hI.lcs i).2 ⟨h, fun p hp e => hE ⟨p, hp, e⟩⟩
            rw [hri.2.1] at this
            cases this
        have hin : i ∈ Region.ready .any ops le := (ready_iff hI.sze).2 ⟨hri.1, hle, fun j hj => ((hI.lcs j).1 (hri.2.2 j hj)).1⟩
        obtain ⟨s, pl', rfl, hp', hs, hfl⟩ := plan_next hp
        obtain ⟨o, ho, hcase⟩ := draw_next hdr
        rcases hcase with ⟨he, v, H', hop, hst, hrest⟩ | ⟨he, v, al, H', rd', hH, hrd, hsem, hrest⟩
        · have his : i = s := by
            rcases hfl with h | h
            · rw [(floats_spec ho h).1] at he; cases he
            · rw [h] at hin; simpa using hin
          subst his
          exact hI.eff_ hc hy ho hi hle hop (still_of hst) fun D' ρ' a' w' hI' hd' => ih hI' (hd'.trans hd) hp' hrest (by omega)
        · rcases hfl with h | h
          · exact ihk (hI.add ho hs h hH hrd hsem) hp' hrest (by simp only [List.length_append, List.length_singleton]; omega)
          · have his : i = s := by rw [h] at hin; simpa using hin
            subst his
            refine hI.eff_ hc hy ho hi hle (op_of_sem he hH hsem) (fun p _ h1 _ => .inr (readV_mono ?_ h1)) fun D' ρ' a' w' hI' hd' => ih (hI'.more hrd) (hd'.trans hd) hp' hrest (by omega)
            intro n ob hn
            rcases hH with ⟨rfl, _⟩ | ⟨ob', _, rfl⟩
            · exact hn
            · rw [Hp.get_push, if_neg (by have := Hp.get_lt hn; omega)]; exact hn
end
end Go.Ev
