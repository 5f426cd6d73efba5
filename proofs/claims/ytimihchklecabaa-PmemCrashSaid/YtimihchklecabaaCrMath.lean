/- What a loss of power may leave: what was sure, or something that was stored since. -/
import Derived.Test.YtimihchklecabaaFeMath
namespace Go.Grommet

/-- All of a word is of these values; what is not loose is sure as it is seen. -/
structure Held (I : Nat → Prop) (c : PW) : Prop where
  sure : I c.sure
  seen : I c.seen
  kept : c.flushed = true → I c.kept
  fair : c.Fair
theorem Held.more {I J : Nat → Prop} {c : PW} (h : Held I c) (hij : ∀ x, I x → J x) : Held J c := ⟨hij _ h.sure, hij _ h.seen, fun e => hij _ (h.kept e), h.fair⟩
theorem Held.store {I : Nat → Prop} {c : PW} (h : Held I c) {v : Nat} (hv : I v) : Held I (c.store v) := ⟨h.sure, hv, h.kept, PW.store_fair c v⟩
theorem Held.flush {I : Nat → Prop} {c : PW} (h : Held I c) : Held I c.flush := by
  refine ⟨?_, ?_, ?_, PW.flush_fair h.fair⟩
  · unfold PW.flush; split <;> exact h.sure
  · unfold PW.flush; split <;> exact h.seen
  · unfold PW.flush; split
    · intro _; exact h.seen
    · exact h.kept
theorem Held.evict {I : Nat → Prop} {c : PW} (h : Held I c) : Held I c.evict := by
  unfold PW.evict
  split
  · exact ⟨h.seen, h.seen, (fun e => by cases e), fun _ => rfl⟩
  · exact h
theorem Held.lose {I : Nat → Prop} {c : PW} (h : Held I c) (p : Nat) : Held I (c.lose p) := by
  have hl : I (c.left p) := by
    unfold PW.left
    split
    · exact h.seen
    · split
      · rename_i h2; exact h.kept h2.2
      · exact h.sure
  exact ⟨hl, hl, (fun e => by cases e), fun _ => rfl⟩
def Helds (I : Nat → Nat → Prop) (ws : List PW) : Prop := ∀ (k : Nat) (c : PW), ws[k]? = some c → Held (I k) c
theorem Helds.more {I J : Nat → Nat → Prop} {ws : List PW} (h : Helds I ws) (hij : ∀ k x, I k x → J k x) : Helds J ws := fun k c hc => (h k c hc).more (hij k)
theorem Helds.turn {I : Nat → Nat → Prop} {f : PW → PW} {a m : Nat} {ws : List PW} (h : Helds I ws) (hf : ∀ k c, a ≤ k → k < a + m → Held (I k) c → Held (I k) (f c)) : Helds I (turnFrom f a m ws) := by
  intro k c hc
  rw [turnFrom_get] at hc
  by_cases hk : a ≤ k ∧ k < a + m
  · rw [if_pos hk] at hc
    cases hw : ws[k]? with
    | none => rw [hw] at hc; cases hc
    | some c0 => rw [hw] at hc; cases hc; exact hf k c0 hk.1 hk.2 (h k c0 hw)
  · rw [if_neg hk] at hc; exact h k c hc
theorem Helds.modify {I : Nat → Nat → Prop} {f : PW → PW} {a : Nat} {ws : List PW} (h : Helds I ws) (hf : ∀ c, Held (I a) c → Held (I a) (f c)) : Helds I (ws.modify a f) :=
  Helds.turn (m := 1) h (fun k c h1 h2 hh => by obtain rfl : k = a := (by omega); exact hf c hh)
theorem Helds.crash {I : Nat → Nat → Prop} : ∀ (ws : List PW) (ps : List Nat) , Helds I ws → Helds I (crash ws ps)
  | [], _, _ => fun k c hc => by simp [Go.Grommet.crash] at hc
  | c :: ws, ps, h => by
    intro k d hd
    have hs : ∀ ps', Helds (fun k => I (k + 1)) (Go.Grommet.crash ws ps') := fun ps' => Helds.crash ws ps' (fun k c hc => h (k + 1) c hc)
    unfold Go.Grommet.crash at hd
    split at hd
    · cases k with
      | zero => cases hd; exact (h 0 c rfl).lose _
      | succ k => exact hs _ k d hd
    · cases k with
      | zero => cases hd; exact h 0 c rfl
      | succ k => exact hs _ k d hd
theorem crash_loose : ∀ (ws : List PW) (ps : List Nat), looseOf (crash ws ps) = 0 ∧ ∀ c ∈ crash ws ps, c.loose = false
  | [], _ => ⟨rfl, fun c hc => by simp [crash] at hc⟩
  | c :: ws, ps => by
    unfold crash
    cases hl : c.loose with
    | true =>
      rw [if_pos rfl]
      have e3 : (c.lose (ps.headD 0)).loose = false := rfl
      obtain ⟨i1, i2⟩ := crash_loose ws ps.tail
      refine ⟨?_, fun x hx => ?_⟩
      · unfold looseOf at i1 ⊢; rw [List.filter_cons_of_neg (by show ¬ ((c.lose (ps.headD 0)).loose = true); rw [e3]; decide)]; exact i1
      · rcases List.mem_cons.1 hx with e | e
        · rw [e]; rfl
        · exact i2 x e
    | false =>
      rw [if_neg (by simp)]
      obtain ⟨i1, i2⟩ := crash_loose ws ps
      refine ⟨?_, fun x hx => ?_⟩
      · unfold looseOf at i1 ⊢; rw [List.filter_cons_of_neg (by simp [hl])]; exact i1
      · rcases List.mem_cons.1 hx with e | e
        · rw [e]; exact hl
        · exact i2 x e
theorem crash_same {I : Nat → Nat → Prop} {ws : List PW} (h : Helds I ws) (ps : List Nat) : (crash ws ps).map (·.seen) = (crash ws ps).map (·.sure) := by
  apply List.map_congr_left
  intro c hc
  obtain ⟨k, hk⟩ := List.getElem?_of_mem hc
  exact ((Helds.crash ws ps h k c hk).fair ((crash_loose ws ps).2 c hc)).symm

/-- Words that were stored, then all flushed and fenced. -/
structure Fresh (v : Nat) (c : PW) : Prop where
  seen : c.seen = v
  way : (c.loose = true ∧ c.flushed = false) ∨ (c = PW.nought ∧ v = 0)
def settledW (v : Nat) : PW := ⟨v, v, false, false, false, 0⟩
theorem Fresh.fenced {v : Nat} {c : PW} (h : Fresh v c) : c.flush.fence = settledW v := by
  rcases h.way with ⟨h1, h2⟩ | ⟨h1, h2⟩
  · unfold PW.flush; rw [if_pos h1]; unfold PW.fence; rw [if_pos rfl]; rw [← h.seen]; rfl
  · rw [h1, h2]; rfl
theorem Fresh.store {v u : Nat} {c : PW} (h : Fresh v c) : Fresh u (c.store u) := by
  refine ⟨rfl, .inl ⟨rfl, ?_⟩⟩
  rcases h.way with ⟨_, h2⟩ | ⟨h1, _⟩
  · exact h2
  · rw [h1]; rfl
structure Freshs (vs : List Nat) (ws : List PW) : Prop where
  len : ws.length = vs.length
  all : ∀ (k : Nat) (c : PW) (v : Nat), ws[k]? = some c → vs[k]? = some v → Fresh v c
theorem Freshs.store {vs : List Nat} {ws : List PW} (h : Freshs vs ws) (a u : Nat) : Freshs (vs.set a u) (ws.modify a (·.store u)) := by
  refine ⟨by rw [List.length_modify, List.length_set, h.len], fun k c v hc hv => ?_⟩
  rw [List.getElem?_modify] at hc
  cases hw : ws[k]? with
  | none => rw [hw] at hc; cases hc
  | some c0 =>
    rw [hw] at hc
    by_cases e : a = k
    · subst e
      have hlt : a < vs.length := by rw [← h.len]; exact (List.getElem?_eq_some_iff.1 hw).1
      rw [List.getElem?_set_self hlt] at hv
      cases hv
      simp at hc
      rw [← hc]
      exact (h.all a c0 _ hw (List.getElem?_eq_getElem hlt)).store
    · rw [List.getElem?_set_ne e] at hv
      simp [e] at hc
      rw [← hc]; exact h.all k c0 v hw hv
theorem Freshs.fenced {vs : List Nat} {ws : List PW} (h : Freshs vs ws) (hl : ws.length = 16) : (turnFrom PW.flush (8 * 1) 8 (turnFrom PW.flush (8 * 0) 8 ws)).map PW.fence = vs.map settledW := by
  apply List.ext_getElem?
  intro k
  rw [List.getElem?_map, List.getElem?_map, turnFrom_get, turnFrom_get]
  cases hw : ws[k]? with
  | none =>
    have h1 := List.getElem?_eq_none_iff.1 hw
    have : vs[k]? = none := List.getElem?_eq_none (by rw [← h.len]; exact h1)
    rw [this]; simp
  | some c =>
    have hlt := (List.getElem?_eq_some_iff.1 hw).1
    have hv : vs[k]? = some (vs[k]'(by rw [← h.len]; exact hlt)) := List.getElem?_eq_getElem _
    have := (h.all k c _ hw hv).fenced
    rw [hv]
    by_cases hk : 8 * 1 ≤ k ∧ k < 8 * 1 + 8
    · rw [if_pos hk, if_neg (by omega)]; show some (c.flush.fence) = _; rw [this]; rfl
    · rw [if_neg hk, if_pos (by omega)]; show some (c.flush.fence) = _; rw [this]; rfl
theorem settled_loose (vs : List Nat) : looseOf (vs.map settledW) = 0 := by
  unfold looseOf
  rw [List.filter_map, List.length_map]
  have : (vs.filter ((fun c : PW => c.loose) ∘ settledW)) = [] := by rw [List.filter_eq_nil_iff]; intro a _; simp [settledW]
  rw [this]; rfl
theorem settled_held (vs : List Nat) (I : Nat → Nat → Prop) (hI : ∀ k v, vs[k]? = some v → I k v) : Helds I (vs.map settledW) := by
  intro k c hc
  rw [List.getElem?_map] at hc
  cases hv : vs[k]? with
  | none => rw [hv] at hc; cases hc
  | some v => rw [hv] at hc; cases hc; exact ⟨hI k v hv, hI k v hv, fun e => (by cases e), fun _ => rfl⟩
end Go.Grommet
