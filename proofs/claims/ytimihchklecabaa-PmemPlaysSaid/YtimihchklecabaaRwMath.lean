/- The document's words of a device, and how they go with the program's. -/
import Derived.Test.YtimihchklecabaaPmMath2
namespace Go.Grommet
open Go.RowKit

structure RW where
  sure : Nat
  seen : Nat
  loose : Bool
  flushed : Bool
  value : Nat
  again : Bool

namespace RW
def nought : RW := ⟨0, 0, false, false, 0, false⟩
def vs (c : RW) : List Value := [.int .u64 (c.sure : Int), .int .u64 (c.seen : Int), .bool c.loose, .bool c.flushed, .int .u64 (c.value : Int), .bool c.again]
def store (v : Nat) (c : RW) : RW := { c with seen := v, loose := true, again := true }
def flush (c : RW) : RW := if c.loose then { c with flushed := true, value := c.seen, again := false } else c
def fence (c : RW) : RW := if c.flushed then ⟨c.value, c.seen, c.again, false, 0, c.again⟩ else c
def evict (c : RW) : RW := if c.loose then ⟨c.seen, c.seen, false, false, 0, false⟩ else c
def left (c : RW) (p : Nat) : Nat := if p % 3 = 2 then c.seen else if p % 3 = 1 ∧ c.flushed = true then c.value else c.sure
def all (v : Nat) : RW := ⟨v, v, false, false, 0, false⟩
def Small (c : RW) : Prop := c.sure < 18446744073709551616 ∧ c.seen < 18446744073709551616 ∧ c.value < 18446744073709551616
theorem left_small {c : RW} (h : c.Small) (p : Nat) : c.left p < 18446744073709551616 := by
  unfold left; split; exact h.2.1; split; exact h.2.2; exact h.1
end RW

def flatR (ws : List RW) : List Value := ws.flatMap RW.vs
theorem flatR_len (ws : List RW) : (flatR ws).length = 6 * ws.length := by
  induction ws with
  | nil => rfl
  | cons c ws ih => show (RW.vs c ++ flatR ws).length = _; rw [List.length_append, ih, List.length_cons]; show 6 + _ = _; omega
theorem flatR_get : ∀ (ws : List RW) (k j : Nat) (c : RW), ws[k]? = some c → j < 6 → (flatR ws)[k * 6 + j]? = c.vs[j]?
  | [], _, _, _, h, _ => by simp at h
  | c :: ws, 0, j, c', h, hj => by
    have h : some c = some c' := h
    cases h
    show (RW.vs c ++ flatR ws)[0 * 6 + j]? = _
    rw [List.getElem?_append_left (by show 0 * 6 + j < 6; omega), Nat.zero_mul, Nat.zero_add]
  | c :: ws, k + 1, j, c', h, hj => by
    have h : ws[k]? = some c' := h
    show (RW.vs c ++ flatR ws)[(k + 1) * 6 + j]? = _
    rw [List.getElem?_append_right (by show 6 ≤ _; omega), ← flatR_get ws k j c' h hj]
    congr 1
    show (k + 1) * 6 + j - 6 = _
    omega
theorem flatR_set : ∀ (ws : List RW) (k j : Nat) (c c' : RW) (v : Value), ws[k]? = some c → j < 6 → c.vs.set j v = c'.vs → (flatR ws).set (k * 6 + j) v = flatR (ws.set k c')
  | [], _, _, _, _, _, h, _, _ => by simp at h
  | c :: ws, 0, j, c0, c', v, h, hj, hv => by
    have h : some c = some c0 := h
    cases h
    show (RW.vs c ++ flatR ws).set (0 * 6 + j) v = RW.vs c' ++ flatR ws
    rw [Nat.zero_mul, Nat.zero_add, List.set_append_left _ _ (by show j < 6; omega), hv]
  | c :: ws, k + 1, j, c0, c', v, h, hj, hv => by
    have h : ws[k]? = some c0 := h
    show (RW.vs c ++ flatR ws).set ((k + 1) * 6 + j) v = RW.vs c ++ flatR (ws.set k c')
    rw [List.set_append_right _ _ (by show 6 ≤ _; omega), ← flatR_set ws k j c0 c' v h hj hv]
    congr 2
    show (k + 1) * 6 + j - 6 = _
    omega
theorem flatR_noughts (n : Nat) : flatR (List.replicate n RW.nought) = (List.replicate n RW.nought.vs).flatten := by
  simp [flatR, List.flatMap_replicate]

theorem rmodify_set {f : RW → RW} {s : List RW} {k : Nat} {c : RW} (hc : s[k]? = some c) : s.modify k f = s.set k (f c) := by
  apply List.ext_getElem?
  intro i
  rw [List.getElem?_modify, List.getElem?_set]
  by_cases h : k = i
  · subst h
    obtain ⟨hl, he⟩ := List.getElem?_eq_some_iff.1 hc
    simp [hl, he]
  · simp [h]
def rturn (f : RW → RW) (a m : Nat) (ws : List RW) : List RW := (List.range m).foldl (fun s x => s.modify (a + x) f) ws
theorem rturn_succ (f : RW → RW) (a m : Nat) (ws : List RW) : rturn f a (m + 1) ws = (rturn f a m ws).modify (a + m) f := by
  unfold rturn; rw [List.range_succ, List.foldl_append]; rfl
theorem rturn_len (f : RW → RW) (a : Nat) (ws : List RW) : ∀ m, (rturn f a m ws).length = ws.length
  | 0 => rfl
  | m + 1 => by rw [rturn_succ, List.length_modify]; exact rturn_len f a ws m
theorem rturn_get (f : RW → RW) (a : Nat) (ws : List RW) (k : Nat) : ∀ m, (rturn f a m ws)[k]? = if a ≤ k ∧ k < a + m then (ws[k]?).map f else ws[k]?
  | 0 => by rw [if_neg (by omega)]; rfl
  | m + 1 => by
    rw [rturn_succ, List.getElem?_modify, rturn_get f a ws k m]
    by_cases h : a + m = k
    · subst h
      rw [if_neg (by omega), if_pos (by omega)]
      simp
    · rw [show (fun x : RW => if a + m = k then f x else x) = id from by funext x; rw [if_neg h]; rfl]
      by_cases h2 : a ≤ k ∧ k < a + m
      · rw [if_pos h2, if_pos (by omega)]; simp
      · rw [if_neg h2, if_neg (by omega)]; simp
theorem rturn_small {f : RW → RW} (hf : ∀ c, c.Small → (f c).Small) (a : Nat) (ws : List RW) (h : ∀ c ∈ ws, c.Small) : ∀ m, ∀ c ∈ rturn f a m ws, c.Small
  | m, c, hc => by
    obtain ⟨k, hk⟩ := List.getElem?_of_mem hc
    rw [rturn_get] at hk
    split at hk
    · cases e : ws[k]? with
      | none => rw [e] at hk; cases hk
      | some r => rw [e] at hk; cases hk; exact hf r (h r (List.mem_of_getElem? e))
    · exact h c (List.mem_of_getElem? hk)

def looseR (ws : List RW) : Nat := (ws.filter (·.loose)).length
theorem looseR_snoc (ws : List RW) (c : RW) : looseR (ws ++ [c]) = looseR ws + (if c.loose then 1 else 0) := by
  unfold looseR
  rw [List.filter_append, List.length_append]
  cases h : c.loose <;> simp [h]
theorem looseOf_snoc (ws : List PW) (c : PW) : looseOf (ws ++ [c]) = looseOf ws + (if c.loose then 1 else 0) := by
  unfold looseOf
  rw [List.filter_append, List.length_append]
  cases h : c.loose <;> simp [h]
theorem looseR_le (ws : List RW) : looseR ws ≤ ws.length := List.length_filter_le _ _
/-- A loss of power, word by word. -/
def lostV (ws : List RW) (ps : List Nat) (k : Nat) (r : RW) : Nat := if r.loose then r.left (ps.getD (looseR (ws.take k)) 0) else r.sure
def rcrash (ws : List RW) (ps : List Nat) (m : Nat) : List RW := (List.range m).foldl (fun s x => s.modify x (fun r => RW.all (lostV ws ps x r))) ws
theorem rcrash_succ (ws : List RW) (ps : List Nat) (m : Nat) : rcrash ws ps (m + 1) = (rcrash ws ps m).modify m (fun r => RW.all (lostV ws ps m r)) := by
  unfold rcrash; rw [List.range_succ, List.foldl_append]; rfl
theorem rcrash_len (ws : List RW) (ps : List Nat) : ∀ m, (rcrash ws ps m).length = ws.length
  | 0 => rfl
  | m + 1 => by rw [rcrash_succ, List.length_modify]; exact rcrash_len ws ps m
theorem rcrash_get (ws : List RW) (ps : List Nat) (k : Nat) : ∀ m, (rcrash ws ps m)[k]? = if k < m then (ws[k]?).map (fun r => RW.all (lostV ws ps k r)) else ws[k]?
  | 0 => by rw [if_neg (by omega)]; rfl
  | m + 1 => by
    rw [rcrash_succ, List.getElem?_modify, rcrash_get ws ps k m]
    by_cases h : m = k
    · subst h
      rw [if_neg (by omega), if_pos (by omega)]
      simp
    · rw [show (fun x : RW => if m = k then RW.all (lostV ws ps m x) else x) = id from by funext x; rw [if_neg h]; rfl]
      by_cases h2 : k < m
      · rw [if_pos h2, if_pos (by omega)]; simp
      · rw [if_neg h2, if_neg (by omega)]; simp
theorem lostV_small {ws : List RW} {ps : List Nat} {k : Nat} {r : RW} (h : r.Small) : lostV ws ps k r < 18446744073709551616 := by
  unfold lostV; split; exact RW.left_small h _; exact h.1
theorem rcrash_small (ws : List RW) (ps : List Nat) (h : ∀ c ∈ ws, c.Small) (m : Nat) : ∀ c ∈ rcrash ws ps m, c.Small := by
  intro c hc
  obtain ⟨k, hk⟩ := List.getElem?_of_mem hc
  rw [rcrash_get] at hk
  split at hk
  · cases e : ws[k]? with
    | none => rw [e] at hk; cases hk
    | some r => rw [e] at hk; cases hk; have := lostV_small (ws := ws) (ps := ps) (k := k) (h r (List.mem_of_getElem? e)); exact ⟨this, this, by show 0 < _; decide⟩
  · exact h c (List.mem_of_getElem? hk)

/-- A word of the program's, one of the document's: the same to whoever asks. -/
structure OkW (c : PW) (r : RW) : Prop where
  sure : c.sure = r.sure
  seen : c.seen = r.seen
  loose : c.loose = r.loose
  flushed : c.flushed = r.flushed
  kept : c.flushed = true → c.kept = r.value ∧ c.again = r.again
  firm : c.loose = false → c.seen = c.sure ∧ c.flushed = false
  last : c.flushed = true → c.again = false → c.kept = c.seen
theorem OkW.nought : OkW PW.nought RW.nought := ⟨rfl, rfl, rfl, rfl, fun h => (by cases h), fun _ => ⟨rfl, rfl⟩, fun h => (by cases h)⟩
theorem OkW.store {c : PW} {r : RW} (h : OkW c r) (v : Nat) : OkW (c.store v) (r.store v) :=
  ⟨h.sure, rfl, rfl, h.flushed, fun e => ⟨(h.kept e).1, e⟩, fun e => (by cases e), fun e e2 => (by
    have e : c.flushed = true := e
    have e2 : c.flushed = false := e2
    rw [e] at e2; cases e2)⟩
theorem OkW.flush {c : PW} {r : RW} (h : OkW c r) : OkW c.flush r.flush := by
  unfold PW.flush RW.flush
  rw [h.loose]
  cases hl : r.loose with
  | false => simpa using h
  | true =>
    rw [if_pos rfl, if_pos rfl]
    exact ⟨h.sure, h.seen, rfl, rfl, fun _ => ⟨h.seen, rfl⟩, fun e => (by cases e), fun _ _ => rfl⟩
theorem OkW.fence {c : PW} {r : RW} (h : OkW c r) : OkW c.fence r.fence := by
  unfold PW.fence RW.fence
  rw [h.flushed]
  cases hl : r.flushed with
  | false => simpa using h
  | true =>
    have hf : c.flushed = true := by rw [h.flushed, hl]
    obtain ⟨k1, k2⟩ := h.kept hf
    exact ⟨k1, h.seen, k2, rfl, fun e => (by cases e), fun e => ⟨(h.last hf e).symm, rfl⟩, fun e => (by cases e)⟩
theorem OkW.evict {c : PW} {r : RW} (h : OkW c r) : OkW c.evict r.evict := by
  unfold PW.evict RW.evict
  rw [h.loose]
  cases hl : r.loose with
  | false => simpa using h
  | true => exact ⟨h.seen, h.seen, rfl, rfl, fun e => (by cases e), fun _ => ⟨rfl, rfl⟩, fun e => (by cases e)⟩
theorem OkW.left {c : PW} {r : RW} (h : OkW c r) (p : Nat) : c.left p = r.left p := by
  unfold PW.left RW.left
  rw [h.seen, h.sure, h.flushed]
  split
  · rfl
  · split
    · rename_i hx; exact (h.kept (by rw [h.flushed]; exact hx.2)).1
    · rfl
theorem okW_all {v u : Nat} (h : v = u) : OkW ⟨v, v, false, false, false, 0⟩ (RW.all u) := by
  subst h; exact ⟨rfl, rfl, rfl, rfl, fun e => (by cases e), fun _ => ⟨rfl, rfl⟩, fun e => (by cases e)⟩

structure Rel (ws : List PW) (rs : List RW) : Prop where
  len : ws.length = rs.length
  ok : ∀ (k : Nat) (c : PW) (r : RW), ws[k]? = some c → rs[k]? = some r → OkW c r
theorem Rel.turn {f : PW → PW} {g : RW → RW} (hfg : ∀ c r, OkW c r → OkW (f c) (g r)) {ws : List PW} {rs : List RW} (h : Rel ws rs) (a m : Nat) : Rel (turnFrom f a m ws) (rturn g a m rs) := by
  refine ⟨by rw [turnFrom_len, rturn_len]; exact h.len, fun k c r hc hr => ?_⟩
  rw [turnFrom_get] at hc
  rw [rturn_get] at hr
  by_cases hk : a ≤ k ∧ k < a + m
  · rw [if_pos hk] at hc hr
    cases e1 : ws[k]? with
    | none => rw [e1] at hc; cases hc
    | some c0 =>
      cases e2 : rs[k]? with
      | none => rw [e2] at hr; cases hr
      | some r0 => rw [e1] at hc; rw [e2] at hr; cases hc; cases hr; exact hfg _ _ (h.ok k c0 r0 e1 e2)
  · rw [if_neg hk] at hc hr; exact h.ok k c r hc hr
theorem Rel.map {f : PW → PW} {g : RW → RW} (hfg : ∀ c r, OkW c r → OkW (f c) (g r)) {ws : List PW} {rs : List RW} (h : Rel ws rs) (m : Nat) (hm : rs.length ≤ m) : Rel (ws.map f) (rturn g 0 m rs) := by
  have := h.turn hfg 0 m
  rwa [turnFrom_all f ws m (by rw [h.len]; exact hm)] at this
theorem Rel.modify {f : PW → PW} {g : RW → RW} (hfg : ∀ c r, OkW c r → OkW (f c) (g r)) {ws : List PW} {rs : List RW} (h : Rel ws rs) (a : Nat) : Rel (ws.modify a f) (rs.modify a g) := by
  have := h.turn hfg a 1
  rwa [turnFrom_succ, rturn_succ] at this
theorem Rel.loose {ws : List PW} {rs : List RW} (h : Rel ws rs) : ∀ k, looseOf (ws.take k) = looseR (rs.take k)
  | 0 => by simp [looseOf, looseR]
  | k + 1 => by
    cases e1 : ws[k]? with
    | none =>
      have hl : ws.length ≤ k := List.getElem?_eq_none_iff.1 e1
      have := h.loose k
      rw [List.take_of_length_le hl, List.take_of_length_le (by rw [← h.len]; exact hl)] at this
      rw [List.take_of_length_le (by omega), List.take_of_length_le (by rw [← h.len]; omega)]
      exact this
    | some c =>
      have hl := (List.getElem?_eq_some_iff.1 e1).1
      have hl2 : k < rs.length := by rw [← h.len]; exact hl
      have e2 : rs[k]? = some rs[k] := List.getElem?_eq_getElem hl2
      have ec : ws[k] = c := (List.getElem?_eq_some_iff.1 e1).2
      rw [List.take_succ_eq_append_getElem hl, List.take_succ_eq_append_getElem hl2, looseOf_snoc, looseR_snoc, h.loose k, ec, (h.ok k c _ e1 e2).loose]
theorem Rel.looseAll {ws : List PW} {rs : List RW} (h : Rel ws rs) : looseOf ws = looseR rs := by
  have := h.loose ws.length
  rwa [List.take_of_length_le (Nat.le_refl _), List.take_of_length_le (by rw [h.len]; exact Nat.le_refl _)] at this
theorem Rel.same {α : Type} {p : PW → α} {q : RW → α} (hpq : ∀ c r, OkW c r → p c = q r) {ws : List PW} {rs : List RW} (h : Rel ws rs) : ws.map p = rs.map q := by
  apply List.ext_getElem?
  intro k
  rw [List.getElem?_map, List.getElem?_map]
  cases e1 : ws[k]? with
  | none => rw [List.getElem?_eq_none (by have := List.getElem?_eq_none_iff.1 e1; have := h.len; omega)]; rfl
  | some c =>
    have hl := (List.getElem?_eq_some_iff.1 e1).1
    have hl3 : k < rs.length := by rw [← h.len]; exact hl
    have e2 : rs[k]? = some rs[k] := List.getElem?_eq_getElem hl3
    rw [e2]
    exact congrArg some (hpq _ _ (h.ok k c _ e1 e2))
theorem crash_get : ∀ (ws : List PW) (ps : List Nat) (k : Nat), (crash ws ps)[k]? = (ws[k]?).map (fun c => if c.loose then c.lose (ps.getD (looseOf (ws.take k)) 0) else c)
  | [], _, _ => by simp [crash]
  | c :: cs, ps, 0 => by
    unfold crash
    cases h : c.loose with
    | false => simp [h]
    | true => cases ps <;> simp [h, looseOf]
  | c :: cs, ps, k + 1 => by
    unfold crash
    cases h : c.loose with
    | false =>
      simp only [Bool.false_eq_true, if_false, List.getElem?_cons_succ, List.take_succ_cons]
      rw [crash_get cs ps k, show looseOf (c :: cs.take k) = looseOf (cs.take k) from by simp [looseOf, h]]
    | true =>
      simp only [if_true, List.getElem?_cons_succ, List.take_succ_cons]
      rw [crash_get cs ps.tail k, show looseOf (c :: cs.take k) = looseOf (cs.take k) + 1 from by simp [looseOf, h]]
      congr 1
      funext c'
      cases ps <;> simp
theorem Rel.crash {ws : List PW} {rs : List RW} (h : Rel ws rs) (ps : List Nat) (m : Nat) (hm : m = rs.length) : Rel (Go.Grommet.crash ws ps) (rcrash rs ps m) := by
  refine ⟨by rw [crash_len, rcrash_len]; exact h.len, fun k c r hc hr => ?_⟩
  rw [crash_get] at hc
  rw [rcrash_get] at hr
  cases e1 : ws[k]? with
  | none => rw [e1] at hc; cases hc
  | some c0 =>
    have hl := (List.getElem?_eq_some_iff.1 e1).1
    rw [if_pos (by rw [hm, ← h.len]; exact hl)] at hr
    cases e2 : rs[k]? with
    | none => rw [e2] at hr; cases hr
    | some r0 =>
      rw [e1] at hc
      rw [e2] at hr
      cases hc
      cases hr
      have hok := h.ok k c0 r0 e1 e2
      unfold lostV
      dsimp only
      rw [hok.loose, h.loose k]
      cases hlo : r0.loose with
      | true =>
        simp only [if_true]
        exact okW_all (hok.left _)
      | false =>
        simp only [Bool.false_eq_true, if_false]
        obtain ⟨f1, f2⟩ := hok.firm (by rw [hok.loose, hlo])
        exact ⟨hok.sure, by rw [f1]; exact hok.sure, by rw [hok.loose, hlo]; rfl, f2, fun e => (by rw [f2] at e; cases e), fun _ => ⟨f1, f2⟩, fun e => (by rw [f2] at e; cases e)⟩
end Go.Grommet
