/- Memory that outlives the power: one word, and a row of them. -/
import Derived.Test.YtimihchklecabaaBase6
namespace Go.Grommet
open Go.RowKit

/-- A word of a device: what is sure, what is seen, its marks. -/
structure PW where
  sure : Nat
  seen : Nat
  loose : Bool
  flushed : Bool
  again : Bool
  kept : Nat

namespace PW
def nought : PW := ⟨0, 0, false, false, false, 0⟩
def vs (c : PW) : List Value := [.int .u64 (c.sure : Int), .int .u64 (c.seen : Int), .bool c.loose, .bool c.flushed, .bool c.again, .int .u64 (c.kept : Int)]
def store (c : PW) (v : Nat) : PW := { c with seen := v, loose := true, again := c.flushed }
def flush (c : PW) : PW := if c.loose then { c with loose := true, flushed := true, again := false, kept := c.seen } else c
def fence (c : PW) : PW := if c.flushed then ⟨c.kept, c.seen, c.again, false, false, 0⟩ else c
def evict (c : PW) : PW := if c.loose then ⟨c.seen, c.seen, false, false, false, 0⟩ else c
def left (c : PW) (p : Nat) : Nat := if p % 3 = 2 then c.seen else if p % 3 = 1 ∧ c.flushed = true then c.kept else c.sure
def lose (c : PW) (p : Nat) : PW := ⟨c.left p, c.left p, false, false, false, 0⟩
def Small (c : PW) : Prop := c.sure < 18446744073709551616 ∧ c.seen < 18446744073709551616 ∧ c.kept < 18446744073709551616
theorem nought_small : nought.Small := ⟨by decide, by decide, by decide⟩
theorem store_small {c : PW} (h : c.Small) {v : Nat} (hv : v < 18446744073709551616) : (c.store v).Small := ⟨h.1, hv, h.2.2⟩
theorem flush_small {c : PW} (h : c.Small) : c.flush.Small := by unfold flush; split; exact ⟨h.1, h.2.1, h.2.1⟩; exact h
theorem fence_small {c : PW} (h : c.Small) : c.fence.Small := by unfold fence; split; exact ⟨h.2.2, h.2.1, by show 0 < _; decide⟩; exact h
theorem evict_small {c : PW} (h : c.Small) : c.evict.Small := by unfold evict; split; exact ⟨h.2.1, h.2.1, by show 0 < _; decide⟩; exact h
theorem left_small {c : PW} (h : c.Small) (p : Nat) : c.left p < 18446744073709551616 := by
  unfold left; split; exact h.2.1; split; exact h.2.2; exact h.1
theorem lose_small {c : PW} (h : c.Small) (p : Nat) : (c.lose p).Small := ⟨left_small h p, left_small h p, by show 0 < _; decide⟩
end PW

/-- A row of words as values, one behind the other. -/
def flat (ws : List PW) : List Value := ws.flatMap PW.vs
theorem flat_len (ws : List PW) : (flat ws).length = 6 * ws.length := by
  induction ws with
  | nil => rfl
  | cons c ws ih => show (PW.vs c ++ flat ws).length = _; rw [List.length_append, ih, List.length_cons]; show 6 + _ = _; omega
theorem flat_get : ∀ (ws : List PW) (k j : Nat) (c : PW), ws[k]? = some c → j < 6 → (flat ws)[k * 6 + j]? = c.vs[j]?
  | [], _, _, _, h, _ => by simp at h
  | c :: ws, 0, j, c', h, hj => by
    have h : some c = some c' := h
    cases h
    show (PW.vs c ++ flat ws)[0 * 6 + j]? = _
    rw [List.getElem?_append_left (by show 0 * 6 + j < 6; omega), Nat.zero_mul, Nat.zero_add]
  | c :: ws, k + 1, j, c', h, hj => by
    have h : ws[k]? = some c' := h
    show (PW.vs c ++ flat ws)[(k + 1) * 6 + j]? = _
    rw [List.getElem?_append_right (by show 6 ≤ _; omega), ← flat_get ws k j c' h hj]
    congr 1
    show (k + 1) * 6 + j - 6 = _
    omega
theorem flat_set : ∀ (ws : List PW) (k j : Nat) (c c' : PW) (v : Value), ws[k]? = some c → j < 6 → c.vs.set j v = c'.vs → (flat ws).set (k * 6 + j) v = flat (ws.set k c')
  | [], _, _, _, _, _, h, _, _ => by simp at h
  | c :: ws, 0, j, c0, c', v, h, hj, hv => by
    have h : some c = some c0 := h
    cases h
    show (PW.vs c ++ flat ws).set (0 * 6 + j) v = PW.vs c' ++ flat ws
    rw [List.set_append_left _ _ (by show 0 * 6 + j < 6; omega), Nat.zero_mul, Nat.zero_add, hv]
  | c :: ws, k + 1, j, c0, c', v, h, hj, hv => by
    have h : ws[k]? = some c0 := h
    show (PW.vs c ++ flat ws).set ((k + 1) * 6 + j) v = PW.vs c ++ flat (ws.set k c')
    rw [List.set_append_right _ _ (by show 6 ≤ _; omega), ← flat_set ws k j c0 c' v h hj hv]
    congr 1
    show (flat ws).set ((k + 1) * 6 + j - 6) v = _
    congr 1
    omega
theorem flat_noughts (n : Nat) : flat (List.replicate n PW.nought) = (List.replicate n PW.nought.vs).flatten := by
  unfold flat; rw [List.flatMap_def, List.map_replicate]

/-- A loss of power: picks are taken by what is loose, one each. -/
def crash : List PW → List Nat → List PW
  | [], _ => []
  | c :: cs, ps => if c.loose then c.lose (ps.headD 0) :: crash cs ps.tail else c :: crash cs ps
def looseOf (ws : List PW) : Nat := (ws.filter (·.loose)).length
theorem crash_len : ∀ (ws : List PW) (ps : List Nat), (crash ws ps).length = ws.length
  | [], _ => rfl
  | c :: cs, ps => by unfold crash; split <;> simp [crash_len]
end Go.Grommet
