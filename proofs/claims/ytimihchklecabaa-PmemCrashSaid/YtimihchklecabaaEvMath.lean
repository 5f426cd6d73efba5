/- Words of a device that was filled; a line evicted. -/
import Derived.Test.YtimihchklecabaaPmMath2
namespace Go.Grommet

/-- What is not loose is sure as it is seen. -/
def PW.Fair (c : PW) : Prop := c.loose = false → c.sure = c.seen
theorem PW.nought_fair : PW.nought.Fair := fun _ => rfl
theorem PW.store_fair (c : PW) (v : Nat) : (c.store v).Fair := fun h => by simp [PW.store] at h
theorem PW.flush_fair {c : PW} (h : c.Fair) : c.flush.Fair := by unfold PW.flush; split; · intro h'; simp at h'
                                                                 · exact h
def Fairs (ws : List PW) : Prop := ∀ (k : Nat) (c : PW), ws[k]? = some c → c.Fair
theorem Fairs.turn {f : PW → PW} {a m : Nat} {ws : List PW} (h : Fairs ws) (hf : ∀ c, c.Fair → (f c).Fair) : Fairs (turnFrom f a m ws) := by
  intro k c hc
  rw [turnFrom_get] at hc
  split at hc
  · cases hw : ws[k]? with
    | none => rw [hw] at hc; cases hc
    | some c0 => rw [hw] at hc; cases hc; exact hf _ (h k c0 hw)
  · exact h k c hc
theorem Fairs.modify {f : PW → PW} {a : Nat} {ws : List PW} (h : Fairs ws) (hf : ∀ c, c.Fair → (f c).Fair) : Fairs (ws.modify a f) := by
  intro k c hc
  rw [List.getElem?_modify] at hc
  cases hw : ws[k]? with
  | none => rw [hw] at hc; cases hc
  | some c0 =>
    rw [hw] at hc
    by_cases e : a = k
    · simp [e] at hc; rw [← hc]; exact hf _ (h k c0 hw)
    · simp [e] at hc; rw [← hc]; exact h k c0 hw

theorem evict_seen (c : PW) : c.evict.seen = c.seen := by unfold PW.evict; split <;> rfl
theorem evict_sure {c : PW} (h : c.Fair) : c.evict.sure = c.seen := by
  unfold PW.evict
  cases hl : c.loose with
  | true => rw [if_pos rfl]
  | false => rw [if_neg (by simp)]; exact h hl
theorem evict_loose (c : PW) : c.evict.loose = false := by
  unfold PW.evict
  cases hl : c.loose with
  | true => rw [if_pos rfl]
  | false => rw [if_neg (by simp)]; exact hl
theorem evict_evict (c : PW) : c.evict.evict = c.evict := by
  have h := evict_loose c
  generalize c.evict = e at h ⊢
  unfold PW.evict
  rw [if_neg (by simp [h])]
/-- As it is seen. -/
def PW.shown (c : PW) : PW := { c with sure := c.seen }

theorem map_turn {α : Type} {g : PW → α} {f : PW → PW} (a m : Nat) (ws : List PW) (h : ∀ c, g (f c) = g c) : (turnFrom f a m ws).map g = ws.map g := by
  apply List.ext_getElem?
  intro k
  rw [List.getElem?_map, List.getElem?_map, turnFrom_get]
  split
  · cases ws[k]? <;> simp [h]
  · rfl
theorem evict_line_seen (a : Nat) (ws : List PW) : (turnFrom PW.evict a 8 ws).map (·.seen) = ws.map (·.seen) := map_turn a 8 ws evict_seen
theorem evict_line_sure (a : Nat) (ws : List PW) (h : Fairs ws) : (turnFrom PW.evict a 8 ws).map (·.sure) = (turnFrom PW.shown a 8 ws).map (·.sure) := by
  apply List.ext_getElem?
  intro k
  rw [List.getElem?_map, List.getElem?_map, turnFrom_get, turnFrom_get]
  by_cases hk : a ≤ k ∧ k < a + 8
  · rw [if_pos hk, if_pos hk]
    cases hw : ws[k]? with
    | none => rfl
    | some c => simp [evict_sure (h k c hw), PW.shown]
  · rw [if_neg hk, if_neg hk]
theorem evict_line_twice (a : Nat) (ws : List PW) : turnFrom PW.evict a 8 (turnFrom PW.evict a 8 ws) = turnFrom PW.evict a 8 ws := by
  apply List.ext_getElem?
  intro k
  rw [turnFrom_get, turnFrom_get]
  by_cases hk : a ≤ k ∧ k < a + 8
  · rw [if_pos hk, if_pos hk]
    cases ws[k]? <;> simp [evict_evict]
  · rw [if_neg hk, if_neg hk]
theorem filter_few (a : Nat) (xs : List PW) (h : ∀ k c, xs[k]? = some c → a ≤ k → k < a + 8 → c.loose = false) (hl : xs.length = 16) (ha : a = 0 ∨ a = 8) : looseOf xs ≤ 8 := by
  have hsplit : xs = xs.take 8 ++ xs.drop 8 := (List.take_append_drop 8 xs).symm
  unfold looseOf
  rw [hsplit, List.filter_append, List.length_append]
  have h1 : (List.filter (·.loose) (xs.take 8)).length ≤ 8 := Nat.le_trans (List.length_filter_le _ _) (by rw [List.length_take]; omega)
  have h2 : (List.filter (·.loose) (xs.drop 8)).length ≤ 8 := Nat.le_trans (List.length_filter_le _ _) (by rw [List.length_drop]; omega)
  rcases ha with e | e
  · have : List.filter (·.loose) (xs.take 8) = [] := by
      rw [List.filter_eq_nil_iff]
      intro c hc
      obtain ⟨k, hk⟩ := List.getElem?_of_mem hc
      rw [List.getElem?_take] at hk
      split at hk
      · rw [h k c hk (by omega) (by omega)]; simp
      · cases hk
    rw [this]; simpa using h2
  · have : List.filter (·.loose) (xs.drop 8) = [] := by
      rw [List.filter_eq_nil_iff]
      intro c hc
      obtain ⟨k, hk⟩ := List.getElem?_of_mem hc
      rw [List.getElem?_drop] at hk
      have hlt := (List.getElem?_eq_some_iff.1 hk).1
      rw [h (8 + k) c hk (by omega) (by omega)]; simp
    rw [this]; simpa using h1
theorem evict_line_loose (a : Nat) (ws : List PW) (hl : ws.length = 16) (ha : a = 0 ∨ a = 8) : looseOf (turnFrom PW.evict a 8 ws) ≤ 8 := by
  refine filter_few a _ ?_ (by rw [turnFrom_len, hl]) ha
  intro k c hc h1 h2
  rw [turnFrom_get, if_pos ⟨h1, h2⟩] at hc
  cases hw : ws[k]? with
  | none => rw [hw] at hc; cases hc
  | some c0 => rw [hw] at hc; cases hc; exact evict_loose c0
/-- One word more is as it is seen. -/
theorem shown_succ (a m : Nat) (ws : List PW) (c : PW) (hc : ws[a + m]? = some c) : (turnFrom PW.shown a (m + 1) ws).map (·.sure) = ((turnFrom PW.shown a m ws).map (·.sure)).set (a + m) c.seen := by
  apply List.ext_getElem?
  intro k
  rw [List.getElem?_map, turnFrom_get]
  by_cases e : a + m = k
  · subst e
    rw [List.getElem?_set_self (by rw [List.length_map, turnFrom_len]; exact (List.getElem?_eq_some_iff.1 hc).1), if_pos (by omega), hc]; rfl
  · rw [List.getElem?_set_ne e, List.getElem?_map, turnFrom_get]
    by_cases hk : a ≤ k ∧ k < a + m
    · rw [if_pos hk, if_pos (by omega)]
    · rw [if_neg hk, if_neg (by omega)]
end Go.Grommet
