/- A loss of power where all that is seen is picked, or nothing. -/
import Derived.Test.YtimihchklecabaaEvMath
namespace Go.Grommet

theorem crash_none : ∀ (ws : List PW), Fairs ws → (crash ws []).map (·.sure) = ws.map (·.sure) ∧ (crash ws []).map (·.seen) = ws.map (·.sure) ∧ looseOf (crash ws []) = 0
  | [], _ => ⟨rfl, rfl, rfl⟩
  | c :: ws, h => by
    have hw : Fairs ws := fun k c' hc => h (k + 1) c' hc
    have hc : c.Fair := h 0 c rfl
    obtain ⟨i1, i2, i3⟩ := crash_none ws hw
    unfold crash
    cases hl : c.loose with
    | true =>
      rw [if_pos rfl]
      have e1 : (c.lose 0).sure = c.sure := by unfold PW.lose PW.left; simp
      have e2 : (c.lose 0).seen = c.sure := by unfold PW.lose PW.left; simp
      have e3 : (c.lose 0).loose = false := rfl
      refine ⟨by simp [e1]; exact i1, by simp [e2]; exact i2, ?_⟩
      unfold looseOf at i3 ⊢
      rw [List.filter_cons_of_neg (by simp [e3])]; exact i3
    | false =>
      rw [if_neg (by simp)]
      refine ⟨by simp; exact i1, by simp [← hc hl]; exact i2, ?_⟩
      unfold looseOf at i3 ⊢
      rw [List.filter_cons_of_neg (by simp [hl])]; exact i3
theorem crash_all : ∀ (ws : List PW) (m : Nat), ws.length ≤ m → Fairs ws → (crash ws (List.replicate m 2)).map (·.sure) = ws.map (·.seen) ∧ (crash ws (List.replicate m 2)).map (·.seen) = ws.map (·.seen) ∧ looseOf (crash ws (List.replicate m 2)) = 0
  | [], _, _, _ => ⟨rfl, rfl, rfl⟩
  | c :: ws, m, hm, h => by
    have hw : Fairs ws := fun k c' hc => h (k + 1) c' hc
    have hc : c.Fair := h 0 c rfl
    rw [List.length_cons] at hm
    unfold crash
    cases hl : c.loose with
    | true =>
      rw [if_pos rfl]
      obtain ⟨m', rfl⟩ : ∃ m', m = m' + 1 := ⟨m - 1, by omega⟩
      obtain ⟨i1, i2, i3⟩ := crash_all ws m' (by omega) hw
      rw [List.replicate_succ]
      have e1 : (c.lose 2).sure = c.seen := by unfold PW.lose PW.left; simp
      have e2 : (c.lose 2).seen = c.seen := by unfold PW.lose PW.left; simp
      have e3 : (c.lose 2).loose = false := rfl
      refine ⟨by simp [e1]; exact i1, by simp [e2]; exact i2, ?_⟩
      unfold looseOf at i3 ⊢
      rw [List.headD_cons, List.tail_cons, List.filter_cons_of_neg (by simp [e3])]; exact i3
    | false =>
      obtain ⟨i1, i2, i3⟩ := crash_all ws m (by omega) hw
      rw [if_neg (by simp)]
      refine ⟨by simp [hc hl]; exact i1, by simp; exact i2, ?_⟩
      unfold looseOf at i3 ⊢
      rw [List.filter_cons_of_neg (by simp [hl])]; exact i3
end Go.Grommet
