/- What a save turns. -/
import Derived.Test.YtdpkpphjpihhkaaSloO
namespace Go.Proofs.Ytdpkpphjpihhkaa
open Go.RowKit Go.Grommet

/-- What stands last at a place. -/
def lk : List (Int × Nat) → Nat → Option Nat
  | [], _ => none
  | (p, v) :: t, b => match lk t b with | some u => some u | none => if p = (b : Int) then some v else none
theorem lk_append : ∀ (A B : List (Int × Nat)) (b : Nat), lk (A ++ B) b = match lk B b with | some u => some u | none => lk A b
  | [], B, b => by show lk B b = _; cases lk B b <;> rfl
  | (p, v) :: t, B, b => by
    show (match lk (t ++ B) b with | some u => some u | none => if p = (b : Int) then some v else none) = _
    rw [lk_append t B b]
    cases lk B b with
    | some u => rfl
    | none => rfl
theorem all_lk (xs : List Nat) : ∀ (S : List (Int × Nat)) (L : List (Nat × Nat)), (∀ s ∈ S, 0 ≤ s.1 ∧ s.1 < (xs.length : Int)) → L.length + S.length ≤ 96 →
    allE xs L S = 0 ∧ ∀ b : Nat, gotV xs (allL xs L S) b = (lk S b).getD (gotV xs L b)
  | [], L, _, _ => ⟨rfl, fun b => rfl⟩
  | (p, v) :: t, L, h, hl => by
    obtain ⟨h0, h1⟩ := h (p, v) (List.mem_cons_self ..)
    obtain ⟨a, rfl⟩ := Int.eq_ofNat_of_zero_le h0
    rw [List.length_cons] at hl
    have h1 : (a : Int) < (xs.length : Int) := h1
    have e0 : setE xs L (a : Int) v = 0 := setE_ok (by omega) (by omega)
    have hl1 := setL_length xs L (a : Int) v
    obtain ⟨i1, i2⟩ := all_lk xs t (setL xs L (a : Int) v) (fun s hs => h s (List.mem_cons_of_mem _ hs)) (by omega)
    constructor
    · show (if setE xs L (a : Int) v = 0 then _ else _) = 0
      rw [if_pos e0]; exact i1
    · intro b
      show gotV xs (if setE xs L (a : Int) v = 0 then _ else _) b = (match lk t b with | some u => some u | none => if (a : Int) = (b : Int) then some v else none).getD _
      rw [if_pos e0, i2 b, setL_got (by omega) (by omega) b]
      cases lk t b with
      | some u => rfl
      | none =>
        by_cases hab : b = a
        · rw [if_pos hab, if_pos (by omega)]
          all_goals rfl
        · rw [if_neg hab, if_neg (by omega)]
          all_goals rfl
/-- What stands there already is not put. -/
theorem all_same (xs : List Nat) (L : List (Nat × Nat)) : ∀ (S : List (Int × Nat)), (∀ s ∈ S, 0 ≤ s.1 ∧ s.1 < (xs.length : Int) ∧ gotI xs L s.1 = s.2) → allE xs L S = 0 ∧ allL xs L S = L
  | [], _ => ⟨rfl, rfl⟩
  | (p, v) :: t, h => by
    obtain ⟨h0, h1, h2⟩ := h (p, v) (List.mem_cons_self ..)
    have h0 : 0 ≤ p := h0
    have h1 : p < (xs.length : Int) := h1
    have h2 : gotI xs L p = v := h2
    unfold gotI at h2
    rw [if_pos ⟨h0, h1⟩] at h2
    have e1 : setE xs L p v = 0 := by unfold setE; rw [if_pos ⟨h0, h1⟩, if_pos h2]
    have e2 : setL xs L p v = L := by unfold setL; rw [if_pos ⟨h0, h1⟩, if_pos h2]
    have ih := all_same xs L t (fun s hs => h s (List.mem_cons_of_mem _ hs))
    constructor
    · show (if setE xs L p v = 0 then allE xs (setL xs L p v) t else _) = 0
      rw [if_pos e1, e2]; exact ih.1
    · show (if setE xs L p v = 0 then allL xs (setL xs L p v) t else _) = L
      rw [if_pos e1, e2]; exact ih.2
theorem lk_words (sl : Int) (ws : List Nat) (b : Nat) : ∀ j : Nat, lk (wordsT sl ws j) b = if sl + 4 ≤ (b : Int) ∧ (b : Int) < sl + 4 + (j : Int) then some (ws.getD ((b : Int) - sl - 4).toNat 0) else none
  | 0 => by rw [if_neg (by omega)]; rfl
  | j + 1 => by
    show lk (wordsT sl ws j ++ [(sl + 4 + (j : Int), ws.getD j 0)]) b = _
    rw [lk_append, lk_words sl ws b j]
    show (match (if sl + 4 + (j : Int) = (b : Int) then some (ws.getD j 0) else none) with | some u => some u | none => _) = _
    by_cases h : sl + 4 + (j : Int) = (b : Int)
    · rw [if_pos h]
      show some (ws.getD j 0) = _
      rw [if_pos ⟨by omega, by omega⟩, show ((b : Int) - sl - 4).toNat = j from by omega]
    · rw [if_neg h]
      show (if sl + 4 ≤ (b : Int) ∧ (b : Int) < sl + 4 + (j : Int) then some (ws.getD ((b : Int) - sl - 4).toNat 0) else none) = _
      by_cases h2 : sl + 4 ≤ (b : Int) ∧ (b : Int) < sl + 4 + (j : Int)
      · rw [if_pos h2, if_pos ⟨by omega, by omega⟩]
      · rw [if_neg h2, if_neg (by omega)]
theorem lk_save (sl : Int) (C ra rb sq : Nat) (ws : List Nat) (b : Nat) : lk (saveS sl C ra rb ws sq) b =
    if sl = (b : Int) then some sq else if sl + 4 ≤ (b : Int) ∧ (b : Int) < sl + 4 + (ws.length : Int) then some (ws.getD ((b : Int) - sl - 4).toNat 0) else
    if sl + 3 = (b : Int) then some rb else if sl + 2 = (b : Int) then some ra else if sl + 1 = (b : Int) then some C else none := by
  unfold saveS
  rw [lk_append, lk_append, lk_words]
  have e1 : lk [(sl, sq)] b = if sl = (b : Int) then some sq else none := rfl
  have e2 : lk [(sl + 1, C), (sl + 2, ra), (sl + 3, rb)] b = if sl + 3 = (b : Int) then some rb else if sl + 2 = (b : Int) then some ra else if sl + 1 = (b : Int) then some C else none := by
    unfold lk lk lk lk
    by_cases h3 : sl + 3 = (b : Int)
    · simp [h3]
    · by_cases h2 : sl + 2 = (b : Int)
      · simp [h2, h3]
      · simp [h2, h3]
  rw [e1, e2]
  by_cases h0 : sl = (b : Int)
  · rw [if_pos h0, if_pos h0]
  · rw [if_neg h0, if_neg h0]
    by_cases h1 : sl + 4 ≤ (b : Int) ∧ (b : Int) < sl + 4 + (ws.length : Int)
    · rw [if_pos h1, if_pos h1]
    · rw [if_neg h1, if_neg h1]
end Go.Proofs.Ytdpkpphjpihhkaa
