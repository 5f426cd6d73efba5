/- What a wipe turns. -/
import Derived.Test.YtkeghhchbdkaoaaSloJ
import Derived.Test.YtkeghhchbdkaoaaLayS
namespace Go.Proofs.Ytkeghhchbdkaoaa
open Go.RowKit Go.Grommet

/-- Words set to nought: all come, and just they are noughts. -/
theorem all_zero (xs : List Nat) : ∀ (S : List (Int × Nat)) (L : List (Nat × Nat)), (∀ s ∈ S, 0 ≤ s.1 ∧ s.1 < (xs.length : Int) ∧ s.2 = 0) → L.length + S.length ≤ 96 →
    allE xs L S = 0 ∧ ∀ b : Nat, gotV xs (allL xs L S) b = if (S.any fun s => s.1 == (b : Int)) = true then 0 else gotV xs L b
  | [], L, _, _ => ⟨rfl, fun b => by rw [if_neg (by simp)]; rfl⟩
  | (p, v) :: t, L, h, hl => by
    obtain ⟨h0, h1, h2⟩ := h (p, v) (List.mem_cons_self ..)
    obtain ⟨a, rfl⟩ := Int.eq_ofNat_of_zero_le h0
    have h2 : v = 0 := h2
    subst h2
    rw [List.length_cons] at hl
    have h1 : (a : Int) < (xs.length : Int) := h1
    have e0 : setE xs L (a : Int) 0 = 0 := setE_ok (by omega) (by omega)
    have hl1 := setL_length xs L (a : Int) 0
    obtain ⟨i1, i2⟩ := all_zero xs t (setL xs L (a : Int) 0) (fun s hs => h s (List.mem_cons_of_mem _ hs)) (by omega)
    constructor
    · show (if setE xs L (a : Int) 0 = 0 then _ else _) = 0
      rw [if_pos e0]; exact i1
    · intro b
      show gotV xs (if setE xs L (a : Int) 0 = 0 then _ else _) b = _
      rw [if_pos e0, i2 b, setL_got (by omega) (by omega) b, List.any_cons]
      by_cases hb : (t.any fun s => s.1 == (b : Int)) = true
      · rw [if_pos hb, if_pos (by rw [hb]; simp)]
      · rw [if_neg hb]
        by_cases hab : b = a
        · subst hab
          rw [if_pos rfl, if_pos (by simp)]
        · rw [if_neg hab, if_neg (by simp only [Bool.or_eq_true, not_or]; exact ⟨by simp; omega, hb⟩)]

/-- The words of a session's slots' numbers and descriptors, by the document's Where. -/
def mineB (a j : Int) : Bool := (whereV 1 2 2 j).2.1 == a && ((whereV 1 2 2 j).1 == 3 && (whereV 1 2 2 j).2.2.2 == 0 || (whereV 1 2 2 j).1 == 4)
theorem mine_all : ((List.range 4).all fun a => (List.range 536).all fun j => mineB (a : Int) (j : Int) == ((wipeS (a : Int)).any fun s => s.1 == (j : Int))) = true := by kernel_rfl
theorem wipe_in_all : ((List.range 4).all fun a => (wipeS (a : Int)).all fun s => decide (0 ≤ s.1) && decide (s.1 < 536) && s.2 == 0) = true := by kernel_rfl
theorem slot_in_all : ((List.range 4).all fun a => (List.range 4).all fun k => decide (0 ≤ slotV (a : Int) (k : Int)) && decide (slotV (a : Int) (k : Int) < 536) && ((wipeS (a : Int)).any fun s => s.1 == slotV (a : Int) (k : Int))) = true := by kernel_rfl
theorem mine_eq {a j : Nat} (ha : a < 4) (hj : j < 536) : mineB (a : Int) (j : Int) = ((wipeS (a : Int)).any fun s => s.1 == (j : Int)) := by
  have h1 := List.all_eq_true.1 mine_all a (List.mem_range.2 ha)
  have h2 := List.all_eq_true.1 h1 j (List.mem_range.2 hj)
  exact beq_iff_eq.1 h2
theorem wipe_in {a : Nat} (ha : a < 4) : ∀ s ∈ wipeS (a : Int), 0 ≤ s.1 ∧ s.1 < 536 ∧ s.2 = 0 := by
  intro s hs
  have h1 := List.all_eq_true.1 wipe_in_all a (List.mem_range.2 ha)
  have h2 := List.all_eq_true.1 h1 s hs
  simp only [Bool.and_eq_true, decide_eq_true_eq, beq_iff_eq] at h2
  exact ⟨h2.1.1, h2.1.2, h2.2⟩
theorem slot_in {a k : Nat} (ha : a < 4) (hk : k < 4) : 0 ≤ slotV (a : Int) (k : Int) ∧ slotV (a : Int) (k : Int) < 536 ∧ ((wipeS (a : Int)).any fun s => s.1 == slotV (a : Int) (k : Int)) = true := by
  have h1 := List.all_eq_true.1 slot_in_all a (List.mem_range.2 ha)
  have h2 := List.all_eq_true.1 h1 k (List.mem_range.2 hk)
  simp only [Bool.and_eq_true, decide_eq_true_eq] at h2
  exact ⟨h2.1.1, h2.1.2, h2.2⟩
theorem wipeS_length (i : Int) : (wipeS i).length = 12 := by unfold wipeS; rw [List.length_append, slotsS_length, descS_length]
theorem wipe_all {a : Nat} (ha : a < 4) {xs : List Nat} (hx : xs.length = 536) :
    allE xs [] (wipeS (a : Int)) = 0 ∧ (allL xs [] (wipeS (a : Int))).length ≤ 12 ∧ (∀ j : Nat, j < 536 → gotV xs (allL xs [] (wipeS (a : Int))) j = if mineB (a : Int) (j : Int) = true then 0 else xs.getD j 0) ∧
      (∀ k : Nat, k < 4 → gotI xs (allL xs [] (wipeS (a : Int))) (slotV (a : Int) (k : Int)) = 0) := by
  obtain ⟨h1, h2⟩ := all_zero xs (wipeS (a : Int)) [] (fun s hs => by have := wipe_in ha s hs; rw [hx]; exact this) (by rw [wipeS_length]; simp)
  refine ⟨h1, by have := allL_length xs (wipeS (a : Int)) []; rw [wipeS_length] at this; simpa using this, fun j hj => ?_, fun k hk => ?_⟩
  · rw [h2 j, mine_eq ha hj]; rfl
  · obtain ⟨q1, q2, q3⟩ := slot_in ha hk
    unfold gotI
    rw [if_pos ⟨q1, by rw [hx]; exact q2⟩, h2, if_pos (by rw [Int.toNat_of_nonneg q1]; exact q3)]
end Go.Proofs.Ytkeghhchbdkaoaa
