/- LockApart: what each worker holds, as lists. -/
import Derived.Test.YtclicjdgkcnihaaLoqC
import Derived.Test.YtclicjdgkcnihaaLoqH
namespace Go.Proofs.Ytclicjdgkcnihaa
open Go.RowKit Go.Grommet

theorem mem_heldL {f : Nat → Int} {a n i : Nat} : i ∈ heldL f a n ↔ i < n ∧ f i = (a : Int) := by
  unfold heldL; rw [List.mem_filter, List.mem_range, beq_iff_eq]
theorem heldL_congr {f g : Nat → Int} {a n : Nat} (h : ∀ i, i < n → (f i = (a : Int) ↔ g i = (a : Int))) : heldL f a n = heldL g a n := by
  unfold heldL
  refine List.filter_congr (fun i hi => ?_)
  have := h i (List.mem_range.1 hi)
  rw [Bool.eq_iff_iff, beq_iff_eq, beq_iff_eq]; exact this
theorem highV_snoc (L : List Nat) (k : Nat) : highV (L ++ [k]) = (k : Int) := by
  have := highV_some (L := L ++ [k]) (p := L.length) (by simp)
  rw [this]; simp
/-- None that is held lies above the highest. -/
theorem le_highV (f : Nat → Int) (a : Nat) : ∀ n i, i ∈ heldL f a n → (i : Int) ≤ highV (heldL f a n)
  | 0, i, h => by have := (mem_heldL.1 h).1; omega
  | n + 1, i, h => by
    cases hb : (f n == (a : Int)) with
    | true => rw [heldL_yes hb, highV_snoc]; have := (mem_heldL.1 h).1; omega
    | false => rw [heldL_no hb] at h ⊢; exact le_highV f a n i h
theorem heldL_tail {f : Nat → Int} {a k : Nat} (h : ∀ i, k ≤ i → f i ≠ (a : Int) ∨ 70 ≤ i) : ∀ d, k + d ≤ 70 → heldL f a (k + d) = heldL f a k
  | 0, _ => rfl
  | d + 1, hd => by
    rw [show k + (d + 1) = (k + d) + 1 from rfl, heldL_no (by rw [beq_eq_false_iff_ne]; rcases h (k + d) (by omega) with e | e; exact e; omega)]
    exact heldL_tail h d (by omega)
/-- A lock above all that a worker holds is taken. -/
theorem heldL_take {f : Nat → Int} {a k : Nat} (h70 : k < 70) (hf : f k = -1) (hl : highV (heldL f a 70) < (k : Int)) : heldL (seth f k (a : Int)) a 70 = heldL f a 70 ++ [k] := by
  have up : ∀ i, k < i → f i ≠ (a : Int) ∨ 70 ≤ i := by
    intro i hi
    by_cases h : i < 70
    · refine .inl (fun e => ?_)
      have := le_highV f a 70 i (mem_heldL.2 ⟨h, e⟩)
      omega
    · exact .inr (by omega)
  have e1 : heldL f a 70 = heldL f a k := by
    have := heldL_tail (f := f) (a := a) (k := k) (fun i hi => by
      rcases Nat.eq_or_lt_of_le hi with e | e
      · subst e; exact .inl (by rw [hf]; omega)
      · exact up i e) (70 - k) (by omega)
    rwa [show k + (70 - k) = 70 by omega] at this
  have e2 : heldL (seth f k (a : Int)) a 70 = heldL (seth f k (a : Int)) a (k + 1) := by
    have := heldL_tail (f := seth f k (a : Int)) (a := a) (k := k + 1) (fun i hi => by
      unfold seth; rw [if_neg (by omega)]; exact up i hi) (69 - k) (by omega)
    rwa [show k + 1 + (69 - k) = 70 by omega] at this
  rw [e2, heldL_yes (by unfold seth; rw [if_pos rfl]; simp), e1]
  congr 1
  exact heldL_congr (fun i hi => by unfold seth; rw [if_neg (by omega)])
theorem heldL_other {f : Nat → Int} {a b k : Nat} (hne : b ≠ a) (hf : f k = -1) : heldL (seth f k (a : Int)) b 70 = heldL f b 70 := by
  refine heldL_congr (fun i _ => ?_)
  unfold seth
  by_cases e : i = k
  · subst e; rw [if_pos rfl, hf]; omega
  · rw [if_neg e]
theorem heldL_given (f : Nat → Int) (a : Nat) : heldL (gh f a 70) a 70 = [] := by
  refine List.eq_nil_iff_forall_not_mem.2 (fun i hi => ?_)
  obtain ⟨h1, h2⟩ := mem_heldL.1 hi
  unfold gh at h2
  by_cases e : i < 70 ∧ f i = (a : Int)
  · rw [if_pos e] at h2; omega
  · rw [if_neg e] at h2; exact e ⟨h1, h2⟩
theorem heldL_kept {f : Nat → Int} {a b : Nat} (hne : b ≠ a) : heldL (gh f a 70) b 70 = heldL f b 70 := by
  refine heldL_congr (fun i _ => ?_)
  unfold gh
  by_cases e : i < 70 ∧ f i = (a : Int)
  · rw [if_pos e, e.2]; omega
  · rw [if_neg e]
/-- What a law's round keeps: each lock is free, or held by the one worker that asks for it. -/
def FairT (f : Nat → Int) : Prop := ∀ k, k < 70 → f k = -1 ∨ f k = ((k % 4 : Nat) : Int)
theorem FairT.take {f : Nat → Int} (h : FairT f) (k : Nat) : FairT (seth f k ((k % 4 : Nat) : Int)) := by
  intro i hi
  unfold seth
  by_cases e : i = k
  · subst e; rw [if_pos rfl]; exact .inr rfl
  · rw [if_neg e]; exact h i hi
/-- Above all that is held, a lock is free. -/
theorem FairT.free {f : Nat → Int} (h : FairT f) {k : Nat} (h70 : k < 70) (hl : highV (heldL f (k % 4) 70) < (k : Int)) : f k = -1 := by
  rcases h k h70 with e | e
  · exact e
  · have := le_highV f (k % 4) 70 k (mem_heldL.2 ⟨h70, e⟩); omega
end Go.Proofs.Ytclicjdgkcnihaa
