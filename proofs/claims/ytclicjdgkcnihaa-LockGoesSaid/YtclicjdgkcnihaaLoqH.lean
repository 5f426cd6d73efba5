/- Package lock: what lies in a table when a worker's locks have been given back. -/
import Derived.Test.YtclicjdgkcnihaaLoqF
import Derived.Test.YtclicjdgkcnihaaLoqG
namespace Go.Proofs.Ytclicjdgkcnihaa
open Go.RowKit Go.Grommet Go.Shelf
attribute [local go_sem] Oper.semAt_some

/-- Who holds what when a worker's first k locks have been given back. -/
def gh (f : Nat → Int) (a k : Nat) : Nat → Int := fun i => if i < k ∧ f i = (a : Int) then -1 else f i
theorem gh_at (f : Nat → Int) (a k : Nat) : gh f a k k = f k := by unfold gh; rw [if_neg (by omega)]
theorem gh_yes {f : Nat → Int} {a k : Nat} (h : f k = (a : Int)) : seth (gh f a k) k (-1) = gh f a (k + 1) := by
  funext i
  unfold seth gh
  by_cases e : i = k
  · subst e; rw [if_pos rfl, if_pos ⟨by omega, h⟩]
  · rw [if_neg e]
    by_cases h2 : i < k ∧ f i = (a : Int)
    · rw [if_pos h2, if_pos ⟨by omega, h2.2⟩]
    · rw [if_neg h2, if_neg (fun c => h2 ⟨by omega, c.2⟩)]
theorem gh_no {f : Nat → Int} {a k : Nat} (h : ¬ f k = (a : Int)) : gh f a k = gh f a (k + 1) := by
  funext i
  unfold gh
  by_cases h2 : i < k ∧ f i = (a : Int)
  · rw [if_pos h2, if_pos ⟨by omega, h2.2⟩]
  · rw [if_neg h2, if_neg (fun c => h2 ⟨by have : i ≠ k := fun e => h (e ▸ c.2); omega, c.2⟩)]
/-- A store of what lay there. -/
theorem tabC_same (m : Nat) (f : Nat → Int) (q : Nat → Value) (k : Nat) (_ : k < 70) : (tabC m f q).setIfInBounds (1 + k * 2 + 1) (q k) = tabC m f q := by
  refine tabC_ext _ _ _ _ (by simp [tabC_size]) (fun j hj => ?_)
  by_cases e : 1 + k * 2 + 1 = j
  · subst e
    rw [Array.getElem?_setIfInBounds_self_of_lt (by rw [tabC_size]; exact hj), tcell_queue]
  · rw [Array.getElem?_setIfInBounds_ne e, tabC_get _ _ _ _ hj]

theorem set_getSelf {Ps : List Pr} {j : Nat} {P : Pr} (h : Ps[j]? = some P) : Ps.set j P = Ps := by
  apply List.ext_getElem?
  intro i
  by_cases e : j = i
  · subst e; rw [List.getElem?_set_self (List.getElem?_eq_some_iff.1 h).1, h]
  · rw [List.getElem?_set_ne e]
end Go.Proofs.Ytclicjdgkcnihaa
