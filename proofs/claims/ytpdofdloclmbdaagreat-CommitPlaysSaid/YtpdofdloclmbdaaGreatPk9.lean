/- Texts of ours, packed. -/
import Derived.Test.YtpdofdloclmbdaaGreatPk8
import Derived.Test.YtpdofdloclmbdaaGreatPk7
section
/- A part of a slice: where it lies. -/
namespace Go.Grommet
open Go.RowKit

theorem elem_of {P : Program} {T e : TypeId} (hT : P.underlying T = some (.slice e)) : P.elem T = e := by
  simp [Program.elem, hT]

/-- 'x[k:]' of one-cell elements. -/
theorem slice_from {P : Program} (T e : TypeId) (hT : P.underlying T = some (.slice e)) (hsz : ∀ w, (sizeOf e).run P w = .ok 1 w) (ad : Option Addr) (len cap k : Nat) (h : k ≤ len) :
    ∃ ad', (∀ w, (Instr.slice T (.slice ad len cap) (some (.int .i64 (k : Int))) none none).run P w = .ok (.slice ad' (len - k) (cap - k)) w) ∧
      (∀ w xs, At w ad xs → xs.length = len → len ≤ cap → At w ad' (xs.drop k)) ∧ (∀ x, ad' = some x → ∃ y, ad = some y ∧ x.block = y.block) ∧ (ad' = none → ad = none) := by
  have he := elem_of hT
  refine ⟨if cap = k then ad else ad.map (·.add k), ?_, ?_, ?_, ?_⟩
  · intro w
    have ht : P.underlying T = some (.slice (P.elem T)) := by rw [he]; exact hT
    rw [run_slice_l (a := ad) (ht := ht) (h0 := by omega) (h1 := by omega), he, hsz]
    simp [Result.andThen, sliced]
  · intro w xs hat hl hc j u hu
    rw [List.getElem?_drop] at hu
    have hj := (List.getElem?_eq_some_iff.1 hu).1
    obtain ⟨q, o, rfl, hcell⟩ := hat (k + j) u hu
    rw [if_neg (by omega)]
    exact ⟨q, o + k, by rw [Option.map_some, Addr.add_lit], by rw [Nat.add_assoc]; exact hcell⟩
  · intro x hx
    split at hx
    · exact ⟨x, hx, rfl⟩
    · cases ad with
      | none => cases hx
      | some y => cases hx; exact ⟨y, rfl, by cases y; simp only [Addr.add]; split <;> rfl⟩
  · intro hx
    split at hx
    · exact hx
    · cases ad with
      | none => rfl
      | some y => cases hx

end Go.Grommet
end
