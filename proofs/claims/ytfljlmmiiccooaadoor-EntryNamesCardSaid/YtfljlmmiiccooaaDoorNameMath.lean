/- Names, plainly. -/
import Derived.Test.YtfljlmmiiccooaaDoorNames
namespace Go.Proofs.YtfljlmmiiccooaaDoor
open Go.RowKit Go.Grommet

theorem index_lt {c : UInt8} : ∀ {l : List UInt8}, Lib.indexByte l c < 0 ↔ ∀ b ∈ l, b ≠ c
  | [] => ⟨(fun _ b hb => absurd hb (by simp)), (fun _ => by unfold Lib.indexByte; decide)⟩
  | x :: l => by
    have ih := index_lt (c := c) (l := l)
    have hge := Lib.indexByte_ge l c
    unfold Lib.indexByte
    by_cases hx : x = c
    · subst hx
      simp
    · have hx' : (x == c) = false := by simpa using hx
      rw [hx']
      simp only [Bool.false_eq_true, if_false]
      by_cases h1 : Lib.indexByte l c = -1
      · have h1' : (Lib.indexByte l c == -1) = true := by simpa using h1
        rw [h1', if_pos rfl]
        constructor
        · intro _ b hb
          rcases List.mem_cons.1 hb with rfl | hb
          · exact hx
          · exact ih.1 (by omega) b hb
        · intro _; decide
      · have h1' : (Lib.indexByte l c == -1) = false := by simpa using h1
        rw [h1', if_neg (by simp)]
        constructor
        · intro h; omega
        · intro h
          have := ih.2 (fun b hb => h b (List.mem_cons_of_mem _ hb))
          omega
/-- A name into which a nought or a slash is put may not be. -/
theorem may_put {s : ByteArray} (h : (0 : UInt8) ∈ s.data.toList ∨ (47 : UInt8) ∈ s.data.toList) : mayN s = false := by
  unfold mayN
  rcases h with h | h
  · have : ¬ Lib.indexByte s.data.toList (0 : Int).toNat.toUInt8 < 0 := fun hc => index_lt.1 hc 0 h rfl
    rw [decide_eq_false this]
    simp
  · have : ¬ Lib.indexByte s.data.toList (47 : Int).toNat.toUInt8 < 0 := fun hc => index_lt.1 hc 47 h rfl
    rw [decide_eq_false this]
    simp
/-- No fault in a name up to a place. -/
def NoBad (s : ByteArray) (k : Nat) : Prop := s.size ≠ 0 ∧ s.size ≤ 40 ∧ (s.toList == [46]) = false ∧ (s.toList == [46, 46]) = false ∧ ∀ i, i < k → (bytesOf s).getD i 0 ≠ 0 ∧ (bytesOf s).getD i 0 ≠ 47
theorem noBad_may {s : ByteArray} (h : NoBad s s.size) : mayN s = true := by
  obtain ⟨h1, h2, h3, h4, h5⟩ := h
  have hl : ∀ b ∈ s.data.toList, b ≠ 0 ∧ b ≠ 47 := by
    intro b hb
    obtain ⟨i, hi, rfl⟩ := List.getElem_of_mem hb
    have hi' : i < s.size := by have := length_bytesOf s; unfold bytesOf at this; omega
    have := h5 i hi'
    unfold bytesOf at this
    rw [List.getD_eq_getElem?_getD, List.getElem?_eq_getElem hi] at this
    exact this
  unfold mayN
  simp only [Bool.and_eq_true, decide_eq_true_eq, Bool.not_eq_true']
  exact ⟨by omega, by omega, index_lt.2 (fun b hb => (hl b hb).1), index_lt.2 (fun b hb => (hl b hb).2), h3, h4⟩
end Go.Proofs.YtfljlmmiiccooaaDoor
