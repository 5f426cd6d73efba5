/- Texts of ours, packed. -/
import Derived.Test.YtpdofdloclmbdaaGreatPk15
import Derived.Test.YtpdofdloclmbdaaGreatPk18
section
/- What the laws of layer 8 are told. -/
namespace Go.Proofs.YtpdofdloclmbdaaGreat
open Go.RowKit Go.Grommet

def wrt (s : Wrt) : Int × Nat := (s.ad, s.vv.toNat)
theorem at_wrts {w : World} {a : Option Addr} {len : Nat} {L : List Wrt} (h : WrtsIn w a len L) : At w a (icells (L.map wrt)) := by
  intro j u hu
  have hj := (List.getElem?_eq_some_iff.1 hu).1
  rw [icells_length, List.length_map] at hj
  obtain ⟨s, hs⟩ : ∃ s, L[j / 2]? = some s := ⟨_, List.getElem?_eq_getElem (by omega)⟩
  obtain ⟨g, o, ha, h0, h1⟩ := h.2.2 _ s hs
  have bv := bounds_u64 (h.2.1 s (List.mem_of_getElem? hs)).2
  have hi := icells_at (L.map wrt) (j / 2) (by rw [List.length_map]; omega)
  have hd : (L.map wrt).getD (j / 2) (0, 0) = wrt s := by rw [List.getD_eq_getElem?_getD, List.getElem?_map, hs]; rfl
  rw [hd] at hi
  refine ⟨g, o, ha, ?_⟩
  rcases Nat.mod_two_eq_zero_or_one j with e | e
  · have ej : j = j / 2 * 2 := by omega
    rw [ej, hi.1] at hu
    cases hu
    rw [ej]
    exact h0
  · have ej : j = j / 2 * 2 + 1 := by omega
    rw [ej, hi.2] at hu
    cases hu
    rw [ej, ← Nat.add_assoc, h1]
    show _ = some (Value.int .u64 (s.vv.toNat : Int))
    rw [Int.toNat_of_nonneg bv.1]
/-- Writes that came in. -/
structure Given (w : World) (a : Option Addr) (l : Nat) (M : List (Int × Nat)) : Prop where
  at_ : At w a (icells M)
  len : M.length = l
  wf : ∀ p ∈ M, (Lit.int .i64 p.1).wf = true
  bd : ∀ p ∈ M, p.1 ≤ 9223372036854775807 ∧ p.2 < 18446744073709551616
theorem Given.fine {w : World} {a : Option Addr} {l : Nat} {M : List (Int × Nat)} (h : Given w a l M) (hl : l ≤ 96) (hn : negB M = false) : Fine M :=
  ⟨fun p hp => ⟨negB_fine hn p hp, (h.bd p hp).1⟩, fun p hp => (h.bd p hp).2, by rw [h.len]; exact hl⟩
end Go.Proofs.YtpdofdloclmbdaaGreat
end
