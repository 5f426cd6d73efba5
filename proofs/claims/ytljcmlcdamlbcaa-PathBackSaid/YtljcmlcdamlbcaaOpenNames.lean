/- '[]string', opened to its cells. -/
import Derived.Test.YtljcmlcdamlbcaaRows
import Derived.Test.YtljcmlcdamlbcaaPatMath
import Derived.ProofKit
import Derived.SliceStrings
namespace Go.Proofs.Ytljcmlcdamlbcaa
open Go.RowKit Go.Grommet

/-- Where a slice of strings leads there stand these. -/
def NamesIn (w : World) (a : Option Addr) (len : Nat) (L : List (List UInt8)) : Prop := L.length = len ∧ At w a (L.map sv)
theorem NamesIn.strs {w : World} {a : Option Addr} {len : Nat} {L : List (List UInt8)} (h : NamesIn w a len L) (cap : Nat) : Strs w (.slice a len cap) L := ⟨a, cap, by rw [h.1], h.2⟩

theorem open_names {H : Type} {enc : TypeId × Value → H} {w : World} {spare : Nat → Bool} {held : Bool} {a : Option Addr} {len cap : Nat} {d : DataW H} {p : List MemPlace}
    (h : DataW.Trod enc Try.prog w 0 spare held 22 (.slice a len cap) d p) : ∃ L, NamesIn w a len L := by
  obtain ⟨fuel, hf⟩ := h
  rcases Go.ChangeShapes.open_strings Try.underlying22 Try.underlying9 (by kernel_rfl) hf with ⟨hcs, _⟩ | ⟨x, l, c, ss, hcs, _, hl, _, hm, _, hc, _⟩
  · simp [Value.cells] at hcs
    obtain ⟨rfl, rfl, rfl⟩ := hcs
    exact ⟨[], rfl, At.nil _ _⟩
  · simp [Value.cells] at hcs
    obtain ⟨rfl, rfl, rfl⟩ := hcs
    have hml : len ≤ ss.length := by rw [hm]; split <;> omega
    refine ⟨(ss.take len).map bytesOf, by rw [List.length_map, List.length_take]; omega, ?_⟩
    intro j u hu
    have hj : j < len := by
      have := (List.getElem?_eq_some_iff.1 hu).1
      rw [List.length_map, List.length_map, List.length_take] at this
      omega
    obtain ⟨b, o, sp⟩ := x
    have hsp : sp = none := by simpa [Addr.add] using World.cell?_spot (hc 0 (by omega))
    subst hsp
    refine ⟨b, o, rfl, ?_⟩
    have h1 := hc j (by omega)
    rw [Addr.add_lit] at h1
    rw [h1]
    rw [List.getElem?_map, List.getElem?_map, List.getElem?_take, if_pos hj, List.getElem?_eq_getElem (by omega)] at hu
    rw [List.getD_eq_getElem?_getD, List.getElem?_eq_getElem (by omega)]
    simp only [Option.map_some, Option.some.injEq, Option.getD_some] at hu ⊢
    rw [← hu]
    show _ = Value.string (str (bytesOf _))
    rw [str_bytesOf]
end Go.Proofs.Ytljcmlcdamlbcaa
