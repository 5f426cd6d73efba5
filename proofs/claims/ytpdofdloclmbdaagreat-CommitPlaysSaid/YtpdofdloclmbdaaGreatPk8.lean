/- Texts of ours, packed. -/
import Derived.OpenShut
import Derived.Test.YtpdofdloclmbdaaGreatPk6
section
/- What a law is told of an argument that is a row of integers: its cells, and that it lies within the form's reach. -/
namespace Go.Grommet
open Go.RowKit

/-- A slice of integers that came in: nil, or a row. Its capacity is at most 2^47. -/
def RowIn (k : IntKind) (w : World) (a : Option Addr) (len cap : Nat) (zs : List Int) : Prop :=
  cap ≤ 140737488351232 ∧ len ≤ cap ∧ ((a = none ∧ len = 0 ∧ cap = 0 ∧ zs = []) ∨
  ∃ x, a = some x ∧ zs.length = cap ∧ (∀ i, i < zs.length → w.cell? (x.add i) = some (.int k (zs.getD i 0))) ∧ ∀ n ∈ zs, (Lit.int k n).wf = true)

theorem RowIn.nil {k : IntKind} {w : World} {a : Option Addr} {len cap : Nat} {zs : List Int} (h : RowIn k w a len cap zs) (ha : a = none) : len = 0 ∧ cap = 0 := by
  obtain ⟨_, _, h | ⟨x, hx, _⟩⟩ := h
  · exact ⟨h.2.1, h.2.2.1⟩
  · rw [ha] at hx; cases hx

theorem RowIn.small {k : IntKind} {w : World} {a : Option Addr} {len cap : Nat} {zs : List Int} (h : RowIn k w a len cap zs) : len ≤ 140737488351232 := Nat.le_trans h.2.1 h.1

/-- The elements of such a row stand where it leads. -/
theorem RowIn.at {k : IntKind} {w : World} {a : Option Addr} {len cap : Nat} {zs : List Int} (h : RowIn k w a len cap zs) : (zs.take len).length = len ∧ At w a ((zs.take len).map (Value.int k)) ∧ ∀ n ∈ zs.take len, (Lit.int k n).wf = true := by
  obtain ⟨_, hlc, h | ⟨x, rfl, hl, hc, hw⟩⟩ := h
  · obtain ⟨rfl, rfl, rfl, rfl⟩ := h
    exact ⟨rfl, At.nil _ _, by simp⟩
  · refine ⟨by rw [List.length_take]; omega, ?_, fun n hn => hw n (List.mem_of_mem_take hn)⟩
    intro j u hu
    have hj : j < len ∧ j < zs.length := by
      have := (List.getElem?_eq_some_iff.1 hu).1
      rw [List.length_map, List.length_take] at this
      omega
    obtain ⟨b, o, rfl, hc'⟩ := ints_at hc (by omega)
    refine ⟨b, o, rfl, ?_⟩
    rw [hc' j hj.2]
    rw [List.getElem?_map, List.getElem?_take, if_pos hj.1, List.getElem?_eq_getElem hj.2] at hu
    rw [List.getD_eq_getElem?_getD, List.getElem?_eq_getElem hj.2]
    simpa using hu

/-- As bytes. -/
theorem RowIn.bytes {w : World} {a : Option Addr} {len cap : Nat} {zs : List Int} (h : RowIn .u8 w a len cap zs) : ∃ bs : List UInt8, bs.length = len ∧ At w a (bs.map bv) := by
  obtain ⟨hl, hat, hw⟩ := h.at
  refine ⟨(zs.take len).map fun n => UInt8.ofNat n.toNat, by rw [List.length_map, hl], ?_⟩
  have e : ((zs.take len).map fun n => UInt8.ofNat n.toNat).map bv = (zs.take len).map (Value.int .u8) := by
    rw [List.map_map]
    apply List.map_congr_left
    intro n hn
    have := bounds_u8 (hw n hn)
    simp only [Function.comp, bv, UInt8.toNat_ofNat', Value.int.injEq, true_and]
    omega
  rwa [e]

end Go.Grommet
end
