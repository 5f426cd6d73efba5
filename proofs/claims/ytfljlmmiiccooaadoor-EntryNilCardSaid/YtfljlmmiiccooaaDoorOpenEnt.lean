/- 'entry.Entry' by value, opened. -/
import Derived.Test.YtfljlmmiiccooaaDoorRows
import Derived.Test.YtfljlmmiiccooaaDoorEvW
import Derived.ProofKit
import Derived.Deep.Slices
import Derived.Deep.Strs
namespace Go.Proofs.YtfljlmmiiccooaaDoor
open Go.RowKit Go.Deep

set_option maxRecDepth 100000 in
theorem open_ent {H : Type} {enc : TypeId × Value → H} {w : World} {spare : Nat → Bool} {held : Bool} {cs : Array Value} {d : DataW H} {p : List MemPlace}
    (h : DataW.Trod enc Tryd.prog w 0 spare held 41 (.agg cs) d p) : ∃ (name : ByteArray) (inode : Int), cs = #[.string name, .int .i64 inode] ∧ (Lit.int .i64 inode).wf = true ∧ name.size ≤ 9223372036854775807 := by
  obtain ⟨fuel, hf⟩ := h
  obtain ⟨xs, n', _, _, hl, hlen, hfl⟩ := DataW.trod_struct Tryd.underlying41 hf
  have hC : Tryd.prog.cellsOf 41 = 2 := by kernel_rfl
  rw [hC] at hl
  have hl' : cs.toList.length = 2 := by simpa [Value.cells] using hl
  match xs, hlen with
  | [y0, y1], _ =>
    have g0 := by simpa [Value.cells] using hfl 0 _ rfl
    have g1 := by simpa [Value.cells] using hfl 1 _ rfl
    obtain ⟨l⟩ := cs
    match l, hl' with
    | [c0, c1], _ =>
      obtain ⟨b0, e0, _, z0⟩ := DataW.trod_string Tryd.underlying9 g0
      have k0 : Tryd.prog.cellsOf 9 = 1 := by kernel_rfl
      simp [k0] at e0
      obtain ⟨b1, e1, _, z1⟩ := DataW.trod_int Tryd.underlying3 g1
      have k1 : Tryd.prog.cellsOf 3 = 1 := by kernel_rfl
      simp [k1] at e1
      subst e0 e1
      exact ⟨b0, b1, rfl, z1, z0⟩
end Go.Proofs.YtfljlmmiiccooaaDoor
