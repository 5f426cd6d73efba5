/- 'layout.Geometry' by value, opened. -/
import Derived.Test.YtkalglcbmfhdfaaRows
import Derived.Test.YtkalglcbmfhdfaaPk13
import Derived.ProofKit
import Derived.Deep.Slices
import Derived.Deep.Strs
namespace Go.Proofs.Ytkalglcbmfhdfaa
open Go.RowKit Go.Grommet Go.Deep

set_option maxRecDepth 100000 in
theorem open_geo {H : Type} {enc : TypeId × Value → H} {w : World} {spare : Nat → Bool} {held : Bool} {cs : Array Value} {d : DataW H} {p : List MemPlace}
    (h : DataW.Trod enc Try.prog w 0 spare held 23 (.agg cs) d p) : ∃ (a : Int) (b : Int) (c : Int), cs = #[.int .i64 a, .int .i64 b, .int .i64 c] ∧ (Lit.int .i64 a).wf = true ∧ (Lit.int .i64 b).wf = true ∧ (Lit.int .i64 c).wf = true := by
  obtain ⟨fuel, hf⟩ := h
  obtain ⟨xs, n', _, _, hl, hlen, hfl⟩ := DataW.trod_struct Try.underlying23 hf
  have hC : Try.prog.cellsOf 23 = 3 := by kernel_rfl
  rw [hC] at hl
  have hl' : cs.toList.length = 3 := by simpa [Value.cells] using hl
  match xs, hlen with
  | [y0, y1, y2], _ =>
    have g0 := by simpa [Value.cells] using hfl 0 _ rfl
    have g1 := by simpa [Value.cells] using hfl 1 _ rfl
    have g2 := by simpa [Value.cells] using hfl 2 _ rfl
    obtain ⟨l⟩ := cs
    match l, hl' with
    | [c0, c1, c2], _ =>
      obtain ⟨b0, e0, _, z0⟩ := DataW.trod_int Try.underlying3 g0
      have k0 : Try.prog.cellsOf 3 = 1 := by kernel_rfl
      simp [k0] at e0
      obtain ⟨b1, e1, _, z1⟩ := DataW.trod_int Try.underlying3 g1
      have k1 : Try.prog.cellsOf 3 = 1 := by kernel_rfl
      simp [k1] at e1
      obtain ⟨b2, e2, _, z2⟩ := DataW.trod_int Try.underlying3 g2
      have k2 : Try.prog.cellsOf 3 = 1 := by kernel_rfl
      simp [k2] at e2
      subst e0 e1 e2
      exact ⟨b0, b1, b2, rfl, z0, z1, z2⟩
end Go.Proofs.Ytkalglcbmfhdfaa
