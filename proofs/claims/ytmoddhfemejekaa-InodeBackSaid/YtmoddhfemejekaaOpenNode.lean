/- 'inode.Node' by value, opened. -/
import Derived.Test.YtmoddhfemejekaaRows
import Derived.Test.YtmoddhfemejekaaLayA
import Derived.ProofKit
import Derived.Deep.Slices
import Derived.Deep.Strs
namespace Go.Proofs.Ytmoddhfemejekaa
open Go.RowKit Go.Grommet Go.Deep

set_option maxRecDepth 100000 in
theorem open_node {H : Type} {enc : TypeId × Value → H} {w : World} {spare : Nat → Bool} {held : Bool} {cs : Array Value} {d : DataW H} {p : List MemPlace}
    (h : DataW.Trod enc Try.prog w 0 spare held 38 (.agg cs) d p) : ∃ (x0 : Int) (x1 : Int) (x2 : Int) (x3 : Int) (x4 : Int) (x5 : Int) (x6 : Int) (x7 : Int) (x8 : Int) (x9 : Int), cs = #[.int .u64 x0, .int .u64 x1, .int .u64 x2, .int .u64 x3, .int .u64 x4, .int .u64 x5, .int .u64 x6, .int .u64 x7, .int .u64 x8, .int .u64 x9] ∧ (Lit.int .u64 x0).wf = true ∧ (Lit.int .u64 x1).wf = true ∧ (Lit.int .u64 x2).wf = true ∧ (Lit.int .u64 x3).wf = true ∧ (Lit.int .u64 x4).wf = true ∧ (Lit.int .u64 x5).wf = true ∧ (Lit.int .u64 x6).wf = true ∧ (Lit.int .u64 x7).wf = true ∧ (Lit.int .u64 x8).wf = true ∧ (Lit.int .u64 x9).wf = true := by
  obtain ⟨fuel, hf⟩ := h
  obtain ⟨xs, n', _, _, hl, hlen, hfl⟩ := DataW.trod_struct Try.underlying38 hf
  have hC : Try.prog.cellsOf 38 = 10 := by kernel_rfl
  rw [hC] at hl
  have hl' : cs.toList.length = 10 := by simpa [Value.cells] using hl
  match xs, hlen with
  | [y0, y1, y2, y3, y4, y5, y6], _ =>
    have g0 := by simpa [Value.cells] using hfl 0 _ rfl
    have g1 := by simpa [Value.cells] using hfl 1 _ rfl
    have g2 := by simpa [Value.cells] using hfl 2 _ rfl
    have g3 := by simpa [Value.cells] using hfl 3 _ rfl
    have g4 := by simpa [Value.cells] using hfl 4 _ rfl
    have g5 := by simpa [Value.cells] using hfl 5 _ rfl
    have g6 := by simpa [Value.cells] using hfl 6 _ rfl
    obtain ⟨l⟩ := cs
    match l, hl' with
    | [c0, c1, c2, c3, c4, c5, c6, c7, c8, c9], _ =>
      have ku : Try.prog.cellsOf 35 = 1 := by kernel_rfl
      have ka : Try.prog.cellsOf 36 = 4 := by kernel_rfl
      simp [ku, ka] at g0 g1 g2 g3 g4 g5 g6
      obtain ⟨b0, e0, _, z0⟩ := DataW.trod_int Try.underlying35 g0
      obtain ⟨b1, e1, _, z1⟩ := DataW.trod_int Try.underlying35 g1
      obtain ⟨b2, e2, _, z2⟩ := DataW.trod_int Try.underlying35 g2
      obtain ⟨b3, e3, _, z3⟩ := DataW.trod_int Try.underlying35 g3
      obtain ⟨b8, e8, _, z8⟩ := DataW.trod_int Try.underlying35 g5
      obtain ⟨b9, e9, _, z9⟩ := DataW.trod_int Try.underlying35 g6
      obtain ⟨ys, m, _, _, _, hyl, hy⟩ := DataW.trod_array Try.underlying36 g4
      match ys, hyl with
      | [u0, u1, u2, u3], _ =>
        have v0 := hy 0 (by decide)
        simp [ku] at v0
        obtain ⟨b4, e4, _, z4⟩ := DataW.trod_int Try.underlying35 v0
        have v1 := hy 1 (by decide)
        simp [ku] at v1
        obtain ⟨b5, e5, _, z5⟩ := DataW.trod_int Try.underlying35 v1
        have v2 := hy 2 (by decide)
        simp [ku] at v2
        obtain ⟨b6, e6, _, z6⟩ := DataW.trod_int Try.underlying35 v2
        have v3 := hy 3 (by decide)
        simp [ku] at v3
        obtain ⟨b7, e7, _, z7⟩ := DataW.trod_int Try.underlying35 v3
        simp at e0 e1 e2 e3 e4 e5 e6 e7 e8 e9
        subst e0 e1 e2 e3 e4 e5 e6 e7 e8 e9
        exact ⟨b0, b1, b2, b3, b4, b5, b6, b7, b8, b9, rfl, z0, z1, z2, z3, z4, z5, z6, z7, z8, z9⟩
end Go.Proofs.Ytmoddhfemejekaa
