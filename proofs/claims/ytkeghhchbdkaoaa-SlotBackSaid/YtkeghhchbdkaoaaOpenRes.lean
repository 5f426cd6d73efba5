/- 'api.Result' by value, opened. -/
import Derived.Test.YtkeghhchbdkaoaaRows
import Derived.Test.YtkeghhchbdkaoaaLayA
import Derived.ProofKit
import Derived.Deep.Slices
import Derived.Deep.Strs
namespace Go.Proofs.Ytkeghhchbdkaoaa
open Go.RowKit Go.Grommet Go.Deep

set_option maxRecDepth 100000 in
theorem open_res {H : Type} {enc : TypeId × Value → H} {w : World} {spare : Nat → Bool} {held : Bool} {cs : Array Value} {d : DataW H} {p : List MemPlace}
    (h : DataW.Trod enc Try.prog w 0 spare held 41 (.agg cs) d p) : ∃ (err : Int) (a : Int) (b : Int) (data : ByteArray), cs = #[.int .i64 err, .int .u64 a, .int .u64 b, .string data] ∧ (Lit.int .i64 err).wf = true ∧ (Lit.int .u64 a).wf = true ∧ (Lit.int .u64 b).wf = true ∧ data.size ≤ 9223372036854775807 := by
  obtain ⟨fuel, hf⟩ := h
  obtain ⟨xs, n', _, _, hl, hlen, hfl⟩ := DataW.trod_struct Try.underlying41 hf
  have hC : Try.prog.cellsOf 41 = 4 := by kernel_rfl
  rw [hC] at hl
  have hl' : cs.toList.length = 4 := by simpa [Value.cells] using hl
  match xs, hlen with
  | [y0, y1, y2, y3], _ =>
    have g0 := by simpa [Value.cells] using hfl 0 _ rfl
    have g1 := by simpa [Value.cells] using hfl 1 _ rfl
    have g2 := by simpa [Value.cells] using hfl 2 _ rfl
    have g3 := by simpa [Value.cells] using hfl 3 _ rfl
    obtain ⟨l⟩ := cs
    match l, hl' with
    | [c0, c1, c2, c3], _ =>
      obtain ⟨b0, e0, _, z0⟩ := DataW.trod_int Try.underlying39 g0
      have k0 : Try.prog.cellsOf 39 = 1 := by kernel_rfl
      simp [k0] at e0
      obtain ⟨b1, e1, _, z1⟩ := DataW.trod_int Try.underlying36 g1
      have k1 : Try.prog.cellsOf 36 = 1 := by kernel_rfl
      simp [k1] at e1
      obtain ⟨b2, e2, _, z2⟩ := DataW.trod_int Try.underlying36 g2
      have k2 : Try.prog.cellsOf 36 = 1 := by kernel_rfl
      simp [k2] at e2
      obtain ⟨b3, e3, _, z3⟩ := DataW.trod_string Try.underlying9 g3
      have k3 : Try.prog.cellsOf 9 = 1 := by kernel_rfl
      simp [k3] at e3
      subst e0 e1 e2 e3
      exact ⟨b0, b1, b2, b3, rfl, z0, z1, z2, z3⟩
end Go.Proofs.Ytkeghhchbdkaoaa
