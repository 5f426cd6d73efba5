/- Four numbers in an array that comes in by value. -/
import Derived.Test.YtdpkpphjpihhkaaRows
import Derived.ProofKit
import Derived.OpenShut
import Derived.Deep.Slices
import Derived.Deep.Strs
namespace Go.Proofs.Ytdpkpphjpihhkaa
open Go.RowKit Go.Deep

theorem okWide_arr {P : Program} {w : World} {r : Reach} {base : Nat} {t e : TypeId} {n : Nat} {v : Value} (ht : P.underlying t = some (.array n e)) (h : Value.okWide P w r base t v) : ∃ cs, v = .agg cs ∧ cs.size = P.cellsOf t := by
  simp only [Value.okWide, ht] at h
  obtain ⟨cs, h1, h2, _⟩ := h
  exact ⟨cs, h1, h2⟩

set_option maxRecDepth 100000 in
theorem open_arr4 {H : Type} {enc : TypeId × Value → H} {w : World} {spare : Nat → Bool} {held : Bool} {cs : Array Value} {d : DataW H} {p : List MemPlace}
    (h : DataW.Trod enc Try.prog w 0 spare held 71 (.agg cs) d p) : ∃ (x0 : Int) (x1 : Int) (x2 : Int) (x3 : Int), cs = #[.int .u64 x0, .int .u64 x1, .int .u64 x2, .int .u64 x3] ∧ (Lit.int .u64 x0).wf = true ∧ (Lit.int .u64 x1).wf = true ∧ (Lit.int .u64 x2).wf = true ∧ (Lit.int .u64 x3).wf = true := by
  obtain ⟨fuel, hf⟩ := h
  have ku : Try.prog.cellsOf 36 = 1 := by kernel_rfl
  have ka : Try.prog.cellsOf 71 = 4 := by kernel_rfl
  obtain ⟨ys, m, _, _, hl, hyl, hy⟩ := DataW.trod_array Try.underlying71 hf
  rw [ka] at hl
  have hl' : cs.toList.length = 4 := by simpa [Value.cells] using hl
  match ys, hyl with
  | [u0, u1, u2, u3], _ =>
    obtain ⟨l⟩ := cs
    match l, hl' with
    | [c0, c1, c2, c3], _ =>
      have v0 := hy 0 (by decide)
      have v1 := hy 1 (by decide)
      have v2 := hy 2 (by decide)
      have v3 := hy 3 (by decide)
      simp [ku, Value.cells] at v0 v1 v2 v3
      obtain ⟨b0, e0, _, z0⟩ := DataW.trod_int Try.underlying36 v0
      obtain ⟨b1, e1, _, z1⟩ := DataW.trod_int Try.underlying36 v1
      obtain ⟨b2, e2, _, z2⟩ := DataW.trod_int Try.underlying36 v2
      obtain ⟨b3, e3, _, z3⟩ := DataW.trod_int Try.underlying36 v3
      simp at e0 e1 e2 e3
      subst e0 e1 e2 e3
      exact ⟨b0, b1, b2, b3, rfl, z0, z1, z2, z3⟩
end Go.Proofs.Ytdpkpphjpihhkaa
