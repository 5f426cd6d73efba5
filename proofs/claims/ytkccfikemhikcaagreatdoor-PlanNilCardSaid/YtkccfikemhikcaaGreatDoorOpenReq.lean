/- 'api.Request' by value, opened. -/
import Derived.Test.YtkccfikemhikcaaGreatDoorRows
import Derived.Test.YtkccfikemhikcaaGreatDoorEvW
import Derived.ProofKit
import Derived.Deep.Slices
import Derived.Deep.Strs
namespace Go.Proofs.YtkccfikemhikcaaGreatDoor
open Go.RowKit Go.Deep

set_option maxRecDepth 100000 in
theorem open_req {H : Type} {enc : TypeId × Value → H} {w : World} {spare : Nat → Bool} {held : Bool} {cs : Array Value} {d : DataW H} {p : List MemPlace}
    (h : DataW.Trod enc Tryz.prog w 0 spare held 26 (.agg cs) d p) : ∃ (kd : Int) (fl : Int) (fd : Int) (pl : Int) (sz : Int) (pa : ByteArray) (pt : ByteArray) (da : ByteArray), cs = #[.int .u8 kd, .int .u8 fl, .int .u64 fd, .int .u64 pl, .int .u64 sz, .string pa, .string pt, .string da] ∧ (Lit.int .u8 kd).wf = true ∧ (Lit.int .u8 fl).wf = true ∧ (Lit.int .u64 fd).wf = true ∧ (Lit.int .u64 pl).wf = true ∧ (Lit.int .u64 sz).wf = true ∧ pa.size ≤ 9223372036854775807 ∧ pt.size ≤ 9223372036854775807 ∧ da.size ≤ 9223372036854775807 := by
  obtain ⟨fuel, hf⟩ := h
  obtain ⟨xs, n', _, _, hl, hlen, hfl⟩ := DataW.trod_struct Tryz.underlying26 hf
  have hC : Tryz.prog.cellsOf 26 = 8 := by kernel_rfl
  rw [hC] at hl
  have hl' : cs.toList.length = 8 := by simpa [Value.cells] using hl
  match xs, hlen with
  | [y0, y1, y2, y3, y4, y5, y6, y7], _ =>
    have g0 := by simpa [Value.cells] using hfl 0 _ rfl
    have g1 := by simpa [Value.cells] using hfl 1 _ rfl
    have g2 := by simpa [Value.cells] using hfl 2 _ rfl
    have g3 := by simpa [Value.cells] using hfl 3 _ rfl
    have g4 := by simpa [Value.cells] using hfl 4 _ rfl
    have g5 := by simpa [Value.cells] using hfl 5 _ rfl
    have g6 := by simpa [Value.cells] using hfl 6 _ rfl
    have g7 := by simpa [Value.cells] using hfl 7 _ rfl
    obtain ⟨l⟩ := cs
    match l, hl' with
    | [c0, c1, c2, c3, c4, c5, c6, c7], _ =>
      obtain ⟨b0, e0, _, z0⟩ := DataW.trod_int Tryz.underlying5 g0
      have k0 : Tryz.prog.cellsOf 5 = 1 := by kernel_rfl
      simp [k0] at e0
      obtain ⟨b1, e1, _, z1⟩ := DataW.trod_int Tryz.underlying5 g1
      have k1 : Tryz.prog.cellsOf 5 = 1 := by kernel_rfl
      simp [k1] at e1
      obtain ⟨b2, e2, _, z2⟩ := DataW.trod_int Tryz.underlying24 g2
      have k2 : Tryz.prog.cellsOf 24 = 1 := by kernel_rfl
      simp [k2] at e2
      obtain ⟨b3, e3, _, z3⟩ := DataW.trod_int Tryz.underlying24 g3
      have k3 : Tryz.prog.cellsOf 24 = 1 := by kernel_rfl
      simp [k3] at e3
      obtain ⟨b4, e4, _, z4⟩ := DataW.trod_int Tryz.underlying24 g4
      have k4 : Tryz.prog.cellsOf 24 = 1 := by kernel_rfl
      simp [k4] at e4
      obtain ⟨b5, e5, _, z5⟩ := DataW.trod_string Tryz.underlying9 g5
      have k5 : Tryz.prog.cellsOf 9 = 1 := by kernel_rfl
      simp [k5] at e5
      obtain ⟨b6, e6, _, z6⟩ := DataW.trod_string Tryz.underlying9 g6
      have k6 : Tryz.prog.cellsOf 9 = 1 := by kernel_rfl
      simp [k6] at e6
      obtain ⟨b7, e7, _, z7⟩ := DataW.trod_string Tryz.underlying9 g7
      have k7 : Tryz.prog.cellsOf 9 = 1 := by kernel_rfl
      simp [k7] at e7
      subst e0 e1 e2 e3 e4 e5 e6 e7
      exact ⟨b0, b1, b2, b3, b4, b5, b6, b7, rfl, z0, z1, z2, z3, z4, z5, z6, z7⟩
end Go.Proofs.YtkccfikemhikcaaGreatDoor
