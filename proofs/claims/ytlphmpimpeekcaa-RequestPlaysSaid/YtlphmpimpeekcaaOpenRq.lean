/- 'api.Request' by value, opened. -/
import Derived.Test.YtlphmpimpeekcaaRows
import Derived.Test.YtlphmpimpeekcaaReqB
import Derived.ProofKit
import Derived.Deep.Slices
import Derived.Deep.Strs
namespace Go.Proofs.Ytlphmpimpeekcaa
open Go.RowKit Go.Grommet Go.Deep

set_option maxRecDepth 100000 in
theorem open_rq {H : Type} {enc : TypeId × Value → H} {w : World} {spare : Nat → Bool} {held : Bool} {cs : Array Value} {d : DataW H} {p : List MemPlace}
    (h : DataW.Trod enc Try.prog w 0 spare held 24 (.agg cs) d p) : ∃ r : Rq, cs = r.cs ∧ r.Ok ∧ r.p.size ∈ d.weights Try.prog 24 ∧ r.t.size ∈ d.weights Try.prog 24 ∧ r.d.size ∈ d.weights Try.prog 24 := by
  obtain ⟨fuel, hf⟩ := h
  obtain ⟨xs, n', _, hx, hl, hlen, hfl⟩ := DataW.trod_struct Try.underlying24 hf
  have hC : Try.prog.cellsOf 24 = 8 := by kernel_rfl
  rw [hC] at hl
  have hl' : cs.toList.length = 8 := by simpa [Value.cells] using hl
  match xs, hlen with
  | [y0, y1, y2, y3, y4, y5, y6, y7], _ =>
    have g0 := by simpa [Value.cells] using hfl 0 _ rfl
    have g1 := by simpa [Value.cells] using hfl 1 _ rfl
    have g2 := by simpa [Value.cells] using hfl 2 _ rfl
    have g3 := by simpa [Value.cells] using hfl 3 _ rfl
    have g4 := by simpa [Value.cells] using hfl 4 _ rfl
    have g5 := by simpa [Value.cells] using hfl 5 _ rfl
    have g6 := by simpa [Value.cells] using hfl 6 _ rfl
    have g7 := by simpa [Value.cells] using hfl 7 _ rfl
    obtain ⟨l⟩ := cs
    match l, hl' with
    | [c0, c1, c2, c3, c4, c5, c6, c7], _ =>
      obtain ⟨b0, e0, _, z0⟩ := DataW.trod_int Try.underlying5 g0
      have k0 : Try.prog.cellsOf 5 = 1 := by kernel_rfl
      simp [k0] at e0
      obtain ⟨b1, e1, _, z1⟩ := DataW.trod_int Try.underlying5 g1
      have k1 : Try.prog.cellsOf 5 = 1 := by kernel_rfl
      simp [k1] at e1
      obtain ⟨b2, e2, _, z2⟩ := DataW.trod_int Try.underlying22 g2
      have k2 : Try.prog.cellsOf 22 = 1 := by kernel_rfl
      simp [k2] at e2
      obtain ⟨b3, e3, _, z3⟩ := DataW.trod_int Try.underlying22 g3
      have k3 : Try.prog.cellsOf 22 = 1 := by kernel_rfl
      simp [k3] at e3
      obtain ⟨b4, e4, _, z4⟩ := DataW.trod_int Try.underlying22 g4
      have k4 : Try.prog.cellsOf 22 = 1 := by kernel_rfl
      simp [k4] at e4
      obtain ⟨b5, e5, x5, z5⟩ := DataW.trod_string Try.underlying9 g5
      have k5 : Try.prog.cellsOf 9 = 1 := by kernel_rfl
      simp [k5] at e5
      obtain ⟨b6, e6, x6, z6⟩ := DataW.trod_string Try.underlying9 g6
      have k6 : Try.prog.cellsOf 9 = 1 := by kernel_rfl
      simp [k6] at e6
      obtain ⟨b7, e7, x7, z7⟩ := DataW.trod_string Try.underlying9 g7
      have k7 : Try.prog.cellsOf 9 = 1 := by kernel_rfl
      simp [k7] at e7
      subst e0 e1 e2 e3 e4 e5 e6 e7
      have hd : d = .agg [y0.1, y1.1, y2.1, y3.1, y4.1, y5.1, y6.1, y7.1] := congrArg Prod.fst hx
      have hw : d.weights Try.prog 24 = y0.1.weights Try.prog 5 ++ (y1.1.weights Try.prog 5 ++ (y2.1.weights Try.prog 22 ++ (y3.1.weights Try.prog 22 ++ (y4.1.weights Try.prog 22 ++ (y5.1.weights Try.prog 9 ++ (y6.1.weights Try.prog 9 ++ (y7.1.weights Try.prog 9 ++ []))))))) := by
        rw [hd, DataW.weights, Try.underlying24]
        simp [DataW.weightsEach]
      have m5 : b5.size ∈ y5.1.weights Try.prog 9 := by rw [x5]; simp [DataW.weights]
      have m6 : b6.size ∈ y6.1.weights Try.prog 9 := by rw [x6]; simp [DataW.weights]
      have m7 : b7.size ∈ y7.1.weights Try.prog 9 := by rw [x7]; simp [DataW.weights]
      have c0 := bounds_u8 z0
      have c1 := bounds_u8 z1
      have c2 := bounds_u64 z2
      have c3 := bounds_u64 z3
      have c4 := bounds_u64 z4
      obtain ⟨n0, rfl⟩ := Int.eq_ofNat_of_zero_le c0.1
      obtain ⟨n1, rfl⟩ := Int.eq_ofNat_of_zero_le c1.1
      obtain ⟨n2, rfl⟩ := Int.eq_ofNat_of_zero_le c2.1
      obtain ⟨n3, rfl⟩ := Int.eq_ofNat_of_zero_le c3.1
      obtain ⟨n4, rfl⟩ := Int.eq_ofNat_of_zero_le c4.1
      refine ⟨⟨n0, n1, n2, n3, n4, b5, b6, b7⟩, rfl, ⟨by show n0 < 256; omega, by show n1 < 256; omega, by show n2 < 18446744073709551616; omega, by show n3 < 18446744073709551616; omega, by show n4 < 18446744073709551616; omega⟩, ?_, ?_, ?_⟩
      · rw [hw]; simp only [List.mem_append]; exact .inr (.inr (.inr (.inr (.inr (.inl m5)))))
      · rw [hw]; simp only [List.mem_append]; exact .inr (.inr (.inr (.inr (.inr (.inr (.inl m6))))))
      · rw [hw]; simp only [List.mem_append]; exact .inr (.inr (.inr (.inr (.inr (.inr (.inr (.inl m7)))))))
end Go.Proofs.Ytlphmpimpeekcaa
