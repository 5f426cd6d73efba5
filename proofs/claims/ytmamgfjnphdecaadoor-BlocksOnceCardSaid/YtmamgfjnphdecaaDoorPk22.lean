/- Texts of ours, packed. -/
import Derived.Test.YtmamgfjnphdecaaDoorRows
import Derived.ProofKit
import Derived.Deep.Slices
import Derived.Deep.Strs
import Derived.Test.YtmamgfjnphdecaaDoorPk11
section
/- '[]grommetlaw13.Step', opened to its cells. -/
namespace Go.Proofs.YtmamgfjnphdecaaDoor
open Go.RowKit Go.Grommet Go.Deep

structure Blo where
  d : Int
  n : Int
  dr : Bool

def Blo.Ok (x : Blo) : Prop := (Lit.int .u8 x.d).wf = true ∧ (Lit.int .i64 x.n).wf = true

/-- Where a slice of such leads there stand these, 3 cells each. -/
def BlosIn (w : World) (a : Option Addr) (len : Nat) (L : List Blo) : Prop :=
  L.length = len ∧ (∀ x ∈ L, x.Ok) ∧ ∀ i x, L[i]? = some x → ∃ g o, a = some ⟨g, o, none⟩ ∧ w.cell? ⟨g, o + i * 3, none⟩ = some (.int .u8 x.d) ∧ w.cell? ⟨g, o + i * 3 + 1, none⟩ = some (.int .i64 x.n) ∧ w.cell? ⟨g, o + i * 3 + 2, none⟩ = some (.bool x.dr)

set_option maxRecDepth 100000 in
theorem BlosIn.grown {w w' : World} {a : Option Addr} {len : Nat} {L : List Blo} (h : BlosIn w a len L) (hg : w.grownBy w' none) : BlosIn w' a len L := by
  refine ⟨h.1, h.2.1, fun i x hx => ?_⟩
  obtain ⟨g, o, ha, h0, h1, h2⟩ := h.2.2 i x hx
  exact ⟨g, o, ha, hg.cell h0 (by simp), hg.cell h1 (by simp), hg.cell h2 (by simp)⟩

set_option maxRecDepth 100000 in
theorem BlosIn.at {w : World} {g o len : Nat} {L : List Blo} (h : BlosIn w (some ⟨g, o, none⟩) len L) (i : Nat) (x : Blo) (hx : L[i]? = some x) : w.cell? ⟨g, o + i * 3, none⟩ = some (.int .u8 x.d) ∧ w.cell? ⟨g, o + i * 3 + 1, none⟩ = some (.int .i64 x.n) ∧ w.cell? ⟨g, o + i * 3 + 2, none⟩ = some (.bool x.dr) := by
  obtain ⟨g', o', ha, h0, h1, h2⟩ := h.2.2 i x hx
  cases ha
  exact ⟨h0, h1, h2⟩

set_option maxRecDepth 100000 in
theorem Blo_list {α : Type} (P : Nat → α → Prop) : ∀ n, (∀ i, i < n → ∃ x, P i x) → ∃ L : List α, L.length = n ∧ ∀ i x, L[i]? = some x → P i x
  | 0, _ => ⟨[], rfl, fun i x h => by simp at h⟩
  | n + 1, h => by
    obtain ⟨L, hl, hL⟩ := Blo_list P n (fun i hi => h i (by omega))
    obtain ⟨y, hy⟩ := h n (by omega)
    refine ⟨L ++ [y], by simp [hl], fun i x hx => ?_⟩
    by_cases hi : i < n
    · rw [List.getElem?_append_left (by omega)] at hx; exact hL i x hx
    · rw [List.getElem?_append_right (by omega)] at hx
      have : i - L.length = 0 := by
        rcases Nat.eq_zero_or_pos (i - L.length) with h0 | h0
        · exact h0
        · rw [List.getElem?_eq_none (by simp; omega)] at hx; cases hx
      rw [this] at hx
      simp at hx
      subst hx
      rwa [show i = n from by omega]

set_option maxRecDepth 100000 in
theorem open_Blos {H : Type} {enc : TypeId × Value → H} {w : World} {spare : Nat → Bool} {held : Bool} {a : Option Addr} {len cap : Nat} {d : DataW H} {p : List MemPlace}
    (h : DataW.Trod enc Tryd.prog w 0 spare held 22 (.slice a len cap) d p) : ∃ L, BlosIn w a len L := by
  obtain ⟨fuel, hf⟩ := h
  rcases open_slice Tryd.underlying22 hf with ⟨hcs, _⟩ | ⟨x, l, c, m, n, D, Pl, hcs, _, hl, _, hm, _, hi⟩
  · simp [Value.cells] at hcs
    obtain ⟨rfl, rfl, rfl⟩ := hcs
    exact ⟨[], rfl, by simp, fun i x h => by simp at h⟩
  · simp [Value.cells] at hcs
    obtain ⟨rfl, rfl, rfl⟩ := hcs
    have hml : len ≤ m := by rw [hm]; split <;> omega
    have hC : Tryd.prog.cellsOf 40 = 3 := by kernel_rfl
    rw [hC] at hi
    have key : ∀ i, i < len → ∃ y : Blo, y.Ok ∧ w.cell? (x.add (i * 3 + 0)) = some (.int .u8 y.d) ∧ w.cell? (x.add (i * 3 + 1)) = some (.int .i64 y.n) ∧ w.cell? (x.add (i * 3 + 2)) = some (.bool y.dr) := by
      intro i hil
      obtain ⟨cs', hc, ht⟩ := hi i (by omega)
      obtain ⟨_, hcl, hat⟩ := World.cells?_some hc
      obtain ⟨xs, n', _, _, _, hlen, hfl⟩ := DataW.trod_struct Tryd.underlying40 ht
      match xs, hlen with
      | [y0, y1, y2], _ =>
        have g0 := by simpa using hfl 0 _ rfl
        have g1 := by simpa using hfl 1 _ rfl
        have g2 := by simpa using hfl 2 _ rfl
        match cs', hcl with
        | [c0, c1, c2], _ =>
          obtain ⟨b0, e0, _, z0⟩ := DataW.trod_int Tryd.underlying5 g0
          have k0 : Tryd.prog.cellsOf 5 = 1 := by kernel_rfl
          simp [k0] at e0
          obtain ⟨b1, e1, _, z1⟩ := DataW.trod_int Tryd.underlying3 g1
          have k1 : Tryd.prog.cellsOf 3 = 1 := by kernel_rfl
          simp [k1] at e1
          obtain ⟨b2, e2, _⟩ := DataW.trod_bool Tryd.underlying4 g2
          have k2 : Tryd.prog.cellsOf 4 = 1 := by kernel_rfl
          simp [k2] at e2
          subst e0 e1 e2
          refine ⟨⟨b0, b1, b2⟩, ⟨z0, z1⟩, ?_, ?_, ?_⟩
          · rw [← Go.Deep.add_add]; exact hat 0 (by omega)
          · rw [← Go.Deep.add_add]; exact hat 1 (by omega)
          · rw [← Go.Deep.add_add]; exact hat 2 (by omega)
    obtain ⟨L, hL, hLi⟩ := Blo_list _ len key
    refine ⟨L, hL, ?_, ?_⟩
    · intro y hy
      obtain ⟨i, hi⟩ := List.getElem?_of_mem hy
      exact (hLi i y hi).1
    · intro i y hiy
      obtain ⟨_, h0, h1, h2⟩ := hLi i y hiy
      obtain ⟨b, o, sp⟩ := x
      have hil : i < len := by
        have := (List.getElem?_eq_some_iff.1 hiy).1
        omega
      have hsp : sp = none := by
        obtain ⟨_, _, k0, _⟩ := key 0 (by omega)
        have := World.cell?_spot k0
        simpa [Addr.add] using this
      subst hsp
      refine ⟨b, o, rfl, ?_, ?_, ?_⟩
      · rw [Addr.add_lit] at h0; simpa [Nat.add_assoc] using h0
      · rw [Addr.add_lit] at h1; simpa [Nat.add_assoc] using h1
      · rw [Addr.add_lit] at h2; simpa [Nat.add_assoc] using h2
end Go.Proofs.YtmamgfjnphdecaaDoor
end
