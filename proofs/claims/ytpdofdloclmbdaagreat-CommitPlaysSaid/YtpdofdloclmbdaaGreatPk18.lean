/- Texts of ours, packed. -/
import Derived.Test.YtpdofdloclmbdaaGreatRows
import Derived.ProofKit
import Derived.Deep.Slices
import Derived.Deep.Strs
import Derived.Test.YtpdofdloclmbdaaGreatPk10
section
/- '[]grommetlaw09.Put', opened to its cells. -/
namespace Go.Proofs.YtpdofdloclmbdaaGreat
open Go.RowKit Go.Grommet Go.Deep

structure Cpt where
  a : Int
  v : Int

def Cpt.Ok (x : Cpt) : Prop := (Lit.int .u8 x.a).wf = true ∧ (Lit.int .u64 x.v).wf = true

/-- Where a slice of such leads there stand these, 2 cells each. -/
def CptsIn (w : World) (a : Option Addr) (len : Nat) (L : List Cpt) : Prop :=
  L.length = len ∧ (∀ x ∈ L, x.Ok) ∧ ∀ i x, L[i]? = some x → ∃ g o, a = some ⟨g, o, none⟩ ∧ w.cell? ⟨g, o + i * 2, none⟩ = some (.int .u8 x.a) ∧ w.cell? ⟨g, o + i * 2 + 1, none⟩ = some (.int .u64 x.v)

set_option maxRecDepth 100000 in
theorem CptsIn.grown {w w' : World} {a : Option Addr} {len : Nat} {L : List Cpt} (h : CptsIn w a len L) (hg : w.grownBy w' none) : CptsIn w' a len L := by
  refine ⟨h.1, h.2.1, fun i x hx => ?_⟩
  obtain ⟨g, o, ha, h0, h1⟩ := h.2.2 i x hx
  exact ⟨g, o, ha, hg.cell h0 (by simp), hg.cell h1 (by simp)⟩

set_option maxRecDepth 100000 in
theorem CptsIn.at {w : World} {g o len : Nat} {L : List Cpt} (h : CptsIn w (some ⟨g, o, none⟩) len L) (i : Nat) (x : Cpt) (hx : L[i]? = some x) : w.cell? ⟨g, o + i * 2, none⟩ = some (.int .u8 x.a) ∧ w.cell? ⟨g, o + i * 2 + 1, none⟩ = some (.int .u64 x.v) := by
  obtain ⟨g', o', ha, h0, h1⟩ := h.2.2 i x hx
  cases ha
  exact ⟨h0, h1⟩

end Go.Proofs.YtpdofdloclmbdaaGreat
end
section
/- '[]api.Write', opened to its cells. -/
namespace Go.Proofs.YtpdofdloclmbdaaGreat
open Go.RowKit Go.Grommet Go.Deep

structure Wrt where
  ad : Int
  vv : Int

def Wrt.Ok (x : Wrt) : Prop := (Lit.int .i64 x.ad).wf = true ∧ (Lit.int .u64 x.vv).wf = true

/-- Where a slice of such leads there stand these, 2 cells each. -/
def WrtsIn (w : World) (a : Option Addr) (len : Nat) (L : List Wrt) : Prop :=
  L.length = len ∧ (∀ x ∈ L, x.Ok) ∧ ∀ i x, L[i]? = some x → ∃ g o, a = some ⟨g, o, none⟩ ∧ w.cell? ⟨g, o + i * 2, none⟩ = some (.int .i64 x.ad) ∧ w.cell? ⟨g, o + i * 2 + 1, none⟩ = some (.int .u64 x.vv)

set_option maxRecDepth 100000 in
theorem WrtsIn.grown {w w' : World} {a : Option Addr} {len : Nat} {L : List Wrt} (h : WrtsIn w a len L) (hg : w.grownBy w' none) : WrtsIn w' a len L := by
  refine ⟨h.1, h.2.1, fun i x hx => ?_⟩
  obtain ⟨g, o, ha, h0, h1⟩ := h.2.2 i x hx
  exact ⟨g, o, ha, hg.cell h0 (by simp), hg.cell h1 (by simp)⟩

set_option maxRecDepth 100000 in
theorem WrtsIn.at {w : World} {g o len : Nat} {L : List Wrt} (h : WrtsIn w (some ⟨g, o, none⟩) len L) (i : Nat) (x : Wrt) (hx : L[i]? = some x) : w.cell? ⟨g, o + i * 2, none⟩ = some (.int .i64 x.ad) ∧ w.cell? ⟨g, o + i * 2 + 1, none⟩ = some (.int .u64 x.vv) := by
  obtain ⟨g', o', ha, h0, h1⟩ := h.2.2 i x hx
  cases ha
  exact ⟨h0, h1⟩

set_option maxRecDepth 100000 in
theorem Wrt_list {α : Type} (P : Nat → α → Prop) : ∀ n, (∀ i, i < n → ∃ x, P i x) → ∃ L : List α, L.length = n ∧ ∀ i x, L[i]? = some x → P i x
  | 0, _ => ⟨[], rfl, fun i x h => by simp at h⟩
  | n + 1, h => by
    obtain ⟨L, hl, hL⟩ := Wrt_list P n (fun i hi => h i (by omega))
    obtain ⟨y, hy⟩ := h n (by omega)
    refine ⟨L ++ [y], by simp [hl], fun i x hx => ?_⟩
    by_cases hi : i < n
    · rw [List.getElem?_append_left (by omega)] at hx; exact hL i x hx
    · rw [List.getElem?_append_right (by omega)] at hx
      have : i - L.length = 0 := by
        rcases Nat.eq_zero_or_pos (i - L.length) with h0 | h0
        · exact h0
        · rw [List.getElem?_eq_none (by simp; omega)] at hx; cases hx
      rw [this] at hx
      simp at hx
      subst hx
      rwa [show i = n from by omega]

set_option maxRecDepth 100000 in
theorem open_Wrts {H : Type} {enc : TypeId × Value → H} {w : World} {spare : Nat → Bool} {held : Bool} {a : Option Addr} {len cap : Nat} {d : DataW H} {p : List MemPlace}
    (h : DataW.Trod enc Tryz.prog w 0 spare held 43 (.slice a len cap) d p) : ∃ L, WrtsIn w a len L := by
  obtain ⟨fuel, hf⟩ := h
  rcases open_slice Tryz.underlying43 hf with ⟨hcs, _⟩ | ⟨x, l, c, m, n, D, Pl, hcs, _, hl, _, hm, _, hi⟩
  · simp [Value.cells] at hcs
    obtain ⟨rfl, rfl, rfl⟩ := hcs
    exact ⟨[], rfl, by simp, fun i x h => by simp at h⟩
  · simp [Value.cells] at hcs
    obtain ⟨rfl, rfl, rfl⟩ := hcs
    have hml : len ≤ m := by rw [hm]; split <;> omega
    have hC : Tryz.prog.cellsOf 92 = 2 := by kernel_rfl
    rw [hC] at hi
    have key : ∀ i, i < len → ∃ y : Wrt, y.Ok ∧ w.cell? (x.add (i * 2 + 0)) = some (.int .i64 y.ad) ∧ w.cell? (x.add (i * 2 + 1)) = some (.int .u64 y.vv) := by
      intro i hil
      obtain ⟨cs', hc, ht⟩ := hi i (by omega)
      obtain ⟨_, hcl, hat⟩ := World.cells?_some hc
      obtain ⟨xs, n', _, _, _, hlen, hfl⟩ := DataW.trod_struct Tryz.underlying92 ht
      match xs, hlen with
      | [y0, y1], _ =>
        have g0 := by simpa using hfl 0 _ rfl
        have g1 := by simpa using hfl 1 _ rfl
        match cs', hcl with
        | [c0, c1], _ =>
          obtain ⟨b0, e0, _, z0⟩ := DataW.trod_int Tryz.underlying3 g0
          have k0 : Tryz.prog.cellsOf 3 = 1 := by kernel_rfl
          simp [k0] at e0
          obtain ⟨b1, e1, _, z1⟩ := DataW.trod_int Tryz.underlying44 g1
          have k1 : Tryz.prog.cellsOf 44 = 1 := by kernel_rfl
          simp [k1] at e1
          subst e0 e1
          refine ⟨⟨b0, b1⟩, ⟨z0, z1⟩, ?_, ?_⟩
          · rw [← Go.Deep.add_add]; exact hat 0 (by omega)
          · rw [← Go.Deep.add_add]; exact hat 1 (by omega)
    obtain ⟨L, hL, hLi⟩ := Wrt_list _ len key
    refine ⟨L, hL, ?_, ?_⟩
    · intro y hy
      obtain ⟨i, hi⟩ := List.getElem?_of_mem hy
      exact (hLi i y hi).1
    · intro i y hiy
      obtain ⟨_, h0, h1⟩ := hLi i y hiy
      obtain ⟨b, o, sp⟩ := x
      have hil : i < len := by
        have := (List.getElem?_eq_some_iff.1 hiy).1
        omega
      have hsp : sp = none := by
        obtain ⟨_, _, k0, _⟩ := key 0 (by omega)
        have := World.cell?_spot k0
        simpa [Addr.add] using this
      subst hsp
      refine ⟨b, o, rfl, ?_, ?_⟩
      · rw [Addr.add_lit] at h0; simpa [Nat.add_assoc] using h0
      · rw [Addr.add_lit] at h1; simpa [Nat.add_assoc] using h1
end Go.Proofs.YtpdofdloclmbdaaGreat
end
