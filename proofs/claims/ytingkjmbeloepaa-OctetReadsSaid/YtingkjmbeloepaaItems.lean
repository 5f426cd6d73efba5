/- The laws' lists of items, opened to their cells. -/
import Derived.Test.YtingkjmbeloepaaRows
import Derived.Test.YtingkjmbeloepaaBase3
import Derived.ProofKit
import Derived.Deep.Slices
import Derived.Deep.Strs
namespace Go.Proofs.Ytingkjmbeloepaa
open Go.RowKit Go.Grommet Go.Deep

/-- A number, or, if is, a text. -/
structure It where
  is : Bool
  n : Nat
  s : ByteArray

/-- Where a slice of items leads there stand these, three cells each. -/
def ItemsIn (w : World) (a : Option Addr) (len : Nat) (L : List It) : Prop :=
  L.length = len ∧ (∀ x ∈ L, x.n < 2 ^ 64) ∧ ∀ i x, L[i]? = some x → ∃ g o, a = some ⟨g, o, none⟩ ∧ w.cell? ⟨g, o + i * 3, none⟩ = some (.bool x.is) ∧ w.cell? ⟨g, o + i * 3 + 1, none⟩ = some (.int .u64 (x.n : Int)) ∧ w.cell? ⟨g, o + i * 3 + 2, none⟩ = some (.string x.s)

theorem ItemsIn.grown {w w' : World} {a : Option Addr} {len : Nat} {L : List It} (h : ItemsIn w a len L) (hg : w.grownBy w' none) : ItemsIn w' a len L := by
  refine ⟨h.1, h.2.1, fun i x hx => ?_⟩
  obtain ⟨g, o, ha, h0, h1, h2⟩ := h.2.2 i x hx
  exact ⟨g, o, ha, hg.cell h0 (by simp), hg.cell h1 (by simp), hg.cell h2 (by simp)⟩

theorem list_of_fun {α : Type} (P : Nat → α → Prop) : ∀ n, (∀ i, i < n → ∃ x, P i x) → ∃ L : List α, L.length = n ∧ ∀ i x, L[i]? = some x → P i x
  | 0, _ => ⟨[], rfl, fun i x h => by simp at h⟩
  | n + 1, h => by
    obtain ⟨L, hl, hL⟩ := list_of_fun P n (fun i hi => h i (by omega))
    obtain ⟨y, hy⟩ := h n (by omega)
    refine ⟨L ++ [y], by simp [hl], fun i x hx => ?_⟩
    by_cases hi : i < n
    · rw [List.getElem?_append_left (by omega)] at hx; exact hL i x hx
    · rw [List.getElem?_append_right (by omega)] at hx
      have : i - L.length = 0 := by
        rcases Nat.eq_zero_or_pos (i - L.length) with h0 | h0
        · exact h0
        · rw [List.getElem?_eq_none (by simp; omega)] at hx; cases hx
      rw [this] at hx
      simp at hx
      subst hx
      rwa [show i = n from by omega]

theorem open_items {H : Type} {enc : TypeId × Value → H} {w : World} {spare : Nat → Bool} {held : Bool} {a : Option Addr} {len cap : Nat} {d : DataW H} {p : List MemPlace}
    (h : DataW.Trod enc Try.prog w 0 spare held 46 (.slice a len cap) d p) : ∃ L, ItemsIn w a len L := by
  obtain ⟨fuel, hf⟩ := h
  rcases open_slice Try.underlying46 hf with ⟨hcs, _⟩ | ⟨x, l, c, m, n, D, Pl, hcs, _, hl, _, hm, _, hi⟩
  · simp [Value.cells] at hcs
    obtain ⟨rfl, rfl, rfl⟩ := hcs
    exact ⟨[], rfl, by simp, fun i x h => by simp at h⟩
  · simp [Value.cells] at hcs
    obtain ⟨rfl, rfl, rfl⟩ := hcs
    have hml : len ≤ m := by rw [hm]; split <;> omega
    have hC : Try.prog.cellsOf 48 = 3 := by kernel_rfl
    rw [hC] at hi
    have key : ∀ i, i < len → ∃ y : It, y.n < 2 ^ 64 ∧ w.cell? (x.add (i * 3 + 0)) = some (.bool y.is) ∧ w.cell? (x.add (i * 3 + 1)) = some (.int .u64 (y.n : Int)) ∧ w.cell? (x.add (i * 3 + 2)) = some (.string y.s) := by
      intro i hil
      obtain ⟨cs', hc, ht⟩ := hi i (by omega)
      obtain ⟨_, hcl, hat⟩ := World.cells?_some hc
      obtain ⟨y0, y1, y2, n', _, _, g0, g1, g2⟩ := trod_struct3 Try.underlying48 ht
      match cs', hcl with
      | [c0, c1, c2], _ =>
        obtain ⟨b, hb, _⟩ := DataW.trod_bool Try.underlying4 g0
        obtain ⟨z, hz, _, wz⟩ := DataW.trod_int Try.underlying23 g1
        obtain ⟨s, hs, _, _⟩ := DataW.trod_string Try.underlying9 g2
        have bz := bounds_u64 wz
        have k0 : Try.prog.cellsOf 4 = 1 := by kernel_rfl
        have k1 : Try.prog.cellsOf 23 = 1 := by kernel_rfl
        have k2 : Try.prog.cellsOf 9 = 1 := by kernel_rfl
        simp [k0] at hb
        simp [k1] at hz
        simp [k2] at hs
        subst hb hz hs
        refine ⟨⟨b, z.toNat, s⟩, by show z.toNat < _; omega, ?_, ?_, ?_⟩
        · rw [← Go.Deep.add_add]; exact hat 0 (by omega)
        · rw [← Go.Deep.add_add, hat 1 (by omega)]
          show some (Value.int .u64 z) = some (Value.int .u64 (z.toNat : Int))
          rw [Int.toNat_of_nonneg bz.1]
        · rw [← Go.Deep.add_add]; exact hat 2 (by omega)
    obtain ⟨L, hL, hLi⟩ := list_of_fun _ len key
    refine ⟨L, hL, ?_, ?_⟩
    · intro y hy
      obtain ⟨i, hi⟩ := List.getElem?_of_mem hy
      exact (hLi i y hi).1
    · intro i y hiy
      obtain ⟨_, h0, h1, h2⟩ := hLi i y hiy
      obtain ⟨b, o, sp⟩ := x
      have hil : i < len := by
        have := (List.getElem?_eq_some_iff.1 hiy).1
        omega
      have hsp : sp = none := by
        obtain ⟨_, _, k0, _⟩ := key 0 (by omega)
        have := World.cell?_spot k0
        simpa [Addr.add] using this
      subst hsp
      refine ⟨b, o, rfl, ?_, ?_, ?_⟩
      · rw [Addr.add_lit] at h0; simpa using h0
      · rw [Addr.add_lit] at h1; simpa [Nat.add_assoc] using h1
      · rw [Addr.add_lit] at h2; simpa [Nat.add_assoc] using h2
end Go.Proofs.Ytingkjmbeloepaa
