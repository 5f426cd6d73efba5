/- LayoutFormats: rows of words, of the call's own; the two Formats in one contract. -/
import Derived.Test.YtjhfipgjnlhoaaaLayP3
import Derived.Test.YtjhfipgjnlhoaaaHeap
import Derived.Test.YtjhfipgjnlhoaaaNewMath
namespace Go.Proofs.Ytjhfipgjnlhoaaa
open Go.RowKit Go.Grommet

theorem wrap_u64_nat (n : Nat) : IntKind.u64.wrap (n : Int) = ((n % 18446744073709551616 : Nat) : Int) := by
  simp [IntKind.wrap, IntKind.bits, IntKind.signed]
/-- A row of words that is owned, as words. -/
theorem Own.words {w0 w : World} {Ps : List Pr} (h : Own w0 w Ps) (k : Nat) {ad : Option Addr} {n cap : Nat} {ys : List Nat} (hk : Ps[k]? = some (rowP 31 1 (.slice ad n cap) n (ys.map wv))) (hs : ∀ n ∈ ys, n < 18446744073709551616) (hf : n ≤ 549755813888) :
    Words w ad n ys ∧ (ad = none → n = 0 ∧ cap = 0) ∧ n ≤ cap := by
  have hr := h.row k hk
  have hl := hr.1
  obtain ⟨ad', cap', he, hat, hnil, hc⟩ := row_slice hr
  cases he
  exact ⟨⟨by simpa using hl, hs, hat, by omega⟩, hnil, hc⟩

/-- A new row, or none. -/
def RowU (XR : List Nat) (Z : Nat) (w : World) (e : Ending) (w' : World) : Prop :=
  ∃ ad cap, e = .returned (.slice ad Z cap) ∧ w'.ownsRow w.heap.size 31 1 (.slice ad Z cap) Z (XR.map wv) ∧ w.grownBy w' none
theorem rowU_none {w : World} {e : Ending} {w' : World} (h : e = .returned (.slice none 0 0) ∧ w.grownBy w' none) : RowU [] 0 w e w' := by
  obtain ⟨rfl, hg⟩ := h
  exact ⟨none, 0, rfl, World.ownsRow_nil _ _ _ _, hg⟩
theorem rowU_new {xs : List Nat} {w : World} {e : Ending} {w' : World} (h : NewWords xs w e w') (hl : xs.length ≤ 100000) : RowU xs xs.length w e w' := by
  obtain ⟨g, rfl, hh, hb, hg⟩ := h
  exact ⟨some ⟨g, 0, none⟩, xs.length, rfl, ⟨by simp, .inr ⟨g, xs.length, (xs.map wv).toArray, rfl, hb, hh, Nat.le_refl _, by unfold maxLen; omega, by simp, by rw [Nat.mul_one]; exact List.take_of_length_le (by simp)⟩⟩, hg⟩
theorem formats_both (a b c : Int) :
    ∃ XR Z, XR.length = Z ∧ Z ≤ 100000 ∧ (∀ n ∈ XR, n < 18446744073709551616) ∧
      (∀ w, Calls Try.prog 5 #[gv a b c] w (RowU XR Z w)) ∧
      (∀ w, Calls Try.prog 7 #[gv a b c] w (RowU XR Z w)) := by
  cases h : mayB a b c with
  | false => exact ⟨[], 0, rfl, by omega, by simp, fun w => (Format_none a b c w h).mono (fun _ _ h => rowU_none h), fun w => (RFormat_none a b c w h).mono (fun _ _ h => rowU_none h)⟩
  | true =>
    have hq := mayB_yes h
    obtain ⟨a, rfl⟩ := Int.eq_ofNat_of_zero_le (show 0 ≤ a by omega)
    obtain ⟨b, rfl⟩ := Int.eq_ofNat_of_zero_le (show 0 ≤ b by omega)
    obtain ⟨c, rfl⟩ := Int.eq_ofNat_of_zero_le (show 0 ≤ c by omega)
    have hl : (fmtL a b c (264 + 208 * a) (280 + 208 * a + 16 * b + 8 * c)).length ≤ 100000 := by rw [length_fmtL]; omega
    exact ⟨fmtL a b c (264 + 208 * a) (280 + 208 * a + 16 * b + 8 * c), _, rfl, hl, fmtL_lt _ _ _ _ _ (by omega) (by omega) (by omega), fun w => (Format_any a b c w h).mono (fun _ _ hh => rowU_new hh hl), fun w => (RFormat_any a b c w h).mono (fun _ _ hh => rowU_new hh hl)⟩

/-- A geometry stands in a block; the document's likewise. -/
def GeoS (G : Nat) (a b c : Int) (w : World) : Prop := w.heap[G]? = some (.cells #[.int .i64 a, .int .i64 b, .int .i64 c] 23 (0, 0))
def GeoR (G : Nat) (a b c : Int) (w : World) : Prop := w.heap[G]? = some (.cells #[.int .i64 a, .int .i64 b, .int .i64 c] 27 (0, 0))
theorem GeoS.keep {G : Nat} {a b c : Int} {w w' : World} (h : GeoS G a b c w) (hg : w.grownBy w' none) : GeoS G a b c w' := (hg.block G (lt_of_block h) (by simp)).trans h
theorem GeoS.cells {G : Nat} {a b c : Int} {w : World} (h : GeoS G a b c w) : w.cell? ⟨G, 0, none⟩ = some (.int .i64 a) ∧ w.cell? ⟨G, 1, none⟩ = some (.int .i64 b) ∧ w.cell? ⟨G, 2, none⟩ = some (.int .i64 c) := by
  unfold GeoS at h
  refine ⟨?_, ?_, ?_⟩ <;> simp [World.cell?, h]
theorem GeoR.keep {G : Nat} {a b c : Int} {w w' : World} (h : GeoR G a b c w) (hg : w.grownBy w' none) : GeoR G a b c w' := (hg.block G (lt_of_block h) (by simp)).trans h
theorem GeoR.cells {G : Nat} {a b c : Int} {w : World} (h : GeoR G a b c w) : w.cell? ⟨G, 0, none⟩ = some (.int .i64 a) ∧ w.cell? ⟨G, 1, none⟩ = some (.int .i64 b) ∧ w.cell? ⟨G, 2, none⟩ = some (.int .i64 c) := by
  unfold GeoR at h
  refine ⟨?_, ?_, ?_⟩ <;> simp [World.cell?, h]
end Go.Proofs.Ytjhfipgjnlhoaaa
