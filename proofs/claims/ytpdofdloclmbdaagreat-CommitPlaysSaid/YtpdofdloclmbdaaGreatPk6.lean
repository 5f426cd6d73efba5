/- Texts of ours, packed. -/
import Derived.WalkKit
import Derived.WalkSpells
import Derived.WalkLawsBesides
import Derived.Lib.Hide
import Derived.Lib.AppendStr
import Derived.Lib.BufferRead
section
/- Words on memory that all texts of these claims use: a list of bytes as values, what stands at an address, the frame of a call. -/
namespace Go.Grommet
open Go.RowKit

/-- A byte as a value. -/
def bv (c : UInt8) : Value := .int .u8 (c.toNat : Int)

/-- From this address on these values stand in memory, one a cell. -/
def At (w : World) (ad : Option Addr) (xs : List Value) : Prop := ∀ j u, xs[j]? = some u → ∃ g o, ad = some ⟨g, o, none⟩ ∧ w.cell? ⟨g, o + j, none⟩ = some u

theorem At.nil (w : World) (ad : Option Addr) : At w ad [] := by
  intro j u h; simp at h

theorem At.some {w : World} {a : Addr} {xs : List Value} (h : At w (some a) xs) : ∀ j u, xs[j]? = some u → w.cell? (a.add j) = some u := by
  intro j u hu
  obtain ⟨g, o, hb, hc⟩ := h j u hu
  cases hb; rw [Addr.add_lit]; exact hc

theorem At.grown {w w' : World} {ad : Option Addr} {xs : List Value} {row : Option Nat} (h : At w ad xs) (hg : w.grownBy w' row) (hne : ∀ a, ad = Option.some a → xs ≠ [] → Option.some a.block ≠ row) : At w' ad xs := by
  intro j u hu
  obtain ⟨g, o, ha, hc⟩ := h j u hu
  exact ⟨g, o, ha, hg.cell hc (by have := hne _ ha (by intro e; rw [e] at hu; simp at hu); simpa using this)⟩

theorem grown_trans {a b c : World} {row : Option Nat} (h : a.grownBy b row) (k : b.grownBy c row) : a.grownBy c row :=
  ⟨k.os.trans h.os, k.tape.trans h.tape, k.output.trans h.output, Nat.le_trans h.size k.size, fun i hi hn => (k.block i (Nat.lt_of_lt_of_le hi h.size) hn).trans (h.block i hi hn)⟩

/-- A step that writes one row that was not there at first. -/
theorem grown_new {a b c : World} {row : Option Nat} {o : Option Nat} (h : a.grownBy b row) (k : b.grownBy c o) (ho : ∀ g, o = some g → a.heap.size ≤ g) : a.grownBy c row :=
  ⟨k.os.trans h.os, k.tape.trans h.tape, k.output.trans h.output, Nat.le_trans h.size k.size, fun i hi hn =>
    (k.block i (Nat.lt_of_lt_of_le hi h.size) (by intro e; have := ho i e.symm; omega)).trans (h.block i hi hn)⟩

theorem grown_wide {a b : World} {row : Option Nat} (h : a.grownBy b none) : a.grownBy b row :=
  ⟨h.os, h.tape, h.output, h.size, fun i hi _ => h.block i hi (by simp)⟩

theorem grown_drewN (w : World) (n : Nat) (row : Option Nat) : w.grownBy (w.drewN n) row := ⟨rfl, rfl, rfl, Nat.le_refl _, fun _ _ _ => rfl⟩

theorem grown_drew {a b : World} {row : Option Nat} (h : a.grownBy b row) : a.grownBy b.drew row := ⟨h.os, h.tape, h.output, h.size, h.block⟩

theorem grown_setCell (w : World) (p : Addr) (u : Value) : w.grownBy (w.setCell p u) (some p.block) :=
  ⟨rfl, rfl, rfl, by simp [World.setCell], fun k _ hn => Below.heap_setCell _ _ _ _ (by intro e; exact hn (by rw [e]))⟩

/-- A block of cells behind a store into it. -/
theorem heap_setCell_at {w : World} {b o : Nat} {cs : Array Value} {e : TypeId} {f : Nat × Nat} (h : w.heap[b]? = some (.cells cs e f)) (u : Value) : (w.setCell ⟨b, o, none⟩ u).heap[b]? = some (.cells (cs.setIfInBounds o u) e f) := by
  have hlt := lt_of_block h
  have h' : w.heap[b] = .cells cs e f := by simpa [Array.getElem?_eq_getElem hlt] using h
  show (w.heap.modify b _)[b]? = _
  rw [Array.getElem?_eq_getElem (by simpa using hlt), Array.getElem_modify_self, h']
  rfl

theorem below_of_grown {w w' : World} (h : w.grownBy w' none) : Below w.heap.size w w' := ⟨h.os, h.tape, h.output, h.size, fun k hk => h.block k hk (by simp)⟩

end Go.Grommet
end
