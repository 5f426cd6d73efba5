import Derived.Test.YtfljlmmiiccooaaGreatDoorPk15
import Derived.Test.YtfljlmmiiccooaaGreatDoorPk13
section
namespace Go.Proofs.YtfljlmmiiccooaaGreatDoor
open Go.Ev Go.RowKit
theorem tab_grown {w w' : World} (h : Lib.TabIs Tryz.prog w "math/bits.deBruijn64tab" .u8 tab) (hg : w.grownBy w' none) : Lib.TabIs Tryz.prog w' "math/bits.deBruijn64tab" .u8 tab := by
 unfold Lib.TabIs World.var? at h ⊢
 rw [gTab] at h ⊢
 simp only [Option.bind_some] at h ⊢
 cases e : w.heap[(1 : Nat)]? with
 | none => rw [e] at h; simp at h
 | some o =>
  have e2 : w'.heap[(1 : Nat)]? = some o := (hg.block _ (by
   rcases Nat.lt_or_ge (1 : Nat) w.heap.size with h' | h'
   ·exact h'
   ·rw [Array.getElem?_eq_none h'] at e; cases e) (by simp)).trans e
  rw [e] at h
  rw [e2]
  exact h
end Go.Proofs.YtfljlmmiiccooaaGreatDoor
end
