/- Package sum, walked. -/
import Derived.Test.YtpdofdloclmbdaaGreatRows
import Derived.Test.YtpdofdloclmbdaaGreatBase6
import Derived.Test.YtpdofdloclmbdaaGreatSumMath
import Derived.BigQuiet
import Derived.Deep.QuietTactic
-- OPTIONAL
namespace Go.Proofs.YtpdofdloclmbdaaGreat
open Go.RowKit Go.Grommet

/-- A sum in a block of its own. -/
def NumIs (w : World) (g : Nat) (T : TypeId) (s : Nat) : Prop := w.heap[g]? = some (.cells #[wv s] T (0, 0)) ∧ s < 18446744073709551616

theorem NumIs.cell {w : World} {g T s : Nat} (h : NumIs w g T s) : w.cell? ⟨g, 0, none⟩ = some (.int .u64 (s : Int)) := by
  rw [World.cell?]; simp [h.1, wv]
theorem NumIs.free {w : World} {g T s : Nat} (h : NumIs w g T s) : w.frozen? ⟨g, 0, none⟩ = false := by
  rw [World.frozen?]; simp [h.1]
theorem NumIs.keep {w w' : World} {g T s : Nat} {row : Option Nat} (h : NumIs w g T s) (hg : w.grownBy w' row) (hn : some g ≠ row) : NumIs w' g T s :=
  ⟨by rw [hg.block g (lt_of_block h.1) hn]; exact h.1, h.2⟩
theorem NumIs.set {w : World} {g T s : Nat} (h : NumIs w g T s) (n : Nat) (hn : n < 18446744073709551616) : NumIs (w.setCell ⟨g, 0, none⟩ (wv n)) g T n :=
  ⟨by have := heap_setCell_at (o := 0) h.1 (wv n); simpa using this, hn⟩
theorem NumIs.lt {w : World} {g T s : Nat} (h : NumIs w g T s) : g < w.heap.size := lt_of_block h.1

def AddIs (w : World) (g T s : Nat) (e : Ending) (w' : World) : Prop := e = .returned (.tuple #[]) ∧ NumIs w' g T s ∧ w.grownBy w' (some g)

set_option maxHeartbeats 400000 in
theorem add_any (g T s n : Nat) (w : World) (hs : NumIs w g T s) (hn : n < 18446744073709551616) :
    Calls Tryz.prog 110 #[.pointer (some ⟨g, 0, none⟩), .int .u64 (n : Int)] w (AddIs w g T (stp s n)) := by
  have H := Lib.hid (stp_int s n hs.2 hn)
  have hc := hs.cell
  have hf := hs.free
  go_enter Tryz.func110, Tryz.ntmps110
  go_wp2
  rw [H.out]
  go_end0
  exact ⟨rfl, hs.set _ (stp_lt _ _), grown_setCell _ _ _⟩

end Go.Proofs.YtpdofdloclmbdaaGreat
