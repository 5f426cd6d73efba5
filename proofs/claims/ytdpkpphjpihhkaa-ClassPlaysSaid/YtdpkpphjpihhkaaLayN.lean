/- New words, known whole. -/
import Derived.Test.YtdpkpphjpihhkaaLayC
import Derived.Test.YtdpkpphjpihhkaaBase6
import Derived.Test.YtdpkpphjpihhkaaFmtMath
import Derived.Test.YtdpkpphjpihhkaaViewA
namespace Go.Proofs.Ytdpkpphjpihhkaa
open Go.RowKit Go.Grommet

/-- New words, known whole. -/
def NewWords (xs : List Nat) (w : World) (e : Ending) (w' : World) : Prop :=
  ∃ g, e = .returned (.slice (some ⟨g, 0, none⟩) xs.length xs.length) ∧ w'.heap[g]? = some (.cells (xs.map wv).toArray 36 (0, 0)) ∧ w.heap.size ≤ g ∧ w.grownBy w' none

theorem made_wv (n : Nat) : madeCells #[Value.int .u64 0] n = ((List.replicate n 0).map wv).toArray := by
  apply Array.toList_inj.1
  simp [wv, madeCells, Nat.mod_one, List.map_const']

theorem map_wv_get (L : List Nat) (k : Nat) (h : k < L.length) : (L.map wv)[k]? = some (wv (L.getD k 0)) := by simp [h]

theorem map_splice (L cs : List Nat) (off : Nat) : splice (L.map wv) off (cs.map wv) = (splice L off cs).map wv := by simp [splice]

theorem words_pos {a b c : Int} (h : mayB a b c = true) : wordsV a b c = 280 + 208 * a + 16 * b + 8 * c := by unfold wordsV; rw [if_pos h]
end Go.Proofs.Ytdpkpphjpihhkaa
