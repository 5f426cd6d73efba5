/- Package layout: the places. -/
import Derived.Test.YthcaeepngdohfaaLayB
-- OPTIONAL
namespace Go.Proofs.Ythcaeepngdohfaa
open Go.RowKit Go.Grommet

theorem intIs_to {v u : Int} {w w0 : World} (h : v = u) (hg : w0.grownBy w none) (e : Ending) (w' : World) (hi : IntIs v w e w') : IntIs u w0 e w' := ⟨by rw [← h]; exact hi.1, grown_trans hg hi.2⟩

theorem table_tab {l : List Row} {w w' : World} {e : Ending} (h : TableIs l w e w') : ∃ g, e = .returned (.slice (some ⟨g, 0, none⟩) l.length l.length) ∧ Tab w' g l ∧ w.grownBy w' none := h

def placeV (a b c k i : Int) : Int := if mayB a b c = true then startR (placesR a b c) k i 0 else -1

end Go.Proofs.Ythcaeepngdohfaa
