/- Texts of ours, packed. -/
import Derived.Test.YtmamgfjnphdecaaDoorRows
import Derived.BigQuiet
import Derived.Deep.QuietTactic
import Derived.Test.YtmamgfjnphdecaaDoorPk11
section
/- The same words? (the document's Same) -/
-- OPTIONAL
namespace Go.Proofs.YtmamgfjnphdecaaDoor
open Go.RowKit Go.Grommet

def SameIs (v : Bool) (w : World) (e : Ending) (w' : World) : Prop := e = .returned (.bool v) ∧ w.grownBy w' none

end Go.Proofs.YtmamgfjnphdecaaDoor
end
