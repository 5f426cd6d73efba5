/- The same words? (the document's Same) -/
import Derived.Test.YtdpkpphjpihhkaaRows
import Derived.Test.YtdpkpphjpihhkaaBase6
import Derived.BigQuiet
import Derived.Deep.QuietTactic
-- OPTIONAL
namespace Go.Proofs.Ytdpkpphjpihhkaa
open Go.RowKit Go.Grommet

def SameIs (v : Bool) (w : World) (e : Ending) (w' : World) : Prop := e = .returned (.bool v) ∧ w.grownBy w' none

end Go.Proofs.Ytdpkpphjpihhkaa
