import Derived.Test.YtgmhojoepcoopaaDoorRows
import Derived.BigQuiet
import Derived.Deep.QuietTactic
import Derived.Test.YtgmhojoepcoopaaDoorPk11
section
namespace Go.Proofs.YtgmhojoepcoopaaDoor
open Go.RowKit Go.Grommet
end Go.Proofs.YtgmhojoepcoopaaDoor
end
