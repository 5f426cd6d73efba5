import Derived.Test.YtfljlmmiiccooaaDoorRows
import Derived.Test.YtfljlmmiiccooaaDoorPk13
section
namespace Go.Proofs.YtfljlmmiiccooaaDoor
open Go.RowKit Go.Grommet
theorem Tryd.info25 : (Tryd.prog.info? 25).map (fun i => (i.zero, i.size, i.bytes)) = some (some (.int .u64 0), 1, 8) := by kernel_rfl
end Go.Proofs.YtfljlmmiiccooaaDoor
end
