import Derived.Test.YtfljlmmiiccooaaGreatDoorRows
import Derived.Test.YtfljlmmiiccooaaGreatDoorPk13
section
namespace Go.Proofs.YtfljlmmiiccooaaGreatDoor
open Go.RowKit Go.Grommet
theorem Tryz.info72 : (Tryz.prog.info? 72).map (fun i => (i.zero, i.size, i.bytes)) = some (some (.int .u64 0), 1, 8) := by kernel_rfl
end Go.Proofs.YtfljlmmiiccooaaGreatDoor
end
