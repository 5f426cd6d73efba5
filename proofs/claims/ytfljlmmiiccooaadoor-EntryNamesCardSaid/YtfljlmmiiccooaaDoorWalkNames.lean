/- EntryNames, walked. -/
import Derived.Test.YtfljlmmiiccooaaDoorWorks
import Derived.Test.YtfljlmmiiccooaaDoorTabG
import Derived.Test.YtfljlmmiiccooaaDoorNameMath
namespace Go.Proofs.YtfljlmmiiccooaaDoor.entryNames
open Go.Ev Go.RowKit Go.Grommet

def badP (x : UInt8) : Bool := x == 0 || x == 47

set_option maxRecDepth 100000 in
set_option maxHeartbeats 4000000 in
theorem walk_far (s : ByteArray) (at_ : Int) (z : Bool) (w : World) (ht : Lib.TabIs Tryd.prog w "math/bits.deBruijn64tab" .u8 tab) (h : 500 < s.size) :
    Calls Tryd.prog 3 #[.string s, .int .u8 at_, .bool z] w (Go.Ev.WorksIs w) := by
  have h' : (500 : Int) < (s.size : Int) := by omega
  have HW := Lib.hid (works_tab w ht)
  clear ht
  go_enter Tryd.func3, Tryd.ntmps3
  go_wp2_with fail
  refine HW.out.mono ?_
  rintro e w5 ⟨rfl, hg⟩
  go_wp2
  go_ret
  exact ⟨rfl, hg⟩

end Go.Proofs.YtfljlmmiiccooaaDoor.entryNames
