/- OctetNil, walked. -/
import Derived.Test.YtingkjmbeloepaaOctW
namespace Go.Proofs.Ytingkjmbeloepaa.octetNil
open Go.RowKit Go.Grommet

set_option maxHeartbeats 1000000 in
theorem walk (a0 : Int) (w : World) (_w0 : (Lit.int .i64 a0).wf = true) : Calls Try.prog 6 #[.int .i64 a0] w (WorksIs w) := by
  go_enter Try.func6, Try.ntmps6
  go_wp2_with fail
  refine (Byte_nil _).mono ?_
  rintro e w1 ⟨rfl, hg⟩
  go_wp2_with fail
  refine (Number_nil _).mono ?_
  rintro e w2 ⟨rfl, hg2⟩
  have hg := grown_trans hg hg2
  clear hg2
  go_wp2_with fail
  refine (Text_nil _ _).mono ?_
  rintro e w3 ⟨rfl, hg2⟩
  have hg := grown_trans hg hg2
  clear hg2
  go_wp2_with fail
  refine (End_nil _).mono ?_
  rintro e w4 ⟨rfl, hg2⟩
  have hg := grown_trans hg hg2
  clear hg2
  go_wp2_with fail
  refine (Torn_nil _).mono ?_
  rintro e w5 ⟨rfl, rfl⟩
  go_wp2_with fail
  refine (works_any _).mono ?_
  rintro e w5 ⟨rfl, hg2⟩
  have hg := grown_trans hg hg2
  clear hg2
  go_wp2
  go_ret
  exact ⟨rfl, hg⟩
end Go.Proofs.Ytingkjmbeloepaa.octetNil
