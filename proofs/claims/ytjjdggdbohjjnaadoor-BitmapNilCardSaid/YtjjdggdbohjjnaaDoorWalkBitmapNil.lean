/- BitmapNil, worked out. -/
import Derived.Test.YtjjdggdbohjjnaaDoorTab
namespace Go.Proofs.YtjjdggdbohjjnaaDoor.bitmapNil
open Go.Ev

theorem done (a b c : Int) : isTrue (evFn Tryd.prog (tabGl 0) 1000 5 [.int .i64 a, .int .i64 b, .int .i64 c] (tabHp tab)) = true := by kernel_rfl
theorem walk (a b c : Int) (w : World) (_ : (Lit.int .i64 a).wf = true) (_ : (Lit.int .i64 b).wf = true) (_ : (Lit.int .i64 c).wf = true) (ht : Lib.TabIs Tryd.prog w "math/bits.deBruijn64tab" .u8 tab) : Calls Tryd.prog 5 #[.int .i64 a, .int .i64 b, .int .i64 c] w (WorksIs w) :=
  ev_true_tab (by kernel_rfl) (by kernel_rfl) (done a b c) rfl gTab w ht
end Go.Proofs.YtjjdggdbohjjnaaDoor.bitmapNil
