/- room: a copy of bytes in new memory, with room for more. -/
import Derived.Test.YtlphmpimpeekcaaRows
import Derived.Test.YtlphmpimpeekcaaBase
import Derived.BigQuiet
import Derived.Deep.QuietTactic
namespace Go.Proofs.Ytlphmpimpeekcaa
open Go.RowKit Go.Grommet

theorem Try.info5 : (Try.prog.info? 5).map (fun i => (i.zero, i.size, i.bytes)) = some (some (.int .u8 0), 1, 1) := by kernel_rfl

def RoomIs (w : World) (l more : Nat) (bs : List UInt8) (e : Ending) (w' : World) : Prop :=
  e = .returned (.slice (some ⟨w.heap.size, 0, none⟩) l (l + more)) ∧ w'.ownsRow w.heap.size 5 1 (.slice (some ⟨w.heap.size, 0, none⟩) l (l + more)) l (bs.map bv) ∧ w.grownBy w' none

set_option maxHeartbeats 400000 in
theorem room_any (ad : Option Addr) (l cap more : Nat) (bs : List UInt8) (w : World) (hl : bs.length = l) (hat : At w ad (bs.map bv)) (hnil : ad = none → l = 0 ∧ cap = 0) (hb : l + more ≤ 281474976710656) :
    Calls Try.prog 39 #[.slice ad l cap, .int .i64 more] w (RoomIs w l more bs) := by
  obtain ⟨i0, hi, hz0, hz1, hz2⟩ := info_parts Try.info5
  go_enter Try.func39, Try.ntmps39
  go_wp2_with (at_make; refine wpList_make_own _ rfl _ _ 25 rfl w.heap.size 5 i0 (.int .u8 0) 1 Try.underlying25 hi hz0 hz1 _ _ _ (l + more) rfl rfl ?m1 ?m2 ?m3 ?m4 ?_)
  case m1 => omega
  case m2 => rw [hz2]; omega
  case m3 => unfold maxLen; omega
  case m4 => omega
  intro w1 hown1 hg1
  have hat1 := hat.grown hg1 (by simp)
  go_wp2_with (at_builtin; refine wpList_append_fits_any _ rfl _ _ 25 rfl w.heap.size 5 i0 1 Try.underlying25 hi hz1 w.heap.size 0 (l + more) [] rfl hown1 ad l cap (bs.map bv) rfl ?a2 ?a3 ?a4 ?a5 ?a6 ?_)
  case a2 => simp [hl]
  case a3 => exact hnil
  case a4 => intro a ha; subst ha; exact hat1.some
  case a5 => exact bv_oneCell bs
  case a6 => omega
  intro w2 hown2 hg2
  have hr : RoomIs w l more bs (.returned (.slice (some ⟨w.heap.size, 0, none⟩) l (l + more))) w2 :=
    ⟨rfl, hown2, ⟨hg2.os.trans hg1.os, hg2.tape.trans hg1.tape, hg2.output.trans hg1.output, Nat.le_trans hg1.size hg2.size, fun k hk hn => (hg2.block k (by have := hg1.size; omega) (by simp; omega)).trans (hg1.block k hk hn)⟩⟩
  clear hown1 hg1 hown2 hg2 hat1 hat
  go_wp2
  go_ret
  simpa using hr
end Go.Proofs.Ytlphmpimpeekcaa
