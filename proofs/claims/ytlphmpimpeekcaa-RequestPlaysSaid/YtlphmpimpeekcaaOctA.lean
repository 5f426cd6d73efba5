/- The small functions of package octet, walked: the byte of a word, a byte in a word, is a tape torn. -/
import Derived.Test.YtlphmpimpeekcaaRows
import Derived.Test.YtlphmpimpeekcaaMath
import Derived.BigQuiet
import Derived.Deep.QuietTactic
namespace Go.Proofs.Ytlphmpimpeekcaa
open Go.RowKit Go.Grommet

set_option maxHeartbeats 400000 in
theorem byteOf_any (n i : Int) (w : World) (hn : 0 ≤ n) (h0 : 0 ≤ i) (h1 : i ≤ 7) :
    Calls Try.prog 60 #[.int .u64 n, .int .i64 i] w fun e w' => e = .returned (.int .u8 ((byteAt n.toNat i.toNat).toNat : Int)) ∧ w = w' := by
  have hb : n / 2 ^ (8 * i).toNat % 256 = ((byteAt n.toNat i.toNat).toNat : Int) := by
    obtain ⟨N, rfl⟩ := Int.eq_ofNat_of_zero_le hn
    obtain ⟨I, rfl⟩ := Int.eq_ofNat_of_zero_le h0
    exact byteAt_int N I
  have H := Lib.hid hb
  clear hb
  go_enter Try.func60, Try.ntmps60
  go_wp2
  go_ret
  exact ⟨congrArg (fun x => Ending.returned (.int .u8 x)) H.out, rfl⟩

set_option maxHeartbeats 400000 in
theorem inWord_any (c : UInt8) (i : Int) (w : World) (h0 : 0 ≤ i) (h1 : i ≤ 7) :
    Calls Try.prog 58 #[.int .u8 (c.toNat : Int), .int .i64 i] w fun e w' => e = .returned (.int .u64 ((c.toNat * 256 ^ i.toNat : Nat) : Int)) ∧ w = w' := by
  have hc : c.toNat < 256 := c.toNat_lt
  have hb : IntKind.u64.wrap ((c.toNat : Int) * 2 ^ (8 * i).toNat) = ((c.toNat * 256 ^ i.toNat : Nat) : Int) := by
    obtain ⟨I, rfl⟩ := Int.eq_ofNat_of_zero_le h0
    exact (word_int c.toNat I hc (by omega)).1
  have H := Lib.hid hb
  clear hb
  go_enter Try.func58, Try.ntmps58
  go_wp2
  go_ret
  exact ⟨congrArg (fun x => Ending.returned (.int .u64 x)) H.out, rfl⟩

theorem inWord_any' (c : UInt8) (i : Int) (w : World) (h0 : 0 ≤ i) (h1 : i ≤ 7) :
    Calls Try.prog 58 #[.int .u8 (c.toNat : Int), .int .i64 i] w fun e w' => e = .returned (.int .u64 ((c.toNat * 256 ^ i.toNat : Nat) : Int)) ∧ w' = w :=
  (inWord_any c i w h0 h1).mono fun _ _ h => ⟨h.1, h.2.symm⟩

set_option maxHeartbeats 400000 in
theorem Torn_nil (w : World) :
    Calls Try.prog 54 #[.pointer none] w fun e w' => e = .returned (.bool true) ∧ w = w' := by
  go_enter Try.func54, Try.ntmps54
  go_wp2
  go_ret
  exact ⟨rfl, rfl⟩

set_option maxHeartbeats 400000 in
theorem Torn_some (g : Nat) (t : Bool) (w : World) (hc : w.cell? ⟨g, 2, none⟩ = some (.bool t)) :
    Calls Try.prog 54 #[.pointer (some ⟨g, 0, none⟩)] w fun e w' => e = .returned (.bool t) ∧ w = w' := by
  go_enter Try.func54, Try.ntmps54
  go_wp2
  go_ret
  exact ⟨rfl, rfl⟩
end Go.Proofs.Ytlphmpimpeekcaa
