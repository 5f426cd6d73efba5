/- Texts of ours, packed. -/
import Derived.RowKit
import Derived.IntWalk
import Derived.Laws.BitsAllLaws
import Derived.Laws.Bits64
import Derived.Laws.Bits64b
section
/- A sum over words: plain mathematics. -/
namespace Go.Grommet
open Go.RowKit

/-- One word more. -/
def stp (s n : Nat) : Nat := ((s ^^^ n) * 1099511628211) % 18446744073709551616
def sum0 : Nat := 14695981039346656037
def sumN (ws : List Nat) : Nat := ws.foldl stp sum0

theorem stp_lt (s n : Nat) : stp s n < 18446744073709551616 := Nat.mod_lt _ (by decide)
theorem sum0_lt : sum0 < 18446744073709551616 := by decide
theorem foldl_stp_lt (ws : List Nat) : ∀ s, s < 18446744073709551616 → ws.foldl stp s < 18446744073709551616 := by
  induction ws with
  | nil => intro s h; exact h
  | cons a t ih => intro s _; exact ih _ (stp_lt _ _)
theorem sumN_lt (ws : List Nat) : sumN ws < 18446744073709551616 := foldl_stp_lt ws _ sum0_lt
theorem sumN_snoc (ws : List Nat) (n : Nat) : sumN (ws ++ [n]) = stp (sumN ws) n := by
  unfold sumN
  rw [List.foldl_append, List.foldl_cons, List.foldl_nil]

theorem wrap_u64_nat (n : Nat) : IntKind.u64.wrap (n : Int) = ((n % 18446744073709551616 : Nat) : Int) := by
  simp [IntKind.wrap, IntKind.bits, IntKind.signed]

theorem stp_int (s n : Nat) (hs : s < 18446744073709551616) (hn : n < 18446744073709551616) : IntKind.u64.wrap (bits .xor .u64 (s : Int) (n : Int) * 1099511628211) = ((stp s n : Nat) : Int) := by
  rw [bits_xor_u64_nat _ _ hs hn]
  have : ((s ^^^ n : Nat) : Int) * 1099511628211 = (((s ^^^ n) * 1099511628211 : Nat) : Int) := by simp
  rw [this, wrap_u64_nat]
  rfl
end Go.Grommet
end
