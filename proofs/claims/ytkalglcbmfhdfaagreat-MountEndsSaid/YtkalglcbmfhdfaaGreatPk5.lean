/- Texts of ours, packed. -/
import Derived.IntWalk
import Derived.Test.YtkalglcbmfhdfaaGreatPk4
section
/- The geometry that words tell. -/
namespace Go.Grommet
open Go

theorem wrap_i64_nat (n : Nat) (h : n < 18446744073709551616) : IntKind.i64.wrap (n : Int) = if n < 9223372036854775808 then (n : Int) else (n : Int) - 18446744073709551616 := by
  split
  · exact IntWalk.i64_in _ ⟨by omega, by omega⟩
  · rw [IntKind.wrap_i64]; omega

theorem may_wrap (a b c : Nat) (ha : a < 18446744073709551616) (hb : b < 18446744073709551616) (hc : c < 18446744073709551616) :
    mayB (IntKind.i64.wrap (a : Int)) (IntKind.i64.wrap (b : Int)) (IntKind.i64.wrap (c : Int)) = mayB (a : Int) (b : Int) (c : Int) := by
  rw [wrap_i64_nat a ha, wrap_i64_nat b hb, wrap_i64_nat c hc]
  unfold mayB
  rw [Bool.eq_iff_iff, decide_eq_true_eq, decide_eq_true_eq]
  split <;> split <;> split <;> omega

theorem wrap_le1000 (a : Nat) (h : (a : Int) ≤ 1000) : IntKind.i64.wrap (a : Int) = (a : Int) := IntWalk.i64_in _ ⟨by omega, by omega⟩
end Go.Grommet
end
