/- The law's small geometry. -/
import Derived.Test.YtfmpamgflnklpaaLayE
namespace Go.Proofs.Ytfmpamgflnklpaa
open Go.RowKit Go.Grommet

set_option maxHeartbeats 1000000 in
theorem small_any (x y z : Nat) (hx : x < 65536) (hy : y < 65536) (hz : z < 65536) (w : World) : Calls Try.prog 38 #[.int .u16 (x : Int), .int .u16 (y : Int), .int .u16 (z : Int)] w
    fun e w' => e = .returned (gv ((1 + x % 4 : Nat) : Int) ((2 + y % 63 : Nat) : Int) ((2 + z % 511 : Nat) : Int)) ∧ w.grownBy w' none := by
  unfold gv
  have e1 : (x : Int) % 4 = ((x % 4 : Nat) : Int) := by omega
  have e2 : (y : Int) % 63 = ((y % 63 : Nat) : Int) := by omega
  have e3 : (z : Int) % 511 = ((z % 511 : Nat) : Int) := by omega
  have c1 : ((1 + x % 4 : Nat) : Int) = 1 + ((x % 4 : Nat) : Int) := by omega
  have c2 : ((2 + y % 63 : Nat) : Int) = 2 + ((y % 63 : Nat) : Int) := by omega
  have c3 : ((2 + z % 511 : Nat) : Int) = 2 + ((z % 511 : Nat) : Int) := by omega
  rw [c1, c2, c3]
  have b1 : x % 4 < 4 := by omega
  have b2 : y % 63 < 63 := by omega
  have b3 : z % 511 < 511 := by omega
  generalize x % 4 = X at e1 b1
  generalize y % 63 = Y at e2 b2
  generalize z % 511 = Z at e3 b3
  clear c1 c2 c3
  go_enter Try.func38, Try.ntmps38
  go_wp2
  exact bodyPost_ret (v := .agg #[.int .i64 (1 + (X : Int)), .int .i64 (2 + (Y : Int)), .int .i64 (2 + (Z : Int))]) (by simp [results, Try.results38, go_sem]) rfl ⟨rfl, World.grownBy_alloc w _ none⟩

theorem small_may (x y z : Nat) : mayB ((1 + x % 4 : Nat) : Int) ((2 + y % 63 : Nat) : Int) ((2 + z % 511 : Nat) : Int) = true := by
  unfold mayB; rw [decide_eq_true_eq]; omega
end Go.Proofs.Ytfmpamgflnklpaa
