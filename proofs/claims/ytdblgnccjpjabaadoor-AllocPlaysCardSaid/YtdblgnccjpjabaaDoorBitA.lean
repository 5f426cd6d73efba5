/- Package bitmap: its small functions. -/
import Derived.Test.YtdblgnccjpjabaaDoorViewI
import Derived.Test.YtdblgnccjpjabaaDoorBitMath
import Derived.Laws.BitsAllLaws
-- OPTIONAL
namespace Go.Proofs.YtdblgnccjpjabaaDoor
open Go.RowKit Go.Grommet

/-- A map of so many bits lies within so many words. -/
structure MapOk (n a m : Nat) : Prop where
  one : 1 ≤ m
  fits : a + (m - 1) / 64 + 1 ≤ n
  few : n ≤ 1000000
def mapCs (g a m : Nat) : Array Value := #[.pointer (some ⟨g, 0, none⟩), .int .i64 (a : Int), .int .i64 (m : Int)]
theorem MapOk.lt {n a m : Nat} (h : MapOk n a m) : m ≤ 64 * n ∧ a < n ∧ m ≤ 64000000 := by
  have h1 := h.one
  have h2 := h.fits
  have h3 := h.few
  have : m ≤ 64 * ((m - 1) / 64 + 1) := by omega
  omega
/-- A bit of it. -/
def mbit (xs : List Nat) (L : List (Nat × Nat)) (a i : Nat) : Bool := (gotV xs L (a + i / 64)).testBit (i % 64)
def mapP (X g a m : Nat) : Pr := boxP X 114 (mapCs g a m)

set_option maxRecDepth 100000 in
theorem wordsOf_any (m : Nat) (w : World) (h1 : 1 ≤ m) (h2 : m ≤ 9223372036854775807) : Calls Tryd.prog 68 #[.int .i64 (m : Int)] w fun e w' => e = .returned (.int .i64 (((m - 1) / 64 + 1 : Nat) : Int)) ∧ w = w' := by
  have e1 : IntKind.i64.wrap ((m : Int) - 1) = ((m - 1 : Nat) : Int) := by rw [IntWalk.i64_in _ ⟨by omega, by omega⟩]; omega
  generalize hk : m - 1 = k at e1 ⊢
  have hkl : k ≤ 9223372036854775806 := by omega
  have e2 : ((k / 64 : Nat) : Int) + 1 = ((k / 64 + 1 : Nat) : Int) := by omega
  have hm : (m : Int) - 1 = (k : Int) := by omega
  clear hk h2 h1
  go_enter Tryd.func68, Tryd.ntmps68
  go_wp2
  go_ret
  exact ⟨by congr 1, rfl⟩
end Go.Proofs.YtdblgnccjpjabaaDoor
