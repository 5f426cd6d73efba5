/- The library's count of noughts at a word's end. -/
import Derived.Test.YtdblgnccjpjabaaDoorBitC
-- OPTIONAL
namespace Go.Proofs.YtdblgnccjpjabaaDoor
open Go.RowKit Go.Grommet

def dbI (t : Nat) : Nat := 2 ^ t * 285870213051353865 % 18446744073709551616 / 288230376151711744
theorem db_all : ∀ t : Fin 64, tab[dbI t.1]? = some (t.1 : Int) := by decide +kernel

theorem tabAt (k : Nat) (t : Int) (w : World) (hk : k < 64) (h : tab[k]? = some t) (htab : Lib.TabIs Tryd.prog w "math/bits.deBruijn64tab" .u8 tab) : w.cell? ⟨0, k, none⟩ = some (.int .u8 t) := by
  have hc := htab.cell gTab k (by show _ < 64; exact hk)
  rw [List.getD_eq_getElem?_getD, h] at hc
  exact hc

/-- What the walk asks of the numbers. -/
theorem tz_nums (t m x : Nat) (ht : t < 64) (h : 2 ^ t * (2 * m + 1) < 18446744073709551616) (hx : 2 ^ t * (2 * m + 1) = x) : ∃ y p q k : Nat, 0 < x ∧ IntKind.u64.wrap (-(x : Int)) = (y : Int) ∧ bits .and .u64 (x : Int) (y : Int) = (p : Int) ∧
    IntKind.u64.wrap ((p : Int) * 285870213051353865) = (q : Int) ∧ (q : Int) / 288230376151711744 = (k : Int) ∧ k < 64 ∧ tab[k]? = some (t : Int) := by
  have hpl := pow_lt64 ht
  have hlow := low_bit t m ht h
  have hdb := db_all ⟨t, ht⟩
  have hx0 : 0 < 2 ^ t * (2 * m + 1) := Nat.mul_pos (Nat.pow_pos (by decide)) (by omega)
  rw [hx] at h hlow hx0
  refine ⟨18446744073709551616 - x, 2 ^ t, 2 ^ t * 285870213051353865 % 18446744073709551616, dbI t, hx0, ?_, ?_, ?_, ?_, ?_, hdb⟩
  · rw [IntKind.wrap_u64]; omega
  · exact and_u64 x (18446744073709551616 - x) h (by omega) _ hlow (x : Int) ((18446744073709551616 - x : Nat) : Int) rfl rfl
  · generalize 2 ^ t = p; rw [IntKind.wrap_u64]; omega
  · unfold dbI; generalize 2 ^ t = p; omega
  · unfold dbI; generalize 2 ^ t = p; omega

set_option maxRecDepth 100000 in
theorem tz_any (t m : Nat) (w : World) (ht : t < 64) (h : 2 ^ t * (2 * m + 1) < 18446744073709551616) (htab : Lib.TabIs Tryd.prog w "math/bits.deBruijn64tab" .u8 tab) :
    Calls Tryd.prog 74 #[.int .u64 ((2 ^ t * (2 * m + 1) : Nat) : Int)] w fun e w' => e = .returned (.int .i64 (t : Int)) ∧ w = w' := by
  generalize hx : 2 ^ t * (2 * m + 1) = x
  obtain ⟨y, p, q, k, hx0, e1, e2, e3, e4, hi, hdb⟩ := tz_nums t m x ht h hx
  have hc := tabAt k t w hi hdb htab
  clear hx h htab hdb
  have x0 : ¬ (x : Int) = 0 := by omega
  have x1 : ((x : Int) == 0) = false := by simp; omega
  have wt : IntKind.i64.wrap (t : Int) = (t : Int) := IntWalk.i64_in _ ⟨by omega, by omega⟩
  have hk : (k : Int) < 64 := by omega
  have k0 : (0 : Int) ≤ (k : Int) := by omega
  go_enter Tryd.func74, Tryd.ntmps74
  go_wp2
  go_ret
  exact ⟨rfl, rfl⟩
end Go.Proofs.YtdblgnccjpjabaaDoor
