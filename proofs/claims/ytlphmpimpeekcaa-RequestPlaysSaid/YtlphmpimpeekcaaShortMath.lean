/- Plain facts on a number's bytes: as few as may be. -/
import Derived.Test.YtlphmpimpeekcaaMath
namespace Go.Grommet
open Go

theorem nb_mono (n m : Nat) (hn : n < 2 ^ 64) (hm : m < 2 ^ 64) (h : m ≤ n) : nb m ≤ nb n := by
  by_cases h0 : m = 0
  · rw [(nb_zero m hm).2 h0]; omega
  · have a := nb_ge m hm h0
    have b := nb_lt n hn
    have c : 256 ^ (nb m - 1) < 256 ^ nb n := by omega
    have := (Nat.pow_lt_pow_iff_right (by decide : 1 < 256)).1 c
    omega

theorem last_byte (n : Nat) (hn : n < 2 ^ 64) (k : Nat) (hk : nb n = k + 1) : (byteAt n k).toNat ≠ 0 := by
  have h0 : n ≠ 0 := by intro e; rw [(nb_zero n hn).2 e] at hk; omega
  have a := nb_ge n hn h0
  have b := nb_lt n hn
  rw [hk] at a b
  rw [Nat.add_sub_cancel] at a
  rw [byteAt_toNat]
  have hp : 0 < 256 ^ k := Nat.pow_pos (by decide)
  have c : 1 ≤ n / 256 ^ k := (Nat.le_div_iff_mul_le hp).2 (by omega)
  have d : n / 256 ^ k < 256 := Nat.div_lt_of_lt_mul (by rw [← Nat.pow_succ]; exact b)
  rw [Nat.mod_eq_of_lt d]; omega

theorem div_step (n i : Nat) : n / 256 ^ (i + 1) * 256 + (byteAt n i).toNat = n / 256 ^ i := by
  rw [byteAt_toNat, Nat.pow_succ, ← Nat.div_div_eq_div_mul]
  omega

theorem div_top (n : Nat) (hn : n < 2 ^ 64) : n / 256 ^ nb n = 0 := Nat.div_eq_of_lt (nb_lt n hn)
end Go.Grommet
