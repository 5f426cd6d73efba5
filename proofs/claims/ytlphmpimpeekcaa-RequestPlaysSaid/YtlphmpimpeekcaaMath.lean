/- Plain arithmetic of package octet's bytes: how many bytes a number needs, its bytes, the number of bytes. -/
import Derived.Lib.BitFns
import Derived.Test.YtlphmpimpeekcaaBase
namespace Go.Grommet
open Go

/-- How many bytes a number needs. -/
def nb (n : Nat) : Nat := (Lib.bitLen n + 7) / 8
/-- The byte i of a number, the lowest one 0. -/
def byteAt (n i : Nat) : UInt8 := UInt8.ofNat (n / 256 ^ i % 256)
/-- The first k bytes of a number. -/
def les (n k : Nat) : List UInt8 := (List.range k).map (byteAt n)
/-- A number, as it is put. -/
def num (n : Nat) : List UInt8 := UInt8.ofNat (nb n) :: les n (nb n)
/-- The number of bytes. -/
def val : List UInt8 → Nat
  | [] => 0
  | c :: t => c.toNat + 256 * val t

theorem les_zero (n : Nat) : les n 0 = [] := rfl
theorem les_succ (n k : Nat) : les n (k + 1) = les n k ++ [byteAt n k] := by simp [les, List.range_succ]
theorem length_les (n k : Nat) : (les n k).length = k := by simp [les]
theorem byteAt_toNat (n i : Nat) : (byteAt n i).toNat = n / 256 ^ i % 256 := by simp [byteAt, UInt8.toNat_ofNat']

theorem bitLen_lt (n : Nat) (h : n < 2 ^ 64) : n < 2 ^ Lib.bitLen n := by
  induction n using Nat.strongRecOn with
  | _ n ih =>
    by_cases h0 : n = 0
    · subst h0; simp [Lib.bitLen, Lib.bitLenAux]
    · rw [Lib.bitLen_half n h0 h]
      have := ih (n / 2) (by omega) (by omega)
      rw [Nat.add_comm, Nat.pow_succ]; omega

theorem bitLen_ge (n : Nat) (h : n < 2 ^ 64) (h0 : n ≠ 0) : 2 ^ (Lib.bitLen n - 1) ≤ n ∧ 1 ≤ Lib.bitLen n := by
  induction n using Nat.strongRecOn with
  | _ n ih =>
    rw [Lib.bitLen_half n h0 h]
    by_cases h1 : n / 2 = 0
    · rw [h1]
      have e : Lib.bitLen 0 = 0 := by decide
      rw [e]; simp; omega
    · have := ih (n / 2) (by omega) (by omega) h1
      obtain ⟨a, b⟩ := this
      refine ⟨?_, by omega⟩
      obtain ⟨m, hm⟩ : ∃ m, Lib.bitLen (n / 2) = m + 1 := ⟨Lib.bitLen (n / 2) - 1, by omega⟩
      rw [hm] at a ⊢
      rw [show 1 + (m + 1) - 1 = m + 1 from by omega, Nat.pow_succ]
      rw [show m + 1 - 1 = m from by omega] at a
      omega

theorem bitLen_le64 (n : Nat) (h : n < 2 ^ 64) : Lib.bitLen n ≤ 64 := by
  by_cases h0 : n = 0
  · subst h0; decide
  · have := (bitLen_ge n h h0).1
    have h2 : 2 ^ (Lib.bitLen n - 1) < 2 ^ 64 := Nat.lt_of_le_of_lt this h
    have := (Nat.pow_lt_pow_iff_right (by decide : 1 < 2)).1 h2
    omega

theorem nb_le (n : Nat) (h : n < 2 ^ 64) : nb n ≤ 8 := by
  have := bitLen_le64 n h
  unfold nb; omega

theorem pow256 (k : Nat) : 256 ^ k = 2 ^ (8 * k) := by rw [Nat.pow_mul]

theorem nb_lt (n : Nat) (h : n < 2 ^ 64) : n < 256 ^ nb n := by
  rw [pow256]
  exact Nat.lt_of_lt_of_le (bitLen_lt n h) (Nat.pow_le_pow_right (by decide) (by unfold nb; omega))

theorem nb_zero (n : Nat) (h : n < 2 ^ 64) : nb n = 0 ↔ n = 0 := by
  constructor
  · intro e
    have := nb_lt n h
    rw [e] at this; simpa using this
  · intro e; subst e; decide

theorem nb_ge (n : Nat) (h : n < 2 ^ 64) (h0 : n ≠ 0) : 256 ^ (nb n - 1) ≤ n := by
  obtain ⟨a, b⟩ := bitLen_ge n h h0
  rw [pow256]
  exact Nat.le_trans (Nat.pow_le_pow_right (by decide) (by unfold nb; omega)) a

theorem val_append (a b : List UInt8) : val (a ++ b) = val a + 256 ^ a.length * val b := by
  induction a with
  | nil => simp [val]
  | cons c t ih => simp only [List.cons_append, val, ih, List.length_cons, Nat.pow_succ, Nat.mul_add]; rw [Nat.mul_comm (256 ^ t.length) 256, Nat.mul_assoc]; omega

theorem val_les (n k : Nat) : val (les n k) = n % 256 ^ k := by
  induction k with
  | zero => simp [les, val, Nat.mod_one]
  | succ k ih =>
    rw [les_succ, val_append, ih, length_les]
    simp only [val, byteAt_toNat]
    rw [Nat.pow_succ, Nat.mod_mul, Nat.mul_zero, Nat.add_zero]

theorem val_num (n : Nat) (h : n < 2 ^ 64) : val (les n (nb n)) = n := by
  rw [val_les, Nat.mod_eq_of_lt (nb_lt n h)]

theorem val_lt (l : List UInt8) : val l < 256 ^ l.length := by
  induction l with
  | nil => simp [val]
  | cons c t ih =>
    have := c.toNat_lt
    simp only [val, List.length_cons, Nat.pow_succ]
    have : 256 * (val t + 1) ≤ 256 * 256 ^ t.length := Nat.mul_le_mul_left _ ih
    omega

/-- The byte that Go's shift and cut make. -/
theorem byteAt_int (n i : Nat) : (n : Int) / 2 ^ (8 * (i : Int)).toNat % 256 = ((byteAt n i).toNat : Int) := by
  have e : (8 * (i : Int)).toNat = 8 * i := by omega
  rw [e, byteAt_toNat, pow256, Int.natCast_emod, Int.natCast_ediv, Int.natCast_pow]
  rfl

/-- The word that has one byte alone. -/
theorem word_int (c i : Nat) (hc : c < 256) (hi : i ≤ 7) : IntKind.u64.wrap ((c : Int) * 2 ^ (8 * (i : Int)).toNat) = ((c * 256 ^ i : Nat) : Int) ∧ c * 256 ^ i < 256 ^ (i + 1) := by
  have e : (8 * (i : Int)).toNat = 8 * i := by omega
  have h1 : c * 256 ^ i < 256 ^ (i + 1) := by
    rw [Nat.pow_succ, Nat.mul_comm]
    exact Nat.mul_lt_mul_of_pos_left hc (Nat.pow_pos (by decide))
  have h2 : 256 ^ (i + 1) ≤ 256 ^ 8 := Nat.pow_le_pow_right (by decide) (by omega)
  refine ⟨?_, h1⟩
  have e2 : ((c : Int) * 2 ^ (8 * (i : Int)).toNat) = ((c * 256 ^ i : Nat) : Int) := by
    rw [e, pow256, Int.natCast_mul, Int.natCast_pow]; rfl
  rw [e2]
  have h3 : (256 : Nat) ^ 8 = 18446744073709551616 := by decide
  rw [h3] at h2
  exact IntWalk.u64_in _ ⟨by omega, by omega⟩

/-- 'n |= byte << 8i' where the bytes below stand in n. -/
theorem or_word (x c i : Nat) (hx : x < 256 ^ i) (hc : c < 256) (hi : i ≤ 7) : bits .or .u64 (x : Int) ((c * 256 ^ i : Nat) : Int) = ((x + c * 256 ^ i : Nat) : Int) := by
  have hw := (word_int c i hc hi).2
  have h2 : 256 ^ (i + 1) ≤ 256 ^ 8 := Nat.pow_le_pow_right (by decide) (by omega)
  have h3 : 256 ^ i ≤ 256 ^ 8 := Nat.pow_le_pow_right (by decide) (by omega)
  have h4 : (256 : Nat) ^ 8 = 2 ^ 64 := by decide
  rw [h4] at h2 h3
  rw [(bits_nat .u64 64 (by decide) (fun n h0 h1 => IntWalk.u64_in n ⟨h0, by omega⟩) x (c * 256 ^ i) (by omega) (by omega)).2]
  rw [pow256] at hx ⊢
  rw [Nat.or_comm, Nat.mul_comm c, ← Nat.two_pow_add_eq_or_of_lt hx, Nat.add_comm]

/-- The number that bytes begin with, and how many bytes it takes. -/
def numAt : List UInt8 → Option (Nat × Nat)
  | [] => none
  | c :: r => if c.toNat ≤ 8 ∧ c.toNat ≤ r.length ∧ (c.toNat = 0 ∨ r.getD (c.toNat - 1) 0 ≠ 0) then some (val (r.take c.toNat), 1 + c.toNat) else none

theorem numAt_cons (c : UInt8) (r : List UInt8) : numAt (c :: r) = if c.toNat ≤ 8 ∧ c.toNat ≤ r.length ∧ (c.toNat = 0 ∨ r.getD (c.toNat - 1) 0 ≠ 0) then some (val (r.take c.toNat), 1 + c.toNat) else none := rfl

theorem val_take_succ (r : List UInt8) (k : Nat) (h : k < r.length) : val (r.take (k + 1)) = val (r.take k) + (r.getD k 0).toNat * 256 ^ k := by
  rw [List.take_succ_eq_append_getElem h, val_append]
  simp only [val, List.length_take, Nat.mul_zero, Nat.add_zero]
  rw [Nat.min_eq_left (by omega), Nat.mul_comm]
  simp [List.getD, h]

theorem numAt_lt (b : List UInt8) (n k : Nat) (h : numAt b = some (n, k)) : n < 2 ^ 64 ∧ k ≤ 9 ∧ k ≤ b.length := by
  cases b with
  | nil => simp [numAt] at h
  | cons c r =>
    rw [numAt_cons] at h
    by_cases hc : c.toNat ≤ 8 ∧ c.toNat ≤ r.length ∧ (c.toNat = 0 ∨ r.getD (c.toNat - 1) 0 ≠ 0)
    · rw [if_pos hc] at h
      obtain ⟨h1, h2, h3⟩ := hc
      simp only [Option.some.injEq, Prod.mk.injEq] at h
      obtain ⟨rfl, rfl⟩ := h
      have := val_lt (r.take c.toNat)
      have h5 : (r.take c.toNat).length ≤ 8 := by simp; omega
      have h6 : 256 ^ (r.take c.toNat).length ≤ 256 ^ 8 := Nat.pow_le_pow_right (by decide) h5
      have h4 : (256 : Nat) ^ 8 = 2 ^ 64 := by decide
      simp only [List.length_cons]
      omega
    · rw [if_neg hc] at h; cases h

theorem length_num (n : Nat) : (num n).length = 1 + nb n := by simp [num, length_les]; omega
end Go.Grommet
