/- A number that is read, put again, is what stood there. -/
import Derived.Test.YtlphmpimpeekcaaShortMath
namespace Go.Grommet
open Go

theorem les_head (c v k : Nat) (hc : c < 256) : les (c + 256 * v) (k + 1) = UInt8.ofNat c :: les v k := by
  unfold les
  rw [List.range_succ_eq_map, List.map_cons, List.map_map]
  congr 1
  · unfold byteAt
    have : (c + 256 * v) / 256 ^ 0 % 256 = c := by rw [Nat.pow_zero, Nat.div_one]; omega
    rw [this]
  · apply List.map_congr_left
    intro i _
    simp only [Function.comp]
    unfold byteAt
    have : (c + 256 * v) / 256 ^ (i + 1) = v / 256 ^ i := by
      rw [Nat.pow_succ, Nat.mul_comm (256 ^ i) 256, ← Nat.div_div_eq_div_mul]
      congr 1
      omega
    rw [Nat.succ_eq_add_one, this]

theorem les_val (l : List UInt8) : les (val l) l.length = l := by
  induction l with
  | nil => rfl
  | cons c t ih =>
    simp only [val, List.length_cons]
    rw [les_head _ _ _ (UInt8.toNat_lt c), ih, UInt8.ofNat_toNat]

theorem numAt_back (b : List UInt8) (n k : Nat) (h : numAt b = some (n, k)) : num n = b.take k ∧ 1 ≤ k := by
  have hlt := numAt_lt b n k h
  cases b with
  | nil => simp [numAt] at h
  | cons c r =>
    rw [numAt_cons] at h
    split at h
    · rename_i hc
      obtain ⟨h8, hl, hz⟩ := hc
      obtain ⟨m, hm⟩ : ∃ m, m = c.toNat := ⟨_, rfl⟩
      rw [← hm] at h h8 hl hz
      simp only [Option.some.injEq, Prod.mk.injEq] at h
      obtain ⟨rfl, rfl⟩ := h
      have hlen : (r.take m).length = m := by rw [List.length_take]; omega
      have hv := val_lt (r.take m)
      rw [hlen] at hv
      have hnb : nb (val (r.take m)) = m := by
        rcases Nat.eq_zero_or_pos m with h0 | h0
        · subst h0; rw [List.take_zero]; rfl
        · have hz' : r.getD (m - 1) 0 ≠ 0 := by rcases hz with h | h; · omega
                                                · exact h
          have hs := val_take_succ r (m - 1) (by omega)
          rw [Nat.sub_add_cancel h0] at hs
          have hc1 : 1 ≤ (r.getD (m - 1) 0).toNat := by
            rcases Nat.eq_zero_or_pos (r.getD (m - 1) 0).toNat with h | h
            · exact absurd (UInt8.toNat_inj.1 (by rw [h]; rfl)) hz'
            · exact h
          have hge : 256 ^ (m - 1) ≤ val (r.take m) := by
            rw [hs]
            have := Nat.mul_le_mul_right (256 ^ (m - 1)) hc1
            omega
          have hn0 : val (r.take m) ≠ 0 := by
            have : 0 < 256 ^ (m - 1) := Nat.pow_pos (by decide)
            omega
          have a := nb_ge _ hlt.1 hn0
          have b := nb_lt _ hlt.1
          have c1 := (Nat.pow_lt_pow_iff_right (by decide : 1 < 256)).1 (Nat.lt_of_le_of_lt hge b)
          have c2 := (Nat.pow_lt_pow_iff_right (by decide : 1 < 256)).1 (Nat.lt_of_le_of_lt a hv)
          omega
      refine ⟨?_, by omega⟩
      rw [num, hnb, Nat.add_comm, List.take_succ_cons, hm, UInt8.ofNat_toNat]
      congr 1
      have := les_val (r.take m)
      rw [hlen] at this
      rw [← hm]; exact this
    · cases h
end Go.Grommet
