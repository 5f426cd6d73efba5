/- RequestBack: what is got of bytes, and what was put. -/
import Derived.Test.YtlphmpimpeekcaaReqJ
import Derived.Test.YtlphmpimpeekcaaReqL
import Derived.Test.YtlphmpimpeekcaaBackMath
namespace Go.Proofs.Ytlphmpimpeekcaa
open Go.RowKit Go.Grommet

/-- A number that stands whole in the first bytes is read there alike. -/
theorem numAt_more {b : List UInt8} {n k : Nat} (h : numAt b = some (n, k)) (q : List UInt8) : numAt (b ++ q) = some (n, k) := by
  cases b with
  | nil => cases h
  | cons c r =>
    rw [numAt_cons] at h
    rw [List.cons_append, numAt_cons]
    split at h
    · rename_i hc
      obtain ⟨c1, c2, c3⟩ := hc
      simp only [Option.some.injEq, Prod.mk.injEq] at h
      obtain ⟨rfl, rfl⟩ := h
      have c4 : c.toNat = 0 ∨ (r ++ q).getD (c.toNat - 1) 0 ≠ 0 := by
        rcases c3 with c3 | c3
        · exact .inl c3
        · by_cases h0 : c.toNat = 0
          · exact .inl h0
          · rw [List.getD_eq_getElem?_getD] at c3
            exact .inr (by rw [List.getD_eq_getElem?_getD, List.getElem?_append_left (by omega)]; exact c3)
      rw [if_pos ⟨c1, by rw [List.length_append]; omega, c4⟩, List.take_append_of_le_length c2]
    · cases h
/-- What is put is read. -/
theorem numAt_num {n : Nat} (h : n < 2 ^ 64) (q : List UInt8) : numAt (num n ++ q) = some (n, (num n).length) := by
  unfold num
  have h8 := nb_le n h
  have e8 : (UInt8.ofNat (nb n)).toNat = nb n := by rw [UInt8.toNat_ofNat']; omega
  have c4 : nb n = 0 ∨ (les n (nb n) ++ q).getD (nb n - 1) 0 ≠ 0 := by
    by_cases h0 : n = 0
    · exact .inl ((nb_zero n h).2 h0)
    · refine .inr ?_
      have hg := nb_ge n h h0
      have hp : 0 < nb n := Nat.pos_of_ne_zero (fun e => h0 ((nb_zero n h).1 e))
      rw [List.getD_eq_getElem?_getD, List.getElem?_append_left (by rw [length_les]; omega)]
      unfold les
      rw [List.getElem?_map, List.getElem?_range (by omega)]
      simp only [Option.map_some, Option.getD_some]
      intro e
      have := byteAt_toNat n (nb n - 1)
      rw [e] at this
      have hlt := nb_lt n h
      have h1 : n / 256 ^ (nb n - 1) < 256 := by
        rw [Nat.div_lt_iff_lt_mul (Nat.pow_pos (by decide)), ← Nat.pow_succ', Nat.succ_eq_add_one, Nat.sub_add_cancel hp]; exact hlt
      have h2 : 1 ≤ n / 256 ^ (nb n - 1) := (Nat.one_le_div_iff (Nat.pow_pos (by decide))).2 hg
      rw [Nat.mod_eq_of_lt h1] at this
      simp at this
      omega
  rw [List.cons_append, numAt_cons, e8, if_pos ⟨h8, by rw [List.length_append, length_les]; omega, c4⟩, List.take_append_of_le_length (by rw [length_les]; exact Nat.le_refl _), List.take_of_length_le (by rw [length_les]; exact Nat.le_refl _), val_num n h, List.length_cons, length_les, Nat.add_comm]

theorem drop_more {b q : List UInt8} {a : Nat} (h : a ≤ b.length) : (b ++ q).drop a = b.drop a ++ q := List.drop_append_of_le_length h
/-- What is read untorn of the first bytes is read of all. -/
theorem numberR_more {b : List UInt8} {a : Nat} {t : Bool} (ha : a ≤ b.length) (h : (numberR b a t).2.2 = false) (q : List UInt8) : numberR (b ++ q) a t = numberR b a t ∧ (numberR b a t).2.1 ≤ b.length ∧ t = false := by
  unfold numberR at h ⊢
  cases t with
  | true => simp at h
  | false =>
    simp only [Bool.false_eq_true, if_false] at h ⊢
    rw [drop_more ha]
    cases hn : numAt (b.drop a) with
    | none => rw [hn] at h; simp at h
    | some nk =>
      obtain ⟨n, k⟩ := nk
      have := numAt_lt _ _ _ hn
      rw [List.length_drop] at this
      rw [numAt_more hn]
      exact ⟨rfl, by show a + k ≤ _; omega, trivial⟩
theorem textR_more {b : List UInt8} {a : Nat} {t : Bool} {m : Int} (ha : a ≤ b.length) (h : (textR b a t m).2.2 = false) (q : List UInt8) : textR (b ++ q) a t m = textR b a t m ∧ (textR b a t m).2.1 ≤ b.length ∧ t = false := by
  unfold textR at h ⊢
  cases t with
  | true => simp at h
  | false =>
    simp only [Bool.false_eq_true, if_false] at h ⊢
    rw [drop_more ha]
    cases hn : numAt (b.drop a) with
    | none => rw [hn] at h; simp at h
    | some nk =>
      obtain ⟨n, k⟩ := nk
      have hl := numAt_lt _ _ _ hn
      rw [List.length_drop] at hl
      rw [hn] at h
      rw [numAt_more hn]
      simp only at h ⊢
      split at h
      · simp at h
      · rename_i hc
        have c3 : a + k + n ≤ b.length := by
          by_cases hx : b.length < a + k + n
          · exact absurd (.inr (.inr hx)) hc
          · omega
        have hc2 : ¬ (m < 0 ∨ m < (n : Int) ∨ (b ++ q).length < a + k + n) := by
          intro hx
          rcases hx with hx | hx | hx
          · exact hc (.inl hx)
          · exact hc (.inr (.inl hx))
          · rw [List.length_append] at hx; omega
        rw [if_neg hc2, if_neg hc]
        refine ⟨?_, c3, trivial⟩
        rw [List.drop_append_of_le_length (by omega), List.take_append_of_le_length (by rw [List.length_drop]; omega)]
end Go.Proofs.Ytlphmpimpeekcaa
