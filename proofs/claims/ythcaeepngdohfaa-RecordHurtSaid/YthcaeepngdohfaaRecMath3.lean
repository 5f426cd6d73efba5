/- Package record: a record with one word turned, or cut. -/
import Derived.Test.YthcaeepngdohfaaRecMath2
namespace Go.Grommet

theorem getD_set_ne {xs : List Nat} {k i v : Nat} (h : k ≠ i) : (xs.set k v).getD i 0 = xs.getD i 0 := by
  rw [List.getD_eq_getElem?_getD, List.getElem?_set_ne h, List.getD_eq_getElem?_getD]
theorem getD_set_eq {xs : List Nat} {k v : Nat} (h : k < xs.length) : (xs.set k v).getD k 0 = v := by
  simp [h]
theorem set_same {xs : List Nat} {k : Nat} : xs.set k (xs.getD k 0) = xs := by
  apply List.ext_getElem?
  intro i
  by_cases hik : k = i
  · subst hik
    by_cases h : k < xs.length
    · simp [h]
    · rw [List.getElem?_eq_none (by rw [List.length_set]; omega), List.getElem?_eq_none (by omega)]
  · rw [List.getElem?_set_ne hik]
theorem read_hurt {M : List (Int × Nat)} (hF : Fine M) (a b c : Int) (k v : Nat) (h0 : 0 < k) (h1 : k < 2 + 2 * M.length) (hv : v < 18446744073709551616) (hne : v ≠ (recR M).getD k 0) : readB a b c ((recR M).set k v) = false := by
  have hs := recR_small (fun p hp => ⟨(hF.at_ p hp).2, hF.val p hp⟩) hF.few
  have hd : ((recR M).set k v).getD 0 0 = M.length := by rw [getD_set_ne (by omega), recR_head]
  have hl := recR_length M
  have key : decide (((recR M).set k v).getD (1 + 2 * M.length) 0 = sumN (((recR M).set k v).take (1 + 2 * M.length))) = false := by
    rw [decide_eq_false_iff_not, List.take_set]
    by_cases hk : k = 1 + 2 * M.length
    · subst hk
      rw [getD_set_eq (by omega), recR_take, List.set_eq_of_length_le (by rw [bodyR_length]; omega)]
      rw [recR_last] at hne
      exact hne
    · rw [getD_set_ne hk, recR_last, recR_take]
      intro he
      have hb := bodyR_length M
      have hsb : ∀ n ∈ bodyR M, n < 18446744073709551616 := fun n hn => hs n (by unfold recR; rw [List.mem_append]; exact .inl hn)
      have := (sumN_set (bodyR M) k v (by omega) hsb hv).1 he.symm
      apply hne
      rw [this]
      unfold recR
      rw [getD_left _ _ _ _ (by omega)]
  unfold readB
  rw [hd, key, Bool.and_false, Bool.false_and]
theorem cut_part {M : List (Int × Nat)} (k : Nat) (h0 : 0 < k) (h1 : k < 2 + 2 * M.length) : cutB ((recR M).take k) = false := by
  unfold cutB
  rw [decide_eq_false_iff_not]
  have hl := recR_length M
  have hd : ((recR M).take k).getD 0 0 = M.length := by
    rw [List.getD_eq_getElem?_getD, List.getElem?_take, if_pos h0, ← List.getD_eq_getElem?_getD, recR_head]
  rw [hd, List.length_take]
  omega
theorem read_part {M : List (Int × Nat)} (a b c : Int) (k : Nat) (h0 : 0 < k) (h1 : k < 2 + 2 * M.length) : readB a b c ((recR M).take k) = false := by
  unfold readB
  rw [cut_part k h0 h1]
  rfl
theorem mark_part {M : List (Int × Nat)} (k : Nat) (h0 : 0 < k) (h1 : k < 2 + 2 * M.length) : markV ((recR M).take k) = 0 := by
  unfold markV
  rw [cut_part k h0 h1]
  rfl
end Go.Grommet
