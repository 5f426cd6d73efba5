/- A session's words on a new device; which numbers are in the window. -/
import Derived.Test.YtdpkpphjpihhkaaClaB
namespace Go.Proofs.Ytdpkpphjpihhkaa
open Go.RowKit Go.Grommet

def F0 : List Nat := fmtL 1 2 2 (264 + 208 * 1) 536
theorem F0_len : F0.length = 536 := length_fmtL _ _ _ _ _
theorem F0_small : ∀ n ∈ F0, n < 18446744073709551616 := fmtL_lt _ _ _ _ _ (by decide) (by decide) (by decide)
theorem F0_zero : ∀ p, 8 ≤ p → p < 264 → F0.getD p 0 = 0 := by
  have key : ((List.range 256).all fun i => fmtAt 1 2 2 (264 + 208 * 1) (8 + i) == 0) = true := by kernel_rfl
  intro p h1 h2
  have := List.all_eq_true.1 key (p - 8) (List.mem_range.2 (by omega))
  rw [show 8 + (p - 8) = p from by omega] at this
  unfold F0
  rw [List.getD_eq_getElem?_getD, get_fmtL _ _ _ _ _ _ (by omega)]
  simpa using this
theorem getD_set (L : List Nat) (i j x : Nat) (h : i < L.length) : (L.set i x).getD j 0 = if i = j then x else L.getD j 0 := by
  by_cases e : i = j
  · subst e; rw [if_pos rfl]; simp [h]
  · rw [if_neg e]; simp [List.getD_eq_getElem?_getD, List.getElem?_set_ne e]
def Y3 (a gen mk : Nat) : List Nat := ((F0.set (8 + 64 * a) 1).set (8 + 64 * a + 1) gen).set (8 + 64 * a + 2) mk
theorem Y3_len (a gen mk : Nat) : (Y3 a gen mk).length = 536 := by simp [Y3, F0_len]
/-- So many of its slots' numbers stand there. -/
def YW (a gen mk : Nat) (sf : Nat → Nat) (j : Nat) : List Nat := (List.range j).foldl (fun Y k => Y.set (16 + 64 * a + 12 * k) (sf k)) (Y3 a gen mk)
theorem YW_succ (a gen mk : Nat) (sf : Nat → Nat) (j : Nat) : YW a gen mk sf (j + 1) = (YW a gen mk sf j).set (16 + 64 * a + 12 * j) (sf j) := by
  unfold YW; rw [List.range_succ, List.foldl_append]; rfl
theorem YW_zero (a gen mk : Nat) (sf : Nat → Nat) : YW a gen mk sf 0 = Y3 a gen mk := by unfold YW; rw [List.range_zero, List.foldl_nil]
theorem YW_len (a gen mk : Nat) (sf : Nat → Nat) : ∀ j, (YW a gen mk sf j).length = 536
  | 0 => by rw [YW_zero, Y3_len]
  | j + 1 => by rw [YW_succ, List.length_set, YW_len]
theorem YW_other (a gen mk : Nat) (sf : Nat → Nat) (p : Nat) (ha : a < 4) : ∀ j, j ≤ 4 → (∀ k, k < j → 16 + 64 * a + 12 * k ≠ p) → (YW a gen mk sf j).getD p 0 = (Y3 a gen mk).getD p 0
  | 0, _, _ => by rw [YW_zero]
  | j + 1, hj, h => by
    rw [YW_succ, getD_set _ _ _ _ (by rw [YW_len]; omega), if_neg (h j (by omega))]
    exact YW_other a gen mk sf p ha j (by omega) (fun k hk => h k (by omega))
theorem YW_slot (a gen mk : Nat) (sf : Nat → Nat) (k : Nat) (ha : a < 4) : ∀ j, j ≤ 4 → k < j → (YW a gen mk sf j).getD (16 + 64 * a + 12 * k) 0 = sf k
  | 0, _, h => by omega
  | j + 1, hj, h => by
    rw [YW_succ, getD_set _ _ _ _ (by rw [YW_len]; omega)]
    by_cases e : k = j
    · subst e; rw [if_pos rfl]
    · rw [if_neg (by omega)]; exact YW_slot a gen mk sf k ha j (by omega) (by omega)
theorem Y3_got (a gen mk p : Nat) (ha : a < 4) (hp : 8 ≤ p) (hp2 : p < 264) : (Y3 a gen mk).getD p 0 = if 8 + 64 * a + 2 = p then mk else if 8 + 64 * a + 1 = p then gen else if 8 + 64 * a = p then 1 else 0 := by
  unfold Y3
  rw [getD_set _ _ _ _ (by simp [F0_len]; omega), getD_set _ _ _ _ (by simp [F0_len]; omega), getD_set _ _ _ _ (by rw [F0_len]; omega), F0_zero p hp hp2]
theorem got_YW (a gen mk : Nat) (sf : Nat → Nat) (p : Nat) (hp : p < 536) : gotI (YW a gen mk sf 4) [] (p : Int) = (YW a gen mk sf 4).getD p 0 := by
  unfold gotI
  rw [if_pos ⟨by omega, by rw [YW_len]; omega⟩, Int.toNat_natCast]
  rfl
theorem YW_head (a gen mk : Nat) (sf : Nat → Nat) (ha : a < 4) : gotI (YW a gen mk sf 4) [] ((8 + 64 * a : Nat) : Int) = 1 ∧ gotI (YW a gen mk sf 4) [] ((8 + 64 * a + 1 : Nat) : Int) = gen ∧ gotI (YW a gen mk sf 4) [] ((8 + 64 * a + 2 : Nat) : Int) = mk := by
  refine ⟨?_, ?_, ?_⟩
  · rw [got_YW _ _ _ _ _ (by omega), YW_other a gen mk sf _ ha 4 (by omega) (fun k hk => by omega), Y3_got a gen mk _ ha (by omega) (by omega), if_neg (by omega), if_neg (by omega), if_pos rfl]
  · rw [got_YW _ _ _ _ _ (by omega), YW_other a gen mk sf _ ha 4 (by omega) (fun k hk => by omega), Y3_got a gen mk _ ha (by omega) (by omega), if_neg (by omega), if_pos rfl]
  · rw [got_YW _ _ _ _ _ (by omega), YW_other a gen mk sf _ ha 4 (by omega) (fun k hk => by omega), Y3_got a gen mk _ ha (by omega) (by omega), if_pos rfl]
theorem YW_slots (a gen mk : Nat) (sf : Nat → Nat) (ha : a < 4) (k : Nat) (hk : k < 4) : gotI (YW a gen mk sf 4) [] ((16 + 64 * a + 12 * k : Nat) : Int) = sf k ∧ ∀ r, 1 ≤ r → r < 12 → gotI (YW a gen mk sf 4) [] ((16 + 64 * a + 12 * k + r : Nat) : Int) = 0 := by
  refine ⟨by rw [got_YW _ _ _ _ _ (by omega), YW_slot a gen mk sf k ha 4 (by omega) hk], fun r h1 h2 => ?_⟩
  rw [got_YW _ _ _ _ _ (by omega), YW_other a gen mk sf _ ha 4 (by omega) (fun j hj => by omega), Y3_got a gen mk _ ha (by omega) (by omega), if_neg (by omega), if_neg (by omega), if_neg (by omega)]
theorem YW_small (a gen mk : Nat) (sf : Nat → Nat) (hg : gen < 18446744073709551616) (hm : mk < 18446744073709551616) (hs : ∀ k, sf k < 18446744073709551616) : ∀ j, ∀ n ∈ YW a gen mk sf j, n < 18446744073709551616
  | 0 => fun n hn => by
    rw [YW_zero] at hn
    unfold Y3 at hn
    rcases List.mem_or_eq_of_mem_set hn with h | h
    · rcases List.mem_or_eq_of_mem_set h with h | h
      · rcases List.mem_or_eq_of_mem_set h with h | h
        · exact F0_small n h
        · rw [h]; decide
      · rw [h]; exact hg
    · rw [h]; exact hm
  | j + 1 => fun n hn => by
    rw [YW_succ] at hn
    rcases List.mem_or_eq_of_mem_set hn with h | h
    · exact YW_small a gen mk sf hg hm hs j n h
    · rw [h]; exact hs j
/-- Of the numbers up to n, how many are New or Done. -/
def inW (mk n : Nat) : Nat := if n ≤ mk + 1 then 0 else min (n - (mk + 1)) 4
theorem inW_succ (mk n S : Nat) : inW mk (n + 1) = inW mk n + (if OfR mk n S = 0 ∨ OfR mk n S = 1 then 1 else 0) := by
  unfold OfR
  by_cases h1 : n ≤ mk
  · rw [if_pos h1, if_neg (by omega)]; unfold inW; rw [if_pos (by omega), if_pos (by omega)]
  · rw [if_neg h1]
    by_cases h2 : 4 < n - mk
    · rw [if_pos h2, if_neg (by omega)]; unfold inW; rw [if_neg (by omega), if_neg (by omega)]; omega
    · rw [if_neg h2, if_pos (by split <;> simp)]; unfold inW; rw [if_neg (by omega)]
      by_cases h3 : n ≤ mk + 1
      · rw [if_pos h3]; omega
      · rw [if_neg h3]; omega
end Go.Proofs.Ytdpkpphjpihhkaa
