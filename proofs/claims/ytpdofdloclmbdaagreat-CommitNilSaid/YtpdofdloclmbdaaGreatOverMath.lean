/- CommitOver: what is so of the words. -/
import Derived.Test.YtpdofdloclmbdaaGreatComC
-- OPTIONAL
namespace Go.Proofs.YtpdofdloclmbdaaGreat
open Go.RowKit Go.Grommet

theorem list_getD_ext {xs ys : List Nat} (hl : xs.length = ys.length) (h : ∀ i, xs.getD i 0 = ys.getD i 0) : xs = ys := by
  apply List.ext_getElem? 
  intro i
  have := h i
  rw [List.getD_eq_getElem?_getD, List.getD_eq_getElem?_getD] at this
  by_cases hi : i < xs.length
  · rw [List.getElem?_eq_getElem hi, List.getElem?_eq_getElem (by omega)] at this ⊢
    exact congrArg some this
  · rw [List.getElem?_eq_none (by omega), List.getElem?_eq_none (by omega)]
/-- No commit word stands. -/
def Still (a : Nat) (xs : List Nat) : Prop := ∀ j, j < a → xs.getD (264 + 208 * j) 0 = 0
theorem over_still {a : Nat} {b c : Int} {xs : List Nat} (h : Still a xs) (hl : 264 + 208 * a ≤ xs.length) : ∀ k, k ≤ a → ∀ i, (overS (a : Int) b c xs k).getD i 0 = if 264 ≤ i ∧ i < 264 + 208 * k then 0 else xs.getD i 0
  | 0, _, i => by rw [if_neg (by omega)]; rfl
  | k + 1, hk, i => by
    have hn : commB (a : Int) b c xs (264 + 208 * k) = false := by unfold commB; rw [h k (by omega)]; rfl
    rw [overS, if_neg (by rw [hn]; decide), zap_get _ _ _ _ (by rw [overS_length]; omega), over_still h hl k (by omega) i]
    by_cases h1 : 264 + 208 * k ≤ i ∧ i < 264 + 208 * k + 208
    · rw [if_pos h1, if_pos (by omega)]
    · rw [if_neg h1]
      by_cases h2 : 264 ≤ i ∧ i < 264 + 208 * k
      · rw [if_pos h2, if_pos (by omega)]
      · rw [if_neg h2, if_neg (by omega)]
theorem over_twice {a : Nat} {b c : Int} {xs : List Nat} (h : Still a xs) (hl : 264 + 208 * a ≤ xs.length) : overS (a : Int) b c (overS (a : Int) b c xs a) a = overS (a : Int) b c xs a := by
  have h1 := over_still (b := b) (c := c) h hl a (Nat.le_refl _)
  have h2 : Still a (overS (a : Int) b c xs a) := fun j hj => by rw [h1, if_pos (by omega)]
  apply list_getD_ext (by rw [overS_length])
  intro i
  rw [over_still h2 (by rw [overS_length]; exact hl) a (Nat.le_refl _) i, h1]
  split <;> rfl
theorem over_small {a b c : Int} {xs : List Nat} (h : ∀ n ∈ xs, n < 18446744073709551616) : ∀ k, ∀ n ∈ overS a b c xs k, n < 18446744073709551616
  | 0 => h
  | k + 1 => by
    have ih := over_small (a := a) (b := b) (c := c) h k
    have hz : ∀ (ys : List Nat), (∀ n ∈ ys, n < 18446744073709551616) → ∀ n ∈ zap ys (264 + 208 * k) 208, n < 18446744073709551616 := by
      intro ys hy
      unfold zap
      generalize 264 + 208 * k = o
      generalize 208 = m
      clear ih h
      induction m generalizing ys o with
      | zero => exact hy
      | succ m ihm =>
        rw [List.replicate_succ, putL]
        exact ihm _ (fun n hn => by
          rcases List.mem_or_eq_of_mem_set hn with e | e
          · exact hy n e
          · omega) _
    rw [overS]
    apply hz
    split
    · exact appl_small _ _ ih (comm_small _ h)
    · exact ih
theorem wh_not5 {a b c x : Int} (hm : mayB a b c = true) (h0 : 0 ≤ x) (h : ¬ (264 ≤ x ∧ x < 264 + 208 * a)) : (whereV a b c x).1 ≠ 5 := by
  have hb := mayB_yes hm
  unfold whereV
  rw [if_pos ⟨hm, h0⟩, find_places]
  by_cases h1 : x < 8
  · rw [if_pos h1]; simp
  · rw [if_neg h1]
    by_cases h2 : x < 264
    · rw [if_pos h2]
      dsimp only
      rw [if_pos rfl]
      dsimp only
      rw [find_within]
      split
      · simp
      · split
        · simp
        · split <;> simp
    · have h3 : ¬ x < 264 + 208 * a := by omega
      rw [if_neg h2, if_neg h3]
      split
      · simp
      · split
        · simp
        · split
          · simp
          · split
            · simp
            · simp
theorem wh_is5 {a b c x : Int} (hm : mayB a b c = true) (h : 264 ≤ x ∧ x < 264 + 208 * a) : (whereV a b c x).1 = 5 := by
  rw [wh_area hm ((x - 264) / 208) (by omega) (by omega) (by omega)]

set_option maxHeartbeats 1000000 in
theorem geom_any (x y z : Nat) (hx : x < 256) (hy : y < 256) (hz : z < 256) (w : World) : Calls Tryz.prog 8 #[.int .u8 (x : Int), .int .u8 (y : Int), .int .u8 (z : Int)] w
    fun e w' => e = .returned (gv ((1 + x % 4 : Nat) : Int) ((2 + y % 8 : Nat) : Int) ((2 + z % 20 : Nat) : Int)) ∧ w.grownBy w' none := by
  unfold gv
  have e1 : (x : Int) % 4 = ((x % 4 : Nat) : Int) := by omega
  have e2 : (y : Int) % 8 = ((y % 8 : Nat) : Int) := by omega
  have e3 : (z : Int) % 20 = ((z % 20 : Nat) : Int) := by omega
  have c1 : ((1 + x % 4 : Nat) : Int) = 1 + ((x % 4 : Nat) : Int) := by omega
  have c2 : ((2 + y % 8 : Nat) : Int) = 2 + ((y % 8 : Nat) : Int) := by omega
  have c3 : ((2 + z % 20 : Nat) : Int) = 2 + ((z % 20 : Nat) : Int) := by omega
  rw [c1, c2, c3]
  have b1 : x % 4 < 4 := by omega
  have b2 : y % 8 < 8 := by omega
  have b3 : z % 20 < 20 := by omega
  generalize x % 4 = X at e1 b1
  generalize y % 8 = Y at e2 b2
  generalize z % 20 = Z at e3 b3
  clear c1 c2 c3
  go_enter Tryz.func8, Tryz.ntmps8
  go_wp2
  exact bodyPost_ret (v := .agg #[.int .i64 (1 + (X : Int)), .int .i64 (2 + (Y : Int)), .int .i64 (2 + (Z : Int))]) (by simp [results, Tryz.results8, go_sem]) rfl ⟨rfl, World.grownBy_alloc w _ none⟩
theorem FormatH (a b c N : Nat) (xs : List Nat) (w0 w : World) (Ps : List Pr) (h : Own w0 w Ps) (hm : mayB (a : Int) (b : Int) (c : Int) = true) (hN : 280 + 208 * a + 16 * b + 8 * c = N) (hxs : fmtL a b c (264 + 208 * a) N = xs) :
    Calls Tryz.prog 35 #[.agg #[.int .i64 (a : Int), .int .i64 (b : Int), .int .i64 (c : Int)]] w fun e w' => ∃ q, e = .returned (.slice (some ⟨q, 0, none⟩) N N) ∧ Own w0 w' (Ps ++ [rowP 44 1 (.slice (some ⟨q, 0, none⟩) N N) N (xs.map wv)]) := by
  subst hN
  have hl := length_fmtL a b c (264 + 208 * a) (280 + 208 * a + 16 * b + 8 * c)
  rw [hxs] at hl
  have hmN := mayB_yes hm
  refine (Format_any a b c w hm).mono ?_
  rintro e w' ⟨q, rfl, hrow, hq, hg⟩
  rw [hxs] at hrow ⊢
  rw [hl]
  refine ⟨q, rfl, h.addRow ⟨by simp [hl], .inr ⟨q, 280 + 208 * a + 16 * b + 8 * c, _, rfl, hq, hrow, Nat.le_refl _, by unfold maxLen; omega, by simp [hl], by rw [List.take_of_length_le (by simp [hl])]⟩⟩ hg⟩
end Go.Proofs.YtpdofdloclmbdaaGreat
