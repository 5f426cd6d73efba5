/- Of a new device's words just eight are not 0. -/
import Derived.Test.YtjhfipgjnlhoaaaLayO
namespace Go.Proofs.Ytjhfipgjnlhoaaa
open Go.RowKit Go.Grommet

def cF (m k : Nat) : Nat := (if 0 < k then 1 else 0) + (if 1 < k then 1 else 0) + (if 2 < k then 1 else 0) + (if 3 < k then 1 else 0) + (if m < k then 1 else 0) + (if m + 8 < k then 1 else 0) + (if m + 32 < k then 1 else 0) + (if m + 33 < k then 1 else 0)

theorem if_same (x k : Nat) (h : k ≠ x) : (if x < k + 1 then 1 else 0) = (if x < k then 1 else 0 : Nat) := by
  by_cases h1 : x < k
  · rw [if_pos h1, if_pos (by omega)]
  · rw [if_neg h1, if_neg (by omega)]
theorem if_one (k : Nat) : (if k < k + 1 then 1 else 0) = (if k < k then 1 else 0 : Nat) + 1 := by
  rw [if_pos (by omega), if_neg (by omega)]

theorem if_at (x k : Nat) (h : k = x) : (if x < k + 1 then 1 else 0) = (if x < k then 1 else 0 : Nat) + 1 := by
  subst h; exact if_one k

theorem fmt_full (a b c m k : Nat) (hm : 4 ≤ m) (ha : 1 ≤ a) (hb : 1 ≤ b) (hc : 1 ≤ c) (h : k = 0 ∨ k = 1 ∨ k = 2 ∨ k = 3 ∨ k = m ∨ k = m + 8 ∨ k = m + 32 ∨ k = m + 33) : fmtAt a b c m k ≠ 0 := by
  unfold fmtAt
  by_cases h0 : k = 0
  · rw [if_pos h0]; decide
  rw [if_neg h0]
  by_cases h1 : k = 1
  · rw [if_pos h1]; omega
  rw [if_neg h1]
  by_cases h2 : k = 2
  · rw [if_pos h2]; omega
  rw [if_neg h2]
  by_cases h3 : k = 3
  · rw [if_pos h3]; omega
  rw [if_neg h3]
  by_cases h4 : k = m
  · rw [if_pos h4]; decide
  rw [if_neg h4]
  by_cases h5 : k = m + 8
  · rw [if_pos h5]; decide
  rw [if_neg h5]
  by_cases h6 : k = m + 32
  · rw [if_pos h6]; decide
  rw [if_neg h6, if_pos (by omega)]; decide

theorem cF_zero (a b c m k : Nat) (hm : 4 ≤ m) (h : fmtAt a b c m k = 0) (ha : 1 ≤ a) (hb : 1 ≤ b) (hc : 1 ≤ c) : cF m (k + 1) = cF m k := by
  have hn : ¬ (k = 0 ∨ k = 1 ∨ k = 2 ∨ k = 3 ∨ k = m ∨ k = m + 8 ∨ k = m + 32 ∨ k = m + 33) := fun hq => fmt_full a b c m k hm ha hb hc hq h
  unfold cF
  rw [if_same 0 k (by omega), if_same 1 k (by omega), if_same 2 k (by omega), if_same 3 k (by omega), if_same m k (by omega), if_same (m + 8) k (by omega), if_same (m + 32) k (by omega), if_same (m + 33) k (by omega)]
theorem cF_one (a b c m k : Nat) (hm : 4 ≤ m) (h : fmtAt a b c m k ≠ 0) : cF m (k + 1) = cF m k + 1 := by
  have : k = 0 ∨ k = 1 ∨ k = 2 ∨ k = 3 ∨ k = m ∨ k = m + 8 ∨ k = m + 32 ∨ k = m + 33 := by
    refine Decidable.byContradiction fun hn => h ?_
    unfold fmtAt
    rw [if_neg (by omega), if_neg (by omega), if_neg (by omega), if_neg (by omega), if_neg (by omega), if_neg (by omega), if_neg (by omega), if_neg (by omega)]
  unfold cF
  rcases this with h | h | h | h | h | h | h | h
  · rw [if_same 1 k (by omega), if_same 2 k (by omega), if_same 3 k (by omega), if_same m k (by omega), if_same (m + 8) k (by omega), if_same (m + 32) k (by omega), if_same (m + 33) k (by omega), if_at 0 k h]
    omega
  · rw [if_same 0 k (by omega), if_same 2 k (by omega), if_same 3 k (by omega), if_same m k (by omega), if_same (m + 8) k (by omega), if_same (m + 32) k (by omega), if_same (m + 33) k (by omega), if_at 1 k h]
    omega
  · rw [if_same 0 k (by omega), if_same 1 k (by omega), if_same 3 k (by omega), if_same m k (by omega), if_same (m + 8) k (by omega), if_same (m + 32) k (by omega), if_same (m + 33) k (by omega), if_at 2 k h]
    omega
  · rw [if_same 0 k (by omega), if_same 1 k (by omega), if_same 2 k (by omega), if_same m k (by omega), if_same (m + 8) k (by omega), if_same (m + 32) k (by omega), if_same (m + 33) k (by omega), if_at 3 k h]
    omega
  · rw [if_same 0 k (by omega), if_same 1 k (by omega), if_same 2 k (by omega), if_same 3 k (by omega), if_same (m + 8) k (by omega), if_same (m + 32) k (by omega), if_same (m + 33) k (by omega), if_at m k h]
    omega
  · rw [if_same 0 k (by omega), if_same 1 k (by omega), if_same 2 k (by omega), if_same 3 k (by omega), if_same m k (by omega), if_same (m + 32) k (by omega), if_same (m + 33) k (by omega), if_at (m + 8) k h]
    omega
  · rw [if_same 0 k (by omega), if_same 1 k (by omega), if_same 2 k (by omega), if_same 3 k (by omega), if_same m k (by omega), if_same (m + 8) k (by omega), if_same (m + 33) k (by omega), if_at (m + 32) k h]
    omega
  · rw [if_same 0 k (by omega), if_same 1 k (by omega), if_same 2 k (by omega), if_same 3 k (by omega), if_same m k (by omega), if_same (m + 8) k (by omega), if_same (m + 32) k (by omega), if_at (m + 33) k h]
    omega
theorem cF_all (m N : Nat) (h : m + 34 ≤ N) : cF m N = 8 := by
  unfold cF
  rw [if_pos (by omega), if_pos (by omega), if_pos (by omega), if_pos (by omega), if_pos (by omega), if_pos (by omega), if_pos (by omega), if_pos (by omega)]
theorem if_le (x k : Nat) : (if x < k then 1 else 0 : Nat) ≤ 1 := by split <;> omega
theorem cF_le (m k : Nat) : cF m k ≤ 8 := by
  unfold cF
  have := if_le 0 k
  have := if_le 1 k
  have := if_le 2 k
  have := if_le 3 k
  have := if_le m k
  have := if_le (m + 8) k
  have := if_le (m + 32) k
  have := if_le (m + 33) k
  omega

theorem getD_fmtL' (a b c m N i : Nat) (h : i < N) : (fmtL a b c m N).getD i 0 = fmtAt a b c m i := by
  rw [List.getD_eq_getElem?_getD, get_fmtL _ _ _ _ _ _ h]; rfl

theorem of_more (a b c m N : Nat) (bs : List Nat) (h : mayB (a : Int) (b : Int) (c : Int) = true) (hN : N = 280 + 208 * a + 16 * b + 8 * c) : ofV (fmtL a b c m N ++ bs) = some ((a : Int), (b : Int), (c : Int)) := by
  have g : ∀ i, i < N → (fmtL a b c m N ++ bs).getD i 0 = fmtAt a b c m i := fun i hi => by
    rw [List.getD_eq_getElem?_getD, List.getElem?_append_left (by rw [length_fmtL]; exact hi), ← List.getD_eq_getElem?_getD]
    exact getD_fmtL' a b c m N i hi
  unfold ofV
  rw [g 0 (by omega), g 1 (by omega), g 2 (by omega), g 3 (by omega), List.length_append, length_fmtL]
  have e0 : fmtAt a b c m 0 = 32762617960297063 := rfl
  have e1 : fmtAt a b c m 1 = a := rfl
  have e2 : fmtAt a b c m 2 = b := rfl
  have e3 : fmtAt a b c m 3 = c := rfl
  rw [e0, e1, e2, e3]
  exact if_pos ⟨by omega, rfl, h, by rw [words_pos h]; omega⟩
theorem of_less (a b c m N : Nat) (h : mayB (a : Int) (b : Int) (c : Int) = true) (hN : N = 280 + 208 * a + 16 * b + 8 * c) : ofV ((fmtL a b c m N).take (N - 1)) = none := by
  have g : ∀ i, i < N - 1 → ((fmtL a b c m N).take (N - 1)).getD i 0 = fmtAt a b c m i := fun i hi => by
    rw [List.getD_eq_getElem?_getD, List.getElem?_take, if_pos hi, ← List.getD_eq_getElem?_getD]
    exact getD_fmtL' a b c m N i (by omega)
  unfold ofV
  rw [g 0 (by omega), g 1 (by omega), g 2 (by omega), g 3 (by omega), List.length_take, length_fmtL]
  have e1 : fmtAt a b c m 1 = a := rfl
  have e2 : fmtAt a b c m 2 = b := rfl
  have e3 : fmtAt a b c m 3 = c := rfl
  rw [e1, e2, e3]
  refine if_neg (fun q => ?_)
  have := q.2.2.2
  rw [words_pos h] at this
  omega

/-- 'append' of words onto words that are owned. -/
theorem app64 {w : World} {ops : Array Oper} {rest : List Oper} {o : Oper} {a : Act} {Q : Exit → Act → World → Prop} (hgd : o.guard = none) (s x : Operand)
    (ho : o.op = .call { callee := .builtin .append, args := #[s, x], argTypes := #[24, 24] })
    (base : Nat) (v : Value) (n : Nat) (xs : List Nat) (hs : a.eval s = v) (hown : w.ownsRow base 31 1 v n (xs.map wv))
    (ad : Option Addr) (m c : Nat) (ys : List Nat) (hx : a.eval x = .slice ad m c) (hw : Words w ad m ys) (hnil : ad = none → m = 0 ∧ c = 0)
    (hb : n + m ≤ 1099511627776) (hbase : base ≤ w.heap.size)
    (h : ∀ v' w', w'.ownsRow base 31 1 v' (n + m) ((xs ++ ys).map wv) → w.grownBy w' v.ownBlock → wpList Try.prog ops Q rest (a.put o.dst v') w') : wpList Try.prog ops Q (o :: rest) a w := by
  obtain ⟨i0, hi, hz0, hz1, hz2⟩ := info_parts Try.info31
  refine wpList_append_at hgd s x 24 ho base 31 i0 (.int .u64 0) 8 Try.underlying24 hi hz0 hz1 hz2 rfl v n (xs.map wv) hs hown ad m c (ys.map wv) hx (by rw [List.length_map, hw.len]) hw.at_ hnil (wv_oneCell ys) (by unfold maxLen; omega) (by omega) hbase ?_
  intro v' w' ho' hg
  exact h v' w' (by rw [List.map_append]; exact ho') hg
theorem own_lit (w : World) (base : Nat) (hb : base ≤ w.heap.size) : (w.alloc (.cells #[] 31)).ownsRow base 31 1 (.slice (some ⟨w.heap.size, 0, none⟩) 0 0) 0 (([] : List Nat).map wv) :=
  World.ownsRow_lit (size := 1) (base := base) (e := 31) w #[] 0 hb (by unfold maxLen; omega) (by simp)
theorem words_of_own {w : World} {base n : Nat} {v : Value} {xs : List Nat} (h : w.ownsRow base 31 1 v n (xs.map wv)) (hx : ∀ k ∈ xs, k < 18446744073709551616) (hn : n ≤ 140737488351232) :
    ∃ ad cap, v = .slice ad n cap ∧ Words w ad n xs ∧ (ad = none → n = 0 ∧ cap = 0) ∧ n ≤ cap ∧ (∀ g, v.ownBlock = some g → base ≤ g) := by
  obtain ⟨ad, cap, he, ha, hnil, hc, hb⟩ := owns_slice h
  refine ⟨ad, cap, he, ⟨?_, hx, ha, hn⟩, hnil, hc, hb⟩
  have := h.1
  simpa using this
theorem take_words {w : World} {ad : Option Addr} {l : Nat} {xs : List Nat} (h : Words w ad l xs) (k : Nat) (hk : k ≤ l) : Words w ad k (xs.take k) :=
  ⟨by rw [List.length_take, h.len]; omega, fun n hn => h.small n (List.mem_of_mem_take hn), by
    have := h.at_
    rw [← List.take_append_drop k xs, List.map_append] at this
    exact at_prefix this, by have := h.fits; omega⟩
end Go.Proofs.Ytjhfipgjnlhoaaa
