/- A text's words hold its bytes. -/
import Derived.Test.YtingkjmbeloepaaUnpackMath
namespace Go.Grommet
open Go

theorem val_div (l : List UInt8) (i : Nat) : val l / 256 ^ i = val (l.drop i) := by
  induction i generalizing l with
  | zero => simp
  | succ i ih =>
    cases l with
    | nil => simp [val]
    | cons c t =>
      have hc := c.toNat_lt
      rw [List.drop_succ_cons, ← ih t, Nat.pow_succ, Nat.mul_comm, ← Nat.div_div_eq_div_mul]
      congr 1
      simp only [val]
      omega

theorem byteAt_val (l : List UInt8) (i : Nat) : byteAt (val l) i = l.getD i 0 := by
  apply UInt8.toNat_inj.1
  rw [byteAt_toNat, val_div]
  by_cases h : i < l.length
  · rw [List.drop_eq_getElem_cons h]
    have := (l[i]).toNat_lt
    simp only [val, List.getD_eq_getElem?_getD, List.getElem?_eq_getElem h, Option.getD_some]
    omega
  · rw [List.drop_eq_nil_of_le (by omega), List.getD_eq_getElem?_getD, List.getElem?_eq_none (by omega)]
    simp [val]

theorem byteAt_word (bs : List UInt8) (j r : Nat) (hr : r < 8) : byteAt (word bs j) r = bs.getD (8 * j + r) 0 := by
  unfold word
  rw [byteAt_val, List.getD_eq_getElem?_getD, List.getElem?_take, if_pos hr, List.getElem?_drop, ← List.getD_eq_getElem?_getD]

/-- Bytes, and noughts behind them. -/
def padTo (bs : List UInt8) (n : Nat) : List UInt8 := (List.range n).map fun i => bs.getD i 0

theorem length_padTo (bs : List UInt8) (n : Nat) : (padTo bs n).length = n := by simp [padTo]

theorem unpack_words (bs : List UInt8) (m n : Nat) (h : n ≤ 8 * m) : unpackB (words bs m) n = padTo bs n := by
  unfold unpackB padTo
  apply List.map_congr_left
  intro i hi
  have hi := List.mem_range.1 hi
  have hj : i / 8 < m := by omega
  have e : (words bs m).getD (i / 8) 0 = word bs (i / 8) := by
    rw [List.getD_eq_getElem?_getD]
    simp [words, hj]
  rw [e, byteAt_word bs _ _ (Nat.mod_lt _ (by decide)), Nat.div_add_mod]

theorem pad_le (bs : List UInt8) (n : Nat) (h : n ≤ bs.length) : padTo bs n = bs.take n := by
  apply List.ext_getElem
  · simp [padTo, h]
  · intro i h1 h2
    have hb : i < bs.length := by rw [length_padTo] at h1; omega
    simp [padTo, hb]

theorem pad_take (bs : List UInt8) (n : Nat) (h : bs.length ≤ n) : (padTo bs n).take bs.length = bs := by
  apply List.ext_getElem
  · simp [padTo, h]
  · intro i h1 h2
    simp [padTo, h2]

theorem pad_zero (bs : List UInt8) (n i : Nat) (h : bs.length ≤ i) (hn : i < n) : (padTo bs n)[i]'(by rw [length_padTo]; exact hn) = 0 := by
  simp [padTo, h]

theorem words_take (bs : List UInt8) (m j : Nat) (hj : j ≤ m) : words (bs.take (8 * j)) j = (words bs m).take j := by
  apply List.ext_getElem
  · simp [words, hj]
  · intro i h1 h2
    have hi : i < j := by rw [length_words] at h1; exact h1
    simp only [words, List.getElem_take, List.getElem_map, List.getElem_range]
    unfold word
    rw [List.drop_take, List.take_take, Nat.min_eq_left (by omega)]
end Go.Grommet
