/- Bytes as words, plainly. -/
import Derived.Test.YtingkjmbeloepaaMath
namespace Go.Grommet
open Go

/-- The word j of bytes: eight of them, the lowest first, noughts where there are none. -/
def word (bs : List UInt8) (j : Nat) : Nat := val ((bs.drop (8 * j)).take 8)
/-- A word as a value. -/
def wv (n : Nat) : Value := .int .u64 (n : Int)
/-- The first m words of bytes. -/
def words (bs : List UInt8) (m : Nat) : List Nat := (List.range m).map (word bs)

theorem word_lt (bs : List UInt8) (j : Nat) : word bs j < 2 ^ 64 := by
  have h := val_lt ((bs.drop (8 * j)).take 8)
  have h5 : ((bs.drop (8 * j)).take 8).length ≤ 8 := by simp; omega
  have h6 : 256 ^ ((bs.drop (8 * j)).take 8).length ≤ 256 ^ 8 := Nat.pow_le_pow_right (by decide) h5
  have h4 : (256 : Nat) ^ 8 = 2 ^ 64 := by decide
  unfold word; omega

theorem word_nil (j : Nat) : word [] j = 0 := by simp [word, val]

theorem length_words (bs : List UInt8) (m : Nat) : (words bs m).length = m := by simp [words]

theorem words_nil (m : Nat) : words [] m = List.replicate m 0 := by
  apply List.ext_getElem
  · simp [words]
  · intro i h1 h2
    simp [words, word_nil]

/-- One byte more turns one word. -/
theorem word_snoc (bs : List UInt8) (k : Nat) (c : UInt8) (hk : k = bs.length) (j : Nat) :
    word (bs ++ [c]) j = if j = k / 8 then word bs j + c.toNat * 256 ^ (k % 8) else word bs j := by
  subst hk
  unfold word
  by_cases h : j = bs.length / 8
  · subst h
    rw [if_pos rfl, List.drop_append_of_le_length (by omega), List.take_of_length_le (by simp; omega), List.take_of_length_le (by simp; omega), val_append]
    simp only [val, List.length_drop]
    rw [show bs.length - 8 * (bs.length / 8) = bs.length % 8 from by omega, Nat.mul_comm c.toNat]
    simp
  · rw [if_neg h]
    by_cases h2 : bs.length < 8 * j
    · have e1 : (bs ++ [c]).drop (8 * j) = [] := List.drop_eq_nil_of_le (by simp; omega)
      have e2 : bs.drop (8 * j) = [] := List.drop_eq_nil_of_le (by omega)
      rw [e1, e2]
    · by_cases h3 : bs.length = 8 * j
      · omega
      · rw [List.drop_append_of_le_length (by omega), List.take_append_of_le_length (by simp; omega)]

theorem word_part_lt (bs : List UInt8) (k : Nat) (hk : k = bs.length) : word bs (k / 8) < 256 ^ (k % 8) := by
  subst hk
  unfold word
  have h := val_lt ((bs.drop (8 * (bs.length / 8))).take 8)
  have e : ((bs.drop (8 * (bs.length / 8))).take 8).length = bs.length % 8 := by simp; omega
  rwa [e] at h

theorem words_snoc (bs : List UInt8) (k : Nat) (c : UInt8) (hk : k = bs.length) (m : Nat) (_hm : k / 8 < m) :
    words (bs ++ [c]) m = (words bs m).set (k / 8) (word bs (k / 8) + c.toNat * 256 ^ (k % 8)) := by
  apply List.ext_getElem
  · simp [words]
  · intro i h1 h2
    simp only [words, List.getElem_map, List.getElem_range, List.getElem_set]
    rw [word_snoc bs k c hk]
    by_cases h : k / 8 = i
    · rw [if_pos h.symm, if_pos h, h]
    · rw [if_neg (fun e => h e.symm), if_neg h]

theorem take_snoc (bs : List UInt8) (k : Nat) (h : k < bs.length) : bs.take (k + 1) = bs.take k ++ [bs.getD k 0] := by
  rw [List.take_succ_eq_append_getElem h]
  simp [List.getD, h]
end Go.Grommet
