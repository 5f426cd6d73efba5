/- What is put is read again; what is cut is torn: plainly. -/
import Derived.Test.YtingkjmbeloepaaOctL
import Derived.Test.YtingkjmbeloepaaItems
import Derived.Test.YtingkjmbeloepaaShortMath
namespace Go.Proofs.Ytingkjmbeloepaa
open Go.RowKit Go.Grommet

theorem num_cons (n : Nat) : num n = UInt8.ofNat (nb n) :: les n (nb n) := rfl

theorem head_toNat (n : Nat) (h : n < 2 ^ 64) : (UInt8.ofNat (nb n)).toNat = nb n := by
  have := nb_le n h
  rw [UInt8.toNat_ofNat', Nat.mod_eq_of_lt (by omega)]

theorem les_getD (n k i : Nat) (h : i < k) (r : List UInt8) : (les n k ++ r).getD i 0 = byteAt n i := by
  rw [List.getD_eq_getElem?_getD, List.getElem?_append_left (by rw [length_les]; exact h)]
  simp [les, h]

/-- A number that was put is read, whatever stands behind it. -/
theorem numAt_num (n : Nat) (h : n < 2 ^ 64) (r : List UInt8) : numAt (num n ++ r) = some (n, 1 + nb n) := by
  rw [num_cons, List.cons_append, numAt_cons, head_toNat n h]
  have h8 := nb_le n h
  have hl : (les n (nb n) ++ r).take (nb n) = les n (nb n) := by
    rw [List.take_append_of_le_length (by rw [length_les]; exact Nat.le_refl _), List.take_of_length_le (by rw [length_les]; exact Nat.le_refl _)]
  rw [if_pos, hl, val_num n h]
  refine ⟨h8, by rw [List.length_append, length_les]; omega, ?_⟩
  rcases Nat.eq_zero_or_pos (nb n) with h0 | h0
  · exact Or.inl h0
  · refine Or.inr ?_
    rw [les_getD n _ _ (by omega)]
    have := last_byte n h (nb n - 1) (by omega)
    intro e
    rw [e] at this
    exact this rfl

/-- A number that is cut is none. -/
theorem numAt_cut (n : Nat) (h : n < 2 ^ 64) (r : List UInt8) (k : Nat) (hk : k < 1 + nb n) : numAt ((num n ++ r).take k) = none := by
  cases k with
  | zero => rfl
  | succ k =>
    rw [num_cons, List.cons_append, List.take_succ_cons, numAt_cons, head_toNat n h]
    rw [if_neg]
    intro hc
    have := hc.2.1
    rw [List.length_take] at this
    omega

/-- The bytes of an item. -/
def enc (x : It) : List UInt8 := if x.is = true then num x.s.size ++ bytesOf x.s else num x.n
/-- The bytes of items, one behind the other. -/
def encAll (L : List It) : List UInt8 := L.flatMap enc

theorem encAll_append (A B : List It) : encAll (A ++ B) = encAll A ++ encAll B := List.flatMap_append
theorem encAll_cons (x : It) (B : List It) : encAll (x :: B) = enc x ++ encAll B := List.flatMap_cons
theorem encAll_nil : encAll [] = [] := rfl

theorem encAll_take_succ (L : List It) (i : Nat) (x : It) (h : L[i]? = some x) : encAll (L.take (i + 1)) = encAll (L.take i) ++ enc x := by
  obtain ⟨hi, rfl⟩ := List.getElem?_eq_some_iff.1 h
  rw [List.take_succ_eq_append_getElem hi, encAll_append, encAll_cons, encAll_nil, List.append_nil]

theorem encAll_split (L : List It) (i : Nat) (x : It) (h : L[i]? = some x) : encAll L = encAll (L.take i) ++ (enc x ++ encAll (L.drop (i + 1))) := by
  obtain ⟨hi, rfl⟩ := List.getElem?_eq_some_iff.1 h
  have e : L = L.take i ++ (L[i] :: L.drop (i + 1)) := by rw [← List.drop_eq_getElem_cons hi, List.take_append_drop]
  have e2 := congrArg encAll e
  rwa [encAll_append, encAll_cons] at e2

theorem encAll_le (L : List It) (i : Nat) : (encAll (L.take i)).length ≤ (encAll L).length := by
  have e := congrArg encAll (List.take_append_drop i L)
  rw [encAll_append] at e
  rw [← e, List.length_append]; omega

/-- What a reader finds at the place of an item whose bytes lie there wholly. -/
theorem read_number (L : List It) (i : Nat) (x : It) (h : L[i]? = some x) (hx : x.is = false) (hn : x.n < 2 ^ 64) (K : Nat) (hK : (encAll (L.take (i + 1))).length ≤ K) :
    numberR ((encAll L).take K) (encAll (L.take i)).length false = (x.n, (encAll (L.take (i + 1))).length, false) := by
  have es := encAll_split L i x h
  have et := encAll_take_succ L i x h
  have ee : enc x = num x.n := by unfold enc; rw [hx]; rfl
  rw [ee] at es et
  generalize encAll (L.take i) = P at *
  rw [et, List.length_append, length_num] at hK
  have hd : ((encAll L).take K).drop P.length = num x.n ++ (encAll (L.drop (i + 1))).take (K - P.length - (num x.n).length) := by
    rw [es, List.drop_take, List.drop_append_of_le_length (Nat.le_refl _), List.drop_length, List.nil_append, List.take_append, List.take_of_length_le (by rw [length_num]; omega)]
  unfold numberR
  rw [if_neg (by decide), hd, numAt_num x.n hn, et, List.length_append, length_num]

/-- .. and of one that is cut. -/
theorem cut_number (L : List It) (i : Nat) (x : It) (h : L[i]? = some x) (hx : x.is = false) (hn : x.n < 2 ^ 64) (K : Nat) (_hK0 : (encAll (L.take i)).length ≤ K) (hK : K < (encAll (L.take (i + 1))).length) :
    numberR ((encAll L).take K) (encAll (L.take i)).length false = (0, (encAll (L.take i)).length, true) := by
  have es := encAll_split L i x h
  have et := encAll_take_succ L i x h
  have ee : enc x = num x.n := by unfold enc; rw [hx]; rfl
  rw [ee] at es et
  generalize encAll (L.take i) = P at *
  rw [et, List.length_append, length_num] at hK
  have hd : ((encAll L).take K).drop P.length = (num x.n ++ encAll (L.drop (i + 1))).take (K - P.length) := by
    rw [es, List.drop_take, List.drop_append_of_le_length (Nat.le_refl _), List.drop_length, List.nil_append]
  unfold numberR
  rw [if_neg (by decide), hd, numAt_cut x.n hn _ _ (by omega)]

theorem read_text (L : List It) (i : Nat) (x : It) (h : L[i]? = some x) (hx : x.is = true) (hn : x.s.size < 2 ^ 63) (K : Nat) (hK : (encAll (L.take (i + 1))).length ≤ K) :
    textR ((encAll L).take K) (encAll (L.take i)).length false x.s.size = (bytesOf x.s, (encAll (L.take (i + 1))).length, false) := by
  have es := encAll_split L i x h
  have et := encAll_take_succ L i x h
  have ee : enc x = num x.s.size ++ bytesOf x.s := by unfold enc; rw [hx]; rfl
  rw [ee] at es et
  have hle := encAll_le L (i + 1)
  generalize encAll (L.take i) = P at *
  have hls := length_bytesOf x.s
  rw [et, List.length_append, List.length_append, length_num, hls] at hK hle
  have hd : ((encAll L).take K).drop P.length = num x.s.size ++ (bytesOf x.s ++ (encAll (L.drop (i + 1))).take (K - P.length - (num x.s.size).length - (bytesOf x.s).length)) := by
    rw [es, List.drop_take, List.drop_append_of_le_length (Nat.le_refl _), List.drop_length, List.nil_append, List.append_assoc, List.take_append, List.take_of_length_le (by rw [length_num]; omega), List.take_append, List.take_of_length_le (by rw [hls, length_num]; omega)]
  have hd2 : ((encAll L).take K).drop (P.length + (1 + nb x.s.size)) = bytesOf x.s ++ (encAll (L.drop (i + 1))).take (K - P.length - (num x.s.size).length - (bytesOf x.s).length) := by
    rw [← List.drop_drop, hd, List.drop_append_of_le_length (by rw [length_num]; exact Nat.le_refl _), List.drop_of_length_le (by rw [length_num]; exact Nat.le_refl _), List.nil_append]
  unfold textR
  rw [if_neg (by decide), hd, numAt_num x.s.size (by omega)]
  simp only
  rw [if_neg (by rw [List.length_take]; omega), hd2, List.take_append_of_le_length (by omega), List.take_of_length_le (by omega), et]
  simp only [List.length_append, length_num, hls, Prod.mk.injEq, and_true, true_and]
  omega

theorem cut_text (L : List It) (i : Nat) (x : It) (h : L[i]? = some x) (hx : x.is = true) (hn : x.s.size < 2 ^ 63) (K : Nat) (_hK0 : (encAll (L.take i)).length ≤ K) (hK : K < (encAll (L.take (i + 1))).length) :
    textR ((encAll L).take K) (encAll (L.take i)).length false x.s.size = ([], (encAll (L.take i)).length, true) := by
  have es := encAll_split L i x h
  have et := encAll_take_succ L i x h
  have ee : enc x = num x.s.size ++ bytesOf x.s := by unfold enc; rw [hx]; rfl
  rw [ee] at es et
  generalize encAll (L.take i) = P at *
  have hls := length_bytesOf x.s
  rw [et, List.length_append, List.length_append, length_num, hls] at hK
  have hd : ((encAll L).take K).drop P.length = (num x.s.size ++ (bytesOf x.s ++ encAll (L.drop (i + 1)))).take (K - P.length) := by
    rw [es, List.drop_take, List.drop_append_of_le_length (Nat.le_refl _), List.drop_length, List.nil_append, List.append_assoc]
  unfold textR
  rw [if_neg (by decide), hd]
  by_cases hc : K - P.length < 1 + nb x.s.size
  · rw [numAt_cut x.s.size (by omega) _ _ hc]
  · have e : (num x.s.size ++ (bytesOf x.s ++ encAll (L.drop (i + 1)))).take (K - P.length) = num x.s.size ++ (bytesOf x.s ++ encAll (L.drop (i + 1))).take (K - P.length - (num x.s.size).length) := by
      rw [List.take_append, List.take_of_length_le (by rw [length_num]; omega)]
    rw [e, numAt_num x.s.size (by omega)]
    simp only
    rw [if_pos]
    refine Or.inr (Or.inr ?_)
    rw [List.length_take]; omega
end Go.Proofs.Ytingkjmbeloepaa
