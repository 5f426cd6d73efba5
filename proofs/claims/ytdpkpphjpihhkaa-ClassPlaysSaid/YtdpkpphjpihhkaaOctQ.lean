/- Math, PackMath, UnpackMath, OctP, ShortMath, WordsMath in one. -/
import Derived.Lib.BitFns
import Derived.Test.YtdpkpphjpihhkaaBase
import Derived.Test.YtdpkpphjpihhkaaSloJ
import Derived.BigQuiet
import Derived.Deep.QuietTactic
import Derived.StillTailTactics
section
/- Plain arithmetic of package octet's bytes: how many bytes a number needs, its bytes, the number of bytes. -/
namespace Go.Grommet
open Go

/-- How many bytes a number needs. -/
def nb (n : Nat) : Nat := (Lib.bitLen n + 7) / 8
/-- The byte i of a number, the lowest one 0. -/
def byteAt (n i : Nat) : UInt8 := UInt8.ofNat (n / 256 ^ i % 256)
/-- The first k bytes of a number. -/
def les (n k : Nat) : List UInt8 := (List.range k).map (byteAt n)
/-- A number, as it is put. -/
def num (n : Nat) : List UInt8 := UInt8.ofNat (nb n) :: les n (nb n)
/-- The number of bytes. -/
def val : List UInt8 → Nat
  | [] => 0
  | c :: t => c.toNat + 256 * val t

theorem les_zero (n : Nat) : les n 0 = [] := rfl
theorem les_succ (n k : Nat) : les n (k + 1) = les n k ++ [byteAt n k] := by simp [les, List.range_succ]
theorem length_les (n k : Nat) : (les n k).length = k := by simp [les]
theorem byteAt_toNat (n i : Nat) : (byteAt n i).toNat = n / 256 ^ i % 256 := by simp [byteAt, UInt8.toNat_ofNat']

theorem bitLen_lt (n : Nat) (h : n < 2 ^ 64) : n < 2 ^ Lib.bitLen n := by
  induction n using Nat.strongRecOn with
  | _ n ih =>
    by_cases h0 : n = 0
    · subst h0; simp [Lib.bitLen, Lib.bitLenAux]
    · rw [Lib.bitLen_half n h0 h]
      have := ih (n / 2) (by omega) (by omega)
      rw [Nat.add_comm, Nat.pow_succ]; omega

theorem bitLen_ge (n : Nat) (h : n < 2 ^ 64) (h0 : n ≠ 0) : 2 ^ (Lib.bitLen n - 1) ≤ n ∧ 1 ≤ Lib.bitLen n := by
  induction n using Nat.strongRecOn with
  | _ n ih =>
    rw [Lib.bitLen_half n h0 h]
    by_cases h1 : n / 2 = 0
    · rw [h1]
      have e : Lib.bitLen 0 = 0 := by decide
      rw [e]; simp; omega
    · have := ih (n / 2) (by omega) (by omega) h1
      obtain ⟨a, b⟩ := this
      refine ⟨?_, by omega⟩
      obtain ⟨m, hm⟩ : ∃ m, Lib.bitLen (n / 2) = m + 1 := ⟨Lib.bitLen (n / 2) - 1, by omega⟩
      rw [hm] at a ⊢
      rw [show 1 + (m + 1) - 1 = m + 1 from by omega, Nat.pow_succ]
      rw [show m + 1 - 1 = m from by omega] at a
      omega

theorem bitLen_le64 (n : Nat) (h : n < 2 ^ 64) : Lib.bitLen n ≤ 64 := by
  by_cases h0 : n = 0
  · subst h0; decide
  · have := (bitLen_ge n h h0).1
    have h2 : 2 ^ (Lib.bitLen n - 1) < 2 ^ 64 := Nat.lt_of_le_of_lt this h
    have := (Nat.pow_lt_pow_iff_right (by decide : 1 < 2)).1 h2
    omega

theorem nb_le (n : Nat) (h : n < 2 ^ 64) : nb n ≤ 8 := by
  have := bitLen_le64 n h
  unfold nb; omega

theorem pow256 (k : Nat) : 256 ^ k = 2 ^ (8 * k) := by rw [Nat.pow_mul]

theorem nb_lt (n : Nat) (h : n < 2 ^ 64) : n < 256 ^ nb n := by
  rw [pow256]
  exact Nat.lt_of_lt_of_le (bitLen_lt n h) (Nat.pow_le_pow_right (by decide) (by unfold nb; omega))

theorem nb_zero (n : Nat) (h : n < 2 ^ 64) : nb n = 0 ↔ n = 0 := by
  constructor
  · intro e
    have := nb_lt n h
    rw [e] at this; simpa using this
  · intro e; subst e; decide

theorem nb_ge (n : Nat) (h : n < 2 ^ 64) (h0 : n ≠ 0) : 256 ^ (nb n - 1) ≤ n := by
  obtain ⟨a, b⟩ := bitLen_ge n h h0
  rw [pow256]
  exact Nat.le_trans (Nat.pow_le_pow_right (by decide) (by unfold nb; omega)) a

theorem val_append (a b : List UInt8) : val (a ++ b) = val a + 256 ^ a.length * val b := by
  induction a with
  | nil => simp [val]
  | cons c t ih => simp only [List.cons_append, val, ih, List.length_cons, Nat.pow_succ, Nat.mul_add]; rw [Nat.mul_comm (256 ^ t.length) 256, Nat.mul_assoc]; omega

theorem val_les (n k : Nat) : val (les n k) = n % 256 ^ k := by
  induction k with
  | zero => simp [les, val, Nat.mod_one]
  | succ k ih =>
    rw [les_succ, val_append, ih, length_les]
    simp only [val, byteAt_toNat]
    rw [Nat.pow_succ, Nat.mod_mul, Nat.mul_zero, Nat.add_zero]

theorem val_num (n : Nat) (h : n < 2 ^ 64) : val (les n (nb n)) = n := by
  rw [val_les, Nat.mod_eq_of_lt (nb_lt n h)]

theorem val_lt (l : List UInt8) : val l < 256 ^ l.length := by
  induction l with
  | nil => simp [val]
  | cons c t ih =>
    have := c.toNat_lt
    simp only [val, List.length_cons, Nat.pow_succ]
    have : 256 * (val t + 1) ≤ 256 * 256 ^ t.length := Nat.mul_le_mul_left _ ih
    omega

/-- The byte that Go's shift and cut make. -/
theorem byteAt_int (n i : Nat) : (n : Int) / 2 ^ (8 * (i : Int)).toNat % 256 = ((byteAt n i).toNat : Int) := by
  have e : (8 * (i : Int)).toNat = 8 * i := by omega
  rw [e, byteAt_toNat, pow256, Int.natCast_emod, Int.natCast_ediv, Int.natCast_pow]
  rfl

/-- The word that has one byte alone. -/
theorem word_int (c i : Nat) (hc : c < 256) (hi : i ≤ 7) : IntKind.u64.wrap ((c : Int) * 2 ^ (8 * (i : Int)).toNat) = ((c * 256 ^ i : Nat) : Int) ∧ c * 256 ^ i < 256 ^ (i + 1) := by
  have e : (8 * (i : Int)).toNat = 8 * i := by omega
  have h1 : c * 256 ^ i < 256 ^ (i + 1) := by
    rw [Nat.pow_succ, Nat.mul_comm]
    exact Nat.mul_lt_mul_of_pos_left hc (Nat.pow_pos (by decide))
  have h2 : 256 ^ (i + 1) ≤ 256 ^ 8 := Nat.pow_le_pow_right (by decide) (by omega)
  refine ⟨?_, h1⟩
  have e2 : ((c : Int) * 2 ^ (8 * (i : Int)).toNat) = ((c * 256 ^ i : Nat) : Int) := by
    rw [e, pow256, Int.natCast_mul, Int.natCast_pow]; rfl
  rw [e2]
  have h3 : (256 : Nat) ^ 8 = 18446744073709551616 := by decide
  rw [h3] at h2
  exact IntWalk.u64_in _ ⟨by omega, by omega⟩

/-- 'n |= byte << 8i' where the bytes below stand in n. -/
theorem or_word (x c i : Nat) (hx : x < 256 ^ i) (hc : c < 256) (hi : i ≤ 7) : bits .or .u64 (x : Int) ((c * 256 ^ i : Nat) : Int) = ((x + c * 256 ^ i : Nat) : Int) := by
  have hw := (word_int c i hc hi).2
  have h2 : 256 ^ (i + 1) ≤ 256 ^ 8 := Nat.pow_le_pow_right (by decide) (by omega)
  have h3 : 256 ^ i ≤ 256 ^ 8 := Nat.pow_le_pow_right (by decide) (by omega)
  have h4 : (256 : Nat) ^ 8 = 2 ^ 64 := by decide
  rw [h4] at h2 h3
  rw [(bits_nat .u64 64 (by decide) (fun n h0 h1 => IntWalk.u64_in n ⟨h0, by omega⟩) x (c * 256 ^ i) (by omega) (by omega)).2]
  rw [pow256] at hx ⊢
  rw [Nat.or_comm, Nat.mul_comm c, ← Nat.two_pow_add_eq_or_of_lt hx, Nat.add_comm]

/-- The number that bytes begin with, and how many bytes it takes. -/
def numAt : List UInt8 → Option (Nat × Nat)
  | [] => none
  | c :: r => if c.toNat ≤ 8 ∧ c.toNat ≤ r.length ∧ (c.toNat = 0 ∨ r.getD (c.toNat - 1) 0 ≠ 0) then some (val (r.take c.toNat), 1 + c.toNat) else none

theorem numAt_cons (c : UInt8) (r : List UInt8) : numAt (c :: r) = if c.toNat ≤ 8 ∧ c.toNat ≤ r.length ∧ (c.toNat = 0 ∨ r.getD (c.toNat - 1) 0 ≠ 0) then some (val (r.take c.toNat), 1 + c.toNat) else none := rfl

theorem val_take_succ (r : List UInt8) (k : Nat) (h : k < r.length) : val (r.take (k + 1)) = val (r.take k) + (r.getD k 0).toNat * 256 ^ k := by
  rw [List.take_succ_eq_append_getElem h, val_append]
  simp only [val, List.length_take, Nat.mul_zero, Nat.add_zero]
  rw [Nat.min_eq_left (by omega), Nat.mul_comm]
  simp [List.getD, h]

theorem numAt_lt (b : List UInt8) (n k : Nat) (h : numAt b = some (n, k)) : n < 2 ^ 64 ∧ k ≤ 9 ∧ k ≤ b.length := by
  cases b with
  | nil => simp [numAt] at h
  | cons c r =>
    rw [numAt_cons] at h
    by_cases hc : c.toNat ≤ 8 ∧ c.toNat ≤ r.length ∧ (c.toNat = 0 ∨ r.getD (c.toNat - 1) 0 ≠ 0)
    · rw [if_pos hc] at h
      obtain ⟨h1, h2, h3⟩ := hc
      simp only [Option.some.injEq, Prod.mk.injEq] at h
      obtain ⟨rfl, rfl⟩ := h
      have := val_lt (r.take c.toNat)
      have h5 : (r.take c.toNat).length ≤ 8 := by simp; omega
      have h6 : 256 ^ (r.take c.toNat).length ≤ 256 ^ 8 := Nat.pow_le_pow_right (by decide) h5
      have h4 : (256 : Nat) ^ 8 = 2 ^ 64 := by decide
      simp only [List.length_cons]
      omega
    · rw [if_neg hc] at h; cases h

theorem length_num (n : Nat) : (num n).length = 1 + nb n := by simp [num, length_les]; omega
end Go.Grommet
end
section
/- Bytes as words, plainly. -/
namespace Go.Grommet
open Go

/-- The word j of bytes: eight of them, the lowest first, noughts where there are none. -/
def word (bs : List UInt8) (j : Nat) : Nat := val ((bs.drop (8 * j)).take 8)
/-- The first m words of bytes. -/
def words (bs : List UInt8) (m : Nat) : List Nat := (List.range m).map (word bs)

theorem word_lt (bs : List UInt8) (j : Nat) : word bs j < 2 ^ 64 := by
  have h := val_lt ((bs.drop (8 * j)).take 8)
  have h5 : ((bs.drop (8 * j)).take 8).length ≤ 8 := by simp; omega
  have h6 : 256 ^ ((bs.drop (8 * j)).take 8).length ≤ 256 ^ 8 := Nat.pow_le_pow_right (by decide) h5
  have h4 : (256 : Nat) ^ 8 = 2 ^ 64 := by decide
  unfold word; omega

theorem word_nil (j : Nat) : word [] j = 0 := by simp [word, val]

theorem length_words (bs : List UInt8) (m : Nat) : (words bs m).length = m := by simp [words]

theorem words_nil (m : Nat) : words [] m = List.replicate m 0 := by
  apply List.ext_getElem
  · simp [words]
  · intro i h1 h2
    simp [words, word_nil]

/-- One byte more turns one word. -/
theorem word_snoc (bs : List UInt8) (k : Nat) (c : UInt8) (hk : k = bs.length) (j : Nat) :
    word (bs ++ [c]) j = if j = k / 8 then word bs j + c.toNat * 256 ^ (k % 8) else word bs j := by
  subst hk
  unfold word
  by_cases h : j = bs.length / 8
  · subst h
    rw [if_pos rfl, List.drop_append_of_le_length (by omega), List.take_of_length_le (by simp; omega), List.take_of_length_le (by simp; omega), val_append]
    simp only [val, List.length_drop]
    rw [show bs.length - 8 * (bs.length / 8) = bs.length % 8 from by omega, Nat.mul_comm c.toNat]
    simp
  · rw [if_neg h]
    by_cases h2 : bs.length < 8 * j
    · have e1 : (bs ++ [c]).drop (8 * j) = [] := List.drop_eq_nil_of_le (by simp; omega)
      have e2 : bs.drop (8 * j) = [] := List.drop_eq_nil_of_le (by omega)
      rw [e1, e2]
    · by_cases h3 : bs.length = 8 * j
      · omega
      · rw [List.drop_append_of_le_length (by omega), List.take_append_of_le_length (by simp; omega)]

theorem word_part_lt (bs : List UInt8) (k : Nat) (hk : k = bs.length) : word bs (k / 8) < 256 ^ (k % 8) := by
  subst hk
  unfold word
  have h := val_lt ((bs.drop (8 * (bs.length / 8))).take 8)
  have e : ((bs.drop (8 * (bs.length / 8))).take 8).length = bs.length % 8 := by simp; omega
  rwa [e] at h

theorem words_snoc (bs : List UInt8) (k : Nat) (c : UInt8) (hk : k = bs.length) (m : Nat) (_hm : k / 8 < m) :
    words (bs ++ [c]) m = (words bs m).set (k / 8) (word bs (k / 8) + c.toNat * 256 ^ (k % 8)) := by
  apply List.ext_getElem
  · simp [words]
  · intro i h1 h2
    simp only [words, List.getElem_map, List.getElem_range, List.getElem_set]
    rw [word_snoc bs k c hk]
    by_cases h : k / 8 = i
    · rw [if_pos h.symm, if_pos h, h]
    · rw [if_neg (fun e => h e.symm), if_neg h]

theorem take_snoc (bs : List UInt8) (k : Nat) (h : k < bs.length) : bs.take (k + 1) = bs.take k ++ [bs.getD k 0] := by
  rw [List.take_succ_eq_append_getElem h]
  simp [List.getD, h]
end Go.Grommet
end
section
/- Words as bytes, plainly. -/
namespace Go.Grommet
open Go

/-- The first n bytes of words. -/
def unpackB (ws : List Nat) (n : Nat) : List UInt8 := (List.range n).map fun i => byteAt (ws.getD (i / 8) 0) (i % 8)
/-- Those below k; noughts from there on. -/
def unpackTo (ws : List Nat) (n k : Nat) : List UInt8 := (List.range n).map fun i => if i < k then byteAt (ws.getD (i / 8) 0) (i % 8) else 0

theorem length_unpackTo (ws : List Nat) (n k : Nat) : (unpackTo ws n k).length = n := by simp [unpackTo]
theorem length_unpackB (ws : List Nat) (n : Nat) : (unpackB ws n).length = n := by simp [unpackB]
theorem unpackTo_zero (ws : List Nat) (n : Nat) : unpackTo ws n 0 = List.replicate n 0 := by
  simp [unpackTo, List.map_const']
theorem unpackTo_all (ws : List Nat) (n : Nat) : unpackTo ws n n = unpackB ws n := by
  unfold unpackTo unpackB
  apply List.map_congr_left
  intro i hi
  rw [if_pos (List.mem_range.1 hi)]
theorem unpackTo_succ (ws : List Nat) (n k : Nat) : (unpackTo ws n k).set k (byteAt (ws.getD (k / 8) 0) (k % 8)) = unpackTo ws n (k + 1) := by
  apply List.ext_getElem
  · simp [unpackTo]
  · intro i h1 h2
    simp only [unpackTo, List.getElem_map, List.getElem_range, List.getElem_set]
    by_cases h : k = i
    · subst h; rw [if_pos rfl, if_pos (by omega)]
    · rw [if_neg h]
      by_cases h3 : i < k
      · rw [if_pos h3, if_pos (by omega)]
      · rw [if_neg h3, if_neg (by omega)]
theorem made_bytes (n : Nat) (ws : List Nat) : (madeCells #[Value.int .u8 0] n).toList = (unpackTo ws n 0).map bv := by
  rw [unpackTo_zero]
  simp [bv, madeCells, Nat.mod_one, List.map_const']
end Go.Grommet
end
section
/- Package octet: Pack and Unpack. -/
namespace Go.Proofs.Ytdpkpphjpihhkaa
open Go.RowKit Go.Grommet

theorem Try.info5 : (Try.prog.info? 5).map (fun i => (i.zero, i.size, i.bytes)) = some (some (.int .u8 0), 1, 1) := by kernel_rfl

set_option maxRecDepth 100000 in
set_option maxHeartbeats 400000 in
theorem byteOf_any (n i : Int) (w : World) (hn : 0 ≤ n) (h0 : 0 ≤ i) (h1 : i ≤ 7) :
    Calls Try.prog 79 #[.int .u64 n, .int .i64 i] w fun e w' => e = .returned (.int .u8 ((byteAt n.toNat i.toNat).toNat : Int)) ∧ w = w' := by
  have hb : n / 2 ^ (8 * i).toNat % 256 = ((byteAt n.toNat i.toNat).toNat : Int) := by
    obtain ⟨N, rfl⟩ := Int.eq_ofNat_of_zero_le hn
    obtain ⟨I, rfl⟩ := Int.eq_ofNat_of_zero_le h0
    exact byteAt_int N I
  have H := Lib.hid hb
  clear hb
  go_enter Try.func79, Try.ntmps79
  go_wp2
  go_ret
  exact ⟨congrArg (fun x => Ending.returned (.int .u8 x)) H.out, rfl⟩

set_option maxRecDepth 100000 in
set_option maxHeartbeats 400000 in
theorem inWord_any (c : UInt8) (i : Int) (w : World) (h0 : 0 ≤ i) (h1 : i ≤ 7) :
    Calls Try.prog 76 #[.int .u8 (c.toNat : Int), .int .i64 i] w fun e w' => e = .returned (.int .u64 ((c.toNat * 256 ^ i.toNat : Nat) : Int)) ∧ w = w' := by
  have hc : c.toNat < 256 := c.toNat_lt
  have hb : IntKind.u64.wrap ((c.toNat : Int) * 2 ^ (8 * i).toNat) = ((c.toNat * 256 ^ i.toNat : Nat) : Int) := by
    obtain ⟨I, rfl⟩ := Int.eq_ofNat_of_zero_le h0
    exact (word_int c.toNat I hc (by omega)).1
  have H := Lib.hid hb
  clear hb
  go_enter Try.func76, Try.ntmps76
  go_wp2
  go_ret
  exact ⟨congrArg (fun x => Ending.returned (.int .u64 x)) H.out, rfl⟩

theorem inWord_any' (c : UInt8) (i : Int) (w : World) (h0 : 0 ≤ i) (h1 : i ≤ 7) :
    Calls Try.prog 76 #[.int .u8 (c.toNat : Int), .int .i64 i] w fun e w' => e = .returned (.int .u64 ((c.toNat * 256 ^ i.toNat : Nat) : Int)) ∧ w' = w :=
  (inWord_any c i w h0 h1).mono fun _ _ h => ⟨h.1, h.2.symm⟩


theorem made_words (M : Nat) (bs : List UInt8) : (madeCells #[Value.int .u64 0] M).toList = (words (bs.take 0) M).map wv := by
  rw [List.take_zero, words_nil]
  simp [wv, madeCells, Nat.mod_one, List.map_const']

def WordsIs (w : World) (ws : List Nat) (e : Ending) (w' : World) : Prop :=
  e = .returned (.slice (some ⟨w.heap.size, 0, none⟩) ws.length ws.length) ∧ w'.ownsRow w.heap.size 36 1 (.slice (some ⟨w.heap.size, 0, none⟩) ws.length ws.length) ws.length (ws.map wv) ∧ w.grownBy w' none

set_option maxRecDepth 100000 in
set_option maxHeartbeats 1000000 in
theorem Pack_any (s : ByteArray) (w : World) (hs : s.size ≤ 1048576) :
    Calls Try.prog 50 #[.string s] w (WordsIs w (words (bytesOf s) ((s.size + 7) / 8))) := by
  obtain ⟨i0, hi, hz0, hz1, hz2⟩ := info_parts Try.info36
  obtain ⟨M, HM⟩ : ∃ M, Hid (M = (s.size + 7) / 8) := ⟨_, Lib.hid rfl⟩
  have hM1 : 8 * M ≤ s.size + 7 := by rw [HM.out]; omega
  have hM2 : s.size + 7 < 8 * M + 8 := by rw [HM.out]; omega
  rw [← HM.out]
  go_enter Try.func50, Try.ntmps50
  go_wp2_with (at_make; refine wpList_make_full _ rfl _ _ 27 rfl w.heap.size 36 i0 (.int .u64 0) 1 Try.underlying27 hi hz0 hz1 _ _ _ _ M rfl rfl ?m0 ?m1 ?m2 ?m3 ?m4 ?_)
  case m0 => omega
  case m1 => omega
  case m2 => rw [hz2]; omega
  case m3 => unfold maxLen; omega
  case m4 => omega
  intro w1 hown1 hg1
  have hown1' : w1.ownsRow w.heap.size 36 1 (.slice (some ⟨w.heap.size, 0, none⟩) M M) M ((words ((bytesOf s).take 0) M).map wv) := by
    rwa [made_words M (bytesOf s)] at hown1
  clear hown1
  go_wp2_with fail
  go_loopw [13] (fun i wr => ∃ k : Nat, k ≤ s.size ∧ i = .int .i64 k ∧
      wr.ownsRow w.heap.size 36 1 (.slice (some ⟨w.heap.size, 0, none⟩) M M) M ((words ((bytesOf s).take k) M).map wv) ∧ w.grownBy wr none)
    (fun i _ => s.size - (intOf i).toNat)
  case atStart => exact ⟨0, Nat.zero_le _, rfl, hown1', hg1⟩
  case round =>
    obtain ⟨k, hk, rfl, hown, hg⟩ := hrel
    clear hown1' hg1
    by_cases hlt : k < s.size
    · have hlt' : (k : Int) < (s.size : Int) := by omega
      have hj : k / 8 < M := by omega
      have hcell : wr.cell? ⟨w.heap.size, k / 8, none⟩ = some (.int .u64 ((word ((bytesOf s).take k) (k / 8) : Nat) : Int)) := by
        rw [hown.cellAt (k / 8) (by omega)]
        simp [words, wv, hj]
      have hmath := words_snoc ((bytesOf s).take k) k ((bytesOf s).getD k 0) (by rw [List.length_take, length_bytesOf]; omega) M hj
      rw [← take_snoc _ _ (by rw [length_bytesOf]; exact hlt)] at hmath
      have Ho := Lib.hid (or_word (word ((bytesOf s).take k) (k / 8)) ((bytesOf s).getD k 0).toNat (k % 8) (word_part_lt _ k (by rw [List.length_take, length_bytesOf]; omega)) (UInt8.toNat_lt _) (by omega))
      have Hm := Lib.hid hmath
      clear hmath
      have hfr := hown.frozenAt (k / 8)
      have b1 : (0 : Int) ≤ (k : Int) / 8 := by omega
      have b2 : (k : Int) / 8 < (M : Int) := by omega
      have b3 : (0 : Int) ≤ (k : Int) % 8 := by omega
      have b4 : (k : Int) % 8 ≤ 7 := by omega
      have a1 : IntKind.i64.wrap ((k : Int) / 8) = (k : Int) / 8 := IntWalk.i64_in _ ⟨by omega, by omega⟩
      have a2 : IntKind.i64.wrap ((k : Int) % 8) = (k : Int) % 8 := IntWalk.i64_in _ ⟨by omega, by omega⟩
      have a3 : ((k : Int) / 8).toNat = k / 8 := by omega
      go_wp2_with fail
      go_still_tail 12, (by kernel_rfl)
      still_call (inWord_any' _ _ _ b3 b4)
      repeat still_step
      refine wpStill_nil ?_
      go_wp2
      go_roundw
      case rel =>
        refine ⟨k + 1, by omega, by go_num, ?_, ?_⟩
        · have hst := (hown.stored (k / 8) (wv (word ((bytesOf s).take k) (k / 8) + ((bytesOf s).getD k 0).toNat * 256 ^ (k % 8)))).1
          rw [← List.map_set, ← Hm.out, wv, ← Ho.out] at hst
          have e3 : s[k] = (bytesOf s).getD k 0 := byte_getD s k hlt
          rw [Int.natCast_mul, Int.natCast_pow] at hst
          rw [e3]
          exact hst
        · exact grown_drew (grown_new hg (grown_setCell wr ⟨w.heap.size, k / 8, none⟩ _) (by intro g e; cases e; exact Nat.le_refl _))
      case measure => first | omega | (simp [intOf]; omega)
    · obtain rfl : k = s.size := by omega
      have hend : WordsIs w (words (bytesOf s) M) (.returned (.slice (some ⟨w.heap.size, 0, none⟩) M M)) wr := by
        rw [List.take_of_length_le (by rw [length_bytesOf]; exact Nat.le_refl _)] at hown
        exact ⟨by rw [length_words], by rw [length_words]; exact hown, hg⟩
      clear hown hg
      go_wp2
      go_ret
      exact hend

/-- A text and an error's number. -/
def TextErr (s : ByteArray) (c : Int) (w : World) (e : Ending) (w' : World) : Prop := e = .returned (.tuple #[.string s, .int .i64 c]) ∧ w.grownBy w' none

set_option maxRecDepth 100000 in
set_option maxHeartbeats 400000 in
theorem Unpack_neg (ad : Option Addr) (l cap : Nat) (n : Int) (w : World) (hn : n < 0) :
    Calls Try.prog 67 #[.slice ad l cap, .int .i64 n] w (TextErr ⟨#[]⟩ 1 w) := by
  go_enter Try.func67, Try.ntmps67
  go_wp2
  go_ret2
  exact ⟨rfl, World.grownBy.refl _ _⟩

set_option maxRecDepth 100000 in
set_option maxHeartbeats 400000 in
theorem Unpack_over (ad : Option Addr) (l cap : Nat) (n : Nat) (w : World) (hn : 8 * l < n) (_hn2 : n < 2 ^ 63) :
    Calls Try.prog 67 #[.slice ad l cap, .int .i64 (n : Int)] w (TextErr ⟨#[]⟩ 1 w) := by
  have h1 : ¬ (n : Int) < 0 := by omega
  have h2 : (0 : Int) < (n : Int) := by omega
  have h3 : (l : Int) ≤ ((n : Int) - 1) / 8 := by omega
  have h4 : (n : Int) ≤ 9223372036854775807 := by omega
  go_enter Try.func67, Try.ntmps67
  go_wp2
  go_ret2
  exact ⟨rfl, World.grownBy.refl _ _⟩

set_option maxRecDepth 100000 in
set_option maxHeartbeats 1000000 in
theorem Unpack_some (ad : Option Addr) (l cap : Nat) (ws : List Nat) (n : Nat) (w : World) (hl : ws.length = l) (hat : At w ad (ws.map wv)) (hn : n ≤ 8 * l) (hb : l ≤ 1048576) (h2 : (0 : Int) < (n : Int)) :
    Calls Try.prog 67 #[.slice ad l cap, .int .i64 (n : Int)] w (TextErr (str (unpackB ws n)) 0 w) := by
  obtain ⟨i0, hi, hz0, hz1, hz2⟩ := info_parts Try.info5
  have h1 : ¬ (n : Int) < 0 := by omega
  have h4 : ¬ (l : Int) ≤ ((n : Int) - 1) / 8 := by omega
  go_enter Try.func67, Try.ntmps67
  go_wp2_with (at_make; refine wpList_make_full _ rfl _ _ 68 rfl w.heap.size 5 i0 (.int .u8 0) 1 Try.underlying68 hi hz0 hz1 _ _ _ _ n rfl rfl ?m0 ?m1 ?m2 ?m3 ?m4 ?_)
  case m0 => rfl
  case m1 => rfl
  case m2 => omega
  case m3 => unfold maxLen; omega
  intro w1 hown1 hg1
  have hown1' : w1.ownsRow w.heap.size 5 1 (.slice (some ⟨w.heap.size, 0, none⟩) n n) n ((unpackTo ws n 0).map bv) := by
    rwa [made_bytes n ws] at hown1
  have Hat := Lib.hid hat
  have Hl := Lib.hid hl
  clear hown1 hat hl
  go_wp2_with fail
  go_loopw [26] (fun i wr => ∃ k : Nat, k ≤ n ∧ i = .int .i64 k ∧
      wr.ownsRow w.heap.size 5 1 (.slice (some ⟨w.heap.size, 0, none⟩) n n) n ((unpackTo ws n k).map bv) ∧ w.grownBy wr none)
    (fun i _ => n - (intOf i).toNat)
  case atStart => exact ⟨0, Nat.zero_le _, rfl, hown1', hg1⟩
  case round =>
    obtain ⟨k, hk, rfl, hown, hg⟩ := hrel
    clear hown1' hg1
    by_cases hlt : k < n
    · have hlt' : (k : Int) < (n : Int) := by omega
      have hj : k / 8 < l := by omega
      have hfr := hown.frozenAt k
      obtain ⟨V, hV⟩ : ∃ V, V = ws.getD (k / 8) 0 := ⟨_, rfl⟩
      have hws : (ws.map wv)[k / 8]? = some (wv V) := by
        have hj' : k / 8 < ws.length := by rw [Hl.out]; exact hj
        rw [List.getElem?_map, List.getElem?_eq_getElem hj', hV, List.getD_eq_getElem?_getD, List.getElem?_eq_getElem hj']
        rfl
      obtain ⟨q, o, rfl, hcell⟩ := (Hat.out.grown hg (by simp)) (k / 8) (wv V) hws
      have hcell' : wr.cell? ⟨q, o + k / 8, none⟩ = some (.int .u64 (V : Int)) := hcell
      obtain ⟨vold, hold⟩ : ∃ v, wr.cell? ⟨w.heap.size, k, none⟩ = some v := by
        rw [hown.cellAt k (by omega)]
        exact ⟨_, List.getElem?_eq_getElem (by rw [List.length_map, length_unpackTo]; exact hlt)⟩
      have b1 : (0 : Int) ≤ (k : Int) / 8 := by omega
      have b2 : (k : Int) / 8 < (l : Int) := by omega
      have b3 : (0 : Int) ≤ (k : Int) % 8 := by omega
      have b4 : (k : Int) % 8 ≤ 7 := by omega
      have Hb := Lib.hid (byteOf_any (V : Int) ((k : Int) % 8) wr (by omega) b3 b4)
      have HV := Lib.hid hV
      clear hcell hws hV
      go_wp2_with fail
      refine Hb.out.mono ?_
      rintro e w3 ⟨rfl, rfl⟩
      go_wp2
      go_roundw
      case rel =>
        refine ⟨k + 1, by omega, by go_num, ?_, ?_⟩
        · have hst := (hown.stored k (bv (byteAt V (k % 8)))).1
          rw [← List.map_set, HV.out, unpackTo_succ, ← HV.out] at hst
          exact hst
        · exact grown_new hg (grown_setCell wr ⟨w.heap.size, k, none⟩ _) (by intro g e; cases e; exact Nat.le_refl _)
      case measure => simp [intOf]; omega
    · obtain rfl : k = n := by omega
      have hcv := conv_at (P := Try.prog) (w := wr) 68 9 5 Try.underlying68 Try.underlying5 Try.underlying9 (ad := some ⟨w.heap.size, 0, none⟩) (cap := k) (l := k) (bs := unpackB ws k)
        (by rw [unpackTo_all] at hown; obtain ⟨a, c, he, ha, _⟩ := at_of_owns hown; cases he; exact ha) (length_unpackB ws k) (by simp)
      clear hown
      go_wp2
      go_ret2
      exact ⟨rfl, hg⟩

set_option maxRecDepth 100000 in
set_option maxHeartbeats 1000000 in
theorem Unpack_none (ad : Option Addr) (l cap : Nat) (ws : List Nat) (n : Nat) (w : World) (hl : ws.length = l) (hat : At w ad (ws.map wv)) (hn : n ≤ 8 * l) (hb : l ≤ 1048576) (h2 : ¬ (0 : Int) < (n : Int)) :
    Calls Try.prog 67 #[.slice ad l cap, .int .i64 (n : Int)] w (TextErr (str (unpackB ws n)) 0 w) := by
  obtain ⟨i0, hi, hz0, hz1, hz2⟩ := info_parts Try.info5
  have h1 : ¬ (n : Int) < 0 := by omega
  have h4 : ¬ (l : Int) ≤ ((n : Int) - 1) / 8 := by omega
  go_enter Try.func67, Try.ntmps67
  go_wp2_with (at_make; refine wpList_make_full _ rfl _ _ 68 rfl w.heap.size 5 i0 (.int .u8 0) 1 Try.underlying68 hi hz0 hz1 _ _ _ _ n rfl rfl ?m0 ?m1 ?m2 ?m3 ?m4 ?_)
  case m0 => rfl
  case m1 => rfl
  case m2 => omega
  case m3 => unfold maxLen; omega
  intro w1 hown1 hg1
  have hown1' : w1.ownsRow w.heap.size 5 1 (.slice (some ⟨w.heap.size, 0, none⟩) n n) n ((unpackTo ws n 0).map bv) := by
    rwa [made_bytes n ws] at hown1
  have Hat := Lib.hid hat
  have Hl := Lib.hid hl
  clear hown1 hat hl
  go_wp2_with fail
  go_loopw [26] (fun i wr => ∃ k : Nat, k ≤ n ∧ i = .int .i64 k ∧
      wr.ownsRow w.heap.size 5 1 (.slice (some ⟨w.heap.size, 0, none⟩) n n) n ((unpackTo ws n k).map bv) ∧ w.grownBy wr none)
    (fun i _ => n - (intOf i).toNat)
  case atStart => exact ⟨0, Nat.zero_le _, rfl, hown1', hg1⟩
  case round =>
    obtain ⟨k, hk, rfl, hown, hg⟩ := hrel
    clear hown1' hg1
    by_cases hlt : k < n
    · exact absurd hlt (by omega)
    · obtain rfl : k = n := by omega
      have hcv := conv_at (P := Try.prog) (w := wr) 68 9 5 Try.underlying68 Try.underlying5 Try.underlying9 (ad := some ⟨w.heap.size, 0, none⟩) (cap := k) (l := k) (bs := unpackB ws k)
        (by rw [unpackTo_all] at hown; obtain ⟨a, c, he, ha, _⟩ := at_of_owns hown; cases he; exact ha) (length_unpackB ws k) (by simp)
      clear hown
      go_wp2
      go_ret2
      exact ⟨rfl, hg⟩

/-- Unpack, whatever the words and the number. -/
def unpackR (ws : List Nat) (n : Int) : List UInt8 × Int := if n < 0 ∨ 8 * (ws.length : Int) < n then ([], 1) else (unpackB ws n.toNat, 0)

theorem Unpack_any (ad : Option Addr) (l cap : Nat) (ws : List Nat) (n : Int) (w : World) (hl : ws.length = l) (hat : At w ad (ws.map wv)) (hn : n < 9223372036854775808) (hb : l ≤ 1048576) :
    Calls Try.prog 67 #[.slice ad l cap, .int .i64 n] w (TextErr (str (unpackR ws n).1) (unpackR ws n).2 w) := by
  by_cases h : n < 0
  · have e : unpackR ws n = ([], 1) := if_pos (Or.inl h)
    rw [e]
    exact Unpack_neg ad l cap n w h
  · obtain ⟨m, rfl⟩ := Int.eq_ofNat_of_zero_le (show 0 ≤ n by omega)
    by_cases h2 : 8 * l < m
    · have e : unpackR ws m = ([], 1) := if_pos (Or.inr (by omega))
      rw [e]
      exact Unpack_over ad l cap m w h2 (by omega)
    · have e : unpackR ws m = (unpackB ws m, 0) := if_neg (by intro h; rcases h with h | h <;> omega)
      rw [e]
      by_cases h3 : (0 : Int) < (m : Int)
      · exact Unpack_some ad l cap ws m w hl hat (by omega) hb h3
      · exact Unpack_none ad l cap ws m w hl hat (by omega) hb h3
end Go.Proofs.Ytdpkpphjpihhkaa
end
section
/- Plain facts on a number's bytes: as few as may be. -/
namespace Go.Grommet
open Go

theorem nb_mono (n m : Nat) (hn : n < 2 ^ 64) (hm : m < 2 ^ 64) (h : m ≤ n) : nb m ≤ nb n := by
  by_cases h0 : m = 0
  · rw [(nb_zero m hm).2 h0]; omega
  · have a := nb_ge m hm h0
    have b := nb_lt n hn
    have c : 256 ^ (nb m - 1) < 256 ^ nb n := by omega
    have := (Nat.pow_lt_pow_iff_right (by decide : 1 < 256)).1 c
    omega

theorem last_byte (n : Nat) (hn : n < 2 ^ 64) (k : Nat) (hk : nb n = k + 1) : (byteAt n k).toNat ≠ 0 := by
  have h0 : n ≠ 0 := by intro e; rw [(nb_zero n hn).2 e] at hk; omega
  have a := nb_ge n hn h0
  have b := nb_lt n hn
  rw [hk] at a b
  rw [Nat.add_sub_cancel] at a
  rw [byteAt_toNat]
  have hp : 0 < 256 ^ k := Nat.pow_pos (by decide)
  have c : 1 ≤ n / 256 ^ k := (Nat.le_div_iff_mul_le hp).2 (by omega)
  have d : n / 256 ^ k < 256 := Nat.div_lt_of_lt_mul (by rw [← Nat.pow_succ]; exact b)
  rw [Nat.mod_eq_of_lt d]; omega

theorem div_step (n i : Nat) : n / 256 ^ (i + 1) * 256 + (byteAt n i).toNat = n / 256 ^ i := by
  rw [byteAt_toNat, Nat.pow_succ, ← Nat.div_div_eq_div_mul]
  omega

theorem div_top (n : Nat) (hn : n < 2 ^ 64) : n / 256 ^ nb n = 0 := Nat.div_eq_of_lt (nb_lt n hn)
end Go.Grommet
end
section
/- A text's words hold its bytes. -/
namespace Go.Grommet
open Go

theorem val_div (l : List UInt8) (i : Nat) : val l / 256 ^ i = val (l.drop i) := by
  induction i generalizing l with
  | zero => simp
  | succ i ih =>
    cases l with
    | nil => simp [val]
    | cons c t =>
      have hc := c.toNat_lt
      rw [List.drop_succ_cons, ← ih t, Nat.pow_succ, Nat.mul_comm, ← Nat.div_div_eq_div_mul]
      congr 1
      simp only [val]
      omega

theorem byteAt_val (l : List UInt8) (i : Nat) : byteAt (val l) i = l.getD i 0 := by
  apply UInt8.toNat_inj.1
  rw [byteAt_toNat, val_div]
  by_cases h : i < l.length
  · rw [List.drop_eq_getElem_cons h]
    have := (l[i]).toNat_lt
    simp only [val, List.getD_eq_getElem?_getD, List.getElem?_eq_getElem h, Option.getD_some]
    omega
  · rw [List.drop_eq_nil_of_le (by omega), List.getD_eq_getElem?_getD, List.getElem?_eq_none (by omega)]
    simp [val]

theorem byteAt_word (bs : List UInt8) (j r : Nat) (hr : r < 8) : byteAt (word bs j) r = bs.getD (8 * j + r) 0 := by
  unfold word
  rw [byteAt_val, List.getD_eq_getElem?_getD, List.getElem?_take, if_pos hr, List.getElem?_drop, ← List.getD_eq_getElem?_getD]

/-- Bytes, and noughts behind them. -/
def padTo (bs : List UInt8) (n : Nat) : List UInt8 := (List.range n).map fun i => bs.getD i 0

theorem length_padTo (bs : List UInt8) (n : Nat) : (padTo bs n).length = n := by simp [padTo]

theorem unpack_words (bs : List UInt8) (m n : Nat) (h : n ≤ 8 * m) : unpackB (words bs m) n = padTo bs n := by
  unfold unpackB padTo
  apply List.map_congr_left
  intro i hi
  have hi := List.mem_range.1 hi
  have hj : i / 8 < m := by omega
  have e : (words bs m).getD (i / 8) 0 = word bs (i / 8) := by
    rw [List.getD_eq_getElem?_getD]
    simp [words, hj]
  rw [e, byteAt_word bs _ _ (Nat.mod_lt _ (by decide)), Nat.div_add_mod]

theorem pad_le (bs : List UInt8) (n : Nat) (h : n ≤ bs.length) : padTo bs n = bs.take n := by
  apply List.ext_getElem
  · simp [padTo, h]
  · intro i h1 h2
    have hb : i < bs.length := by rw [length_padTo] at h1; omega
    simp [padTo, hb]

theorem pad_take (bs : List UInt8) (n : Nat) (h : bs.length ≤ n) : (padTo bs n).take bs.length = bs := by
  apply List.ext_getElem
  · simp [padTo, h]
  · intro i h1 h2
    simp [padTo, h2]

theorem pad_zero (bs : List UInt8) (n i : Nat) (h : bs.length ≤ i) (hn : i < n) : (padTo bs n)[i]'(by rw [length_padTo]; exact hn) = 0 := by
  simp [padTo, h]

theorem words_take (bs : List UInt8) (m j : Nat) (hj : j ≤ m) : words (bs.take (8 * j)) j = (words bs m).take j := by
  apply List.ext_getElem
  · simp [words, hj]
  · intro i h1 h2
    have hi : i < j := by rw [length_words] at h1; exact h1
    simp only [words, List.getElem_take, List.getElem_map, List.getElem_range]
    unfold word
    rw [List.drop_take, List.take_take, Nat.min_eq_left (by omega)]
end Go.Grommet
end
