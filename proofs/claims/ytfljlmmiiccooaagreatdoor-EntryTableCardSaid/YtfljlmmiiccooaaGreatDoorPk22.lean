import Derived.Lib.BitFns
import Derived.BigQuiet
import Derived.Deep.QuietTactic
import Derived.StillTailTactics
import Derived.Test.YtfljlmmiiccooaaGreatDoorPk8
import Derived.Test.YtfljlmmiiccooaaGreatDoorPk17
set_option maxRecDepth 100000
set_option maxHeartbeats 1000000
section
section
namespace Go.Grommet
open Go
def nb (n : Nat) : Nat := (Lib.bitLen n + 7) / 8
def byteAt (n i : Nat) : UInt8 := UInt8.ofNat (n / 256 ^ i % 256)
def les (n k : Nat) : List UInt8 := (List.range k).map (byteAt n)
def num (n : Nat) : List UInt8 := UInt8.ofNat (nb n) :: les n (nb n)
def val : List UInt8 → Nat
 | [] => 0
 | c :: t => c.toNat + 256 * val t
theorem byteAt_toNat (n i : Nat) : (byteAt n i).toNat = n / 256 ^ i % 256 := by simp [byteAt, UInt8.toNat_ofNat']
theorem pow256 (k : Nat) : 256 ^ k = 2 ^ (8 * k) := by rw [Nat.pow_mul]
theorem val_append (a b : List UInt8) : val (a ++ b) = val a + 256 ^ a.length * val b := by
 induction a with
 | nil => simp [val]
 | cons c t ih => simp only [List.cons_append, val, ih, List.length_cons, Nat.pow_succ, Nat.mul_add]; rw [Nat.mul_comm (256 ^ t.length) 256, Nat.mul_assoc]; omega
theorem val_lt (l : List UInt8) : val l < 256 ^ l.length := by
 induction l with
 | nil => simp [val]
 | cons c t ih =>
  have := c.toNat_lt
  simp only [val, List.length_cons, Nat.pow_succ]
  have : 256 * (val t + 1) ≤ 256 * 256 ^ t.length := Nat.mul_le_mul_left _ ih
  omega
theorem byteAt_int (n i : Nat) : (n : Int) / 2 ^ (8 * (i : Int)).toNat % 256 = ((byteAt n i).toNat : Int) := by
 have e : (8 * (i : Int)).toNat = 8 * i := by omega
 rw [e, byteAt_toNat, pow256, Int.natCast_emod, Int.natCast_ediv, Int.natCast_pow]
 rfl
theorem word_int (c i : Nat) (hc : c < 256) (hi : i ≤ 7) : IntKind.u64.wrap ((c : Int) * 2 ^ (8 * (i : Int)).toNat) = ((c * 256 ^ i : Nat) : Int) ∧ c * 256 ^ i < 256 ^ (i + 1) := by
 have e : (8 * (i : Int)).toNat = 8 * i := by omega
 have h1 : c * 256 ^ i < 256 ^ (i + 1) := by
  rw [Nat.pow_succ, Nat.mul_comm]
  exact Nat.mul_lt_mul_of_pos_left hc (Nat.pow_pos (by decide))
 have h2 : 256 ^ (i + 1) ≤ 256 ^ 8 := Nat.pow_le_pow_right (by decide) (by omega)
 refine ⟨?_, h1⟩
 have e2 : ((c : Int) * 2 ^ (8 * (i : Int)).toNat) = ((c * 256 ^ i : Nat) : Int) := by
  rw [e, pow256, Int.natCast_mul, Int.natCast_pow]; rfl
 rw [e2]
 have h3 : (256 : Nat) ^ 8 = 18446744073709551616 := by decide
 rw [h3] at h2
 exact IntWalk.u64_in _ ⟨by omega, by omega⟩
theorem or_word (x c i : Nat) (hx : x < 256 ^ i) (hc : c < 256) (hi : i ≤ 7) : bits .or .u64 (x : Int) ((c * 256 ^ i : Nat) : Int) = ((x + c * 256 ^ i : Nat) : Int) := by
 have hw := (word_int c i hc hi).2
 have h2 : 256 ^ (i + 1) ≤ 256 ^ 8 := Nat.pow_le_pow_right (by decide) (by omega)
 have h3 : 256 ^ i ≤ 256 ^ 8 := Nat.pow_le_pow_right (by decide) (by omega)
 have h4 : (256 : Nat) ^ 8 = 2 ^ 64 := by decide
 rw [h4] at h2 h3
 rw [(bits_nat .u64 64 (by decide) (fun n h0 h1 => IntWalk.u64_in n ⟨h0, by omega⟩) x (c * 256 ^ i) (by omega) (by omega)).2]
 rw [pow256] at hx ⊢
 rw [Nat.or_comm, Nat.mul_comm c, ← Nat.two_pow_add_eq_or_of_lt hx, Nat.add_comm]
end Go.Grommet
end
section
namespace Go.Grommet
open Go
def word (bs : List UInt8) (j : Nat) : Nat := val ((bs.drop (8 * j)).take 8)
def words (bs : List UInt8) (m : Nat) : List Nat := (List.range m).map (word bs)
theorem word_lt (bs : List UInt8) (j : Nat) : word bs j < 2 ^ 64 := by
 have h := val_lt ((bs.drop (8 * j)).take 8)
 have h5 : ((bs.drop (8 * j)).take 8).length ≤ 8 := by simp; omega
 have h6 : 256 ^ ((bs.drop (8 * j)).take 8).length ≤ 256 ^ 8 := Nat.pow_le_pow_right (by decide) h5
 have h4 : (256 : Nat) ^ 8 = 2 ^ 64 := by decide
 unfold word; omega
theorem word_nil (j : Nat) : word [] j = 0 := by simp [word, val]
theorem length_words (bs : List UInt8) (m : Nat) : (words bs m).length = m := by simp [words]
theorem words_nil (m : Nat) : words [] m = List.replicate m 0 := by
 apply List.ext_getElem
 ·simp [words]
 ·intro i h1 h2
  simp [words, word_nil]
theorem word_snoc (bs : List UInt8) (k : Nat) (c : UInt8) (hk : k = bs.length) (j : Nat) :
  word (bs ++ [c]) j = if j = k / 8 then word bs j + c.toNat * 256 ^ (k % 8) else word bs j := by
 subst hk
 unfold word
 by_cases h : j = bs.length / 8
 ·subst h
  rw [if_pos rfl, List.drop_append_of_le_length (by omega), List.take_of_length_le (by simp; omega), List.take_of_length_le (by simp; omega), val_append]
  simp only [val, List.length_drop]
  rw [show bs.length - 8 * (bs.length / 8) = bs.length % 8 from by omega, Nat.mul_comm c.toNat]
  simp
 ·rw [if_neg h]
  by_cases h2 : bs.length < 8 * j
  ·have e1 : (bs ++ [c]).drop (8 * j) = [] := List.drop_eq_nil_of_le (by simp; omega)
   have e2 : bs.drop (8 * j) = [] := List.drop_eq_nil_of_le (by omega)
   rw [e1, e2]
  ·by_cases h3 : bs.length = 8 * j
   ·omega
   ·rw [List.drop_append_of_le_length (by omega), List.take_append_of_le_length (by simp; omega)]
theorem word_part_lt (bs : List UInt8) (k : Nat) (hk : k = bs.length) : word bs (k / 8) < 256 ^ (k % 8) := by
 subst hk
 unfold word
 have h := val_lt ((bs.drop (8 * (bs.length / 8))).take 8)
 have e : ((bs.drop (8 * (bs.length / 8))).take 8).length = bs.length % 8 := by simp; omega
 rwa [e] at h
theorem words_snoc (bs : List UInt8) (k : Nat) (c : UInt8) (hk : k = bs.length) (m : Nat) (_hm : k / 8 < m) :
  words (bs ++ [c]) m = (words bs m).set (k / 8) (word bs (k / 8) + c.toNat * 256 ^ (k % 8)) := by
 apply List.ext_getElem
 ·simp [words]
 ·intro i h1 h2
  simp only [words, List.getElem_map, List.getElem_range, List.getElem_set]
  rw [word_snoc bs k c hk]
  by_cases h : k / 8 = i
  ·rw [if_pos h.symm, if_pos h, h]
  ·rw [if_neg (fun e => h e.symm), if_neg h]
theorem take_snoc (bs : List UInt8) (k : Nat) (h : k < bs.length) : bs.take (k + 1) = bs.take k ++ [bs.getD k 0] := by
 rw [List.take_succ_eq_append_getElem h]
 simp [List.getD, h]
end Go.Grommet
end
section
namespace Go.Grommet
open Go
def unpackB (ws : List Nat) (n : Nat) : List UInt8 := (List.range n).map fun i => byteAt (ws.getD (i / 8) 0) (i % 8)
def unpackTo (ws : List Nat) (n k : Nat) : List UInt8 := (List.range n).map fun i => if i < k then byteAt (ws.getD (i / 8) 0) (i % 8) else 0
theorem length_unpackTo (ws : List Nat) (n k : Nat) : (unpackTo ws n k).length = n := by simp [unpackTo]
theorem length_unpackB (ws : List Nat) (n : Nat) : (unpackB ws n).length = n := by simp [unpackB]
theorem unpackTo_zero (ws : List Nat) (n : Nat) : unpackTo ws n 0 = List.replicate n 0 := by
 simp [unpackTo, List.map_const']
theorem unpackTo_all (ws : List Nat) (n : Nat) : unpackTo ws n n = unpackB ws n := by
 unfold unpackTo unpackB
 apply List.map_congr_left
 intro i hi
 rw [if_pos (List.mem_range.1 hi)]
theorem unpackTo_succ (ws : List Nat) (n k : Nat) : (unpackTo ws n k).set k (byteAt (ws.getD (k / 8) 0) (k % 8)) = unpackTo ws n (k + 1) := by
 apply List.ext_getElem
 ·simp [unpackTo]
 ·intro i h1 h2
  simp only [unpackTo, List.getElem_map, List.getElem_range, List.getElem_set]
  by_cases h : k = i
  ·subst h; rw [if_pos rfl, if_pos (by omega)]
  ·rw [if_neg h]
   by_cases h3 : i < k
   ·rw [if_pos h3, if_pos (by omega)]
   ·rw [if_neg h3, if_neg (by omega)]
theorem made_bytes (n : Nat) (ws : List Nat) : (madeCells #[Value.int .u8 0] n).toList = (unpackTo ws n 0).map bv := by
 rw [unpackTo_zero]
 simp [bv, madeCells, Nat.mod_one, List.map_const']
end Go.Grommet
end
section
namespace Go.Proofs.YtfljlmmiiccooaaGreatDoor
open Go.RowKit Go.Grommet
theorem Tryz.info5 : (Tryz.prog.info? 5).map (fun i => (i.zero, i.size, i.bytes)) = some (some (.int .u8 0), 1, 1) := by kernel_rfl
theorem byteOf_any (n i : Int) (w : World) (hn : 0 ≤ n) (h0 : 0 ≤ i) (h1 : i ≤ 7) :
  Calls Tryz.prog 124 #[.int .u64 n, .int .i64 i] w fun e w' => e = .returned (.int .u8 ((byteAt n.toNat i.toNat).toNat : Int)) ∧ w = w' := by
 have hb : n / 2 ^ (8 * i).toNat % 256 = ((byteAt n.toNat i.toNat).toNat : Int) := by
  obtain ⟨N, rfl⟩ := Int.eq_ofNat_of_zero_le hn
  obtain ⟨I, rfl⟩ := Int.eq_ofNat_of_zero_le h0
  exact byteAt_int N I
 have H := Lib.hid hb
 clear hb
 go_enter Tryz.func124, Tryz.ntmps124
 go_wp2
 go_ret
 exact ⟨congrArg (fun x => Ending.returned (.int .u8 x)) H.out, rfl⟩
theorem inWord_any (c : UInt8) (i : Int) (w : World) (h0 : 0 ≤ i) (h1 : i ≤ 7) :
  Calls Tryz.prog 72 #[.int .u8 (c.toNat : Int), .int .i64 i] w fun e w' => e = .returned (.int .u64 ((c.toNat * 256 ^ i.toNat : Nat) : Int)) ∧ w = w' := by
 have hc : c.toNat < 256 := c.toNat_lt
 have hb : IntKind.u64.wrap ((c.toNat : Int) * 2 ^ (8 * i).toNat) = ((c.toNat * 256 ^ i.toNat : Nat) : Int) := by
  obtain ⟨I, rfl⟩ := Int.eq_ofNat_of_zero_le h0
  exact (word_int c.toNat I hc (by omega)).1
 have H := Lib.hid hb
 clear hb
 go_enter Tryz.func72, Tryz.ntmps72
 go_wp2
 go_ret
 exact ⟨congrArg (fun x => Ending.returned (.int .u64 x)) H.out, rfl⟩
theorem inWord_any' (c : UInt8) (i : Int) (w : World) (h0 : 0 ≤ i) (h1 : i ≤ 7) :
  Calls Tryz.prog 72 #[.int .u8 (c.toNat : Int), .int .i64 i] w fun e w' => e = .returned (.int .u64 ((c.toNat * 256 ^ i.toNat : Nat) : Int)) ∧ w' = w :=
 (inWord_any c i w h0 h1).mono fun _ _ h => ⟨h.1, h.2.symm⟩
theorem made_words (M : Nat) (bs : List UInt8) : (madeCells #[Value.int .u64 0] M).toList = (words (bs.take 0) M).map wv := by
 rw [List.take_zero, words_nil]
 simp [wv, madeCells, Nat.mod_one, List.map_const']
def WordsIs (w : World) (ws : List Nat) (e : Ending) (w' : World) : Prop :=
 e = .returned (.slice (some ⟨w.heap.size, 0, none⟩) ws.length ws.length) ∧ w'.ownsRow w.heap.size 72 1 (.slice (some ⟨w.heap.size, 0, none⟩) ws.length ws.length) ws.length (ws.map wv) ∧ w.grownBy w' none
theorem Pack_any (s : ByteArray) (w : World) (hs : s.size ≤ 1048576) :
  Calls Tryz.prog 35 #[.string s] w (WordsIs w (words (bytesOf s) ((s.size + 7) / 8))) := by
 obtain ⟨i0, hi, hz0, hz1, hz2⟩ := info_parts Tryz.info72
 obtain ⟨M, HM⟩ : ∃ M, Hid (M = (s.size + 7) / 8) := ⟨_, Lib.hid rfl⟩
 have hM1 : 8 * M ≤ s.size + 7 := by rw [HM.out]; omega
 have hM2 : s.size + 7 < 8 * M + 8 := by rw [HM.out]; omega
 rw [← HM.out]
 go_enter Tryz.func35, Tryz.ntmps35
 go_wp2_with (at_make; refine wpList_make_full _ rfl _ _ 30 rfl w.heap.size 72 i0 (.int .u64 0) 1 Tryz.underlying30 hi hz0 hz1 _ _ _ _ M rfl rfl ?m0 ?m1 ?m2 ?m3 ?m4 ?_)
 case m0 => omega
 case m1 => omega
 case m2 => rw [hz2]; omega
 case m3 => unfold maxLen; omega
 case m4 => omega
 intro w1 hown1 hg1
 have hown1' : w1.ownsRow w.heap.size 72 1 (.slice (some ⟨w.heap.size, 0, none⟩) M M) M ((words ((bytesOf s).take 0) M).map wv) := by
  rwa [made_words M (bytesOf s)] at hown1
 clear hown1
 go_wp2_with fail
 go_loopw [13] (fun i wr => ∃ k : Nat, k ≤ s.size ∧ i = .int .i64 k ∧
   wr.ownsRow w.heap.size 72 1 (.slice (some ⟨w.heap.size, 0, none⟩) M M) M ((words ((bytesOf s).take k) M).map wv) ∧ w.grownBy wr none)
  (fun i _ => s.size - (intOf i).toNat)
 case atStart => exact ⟨0, Nat.zero_le _, rfl, hown1', hg1⟩
 case round =>
  obtain ⟨k, hk, rfl, hown, hg⟩ := hrel
  clear hown1' hg1
  by_cases hlt : k < s.size
  ·have hlt' : (k : Int) < (s.size : Int) := by omega
   have hj : k / 8 < M := by omega
   have hcell : wr.cell? ⟨w.heap.size, k / 8, none⟩ = some (.int .u64 ((word ((bytesOf s).take k) (k / 8) : Nat) : Int)) := by
    rw [hown.cellAt (k / 8) (by omega)]
    simp [words, wv, hj]
   have hmath := words_snoc ((bytesOf s).take k) k ((bytesOf s).getD k 0) (by rw [List.length_take, length_bytesOf]; omega) M hj
   rw [← take_snoc _ _ (by rw [length_bytesOf]; exact hlt)] at hmath
   have Ho := Lib.hid (or_word (word ((bytesOf s).take k) (k / 8)) ((bytesOf s).getD k 0).toNat (k % 8) (word_part_lt _ k (by rw [List.length_take, length_bytesOf]; omega)) (UInt8.toNat_lt _) (by omega))
   have Hm := Lib.hid hmath
   clear hmath
   have hfr := hown.frozenAt (k / 8)
   have b1 : (0 : Int) ≤ (k : Int) / 8 := by omega
   have b2 : (k : Int) / 8 < (M : Int) := by omega
   have b3 : (0 : Int) ≤ (k : Int) % 8 := by omega
   have b4 : (k : Int) % 8 ≤ 7 := by omega
   have a1 : IntKind.i64.wrap ((k : Int) / 8) = (k : Int) / 8 := IntWalk.i64_in _ ⟨by omega, by omega⟩
   have a2 : IntKind.i64.wrap ((k : Int) % 8) = (k : Int) % 8 := IntWalk.i64_in _ ⟨by omega, by omega⟩
   have a3 : ((k : Int) / 8).toNat = k / 8 := by omega
   go_wp2_with fail
   go_still_tail 12, (by kernel_rfl)
   still_call (inWord_any' _ _ _ b3 b4)
   repeat still_step
   refine wpStill_nil ?_
   go_wp2
   go_roundw
   case rel =>
    refine ⟨k + 1, by omega, by go_num, ?_, ?_⟩
    ·have hst := (hown.stored (k / 8) (wv (word ((bytesOf s).take k) (k / 8) + ((bytesOf s).getD k 0).toNat * 256 ^ (k % 8)))).1
     rw [← List.map_set, ← Hm.out, wv, ← Ho.out] at hst
     have e3 : s[k] = (bytesOf s).getD k 0 := byte_getD s k hlt
     rw [Int.natCast_mul, Int.natCast_pow] at hst
     rw [e3]
     exact hst
    ·exact grown_drew (grown_new hg (grown_setCell wr ⟨w.heap.size, k / 8, none⟩ _) (by intro g e; cases e; exact Nat.le_refl _))
   case measure => first | omega | (simp [intOf]; omega)
  ·obtain rfl : k = s.size := by omega
   have hend : WordsIs w (words (bytesOf s) M) (.returned (.slice (some ⟨w.heap.size, 0, none⟩) M M)) wr := by
    rw [List.take_of_length_le (by rw [length_bytesOf]; exact Nat.le_refl _)] at hown
    exact ⟨by rw [length_words], by rw [length_words]; exact hown, hg⟩
   clear hown hg
   go_wp2
   go_ret
   exact hend
def TextErr (s : ByteArray) (c : Int) (w : World) (e : Ending) (w' : World) : Prop := e = .returned (.tuple #[.string s, .int .i64 c]) ∧ w.grownBy w' none
theorem Unpack_neg (ad : Option Addr) (l cap : Nat) (n : Int) (w : World) (hn : n < 0) :
  Calls Tryz.prog 98 #[.slice ad l cap, .int .i64 n] w (TextErr ⟨#[]⟩ 1 w) := by
 go_enter Tryz.func98, Tryz.ntmps98
 go_wp2
 go_ret2
 exact ⟨rfl, World.grownBy.refl _ _⟩
theorem Unpack_over (ad : Option Addr) (l cap : Nat) (n : Nat) (w : World) (hn : 8 * l < n) (_hn2 : n < 2 ^ 63) :
  Calls Tryz.prog 98 #[.slice ad l cap, .int .i64 (n : Int)] w (TextErr ⟨#[]⟩ 1 w) := by
 have h1 : ¬ (n : Int) < 0 := by omega
 have h2 : (0 : Int) < (n : Int) := by omega
 have h3 : (l : Int) ≤ ((n : Int) - 1) / 8 := by omega
 have h4 : (n : Int) ≤ 9223372036854775807 := by omega
 go_enter Tryz.func98, Tryz.ntmps98
 go_wp2
 go_ret2
 exact ⟨rfl, World.grownBy.refl _ _⟩
theorem Unpack_some (ad : Option Addr) (l cap : Nat) (ws : List Nat) (n : Nat) (w : World) (hl : ws.length = l) (hat : At w ad (ws.map wv)) (hn : n ≤ 8 * l) (hb : l ≤ 1048576) (h2 : (0 : Int) < (n : Int)) :
  Calls Tryz.prog 98 #[.slice ad l cap, .int .i64 (n : Int)] w (TextErr (str (unpackB ws n)) 0 w) := by
 obtain ⟨i0, hi, hz0, hz1, hz2⟩ := info_parts Tryz.info5
 have h1 : ¬ (n : Int) < 0 := by omega
 have h4 : ¬ (l : Int) ≤ ((n : Int) - 1) / 8 := by omega
 go_enter Tryz.func98, Tryz.ntmps98
 go_wp2_with (at_make; refine wpList_make_full _ rfl _ _ 174 rfl w.heap.size 5 i0 (.int .u8 0) 1 Tryz.underlying174 hi hz0 hz1 _ _ _ _ n rfl rfl ?m0 ?m1 ?m2 ?m3 ?m4 ?_)
 case m0 => rfl
 case m1 => rfl
 case m2 => omega
 case m3 => unfold maxLen; omega
 intro w1 hown1 hg1
 have hown1' : w1.ownsRow w.heap.size 5 1 (.slice (some ⟨w.heap.size, 0, none⟩) n n) n ((unpackTo ws n 0).map bv) := by
  rwa [made_bytes n ws] at hown1
 have Hat := Lib.hid hat
 have Hl := Lib.hid hl
 clear hown1 hat hl
 go_wp2_with fail
 go_loopw [26] (fun i wr => ∃ k : Nat, k ≤ n ∧ i = .int .i64 k ∧
   wr.ownsRow w.heap.size 5 1 (.slice (some ⟨w.heap.size, 0, none⟩) n n) n ((unpackTo ws n k).map bv) ∧ w.grownBy wr none)
  (fun i _ => n - (intOf i).toNat)
 case atStart => exact ⟨0, Nat.zero_le _, rfl, hown1', hg1⟩
 case round =>
  obtain ⟨k, hk, rfl, hown, hg⟩ := hrel
  clear hown1' hg1
  by_cases hlt : k < n
  ·have hlt' : (k : Int) < (n : Int) := by omega
   have hj : k / 8 < l := by omega
   have hfr := hown.frozenAt k
   obtain ⟨V, hV⟩ : ∃ V, V = ws.getD (k / 8) 0 := ⟨_, rfl⟩
   have hws : (ws.map wv)[k / 8]? = some (wv V) := by
    have hj' : k / 8 < ws.length := by rw [Hl.out]; exact hj
    rw [List.getElem?_map, List.getElem?_eq_getElem hj', hV, List.getD_eq_getElem?_getD, List.getElem?_eq_getElem hj']
    rfl
   obtain ⟨q, o, rfl, hcell⟩ := (Hat.out.grown hg (by simp)) (k / 8) (wv V) hws
   have hcell' : wr.cell? ⟨q, o + k / 8, none⟩ = some (.int .u64 (V : Int)) := hcell
   obtain ⟨vold, hold⟩ : ∃ v, wr.cell? ⟨w.heap.size, k, none⟩ = some v := by
    rw [hown.cellAt k (by omega)]
    exact ⟨_, List.getElem?_eq_getElem (by rw [List.length_map, length_unpackTo]; exact hlt)⟩
   have b1 : (0 : Int) ≤ (k : Int) / 8 := by omega
   have b2 : (k : Int) / 8 < (l : Int) := by omega
   have b3 : (0 : Int) ≤ (k : Int) % 8 := by omega
   have b4 : (k : Int) % 8 ≤ 7 := by omega
   have Hb := Lib.hid (byteOf_any (V : Int) ((k : Int) % 8) wr (by omega) b3 b4)
   have HV := Lib.hid hV
   clear hcell hws hV
   go_wp2_with fail
   refine Hb.out.mono ?_
   rintro e w3 ⟨rfl, rfl⟩
   go_wp2
   go_roundw
   case rel =>
    refine ⟨k + 1, by omega, by go_num, ?_, ?_⟩
    ·have hst := (hown.stored k (bv (byteAt V (k % 8)))).1
     rw [← List.map_set, HV.out, unpackTo_succ, ← HV.out] at hst
     exact hst
    ·exact grown_new hg (grown_setCell wr ⟨w.heap.size, k, none⟩ _) (by intro g e; cases e; exact Nat.le_refl _)
   case measure => simp [intOf]; omega
  ·obtain rfl : k = n := by omega
   have hcv := conv_at (P := Tryz.prog) (w := wr) 174 9 5 Tryz.underlying174 Tryz.underlying5 Tryz.underlying9 (ad := some ⟨w.heap.size, 0, none⟩) (cap := k) (l := k) (bs := unpackB ws k)
    (by rw [unpackTo_all] at hown; obtain ⟨a, c, he, ha, _⟩ := at_of_owns hown; cases he; exact ha) (length_unpackB ws k) (by simp)
   clear hown
   go_wp2
   go_ret2
   exact ⟨rfl, hg⟩
theorem Unpack_none (ad : Option Addr) (l cap : Nat) (ws : List Nat) (n : Nat) (w : World) (hl : ws.length = l) (hat : At w ad (ws.map wv)) (hn : n ≤ 8 * l) (hb : l ≤ 1048576) (h2 : ¬ (0 : Int) < (n : Int)) :
  Calls Tryz.prog 98 #[.slice ad l cap, .int .i64 (n : Int)] w (TextErr (str (unpackB ws n)) 0 w) := by
 obtain ⟨i0, hi, hz0, hz1, hz2⟩ := info_parts Tryz.info5
 have h1 : ¬ (n : Int) < 0 := by omega
 have h4 : ¬ (l : Int) ≤ ((n : Int) - 1) / 8 := by omega
 go_enter Tryz.func98, Tryz.ntmps98
 go_wp2_with (at_make; refine wpList_make_full _ rfl _ _ 174 rfl w.heap.size 5 i0 (.int .u8 0) 1 Tryz.underlying174 hi hz0 hz1 _ _ _ _ n rfl rfl ?m0 ?m1 ?m2 ?m3 ?m4 ?_)
 case m0 => rfl
 case m1 => rfl
 case m2 => omega
 case m3 => unfold maxLen; omega
 intro w1 hown1 hg1
 have hown1' : w1.ownsRow w.heap.size 5 1 (.slice (some ⟨w.heap.size, 0, none⟩) n n) n ((unpackTo ws n 0).map bv) := by
  rwa [made_bytes n ws] at hown1
 have Hat := Lib.hid hat
 have Hl := Lib.hid hl
 clear hown1 hat hl
 go_wp2_with fail
 go_loopw [26] (fun i wr => ∃ k : Nat, k ≤ n ∧ i = .int .i64 k ∧
   wr.ownsRow w.heap.size 5 1 (.slice (some ⟨w.heap.size, 0, none⟩) n n) n ((unpackTo ws n k).map bv) ∧ w.grownBy wr none)
  (fun i _ => n - (intOf i).toNat)
 case atStart => exact ⟨0, Nat.zero_le _, rfl, hown1', hg1⟩
 case round =>
  obtain ⟨k, hk, rfl, hown, hg⟩ := hrel
  clear hown1' hg1
  by_cases hlt : k < n
  ·exact absurd hlt (by omega)
  ·obtain rfl : k = n := by omega
   have hcv := conv_at (P := Tryz.prog) (w := wr) 174 9 5 Tryz.underlying174 Tryz.underlying5 Tryz.underlying9 (ad := some ⟨w.heap.size, 0, none⟩) (cap := k) (l := k) (bs := unpackB ws k)
    (by rw [unpackTo_all] at hown; obtain ⟨a, c, he, ha, _⟩ := at_of_owns hown; cases he; exact ha) (length_unpackB ws k) (by simp)
   clear hown
   go_wp2
   go_ret2
   exact ⟨rfl, hg⟩
def unpackR (ws : List Nat) (n : Int) : List UInt8 × Int := if n < 0 ∨ 8 * (ws.length : Int) < n then ([], 1) else (unpackB ws n.toNat, 0)
theorem Unpack_any (ad : Option Addr) (l cap : Nat) (ws : List Nat) (n : Int) (w : World) (hl : ws.length = l) (hat : At w ad (ws.map wv)) (hn : n < 9223372036854775808) (hb : l ≤ 1048576) :
  Calls Tryz.prog 98 #[.slice ad l cap, .int .i64 n] w (TextErr (str (unpackR ws n).1) (unpackR ws n).2 w) := by
 by_cases h : n < 0
 ·have e : unpackR ws n = ([], 1) := if_pos (Or.inl h)
  rw [e]
  exact Unpack_neg ad l cap n w h
 ·obtain ⟨m, rfl⟩ := Int.eq_ofNat_of_zero_le (show 0 ≤ n by omega)
  by_cases h2 : 8 * l < m
  ·have e : unpackR ws m = ([], 1) := if_pos (Or.inr (by omega))
   rw [e]
   exact Unpack_over ad l cap m w h2 (by omega)
  ·have e : unpackR ws m = (unpackB ws m, 0) := if_neg (by intro h; rcases h with h | h <;> omega)
   rw [e]
   by_cases h3 : (0 : Int) < (m : Int)
   ·exact Unpack_some ad l cap ws m w hl hat (by omega) hb h3
   ·exact Unpack_none ad l cap ws m w hl hat (by omega) hb h3
end Go.Proofs.YtfljlmmiiccooaaGreatDoor
end
end
