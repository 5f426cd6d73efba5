/- Pack: a text in words. -/
import Derived.Test.YtingkjmbeloepaaOctL
import Derived.Test.YtingkjmbeloepaaPackMath
import Derived.StillTailTactics
namespace Go.Proofs.Ytingkjmbeloepaa
open Go.RowKit Go.Grommet

theorem Try.info23 : (Try.prog.info? 23).map (fun i => (i.zero, i.size, i.bytes)) = some (some (.int .u64 0), 1, 8) := by kernel_rfl

theorem made_words (M : Nat) (bs : List UInt8) : (madeCells #[Value.int .u64 0] M).toList = (words (bs.take 0) M).map wv := by
  rw [List.take_zero, words_nil]
  simp [wv, madeCells, Nat.mod_one, List.map_const']

def WordsIs (w : World) (ws : List Nat) (e : Ending) (w' : World) : Prop :=
  e = .returned (.slice (some ⟨w.heap.size, 0, none⟩) ws.length ws.length) ∧ w'.ownsRow w.heap.size 23 1 (.slice (some ⟨w.heap.size, 0, none⟩) ws.length ws.length) ws.length (ws.map wv) ∧ w.grownBy w' none

set_option maxHeartbeats 1000000 in
theorem Pack_any (s : ByteArray) (w : World) (hs : s.size ≤ 1048576) :
    Calls Try.prog 18 #[.string s] w (WordsIs w (words (bytesOf s) ((s.size + 7) / 8))) := by
  obtain ⟨i0, hi, hz0, hz1, hz2⟩ := info_parts Try.info23
  obtain ⟨M, HM⟩ : ∃ M, Hid (M = (s.size + 7) / 8) := ⟨_, Lib.hid rfl⟩
  have hM1 : 8 * M ≤ s.size + 7 := by rw [HM.out]; omega
  have hM2 : s.size + 7 < 8 * M + 8 := by rw [HM.out]; omega
  rw [← HM.out]
  go_enter Try.func18, Try.ntmps18
  go_wp2_with (at_make; refine wpList_make_full _ rfl _ _ 24 rfl w.heap.size 23 i0 (.int .u64 0) 1 Try.underlying24 hi hz0 hz1 _ _ _ _ M rfl rfl ?m0 ?m1 ?m2 ?m3 ?m4 ?_)
  case m0 => omega
  case m1 => omega
  case m2 => rw [hz2]; omega
  case m3 => unfold maxLen; omega
  case m4 => omega
  intro w1 hown1 hg1
  have hown1' : w1.ownsRow w.heap.size 23 1 (.slice (some ⟨w.heap.size, 0, none⟩) M M) M ((words ((bytesOf s).take 0) M).map wv) := by
    rwa [made_words M (bytesOf s)] at hown1
  clear hown1
  go_wp2_with fail
  go_loopw [13] (fun i wr => ∃ k : Nat, k ≤ s.size ∧ i = .int .i64 k ∧
      wr.ownsRow w.heap.size 23 1 (.slice (some ⟨w.heap.size, 0, none⟩) M M) M ((words ((bytesOf s).take k) M).map wv) ∧ w.grownBy wr none)
    (fun i _ => s.size - (intOf i).toNat)
  case atStart => exact ⟨0, Nat.zero_le _, rfl, hown1', hg1⟩
  case round =>
    obtain ⟨k, hk, rfl, hown, hg⟩ := hrel
    clear hown1' hg1
    by_cases hlt : k < s.size
    · have hlt' : (k : Int) < (s.size : Int) := by omega
      have hj : k / 8 < M := by omega
      have hcell : wr.cell? ⟨w.heap.size, k / 8, none⟩ = some (.int .u64 ((word ((bytesOf s).take k) (k / 8) : Nat) : Int)) := by
        rw [hown.cellAt (k / 8) (by omega)]
        simp [words, wv, hj]
      have hmath := words_snoc ((bytesOf s).take k) k ((bytesOf s).getD k 0) (by rw [List.length_take, length_bytesOf]; omega) M hj
      rw [← take_snoc _ _ (by rw [length_bytesOf]; exact hlt)] at hmath
      have Ho := Lib.hid (or_word (word ((bytesOf s).take k) (k / 8)) ((bytesOf s).getD k 0).toNat (k % 8) (word_part_lt _ k (by rw [List.length_take, length_bytesOf]; omega)) (UInt8.toNat_lt _) (by omega))
      have Hm := Lib.hid hmath
      clear hmath
      have hfr := hown.frozenAt (k / 8)
      have b1 : (0 : Int) ≤ (k : Int) / 8 := by omega
      have b2 : (k : Int) / 8 < (M : Int) := by omega
      have b3 : (0 : Int) ≤ (k : Int) % 8 := by omega
      have b4 : (k : Int) % 8 ≤ 7 := by omega
      have a1 : IntKind.i64.wrap ((k : Int) / 8) = (k : Int) / 8 := IntWalk.i64_in _ ⟨by omega, by omega⟩
      have a2 : IntKind.i64.wrap ((k : Int) % 8) = (k : Int) % 8 := IntWalk.i64_in _ ⟨by omega, by omega⟩
      have a3 : ((k : Int) / 8).toNat = k / 8 := by omega
      go_wp2_with fail
      go_still_tail 12, (by kernel_rfl)
      still_call (inWord_any' _ _ _ b3 b4)
      repeat still_step
      refine wpStill_nil ?_
      go_wp2
      go_roundw
      case rel =>
        refine ⟨k + 1, by omega, by go_num, ?_, ?_⟩
        · have hst := (hown.stored (k / 8) (wv (word ((bytesOf s).take k) (k / 8) + ((bytesOf s).getD k 0).toNat * 256 ^ (k % 8)))).1
          rw [← List.map_set, ← Hm.out, wv, ← Ho.out] at hst
          have e3 : s[k] = (bytesOf s).getD k 0 := byte_getD s k hlt
          rw [Int.natCast_mul, Int.natCast_pow] at hst
          rw [e3]
          exact hst
        · exact grown_drew (grown_new hg (grown_setCell wr ⟨w.heap.size, k / 8, none⟩ _) (by intro g e; cases e; exact Nat.le_refl _))
      case measure => first | omega | (simp [intOf]; omega)
    · obtain rfl : k = s.size := by omega
      have hend : WordsIs w (words (bytesOf s) M) (.returned (.slice (some ⟨w.heap.size, 0, none⟩) M M)) wr := by
        rw [List.take_of_length_le (by rw [length_bytesOf]; exact Nat.le_refl _)] at hown
        exact ⟨by rw [length_words], by rw [length_words]; exact hown, hg⟩
      clear hown hg
      go_wp2
      go_ret
      exact hend
end Go.Proofs.Ytingkjmbeloepaa
