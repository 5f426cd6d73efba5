/- Unpack: the text of words. -/
import Derived.Test.YtingkjmbeloepaaOctM
import Derived.Test.YtingkjmbeloepaaUnpackMath
namespace Go.Proofs.Ytingkjmbeloepaa
open Go.RowKit Go.Grommet

/-- A text and an error's number. -/
def TextErr (s : ByteArray) (c : Int) (w : World) (e : Ending) (w' : World) : Prop := e = .returned (.tuple #[.string s, .int .i64 c]) ∧ w.grownBy w' none

set_option maxHeartbeats 400000 in
theorem Unpack_neg (ad : Option Addr) (l cap : Nat) (n : Int) (w : World) (hn : n < 0) :
    Calls Try.prog 13 #[.slice ad l cap, .int .i64 n] w (TextErr ⟨#[]⟩ 1 w) := by
  go_enter Try.func13, Try.ntmps13
  go_wp2
  go_ret2
  exact ⟨rfl, World.grownBy.refl _ _⟩

set_option maxHeartbeats 400000 in
theorem Unpack_over (ad : Option Addr) (l cap : Nat) (n : Nat) (w : World) (hn : 8 * l < n) (_hn2 : n < 2 ^ 63) :
    Calls Try.prog 13 #[.slice ad l cap, .int .i64 (n : Int)] w (TextErr ⟨#[]⟩ 1 w) := by
  have h1 : ¬ (n : Int) < 0 := by omega
  have h2 : (0 : Int) < (n : Int) := by omega
  have h3 : (l : Int) ≤ ((n : Int) - 1) / 8 := by omega
  have h4 : (n : Int) ≤ 9223372036854775807 := by omega
  go_enter Try.func13, Try.ntmps13
  go_wp2
  go_ret2
  exact ⟨rfl, World.grownBy.refl _ _⟩

set_option maxHeartbeats 1000000 in
theorem Unpack_some (ad : Option Addr) (l cap : Nat) (ws : List Nat) (n : Nat) (w : World) (hl : ws.length = l) (hat : At w ad (ws.map wv)) (hn : n ≤ 8 * l) (hb : l ≤ 1048576) (h2 : (0 : Int) < (n : Int)) :
    Calls Try.prog 13 #[.slice ad l cap, .int .i64 (n : Int)] w (TextErr (str (unpackB ws n)) 0 w) := by
  obtain ⟨i0, hi, hz0, hz1, hz2⟩ := info_parts Try.info5
  have h1 : ¬ (n : Int) < 0 := by omega
  have h4 : ¬ (l : Int) ≤ ((n : Int) - 1) / 8 := by omega
  go_enter Try.func13, Try.ntmps13
  go_wp2_with (at_make; refine wpList_make_full _ rfl _ _ 22 rfl w.heap.size 5 i0 (.int .u8 0) 1 Try.underlying22 hi hz0 hz1 _ _ _ _ n rfl rfl ?m0 ?m1 ?m2 ?m3 ?m4 ?_)
  case m0 => rfl
  case m1 => rfl
  case m2 => omega
  case m3 => unfold maxLen; omega
  intro w1 hown1 hg1
  have hown1' : w1.ownsRow w.heap.size 5 1 (.slice (some ⟨w.heap.size, 0, none⟩) n n) n ((unpackTo ws n 0).map bv) := by
    rwa [made_bytes n ws] at hown1
  have Hat := Lib.hid hat
  have Hl := Lib.hid hl
  clear hown1 hat hl
  go_wp2_with fail
  go_loopw [26] (fun i wr => ∃ k : Nat, k ≤ n ∧ i = .int .i64 k ∧
      wr.ownsRow w.heap.size 5 1 (.slice (some ⟨w.heap.size, 0, none⟩) n n) n ((unpackTo ws n k).map bv) ∧ w.grownBy wr none)
    (fun i _ => n - (intOf i).toNat)
  case atStart => exact ⟨0, Nat.zero_le _, rfl, hown1', hg1⟩
  case round =>
    obtain ⟨k, hk, rfl, hown, hg⟩ := hrel
    clear hown1' hg1
    by_cases hlt : k < n
    · have hlt' : (k : Int) < (n : Int) := by omega
      have hj : k / 8 < l := by omega
      have hfr := hown.frozenAt k
      obtain ⟨V, hV⟩ : ∃ V, V = ws.getD (k / 8) 0 := ⟨_, rfl⟩
      have hws : (ws.map wv)[k / 8]? = some (wv V) := by
        have hj' : k / 8 < ws.length := by rw [Hl.out]; exact hj
        rw [List.getElem?_map, List.getElem?_eq_getElem hj', hV, List.getD_eq_getElem?_getD, List.getElem?_eq_getElem hj']
        rfl
      obtain ⟨q, o, rfl, hcell⟩ := (Hat.out.grown hg (by simp)) (k / 8) (wv V) hws
      have hcell' : wr.cell? ⟨q, o + k / 8, none⟩ = some (.int .u64 (V : Int)) := hcell
      obtain ⟨vold, hold⟩ : ∃ v, wr.cell? ⟨w.heap.size, k, none⟩ = some v := by
        rw [hown.cellAt k (by omega)]
        exact ⟨_, List.getElem?_eq_getElem (by rw [List.length_map, length_unpackTo]; exact hlt)⟩
      have b1 : (0 : Int) ≤ (k : Int) / 8 := by omega
      have b2 : (k : Int) / 8 < (l : Int) := by omega
      have b3 : (0 : Int) ≤ (k : Int) % 8 := by omega
      have b4 : (k : Int) % 8 ≤ 7 := by omega
      have Hb := Lib.hid (byteOf_any (V : Int) ((k : Int) % 8) wr (by omega) b3 b4)
      have HV := Lib.hid hV
      clear hcell hws hV
      go_wp2_with fail
      refine Hb.out.mono ?_
      rintro e w3 ⟨rfl, rfl⟩
      go_wp2
      go_roundw
      case rel =>
        refine ⟨k + 1, by omega, by go_num, ?_, ?_⟩
        · have hst := (hown.stored k (bv (byteAt V (k % 8)))).1
          rw [← List.map_set, HV.out, unpackTo_succ, ← HV.out] at hst
          exact hst
        · exact grown_new hg (grown_setCell wr ⟨w.heap.size, k, none⟩ _) (by intro g e; cases e; exact Nat.le_refl _)
      case measure => simp [intOf]; omega
    · obtain rfl : k = n := by omega
      have hcv := conv_at (P := Try.prog) (w := wr) 22 9 5 Try.underlying22 Try.underlying5 Try.underlying9 (ad := some ⟨w.heap.size, 0, none⟩) (cap := k) (l := k) (bs := unpackB ws k)
        (by rw [unpackTo_all] at hown; obtain ⟨a, c, he, ha, _⟩ := at_of_owns hown; cases he; exact ha) (length_unpackB ws k) (by simp)
      clear hown
      go_wp2
      go_ret2
      exact ⟨rfl, hg⟩

set_option maxHeartbeats 1000000 in
theorem Unpack_none (ad : Option Addr) (l cap : Nat) (ws : List Nat) (n : Nat) (w : World) (hl : ws.length = l) (hat : At w ad (ws.map wv)) (hn : n ≤ 8 * l) (hb : l ≤ 1048576) (h2 : ¬ (0 : Int) < (n : Int)) :
    Calls Try.prog 13 #[.slice ad l cap, .int .i64 (n : Int)] w (TextErr (str (unpackB ws n)) 0 w) := by
  obtain ⟨i0, hi, hz0, hz1, hz2⟩ := info_parts Try.info5
  have h1 : ¬ (n : Int) < 0 := by omega
  have h4 : ¬ (l : Int) ≤ ((n : Int) - 1) / 8 := by omega
  go_enter Try.func13, Try.ntmps13
  go_wp2_with (at_make; refine wpList_make_full _ rfl _ _ 22 rfl w.heap.size 5 i0 (.int .u8 0) 1 Try.underlying22 hi hz0 hz1 _ _ _ _ n rfl rfl ?m0 ?m1 ?m2 ?m3 ?m4 ?_)
  case m0 => rfl
  case m1 => rfl
  case m2 => omega
  case m3 => unfold maxLen; omega
  intro w1 hown1 hg1
  have hown1' : w1.ownsRow w.heap.size 5 1 (.slice (some ⟨w.heap.size, 0, none⟩) n n) n ((unpackTo ws n 0).map bv) := by
    rwa [made_bytes n ws] at hown1
  have Hat := Lib.hid hat
  have Hl := Lib.hid hl
  clear hown1 hat hl
  go_wp2_with fail
  go_loopw [26] (fun i wr => ∃ k : Nat, k ≤ n ∧ i = .int .i64 k ∧
      wr.ownsRow w.heap.size 5 1 (.slice (some ⟨w.heap.size, 0, none⟩) n n) n ((unpackTo ws n k).map bv) ∧ w.grownBy wr none)
    (fun i _ => n - (intOf i).toNat)
  case atStart => exact ⟨0, Nat.zero_le _, rfl, hown1', hg1⟩
  case round =>
    obtain ⟨k, hk, rfl, hown, hg⟩ := hrel
    clear hown1' hg1
    by_cases hlt : k < n
    · exact absurd hlt (by omega)
    · obtain rfl : k = n := by omega
      have hcv := conv_at (P := Try.prog) (w := wr) 22 9 5 Try.underlying22 Try.underlying5 Try.underlying9 (ad := some ⟨w.heap.size, 0, none⟩) (cap := k) (l := k) (bs := unpackB ws k)
        (by rw [unpackTo_all] at hown; obtain ⟨a, c, he, ha, _⟩ := at_of_owns hown; cases he; exact ha) (length_unpackB ws k) (by simp)
      clear hown
      go_wp2
      go_ret2
      exact ⟨rfl, hg⟩

/-- Unpack, whatever the words and the number. -/
def unpackR (ws : List Nat) (n : Int) : List UInt8 × Int := if n < 0 ∨ 8 * (ws.length : Int) < n then ([], 1) else (unpackB ws n.toNat, 0)

theorem Unpack_any (ad : Option Addr) (l cap : Nat) (ws : List Nat) (n : Int) (w : World) (hl : ws.length = l) (hat : At w ad (ws.map wv)) (hn : n < 9223372036854775808) (hb : l ≤ 1048576) :
    Calls Try.prog 13 #[.slice ad l cap, .int .i64 n] w (TextErr (str (unpackR ws n).1) (unpackR ws n).2 w) := by
  by_cases h : n < 0
  · have e : unpackR ws n = ([], 1) := if_pos (Or.inl h)
    rw [e]
    exact Unpack_neg ad l cap n w h
  · obtain ⟨m, rfl⟩ := Int.eq_ofNat_of_zero_le (show 0 ≤ n by omega)
    by_cases h2 : 8 * l < m
    · have e : unpackR ws m = ([], 1) := if_pos (Or.inr (by omega))
      rw [e]
      exact Unpack_over ad l cap m w h2 (by omega)
    · have e : unpackR ws m = (unpackB ws m, 0) := if_neg (by intro h; rcases h with h | h <;> omega)
      rw [e]
      by_cases h3 : (0 : Int) < (m : Int)
      · exact Unpack_some ad l cap ws m w hl hat (by omega) hb h3
      · exact Unpack_none ad l cap ws m w hl hat (by omega) hb h3
end Go.Proofs.Ytingkjmbeloepaa
