/- The document's own answers for octet: Unpack. -/
import Derived.Test.YtingkjmbeloepaaRefA
namespace Go.Proofs.Ytingkjmbeloepaa
open Go.RowKit Go.Grommet

theorem unpackB_succ (ws : List Nat) (k : Nat) : unpackB ws (k + 1) = unpackB ws k ++ [byteAt (ws.getD (k / 8) 0) (k % 8)] := by simp [unpackB, List.range_succ]

set_option maxHeartbeats 400000 in
theorem RUnpack_neg (ad : Option Addr) (l cap : Nat) (n : Int) (w : World) (hn : n < 0) :
    Calls Try.prog 14 #[.slice ad l cap, .int .i64 n] w (TextErr ⟨#[]⟩ 1 w) := by
  go_enter Try.func14, Try.ntmps14
  go_wp2
  go_ret2
  exact ⟨rfl, World.grownBy.refl _ _⟩

set_option maxHeartbeats 400000 in
theorem RUnpack_over (ad : Option Addr) (l cap : Nat) (n : Int) (w : World) (h0 : 0 ≤ n) (hn : 8 * (l : Int) < n) (hl : l ≤ 1048576) :
    Calls Try.prog 14 #[.slice ad l cap, .int .i64 n] w (TextErr ⟨#[]⟩ 1 w) := by
  have h1 : ¬ n < 0 := by omega
  go_enter Try.func14, Try.ntmps14
  go_wp2
  go_ret2
  exact ⟨rfl, World.grownBy.refl _ _⟩

set_option maxHeartbeats 1000000 in
theorem RUnpack_yes (ad : Option Addr) (l cap : Nat) (ws : List Nat) (n : Nat) (w : World) (hl : ws.length = l) (hat : At w ad (ws.map wv)) (hn : n ≤ 8 * l) (hb : l ≤ 1048576) :
    Calls Try.prog 14 #[.slice ad l cap, .int .i64 (n : Int)] w (TextErr (str (unpackB ws n)) 0 w) := by
  obtain ⟨i0, hi, hz0, hz1, hz2⟩ := info_parts Try.info5
  have h1 : ¬ (n : Int) < 0 := by omega
  have h2 : ¬ 8 * (l : Int) < (n : Int) := by omega
  have d1 : decide ((n : Int) < 0) = false := by simp
  have d2 : decide (8 * (l : Int) < (n : Int)) = false := by simp; omega
  have Hat := Lib.hid hat
  have Hl := Lib.hid hl
  clear hat hl
  go_enter Try.func14, Try.ntmps14
  go_wp2_with fail
  go_loopw [6, 7] (fun s6 s7 wr => ∃ k adk capk, k ≤ n ∧ s7 = .int .i64 (k : Int) ∧ s6 = .slice adk k capk ∧
      wr.ownsRow w.heap.size 5 1 (.slice adk k capk) k ((unpackB ws k).map bv) ∧ w.grownBy wr none)
    (fun _ s7 _ => n - (intOf s7).toNat)
  case atStart => exact ⟨0, none, 0, Nat.zero_le _, rfl, rfl, World.ownsRow_nil _ _ _ _, World.grownBy.refl _ _⟩
  case round =>
    obtain ⟨k, adk, capk, hk, rfl, rfl, hown, hg⟩ := hrel
    by_cases hlt : k < n
    · have hlt' : (k : Int) < (n : Int) := by omega
      have hj : k / 8 < l := by omega
      obtain ⟨q, o, rfl, hcell⟩ := wv_at (Hat.out.grown hg (by simp)) (k / 8) (by rw [Hl.out]; exact hj)
      obtain ⟨V, HV⟩ : ∃ V, Hid (V = ws.getD (k / 8) 0) := ⟨_, Lib.hid rfl⟩
      rw [← HV.out] at hcell
      have b1 : (0 : Int) ≤ (k : Int) / 8 := by omega
      have b2 : (k : Int) / 8 < (l : Int) := by omega
      have b3 : (0 : Int) ≤ (k : Int) % 8 := by omega
      have b4 : (k : Int) % 8 ≤ 7 := by omega
      have hbt : (V : Int) / 2 ^ (8 * (k % 8)) % 256 = ((byteAt V (k % 8)).toNat : Int) := byteAt_int V (k % 8)
      go_wp2_with (at_builtin; refine wpList_append_at rfl _ _ 22 rfl w.heap.size 5 i0 (.int .u8 0) 1 Try.underlying22 hi hz0 hz1 hz2 rfl _ k ((unpackB ws k).map bv) rfl (hown.alloc _) (some ⟨wr.heap.size, 0, none⟩) 1 1 [Value.int .u8 ((byteAt V (k % 8)).toNat : Int)] rfl ?b2 ?b3 ?b4 ?b5 ?b6 ?b7 ?b8 ?_)
      case b2 => rfl
      case b3 => exact at_one _ _ _
      case b4 => simp
      case b5 => exact one_oneCell _ _
      case b6 => unfold maxLen; omega
      case b7 => omega
      case b8 => have := hg.size; simp; omega
      intro v2 w2 hown2 hg2
      have hg' := grown_new (grown_trans hg (World.grownBy_alloc wr _ none)) hg2 (fun g h => (hown.lt g h).1)
      obtain ⟨ad2, cap2, rfl, _⟩ := owns_slice hown2
      clear hown hg hg2 hbt hcell
      go_wp2
      go_roundw
      case rel => exact ⟨k + 1, ad2, cap2, by omega, by go_num, rfl, by rw [unpackB_succ, List.map_append, ← HV.out]; exact hown2, hg'⟩
      case measure => simp [intOf]; omega
    · obtain rfl : k = n := by omega
      have hcv := conv_at (P := Try.prog) (w := wr) 22 9 5 Try.underlying22 Try.underlying5 Try.underlying9 (ad := adk) (cap := capk) (l := k) (bs := unpackB ws k)
        (by obtain ⟨a, c, he, ha, _⟩ := at_of_owns hown; cases he; exact ha) (length_unpackB ws k) (by obtain ⟨a, c, he, _, ha, _⟩ := at_of_owns hown; cases he; exact fun e => (ha e).1)
      clear hown
      go_wp2
      go_ret2
      exact ⟨rfl, hg⟩

theorem RUnpack_any (ad : Option Addr) (l cap : Nat) (ws : List Nat) (n : Int) (w : World) (hl : ws.length = l) (hat : At w ad (ws.map wv)) (hb : l ≤ 1048576) :
    Calls Try.prog 14 #[.slice ad l cap, .int .i64 n] w (TextErr (str (unpackR ws n).1) (unpackR ws n).2 w) := by
  by_cases h : n < 0
  · have e : unpackR ws n = ([], 1) := if_pos (Or.inl h)
    rw [e]
    exact RUnpack_neg ad l cap n w h
  · by_cases h2 : 8 * (l : Int) < n
    · have e : unpackR ws n = ([], 1) := if_pos (Or.inr (by omega))
      rw [e]
      exact RUnpack_over ad l cap n w (by omega) h2 hb
    · obtain ⟨m, rfl⟩ := Int.eq_ofNat_of_zero_le (show 0 ≤ n by omega)
      have e : unpackR ws m = (unpackB ws m, 0) := if_neg (by intro h; rcases h with h | h <;> omega)
      rw [e]
      exact RUnpack_yes ad l cap ws m w hl hat (by omega) hb
end Go.Proofs.Ytingkjmbeloepaa
