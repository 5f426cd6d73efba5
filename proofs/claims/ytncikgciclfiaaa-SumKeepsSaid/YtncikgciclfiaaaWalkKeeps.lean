/- SumKeeps, walked. -/
import Derived.Test.YtncikgciclfiaaaSumD
namespace Go.Proofs.Ytncikgciclfiaaa.sumKeeps
open Go.RowKit Go.Grommet

set_option maxHeartbeats 400000 in
theorem walk_far (a0 : Option Addr) (l0 c0 : Nat) (a1 : Option Addr) (l1 c1 : Nat) (n : Int) (w : World) (h : 2048 < l0 + l1) (h0 : l0 ≤ 140737488351232) (h1 : l1 ≤ 140737488351232) :
    Calls Try.prog 6 #[.slice a0 l0 c0, .slice a1 l1 c1, .int .u64 n] w (WorksIs w) := by
  have g1 : (2048 : Int) < (l0 : Int) + (l1 : Int) := by omega
  go_enter Try.func6, Try.ntmps6
  go_wp2_with fail
  refine (works_any _).mono ?_
  rintro e w5 ⟨rfl, hg⟩
  go_wp2
  go_ret
  exact ⟨rfl, hg⟩

set_option maxHeartbeats 2000000 in
theorem walk_at (a0 : Option Addr) (l0 c0 : Nat) (a1 : Option Addr) (l1 c1 : Nat) (n : Nat) (w : World) (h : l0 + l1 ≤ 2048) (xs ys : List Nat) (hx : Words w a0 l0 xs) (hy : Words w a1 l1 ys)
    (n0 : a0 = none → l0 = 0 ∧ c0 = 0) (n1 : a1 = none → l1 = 0 ∧ c1 = 0) (hn : n < 18446744073709551616) :
    Calls Try.prog 6 #[.slice a0 l0 c0, .slice a1 l1 c1, .int .u64 (n : Int)] w (WorksIs w) := by
  have g1 : ¬ (2048 : Int) < (l0 : Int) + (l1 : Int) := by omega
  go_enter Try.func6, Try.ntmps6
  go_wp2_with (at_builtin; refine app64 rfl _ _ rfl w.heap.size _ 0 [] rfl (own_lit w _ (Nat.le_refl _)) a0 l0 c0 xs rfl ?a1 n0 ?a2 (by simp) ?_)
  case a1 => exact hx.keep (World.grownBy_alloc w _ none) (by simp)
  case a2 => omega
  intro v1 w1 hown hg
  try rw [List.nil_append, Nat.zero_add] at hown
  try rw [Nat.zero_add]
  have hg1 := grown_new (World.grownBy_alloc w _ none) hg (by intro g e; cases e; exact Nat.le_refl _)
  clear hg
  have hB : w.heap.size ≤ w1.heap.size := hg1.size
  have hone : Words (w1.alloc (.cells #[.int .u64 (n : Int)] 26)) (some ⟨w1.heap.size, 0, none⟩) 1 [n] := ⟨rfl, by simpa using hn, at_new_w w1 _ [n] _ rfl, by decide⟩
  go_wp2_with (at_builtin; refine app64 rfl _ _ rfl w.heap.size _ l0 xs rfl (hown.alloc _) _ 1 1 [n] rfl hone (by simp) ?a2 ?a3 ?_)
  case a2 => omega
  case a3 => simp; omega
  intro v2 w2 hown2 hg2
  have hown2 : w2.ownsRow w.heap.size 26 1 v2 (l0 + 1) ((xs ++ [n]).map wv) := by simpa using hown2
  have hsm : ∀ k ∈ xs ++ [n], k < 18446744073709551616 := by
    intro k hk
    rcases List.mem_append.1 hk with h | h
    · exact hx.small k h
    · rw [List.mem_singleton.1 h]; exact hn
  obtain ⟨ad2, cap2, rfl, hW2, _, _, _⟩ := words_of_own hown2 hsm (by omega)
  have hg2 := grown_new (grown_trans hg1 (World.grownBy_alloc w1 _ none)) hg2 (fun g h => (hown.lt g h).1)
  clear hown hown2 hone hg1
  have HO := Lib.hid (Of_any ad2 _ cap2 _ w2 hW2)
  clear hW2
  go_wp2_with fail
  refine HO.out.mono ?_
  rintro e w3 ⟨rfl, hg3⟩
  clear HO
  have hg3 := grown_trans hg2 hg3
  clear hg2
  obtain ⟨A, HA⟩ : ∃ A, Hid (A = sumN (xs ++ [n])) := ⟨_, Lib.hid rfl⟩
  rw [← HA.out]
  have hB : w.heap.size ≤ w3.heap.size := hg3.size
  go_wp2_with (at_builtin; refine app64 rfl _ _ rfl w.heap.size _ 0 [] rfl (own_lit w3 _ hB) a1 l1 c1 ys rfl ?a1 n1 ?a2 ?a3 ?_)
  case a1 => exact (hy.keep hg3 (by simp)).keep (World.grownBy_alloc w3 _ none) (by simp)
  case a2 => omega
  case a3 => simp; omega
  intro v4 w4 hown hg
  try rw [List.nil_append, Nat.zero_add] at hown
  try rw [Nat.zero_add]
  have hg4 := grown_new (grown_trans hg3 (World.grownBy_alloc w3 _ none)) hg (by intro g e; cases e; exact hB)
  clear hg
  have hone : Words (w4.alloc (.cells #[.int .u64 (n : Int)] 26)) (some ⟨w4.heap.size, 0, none⟩) 1 [n] := ⟨rfl, by simpa using hn, at_new_w w4 _ [n] _ rfl, by decide⟩
  have hB : w.heap.size ≤ w4.heap.size := hg4.size
  go_wp2_with (at_builtin; refine app64 rfl _ _ rfl w.heap.size _ l1 ys rfl (hown.alloc _) _ 1 1 [n] rfl hone (by simp) ?a2 ?a3 ?_)
  case a2 => omega
  case a3 => simp; omega
  intro v2 w5 hown2 hg2
  have hown2 : w5.ownsRow w.heap.size 26 1 v2 (l1 + 1) ((ys ++ [n]).map wv) := by simpa using hown2
  have hsm : ∀ k ∈ ys ++ [n], k < 18446744073709551616 := by
    intro k hk
    rcases List.mem_append.1 hk with h | h
    · exact hy.small k h
    · rw [List.mem_singleton.1 h]; exact hn
  obtain ⟨ad5, cap5, rfl, hW2, _, _, _⟩ := words_of_own hown2 hsm (by omega)
  have hg2 := grown_new (grown_trans hg4 (World.grownBy_alloc w4 _ none)) hg2 (fun g h => (hown.lt g h).1)
  clear hown hown2 hone hg4 hg3
  have HO := Lib.hid (Of_any ad5 _ cap5 _ w5 hW2)
  clear hW2
  go_wp2_with fail
  refine HO.out.mono ?_
  rintro e w6 ⟨rfl, hg3⟩
  clear HO
  have hg6 := grown_trans hg2 hg3
  clear hg2 hg3
  obtain ⟨B, HB⟩ : ∃ B, Hid (B = sumN (ys ++ [n])) := ⟨_, Lib.hid rfl⟩
  rw [← HB.out]
  have HO := Lib.hid (Of_any a0 l0 c0 xs w6 (hx.keep hg6 (by simp)))
  go_wp2_with fail
  refine HO.out.mono ?_
  rintro e w7 ⟨rfl, hg3⟩
  clear HO
  have hg7 := grown_trans hg6 hg3
  clear hg6 hg3
  obtain ⟨C, HC⟩ : ∃ C, Hid (C = sumN xs) := ⟨_, Lib.hid rfl⟩
  rw [← HC.out]
  have HO := Lib.hid (Of_any a1 l1 c1 ys w7 (hy.keep hg7 (by simp)))
  go_wp2_with fail
  refine HO.out.mono ?_
  rintro e w8 ⟨rfl, hg3⟩
  clear HO
  have hg8 := grown_trans hg7 hg3
  clear hg7 hg3
  obtain ⟨D, HD⟩ : ∃ D, Hid (D = sumN ys) := ⟨_, Lib.hid rfl⟩
  rw [← HD.out]
  have hiff : A = B ↔ C = D := by
    rw [HA.out, HB.out, HC.out, HD.out, sumN_snoc, sumN_snoc]
    exact ⟨fun h => stp_inj_left _ _ n (sumN_lt _) (sumN_lt _) hn h, fun h => by rw [h]⟩
  clear HA HB HC HD
  have hfin : (((A : Int) == (B : Int)) == ((C : Int) == (D : Int))) = true := by
    rw [beq_iff_eq, Bool.eq_iff_iff, beq_iff_eq, beq_iff_eq]; omega
  clear hiff
  go_wp2_with fail
  refine (works_any _).mono ?_
  rintro e w9 ⟨rfl, hg9⟩
  have hg := grown_trans hg8 hg9
  go_wp2
  go_ret
  exact ⟨rfl, hg⟩

theorem walk (a0 : Option Addr) (l0 c0 : Nat) (z0 : List Int) (a1 : Option Addr) (l1 c1 : Nat) (z1 : List Int) (a2 : Int) (w : World) (w0 : RowIn .u64 w a0 l0 c0 z0) (w1 : RowIn .u64 w a1 l1 c1 z1) (w2 : (Lit.int .u64 a2).wf = true) :
    Calls Try.prog 6 #[.slice a0 l0 c0, .slice a1 l1 c1, .int .u64 a2] w (WorksIs w) := by
  obtain ⟨xs, hx⟩ := RowIn.words w0
  obtain ⟨ys, hy⟩ := RowIn.words w1
  have hb := bounds_u64 w2
  obtain ⟨n, rfl⟩ := Int.eq_ofNat_of_zero_le hb.1
  by_cases h : l0 + l1 ≤ 2048
  · exact walk_at a0 l0 c0 a1 l1 c1 n w h xs ys hx hy (fun e => w0.nil e) (fun e => w1.nil e) (by omega)
  · exact walk_far a0 l0 c0 a1 l1 c1 n w (by omega) hx.fits hy.fits
end Go.Proofs.Ytncikgciclfiaaa.sumKeeps
