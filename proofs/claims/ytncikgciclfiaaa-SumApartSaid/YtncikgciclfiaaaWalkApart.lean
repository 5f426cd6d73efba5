/- SumApart, walked. -/
import Derived.Test.YtncikgciclfiaaaSumD
namespace Go.Proofs.Ytncikgciclfiaaa.sumApart
open Go.RowKit Go.Grommet

set_option maxHeartbeats 400000 in
theorem walk_far (a0 : Option Addr) (l0 c0 : Nat) (a1 : Option Addr) (l1 c1 : Nat) (w : World) (h : 2048 < l0 + l1) (h0 : l0 ≤ 140737488351232) (h1 : l1 ≤ 140737488351232) :
    Calls Try.prog 7 #[.slice a0 l0 c0, .slice a1 l1 c1] w (WorksIs w) := by
  have g1 : (2048 : Int) < (l0 : Int) + (l1 : Int) := by omega
  go_enter Try.func7, Try.ntmps7
  go_wp2_with fail
  refine (works_any _).mono ?_
  rintro e w5 ⟨rfl, hg⟩
  go_wp2
  go_ret
  exact ⟨rfl, hg⟩

set_option maxRecDepth 100000 in
set_option maxHeartbeats 4000000 in
theorem walk_at (a0 : Option Addr) (l0 c0 : Nat) (a1 : Option Addr) (l1 c1 : Nat) (w : World) (h : l0 + l1 ≤ 2048) (xs ys : List Nat) (hxs : Words w a0 l0 xs) (hys : Words w a1 l1 ys) :
    Calls Try.prog 7 #[.slice a0 l0 c0, .slice a1 l1 c1] w (WorksIs w) := by
  have b1 : ¬ (2048 : Int) < (l0 : Int) + (l1 : Int) := by omega
  have Hxs := Lib.hid hxs.len
  have Hys := Lib.hid hys.len
  go_enter Try.func7, Try.ntmps7
  go_wp2_with fail
  refine (New_any _).mono ?_
  rintro e w1 ⟨rfl, hN1, hg⟩
  obtain ⟨g1, G1⟩ : ∃ g1, Hid (g1 = w.heap.size) := ⟨_, Lib.hid rfl⟩
  rw [← G1.out] at hN1
  rw [← G1.out]
  have hB1 : w.heap.size ≤ g1 := by rw [G1.out]; exact Nat.le_refl _
  clear G1
  go_wp2_with fail
  refine (New_any _).mono ?_
  rintro e w2 ⟨rfl, hN2, hg2⟩
  have hne : g1 ≠ w1.heap.size := Nat.ne_of_lt hN1.lt
  have hN1 := hN1.keep hg2 (by simp)
  have hB2 : w.heap.size ≤ w1.heap.size := hg.size
  obtain ⟨g2, G2⟩ : ∃ g2, Hid (g2 = w1.heap.size) := ⟨_, Lib.hid rfl⟩
  rw [← G2.out] at hN2 hne hB2
  rw [← G2.out]
  clear G2
  have hg := grown_trans hg hg2
  clear hg2
  go_wp2_with fail
  go_loopw [7] (fun i wr => ∃ k : Nat, k ≤ l0 + l1 ∧ i = .int .i64 (k : Int) ∧ NumIs wr g1 38 (sumN (xs.take k)) ∧ NumIs wr g2 38 (sumN (ys.take k)) ∧ w.grownBy wr none) (fun i _ => l0 + l1 - (intOf i).toNat)
  case atStart => exact ⟨0, Nat.zero_le _, rfl, hN1, hN2, hg⟩
  case round =>
    clear hN1 hN2 hg
    obtain ⟨k, hk, rfl, hN1, hN2, hg⟩ := hrel
    have h0 : (0 : Int) ≤ (k : Int) := by omega
    by_cases hl1 : k < l0 <;> by_cases hl2 : k < l1
    · have hl1' : (k : Int) < (l0 : Int) := by omega
      have hl2' : (k : Int) < (l1 : Int) := by omega
      have hsm1 := hxs.get k hl1
      obtain ⟨q1, o1, rfl, c1⟩ := wv_at (hxs.keep hg (by simp)).at_ k (by rw [Hxs.out]; exact hl1)
      have HS1 := Lib.hid (take_succ' xs k (by rw [Hxs.out]; exact hl1))
      generalize xs.getD k 0 = V1 at c1 hsm1 HS1
      have HA := Lib.hid (Add_some g1 _ _ V1 _ hN1 hsm1)
      go_wp2_with fail
      refine HA.out.mono ?_
      rintro e u1 ⟨rfl, hN1', hgg⟩
      clear HA hN1
      have hN2 := hN2.keep hgg (by intro e; injection e with e; exact hne e.symm)
      have hg := grown_new hg hgg (by intro q e; cases e; exact hB1)
      have hN1 : NumIs u1 g1 38 (sumN (xs.take (k + 1))) := by rw [HS1.out, sumN_snoc]; exact hN1'
      clear hN1' c1 HS1 hgg
      have hsm2 := hys.get k hl2
      obtain ⟨q2, o2, rfl, c2⟩ := wv_at (hys.keep hg (by simp)).at_ k (by rw [Hys.out]; exact hl2)
      have HS2 := Lib.hid (take_succ' ys k (by rw [Hys.out]; exact hl2))
      generalize ys.getD k 0 = V2 at c2 hsm2 HS2
      have HA := Lib.hid (Add_some g2 _ _ V2 _ hN2 hsm2)
      go_wp2_with fail
      refine HA.out.mono ?_
      rintro e u2 ⟨rfl, hN2', hgg⟩
      clear HA hN2
      have hN1 := hN1.keep hgg (by intro e; injection e with e; exact hne e)
      have hg := grown_new hg hgg (by intro q e; cases e; exact hB2)
      have hN2 : NumIs u2 g2 38 (sumN (ys.take (k + 1))) := by rw [HS2.out, sumN_snoc]; exact hN2'
      clear hN2' c2 HS2 hgg
      have HN := Lib.hid (Now_some g1 _ _ _ hN1)
      go_wp2_with fail
      refine HN.out.mono ?_
      rintro e z1 ⟨rfl, rfl⟩
      go_wp2_with fail
      refine HN.out.mono ?_
      rintro e z2 ⟨rfl, rfl⟩
      clear HN
      go_wp2
      go_roundw
      case rel => exact ⟨k + 1, by omega, by go_num, hN1, hN2, hg⟩
      case measure => simp [intOf]; omega
    · have hl1' : (k : Int) < (l0 : Int) := by omega
      have hl2' : ¬ (k : Int) < (l1 : Int) := by omega
      have hsm1 := hxs.get k hl1
      obtain ⟨q1, o1, rfl, c1⟩ := wv_at (hxs.keep hg (by simp)).at_ k (by rw [Hxs.out]; exact hl1)
      have HS1 := Lib.hid (take_succ' xs k (by rw [Hxs.out]; exact hl1))
      generalize xs.getD k 0 = V1 at c1 hsm1 HS1
      have HA := Lib.hid (Add_some g1 _ _ V1 _ hN1 hsm1)
      go_wp2_with fail
      refine HA.out.mono ?_
      rintro e u1 ⟨rfl, hN1', hgg⟩
      clear HA hN1
      have hN2 := hN2.keep hgg (by intro e; injection e with e; exact hne e.symm)
      have hg := grown_new hg hgg (by intro q e; cases e; exact hB1)
      have hN1 : NumIs u1 g1 38 (sumN (xs.take (k + 1))) := by rw [HS1.out, sumN_snoc]; exact hN1'
      clear hN1' c1 HS1 hgg
      have hN2 : NumIs u1 g2 38 (sumN (ys.take (k + 1))) := by
        rw [List.take_of_length_le (by rw [Hys.out]; omega)]
        rw [List.take_of_length_le (by rw [Hys.out]; omega)] at hN2
        exact hN2
      have HN := Lib.hid (Now_some g1 _ _ _ hN1)
      go_wp2_with fail
      refine HN.out.mono ?_
      rintro e z1 ⟨rfl, rfl⟩
      go_wp2_with fail
      refine HN.out.mono ?_
      rintro e z2 ⟨rfl, rfl⟩
      clear HN
      go_wp2
      go_roundw
      case rel => exact ⟨k + 1, by omega, by go_num, hN1, hN2, hg⟩
      case measure => simp [intOf]; omega
    · have hl1' : ¬ (k : Int) < (l0 : Int) := by omega
      have hl2' : (k : Int) < (l1 : Int) := by omega
      have hN1 : NumIs wr g1 38 (sumN (xs.take (k + 1))) := by
        rw [List.take_of_length_le (by rw [Hxs.out]; omega)]
        rw [List.take_of_length_le (by rw [Hxs.out]; omega)] at hN1
        exact hN1
      have hsm2 := hys.get k hl2
      obtain ⟨q2, o2, rfl, c2⟩ := wv_at (hys.keep hg (by simp)).at_ k (by rw [Hys.out]; exact hl2)
      have HS2 := Lib.hid (take_succ' ys k (by rw [Hys.out]; exact hl2))
      generalize ys.getD k 0 = V2 at c2 hsm2 HS2
      have HA := Lib.hid (Add_some g2 _ _ V2 _ hN2 hsm2)
      go_wp2_with fail
      refine HA.out.mono ?_
      rintro e u2 ⟨rfl, hN2', hgg⟩
      clear HA hN2
      have hN1 := hN1.keep hgg (by intro e; injection e with e; exact hne e)
      have hg := grown_new hg hgg (by intro q e; cases e; exact hB2)
      have hN2 : NumIs u2 g2 38 (sumN (ys.take (k + 1))) := by rw [HS2.out, sumN_snoc]; exact hN2'
      clear hN2' c2 HS2 hgg
      have HN := Lib.hid (Now_some g1 _ _ _ hN1)
      go_wp2_with fail
      refine HN.out.mono ?_
      rintro e z1 ⟨rfl, rfl⟩
      go_wp2_with fail
      refine HN.out.mono ?_
      rintro e z2 ⟨rfl, rfl⟩
      clear HN
      go_wp2
      go_roundw
      case rel => exact ⟨k + 1, by omega, by go_num, hN1, hN2, hg⟩
      case measure => simp [intOf]; omega
    · have hl1' : ¬ (k : Int) < (l0 : Int) := by omega
      have hl2' : ¬ (k : Int) < (l1 : Int) := by omega
      rw [List.take_of_length_le (by rw [Hxs.out]; omega)] at hN1
      rw [List.take_of_length_le (by rw [Hys.out]; omega)] at hN2
      have HN := Lib.hid (Now_some g1 _ _ _ hN1)
      go_wp2_with fail
      refine HN.out.mono ?_
      rintro e z1 ⟨rfl, rfl⟩
      clear HN
      have HO := Lib.hid (Of_any a0 l0 c0 xs wr (hxs.keep hg (by simp)))
      go_wp2_with fail
      refine HO.out.mono ?_
      rintro e u1 ⟨rfl, hgg⟩
      clear HO
      have hN2 := hN2.keep hgg (by simp)
      have hg := grown_trans hg hgg
      clear hgg
      have HN := Lib.hid (Now_some g2 _ _ _ hN2)
      go_wp2_with fail
      refine HN.out.mono ?_
      rintro e z1 ⟨rfl, rfl⟩
      clear HN
      have HO := Lib.hid (Of_any a1 l1 c1 ys u1 (hys.keep hg (by simp)))
      go_wp2_with fail
      refine HO.out.mono ?_
      rintro e u2 ⟨rfl, hgg⟩
      clear HO
      have hg := grown_trans hg hgg
      clear hgg
      go_wp2_with fail
      refine (works_any _).mono ?_
      rintro e w9 ⟨rfl, hg9⟩
      have hg := grown_trans hg hg9
      go_wp2
      go_ret
      exact ⟨rfl, hg⟩

theorem walk (a0 : Option Addr) (l0 c0 : Nat) (z0 : List Int) (a1 : Option Addr) (l1 c1 : Nat) (z1 : List Int) (w : World) (w0 : RowIn .u64 w a0 l0 c0 z0) (w1 : RowIn .u64 w a1 l1 c1 z1) :
    Calls Try.prog 7 #[.slice a0 l0 c0, .slice a1 l1 c1] w (WorksIs w) := by
  obtain ⟨xs, hx⟩ := RowIn.words w0
  obtain ⟨ys, hy⟩ := RowIn.words w1
  by_cases h : l0 + l1 ≤ 2048
  · exact walk_at a0 l0 c0 a1 l1 c1 w h xs ys hx hy
  · exact walk_far a0 l0 c0 a1 l1 c1 w (by omega) hx.fits hy.fits
end Go.Proofs.Ytncikgciclfiaaa.sumApart
