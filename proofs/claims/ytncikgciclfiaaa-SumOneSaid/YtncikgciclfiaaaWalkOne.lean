/- SumOne, walked. -/
import Derived.Test.YtncikgciclfiaaaSumD
namespace Go.Proofs.Ytncikgciclfiaaa.sumOne
open Go.RowKit Go.Grommet

set_option maxHeartbeats 400000 in
theorem walk_far (a0 : Option Addr) (l0 c0 : Nat) (k n : Int) (w : World) (h : 1024 < l0) (h0 : l0 ≤ 140737488351232) :
    Calls Try.prog 4 #[.slice a0 l0 c0, .int .u16 k, .int .u64 n] w (WorksIs w) := by
  have g1 : (1024 : Int) < (l0 : Int) := by omega
  go_enter Try.func4, Try.ntmps4
  go_wp2_with fail
  refine (works_any _).mono ?_
  rintro e w5 ⟨rfl, hg⟩
  go_wp2
  go_ret
  exact ⟨rfl, hg⟩

set_option maxHeartbeats 400000 in
theorem walk_none (a0 : Option Addr) (c0 : Nat) (k n : Int) (w : World) :
    Calls Try.prog 4 #[.slice a0 0 c0, .int .u16 k, .int .u64 n] w (WorksIs w) := by
  go_enter Try.func4, Try.ntmps4
  go_wp2_with fail
  refine (works_any _).mono ?_
  rintro e w5 ⟨rfl, hg⟩
  go_wp2
  go_ret
  exact ⟨rfl, hg⟩

set_option maxHeartbeats 2000000 in
theorem walk_at (a0 : Option Addr) (l0 c0 k n : Nat) (w : World) (h : l0 ≤ 1024) (h1 : 0 < l0) (hk : k < 65536) (xs : List Nat) (hx : Words w a0 l0 xs)
    (n0 : a0 = none → l0 = 0 ∧ c0 = 0) (hn : n < 18446744073709551616) :
    Calls Try.prog 4 #[.slice a0 l0 c0, .int .u16 (k : Int), .int .u64 (n : Int)] w (WorksIs w) := by
  have g1 : ¬ (1024 : Int) < (l0 : Int) := by omega
  have g2 : ((l0 : Int) == 0) = false := by simp; omega
  obtain ⟨K, HK⟩ : ∃ K, Hid (K = k % l0) := ⟨_, Lib.hid rfl⟩
  have hK : (k : Int) % (l0 : Int) = (K : Int) := by rw [HK.out]; simp
  have hKl : K < l0 := by rw [HK.out]; exact Nat.mod_lt _ h1
  have hKl' : (K : Int) < (l0 : Int) := by omega
  have hK0 : (0 : Int) ≤ (K : Int) := by omega
  go_enter Try.func4, Try.ntmps4
  go_wp2_with (at_builtin; refine app64 rfl _ _ rfl w.heap.size _ 0 [] rfl (own_lit w _ (Nat.le_refl _)) a0 l0 c0 xs rfl ?a1 n0 ?a2 (by simp) ?_)
  case a1 => exact hx.keep (World.grownBy_alloc w _ none) (by simp)
  case a2 => omega
  intro v1 w1 hown hg
  try rw [List.nil_append, Nat.zero_add] at hown
  try rw [Nat.zero_add]
  have hg1 := grown_new (World.grownBy_alloc w _ none) hg (by intro g e; cases e; exact Nat.le_refl _)
  clear hg
  obtain ⟨g, cap1, rfl, hB⟩ := own_pos hown h1
  have hxl := hx.len
  have c1 : w1.cell? ⟨g, K, none⟩ = some (.int .u64 ((xs.getD K 0 : Nat) : Int)) := by
    rw [hown.cellAt K (by omega)]
    have : K < xs.length := by omega
    simp [this, wv]
  have f1 : w1.frozen? ⟨g, K, none⟩ = false := hown.frozenAt K
  have hsm := hx.get K hKl
  have hst := (hown.stored K (wv (xs.getD K 0 ^^^ n))).1
  rw [← List.map_set] at hst
  have hx1 := bits_xor_u64_nat (xs.getD K 0) n hsm hn
  have hxl' := xor_lt _ _ hsm hn
  obtain ⟨Y, HY⟩ : ∃ Y, Hid (Y = xs.getD K 0 ^^^ n) := ⟨_, Lib.hid rfl⟩
  rw [← HY.out] at hx1 hst hxl'
  obtain ⟨V, HV⟩ : ∃ V, Hid (V = xs.getD K 0) := ⟨_, Lib.hid rfl⟩
  rw [← HV.out] at hx1 c1 hsm HY
  have HXL := Lib.hid hxl
  clear hxl
  have hs1 : ∀ j ∈ xs.set K Y, j < 18446744073709551616 := by
    intro j hj
    rcases List.mem_or_eq_of_mem_set hj with h | h
    · exact hx.small j h
    · rw [h]; exact hxl'
  obtain ⟨ad2, cap2, he2, hW2, _, _, _⟩ := words_of_own hst hs1 (by omega)
  cases he2
  have hg2 := grown_new hg1 (grown_setCell w1 ⟨g, K, none⟩ (wv Y)) (by intro q e; cases e; exact hB)
  have HO := Lib.hid (Of_any _ _ cap1 _ _ hW2)
  clear hW2 hst hown hs1
  go_wp2_with fail
  refine HO.out.mono ?_
  rintro e w3 ⟨rfl, hg3⟩
  clear HO hx1 c1 f1
  have hg3 := grown_trans hg2 hg3
  clear hg2 hg1
  obtain ⟨A, HA⟩ : ∃ A, Hid (A = sumN (xs.set K Y)) := ⟨_, Lib.hid rfl⟩
  rw [← HA.out]
  have HO := Lib.hid (Of_any a0 l0 c0 xs w3 (hx.keep hg3 (by simp)))
  go_wp2_with fail
  refine HO.out.mono ?_
  rintro e w4 ⟨rfl, hg4⟩
  clear HO
  have hg4 := grown_trans hg3 hg4
  obtain ⟨B, HB⟩ : ∃ B, Hid (B = sumN xs) := ⟨_, Lib.hid rfl⟩
  rw [← HB.out]
  have hiff : A = B ↔ n = 0 := by
    rw [HA.out, HB.out, sumN_set xs K Y (by rw [HXL.out]; exact hKl) hx.small hxl', ← HV.out, HY.out]
    constructor
    · intro h
      have h0 : V ^^^ n = V ^^^ 0 := by rw [h, Nat.xor_zero]
      exact xor_cancel_left _ _ _ h0
    · intro h
      rw [h, Nat.xor_zero]
  clear HA HB HV HY
  have hfin : (((A : Int) == (B : Int)) == ((n : Int) == 0)) = true := by
    rw [beq_iff_eq, Bool.eq_iff_iff, beq_iff_eq, beq_iff_eq]; omega
  clear hiff
  go_wp2_with fail
  refine (works_any _).mono ?_
  rintro e w9 ⟨rfl, hg9⟩
  have hg := grown_trans hg4 hg9
  go_wp2
  go_ret
  exact ⟨rfl, hg⟩

theorem walk (a0 : Option Addr) (l0 c0 : Nat) (z0 : List Int) (a1 a2 : Int) (w : World) (w0 : RowIn .u64 w a0 l0 c0 z0) (w1 : (Lit.int .u16 a1).wf = true) (w2 : (Lit.int .u64 a2).wf = true) :
    Calls Try.prog 4 #[.slice a0 l0 c0, .int .u16 a1, .int .u64 a2] w (WorksIs w) := by
  obtain ⟨xs, hx⟩ := RowIn.words w0
  have hb := bounds_u64 w2
  obtain ⟨n, rfl⟩ := Int.eq_ofNat_of_zero_le hb.1
  have hk := bounds_u16 w1
  obtain ⟨k, rfl⟩ := Int.eq_ofNat_of_zero_le hk.1
  by_cases h : l0 ≤ 1024
  · by_cases h1 : 0 < l0
    · exact walk_at a0 l0 c0 k n w h h1 (by omega) xs hx (fun e => w0.nil e) (by omega)
    · obtain rfl : l0 = 0 := by omega
      exact walk_none a0 c0 _ _ w
  · exact walk_far a0 l0 c0 _ _ w (by omega) hx.fits
end Go.Proofs.Ytncikgciclfiaaa.sumOne
