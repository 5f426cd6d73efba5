/- The document's Of: a number too great. -/
import Derived.Test.YtjhfipgjnlhoaaaLayP
-- OPTIONAL
namespace Go.Proofs.Ytjhfipgjnlhoaaa
open Go.RowKit Go.Grommet

set_option maxRecDepth 100000 in
set_option maxHeartbeats 1000000 in
theorem ROf_big (ad : Option Addr) (l cap : Nat) (ws : List Nat) (w : World) (h : Words w ad l ws) (hl : ¬ l < 8) (hm : ws.getD 0 0 = 32762617960297063) (hbig : ¬ ∀ j, 1 ≤ j → j < 4 → ws.getD j 0 ≤ 512) : Calls Try.prog 9 #[.slice ad l cap] w (ROfIs (ofV ws) w) := by
  have hv : ofV ws = none := by
    unfold ofV
    refine if_neg (fun x => hbig ?_)
    have hq := mayB_yes x.2.2.1
    intro j h1 h2
    have hj : j = 1 ∨ j = 2 ∨ j = 3 := by omega
    rcases hj with rfl | rfl | rfl <;> omega
  have hl' : ¬ (l : Int) < 8 := by omega
  have hl0 : (0 : Int) < (l : Int) := by omega
  obtain ⟨q, o, rfl, c0⟩ := h.cell 0 (by omega)
  rw [Nat.add_zero, hm] at c0
  have hga := World.grownBy_alloc w (.cells #[.int .i64 0, .int .i64 0, .int .i64 0] 27) none
  have c0a := hga.cell c0 (by simp)
  have c0b : (w.alloc (.cells #[.int .i64 0, .int .i64 0, .int .i64 0] 27)).cell? ⟨q, o, none⟩ = some (.int .u64 32762617960297063) := c0a
  have HC := Lib.hid (fun j (hj : j < l) => (h.keep hga (by simp)).cell j hj)
  have hr := fun hg => rofIs_none (w := w) (w' := w.alloc (.cells #[.int .i64 0, .int .i64 0, .int .i64 0] 27)) hv hg
  have HR := Lib.hid (hr hga)
  have HB := Lib.hid hbig
  have hl8 : 8 ≤ l := by omega
  clear hr hv hl h hm c0 c0a hga hbig
  go_enter Try.func9, Try.ntmps9
  go_wp2_with fail
  go_loopw [4] (fun i wr => ∃ k : Nat, 1 ≤ k ∧ k ≤ 4 ∧ i = .int .i64 (k : Int) ∧ Hid (∀ j, 1 ≤ j → j < k → ws.getD j 0 ≤ 512) ∧ wr = w.alloc (.cells #[.int .i64 0, .int .i64 0, .int .i64 0] 27)) (fun i _ => 4 - (intOf i).toNat)
  case atStart => exact ⟨1, by omega, by omega, rfl, Lib.hid (fun j h1 h2 => by omega), rfl⟩
  case round =>
    clear c0b
    obtain ⟨k, k1, k4, rfl, HK, rfl⟩ := hrel
    have k0 : (0 : Int) ≤ (k : Int) := by omega
    by_cases hlt : k < 4
    · have hlt' : (k : Int) < 4 := by omega
      have hkl : (k : Int) < (l : Int) := by omega
      obtain ⟨q', o', he, c1⟩ := HC.out k (by omega)
      cases he
      obtain ⟨A, HA⟩ : ∃ A, Hid (A = ws.getD k 0) := ⟨_, Lib.hid rfl⟩
      rw [← HA.out] at c1
      by_cases hA : A ≤ 512
      · have gA : ¬ (512 : Int) < (A : Int) := by omega
        have HK2 : Hid (∀ j, 1 ≤ j → j < k + 1 → ws.getD j 0 ≤ 512) := Lib.hid (fun j h1 h2 => by
          by_cases e : j = k
          · subst e; rw [← HA.out]; exact hA
          · exact HK.out j h1 (by omega))
        go_wp2
        go_roundw
        case rel => exact ⟨k + 1, by omega, by omega, by go_num, HK2, trivial⟩
        case measure => simp [intOf]; omega
      · have gA : (512 : Int) < (A : Int) := by omega
        clear hA HK
        go_wp2
        exact bodyPost_ret (v := .tuple #[.agg #[.int .i64 0, .int .i64 0, .int .i64 0], .bool false]) (by simp [results, Try.results9, go_sem]) rfl HR.out
    · obtain rfl : k = 4 := by omega
      exact absurd HK.out HB.out
end Go.Proofs.Ytjhfipgjnlhoaaa
