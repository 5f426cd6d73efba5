/- The law's helper that compares words. -/
import Derived.Test.YtingkjmbeloepaaOctW
namespace Go.Proofs.Ytingkjmbeloepaa
open Go.RowKit Go.Grommet

theorem wv_at {w : World} {ad : Option Addr} {xs : List Nat} (h : At w ad (xs.map wv)) (k : Nat) (hk : k < xs.length) :
    ∃ q o, ad = some ⟨q, o, none⟩ ∧ w.cell? ⟨q, o + k, none⟩ = some (.int .u64 ((xs.getD k 0 : Nat) : Int)) := by
  obtain ⟨q, o, he, hc⟩ := h k (wv (xs.getD k 0)) (by simp [hk])
  exact ⟨q, o, he, hc⟩

set_option maxHeartbeats 1000000 in
theorem words_same (ad bd : Option Addr) (l c c' : Nat) (xs : List Nat) (w : World) (hl : xs.length = l) (ha : At w ad (xs.map wv)) (hb : At w bd (xs.map wv)) (hs : l ≤ 1048576) :
    Calls Try.prog 17 #[.slice ad l c, .slice bd l c'] w (WorksIs w) := by
  have Ha := Lib.hid ha
  have Hb := Lib.hid hb
  have Hl := Lib.hid hl
  clear ha hb hl
  go_enter Try.func17, Try.ntmps17
  go_wp2_with fail
  go_loopw [5] (fun i wr => ∃ k : Nat, k ≤ l ∧ i = .int .i64 (k : Int) ∧ w.grownBy wr none) (fun i _ => l - (intOf i).toNat)
  case atStart => exact ⟨0, Nat.zero_le _, rfl, World.grownBy.refl _ _⟩
  case round =>
    obtain ⟨k, hk, rfl, hg⟩ := hrel
    by_cases hlt : k < l
    · have hlt' : (k : Int) < (l : Int) := by omega
      have h0 : (0 : Int) ≤ (k : Int) := by omega
      obtain ⟨q, o, rfl, c1⟩ := wv_at (Ha.out.grown hg (by simp)) k (by rw [Hl.out]; exact hlt)
      obtain ⟨q', o', rfl, c2⟩ := wv_at (Hb.out.grown hg (by simp)) k (by rw [Hl.out]; exact hlt)
      generalize xs.getD k 0 = V at c1 c2
      go_wp2_with fail
      go_quiet (fail)
      go_wp2
      go_roundw
      case rel => exact ⟨k + 1, by omega, by go_num, grown_trans hg (grown_drewN _ _ _)⟩
      case measure => simp [intOf]; omega
    · obtain rfl : k = l := by omega
      go_wp2
      go_ret
      exact ⟨rfl, hg⟩
end Go.Proofs.Ytingkjmbeloepaa
