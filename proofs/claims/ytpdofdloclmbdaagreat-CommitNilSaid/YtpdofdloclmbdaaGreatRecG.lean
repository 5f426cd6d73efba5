/- The document's record: Mark. -/
import Derived.Test.YtpdofdloclmbdaaGreatRecF
import Derived.Test.YtpdofdloclmbdaaGreatSumC
import Derived.Test.YtpdofdloclmbdaaGreatLayS
namespace Go.Proofs.YtpdofdloclmbdaaGreat
open Go.RowKit Go.Grommet

set_option maxHeartbeats 1000000 in
theorem RefMark_any (ad : Option Addr) (l c : Nat) (xs : List Nat) (w : World) (hx : Words w ad l xs) :
    Calls Tryz.prog 64 #[.slice ad l c] w fun e w' => e = .returned (.int .u64 (markV xs : Int)) ∧ w.grownBy w' none := by
  have HX := Lib.hid hx.len
  by_cases h0 : 0 < l
  · obtain ⟨q, o, rfl, c0⟩ := hx.cell 0 h0
    rw [Nat.add_zero] at c0
    obtain ⟨n, Hn⟩ : ∃ n, Hid (n = xs.getD 0 0) := ⟨_, Lib.hid rfl⟩
    rw [← Hn.out] at c0
    have e1 : ¬ (l : Int) < 1 := by omega
    by_cases h1 : n ≤ 96
    · have e2 : ¬ (96 : Int) < (n : Int) := by omega
      have e4 : IntKind.i64.wrap (n : Int) = (n : Int) := IntWalk.i64_in _ ⟨by omega, by omega⟩
      by_cases h2 : 2 + 2 * n ≤ l
      · have e3 : ¬ (l : Int) < 2 + 2 * (n : Int) := by omega
        obtain ⟨q', o', he, c1⟩ := hx.cell (1 + 2 * n) (by omega)
        cases he
        have HM : Hid (markV xs = (xs.getD (1 + 2 * n) 0 * 65536 + n * 256 + 1) % 18446744073709551616) := Lib.hid (by
          unfold markV
          rw [if_pos (by unfold cutB; rw [decide_eq_true_eq, ← Hn.out, HX.out]; omega), ← Hn.out])
        obtain ⟨S, HS⟩ : ∃ S, Hid (S = xs.getD (1 + 2 * n) 0) := ⟨_, Lib.hid rfl⟩
        rw [← HS.out] at c1 HM
        obtain ⟨k, Hk⟩ : ∃ k, Hid (k = 1 + 2 * n) := ⟨_, Lib.hid rfl⟩
        rw [← Hk.out] at c1
        have ek : (1 : Int) + 2 * (n : Int) = (k : Int) := by rw [Hk.out]; omega
        have ekl : (k : Int) < (l : Int) := by rw [Hk.out]; omega
        have e5 : (0 : Int) < (l : Int) := by omega
        clear hx h2
        go_enter Tryz.func64, Tryz.ntmps64
        go_wp2_with fail
        go_quiet (fail)
        go_wp2
        go_ret
        exact ⟨by rw [HM.out, ← mark_int S n h1]; rfl, grown_drewN _ _ _⟩
      · have e3 : (l : Int) < 2 + 2 * (n : Int) := by omega
        have HM : Hid (markV xs = 0) := Lib.hid (by
          unfold markV
          rw [if_neg (by unfold cutB; rw [decide_eq_true_eq, ← Hn.out, HX.out]; omega)])
        have e5 : (0 : Int) < (l : Int) := by omega
        clear hx h2
        go_enter Tryz.func64, Tryz.ntmps64
        go_wp2
        go_ret
        exact ⟨by rw [HM.out]; rfl, World.grownBy.refl _ _⟩
    · have e2 : (96 : Int) < (n : Int) := by omega
      have HM : Hid (markV xs = 0) := Lib.hid (by
          unfold markV
          rw [if_neg (by unfold cutB; rw [decide_eq_true_eq, ← Hn.out, HX.out]; omega)])
      have e5 : (0 : Int) < (l : Int) := by omega
      clear hx
      go_enter Tryz.func64, Tryz.ntmps64
      go_wp2
      go_ret
      exact ⟨by rw [HM.out]; rfl, World.grownBy.refl _ _⟩
  · obtain rfl : l = 0 := by omega
    have HM : Hid (markV xs = 0) := Lib.hid (by
          unfold markV
          rw [if_neg (by unfold cutB; rw [decide_eq_true_eq, HX.out]; omega)])
    clear hx h0
    go_enter Tryz.func64, Tryz.ntmps64
    go_wp2
    go_ret
    exact ⟨by rw [HM.out]; rfl, World.grownBy.refl _ _⟩
end Go.Proofs.YtpdofdloclmbdaaGreat
