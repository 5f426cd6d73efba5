/- The document's sum, and the anchor. -/
import Derived.Test.YtpdofdloclmbdaaGreatSumB
import Derived.Test.YtpdofdloclmbdaaGreatBase4
namespace Go.Proofs.YtpdofdloclmbdaaGreat
open Go.RowKit Go.Grommet

set_option maxHeartbeats 1000000 in
theorem RefOf_any (ad : Option Addr) (l cap : Nat) (xs : List Nat) (w : World) (hx : Words w ad l xs) :
    Calls Tryz.prog 100 #[.slice ad l cap] w fun e w' => e = .returned (.int .u64 ((sumN xs : Nat) : Int)) ∧ w = w' := by
  have hfit := hx.fits
  have HL := Lib.hid hx.len
  go_enter Tryz.func100, Tryz.ntmps100
  go_wp2_with fail
  go_loop [3, 4] (fun s i => ∃ k : Nat, k ≤ l ∧ i = .int .i64 (k : Int) ∧ s = .int .u64 ((sumN (xs.take k) : Nat) : Int)) (fun _ i => l - (intOf i).toNat)
  case atStart => exact ⟨0, Nat.zero_le _, rfl, rfl⟩
  case round =>
    obtain ⟨k, hk, rfl, rfl⟩ := hrel
    by_cases hlt : k < l
    · have hlt' : (k : Int) < (l : Int) := by omega
      have h0 : (0 : Int) ≤ (k : Int) := by omega
      have hsm := hx.get k hlt
      obtain ⟨q, o, rfl, c1⟩ := wv_at hx.at_ k (by rw [HL.out]; exact hlt)
      have HS := Lib.hid (take_succ' xs k (by rw [HL.out]; exact hlt))
      generalize xs.getD k 0 = V at c1 hsm HS
      have HT := Lib.hid (stp_int (sumN (xs.take k)) V (sumN_lt _) hsm)
      go_wp2
      go_round
      case rel => exact ⟨k + 1, by omega, by go_num, by rw [HS.out, sumN_snoc, ← HT.out]⟩
      case measure => simp [intOf]; omega
    · obtain rfl : k = l := by omega
      have he : Ending.returned (.int .u64 ((sumN (xs.take k) : Nat) : Int)) = Ending.returned (.int .u64 ((sumN xs : Nat) : Int)) := by
        rw [List.take_of_length_le (by rw [HL.out]; exact Nat.le_refl _)]
      have HE := Lib.hid he
      clear he
      go_wp2
      go_ret
      exact ⟨HE.out, rfl⟩


end Go.Proofs.YtpdofdloclmbdaaGreat
