/- The document's sum, and the anchor. -/
import Derived.Test.YtncikgciclfiaaaSumB
import Derived.Test.YtncikgciclfiaaaBase4
namespace Go.Proofs.Ytncikgciclfiaaa
open Go.RowKit Go.Grommet

set_option maxHeartbeats 1000000 in
theorem RefOf_any (ad : Option Addr) (l cap : Nat) (xs : List Nat) (w : World) (hx : Words w ad l xs) :
    Calls Try.prog 11 #[.slice ad l cap] w fun e w' => e = .returned (.int .u64 ((sumN xs : Nat) : Int)) ∧ w = w' := by
  have hfit := hx.fits
  have HL := Lib.hid hx.len
  go_enter Try.func11, Try.ntmps11
  go_wp2_with fail
  go_loop [3, 4] (fun s i => ∃ k : Nat, k ≤ l ∧ i = .int .i64 (k : Int) ∧ s = .int .u64 ((sumN (xs.take k) : Nat) : Int)) (fun _ i => l - (intOf i).toNat)
  case atStart => exact ⟨0, Nat.zero_le _, rfl, rfl⟩
  case round =>
    obtain ⟨k, hk, rfl, rfl⟩ := hrel
    by_cases hlt : k < l
    · have hlt' : (k : Int) < (l : Int) := by omega
      have h0 : (0 : Int) ≤ (k : Int) := by omega
      have hsm := hx.get k hlt
      obtain ⟨q, o, rfl, c1⟩ := wv_at hx.at_ k (by rw [HL.out]; exact hlt)
      have HS := Lib.hid (take_succ' xs k (by rw [HL.out]; exact hlt))
      generalize xs.getD k 0 = V at c1 hsm HS
      have HT := Lib.hid (stp_int (sumN (xs.take k)) V (sumN_lt _) hsm)
      go_wp2
      go_round
      case rel => exact ⟨k + 1, by omega, by go_num, by rw [HS.out, sumN_snoc, ← HT.out]⟩
      case measure => simp [intOf]; omega
    · obtain rfl : k = l := by omega
      have he : Ending.returned (.int .u64 ((sumN (xs.take k) : Nat) : Int)) = Ending.returned (.int .u64 ((sumN xs : Nat) : Int)) := by
        rw [List.take_of_length_le (by rw [HL.out]; exact Nat.le_refl _)]
      have HE := Lib.hid he
      clear he
      go_wp2
      go_ret
      exact ⟨HE.out, rfl⟩

def WorksIs (w : World) (e : Ending) (w' : World) : Prop := e = .returned (.bool true) ∧ w.grownBy w' none

theorem wordsNil (w : World) : Words w none 0 [] := ⟨rfl, by simp, At.nil _ _, by decide⟩

theorem at_new_w (w : World) (e : TypeId) (xs : List Nat) (vs : Array Value) (hv : vs = (xs.map wv).toArray) : At (w.alloc (.cells vs e)) (some ⟨w.heap.size, 0, none⟩) (xs.map wv) := by
  subst hv
  exact at_of_row (heap_alloc_new w _)

set_option maxHeartbeats 1000000 in
theorem works_any (w : World) : Calls Try.prog 8 #[] w (WorksIs w) := by
  go_enter Try.func8, Try.ntmps8
  go_wp2_with fail
  refine (New_any _).mono ?_
  rintro e w1 ⟨rfl, hN, hg⟩
  have HN := Lib.hid (Now_some w.heap.size _ _ _ hN)
  go_wp2_with fail
  refine HN.out.mono ?_
  rintro e w2 ⟨rfl, rfl⟩
  clear HN
  have hd : ((sumN [] : Nat) : Int) = 14695981039346656037 := rfl
  have ho := Of_any none 0 0 [] w1 (wordsNil _)
  unfold NumMade at ho
  rw [hd] at ho
  have HO := Lib.hid ho
  clear ho hd
  go_wp2_with fail
  refine HO.out.mono ?_
  rintro e w2 ⟨rfl, hg2⟩
  clear HO
  have hN := hN.keep hg2 (by simp)
  have hg := grown_trans hg hg2
  clear hg2
  have HN := Lib.hid (Now_some w.heap.size _ _ _ hN)
  go_wp2_with fail
  refine HN.out.mono ?_
  rintro e w3 ⟨rfl, rfl⟩
  clear HN
  have hW : Words (w2.alloc (.cells #[.int .u64 1] 26)) (some ⟨w2.heap.size, 0, none⟩) 1 [1] := ⟨rfl, by simp, at_new_w w2 _ [1] _ rfl, by decide⟩
  have hd : ((sumN [1] : Nat) : Int) = 12638152016183539244 := rfl
  have ho := Of_any _ 1 1 [1] _ hW
  unfold NumMade at ho
  rw [hd] at ho
  have HO := Lib.hid ho
  clear ho hd hW
  go_wp2_with fail
  refine HO.out.mono ?_
  rintro e w3 ⟨rfl, hg2⟩
  clear HO
  have hg2 := grown_trans (World.grownBy_alloc w2 _ none) hg2
  have hN := hN.keep hg2 (by simp)
  have hg := grown_trans hg hg2
  clear hg2
  have HN := Lib.hid (Now_some w.heap.size _ _ _ hN)
  go_wp2_with fail
  refine HN.out.mono ?_
  rintro e w4 ⟨rfl, rfl⟩
  clear HN
  go_wp2
  go_ret
  exact ⟨rfl, hg⟩
end Go.Proofs.Ytncikgciclfiaaa
