/- works: the anchor of each statement. -/
import Derived.Test.YtingkjmbeloepaaOctN
namespace Go.Proofs.Ytingkjmbeloepaa
open Go.RowKit Go.Grommet

theorem at_new (w : World) (e : TypeId) (bs : List UInt8) (vs : Array Value) (hv : vs.toList = bs.map bv) (hm : vs.size ≤ 1000) : At (w.alloc (.cells vs e)) (some ⟨w.heap.size, 0, none⟩) (bs.map bv) := by
  have h := World.ownsRow_lit (size := 1) (base := 0) (e := e) w vs vs.size (Nat.zero_le _) (by unfold maxLen; omega) (by omega)
  obtain ⟨ad, cap, he, ha, _⟩ := at_of_owns h
  cases he
  rwa [hv] at ha

def WorksIs (w : World) (e : Ending) (w' : World) : Prop := e = .returned (.bool true) ∧ w.grownBy w' none

theorem num0 : num 0 = [0] := by decide
theorem num258 : num 258 = [2, 2, 1] := by decide
theorem num2 : num 2 = [1, 2] := by decide
theorem words_a : words [97] 1 = [97] := by decide

theorem nr : numberR [2, 2, 0] 0 false = (0, 0, true) := by decide

set_option maxHeartbeats 1000000 in
theorem works_any (w : World) : Calls Try.prog 10 #[] w (WorksIs w) := by
  have hat0 := at_new w 5 [2, 2, 0] #[.int .u8 2, .int .u8 2, .int .u8 0] rfl (by decide)
  have HN := Lib.hid (New_any _ 3 3 [2, 2, 0] _ rfl hat0 (by simp) (by omega))
  clear hat0
  go_enter Try.func10, Try.ntmps10
  go_wp2_with fail
  refine HN.out.mono ?_
  rintro e w1 ⟨g, d, rfl, hT, hg⟩
  have hg1 := grown_trans (World.grownBy_alloc w _ none) hg
  clear hg HN
  have hB : w.heap.size ≤ (w.alloc (.cells #[.int .u8 2, .int .u8 2, .int .u8 0] 5)).heap.size := by simp
  generalize (w.alloc _).heap.size = B at hT hB
  have hn := Number_step_any B g d _ 0 false w1 hT
  rw [nr] at hn
  have HN := Lib.hid hn
  clear hn hT
  go_wp2_with fail
  refine HN.out.mono ?_
  rintro e w2 ⟨rfl, hT, hg2⟩
  clear HN
  have hgB := Nat.le_trans hB hT.low
  have hg1 := grown_new hg1 hg2 (by intro k e; cases e; exact hgB)
  clear hg2
  have hp := Pack_any ⟨#[97]⟩ w2 (by decide)
  rw [show words (bytesOf ⟨#[97]⟩) (((⟨#[97]⟩ : ByteArray).size + 7) / 8) = [97] from by decide] at hp
  have HN := Lib.hid hp
  clear hp
  go_wp2_with fail
  refine HN.out.mono ?_
  rintro e w3 ⟨rfl, hW, hg2⟩
  have hgW : g ≠ w2.heap.size := Nat.ne_of_lt (lt_of_block hT.cells)
  have hT := hT.keep hg2 (by simp) (by simp)
  have hg1 := grown_trans hg1 hg2
  have hW : At w3 (some ⟨w2.heap.size, 0, none⟩) ([97].map wv) := by
    obtain ⟨ad, cap, he, ha, _⟩ := at_of_owns hW
    cases he
    exact ha
  clear hg2 HN
  have HN := Lib.hid (Number_any none 0 0 [] 0 w3 (by decide) rfl (At.nil _ _) (fun _ => ⟨rfl, rfl⟩) (by decide))
  go_wp2_with fail
  refine HN.out.mono ?_
  rintro e w4 ⟨ad4, cap4, rfl, hA, hn4, _, hg2⟩
  have hT := hT.keep hg2 (by simp) (by simp)
  have hg1 := grown_trans hg1 hg2
  have hW := hW.grown hg2 (by simp)
  rw [num0] at hA ⊢
  have hcv := conv_at (P := Try.prog) 22 9 5 Try.underlying22 Try.underlying5 Try.underlying9 (l := 1) (cap := cap4) hA rfl (fun e => absurd (hn4 e).1 (by decide))
  have hq : str ([] ++ [0]) = ⟨#[0]⟩ := rfl
  rw [hq] at hcv
  clear hg2 HN hA hn4 hq
  have hat := at_new w4 5 [7] #[.int .u8 7] rfl (by decide)
  have HN := Lib.hid (Number_any _ 1 1 [7] 258 _ (by decide) rfl hat (by simp) (by decide))
  clear hat
  go_wp2_with fail
  refine HN.out.mono ?_
  rintro e w5 ⟨ad5, cap5, rfl, hA, hn5, _, hg2⟩
  have hg2 := grown_trans (World.grownBy_alloc w4 _ none) hg2
  have hT := hT.keep hg2 (by simp) (by simp)
  have hg1 := grown_trans hg1 hg2
  have hW := hW.grown hg2 (by simp)
  rw [num258] at hA ⊢
  have hcv := conv_at (P := Try.prog) 22 9 5 Try.underlying22 Try.underlying5 Try.underlying9 (l := 4) (cap := cap5) hA rfl (fun e => absurd (hn5 e).1 (by decide))
  have hq : str ([7] ++ [2, 2, 1]) = ⟨#[7, 2, 2, 1]⟩ := rfl
  rw [hq] at hcv
  clear hg2 HN hA hn5 hq
  have HN := Lib.hid (Text_any none 0 0 [] ⟨#[97, 98]⟩ w5 rfl (At.nil _ _) (fun _ => ⟨rfl, rfl⟩) (by decide))
  go_wp2_with fail
  refine HN.out.mono ?_
  rintro e w6 ⟨ad6, cap6, rfl, hA, hn6, _, hg2⟩
  have hT := hT.keep hg2 (by simp) (by simp)
  have hg1 := grown_trans hg1 hg2
  have hW := hW.grown hg2 (by simp)
  have hq : [] ++ num (⟨#[97, 98]⟩ : ByteArray).size ++ bytesOf ⟨#[97, 98]⟩ = [1, 2, 97, 98] := by decide
  rw [hq] at hA ⊢
  have hcv := conv_at (P := Try.prog) 22 9 5 Try.underlying22 Try.underlying5 Try.underlying9 (l := 4) (cap := cap6) hA rfl (fun e => absurd (hn6 e).1 (by rw [hq]; decide))
  have hq : str [1, 2, 97, 98] = ⟨#[1, 2, 97, 98]⟩ := rfl
  rw [hq] at hcv
  clear hg2 HN hA hn6 hq
  have HN := Lib.hid (Torn_some g true w6 hT.facts.2.2.1)
  go_wp2_with fail
  refine HN.out.mono ?_
  rintro e w7 ⟨rfl, rfl⟩
  clear HN
  have HN := Lib.hid (End_torn B g d _ 0 w6 hT)
  go_wp2_with fail
  refine HN.out.mono ?_
  rintro e w7 ⟨rfl, hT7, hg2⟩
  have hW := hW.grown hg2 (by intro a ha _ h; cases ha; cases h; exact hgW rfl)
  have hg1 := grown_new hg1 hg2 (by intro k e; cases e; exact hgB)
  obtain ⟨q, o, he, hc⟩ := hW 0 (wv 97) rfl
  cases he
  have hc' : w7.cell? ⟨w2.heap.size, 0, none⟩ = some (.int .u64 97) := hc
  clear hg2 HN hT hc
  go_wp2
  go_ret
  exact ⟨rfl, hg1⟩
end Go.Proofs.Ytingkjmbeloepaa
