/- strings.Builder: String. -/
import Derived.Test.YtljcmlcdamlbcaaBldC
import Derived.Lib.UnsafeStr
import Derived.Shelf.RegionOpenPlain
namespace Go.Proofs.Ytljcmlcdamlbcaa
open Go.RowKit Go.Grommet

theorem byte_cells : Try.prog.cellsOf 5 = 1 := by kernel_rfl
theorem grown_freeze (w : World) (a : Addr) (n : Nat) : w.grownBy (w.freeze a n) (some a.block) := by
  unfold World.freeze
  by_cases h : n = 0
  · rw [if_pos h]; exact World.grownBy.refl _ _
  · rw [if_neg h]
    refine ⟨rfl, rfl, rfl, by simp, fun k _ hn => ?_⟩
    show (w.heap.modify a.block _)[k]? = _
    rw [Array.getElem?_modify, if_neg (by intro e; exact hn (by rw [e]))]

set_option maxRecDepth 100000 in
set_option maxHeartbeats 2000000 in
theorem String_bytes (B : Nat) (bs : List UInt8) (w : World) (h : BldT B bs w) (h0 : bs ≠ []) :
    Calls Try.prog 24 #[.pointer (some ⟨B, 0, none⟩)] w fun e w' => e = .returned (.string (str bs)) ∧ Turn (FromB B) w w' := by
  obtain ⟨p, hp, ad, cap, hb, hr⟩ := h
  have hl0 : bs.length ≠ 0 := by simpa using h0
  obtain ⟨g, cur, rfl, hbg, hg, hnc, hcm, hcs, htake⟩ : ∃ g cur, ad = some ⟨g, 0, none⟩ ∧ B + 1 ≤ g ∧ w.heap[g]? = some (.cells cur 5 (0, 0)) ∧ bs.length ≤ cap ∧ cap ≤ maxLen ∧ cur.size = cap * 1 ∧ cur.toList.take (bs.length * 1) = bs.map bv := by
    rcases hr.2 with ⟨_, hz⟩ | ⟨g, cap', cur, hv, r⟩
    · exact absurd hz hl0
    · cases hv; exact ⟨g, cur, rfl, r⟩
  have c1 : w.drew.cell? ⟨B, 1, none⟩ = some (.slice (some ⟨g, 0, none⟩) bs.length cap) := by
    have : w.drew.heap[B]? = some (.cells #[p, .slice (some ⟨g, 0, none⟩) bs.length cap] 53 (0, 0)) := hb
    simp [World.cell?] at this ⊢
    simp [this]
  have hSD : ∀ ts ty, (Builtin.unsafeSliceData_ ts ty #[.slice (some ⟨g, 0, none⟩) bs.length cap]).run Try.prog w.drew = .ok (.pointer (some ⟨g, 0, none⟩)) w.drew := fun ts ty =>
    Lib.run_unsafeSliceData_row _ _ _ _ _ _ (by omega)
  have hUS : (Builtin.unsafeString_ #[82, 3] 9 #[.pointer (some ⟨g, 0, none⟩), .int .i64 bs.length]).run Try.prog w.drew = .ok (.string (str bs)) (w.drew.freeze ⟨g, 0, none⟩ bs.length) := by
    refine Lib.run_unsafeString_row w.drew 82 3 9 5 Try.underlying82 byte_cells g cur.size (by have hg' : w.drew.heap[g]? = some (.cells cur 5 (0, 0)) := hg; simp [World.shape?, -World.drew_eq] at hg' ⊢; simp [hg']) bs h0 (by omega) (by unfold maxLen at hcm; omega) ?_
    intro j x hx
    have := hr.cells (g := g) rfl j (.int .u8 x.toNat) (by simp [hx, bv])
    exact this
  have hT := Lib.hid (show Turn (FromB B) w (w.drew.freeze ⟨g, 0, none⟩ bs.length) from Turn.of (grown_trans (grown_drew (World.grownBy.refl w _)) (grown_freeze w.drew ⟨g, 0, none⟩ bs.length)) (fun i e => by cases e; show B ≤ g; omega))
  clear hr hg hb htake hcs hcm hnc
  have mixed : Try.prog.follows Departure.mixedOrders = true := by kernel_rfl
  generalize bs.length = n at *
  go_enter Try.func24, Try.ntmps24
  go_wp2
  go_region_o
  all_goals (go_wp2; go_ret; exact ⟨rfl, hT.out⟩)
end Go.Proofs.Ytljcmlcdamlbcaa
