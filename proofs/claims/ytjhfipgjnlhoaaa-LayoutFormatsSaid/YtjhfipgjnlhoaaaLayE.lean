/- The anchor of layer 4. -/
import Derived.Test.YtjhfipgjnlhoaaaLayD
-- OPTIONAL
namespace Go.Proofs.Ytjhfipgjnlhoaaa
open Go.RowKit Go.Grommet

def WorksIs (w : World) (e : Ending) (w' : World) : Prop := e = .returned (.bool true) ∧ w.grownBy w' none

set_option maxHeartbeats 2000000 in
theorem works_any (w : World) : Calls Try.prog 4 #[] w (WorksIs w) := by
  have H1 := Lib.hid (fun wx => May_any 1 2 2 wx)
  rw [show mayB 1 2 2 = true from rfl] at H1
  have H2 := Lib.hid (fun wx => Words_any 1 2 2 wx)
  rw [show wordsV 1 2 2 = 536 from rfl] at H2
  have H3 := Lib.hid (fun wx => SlotAt_any 0 1 wx)
  rw [show slotV 0 1 = 28 from rfl] at H3
  have H4 := Lib.hid (fun wx => AreaAt_any 1 2 2 0 wx)
  rw [show areaV 1 2 2 0 = 264 from rfl] at H4
  have H5 := Lib.hid (fun wx => Words_any 0 0 0 wx)
  rw [show wordsV 0 0 0 = 0 from rfl] at H5
  have H6 := Lib.hid (fun wx => AreaAt_any 1 2 2 1 wx)
  rw [show areaV 1 2 2 1 = -1 from rfl] at H6
  have H7 := Lib.hid (fun wx => Format_any 1 2 2 wx rfl)
  unfold NewWords gv at H7
  rw [length_fmtL] at H7
  have HN := Lib.hid (show 280 + 208 * 1 + 16 * 2 + 8 * 2 = 536 from rfl)
  rw [HN.out] at H7
  unfold gv at H1 H2 H4 H5 H6
  have hb : (w.alloc (.cells #[.int .i64 1, .int .i64 2, .int .i64 2] 23)).heap[w.heap.size]? = some (.cells #[.int .i64 1, .int .i64 2, .int .i64 2] 23 (0, 0)) := heap_alloc_new w _
  have hg := World.grownBy_alloc w (.cells #[.int .i64 1, .int .i64 2, .int .i64 2] 23) none
  go_enter Try.func4, Try.ntmps4
  go_wp2_with fail
  refine (H1.out _).mono ?_
  rintro e w1 ⟨rfl, hgx⟩
  have hb := (hgx.block _ (lt_of_block hb) (by simp)).trans hb
  have hg := grown_trans hg hgx
  clear hgx H1
  have f0 : w1.cell? ⟨w.heap.size, 0, none⟩ = some (.int .i64 1) := by simp [World.cell?, hb]
  have f1 : w1.cell? ⟨w.heap.size, 1, none⟩ = some (.int .i64 2) := by simp [World.cell?, hb]
  have f2 : w1.cell? ⟨w.heap.size, 2, none⟩ = some (.int .i64 2) := by simp [World.cell?, hb]
  go_wp2_with fail
  refine (H2.out _).mono ?_
  rintro e w2 ⟨rfl, hgx⟩
  have hb := (hgx.block _ (lt_of_block hb) (by simp)).trans hb
  clear f0 f1 f2
  have hg := grown_trans hg hgx
  clear hgx H2
  have f0 : w2.cell? ⟨w.heap.size, 0, none⟩ = some (.int .i64 1) := by simp [World.cell?, hb]
  have f1 : w2.cell? ⟨w.heap.size, 1, none⟩ = some (.int .i64 2) := by simp [World.cell?, hb]
  have f2 : w2.cell? ⟨w.heap.size, 2, none⟩ = some (.int .i64 2) := by simp [World.cell?, hb]
  go_wp2_with fail
  refine (H3.out _).mono ?_
  rintro e w3 ⟨rfl, hgx⟩
  have hb := (hgx.block _ (lt_of_block hb) (by simp)).trans hb
  clear f0 f1 f2
  have hg := grown_trans hg hgx
  clear hgx H3
  have f0 : w3.cell? ⟨w.heap.size, 0, none⟩ = some (.int .i64 1) := by simp [World.cell?, hb]
  have f1 : w3.cell? ⟨w.heap.size, 1, none⟩ = some (.int .i64 2) := by simp [World.cell?, hb]
  have f2 : w3.cell? ⟨w.heap.size, 2, none⟩ = some (.int .i64 2) := by simp [World.cell?, hb]
  go_wp2_with fail
  refine (H4.out _).mono ?_
  rintro e w4 ⟨rfl, hgx⟩
  have hb := (hgx.block _ (lt_of_block hb) (by simp)).trans hb
  clear f0 f1 f2
  have hg := grown_trans hg hgx
  clear hgx H4
  have f0 : w4.cell? ⟨w.heap.size, 0, none⟩ = some (.int .i64 1) := by simp [World.cell?, hb]
  have f1 : w4.cell? ⟨w.heap.size, 1, none⟩ = some (.int .i64 2) := by simp [World.cell?, hb]
  have f2 : w4.cell? ⟨w.heap.size, 2, none⟩ = some (.int .i64 2) := by simp [World.cell?, hb]
  go_wp2_with fail
  refine (H5.out _).mono ?_
  rintro e w5 ⟨rfl, hgx⟩
  have hb := (hgx.block _ (lt_of_block hb) (by simp)).trans hb
  clear f0 f1 f2
  have hg := grown_trans hg hgx
  clear hgx H5
  have f0 : w5.cell? ⟨w.heap.size, 0, none⟩ = some (.int .i64 1) := by simp [World.cell?, hb]
  have f1 : w5.cell? ⟨w.heap.size, 1, none⟩ = some (.int .i64 2) := by simp [World.cell?, hb]
  have f2 : w5.cell? ⟨w.heap.size, 2, none⟩ = some (.int .i64 2) := by simp [World.cell?, hb]
  go_wp2_with fail
  refine (H6.out _).mono ?_
  rintro e w6 ⟨rfl, hgx⟩
  have hb := (hgx.block _ (lt_of_block hb) (by simp)).trans hb
  clear f0 f1 f2
  have hg := grown_trans hg hgx
  clear hgx H6
  have f0 : w6.cell? ⟨w.heap.size, 0, none⟩ = some (.int .i64 1) := by simp [World.cell?, hb]
  have f1 : w6.cell? ⟨w.heap.size, 1, none⟩ = some (.int .i64 2) := by simp [World.cell?, hb]
  have f2 : w6.cell? ⟨w.heap.size, 2, none⟩ = some (.int .i64 2) := by simp [World.cell?, hb]
  go_wp2_with fail
  refine (H7.out _).mono ?_
  rintro e w7 ⟨g, rfl, _, _, hgx⟩
  have hg := grown_trans hg hgx
  go_wp2
  go_ret
  exact ⟨rfl, hg⟩

theorem where_mk {a b c x : Int} {p q r s : Int} {w w' : World} (h : whereV a b c x = (p, q, r, s)) (hg : w.grownBy w' none) :
    Ending.returned (.tuple #[.int .u8 p, .int .i64 q, .int .i64 r, .int .i64 s]) = .returned (.tuple #[.int .u8 (whereV a b c x).1, .int .i64 (whereV a b c x).2.1, .int .i64 (whereV a b c x).2.2.1, .int .i64 (whereV a b c x).2.2.2]) ∧ w.grownBy w' none := by
  rw [h]; exact ⟨rfl, hg⟩

def WhereIs (v : Int × Int × Int × Int) (w : World) (e : Ending) (w' : World) : Prop := e = .returned (.tuple #[.int .u8 v.1, .int .i64 v.2.1, .int .i64 v.2.2.1, .int .i64 v.2.2.2]) ∧ w.grownBy w' none

theorem findR_kind (l : List Row) (x : Int) (P : Int → Prop) (h0 : P 0) (h : ∀ r ∈ l, P r.kind) : P (findR l x).1 := by
  induction l generalizing x with
  | nil => exact h0
  | cons r t ih =>
    rw [findR]
    split
    · exact h r (by simp)
    · exact ih _ (fun y hy => h y (by simp [hy]))

theorem findR_rest (l : List Row) (x : Int) (hx : 0 ≤ x) (h : ∀ r ∈ l, r.ok) : 0 ≤ (findR l x).2.2 ∧ (findR l x).2.2 ≤ 1000 := by
  induction l generalizing x with
  | nil => simp [findR]
  | cons r t ih =>
    rw [findR]
    split
    · obtain ⟨_, _, _, _, h4, h5⟩ := h r (by simp)
      have a := Int.emod_nonneg x (show r.size ≠ 0 by omega)
      have b := Int.emod_lt_of_pos x (show 0 < r.size by omega)
      exact ⟨a, by dsimp only; omega⟩
    · exact ih _ (by omega) (fun y hy => h y (by simp [hy]))

end Go.Proofs.Ytjhfipgjnlhoaaa
