/- Package lock, a table in which nobody waits: has, Holds, Index and Contains of nothing. -/
import Derived.Test.YtclicjdgkcnihaaRows
import Derived.Test.YtclicjdgkcnihaaHeap
import Derived.Test.YtclicjdgkcnihaaSame
import Derived.BigQuiet
import Derived.Deep.QuietTactic
namespace Go.Proofs.Ytclicjdgkcnihaa
open Go.RowKit Go.Grommet

/-- The cells of a table where nobody waits: how many workers, who holds each lock. -/
def tcell (m : Nat) (f : Nat → Int) (j : Nat) : Value := if j = 0 then .int .i64 (m : Int) else if j % 2 = 1 then .int .i64 (f (j / 2)) else .slice none 0 0
def tabC (m : Nat) (f : Nat → Int) : Array Value := ((List.range 141).map (tcell m f)).toArray
theorem tabC_get (m : Nat) (f : Nat → Int) (j : Nat) (h : j < 141) : (tabC m f)[j]? = some (tcell m f j) := by
  unfold tabC; rw [List.getElem?_toArray, List.getElem?_map, List.getElem?_range h]; rfl
theorem tabC_size (m : Nat) (f : Nat → Int) : (tabC m f).size = 141 := by unfold tabC; simp
theorem tabC_ext (m : Nat) (f : Nat → Int) (cs : Array Value) (hs : cs.size = 141) (h : ∀ j, j < 141 → cs[j]? = some (tcell m f j)) : cs = tabC m f := by
  apply Array.ext_getElem?
  intro n
  by_cases hn : n < 141
  · rw [h n hn, tabC_get m f n hn]
  · rw [Array.getElem?_eq_none (by omega), Array.getElem?_eq_none (by rw [tabC_size]; omega)]
def seth (f : Nat → Int) (k : Nat) (v : Int) : Nat → Int := fun i => if i = k then v else f i
theorem tcell_holder (m : Nat) (f : Nat → Int) (k : Nat) : tcell m f (1 + k * 2) = .int .i64 (f k) := by
  unfold tcell
  rw [if_neg (by omega), if_pos (by omega), show (1 + k * 2) / 2 = k by omega]
theorem tcell_queue (m : Nat) (f : Nat → Int) (k : Nat) : tcell m f (1 + k * 2 + 1) = .slice none 0 0 := by
  unfold tcell
  rw [if_neg (by omega), if_neg (by omega)]
theorem tabC_set (m : Nat) (f : Nat → Int) (k : Nat) (v : Int) (h : k < 70) : (tabC m f).setIfInBounds (1 + k * 2) (.int .i64 v) = tabC m (seth f k v) := by
  refine tabC_ext _ _ _ (by simp [tabC_size]) (fun j hj => ?_)
  by_cases e : 1 + k * 2 = j
  · subst e
    rw [Array.getElem?_setIfInBounds_self_of_lt (by rw [tabC_size]; exact hj), tcell_holder]
    unfold seth; rw [if_pos rfl]
  · rw [Array.getElem?_setIfInBounds_ne e, tabC_get _ _ _ hj]
    unfold tcell seth
    by_cases h0 : j = 0
    · rw [if_pos h0, if_pos h0]
    · rw [if_neg h0, if_neg h0]
      by_cases h1 : j % 2 = 1
      · rw [if_pos h1, if_pos h1, if_neg (by omega)]
      · rw [if_neg h1, if_neg h1]

def tabP (X m : Nat) (f : Nat → Int) : Pr := boxP X 49 (tabC m f)
def TabIs (w : World) (X m : Nat) (f : Nat → Int) : Prop := w.heap[X]? = some (.cells (tabC m f) 49 (0, 0))
theorem TabIs.cell {w : World} {X m : Nat} {f : Nat → Int} (h : TabIs w X m f) (j : Nat) (hj : j < 141) : w.cell? ⟨X, j, none⟩ = some (tcell m f j) := by
  unfold TabIs at h
  simp [World.cell?, h, tabC_get m f j hj]
theorem TabIs.workers {w : World} {X m : Nat} {f : Nat → Int} (h : TabIs w X m f) : w.cell? ⟨X, 0, none⟩ = some (.int .i64 (m : Int)) := h.cell 0 (by decide)
theorem TabIs.holder {w : World} {X m : Nat} {f : Nat → Int} (h : TabIs w X m f) (k : Nat) (hk : k < 70) : w.cell? ⟨X, 1 + k * 2, none⟩ = some (.int .i64 (f k)) := by rw [h.cell _ (by omega), tcell_holder]
theorem TabIs.queue {w : World} {X m : Nat} {f : Nat → Int} (h : TabIs w X m f) (k : Nat) (hk : k < 70) : w.cell? ⟨X, 1 + k * 2 + 1, none⟩ = some (.slice none 0 0) := by rw [h.cell _ (by omega), tcell_queue]

def tptr (X : Nat) : Value := .pointer (some ⟨X, 0, none⟩)

theorem has_yes (w : World) (X m : Nat) (f : Nat → Int) (h : TabIs w X m f) (a : Nat) (ha : a < m) : Calls Try.prog 19 #[tptr X, .int .i64 (a : Int)] w fun e w' => e = .returned (.bool true) ∧ w' = w := by
  have c0 := h.workers
  have h1 : (0 : Int) ≤ (a : Int) := by omega
  have h2 : (a : Int) < (m : Int) := by omega
  unfold tptr
  clear h ha
  go_enter Try.func19, Try.ntmps19
  go_wp2
  go_ret
  exact ⟨rfl, rfl⟩

theorem Holds_yes (w : World) (X m : Nat) (f : Nat → Int) (h : TabIs w X m f) (a k : Nat) (ha : a < m) (hk : k < 70) : Calls Try.prog 15 #[tptr X, .int .i64 (a : Int), .int .i64 (k : Int)] w fun e w' => e = .returned (.bool (f k == (a : Int))) ∧ w' = w := by
  have HA := Lib.hid (has_yes w X m f h a ha)
  have c1 := h.holder k hk
  have k0 : (0 : Int) ≤ (k : Int) := by omega
  have k1 : (k : Int) < 70 := by omega
  unfold tptr at HA ⊢
  obtain ⟨u, hu⟩ : ∃ u, f k = u := ⟨_, rfl⟩
  rw [hu] at c1 ⊢
  clear h ha hk hu
  go_enter Try.func15, Try.ntmps15
  go_wp2_with fail
  refine HA.out.mono ?_
  rintro e w1 ⟨rfl, rfl⟩
  go_wp2
  go_ret
  exact ⟨rfl, rfl⟩

theorem Index_nil (w : World) (a : Int) : Calls Try.prog 28 #[.slice none 0 0, .int .i64 a] w fun e w' => e = .returned (.int .i64 (-1)) ∧ w' = w := by
  go_enter Try.func28, Try.ntmps28
  go_wp2_with fail
  go_loopw [8] (fun s wr => s = .int .i64 0 ∧ wr = w) (fun s _ => 0)
  case atStart => exact ⟨rfl, rfl⟩
  case round =>
    obtain ⟨rfl, rfl⟩ := hrel
    go_wp2
    go_ret
    exact ⟨rfl, rfl⟩
theorem Contains_nil (w : World) (a : Int) : Calls Try.prog 24 #[.slice none 0 0, .int .i64 a] w fun e w' => e = .returned (.bool false) ∧ w' = w := by
  have HI := Lib.hid (Index_nil w a)
  go_enter Try.func24, Try.ntmps24
  go_wp2_with fail
  refine HI.out.mono ?_
  rintro e w1 ⟨rfl, rfl⟩
  go_wp2
  go_ret
  exact ⟨rfl, rfl⟩
end Go.Proofs.Ytclicjdgkcnihaa
