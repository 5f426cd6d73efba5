/- Package layout: May, the tables, their sums. -/
import Derived.Test.YtdpkpphjpihhkaaRows
import Derived.Test.YtdpkpphjpihhkaaBase5
import Derived.Test.YtdpkpphjpihhkaaLayMath
import Derived.BigQuiet
import Derived.Deep.QuietTactic
import Derived.Deep.RegionHeld
-- OPTIONAL
namespace Go.Proofs.Ytdpkpphjpihhkaa
open Go.RowKit Go.Grommet

def gv (a b c : Int) : Value := .agg #[.int .i64 a, .int .i64 b, .int .i64 c]
def rv (r : Row) : Value := .agg #[.int .u8 r.kind, .int .i64 r.many, .int .i64 r.size]
def rowCells (r : Row) : List Value := [.int .u8 r.kind, .int .i64 r.many, .int .i64 r.size]

def IntIs (v : Int) (w : World) (e : Ending) (w' : World) : Prop := e = .returned (.int .i64 v) ∧ w.grownBy w' none
def BoolIs (v : Bool) (w : World) (e : Ending) (w' : World) : Prop := e = .returned (.bool v) ∧ w.grownBy w' none

theorem boolIs_mk {v x : Bool} {w w' : World} (h : v = x) (hg : w.grownBy w' none) : BoolIs v w (.returned (.bool x)) w' := ⟨by rw [h], hg⟩

set_option maxHeartbeats 1000000 in
theorem May_any (a b c : Int) (w : World) : Calls Try.prog 86 #[gv a b c] w (BoolIs (mayB a b c) w) := by
  unfold gv
  by_cases h1 : 1 ≤ a
  · by_cases h2 : a ≤ 4
    · by_cases h3 : 2 ≤ b
      · by_cases h4 : b ≤ 64
        · by_cases h5 : 2 ≤ c
          · by_cases h6 : c ≤ 512
            · have hv : mayB a b c = true := by unfold mayB; rw [decide_eq_true_eq]; omega
              rw [hv]
              go_enter Try.func86, Try.ntmps86
              go_wp2
              go_ret
              exact ⟨rfl, World.grownBy_alloc w _ none⟩
            · have hv : mayB a b c = false := by unfold mayB; rw [decide_eq_false_iff_not]; omega
              have hd : decide (c ≤ 512) = false := by simpa using h6
              rw [hv]
              go_enter Try.func86, Try.ntmps86
              go_wp2
              go_ret
              exact ⟨rfl, World.grownBy_alloc w _ none⟩
          · have hv : mayB a b c = false := by unfold mayB; rw [decide_eq_false_iff_not]; omega
            have hd : decide (2 ≤ c) = false := by simpa using h5
            rw [hv]
            go_enter Try.func86, Try.ntmps86
            go_wp2
            go_ret
            exact ⟨rfl, World.grownBy_alloc w _ none⟩
        · have hv : mayB a b c = false := by unfold mayB; rw [decide_eq_false_iff_not]; omega
          have hd : decide (b ≤ 64) = false := by simpa using h4
          rw [hv]
          go_enter Try.func86, Try.ntmps86
          go_wp2
          go_ret
          exact ⟨rfl, World.grownBy_alloc w _ none⟩
      · have hv : mayB a b c = false := by unfold mayB; rw [decide_eq_false_iff_not]; omega
        have hd : decide (2 ≤ b) = false := by simpa using h3
        rw [hv]
        go_enter Try.func86, Try.ntmps86
        go_wp2
        go_ret
        exact ⟨rfl, World.grownBy_alloc w _ none⟩
    · have hv : mayB a b c = false := by unfold mayB; rw [decide_eq_false_iff_not]; omega
      have hd : decide (a ≤ 4) = false := by simpa using h2
      rw [hv]
      go_enter Try.func86, Try.ntmps86
      go_wp2
      go_ret
      exact ⟨rfl, World.grownBy_alloc w _ none⟩
  · have hv : mayB a b c = false := by unfold mayB; rw [decide_eq_false_iff_not]; omega
    have hd : decide (1 ≤ a) = false := by simpa using h1
    rw [hv]
    go_enter Try.func86, Try.ntmps86
    go_wp2
    go_ret
    exact ⟨rfl, World.grownBy_alloc w _ none⟩

def TableIs (l : List Row) (w : World) (e : Ending) (w' : World) : Prop :=
  ∃ g, e = .returned (.slice (some ⟨g, 0, none⟩) l.length l.length) ∧ w'.heap[g]? = some (.cells (l.flatMap rowCells).toArray 138 (0, 0)) ∧ w.grownBy w' none

theorem grown_alloc2 (w : World) (a b : Obj) : w.grownBy ((w.alloc a).alloc b) none := grown_trans (World.grownBy_alloc w a none) (World.grownBy_alloc _ b none)

theorem heap_alloc_new2 (w : World) (a b : Obj) : ((w.alloc a).alloc b).heap[w.heap.size + 1]? = some b := by
  have := heap_alloc_new (w.alloc a) b
  rwa [show (w.alloc a).heap.size = w.heap.size + 1 from by simp] at this

set_option maxHeartbeats 1000000 in
theorem places_any (a b c : Int) (w : World) : Calls Try.prog 87 #[gv a b c] w (TableIs (placesR a b c) w) := by
  unfold gv
  go_enter Try.func87, Try.ntmps87
  go_wp2
  go_ret
  exact ⟨_, rfl, heap_alloc_new2 _ _ _, grown_alloc2 w _ _⟩

set_option maxHeartbeats 1000000 in
theorem within_any (w : World) : Calls Try.prog 84 #[] w (TableIs withinR w) := by
  go_enter Try.func84, Try.ntmps84
  go_wp2
  go_ret
  exact ⟨_, rfl, heap_alloc_new _ _, World.grownBy_alloc w _ none⟩
end Go.Proofs.Ytdpkpphjpihhkaa
