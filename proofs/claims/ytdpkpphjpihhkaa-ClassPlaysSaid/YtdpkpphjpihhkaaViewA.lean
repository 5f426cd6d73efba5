/- Package view: what a view is in memory; its small functions. -/
import Derived.Test.YtdpkpphjpihhkaaRows
import Derived.Test.YtdpkpphjpihhkaaApp
import Derived.Test.YtdpkpphjpihhkaaViewMath
import Derived.BigQuiet
import Derived.Deep.QuietTactic
import Derived.StillTailTactics
-- OPTIONAL
namespace Go.Proofs.Ytdpkpphjpihhkaa
open Go.RowKit Go.Grommet

theorem Try.info36 : (Try.prog.info? 36).map (fun i => (i.zero, i.size, i.bytes)) = some (some (.int .u64 0), 1, 8) := by kernel_rfl
theorem Try.info79 : (Try.prog.info? 79).map (fun i => (i.zero, i.size, i.bytes)) = some (some (.agg #[.int .i64 0, .int .u64 0]), 2, 16) := by kernel_rfl

/-- Writes in their cells. -/
def wcells : List (Nat × Nat) → List Value
  | [] => []
  | p :: t => .int .i64 (p.1 : Int) :: .int .u64 (p.2 : Int) :: wcells t
theorem wcells_length : ∀ L : List (Nat × Nat), (wcells L).length = L.length * 2
  | [] => rfl
  | p :: t => by simp [wcells, wcells_length t]; omega
theorem wcells_append : ∀ L M : List (Nat × Nat), wcells (L ++ M) = wcells L ++ wcells M
  | [], M => rfl
  | p :: t, M => by simp [wcells, wcells_append t M]
theorem wcells_at : ∀ (L : List (Nat × Nat)) (i : Nat), i < L.length → (wcells L)[i * 2]? = some (.int .i64 ((L.getD i (0, 0)).1 : Int)) ∧ (wcells L)[i * 2 + 1]? = some (.int .u64 ((L.getD i (0, 0)).2 : Int))
  | [], i, h => by simp at h
  | p :: t, 0, _ => by simp [wcells]
  | p :: t, i + 1, h => by
    have := wcells_at t i (by simpa using h)
    rw [show (i + 1) * 2 = i * 2 + 1 + 1 from by omega]
    simpa [wcells] using this
theorem wcells_set : ∀ (L : List (Nat × Nat)) (i a w : Nat), i < L.length → (L.getD i (0, 0)).1 = a → (wcells L).set (i * 2 + 1) (.int .u64 (w : Int)) = wcells (L.set i (a, w))
  | [], i, a, w, h, _ => by simp at h
  | p :: t, 0, a, w, _, h => by
    have : p.1 = a := by simpa using h
    simp [wcells, this]
  | p :: t, i + 1, a, w, h, e => by
    have := wcells_set t i a w (by simpa using h) (by simpa using e)
    rw [show (i + 1) * 2 + 1 = i * 2 + 1 + 1 + 1 from by omega]
    simp [wcells, this]
theorem wcells_oneCell : ∀ L : List (Nat × Nat), ∀ u ∈ wcells L, u.oneCell' = true
  | [], u, h => by simp [wcells] at h
  | p :: t, u, h => by
    simp only [wcells, List.mem_cons] at h
    rcases h with rfl | rfl | h
    · rfl
    · rfl
    · exact wcells_oneCell t u h

theorem keyedInt : Maps.Keyed Try.prog 3 := Maps.int_keyed Try.underlying3
def ik (a : Nat) : Lit := .int .i64 (a : Int)

/-- The number of each place that was put. -/
def NumIs (w : World) (mb : Nat) (L : List (Nat × Nat)) : Prop :=
  ∃ D : DataW Unit, w.ownsMap Try.prog 3 (plainElem Try.prog 3) mb L.length D ∧ ∀ a, a < 140737488355328 →
    (∀ i, fidx L a = some i → Maps.has D (ik a) = true ∧ D.atKey (ik a) (.lit (.int .i64 0)) = .lit (.int .i64 (i : Int))) ∧ (fidx L a = none → Maps.has D (ik a) = false)

/-- A view: its image, its writes; its blocks are of F. -/
structure ViewAt (w : World) (g : Nat) (F : Nat → Prop) (ws wr : Value) (mb : Nat) (xs : List Nat) (L : List (Nat × Nat)) : Prop where
  obj : w.heap[g]? = some (.cells #[ws, wr, .map (some mb)] 85 (0, 0))
  words : w.ownsRow 0 36 1 ws xs.length (xs.map wv)
  writes : w.ownsRow 0 79 2 wr L.length (wcells L)
  num : NumIs w mb L
  small : ∀ n ∈ xs, n < 18446744073709551616
  fits : xs.length ≤ 549755813888
  good : Wl xs.length L
  old : ∀ i, F i → i < w.heap.size
  fg : F g
  fm : F mb
  fw : ∀ i, ws.ownBlock = some i → F i
  fr : ∀ i, wr.ownBlock = some i → F i

def ViewIs (w : World) (g : Nat) (F : Nat → Prop) (xs : List Nat) (L : List (Nat × Nat)) : Prop := ∃ ws wr mb, ViewAt w g F ws wr mb xs L

theorem NumIs.turn {F : Nat → Prop} {w w' : World} {mb : Nat} {L : List (Nat × Nat)} (h : NumIs w mb L) (ht : Turn F w w') (hn : ¬ F mb) : NumIs w' mb L := by
  obtain ⟨D, h1, h2⟩ := h
  exact ⟨D, ht.map h1 hn, h2⟩
theorem NumIs.lt {w : World} {mb : Nat} {L : List (Nat × Nat)} (h : NumIs w mb L) : ∃ es c, w.heap[mb]? = some (.map es c) := by
  obtain ⟨D, ⟨es, clock, hb, _⟩, _⟩ := h
  exact ⟨es, clock, hb⟩
theorem ViewAt.turn {F G : Nat → Prop} {w w' : World} {g : Nat} {ws wr : Value} {mb : Nat} {xs : List Nat} {L : List (Nat × Nat)} (h : ViewAt w g F ws wr mb xs L) (ht : Turn G w w') (hn : ∀ i, F i → ¬ G i) : ViewAt w' g F ws wr mb xs L :=
  ⟨ht.obj h.obj (hn _ h.fg), ht.row h.words (fun i hi => hn i (h.fw i hi)), ht.row h.writes (fun i hi => hn i (h.fr i hi)), h.num.turn ht (hn _ h.fm), h.small, h.fits, h.good,
    fun i hi => Nat.lt_of_lt_of_le (h.old i hi) ht.size, h.fg, h.fm, h.fw, h.fr⟩
theorem ViewIs.turn {F G : Nat → Prop} {w w' : World} {g : Nat} {xs : List Nat} {L : List (Nat × Nat)} (h : ViewIs w g F xs L) (ht : Turn G w w') (hn : ∀ i, F i → ¬ G i) : ViewIs w' g F xs L := by
  obtain ⟨ws, wr, mb, h⟩ := h
  exact ⟨ws, wr, mb, h.turn ht hn⟩
/-- Its blocks are all unlike. -/
theorem ViewAt.apart {F : Nat → Prop} {w : World} {g : Nat} {ws wr : Value} {mb : Nat} {xs : List Nat} {L : List (Nat × Nat)} (h : ViewAt w g F ws wr mb xs L) :
    g ≠ mb ∧ (∀ i, ws.ownBlock = some i → i ≠ g ∧ i ≠ mb) ∧ (∀ i, wr.ownBlock = some i → i ≠ g ∧ i ≠ mb) ∧ ∀ i j, ws.ownBlock = some i → wr.ownBlock = some j → i ≠ j := by
  obtain ⟨es, c, hm⟩ := h.num.lt
  have hg := h.obj
  have tw := fun i hi => row_type h.words i hi
  have tr := fun i hi => row_type h.writes i hi
  refine ⟨?_, fun i hi => ⟨?_, ?_⟩, fun i hi => ⟨?_, ?_⟩, fun i j hi hj => ?_⟩
  · rintro rfl; rw [hg] at hm; cases hm
  · rintro rfl; obtain ⟨cur, hc⟩ := tw _ hi; rw [hg] at hc; injection hc with hc; injection hc with _ hc _; revert hc; decide
  · rintro rfl; obtain ⟨cur, hc⟩ := tw _ hi; rw [hm] at hc; cases hc
  · rintro rfl; obtain ⟨cur, hc⟩ := tr _ hi; rw [hg] at hc; injection hc with hc; injection hc with _ hc _; revert hc; decide
  · rintro rfl; obtain ⟨cur, hc⟩ := tr _ hi; rw [hm] at hc; cases hc
  · rintro rfl; obtain ⟨cur, hc⟩ := tw _ hi; obtain ⟨cur', hc'⟩ := tr _ hj; rw [hc] at hc'; injection hc' with hc'; injection hc' with _ hc' _; revert hc'; decide

def inB (a m : Int) : Bool := decide (0 ≤ a) && decide (a < m)

set_option maxHeartbeats 400000 in
theorem isIn_any (a m : Int) (w : World) : Calls Try.prog 63 #[.int .i64 a, .int .i64 m] w fun e w' => e = .returned (.bool (inB a m)) ∧ w = w' := by
  unfold inB
  by_cases h : 0 ≤ a
  · by_cases h2 : a < m
    · rw [show (decide (0 ≤ a) && decide (a < m)) = true from by simp [h, h2]]
      go_enter Try.func63, Try.ntmps63
      go_wp2
      go_ret
      exact ⟨rfl, rfl⟩
    · rw [show (decide (0 ≤ a) && decide (a < m)) = false from by simp [h2]]
      go_enter Try.func63, Try.ntmps63
      go_wp2
      go_ret
      exact ⟨rfl, rfl⟩
  · rw [show (decide (0 ≤ a) && decide (a < m)) = false from by simp [h]]
    go_enter Try.func63, Try.ntmps63
    go_wp2
    go_ret
    exact ⟨rfl, rfl⟩

/-- The three fields of a view, where a walk reads them. -/
theorem ViewAt.cells {F : Nat → Prop} {w : World} {g : Nat} {ws wr : Value} {mb : Nat} {xs : List Nat} {L : List (Nat × Nat)} (h : ViewAt w g F ws wr mb xs L) :
    w.cell? ⟨g, 0, none⟩ = some ws ∧ w.cell? ⟨g, 1, none⟩ = some wr ∧ w.cell? ⟨g, 2, none⟩ = some (.map (some mb)) := by
  have := h.obj
  simp [World.cell?, this]

set_option maxHeartbeats 400000 in
theorem Len_any (g : Nat) (F : Nat → Prop) (xs : List Nat) (L : List (Nat × Nat)) (w : World) (h : ViewIs w g F xs L) :
    Calls Try.prog 64 #[.pointer (some ⟨g, 0, none⟩)] w fun e w' => e = .returned (.int .i64 (xs.length : Int)) ∧ w = w' := by
  obtain ⟨ws, wr, mb, h⟩ := h
  obtain ⟨c0, c1, c2⟩ := h.cells
  obtain ⟨ad, cap, rfl, _⟩ := row_slice h.words
  clear h
  generalize xs.length = l at c0
  go_enter Try.func64, Try.ntmps64
  go_wp2
  go_ret
  exact ⟨rfl, rfl⟩
set_option maxHeartbeats 400000 in
theorem Len_nil (w : World) : Calls Try.prog 64 #[.pointer none] w fun e w' => e = .returned (.int .i64 0) ∧ w = w' := by
  go_enter Try.func64, Try.ntmps64
  go_wp2
  go_ret
  exact ⟨rfl, rfl⟩
set_option maxHeartbeats 400000 in
theorem Drop_nil (w : World) : Calls Try.prog 13 #[.pointer none] w fun e w' => e = .returned (.tuple #[]) ∧ w = w' := by
  go_enter Try.func13, Try.ntmps13
  go_wp2
  go_end0
  exact ⟨rfl, rfl⟩
set_option maxHeartbeats 400000 in
theorem Put_nil (a v : Int) (w : World) : Calls Try.prog 33 #[.pointer none, .int .i64 a, .int .u64 v] w fun e w' => e = .returned (.int .i64 2) ∧ w = w' := by
  go_enter Try.func33, Try.ntmps33
  go_wp2
  go_ret
  exact ⟨rfl, rfl⟩
set_option maxHeartbeats 400000 in
theorem Writes_nil (w : World) : Calls Try.prog 24 #[.pointer none] w fun e w' => e = .returned (.slice none 0 0) ∧ w = w' := by
  go_enter Try.func24, Try.ntmps24
  go_wp2
  go_ret
  exact ⟨rfl, rfl⟩
set_option maxHeartbeats 400000 in
theorem Flat_nil (w : World) : Calls Try.prog 28 #[.pointer none] w fun e w' => e = .returned (.slice none 0 0) ∧ w = w' := by
  go_enter Try.func28, Try.ntmps28
  go_wp2
  go_ret
  exact ⟨rfl, rfl⟩
set_option maxHeartbeats 400000 in
theorem Get_nil (a : Int) (w : World) : Calls Try.prog 66 #[.pointer none, .int .i64 a] w fun e w' => e = .returned (.int .u64 0) ∧ w = w' := by
  have HI := Lib.hid (isIn_any a 0 w)
  have hb : inB a 0 = false := by unfold inB; by_cases h : 0 ≤ a <;> simp [h]
  rw [hb] at HI
  clear hb
  go_enter Try.func66, Try.ntmps66
  go_wp2_with fail
  refine (Len_nil _).mono ?_
  rintro e w1 ⟨rfl, rfl⟩
  go_wp2_with fail
  refine HI.out.mono ?_
  rintro e w1 ⟨rfl, rfl⟩
  go_wp2
  go_ret
  exact ⟨rfl, rfl⟩
end Go.Proofs.Ytdpkpphjpihhkaa
