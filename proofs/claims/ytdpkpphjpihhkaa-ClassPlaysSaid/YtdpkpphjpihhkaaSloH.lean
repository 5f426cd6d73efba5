/- A geometry in memory; the law's small geometry; a new device's words; things of the call's own that are turned, forgotten. -/
import Derived.Test.YtdpkpphjpihhkaaSloC
import Derived.Test.YtdpkpphjpihhkaaWorks
import Derived.Test.YtdpkpphjpihhkaaLayQ2
-- OPTIONAL
namespace Go.Grommet
open Go.RowKit
/-- A store into a variable of the call's own. -/
theorem Own.putBox {w0 w : World} {Ps : List Pr} (h : Own w0 w Ps) (k : Nat) {X : Nat} {T : TypeId} {cs : Array Value} (hk : Ps[k]? = some (boxP X T cs)) (o : Nat) (u : Value) : Own w0 (w.setCell ⟨X, o, none⟩ u) (Ps.set k (boxP X T (cs.setIfInBounds o u))) := by
  obtain ⟨F, h1, h2⟩ := h.take k hk
  refine h2 _ _ ⟨F, ⟨heap_setCell_at h1.1 u, h1.2.1, fun i hi => Nat.lt_of_lt_of_le (h1.2.2 i hi) (by simp [World.setCell])⟩, fun i hi => .inl hi, Turn.of (grown_setCell _ _ _) (fun i e => by cases e; exact h1.2.1)⟩
/-- A thing of which nothing is known any more. -/
def anyP : Pr where
  holds w F := ∀ i, F i → i < w.heap.size
  turn := fun h ht _ i hi => Nat.lt_of_lt_of_le (h i hi) ht.size
  old := fun h => h
/-- A variable of the call's own is turned, and then forgotten, with all behind it. -/
theorem Own.forget {w0 w w' : World} {Ps Qs : List Pr} {X : Nat} {T : TypeId} {cs : Array Value} (h : Own w0 w (Ps ++ boxP X T cs :: Qs)) (hg : w.grownBy w' (some X)) : Own w0 w' Ps := by
  obtain ⟨F, h1, h2⟩ := h.take Ps.length (P := boxP X T cs) (by rw [List.getElem?_append_right (Nat.le_refl _), Nat.sub_self]; rfl)
  have h3 := h2 w' anyP ⟨F, fun i hi => Nat.lt_of_lt_of_le (h1.2.2 i hi) hg.size, fun i hi => .inl hi, Turn.of hg (fun i e => by cases e; exact h1.2.1)⟩
  rw [List.set_append_right _ _ (Nat.le_refl _)] at h3
  exact h3.less
/-- One thing fewer, in the midst. -/
theorem Own.skip {w0 w : World} {Ps Qs : List Pr} {B : Pr} (h : Own w0 w (Ps ++ B :: Qs)) : Own w0 w (Ps ++ Qs) := by
  obtain ⟨Fs, h1, h2, h3, h4⟩ := h
  obtain ⟨f, hf⟩ : ∃ f : Nat → Nat, ∀ j, f j = if j < Ps.length then j else j + 1 := ⟨fun j => if j < Ps.length then j else j + 1, fun _ => rfl⟩
  have hg : ∀ j, (Ps ++ Qs)[j]? = (Ps ++ B :: Qs)[f j]? := by
    intro j
    rw [hf]
    split
    · rename_i hj
      rw [List.getElem?_append_left hj, List.getElem?_append_left hj]
    · rename_i hj
      rw [List.getElem?_append_right (by omega), List.getElem?_append_right (by omega), show j + 1 - Ps.length = (j - Ps.length) + 1 from by omega, List.getElem?_cons_succ]
  have hl : ∀ j, j < (Ps ++ Qs).length → f j < (Ps ++ B :: Qs).length := by
    intro j hj
    rw [List.length_append] at hj
    rw [hf, List.length_append, List.length_cons]
    split <;> omega
  refine ⟨fun j => Fs (f j), fun k P hk => h1 (f k) P (by rw [← hg]; exact hk), fun j k hj hk hne => h2 (f j) (f k) (hl j hj) (hl k hk) (fun e => hne ?_), fun k hk => h3 (f k) (hl k hk), h4⟩
  rw [hf, hf] at e
  split at e <;> split at e <;> omega
end Go.Grommet
namespace Go.Proofs.Ytdpkpphjpihhkaa
open Go.RowKit Go.Grommet

def WorksIs (w : World) (e : Ending) (w' : World) : Prop := e = .returned (.bool true) ∧ w.grownBy w' none
def GeoS (G : Nat) (a b c : Int) (w : World) : Prop := w.heap[G]? = some (.cells #[.int .i64 a, .int .i64 b, .int .i64 c] 30 (0, 0))
theorem GeoS.keep {G : Nat} {a b c : Int} {w w' : World} (h : GeoS G a b c w) (hg : w.grownBy w' none) : GeoS G a b c w' := (hg.block G (lt_of_block h) (by simp)).trans h
theorem GeoS.cells {G : Nat} {a b c : Int} {w : World} (h : GeoS G a b c w) : w.cell? ⟨G, 0, none⟩ = some (.int .i64 a) ∧ w.cell? ⟨G, 1, none⟩ = some (.int .i64 b) ∧ w.cell? ⟨G, 2, none⟩ = some (.int .i64 c) := by
  unfold GeoS at h
  refine ⟨?_, ?_, ?_⟩ <;> simp [World.cell?, h]
theorem GeoS.past {G N o : Nat} {a b c : Int} {u : Value} {w : World} (h : GeoS G a b c w) (hn : G ≠ N) : GeoS G a b c (w.setCell ⟨N, o, none⟩ u) := ((grown_setCell w ⟨N, o, none⟩ u).block G (lt_of_block h) (by simp; exact hn)).trans h

set_option maxHeartbeats 1000000 in
theorem Small_any (x y : Nat) (hx : x < 256) (hy : y < 256) (w : World) : Calls Try.prog 10 #[.int .u8 (x : Int), .int .u8 (y : Int)] w
    fun e w' => e = .returned (gv 1 ((2 + x % 20 : Nat) : Int) ((2 + y % 60 : Nat) : Int)) ∧ w.grownBy w' none := by
  unfold gv
  have e1 : (x : Int) % 20 = ((x % 20 : Nat) : Int) := by omega
  have e2 : (y : Int) % 60 = ((y % 60 : Nat) : Int) := by omega
  have c2 : ((2 + x % 20 : Nat) : Int) = 2 + ((x % 20 : Nat) : Int) := by omega
  have c3 : ((2 + y % 60 : Nat) : Int) = 2 + ((y % 60 : Nat) : Int) := by omega
  rw [c2, c3]
  have b1 : x % 20 < 20 := by omega
  have b2 : y % 60 < 60 := by omega
  generalize x % 20 = X at e1 b1
  generalize y % 60 = Y at e2 b2
  clear c2 c3
  go_enter Try.func10, Try.ntmps10
  go_wp2
  exact bodyPost_ret (v := .agg #[.int .i64 1, .int .i64 (2 + (X : Int)), .int .i64 (2 + (Y : Int))]) (by simp [results, Try.results10, go_sem]) rfl ⟨rfl, World.grownBy_alloc w _ none⟩
/-- A new row, or none. -/
def RowU (XR : List Nat) (Z : Nat) (w : World) (e : Ending) (w' : World) : Prop :=
  ∃ ad cap, e = .returned (.slice ad Z cap) ∧ w'.ownsRow w.heap.size 36 1 (.slice ad Z cap) Z (XR.map wv) ∧ w.grownBy w' none
theorem rowU_none {w : World} {e : Ending} {w' : World} (h : e = .returned (.slice none 0 0) ∧ w.grownBy w' none) : RowU [] 0 w e w' := by
  obtain ⟨rfl, hg⟩ := h
  exact ⟨none, 0, rfl, World.ownsRow_nil _ _ _ _, hg⟩
theorem rowU_new {xs : List Nat} {w : World} {e : Ending} {w' : World} (h : NewWords xs w e w') (hl : xs.length ≤ 100000) : RowU xs xs.length w e w' := by
  obtain ⟨g, rfl, hh, hb, hg⟩ := h
  exact ⟨some ⟨g, 0, none⟩, xs.length, rfl, ⟨by simp, .inr ⟨g, xs.length, (xs.map wv).toArray, rfl, hb, hh, Nat.le_refl _, by unfold maxLen; omega, by simp, by rw [Nat.mul_one]; exact List.take_of_length_le (by simp)⟩⟩, hg⟩
theorem format_row (a b c : Nat) (h : mayB a b c = true) : ∃ XR Z, XR.length = Z ∧ Z = 280 + 208 * a + 16 * b + 8 * c ∧ Z ≤ 100000 ∧ (∀ n ∈ XR, n < 18446744073709551616) ∧ ∀ w, Calls Try.prog 30 #[gv a b c] w (RowU XR Z w) := by
  have hq := mayB_yes h
  have hl : (fmtL a b c (264 + 208 * a) (280 + 208 * a + 16 * b + 8 * c)).length = 280 + 208 * a + 16 * b + 8 * c := length_fmtL _ _ _ _ _
  refine ⟨fmtL a b c (264 + 208 * a) (280 + 208 * a + 16 * b + 8 * c), _, rfl, hl, by omega, fmtL_lt _ _ _ _ _ (by omega) (by omega) (by omega), fun w => (RFormat_any a b c w h).mono (fun _ _ hh => rowU_new hh (by omega))⟩
theorem small_may' (x y : Nat) : mayB ((1 : Nat) : Int) ((2 + x % 20 : Nat) : Int) ((2 + y % 60 : Nat) : Int) = true := by
  unfold mayB; rw [decide_eq_true_eq]; omega
theorem words_pos' {a b c : Int} (h : mayB a b c = true) : wordsV a b c = 280 + 208 * a + 16 * b + 8 * c := by unfold wordsV; rw [if_pos h]
end Go.Proofs.Ytdpkpphjpihhkaa
