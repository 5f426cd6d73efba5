/- Texts of ours, packed. -/
import Derived.Test.YtkalglcbmfhdfaaRows
import Derived.BigQuiet
import Derived.Deep.QuietTactic
import Derived.Test.YtkalglcbmfhdfaaPk11
import Derived.Test.YtkalglcbmfhdfaaPk3
section
/- The same words? (the document's Same) -/
-- OPTIONAL
namespace Go.Proofs.Ytkalglcbmfhdfaa
open Go.RowKit Go.Grommet

def SameIs (v : Bool) (w : World) (e : Ending) (w' : World) : Prop := e = .returned (.bool v) ∧ w.grownBy w' none

end Go.Proofs.Ytkalglcbmfhdfaa
end
section
/- Package sum, walked. -/
-- OPTIONAL
namespace Go.Proofs.Ytkalglcbmfhdfaa
open Go.RowKit Go.Grommet

/-- A sum in a block of its own. -/
def NumIs (w : World) (g : Nat) (T : TypeId) (s : Nat) : Prop := w.heap[g]? = some (.cells #[wv s] T (0, 0)) ∧ s < 18446744073709551616

theorem NumIs.cell {w : World} {g T s : Nat} (h : NumIs w g T s) : w.cell? ⟨g, 0, none⟩ = some (.int .u64 (s : Int)) := by
  rw [World.cell?]; simp [h.1, wv]
theorem NumIs.free {w : World} {g T s : Nat} (h : NumIs w g T s) : w.frozen? ⟨g, 0, none⟩ = false := by
  rw [World.frozen?]; simp [h.1]
theorem NumIs.keep {w w' : World} {g T s : Nat} {row : Option Nat} (h : NumIs w g T s) (hg : w.grownBy w' row) (hn : some g ≠ row) : NumIs w' g T s :=
  ⟨by rw [hg.block g (lt_of_block h.1) hn]; exact h.1, h.2⟩
theorem NumIs.set {w : World} {g T s : Nat} (h : NumIs w g T s) (n : Nat) (hn : n < 18446744073709551616) : NumIs (w.setCell ⟨g, 0, none⟩ (wv n)) g T n :=
  ⟨by have := heap_setCell_at (o := 0) h.1 (wv n); simpa using this, hn⟩
theorem NumIs.lt {w : World} {g T s : Nat} (h : NumIs w g T s) : g < w.heap.size := lt_of_block h.1

def AddIs (w : World) (g T s : Nat) (e : Ending) (w' : World) : Prop := e = .returned (.tuple #[]) ∧ NumIs w' g T s ∧ w.grownBy w' (some g)

set_option maxHeartbeats 400000 in
theorem add_any (g T s n : Nat) (w : World) (hs : NumIs w g T s) (hn : n < 18446744073709551616) :
    Calls Try.prog 68 #[.pointer (some ⟨g, 0, none⟩), .int .u64 (n : Int)] w (AddIs w g T (stp s n)) := by
  have H := Lib.hid (stp_int s n hs.2 hn)
  have hc := hs.cell
  have hf := hs.free
  go_enter Try.func68, Try.ntmps68
  go_wp2
  rw [H.out]
  go_end0
  exact ⟨rfl, hs.set _ (stp_lt _ _), grown_setCell _ _ _⟩

end Go.Proofs.Ytkalglcbmfhdfaa
end
section
/- Package sum: over a list. -/
-- OPTIONAL
namespace Go.Proofs.Ytkalglcbmfhdfaa
open Go.RowKit Go.Grommet

theorem wv_at {w : World} {ad : Option Addr} {xs : List Nat} (h : At w ad (xs.map wv)) (k : Nat) (hk : k < xs.length) :
    ∃ q o, ad = some ⟨q, o, none⟩ ∧ w.cell? ⟨q, o + k, none⟩ = some (.int .u64 ((xs.getD k 0 : Nat) : Int)) := by
  obtain ⟨q, o, he, hc⟩ := h k (wv (xs.getD k 0)) (by simp [hk])
  exact ⟨q, o, he, hc⟩

theorem take_succ' (xs : List Nat) (k : Nat) (hk : k < xs.length) : xs.take (k + 1) = xs.take k ++ [xs.getD k 0] := by
  rw [List.take_succ_eq_append_getElem hk]; simp [hk]

def EachIs (w : World) (g T s : Nat) (e : Ending) (w' : World) : Prop := e = .returned (.tuple #[]) ∧ NumIs w' g T s ∧ w.grownBy w' (some g)

set_option maxHeartbeats 1000000 in
theorem each_any (g T : Nat) (ad : Option Addr) (l cap : Nat) (xs : List Nat) (w : World) (hs : NumIs w g T sum0) (hx : Words w ad l xs) (hne : ∀ a, ad = some a → xs ≠ [] → some a.block ≠ some g) :
    Calls Try.prog 67 #[.slice ad l cap, .func (.func 68) #[.pointer (some ⟨g, 0, none⟩)] #[]] w (EachIs w g T (sumN xs)) := by
  have hfit := hx.fits
  have HL := Lib.hid hx.len
  go_enter Try.func67, Try.ntmps67
  go_wp2_with fail
  go_loopw [8] (fun i wr => ∃ k : Nat, k ≤ l ∧ i = .int .i64 (k : Int) ∧ NumIs wr g T (sumN (xs.take k)) ∧ w.grownBy wr (some g)) (fun i _ => l - (intOf i).toNat)
  case atStart => exact ⟨0, Nat.zero_le _, rfl, hs, World.grownBy.refl _ _⟩
  case round =>
    obtain ⟨k, hk, rfl, hN, hg⟩ := hrel
    by_cases hlt : k < l
    · have hlt' : (k : Int) < (l : Int) := by omega
      have h0 : (0 : Int) ≤ (k : Int) := by omega
      have hsm := hx.get k hlt
      obtain ⟨q, o, rfl, c1⟩ := wv_at (hx.keep hg hne).at_ k (by rw [HL.out]; exact hlt)
      have HS := Lib.hid (take_succ' xs k (by rw [HL.out]; exact hlt))
      generalize xs.getD k 0 = V at c1 hsm HS
      have HA := Lib.hid (add_any g T _ V wr hN hsm)
      go_wp2_with fail
      refine HA.out.mono ?_
      rintro e w1 ⟨rfl, hN1, hg1⟩
      clear HA
      have hg := grown_trans hg hg1
      go_wp2
      go_roundw
      case rel => exact ⟨k + 1, by omega, by go_num, by rw [HS.out, sumN_snoc]; exact hN1, hg⟩
      case measure => simp [intOf]; omega
    · obtain rfl : k = l := by omega
      have hN' : NumIs wr g T (sumN xs) := by rw [List.take_of_length_le (by rw [HL.out]; exact Nat.le_refl _)] at hN; exact hN
      clear hN
      go_wp2
      go_end0
      exact ⟨rfl, hN', hg⟩

def NumMade (w : World) (s : Nat) (e : Ending) (w' : World) : Prop := e = .returned (.int .u64 (s : Int)) ∧ w.grownBy w' none

set_option maxHeartbeats 1000000 in
theorem Of_any (ad : Option Addr) (l cap : Nat) (xs : List Nat) (w : World) (hx : Words w ad l xs) :
    Calls Try.prog 60 #[.slice ad l cap] w (NumMade w (sumN xs)) := by
  have hN : NumIs (w.alloc (.cells #[.int .u64 14695981039346656037] 119)) w.heap.size 119 sum0 := ⟨heap_alloc_new w _, sum0_lt⟩
  have HE := Lib.hid (each_any w.heap.size 119 ad l cap xs _ hN (hx.keep (World.grownBy_alloc w _ none) (by simp)) (by intro a ha hn e; have := hx.old hn a ha; injection e with e; omega))
  clear hN
  go_enter Try.func60, Try.ntmps60
  go_wp2_with fail
  refine HE.out.mono ?_
  rintro e w1 ⟨rfl, hN, hg⟩
  clear HE
  have hg' := grown_new (World.grownBy_alloc w _ none) hg (by intro g e; cases e; exact Nat.le_refl _)
  have hc := hN.cell
  go_wp2
  go_ret
  exact ⟨rfl, hg'⟩
end Go.Proofs.Ytkalglcbmfhdfaa
end
