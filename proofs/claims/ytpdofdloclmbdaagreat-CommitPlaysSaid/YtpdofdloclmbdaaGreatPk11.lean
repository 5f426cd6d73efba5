/- Texts of ours, packed. -/
import Derived.Test.YtpdofdloclmbdaaGreatRows
import Derived.BigQuiet
import Derived.Deep.QuietTactic
import Derived.Test.YtpdofdloclmbdaaGreatPk10
import Derived.Test.YtpdofdloclmbdaaGreatPk3
import Derived.Test.YtpdofdloclmbdaaGreatPk7
section
/- The same words? (the document's Same) -/
-- OPTIONAL
namespace Go.Proofs.YtpdofdloclmbdaaGreat
open Go.RowKit Go.Grommet

def SameIs (v : Bool) (w : World) (e : Ending) (w' : World) : Prop := e = .returned (.bool v) ∧ w.grownBy w' none

set_option maxHeartbeats 1000000 in
theorem Same_any (ad bd : Option Addr) (l m c d : Nat) (xs ys : List Nat) (w : World) (hx : Words w ad l xs) (hy : Words w bd m ys) :
    Calls Tryz.prog 30 #[.slice ad l c, .slice bd m d] w (SameIs (decide (xs = ys)) w) := by
  have hfx := hx.fits
  have hfy := hy.fits
  by_cases hlm : l = m
  · subst hlm
    have h1 : ((l : Int) != (l : Int)) = false := by simp
    go_enter Tryz.func30, Tryz.ntmps30
    go_wp2_with fail
    go_loopw [5] (fun i wr => ∃ k : Nat, k ≤ l ∧ i = .int .i64 (k : Int) ∧ xs.take k = ys.take k ∧ w.grownBy wr none) (fun i _ => l - (intOf i).toNat)
    case atStart => exact ⟨0, Nat.zero_le _, rfl, rfl, World.grownBy.refl _ _⟩
    case round =>
      obtain ⟨k, hk, rfl, he, hg⟩ := hrel
      have HE := Lib.hid he
      clear he
      have k0 : (0 : Int) ≤ (k : Int) := by omega
      by_cases hlt : k < l
      · have hlt' : (k : Int) < (l : Int) := by omega
        obtain ⟨q, o, rfl, c1⟩ := (hx.keep hg (by simp)).cell k hlt
        obtain ⟨q', o', rfl, c2⟩ := (hy.keep hg (by simp)).cell k hlt
        have HX : Hid (xs.take (k + 1) = xs.take k ++ [xs.getD k 0]) := by
          show _ = _
          rw [List.take_succ_eq_append_getElem (by rw [hx.len]; exact hlt)]; simp [hx.len, hlt]
        have HY : Hid (ys.take (k + 1) = ys.take k ++ [ys.getD k 0]) := by
          show _ = _
          rw [List.take_succ_eq_append_getElem (by rw [hy.len]; exact hlt)]; simp [hy.len, hlt]
        by_cases hv : xs.getD k 0 = ys.getD k 0
        · rw [hv] at c1 HX
          have HN := Lib.hid (show xs.take (k + 1) = ys.take (k + 1) by rw [HX.out, HY.out, HE.out])
          generalize ys.getD k 0 = V at c1 c2
          have h2 : ((V : Int) != (V : Int)) = false := by simp
          clear hv
          go_wp2_with fail
          go_quiet (fail)
          go_wp2
          go_roundw
          case rel => exact ⟨k + 1, by omega, by go_num, HN.out, grown_trans hg (grown_drewN _ _ _)⟩
          case measure => simp [intOf]; omega
        · have HN := Lib.hid (show decide (xs = ys) = false by
            rw [decide_eq_false_iff_not]; intro h; subst h; exact hv rfl)
          generalize xs.getD k 0 = V at c1 hv
          generalize ys.getD k 0 = U at c2 hv
          have h2 : ((V : Int) != (U : Int)) = true := by simp; omega
          have h3 : ¬ (V : Int) = (U : Int) := by omega
          clear hv
          rw [HN.out]
          go_wp2_with fail
          go_quiet (fail)
          go_wp2
          go_ret
          exact ⟨rfl, grown_trans hg (grown_drewN _ _ _)⟩
      · have hlt' : ¬ (k : Int) < (l : Int) := by omega
        have HN := Lib.hid (show decide (xs = ys) = true by
          rw [decide_eq_true_eq]
          have := HE.out
          rwa [List.take_of_length_le (by rw [hx.len]; omega), List.take_of_length_le (by rw [hy.len]; omega)] at this)
        have HR := Lib.hid (show SameIs (decide (xs = ys)) w (.returned (.bool true)) wr from ⟨by rw [HN.out], hg⟩)
        go_wp2
        go_ret
        exact HR.out
  · have h1 : ((l : Int) != (m : Int)) = true := by simp; omega
    have h2 : ¬ (l : Int) = (m : Int) := by omega
    have HN := Lib.hid (show decide (xs = ys) = false by
      rw [decide_eq_false_iff_not]; intro h; subst h; exact hlm (hx.len.symm.trans hy.len))
    rw [HN.out]
    clear hlm
    go_enter Tryz.func30, Tryz.ntmps30
    go_wp2
    go_ret
    exact ⟨rfl, World.grownBy.refl _ _⟩
end Go.Proofs.YtpdofdloclmbdaaGreat
end
section
/- Package sum, walked. -/
-- OPTIONAL
namespace Go.Proofs.YtpdofdloclmbdaaGreat
open Go.RowKit Go.Grommet

/-- A sum in a block of its own. -/
def NumIs (w : World) (g : Nat) (T : TypeId) (s : Nat) : Prop := w.heap[g]? = some (.cells #[wv s] T (0, 0)) ∧ s < 18446744073709551616

theorem NumIs.cell {w : World} {g T s : Nat} (h : NumIs w g T s) : w.cell? ⟨g, 0, none⟩ = some (.int .u64 (s : Int)) := by
  rw [World.cell?]; simp [h.1, wv]
theorem NumIs.free {w : World} {g T s : Nat} (h : NumIs w g T s) : w.frozen? ⟨g, 0, none⟩ = false := by
  rw [World.frozen?]; simp [h.1]
theorem NumIs.keep {w w' : World} {g T s : Nat} {row : Option Nat} (h : NumIs w g T s) (hg : w.grownBy w' row) (hn : some g ≠ row) : NumIs w' g T s :=
  ⟨by rw [hg.block g (lt_of_block h.1) hn]; exact h.1, h.2⟩
theorem NumIs.set {w : World} {g T s : Nat} (h : NumIs w g T s) (n : Nat) (hn : n < 18446744073709551616) : NumIs (w.setCell ⟨g, 0, none⟩ (wv n)) g T n :=
  ⟨by have := heap_setCell_at (o := 0) h.1 (wv n); simpa using this, hn⟩
theorem NumIs.lt {w : World} {g T s : Nat} (h : NumIs w g T s) : g < w.heap.size := lt_of_block h.1

def AddIs (w : World) (g T s : Nat) (e : Ending) (w' : World) : Prop := e = .returned (.tuple #[]) ∧ NumIs w' g T s ∧ w.grownBy w' (some g)

set_option maxHeartbeats 400000 in
theorem add_any (g T s n : Nat) (w : World) (hs : NumIs w g T s) (hn : n < 18446744073709551616) :
    Calls Tryz.prog 110 #[.pointer (some ⟨g, 0, none⟩), .int .u64 (n : Int)] w (AddIs w g T (stp s n)) := by
  have H := Lib.hid (stp_int s n hs.2 hn)
  have hc := hs.cell
  have hf := hs.free
  go_enter Tryz.func110, Tryz.ntmps110
  go_wp2
  rw [H.out]
  go_end0
  exact ⟨rfl, hs.set _ (stp_lt _ _), grown_setCell _ _ _⟩

end Go.Proofs.YtpdofdloclmbdaaGreat
end
section
/- Package sum: over a list. -/
-- OPTIONAL
namespace Go.Proofs.YtpdofdloclmbdaaGreat
open Go.RowKit Go.Grommet

theorem wv_at {w : World} {ad : Option Addr} {xs : List Nat} (h : At w ad (xs.map wv)) (k : Nat) (hk : k < xs.length) :
    ∃ q o, ad = some ⟨q, o, none⟩ ∧ w.cell? ⟨q, o + k, none⟩ = some (.int .u64 ((xs.getD k 0 : Nat) : Int)) := by
  obtain ⟨q, o, he, hc⟩ := h k (wv (xs.getD k 0)) (by simp [hk])
  exact ⟨q, o, he, hc⟩

theorem take_succ' (xs : List Nat) (k : Nat) (hk : k < xs.length) : xs.take (k + 1) = xs.take k ++ [xs.getD k 0] := by
  rw [List.take_succ_eq_append_getElem hk]; simp [hk]

def EachIs (w : World) (g T s : Nat) (e : Ending) (w' : World) : Prop := e = .returned (.tuple #[]) ∧ NumIs w' g T s ∧ w.grownBy w' (some g)

set_option maxHeartbeats 1000000 in
theorem each_any (g T : Nat) (ad : Option Addr) (l cap : Nat) (xs : List Nat) (w : World) (hs : NumIs w g T sum0) (hx : Words w ad l xs) (hne : ∀ a, ad = some a → xs ≠ [] → some a.block ≠ some g) :
    Calls Tryz.prog 109 #[.slice ad l cap, .func (.func 110) #[.pointer (some ⟨g, 0, none⟩)] #[]] w (EachIs w g T (sumN xs)) := by
  have hfit := hx.fits
  have HL := Lib.hid hx.len
  go_enter Tryz.func109, Tryz.ntmps109
  go_wp2_with fail
  go_loopw [8] (fun i wr => ∃ k : Nat, k ≤ l ∧ i = .int .i64 (k : Int) ∧ NumIs wr g T (sumN (xs.take k)) ∧ w.grownBy wr (some g)) (fun i _ => l - (intOf i).toNat)
  case atStart => exact ⟨0, Nat.zero_le _, rfl, hs, World.grownBy.refl _ _⟩
  case round =>
    obtain ⟨k, hk, rfl, hN, hg⟩ := hrel
    by_cases hlt : k < l
    · have hlt' : (k : Int) < (l : Int) := by omega
      have h0 : (0 : Int) ≤ (k : Int) := by omega
      have hsm := hx.get k hlt
      obtain ⟨q, o, rfl, c1⟩ := wv_at (hx.keep hg hne).at_ k (by rw [HL.out]; exact hlt)
      have HS := Lib.hid (take_succ' xs k (by rw [HL.out]; exact hlt))
      generalize xs.getD k 0 = V at c1 hsm HS
      have HA := Lib.hid (add_any g T _ V wr hN hsm)
      go_wp2_with fail
      refine HA.out.mono ?_
      rintro e w1 ⟨rfl, hN1, hg1⟩
      clear HA
      have hg := grown_trans hg hg1
      go_wp2
      go_roundw
      case rel => exact ⟨k + 1, by omega, by go_num, by rw [HS.out, sumN_snoc]; exact hN1, hg⟩
      case measure => simp [intOf]; omega
    · obtain rfl : k = l := by omega
      have hN' : NumIs wr g T (sumN xs) := by rw [List.take_of_length_le (by rw [HL.out]; exact Nat.le_refl _)] at hN; exact hN
      clear hN
      go_wp2
      go_end0
      exact ⟨rfl, hN', hg⟩

def NumMade (w : World) (s : Nat) (e : Ending) (w' : World) : Prop := e = .returned (.int .u64 (s : Int)) ∧ w.grownBy w' none

set_option maxHeartbeats 1000000 in
theorem Of_any (ad : Option Addr) (l cap : Nat) (xs : List Nat) (w : World) (hx : Words w ad l xs) :
    Calls Tryz.prog 95 #[.slice ad l cap] w (NumMade w (sumN xs)) := by
  have hN : NumIs (w.alloc (.cells #[.int .u64 14695981039346656037] 177)) w.heap.size 177 sum0 := ⟨heap_alloc_new w _, sum0_lt⟩
  have HE := Lib.hid (each_any w.heap.size 177 ad l cap xs _ hN (hx.keep (World.grownBy_alloc w _ none) (by simp)) (by intro a ha hn e; have := hx.old hn a ha; injection e with e; omega))
  clear hN
  go_enter Tryz.func95, Tryz.ntmps95
  go_wp2_with fail
  refine HE.out.mono ?_
  rintro e w1 ⟨rfl, hN, hg⟩
  clear HE
  have hg' := grown_new (World.grownBy_alloc w _ none) hg (by intro g e; cases e; exact Nat.le_refl _)
  have hc := hN.cell
  go_wp2
  go_ret
  exact ⟨rfl, hg'⟩
end Go.Proofs.YtpdofdloclmbdaaGreat
end
section
/- The document's sum, and the anchor. -/
namespace Go.Proofs.YtpdofdloclmbdaaGreat
open Go.RowKit Go.Grommet

set_option maxHeartbeats 1000000 in
theorem RefOf_any (ad : Option Addr) (l cap : Nat) (xs : List Nat) (w : World) (hx : Words w ad l xs) :
    Calls Tryz.prog 100 #[.slice ad l cap] w fun e w' => e = .returned (.int .u64 ((sumN xs : Nat) : Int)) ∧ w = w' := by
  have hfit := hx.fits
  have HL := Lib.hid hx.len
  go_enter Tryz.func100, Tryz.ntmps100
  go_wp2_with fail
  go_loop [3, 4] (fun s i => ∃ k : Nat, k ≤ l ∧ i = .int .i64 (k : Int) ∧ s = .int .u64 ((sumN (xs.take k) : Nat) : Int)) (fun _ i => l - (intOf i).toNat)
  case atStart => exact ⟨0, Nat.zero_le _, rfl, rfl⟩
  case round =>
    obtain ⟨k, hk, rfl, rfl⟩ := hrel
    by_cases hlt : k < l
    · have hlt' : (k : Int) < (l : Int) := by omega
      have h0 : (0 : Int) ≤ (k : Int) := by omega
      have hsm := hx.get k hlt
      obtain ⟨q, o, rfl, c1⟩ := wv_at hx.at_ k (by rw [HL.out]; exact hlt)
      have HS := Lib.hid (take_succ' xs k (by rw [HL.out]; exact hlt))
      generalize xs.getD k 0 = V at c1 hsm HS
      have HT := Lib.hid (stp_int (sumN (xs.take k)) V (sumN_lt _) hsm)
      go_wp2
      go_round
      case rel => exact ⟨k + 1, by omega, by go_num, by rw [HS.out, sumN_snoc, ← HT.out]⟩
      case measure => simp [intOf]; omega
    · obtain rfl : k = l := by omega
      have he : Ending.returned (.int .u64 ((sumN (xs.take k) : Nat) : Int)) = Ending.returned (.int .u64 ((sumN xs : Nat) : Int)) := by
        rw [List.take_of_length_le (by rw [HL.out]; exact Nat.le_refl _)]
      have HE := Lib.hid he
      clear he
      go_wp2
      go_ret
      exact ⟨HE.out, rfl⟩


end Go.Proofs.YtpdofdloclmbdaaGreat
end
