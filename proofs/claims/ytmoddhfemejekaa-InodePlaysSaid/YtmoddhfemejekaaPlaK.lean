/- RefA, RefI, InoK, RefJ, RefB, RefK, RefL, InoQ, InoO, Steps in one. -/
import Derived.Test.YtmoddhfemejekaaViewI
import Derived.Test.YtmoddhfemejekaaSetMath
import Derived.Test.YtmoddhfemejekaaInoA
import Derived.Test.YtmoddhfemejekaaLayR
import Derived.Test.YtmoddhfemejekaaInoG
import Derived.Deep.RegionHeld3
import Derived.Deep.DrawnRows
import Derived.Test.YtmoddhfemejekaaInoJ
import Derived.Test.YtmoddhfemejekaaInoH
import Derived.Test.YtmoddhfemejekaaInoF
import Derived.Test.YtmoddhfemejekaaInoI
import Derived.Test.YtmoddhfemejekaaRows
import Derived.Test.YtmoddhfemejekaaBase6
import Derived.ProofKit
import Derived.Deep.Slices
import Derived.Deep.Strs
section
/- The reference of stage 10: a view of the document's, side by side with other things; Set. -/
namespace Go.Proofs.Ytmoddhfemejekaa
open Go.RowKit Go.Grommet

/-- The document's view, whatever its flag says. -/
def refQ (g : Nat) (xs : List Nat) (L : List (Nat × Nat)) : Pr where
  holds w F := ∃ b, RefIs w g F xs L b
  turn := fun h ht hn => by obtain ⟨b, h⟩ := h; exact ⟨b, h.turn ht hn⟩
  old := fun h => by obtain ⟨_, _, _, h⟩ := h; exact h.old
theorem RGetQ (k g : Nat) (xs : List Nat) (L : List (Nat × Nat)) (a : Int) (w0 w : World) (Ps : List Pr) (h : Own w0 w Ps) (hk : Ps[k]? = some (refQ g xs L)) :
    Calls Try.prog 35 #[.pointer (some ⟨g, 0, none⟩), .int .i64 a] w fun e w' => e = .returned (.int .u64 (gotI xs L a : Int)) ∧ w' = w := by
  obtain ⟨F, b, h1⟩ := h.get k hk
  refine (RefGet_any g F xs L b a w h1).mono ?_
  rintro e w' ⟨rfl, rfl⟩
  exact ⟨rfl, rfl⟩
theorem RPutQ (k g : Nat) (xs : List Nat) (L : List (Nat × Nat)) (a : Int) (v : Nat) (en : Int) (w0 w : World) (Ps Qs : List Pr) (h : Own w0 w Ps) (hk : Ps[k]? = some (refQ g xs L)) (hv : v < 18446744073709551616)
    (he : (putEI xs L a : Int) = en) (hQ : Ps.set k (refQ g xs (putI xs L a v)) = Qs) :
    Calls Try.prog 58 #[.pointer (some ⟨g, 0, none⟩), .int .i64 a, .int .u64 (v : Int)] w fun e w' => e = .returned (.int .i64 en) ∧ Own w0 w' Qs := by
  obtain ⟨F, ⟨b, h1⟩, h2⟩ := h.take k hk
  refine (RefPut_any g F xs L b a v w h1 hv).mono ?_
  rintro e w' ⟨rfl, F', hF', hd1, hd2⟩
  subst he
  subst hQ
  exact ⟨rfl, h2 w' _ ⟨F', ⟨_, hF'⟩, hd1, hd2⟩⟩
/-- What its cells hold. -/
theorem ref_cells {w0 w : World} {Ps : List Pr} (h : Own w0 w Ps) (k : Nat) {g : Nat} {xs : List Nat} {L : List (Nat × Nat)} (hk : Ps[k]? = some (refQ g xs L)) :
    (∃ ad cap, w.cell? ⟨g, 0, none⟩ = some (.slice ad xs.length cap)) ∧ (∃ ad cap, w.cell? ⟨g, 1, none⟩ = some (.slice ad L.length cap)) ∧ xs.length ≤ 549755813888 ∧ (∀ n ∈ xs, n < 18446744073709551616) ∧ Wl xs.length L := by
  obtain ⟨F, b, vi, vl, h1⟩ := h.get k hk
  obtain ⟨c0, c1, _⟩ := h1.cells
  obtain ⟨ad, cap, he, _⟩ := row_slice h1.words
  obtain ⟨ad', cap', he', _⟩ := row_slice h1.writes
  subst he he'
  exact ⟨⟨ad, cap, c0⟩, ⟨ad', cap', c1⟩, h1.fits, h1.small, h1.good⟩

set_option maxRecDepth 100000 in
set_option maxHeartbeats 1000000 in
theorem RSetQ (k g : Nat) (xs : List Nat) (L : List (Nat × Nat)) (a : Int) (v : Nat) (en : Int) (w0 w : World) (Ps Qs : List Pr) (h : Own w0 w Ps) (hk : Ps[k]? = some (refQ g xs L)) (hv : v < 18446744073709551616)
    (he : (setE xs L a v : Int) = en) (hQ : Ps.set k (refQ g xs (setL xs L a v)) = Qs) :
    Calls Try.prog 52 #[.pointer (some ⟨g, 0, none⟩), .int .i64 a, .int .u64 (v : Int)] w fun e w' => e = .returned (.int .i64 en) ∧ Own w0 w' Qs := by
  obtain ⟨⟨ad, cap, c0⟩, _, hfit, _, _⟩ := ref_cells h k hk
  have HG := Lib.hid (RGetQ k g xs L a w0 w Ps h hk)
  have hQs : Ps.set k (refQ g xs L) = Ps := by
    apply List.ext_getElem?
    intro i
    by_cases hi : i = k
    · subst hi; rw [List.getElem?_set_self (List.getElem?_eq_some_iff.1 hk).1, hk]
    · rw [List.getElem?_set_ne (fun e => hi e.symm)]
  by_cases hr : 0 ≤ a ∧ a < (xs.length : Int)
  · unfold setE at he
    unfold setL at hQ
    rw [if_pos hr] at he hQ
    have hgi : gotI xs L a = gotV xs L a.toNat := by unfold gotI; rw [if_pos hr]
    rw [hgi] at HG
    have a0 : ¬ a < 0 := by omega
    have a1 : ¬ (xs.length : Int) ≤ a := by omega
    by_cases hx : gotV xs L a.toNat = v
    · rw [if_pos hx] at he hQ
      rw [hx] at HG
      rw [hQs] at hQ
      subst he hQ
      have h := Lib.hid h
      generalize xs.length = n at *
      have e1 : ((v : Int) == (v : Int)) = true := by simp
      clear hx hgi hv hQs
      go_enter Try.func52, Try.ntmps52
      go_wp2_with fail
      refine HG.out.mono ?_
      rintro e w2 ⟨rfl, rfl⟩
      go_wp2
      go_ret
      exact ⟨rfl, h.out⟩
    · rw [if_neg hx] at he hQ
      have HP := Lib.hid (RPutQ k g xs L a v en w0 w Ps Qs h hk hv (by unfold putEI; rw [if_pos hr]; exact he) (by unfold putI; rw [if_pos hr]; exact hQ))
      generalize gotV xs L a.toNat = u at *
      generalize xs.length = n at *
      have e1 : ((u : Int) == (v : Int)) = false := by simp; omega
      clear hx hgi hv hQs he hQ h
      go_enter Try.func52, Try.ntmps52
      go_wp2_with fail
      refine HG.out.mono ?_
      rintro e w2 ⟨rfl, rfl⟩
      go_wp2_with fail
      refine HP.out.mono ?_
      rintro e w3 ⟨rfl, hO⟩
      go_wp2
      go_ret
      exact ⟨rfl, hO⟩
  · unfold setE at he
    unfold setL at hQ
    rw [if_neg hr] at he hQ
    rw [hQs] at hQ
    subst he hQ
    have h := Lib.hid h
    clear HG hQs hk
    by_cases a0 : a < 0
    · generalize xs.length = n at *
      clear hr hv
      go_enter Try.func52, Try.ntmps52
      go_wp2
      go_ret
      exact ⟨rfl, h.out⟩
    · have a1 : (xs.length : Int) ≤ a := by omega
      generalize xs.length = n at *
      clear hr hv
      go_enter Try.func52, Try.ntmps52
      go_wp2
      go_ret
      exact ⟨rfl, h.out⟩
end Go.Proofs.Ytmoddhfemejekaa
end
section
/- The document's Right and There. -/
namespace Go.Proofs.Ytmoddhfemejekaa
open Go.RowKit Go.Grommet

def NodeR (N : Nat) (k l o s d0 d1 d2 d3 ch p : Nat) (w : World) : Prop := w.heap[N]? = some (.cells #[.int .u64 (k : Int), .int .u64 (l : Int), .int .u64 (o : Int), .int .u64 (s : Int), .int .u64 (d0 : Int), .int .u64 (d1 : Int), .int .u64 (d2 : Int), .int .u64 (d3 : Int), .int .u64 (ch : Int), .int .u64 (p : Int)] 46 (0, 0))
theorem NodeR.keep {N : Nat} {k l o s d0 d1 d2 d3 ch p : Nat} {w w' : World} (h : NodeR N k l o s d0 d1 d2 d3 ch p w) (hg : w.grownBy w' none) : NodeR N k l o s d0 d1 d2 d3 ch p w' := (hg.block N (lt_of_block h) (by simp)).trans h
theorem NodeR.cells {N : Nat} {k l o s d0 d1 d2 d3 ch p : Nat} {w : World} (h : NodeR N k l o s d0 d1 d2 d3 ch p w) : w.cell? ⟨N, 0, none⟩ = some (.int .u64 (k : Int)) ∧ w.cell? ⟨N, 1, none⟩ = some (.int .u64 (l : Int)) ∧ w.cell? ⟨N, 2, none⟩ = some (.int .u64 (o : Int)) ∧ w.cell? ⟨N, 3, none⟩ = some (.int .u64 (s : Int)) ∧ w.cell? ⟨N, 4, none⟩ = some (.int .u64 (d0 : Int)) ∧ w.cell? ⟨N, 5, none⟩ = some (.int .u64 (d1 : Int)) ∧ w.cell? ⟨N, 6, none⟩ = some (.int .u64 (d2 : Int)) ∧ w.cell? ⟨N, 7, none⟩ = some (.int .u64 (d3 : Int)) ∧ w.cell? ⟨N, 8, none⟩ = some (.int .u64 (ch : Int)) ∧ w.cell? ⟨N, 9, none⟩ = some (.int .u64 (p : Int)) := by
  unfold NodeR at h
  refine ⟨?_, ?_, ?_, ?_, ?_, ?_, ?_, ?_, ?_, ?_⟩ <;> simp [World.cell?, h]
theorem NodeR.free {N : Nat} {k l o s d0 d1 d2 d3 ch p : Nat} {w : World} (h : NodeR N k l o s d0 d1 d2 d3 ch p w) (i : Nat) : w.frozen? ⟨N, i, none⟩ = false := by
  unfold NodeR at h
  simp [World.frozen?, h]
def GeoR (G : Nat) (a b c : Int) (w : World) : Prop := w.heap[G]? = some (.cells #[.int .i64 a, .int .i64 b, .int .i64 c] 28 (0, 0))
theorem GeoR.keep {G : Nat} {a b c : Int} {w w' : World} (h : GeoR G a b c w) (hg : w.grownBy w' none) : GeoR G a b c w' := (hg.block G (lt_of_block h) (by simp)).trans h
theorem GeoR.cells {G : Nat} {a b c : Int} {w : World} (h : GeoR G a b c w) : w.cell? ⟨G, 0, none⟩ = some (.int .i64 a) ∧ w.cell? ⟨G, 1, none⟩ = some (.int .i64 b) ∧ w.cell? ⟨G, 2, none⟩ = some (.int .i64 c) := by
  unfold GeoR at h
  refine ⟨?_, ?_, ?_⟩ <;> simp [World.cell?, h]


set_option maxRecDepth 100000 in
set_option maxHeartbeats 4000000 in
theorem RRight_any (a b c : Int) (k l o s d0 d1 d2 d3 ch p : Nat) (w : World) : Calls Try.prog 14 #[gv a b c, nv k l o s d0 d1 d2 d3 ch p] w (BoolIs (rightB a b c k l o s d0 d1 d2 d3 ch p) w) := by
  have HM := Lib.hid (fun wx => RMay_any a b c wx)
  cases hm : mayB a b c with
  | false =>
    have HF := Lib.hid (show rightB a b c k l o s d0 d1 d2 d3 ch p = false by unfold rightB; rw [decide_eq_false_iff_not, hm]; simp)
    rw [hm] at HM
    unfold gv nv at *
    go_enter Try.func14, Try.ntmps14
    go_wp2_with fail
    refine (HM.out _).mono ?_
    rintro e w1 ⟨rfl, hg1⟩
    go_wp2
    go_ret
    exact boolIs_mk HF.out (grown_trans (grown_alloc2 w _ _) hg1)
  | true =>
    rw [hm] at HM
    have hq := mayB_yes hm
    have wc : IntKind.u64.wrap c = c := IntWalk.u64_in _ ⟨by omega, by omega⟩
    have wb : IntKind.u64.wrap b = b := IntWalk.u64_in _ ⟨by omega, by omega⟩
    have HV := Lib.hid hm
    have Hq := Lib.hid hq
    obtain ⟨G, HG⟩ : ∃ G, Hid (G = w.heap.size) := ⟨_, Lib.hid rfl⟩
    obtain ⟨N, HN⟩ : ∃ N, Hid (N = w.heap.size + 1) := ⟨_, Lib.hid rfl⟩
    have hS0 : GeoR G a b c ((w.alloc (.cells #[.int .i64 a, .int .i64 b, .int .i64 c] 28)).alloc (.cells #[.int .u64 (k : Int), .int .u64 (l : Int), .int .u64 (o : Int), .int .u64 (s : Int), .int .u64 (d0 : Int), .int .u64 (d1 : Int), .int .u64 (d2 : Int), .int .u64 (d3 : Int), .int .u64 (ch : Int), .int .u64 (p : Int)] 46)) ∧ NodeR N k l o s d0 d1 d2 d3 ch p ((w.alloc (.cells #[.int .i64 a, .int .i64 b, .int .i64 c] 28)).alloc (.cells #[.int .u64 (k : Int), .int .u64 (l : Int), .int .u64 (o : Int), .int .u64 (s : Int), .int .u64 (d0 : Int), .int .u64 (d1 : Int), .int .u64 (d2 : Int), .int .u64 (d3 : Int), .int .u64 (ch : Int), .int .u64 (p : Int)] 46)) := by
      constructor
      · rw [HG.out]; exact ((World.grownBy_alloc _ (.cells #[.int .u64 (k : Int), .int .u64 (l : Int), .int .u64 (o : Int), .int .u64 (s : Int), .int .u64 (d0 : Int), .int .u64 (d1 : Int), .int .u64 (d2 : Int), .int .u64 (d3 : Int), .int .u64 (ch : Int), .int .u64 (p : Int)] 46) none).block _ (by simp) (by simp)).trans (heap_alloc_new w _)
      · rw [HN.out]; exact heap_alloc_new2 w _ _
    have hS0 := Lib.hid hS0
    clear hm hq
    unfold gv nv at *
    go_enter Try.func14, Try.ntmps14
    go_wp2_with fail
    rw [← HN.out, ← HG.out]
    refine (HM.out _).mono ?_
    rintro e w1 ⟨rfl, hg1⟩
    have hW : Hid (GeoR G a b c w1 ∧ NodeR N k l o s d0 d1 d2 d3 ch p w1 ∧ w.grownBy w1 none) := Lib.hid ⟨hS0.out.1.keep hg1, hS0.out.2.keep hg1, grown_trans (grown_alloc2 w _ _) hg1⟩
    clear hg1 HM hS0
    obtain ⟨f0, f1, f2⟩ := GeoR.cells hW.out.1
    obtain ⟨x0, x1, x2, x3, x4, x5, x6, x7, x8, x9⟩ := NodeR.cells hW.out.2.1
    have hg := Lib.hid hW.out.2.2
    by_cases k1 : k = 1
    · subst k1
      by_cases cl : (65536 : Int) < (l : Int)
      · have HF := Lib.hid (show rightB a b c 1 l o s d0 d1 d2 d3 ch p = false by unfold rightB; rw [decide_eq_false_iff_not]; omega)
        go_wp2
        go_ret
        exact boolIs_mk HF.out hg.out
      by_cases co : (16 : Int) < (o : Int)
      · have HF := Lib.hid (show rightB a b c 1 l o s d0 d1 d2 d3 ch p = false by unfold rightB; rw [decide_eq_false_iff_not]; omega)
        go_wp2
        go_ret
        exact boolIs_mk HF.out hg.out
      by_cases cs : (768 : Int) < (s : Int)
      · have HF := Lib.hid (show rightB a b c 1 l o s d0 d1 d2 d3 ch p = false by unfold rightB; rw [decide_eq_false_iff_not]; omega)
        go_wp2
        go_ret
        exact boolIs_mk HF.out hg.out
      by_cases cch : c ≤ (ch : Int)
      · have HF := Lib.hid (show rightB a b c 1 l o s d0 d1 d2 d3 ch p = false by unfold rightB; rw [decide_eq_false_iff_not]; omega)
        go_wp2
        go_ret
        exact boolIs_mk HF.out hg.out
      by_cases cp : b ≤ (p : Int)
      · have HF := Lib.hid (show rightB a b c 1 l o s d0 d1 d2 d3 ch p = false by unfold rightB; rw [decide_eq_false_iff_not]; omega)
        go_wp2
        go_ret
        exact boolIs_mk HF.out hg.out
      have HA := Lib.hid (And.intro cl (And.intro co (And.intro cs (And.intro cch cp))))
      go_wp2_with fail
      clear x0 x1 x2 x3 x4 x5 x6 x7 x8 x9 f0 f1 f2 cl co cs cch cp hg
      go_loopw [5] (fun i wr => ∃ j : Int, (j = 0 ∨ (j = 1 ∧ (d0 : Int) < c) ∨ (j = 2 ∧ (d0 : Int) < c ∧ (d1 : Int) < c) ∨ (j = 3 ∧ (d0 : Int) < c ∧ (d1 : Int) < c ∧ (d2 : Int) < c) ∨ (j = 4 ∧ (d0 : Int) < c ∧ (d1 : Int) < c ∧ (d2 : Int) < c ∧ (d3 : Int) < c)) ∧ i = .int .i64 j ∧ Hid (GeoR G a b c wr ∧ NodeR N 1 l o s d0 d1 d2 d3 ch p wr ∧ w.grownBy wr none)) (fun i _ => 4 - (intOf i).toNat)
      case atStart => exact ⟨0, .inl rfl, rfl, hW⟩
      case round =>
        clear hW
        obtain ⟨j, hj, rfl, hW⟩ := hrel
        obtain ⟨f0, f1, f2⟩ := GeoR.cells hW.out.1
        obtain ⟨x0, x1, x2, x3, x4, x5, x6, x7, x8, x9⟩ := NodeR.cells hW.out.2.1
        have hg := Lib.hid hW.out.2.2
        rcases hj with rfl | ⟨rfl, y0⟩ | ⟨rfl, y0, y1⟩ | ⟨rfl, y0, y1, y2⟩ | ⟨rfl, y0, y1, y2, y3⟩
        · by_cases h : (d0 : Int) < c
          · have hh : ¬ c ≤ (d0 : Int) := by omega
            go_wp2_with fail
            go_quiet (fail)
            go_wp2
            go_roundw
            case rel => exact ⟨1, .inr (.inl ⟨rfl, h⟩), rfl, Lib.hid ⟨hW.out.1.keep (grown_drewN _ _ _), hW.out.2.1.keep (grown_drewN _ _ _), grown_trans hW.out.2.2 (grown_drewN _ _ _)⟩⟩
            case measure => simp [intOf]
          · have hh : c ≤ (d0 : Int) := by omega
            have HF := Lib.hid (show rightB a b c 1 l o s d0 d1 d2 d3 ch p = false by unfold rightB; rw [decide_eq_false_iff_not]; omega)
            go_wp2_with fail
            go_quiet (fail)
            go_wp2
            go_ret
            exact boolIs_mk HF.out (grown_trans hg.out (grown_drewN _ _ _))
        · by_cases h : (d1 : Int) < c
          · have hh : ¬ c ≤ (d1 : Int) := by omega
            go_wp2_with fail
            go_quiet (fail)
            go_wp2
            go_roundw
            case rel => exact ⟨2, .inr (.inr (.inl ⟨rfl, y0, h⟩)), rfl, Lib.hid ⟨hW.out.1.keep (grown_drewN _ _ _), hW.out.2.1.keep (grown_drewN _ _ _), grown_trans hW.out.2.2 (grown_drewN _ _ _)⟩⟩
            case measure => simp [intOf]
          · have hh : c ≤ (d1 : Int) := by omega
            have HF := Lib.hid (show rightB a b c 1 l o s d0 d1 d2 d3 ch p = false by unfold rightB; rw [decide_eq_false_iff_not]; omega)
            go_wp2_with fail
            go_quiet (fail)
            go_wp2
            go_ret
            exact boolIs_mk HF.out (grown_trans hg.out (grown_drewN _ _ _))
        · by_cases h : (d2 : Int) < c
          · have hh : ¬ c ≤ (d2 : Int) := by omega
            go_wp2_with fail
            go_quiet (fail)
            go_wp2
            go_roundw
            case rel => exact ⟨3, .inr (.inr (.inr (.inl ⟨rfl, y0, y1, h⟩))), rfl, Lib.hid ⟨hW.out.1.keep (grown_drewN _ _ _), hW.out.2.1.keep (grown_drewN _ _ _), grown_trans hW.out.2.2 (grown_drewN _ _ _)⟩⟩
            case measure => simp [intOf]
          · have hh : c ≤ (d2 : Int) := by omega
            have HF := Lib.hid (show rightB a b c 1 l o s d0 d1 d2 d3 ch p = false by unfold rightB; rw [decide_eq_false_iff_not]; omega)
            go_wp2_with fail
            go_quiet (fail)
            go_wp2
            go_ret
            exact boolIs_mk HF.out (grown_trans hg.out (grown_drewN _ _ _))
        · by_cases h : (d3 : Int) < c
          · have hh : ¬ c ≤ (d3 : Int) := by omega
            go_wp2_with fail
            go_quiet (fail)
            go_wp2
            go_roundw
            case rel => exact ⟨4, .inr (.inr (.inr (.inr (⟨rfl, y0, y1, y2, h⟩)))), rfl, Lib.hid ⟨hW.out.1.keep (grown_drewN _ _ _), hW.out.2.1.keep (grown_drewN _ _ _), grown_trans hW.out.2.2 (grown_drewN _ _ _)⟩⟩
            case measure => simp [intOf]
          · have hh : c ≤ (d3 : Int) := by omega
            have HF := Lib.hid (show rightB a b c 1 l o s d0 d1 d2 d3 ch p = false by unfold rightB; rw [decide_eq_false_iff_not]; omega)
            go_wp2_with fail
            go_quiet (fail)
            go_wp2
            go_ret
            exact boolIs_mk HF.out (grown_trans hg.out (grown_drewN _ _ _))
        · by_cases h : p = 0
          · have hz : (((p : Nat) : Int) == 0) = true := by simp; omega
            have HF := Lib.hid (show rightB a b c 1 l o s d0 d1 d2 d3 ch p = true by have hm := HV.out; have ha := HA.out; unfold rightB; rw [decide_eq_true_eq]; exact ⟨hm, by omega, by omega, by omega, by omega, by omega, by omega, by omega, by omega, y0, y1, y2, y3⟩)
            go_wp2
            go_ret
            exact boolIs_mk HF.out hg.out
          · have hz : (((p : Nat) : Int) == 0) = false := by simp; omega
            have HF := Lib.hid (show rightB a b c 1 l o s d0 d1 d2 d3 ch p = false by unfold rightB; rw [decide_eq_false_iff_not]; omega)
            go_wp2
            go_ret
            exact boolIs_mk HF.out hg.out
    by_cases k2 : k = 2
    · subst k2
      by_cases cl : (65536 : Int) < (l : Int)
      · have HF := Lib.hid (show rightB a b c 2 l o s d0 d1 d2 d3 ch p = false by unfold rightB; rw [decide_eq_false_iff_not]; omega)
        go_wp2
        go_ret
        exact boolIs_mk HF.out hg.out
      by_cases co : (16 : Int) < (o : Int)
      · have HF := Lib.hid (show rightB a b c 2 l o s d0 d1 d2 d3 ch p = false by unfold rightB; rw [decide_eq_false_iff_not]; omega)
        go_wp2
        go_ret
        exact boolIs_mk HF.out hg.out
      by_cases cs : (768 : Int) < (s : Int)
      · have HF := Lib.hid (show rightB a b c 2 l o s d0 d1 d2 d3 ch p = false by unfold rightB; rw [decide_eq_false_iff_not]; omega)
        go_wp2
        go_ret
        exact boolIs_mk HF.out hg.out
      by_cases cch : c ≤ (ch : Int)
      · have HF := Lib.hid (show rightB a b c 2 l o s d0 d1 d2 d3 ch p = false by unfold rightB; rw [decide_eq_false_iff_not]; omega)
        go_wp2
        go_ret
        exact boolIs_mk HF.out hg.out
      by_cases cp : b ≤ (p : Int)
      · have HF := Lib.hid (show rightB a b c 2 l o s d0 d1 d2 d3 ch p = false by unfold rightB; rw [decide_eq_false_iff_not]; omega)
        go_wp2
        go_ret
        exact boolIs_mk HF.out hg.out
      have HA := Lib.hid (And.intro cl (And.intro co (And.intro cs (And.intro cch cp))))
      go_wp2_with fail
      clear x0 x1 x2 x3 x4 x5 x6 x7 x8 x9 f0 f1 f2 cl co cs cch cp hg
      go_loopw [5] (fun i wr => ∃ j : Int, (j = 0 ∨ (j = 1 ∧ (d0 : Int) < c) ∨ (j = 2 ∧ (d0 : Int) < c ∧ (d1 : Int) < c) ∨ (j = 3 ∧ (d0 : Int) < c ∧ (d1 : Int) < c ∧ (d2 : Int) < c) ∨ (j = 4 ∧ (d0 : Int) < c ∧ (d1 : Int) < c ∧ (d2 : Int) < c ∧ (d3 : Int) < c)) ∧ i = .int .i64 j ∧ Hid (GeoR G a b c wr ∧ NodeR N 2 l o s d0 d1 d2 d3 ch p wr ∧ w.grownBy wr none)) (fun i _ => 4 - (intOf i).toNat)
      case atStart => exact ⟨0, .inl rfl, rfl, hW⟩
      case round =>
        clear hW
        obtain ⟨j, hj, rfl, hW⟩ := hrel
        obtain ⟨f0, f1, f2⟩ := GeoR.cells hW.out.1
        obtain ⟨x0, x1, x2, x3, x4, x5, x6, x7, x8, x9⟩ := NodeR.cells hW.out.2.1
        have hg := Lib.hid hW.out.2.2
        rcases hj with rfl | ⟨rfl, y0⟩ | ⟨rfl, y0, y1⟩ | ⟨rfl, y0, y1, y2⟩ | ⟨rfl, y0, y1, y2, y3⟩
        · by_cases h : (d0 : Int) < c
          · have hh : ¬ c ≤ (d0 : Int) := by omega
            go_wp2_with fail
            go_quiet (fail)
            go_wp2
            go_roundw
            case rel => exact ⟨1, .inr (.inl ⟨rfl, h⟩), rfl, Lib.hid ⟨hW.out.1.keep (grown_drewN _ _ _), hW.out.2.1.keep (grown_drewN _ _ _), grown_trans hW.out.2.2 (grown_drewN _ _ _)⟩⟩
            case measure => simp [intOf]
          · have hh : c ≤ (d0 : Int) := by omega
            have HF := Lib.hid (show rightB a b c 2 l o s d0 d1 d2 d3 ch p = false by unfold rightB; rw [decide_eq_false_iff_not]; omega)
            go_wp2_with fail
            go_quiet (fail)
            go_wp2
            go_ret
            exact boolIs_mk HF.out (grown_trans hg.out (grown_drewN _ _ _))
        · by_cases h : (d1 : Int) < c
          · have hh : ¬ c ≤ (d1 : Int) := by omega
            go_wp2_with fail
            go_quiet (fail)
            go_wp2
            go_roundw
            case rel => exact ⟨2, .inr (.inr (.inl ⟨rfl, y0, h⟩)), rfl, Lib.hid ⟨hW.out.1.keep (grown_drewN _ _ _), hW.out.2.1.keep (grown_drewN _ _ _), grown_trans hW.out.2.2 (grown_drewN _ _ _)⟩⟩
            case measure => simp [intOf]
          · have hh : c ≤ (d1 : Int) := by omega
            have HF := Lib.hid (show rightB a b c 2 l o s d0 d1 d2 d3 ch p = false by unfold rightB; rw [decide_eq_false_iff_not]; omega)
            go_wp2_with fail
            go_quiet (fail)
            go_wp2
            go_ret
            exact boolIs_mk HF.out (grown_trans hg.out (grown_drewN _ _ _))
        · by_cases h : (d2 : Int) < c
          · have hh : ¬ c ≤ (d2 : Int) := by omega
            go_wp2_with fail
            go_quiet (fail)
            go_wp2
            go_roundw
            case rel => exact ⟨3, .inr (.inr (.inr (.inl ⟨rfl, y0, y1, h⟩))), rfl, Lib.hid ⟨hW.out.1.keep (grown_drewN _ _ _), hW.out.2.1.keep (grown_drewN _ _ _), grown_trans hW.out.2.2 (grown_drewN _ _ _)⟩⟩
            case measure => simp [intOf]
          · have hh : c ≤ (d2 : Int) := by omega
            have HF := Lib.hid (show rightB a b c 2 l o s d0 d1 d2 d3 ch p = false by unfold rightB; rw [decide_eq_false_iff_not]; omega)
            go_wp2_with fail
            go_quiet (fail)
            go_wp2
            go_ret
            exact boolIs_mk HF.out (grown_trans hg.out (grown_drewN _ _ _))
        · by_cases h : (d3 : Int) < c
          · have hh : ¬ c ≤ (d3 : Int) := by omega
            go_wp2_with fail
            go_quiet (fail)
            go_wp2
            go_roundw
            case rel => exact ⟨4, .inr (.inr (.inr (.inr (⟨rfl, y0, y1, y2, h⟩)))), rfl, Lib.hid ⟨hW.out.1.keep (grown_drewN _ _ _), hW.out.2.1.keep (grown_drewN _ _ _), grown_trans hW.out.2.2 (grown_drewN _ _ _)⟩⟩
            case measure => simp [intOf]
          · have hh : c ≤ (d3 : Int) := by omega
            have HF := Lib.hid (show rightB a b c 2 l o s d0 d1 d2 d3 ch p = false by unfold rightB; rw [decide_eq_false_iff_not]; omega)
            go_wp2_with fail
            go_quiet (fail)
            go_wp2
            go_ret
            exact boolIs_mk HF.out (grown_trans hg.out (grown_drewN _ _ _))
        · by_cases h : s = 0
          · have hz : (((s : Nat) : Int) == 0) = true := by simp; omega
            have HF := Lib.hid (show rightB a b c 2 l o s d0 d1 d2 d3 ch p = true by have hm := HV.out; have ha := HA.out; unfold rightB; rw [decide_eq_true_eq]; exact ⟨hm, by omega, by omega, by omega, by omega, by omega, by omega, by omega, by omega, y0, y1, y2, y3⟩)
            go_wp2
            go_ret
            exact boolIs_mk HF.out hg.out
          · have hz : (((s : Nat) : Int) == 0) = false := by simp; omega
            have HF := Lib.hid (show rightB a b c 2 l o s d0 d1 d2 d3 ch p = false by unfold rightB; rw [decide_eq_false_iff_not]; omega)
            go_wp2
            go_ret
            exact boolIs_mk HF.out hg.out
    have e1 : ((k : Int) != 1) = true := by simp; omega
    have e2 : ((k : Int) != 2) = true := by simp; omega
    have HF := Lib.hid (show rightB a b c k l o s d0 d1 d2 d3 ch p = false by unfold rightB; rw [decide_eq_false_iff_not]; omega)
    go_wp2
    go_ret
    exact boolIs_mk HF.out hg.out

set_option maxRecDepth 100000 in
set_option maxHeartbeats 2000000 in
theorem RThereQ (k g : Nat) (xs : List Nat) (L : List (Nat × Nat)) (a b c n en : Int) (w0 w : World) (Ps : List Pr) (h : Own w0 w Ps) (hk : Ps[k]? = some (refQ g xs L)) (he : hasE a b c n true xs.length = en) :
    Calls Try.prog 33 #[.pointer (some ⟨g, 0, none⟩), gv a b c, .int .i64 n] w fun e w' => e = .returned (.int .i64 en) ∧ w.grownBy w' none := by
  obtain ⟨⟨ad, cap, c0⟩, _, hfit, _, _⟩ := ref_cells h k hk
  have hlen : (xs.length : Int) ≤ 549755813888 := by omega
  generalize xs.length = len at *
  clear h hk hfit
  obtain ⟨G, HG⟩ : ∃ G, Hid (G = w.heap.size) := ⟨_, Lib.hid rfl⟩
  have hS0 : (w.alloc (.cells #[.int .i64 a, .int .i64 b, .int .i64 c] 28)).cell? ⟨g, 0, none⟩ = some (.slice ad len cap) ∧ GeoR G a b c (w.alloc (.cells #[.int .i64 a, .int .i64 b, .int .i64 c] 28)) ∧ w.grownBy (w.alloc (.cells #[.int .i64 a, .int .i64 b, .int .i64 c] 28)) none :=
    ⟨(World.grownBy_alloc w _ none).cell c0 (by simp), by rw [HG.out]; exact heap_alloc_new w _, World.grownBy_alloc w _ none⟩
  have hS0 := Lib.hid hS0
  have HM := Lib.hid (fun wx => RMay_any a b c wx)
  have HW := Lib.hid (fun wx => RWords_any a b c wx)
  cases hm : mayB a b c with
  | false =>
    have hi : inodeV a b c n = -1 := by unfold inodeV; rw [if_neg (by rw [hm]; simp)]
    have he1 : en = 1 := by rw [← he]; unfold hasE; rw [if_pos (.inr (.inl (by rw [hi]; omega)))]
    subst he1
    rw [hm] at HM
    clear he hi hm HW
    unfold gv at *
    go_enter Try.func33, Try.ntmps33
    go_wp2_with fail
    rw [← HG.out]
    refine (HM.out _).mono ?_
    rintro e w1 ⟨rfl, hg1⟩
    have hgE := Lib.hid (grown_trans hS0.out.2.2 hg1)
    go_wp2
    go_ret
    exact ⟨rfl, hgE.out⟩
  | true =>
    have hq := mayB_yes hm
    have hwv : wordsV a b c = 280 + 208 * a + 16 * b + 8 * c := by unfold wordsV; rw [if_pos hm]
    rw [hm] at HM
    by_cases h1 : n < 1
    · have he1 : en = 1 := by rw [← he]; unfold hasE; rw [if_pos (.inl h1)]
      subst he1
      clear he hm HW hq hwv
      unfold gv at *
      go_enter Try.func33, Try.ntmps33
      go_wp2_with fail
      rw [← HG.out]
      refine (HM.out _).mono ?_
      rintro e w1 ⟨rfl, hg1⟩
      have hgE := Lib.hid (grown_trans hS0.out.2.2 hg1)
      go_wp2
      go_ret
      exact ⟨rfl, hgE.out⟩
    · by_cases h2 : b ≤ n
      · have hi : inodeV a b c n = -1 := by unfold inodeV; rw [if_neg (by omega)]
        have he1 : en = 1 := by rw [← he]; unfold hasE; rw [if_pos (.inr (.inl (by rw [hi]; omega)))]
        subst he1
        clear he hm HW hq hwv hi
        unfold gv at *
        go_enter Try.func33, Try.ntmps33
        go_wp2_with fail
        rw [← HG.out]
        refine (HM.out _).mono ?_
        rintro e w1 ⟨rfl, hg1⟩
        have hgE := Lib.hid (grown_trans hS0.out.2.2 hg1)
        obtain ⟨y0, y1, y2⟩ := GeoR.cells (hS0.out.2.1.keep hg1)
        go_wp2
        go_ret
        exact ⟨rfl, hgE.out⟩
      · have hi : 0 ≤ inodeV a b c n := by unfold inodeV; rw [if_pos ⟨hm, by omega, by omega⟩]; omega
        rw [show hasE a b c n true len = if (len : Int) < wordsV a b c then 8 else 0 by unfold hasE; rw [if_neg (by rintro (h | h | h); exact h1 h; omega; cases h)]] at he
        rw [hwv] at he HW
        obtain ⟨W, hW⟩ : ∃ W, 280 + 208 * a + 16 * b + 8 * c = W := ⟨_, rfl⟩
        rw [hW] at he HW
        clear hm hq hwv hi hW
        unfold gv at *
        by_cases h3 : (len : Int) < W
        · rw [if_pos h3] at he
          subst he
          go_enter Try.func33, Try.ntmps33
          go_wp2_with fail
          rw [← HG.out]
          refine (HM.out _).mono ?_
          rintro e w1 ⟨rfl, hg1⟩
          have hS0 := Lib.hid (show w1.drew.cell? ⟨g, 0, none⟩ = some (.slice ad len cap) ∧ GeoR G a b c w1.drew ∧ w.grownBy w1.drew none from ⟨(grown_drew hg1).cell hS0.out.1 (by simp), hS0.out.2.1.keep (grown_drew hg1), grown_trans hS0.out.2.2 (grown_drew hg1)⟩)
          obtain ⟨y0, y1, y2⟩ := GeoR.cells (show GeoR G a b c w1 from hS0.out.2.1)
          clear hg1
          go_wp2_with fail
          refine wp_region_held_drew (S := fun w' => w'.cell? ⟨g, 0, none⟩ = some (.slice ad len cap) ∧ GeoR G a b c w' ∧ w.grownBy w' none) (by kernel_rfl) (hS0.out) (fun hS => ?_)
          refine wpAnyH_take (i := 0) (oi := { dst := some 20, op := Op.move (Operand.tmp 0), type := 33, pos := "ref.go:55", after := #[], guard := none }) (v := ?vta33r3o0) rfl (by kernel_rfl) (by kernel_rfl) (by kernel_rfl) (fun _ _ _ h => h) (Or.inl ⟨by rfl, ?hta33r3o0⟩) hS ?_
          case hta33r3o0 => (intro wx hx; skip; go_simp; (try with_reducible rfl))
          try simp only [Act.put, List.setIfInBounds_toArray, List.set_cons_zero, List.set_cons_succ]
          refine wpAnyH_take (i := 1) (oi := { dst := some 21, op := Op.nilCheck (Operand.tmp 20), type := 0, pos := "ref.go:55", after := #[{ on := 0, ground := Ground.data }], guard := none }) (v := ?vta33r3o1) rfl (by kernel_rfl) (by kernel_rfl) (by kernel_rfl) (fun _ _ _ h => h) (Or.inl ⟨by rfl, ?hta33r3o1⟩) hS ?_
          case hta33r3o1 => (intro wx hx; skip; go_simp; (try with_reducible rfl))
          try simp only [Act.put, List.setIfInBounds_toArray, List.set_cons_zero, List.set_cons_succ]
          refine wpAnyH_take (i := 2) (oi := { dst := some 22, op := Op.fieldAddr 43 (Operand.tmp 21) 0, type := 0, pos := "ref.go:55", after := #[{ on := 1, ground := Ground.data }], guard := none }) (v := ?vta33r3o2) rfl (by kernel_rfl) (by kernel_rfl) (by kernel_rfl) (fun _ _ _ h => h) (Or.inl ⟨by rfl, ?hta33r3o2⟩) hS ?_
          case hta33r3o2 => (intro wx hx; skip; go_simp; (try with_reducible rfl))
          try simp only [Act.put, List.setIfInBounds_toArray, List.set_cons_zero, List.set_cons_succ]
          refine wpAnyH_take (i := 3) (oi := { dst := some 23, op := Op.load 29 (Operand.tmp 22), type := 29, pos := "ref.go:55", after := #[{ on := 2, ground := Ground.data }], guard := none }) (v := ?vta33r3o3) rfl (by kernel_rfl) (by kernel_rfl) (by kernel_rfl) (fun _ _ _ h => h) (Or.inl ⟨by rfl, ?hta33r3o3⟩) hS ?_
          case hta33r3o3 => (intro wx hx; have hx0 := hx.1; obtain ⟨q0, q1, q2⟩ := GeoR.cells hx.2.1; go_simp; (try with_reducible rfl))
          try simp only [Act.put, List.setIfInBounds_toArray, List.set_cons_zero, List.set_cons_succ]
          refine wpAnyH_take (i := 4) (oi := { dst := some 24, op := Op.call { callee := Callee.builtin Builtin.len, args := #[Operand.tmp 23], argTypes := #[29] }, type := 3, pos := "ref.go:55", after := #[{ on := 3, ground := Ground.data }], guard := none }) (v := ?vta33r3o4) rfl (by kernel_rfl) (by kernel_rfl) (by kernel_rfl) (fun _ _ _ h => h) (Or.inl ⟨by rfl, ?hta33r3o4⟩) hS ?_
          case hta33r3o4 => (intro wx hx; skip; go_simp; (try with_reducible rfl))
          try simp only [Act.put, List.setIfInBounds_toArray, List.set_cons_zero, List.set_cons_succ]
          refine wpAnyH_take (i := 5) (oi := { dst := some 25, op := Op.load 28 (Operand.tmp 4), type := 28, pos := "ref.go:55", after := #[], guard := none }) (v := ?vta33r3o5) rfl (by kernel_rfl) (by kernel_rfl) (by kernel_rfl) (fun _ _ _ h => h) (Or.inl ⟨by rfl, ?hta33r3o5⟩) hS ?_
          case hta33r3o5 => (intro wx hx; have hx0 := hx.1; obtain ⟨q0, q1, q2⟩ := GeoR.cells hx.2.1; go_simp; (try with_reducible rfl))
          try simp only [Act.put, List.setIfInBounds_toArray, List.set_cons_zero, List.set_cons_succ]
          refine wpAnyH_ready (rs := [6]) (by kernel_rfl) (by simp) ?_
          refine AllReadyH.cons (o := { dst := some 26, op := Op.call { callee := Callee.value (Operand.func 41), args := #[Operand.tmp 25], argTypes := #[28] }, type := 3, pos := "ref.go:55", after := #[{ on := 5, ground := Ground.data }], guard := none }) rfl (fun K hK => ?_) AllReadyH.nil
          go_simp
          refine (HW.out _).mono ?_
          rintro e wB ⟨rfl, hgB⟩
          have hS1 : wB.cell? ⟨g, 0, none⟩ = some (.slice ad len cap) ∧ GeoR G a b c wB ∧ w.grownBy wB none := ⟨hgB.cell hS.1 (by simp), hS.2.1.keep hgB, grown_trans hS.2.2 hgB⟩
          refine hK.out _ _ ?hsta33r3o6 (fun hS => ?_)
          case hsta33r3o6 => (exact hS1)
          clear hK K
          try simp only [Act.put, List.setIfInBounds_toArray, List.set_cons_zero, List.set_cons_succ]
          refine wpAnyH_take (i := 7) (oi := { dst := some 27, op := Op.binOp BinOp.lss 3 (Operand.tmp 24) (Operand.tmp 26) 3, type := 4, pos := "ref.go:55", after := #[{ on := 4, ground := Ground.data }, { on := 6, ground := Ground.data }], guard := none }) (v := ?vta33r3o7) rfl (by kernel_rfl) (by kernel_rfl) (by kernel_rfl) (fun _ _ _ h => h) (Or.inl ⟨by rfl, ?hta33r3o7⟩) hS ?_
          case hta33r3o7 => (intro wx hx; skip; go_simp; (try with_reducible rfl))
          try simp only [Act.put, List.setIfInBounds_toArray, List.set_cons_zero, List.set_cons_succ]
          refine wpAnyH_done (by kernel_rfl) ?_ _
          have hgE := Lib.hid hS.2.2
          clear hS hS0
          go_wp2
          go_ret
          exact ⟨rfl, hgE.out⟩
        · rw [if_neg h3] at he
          subst he
          go_enter Try.func33, Try.ntmps33
          go_wp2_with fail
          rw [← HG.out]
          refine (HM.out _).mono ?_
          rintro e w1 ⟨rfl, hg1⟩
          have hS0 := Lib.hid (show w1.drew.cell? ⟨g, 0, none⟩ = some (.slice ad len cap) ∧ GeoR G a b c w1.drew ∧ w.grownBy w1.drew none from ⟨(grown_drew hg1).cell hS0.out.1 (by simp), hS0.out.2.1.keep (grown_drew hg1), grown_trans hS0.out.2.2 (grown_drew hg1)⟩)
          obtain ⟨y0, y1, y2⟩ := GeoR.cells (show GeoR G a b c w1 from hS0.out.2.1)
          clear hg1
          go_wp2_with fail
          refine wp_region_held_drew (S := fun w' => w'.cell? ⟨g, 0, none⟩ = some (.slice ad len cap) ∧ GeoR G a b c w' ∧ w.grownBy w' none) (by kernel_rfl) (hS0.out) (fun hS => ?_)
          refine wpAnyH_take (i := 0) (oi := { dst := some 20, op := Op.move (Operand.tmp 0), type := 33, pos := "ref.go:55", after := #[], guard := none }) (v := ?vtb33r3o0) rfl (by kernel_rfl) (by kernel_rfl) (by kernel_rfl) (fun _ _ _ h => h) (Or.inl ⟨by rfl, ?htb33r3o0⟩) hS ?_
          case htb33r3o0 => (intro wx hx; skip; go_simp; (try with_reducible rfl))
          try simp only [Act.put, List.setIfInBounds_toArray, List.set_cons_zero, List.set_cons_succ]
          refine wpAnyH_take (i := 1) (oi := { dst := some 21, op := Op.nilCheck (Operand.tmp 20), type := 0, pos := "ref.go:55", after := #[{ on := 0, ground := Ground.data }], guard := none }) (v := ?vtb33r3o1) rfl (by kernel_rfl) (by kernel_rfl) (by kernel_rfl) (fun _ _ _ h => h) (Or.inl ⟨by rfl, ?htb33r3o1⟩) hS ?_
          case htb33r3o1 => (intro wx hx; skip; go_simp; (try with_reducible rfl))
          try simp only [Act.put, List.setIfInBounds_toArray, List.set_cons_zero, List.set_cons_succ]
          refine wpAnyH_take (i := 2) (oi := { dst := some 22, op := Op.fieldAddr 43 (Operand.tmp 21) 0, type := 0, pos := "ref.go:55", after := #[{ on := 1, ground := Ground.data }], guard := none }) (v := ?vtb33r3o2) rfl (by kernel_rfl) (by kernel_rfl) (by kernel_rfl) (fun _ _ _ h => h) (Or.inl ⟨by rfl, ?htb33r3o2⟩) hS ?_
          case htb33r3o2 => (intro wx hx; skip; go_simp; (try with_reducible rfl))
          try simp only [Act.put, List.setIfInBounds_toArray, List.set_cons_zero, List.set_cons_succ]
          refine wpAnyH_take (i := 3) (oi := { dst := some 23, op := Op.load 29 (Operand.tmp 22), type := 29, pos := "ref.go:55", after := #[{ on := 2, ground := Ground.data }], guard := none }) (v := ?vtb33r3o3) rfl (by kernel_rfl) (by kernel_rfl) (by kernel_rfl) (fun _ _ _ h => h) (Or.inl ⟨by rfl, ?htb33r3o3⟩) hS ?_
          case htb33r3o3 => (intro wx hx; have hx0 := hx.1; obtain ⟨q0, q1, q2⟩ := GeoR.cells hx.2.1; go_simp; (try with_reducible rfl))
          try simp only [Act.put, List.setIfInBounds_toArray, List.set_cons_zero, List.set_cons_succ]
          refine wpAnyH_take (i := 4) (oi := { dst := some 24, op := Op.call { callee := Callee.builtin Builtin.len, args := #[Operand.tmp 23], argTypes := #[29] }, type := 3, pos := "ref.go:55", after := #[{ on := 3, ground := Ground.data }], guard := none }) (v := ?vtb33r3o4) rfl (by kernel_rfl) (by kernel_rfl) (by kernel_rfl) (fun _ _ _ h => h) (Or.inl ⟨by rfl, ?htb33r3o4⟩) hS ?_
          case htb33r3o4 => (intro wx hx; skip; go_simp; (try with_reducible rfl))
          try simp only [Act.put, List.setIfInBounds_toArray, List.set_cons_zero, List.set_cons_succ]
          refine wpAnyH_take (i := 5) (oi := { dst := some 25, op := Op.load 28 (Operand.tmp 4), type := 28, pos := "ref.go:55", after := #[], guard := none }) (v := ?vtb33r3o5) rfl (by kernel_rfl) (by kernel_rfl) (by kernel_rfl) (fun _ _ _ h => h) (Or.inl ⟨by rfl, ?htb33r3o5⟩) hS ?_
          case htb33r3o5 => (intro wx hx; have hx0 := hx.1; obtain ⟨q0, q1, q2⟩ := GeoR.cells hx.2.1; go_simp; (try with_reducible rfl))
          try simp only [Act.put, List.setIfInBounds_toArray, List.set_cons_zero, List.set_cons_succ]
          refine wpAnyH_ready (rs := [6]) (by kernel_rfl) (by simp) ?_
          refine AllReadyH.cons (o := { dst := some 26, op := Op.call { callee := Callee.value (Operand.func 41), args := #[Operand.tmp 25], argTypes := #[28] }, type := 3, pos := "ref.go:55", after := #[{ on := 5, ground := Ground.data }], guard := none }) rfl (fun K hK => ?_) AllReadyH.nil
          go_simp
          refine (HW.out _).mono ?_
          rintro e wB ⟨rfl, hgB⟩
          have hS1 : wB.cell? ⟨g, 0, none⟩ = some (.slice ad len cap) ∧ GeoR G a b c wB ∧ w.grownBy wB none := ⟨hgB.cell hS.1 (by simp), hS.2.1.keep hgB, grown_trans hS.2.2 hgB⟩
          refine hK.out _ _ ?hstb33r3o6 (fun hS => ?_)
          case hstb33r3o6 => (exact hS1)
          clear hK K
          try simp only [Act.put, List.setIfInBounds_toArray, List.set_cons_zero, List.set_cons_succ]
          refine wpAnyH_take (i := 7) (oi := { dst := some 27, op := Op.binOp BinOp.lss 3 (Operand.tmp 24) (Operand.tmp 26) 3, type := 4, pos := "ref.go:55", after := #[{ on := 4, ground := Ground.data }, { on := 6, ground := Ground.data }], guard := none }) (v := ?vtb33r3o7) rfl (by kernel_rfl) (by kernel_rfl) (by kernel_rfl) (fun _ _ _ h => h) (Or.inl ⟨by rfl, ?htb33r3o7⟩) hS ?_
          case htb33r3o7 => (intro wx hx; skip; go_simp; (try with_reducible rfl))
          try simp only [Act.put, List.setIfInBounds_toArray, List.set_cons_zero, List.set_cons_succ]
          refine wpAnyH_done (by kernel_rfl) ?_ _
          have hgE := Lib.hid hS.2.2
          clear hS hS0
          go_wp2
          go_ret
          exact ⟨rfl, hgE.out⟩
end Go.Proofs.Ytmoddhfemejekaa
end
section
/- Package inode: Get, Put, Wipe refused. -/
namespace Go.Proofs.Ytmoddhfemejekaa
open Go.RowKit Go.Grommet

theorem hasE_ways (a b c n : Int) (m : Bool) (len : Nat) : hasE a b c n m len = 0 ∨ hasE a b c n m len = 1 ∨ hasE a b c n m len = 8 := by
  unfold hasE
  split
  · exact .inr (.inl rfl)
  · split
    · exact .inr (.inr rfl)
    · exact .inl rfl
theorem hasE_yes {a b c n : Int} {m : Bool} {len : Nat} (h : hasE a b c n m len = 0) : 1 ≤ n ∧ 0 ≤ inodeV a b c n ∧ m = true ∧ wordsV a b c ≤ (len : Int) ∧ mayB a b c = true ∧ n < b ∧ inodeV a b c n = 280 + 208 * a + 16 * n ∧ inodeV a b c n + 10 ≤ (len : Int) := by
  unfold hasE at h
  split at h
  · cases h
  · rename_i h1
    split at h
    · cases h
    · rename_i h2
      have hm : m = true := by
        cases m with
        | true => rfl
        | false => exact absurd (.inr (.inr rfl)) h1
      have hn : 1 ≤ n := by
        by_cases hh : n < 1
        · exact absurd (.inl hh) h1
        · omega
      have hi : 0 ≤ inodeV a b c n := by
        by_cases hh : inodeV a b c n < 0
        · exact absurd (.inr (.inl hh)) h1
        · omega
      by_cases hx : mayB a b c = true ∧ 0 ≤ n ∧ n < b
      · have h3 : inodeV a b c n = 280 + 208 * a + 16 * n := by unfold inodeV; rw [if_pos hx]
        have h4 := words_pos' hx.1
        have h5 := mayB_yes hx.1
        exact ⟨hn, hi, hm, by omega, hx.1, hx.2.2, h3, by omega⟩
      · have h3 : inodeV a b c n = -1 := by unfold inodeV; rw [if_neg hx]
        omega

set_option maxRecDepth 100000 in
set_option maxHeartbeats 4000000 in
theorem GetE (k g : Nat) (xs : List Nat) (L : List (Nat × Nat)) (a b c n en : Int) (w0 w : World) (Ps : List Pr) (h : Own w0 w Ps) (hk : Ps[k]? = some (viewP g xs L)) (he : hasE a b c n true xs.length = en) (hne : en ≠ 0) :
    Calls Try.prog 15 #[.pointer (some ⟨g, 0, none⟩), gv a b c, .int .i64 n] w fun e w' => e = .returned (.tuple #[.agg #[.int .u64 0, .int .u64 0, .int .u64 0, .int .u64 0, .int .u64 0, .int .u64 0, .int .u64 0, .int .u64 0, .int .u64 0, .int .u64 0], .int .i64 en]) ∧ Own w0 w' Ps := by
  have hkl := (List.getElem?_eq_some_iff.1 hk).1
  obtain ⟨G, HG⟩ : ∃ G, Hid (G = w.heap.size) := ⟨_, Lib.hid rfl⟩
  obtain ⟨M, HM⟩ : ∃ M, Hid (M = w.heap.size + 1) := ⟨_, Lib.hid rfl⟩
  have hO : Own w0 ((w.alloc (.cells #[.int .i64 a, .int .i64 b, .int .i64 c] 23)).alloc (.cells #[.int .u64 0, .int .u64 0, .int .u64 0, .int .u64 0, .int .u64 0, .int .u64 0, .int .u64 0, .int .u64 0, .int .u64 0, .int .u64 0] 38)) (Ps ++ [boxP G 23 #[.int .i64 a, .int .i64 b, .int .i64 c], boxP M 38 #[.int .u64 0, .int .u64 0, .int .u64 0, .int .u64 0, .int .u64 0, .int .u64 0, .int .u64 0, .int .u64 0, .int .u64 0, .int .u64 0]]) := by
    have h := (h.addBox 23 #[.int .i64 a, .int .i64 b, .int .i64 c]).addBox 38 #[.int .u64 0, .int .u64 0, .int .u64 0, .int .u64 0, .int .u64 0, .int .u64 0, .int .u64 0, .int .u64 0, .int .u64 0, .int .u64 0]
    rw [World.size_alloc, ← HM.out, ← HG.out, List.append_assoc] at h
    exact h
  have Hk := Lib.hid (show ∀ Rs, (Ps ++ Rs)[k]? = some (viewP g xs L) from fun Rs => by rw [List.getElem?_append_left hkl]; exact hk)
  have Hgeo := Lib.hid (fun wx Rs (hO : Own w0 wx (Ps ++ (boxP G 23 #[.int .i64 a, .int .i64 b, .int .i64 c] :: Rs))) => show GeoS G a b c wx from Own.box hO Ps.length (by rw [List.getElem?_append_right (Nat.le_refl _), Nat.sub_self]; rfl))
  have Hhas := Lib.hid (fun wx (hO : Own w0 wx (Ps ++ [boxP G 23 #[.int .i64 a, .int .i64 b, .int .i64 c], boxP M 38 #[.int .u64 0, .int .u64 0, .int .u64 0, .int .u64 0, .int .u64 0, .int .u64 0, .int .u64 0, .int .u64 0, .int .u64 0, .int .u64 0]])) => hasH k g xs L a b c n true en w0 wx _ hO (Hk.out _) he)
  replace hO := Lib.hid hO
  obtain ⟨y0, y1, y2⟩ := (Hgeo.out _ _ hO.out).cells
  have qn : (en != 0) = true := by simp; omega
  unfold gv at *
  clear h hk hkl he hne
  go_enter Try.func15, Try.ntmps15
  go_wp2_with fail
  rw [← HM.out, ← HG.out]
  refine (Hhas.out _ hO.out).mono ?_
  rintro e w4 ⟨rfl, hO4⟩
  clear y0 y1 y2 Hhas hO
  have hz : w4.heap[M]? = some (.cells #[.int .u64 0, .int .u64 0, .int .u64 0, .int .u64 0, .int .u64 0, .int .u64 0, .int .u64 0, .int .u64 0, .int .u64 0, .int .u64 0] 38 (0, 0)) := Own.box hO4 (Ps.length + 1) (by rw [List.getElem?_append_right (by omega), show Ps.length + 1 - Ps.length = 1 from by omega]; rfl)
  have hq : ∀ w5 : World, w4.grownBy w5 (some M) → Own w0 w5 Ps := fun w5 hg => by
    have h : Own w0 w4 ((Ps ++ [boxP G 23 #[.int .i64 a, .int .i64 b, .int .i64 c]]) ++ boxP M 38 #[.int .u64 0, .int .u64 0, .int .u64 0, .int .u64 0, .int .u64 0, .int .u64 0, .int .u64 0, .int .u64 0, .int .u64 0, .int .u64 0] :: []) := by rw [List.append_assoc]; exact hO4
    exact (h.forget hg).less
  have Hq := Lib.hid hq
  clear hq hO4
  have m0 : w4.cell? ⟨M, 0, none⟩ = some (.int .u64 0) := by simp [World.cell?, hz]
  have m1 : w4.cell? ⟨M, 1, none⟩ = some (.int .u64 0) := by simp [World.cell?, hz]
  have m2 : w4.cell? ⟨M, 2, none⟩ = some (.int .u64 0) := by simp [World.cell?, hz]
  have m3 : w4.cell? ⟨M, 3, none⟩ = some (.int .u64 0) := by simp [World.cell?, hz]
  have m4 : w4.cell? ⟨M, 4, none⟩ = some (.int .u64 0) := by simp [World.cell?, hz]
  have m5 : w4.cell? ⟨M, 5, none⟩ = some (.int .u64 0) := by simp [World.cell?, hz]
  have m6 : w4.cell? ⟨M, 6, none⟩ = some (.int .u64 0) := by simp [World.cell?, hz]
  have m7 : w4.cell? ⟨M, 7, none⟩ = some (.int .u64 0) := by simp [World.cell?, hz]
  have m8 : w4.cell? ⟨M, 8, none⟩ = some (.int .u64 0) := by simp [World.cell?, hz]
  have m9 : w4.cell? ⟨M, 9, none⟩ = some (.int .u64 0) := by simp [World.cell?, hz]
  have q0 : w4.frozen? ⟨M, 0, none⟩ = false := by simp [World.frozen?, hz]
  have q1 : w4.frozen? ⟨M, 1, none⟩ = false := by simp [World.frozen?, hz]
  have q2 : w4.frozen? ⟨M, 2, none⟩ = false := by simp [World.frozen?, hz]
  have q3 : w4.frozen? ⟨M, 3, none⟩ = false := by simp [World.frozen?, hz]
  have q4 : w4.frozen? ⟨M, 4, none⟩ = false := by simp [World.frozen?, hz]
  have q5 : w4.frozen? ⟨M, 5, none⟩ = false := by simp [World.frozen?, hz]
  have q6 : w4.frozen? ⟨M, 6, none⟩ = false := by simp [World.frozen?, hz]
  have q7 : w4.frozen? ⟨M, 7, none⟩ = false := by simp [World.frozen?, hz]
  have q8 : w4.frozen? ⟨M, 8, none⟩ = false := by simp [World.frozen?, hz]
  have q9 : w4.frozen? ⟨M, 9, none⟩ = false := by simp [World.frozen?, hz]
  have hz1 := heap_setCell_at (o := 0) hz (.int .u64 0)
  have hz2 := heap_setCell_at (o := 1) hz1 (.int .u64 0)
  have hz3 := heap_setCell_at (o := 2) hz2 (.int .u64 0)
  have hz4 := heap_setCell_at (o := 3) hz3 (.int .u64 0)
  have hz5 := heap_setCell_at (o := 4) hz4 (.int .u64 0)
  have hz6 := heap_setCell_at (o := 5) hz5 (.int .u64 0)
  have hz7 := heap_setCell_at (o := 6) hz6 (.int .u64 0)
  have hz8 := heap_setCell_at (o := 7) hz7 (.int .u64 0)
  have hz9 := heap_setCell_at (o := 8) hz8 (.int .u64 0)
  have hz10 := heap_setCell_at (o := 9) hz9 (.int .u64 0)
  have g1 : w4.grownBy ((((((((((w4.setCell ⟨M, 0, none⟩ (.int .u64 0)).setCell ⟨M, 1, none⟩ (.int .u64 0)).setCell ⟨M, 2, none⟩ (.int .u64 0)).setCell ⟨M, 3, none⟩ (.int .u64 0)).setCell ⟨M, 4, none⟩ (.int .u64 0)).setCell ⟨M, 5, none⟩ (.int .u64 0)).setCell ⟨M, 6, none⟩ (.int .u64 0)).setCell ⟨M, 7, none⟩ (.int .u64 0)).setCell ⟨M, 8, none⟩ (.int .u64 0)).setCell ⟨M, 9, none⟩ (.int .u64 0)) (some M) := (grown_trans (grown_trans (grown_trans (grown_trans (grown_trans (grown_trans (grown_trans (grown_trans (grown_trans (grown_setCell _ ⟨M, 0, none⟩ (.int .u64 0)) (grown_setCell _ ⟨M, 1, none⟩ (.int .u64 0))) (grown_setCell _ ⟨M, 2, none⟩ (.int .u64 0))) (grown_setCell _ ⟨M, 3, none⟩ (.int .u64 0))) (grown_setCell _ ⟨M, 4, none⟩ (.int .u64 0))) (grown_setCell _ ⟨M, 5, none⟩ (.int .u64 0))) (grown_setCell _ ⟨M, 6, none⟩ (.int .u64 0))) (grown_setCell _ ⟨M, 7, none⟩ (.int .u64 0))) (grown_setCell _ ⟨M, 8, none⟩ (.int .u64 0))) (grown_setCell _ ⟨M, 9, none⟩ (.int .u64 0)))
  obtain ⟨W3, hW3⟩ : ∃ W3, W3 = ((((((((((w4.setCell ⟨M, 0, none⟩ (.int .u64 0)).setCell ⟨M, 1, none⟩ (.int .u64 0)).setCell ⟨M, 2, none⟩ (.int .u64 0)).setCell ⟨M, 3, none⟩ (.int .u64 0)).setCell ⟨M, 4, none⟩ (.int .u64 0)).setCell ⟨M, 5, none⟩ (.int .u64 0)).setCell ⟨M, 6, none⟩ (.int .u64 0)).setCell ⟨M, 7, none⟩ (.int .u64 0)).setCell ⟨M, 8, none⟩ (.int .u64 0)).setCell ⟨M, 9, none⟩ (.int .u64 0)) := ⟨_, rfl⟩
  clear hz1 hz2 hz3 hz4 hz5 hz6 hz7 hz8 hz9
  go_wp2
  rw [← hW3] at hz10 g1 ⊢
  have Z0 : W3.cell? ⟨M, 0, none⟩ = some (.int .u64 0) := by simp [World.cell?, hz10]
  have Z1 : W3.cell? ⟨M, 1, none⟩ = some (.int .u64 0) := by simp [World.cell?, hz10]
  have Z2 : W3.cell? ⟨M, 2, none⟩ = some (.int .u64 0) := by simp [World.cell?, hz10]
  have Z3 : W3.cell? ⟨M, 3, none⟩ = some (.int .u64 0) := by simp [World.cell?, hz10]
  have Z4 : W3.cell? ⟨M, 4, none⟩ = some (.int .u64 0) := by simp [World.cell?, hz10]
  have Z5 : W3.cell? ⟨M, 5, none⟩ = some (.int .u64 0) := by simp [World.cell?, hz10]
  have Z6 : W3.cell? ⟨M, 6, none⟩ = some (.int .u64 0) := by simp [World.cell?, hz10]
  have Z7 : W3.cell? ⟨M, 7, none⟩ = some (.int .u64 0) := by simp [World.cell?, hz10]
  have Z8 : W3.cell? ⟨M, 8, none⟩ = some (.int .u64 0) := by simp [World.cell?, hz10]
  have Z9 : W3.cell? ⟨M, 9, none⟩ = some (.int .u64 0) := by simp [World.cell?, hz10]
  exact bodyPost_ret (v := .tuple #[.agg #[.int .u64 0, .int .u64 0, .int .u64 0, .int .u64 0, .int .u64 0, .int .u64 0, .int .u64 0, .int .u64 0, .int .u64 0, .int .u64 0], .int .i64 en]) (by simp [results, Try.results15, go_sem, Z0, Z1, Z2, Z3, Z4, Z5, Z6, Z7, Z8, Z9]) rfl ⟨rfl, Hq.out _ g1⟩

set_option maxRecDepth 100000 in
set_option maxHeartbeats 2000000 in
theorem WipeE (k g : Nat) (xs : List Nat) (L : List (Nat × Nat)) (a b c n en : Int) (w0 w : World) (Ps : List Pr) (h : Own w0 w Ps) (hk : Ps[k]? = some (viewP g xs L)) (he : hasE a b c n true xs.length = en) (hne : en ≠ 0) :
    Calls Try.prog 19 #[.pointer (some ⟨g, 0, none⟩), gv a b c, .int .i64 n] w fun e w' => e = .returned (.int .i64 en) ∧ Own w0 w' Ps := by
  have hkl := (List.getElem?_eq_some_iff.1 hk).1
  obtain ⟨G, HG⟩ : ∃ G, Hid (G = w.heap.size) := ⟨_, Lib.hid rfl⟩
  have hO : Own w0 (w.alloc (.cells #[.int .i64 a, .int .i64 b, .int .i64 c] 23)) (Ps ++ [boxP G 23 #[.int .i64 a, .int .i64 b, .int .i64 c]]) := by rw [HG.out]; exact h.addBox _ _
  have Hk := Lib.hid (show ∀ Rs, (Ps ++ Rs)[k]? = some (viewP g xs L) from fun Rs => by rw [List.getElem?_append_left hkl]; exact hk)
  have Hgeo := Lib.hid (fun wx (hO : Own w0 wx (Ps ++ [boxP G 23 #[.int .i64 a, .int .i64 b, .int .i64 c]])) => show GeoS G a b c wx from Own.box hO Ps.length (by rw [List.getElem?_append_right (Nat.le_refl _), Nat.sub_self]; rfl))
  have Hhas := Lib.hid (fun wx (hO : Own w0 wx (Ps ++ [boxP G 23 #[.int .i64 a, .int .i64 b, .int .i64 c]])) => hasH k g xs L a b c n true en w0 wx _ hO (Hk.out _) he)
  obtain ⟨y0, y1, y2⟩ := (Hgeo.out _ hO).cells
  replace hO := Lib.hid hO
  have qn : (en != 0) = true := by simp; omega
  unfold gv at *
  clear h hk hkl he hne
  go_enter Try.func19, Try.ntmps19
  go_wp2_with fail
  rw [← HG.out]
  refine (Hhas.out _ hO.out).mono ?_
  rintro e w1 ⟨rfl, hO1⟩
  replace hO1 := Lib.hid hO1
  go_wp2
  go_ret
  exact ⟨rfl, hO1.out.less⟩

set_option maxRecDepth 100000 in
set_option maxHeartbeats 2000000 in
theorem PutE (k g : Nat) (xs : List Nat) (L : List (Nat × Nat)) (a b c n : Int) (v0 v1 v2 v3 v4 v5 v6 v7 v8 v9 : Nat) (en : Int) (w0 w : World) (Ps : List Pr) (h : Own w0 w Ps) (hk : Ps[k]? = some (viewP g xs L)) (hr : rightB a b c v0 v1 v2 v3 v4 v5 v6 v7 v8 v9 = true) (he : hasE a b c n true xs.length = en) (hne : en ≠ 0) :
    Calls Try.prog 17 #[.pointer (some ⟨g, 0, none⟩), gv a b c, .int .i64 n, .agg #[.int .u64 (v0 : Int), .int .u64 (v1 : Int), .int .u64 (v2 : Int), .int .u64 (v3 : Int), .int .u64 (v4 : Int), .int .u64 (v5 : Int), .int .u64 (v6 : Int), .int .u64 (v7 : Int), .int .u64 (v8 : Int), .int .u64 (v9 : Int)]] w fun e w' => e = .returned (.int .i64 en) ∧ Own w0 w' Ps := by
  have hkl := (List.getElem?_eq_some_iff.1 hk).1
  obtain ⟨G, HG⟩ : ∃ G, Hid (G = w.heap.size) := ⟨_, Lib.hid rfl⟩
  obtain ⟨N, HN⟩ : ∃ N, Hid (N = w.heap.size + 1) := ⟨_, Lib.hid rfl⟩
  have hO : Own w0 ((w.alloc (.cells #[.int .i64 a, .int .i64 b, .int .i64 c] 23)).alloc (.cells #[.int .u64 (v0 : Int), .int .u64 (v1 : Int), .int .u64 (v2 : Int), .int .u64 (v3 : Int), .int .u64 (v4 : Int), .int .u64 (v5 : Int), .int .u64 (v6 : Int), .int .u64 (v7 : Int), .int .u64 (v8 : Int), .int .u64 (v9 : Int)] 38)) (Ps ++ [boxP G 23 #[.int .i64 a, .int .i64 b, .int .i64 c], boxP N 38 #[.int .u64 (v0 : Int), .int .u64 (v1 : Int), .int .u64 (v2 : Int), .int .u64 (v3 : Int), .int .u64 (v4 : Int), .int .u64 (v5 : Int), .int .u64 (v6 : Int), .int .u64 (v7 : Int), .int .u64 (v8 : Int), .int .u64 (v9 : Int)]]) := by
    have h := (h.addBox 23 #[.int .i64 a, .int .i64 b, .int .i64 c]).addBox 38 #[.int .u64 (v0 : Int), .int .u64 (v1 : Int), .int .u64 (v2 : Int), .int .u64 (v3 : Int), .int .u64 (v4 : Int), .int .u64 (v5 : Int), .int .u64 (v6 : Int), .int .u64 (v7 : Int), .int .u64 (v8 : Int), .int .u64 (v9 : Int)]
    rw [World.size_alloc, ← HN.out, ← HG.out, List.append_assoc] at h
    exact h
  have Hk := Lib.hid (show ∀ Rs, (Ps ++ Rs)[k]? = some (viewP g xs L) from fun Rs => by rw [List.getElem?_append_left hkl]; exact hk)
  have Hgeo := Lib.hid (fun wx (hO : Own w0 wx (Ps ++ [boxP G 23 #[.int .i64 a, .int .i64 b, .int .i64 c], boxP N 38 #[.int .u64 (v0 : Int), .int .u64 (v1 : Int), .int .u64 (v2 : Int), .int .u64 (v3 : Int), .int .u64 (v4 : Int), .int .u64 (v5 : Int), .int .u64 (v6 : Int), .int .u64 (v7 : Int), .int .u64 (v8 : Int), .int .u64 (v9 : Int)]])) => show GeoS G a b c wx ∧ NodeS N v0 v1 v2 v3 v4 v5 v6 v7 v8 v9 wx from ⟨Own.box hO Ps.length (by rw [List.getElem?_append_right (Nat.le_refl _), Nat.sub_self]; rfl), Own.box hO (Ps.length + 1) (by rw [List.getElem?_append_right (by omega), show Ps.length + 1 - Ps.length = 1 from by omega]; rfl)⟩)
  have HR := Lib.hid (fun wx => Right_any a b c v0 v1 v2 v3 v4 v5 v6 v7 v8 v9 wx)
  rw [hr] at HR
  have Hhas := Lib.hid (fun wx (hO : Own w0 wx (Ps ++ [boxP G 23 #[.int .i64 a, .int .i64 b, .int .i64 c], boxP N 38 #[.int .u64 (v0 : Int), .int .u64 (v1 : Int), .int .u64 (v2 : Int), .int .u64 (v3 : Int), .int .u64 (v4 : Int), .int .u64 (v5 : Int), .int .u64 (v6 : Int), .int .u64 (v7 : Int), .int .u64 (v8 : Int), .int .u64 (v9 : Int)]])) => hasH k g xs L a b c n true en w0 wx _ hO (Hk.out _) he)
  have qn : (en != 0) = true := by simp; omega
  unfold nv gv at *
  have hS0 := Hgeo.out _ hO
  replace hO := Lib.hid hO
  clear h hk hkl hr he hne
  go_enter Try.func17, Try.ntmps17
  go_wp2_with fail
  rw [← HN.out, ← HG.out]
  refine wp_region_held_drew (S := fun w' => GeoS G a b c w' ∧ NodeS N v0 v1 v2 v3 v4 v5 v6 v7 v8 v9 w') (by kernel_rfl) (And.intro (hS0.1.keep (grown_drew (World.grownBy.refl _ none))) (hS0.2.keep (grown_drew (World.grownBy.refl _ none)))) (fun hS => ?_)
  refine wpAnyH_take (i := 0) (oi := { dst := some 10, op := Op.move (Operand.tmp 0), type := 31, pos := "inode.go:89", after := #[], guard := none }) (v := ?vp617r1o0) rfl (by kernel_rfl) (by kernel_rfl) (by kernel_rfl) (fun _ _ _ h => h) (Or.inl ⟨by rfl, ?hp617r1o0⟩) hS ?_
  case hp617r1o0 => (intro wx hx; skip; go_simp; (try with_reducible rfl))
  try simp only [Act.put, List.setIfInBounds_toArray, List.set_cons_zero, List.set_cons_succ]
  refine wpAnyH_take (i := 1) (oi := { dst := some 11, op := Op.load 23 (Operand.tmp 5), type := 23, pos := "inode.go:89", after := #[], guard := none }) (v := ?vp617r1o1) rfl (by kernel_rfl) (by kernel_rfl) (by kernel_rfl) (fun _ _ _ h => h) (Or.inl ⟨by rfl, ?hp617r1o1⟩) hS ?_
  case hp617r1o1 => (intro wx hx; obtain ⟨hx0, hx1⟩ := hx; obtain ⟨y0, y1, y2⟩ := GeoS.cells hx0; obtain ⟨z0, z1, z2, z3, z4, z5, z6, z7, z8, z9⟩ := NodeS.cells hx1; go_simp; (try with_reducible rfl))
  try simp only [Act.put, List.setIfInBounds_toArray, List.set_cons_zero, List.set_cons_succ]
  refine wpAnyH_take (i := 2) (oi := { dst := some 12, op := Op.move (Operand.tmp 2), type := 3, pos := "inode.go:89", after := #[], guard := none }) (v := ?vp617r1o2) rfl (by kernel_rfl) (by kernel_rfl) (by kernel_rfl) (fun _ _ _ h => h) (Or.inl ⟨by rfl, ?hp617r1o2⟩) hS ?_
  case hp617r1o2 => (intro wx hx; skip; go_simp; (try with_reducible rfl))
  try simp only [Act.put, List.setIfInBounds_toArray, List.set_cons_zero, List.set_cons_succ]
  refine wpAnyH_take (i := 3) (oi := { dst := some 13, op := Op.load 23 (Operand.tmp 5), type := 23, pos := "inode.go:89", after := #[], guard := none }) (v := ?vp617r1o3) rfl (by kernel_rfl) (by kernel_rfl) (by kernel_rfl) (fun _ _ _ h => h) (Or.inl ⟨by rfl, ?hp617r1o3⟩) hS ?_
  case hp617r1o3 => (intro wx hx; obtain ⟨hx0, hx1⟩ := hx; obtain ⟨y0, y1, y2⟩ := GeoS.cells hx0; obtain ⟨z0, z1, z2, z3, z4, z5, z6, z7, z8, z9⟩ := NodeS.cells hx1; go_simp; (try with_reducible rfl))
  try simp only [Act.put, List.setIfInBounds_toArray, List.set_cons_zero, List.set_cons_succ]
  refine wpAnyH_take (i := 4) (oi := { dst := some 14, op := Op.load 38 (Operand.tmp 7), type := 38, pos := "inode.go:89", after := #[], guard := none }) (v := ?vp617r1o4) rfl (by kernel_rfl) (by kernel_rfl) (by kernel_rfl) (fun _ _ _ h => h) (Or.inl ⟨by rfl, ?hp617r1o4⟩) hS ?_
  case hp617r1o4 => (intro wx hx; obtain ⟨hx0, hx1⟩ := hx; obtain ⟨y0, y1, y2⟩ := GeoS.cells hx0; obtain ⟨z0, z1, z2, z3, z4, z5, z6, z7, z8, z9⟩ := NodeS.cells hx1; go_simp; (try with_reducible rfl))
  try simp only [Act.put, List.setIfInBounds_toArray, List.set_cons_zero, List.set_cons_succ]
  refine wpAnyH_ready (rs := [5]) (by kernel_rfl) (by simp) ?_
  refine AllReadyH.cons (o := { dst := some 15, op := Op.call { callee := Callee.value (Operand.func 13), args := #[Operand.tmp 13, Operand.tmp 14], argTypes := #[23, 38] }, type := 4, pos := "inode.go:89", after := #[{ on := 3, ground := Ground.data }, { on := 4, ground := Ground.data }], guard := none }) rfl (fun K hK => ?_) AllReadyH.nil
  go_simp
  refine (HR.out _).mono ?_
  rintro e wA ⟨rfl, hgA⟩
  have hO1 := (hO.out.quiet (grown_drew (World.grownBy.refl _ none))).quiet hgA
  have hS1 := Hgeo.out _ hO1
  refine hK.out _ _ ?hsp617r1o5 (fun hS => ?_)
  case hsp617r1o5 => (exact hS1)
  clear hK K
  try simp only [Act.put, List.setIfInBounds_toArray, List.set_cons_zero, List.set_cons_succ]
  refine wpAnyH_ready (rs := [6]) (by kernel_rfl) (by simp) ?_
  refine AllReadyH.cons (o := { dst := some 16, op := Op.call { callee := Callee.value (Operand.func 31), args := #[Operand.tmp 10, Operand.tmp 11, Operand.tmp 12, Operand.tmp 15], argTypes := #[31, 23, 3, 4] }, type := 47, pos := "inode.go:89", after := #[{ on := 0, ground := Ground.data }, { on := 1, ground := Ground.data }, { on := 2, ground := Ground.data }, { on := 5, ground := Ground.data }, { on := 5, ground := Ground.chain }], guard := none }) rfl (fun K hK => ?_) AllReadyH.nil
  go_simp
  refine (Hhas.out _ hO1).mono ?_
  rintro e wB ⟨rfl, hO2⟩
  have hS1 := Hgeo.out _ hO2
  refine hK.out _ _ ?hsp617r1o6 (fun hS => ?_)
  case hsp617r1o6 => (exact hS1)
  clear hK K
  try simp only [Act.put, List.setIfInBounds_toArray, List.set_cons_zero, List.set_cons_succ]
  refine wpAnyH_take (i := 7) (oi := { dst := some 9, op := Op.assign (Operand.tmp 16), type := 47, pos := "inode.go:89", after := #[{ on := 6, ground := Ground.data }, { on := 6, ground := Ground.chain }, { on := 0, ground := Ground.phase }, { on := 1, ground := Ground.phase }, { on := 2, ground := Ground.phase }, { on := 3, ground := Ground.phase }, { on := 4, ground := Ground.phase }, { on := 5, ground := Ground.phase }, { on := 6, ground := Ground.phase }], guard := none }) (v := ?vp617r1o7) rfl (by kernel_rfl) (by kernel_rfl) (by kernel_rfl) (fun _ _ _ h => h) (Or.inl ⟨by rfl, ?hp617r1o7⟩) hS ?_
  case hp617r1o7 => (intro wx hx; skip; go_simp; (try with_reducible rfl))
  try simp only [Act.put, List.setIfInBounds_toArray, List.set_cons_zero, List.set_cons_succ]
  refine wpAnyH_done (by kernel_rfl) ?_ _
  have hOB := Lib.hid hO2
  clear hS hS1 hgA hO1 hO2 hO hS0
  go_wp2
  go_ret
  exact ⟨rfl, hOB.out.less⟩
end Go.Proofs.Ytmoddhfemejekaa
end
section
/- The document's Get. -/
namespace Go.Grommet
open Go.RowKit
/-- A variable of the call's own, turned. -/
theorem Own.reBox {w0 w w' : World} {Ps : List Pr} (h : Own w0 w Ps) (k : Nat) {X : Nat} {T : TypeId} {cs cs' : Array Value} (hk : Ps[k]? = some (boxP X T cs)) (hg : w.grownBy w' (some X)) (hz : w'.heap[X]? = some (.cells cs' T (0, 0))) : Own w0 w' (Ps.set k (boxP X T cs')) := by
  obtain ⟨F, h1, h2⟩ := h.take k hk
  exact h2 _ _ ⟨F, ⟨hz, h1.2.1, fun i hi => Nat.lt_of_lt_of_le (h1.2.2 i hi) hg.size⟩, fun i hi => .inl hi, Turn.of hg (fun i e => by cases e; exact h1.2.1)⟩
/-- A node's words, the first ones of its blocks. -/
def nodeL (v0 v1 v2 v3 v4 v5 v6 v7 v8 v9 j : Nat) : List Nat := [v0, v1, v2, v3, if 0 < j then v4 else 0, if 1 < j then v5 else 0, if 2 < j then v6 else 0, if 3 < j then v7 else 0, v8, v9]
theorem nodeL_length (v0 v1 v2 v3 v4 v5 v6 v7 v8 v9 j : Nat) : (nodeL v0 v1 v2 v3 v4 v5 v6 v7 v8 v9 j).length = 10 := rfl
theorem nodeL_set (v0 v1 v2 v3 v4 v5 v6 v7 v8 v9 j : Nat) (hj : j < 4) : (nodeL v0 v1 v2 v3 v4 v5 v6 v7 v8 v9 j).set (4 + j) ([v4, v5, v6, v7].getD j 0) = nodeL v0 v1 v2 v3 v4 v5 v6 v7 v8 v9 (j + 1) := by
  match j, hj with
  | 0, _ => rfl
  | 1, _ => rfl
  | 2, _ => rfl
  | 3, _ => rfl
theorem nodeL_from (v0 v1 v2 v3 v4 v5 v6 v7 v8 v9 j : Nat) (hj : j < 4) : [v0, v1, v2, v3, v4, v5, v6, v7, v8, v9].getD (4 + j) 0 = [v4, v5, v6, v7].getD j 0 := by
  match j, hj with
  | 0, _ => rfl
  | 1, _ => rfl
  | 2, _ => rfl
  | 3, _ => rfl
end Go.Grommet
namespace Go.Proofs.Ytmoddhfemejekaa
open Go.RowKit Go.Grommet

set_option maxRecDepth 100000 in
set_option maxHeartbeats 4000000 in
theorem RGetE (k g : Nat) (xs : List Nat) (L : List (Nat × Nat)) (a b c n en : Int) (w0 w : World) (Ps : List Pr) (h : Own w0 w Ps) (hk : Ps[k]? = some (refQ g xs L)) (he : hasE a b c n true xs.length = en) (hne : en ≠ 0) :
    Calls Try.prog 16 #[.pointer (some ⟨g, 0, none⟩), gv a b c, .int .i64 n] w fun e w' => e = .returned (.tuple #[.agg #[.int .u64 0, .int .u64 0, .int .u64 0, .int .u64 0, .int .u64 0, .int .u64 0, .int .u64 0, .int .u64 0, .int .u64 0, .int .u64 0], .int .i64 en]) ∧ Own w0 w' Ps := by
  have hkl := (List.getElem?_eq_some_iff.1 hk).1
  obtain ⟨G, HG⟩ : ∃ G, Hid (G = w.heap.size) := ⟨_, Lib.hid rfl⟩
  obtain ⟨M, HM⟩ : ∃ M, Hid (M = w.heap.size + 1) := ⟨_, Lib.hid rfl⟩
  have hO : Own w0 ((w.alloc (.cells #[.int .i64 a, .int .i64 b, .int .i64 c] 28)).alloc (.cells #[.int .u64 0, .int .u64 0, .int .u64 0, .int .u64 0, .int .u64 0, .int .u64 0, .int .u64 0, .int .u64 0, .int .u64 0, .int .u64 0] 46)) (Ps ++ [boxP G 28 #[.int .i64 a, .int .i64 b, .int .i64 c], boxP M 46 #[.int .u64 0, .int .u64 0, .int .u64 0, .int .u64 0, .int .u64 0, .int .u64 0, .int .u64 0, .int .u64 0, .int .u64 0, .int .u64 0]]) := by
    have h := (h.addBox 28 #[.int .i64 a, .int .i64 b, .int .i64 c]).addBox 46 #[.int .u64 0, .int .u64 0, .int .u64 0, .int .u64 0, .int .u64 0, .int .u64 0, .int .u64 0, .int .u64 0, .int .u64 0, .int .u64 0]
    rw [World.size_alloc, ← HM.out, ← HG.out, List.append_assoc] at h
    exact h
  have Hk := Lib.hid (show ∀ Rs, (Ps ++ Rs)[k]? = some (refQ g xs L) from fun Rs => by rw [List.getElem?_append_left hkl]; exact hk)
  have Hgeo := Lib.hid (fun wx Rs (hO : Own w0 wx (Ps ++ (boxP G 28 #[.int .i64 a, .int .i64 b, .int .i64 c] :: Rs))) => show GeoR G a b c wx from Own.box hO Ps.length (by rw [List.getElem?_append_right (Nat.le_refl _), Nat.sub_self]; rfl))
  have HT := Lib.hid (fun wx (hO : Own w0 wx (Ps ++ [boxP G 28 #[.int .i64 a, .int .i64 b, .int .i64 c], boxP M 46 #[.int .u64 0, .int .u64 0, .int .u64 0, .int .u64 0, .int .u64 0, .int .u64 0, .int .u64 0, .int .u64 0, .int .u64 0, .int .u64 0]])) => RThereQ k g xs L a b c n en w0 wx _ hO (Hk.out _) he)
  replace hO := Lib.hid hO
  obtain ⟨y0, y1, y2⟩ := (Hgeo.out _ _ hO.out).cells
  have qn : (en != 0) = true := by simp; omega
  unfold gv at *
  clear h hk hkl he hne
  go_enter Try.func16, Try.ntmps16
  go_wp2_with fail
  rw [← HM.out, ← HG.out]
  refine (HT.out _ hO.out).mono ?_
  rintro e w4 ⟨rfl, hg⟩
  have hO4 := hO.out.quiet hg
  clear y0 y1 y2 HT hO hg
  have hz : w4.heap[M]? = some (.cells #[.int .u64 0, .int .u64 0, .int .u64 0, .int .u64 0, .int .u64 0, .int .u64 0, .int .u64 0, .int .u64 0, .int .u64 0, .int .u64 0] 46 (0, 0)) := Own.box hO4 (Ps.length + 1) (by rw [List.getElem?_append_right (by omega), show Ps.length + 1 - Ps.length = 1 from by omega]; rfl)
  have hq : ∀ w5 : World, w4.grownBy w5 (some M) → Own w0 w5 Ps := fun w5 hg => by
    have h : Own w0 w4 ((Ps ++ [boxP G 28 #[.int .i64 a, .int .i64 b, .int .i64 c]]) ++ boxP M 46 #[.int .u64 0, .int .u64 0, .int .u64 0, .int .u64 0, .int .u64 0, .int .u64 0, .int .u64 0, .int .u64 0, .int .u64 0, .int .u64 0] :: []) := by rw [List.append_assoc]; exact hO4
    exact (h.forget hg).less
  have Hq := Lib.hid hq
  clear hq hO4
  have m0 : w4.cell? ⟨M, 0, none⟩ = some (.int .u64 0) := by simp [World.cell?, hz]
  have m1 : w4.cell? ⟨M, 1, none⟩ = some (.int .u64 0) := by simp [World.cell?, hz]
  have m2 : w4.cell? ⟨M, 2, none⟩ = some (.int .u64 0) := by simp [World.cell?, hz]
  have m3 : w4.cell? ⟨M, 3, none⟩ = some (.int .u64 0) := by simp [World.cell?, hz]
  have m4 : w4.cell? ⟨M, 4, none⟩ = some (.int .u64 0) := by simp [World.cell?, hz]
  have m5 : w4.cell? ⟨M, 5, none⟩ = some (.int .u64 0) := by simp [World.cell?, hz]
  have m6 : w4.cell? ⟨M, 6, none⟩ = some (.int .u64 0) := by simp [World.cell?, hz]
  have m7 : w4.cell? ⟨M, 7, none⟩ = some (.int .u64 0) := by simp [World.cell?, hz]
  have m8 : w4.cell? ⟨M, 8, none⟩ = some (.int .u64 0) := by simp [World.cell?, hz]
  have m9 : w4.cell? ⟨M, 9, none⟩ = some (.int .u64 0) := by simp [World.cell?, hz]
  have q0 : w4.frozen? ⟨M, 0, none⟩ = false := by simp [World.frozen?, hz]
  have q1 : w4.frozen? ⟨M, 1, none⟩ = false := by simp [World.frozen?, hz]
  have q2 : w4.frozen? ⟨M, 2, none⟩ = false := by simp [World.frozen?, hz]
  have q3 : w4.frozen? ⟨M, 3, none⟩ = false := by simp [World.frozen?, hz]
  have q4 : w4.frozen? ⟨M, 4, none⟩ = false := by simp [World.frozen?, hz]
  have q5 : w4.frozen? ⟨M, 5, none⟩ = false := by simp [World.frozen?, hz]
  have q6 : w4.frozen? ⟨M, 6, none⟩ = false := by simp [World.frozen?, hz]
  have q7 : w4.frozen? ⟨M, 7, none⟩ = false := by simp [World.frozen?, hz]
  have q8 : w4.frozen? ⟨M, 8, none⟩ = false := by simp [World.frozen?, hz]
  have q9 : w4.frozen? ⟨M, 9, none⟩ = false := by simp [World.frozen?, hz]
  have hz1 := heap_setCell_at (o := 0) hz (.int .u64 0)
  have hz2 := heap_setCell_at (o := 1) hz1 (.int .u64 0)
  have hz3 := heap_setCell_at (o := 2) hz2 (.int .u64 0)
  have hz4 := heap_setCell_at (o := 3) hz3 (.int .u64 0)
  have hz5 := heap_setCell_at (o := 4) hz4 (.int .u64 0)
  have hz6 := heap_setCell_at (o := 5) hz5 (.int .u64 0)
  have hz7 := heap_setCell_at (o := 6) hz6 (.int .u64 0)
  have hz8 := heap_setCell_at (o := 7) hz7 (.int .u64 0)
  have hz9 := heap_setCell_at (o := 8) hz8 (.int .u64 0)
  have hz10 := heap_setCell_at (o := 9) hz9 (.int .u64 0)
  have g1 : w4.grownBy ((((((((((w4.setCell ⟨M, 0, none⟩ (.int .u64 0)).setCell ⟨M, 1, none⟩ (.int .u64 0)).setCell ⟨M, 2, none⟩ (.int .u64 0)).setCell ⟨M, 3, none⟩ (.int .u64 0)).setCell ⟨M, 4, none⟩ (.int .u64 0)).setCell ⟨M, 5, none⟩ (.int .u64 0)).setCell ⟨M, 6, none⟩ (.int .u64 0)).setCell ⟨M, 7, none⟩ (.int .u64 0)).setCell ⟨M, 8, none⟩ (.int .u64 0)).setCell ⟨M, 9, none⟩ (.int .u64 0)) (some M) := (grown_trans (grown_trans (grown_trans (grown_trans (grown_trans (grown_trans (grown_trans (grown_trans (grown_trans (grown_setCell _ ⟨M, 0, none⟩ (.int .u64 0)) (grown_setCell _ ⟨M, 1, none⟩ (.int .u64 0))) (grown_setCell _ ⟨M, 2, none⟩ (.int .u64 0))) (grown_setCell _ ⟨M, 3, none⟩ (.int .u64 0))) (grown_setCell _ ⟨M, 4, none⟩ (.int .u64 0))) (grown_setCell _ ⟨M, 5, none⟩ (.int .u64 0))) (grown_setCell _ ⟨M, 6, none⟩ (.int .u64 0))) (grown_setCell _ ⟨M, 7, none⟩ (.int .u64 0))) (grown_setCell _ ⟨M, 8, none⟩ (.int .u64 0))) (grown_setCell _ ⟨M, 9, none⟩ (.int .u64 0)))
  obtain ⟨W3, hW3⟩ : ∃ W3, W3 = ((((((((((w4.setCell ⟨M, 0, none⟩ (.int .u64 0)).setCell ⟨M, 1, none⟩ (.int .u64 0)).setCell ⟨M, 2, none⟩ (.int .u64 0)).setCell ⟨M, 3, none⟩ (.int .u64 0)).setCell ⟨M, 4, none⟩ (.int .u64 0)).setCell ⟨M, 5, none⟩ (.int .u64 0)).setCell ⟨M, 6, none⟩ (.int .u64 0)).setCell ⟨M, 7, none⟩ (.int .u64 0)).setCell ⟨M, 8, none⟩ (.int .u64 0)).setCell ⟨M, 9, none⟩ (.int .u64 0)) := ⟨_, rfl⟩
  clear hz1 hz2 hz3 hz4 hz5 hz6 hz7 hz8 hz9
  go_wp2
  rw [← hW3] at hz10 g1 ⊢
  have Z0 : W3.cell? ⟨M, 0, none⟩ = some (.int .u64 0) := by simp [World.cell?, hz10]
  have Z1 : W3.cell? ⟨M, 1, none⟩ = some (.int .u64 0) := by simp [World.cell?, hz10]
  have Z2 : W3.cell? ⟨M, 2, none⟩ = some (.int .u64 0) := by simp [World.cell?, hz10]
  have Z3 : W3.cell? ⟨M, 3, none⟩ = some (.int .u64 0) := by simp [World.cell?, hz10]
  have Z4 : W3.cell? ⟨M, 4, none⟩ = some (.int .u64 0) := by simp [World.cell?, hz10]
  have Z5 : W3.cell? ⟨M, 5, none⟩ = some (.int .u64 0) := by simp [World.cell?, hz10]
  have Z6 : W3.cell? ⟨M, 6, none⟩ = some (.int .u64 0) := by simp [World.cell?, hz10]
  have Z7 : W3.cell? ⟨M, 7, none⟩ = some (.int .u64 0) := by simp [World.cell?, hz10]
  have Z8 : W3.cell? ⟨M, 8, none⟩ = some (.int .u64 0) := by simp [World.cell?, hz10]
  have Z9 : W3.cell? ⟨M, 9, none⟩ = some (.int .u64 0) := by simp [World.cell?, hz10]
  exact bodyPost_ret (v := .tuple #[.agg #[.int .u64 0, .int .u64 0, .int .u64 0, .int .u64 0, .int .u64 0, .int .u64 0, .int .u64 0, .int .u64 0, .int .u64 0, .int .u64 0], .int .i64 en]) (by simp [results, Try.results16, go_sem, Z0, Z1, Z2, Z3, Z4, Z5, Z6, Z7, Z8, Z9]) rfl ⟨rfl, Hq.out _ g1⟩

set_option maxRecDepth 100000 in
set_option maxHeartbeats 8000000 in
theorem RGetYes (k g : Nat) (xs : List Nat) (L : List (Nat × Nat)) (a b c n at_ : Int) (v0 v1 v2 v3 v4 v5 v6 v7 v8 v9 : Nat) (w0 w : World) (Ps : List Pr) (h : Own w0 w Ps) (hk : Ps[k]? = some (refQ g xs L)) (he : hasE a b c n true xs.length = 0) (hat : inodeV a b c n = at_) (ha : 0 ≤ at_ ∧ at_ ≤ 1000000)
    (hf : ∀ i, i < 10 → gotI xs L (at_ + ((i : Nat) : Int)) = [v0, v1, v2, v3, v4, v5, v6, v7, v8, v9].getD i 0) (hr : rightB a b c v0 v1 v2 v3 v4 v5 v6 v7 v8 v9 = true) :
    Calls Try.prog 16 #[.pointer (some ⟨g, 0, none⟩), gv a b c, .int .i64 n] w fun e w' => e = .returned (.tuple #[.agg #[.int .u64 (v0 : Int), .int .u64 (v1 : Int), .int .u64 (v2 : Int), .int .u64 (v3 : Int), .int .u64 (v4 : Int), .int .u64 (v5 : Int), .int .u64 (v6 : Int), .int .u64 (v7 : Int), .int .u64 (v8 : Int), .int .u64 (v9 : Int)], .int .i64 0]) ∧ Own w0 w' Ps := by
  have hkl := (List.getElem?_eq_some_iff.1 hk).1
  obtain ⟨G, HG⟩ : ∃ G, Hid (G = w.heap.size) := ⟨_, Lib.hid rfl⟩
  obtain ⟨M, HM⟩ : ∃ M, Hid (M = w.heap.size + 1) := ⟨_, Lib.hid rfl⟩
  have hO : Own w0 ((w.alloc (.cells #[.int .i64 a, .int .i64 b, .int .i64 c] 28)).alloc (.cells #[.int .u64 0, .int .u64 0, .int .u64 0, .int .u64 0, .int .u64 0, .int .u64 0, .int .u64 0, .int .u64 0, .int .u64 0, .int .u64 0] 46)) (Ps ++ [boxP G 28 #[.int .i64 a, .int .i64 b, .int .i64 c], boxP M 46 #[.int .u64 0, .int .u64 0, .int .u64 0, .int .u64 0, .int .u64 0, .int .u64 0, .int .u64 0, .int .u64 0, .int .u64 0, .int .u64 0]]) := by
    have h := (h.addBox 28 #[.int .i64 a, .int .i64 b, .int .i64 c]).addBox 46 #[.int .u64 0, .int .u64 0, .int .u64 0, .int .u64 0, .int .u64 0, .int .u64 0, .int .u64 0, .int .u64 0, .int .u64 0, .int .u64 0]
    rw [World.size_alloc, ← HM.out, ← HG.out, List.append_assoc] at h
    exact h
  have Hk := Lib.hid (show ∀ Rs, (Ps ++ Rs)[k]? = some (refQ g xs L) from fun Rs => by rw [List.getElem?_append_left hkl]; exact hk)
  have Hgeo := Lib.hid (fun wx Rs (hO : Own w0 wx (Ps ++ (boxP G 28 #[.int .i64 a, .int .i64 b, .int .i64 c] :: Rs))) => show GeoR G a b c wx from Own.box hO Ps.length (by rw [List.getElem?_append_right (Nat.le_refl _), Nat.sub_self]; rfl))
  have HT := Lib.hid (fun wx (hO : Own w0 wx (Ps ++ [boxP G 28 #[.int .i64 a, .int .i64 b, .int .i64 c], boxP M 46 #[.int .u64 0, .int .u64 0, .int .u64 0, .int .u64 0, .int .u64 0, .int .u64 0, .int .u64 0, .int .u64 0, .int .u64 0, .int .u64 0]])) => RThereQ k g xs L a b c n 0 w0 wx _ hO (Hk.out _) he)
  replace hO := Lib.hid hO
  obtain ⟨y0, y1, y2⟩ := (Hgeo.out _ _ hO.out).cells
  have HI := Lib.hid (fun wx => RInodeAt_any a b c n wx)
  rw [hat] at HI
  have HR := Lib.hid (fun wx => RRight_any a b c v0 v1 v2 v3 v4 v5 v6 v7 v8 v9 wx)
  rw [hr] at HR
  have Hf := Lib.hid hf
  have HGA := Lib.hid (fun (A : Int) (wx : World) (Rs : List Pr) (hO : Own w0 wx (Ps ++ Rs)) => RGetQ k g xs L A w0 wx (Ps ++ Rs) hO (Hk.out _))
  have HG0 := Lib.hid (HGA.out at_)
  rw [show gotI xs L at_ = v0 from by have := hf 0 (by decide); rw [show at_ + ((0 : Nat) : Int) = at_ by omega] at this; exact this] at HG0
  have HG1 := Lib.hid (HGA.out (at_ + 1))
  rw [show gotI xs L (at_ + 1) = v1 from hf 1 (by decide)] at HG1
  have wA1 : IntKind.i64.wrap (at_ + 1) = at_ + 1 := IntWalk.i64_in _ ⟨by omega, by omega⟩
  have HG2 := Lib.hid (HGA.out (at_ + 2))
  rw [show gotI xs L (at_ + 2) = v2 from hf 2 (by decide)] at HG2
  have wA2 : IntKind.i64.wrap (at_ + 2) = at_ + 2 := IntWalk.i64_in _ ⟨by omega, by omega⟩
  have HG3 := Lib.hid (HGA.out (at_ + 3))
  rw [show gotI xs L (at_ + 3) = v3 from hf 3 (by decide)] at HG3
  have wA3 : IntKind.i64.wrap (at_ + 3) = at_ + 3 := IntWalk.i64_in _ ⟨by omega, by omega⟩
  have HG8 := Lib.hid (HGA.out (at_ + 8))
  rw [show gotI xs L (at_ + 8) = v8 from hf 8 (by decide)] at HG8
  have wA8 : IntKind.i64.wrap (at_ + 8) = at_ + 8 := IntWalk.i64_in _ ⟨by omega, by omega⟩
  have HG9 := Lib.hid (HGA.out (at_ + 9))
  rw [show gotI xs L (at_ + 9) = v9 from hf 9 (by decide)] at HG9
  have wA9 : IntKind.i64.wrap (at_ + 9) = at_ + 9 := IntWalk.i64_in _ ⟨by omega, by omega⟩
  have wA4 : IntKind.i64.wrap (at_ + 4) = at_ + 4 := IntWalk.i64_in _ ⟨by omega, by omega⟩
  have Ha := Lib.hid ha
  unfold nv gv at *
  clear h hk hkl hf hr hat he
  go_enter Try.func16, Try.ntmps16
  go_wp2_with fail
  rw [← HM.out, ← HG.out]
  refine (HT.out _ hO.out).mono ?_
  rintro e w1 ⟨rfl, hg⟩
  have hO1 := Lib.hid (hO.out.quiet hg)
  clear y0 y1 y2 HT hO hg
  obtain ⟨y0, y1, y2⟩ := (Hgeo.out _ _ hO1.out).cells
  go_wp2_with fail
  refine (HI.out _).mono ?_
  rintro e w3 ⟨rfl, hg⟩
  have hO3 := Lib.hid (hO1.out.quiet hg)
  clear y0 y1 y2 HI hO1 hg
  go_wp2_with fail
  refine (HG0.out _ _ hO3.out).mono ?_
  rintro e w10 ⟨rfl, rfl⟩
  go_wp2_with fail
  refine (HG1.out _ _ hO3.out).mono ?_
  rintro e w11 ⟨rfl, rfl⟩
  go_wp2_with fail
  refine (HG2.out _ _ hO3.out).mono ?_
  rintro e w12 ⟨rfl, rfl⟩
  go_wp2_with fail
  refine (HG3.out _ _ hO3.out).mono ?_
  rintro e w13 ⟨rfl, rfl⟩
  go_wp2_with fail
  refine (HG8.out _ _ hO3.out).mono ?_
  rintro e w18 ⟨rfl, rfl⟩
  go_wp2_with fail
  refine (HG9.out _ _ hO3.out).mono ?_
  rintro e w19 ⟨rfl, rfl⟩
  obtain ⟨X, HX⟩ : ∃ X, Hid (X = w19.heap.size) := ⟨_, Lib.hid rfl⟩
  have hO : Own w0 (w19.alloc (.cells #[.int .u64 (v0 : Int), .int .u64 (v1 : Int), .int .u64 (v2 : Int), .int .u64 (v3 : Int), .int .u64 0, .int .u64 0, .int .u64 0, .int .u64 0, .int .u64 (v8 : Int), .int .u64 (v9 : Int)] 46)) (Ps ++ [boxP G 28 #[.int .i64 a, .int .i64 b, .int .i64 c], boxP M 46 #[.int .u64 0, .int .u64 0, .int .u64 0, .int .u64 0, .int .u64 0, .int .u64 0, .int .u64 0, .int .u64 0, .int .u64 0, .int .u64 0], boxP X 46 (((nodeL v0 v1 v2 v3 v4 v5 v6 v7 v8 v9 0).map wv).toArray)]) := by
    have h := hO3.out.addBox 46 #[.int .u64 (v0 : Int), .int .u64 (v1 : Int), .int .u64 (v2 : Int), .int .u64 (v3 : Int), .int .u64 0, .int .u64 0, .int .u64 0, .int .u64 0, .int .u64 (v8 : Int), .int .u64 (v9 : Int)]
    rw [← HX.out, List.append_assoc] at h
    exact h
  replace hO := Lib.hid hO
  clear hO3 HG0 HG1 HG2 HG3 HG8 HG9
  go_wp2_with fail
  rw [← HX.out]
  go_loopw [11] (fun i wr => ∃ j : Nat, j ≤ 4 ∧ i = .int .i64 (j : Int) ∧ Hid (Own w0 wr (Ps ++ [boxP G 28 #[.int .i64 a, .int .i64 b, .int .i64 c], boxP M 46 #[.int .u64 0, .int .u64 0, .int .u64 0, .int .u64 0, .int .u64 0, .int .u64 0, .int .u64 0, .int .u64 0, .int .u64 0, .int .u64 0], boxP X 46 (((nodeL v0 v1 v2 v3 v4 v5 v6 v7 v8 v9 j).map wv).toArray)]))) (fun i _ => 4 - (intOf i).toNat)
  case atStart => exact ⟨0, Nat.zero_le _, rfl, hO⟩
  case round =>
    clear hO
    obtain ⟨j, hj, rfl, hO⟩ := hrel
    have j0 : (0 : Int) ≤ (j : Int) := by omega
    by_cases hlt : j < 4
    · have hlt' : (j : Int) < 4 := by omega
      obtain ⟨U, hU⟩ : ∃ U, [v4, v5, v6, v7].getD j 0 = U := ⟨_, rfl⟩
      have hbx : wr.heap[X]? = some (.cells (((nodeL v0 v1 v2 v3 v4 v5 v6 v7 v8 v9 j).map wv).toArray) 46 (0, 0)) := Own.box hO.out (Ps.length + 2) (by rw [List.getElem?_append_right (by omega), show Ps.length + 2 - Ps.length = 2 from by omega]; rfl)
      have hl : 4 + j < (nodeL v0 v1 v2 v3 v4 v5 v6 v7 v8 v9 j).length := by rw [nodeL_length]; omega
      obtain ⟨Y, hY⟩ : ∃ Y, (nodeL v0 v1 v2 v3 v4 v5 v6 v7 v8 v9 j)[4 + j] = Y := ⟨_, rfl⟩
      have hc : wr.cell? ⟨X, 4 + j, none⟩ = some (.int .u64 (Y : Int)) := by
        rw [← hY]
        simp [World.cell?, hbx, wv, hl]
      have hfz : wr.frozen? ⟨X, 4 + j, none⟩ = false := by simp [World.frozen?, hbx]
      have hO2 : Hid (Own w0 (wr.setCell ⟨X, 4 + j, none⟩ (.int .u64 (U : Int))) (Ps ++ [boxP G 28 #[.int .i64 a, .int .i64 b, .int .i64 c], boxP M 46 #[.int .u64 0, .int .u64 0, .int .u64 0, .int .u64 0, .int .u64 0, .int .u64 0, .int .u64 0, .int .u64 0, .int .u64 0, .int .u64 0], boxP X 46 (((nodeL v0 v1 v2 v3 v4 v5 v6 v7 v8 v9 (j + 1)).map wv).toArray)])) := by
        have h := hO.out.putBox (Ps.length + 2) (X := X) (T := 46) (cs := ((nodeL v0 v1 v2 v3 v4 v5 v6 v7 v8 v9 j).map wv).toArray) (by rw [List.getElem?_append_right (by omega), show Ps.length + 2 - Ps.length = 2 from by omega]; rfl) (4 + j) (wv U)
        rw [arr_wv_set, ← hU, nodeL_set _ _ _ _ _ _ _ _ _ _ _ hlt, List.set_append_right _ _ (by omega), show Ps.length + 2 - Ps.length = 2 from by omega] at h
        rw [← hU]
        exact Lib.hid h
      have HGj := Lib.hid (HGA.out (at_ + 4 + (j : Int)) wr _ hO.out)
      rw [show gotI xs L (at_ + 4 + (j : Int)) = U by rw [show at_ + 4 + (j : Int) = at_ + ((4 + j : Nat) : Int) by omega, Hf.out (4 + j) (by omega), nodeL_from _ _ _ _ _ _ _ _ _ _ _ hlt, hU]] at HGj
      have wj : IntKind.i64.wrap (at_ + 4 + (j : Int)) = at_ + 4 + (j : Int) := by have := Ha.out; exact IntWalk.i64_in _ ⟨by omega, by omega⟩
      clear hbx hO hU hY hl
      go_wp2_with fail
      refine HGj.out.mono ?_
      rintro e w4 ⟨rfl, rfl⟩
      go_wp2
      go_roundw
      case rel => exact ⟨j + 1, by omega, by go_num, hO2⟩
      case measure => simp [intOf]; omega
    · obtain rfl : j = 4 := by omega
      obtain ⟨y0, y1, y2⟩ := (Hgeo.out _ _ hO.out).cells
      obtain ⟨z0, z1, z2, z3, z4, z5, z6, z7, z8, z9⟩ := NodeR.cells (show NodeR X v0 v1 v2 v3 v4 v5 v6 v7 v8 v9 wr from Own.box hO.out (Ps.length + 2) (by rw [List.getElem?_append_right (by omega), show Ps.length + 2 - Ps.length = 2 from by omega]; rfl))
      clear hlt j0 hj
      go_wp2_with fail
      refine (HR.out _).mono ?_
      rintro e w4 ⟨rfl, hg⟩
      have hO4 := hO.out.quiet hg
      clear y0 y1 y2 z0 z1 z2 z3 z4 z5 z6 z7 z8 z9 HR hg hO
      obtain ⟨z0, z1, z2, z3, z4, z5, z6, z7, z8, z9⟩ := NodeR.cells (show NodeR X v0 v1 v2 v3 v4 v5 v6 v7 v8 v9 w4 from Own.box hO4 (Ps.length + 2) (by rw [List.getElem?_append_right (by omega), show Ps.length + 2 - Ps.length = 2 from by omega]; rfl))
      have hz : w4.heap[M]? = some (.cells #[.int .u64 0, .int .u64 0, .int .u64 0, .int .u64 0, .int .u64 0, .int .u64 0, .int .u64 0, .int .u64 0, .int .u64 0, .int .u64 0] 46 (0, 0)) := Own.box hO4 (Ps.length + 1) (by rw [List.getElem?_append_right (by omega), show Ps.length + 1 - Ps.length = 1 from by omega]; rfl)
      have hq : ∀ w5 : World, w4.grownBy w5 (some M) → Own w0 w5 Ps := fun w5 hg => by
        have h : Own w0 w4 ((Ps ++ [boxP G 28 #[.int .i64 a, .int .i64 b, .int .i64 c]]) ++ boxP M 46 #[.int .u64 0, .int .u64 0, .int .u64 0, .int .u64 0, .int .u64 0, .int .u64 0, .int .u64 0, .int .u64 0, .int .u64 0, .int .u64 0] :: [boxP X 46 (((nodeL v0 v1 v2 v3 v4 v5 v6 v7 v8 v9 4).map wv).toArray)]) := by rw [List.append_assoc]; exact hO4
        exact (h.forget hg).less
      have Hq := Lib.hid hq
      clear hq hO4
      have m0 : w4.cell? ⟨M, 0, none⟩ = some (.int .u64 0) := by simp [World.cell?, hz]
      have m1 : w4.cell? ⟨M, 1, none⟩ = some (.int .u64 0) := by simp [World.cell?, hz]
      have m2 : w4.cell? ⟨M, 2, none⟩ = some (.int .u64 0) := by simp [World.cell?, hz]
      have m3 : w4.cell? ⟨M, 3, none⟩ = some (.int .u64 0) := by simp [World.cell?, hz]
      have m4 : w4.cell? ⟨M, 4, none⟩ = some (.int .u64 0) := by simp [World.cell?, hz]
      have m5 : w4.cell? ⟨M, 5, none⟩ = some (.int .u64 0) := by simp [World.cell?, hz]
      have m6 : w4.cell? ⟨M, 6, none⟩ = some (.int .u64 0) := by simp [World.cell?, hz]
      have m7 : w4.cell? ⟨M, 7, none⟩ = some (.int .u64 0) := by simp [World.cell?, hz]
      have m8 : w4.cell? ⟨M, 8, none⟩ = some (.int .u64 0) := by simp [World.cell?, hz]
      have m9 : w4.cell? ⟨M, 9, none⟩ = some (.int .u64 0) := by simp [World.cell?, hz]
      have q0 : w4.frozen? ⟨M, 0, none⟩ = false := by simp [World.frozen?, hz]
      have q1 : w4.frozen? ⟨M, 1, none⟩ = false := by simp [World.frozen?, hz]
      have q2 : w4.frozen? ⟨M, 2, none⟩ = false := by simp [World.frozen?, hz]
      have q3 : w4.frozen? ⟨M, 3, none⟩ = false := by simp [World.frozen?, hz]
      have q4 : w4.frozen? ⟨M, 4, none⟩ = false := by simp [World.frozen?, hz]
      have q5 : w4.frozen? ⟨M, 5, none⟩ = false := by simp [World.frozen?, hz]
      have q6 : w4.frozen? ⟨M, 6, none⟩ = false := by simp [World.frozen?, hz]
      have q7 : w4.frozen? ⟨M, 7, none⟩ = false := by simp [World.frozen?, hz]
      have q8 : w4.frozen? ⟨M, 8, none⟩ = false := by simp [World.frozen?, hz]
      have q9 : w4.frozen? ⟨M, 9, none⟩ = false := by simp [World.frozen?, hz]
      have hz1 := heap_setCell_at (o := 0) hz (.int .u64 (v0 : Int))
      have hz2 := heap_setCell_at (o := 1) hz1 (.int .u64 (v1 : Int))
      have hz3 := heap_setCell_at (o := 2) hz2 (.int .u64 (v2 : Int))
      have hz4 := heap_setCell_at (o := 3) hz3 (.int .u64 (v3 : Int))
      have hz5 := heap_setCell_at (o := 4) hz4 (.int .u64 (v4 : Int))
      have hz6 := heap_setCell_at (o := 5) hz5 (.int .u64 (v5 : Int))
      have hz7 := heap_setCell_at (o := 6) hz6 (.int .u64 (v6 : Int))
      have hz8 := heap_setCell_at (o := 7) hz7 (.int .u64 (v7 : Int))
      have hz9 := heap_setCell_at (o := 8) hz8 (.int .u64 (v8 : Int))
      have hz10 := heap_setCell_at (o := 9) hz9 (.int .u64 (v9 : Int))
      have g1 : w4.grownBy ((((((((((w4.setCell ⟨M, 0, none⟩ (.int .u64 (v0 : Int))).setCell ⟨M, 1, none⟩ (.int .u64 (v1 : Int))).setCell ⟨M, 2, none⟩ (.int .u64 (v2 : Int))).setCell ⟨M, 3, none⟩ (.int .u64 (v3 : Int))).setCell ⟨M, 4, none⟩ (.int .u64 (v4 : Int))).setCell ⟨M, 5, none⟩ (.int .u64 (v5 : Int))).setCell ⟨M, 6, none⟩ (.int .u64 (v6 : Int))).setCell ⟨M, 7, none⟩ (.int .u64 (v7 : Int))).setCell ⟨M, 8, none⟩ (.int .u64 (v8 : Int))).setCell ⟨M, 9, none⟩ (.int .u64 (v9 : Int))) (some M) := (grown_trans (grown_trans (grown_trans (grown_trans (grown_trans (grown_trans (grown_trans (grown_trans (grown_trans (grown_setCell _ ⟨M, 0, none⟩ (.int .u64 (v0 : Int))) (grown_setCell _ ⟨M, 1, none⟩ (.int .u64 (v1 : Int)))) (grown_setCell _ ⟨M, 2, none⟩ (.int .u64 (v2 : Int)))) (grown_setCell _ ⟨M, 3, none⟩ (.int .u64 (v3 : Int)))) (grown_setCell _ ⟨M, 4, none⟩ (.int .u64 (v4 : Int)))) (grown_setCell _ ⟨M, 5, none⟩ (.int .u64 (v5 : Int)))) (grown_setCell _ ⟨M, 6, none⟩ (.int .u64 (v6 : Int)))) (grown_setCell _ ⟨M, 7, none⟩ (.int .u64 (v7 : Int)))) (grown_setCell _ ⟨M, 8, none⟩ (.int .u64 (v8 : Int)))) (grown_setCell _ ⟨M, 9, none⟩ (.int .u64 (v9 : Int))))
      obtain ⟨W3, hW3⟩ : ∃ W3, W3 = ((((((((((w4.setCell ⟨M, 0, none⟩ (.int .u64 (v0 : Int))).setCell ⟨M, 1, none⟩ (.int .u64 (v1 : Int))).setCell ⟨M, 2, none⟩ (.int .u64 (v2 : Int))).setCell ⟨M, 3, none⟩ (.int .u64 (v3 : Int))).setCell ⟨M, 4, none⟩ (.int .u64 (v4 : Int))).setCell ⟨M, 5, none⟩ (.int .u64 (v5 : Int))).setCell ⟨M, 6, none⟩ (.int .u64 (v6 : Int))).setCell ⟨M, 7, none⟩ (.int .u64 (v7 : Int))).setCell ⟨M, 8, none⟩ (.int .u64 (v8 : Int))).setCell ⟨M, 9, none⟩ (.int .u64 (v9 : Int))) := ⟨_, rfl⟩
      clear hz1 hz2 hz3 hz4 hz5 hz6 hz7 hz8 hz9
      go_wp2
      rw [← hW3] at hz10 g1 ⊢
      have Z0 : W3.cell? ⟨M, 0, none⟩ = some (.int .u64 (v0 : Int)) := by simp [World.cell?, hz10]
      have Z1 : W3.cell? ⟨M, 1, none⟩ = some (.int .u64 (v1 : Int)) := by simp [World.cell?, hz10]
      have Z2 : W3.cell? ⟨M, 2, none⟩ = some (.int .u64 (v2 : Int)) := by simp [World.cell?, hz10]
      have Z3 : W3.cell? ⟨M, 3, none⟩ = some (.int .u64 (v3 : Int)) := by simp [World.cell?, hz10]
      have Z4 : W3.cell? ⟨M, 4, none⟩ = some (.int .u64 (v4 : Int)) := by simp [World.cell?, hz10]
      have Z5 : W3.cell? ⟨M, 5, none⟩ = some (.int .u64 (v5 : Int)) := by simp [World.cell?, hz10]
      have Z6 : W3.cell? ⟨M, 6, none⟩ = some (.int .u64 (v6 : Int)) := by simp [World.cell?, hz10]
      have Z7 : W3.cell? ⟨M, 7, none⟩ = some (.int .u64 (v7 : Int)) := by simp [World.cell?, hz10]
      have Z8 : W3.cell? ⟨M, 8, none⟩ = some (.int .u64 (v8 : Int)) := by simp [World.cell?, hz10]
      have Z9 : W3.cell? ⟨M, 9, none⟩ = some (.int .u64 (v9 : Int)) := by simp [World.cell?, hz10]
      exact bodyPost_ret (v := .tuple #[.agg #[.int .u64 (v0 : Int), .int .u64 (v1 : Int), .int .u64 (v2 : Int), .int .u64 (v3 : Int), .int .u64 (v4 : Int), .int .u64 (v5 : Int), .int .u64 (v6 : Int), .int .u64 (v7 : Int), .int .u64 (v8 : Int), .int .u64 (v9 : Int)], .int .i64 0]) (by simp [results, Try.results16, go_sem, Z0, Z1, Z2, Z3, Z4, Z5, Z6, Z7, Z8, Z9]) rfl ⟨rfl, Hq.out _ g1⟩

set_option maxRecDepth 100000 in
set_option maxHeartbeats 8000000 in
theorem RGetNo (k g : Nat) (xs : List Nat) (L : List (Nat × Nat)) (a b c n at_ : Int) (v0 v1 v2 v3 v4 v5 v6 v7 v8 v9 : Nat) (w0 w : World) (Ps : List Pr) (h : Own w0 w Ps) (hk : Ps[k]? = some (refQ g xs L)) (he : hasE a b c n true xs.length = 0) (hat : inodeV a b c n = at_) (ha : 0 ≤ at_ ∧ at_ ≤ 1000000)
    (hf : ∀ i, i < 10 → gotI xs L (at_ + ((i : Nat) : Int)) = [v0, v1, v2, v3, v4, v5, v6, v7, v8, v9].getD i 0) (hr : rightB a b c v0 v1 v2 v3 v4 v5 v6 v7 v8 v9 = false) :
    Calls Try.prog 16 #[.pointer (some ⟨g, 0, none⟩), gv a b c, .int .i64 n] w fun e w' => e = .returned (.tuple #[.agg #[.int .u64 0, .int .u64 0, .int .u64 0, .int .u64 0, .int .u64 0, .int .u64 0, .int .u64 0, .int .u64 0, .int .u64 0, .int .u64 0], .int .i64 4]) ∧ Own w0 w' Ps := by
  have hkl := (List.getElem?_eq_some_iff.1 hk).1
  obtain ⟨G, HG⟩ : ∃ G, Hid (G = w.heap.size) := ⟨_, Lib.hid rfl⟩
  obtain ⟨M, HM⟩ : ∃ M, Hid (M = w.heap.size + 1) := ⟨_, Lib.hid rfl⟩
  have hO : Own w0 ((w.alloc (.cells #[.int .i64 a, .int .i64 b, .int .i64 c] 28)).alloc (.cells #[.int .u64 0, .int .u64 0, .int .u64 0, .int .u64 0, .int .u64 0, .int .u64 0, .int .u64 0, .int .u64 0, .int .u64 0, .int .u64 0] 46)) (Ps ++ [boxP G 28 #[.int .i64 a, .int .i64 b, .int .i64 c], boxP M 46 #[.int .u64 0, .int .u64 0, .int .u64 0, .int .u64 0, .int .u64 0, .int .u64 0, .int .u64 0, .int .u64 0, .int .u64 0, .int .u64 0]]) := by
    have h := (h.addBox 28 #[.int .i64 a, .int .i64 b, .int .i64 c]).addBox 46 #[.int .u64 0, .int .u64 0, .int .u64 0, .int .u64 0, .int .u64 0, .int .u64 0, .int .u64 0, .int .u64 0, .int .u64 0, .int .u64 0]
    rw [World.size_alloc, ← HM.out, ← HG.out, List.append_assoc] at h
    exact h
  have Hk := Lib.hid (show ∀ Rs, (Ps ++ Rs)[k]? = some (refQ g xs L) from fun Rs => by rw [List.getElem?_append_left hkl]; exact hk)
  have Hgeo := Lib.hid (fun wx Rs (hO : Own w0 wx (Ps ++ (boxP G 28 #[.int .i64 a, .int .i64 b, .int .i64 c] :: Rs))) => show GeoR G a b c wx from Own.box hO Ps.length (by rw [List.getElem?_append_right (Nat.le_refl _), Nat.sub_self]; rfl))
  have HT := Lib.hid (fun wx (hO : Own w0 wx (Ps ++ [boxP G 28 #[.int .i64 a, .int .i64 b, .int .i64 c], boxP M 46 #[.int .u64 0, .int .u64 0, .int .u64 0, .int .u64 0, .int .u64 0, .int .u64 0, .int .u64 0, .int .u64 0, .int .u64 0, .int .u64 0]])) => RThereQ k g xs L a b c n 0 w0 wx _ hO (Hk.out _) he)
  replace hO := Lib.hid hO
  obtain ⟨y0, y1, y2⟩ := (Hgeo.out _ _ hO.out).cells
  have HI := Lib.hid (fun wx => RInodeAt_any a b c n wx)
  rw [hat] at HI
  have HR := Lib.hid (fun wx => RRight_any a b c v0 v1 v2 v3 v4 v5 v6 v7 v8 v9 wx)
  rw [hr] at HR
  have Hf := Lib.hid hf
  have HGA := Lib.hid (fun (A : Int) (wx : World) (Rs : List Pr) (hO : Own w0 wx (Ps ++ Rs)) => RGetQ k g xs L A w0 wx (Ps ++ Rs) hO (Hk.out _))
  have HG0 := Lib.hid (HGA.out at_)
  rw [show gotI xs L at_ = v0 from by have := hf 0 (by decide); rw [show at_ + ((0 : Nat) : Int) = at_ by omega] at this; exact this] at HG0
  have HG1 := Lib.hid (HGA.out (at_ + 1))
  rw [show gotI xs L (at_ + 1) = v1 from hf 1 (by decide)] at HG1
  have wA1 : IntKind.i64.wrap (at_ + 1) = at_ + 1 := IntWalk.i64_in _ ⟨by omega, by omega⟩
  have HG2 := Lib.hid (HGA.out (at_ + 2))
  rw [show gotI xs L (at_ + 2) = v2 from hf 2 (by decide)] at HG2
  have wA2 : IntKind.i64.wrap (at_ + 2) = at_ + 2 := IntWalk.i64_in _ ⟨by omega, by omega⟩
  have HG3 := Lib.hid (HGA.out (at_ + 3))
  rw [show gotI xs L (at_ + 3) = v3 from hf 3 (by decide)] at HG3
  have wA3 : IntKind.i64.wrap (at_ + 3) = at_ + 3 := IntWalk.i64_in _ ⟨by omega, by omega⟩
  have HG8 := Lib.hid (HGA.out (at_ + 8))
  rw [show gotI xs L (at_ + 8) = v8 from hf 8 (by decide)] at HG8
  have wA8 : IntKind.i64.wrap (at_ + 8) = at_ + 8 := IntWalk.i64_in _ ⟨by omega, by omega⟩
  have HG9 := Lib.hid (HGA.out (at_ + 9))
  rw [show gotI xs L (at_ + 9) = v9 from hf 9 (by decide)] at HG9
  have wA9 : IntKind.i64.wrap (at_ + 9) = at_ + 9 := IntWalk.i64_in _ ⟨by omega, by omega⟩
  have wA4 : IntKind.i64.wrap (at_ + 4) = at_ + 4 := IntWalk.i64_in _ ⟨by omega, by omega⟩
  have Ha := Lib.hid ha
  unfold nv gv at *
  clear h hk hkl hf hr hat he
  go_enter Try.func16, Try.ntmps16
  go_wp2_with fail
  rw [← HM.out, ← HG.out]
  refine (HT.out _ hO.out).mono ?_
  rintro e w1 ⟨rfl, hg⟩
  have hO1 := Lib.hid (hO.out.quiet hg)
  clear y0 y1 y2 HT hO hg
  obtain ⟨y0, y1, y2⟩ := (Hgeo.out _ _ hO1.out).cells
  go_wp2_with fail
  refine (HI.out _).mono ?_
  rintro e w3 ⟨rfl, hg⟩
  have hO3 := Lib.hid (hO1.out.quiet hg)
  clear y0 y1 y2 HI hO1 hg
  go_wp2_with fail
  refine (HG0.out _ _ hO3.out).mono ?_
  rintro e w10 ⟨rfl, rfl⟩
  go_wp2_with fail
  refine (HG1.out _ _ hO3.out).mono ?_
  rintro e w11 ⟨rfl, rfl⟩
  go_wp2_with fail
  refine (HG2.out _ _ hO3.out).mono ?_
  rintro e w12 ⟨rfl, rfl⟩
  go_wp2_with fail
  refine (HG3.out _ _ hO3.out).mono ?_
  rintro e w13 ⟨rfl, rfl⟩
  go_wp2_with fail
  refine (HG8.out _ _ hO3.out).mono ?_
  rintro e w18 ⟨rfl, rfl⟩
  go_wp2_with fail
  refine (HG9.out _ _ hO3.out).mono ?_
  rintro e w19 ⟨rfl, rfl⟩
  obtain ⟨X, HX⟩ : ∃ X, Hid (X = w19.heap.size) := ⟨_, Lib.hid rfl⟩
  have hO : Own w0 (w19.alloc (.cells #[.int .u64 (v0 : Int), .int .u64 (v1 : Int), .int .u64 (v2 : Int), .int .u64 (v3 : Int), .int .u64 0, .int .u64 0, .int .u64 0, .int .u64 0, .int .u64 (v8 : Int), .int .u64 (v9 : Int)] 46)) (Ps ++ [boxP G 28 #[.int .i64 a, .int .i64 b, .int .i64 c], boxP M 46 #[.int .u64 0, .int .u64 0, .int .u64 0, .int .u64 0, .int .u64 0, .int .u64 0, .int .u64 0, .int .u64 0, .int .u64 0, .int .u64 0], boxP X 46 (((nodeL v0 v1 v2 v3 v4 v5 v6 v7 v8 v9 0).map wv).toArray)]) := by
    have h := hO3.out.addBox 46 #[.int .u64 (v0 : Int), .int .u64 (v1 : Int), .int .u64 (v2 : Int), .int .u64 (v3 : Int), .int .u64 0, .int .u64 0, .int .u64 0, .int .u64 0, .int .u64 (v8 : Int), .int .u64 (v9 : Int)]
    rw [← HX.out, List.append_assoc] at h
    exact h
  replace hO := Lib.hid hO
  clear hO3 HG0 HG1 HG2 HG3 HG8 HG9
  go_wp2_with fail
  rw [← HX.out]
  go_loopw [11] (fun i wr => ∃ j : Nat, j ≤ 4 ∧ i = .int .i64 (j : Int) ∧ Hid (Own w0 wr (Ps ++ [boxP G 28 #[.int .i64 a, .int .i64 b, .int .i64 c], boxP M 46 #[.int .u64 0, .int .u64 0, .int .u64 0, .int .u64 0, .int .u64 0, .int .u64 0, .int .u64 0, .int .u64 0, .int .u64 0, .int .u64 0], boxP X 46 (((nodeL v0 v1 v2 v3 v4 v5 v6 v7 v8 v9 j).map wv).toArray)]))) (fun i _ => 4 - (intOf i).toNat)
  case atStart => exact ⟨0, Nat.zero_le _, rfl, hO⟩
  case round =>
    clear hO
    obtain ⟨j, hj, rfl, hO⟩ := hrel
    have j0 : (0 : Int) ≤ (j : Int) := by omega
    by_cases hlt : j < 4
    · have hlt' : (j : Int) < 4 := by omega
      obtain ⟨U, hU⟩ : ∃ U, [v4, v5, v6, v7].getD j 0 = U := ⟨_, rfl⟩
      have hbx : wr.heap[X]? = some (.cells (((nodeL v0 v1 v2 v3 v4 v5 v6 v7 v8 v9 j).map wv).toArray) 46 (0, 0)) := Own.box hO.out (Ps.length + 2) (by rw [List.getElem?_append_right (by omega), show Ps.length + 2 - Ps.length = 2 from by omega]; rfl)
      have hl : 4 + j < (nodeL v0 v1 v2 v3 v4 v5 v6 v7 v8 v9 j).length := by rw [nodeL_length]; omega
      obtain ⟨Y, hY⟩ : ∃ Y, (nodeL v0 v1 v2 v3 v4 v5 v6 v7 v8 v9 j)[4 + j] = Y := ⟨_, rfl⟩
      have hc : wr.cell? ⟨X, 4 + j, none⟩ = some (.int .u64 (Y : Int)) := by
        rw [← hY]
        simp [World.cell?, hbx, wv, hl]
      have hfz : wr.frozen? ⟨X, 4 + j, none⟩ = false := by simp [World.frozen?, hbx]
      have hO2 : Hid (Own w0 (wr.setCell ⟨X, 4 + j, none⟩ (.int .u64 (U : Int))) (Ps ++ [boxP G 28 #[.int .i64 a, .int .i64 b, .int .i64 c], boxP M 46 #[.int .u64 0, .int .u64 0, .int .u64 0, .int .u64 0, .int .u64 0, .int .u64 0, .int .u64 0, .int .u64 0, .int .u64 0, .int .u64 0], boxP X 46 (((nodeL v0 v1 v2 v3 v4 v5 v6 v7 v8 v9 (j + 1)).map wv).toArray)])) := by
        have h := hO.out.putBox (Ps.length + 2) (X := X) (T := 46) (cs := ((nodeL v0 v1 v2 v3 v4 v5 v6 v7 v8 v9 j).map wv).toArray) (by rw [List.getElem?_append_right (by omega), show Ps.length + 2 - Ps.length = 2 from by omega]; rfl) (4 + j) (wv U)
        rw [arr_wv_set, ← hU, nodeL_set _ _ _ _ _ _ _ _ _ _ _ hlt, List.set_append_right _ _ (by omega), show Ps.length + 2 - Ps.length = 2 from by omega] at h
        rw [← hU]
        exact Lib.hid h
      have HGj := Lib.hid (HGA.out (at_ + 4 + (j : Int)) wr _ hO.out)
      rw [show gotI xs L (at_ + 4 + (j : Int)) = U by rw [show at_ + 4 + (j : Int) = at_ + ((4 + j : Nat) : Int) by omega, Hf.out (4 + j) (by omega), nodeL_from _ _ _ _ _ _ _ _ _ _ _ hlt, hU]] at HGj
      have wj : IntKind.i64.wrap (at_ + 4 + (j : Int)) = at_ + 4 + (j : Int) := by have := Ha.out; exact IntWalk.i64_in _ ⟨by omega, by omega⟩
      clear hbx hO hU hY hl
      go_wp2_with fail
      refine HGj.out.mono ?_
      rintro e w4 ⟨rfl, rfl⟩
      go_wp2
      go_roundw
      case rel => exact ⟨j + 1, by omega, by go_num, hO2⟩
      case measure => simp [intOf]; omega
    · obtain rfl : j = 4 := by omega
      obtain ⟨y0, y1, y2⟩ := (Hgeo.out _ _ hO.out).cells
      obtain ⟨z0, z1, z2, z3, z4, z5, z6, z7, z8, z9⟩ := NodeR.cells (show NodeR X v0 v1 v2 v3 v4 v5 v6 v7 v8 v9 wr from Own.box hO.out (Ps.length + 2) (by rw [List.getElem?_append_right (by omega), show Ps.length + 2 - Ps.length = 2 from by omega]; rfl))
      clear hlt j0 hj
      go_wp2_with fail
      refine (HR.out _).mono ?_
      rintro e w4 ⟨rfl, hg⟩
      have hO4 := hO.out.quiet hg
      clear y0 y1 y2 z0 z1 z2 z3 z4 z5 z6 z7 z8 z9 HR hg hO
      have hz : w4.heap[M]? = some (.cells #[.int .u64 0, .int .u64 0, .int .u64 0, .int .u64 0, .int .u64 0, .int .u64 0, .int .u64 0, .int .u64 0, .int .u64 0, .int .u64 0] 46 (0, 0)) := Own.box hO4 (Ps.length + 1) (by rw [List.getElem?_append_right (by omega), show Ps.length + 1 - Ps.length = 1 from by omega]; rfl)
      have hq : ∀ w5 : World, w4.grownBy w5 (some M) → Own w0 w5 Ps := fun w5 hg => by
        have h : Own w0 w4 ((Ps ++ [boxP G 28 #[.int .i64 a, .int .i64 b, .int .i64 c]]) ++ boxP M 46 #[.int .u64 0, .int .u64 0, .int .u64 0, .int .u64 0, .int .u64 0, .int .u64 0, .int .u64 0, .int .u64 0, .int .u64 0, .int .u64 0] :: [boxP X 46 (((nodeL v0 v1 v2 v3 v4 v5 v6 v7 v8 v9 4).map wv).toArray)]) := by rw [List.append_assoc]; exact hO4
        exact (h.forget hg).less
      have Hq := Lib.hid hq
      clear hq hO4
      have m0 : w4.cell? ⟨M, 0, none⟩ = some (.int .u64 0) := by simp [World.cell?, hz]
      have m1 : w4.cell? ⟨M, 1, none⟩ = some (.int .u64 0) := by simp [World.cell?, hz]
      have m2 : w4.cell? ⟨M, 2, none⟩ = some (.int .u64 0) := by simp [World.cell?, hz]
      have m3 : w4.cell? ⟨M, 3, none⟩ = some (.int .u64 0) := by simp [World.cell?, hz]
      have m4 : w4.cell? ⟨M, 4, none⟩ = some (.int .u64 0) := by simp [World.cell?, hz]
      have m5 : w4.cell? ⟨M, 5, none⟩ = some (.int .u64 0) := by simp [World.cell?, hz]
      have m6 : w4.cell? ⟨M, 6, none⟩ = some (.int .u64 0) := by simp [World.cell?, hz]
      have m7 : w4.cell? ⟨M, 7, none⟩ = some (.int .u64 0) := by simp [World.cell?, hz]
      have m8 : w4.cell? ⟨M, 8, none⟩ = some (.int .u64 0) := by simp [World.cell?, hz]
      have m9 : w4.cell? ⟨M, 9, none⟩ = some (.int .u64 0) := by simp [World.cell?, hz]
      have q0 : w4.frozen? ⟨M, 0, none⟩ = false := by simp [World.frozen?, hz]
      have q1 : w4.frozen? ⟨M, 1, none⟩ = false := by simp [World.frozen?, hz]
      have q2 : w4.frozen? ⟨M, 2, none⟩ = false := by simp [World.frozen?, hz]
      have q3 : w4.frozen? ⟨M, 3, none⟩ = false := by simp [World.frozen?, hz]
      have q4 : w4.frozen? ⟨M, 4, none⟩ = false := by simp [World.frozen?, hz]
      have q5 : w4.frozen? ⟨M, 5, none⟩ = false := by simp [World.frozen?, hz]
      have q6 : w4.frozen? ⟨M, 6, none⟩ = false := by simp [World.frozen?, hz]
      have q7 : w4.frozen? ⟨M, 7, none⟩ = false := by simp [World.frozen?, hz]
      have q8 : w4.frozen? ⟨M, 8, none⟩ = false := by simp [World.frozen?, hz]
      have q9 : w4.frozen? ⟨M, 9, none⟩ = false := by simp [World.frozen?, hz]
      have hz1 := heap_setCell_at (o := 0) hz (.int .u64 0)
      have hz2 := heap_setCell_at (o := 1) hz1 (.int .u64 0)
      have hz3 := heap_setCell_at (o := 2) hz2 (.int .u64 0)
      have hz4 := heap_setCell_at (o := 3) hz3 (.int .u64 0)
      have hz5 := heap_setCell_at (o := 4) hz4 (.int .u64 0)
      have hz6 := heap_setCell_at (o := 5) hz5 (.int .u64 0)
      have hz7 := heap_setCell_at (o := 6) hz6 (.int .u64 0)
      have hz8 := heap_setCell_at (o := 7) hz7 (.int .u64 0)
      have hz9 := heap_setCell_at (o := 8) hz8 (.int .u64 0)
      have hz10 := heap_setCell_at (o := 9) hz9 (.int .u64 0)
      have g1 : w4.grownBy ((((((((((w4.setCell ⟨M, 0, none⟩ (.int .u64 0)).setCell ⟨M, 1, none⟩ (.int .u64 0)).setCell ⟨M, 2, none⟩ (.int .u64 0)).setCell ⟨M, 3, none⟩ (.int .u64 0)).setCell ⟨M, 4, none⟩ (.int .u64 0)).setCell ⟨M, 5, none⟩ (.int .u64 0)).setCell ⟨M, 6, none⟩ (.int .u64 0)).setCell ⟨M, 7, none⟩ (.int .u64 0)).setCell ⟨M, 8, none⟩ (.int .u64 0)).setCell ⟨M, 9, none⟩ (.int .u64 0)) (some M) := (grown_trans (grown_trans (grown_trans (grown_trans (grown_trans (grown_trans (grown_trans (grown_trans (grown_trans (grown_setCell _ ⟨M, 0, none⟩ (.int .u64 0)) (grown_setCell _ ⟨M, 1, none⟩ (.int .u64 0))) (grown_setCell _ ⟨M, 2, none⟩ (.int .u64 0))) (grown_setCell _ ⟨M, 3, none⟩ (.int .u64 0))) (grown_setCell _ ⟨M, 4, none⟩ (.int .u64 0))) (grown_setCell _ ⟨M, 5, none⟩ (.int .u64 0))) (grown_setCell _ ⟨M, 6, none⟩ (.int .u64 0))) (grown_setCell _ ⟨M, 7, none⟩ (.int .u64 0))) (grown_setCell _ ⟨M, 8, none⟩ (.int .u64 0))) (grown_setCell _ ⟨M, 9, none⟩ (.int .u64 0)))
      obtain ⟨W3, hW3⟩ : ∃ W3, W3 = ((((((((((w4.setCell ⟨M, 0, none⟩ (.int .u64 0)).setCell ⟨M, 1, none⟩ (.int .u64 0)).setCell ⟨M, 2, none⟩ (.int .u64 0)).setCell ⟨M, 3, none⟩ (.int .u64 0)).setCell ⟨M, 4, none⟩ (.int .u64 0)).setCell ⟨M, 5, none⟩ (.int .u64 0)).setCell ⟨M, 6, none⟩ (.int .u64 0)).setCell ⟨M, 7, none⟩ (.int .u64 0)).setCell ⟨M, 8, none⟩ (.int .u64 0)).setCell ⟨M, 9, none⟩ (.int .u64 0)) := ⟨_, rfl⟩
      clear hz1 hz2 hz3 hz4 hz5 hz6 hz7 hz8 hz9
      go_wp2
      rw [← hW3] at hz10 g1 ⊢
      have Z0 : W3.cell? ⟨M, 0, none⟩ = some (.int .u64 0) := by simp [World.cell?, hz10]
      have Z1 : W3.cell? ⟨M, 1, none⟩ = some (.int .u64 0) := by simp [World.cell?, hz10]
      have Z2 : W3.cell? ⟨M, 2, none⟩ = some (.int .u64 0) := by simp [World.cell?, hz10]
      have Z3 : W3.cell? ⟨M, 3, none⟩ = some (.int .u64 0) := by simp [World.cell?, hz10]
      have Z4 : W3.cell? ⟨M, 4, none⟩ = some (.int .u64 0) := by simp [World.cell?, hz10]
      have Z5 : W3.cell? ⟨M, 5, none⟩ = some (.int .u64 0) := by simp [World.cell?, hz10]
      have Z6 : W3.cell? ⟨M, 6, none⟩ = some (.int .u64 0) := by simp [World.cell?, hz10]
      have Z7 : W3.cell? ⟨M, 7, none⟩ = some (.int .u64 0) := by simp [World.cell?, hz10]
      have Z8 : W3.cell? ⟨M, 8, none⟩ = some (.int .u64 0) := by simp [World.cell?, hz10]
      have Z9 : W3.cell? ⟨M, 9, none⟩ = some (.int .u64 0) := by simp [World.cell?, hz10]
      exact bodyPost_ret (v := .tuple #[.agg #[.int .u64 0, .int .u64 0, .int .u64 0, .int .u64 0, .int .u64 0, .int .u64 0, .int .u64 0, .int .u64 0, .int .u64 0, .int .u64 0], .int .i64 4]) (by simp [results, Try.results16, go_sem, Z0, Z1, Z2, Z3, Z4, Z5, Z6, Z7, Z8, Z9]) rfl ⟨rfl, Hq.out _ g1⟩

end Go.Proofs.Ytmoddhfemejekaa
end
section
/- The reference of stage 10: All, May. -/
namespace Go.Proofs.Ytmoddhfemejekaa
open Go.RowKit Go.Grommet

def seqS (at_ : Int) : List Nat → List (Int × Nat)
  | [] => []
  | v :: t => (at_, v) :: seqS (at_ + 1) t
theorem all_cons (xs : List Nat) (L : List (Nat × Nat)) (p : Int) (v : Nat) (t : List (Int × Nat)) : (setE xs L p v = 0 → allE xs L ((p, v) :: t) = allE xs (setL xs L p v) t ∧ allL xs L ((p, v) :: t) = allL xs (setL xs L p v) t) ∧ (setE xs L p v ≠ 0 → allE xs L ((p, v) :: t) = setE xs L p v ∧ allL xs L ((p, v) :: t) = setL xs L p v) := by
  constructor
  · intro e
    exact ⟨by show (if setE xs L p v = 0 then _ else _) = _; rw [if_pos e], by show (if setE xs L p v = 0 then _ else _) = _; rw [if_pos e]⟩
  · intro e
    exact ⟨by show (if setE xs L p v = 0 then _ else _) = _; rw [if_neg e], by show (if setE xs L p v = 0 then _ else _) = _; rw [if_neg e]⟩

set_option maxRecDepth 100000 in
set_option maxHeartbeats 2000000 in
theorem RAllQ (k j g : Nat) (xs : List Nat) (L : List (Nat × Nat)) (at_ : Int) (ws : List Nat) (ad : Option Addr) (n cap : Nat) (hn : ws.length = n) (hnb : n ≤ 1000) (hat : -1000000 ≤ at_ ∧ at_ ≤ 1000000000) (w0 w : World) (Ps : List Pr) (h : Own w0 w Ps) (hk : Ps[k]? = some (refQ g xs L)) (hj : Ps[j]? = some (rowP 35 1 (.slice ad n cap) n (ws.map wv))) (hjk : j ≠ k) (hws : ∀ v ∈ ws, v < 18446744073709551616)
    (E : Nat) (LF : List (Nat × Nat)) (hE : allE xs L (seqS at_ ws) = E) (hLF : allL xs L (seqS at_ ws) = LF) :
    Calls Try.prog 37 #[.pointer (some ⟨g, 0, none⟩), .int .i64 at_, .slice ad n cap] w fun e w' => e = .returned (.int .i64 (E : Int)) ∧ Own w0 w' (Ps.set k (refQ g xs LF)) := by
  have hQs : Ps.set k (refQ g xs L) = Ps := by
    apply List.ext_getElem?
    intro i
    by_cases hi : i = k
    · subst hi; rw [List.getElem?_set_self (List.getElem?_eq_some_iff.1 hk).1, hk]
    · rw [List.getElem?_set_ne (fun e => hi e.symm)]
  have hkl := (List.getElem?_eq_some_iff.1 hk).1
  have h' : Own w0 w (Ps.set k (refQ g xs L)) := by rw [hQs]; exact h
  have hO := Lib.hid h'
  have HE := Lib.hid (show allE xs L (seqS (at_ + ((0 : Nat) : Int)) (ws.drop 0)) = E ∧ allL xs L (seqS (at_ + ((0 : Nat) : Int)) (ws.drop 0)) = LF by
    rw [show at_ + ((0 : Nat) : Int) = at_ by omega]; exact ⟨hE, hLF⟩)
  have Hn := Lib.hid hn
  have Hkl := Lib.hid hkl
  have Hj := Lib.hid hj
  have Hjk := Lib.hid hjk
  have Hws := Lib.hid hws
  clear hQs h' h hk hE hLF hn hkl hj hjk hws
  go_enter Try.func37, Try.ntmps37
  go_wp2_with fail
  go_loopw [7] (fun i wr => ∃ (c : Nat) (M : List (Nat × Nat)), c ≤ n ∧ i = .int .i64 (c : Int) ∧ Hid (allE xs M (seqS (at_ + (c : Int)) (ws.drop c)) = E ∧ allL xs M (seqS (at_ + (c : Int)) (ws.drop c)) = LF) ∧ Hid (Own w0 wr (Ps.set k (refQ g xs M)))) (fun i _ => n - (intOf i).toNat)
  case atStart => exact ⟨0, L, Nat.zero_le _, rfl, HE, hO⟩
  case round =>
    clear hO HE
    obtain ⟨c, M, hc, rfl, HE, hO⟩ := hrel
    have c0 : (0 : Int) ≤ (c : Int) := by omega
    by_cases hlt : c < n
    · have hlt' : (c : Int) < (n : Int) := by omega
      obtain ⟨A, hA⟩ : ∃ A, at_ + (c : Int) = A := ⟨_, rfl⟩
      have wA : IntKind.i64.wrap A = A := IntWalk.i64_in _ ⟨by omega, by omega⟩
      obtain ⟨v, hv⟩ : ∃ v, ws.getD c 0 = v := ⟨_, rfl⟩
      have hd : ws.drop c = v :: ws.drop (c + 1) := by
        rw [List.drop_eq_getElem_cons (by rw [Hn.out]; exact hlt), ← hv, List.getD_eq_getElem?_getD, List.getElem?_eq_getElem (by rw [Hn.out]; exact hlt)]; rfl
      obtain ⟨b, had, cK, _, _⟩ := Own.word hO.out j (by rw [List.getElem?_set_ne (fun e => Hjk.out e.symm)]; exact Hj.out) Hn.out c hlt
      subst had
      rw [hv] at cK
      have hv64 : v < 18446744073709551616 := Hws.out v (by rw [← hv, List.getD_eq_getElem?_getD, List.getElem?_eq_getElem (by rw [Hn.out]; exact hlt)]; exact List.getElem_mem _)
      have he := HE.out
      rw [hd, hA] at he
      obtain ⟨p1, p2⟩ := all_cons xs M A v (seqS (A + 1) (ws.drop (c + 1)))
      obtain ⟨en, hen⟩ : ∃ en, setE xs M A v = en := ⟨_, rfl⟩
      obtain ⟨M2, hM2⟩ : ∃ M2, setL xs M A v = M2 := ⟨_, rfl⟩
      have HS := Lib.hid (RSetQ k g xs M A v (en : Int) w0 wr _ (Ps.set k (refQ g xs M2)) hO.out (List.getElem?_set_self Hkl.out) hv64 (by rw [hen]) (by rw [List.set_set, hM2]))
      rw [hen, hM2] at p1 p2
      have he1 : allE xs M ((A, v) :: seqS (A + 1) (ws.drop (c + 1))) = E ∧ allL xs M ((A, v) :: seqS (A + 1) (ws.drop (c + 1))) = LF := he
      by_cases e0 : en = 0
      · have hnx := Lib.hid (show allE xs M2 (seqS (at_ + ((c + 1 : Nat) : Int)) (ws.drop (c + 1))) = E ∧ allL xs M2 (seqS (at_ + ((c + 1 : Nat) : Int)) (ws.drop (c + 1))) = LF by
          rw [show at_ + ((c + 1 : Nat) : Int) = A + 1 by omega, ← (p1 e0).1, ← (p1 e0).2]; exact he1)
        have q0 : ((en : Int) != 0) = false := by rw [e0]; rfl
        have Hlt := Lib.hid (show c + 1 ≤ n by omega)
        clear he he1 p1 p2 hen hM2 hd hv hv64 hO e0 HE hlt
        go_wp2_with fail
        refine HS.out.mono ?_
        rintro e w2 ⟨rfl, hO2⟩
        have hO2 := Lib.hid hO2
        clear HS
        go_wp2
        go_roundw
        case rel => exact ⟨c + 1, M2, Hlt.out, by go_num, hnx, hO2⟩
        case measure => have := Hlt.out; simp [intOf]; omega
      · have hfin : en = E ∧ M2 = LF := ⟨by rw [← (p2 e0).1]; exact he1.1, by rw [← (p2 e0).2]; exact he1.2⟩
        obtain ⟨f1, f2⟩ := hfin
        have q0 : ((en : Int) != 0) = true := by simp; omega
        clear he he1 p1 p2 hen hM2 hd hv hv64 hO e0 HE hlt
        subst f1 f2
        go_wp2_with fail
        refine HS.out.mono ?_
        rintro e w2 ⟨rfl, hO2⟩
        clear HS
        go_wp2
        go_ret
        exact ⟨rfl, hO2⟩
    · have hlt' : ¬ (c : Int) < (n : Int) := by omega
      have he := HE.out
      rw [List.drop_eq_nil_of_le (by rw [Hn.out]; omega)] at he
      obtain ⟨f1, f2⟩ := he
      have f1 : 0 = E := f1
      have f2 : M = LF := f2
      subst f1 f2
      clear HE hlt
      go_wp2
      go_ret
      exact ⟨rfl, hO.out⟩
theorem seq_row (vs : List Nat) : ∀ a : Int, seqS a vs = rowS a vs := by
  induction vs with
  | nil => intro a; rfl
  | cons v t ih =>
    intro a
    show (a, v) :: seqS (a + 1) t = rowS a (v :: t)
    rw [ih]
    unfold rowS
    rw [List.length_cons, List.range_succ_eq_map, List.map_cons, List.map_map]
    congr 1
    · simp
    · apply List.map_congr_left
      intro i _
      simp
      omega
end Go.Proofs.Ytmoddhfemejekaa
end
section
/- The document's Wipe. -/
namespace Go.Grommet
open Go.RowKit
/-- A new row of words. -/
theorem Own.newRow {w0 w : World} {Ps : List Pr} (h : Own w0 w Ps) {T : TypeId} {e : TypeId} {n : Nat} {xs : List Nat} {cs : Array Value} (hcs : cs = (xs.map wv).toArray) (hl : xs.length = n) (hn : n ≤ 100000) (hT : e = T) : Own w0 (w.alloc (.cells cs T)) (Ps ++ [rowP e 1 (.slice (some ⟨w.heap.size, 0, none⟩) n n) n (xs.map wv)]) := by
  subst hcs hl hT
  refine h.addRow ⟨by simp, .inr ⟨w.heap.size, xs.length, (xs.map wv).toArray, rfl, Nat.le_refl _, heap_alloc_new w _, Nat.le_refl _, by unfold maxLen; omega, by simp, by rw [Nat.mul_one]; exact List.take_of_length_le (by simp)⟩⟩ (World.grownBy_alloc w _ none)
end Go.Grommet
namespace Go.Proofs.Ytmoddhfemejekaa
open Go.RowKit Go.Grommet

theorem made_ten (wx : World) : (Instr.makeSlice 29 (.int .i64 10) (.int .i64 10)).run Try.prog wx = .ok (.slice (some ⟨wx.heap.size, 0, none⟩) 10 10) (wx.alloc (.cells (((List.replicate 10 0).map wv).toArray) 35)) := by kernel_rfl

set_option maxRecDepth 100000 in
set_option maxHeartbeats 2000000 in
theorem RWipeE (k g : Nat) (xs : List Nat) (L : List (Nat × Nat)) (a b c n en : Int) (w0 w : World) (Ps : List Pr) (h : Own w0 w Ps) (hk : Ps[k]? = some (refQ g xs L)) (he : hasE a b c n true xs.length = en) (hne : en ≠ 0) :
    Calls Try.prog 20 #[.pointer (some ⟨g, 0, none⟩), gv a b c, .int .i64 n] w fun e w' => e = .returned (.int .i64 en) ∧ Own w0 w' Ps := by
  have hkl := (List.getElem?_eq_some_iff.1 hk).1
  obtain ⟨G, HG⟩ : ∃ G, Hid (G = w.heap.size) := ⟨_, Lib.hid rfl⟩
  have hO : Own w0 (w.alloc (.cells #[.int .i64 a, .int .i64 b, .int .i64 c] 28)) (Ps ++ [boxP G 28 #[.int .i64 a, .int .i64 b, .int .i64 c]]) := by rw [HG.out]; exact h.addBox _ _
  have Hk := Lib.hid (show ∀ Rs, (Ps ++ Rs)[k]? = some (refQ g xs L) from fun Rs => by rw [List.getElem?_append_left hkl]; exact hk)
  have Hkl := Lib.hid hkl
  have Hgeo := Lib.hid (fun wx Rs (hO : Own w0 wx (Ps ++ (boxP G 28 #[.int .i64 a, .int .i64 b, .int .i64 c] :: Rs))) => show GeoR G a b c wx from Own.box hO Ps.length (by rw [List.getElem?_append_right (Nat.le_refl _), Nat.sub_self]; rfl))
  have HT := Lib.hid (fun wx (hO : Own w0 wx (Ps ++ [boxP G 28 #[.int .i64 a, .int .i64 b, .int .i64 c]])) => RThereQ k g xs L a b c n en w0 wx _ hO (Hk.out _) he)
  replace hO := Lib.hid hO
  obtain ⟨y0, y1, y2⟩ := (Hgeo.out _ _ hO.out).cells
  have qn : (en != 0) = true := by simp; omega
  unfold gv at *
  clear h hk hkl he hne
  go_enter Try.func20, Try.ntmps20
  go_wp2_with fail
  rw [← HG.out]
  refine (HT.out _ hO.out).mono ?_
  rintro e w1 ⟨rfl, hg⟩
  have hO1 := Lib.hid (hO.out.quiet hg)
  go_wp2
  go_ret
  exact ⟨rfl, hO1.out.less⟩

set_option maxRecDepth 100000 in
set_option maxHeartbeats 2000000 in
theorem RWipeYes (k g : Nat) (xs : List Nat) (L : List (Nat × Nat)) (a b c n at_ : Int) (en : Nat) (w0 w : World) (Ps Qs : List Pr) (h : Own w0 w Ps) (hk : Ps[k]? = some (refQ g xs L)) (he : hasE a b c n true xs.length = 0) (hat : inodeV a b c n = at_) (ha : 0 ≤ at_ ∧ at_ ≤ 1000000)
    (hen : allE xs L (rowS at_ [0, 0, 0, 0, 0, 0, 0, 0, 0, 0]) = en) (hQ : Ps.set k (refQ g xs (allL xs L (rowS at_ [0, 0, 0, 0, 0, 0, 0, 0, 0, 0]))) = Qs) :
    Calls Try.prog 20 #[.pointer (some ⟨g, 0, none⟩), gv a b c, .int .i64 n] w fun e w' => e = .returned (.int .i64 (en : Int)) ∧ Own w0 w' Qs := by
  have hkl := (List.getElem?_eq_some_iff.1 hk).1
  obtain ⟨G, HG⟩ : ∃ G, Hid (G = w.heap.size) := ⟨_, Lib.hid rfl⟩
  have hO : Own w0 (w.alloc (.cells #[.int .i64 a, .int .i64 b, .int .i64 c] 28)) (Ps ++ [boxP G 28 #[.int .i64 a, .int .i64 b, .int .i64 c]]) := by rw [HG.out]; exact h.addBox _ _
  have Hk := Lib.hid (show ∀ Rs, (Ps ++ Rs)[k]? = some (refQ g xs L) from fun Rs => by rw [List.getElem?_append_left hkl]; exact hk)
  have Hkl := Lib.hid hkl
  have Hgeo := Lib.hid (fun wx Rs (hO : Own w0 wx (Ps ++ (boxP G 28 #[.int .i64 a, .int .i64 b, .int .i64 c] :: Rs))) => show GeoR G a b c wx from Own.box hO Ps.length (by rw [List.getElem?_append_right (Nat.le_refl _), Nat.sub_self]; rfl))
  have HT := Lib.hid (fun wx (hO : Own w0 wx (Ps ++ [boxP G 28 #[.int .i64 a, .int .i64 b, .int .i64 c]])) => RThereQ k g xs L a b c n 0 w0 wx _ hO (Hk.out _) he)
  replace hO := Lib.hid hO
  obtain ⟨y0, y1, y2⟩ := (Hgeo.out _ _ hO.out).cells
  have HI := Lib.hid (fun wx => RInodeAt_any a b c n wx)
  rw [hat] at HI
  obtain ⟨LF, hLF⟩ : ∃ LF, allL xs L (rowS at_ [0, 0, 0, 0, 0, 0, 0, 0, 0, 0]) = LF := ⟨_, rfl⟩
  rw [hLF] at hQ
  have HA := Lib.hid (fun (wx : World) (ad : Option Addr) (hO : Own w0 wx (Ps ++ [boxP G 28 #[.int .i64 a, .int .i64 b, .int .i64 c]] ++ [rowP 35 1 (.slice ad 10 10) 10 ((List.replicate 10 0).map wv)])) => RAllQ k (Ps.length + 1) g xs L at_ (List.replicate 10 0) ad 10 10 rfl (by decide) ⟨by omega, by omega⟩ w0 wx _ hO (by rw [List.append_assoc]; exact Hk.out _) (by rw [List.append_assoc, List.getElem?_append_right (by omega), show Ps.length + 1 - Ps.length = 1 from by omega]; rfl) (by omega) (by intro v hv; rw [List.mem_replicate] at hv; omega) en LF (by rw [seq_row]; exact hen) (by rw [seq_row]; exact hLF))
  have HB := Lib.hid (fun (wx : World) (ad : Option Addr) (hO : Own w0 wx ((Ps ++ [boxP G 28 #[.int .i64 a, .int .i64 b, .int .i64 c]] ++ [rowP 35 1 (.slice ad 10 10) 10 ((List.replicate 10 0).map wv)]).set k (refQ g xs LF))) => show GeoR G a b c wx from Own.box hO Ps.length (by rw [List.getElem?_set_ne (by omega), List.append_assoc, List.getElem?_append_right (Nat.le_refl _), Nat.sub_self]; rfl))
  have HQ := Lib.hid (fun (wx : World) (ad : Option Addr) (hO : Own w0 wx ((Ps ++ [boxP G 28 #[.int .i64 a, .int .i64 b, .int .i64 c]] ++ [rowP 35 1 (.slice ad 10 10) 10 ((List.replicate 10 0).map wv)]).set k (refQ g xs LF))) => show Own w0 wx Qs by rw [List.append_assoc, List.set_append_left _ _ hkl, hQ] at hO; exact hO.less)
  unfold gv at *
  clear h hk hkl he hat ha hen hQ hLF
  go_enter Try.func20, Try.ntmps20
  go_wp2_with fail
  rw [← HG.out]
  refine (HT.out _ hO.out).mono ?_
  rintro e w1 ⟨rfl, hg⟩
  have hO1 := Lib.hid (hO.out.quiet hg)
  have hOr := Lib.hid (hO1.out.quiet (grown_drew (World.grownBy.refl _ none)))
  clear y0 y1 y2 HT hO hg
  go_wp2_with fail
  refine wp_region_held_drew (S := fun w' => GeoR G a b c w') (by kernel_rfl) ((Hgeo.out _ _ hO1.out).keep (grown_drew (World.grownBy.refl _ none))) (fun hS => ?_)
  refine wpAnyH_take (i := 0) (oi := { dst := some 15, op := Op.move (Operand.tmp 0), type := 33, pos := "ref.go:96", after := #[], guard := none }) (v := ?vrw20r4o0) rfl (by kernel_rfl) (by kernel_rfl) (by kernel_rfl) (fun _ _ _ h => h) (Or.inl ⟨by rfl, ?hrw20r4o0⟩) hS ?_
  case hrw20r4o0 => (intro wx hx; skip; go_simp; (try with_reducible rfl))
  try simp only [Act.put, List.setIfInBounds_toArray, List.set_cons_zero, List.set_cons_succ]
  refine wpAnyH_take (i := 1) (oi := { dst := some 16, op := Op.load 28 (Operand.tmp 4), type := 28, pos := "ref.go:96", after := #[], guard := none }) (v := ?vrw20r4o1) rfl (by kernel_rfl) (by kernel_rfl) (by kernel_rfl) (fun _ _ _ h => h) (Or.inl ⟨by rfl, ?hrw20r4o1⟩) hS ?_
  case hrw20r4o1 => (intro wx hx; obtain ⟨q0, q1, q2⟩ := GeoR.cells hx; go_simp; (try with_reducible rfl))
  try simp only [Act.put, List.setIfInBounds_toArray, List.set_cons_zero, List.set_cons_succ]
  refine wpAnyH_take (i := 2) (oi := { dst := some 17, op := Op.move (Operand.tmp 2), type := 3, pos := "ref.go:96", after := #[], guard := none }) (v := ?vrw20r4o2) rfl (by kernel_rfl) (by kernel_rfl) (by kernel_rfl) (fun _ _ _ h => h) (Or.inl ⟨by rfl, ?hrw20r4o2⟩) hS ?_
  case hrw20r4o2 => (intro wx hx; skip; go_simp; (try with_reducible rfl))
  try simp only [Act.put, List.setIfInBounds_toArray, List.set_cons_zero, List.set_cons_succ]
  refine wpAnyH_ready (rs := [3, 4]) (by kernel_rfl) (by simp) ?_
  refine AllReadyH.cons (o := { dst := some 18, op := Op.call { callee := Callee.value (Operand.func 34), args := #[Operand.tmp 16, Operand.tmp 17], argTypes := #[28, 3] }, type := 3, pos := "ref.go:96", after := #[{ on := 1, ground := Ground.data }, { on := 2, ground := Ground.data }], guard := none }) rfl (fun K hK => ?_) ?_
  ·
    go_simp
    refine (HI.out _).mono ?_
    rintro e wA ⟨rfl, hgA⟩
    have hS1 := hS.keep hgA
    have hOn := Lib.hid (hOr.out.quiet hgA)
    clear hOr hgA
    have hOr := hOn
    clear hOn
    refine hK.out _ _ ?hsrwx120r4o3 (fun hS => ?_)
    case hsrwx120r4o3 => (exact hS1)
    clear hK K
    try simp only [Act.put, List.setIfInBounds_toArray, List.set_cons_zero, List.set_cons_succ]
    refine wpAnyH_ready (rs := [4]) (by kernel_rfl) (by simp) ?_
    refine AllReadyH.cons (o := { dst := some 19, op := Op.makeSlice 29 (Operand.const (Value.int IntKind.i64 10)) (Operand.const (Value.int IntKind.i64 10)), type := 29, pos := "ref.go:96", after := #[], guard := none }) rfl (fun K hK => ?_) AllReadyH.nil
    go_simp
    rw [made_ten]
    go_simp
    have hS1 := hS.keep (World.grownBy_alloc _ (.cells (((List.replicate 10 0).map wv).toArray) 35) none)
    have hOn := Lib.hid (hOr.out.newRow (T := 35) (e := 35) (n := 10) (xs := List.replicate 10 0) rfl (by simp) (by decide) rfl)
    clear hOr
    have hOr := hOn
    clear hOn
    refine hK.out _ _ ?hsrwx120r4o4 (fun hS => ?_)
    case hsrwx120r4o4 => (exact hS1)
    clear hK K
    try simp only [Act.put, List.setIfInBounds_toArray, List.set_cons_zero, List.set_cons_succ]
    refine wpAnyH_ready (rs := [5]) (by kernel_rfl) (by simp) ?_
    refine AllReadyH.cons (o := { dst := some 20, op := Op.call { callee := Callee.value (Operand.func 37), args := #[Operand.tmp 15, Operand.tmp 18, Operand.tmp 19], argTypes := #[33, 3, 29] }, type := 47, pos := "ref.go:96", after := #[{ on := 0, ground := Ground.data }, { on := 3, ground := Ground.data }, { on := 4, ground := Ground.data }, { on := 3, ground := Ground.chain }], guard := none }) rfl (fun K hK => ?_) AllReadyH.nil
    go_simp
    refine (HA.out _ _ hOr.out).mono ?_
    rintro e wB ⟨rfl, hOB⟩
    have hS1 : True := trivial
    refine hK.out _ _ ?hsrwx120r4o5 (fun hS => ?_)
    case hsrwx120r4o5 => (exact HB.out _ _ hOB)
    clear hK K
    try simp only [Act.put, List.setIfInBounds_toArray, List.set_cons_zero, List.set_cons_succ]
    refine wpAnyH_take (i := 6) (oi := { dst := some 6, op := Op.assign (Operand.tmp 20), type := 47, pos := "ref.go:96", after := #[{ on := 5, ground := Ground.data }, { on := 5, ground := Ground.chain }, { on := 0, ground := Ground.phase }, { on := 1, ground := Ground.phase }, { on := 2, ground := Ground.phase }, { on := 3, ground := Ground.phase }, { on := 4, ground := Ground.phase }, { on := 5, ground := Ground.phase }], guard := none }) (v := ?vrwx120r4o6) rfl (by kernel_rfl) (by kernel_rfl) (by kernel_rfl) (fun _ _ _ h => h) (Or.inl ⟨by rfl, ?hrwx120r4o6⟩) hS ?_
    case hrwx120r4o6 => (intro wx hx; skip; go_simp; (try with_reducible rfl))
    try simp only [Act.put, List.setIfInBounds_toArray, List.set_cons_zero, List.set_cons_succ]
    refine wpAnyH_done (by kernel_rfl) ?_ _
    go_wp2
    go_ret
    exact ⟨rfl, HQ.out _ _ hOB⟩
  refine AllReadyH.cons (o := { dst := some 19, op := Op.makeSlice 29 (Operand.const (Value.int IntKind.i64 10)) (Operand.const (Value.int IntKind.i64 10)), type := 29, pos := "ref.go:96", after := #[], guard := none }) rfl (fun K hK => ?_) ?_
  ·
    go_simp
    rw [made_ten]
    go_simp
    have hS1 := hS.keep (World.grownBy_alloc _ (.cells (((List.replicate 10 0).map wv).toArray) 35) none)
    have hOn := Lib.hid (hOr.out.newRow (T := 35) (e := 35) (n := 10) (xs := List.replicate 10 0) rfl (by simp) (by decide) rfl)
    clear hOr
    have hOr := hOn
    clear hOn
    refine hK.out _ _ ?hsrwx220r4o4 (fun hS => ?_)
    case hsrwx220r4o4 => (exact hS1)
    clear hK K
    try simp only [Act.put, List.setIfInBounds_toArray, List.set_cons_zero, List.set_cons_succ]
    refine wpAnyH_ready (rs := [3]) (by kernel_rfl) (by simp) ?_
    refine AllReadyH.cons (o := { dst := some 18, op := Op.call { callee := Callee.value (Operand.func 34), args := #[Operand.tmp 16, Operand.tmp 17], argTypes := #[28, 3] }, type := 3, pos := "ref.go:96", after := #[{ on := 1, ground := Ground.data }, { on := 2, ground := Ground.data }], guard := none }) rfl (fun K hK => ?_) AllReadyH.nil
    go_simp
    refine (HI.out _).mono ?_
    rintro e wA ⟨rfl, hgA⟩
    have hS1 := hS.keep hgA
    have hOn := Lib.hid (hOr.out.quiet hgA)
    clear hOr hgA
    have hOr := hOn
    clear hOn
    refine hK.out _ _ ?hsrwx220r4o3 (fun hS => ?_)
    case hsrwx220r4o3 => (exact hS1)
    clear hK K
    try simp only [Act.put, List.setIfInBounds_toArray, List.set_cons_zero, List.set_cons_succ]
    refine wpAnyH_ready (rs := [5]) (by kernel_rfl) (by simp) ?_
    refine AllReadyH.cons (o := { dst := some 20, op := Op.call { callee := Callee.value (Operand.func 37), args := #[Operand.tmp 15, Operand.tmp 18, Operand.tmp 19], argTypes := #[33, 3, 29] }, type := 47, pos := "ref.go:96", after := #[{ on := 0, ground := Ground.data }, { on := 3, ground := Ground.data }, { on := 4, ground := Ground.data }, { on := 3, ground := Ground.chain }], guard := none }) rfl (fun K hK => ?_) AllReadyH.nil
    go_simp
    refine (HA.out _ _ hOr.out).mono ?_
    rintro e wB ⟨rfl, hOB⟩
    have hS1 : True := trivial
    refine hK.out _ _ ?hsrwx220r4o5 (fun hS => ?_)
    case hsrwx220r4o5 => (exact HB.out _ _ hOB)
    clear hK K
    try simp only [Act.put, List.setIfInBounds_toArray, List.set_cons_zero, List.set_cons_succ]
    refine wpAnyH_take (i := 6) (oi := { dst := some 6, op := Op.assign (Operand.tmp 20), type := 47, pos := "ref.go:96", after := #[{ on := 5, ground := Ground.data }, { on := 5, ground := Ground.chain }, { on := 0, ground := Ground.phase }, { on := 1, ground := Ground.phase }, { on := 2, ground := Ground.phase }, { on := 3, ground := Ground.phase }, { on := 4, ground := Ground.phase }, { on := 5, ground := Ground.phase }], guard := none }) (v := ?vrwx220r4o6) rfl (by kernel_rfl) (by kernel_rfl) (by kernel_rfl) (fun _ _ _ h => h) (Or.inl ⟨by rfl, ?hrwx220r4o6⟩) hS ?_
    case hrwx220r4o6 => (intro wx hx; skip; go_simp; (try with_reducible rfl))
    try simp only [Act.put, List.setIfInBounds_toArray, List.set_cons_zero, List.set_cons_succ]
    refine wpAnyH_done (by kernel_rfl) ?_ _
    go_wp2
    go_ret
    exact ⟨rfl, HQ.out _ _ hOB⟩
  exact AllReadyH.nil
end Go.Proofs.Ytmoddhfemejekaa
end
section
/- The document's Put. -/
namespace Go.Proofs.Ytmoddhfemejekaa
open Go.RowKit Go.Grommet


set_option maxRecDepth 100000 in
set_option maxHeartbeats 4000000 in
theorem RPutW12 (k g : Nat) (xs : List Nat) (L : List (Nat × Nat)) (a b c n : Int) (v0 v1 v2 v3 v4 v5 v6 v7 v8 v9 : Nat) (w0 w : World) (Ps : List Pr) (h : Own w0 w Ps) (hk : Ps[k]? = some (refQ g xs L)) (hr : rightB a b c v0 v1 v2 v3 v4 v5 v6 v7 v8 v9 = false) :
    Calls Try.prog 18 #[.pointer (some ⟨g, 0, none⟩), gv a b c, .int .i64 n, .agg #[.int .u64 (v0 : Int), .int .u64 (v1 : Int), .int .u64 (v2 : Int), .int .u64 (v3 : Int), .int .u64 (v4 : Int), .int .u64 (v5 : Int), .int .u64 (v6 : Int), .int .u64 (v7 : Int), .int .u64 (v8 : Int), .int .u64 (v9 : Int)]] w fun e w' => e = .returned (.int .i64 1) ∧ Own w0 w' Ps := by
  have hkl := (List.getElem?_eq_some_iff.1 hk).1
  obtain ⟨G, HG⟩ : ∃ G, Hid (G = w.heap.size) := ⟨_, Lib.hid rfl⟩
  obtain ⟨N, HN⟩ : ∃ N, Hid (N = w.heap.size + 1) := ⟨_, Lib.hid rfl⟩
  have hO : Own w0 ((w.alloc (.cells #[.int .i64 a, .int .i64 b, .int .i64 c] 28)).alloc (.cells #[.int .u64 (v0 : Int), .int .u64 (v1 : Int), .int .u64 (v2 : Int), .int .u64 (v3 : Int), .int .u64 (v4 : Int), .int .u64 (v5 : Int), .int .u64 (v6 : Int), .int .u64 (v7 : Int), .int .u64 (v8 : Int), .int .u64 (v9 : Int)] 46)) (Ps ++ [boxP G 28 #[.int .i64 a, .int .i64 b, .int .i64 c], boxP N 46 #[.int .u64 (v0 : Int), .int .u64 (v1 : Int), .int .u64 (v2 : Int), .int .u64 (v3 : Int), .int .u64 (v4 : Int), .int .u64 (v5 : Int), .int .u64 (v6 : Int), .int .u64 (v7 : Int), .int .u64 (v8 : Int), .int .u64 (v9 : Int)]]) := by
    have h := (h.addBox 28 #[.int .i64 a, .int .i64 b, .int .i64 c]).addBox 46 #[.int .u64 (v0 : Int), .int .u64 (v1 : Int), .int .u64 (v2 : Int), .int .u64 (v3 : Int), .int .u64 (v4 : Int), .int .u64 (v5 : Int), .int .u64 (v6 : Int), .int .u64 (v7 : Int), .int .u64 (v8 : Int), .int .u64 (v9 : Int)]
    rw [World.size_alloc, ← HN.out, ← HG.out, List.append_assoc] at h
    exact h
  have Hk := Lib.hid (show ∀ Rs, (Ps ++ Rs)[k]? = some (refQ g xs L) from fun Rs => by rw [List.getElem?_append_left hkl]; exact hk)
  have Hgeo := Lib.hid (fun wx Rs (hO : Own w0 wx (Ps ++ (boxP G 28 #[.int .i64 a, .int .i64 b, .int .i64 c] :: boxP N 46 #[.int .u64 (v0 : Int), .int .u64 (v1 : Int), .int .u64 (v2 : Int), .int .u64 (v3 : Int), .int .u64 (v4 : Int), .int .u64 (v5 : Int), .int .u64 (v6 : Int), .int .u64 (v7 : Int), .int .u64 (v8 : Int), .int .u64 (v9 : Int)] :: Rs))) => show GeoR G a b c wx ∧ NodeR N v0 v1 v2 v3 v4 v5 v6 v7 v8 v9 wx from ⟨Own.box hO Ps.length (by rw [List.getElem?_append_right (Nat.le_refl _), Nat.sub_self]; rfl), Own.box hO (Ps.length + 1) (by rw [List.getElem?_append_right (by omega), show Ps.length + 1 - Ps.length = 1 from by omega]; rfl)⟩)
  have HR := Lib.hid (fun wx => RRight_any a b c v0 v1 v2 v3 v4 v5 v6 v7 v8 v9 wx)
  rw [hr] at HR
  replace hO := Lib.hid hO
  obtain ⟨y0, y1, y2⟩ := GeoR.cells (Hgeo.out _ _ hO.out).1
  obtain ⟨z0, z1, z2, z3, z4, z5, z6, z7, z8, z9⟩ := NodeR.cells (Hgeo.out _ _ hO.out).2
  unfold nv gv at *
  clear h hk hkl hr
  go_enter Try.func18, Try.ntmps18
  go_wp2_with fail
  rw [← HN.out, ← HG.out]
  refine (HR.out _).mono ?_
  rintro e w1 ⟨rfl, hg⟩
  have hO1 := Lib.hid (hO.out.quiet hg)
  clear y0 y1 y2 z0 z1 z2 z3 z4 z5 z6 z7 z8 z9 hO hg HR
  go_wp2
  go_ret
  exact ⟨rfl, hO1.out.less⟩

set_option maxRecDepth 100000 in
set_option maxHeartbeats 4000000 in
theorem RPutE12 (k g : Nat) (xs : List Nat) (L : List (Nat × Nat)) (a b c n : Int) (v0 v1 v2 v3 v4 v5 v6 v7 v8 v9 : Nat) (en : Int) (w0 w : World) (Ps : List Pr) (h : Own w0 w Ps) (hk : Ps[k]? = some (refQ g xs L)) (hr : rightB a b c v0 v1 v2 v3 v4 v5 v6 v7 v8 v9 = true) (he : hasE a b c n true xs.length = en) (hne : en ≠ 0) :
    Calls Try.prog 18 #[.pointer (some ⟨g, 0, none⟩), gv a b c, .int .i64 n, .agg #[.int .u64 (v0 : Int), .int .u64 (v1 : Int), .int .u64 (v2 : Int), .int .u64 (v3 : Int), .int .u64 (v4 : Int), .int .u64 (v5 : Int), .int .u64 (v6 : Int), .int .u64 (v7 : Int), .int .u64 (v8 : Int), .int .u64 (v9 : Int)]] w fun e w' => e = .returned (.int .i64 en) ∧ Own w0 w' Ps := by
  have hkl := (List.getElem?_eq_some_iff.1 hk).1
  obtain ⟨G, HG⟩ : ∃ G, Hid (G = w.heap.size) := ⟨_, Lib.hid rfl⟩
  obtain ⟨N, HN⟩ : ∃ N, Hid (N = w.heap.size + 1) := ⟨_, Lib.hid rfl⟩
  have hO : Own w0 ((w.alloc (.cells #[.int .i64 a, .int .i64 b, .int .i64 c] 28)).alloc (.cells #[.int .u64 (v0 : Int), .int .u64 (v1 : Int), .int .u64 (v2 : Int), .int .u64 (v3 : Int), .int .u64 (v4 : Int), .int .u64 (v5 : Int), .int .u64 (v6 : Int), .int .u64 (v7 : Int), .int .u64 (v8 : Int), .int .u64 (v9 : Int)] 46)) (Ps ++ [boxP G 28 #[.int .i64 a, .int .i64 b, .int .i64 c], boxP N 46 #[.int .u64 (v0 : Int), .int .u64 (v1 : Int), .int .u64 (v2 : Int), .int .u64 (v3 : Int), .int .u64 (v4 : Int), .int .u64 (v5 : Int), .int .u64 (v6 : Int), .int .u64 (v7 : Int), .int .u64 (v8 : Int), .int .u64 (v9 : Int)]]) := by
    have h := (h.addBox 28 #[.int .i64 a, .int .i64 b, .int .i64 c]).addBox 46 #[.int .u64 (v0 : Int), .int .u64 (v1 : Int), .int .u64 (v2 : Int), .int .u64 (v3 : Int), .int .u64 (v4 : Int), .int .u64 (v5 : Int), .int .u64 (v6 : Int), .int .u64 (v7 : Int), .int .u64 (v8 : Int), .int .u64 (v9 : Int)]
    rw [World.size_alloc, ← HN.out, ← HG.out, List.append_assoc] at h
    exact h
  have Hk := Lib.hid (show ∀ Rs, (Ps ++ Rs)[k]? = some (refQ g xs L) from fun Rs => by rw [List.getElem?_append_left hkl]; exact hk)
  have Hgeo := Lib.hid (fun wx Rs (hO : Own w0 wx (Ps ++ (boxP G 28 #[.int .i64 a, .int .i64 b, .int .i64 c] :: boxP N 46 #[.int .u64 (v0 : Int), .int .u64 (v1 : Int), .int .u64 (v2 : Int), .int .u64 (v3 : Int), .int .u64 (v4 : Int), .int .u64 (v5 : Int), .int .u64 (v6 : Int), .int .u64 (v7 : Int), .int .u64 (v8 : Int), .int .u64 (v9 : Int)] :: Rs))) => show GeoR G a b c wx ∧ NodeR N v0 v1 v2 v3 v4 v5 v6 v7 v8 v9 wx from ⟨Own.box hO Ps.length (by rw [List.getElem?_append_right (Nat.le_refl _), Nat.sub_self]; rfl), Own.box hO (Ps.length + 1) (by rw [List.getElem?_append_right (by omega), show Ps.length + 1 - Ps.length = 1 from by omega]; rfl)⟩)
  have HR := Lib.hid (fun wx => RRight_any a b c v0 v1 v2 v3 v4 v5 v6 v7 v8 v9 wx)
  rw [hr] at HR
  replace hO := Lib.hid hO
  obtain ⟨y0, y1, y2⟩ := GeoR.cells (Hgeo.out _ _ hO.out).1
  obtain ⟨z0, z1, z2, z3, z4, z5, z6, z7, z8, z9⟩ := NodeR.cells (Hgeo.out _ _ hO.out).2
  have HT := Lib.hid (fun wx (hO : Own w0 wx (Ps ++ [boxP G 28 #[.int .i64 a, .int .i64 b, .int .i64 c], boxP N 46 #[.int .u64 (v0 : Int), .int .u64 (v1 : Int), .int .u64 (v2 : Int), .int .u64 (v3 : Int), .int .u64 (v4 : Int), .int .u64 (v5 : Int), .int .u64 (v6 : Int), .int .u64 (v7 : Int), .int .u64 (v8 : Int), .int .u64 (v9 : Int)]])) => RThereQ k g xs L a b c n en w0 wx _ hO (Hk.out _) he)
  have qn : (en != 0) = true := by simp; omega
  unfold nv gv at *
  clear h hk hkl hr he hne
  go_enter Try.func18, Try.ntmps18
  go_wp2_with fail
  rw [← HN.out, ← HG.out]
  refine (HR.out _).mono ?_
  rintro e w1 ⟨rfl, hg⟩
  have hO1 := Lib.hid (hO.out.quiet hg)
  clear y0 y1 y2 z0 z1 z2 z3 z4 z5 z6 z7 z8 z9 hO hg HR
  obtain ⟨y0, y1, y2⟩ := GeoR.cells (Hgeo.out _ _ hO1.out).1
  go_wp2_with fail
  refine (HT.out _ hO1.out).mono ?_
  rintro e w2 ⟨rfl, hg⟩
  have hO2 := Lib.hid (hO1.out.quiet hg)
  clear y0 y1 y2 hO1 hg HT
  go_wp2
  go_ret
  exact ⟨rfl, hO2.out.less⟩

set_option maxRecDepth 100000 in
set_option maxHeartbeats 4000000 in
theorem RPutYes12 (k g : Nat) (xs : List Nat) (L : List (Nat × Nat)) (a b c n : Int) (v0 v1 v2 v3 v4 v5 v6 v7 v8 v9 : Nat) (at_ : Int) (en : Nat) (w0 w : World) (Ps Qs : List Pr) (h : Own w0 w Ps) (hk : Ps[k]? = some (refQ g xs L)) (hr : rightB a b c v0 v1 v2 v3 v4 v5 v6 v7 v8 v9 = true) (he : hasE a b c n true xs.length = 0) (hat : inodeV a b c n = at_) (ha : 0 ≤ at_ ∧ at_ ≤ 1000000)
    (hv : ∀ x ∈ [v0, v1, v2, v3, v4, v5, v6, v7, v8, v9], x < 18446744073709551616) (hen : allE xs L (rowS at_ [v0, v1, v2, v3, v4, v5, v6, v7, v8, v9]) = en) (hQ : Ps.set k (refQ g xs (allL xs L (rowS at_ [v0, v1, v2, v3, v4, v5, v6, v7, v8, v9]))) = Qs) :
    Calls Try.prog 18 #[.pointer (some ⟨g, 0, none⟩), gv a b c, .int .i64 n, .agg #[.int .u64 (v0 : Int), .int .u64 (v1 : Int), .int .u64 (v2 : Int), .int .u64 (v3 : Int), .int .u64 (v4 : Int), .int .u64 (v5 : Int), .int .u64 (v6 : Int), .int .u64 (v7 : Int), .int .u64 (v8 : Int), .int .u64 (v9 : Int)]] w fun e w' => e = .returned (.int .i64 (en : Int)) ∧ Own w0 w' Qs := by
  have hkl := (List.getElem?_eq_some_iff.1 hk).1
  obtain ⟨G, HG⟩ : ∃ G, Hid (G = w.heap.size) := ⟨_, Lib.hid rfl⟩
  obtain ⟨N, HN⟩ : ∃ N, Hid (N = w.heap.size + 1) := ⟨_, Lib.hid rfl⟩
  have hO : Own w0 ((w.alloc (.cells #[.int .i64 a, .int .i64 b, .int .i64 c] 28)).alloc (.cells #[.int .u64 (v0 : Int), .int .u64 (v1 : Int), .int .u64 (v2 : Int), .int .u64 (v3 : Int), .int .u64 (v4 : Int), .int .u64 (v5 : Int), .int .u64 (v6 : Int), .int .u64 (v7 : Int), .int .u64 (v8 : Int), .int .u64 (v9 : Int)] 46)) (Ps ++ [boxP G 28 #[.int .i64 a, .int .i64 b, .int .i64 c], boxP N 46 #[.int .u64 (v0 : Int), .int .u64 (v1 : Int), .int .u64 (v2 : Int), .int .u64 (v3 : Int), .int .u64 (v4 : Int), .int .u64 (v5 : Int), .int .u64 (v6 : Int), .int .u64 (v7 : Int), .int .u64 (v8 : Int), .int .u64 (v9 : Int)]]) := by
    have h := (h.addBox 28 #[.int .i64 a, .int .i64 b, .int .i64 c]).addBox 46 #[.int .u64 (v0 : Int), .int .u64 (v1 : Int), .int .u64 (v2 : Int), .int .u64 (v3 : Int), .int .u64 (v4 : Int), .int .u64 (v5 : Int), .int .u64 (v6 : Int), .int .u64 (v7 : Int), .int .u64 (v8 : Int), .int .u64 (v9 : Int)]
    rw [World.size_alloc, ← HN.out, ← HG.out, List.append_assoc] at h
    exact h
  have Hk := Lib.hid (show ∀ Rs, (Ps ++ Rs)[k]? = some (refQ g xs L) from fun Rs => by rw [List.getElem?_append_left hkl]; exact hk)
  have Hgeo := Lib.hid (fun wx Rs (hO : Own w0 wx (Ps ++ (boxP G 28 #[.int .i64 a, .int .i64 b, .int .i64 c] :: boxP N 46 #[.int .u64 (v0 : Int), .int .u64 (v1 : Int), .int .u64 (v2 : Int), .int .u64 (v3 : Int), .int .u64 (v4 : Int), .int .u64 (v5 : Int), .int .u64 (v6 : Int), .int .u64 (v7 : Int), .int .u64 (v8 : Int), .int .u64 (v9 : Int)] :: Rs))) => show GeoR G a b c wx ∧ NodeR N v0 v1 v2 v3 v4 v5 v6 v7 v8 v9 wx from ⟨Own.box hO Ps.length (by rw [List.getElem?_append_right (Nat.le_refl _), Nat.sub_self]; rfl), Own.box hO (Ps.length + 1) (by rw [List.getElem?_append_right (by omega), show Ps.length + 1 - Ps.length = 1 from by omega]; rfl)⟩)
  have HR := Lib.hid (fun wx => RRight_any a b c v0 v1 v2 v3 v4 v5 v6 v7 v8 v9 wx)
  rw [hr] at HR
  replace hO := Lib.hid hO
  obtain ⟨y0, y1, y2⟩ := GeoR.cells (Hgeo.out _ _ hO.out).1
  obtain ⟨z0, z1, z2, z3, z4, z5, z6, z7, z8, z9⟩ := NodeR.cells (Hgeo.out _ _ hO.out).2
  have HT := Lib.hid (fun wx (hO : Own w0 wx (Ps ++ [boxP G 28 #[.int .i64 a, .int .i64 b, .int .i64 c], boxP N 46 #[.int .u64 (v0 : Int), .int .u64 (v1 : Int), .int .u64 (v2 : Int), .int .u64 (v3 : Int), .int .u64 (v4 : Int), .int .u64 (v5 : Int), .int .u64 (v6 : Int), .int .u64 (v7 : Int), .int .u64 (v8 : Int), .int .u64 (v9 : Int)]])) => RThereQ k g xs L a b c n 0 w0 wx _ hO (Hk.out _) he)
  have HI := Lib.hid (fun wx => RInodeAt_any a b c n wx)
  rw [hat] at HI
  obtain ⟨LF, hLF⟩ : ∃ LF, allL xs L (rowS at_ [v0, v1, v2, v3, v4, v5, v6, v7, v8, v9]) = LF := ⟨_, rfl⟩
  rw [hLF] at hQ
  have HA := Lib.hid (fun (wx : World) (ad : Option Addr) (hO : Own w0 wx (Ps ++ [boxP G 28 #[.int .i64 a, .int .i64 b, .int .i64 c], boxP N 46 #[.int .u64 (v0 : Int), .int .u64 (v1 : Int), .int .u64 (v2 : Int), .int .u64 (v3 : Int), .int .u64 (v4 : Int), .int .u64 (v5 : Int), .int .u64 (v6 : Int), .int .u64 (v7 : Int), .int .u64 (v8 : Int), .int .u64 (v9 : Int)]] ++ [rowP 35 1 (.slice ad 10 10) 10 ([v0, v1, v2, v3, v4, v5, v6, v7, v8, v9].map wv)])) => RAllQ k (Ps.length + 2) g xs L at_ [v0, v1, v2, v3, v4, v5, v6, v7, v8, v9] ad 10 10 rfl (by decide) ⟨by omega, by omega⟩ w0 wx _ hO (by rw [List.append_assoc]; exact Hk.out _) (by rw [List.append_assoc, List.getElem?_append_right (by omega), show Ps.length + 2 - Ps.length = 2 from by omega]; rfl) (by omega) hv en LF (by rw [seq_row]; exact hen) (by rw [seq_row]; exact hLF))
  have HB := Lib.hid (fun (wx : World) (ad : Option Addr) (hO : Own w0 wx ((Ps ++ [boxP G 28 #[.int .i64 a, .int .i64 b, .int .i64 c], boxP N 46 #[.int .u64 (v0 : Int), .int .u64 (v1 : Int), .int .u64 (v2 : Int), .int .u64 (v3 : Int), .int .u64 (v4 : Int), .int .u64 (v5 : Int), .int .u64 (v6 : Int), .int .u64 (v7 : Int), .int .u64 (v8 : Int), .int .u64 (v9 : Int)]] ++ [rowP 35 1 (.slice ad 10 10) 10 ([v0, v1, v2, v3, v4, v5, v6, v7, v8, v9].map wv)]).set k (refQ g xs LF))) => show GeoR G a b c wx ∧ NodeR N v0 v1 v2 v3 v4 v5 v6 v7 v8 v9 wx from ⟨Own.box hO Ps.length (by rw [List.getElem?_set_ne (by omega), List.append_assoc, List.getElem?_append_right (Nat.le_refl _), Nat.sub_self]; rfl), Own.box hO (Ps.length + 1) (by rw [List.getElem?_set_ne (by omega), List.append_assoc, List.getElem?_append_right (by omega), show Ps.length + 1 - Ps.length = 1 from by omega]; rfl)⟩)
  have HQ := Lib.hid (fun (wx : World) (ad : Option Addr) (hO : Own w0 wx ((Ps ++ [boxP G 28 #[.int .i64 a, .int .i64 b, .int .i64 c], boxP N 46 #[.int .u64 (v0 : Int), .int .u64 (v1 : Int), .int .u64 (v2 : Int), .int .u64 (v3 : Int), .int .u64 (v4 : Int), .int .u64 (v5 : Int), .int .u64 (v6 : Int), .int .u64 (v7 : Int), .int .u64 (v8 : Int), .int .u64 (v9 : Int)]] ++ [rowP 35 1 (.slice ad 10 10) 10 ([v0, v1, v2, v3, v4, v5, v6, v7, v8, v9].map wv)]).set k (refQ g xs LF))) => show Own w0 wx Qs by rw [List.append_assoc, List.set_append_left _ _ hkl, hQ] at hO; exact hO.less)
  unfold nv gv at *
  clear h hk hkl hr he hat ha hv hen hQ hLF
  go_enter Try.func18, Try.ntmps18
  go_wp2_with fail
  rw [← HN.out, ← HG.out]
  refine (HR.out _).mono ?_
  rintro e w1 ⟨rfl, hg⟩
  have hO1 := Lib.hid (hO.out.quiet hg)
  clear y0 y1 y2 z0 z1 z2 z3 z4 z5 z6 z7 z8 z9 hO hg HR
  obtain ⟨y0, y1, y2⟩ := GeoR.cells (Hgeo.out _ _ hO1.out).1
  go_wp2_with fail
  refine (HT.out _ hO1.out).mono ?_
  rintro e w2 ⟨rfl, hg⟩
  have hO2 := Lib.hid (hO1.out.quiet hg)
  clear y0 y1 y2 hO1 hg HT
  have hOr := Lib.hid (hO2.out.quiet (grown_drew (World.grownBy.refl _ none)))
  go_wp2_with fail
  refine wp_region_held_drew (S := fun w' => GeoR G a b c w' ∧ NodeR N v0 v1 v2 v3 v4 v5 v6 v7 v8 v9 w') (by kernel_rfl) (And.intro ((Hgeo.out _ _ hO2.out).1.keep (grown_drew (World.grownBy.refl _ none))) ((Hgeo.out _ _ hO2.out).2.keep (grown_drew (World.grownBy.refl _ none)))) (fun hS => ?_)
  refine wpAnyH_take (i := 0) (oi := { dst := some 21, op := Op.move (Operand.tmp 0), type := 33, pos := "ref.go:87", after := #[], guard := none }) (v := ?vrp18r6o0) rfl (by kernel_rfl) (by kernel_rfl) (by kernel_rfl) (fun _ _ _ h => h) (Or.inl ⟨by rfl, ?hrp18r6o0⟩) hS ?_
  case hrp18r6o0 => (intro wx hx; skip; go_simp; (try with_reducible rfl))
  try simp only [Act.put, List.setIfInBounds_toArray, List.set_cons_zero, List.set_cons_succ]
  refine wpAnyH_take (i := 1) (oi := { dst := some 22, op := Op.load 28 (Operand.tmp 5), type := 28, pos := "ref.go:87", after := #[], guard := none }) (v := ?vrp18r6o1) rfl (by kernel_rfl) (by kernel_rfl) (by kernel_rfl) (fun _ _ _ h => h) (Or.inl ⟨by rfl, ?hrp18r6o1⟩) hS ?_
  case hrp18r6o1 => (intro wx hx; obtain ⟨hx0, hx1⟩ := hx; obtain ⟨q0, q1, q2⟩ := GeoR.cells hx0; obtain ⟨z0, z1, z2, z3, z4, z5, z6, z7, z8, z9⟩ := NodeR.cells hx1; go_simp; (try with_reducible rfl))
  try simp only [Act.put, List.setIfInBounds_toArray, List.set_cons_zero, List.set_cons_succ]
  refine wpAnyH_take (i := 2) (oi := { dst := some 23, op := Op.move (Operand.tmp 2), type := 3, pos := "ref.go:87", after := #[], guard := none }) (v := ?vrp18r6o2) rfl (by kernel_rfl) (by kernel_rfl) (by kernel_rfl) (fun _ _ _ h => h) (Or.inl ⟨by rfl, ?hrp18r6o2⟩) hS ?_
  case hrp18r6o2 => (intro wx hx; skip; go_simp; (try with_reducible rfl))
  try simp only [Act.put, List.setIfInBounds_toArray, List.set_cons_zero, List.set_cons_succ]
  refine wpAnyH_take (i := 4) (oi := { dst := some 25, op := Op.fieldAddr 46 (Operand.tmp 7) 0, type := 0, pos := "ref.go:87", after := #[], guard := none }) (v := ?vrp18r6o4) rfl (by kernel_rfl) (by kernel_rfl) (by kernel_rfl) (fun _ _ _ h => h) (Or.inl ⟨by rfl, ?hrp18r6o4⟩) hS ?_
  case hrp18r6o4 => (intro wx hx; skip; go_simp; (try with_reducible rfl))
  try simp only [Act.put, List.setIfInBounds_toArray, List.set_cons_zero, List.set_cons_succ]
  refine wpAnyH_take (i := 5) (oi := { dst := some 26, op := Op.load 35 (Operand.tmp 25), type := 35, pos := "ref.go:87", after := #[{ on := 4, ground := Ground.data }], guard := none }) (v := ?vrp18r6o5) rfl (by kernel_rfl) (by kernel_rfl) (by kernel_rfl) (fun _ _ _ h => h) (Or.inl ⟨by rfl, ?hrp18r6o5⟩) hS ?_
  case hrp18r6o5 => (intro wx hx; obtain ⟨hx0, hx1⟩ := hx; obtain ⟨q0, q1, q2⟩ := GeoR.cells hx0; obtain ⟨z0, z1, z2, z3, z4, z5, z6, z7, z8, z9⟩ := NodeR.cells hx1; go_simp; (try with_reducible rfl))
  try simp only [Act.put, List.setIfInBounds_toArray, List.set_cons_zero, List.set_cons_succ]
  refine wpAnyH_take (i := 6) (oi := { dst := some 27, op := Op.fieldAddr 46 (Operand.tmp 7) 1, type := 0, pos := "ref.go:87", after := #[], guard := none }) (v := ?vrp18r6o6) rfl (by kernel_rfl) (by kernel_rfl) (by kernel_rfl) (fun _ _ _ h => h) (Or.inl ⟨by rfl, ?hrp18r6o6⟩) hS ?_
  case hrp18r6o6 => (intro wx hx; skip; go_simp; (try with_reducible rfl))
  try simp only [Act.put, List.setIfInBounds_toArray, List.set_cons_zero, List.set_cons_succ]
  refine wpAnyH_take (i := 7) (oi := { dst := some 28, op := Op.load 35 (Operand.tmp 27), type := 35, pos := "ref.go:87", after := #[{ on := 6, ground := Ground.data }], guard := none }) (v := ?vrp18r6o7) rfl (by kernel_rfl) (by kernel_rfl) (by kernel_rfl) (fun _ _ _ h => h) (Or.inl ⟨by rfl, ?hrp18r6o7⟩) hS ?_
  case hrp18r6o7 => (intro wx hx; obtain ⟨hx0, hx1⟩ := hx; obtain ⟨q0, q1, q2⟩ := GeoR.cells hx0; obtain ⟨z0, z1, z2, z3, z4, z5, z6, z7, z8, z9⟩ := NodeR.cells hx1; go_simp; (try with_reducible rfl))
  try simp only [Act.put, List.setIfInBounds_toArray, List.set_cons_zero, List.set_cons_succ]
  refine wpAnyH_take (i := 8) (oi := { dst := some 29, op := Op.fieldAddr 46 (Operand.tmp 7) 2, type := 0, pos := "ref.go:87", after := #[], guard := none }) (v := ?vrp18r6o8) rfl (by kernel_rfl) (by kernel_rfl) (by kernel_rfl) (fun _ _ _ h => h) (Or.inl ⟨by rfl, ?hrp18r6o8⟩) hS ?_
  case hrp18r6o8 => (intro wx hx; skip; go_simp; (try with_reducible rfl))
  try simp only [Act.put, List.setIfInBounds_toArray, List.set_cons_zero, List.set_cons_succ]
  refine wpAnyH_take (i := 9) (oi := { dst := some 30, op := Op.load 35 (Operand.tmp 29), type := 35, pos := "ref.go:87", after := #[{ on := 8, ground := Ground.data }], guard := none }) (v := ?vrp18r6o9) rfl (by kernel_rfl) (by kernel_rfl) (by kernel_rfl) (fun _ _ _ h => h) (Or.inl ⟨by rfl, ?hrp18r6o9⟩) hS ?_
  case hrp18r6o9 => (intro wx hx; obtain ⟨hx0, hx1⟩ := hx; obtain ⟨q0, q1, q2⟩ := GeoR.cells hx0; obtain ⟨z0, z1, z2, z3, z4, z5, z6, z7, z8, z9⟩ := NodeR.cells hx1; go_simp; (try with_reducible rfl))
  try simp only [Act.put, List.setIfInBounds_toArray, List.set_cons_zero, List.set_cons_succ]
  refine wpAnyH_take (i := 10) (oi := { dst := some 31, op := Op.fieldAddr 46 (Operand.tmp 7) 3, type := 0, pos := "ref.go:87", after := #[], guard := none }) (v := ?vrp18r6o10) rfl (by kernel_rfl) (by kernel_rfl) (by kernel_rfl) (fun _ _ _ h => h) (Or.inl ⟨by rfl, ?hrp18r6o10⟩) hS ?_
  case hrp18r6o10 => (intro wx hx; skip; go_simp; (try with_reducible rfl))
  try simp only [Act.put, List.setIfInBounds_toArray, List.set_cons_zero, List.set_cons_succ]
  refine wpAnyH_take (i := 11) (oi := { dst := some 32, op := Op.load 35 (Operand.tmp 31), type := 35, pos := "ref.go:87", after := #[{ on := 10, ground := Ground.data }], guard := none }) (v := ?vrp18r6o11) rfl (by kernel_rfl) (by kernel_rfl) (by kernel_rfl) (fun _ _ _ h => h) (Or.inl ⟨by rfl, ?hrp18r6o11⟩) hS ?_
  case hrp18r6o11 => (intro wx hx; obtain ⟨hx0, hx1⟩ := hx; obtain ⟨q0, q1, q2⟩ := GeoR.cells hx0; obtain ⟨z0, z1, z2, z3, z4, z5, z6, z7, z8, z9⟩ := NodeR.cells hx1; go_simp; (try with_reducible rfl))
  try simp only [Act.put, List.setIfInBounds_toArray, List.set_cons_zero, List.set_cons_succ]
  refine wpAnyH_take (i := 12) (oi := { dst := some 33, op := Op.fieldAddr 46 (Operand.tmp 7) 4, type := 0, pos := "ref.go:87", after := #[], guard := none }) (v := ?vrp18r6o12) rfl (by kernel_rfl) (by kernel_rfl) (by kernel_rfl) (fun _ _ _ h => h) (Or.inl ⟨by rfl, ?hrp18r6o12⟩) hS ?_
  case hrp18r6o12 => (intro wx hx; skip; go_simp; (try with_reducible rfl))
  try simp only [Act.put, List.setIfInBounds_toArray, List.set_cons_zero, List.set_cons_succ]
  refine wpAnyH_take (i := 13) (oi := { dst := some 34, op := Op.indexAddr 36 (Operand.tmp 33) (Operand.const (Value.int IntKind.i64 0)), type := 0, pos := "ref.go:87", after := #[{ on := 12, ground := Ground.data }], guard := none }) (v := ?vrp18r6o13) rfl (by kernel_rfl) (by kernel_rfl) (by kernel_rfl) (fun _ _ _ h => h) (Or.inl ⟨by rfl, ?hrp18r6o13⟩) hS ?_
  case hrp18r6o13 => (intro wx hx; skip; go_simp; (try with_reducible rfl))
  try simp only [Act.put, List.setIfInBounds_toArray, List.set_cons_zero, List.set_cons_succ]
  refine wpAnyH_take (i := 14) (oi := { dst := some 35, op := Op.load 35 (Operand.tmp 34), type := 35, pos := "ref.go:87", after := #[{ on := 13, ground := Ground.data }], guard := none }) (v := ?vrp18r6o14) rfl (by kernel_rfl) (by kernel_rfl) (by kernel_rfl) (fun _ _ _ h => h) (Or.inl ⟨by rfl, ?hrp18r6o14⟩) hS ?_
  case hrp18r6o14 => (intro wx hx; obtain ⟨hx0, hx1⟩ := hx; obtain ⟨q0, q1, q2⟩ := GeoR.cells hx0; obtain ⟨z0, z1, z2, z3, z4, z5, z6, z7, z8, z9⟩ := NodeR.cells hx1; go_simp; (try with_reducible rfl))
  try simp only [Act.put, List.setIfInBounds_toArray, List.set_cons_zero, List.set_cons_succ]
  refine wpAnyH_take (i := 15) (oi := { dst := some 36, op := Op.fieldAddr 46 (Operand.tmp 7) 4, type := 0, pos := "ref.go:87", after := #[], guard := none }) (v := ?vrp18r6o15) rfl (by kernel_rfl) (by kernel_rfl) (by kernel_rfl) (fun _ _ _ h => h) (Or.inl ⟨by rfl, ?hrp18r6o15⟩) hS ?_
  case hrp18r6o15 => (intro wx hx; skip; go_simp; (try with_reducible rfl))
  try simp only [Act.put, List.setIfInBounds_toArray, List.set_cons_zero, List.set_cons_succ]
  refine wpAnyH_take (i := 16) (oi := { dst := some 37, op := Op.indexAddr 36 (Operand.tmp 36) (Operand.const (Value.int IntKind.i64 1)), type := 0, pos := "ref.go:87", after := #[{ on := 15, ground := Ground.data }], guard := none }) (v := ?vrp18r6o16) rfl (by kernel_rfl) (by kernel_rfl) (by kernel_rfl) (fun _ _ _ h => h) (Or.inl ⟨by rfl, ?hrp18r6o16⟩) hS ?_
  case hrp18r6o16 => (intro wx hx; skip; go_simp; (try with_reducible rfl))
  try simp only [Act.put, List.setIfInBounds_toArray, List.set_cons_zero, List.set_cons_succ]
  refine wpAnyH_take (i := 17) (oi := { dst := some 38, op := Op.load 35 (Operand.tmp 37), type := 35, pos := "ref.go:87", after := #[{ on := 16, ground := Ground.data }], guard := none }) (v := ?vrp18r6o17) rfl (by kernel_rfl) (by kernel_rfl) (by kernel_rfl) (fun _ _ _ h => h) (Or.inl ⟨by rfl, ?hrp18r6o17⟩) hS ?_
  case hrp18r6o17 => (intro wx hx; obtain ⟨hx0, hx1⟩ := hx; obtain ⟨q0, q1, q2⟩ := GeoR.cells hx0; obtain ⟨z0, z1, z2, z3, z4, z5, z6, z7, z8, z9⟩ := NodeR.cells hx1; go_simp; (try with_reducible rfl))
  try simp only [Act.put, List.setIfInBounds_toArray, List.set_cons_zero, List.set_cons_succ]
  refine wpAnyH_take (i := 18) (oi := { dst := some 39, op := Op.fieldAddr 46 (Operand.tmp 7) 4, type := 0, pos := "ref.go:87", after := #[], guard := none }) (v := ?vrp18r6o18) rfl (by kernel_rfl) (by kernel_rfl) (by kernel_rfl) (fun _ _ _ h => h) (Or.inl ⟨by rfl, ?hrp18r6o18⟩) hS ?_
  case hrp18r6o18 => (intro wx hx; skip; go_simp; (try with_reducible rfl))
  try simp only [Act.put, List.setIfInBounds_toArray, List.set_cons_zero, List.set_cons_succ]
  refine wpAnyH_take (i := 19) (oi := { dst := some 40, op := Op.indexAddr 36 (Operand.tmp 39) (Operand.const (Value.int IntKind.i64 2)), type := 0, pos := "ref.go:87", after := #[{ on := 18, ground := Ground.data }], guard := none }) (v := ?vrp18r6o19) rfl (by kernel_rfl) (by kernel_rfl) (by kernel_rfl) (fun _ _ _ h => h) (Or.inl ⟨by rfl, ?hrp18r6o19⟩) hS ?_
  case hrp18r6o19 => (intro wx hx; skip; go_simp; (try with_reducible rfl))
  try simp only [Act.put, List.setIfInBounds_toArray, List.set_cons_zero, List.set_cons_succ]
  refine wpAnyH_take (i := 20) (oi := { dst := some 41, op := Op.load 35 (Operand.tmp 40), type := 35, pos := "ref.go:87", after := #[{ on := 19, ground := Ground.data }], guard := none }) (v := ?vrp18r6o20) rfl (by kernel_rfl) (by kernel_rfl) (by kernel_rfl) (fun _ _ _ h => h) (Or.inl ⟨by rfl, ?hrp18r6o20⟩) hS ?_
  case hrp18r6o20 => (intro wx hx; obtain ⟨hx0, hx1⟩ := hx; obtain ⟨q0, q1, q2⟩ := GeoR.cells hx0; obtain ⟨z0, z1, z2, z3, z4, z5, z6, z7, z8, z9⟩ := NodeR.cells hx1; go_simp; (try with_reducible rfl))
  try simp only [Act.put, List.setIfInBounds_toArray, List.set_cons_zero, List.set_cons_succ]
  refine wpAnyH_take (i := 21) (oi := { dst := some 42, op := Op.fieldAddr 46 (Operand.tmp 7) 4, type := 0, pos := "ref.go:87", after := #[], guard := none }) (v := ?vrp18r6o21) rfl (by kernel_rfl) (by kernel_rfl) (by kernel_rfl) (fun _ _ _ h => h) (Or.inl ⟨by rfl, ?hrp18r6o21⟩) hS ?_
  case hrp18r6o21 => (intro wx hx; skip; go_simp; (try with_reducible rfl))
  try simp only [Act.put, List.setIfInBounds_toArray, List.set_cons_zero, List.set_cons_succ]
  refine wpAnyH_take (i := 22) (oi := { dst := some 43, op := Op.indexAddr 36 (Operand.tmp 42) (Operand.const (Value.int IntKind.i64 3)), type := 0, pos := "ref.go:87", after := #[{ on := 21, ground := Ground.data }], guard := none }) (v := ?vrp18r6o22) rfl (by kernel_rfl) (by kernel_rfl) (by kernel_rfl) (fun _ _ _ h => h) (Or.inl ⟨by rfl, ?hrp18r6o22⟩) hS ?_
  case hrp18r6o22 => (intro wx hx; skip; go_simp; (try with_reducible rfl))
  try simp only [Act.put, List.setIfInBounds_toArray, List.set_cons_zero, List.set_cons_succ]
  refine wpAnyH_take (i := 23) (oi := { dst := some 44, op := Op.load 35 (Operand.tmp 43), type := 35, pos := "ref.go:87", after := #[{ on := 22, ground := Ground.data }], guard := none }) (v := ?vrp18r6o23) rfl (by kernel_rfl) (by kernel_rfl) (by kernel_rfl) (fun _ _ _ h => h) (Or.inl ⟨by rfl, ?hrp18r6o23⟩) hS ?_
  case hrp18r6o23 => (intro wx hx; obtain ⟨hx0, hx1⟩ := hx; obtain ⟨q0, q1, q2⟩ := GeoR.cells hx0; obtain ⟨z0, z1, z2, z3, z4, z5, z6, z7, z8, z9⟩ := NodeR.cells hx1; go_simp; (try with_reducible rfl))
  try simp only [Act.put, List.setIfInBounds_toArray, List.set_cons_zero, List.set_cons_succ]
  refine wpAnyH_take (i := 24) (oi := { dst := some 45, op := Op.fieldAddr 46 (Operand.tmp 7) 5, type := 0, pos := "ref.go:87", after := #[], guard := none }) (v := ?vrp18r6o24) rfl (by kernel_rfl) (by kernel_rfl) (by kernel_rfl) (fun _ _ _ h => h) (Or.inl ⟨by rfl, ?hrp18r6o24⟩) hS ?_
  case hrp18r6o24 => (intro wx hx; skip; go_simp; (try with_reducible rfl))
  try simp only [Act.put, List.setIfInBounds_toArray, List.set_cons_zero, List.set_cons_succ]
  refine wpAnyH_take (i := 25) (oi := { dst := some 46, op := Op.load 35 (Operand.tmp 45), type := 35, pos := "ref.go:87", after := #[{ on := 24, ground := Ground.data }], guard := none }) (v := ?vrp18r6o25) rfl (by kernel_rfl) (by kernel_rfl) (by kernel_rfl) (fun _ _ _ h => h) (Or.inl ⟨by rfl, ?hrp18r6o25⟩) hS ?_
  case hrp18r6o25 => (intro wx hx; obtain ⟨hx0, hx1⟩ := hx; obtain ⟨q0, q1, q2⟩ := GeoR.cells hx0; obtain ⟨z0, z1, z2, z3, z4, z5, z6, z7, z8, z9⟩ := NodeR.cells hx1; go_simp; (try with_reducible rfl))
  try simp only [Act.put, List.setIfInBounds_toArray, List.set_cons_zero, List.set_cons_succ]
  refine wpAnyH_take (i := 26) (oi := { dst := some 47, op := Op.fieldAddr 46 (Operand.tmp 7) 6, type := 0, pos := "ref.go:87", after := #[], guard := none }) (v := ?vrp18r6o26) rfl (by kernel_rfl) (by kernel_rfl) (by kernel_rfl) (fun _ _ _ h => h) (Or.inl ⟨by rfl, ?hrp18r6o26⟩) hS ?_
  case hrp18r6o26 => (intro wx hx; skip; go_simp; (try with_reducible rfl))
  try simp only [Act.put, List.setIfInBounds_toArray, List.set_cons_zero, List.set_cons_succ]
  refine wpAnyH_take (i := 27) (oi := { dst := some 48, op := Op.load 35 (Operand.tmp 47), type := 35, pos := "ref.go:87", after := #[{ on := 26, ground := Ground.data }], guard := none }) (v := ?vrp18r6o27) rfl (by kernel_rfl) (by kernel_rfl) (by kernel_rfl) (fun _ _ _ h => h) (Or.inl ⟨by rfl, ?hrp18r6o27⟩) hS ?_
  case hrp18r6o27 => (intro wx hx; obtain ⟨hx0, hx1⟩ := hx; obtain ⟨q0, q1, q2⟩ := GeoR.cells hx0; obtain ⟨z0, z1, z2, z3, z4, z5, z6, z7, z8, z9⟩ := NodeR.cells hx1; go_simp; (try with_reducible rfl))
  try simp only [Act.put, List.setIfInBounds_toArray, List.set_cons_zero, List.set_cons_succ]
  refine wpAnyH_ready (rs := [3, 28]) (by kernel_rfl) (by simp) ?_
  refine AllReadyH.cons (o := { dst := some 24, op := Op.call { callee := Callee.value (Operand.func 34), args := #[Operand.tmp 22, Operand.tmp 23], argTypes := #[28, 3] }, type := 3, pos := "ref.go:87", after := #[{ on := 1, ground := Ground.data }, { on := 2, ground := Ground.data }], guard := none }) rfl (fun K hK => ?_) ?_
  ·
    go_simp
    refine (HI.out _).mono ?_
    rintro e wA ⟨rfl, hgA⟩
    have hS1 : GeoR G a b c _ ∧ NodeR N v0 v1 v2 v3 v4 v5 v6 v7 v8 v9 _ := ⟨hS.1.keep hgA, hS.2.keep hgA⟩
    have hOn := Lib.hid (hOr.out.quiet hgA)
    clear hOr hgA
    have hOr := hOn
    clear hOn
    refine hK.out _ _ ?hsrpx118r6o3 (fun hS => ?_)
    case hsrpx118r6o3 => (exact hS1)
    clear hK K
    try simp only [Act.put, List.setIfInBounds_toArray, List.set_cons_zero, List.set_cons_succ]
    refine wpAnyH_ready (rs := [28]) (by kernel_rfl) (by simp) ?_
    refine AllReadyH.cons (o := { dst := some 49, op := Op.buildSlice 29 10 #[(0, Operand.tmp 26), (1, Operand.tmp 28), (2, Operand.tmp 30), (3, Operand.tmp 32), (4, Operand.tmp 35), (5, Operand.tmp 38), (6, Operand.tmp 41), (7, Operand.tmp 44), (8, Operand.tmp 46), (9, Operand.tmp 48)], type := 29, pos := "ref.go:87", after := #[{ on := 5, ground := Ground.data }, { on := 7, ground := Ground.data }, { on := 9, ground := Ground.data }, { on := 11, ground := Ground.data }, { on := 14, ground := Ground.data }, { on := 17, ground := Ground.data }, { on := 20, ground := Ground.data }, { on := 23, ground := Ground.data }, { on := 25, ground := Ground.data }, { on := 27, ground := Ground.data }], guard := none }) rfl (fun K hK => ?_) AllReadyH.nil
    go_simp
    have hS1 : GeoR G a b c _ ∧ NodeR N v0 v1 v2 v3 v4 v5 v6 v7 v8 v9 _ := ⟨hS.1.keep (World.grownBy_alloc _ (.cells #[.int .u64 (v0 : Int), .int .u64 (v1 : Int), .int .u64 (v2 : Int), .int .u64 (v3 : Int), .int .u64 (v4 : Int), .int .u64 (v5 : Int), .int .u64 (v6 : Int), .int .u64 (v7 : Int), .int .u64 (v8 : Int), .int .u64 (v9 : Int)] 35) none), hS.2.keep (World.grownBy_alloc _ (.cells #[.int .u64 (v0 : Int), .int .u64 (v1 : Int), .int .u64 (v2 : Int), .int .u64 (v3 : Int), .int .u64 (v4 : Int), .int .u64 (v5 : Int), .int .u64 (v6 : Int), .int .u64 (v7 : Int), .int .u64 (v8 : Int), .int .u64 (v9 : Int)] 35) none)⟩
    have hOn := Lib.hid (hOr.out.newRow (cs := #[.int .u64 (v0 : Int), .int .u64 (v1 : Int), .int .u64 (v2 : Int), .int .u64 (v3 : Int), .int .u64 (v4 : Int), .int .u64 (v5 : Int), .int .u64 (v6 : Int), .int .u64 (v7 : Int), .int .u64 (v8 : Int), .int .u64 (v9 : Int)]) (T := 35) (e := 35) (n := 10) (xs := [v0, v1, v2, v3, v4, v5, v6, v7, v8, v9]) rfl (by simp) (by decide) rfl)
    clear hOr
    have hOr := hOn
    clear hOn
    refine hK.out _ _ ?hsrpx118r6o28 (fun hS => ?_)
    case hsrpx118r6o28 => (exact hS1)
    clear hK K
    try simp only [Act.put, List.setIfInBounds_toArray, List.set_cons_zero, List.set_cons_succ]
    refine wpAnyH_ready (rs := [29]) (by kernel_rfl) (by simp) ?_
    refine AllReadyH.cons (o := { dst := some 50, op := Op.call { callee := Callee.value (Operand.func 37), args := #[Operand.tmp 21, Operand.tmp 24, Operand.tmp 49], argTypes := #[33, 3, 29] }, type := 47, pos := "ref.go:87", after := #[{ on := 0, ground := Ground.data }, { on := 3, ground := Ground.data }, { on := 28, ground := Ground.data }, { on := 3, ground := Ground.chain }], guard := none }) rfl (fun K hK => ?_) AllReadyH.nil
    go_simp
    refine (HA.out _ _ hOr.out).mono ?_
    rintro e wB ⟨rfl, hOB⟩
    refine hK.out _ _ ?hsrpx118r6o29 (fun hS => ?_)
    case hsrpx118r6o29 => (exact HB.out _ _ hOB)
    clear hK K
    try simp only [Act.put, List.setIfInBounds_toArray, List.set_cons_zero, List.set_cons_succ]
    refine wpAnyH_take (i := 30) (oi := { dst := some 8, op := Op.assign (Operand.tmp 50), type := 47, pos := "ref.go:87", after := #[{ on := 29, ground := Ground.data }, { on := 29, ground := Ground.chain }, { on := 0, ground := Ground.phase }, { on := 1, ground := Ground.phase }, { on := 2, ground := Ground.phase }, { on := 3, ground := Ground.phase }, { on := 4, ground := Ground.phase }, { on := 5, ground := Ground.phase }, { on := 6, ground := Ground.phase }, { on := 7, ground := Ground.phase }, { on := 8, ground := Ground.phase }, { on := 9, ground := Ground.phase }, { on := 10, ground := Ground.phase }, { on := 11, ground := Ground.phase }, { on := 12, ground := Ground.phase }, { on := 13, ground := Ground.phase }, { on := 14, ground := Ground.phase }, { on := 15, ground := Ground.phase }, { on := 16, ground := Ground.phase }, { on := 17, ground := Ground.phase }, { on := 18, ground := Ground.phase }, { on := 19, ground := Ground.phase }, { on := 20, ground := Ground.phase }, { on := 21, ground := Ground.phase }, { on := 22, ground := Ground.phase }, { on := 23, ground := Ground.phase }, { on := 24, ground := Ground.phase }, { on := 25, ground := Ground.phase }, { on := 26, ground := Ground.phase }, { on := 27, ground := Ground.phase }, { on := 28, ground := Ground.phase }, { on := 29, ground := Ground.phase }], guard := none }) (v := ?vrpx118r6o30) rfl (by kernel_rfl) (by kernel_rfl) (by kernel_rfl) (fun _ _ _ h => h) (Or.inl ⟨by rfl, ?hrpx118r6o30⟩) hS ?_
    case hrpx118r6o30 => (intro wx hx; skip; go_simp; (try with_reducible rfl))
    try simp only [Act.put, List.setIfInBounds_toArray, List.set_cons_zero, List.set_cons_succ]
    refine wpAnyH_done (by kernel_rfl) ?_ _
    go_wp2
    go_ret
    exact ⟨rfl, HQ.out _ _ hOB⟩
  refine AllReadyH.cons (o := { dst := some 49, op := Op.buildSlice 29 10 #[(0, Operand.tmp 26), (1, Operand.tmp 28), (2, Operand.tmp 30), (3, Operand.tmp 32), (4, Operand.tmp 35), (5, Operand.tmp 38), (6, Operand.tmp 41), (7, Operand.tmp 44), (8, Operand.tmp 46), (9, Operand.tmp 48)], type := 29, pos := "ref.go:87", after := #[{ on := 5, ground := Ground.data }, { on := 7, ground := Ground.data }, { on := 9, ground := Ground.data }, { on := 11, ground := Ground.data }, { on := 14, ground := Ground.data }, { on := 17, ground := Ground.data }, { on := 20, ground := Ground.data }, { on := 23, ground := Ground.data }, { on := 25, ground := Ground.data }, { on := 27, ground := Ground.data }], guard := none }) rfl (fun K hK => ?_) ?_
  ·
    go_simp
    have hS1 : GeoR G a b c _ ∧ NodeR N v0 v1 v2 v3 v4 v5 v6 v7 v8 v9 _ := ⟨hS.1.keep (World.grownBy_alloc _ (.cells #[.int .u64 (v0 : Int), .int .u64 (v1 : Int), .int .u64 (v2 : Int), .int .u64 (v3 : Int), .int .u64 (v4 : Int), .int .u64 (v5 : Int), .int .u64 (v6 : Int), .int .u64 (v7 : Int), .int .u64 (v8 : Int), .int .u64 (v9 : Int)] 35) none), hS.2.keep (World.grownBy_alloc _ (.cells #[.int .u64 (v0 : Int), .int .u64 (v1 : Int), .int .u64 (v2 : Int), .int .u64 (v3 : Int), .int .u64 (v4 : Int), .int .u64 (v5 : Int), .int .u64 (v6 : Int), .int .u64 (v7 : Int), .int .u64 (v8 : Int), .int .u64 (v9 : Int)] 35) none)⟩
    have hOn := Lib.hid (hOr.out.newRow (cs := #[.int .u64 (v0 : Int), .int .u64 (v1 : Int), .int .u64 (v2 : Int), .int .u64 (v3 : Int), .int .u64 (v4 : Int), .int .u64 (v5 : Int), .int .u64 (v6 : Int), .int .u64 (v7 : Int), .int .u64 (v8 : Int), .int .u64 (v9 : Int)]) (T := 35) (e := 35) (n := 10) (xs := [v0, v1, v2, v3, v4, v5, v6, v7, v8, v9]) rfl (by simp) (by decide) rfl)
    clear hOr
    have hOr := hOn
    clear hOn
    refine hK.out _ _ ?hsrpx218r6o28 (fun hS => ?_)
    case hsrpx218r6o28 => (exact hS1)
    clear hK K
    try simp only [Act.put, List.setIfInBounds_toArray, List.set_cons_zero, List.set_cons_succ]
    refine wpAnyH_ready (rs := [3]) (by kernel_rfl) (by simp) ?_
    refine AllReadyH.cons (o := { dst := some 24, op := Op.call { callee := Callee.value (Operand.func 34), args := #[Operand.tmp 22, Operand.tmp 23], argTypes := #[28, 3] }, type := 3, pos := "ref.go:87", after := #[{ on := 1, ground := Ground.data }, { on := 2, ground := Ground.data }], guard := none }) rfl (fun K hK => ?_) AllReadyH.nil
    go_simp
    refine (HI.out _).mono ?_
    rintro e wA ⟨rfl, hgA⟩
    have hS1 : GeoR G a b c _ ∧ NodeR N v0 v1 v2 v3 v4 v5 v6 v7 v8 v9 _ := ⟨hS.1.keep hgA, hS.2.keep hgA⟩
    have hOn := Lib.hid (hOr.out.quiet hgA)
    clear hOr hgA
    have hOr := hOn
    clear hOn
    refine hK.out _ _ ?hsrpx218r6o3 (fun hS => ?_)
    case hsrpx218r6o3 => (exact hS1)
    clear hK K
    try simp only [Act.put, List.setIfInBounds_toArray, List.set_cons_zero, List.set_cons_succ]
    refine wpAnyH_ready (rs := [29]) (by kernel_rfl) (by simp) ?_
    refine AllReadyH.cons (o := { dst := some 50, op := Op.call { callee := Callee.value (Operand.func 37), args := #[Operand.tmp 21, Operand.tmp 24, Operand.tmp 49], argTypes := #[33, 3, 29] }, type := 47, pos := "ref.go:87", after := #[{ on := 0, ground := Ground.data }, { on := 3, ground := Ground.data }, { on := 28, ground := Ground.data }, { on := 3, ground := Ground.chain }], guard := none }) rfl (fun K hK => ?_) AllReadyH.nil
    go_simp
    refine (HA.out _ _ hOr.out).mono ?_
    rintro e wB ⟨rfl, hOB⟩
    refine hK.out _ _ ?hsrpx218r6o29 (fun hS => ?_)
    case hsrpx218r6o29 => (exact HB.out _ _ hOB)
    clear hK K
    try simp only [Act.put, List.setIfInBounds_toArray, List.set_cons_zero, List.set_cons_succ]
    refine wpAnyH_take (i := 30) (oi := { dst := some 8, op := Op.assign (Operand.tmp 50), type := 47, pos := "ref.go:87", after := #[{ on := 29, ground := Ground.data }, { on := 29, ground := Ground.chain }, { on := 0, ground := Ground.phase }, { on := 1, ground := Ground.phase }, { on := 2, ground := Ground.phase }, { on := 3, ground := Ground.phase }, { on := 4, ground := Ground.phase }, { on := 5, ground := Ground.phase }, { on := 6, ground := Ground.phase }, { on := 7, ground := Ground.phase }, { on := 8, ground := Ground.phase }, { on := 9, ground := Ground.phase }, { on := 10, ground := Ground.phase }, { on := 11, ground := Ground.phase }, { on := 12, ground := Ground.phase }, { on := 13, ground := Ground.phase }, { on := 14, ground := Ground.phase }, { on := 15, ground := Ground.phase }, { on := 16, ground := Ground.phase }, { on := 17, ground := Ground.phase }, { on := 18, ground := Ground.phase }, { on := 19, ground := Ground.phase }, { on := 20, ground := Ground.phase }, { on := 21, ground := Ground.phase }, { on := 22, ground := Ground.phase }, { on := 23, ground := Ground.phase }, { on := 24, ground := Ground.phase }, { on := 25, ground := Ground.phase }, { on := 26, ground := Ground.phase }, { on := 27, ground := Ground.phase }, { on := 28, ground := Ground.phase }, { on := 29, ground := Ground.phase }], guard := none }) (v := ?vrpx218r6o30) rfl (by kernel_rfl) (by kernel_rfl) (by kernel_rfl) (fun _ _ _ h => h) (Or.inl ⟨by rfl, ?hrpx218r6o30⟩) hS ?_
    case hrpx218r6o30 => (intro wx hx; skip; go_simp; (try with_reducible rfl))
    try simp only [Act.put, List.setIfInBounds_toArray, List.set_cons_zero, List.set_cons_succ]
    refine wpAnyH_done (by kernel_rfl) ?_ _
    go_wp2
    go_ret
    exact ⟨rfl, HQ.out _ _ hOB⟩
  exact AllReadyH.nil
end Go.Proofs.Ytmoddhfemejekaa
end
section
/- Get, Put, Wipe: the program's answers and the document's. -/
namespace Go.Proofs.Ytmoddhfemejekaa
open Go.RowKit Go.Grommet

theorem set_id {Ps : List Pr} {k : Nat} {P : Pr} (hk : Ps[k]? = some P) : Ps.set k P = Ps := by
  apply List.ext_getElem?
  intro i
  by_cases hi : i = k
  · subst hi; rw [List.getElem?_set_self (List.getElem?_eq_some_iff.1 hk).1, hk]
  · rw [List.getElem?_set_ne (fun e => hi e.symm)]

theorem get_both (a b c n : Int) (xs : List Nat) (L : List (Nat × Nat)) (hxl : xs.length ≤ 1000000) : ∃ (r0 r1 r2 r3 r4 r5 r6 r7 r8 r9 : Nat) (en : Int), (∀ (k g : Nat) (w0 w : World) (Ps : List Pr), Own w0 w Ps → Ps[k]? = some (viewP g xs L) → Calls Try.prog 15 #[.pointer (some ⟨g, 0, none⟩), gv a b c, .int .i64 n] w fun e w' => e = .returned (.tuple #[.agg #[.int .u64 (r0 : Int), .int .u64 (r1 : Int), .int .u64 (r2 : Int), .int .u64 (r3 : Int), .int .u64 (r4 : Int), .int .u64 (r5 : Int), .int .u64 (r6 : Int), .int .u64 (r7 : Int), .int .u64 (r8 : Int), .int .u64 (r9 : Int)], .int .i64 en]) ∧ Own w0 w' Ps) ∧ (∀ (k g : Nat) (w0 w : World) (Ps : List Pr), Own w0 w Ps → Ps[k]? = some (refQ g xs L) → Calls Try.prog 16 #[.pointer (some ⟨g, 0, none⟩), gv a b c, .int .i64 n] w fun e w' => e = .returned (.tuple #[.agg #[.int .u64 (r0 : Int), .int .u64 (r1 : Int), .int .u64 (r2 : Int), .int .u64 (r3 : Int), .int .u64 (r4 : Int), .int .u64 (r5 : Int), .int .u64 (r6 : Int), .int .u64 (r7 : Int), .int .u64 (r8 : Int), .int .u64 (r9 : Int)], .int .i64 en]) ∧ Own w0 w' Ps) := by
  by_cases h0 : hasE a b c n true xs.length = 0
  · obtain ⟨hn, hi, _, hw, _, _, _, hl⟩ := hasE_yes h0
    obtain ⟨at_, hat⟩ : ∃ at_, inodeV a b c n = at_ := ⟨_, rfl⟩
    rw [hat] at hi hl
    obtain ⟨v0, e0⟩ : ∃ v, gotI xs L (at_ + ((0 : Nat) : Int)) = v := ⟨_, rfl⟩
    obtain ⟨v1, e1⟩ : ∃ v, gotI xs L (at_ + ((1 : Nat) : Int)) = v := ⟨_, rfl⟩
    obtain ⟨v2, e2⟩ : ∃ v, gotI xs L (at_ + ((2 : Nat) : Int)) = v := ⟨_, rfl⟩
    obtain ⟨v3, e3⟩ : ∃ v, gotI xs L (at_ + ((3 : Nat) : Int)) = v := ⟨_, rfl⟩
    obtain ⟨v4, e4⟩ : ∃ v, gotI xs L (at_ + ((4 : Nat) : Int)) = v := ⟨_, rfl⟩
    obtain ⟨v5, e5⟩ : ∃ v, gotI xs L (at_ + ((5 : Nat) : Int)) = v := ⟨_, rfl⟩
    obtain ⟨v6, e6⟩ : ∃ v, gotI xs L (at_ + ((6 : Nat) : Int)) = v := ⟨_, rfl⟩
    obtain ⟨v7, e7⟩ : ∃ v, gotI xs L (at_ + ((7 : Nat) : Int)) = v := ⟨_, rfl⟩
    obtain ⟨v8, e8⟩ : ∃ v, gotI xs L (at_ + ((8 : Nat) : Int)) = v := ⟨_, rfl⟩
    obtain ⟨v9, e9⟩ : ∃ v, gotI xs L (at_ + ((9 : Nat) : Int)) = v := ⟨_, rfl⟩
    have hf : ∀ i, i < 10 → gotI xs L (at_ + ((i : Nat) : Int)) = [v0, v1, v2, v3, v4, v5, v6, v7, v8, v9].getD i 0 := by
      intro i hi
      match i, hi with
      | 0, _ => exact e0
      | 1, _ => exact e1
      | 2, _ => exact e2
      | 3, _ => exact e3
      | 4, _ => exact e4
      | 5, _ => exact e5
      | 6, _ => exact e6
      | 7, _ => exact e7
      | 8, _ => exact e8
      | 9, _ => exact e9
    cases hr : rightB a b c v0 v1 v2 v3 v4 v5 v6 v7 v8 v9 with
    | true => exact ⟨v0, v1, v2, v3, v4, v5, v6, v7, v8, v9, 0, fun k g w0 w Ps h hk => GetYes k g xs L a b c n at_ v0 v1 v2 v3 v4 v5 v6 v7 v8 v9 w0 w Ps h hk hn hat ⟨hi, hl⟩ hxl hw hf hr, fun k g w0 w Ps h hk => RGetYes k g xs L a b c n at_ v0 v1 v2 v3 v4 v5 v6 v7 v8 v9 w0 w Ps h hk h0 hat ⟨hi, by omega⟩ hf hr⟩
    | false => exact ⟨0, 0, 0, 0, 0, 0, 0, 0, 0, 0, 4, fun k g w0 w Ps h hk => GetNo k g xs L a b c n at_ v0 v1 v2 v3 v4 v5 v6 v7 v8 v9 w0 w Ps h hk hn hat ⟨hi, hl⟩ hxl hw hf hr, fun k g w0 w Ps h hk => RGetNo k g xs L a b c n at_ v0 v1 v2 v3 v4 v5 v6 v7 v8 v9 w0 w Ps h hk h0 hat ⟨hi, by omega⟩ hf hr⟩
  · exact ⟨0, 0, 0, 0, 0, 0, 0, 0, 0, 0, _, fun k g w0 w Ps h hk => GetE k g xs L a b c n _ w0 w Ps h hk rfl h0, fun k g w0 w Ps h hk => RGetE k g xs L a b c n _ w0 w Ps h hk rfl h0⟩

theorem put_both (a b c n : Int) (v0 v1 v2 v3 v4 v5 v6 v7 v8 v9 : Nat) (hv : ∀ x ∈ [v0, v1, v2, v3, v4, v5, v6, v7, v8, v9], x < 18446744073709551616) (xs : List Nat) (L : List (Nat × Nat)) (hxl : xs.length ≤ 1000000) : ∃ (L2 : List (Nat × Nat)) (en : Int), (∀ (k g : Nat) (w0 w : World) (Ps : List Pr), Own w0 w Ps → Ps[k]? = some (viewP g xs L) → Calls Try.prog 17 #[.pointer (some ⟨g, 0, none⟩), gv a b c, .int .i64 n, .agg #[.int .u64 (v0 : Int), .int .u64 (v1 : Int), .int .u64 (v2 : Int), .int .u64 (v3 : Int), .int .u64 (v4 : Int), .int .u64 (v5 : Int), .int .u64 (v6 : Int), .int .u64 (v7 : Int), .int .u64 (v8 : Int), .int .u64 (v9 : Int)]] w fun e w' => e = .returned (.int .i64 en) ∧ Own w0 w' (Ps.set k (viewP g xs L2))) ∧ (∀ (k g : Nat) (w0 w : World) (Ps : List Pr), Own w0 w Ps → Ps[k]? = some (refQ g xs L) → Calls Try.prog 18 #[.pointer (some ⟨g, 0, none⟩), gv a b c, .int .i64 n, .agg #[.int .u64 (v0 : Int), .int .u64 (v1 : Int), .int .u64 (v2 : Int), .int .u64 (v3 : Int), .int .u64 (v4 : Int), .int .u64 (v5 : Int), .int .u64 (v6 : Int), .int .u64 (v7 : Int), .int .u64 (v8 : Int), .int .u64 (v9 : Int)]] w fun e w' => e = .returned (.int .i64 en) ∧ Own w0 w' (Ps.set k (refQ g xs L2))) := by
  cases hr : rightB a b c v0 v1 v2 v3 v4 v5 v6 v7 v8 v9 with
  | false => exact ⟨L, 1, fun k g w0 w Ps h hk => by rw [set_id hk]; exact PutW12 k g xs L a b c n v0 v1 v2 v3 v4 v5 v6 v7 v8 v9 w0 w Ps h hk hr, fun k g w0 w Ps h hk => by rw [set_id hk]; exact RPutW12 k g xs L a b c n v0 v1 v2 v3 v4 v5 v6 v7 v8 v9 w0 w Ps h hk hr⟩
  | true =>
    by_cases h0 : hasE a b c n true xs.length = 0
    · obtain ⟨hn, hi, _, hw, _, _, _, hl⟩ := hasE_yes h0
      exact ⟨_, _, fun k g w0 w Ps h hk => PutH12 k g xs L a b c n _ v0 v1 v2 v3 v4 v5 v6 v7 v8 v9 _ w0 w Ps _ h hk hn rfl ⟨hi, hl⟩ hxl hw hr hv rfl rfl, fun k g w0 w Ps h hk => RPutYes12 k g xs L a b c n v0 v1 v2 v3 v4 v5 v6 v7 v8 v9 _ _ w0 w Ps _ h hk hr h0 rfl ⟨hi, by omega⟩ hv rfl rfl⟩
    · exact ⟨L, _, fun k g w0 w Ps h hk => by rw [set_id hk]; exact PutE k g xs L a b c n v0 v1 v2 v3 v4 v5 v6 v7 v8 v9 _ w0 w Ps h hk hr rfl h0, fun k g w0 w Ps h hk => by rw [set_id hk]; exact RPutE12 k g xs L a b c n v0 v1 v2 v3 v4 v5 v6 v7 v8 v9 _ w0 w Ps h hk hr rfl h0⟩
theorem wipe_both (a b c n : Int) (xs : List Nat) (L : List (Nat × Nat)) (hxl : xs.length ≤ 1000000) : ∃ (L2 : List (Nat × Nat)) (en : Int), (∀ (k g : Nat) (w0 w : World) (Ps : List Pr), Own w0 w Ps → Ps[k]? = some (viewP g xs L) → Calls Try.prog 19 #[.pointer (some ⟨g, 0, none⟩), gv a b c, .int .i64 n] w fun e w' => e = .returned (.int .i64 en) ∧ Own w0 w' (Ps.set k (viewP g xs L2))) ∧ (∀ (k g : Nat) (w0 w : World) (Ps : List Pr), Own w0 w Ps → Ps[k]? = some (refQ g xs L) → Calls Try.prog 20 #[.pointer (some ⟨g, 0, none⟩), gv a b c, .int .i64 n] w fun e w' => e = .returned (.int .i64 en) ∧ Own w0 w' (Ps.set k (refQ g xs L2))) := by
  by_cases h0 : hasE a b c n true xs.length = 0
  · obtain ⟨hn, hi, _, hw, _, _, _, hl⟩ := hasE_yes h0
    exact ⟨_, _, fun k g w0 w Ps h hk => WipeH12 k g xs L a b c n _ _ w0 w Ps _ h hk hn rfl ⟨hi, hl⟩ hxl hw rfl rfl, fun k g w0 w Ps h hk => RWipeYes k g xs L a b c n _ _ w0 w Ps _ h hk h0 rfl ⟨hi, by omega⟩ rfl rfl⟩
  · exact ⟨L, _, fun k g w0 w Ps h hk => by rw [set_id hk]; exact WipeE k g xs L a b c n _ w0 w Ps h hk rfl h0, fun k g w0 w Ps h hk => by rw [set_id hk]; exact RWipeE k g xs L a b c n _ w0 w Ps h hk rfl h0⟩
end Go.Proofs.Ytmoddhfemejekaa
end
section
/- The law's image, any geometry, any cut; the view's Writes; the document's New. -/
namespace Go.Proofs.Ytmoddhfemejekaa
open Go.RowKit Go.Grommet

theorem WritesG (k g : Nat) (xs : List Nat) (L : List (Nat × Nat)) (w0 w : World) (Ps : List Pr) (h : Grommet.Own w0 w Ps) (hk : Ps[k]? = some (viewP g xs L)) :
    Calls Try.prog 22 #[.pointer (some ⟨g, 0, none⟩)] w fun e w' => ∃ ad cap, e = .returned (.slice ad L.length cap) ∧ Grommet.Own w0 w' (Ps ++ [rowP 82 2 (.slice ad L.length cap) L.length (wcells L)]) ∧ w.grownBy w' none := by
  obtain ⟨F, h1⟩ := h.get k hk
  refine (Writes_any g F xs L w h1 w.heap.size (Nat.le_refl _)).mono ?_
  rintro e w' ⟨ad, cap, he, hr, hg⟩
  exact ⟨ad, cap, he, h.addRow hr hg, hg⟩
theorem RefNewQ (ad : Option Addr) (l c : Nat) (xs : List Nat) (w0 w : World) (Ps : List Pr) (h : Grommet.Own w0 w Ps) (hx : Words w ad l xs) (hl : l ≤ 549755813888) (hnil : ad = none → l = 0 ∧ c = 0) :
    Calls Try.prog 11 #[.slice ad l c] w fun e w' => ∃ g, e = .returned (.pointer (some ⟨g, 0, none⟩)) ∧ Grommet.Own w0 w' (Ps ++ [refQ g xs []]) := by
  refine (RefNew_any ad l c xs w hx hl hnil).mono ?_
  rintro e w' ⟨g, F, he, hv, hF, hg⟩
  exact ⟨g, he, h.add (P := refQ g xs []) ⟨_, hv⟩ hF hg⟩
theorem refQ_nil {w0 w : World} {Ps : List Pr} (h : Grommet.Own w0 w Ps) (k : Nat) {r : Nat} {xs : List Nat} {L : List (Nat × Nat)} (hk : Ps[k]? = some (refQ r xs L)) :
    Grommet.Own w0 (w.setCell ⟨r, 1, none⟩ (.slice none 0 0)) (Ps.set k (refQ r xs [])) := by
  obtain ⟨F, ⟨b, vi, vl, h1⟩, h2⟩ := h.take k hk
  have hob : w.heap[r]? = some (.cells [vi, vl, .bool b].toArray 43 (0, 0)) := h1.obj
  have t0 : Turn (fun i => i = r) w (w.setCell ⟨r, 1, none⟩ (.slice none 0 0)) := Turn.of (grown_setCell _ _ _) (fun i e => by cases e; rfl)
  refine h2 _ (refQ r xs []) ⟨F, ⟨b, vi, .slice none 0 0, ⟨row_set hob 1 _, t0.row h1.words (fun i hi e => h1.apart.1 i hi e), World.ownsRow_nil _ _ _ _, h1.small, h1.fits, Wl.nil _, fun i hi => Nat.lt_of_lt_of_le (h1.old i hi) t0.size, h1.fg, h1.fw, fun i hi => by cases hi⟩⟩, fun i hi => .inl hi, t0.mono (fun i e => by subst e; exact .inl h1.fg)⟩
/-- What is written, as it stands in memory. -/
theorem refQ_obj {w0 w : World} {Ps : List Pr} (h : Grommet.Own w0 w Ps) (k : Nat) {r : Nat} {xs : List Nat} {L : List (Nat × Nat)} (hk : Ps[k]? = some (refQ r xs L)) :
    ∃ ad cap, w.cell? ⟨r, 1, none⟩ = some (.slice ad L.length cap) ∧ w.frozen? ⟨r, 1, none⟩ = false ∧ At w ad (wcells L) := by
  obtain ⟨F, b, vi, vl, h1⟩ := h.get k hk
  obtain ⟨ad, cap, rfl, hat, _⟩ := row_slice h1.writes
  have hob : w.heap[r]? = some (.cells [vi, .slice ad L.length cap, .bool b].toArray 43 (0, 0)) := h1.obj
  exact ⟨ad, cap, by simp [World.cell?, hob], by simp [World.frozen?, hob], hat⟩

theorem words_take {w : World} {ad : Option Addr} {l n : Nat} {xs : List Nat} (h : Words w ad l xs) (hn : n ≤ l) : Words w ad n (xs.take n) := by
  refine ⟨by rw [List.length_take, h.len]; omega, fun x hx => h.small x (List.mem_of_mem_take hx), ?_, Nat.le_trans hn h.fits⟩
  intro j u hu
  refine h.at_ j u ?_
  rw [List.map_take, List.getElem?_take] at hu
  split at hu
  · exact hu
  · cases hu

set_option maxRecDepth 100000 in
set_option maxHeartbeats 4000000 in
theorem ImageNo (a b c : Int) (C : Nat) (hC : C < 65536) (hm : mayB a b c = false) (td : Option Addr) (tl tc : Nat) (w0 w : World) (Ps : List Pr) (h : Own w0 w Ps) :
    Calls Try.prog 9 #[gv a b c, .slice td tl tc, .int .u16 (C : Int)] w fun e w' => e = .returned (.slice none 0 0) ∧ Own w0 w' Ps := by
  have HF := Lib.hid (fun wx => RFormat_none a b c wx hm)
  have Hh := Lib.hid h
  have wC : IntKind.i64.wrap (C : Int) = (C : Int) := IntWalk.i64_in _ ⟨by omega, by omega⟩
  have hC0 : (0 : Int) ≤ (C : Int) := by omega
  clear h hm
  unfold gv at *
  go_enter Try.func9, Try.ntmps9
  go_wp2_with fail
  refine (HF.out _).mono ?_
  rintro e w1 ⟨rfl, hg⟩
  have hg1 := Lib.hid (grown_trans (World.grownBy_alloc w _ none) hg)
  clear hg
  have hsl := fun wx => slice_to (P := Try.prog) 29 35 Try.underlying29 1 Try.sizeOf35 none 0 0 0 (by omega) (fun a h => by cases h) wx
  go_wp2_with fail
  go_loopw [8] (fun i wr => i = .int .i64 0 ∧ wr = w1) (fun i _ => 0)
  case atStart => exact ⟨rfl, rfl⟩
  case round =>
    obtain ⟨rfl, rfl⟩ := hrel
    by_cases hc : (C : Int) ≤ 0
    · have hc2 : (C : Int) = 0 := by omega
      by_cases ht : (0 : Int) < (tl : Int)
      · go_wp2
        go_ret
        exact ⟨rfl, Hh.out.quiet hg1.out⟩
      · go_wp2
        go_ret
        exact ⟨rfl, Hh.out.quiet hg1.out⟩
    · by_cases ht : (0 : Int) < (tl : Int)
      · go_wp2
        go_ret
        exact ⟨rfl, Hh.out.quiet hg1.out⟩
      · go_wp2
        go_ret
        exact ⟨rfl, Hh.out.quiet hg1.out⟩

set_option maxRecDepth 100000 in
set_option maxHeartbeats 8000000 in
theorem ImageYes (a b c C : Nat) (hC : C < 65536) (hm : mayB (a : Int) (b : Int) (c : Int) = true) (td : Option Addr) (tl tc : Nat) (T : List Tur) (w0 w : World) (Ps : List Pr) (h : Own w0 w Ps) (hT : TursIn w0 td tl T) (htl : tl ≤ 1000000) :
    Calls Try.prog 9 #[gv (a : Int) (b : Int) (c : Int), .slice td tl tc, .int .u16 (C : Int)] w fun e w' => ∃ (XS : List Nat) (n : Nat) (ad : Option Addr) (cp : Nat), e = .returned (.slice ad n cp) ∧ Words w' ad n XS ∧ (ad = none → n = 0 ∧ cp = 0) ∧ n ≤ 100000 ∧ Own w0 w' Ps := by
  obtain ⟨XR, Z, hXl, hZe, hZ, hXs, hF⟩ := format_row a b c hm
  have hZ1 : 1 ≤ Z := by omega
  have HF := Lib.hid hF
  have HXl := Lib.hid hXl
  have HXs := Lib.hid hXs
  have Hh := Lib.hid h
  have HT := Lib.hid hT
  have HC := Lib.hid hC
  obtain ⟨P, HP⟩ : ∃ P, Hid (P = Ps.length) := ⟨_, Lib.hid rfl⟩
  clear hF hXl hXs h hm hZe
  unfold gv at HF ⊢
  go_enter Try.func9, Try.ntmps9
  go_wp2_with fail
  refine (HF.out _).mono ?_
  rintro e w1 ⟨ad, cp, rfl, hrow, hg1⟩
  have hO : Own w0 w1 (Ps ++ [boxP w.heap.size 23 #[.int .i64 (a : Int), .int .i64 (b : Int), .int .i64 (c : Int)], rowP 35 1 (.slice ad Z cp) Z (XR.map wv)]) := by
    have h := (Hh.out.addBox 23 #[.int .i64 (a : Int), .int .i64 (b : Int), .int .i64 (c : Int)]).addRow hrow hg1
    rw [List.append_assoc] at h
    exact h
  generalize boxP w.heap.size 23 #[.int .i64 (a : Int), .int .i64 (b : Int), .int .i64 (c : Int)] = BX at hO
  obtain ⟨q, rfl, _, _, _⟩ := Own.cell hO (Ps.length + 1) (by rw [List.getElem?_append_right (by omega), show Ps.length + 1 - Ps.length = 1 from by omega]; rfl) 0 (wv (XR.getD 0 0)) (by rw [List.getElem?_map, List.getElem?_eq_getElem (by rw [HXl.out]; omega), List.getD_eq_getElem?_getD, List.getElem?_eq_getElem (by rw [HXl.out]; omega)]; rfl)
  replace hO := Lib.hid hO
  clear hrow hg1
  have z0 : (0 : Int) < (Z : Int) := by omega
  have zb : ((Z : Int) == 0) = false := by rw [beq_eq_false_iff_ne]; omega
  have zc : ¬ (Z : Int) = 0 := by omega
  have zn : ¬ Z = 0 := by omega
  go_wp2_with fail
  go_loopw [8] (fun i wr => ∃ k : Nat, k ≤ tl ∧ i = .int .i64 (k : Int) ∧ ∃ YS : List Nat, Hid (YS.length = Z ∧ ∀ n ∈ YS, n < 18446744073709551616) ∧ Hid (Own w0 wr (Ps ++ [BX, rowP 35 1 (.slice (some ⟨q, 0, none⟩) Z cp) Z (YS.map wv)]))) (fun i _ => tl - (intOf i).toNat)
  case atStart => exact ⟨0, Nat.zero_le _, rfl, XR, Lib.hid ⟨HXl.out, HXs.out⟩, hO⟩
  case round =>
    clear hO
    obtain ⟨k, hk, rfl, YS, HY, hO⟩ := hrel
    have k0 : (0 : Int) ≤ (k : Int) := by omega
    by_cases hlt : k < tl
    · have hlt' : (k : Int) < (tl : Int) := by omega
      obtain ⟨x, hx⟩ : ∃ x, T[k]? = some x := ⟨T[k]'(by rw [HT.out.1]; exact hlt), List.getElem?_eq_getElem _⟩
      obtain ⟨g, o, rfl, c0, c1⟩ := (HT.out.grown hO.out.grown).2.2 k x hx
      obtain ⟨ok1, ok2⟩ := HT.out.2.1 x (List.mem_of_getElem? hx)
      have b1 := bounds_u16 ok1
      have b2 := bounds_u64 ok2
      obtain ⟨at_, ww⟩ := x
      dsimp only at c0 c1 b1 b2
      obtain ⟨A, rfl⟩ := Int.eq_ofNat_of_zero_le b1.1
      obtain ⟨V, rfl⟩ := Int.eq_ofNat_of_zero_le b2.1
      obtain ⟨C, HC⟩ : ∃ C, Hid (C = A % Z) := ⟨_, Lib.hid rfl⟩
      have hC : C < Z := by rw [HC.out]; exact Nat.mod_lt _ (by omega)
      have eC : (A : Int).tmod (Z : Int) = (C : Int) := by rw [HC.out, Int.tmod_eq_emod_of_nonneg (by omega)]; omega
      have eC' : (A : Int) % (Z : Int) = (C : Int) := by rw [HC.out]; omega
      have eCZ : (C : Int) < (Z : Int) := by omega
      have eC0 : (0 : Int) ≤ (C : Int) := by omega
      have wa : IntKind.i64.wrap (A : Int) = (A : Int) := IntWalk.i64_in _ ⟨by omega, by omega⟩
      have hki := show (Ps ++ [BX, rowP 35 1 (.slice (some ⟨q, 0, none⟩) Z cp) Z (YS.map wv)])[P + 1]? = some (rowP 35 1 (.slice (some ⟨q, 0, none⟩) Z cp) Z (YS.map wv)) by rw [HP.out, List.getElem?_append_right (by omega), show Ps.length + 1 - Ps.length = 1 from by omega]; rfl
      obtain ⟨U, HU⟩ : ∃ U, Hid (U = YS.getD C 0) := ⟨_, Lib.hid rfl⟩
      obtain ⟨q', he, cK, fK, _⟩ := Own.cell hO.out (P + 1) hki C (wv U) (by rw [List.getElem?_map, List.getElem?_eq_getElem (by rw [HY.out.1]; omega), HU.out, List.getD_eq_getElem?_getD, List.getElem?_eq_getElem (by rw [HY.out.1]; omega)]; rfl)
      cases he
      unfold wv at cK
      have hO2 := (hO.out.quiet (grown_drew (World.grownBy.refl _ none))).store (P + 1) hki C (wv V)
      rw [← List.map_set, HP.out, List.set_append_right _ _ (by omega), show Ps.length + 1 - Ps.length = 1 from by omega] at hO2
      have HO2 : Hid (Own w0 (wr.drew.setCell ⟨q, C, none⟩ (.int .u64 (V : Int))) (Ps ++ [BX, rowP 35 1 (.slice (some ⟨q, 0, none⟩) Z cp) Z ((YS.set C V).map wv)])) := Lib.hid hO2
      have HR : Hid ((YS.set C V).length = Z ∧ ∀ n ∈ YS.set C V, n < 18446744073709551616) := Lib.hid ⟨by rw [List.length_set]; exact HY.out.1, fun n hn => by
        rcases List.mem_or_eq_of_mem_set hn with h | h
        · exact HY.out.2 n h
        · rw [h]; omega⟩
      clear hO2 hO hki hx ok1 ok2 b1 b2
      go_wp2_with fail
      go_still_tail 16, (by kernel_rfl)
      change wpList _ _ _ _ _ wr.drew
      go_wp2
      go_roundw
      case rel => exact ⟨k + 1, by omega, by go_num, YS.set C V, HR, HO2⟩
      case measure => simp [intOf]; omega
    · have hlt' : ¬ (k : Int) < (tl : Int) := by omega
      have hki : (Ps ++ [BX, rowP 35 1 (.slice (some ⟨q, 0, none⟩) Z cp) Z (YS.map wv)])[P + 1]? = some (rowP 35 1 (.slice (some ⟨q, 0, none⟩) Z cp) Z (YS.map wv)) := by rw [HP.out, List.getElem?_append_right (by omega), show Ps.length + 1 - Ps.length = 1 from by omega]; rfl
      have hhd : ∀ a, (some ⟨q, 0, none⟩ : Option Addr) = some a → a = ⟨a.block, 0, none⟩ := fun a ha => by cases ha; rfl
      obtain ⟨hwd, _, hcap⟩ := Own.words hO.out (P + 1) hki HY.out.2 (by omega)
      obtain ⟨D, hD⟩ : ∃ D, Z - min C Z = D := ⟨_, rfl⟩
      have hsl := fun wx => slice_to (P := Try.prog) 29 35 Try.underlying29 1 Try.sizeOf35 (some ⟨q, 0, none⟩) Z cp D (by omega) hhd wx
      have hW2 := Lib.hid (words_take hwd (show D ≤ Z by omega))
      have HOw : Hid (Own w0 wr Ps) := Lib.hid hO.out.less
      have hDz : D ≤ 100000 := by omega
      have hDl : D ≤ Z := by omega
      have wC : IntKind.i64.wrap (C : Int) = (C : Int) := by have := HC.out; exact IntWalk.i64_in _ ⟨by omega, by omega⟩
      clear hki hhd hO hwd hcap
      by_cases hcz : C < Z
      · have z1 : ¬ (Z : Int) ≤ (C : Int) := by omega
        have z2 : (C : Int) ≤ (Z : Int) := by omega
        have zs : (Z : Int) - (C : Int) = (D : Int) := by omega
        have wD : IntKind.i64.wrap (D : Int) = (D : Int) := IntWalk.i64_in _ ⟨by omega, by omega⟩
        clear hcz hD hDl hlt
        go_wp2
        go_ret
        exact ⟨_, D, _, _, rfl, hW2.out, (fun h => by cases h), hDz, HOw.out⟩
      · have hD0 : D = 0 := by omega
        subst hD0
        have z2 : (Z : Int) ≤ (C : Int) := by omega
        have zs : (Z : Int) - (Z : Int) = 0 := by omega
        by_cases hce : C = Z
        · have hce' : (C : Int) = (Z : Int) := by omega
          rw [hce']
          rw [hce'] at wC
          have z3 : (Z : Int) ≤ (Z : Int) := by omega
          clear hcz hD hDl hlt hce hce' z2
          go_wp2
          go_ret
          exact ⟨_, 0, _, _, rfl, hW2.out, (fun h => by cases h), hDz, HOw.out⟩
        · have z1 : ¬ (C : Int) ≤ (Z : Int) := by omega
          clear hcz hD hDl hlt hce
          go_wp2
          go_ret
          exact ⟨_, 0, _, _, rfl, hW2.out, (fun h => by cases h), hDz, HOw.out⟩

theorem ImageQ (a b c : Int) (C : Nat) (hC : C < 65536) (td : Option Addr) (tl tc : Nat) (T : List Tur) (w0 w : World) (Ps : List Pr) (h : Own w0 w Ps) (hT : TursIn w0 td tl T) (htl : tl ≤ 1000000) :
    Calls Try.prog 9 #[gv a b c, .slice td tl tc, .int .u16 (C : Int)] w fun e w' => ∃ (XS : List Nat) (n : Nat) (ad : Option Addr) (cp : Nat), e = .returned (.slice ad n cp) ∧ Words w' ad n XS ∧ (ad = none → n = 0 ∧ cp = 0) ∧ n ≤ 100000 ∧ Own w0 w' Ps := by
  cases hm : mayB a b c with
  | false =>
    refine (ImageNo a b c C hC hm td tl tc w0 w Ps h).mono ?_
    rintro e w' ⟨rfl, hO⟩
    exact ⟨[], 0, none, 0, rfl, Words.nil _, fun _ => ⟨rfl, rfl⟩, by omega, hO⟩
  | true =>
    have hq := mayB_yes hm
    obtain ⟨A, rfl⟩ := Int.eq_ofNat_of_zero_le (show 0 ≤ a by omega)
    obtain ⟨B, rfl⟩ := Int.eq_ofNat_of_zero_le (show 0 ≤ b by omega)
    obtain ⟨D, rfl⟩ := Int.eq_ofNat_of_zero_le (show 0 ≤ c by omega)
    exact ImageYes A B D C hC hm td tl tc T w0 w Ps h hT htl
end Go.Proofs.Ytmoddhfemejekaa
end
section
/- '[]grommetlaw12.Step', opened to its cells. -/
namespace Go.Proofs.Ytmoddhfemejekaa
open Go.RowKit Go.Grommet Go.Deep

structure Stp where
  do_ : Int
  n : Int
  kind : Int
  links : Int
  opens : Int
  size : Int
  d0 : Int
  d1 : Int
  d2 : Int
  d3 : Int
  chain : Int
  parent : Int
  drop_ : Bool

def Stp.Ok (x : Stp) : Prop := (Lit.int .u8 x.do_).wf = true ∧ (Lit.int .i64 x.n).wf = true ∧ (Lit.int .u64 x.kind).wf = true ∧ (Lit.int .u64 x.links).wf = true ∧ (Lit.int .u64 x.opens).wf = true ∧ (Lit.int .u64 x.size).wf = true ∧ (Lit.int .u64 x.d0).wf = true ∧ (Lit.int .u64 x.d1).wf = true ∧ (Lit.int .u64 x.d2).wf = true ∧ (Lit.int .u64 x.d3).wf = true ∧ (Lit.int .u64 x.chain).wf = true ∧ (Lit.int .u64 x.parent).wf = true

/-- Where a slice of such leads there stand these, 13 cells each. -/
def StpsIn (w : World) (a : Option Addr) (len : Nat) (L : List Stp) : Prop :=
  L.length = len ∧ (∀ x ∈ L, x.Ok) ∧ ∀ i x, L[i]? = some x → ∃ g o, a = some ⟨g, o, none⟩ ∧ w.cell? ⟨g, o + i * 13, none⟩ = some (.int .u8 x.do_) ∧ w.cell? ⟨g, o + i * 13 + 1, none⟩ = some (.int .i64 x.n) ∧ w.cell? ⟨g, o + i * 13 + 2, none⟩ = some (.int .u64 x.kind) ∧ w.cell? ⟨g, o + i * 13 + 3, none⟩ = some (.int .u64 x.links) ∧ w.cell? ⟨g, o + i * 13 + 4, none⟩ = some (.int .u64 x.opens) ∧ w.cell? ⟨g, o + i * 13 + 5, none⟩ = some (.int .u64 x.size) ∧ w.cell? ⟨g, o + i * 13 + 6, none⟩ = some (.int .u64 x.d0) ∧ w.cell? ⟨g, o + i * 13 + 7, none⟩ = some (.int .u64 x.d1) ∧ w.cell? ⟨g, o + i * 13 + 8, none⟩ = some (.int .u64 x.d2) ∧ w.cell? ⟨g, o + i * 13 + 9, none⟩ = some (.int .u64 x.d3) ∧ w.cell? ⟨g, o + i * 13 + 10, none⟩ = some (.int .u64 x.chain) ∧ w.cell? ⟨g, o + i * 13 + 11, none⟩ = some (.int .u64 x.parent) ∧ w.cell? ⟨g, o + i * 13 + 12, none⟩ = some (.bool x.drop_)

set_option maxRecDepth 100000 in
theorem StpsIn.grown {w w' : World} {a : Option Addr} {len : Nat} {L : List Stp} (h : StpsIn w a len L) (hg : w.grownBy w' none) : StpsIn w' a len L := by
  refine ⟨h.1, h.2.1, fun i x hx => ?_⟩
  obtain ⟨g, o, ha, h0, h1, h2, h3, h4, h5, h6, h7, h8, h9, h10, h11, h12⟩ := h.2.2 i x hx
  exact ⟨g, o, ha, hg.cell h0 (by simp), hg.cell h1 (by simp), hg.cell h2 (by simp), hg.cell h3 (by simp), hg.cell h4 (by simp), hg.cell h5 (by simp), hg.cell h6 (by simp), hg.cell h7 (by simp), hg.cell h8 (by simp), hg.cell h9 (by simp), hg.cell h10 (by simp), hg.cell h11 (by simp), hg.cell h12 (by simp)⟩

set_option maxRecDepth 100000 in
theorem StpsIn.at {w : World} {g o len : Nat} {L : List Stp} (h : StpsIn w (some ⟨g, o, none⟩) len L) (i : Nat) (x : Stp) (hx : L[i]? = some x) : w.cell? ⟨g, o + i * 13, none⟩ = some (.int .u8 x.do_) ∧ w.cell? ⟨g, o + i * 13 + 1, none⟩ = some (.int .i64 x.n) ∧ w.cell? ⟨g, o + i * 13 + 2, none⟩ = some (.int .u64 x.kind) ∧ w.cell? ⟨g, o + i * 13 + 3, none⟩ = some (.int .u64 x.links) ∧ w.cell? ⟨g, o + i * 13 + 4, none⟩ = some (.int .u64 x.opens) ∧ w.cell? ⟨g, o + i * 13 + 5, none⟩ = some (.int .u64 x.size) ∧ w.cell? ⟨g, o + i * 13 + 6, none⟩ = some (.int .u64 x.d0) ∧ w.cell? ⟨g, o + i * 13 + 7, none⟩ = some (.int .u64 x.d1) ∧ w.cell? ⟨g, o + i * 13 + 8, none⟩ = some (.int .u64 x.d2) ∧ w.cell? ⟨g, o + i * 13 + 9, none⟩ = some (.int .u64 x.d3) ∧ w.cell? ⟨g, o + i * 13 + 10, none⟩ = some (.int .u64 x.chain) ∧ w.cell? ⟨g, o + i * 13 + 11, none⟩ = some (.int .u64 x.parent) ∧ w.cell? ⟨g, o + i * 13 + 12, none⟩ = some (.bool x.drop_) := by
  obtain ⟨g', o', ha, h0, h1, h2, h3, h4, h5, h6, h7, h8, h9, h10, h11, h12⟩ := h.2.2 i x hx
  cases ha
  exact ⟨h0, h1, h2, h3, h4, h5, h6, h7, h8, h9, h10, h11, h12⟩

set_option maxRecDepth 100000 in
theorem Stp_list {α : Type} (P : Nat → α → Prop) : ∀ n, (∀ i, i < n → ∃ x, P i x) → ∃ L : List α, L.length = n ∧ ∀ i x, L[i]? = some x → P i x
  | 0, _ => ⟨[], rfl, fun i x h => by simp at h⟩
  | n + 1, h => by
    obtain ⟨L, hl, hL⟩ := Stp_list P n (fun i hi => h i (by omega))
    obtain ⟨y, hy⟩ := h n (by omega)
    refine ⟨L ++ [y], by simp [hl], fun i x hx => ?_⟩
    by_cases hi : i < n
    · rw [List.getElem?_append_left (by omega)] at hx; exact hL i x hx
    · rw [List.getElem?_append_right (by omega)] at hx
      have : i - L.length = 0 := by
        rcases Nat.eq_zero_or_pos (i - L.length) with h0 | h0
        · exact h0
        · rw [List.getElem?_eq_none (by simp; omega)] at hx; cases hx
      rw [this] at hx
      simp at hx
      subst hx
      rwa [show i = n from by omega]

set_option maxRecDepth 100000 in
theorem open_Stps {H : Type} {enc : TypeId × Value → H} {w : World} {spare : Nat → Bool} {held : Bool} {a : Option Addr} {len cap : Nat} {d : DataW H} {p : List MemPlace}
    (h : DataW.Trod enc Try.prog w 0 spare held 26 (.slice a len cap) d p) : ∃ L, StpsIn w a len L := by
  obtain ⟨fuel, hf⟩ := h
  rcases open_slice Try.underlying26 hf with ⟨hcs, _⟩ | ⟨x, l, c, m, n, D, Pl, hcs, _, hl, _, hm, _, hi⟩
  · simp [Value.cells] at hcs
    obtain ⟨rfl, rfl, rfl⟩ := hcs
    exact ⟨[], rfl, by simp, fun i x h => by simp at h⟩
  · simp [Value.cells] at hcs
    obtain ⟨rfl, rfl, rfl⟩ := hcs
    have hml : len ≤ m := by rw [hm]; split <;> omega
    have hC : Try.prog.cellsOf 40 = 13 := by kernel_rfl
    rw [hC] at hi
    have key : ∀ i, i < len → ∃ y : Stp, y.Ok ∧ w.cell? (x.add (i * 13 + 0)) = some (.int .u8 y.do_) ∧ w.cell? (x.add (i * 13 + 1)) = some (.int .i64 y.n) ∧ w.cell? (x.add (i * 13 + 2)) = some (.int .u64 y.kind) ∧ w.cell? (x.add (i * 13 + 3)) = some (.int .u64 y.links) ∧ w.cell? (x.add (i * 13 + 4)) = some (.int .u64 y.opens) ∧ w.cell? (x.add (i * 13 + 5)) = some (.int .u64 y.size) ∧ w.cell? (x.add (i * 13 + 6)) = some (.int .u64 y.d0) ∧ w.cell? (x.add (i * 13 + 7)) = some (.int .u64 y.d1) ∧ w.cell? (x.add (i * 13 + 8)) = some (.int .u64 y.d2) ∧ w.cell? (x.add (i * 13 + 9)) = some (.int .u64 y.d3) ∧ w.cell? (x.add (i * 13 + 10)) = some (.int .u64 y.chain) ∧ w.cell? (x.add (i * 13 + 11)) = some (.int .u64 y.parent) ∧ w.cell? (x.add (i * 13 + 12)) = some (.bool y.drop_) := by
      intro i hil
      obtain ⟨cs', hc, ht⟩ := hi i (by omega)
      obtain ⟨_, hcl, hat⟩ := World.cells?_some hc
      obtain ⟨xs, n', _, _, _, hlen, hfl⟩ := DataW.trod_struct Try.underlying40 ht
      match xs, hlen with
      | [y0, y1, y2, y3], _ =>
        have t0 := by simpa using hfl 0 _ rfl
        have t1 := by simpa using hfl 1 _ rfl
        have t2 := by simpa using hfl 2 _ rfl
        have t3 := by simpa using hfl 3 _ rfl
        match cs', hcl with
        | [c0, c1, c2, c3, c4, c5, c6, c7, c8, c9, c10, c11, c12], _ =>
          have g0 := t0
          have g1 := t1
          have kt2 : Try.prog.cellsOf 38 = 10 := by kernel_rfl
          simp [kt2] at t2
          obtain ⟨xs2, _, _, _, _, hlen2, hfl2⟩ := DataW.trod_struct Try.underlying38 t2
          match xs2, hlen2 with
          | [u0, u1, u2, u3, u4, u5, u6], _ =>
          have g2 := by simpa using hfl2 0 _ rfl
          have g3 := by simpa using hfl2 1 _ rfl
          have g4 := by simpa using hfl2 2 _ rfl
          have g5 := by simpa using hfl2 3 _ rfl
          have ga4 := by simpa using hfl2 4 _ rfl
          have ka4 : Try.prog.cellsOf 36 = 4 := by kernel_rfl
          have ku4 : Try.prog.cellsOf 35 = 1 := by kernel_rfl
          simp [ka4] at ga4
          obtain ⟨ys4, _, _, _, _, hyl4, hy4⟩ := DataW.trod_array Try.underlying36 ga4
          match ys4, hyl4 with
          | [a0, a1, a2, a3], _ =>
          have g6 := hy4 0 (by decide)
          simp [ku4] at g6
          have g7 := hy4 1 (by decide)
          simp [ku4] at g7
          have g8 := hy4 2 (by decide)
          simp [ku4] at g8
          have g9 := hy4 3 (by decide)
          simp [ku4] at g9
          have g10 := by simpa using hfl2 5 _ rfl
          have g11 := by simpa using hfl2 6 _ rfl
          have g12 := t3
          obtain ⟨b0, e0, _, z0⟩ := DataW.trod_int Try.underlying5 g0
          have k0 : Try.prog.cellsOf 5 = 1 := by kernel_rfl
          simp [k0] at e0
          obtain ⟨b1, e1, _, z1⟩ := DataW.trod_int Try.underlying3 g1
          have k1 : Try.prog.cellsOf 3 = 1 := by kernel_rfl
          simp [k1] at e1
          obtain ⟨b2, e2, _, z2⟩ := DataW.trod_int Try.underlying35 g2
          have k2 : Try.prog.cellsOf 35 = 1 := by kernel_rfl
          simp [k2] at e2
          obtain ⟨b3, e3, _, z3⟩ := DataW.trod_int Try.underlying35 g3
          have k3 : Try.prog.cellsOf 35 = 1 := by kernel_rfl
          simp [k3] at e3
          obtain ⟨b4, e4, _, z4⟩ := DataW.trod_int Try.underlying35 g4
          have k4 : Try.prog.cellsOf 35 = 1 := by kernel_rfl
          simp [k4] at e4
          obtain ⟨b5, e5, _, z5⟩ := DataW.trod_int Try.underlying35 g5
          have k5 : Try.prog.cellsOf 35 = 1 := by kernel_rfl
          simp [k5] at e5
          obtain ⟨b6, e6, _, z6⟩ := DataW.trod_int Try.underlying35 g6
          simp at e6
          obtain ⟨b7, e7, _, z7⟩ := DataW.trod_int Try.underlying35 g7
          simp at e7
          obtain ⟨b8, e8, _, z8⟩ := DataW.trod_int Try.underlying35 g8
          simp at e8
          obtain ⟨b9, e9, _, z9⟩ := DataW.trod_int Try.underlying35 g9
          simp at e9
          obtain ⟨b10, e10, _, z10⟩ := DataW.trod_int Try.underlying35 g10
          have k10 : Try.prog.cellsOf 35 = 1 := by kernel_rfl
          simp [k10] at e10
          obtain ⟨b11, e11, _, z11⟩ := DataW.trod_int Try.underlying35 g11
          have k11 : Try.prog.cellsOf 35 = 1 := by kernel_rfl
          simp [k11] at e11
          obtain ⟨b12, e12, _⟩ := DataW.trod_bool Try.underlying4 g12
          have k12 : Try.prog.cellsOf 4 = 1 := by kernel_rfl
          simp [k12] at e12
          subst e0 e1 e2 e3 e4 e5 e6 e7 e8 e9 e10 e11 e12
          refine ⟨⟨b0, b1, b2, b3, b4, b5, b6, b7, b8, b9, b10, b11, b12⟩, ⟨z0, z1, z2, z3, z4, z5, z6, z7, z8, z9, z10, z11⟩, ?_, ?_, ?_, ?_, ?_, ?_, ?_, ?_, ?_, ?_, ?_, ?_, ?_⟩
          · rw [← Go.Deep.add_add]; exact hat 0 (by omega)
          · rw [← Go.Deep.add_add]; exact hat 1 (by omega)
          · rw [← Go.Deep.add_add]; exact hat 2 (by omega)
          · rw [← Go.Deep.add_add]; exact hat 3 (by omega)
          · rw [← Go.Deep.add_add]; exact hat 4 (by omega)
          · rw [← Go.Deep.add_add]; exact hat 5 (by omega)
          · rw [← Go.Deep.add_add]; exact hat 6 (by omega)
          · rw [← Go.Deep.add_add]; exact hat 7 (by omega)
          · rw [← Go.Deep.add_add]; exact hat 8 (by omega)
          · rw [← Go.Deep.add_add]; exact hat 9 (by omega)
          · rw [← Go.Deep.add_add]; exact hat 10 (by omega)
          · rw [← Go.Deep.add_add]; exact hat 11 (by omega)
          · rw [← Go.Deep.add_add]; exact hat 12 (by omega)
    obtain ⟨L, hL, hLi⟩ := Stp_list _ len key
    refine ⟨L, hL, ?_, ?_⟩
    · intro y hy
      obtain ⟨i, hi⟩ := List.getElem?_of_mem hy
      exact (hLi i y hi).1
    · intro i y hiy
      obtain ⟨_, h0, h1, h2, h3, h4, h5, h6, h7, h8, h9, h10, h11, h12⟩ := hLi i y hiy
      obtain ⟨b, o, sp⟩ := x
      have hil : i < len := by
        have := (List.getElem?_eq_some_iff.1 hiy).1
        omega
      have hsp : sp = none := by
        obtain ⟨_, _, k0, _⟩ := key 0 (by omega)
        have := World.cell?_spot k0
        simpa [Addr.add] using this
      subst hsp
      refine ⟨b, o, rfl, ?_, ?_, ?_, ?_, ?_, ?_, ?_, ?_, ?_, ?_, ?_, ?_, ?_⟩
      · rw [Addr.add_lit] at h0; simpa [Nat.add_assoc] using h0
      · rw [Addr.add_lit] at h1; simpa [Nat.add_assoc] using h1
      · rw [Addr.add_lit] at h2; simpa [Nat.add_assoc] using h2
      · rw [Addr.add_lit] at h3; simpa [Nat.add_assoc] using h3
      · rw [Addr.add_lit] at h4; simpa [Nat.add_assoc] using h4
      · rw [Addr.add_lit] at h5; simpa [Nat.add_assoc] using h5
      · rw [Addr.add_lit] at h6; simpa [Nat.add_assoc] using h6
      · rw [Addr.add_lit] at h7; simpa [Nat.add_assoc] using h7
      · rw [Addr.add_lit] at h8; simpa [Nat.add_assoc] using h8
      · rw [Addr.add_lit] at h9; simpa [Nat.add_assoc] using h9
      · rw [Addr.add_lit] at h10; simpa [Nat.add_assoc] using h10
      · rw [Addr.add_lit] at h11; simpa [Nat.add_assoc] using h11
      · rw [Addr.add_lit] at h12; simpa [Nat.add_assoc] using h12
end Go.Proofs.Ytmoddhfemejekaa
end
