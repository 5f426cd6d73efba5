/- The document's view: Flat, Apply, Same; the anchor. -/
import Derived.Test.YtdpkpphjpihhkaaViewG
import Derived.Test.YtdpkpphjpihhkaaSame
-- OPTIONAL
namespace Go.Proofs.Ytdpkpphjpihhkaa
open Go.RowKit Go.Grommet

set_option maxRecDepth 100000 in
set_option maxHeartbeats 1000000 in
theorem SameW_any (ad bd : Option Addr) (l m c d : Nat) (L M : List (Nat × Nat)) (w : World) (hx : At w ad (wcells L)) (hy : At w bd (wcells M)) (hl : L.length = l) (hm : M.length = m) (hf : l ≤ 140737488351232) :
    Calls Try.prog 23 #[.slice ad l c, .slice bd m d] w (SameIs (decide (L = M)) w) := by
  by_cases hlm : l = m
  · subst hlm
    have HL := Lib.hid hl
    have HM := Lib.hid hm
    clear hl hm
    have h1 : ((l : Int) != (l : Int)) = false := by simp
    go_enter Try.func23, Try.ntmps23
    go_wp2_with fail
    go_loopw [5] (fun i wr => ∃ k : Nat, k ≤ l ∧ i = .int .i64 (k : Int) ∧ L.take k = M.take k ∧ w.grownBy wr none) (fun i _ => l - (intOf i).toNat)
    case atStart => exact ⟨0, Nat.zero_le _, rfl, rfl, World.grownBy.refl _ _⟩
    case round =>
      obtain ⟨k, hk, rfl, he, hg⟩ := hrel
      have HE := Lib.hid he
      clear he
      have k0 : (0 : Int) ≤ (k : Int) := by omega
      by_cases hlt : k < l
      · have hlt' : (k : Int) < (l : Int) := by omega
        obtain ⟨q, o, rfl, c0, c1⟩ := at_pair (hx.grown hg (by simp)) k (by rw [HL.out]; exact hlt)
        obtain ⟨q', o', rfl, d0, d1⟩ := at_pair (hy.grown hg (by simp)) k (by rw [HM.out]; exact hlt)
        have HX := Lib.hid (take_snocD L k (0, 0) (by rw [HL.out]; exact hlt))
        have HY := Lib.hid (take_snocD M k (0, 0) (by rw [HM.out]; exact hlt))
        by_cases hv : L.getD k (0, 0) = M.getD k (0, 0)
        · rw [hv] at c0 c1 HX
          have HN := Lib.hid (show L.take (k + 1) = M.take (k + 1) by rw [HX.out, HY.out, HE.out])
          generalize (M.getD k (0, 0)).1 = A at c0 d0
          generalize (M.getD k (0, 0)).2 = V at c1 d1
          have h2 : ((A : Int) == (A : Int)) = true := by simp
          have h3 : ((V : Int) == (V : Int)) = true := by simp
          clear hv HX HY
          go_wp2_with fail
          go_quiet (fail)
          go_wp2
          go_roundw
          case rel => exact ⟨k + 1, by omega, by go_num, HN.out, grown_trans hg (grown_drewN _ _ _)⟩
          case measure => simp [intOf]; omega
        · have HN := Lib.hid (show decide (L = M) = false by
            rw [decide_eq_false_iff_not]; intro h; subst h; exact hv rfl)
          by_cases hA : (L.getD k (0, 0)).1 = (M.getD k (0, 0)).1
          · have hV : (L.getD k (0, 0)).2 ≠ (M.getD k (0, 0)).2 := fun e => hv (Prod.ext hA e)
            rw [hA] at c0
            generalize (M.getD k (0, 0)).1 = A at c0 d0
            generalize (L.getD k (0, 0)).2 = V at c1 hV
            generalize (M.getD k (0, 0)).2 = U at d1 hV
            have h2 : ((A : Int) == (A : Int)) = true := by simp
            have h3 : ((V : Int) == (U : Int)) = false := by rw [beq_eq_false_iff_ne]; omega
            clear hv HX HY hA hV
            go_wp2_with fail
            go_quiet (fail)
            go_wp2
            go_ret
            exact ⟨by rw [HN.out]; rfl, grown_trans hg (grown_drewN _ _ _)⟩
          · generalize (L.getD k (0, 0)).1 = A at c0 hA
            generalize (M.getD k (0, 0)).1 = B at d0 hA
            generalize (L.getD k (0, 0)).2 = V at c1
            generalize (M.getD k (0, 0)).2 = U at d1
            have h2 : ((A : Int) == (B : Int)) = false := by rw [beq_eq_false_iff_ne]; omega
            clear hv HX HY hA
            go_wp2_with fail
            go_quiet (fail)
            go_wp2
            go_ret
            exact ⟨by rw [HN.out]; rfl, grown_trans hg (grown_drewN _ _ _)⟩
      · have hlt' : ¬ (k : Int) < (l : Int) := by omega
        have HN := Lib.hid (show decide (L = M) = true by
          rw [decide_eq_true_eq]
          have := HE.out
          rwa [List.take_of_length_le (by rw [HL.out]; omega), List.take_of_length_le (by rw [HM.out]; omega)] at this)
        have HR := Lib.hid (show SameIs (decide (L = M)) w (.returned (.bool true)) wr from ⟨by rw [HN.out], hg⟩)
        go_wp2
        go_ret
        exact HR.out
  · have h1 : ((l : Int) != (m : Int)) = true := by simp; omega
    have h2 : ¬ (l : Int) = (m : Int) := by omega
    have HN := Lib.hid (show decide (L = M) = false by
      rw [decide_eq_false_iff_not]; intro h; subst h; exact hlm (hl.symm.trans hm))
    rw [HN.out]
    clear hlm hl hm
    go_enter Try.func23, Try.ntmps23
    go_wp2
    go_ret
    exact ⟨rfl, World.grownBy.refl _ _⟩

/-- A view that was made since w0; nothing old was turned. -/
def View0 (w0 : World) (w : World) (g : Nat) (xs : List Nat) (L : List (Nat × Nat)) : Prop := ∃ F, ViewIs w g F xs L ∧ (∀ i, F i → w0.heap.size ≤ i) ∧ w0.grownBy w none
set_option maxRecDepth 100000 in
theorem View0.did {w0 w w' : World} {g : Nat} {F : Nat → Prop} {xs : List Nat} {L : List (Nat × Nat)} (h : Does g F w w' xs L) (hg : w0.grownBy w none) (hF : ∀ i, F i → w0.heap.size ≤ i) : View0 w0 w' g xs L := by
  obtain ⟨F', h1, h2, h3⟩ := h
  exact ⟨F', h1, fun i hi => (h2 i hi).elim (hF i) (fun e => Nat.le_trans hg.size e), grown_turn hg h3 hF⟩
set_option maxRecDepth 100000 in
theorem View0.quiet {w0 w w' : World} {g : Nat} {xs : List Nat} {L : List (Nat × Nat)} (h : View0 w0 w g xs L) (hg : w.grownBy w' none) : View0 w0 w' g xs L := by
  obtain ⟨F, h1, h2, h3⟩ := h
  exact ⟨F, h1.turn (Turn.of (F := fun _ => False) hg (fun _ e => by cases e)) (fun _ _ e => e), h2, grown_trans h3 hg⟩
set_option maxRecDepth 100000 in
theorem New0 (ad : Option Addr) (l c : Nat) (xs : List Nat) (w0 w : World) (hx : Words w ad l xs) (hl : l ≤ 549755813888) (hnil : ad = none → l = 0 ∧ c = 0) (hg : w0.grownBy w none) :
    Calls Try.prog 11 #[.slice ad l c] w fun e w' => ∃ g, e = .returned (.pointer (some ⟨g, 0, none⟩)) ∧ View0 w0 w' g xs [] := by
  refine (New_any ad l c xs w hx hl hnil).mono ?_
  rintro e w' ⟨g, F, he, hv, hF, hg2⟩
  exact ⟨g, he, F, hv, fun i hi => Nat.le_trans hg.size (hF i hi), grown_trans hg hg2⟩
set_option maxRecDepth 100000 in
theorem Put0 (g : Nat) (xs : List Nat) (L L' : List (Nat × Nat)) (a : Int) (v : Nat) (en : Int) (w0 w : World) (h : View0 w0 w g xs L) (hv : v < 18446744073709551616) (he : (putEI xs L a : Int) = en) (hL : putI xs L a v = L') :
    Calls Try.prog 33 #[.pointer (some ⟨g, 0, none⟩), .int .i64 a, .int .u64 (v : Int)] w fun e w' => e = .returned (.int .i64 en) ∧ View0 w0 w' g xs L' := by
  obtain ⟨F, h1, h2, h3⟩ := h
  refine (Put_any g F xs L a v w h1 hv).mono ?_
  rintro e w' ⟨rfl, hd⟩
  subst he
  subst hL
  exact ⟨rfl, View0.did hd h3 h2⟩
set_option maxRecDepth 100000 in
theorem Get0 (g : Nat) (xs : List Nat) (L : List (Nat × Nat)) (a : Int) (w0 w : World) (h : View0 w0 w g xs L) :
    Calls Try.prog 66 #[.pointer (some ⟨g, 0, none⟩), .int .i64 a] w fun e w' => e = .returned (.int .u64 (gotI xs L a : Int)) ∧ w = w' := by
  obtain ⟨F, h1, _⟩ := h
  exact Get_any g F xs L a w h1
set_option maxRecDepth 100000 in
theorem Len0 (g : Nat) (xs : List Nat) (L : List (Nat × Nat)) (w0 w : World) (h : View0 w0 w g xs L) :
    Calls Try.prog 64 #[.pointer (some ⟨g, 0, none⟩)] w fun e w' => e = .returned (.int .i64 (xs.length : Int)) ∧ w = w' := by
  obtain ⟨F, h1, _⟩ := h
  exact Len_any g F xs L w h1
set_option maxRecDepth 100000 in
theorem Writes0 (g : Nat) (xs : List Nat) (L : List (Nat × Nat)) (w0 w : World) (h : View0 w0 w g xs L) :
    Calls Try.prog 24 #[.pointer (some ⟨g, 0, none⟩)] w fun e w' => ∃ ad cap, e = .returned (.slice ad L.length cap) ∧ w'.ownsRow w.heap.size 79 2 (.slice ad L.length cap) L.length (wcells L) ∧ View0 w0 w' g xs L := by
  have hv := h
  obtain ⟨F, h1, _⟩ := h
  refine (Writes_any g F xs L w h1 w.heap.size (Nat.le_refl _)).mono ?_
  rintro e w' ⟨ad, cap, he, hr, hg⟩
  exact ⟨ad, cap, he, hr, hv.quiet hg⟩
set_option maxRecDepth 100000 in
theorem Flat0 (g : Nat) (xs : List Nat) (L : List (Nat × Nat)) (w0 w : World) (h : View0 w0 w g xs L) :
    Calls Try.prog 28 #[.pointer (some ⟨g, 0, none⟩)] w fun e w' => ∃ ad cap, e = .returned (.slice ad xs.length cap) ∧ w'.ownsRow w.heap.size 36 1 (.slice ad xs.length cap) xs.length ((flatV xs L).map wv) ∧ View0 w0 w' g xs L := by
  have hv := h
  obtain ⟨F, h1, _⟩ := h
  refine (Flat_any g F xs L w h1 w.heap.size (Nat.le_refl _)).mono ?_
  rintro e w' ⟨ad, cap, he, hr, hg⟩
  rw [flatV_length] at he hr
  exact ⟨ad, cap, he, hr, hv.quiet hg⟩
set_option maxRecDepth 100000 in
theorem View0.good {w0 w : World} {g : Nat} {xs : List Nat} {L : List (Nat × Nat)} (h : View0 w0 w g xs L) : Wl xs.length L ∧ (∀ n ∈ xs, n < 18446744073709551616) ∧ xs.length ≤ 549755813888 ∧ w0.grownBy w none := by
  obtain ⟨F, ⟨ws, wr, mb, h1⟩, _, h3⟩ := h
  exact ⟨h1.good, h1.small, h1.fits, h3⟩


end Go.Proofs.Ytdpkpphjpihhkaa
