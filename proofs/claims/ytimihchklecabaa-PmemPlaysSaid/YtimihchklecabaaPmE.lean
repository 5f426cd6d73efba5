/- Package pmem: a line flushed, evicted. -/
import Derived.Test.YtimihchklecabaaPmD
import Derived.Test.YtimihchklecabaaPmMath2
namespace Go.Proofs.Ytimihchklecabaa
open Go.RowKit Go.Grommet Go.Shelf
attribute [local go_sem] Oper.semAt_some

theorem line_any (w : World) (d : Nat) (i : Int) : Calls Try.prog 36 #[ptr d, .int .i64 i] w fun e w' => e = .returned (.func (.func 43) #[] #[ptr (w.heap.size + 1), ptr w.heap.size]) ∧ w' = (w.alloc (.cells #[ptr d] 25)).alloc (.cells #[.int .i64 i] 3) := by
  unfold ptr
  go_enter Try.func36, Try.ntmps36
  go_wp2
  go_ret
  exact ⟨rfl, rfl⟩

/-- Behind the two boxes of a line. -/
theorem boxes_new (w : World) (d : Nat) (i : Int) : ∀ w', w' = (w.alloc (.cells #[ptr d] 25)).alloc (.cells #[.int .i64 i] 3) → w'.heap[w.heap.size + 1]? = some (.cells #[.int .i64 i] 3 (0, 0)) ∧ w'.heap[w.heap.size]? = some (.cells #[ptr d] 25 (0, 0)) ∧ w.grownBy w' none ∧ w'.heap.size = w.heap.size + 2 ∧ KeepsOthers w w' := by
  rintro w' rfl
  have h1 := heap_alloc_new (w.alloc (.cells #[ptr d] 25)) (.cells #[.int .i64 i] 3)
  rw [World.size_alloc] at h1
  exact ⟨h1, ((World.grownBy_alloc _ _ none).block _ (by simp) (by simp)).trans (heap_alloc_new w _), grown_trans (World.grownBy_alloc _ _ none) (World.grownBy_alloc _ _ none), by simp, (KeepsOthers.alloc _ _).trans (KeepsOthers.alloc _ _)⟩

theorem DevIs.grown {w w' : World} {d g : Nat} {ws : List PW} (h : DevIs w d g ws) (hg : w.grownBy w' none) : DevIs w' d g ws :=
  ⟨(hg.block _ (Array.getElem?_eq_some_iff.1 h.dev).1 (by simp)).trans h.dev, (hg.block _ (Array.getElem?_eq_some_iff.1 h.row).1 (by simp)).trans h.row, h.ne, h.fits, h.small⟩
theorem DevIs.ownFrom {B : Nat} {d g : Nat} (hd : d < B) (hg : g < B) : OwnFrom B (fun ws W => DevIs W d g ws) := by
  intro s W W' row hs hgr hr
  refine ⟨(hgr.block _ (Array.getElem?_eq_some_iff.1 hs.dev).1 ?_).trans hs.dev, (hgr.block _ (Array.getElem?_eq_some_iff.1 hs.row).1 ?_).trans hs.row, hs.ne, hs.fits, hs.small⟩
  · intro e; have := (hr d e.symm).1; omega
  · intro e; have := (hr g e.symm).1; omega
theorem ownFrom_grown {β : Type} {B g : Nat} {w : World} (hB : w.heap.size ≤ B) : OwnFrom B (fun (_ : β) W => w.grownBy W (some g)) := by
  intro s W W' row hs hgr hr
  exact grown_new hs hgr (fun j e => Nat.le_trans hB (hr j e).1)
/-- Old blocks but g stay. -/
theorem Kept.of {bi bd d g : Nat} {W W' : World} (hg : W.grownBy W' (some g)) (h1 : bi < W.heap.size) (h2 : bd < W.heap.size) (h3 : d < W.heap.size) (n1 : bi ≠ g) (n2 : bd ≠ g) (n3 : d ≠ g) : Kept bi bd d W W' :=
  ⟨hg.block _ h1 (by simpa using n1), hg.block _ h2 (by simpa using n2), hg.block _ h3 (by simpa using n3)⟩

theorem modify_set {f : PW → PW} {s : List PW} {k : Nat} {c : PW} (hc : s[k]? = some c) : s.modify k f = s.set k (f c) := by
  apply List.ext_getElem?
  intro j
  rw [List.getElem?_modify]
  by_cases e : k = j
  · subst e; rw [List.getElem?_set_self (List.getElem?_eq_some_iff.1 hc).1, hc]; simp
  · rw [List.getElem?_set_ne e]; simp [e]
theorem set_same {s : List PW} {k : Nat} {c : PW} (hc : s[k]? = some c) : s.set k c = s := by
  apply List.ext_getElem?
  intro j
  by_cases e : k = j
  · subst e; rw [List.getElem?_set_self (List.getElem?_eq_some_iff.1 hc).1, hc]
  · rw [List.getElem?_set_ne e]
/-- Between two words of a line: a device of n words, these now; nothing old but its row has turned. -/
structure LineR (w : World) (d g n : Nat) (s : List PW) (W : World) : Prop where
  dev : DevIs W d g s
  len : s.length = n
  grown : w.grownBy W (some g)
  size : w.heap.size + 2 ≤ W.heap.size
theorem LineR.own {B : Nat} {w : World} {d g n : Nat} (hd : d < B) (hg : g < B) (hB : w.heap.size ≤ B) : OwnFrom B (LineR w d g n) := by
  intro s W W' row hs hgr hr
  exact ⟨DevIs.ownFrom hd hg s W W' row hs.dev hgr hr, hs.len, grown_new hs.grown hgr (fun j e => Nat.le_trans hB (hr j e).1), Nat.le_trans hs.size hgr.size⟩
theorem LineR.round {w W W' : World} {d g n : Nat} {s s' : List PW} (h : LineR w d g n s W) (hgw : g < w.heap.size) (hD' : DevIs W' d g s') (hl' : s'.length = s.length) (hg : W.grownBy W' (some g)) :
    KeepsOthers W W' ∧ Kept (w.heap.size + 1) w.heap.size d W W' ∧ LineR w d g n s' W' := by
  have := h.size
  exact ⟨KeepsOthers.of_grownBy hg (fun j o e ho => by cases e; rw [h.dev.row] at ho; cases ho; rfl), Kept.of hg (by omega) (by omega) (Array.getElem?_eq_some_iff.1 h.dev.dev).1 (by omega) (by omega) h.dev.ne, hD', hl'.trans h.len, grown_trans h.grown hg, Nat.le_trans h.size hg.size⟩
theorem LineR.leave {w W W' : World} {d g n : Nat} {s : List PW} (h : LineR w d g n s W) (k : AllBut w.heap.size W W') : DevIs W' d g s ∧ w.grownBy W' (some g) :=
  ⟨⟨k.cells _ _ _ _ h.dev.dev, k.cells _ _ _ _ h.dev.row, h.dev.ne, h.dev.fits, h.dev.small⟩, k.grown (Nat.le_refl _) h.grown⟩

/-- The line's words, each turned. -/
def lineMap (f : PW → PW) (i : Nat) (ws : List PW) (x : Nat) : List PW := ws.modify (8 * i + x) f
theorem lineMap_eight (f : PW → PW) (i : Nat) (ws : List PW) : (List.range 8).foldl (lineMap f i) ws = turnFrom f (8 * i) 8 ws := rfl

set_option maxHeartbeats 1000000 in
theorem Flush_ok (w : World) (d g : Nat) (ws : List PW) (h : DevIs w d g ws) (i : Nat) (hi : i < ws.length / 8) :
    Calls Try.prog 17 #[ptr d, .int .i64 (i : Int)] w fun e w' => e = .returned (.int .i64 0) ∧ DevIs w' d g (turnFrom PW.flush (8 * i) 8 ws) ∧ w.grownBy w' (some g) := by
  have HW := Lib.hid (lines_any w d g ws h)
  have HH := Lib.hid (has_any w d (i : Int) (ws.length / 8))
  have hE : hasE (i : Int) (ws.length / 8) = 0 := by unfold hasE; rw [if_neg (by omega)]
  rw [hE] at HH
  unfold ptr at HW HH ⊢
  refine (callsIn_wide (n := 9)).1 ?_
  refine callsIn_of_wp_marks Try.func17 rfl trivial ?_ rfl
  simp only [Try.ntmps17, List.size_toArray, List.length_cons, List.length_nil, Nat.reduceAdd, Nat.reduceSub, Array.replicate_succ, Array.replicate_zero, List.push_toArray, List.append_toArray, List.nil_append, List.cons_append]
  have hrow := (Array.getElem?_eq_some_iff.1 h.row).1
  have hdd := (Array.getElem?_eq_some_iff.1 h.dev).1
  gi_wp2_with fail
  refine ⟨trivial, (callsIn_wide.2 HW.out).mono ?_⟩
  rintro e w1 ⟨rfl, rfl⟩
  gi_wp2_with fail
  refine ⟨trivial, (callsIn_wide.2 HH.out).mono ?_⟩
  rintro e w1 ⟨rfl, rfl⟩
  gi_wp2_with fail
  refine ⟨trivial, (callsIn_wide.2 (line_any w1 d i)).mono ?_⟩
  rintro e w2 ⟨rfl, hw2⟩
  obtain ⟨b1, b2, hg2, hs2, hk2⟩ := boxes_new w1 d i w2 hw2
  have hD2 := h.grown hg2
  clear hw2
  gi_wp2_with fail
  refine range_line (by decide) (bi := w1.heap.size + 1) (bd := w1.heap.size) (d := d) (g := g) (i := i) (n := ws.length) rfl rfl b1 b2 hD2.dev (by omega) h.fits
    (lineMap PW.flush i) ws (LineR w1 d g ws.length) (LineR.own (by omega) (by omega) (by omega)) ⟨hD2, rfl, grown_wide hg2, by omega⟩
    (fun x => { tmps := #[ptr d, .int .i64 (i : Int), undef, undef, .int .i64 0, .int .i64 0, wordAt g (8 * i + x), ptr d, .int .i64 (i : Int), ptr d, .int .i64 ((ws.length / 8 : Nat) : Int), .int .i64 0, .int .i64 0, .bool false, undef, ptr d, .int .i64 (i : Int), .func (.func 43) #[] #[ptr (w1.heap.size + 1), ptr w1.heap.size], wordAt g (8 * i + x), undef, undef, undef, undef, undef, undef, undef, undef, undef, undef, undef, undef, undef], defers := [] }) ?assign ?body ?done
  case assign =>
    intro l x W K hK
    gi_wp2
    exact hK
  case body =>
    rintro l s x W hx hL
    have hD := hL.dev
    have hl := hL.len
    obtain ⟨c, hc⟩ : ∃ c, s[8 * i + x]? = some c := ⟨_, List.getElem?_eq_getElem (by omega)⟩
    have hlt := (List.getElem?_eq_some_iff.1 hc).1
    obtain ⟨f0, f1, f2, f3, f4, f5⟩ := hD.get hc
    unfold lineMap
    rw [modify_set hc]
    unfold wordAt ptr
    generalize hk : 8 * i + x = k at hc hlt f0 f1 f2 f3 f4 f5 ⊢
    have HRo := Lib.hid (fun W' s' (a : DevIs W' d g s') (b : s'.length = s.length) (e : W.grownBy W' (some g)) => hL.round hrow a b e)
    cases hb : c.loose with
    | false =>
      rw [hb] at f2
      have hE : Hid (s.set k (PW.flush c) = s) := Lib.hid (by unfold PW.flush; rw [if_neg (by rw [hb]; decide)]; exact set_same hc)
      rw [hE.out]
      have hfin := Lib.hid (HRo.out W s hD rfl (World.grownBy.refl _ _))
      clear HRo hD hL hl hc hE
      gi_wp2
      exact hfin.out
    | true =>
      rw [hb] at f2
      have hgrow : Hid (W.grownBy ((((W.setCell ⟨g, k * 6 + 2, none⟩ (.bool true)).setCell ⟨g, k * 6 + 3, none⟩ (.bool true)).setCell ⟨g, k * 6 + 4, none⟩ (.bool false)).setCell ⟨g, k * 6 + 5, none⟩ (.int .u64 (c.seen : Int))) (some g)) :=
        Lib.hid (grown_trans (grown_trans (grown_trans (grown_setCell _ ⟨g, k * 6 + 2, none⟩ _) (grown_setCell _ ⟨g, k * 6 + 3, none⟩ _)) (grown_setCell _ ⟨g, k * 6 + 4, none⟩ _)) (grown_setCell _ ⟨g, k * 6 + 5, none⟩ _))
      have hdev : Hid (DevIs ((((W.setCell ⟨g, k * 6 + 2, none⟩ (.bool true)).setCell ⟨g, k * 6 + 3, none⟩ (.bool true)).setCell ⟨g, k * 6 + 4, none⟩ (.bool false)).setCell ⟨g, k * 6 + 5, none⟩ (.int .u64 (c.seen : Int))) d g (s.set k c.flush)) := Lib.hid (by
        have hsm := hD.of hc
        have d2 := hD.put (c' := { c with loose := true }) hc 2 (by decide) (.bool true) rfl hsm
        have d3 := d2.put (k := k) (c := { c with loose := true }) (c' := { c with loose := true, flushed := true }) (by simp [hlt]) 3 (by decide) (.bool true) rfl hsm
        have d4 := d3.put (k := k) (c := { c with loose := true, flushed := true }) (c' := { c with loose := true, flushed := true, again := false }) (by simp [hlt]) 4 (by decide) (.bool false) rfl hsm
        have d5 := d4.put (k := k) (c := { c with loose := true, flushed := true, again := false }) (c' := c.flush) (by simp [hlt]) 5 (by decide) (.int .u64 (c.seen : Int)) (by unfold PW.flush; rw [if_pos hb]; rfl) (PW.flush_small hsm)
        rw [List.set_set, List.set_set, List.set_set] at d5
        exact d5)
      have hfin := Lib.hid (HRo.out _ _ hdev.out (by simp) hgrow.out)
      have z2 := hD.free (k * 6 + 2)
      have z3 := hD.free (k * 6 + 3)
      have z4 := hD.free (k * 6 + 4)
      have z5 := hD.free (k * 6 + 5)
      generalize s.set k c.flush = s' at hfin ⊢
      clear HRo hD hL hl hc hdev hgrow
      gi_wp2
      exact hfin.out
  case done =>
    rintro D W hD hL hK
    gi_wp2
    refine leaves_marks (B := w1.heap.size) _ (D + 1) W ⟨D, rfl, by omega, by omega, hK, trivial⟩ ?_
    intro w' hw'
    exact ⟨_, results_tmp rfl _ _ _, rfl, hL.leave hw'⟩
end Go.Proofs.Ytimihchklecabaa
