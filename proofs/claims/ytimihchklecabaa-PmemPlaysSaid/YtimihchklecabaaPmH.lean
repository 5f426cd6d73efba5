/- Package pmem: how many words are loose. -/
import Derived.Test.YtimihchklecabaaPmG
namespace Go.Proofs.Ytimihchklecabaa
open Go.RowKit Go.Grommet Go.Shelf
attribute [local go_sem] Oper.semAt_some

/-- One more, if it is loose (it goes round). -/
def looseStep (s : Int) (c : PW) : Int := if c.loose then IntKind.i64.wrap (s + 1) else s
theorem loose_fold : ∀ (ws : List PW) (s : Nat), s + ws.length ≤ 1000000 → ws.foldl looseStep (s : Int) = ((s + looseOf ws : Nat) : Int)
  | [], s, _ => by simp [looseOf]
  | c :: ws, s, h => by
    rw [List.length_cons] at h
    rw [List.foldl_cons]
    cases hc : c.loose with
    | false =>
      have h1 : looseStep (s : Int) c = (s : Int) := by unfold looseStep; rw [if_neg (by simp [hc])]
      have h2 : looseOf (c :: ws) = looseOf ws := by unfold looseOf; rw [List.filter_cons_of_neg (by simp [hc])]
      rw [h1, h2]; exact loose_fold ws s (by omega)
    | true =>
      have h1 : looseStep (s : Int) c = ((s + 1 : Nat) : Int) := by unfold looseStep; rw [if_pos hc, IntWalk.i64_in _ ⟨by omega, by omega⟩]; rfl
      have h2 : looseOf (c :: ws) = looseOf ws + 1 := by unfold looseOf; rw [List.filter_cons_of_pos (by simp [hc]), List.length_cons]
      rw [h1, h2, loose_fold ws (s + 1) (by omega)]; congr 1; omega

structure CountL (w : World) (d g b : Nat) (ws : List PW) (ds : List Deferred) (s : Int) (W : World) : Prop where
  dev : DevIs W d g ws
  box : W.heap[w.heap.size]? = some (.cells #[.int .i64 s] 3 (0, 0))
  grown : w.grownBy W none
  size : b + 2 ≤ W.heap.size
  marks : Marks w.heap.size W (b + 2) ds
theorem CountL.own {w : World} {d g b : Nat} {ws : List PW} {ds : List Deferred} (hd : d < w.heap.size) (hg : g < w.heap.size) (hb : w.heap.size < b) : OwnFrom (b + 2) (CountL w d g b ws ds) := by
  intro s W W' row hs hgr hr
  exact ⟨DevIs.ownFrom (B := b + 2) (by omega) (by omega) ws W W' row hs.dev hgr hr, (hgr.block _ (Array.getElem?_eq_some_iff.1 hs.box).1 (by intro e; have := (hr _ e.symm).1; omega)).trans hs.box, grown_new hs.grown hgr (fun j e => by have := (hr j e).1; omega), Nat.le_trans hs.size hgr.size, Marks.ownFrom (U := b + 2) s W W' row hs.marks hgr hr⟩
theorem CountL.step {w W : World} {d g b : Nat} {ws : List PW} {ds : List Deferred} {s : Int} (h : CountL w d g b ws ds s W) (hd : d < w.heap.size) (hgw : g < w.heap.size) (hb : w.heap.size < b) (t : Int) :
    KeepsOthers W (W.setCell ⟨w.heap.size, 0, none⟩ (.int .i64 t)) ∧ Kept (b + 1) b d W (W.setCell ⟨w.heap.size, 0, none⟩ (.int .i64 t)) ∧ CountL w d g b ws ds t (W.setCell ⟨w.heap.size, 0, none⟩ (.int .i64 t)) := by
  have := h.size
  have hg := grown_setCell W ⟨w.heap.size, 0, none⟩ (.int .i64 t)
  have hk := KeepsOthers.setCell W ⟨w.heap.size, 0, none⟩ (.int .i64 t)
  refine ⟨hk, Kept.of (g := w.heap.size) hg (by omega) (by omega) (Array.getElem?_eq_some_iff.1 h.dev.dev).1 (by omega) (by omega) (by omega), ⟨?_, ?_, h.dev.ne, h.dev.fits, h.dev.small⟩, ?_, ?_, Nat.le_trans h.size hg.size, h.marks.keeps hk⟩
  · exact (hg.block _ (Array.getElem?_eq_some_iff.1 h.dev.dev).1 (by simp; omega)).trans h.dev.dev
  · exact (hg.block _ (Array.getElem?_eq_some_iff.1 h.dev.row).1 (by simp; omega)).trans h.dev.row
  · have := heap_setCell_at (o := 0) h.box (.int .i64 t); simpa using this
  · exact grown_new h.grown hg (fun j e => by cases e; exact Nat.le_refl _)

set_option maxHeartbeats 2000000 in
theorem Loose_any (w : World) (d g : Nat) (ws : List PW) (h : DevIs w d g ws) (N : Nat) (hN : ws.length = 8 * N) :
    Calls Try.prog 25 #[ptr d] w fun e w' => e = .returned (.int .i64 (looseOf ws : Int)) ∧ w.grownBy w' none := by
  have hf := h.fits
  have hN8 : ws.length / 8 = N := by omega
  have hrow := (Array.getElem?_eq_some_iff.1 h.row).1
  have hdd := (Array.getElem?_eq_some_iff.1 h.dev).1
  have hend := Lib.hid (loose_fold ws 0 (by omega))
  have hg0 := World.grownBy_alloc w (.cells #[.int .i64 0] 3) none
  have h0 := h.grown hg0
  have hbox := heap_alloc_new w (.cells #[.int .i64 0] 3)
  have HW := Lib.hid (lines_any _ d g ws h0)
  have hc0 : (w.alloc (.cells #[.int .i64 0] 3)).cell? ⟨w.heap.size, 0, none⟩ = some (.int .i64 0) := by unfold World.cell?; rw [hbox]; rfl
  rw [hN8] at HW
  unfold ptr at HW ⊢
  refine (callsIn_wide (n := 9)).1 ?_
  refine callsIn_of_wp_marks Try.func25 rfl trivial ?_ rfl
  simp only [Try.ntmps25, List.size_toArray, List.length_cons, List.length_nil, Nat.reduceAdd, Nat.reduceSub, Array.replicate_succ, Array.replicate_zero, List.push_toArray, List.append_toArray, List.nil_append, List.cons_append]
  gi_wp2_with fail
  generalize w.alloc (.cells #[.int .i64 0] 3) = wa at hg0 h0 hbox HW hc0 ⊢
  have hsa : w.heap.size < wa.heap.size := (Array.getElem?_eq_some_iff.1 hbox).1
  refine ⟨trivial, (callsIn_wide.2 HW.out).mono ?_⟩
  rintro e w1 ⟨rfl, rfl⟩
  gi_wp2_with fail
  refine wpIn_loop (fun a' w' => ∃ (j : Nat) (u4 u9 u10 u11 u12 u13 u22 : Value) (ds : List Deferred), (j ≤ N ∧ DevIs w' d g ws ∧ w'.heap[w.heap.size]? = some (.cells #[.int .i64 (gather looseStep ws 0 (8 * j) 0)] 3 (0, 0)) ∧ w.grownBy w' none ∧ Marks w.heap.size w' w'.heap.size ds) ∧ a' = { tmps := #[.pointer (some ⟨d, 0, none⟩), undef, .int .i64 0, .pointer (some ⟨w.heap.size, 0, none⟩), u4, undef, .pointer (some ⟨d, 0, none⟩), .int .i64 (N : Int), .int .i64 (j : Int), u9, u10, u11, u12, u13, undef, undef, undef, undef, undef, undef, undef, undef, u22, undef], defers := ds })
    (fun a' _ => N - (intOf (a'.tmps.getD 8 undef)).toNat) ?start ?round
  case start => exact ⟨0, _, _, _, _, _, _, _, [], ⟨Nat.zero_le _, h0, hbox, hg0, trivial⟩, rfl⟩
  case round =>
    rintro _ wr ⟨j, u4, u9, u10, u11, u12, u13, u22, ds, ⟨hj, hD, hB, hG, hM⟩, rfl⟩
    have j0 : (0 : Int) ≤ (j : Int) := by omega
    have hBs := (Array.getElem?_eq_some_iff.1 hB).1
    by_cases hlt : j < N
    · have hlt' : (j : Int) < (N : Int) := by omega
      have wj : IntKind.i64.wrap ((j : Int) + 1) = (j : Int) + 1 := IntWalk.i64_in _ ⟨by omega, by omega⟩
      gi_wp2_with fail
      refine ⟨trivial, (callsIn_wide.2 (line_any wr d j)).mono ?_⟩
      rintro e w2 ⟨rfl, hw2⟩
      obtain ⟨b1, b2, hg2, hs2, hk2⟩ := boxes_new wr d j w2 hw2
      have hD2 := hD.grown hg2
      have hM2 := (hM.keeps hk2).up (by omega : wr.heap.size ≤ w2.heap.size)
      have hB2 := (hg2.block _ hBs (by simp)).trans hB
      clear hw2
      gi_wp2_with fail
      refine range_line (by decide) (bi := wr.heap.size + 1) (bd := wr.heap.size) (d := d) (g := g) (i := j) (n := ws.length) rfl rfl b1 b2 hD2.dev (by omega) hf
        (fun s x => looseStep s (ws.getD (8 * j + x) PW.nought)) (gather looseStep ws 0 (8 * j) 0) (CountL w d g wr.heap.size ws ds) (by rw [hs2]; exact CountL.own hdd hrow hBs) ⟨hD2, hB2, grown_trans hG hg2, by omega, by rw [← hs2]; exact hM2⟩
        (fun x => { tmps := #[ptr d, undef, .int .i64 0, ptr w.heap.size, .int .i64 (j : Int), wordAt g (8 * j + x), ptr d, .int .i64 (N : Int), .int .i64 (j : Int), .bool true, .int .i64 (j : Int), ptr d, .int .i64 (j : Int), .func (.func 43) #[] #[ptr (wr.heap.size + 1), ptr wr.heap.size], wordAt g (8 * j + x), undef, undef, undef, undef, undef, undef, undef, u22, undef], defers := [] }) ?assign ?body ?done
      case assign =>
        intro l x W K hK
        gi_wp2
        exact hK
      case body =>
        rintro l s x W hx hL
        have hc : ws[8 * j + x]? = some (ws.getD (8 * j + x) PW.nought) := by
          rw [List.getD_eq_getElem?_getD, List.getElem?_eq_getElem (by omega : 8 * j + x < ws.length)]; rfl
        obtain ⟨f0, f1, f2, f3, f4, f5⟩ := hL.dev.get hc
        have cB : W.cell? ⟨w.heap.size, 0, none⟩ = some (.int .i64 s) := by unfold World.cell?; rw [hL.box]; rfl
        have zB : W.frozen? ⟨w.heap.size, 0, none⟩ = false := by simp [World.frozen?, hL.box]
        have hself := Lib.hid (show KeepsOthers W W ∧ Kept (wr.heap.size + 1) wr.heap.size d W W ∧ CountL w d g wr.heap.size ws ds s W from ⟨KeepsOthers.refl _, ⟨rfl, rfl, rfl⟩, hL⟩)
        have hst := Lib.hid (hL.step hdd hrow hBs (IntKind.i64.wrap (s + 1)))
        unfold wordAt ptr
        generalize hk : 8 * j + x = k at hc f0 f1 f2 f3 f4 f5 ⊢
        generalize ws.getD k PW.nought = c at hc f0 f1 f2 f3 f4 f5 ⊢
        cases hb : c.loose with
        | false =>
          rw [hb] at f2
          have hE : Hid (looseStep s c = s) := Lib.hid (by unfold looseStep; rw [if_neg (by simp [hb])])
          rw [hE.out]
          clear hL hc hE hN
          gi_wp2
          exact hself.out
        | true =>
          rw [hb] at f2
          have hE : Hid (looseStep s c = IntKind.i64.wrap (s + 1)) := Lib.hid (by unfold looseStep; rw [if_pos hb])
          rw [hE.out]
          obtain ⟨T, hT⟩ : ∃ T, IntKind.i64.wrap (s + 1) = T := ⟨_, rfl⟩
          rw [hT] at hst ⊢
          clear hL hc hE hN
          gi_wp2
          exact hst.out
      case done =>
        rintro D W hD3 hL hK
        have hline := Lib.hid (gather_line looseStep ws j 0)
        have hN2 := Lib.hid (show DevIs W d g ws ∧ W.heap[w.heap.size]? = some (.cells #[.int .i64 (gather looseStep ws 0 (8 * (j + 1)) 0)] 3 (0, 0)) ∧ w.grownBy W none ∧ Marks w.heap.size W W.heap.size ({ target := .collected D, args := #[] } :: ds) from
          ⟨hL.dev, by rw [← hline.out]; exact hL.box, hL.grown, D, rfl, by omega, (Array.getElem?_eq_some_iff.1 hK).1, hK, hL.marks.up (by omega)⟩)
        gi_wp2
        refine ⟨⟨j + 1, _, _, _, _, _, _, _, _, ⟨by omega, hN2.out⟩, rfl⟩, ?_⟩
        simp [intOf]; omega
    · obtain rfl : j = N := by omega
      have hlt' : ¬ (j : Int) < (j : Int) := by omega
      have cB : wr.cell? ⟨w.heap.size, 0, none⟩ = some (.int .i64 (gather looseStep ws 0 (8 * j) 0)) := by unfold World.cell?; rw [hB]; rfl
      rw [gather_all looseStep ws 0 (8 * j) hN.symm] at cB
      have hend' : ws.foldl looseStep 0 = (looseOf ws : Int) := by have := hend.out; rw [Nat.zero_add] at this; exact this
      rw [hend'] at cB
      clear hend hend'
      gi_wp2
      refine leaves_marks ds _ wr hM ?_
      intro w' hw'
      exact ⟨_, results_tmp rfl _ _ _, rfl, hw'.grown (Nat.le_refl _) hG⟩
end Go.Proofs.Ytimihchklecabaa
