/- Package pmem: a fence. -/
import Derived.Test.YtimihchklecabaaPmF
namespace Go.Proofs.Ytimihchklecabaa
open Go.RowKit Go.Grommet Go.Shelf
attribute [local go_sem] Oper.semAt_some

/-- Between two lines: so many lines' words were turned; the marks of those lines stand. -/
structure LinesR (f : PW → PW) (w : World) (d g : Nat) (ws : List PW) (j : Nat) (ds : List Deferred) (W : World) : Prop where
  dev : DevIs W d g (turnFrom f 0 (8 * j) ws)
  grown : w.grownBy W (some g)
  marks : Marks w.heap.size W W.heap.size ds

/-- Between two words of a line, within lines: b is where the line's boxes begin. -/
structure LineL (w : World) (d g n b : Nat) (ds : List Deferred) (s : List PW) (W : World) : Prop where
  dev : DevIs W d g s
  len : s.length = n
  grown : w.grownBy W (some g)
  size : b + 2 ≤ W.heap.size
  marks : Marks w.heap.size W (b + 2) ds
theorem LineL.own {w : World} {d g n b : Nat} {ds : List Deferred} (hd : d < w.heap.size) (hg : g < w.heap.size) (hb : w.heap.size ≤ b) : OwnFrom (b + 2) (LineL w d g n b ds) := by
  intro s W W' row hs hgr hr
  exact ⟨DevIs.ownFrom (B := b + 2) (by omega) (by omega) s W W' row hs.dev hgr hr, hs.len, grown_new hs.grown hgr (fun j e => by have := (hr j e).1; omega), Nat.le_trans hs.size hgr.size, Marks.ownFrom (U := b + 2) s W W' row hs.marks hgr hr⟩
theorem LineL.round {w W W' : World} {d g n b : Nat} {ds : List Deferred} {s s' : List PW} (h : LineL w d g n b ds s W) (hgw : g < w.heap.size) (hb : w.heap.size ≤ b) (hD' : DevIs W' d g s') (hl' : s'.length = s.length) (hg : W.grownBy W' (some g)) :
    KeepsOthers W W' ∧ Kept (b + 1) b d W W' ∧ LineL w d g n b ds s' W' := by
  have := h.size
  have hk : KeepsOthers W W' := KeepsOthers.of_grownBy hg (fun j o e ho => by cases e; rw [h.dev.row] at ho; cases ho; rfl)
  exact ⟨hk, Kept.of hg (by omega) (by omega) (Array.getElem?_eq_some_iff.1 h.dev.dev).1 (by omega) (by omega) h.dev.ne, hD', hl'.trans h.len, grown_trans h.grown hg, Nat.le_trans h.size hg.size, h.marks.keeps hk⟩
theorem LineL.next {f : PW → PW} {w W : World} {d g n b j D : Nat} {ds : List Deferred} {ws : List PW} (h : LineL w d g n b ds ((List.range 8).foldl (lineMap f j) (turnFrom f 0 (8 * j) ws)) W) (hb : w.heap.size ≤ b) (hD : b + 2 ≤ D) (hK : W.heap[D]? = some (.deferred (some []))) :
    LinesR f w d g ws (j + 1) ({ target := .collected D, args := #[] } :: ds) W :=
  ⟨by rw [← turnFrom_line]; exact h.dev, h.grown, D, rfl, by omega, (Array.getElem?_eq_some_iff.1 hK).1, hK, h.marks.up hD⟩
theorem LinesR.leave {f : PW → PW} {w W W' : World} {d g j : Nat} {ds : List Deferred} {ws : List PW} (h : LinesR f w d g ws j ds W) (hj : ws.length ≤ 8 * j) (k : AllBut w.heap.size W W') : DevIs W' d g (ws.map f) ∧ w.grownBy W' (some g) := by
  rw [← turnFrom_all f ws (8 * j) hj]
  exact ⟨⟨k.cells _ _ _ _ h.dev.dev, k.cells _ _ _ _ h.dev.row, h.dev.ne, h.dev.fits, h.dev.small⟩, k.grown (Nat.le_refl _) h.grown⟩

set_option maxHeartbeats 2000000 in
theorem Fence_ok (w : World) (d g : Nat) (ws : List PW) (h : DevIs w d g ws) (N : Nat) (hN : ws.length = 8 * N) :
    Calls Try.prog 20 #[ptr d] w fun e w' => e = .returned (.int .i64 0) ∧ DevIs w' d g (ws.map PW.fence) ∧ w.grownBy w' (some g) := by
  have HW := Lib.hid (lines_any w d g ws h)
  have hf := h.fits
  have hN8 : ws.length / 8 = N := by omega
  rw [hN8] at HW
  have hrow := (Array.getElem?_eq_some_iff.1 h.row).1
  have hdd := (Array.getElem?_eq_some_iff.1 h.dev).1
  unfold ptr at HW ⊢
  refine (callsIn_wide (n := 9)).1 ?_
  refine callsIn_of_wp_marks Try.func20 rfl trivial ?_ rfl
  simp only [Try.ntmps20, List.size_toArray, List.length_cons, List.length_nil, Nat.reduceAdd, Nat.reduceSub, Array.replicate_succ, Array.replicate_zero, List.push_toArray, List.append_toArray, List.nil_append, List.cons_append]
  gi_wp2_with fail
  refine ⟨trivial, (callsIn_wide.2 HW.out).mono ?_⟩
  rintro e w1 ⟨rfl, rfl⟩
  gi_wp2_with fail
  refine wpIn_loop (fun a' w' => ∃ (j : Nat) (u3 u11 u12 u13 u14 u15 u39 : Value) (ds : List Deferred), (j ≤ N ∧ LinesR PW.fence w1 d g ws j ds w') ∧ a' = { tmps := #[.pointer (some ⟨d, 0, none⟩), undef, .int .i64 0, u3, undef, undef, .pointer (some ⟨d, 0, none⟩), .bool false, .pointer (some ⟨d, 0, none⟩), .int .i64 (N : Int), .int .i64 (j : Int), u11, u12, u13, u14, u15, undef, undef, undef, undef, undef, undef, undef, undef, undef, undef, undef, undef, undef, undef, undef, undef, undef, undef, undef, undef, undef, undef, undef, u39], defers := ds })
    (fun a' _ => N - (intOf (a'.tmps.getD 10 undef)).toNat) ?start ?round
  case start => exact ⟨0, _, _, _, _, _, _, _, [], ⟨Nat.zero_le _, h, World.grownBy.refl _ _, trivial⟩, rfl⟩
  case round =>
    rintro _ wr ⟨j, u3, u11, u12, u13, u14, u15, u39, ds, ⟨hj, hR⟩, rfl⟩
    have j0 : (0 : Int) ≤ (j : Int) := by omega
    by_cases hlt : j < N
    · have hlt' : (j : Int) < (N : Int) := by omega
      have hle := hR.grown.size
      have wj : IntKind.i64.wrap ((j : Int) + 1) = (j : Int) + 1 := IntWalk.i64_in _ ⟨by omega, by omega⟩
      gi_wp2_with fail
      refine ⟨trivial, (callsIn_wide.2 (line_any wr d j)).mono ?_⟩
      rintro e w2 ⟨rfl, hw2⟩
      obtain ⟨b1, b2, hg2, hs2, hk2⟩ := boxes_new wr d j w2 hw2
      have hD2 := hR.dev.grown hg2
      have hM2 := (hR.marks.keeps hk2).up (by omega : wr.heap.size ≤ w2.heap.size)
      clear hw2
      gi_wp2_with fail
      refine range_line (by decide) (bi := wr.heap.size + 1) (bd := wr.heap.size) (d := d) (g := g) (i := j) (n := ws.length) rfl rfl b1 b2 (by have := hD2.dev; rwa [turnFrom_len] at this) (by omega) hf
        (lineMap PW.fence j) (turnFrom PW.fence 0 (8 * j) ws) (LineL w1 d g ws.length wr.heap.size ds) (by rw [hs2]; exact LineL.own hdd hrow hle) ⟨hD2, turnFrom_len _ _ _ _, grown_new hR.grown hg2 (fun _ e => by cases e), by omega, by rw [← hs2]; exact hM2⟩
        (fun x => { tmps := #[ptr d, undef, .int .i64 0, .int .i64 (j : Int), wordAt g (8 * j + x), undef, ptr d, .bool false, ptr d, .int .i64 (N : Int), .int .i64 (j : Int), .bool true, .int .i64 (j : Int), ptr d, .int .i64 (j : Int), .func (.func 43) #[] #[ptr (wr.heap.size + 1), ptr wr.heap.size], wordAt g (8 * j + x), undef, undef, undef, undef, undef, undef, undef, undef, undef, undef, undef, undef, undef, undef, undef, undef, undef, undef, undef, undef, undef, undef, u39], defers := [] }) ?assign ?body ?done
      case assign =>
        intro l x W K hK
        gi_wp2
        exact hK
      case body =>
        rintro l s x W hx hL
        have hD := hL.dev
        have hl := hL.len
        obtain ⟨c, hc⟩ : ∃ c, s[8 * j + x]? = some c := ⟨_, List.getElem?_eq_getElem (by omega)⟩
        have hlt := (List.getElem?_eq_some_iff.1 hc).1
        obtain ⟨f0, f1, f2, f3, f4, f5⟩ := hD.get hc
        unfold lineMap
        rw [modify_set hc]
        unfold wordAt ptr
        generalize hk : 8 * j + x = k at hc hlt f0 f1 f2 f3 f4 f5 ⊢
        have HRo := Lib.hid (fun W' s' (a : DevIs W' d g s') (b : s'.length = s.length) (e : W.grownBy W' (some g)) => hL.round hrow hle a b e)
        cases hb : c.flushed with
        | false =>
          rw [hb] at f3
          have hE : Hid (s.set k (PW.fence c) = s) := Lib.hid (by unfold PW.fence; rw [if_neg (by rw [hb]; decide)]; exact set_same hc)
          rw [hE.out]
          have hfin := Lib.hid (HRo.out W s hD rfl (World.grownBy.refl _ _))
          clear HRo hD hL hl hc hE hN
          gi_wp2
          exact hfin.out
        | true =>
          rw [hb] at f3
          have hsm := hD.of hc
          have HS := Lib.hid (settle_any W d g s hD k c hc c.kept hsm.2.2)
          have hE2 : Hid (s.set k (PW.fence c) = s.set k ⟨c.kept, c.seen, c.again, false, false, 0⟩) := Lib.hid (by unfold PW.fence; rw [if_pos hb])
          rw [hE2.out]
          unfold wordAt at HS
          have HP := Lib.hid (fun (W' : World) (hD' : DevIs W' d g (s.set k (settled c.kept c.seen))) => show DevIs (W'.setCell ⟨g, k * 6 + 2, none⟩ (.bool c.again)) d g (s.set k ⟨c.kept, c.seen, c.again, false, false, 0⟩) from by
            have := hD'.put (k := k) (c := settled c.kept c.seen) (c' := ⟨c.kept, c.seen, c.again, false, false, 0⟩) (by simp [hlt]) 2 (by decide) (.bool c.again) rfl ⟨hsm.2.2, hsm.2.1, by show 0 < _; decide⟩
            rwa [List.set_set] at this)
          have HF := Lib.hid (fun (W' : World) (hD' : DevIs W' d g (s.set k (settled c.kept c.seen))) => show W'.cell? ⟨g, k * 6 + 2, none⟩ = some (.bool false) ∧ W'.frozen? ⟨g, k * 6 + 2, none⟩ = false from ⟨(hD'.get (k := k) (c := settled c.kept c.seen) (by simp [hlt])).2.2.1, hD'.free _⟩)
          have hle2 : (s.set k ⟨c.kept, c.seen, c.again, false, false, 0⟩).length = s.length := by simp
          generalize s.set k (settled c.kept c.seen) = s1 at HS HP HF
          generalize s.set k ⟨c.kept, c.seen, c.again, false, false, 0⟩ = s' at HP hle2 ⊢
          clear hE2 hD hL hl hc hsm hN
          gi_wp2_with fail
          refine ⟨trivial, (CallsIn.inRound l (callsIn_wide.2 HS.out)).mono ?_⟩
          rintro e W' ⟨⟨v, rfl⟩, hD', hg'⟩
          obtain ⟨q1, q2⟩ := HF.out W' hD'
          have hfin := Lib.hid (HRo.out _ _ (HP.out W' hD') hle2 (grown_trans hg' (grown_setCell W' ⟨g, k * 6 + 2, none⟩ _)))
          clear HRo HS HP HF hD' hg'
          gi_wp2
          exact hfin.out
      case done =>
        rintro D W hD hL hK
        have hN := Lib.hid (hL.next hle (by rw [← hs2]; exact hD) hK)
        gi_wp2
        refine ⟨⟨j + 1, _, _, _, _, _, _, _, _, ⟨by omega, hN.out⟩, rfl⟩, ?_⟩
        simp [intOf]; omega
    · obtain rfl : j = N := by omega
      have hlt' : ¬ (j : Int) < (j : Int) := by omega
      gi_wp2
      refine leaves_marks ds _ wr hR.marks ?_
      intro w' hw'
      exact ⟨_, results_tmp rfl _ _ _, rfl, hR.leave (by omega) hw'⟩
end Go.Proofs.Ytimihchklecabaa
