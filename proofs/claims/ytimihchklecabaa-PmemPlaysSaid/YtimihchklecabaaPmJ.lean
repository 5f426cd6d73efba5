/- Package pmem: all that is sure, all that is seen. -/
import Derived.Test.YtimihchklecabaaPmH
import Derived.Maps.AppendAt
import Derived.Test.YtimihchklecabaaFrame
namespace Go.Proofs.Ytimihchklecabaa
open Go.RowKit Go.Grommet Go.Shelf
attribute [local go_sem] Oper.semAt_some

theorem theSure_any (w : World) (d g : Nat) (ws : List PW) (h : DevIs w d g ws) (k : Nat) (c : PW) (hc : ws[k]? = some c) :
    Calls Try.prog 41 #[wordAt g k] w fun e w' => e = .returned (.int .u64 (c.sure : Int)) ∧ w' = w := by
  obtain ⟨f0, f1, f2, f3, f4, f5⟩ := h.get hc
  unfold wordAt
  clear h hc
  go_enter Try.func41, Try.ntmps41
  go_wp2
  go_ret
  exact ⟨rfl, rfl⟩

theorem info64 : (Try.prog.info? 32).map (fun i => (i.zero, i.size, i.bytes)) = some (some (.int .u64 0), 1, 8) := by kernel_rfl
theorem gather_len {ws : List PW} {f : PW → Nat} (j : Nat) : ∀ m, (gather (fun s c => s ++ [f c]) ws j m []).length = m
  | 0 => rfl
  | m + 1 => by rw [gather_succ, List.length_append, gather_len j m]; rfl
theorem step_len {ws : List PW} {f : PW → Nat} (j : Nat) : ∀ (pre : List Nat) (s : List Nat), (pre.foldl (fun s x => s ++ [f (ws.getD (8 * j + x) PW.nought)]) s).length = s.length + pre.length
  | [], s => by simp
  | x :: pre, s => by rw [List.foldl_cons, step_len j pre, List.length_append, List.length_cons]; simp; omega

/-- A block of another type than the row's is not the row's. -/
theorem not_row {w : World} {base e size n g : Nat} {v : Value} {xs : List Value} {cs : Array Value} {T : TypeId} {f : Nat × Nat} (h : w.ownsRow base e size v n xs) (hb : w.heap[g]? = some (.cells cs T f)) (hT : T ≠ e) : some g ≠ v.ownBlock := by
  intro e'
  obtain ⟨cur, hcur⟩ := row_type h g e'.symm
  rw [hb] at hcur; cases hcur; exact hT rfl

structure AllL (f : Nat) (w : World) (d g b : Nat) (ws : List PW) (ds : List Deferred) (s : List Nat) (W : World) : Prop where
  dev : DevIs W d g ws
  fn : W.heap[w.heap.size]? = some (.cells #[.func (.func f) #[] #[]] 80 (0, 0))
  box : ∃ v, W.heap[w.heap.size + 2]? = some (.cells #[v] 44 (0, 0)) ∧ W.ownsRow w.heap.size 32 1 v s.length (s.map wv)
  grown : w.grownBy W none
  size : b + 2 ≤ W.heap.size
  marks : Marks w.heap.size W (b + 2) ds
  bi : ∃ cs, W.heap[b + 1]? = some (.cells cs 3 (0, 0))
  bd : ∃ cs, W.heap[b]? = some (.cells cs 25 (0, 0))
theorem AllL.own {f : Nat} {w : World} {d g b : Nat} {ws : List PW} {ds : List Deferred} (hd : d < w.heap.size) (hg : g < w.heap.size) (hb : w.heap.size + 2 < b) : OwnFrom (b + 2) (AllL f w d g b ws ds) := by
  intro s W W' row hs hgr hr
  refine ⟨DevIs.ownFrom (B := b + 2) (by omega) (by omega) ws W W' row hs.dev hgr hr, (hgr.block _ (Array.getElem?_eq_some_iff.1 hs.fn).1 (by intro e; have := (hr _ e.symm).1; omega)).trans hs.fn, ?_, grown_new hs.grown hgr (fun j e => by have := (hr j e).1; omega), Nat.le_trans hs.size hgr.size, Marks.ownFrom (U := b + 2) s W W' row hs.marks hgr hr, ?_, ?_⟩
  rotate_left
  · obtain ⟨cs, hb'⟩ := hs.bi
    exact ⟨cs, (hgr.block _ (Array.getElem?_eq_some_iff.1 hb').1 (by intro e; have := (hr _ e.symm).1; omega)).trans hb'⟩
  · obtain ⟨cs, hb'⟩ := hs.bd
    exact ⟨cs, (hgr.block _ (Array.getElem?_eq_some_iff.1 hb').1 (by intro e; have := (hr _ e.symm).1; omega)).trans hb'⟩
  obtain ⟨v, h1, h2⟩ := hs.box
  refine ⟨v, (hgr.block _ (Array.getElem?_eq_some_iff.1 h1).1 (by intro e; have := (hr _ e.symm).1; omega)).trans h1, ?_⟩
  refine (Turn.of (F := fun i => row = some i) hgr (fun _ e => e)).row h2 ?_
  intro i hi e
  obtain ⟨_, o, ho, hc⟩ := hr i e
  obtain ⟨cur, hcur⟩ := row_type h2 i hi
  rw [hcur] at ho; cases ho; cases hc

theorem AllL.boxes {A w' : World} {B : Nat} {v : Value} {n : Nat} {xs : List Value} {base : Nat} (hbA : A.heap[B]? = some (.cells #[v] 44 (0, 0))) (hown : A.ownsRow base 32 1 v n xs) (hg : A.grownBy w' v.ownBlock) : w'.heap[B]? = some (.cells #[v] 44 (0, 0)) :=
  (hg.block _ (Array.getElem?_eq_some_iff.1 hbA).1 (not_row hown hbA (by decide))).trans hbA
theorem AllL.round {f : Nat} {w W A w' : World} {d g b : Nat} {ws : List PW} {ds : List Deferred} {s : List Nat} {v v' : Value} {x : Nat} (h : AllL f w d g b ws ds s W) (hd : d < w.heap.size) (hgw : g < w.heap.size) (hb : w.heap.size + 2 < b)
    (hgA : W.grownBy A none) (hbA : A.heap[w.heap.size + 2]? = some (.cells #[v] 44 (0, 0))) (hfA : A.heap[w.heap.size]? = some (.cells #[.func (.func f) #[] #[]] 80 (0, 0))) (hdA : DevIs A d g ws)
    (hown : A.ownsRow w.heap.size 32 1 v s.length (s.map wv)) (hg : A.grownBy w' v.ownBlock) (ho : w'.ownsRow w.heap.size 32 1 v' (s.length + 1) (s.map wv ++ [.int .u64 (x : Int)])) (hkA : KeepsOthers W A) :
    KeepsOthers W (w'.setCell ⟨w.heap.size + 2, 0, none⟩ v') ∧ Kept (b + 1) b d W (w'.setCell ⟨w.heap.size + 2, 0, none⟩ v') ∧ AllL f w d g b ws ds (s ++ [x]) (w'.setCell ⟨w.heap.size + 2, 0, none⟩ v') := by
  have hsz := h.size
  have hle : W.heap.size ≤ A.heap.size := hgA.size
  have hB := AllL.boxes hbA hown hg
  have hk1 : KeepsOthers A w' := KeepsOthers.of_grownBy hg (fun j o e ho => by obtain ⟨cur, hcur⟩ := row_type hown j e; rw [hcur] at ho; cases ho; rfl)
  have hk := (hkA.trans hk1).trans (KeepsOthers.setCell w' ⟨w.heap.size + 2, 0, none⟩ v')
  have hgs := grown_setCell w' ⟨w.heap.size + 2, 0, none⟩ v'
  have hnew : ∀ i, v.ownBlock = some i → w.heap.size ≤ i := fun i hi => (hown.lt i hi).1
  have hD : DevIs (w'.setCell ⟨w.heap.size + 2, 0, none⟩ v') d g ws := by
    refine ⟨?_, ?_, hdA.ne, hdA.fits, hdA.small⟩
    · exact (hgs.block _ (by have := hg.size; omega) (by simp; omega)).trans ((hg.block _ (by omega) (by intro e; have := hnew d e.symm; omega)).trans hdA.dev)
    · exact (hgs.block _ (by have := hg.size; omega) (by simp; omega)).trans ((hg.block _ (by omega) (by intro e; have := hnew g e.symm; omega)).trans hdA.row)
  obtain ⟨csi, hbi⟩ := h.bi
  obtain ⟨csd, hbd⟩ := h.bd
  have hiA := (hgA.block _ (by omega) (by simp)).trans hbi
  have hdA2 := (hgA.block _ (by omega) (by simp)).trans hbd
  have hi2 := (hgs.block (b + 1) (by have := hg.size; omega) (by simp; omega)).trans ((hg.block _ (by omega) (not_row hown hiA (by decide))).trans hiA)
  have hd2 := (hgs.block b (by have := hg.size; omega) (by simp; omega)).trans ((hg.block _ (by omega) (not_row hown hdA2 (by decide))).trans hdA2)
  refine ⟨hk, ⟨?_, ?_, ?_⟩, hD, ?_, ⟨v', ?_, ?_⟩, ?_, ?_, h.marks.keeps hk, ⟨_, hi2⟩, ⟨_, hd2⟩⟩
  · exact hi2.trans hbi.symm
  · exact hd2.trans hbd.symm
  · exact hD.dev.trans h.dev.dev.symm
  · exact (hgs.block _ (by have := hg.size; omega) (by simp)).trans ((hg.block _ (by omega) (not_row hown hfA (by decide))).trans hfA)
  · have := heap_setCell_at (o := 0) hB v'; simpa using this
  · rw [List.length_append, List.map_append]
    exact (Turn.of (F := fun i => i = w.heap.size + 2) hgs (fun i e => by cases e; rfl)).row ho (fun i hi e => not_row ho hB (by decide) (by rw [← e]; exact hi.symm))
  · exact grown_new (grown_new (grown_trans h.grown hgA) hg hnew) hgs (fun i e => by cases e; show w.heap.size ≤ w.heap.size + 2; omega)
  · exact Nat.le_trans h.size (Nat.le_trans hle (Nat.le_trans hg.size hgs.size))

theorem step_append {F : Fence} {n : Nat} {P : Program} {o : Oper} {a : Act} {K : Act → World → Prop} {Q : Exit → Act → World → Prop} {w w' : World} (s x : Operand) (T : TypeId) {v v' y : Value}
    (ho : o.op = .call { callee := .builtin .append, args := #[s, x], argTypes := #[T, T] }) (hs : a.eval s = v) (hx : a.eval x = y) (hrun : (Builtin.append_ #[T, T] o.type #[v, y]).run P w = .ok v' w') (h : K (a.put o.dst v') w') : Oper.wpIn F n P o a w K Q := by
  unfold Oper.wpIn
  refine ⟨?_, ?_⟩
  · simp [Oper.about, ho, resolve, Target.leads, Sem.run_pure]
  · rw [Oper.semAt_plain F _ _ (by rw [ho]; intro c hc'; cases hc')]
    simp [execOp, ho, resolve, invoke, builtin, hs, hx, hrun, Result.andThen]
    exact h

set_option maxHeartbeats 4000000 in
theorem allSure_any (w : World) (d g : Nat) (ws : List PW) (h : DevIs w d g ws) (N : Nat) (hN : ws.length = 8 * N) :
    Calls Try.prog 40 #[ptr d, .func (.func 41) #[] #[]] w fun e w' => ∃ v, e = .returned v ∧ w'.ownsRow w.heap.size 32 1 v ws.length (ws.map fun c => wv c.sure) ∧ w.grownBy w' none := by
  have hf := h.fits
  have hN8 : ws.length / 8 = N := by omega
  have hrow := (Array.getElem?_eq_some_iff.1 h.row).1
  have hdd := (Array.getElem?_eq_some_iff.1 h.dev).1
  have hga := World.grownBy_alloc w (.cells #[.func (.func 41) #[] #[]] 80) none
  have ha := h.grown hga
  have HWd := Lib.hid (Words_any _ d g ws ha)
  have hbf := heap_alloc_new w (.cells #[.func (.func 41) #[] #[]] 80)
  obtain ⟨i0, hi0, hz0, hz1, hz2⟩ := info_parts info64
  obtain ⟨n, hn⟩ : ∃ n, ws.length = n := ⟨_, rfl⟩
  rw [hn] at HWd hN hf hN8
  replace hN := Lib.hid hN
  have hmk : ∀ w', (Instr.makeSlice 44 (.int .i64 0) (.int .i64 (n : Int))).run Try.prog w' = .ok (.slice (some ⟨w'.heap.size, 0, none⟩) 0 n) (w'.alloc (.cells (madeCells (Value.cells (.int .u64 0)) n) 32)) := by
    intro w'
    have := run_make (P := Try.prog) w' 44 32 i0 (.int .u64 0) Try.underlying44 hi0 hz0 .i64 .i64 0 n (Int.le_refl _) (by omega) (by rw [hz2]; omega) (by omega)
    rw [hz1, Nat.mul_one] at this
    exact this
  unfold ptr at HWd ⊢
  refine (callsIn_wide (n := 9)).1 ?_
  refine callsIn_of_wp_marks Try.func40 rfl trivial ?_ rfl
  simp only [Try.ntmps40, List.size_toArray, List.length_cons, List.length_nil, Nat.reduceAdd, Nat.reduceSub, Array.replicate_succ, Array.replicate_zero, List.push_toArray, List.append_toArray, List.nil_append, List.cons_append]
  gi_wp2_with fail
  generalize hwa : w.alloc (.cells #[.func (.func 41) #[] #[]] 80) = wa at hga ha hbf HWd ⊢
  refine ⟨trivial, (callsIn_wide.2 HWd.out).mono ?_⟩
  rintro e w1 ⟨rfl, rfl⟩
  have hsa : w1.heap.size = w.heap.size + 1 := by rw [← hwa]; simp
  gi_wp2_with fail
  have hr1 := heap_alloc_new w1 (.cells (madeCells (Value.cells (.int .u64 0)) n) 32)
  have hb1 := heap_alloc_new (w1.alloc (.cells (madeCells (Value.cells (.int .u64 0)) n) 32)) (.cells #[.slice (some ⟨w.heap.size + 1, 0, none⟩) 0 n] 44)
  have hg2 := grown_trans (World.grownBy_alloc w1 (.cells (madeCells (Value.cells (.int .u64 0)) n) 32) none) (World.grownBy_alloc (w1.alloc (.cells (madeCells (Value.cells (.int .u64 0)) n) 32)) (.cells #[.slice (some ⟨w.heap.size + 1, 0, none⟩) 0 n] 44) none)
  have hr2 := ((World.grownBy_alloc (w1.alloc (.cells (madeCells (Value.cells (.int .u64 0)) n) 32)) (.cells #[.slice (some ⟨w.heap.size + 1, 0, none⟩) 0 n] 44) none).block w1.heap.size (by simp) (by simp)).trans hr1
  have hmc : (madeCells (Value.cells (.int .u64 0)) n).size = n := by simp [madeCells, Value.cells]
  rw [World.size_alloc] at hb1
  generalize hw3 : (w1.alloc (.cells (madeCells (Value.cells (.int .u64 0)) n) 32)).alloc (.cells #[.slice (some ⟨w.heap.size + 1, 0, none⟩) 0 n] 44) = w3 at hb1 hg2 hr2
  simp only [Value.cells] at hw3
  rw [hw3]
  have hs3 : w3.heap.size = w.heap.size + 3 := by rw [← hw3]; simp; omega
  clear hw3 hwa hr1
  have h3 := ha.grown hg2
  have hf3 := (hg2.block _ (by omega) (by simp)).trans hbf
  have hB3 : w3.heap[w.heap.size + 2]? = some (.cells #[.slice (some ⟨w.heap.size + 1, 0, none⟩) 0 n] 44 (0, 0)) := by rw [hsa] at hb1; exact hb1
  have hO3 : w3.ownsRow w.heap.size 32 1 (.slice (some ⟨w.heap.size + 1, 0, none⟩) 0 n) 0 [] :=
    ⟨rfl, .inr ⟨w.heap.size + 1, n, _, rfl, by omega, by rw [hsa] at hr2; exact hr2, Nat.zero_le _, by unfold maxLen; omega, by rw [hmc, Nat.mul_one], by simp⟩⟩
  have hG3 : w.grownBy w3 none := grown_trans hga hg2
  have HL := Lib.hid (lines_any _ d g ws h3)
  rw [hn, hN8] at HL
  unfold ptr at HL
  clear hmk hga ha hbf HWd hr2 hb1 hg2 hmc
  refine ⟨trivial, (callsIn_wide.2 HL.out).mono ?_⟩
  rintro e w1 ⟨rfl, rfl⟩
  gi_wp2_with fail
  refine wpIn_loop (fun a' w' => ∃ (j : Nat) (u6 u14 u15 u16 u17 u18 u26 : Value) (ds : List Deferred), (j ≤ N ∧ DevIs w' d g ws ∧ w'.heap[w.heap.size]? = some (.cells #[.func (.func 41) #[] #[]] 80 (0, 0)) ∧ (∃ v, w'.heap[w.heap.size + 2]? = some (.cells #[v] 44 (0, 0)) ∧ w'.ownsRow w.heap.size 32 1 v (8 * j) ((gather (fun s c => s ++ [c.sure]) ws 0 (8 * j) []).map wv)) ∧ w.grownBy w' none ∧ Marks w.heap.size w' w'.heap.size ds) ∧ a' = { tmps := #[.pointer (some ⟨d, 0, none⟩), .func (.func 41) #[] #[], undef, .pointer (some ⟨w.heap.size, 0, none⟩), .slice none 0 0, .pointer (some ⟨w.heap.size + 2, 0, none⟩), u6, undef, .pointer (some ⟨d, 0, none⟩), .int .i64 (n : Int), .slice (some ⟨w.heap.size + 1, 0, none⟩) 0 n, .pointer (some ⟨d, 0, none⟩), .int .i64 (N : Int), .int .i64 (j : Int), u14, u15, u16, u17, u18, undef, undef, undef, undef, undef, undef, undef, u26, undef], defers := ds })
    (fun a' _ => N - (intOf (a'.tmps.getD 13 undef)).toNat) ?start ?round
  case start => exact ⟨0, _, _, _, _, _, _, _, [], ⟨Nat.zero_le _, h3, hf3, ⟨_, hB3, hO3⟩, hG3, trivial⟩, rfl⟩
  case round =>
    rintro _ wr ⟨j, u6, u14, u15, u16, u17, u18, u26, ds, ⟨hj, hD, hF, hB, hG, hM⟩, rfl⟩
    have j0 : (0 : Int) ≤ (j : Int) := by omega
    have hBs : w.heap.size + 2 < wr.heap.size := by obtain ⟨v, hv, _⟩ := hB; exact (Array.getElem?_eq_some_iff.1 hv).1
    by_cases hlt : j < N
    · have hlt' : (j : Int) < (N : Int) := by omega
      have wj : IntKind.i64.wrap ((j : Int) + 1) = (j : Int) + 1 := IntWalk.i64_in _ ⟨by omega, by omega⟩
      gi_wp2_with fail
      refine ⟨trivial, (callsIn_wide.2 (line_any wr d j)).mono ?_⟩
      rintro e w2 ⟨rfl, hw2⟩
      obtain ⟨b1, b2, hg2, hs2, hk2⟩ := boxes_new wr d j w2 hw2
      have hD2 := hD.grown hg2
      have hM2 := (hM.keeps hk2).up (by omega : wr.heap.size ≤ w2.heap.size)
      have hF2 := (hg2.block _ (by omega) (by simp)).trans hF
      have hB2 : ∃ v, w2.heap[w.heap.size + 2]? = some (.cells #[v] 44 (0, 0)) ∧ w2.ownsRow w.heap.size 32 1 v (gather (fun s c => s ++ [c.sure]) ws 0 (8 * j) []).length ((gather (fun s c => s ++ [c.sure]) ws 0 (8 * j) []).map wv) := by
        obtain ⟨v, h1, h2⟩ := hB
        refine ⟨v, (hg2.block _ hBs (by simp)).trans h1, ?_⟩
        rw [gather_len]
        exact (Turn.of (F := fun _ => False) hg2 (fun _ e => by cases e)).row h2 (fun _ _ e => e)
      clear hw2 hB
      gi_wp2_with fail
      refine range_line2 (by decide) (bi := wr.heap.size + 1) (bd := wr.heap.size) (d := d) (g := g) (i := j) (n := ws.length) rfl rfl b1 b2 hD2.dev (by rw [hn]; have := hN.out; omega) (by rw [hn]; exact hf)
        (fun s x => s ++ [(ws.getD (8 * j + x) PW.nought).sure]) (gather (fun s c => s ++ [c.sure]) ws 0 (8 * j) []) (AllL 41 w d g wr.heap.size ws ds) (by rw [hs2]; exact AllL.own hdd hrow hBs) ⟨hD2, hF2, hB2, grown_trans hG hg2, by omega, by rw [← hs2]; exact hM2, ⟨_, b1⟩, ⟨_, b2⟩⟩
        (fun x => { tmps := #[ptr d, .func (.func 41) #[] #[], undef, ptr w.heap.size, .slice none 0 0, ptr (w.heap.size + 2), .int .i64 (j : Int), wordAt g (8 * j + x), ptr d, .int .i64 (n : Int), .slice (some ⟨w.heap.size + 1, 0, none⟩) 0 n, ptr d, .int .i64 (N : Int), .int .i64 (j : Int), .bool true, .int .i64 (j : Int), ptr d, .int .i64 (j : Int), .func (.func 43) #[] #[ptr (wr.heap.size + 1), ptr wr.heap.size], wordAt g (8 * j + x), undef, undef, undef, undef, undef, undef, u26, undef], defers := [] }) ?assign ?body ?done
      case assign =>
        intro l x W K hK
        gi_wp2
        exact hK
      case body =>
        rintro l pre x W hpre hx hL
        have hslen := step_len (ws := ws) (f := PW.sure) j pre (gather (fun s c => s ++ [c.sure]) ws 0 (8 * j) [])
        rw [gather_len] at hslen
        have hNo := hN.out
        generalize pre.foldl (fun s x => s ++ [(ws.getD (8 * j + x) PW.nought).sure]) (gather (fun s c => s ++ [c.sure]) ws 0 (8 * j) []) = s at hL hslen ⊢
        have hc : ws[8 * j + x]? = some (ws.getD (8 * j + x) PW.nought) := by
          rw [List.getD_eq_getElem?_getD, List.getElem?_eq_getElem (by omega : 8 * j + x < ws.length)]; rfl
        generalize hk : 8 * j + x = k at hc ⊢
        generalize ws.getD k PW.nought = c at hc ⊢
        obtain ⟨v, hv, hown⟩ := hL.box
        have cF : W.cell? ⟨w.heap.size, 0, none⟩ = some (.func (.func 41) #[] #[]) := by unfold World.cell?; rw [hL.fn]; rfl
        have cR : W.cell? ⟨w.heap.size + 2, 0, none⟩ = some v := by unfold World.cell?; rw [hv]; rfl
        have zR : W.frozen? ⟨w.heap.size + 2, 0, none⟩ = false := by simp [World.frozen?, hv]
        have HC := Lib.hid (fun (Wx : World) (hDx : DevIs Wx d g ws) => theSure_any Wx d g ws hDx k c hc)
        have hDd := Lib.hid hL.dev
        have hDdr := Lib.hid (show DevIs W.drew d g ws from ⟨hL.dev.dev, hL.dev.row, hL.dev.ne, hL.dev.fits, hL.dev.small⟩)
        have hmix : Try.prog.follows .mixedOrders = true := by kernel_rfl
        obtain ⟨ad, cap, rfl, _⟩ := row_slice hown
        have hownA : (W.drew.alloc (.cells #[.int .u64 (c.sure : Int)] 32)).ownsRow w.heap.size 32 1 (.slice ad s.length cap) s.length (s.map wv) :=
          (Turn.of (F := fun _ => False) (grown_trans (grown_drew (World.grownBy.refl W none)) (World.grownBy_alloc W.drew (.cells #[.int .u64 (c.sure : Int)] 32) none)) (fun _ e => by cases e)).row hown (fun _ _ e => e)
        have hszL := hL.size
        obtain ⟨v', w', hap, ho', hg', _, hwhere⟩ := run_append_own_at (P := Try.prog) (W.drew.alloc (.cells #[.int .u64 (c.sure : Int)] 32)) w.heap.size 44 44 32 i0 (.int .u64 0) 1 8 Try.underlying44 hi0 hz0 hz1 hz2 rfl (by decide) _ s.length (s.map wv) hownA ⟨W.heap.size, 0, none⟩ 1 1 [.int .u64 (c.sure : Int)] rfl (cell_one_new _ _ _) (by simp [Value.oneCell']) (by unfold maxLen; omega) (by omega) (by simp; omega)
        obtain ⟨ad', cap', rfl, _⟩ := row_slice ho'
        have hgA : W.grownBy (W.drew.alloc (.cells #[.int .u64 (c.sure : Int)] 32)) none := grown_trans (grown_drew (World.grownBy.refl W none)) (World.grownBy_alloc W.drew (.cells #[.int .u64 (c.sure : Int)] 32) none)
        have hbA := (hgA.block _ (Array.getElem?_eq_some_iff.1 hv).1 (by simp)).trans hv
        have hfA := (hgA.block _ (Array.getElem?_eq_some_iff.1 hL.fn).1 (by simp)).trans hL.fn
        have hdA := hL.dev.grown hgA
        have hkA : KeepsOthers W (W.drew.alloc (.cells #[.int .u64 (c.sure : Int)] 32)) := (KeepsOthers.drew W).trans (KeepsOthers.alloc _ _)
        have cRA : (W.alloc (.cells #[.int .u64 (c.sure : Int)] 32)).cell? ⟨w.heap.size + 2, 0, none⟩ = some (.slice ad s.length cap) := by
          have : (W.drew.alloc (.cells #[.int .u64 (c.sure : Int)] 32)).cell? ⟨w.heap.size + 2, 0, none⟩ = some (.slice ad s.length cap) := by unfold World.cell?; rw [hbA]; rfl
          exact this
        have hfin := Lib.hid (AllL.round hL hdd hrow hBs hgA hbA hfA hdA hownA hg' ho' hkA)
        have hbw := AllL.boxes hbA hownA hg'
        have cR' : w'.cell? ⟨w.heap.size + 2, 0, none⟩ = some (.slice ad s.length cap) := by unfold World.cell?; rw [hbw]; rfl
        have zR' : w'.frozen? ⟨w.heap.size + 2, 0, none⟩ = false := by simp [World.frozen?, hbw]
        clear hslen hNo
        clear hbw hgA hbA hfA hdA hkA hownA hg' ho' hwhere hL hown hv
        unfold wordAt ptr at *
        gi_wp2_with fail
        refine wpIn_region_any hmix ?_
        change wpAnyIn _ _ _ _ _ _ _ _ _ (World.drew _)
        refine wpAnyIn_ready (rs := [0, 1, 2]) (by kernel_rfl) (by simp) ?_
        refine AllReadyIn.cons rfl (fun K hK => ?_) ?_
        · go_simp
          refine hK _ _ ?_; clear hK K
          try simp only [Act.put, List.setIfInBounds_toArray, List.set_cons_zero, List.set_cons_succ]
          refine wpAnyIn_ready (rs := [1, 2]) (by kernel_rfl) (by simp) ?_
          refine AllReadyIn.cons rfl (fun K hK => ?_) ?_
          · go_simp
            refine hK _ _ ?_; clear hK K
            try simp only [Act.put, List.setIfInBounds_toArray, List.set_cons_zero, List.set_cons_succ]
            refine wpAnyIn_ready (rs := [2]) (by kernel_rfl) (by simp) ?_
            refine AllReadyIn.cons rfl (fun K hK => ?_) ?_
            · go_simp
              refine hK _ _ ?_; clear hK K
              try simp only [Act.put, List.setIfInBounds_toArray, List.set_cons_zero, List.set_cons_succ]
              refine wpAnyIn_ready (rs := [3]) (by kernel_rfl) (by simp) ?_
              refine AllReadyIn.cons rfl (fun K hK => ?_) ?_
              · gi_wp2_with (refine ⟨trivial, (CallsIn.inRound l (callsIn_wide.2 (HC.out _ hDdr.out))).mono ?_⟩; rintro e w5 ⟨rfl, rfl⟩)
                try simp only [Act.put, List.setIfInBounds_toArray, List.set_cons_zero, List.set_cons_succ]
                refine wpAnyIn_ready (rs := [4]) (by kernel_rfl) (by simp) ?_
                refine AllReadyIn.cons rfl (fun K hK => ?_) ?_
                · go_simp
                  refine hK _ _ ?_; clear hK K
                  try simp only [Act.put, List.setIfInBounds_toArray, List.set_cons_zero, List.set_cons_succ]
                  refine wpAnyIn_ready (rs := [5]) (by kernel_rfl) (by simp) ?_
                  refine AllReadyIn.cons (o := { dst := some 25, op := Op.call { callee := Callee.builtin Builtin.append, args := #[Operand.tmp 20, Operand.tmp 24], argTypes := #[44, 44] }, type := 44, pos := "pmem.go:170", after := #[{ on := 0, ground := Ground.data }, { on := 4, ground := Ground.data }, { on := 3, ground := Ground.chain }], guard := none }) rfl (fun K hK => ?_) ?_
                  · refine Eq.mp (if_pos (by rfl)).symm ?_; refine step_append (v := .slice ad s.length cap) (y := .slice (some ⟨W.heap.size, 0, none⟩) 1 1) _ _ 44 rfl rfl rfl hap ?_
                    refine hK _ _ ?_; clear hK K
                    try simp only [Act.put, List.setIfInBounds_toArray, List.set_cons_zero, List.set_cons_succ]
                    refine wpAnyIn_ready (rs := [6]) (by kernel_rfl) (by simp) ?_
                    refine AllReadyIn.cons rfl (fun K hK => ?_) ?_
                    · go_simp
                      refine hK _ _ ?_; clear hK K
                      try simp only [Act.put, List.setIfInBounds_toArray, List.set_cons_zero, List.set_cons_succ]
                      refine wpAnyIn_done (by kernel_rfl) ?_ _
                      gi_wp2
                      exact hfin.out
                    exact AllReadyIn.nil
                  exact AllReadyIn.nil
                exact AllReadyIn.nil
              exact AllReadyIn.nil
            exact AllReadyIn.nil
          refine AllReadyIn.cons rfl (fun K hK => ?_) ?_
          · go_simp
            refine hK _ _ ?_; clear hK K
            try simp only [Act.put, List.setIfInBounds_toArray, List.set_cons_zero, List.set_cons_succ]
            refine wpAnyIn_ready (rs := [1]) (by kernel_rfl) (by simp) ?_
            refine AllReadyIn.cons rfl (fun K hK => ?_) ?_
            · go_simp
              refine hK _ _ ?_; clear hK K
              try simp only [Act.put, List.setIfInBounds_toArray, List.set_cons_zero, List.set_cons_succ]
              refine wpAnyIn_ready (rs := [3]) (by kernel_rfl) (by simp) ?_
              refine AllReadyIn.cons rfl (fun K hK => ?_) ?_
              · gi_wp2_with (refine ⟨trivial, (CallsIn.inRound l (callsIn_wide.2 (HC.out _ hDdr.out))).mono ?_⟩; rintro e w5 ⟨rfl, rfl⟩)
                try simp only [Act.put, List.setIfInBounds_toArray, List.set_cons_zero, List.set_cons_succ]
                refine wpAnyIn_ready (rs := [4]) (by kernel_rfl) (by simp) ?_
                refine AllReadyIn.cons rfl (fun K hK => ?_) ?_
                · go_simp
                  refine hK _ _ ?_; clear hK K
                  try simp only [Act.put, List.setIfInBounds_toArray, List.set_cons_zero, List.set_cons_succ]
                  refine wpAnyIn_ready (rs := [5]) (by kernel_rfl) (by simp) ?_
                  refine AllReadyIn.cons (o := { dst := some 25, op := Op.call { callee := Callee.builtin Builtin.append, args := #[Operand.tmp 20, Operand.tmp 24], argTypes := #[44, 44] }, type := 44, pos := "pmem.go:170", after := #[{ on := 0, ground := Ground.data }, { on := 4, ground := Ground.data }, { on := 3, ground := Ground.chain }], guard := none }) rfl (fun K hK => ?_) ?_
                  · refine Eq.mp (if_pos (by rfl)).symm ?_; refine step_append (v := .slice ad s.length cap) (y := .slice (some ⟨W.heap.size, 0, none⟩) 1 1) _ _ 44 rfl rfl rfl hap ?_
                    refine hK _ _ ?_; clear hK K
                    try simp only [Act.put, List.setIfInBounds_toArray, List.set_cons_zero, List.set_cons_succ]
                    refine wpAnyIn_ready (rs := [6]) (by kernel_rfl) (by simp) ?_
                    refine AllReadyIn.cons rfl (fun K hK => ?_) ?_
                    · go_simp
                      refine hK _ _ ?_; clear hK K
                      try simp only [Act.put, List.setIfInBounds_toArray, List.set_cons_zero, List.set_cons_succ]
                      refine wpAnyIn_done (by kernel_rfl) ?_ _
                      gi_wp2
                      exact hfin.out
                    exact AllReadyIn.nil
                  exact AllReadyIn.nil
                exact AllReadyIn.nil
              exact AllReadyIn.nil
            exact AllReadyIn.nil
          exact AllReadyIn.nil
        refine AllReadyIn.cons rfl (fun K hK => ?_) ?_
        · go_simp
          refine hK _ _ ?_; clear hK K
          try simp only [Act.put, List.setIfInBounds_toArray, List.set_cons_zero, List.set_cons_succ]
          refine wpAnyIn_ready (rs := [0, 2]) (by kernel_rfl) (by simp) ?_
          refine AllReadyIn.cons rfl (fun K hK => ?_) ?_
          · go_simp
            refine hK _ _ ?_; clear hK K
            try simp only [Act.put, List.setIfInBounds_toArray, List.set_cons_zero, List.set_cons_succ]
            refine wpAnyIn_ready (rs := [2]) (by kernel_rfl) (by simp) ?_
            refine AllReadyIn.cons rfl (fun K hK => ?_) ?_
            · go_simp
              refine hK _ _ ?_; clear hK K
              try simp only [Act.put, List.setIfInBounds_toArray, List.set_cons_zero, List.set_cons_succ]
              refine wpAnyIn_ready (rs := [3]) (by kernel_rfl) (by simp) ?_
              refine AllReadyIn.cons rfl (fun K hK => ?_) ?_
              · gi_wp2_with (refine ⟨trivial, (CallsIn.inRound l (callsIn_wide.2 (HC.out _ hDdr.out))).mono ?_⟩; rintro e w5 ⟨rfl, rfl⟩)
                try simp only [Act.put, List.setIfInBounds_toArray, List.set_cons_zero, List.set_cons_succ]
                refine wpAnyIn_ready (rs := [4]) (by kernel_rfl) (by simp) ?_
                refine AllReadyIn.cons rfl (fun K hK => ?_) ?_
                · go_simp
                  refine hK _ _ ?_; clear hK K
                  try simp only [Act.put, List.setIfInBounds_toArray, List.set_cons_zero, List.set_cons_succ]
                  refine wpAnyIn_ready (rs := [5]) (by kernel_rfl) (by simp) ?_
                  refine AllReadyIn.cons (o := { dst := some 25, op := Op.call { callee := Callee.builtin Builtin.append, args := #[Operand.tmp 20, Operand.tmp 24], argTypes := #[44, 44] }, type := 44, pos := "pmem.go:170", after := #[{ on := 0, ground := Ground.data }, { on := 4, ground := Ground.data }, { on := 3, ground := Ground.chain }], guard := none }) rfl (fun K hK => ?_) ?_
                  · refine Eq.mp (if_pos (by rfl)).symm ?_; refine step_append (v := .slice ad s.length cap) (y := .slice (some ⟨W.heap.size, 0, none⟩) 1 1) _ _ 44 rfl rfl rfl hap ?_
                    refine hK _ _ ?_; clear hK K
                    try simp only [Act.put, List.setIfInBounds_toArray, List.set_cons_zero, List.set_cons_succ]
                    refine wpAnyIn_ready (rs := [6]) (by kernel_rfl) (by simp) ?_
                    refine AllReadyIn.cons rfl (fun K hK => ?_) ?_
                    · go_simp
                      refine hK _ _ ?_; clear hK K
                      try simp only [Act.put, List.setIfInBounds_toArray, List.set_cons_zero, List.set_cons_succ]
                      refine wpAnyIn_done (by kernel_rfl) ?_ _
                      gi_wp2
                      exact hfin.out
                    exact AllReadyIn.nil
                  exact AllReadyIn.nil
                exact AllReadyIn.nil
              exact AllReadyIn.nil
            exact AllReadyIn.nil
          refine AllReadyIn.cons rfl (fun K hK => ?_) ?_
          · go_simp
            refine hK _ _ ?_; clear hK K
            try simp only [Act.put, List.setIfInBounds_toArray, List.set_cons_zero, List.set_cons_succ]
            refine wpAnyIn_ready (rs := [0, 3]) (by kernel_rfl) (by simp) ?_
            refine AllReadyIn.cons rfl (fun K hK => ?_) ?_
            · go_simp
              refine hK _ _ ?_; clear hK K
              try simp only [Act.put, List.setIfInBounds_toArray, List.set_cons_zero, List.set_cons_succ]
              refine wpAnyIn_ready (rs := [3]) (by kernel_rfl) (by simp) ?_
              refine AllReadyIn.cons rfl (fun K hK => ?_) ?_
              · gi_wp2_with (refine ⟨trivial, (CallsIn.inRound l (callsIn_wide.2 (HC.out _ hDdr.out))).mono ?_⟩; rintro e w5 ⟨rfl, rfl⟩)
                try simp only [Act.put, List.setIfInBounds_toArray, List.set_cons_zero, List.set_cons_succ]
                refine wpAnyIn_ready (rs := [4]) (by kernel_rfl) (by simp) ?_
                refine AllReadyIn.cons rfl (fun K hK => ?_) ?_
                · go_simp
                  refine hK _ _ ?_; clear hK K
                  try simp only [Act.put, List.setIfInBounds_toArray, List.set_cons_zero, List.set_cons_succ]
                  refine wpAnyIn_ready (rs := [5]) (by kernel_rfl) (by simp) ?_
                  refine AllReadyIn.cons (o := { dst := some 25, op := Op.call { callee := Callee.builtin Builtin.append, args := #[Operand.tmp 20, Operand.tmp 24], argTypes := #[44, 44] }, type := 44, pos := "pmem.go:170", after := #[{ on := 0, ground := Ground.data }, { on := 4, ground := Ground.data }, { on := 3, ground := Ground.chain }], guard := none }) rfl (fun K hK => ?_) ?_
                  · refine Eq.mp (if_pos (by rfl)).symm ?_; refine step_append (v := .slice ad s.length cap) (y := .slice (some ⟨W.heap.size, 0, none⟩) 1 1) _ _ 44 rfl rfl rfl hap ?_
                    refine hK _ _ ?_; clear hK K
                    try simp only [Act.put, List.setIfInBounds_toArray, List.set_cons_zero, List.set_cons_succ]
                    refine wpAnyIn_ready (rs := [6]) (by kernel_rfl) (by simp) ?_
                    refine AllReadyIn.cons rfl (fun K hK => ?_) ?_
                    · go_simp
                      refine hK _ _ ?_; clear hK K
                      try simp only [Act.put, List.setIfInBounds_toArray, List.set_cons_zero, List.set_cons_succ]
                      refine wpAnyIn_done (by kernel_rfl) ?_ _
                      gi_wp2
                      exact hfin.out
                    exact AllReadyIn.nil
                  exact AllReadyIn.nil
                exact AllReadyIn.nil
              exact AllReadyIn.nil
            refine AllReadyIn.cons rfl (fun K hK => ?_) ?_
            · gi_wp2_with (refine ⟨trivial, (CallsIn.inRound l (callsIn_wide.2 (HC.out _ hDdr.out))).mono ?_⟩; rintro e w5 ⟨rfl, rfl⟩)
              try simp only [Act.put, List.setIfInBounds_toArray, List.set_cons_zero, List.set_cons_succ]
              refine wpAnyIn_ready (rs := [0, 4]) (by kernel_rfl) (by simp) ?_
              refine AllReadyIn.cons rfl (fun K hK => ?_) ?_
              · go_simp
                refine hK _ _ ?_; clear hK K
                try simp only [Act.put, List.setIfInBounds_toArray, List.set_cons_zero, List.set_cons_succ]
                refine wpAnyIn_ready (rs := [4]) (by kernel_rfl) (by simp) ?_
                refine AllReadyIn.cons rfl (fun K hK => ?_) ?_
                · go_simp
                  refine hK _ _ ?_; clear hK K
                  try simp only [Act.put, List.setIfInBounds_toArray, List.set_cons_zero, List.set_cons_succ]
                  refine wpAnyIn_ready (rs := [5]) (by kernel_rfl) (by simp) ?_
                  refine AllReadyIn.cons (o := { dst := some 25, op := Op.call { callee := Callee.builtin Builtin.append, args := #[Operand.tmp 20, Operand.tmp 24], argTypes := #[44, 44] }, type := 44, pos := "pmem.go:170", after := #[{ on := 0, ground := Ground.data }, { on := 4, ground := Ground.data }, { on := 3, ground := Ground.chain }], guard := none }) rfl (fun K hK => ?_) ?_
                  · refine Eq.mp (if_pos (by rfl)).symm ?_; refine step_append (v := .slice ad s.length cap) (y := .slice (some ⟨W.heap.size, 0, none⟩) 1 1) _ _ 44 rfl rfl rfl hap ?_
                    refine hK _ _ ?_; clear hK K
                    try simp only [Act.put, List.setIfInBounds_toArray, List.set_cons_zero, List.set_cons_succ]
                    refine wpAnyIn_ready (rs := [6]) (by kernel_rfl) (by simp) ?_
                    refine AllReadyIn.cons rfl (fun K hK => ?_) ?_
                    · go_simp
                      refine hK _ _ ?_; clear hK K
                      try simp only [Act.put, List.setIfInBounds_toArray, List.set_cons_zero, List.set_cons_succ]
                      refine wpAnyIn_done (by kernel_rfl) ?_ _
                      gi_wp2
                      exact hfin.out
                    exact AllReadyIn.nil
                  exact AllReadyIn.nil
                exact AllReadyIn.nil
              refine AllReadyIn.cons rfl (fun K hK => ?_) ?_
              · go_simp
                refine hK _ _ ?_; clear hK K
                try simp only [Act.put, List.setIfInBounds_toArray, List.set_cons_zero, List.set_cons_succ]
                refine wpAnyIn_ready (rs := [0]) (by kernel_rfl) (by simp) ?_
                refine AllReadyIn.cons rfl (fun K hK => ?_) ?_
                · go_simp
                  refine hK _ _ ?_; clear hK K
                  try simp only [Act.put, List.setIfInBounds_toArray, List.set_cons_zero, List.set_cons_succ]
                  refine wpAnyIn_ready (rs := [5]) (by kernel_rfl) (by simp) ?_
                  refine AllReadyIn.cons (o := { dst := some 25, op := Op.call { callee := Callee.builtin Builtin.append, args := #[Operand.tmp 20, Operand.tmp 24], argTypes := #[44, 44] }, type := 44, pos := "pmem.go:170", after := #[{ on := 0, ground := Ground.data }, { on := 4, ground := Ground.data }, { on := 3, ground := Ground.chain }], guard := none }) rfl (fun K hK => ?_) ?_
                  · refine Eq.mp (if_pos (by rfl)).symm ?_; refine step_append (v := .slice ad s.length cap) (y := .slice (some ⟨W.heap.size, 0, none⟩) 1 1) _ _ 44 rfl rfl rfl hap ?_
                    refine hK _ _ ?_; clear hK K
                    try simp only [Act.put, List.setIfInBounds_toArray, List.set_cons_zero, List.set_cons_succ]
                    refine wpAnyIn_ready (rs := [6]) (by kernel_rfl) (by simp) ?_
                    refine AllReadyIn.cons rfl (fun K hK => ?_) ?_
                    · go_simp
                      refine hK _ _ ?_; clear hK K
                      try simp only [Act.put, List.setIfInBounds_toArray, List.set_cons_zero, List.set_cons_succ]
                      refine wpAnyIn_done (by kernel_rfl) ?_ _
                      gi_wp2
                      exact hfin.out
                    exact AllReadyIn.nil
                  exact AllReadyIn.nil
                exact AllReadyIn.nil
              exact AllReadyIn.nil
            exact AllReadyIn.nil
          exact AllReadyIn.nil
        refine AllReadyIn.cons rfl (fun K hK => ?_) ?_
        · go_simp
          refine hK _ _ ?_; clear hK K
          try simp only [Act.put, List.setIfInBounds_toArray, List.set_cons_zero, List.set_cons_succ]
          refine wpAnyIn_ready (rs := [0, 1]) (by kernel_rfl) (by simp) ?_
          refine AllReadyIn.cons rfl (fun K hK => ?_) ?_
          · go_simp
            refine hK _ _ ?_; clear hK K
            try simp only [Act.put, List.setIfInBounds_toArray, List.set_cons_zero, List.set_cons_succ]
            refine wpAnyIn_ready (rs := [1]) (by kernel_rfl) (by simp) ?_
            refine AllReadyIn.cons rfl (fun K hK => ?_) ?_
            · go_simp
              refine hK _ _ ?_; clear hK K
              try simp only [Act.put, List.setIfInBounds_toArray, List.set_cons_zero, List.set_cons_succ]
              refine wpAnyIn_ready (rs := [3]) (by kernel_rfl) (by simp) ?_
              refine AllReadyIn.cons rfl (fun K hK => ?_) ?_
              · gi_wp2_with (refine ⟨trivial, (CallsIn.inRound l (callsIn_wide.2 (HC.out _ hDdr.out))).mono ?_⟩; rintro e w5 ⟨rfl, rfl⟩)
                try simp only [Act.put, List.setIfInBounds_toArray, List.set_cons_zero, List.set_cons_succ]
                refine wpAnyIn_ready (rs := [4]) (by kernel_rfl) (by simp) ?_
                refine AllReadyIn.cons rfl (fun K hK => ?_) ?_
                · go_simp
                  refine hK _ _ ?_; clear hK K
                  try simp only [Act.put, List.setIfInBounds_toArray, List.set_cons_zero, List.set_cons_succ]
                  refine wpAnyIn_ready (rs := [5]) (by kernel_rfl) (by simp) ?_
                  refine AllReadyIn.cons (o := { dst := some 25, op := Op.call { callee := Callee.builtin Builtin.append, args := #[Operand.tmp 20, Operand.tmp 24], argTypes := #[44, 44] }, type := 44, pos := "pmem.go:170", after := #[{ on := 0, ground := Ground.data }, { on := 4, ground := Ground.data }, { on := 3, ground := Ground.chain }], guard := none }) rfl (fun K hK => ?_) ?_
                  · refine Eq.mp (if_pos (by rfl)).symm ?_; refine step_append (v := .slice ad s.length cap) (y := .slice (some ⟨W.heap.size, 0, none⟩) 1 1) _ _ 44 rfl rfl rfl hap ?_
                    refine hK _ _ ?_; clear hK K
                    try simp only [Act.put, List.setIfInBounds_toArray, List.set_cons_zero, List.set_cons_succ]
                    refine wpAnyIn_ready (rs := [6]) (by kernel_rfl) (by simp) ?_
                    refine AllReadyIn.cons rfl (fun K hK => ?_) ?_
                    · go_simp
                      refine hK _ _ ?_; clear hK K
                      try simp only [Act.put, List.setIfInBounds_toArray, List.set_cons_zero, List.set_cons_succ]
                      refine wpAnyIn_done (by kernel_rfl) ?_ _
                      gi_wp2
                      exact hfin.out
                    exact AllReadyIn.nil
                  exact AllReadyIn.nil
                exact AllReadyIn.nil
              exact AllReadyIn.nil
            exact AllReadyIn.nil
          refine AllReadyIn.cons rfl (fun K hK => ?_) ?_
          · go_simp
            refine hK _ _ ?_; clear hK K
            try simp only [Act.put, List.setIfInBounds_toArray, List.set_cons_zero, List.set_cons_succ]
            refine wpAnyIn_ready (rs := [0, 3]) (by kernel_rfl) (by simp) ?_
            refine AllReadyIn.cons rfl (fun K hK => ?_) ?_
            · go_simp
              refine hK _ _ ?_; clear hK K
              try simp only [Act.put, List.setIfInBounds_toArray, List.set_cons_zero, List.set_cons_succ]
              refine wpAnyIn_ready (rs := [3]) (by kernel_rfl) (by simp) ?_
              refine AllReadyIn.cons rfl (fun K hK => ?_) ?_
              · gi_wp2_with (refine ⟨trivial, (CallsIn.inRound l (callsIn_wide.2 (HC.out _ hDdr.out))).mono ?_⟩; rintro e w5 ⟨rfl, rfl⟩)
                try simp only [Act.put, List.setIfInBounds_toArray, List.set_cons_zero, List.set_cons_succ]
                refine wpAnyIn_ready (rs := [4]) (by kernel_rfl) (by simp) ?_
                refine AllReadyIn.cons rfl (fun K hK => ?_) ?_
                · go_simp
                  refine hK _ _ ?_; clear hK K
                  try simp only [Act.put, List.setIfInBounds_toArray, List.set_cons_zero, List.set_cons_succ]
                  refine wpAnyIn_ready (rs := [5]) (by kernel_rfl) (by simp) ?_
                  refine AllReadyIn.cons (o := { dst := some 25, op := Op.call { callee := Callee.builtin Builtin.append, args := #[Operand.tmp 20, Operand.tmp 24], argTypes := #[44, 44] }, type := 44, pos := "pmem.go:170", after := #[{ on := 0, ground := Ground.data }, { on := 4, ground := Ground.data }, { on := 3, ground := Ground.chain }], guard := none }) rfl (fun K hK => ?_) ?_
                  · refine Eq.mp (if_pos (by rfl)).symm ?_; refine step_append (v := .slice ad s.length cap) (y := .slice (some ⟨W.heap.size, 0, none⟩) 1 1) _ _ 44 rfl rfl rfl hap ?_
                    refine hK _ _ ?_; clear hK K
                    try simp only [Act.put, List.setIfInBounds_toArray, List.set_cons_zero, List.set_cons_succ]
                    refine wpAnyIn_ready (rs := [6]) (by kernel_rfl) (by simp) ?_
                    refine AllReadyIn.cons rfl (fun K hK => ?_) ?_
                    · go_simp
                      refine hK _ _ ?_; clear hK K
                      try simp only [Act.put, List.setIfInBounds_toArray, List.set_cons_zero, List.set_cons_succ]
                      refine wpAnyIn_done (by kernel_rfl) ?_ _
                      gi_wp2
                      exact hfin.out
                    exact AllReadyIn.nil
                  exact AllReadyIn.nil
                exact AllReadyIn.nil
              exact AllReadyIn.nil
            refine AllReadyIn.cons rfl (fun K hK => ?_) ?_
            · gi_wp2_with (refine ⟨trivial, (CallsIn.inRound l (callsIn_wide.2 (HC.out _ hDdr.out))).mono ?_⟩; rintro e w5 ⟨rfl, rfl⟩)
              try simp only [Act.put, List.setIfInBounds_toArray, List.set_cons_zero, List.set_cons_succ]
              refine wpAnyIn_ready (rs := [0, 4]) (by kernel_rfl) (by simp) ?_
              refine AllReadyIn.cons rfl (fun K hK => ?_) ?_
              · go_simp
                refine hK _ _ ?_; clear hK K
                try simp only [Act.put, List.setIfInBounds_toArray, List.set_cons_zero, List.set_cons_succ]
                refine wpAnyIn_ready (rs := [4]) (by kernel_rfl) (by simp) ?_
                refine AllReadyIn.cons rfl (fun K hK => ?_) ?_
                · go_simp
                  refine hK _ _ ?_; clear hK K
                  try simp only [Act.put, List.setIfInBounds_toArray, List.set_cons_zero, List.set_cons_succ]
                  refine wpAnyIn_ready (rs := [5]) (by kernel_rfl) (by simp) ?_
                  refine AllReadyIn.cons (o := { dst := some 25, op := Op.call { callee := Callee.builtin Builtin.append, args := #[Operand.tmp 20, Operand.tmp 24], argTypes := #[44, 44] }, type := 44, pos := "pmem.go:170", after := #[{ on := 0, ground := Ground.data }, { on := 4, ground := Ground.data }, { on := 3, ground := Ground.chain }], guard := none }) rfl (fun K hK => ?_) ?_
                  · refine Eq.mp (if_pos (by rfl)).symm ?_; refine step_append (v := .slice ad s.length cap) (y := .slice (some ⟨W.heap.size, 0, none⟩) 1 1) _ _ 44 rfl rfl rfl hap ?_
                    refine hK _ _ ?_; clear hK K
                    try simp only [Act.put, List.setIfInBounds_toArray, List.set_cons_zero, List.set_cons_succ]
                    refine wpAnyIn_ready (rs := [6]) (by kernel_rfl) (by simp) ?_
                    refine AllReadyIn.cons rfl (fun K hK => ?_) ?_
                    · go_simp
                      refine hK _ _ ?_; clear hK K
                      try simp only [Act.put, List.setIfInBounds_toArray, List.set_cons_zero, List.set_cons_succ]
                      refine wpAnyIn_done (by kernel_rfl) ?_ _
                      gi_wp2
                      exact hfin.out
                    exact AllReadyIn.nil
                  exact AllReadyIn.nil
                exact AllReadyIn.nil
              refine AllReadyIn.cons rfl (fun K hK => ?_) ?_
              · go_simp
                refine hK _ _ ?_; clear hK K
                try simp only [Act.put, List.setIfInBounds_toArray, List.set_cons_zero, List.set_cons_succ]
                refine wpAnyIn_ready (rs := [0]) (by kernel_rfl) (by simp) ?_
                refine AllReadyIn.cons rfl (fun K hK => ?_) ?_
                · go_simp
                  refine hK _ _ ?_; clear hK K
                  try simp only [Act.put, List.setIfInBounds_toArray, List.set_cons_zero, List.set_cons_succ]
                  refine wpAnyIn_ready (rs := [5]) (by kernel_rfl) (by simp) ?_
                  refine AllReadyIn.cons (o := { dst := some 25, op := Op.call { callee := Callee.builtin Builtin.append, args := #[Operand.tmp 20, Operand.tmp 24], argTypes := #[44, 44] }, type := 44, pos := "pmem.go:170", after := #[{ on := 0, ground := Ground.data }, { on := 4, ground := Ground.data }, { on := 3, ground := Ground.chain }], guard := none }) rfl (fun K hK => ?_) ?_
                  · refine Eq.mp (if_pos (by rfl)).symm ?_; refine step_append (v := .slice ad s.length cap) (y := .slice (some ⟨W.heap.size, 0, none⟩) 1 1) _ _ 44 rfl rfl rfl hap ?_
                    refine hK _ _ ?_; clear hK K
                    try simp only [Act.put, List.setIfInBounds_toArray, List.set_cons_zero, List.set_cons_succ]
                    refine wpAnyIn_ready (rs := [6]) (by kernel_rfl) (by simp) ?_
                    refine AllReadyIn.cons rfl (fun K hK => ?_) ?_
                    · go_simp
                      refine hK _ _ ?_; clear hK K
                      try simp only [Act.put, List.setIfInBounds_toArray, List.set_cons_zero, List.set_cons_succ]
                      refine wpAnyIn_done (by kernel_rfl) ?_ _
                      gi_wp2
                      exact hfin.out
                    exact AllReadyIn.nil
                  exact AllReadyIn.nil
                exact AllReadyIn.nil
              exact AllReadyIn.nil
            exact AllReadyIn.nil
          exact AllReadyIn.nil
        exact AllReadyIn.nil
      case done =>
        rintro D W hD3 hL hK
        have hline := Lib.hid (gather_line (fun s (c : PW) => s ++ [c.sure]) ws j [])
        have hN2 := Lib.hid (show DevIs W d g ws ∧ W.heap[w.heap.size]? = some (.cells #[.func (.func 41) #[] #[]] 80 (0, 0)) ∧ (∃ v, W.heap[w.heap.size + 2]? = some (.cells #[v] 44 (0, 0)) ∧ W.ownsRow w.heap.size 32 1 v (8 * (j + 1)) ((gather (fun s c => s ++ [c.sure]) ws 0 (8 * (j + 1)) []).map wv)) ∧ w.grownBy W none ∧ Marks w.heap.size W W.heap.size ({ target := .collected D, args := #[] } :: ds) from by
          refine ⟨hL.dev, hL.fn, ?_, hL.grown, D, rfl, by omega, (Array.getElem?_eq_some_iff.1 hK).1, hK, hL.marks.up (by omega)⟩
          obtain ⟨v, h1, h2⟩ := hL.box
          refine ⟨v, h1, ?_⟩
          have e1 : (List.range 8).foldl (fun s x => s ++ [(ws.getD (8 * j + x) PW.nought).sure]) (gather (fun s c => s ++ [c.sure]) ws 0 (8 * j) []) = gather (fun s c => s ++ [c.sure]) ws 0 (8 * (j + 1)) [] := hline.out
          rw [e1, gather_len] at h2
          exact h2)
        gi_wp2
        refine ⟨⟨j + 1, _, _, _, _, _, _, _, _, ⟨by omega, hN2.out⟩, rfl⟩, ?_⟩
        simp [intOf]; omega
    · obtain rfl : j = N := by omega
      have hlt' : ¬ (j : Int) < (j : Int) := by omega
      obtain ⟨v, hv, ho⟩ := hB
      have cB : wr.cell? ⟨w.heap.size + 2, 0, none⟩ = some v := by unfold World.cell?; rw [hv]; rfl
      obtain ⟨ad, cap, rfl, _⟩ := row_slice ho
      have hrowv : ws.foldl (fun s (c : PW) => s ++ [c.sure]) [] = ws.map (·.sure) := by
        have : ∀ (ws : List PW) (s : List Nat), ws.foldl (fun s (c : PW) => s ++ [c.sure]) s = s ++ ws.map (·.sure) := by
          intro ws; induction ws with
          | nil => intro s; simp
          | cons c ws ih => intro s; rw [List.foldl_cons, ih]; simp
        simpa using this ws []
      have ho2 := Lib.hid (show wr.ownsRow w.heap.size 32 1 (.slice ad (8 * j) cap) n (ws.map fun c => wv c.sure) from by
        rw [gather_all _ ws [] (8 * j) (by rw [hn]; exact hN.out.symm), hrowv, List.map_map] at ho
        rw [hN.out]; exact ho)
      gi_wp2
      refine leaves_marks ds _ wr hM ?_
      intro w' hw'
      refine ⟨_, results_tmp rfl _ _ _, _, rfl, ?_, hw'.grown (Nat.le_refl _) hG⟩
      obtain ⟨hl1, hr1⟩ := ho2.out
      refine ⟨hl1, ?_⟩
      rcases hr1 with h1 | ⟨g', cap', cur, h1, h2, h3, h4⟩
      · exact .inl h1
      · exact .inr ⟨g', cap', cur, h1, h2, hw'.cells _ _ _ _ h3, h4⟩
end Go.Proofs.Ytimihchklecabaa
