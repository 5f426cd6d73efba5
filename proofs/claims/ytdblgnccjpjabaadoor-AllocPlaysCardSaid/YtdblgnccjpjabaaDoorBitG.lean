/- Package bitmap: Count. -/
import Derived.Test.YtdblgnccjpjabaaDoorBitF
import Derived.Test.YtdblgnccjpjabaaDoorBitT
-- OPTIONAL
namespace Go.Proofs.YtdblgnccjpjabaaDoor
open Go.RowKit Go.Grommet Go.Shelf
attribute [local go_sem] Oper.semAt_some

theorem wpAnyIn_via {F : Fence} {n : Nat} {P : Program} {md : Region.Mode} {ops : Array Oper} {Q : Exit → Act → World → Prop} {fuel : Nat} {listed : Array Bool} {a : Act} {w : World} {fuel' : Nat} {listed' : Array Bool} {a' : Act} {w' : World}
    (h1 : wpAnyIn F n P md ops Q fuel' listed' a' w') (h : wpAnyIn F n P md ops Q fuel' listed' a' w' → wpAnyIn F n P md ops Q fuel listed a w) : wpAnyIn F n P md ops Q fuel listed a w := h h1

/-- What is counted, word by word. -/
def stepC (xs : List Nat) (L : List (Nat × Nat)) (a m : Nat) (s n : Nat) : Nat := s + popW (gotV xs L (a + n) &&& ownM m n)
theorem foldC_le (xs : List Nat) (L : List (Nat × Nat)) (a m : Nat) {N : Nat} : ∀ (pre : List (Fin N)) (s : Nat), pre.foldl (fun s x => stepC xs L a m s x.1) s ≤ s + 64 * pre.length
  | [], s => by simp
  | x :: pre, s => by
    rw [List.foldl_cons]
    have := foldC_le xs L a m pre (stepC xs L a m s x.1)
    have h2 : stepC xs L a m s x.1 ≤ s + 64 := by unfold stepC; have := cntF_le (gotV xs L (a + x.1) &&& ownM m x.1).testBit 64; unfold popW; omega
    rw [List.length_cons]; omega
theorem stepC_eq (xs : List Nat) (L : List (Nat × Nat)) (a m s n : Nat) : stepC xs L a m s n = s + popW (gotV xs L (a + n) &&& ownM m n) := rfl
theorem foldC_word (xs : List Nat) (L : List (Nat × Nat)) (a m N : Nat) : popW (gotV xs L (a + N) &&& ownM m N) = cntF (fun j => decide (64 * N + j < m) && mbit xs L a (64 * N + j)) 64 := by
  rw [pop_own]
  refine cntF_congr 64 (fun j hj => ?_)
  unfold mbit
  rw [show (64 * N + j) / 64 = N from by omega, show (64 * N + j) % 64 = j from by omega, Nat.mul_comm N 64]
theorem foldC_range (xs : List Nat) (L : List (Nat × Nat)) (a m N : Nat) : (List.range N).foldl (stepC xs L a m) 0 = cntF (fun i => decide (i < m) && mbit xs L a i) (64 * N) := by
  induction N with
  | zero => rfl
  | succ N ih =>
    have e := cntF_add (fun i => decide (i < m) && mbit xs L a i) (64 * N) 64
    rw [List.range_succ, List.foldl_append, ih, show 64 * (N + 1) = 64 * N + 64 from by omega, e, List.foldl_cons, List.foldl_nil, stepC_eq, foldC_word]
theorem foldC_all (xs : List Nat) (L : List (Nat × Nat)) (a m N : Nat) (h : m ≤ 64 * N) : (List.finRange N).foldl (fun s x => stepC xs L a m s x.1) 0 = cntF (mbit xs L a) m := by
  rw [← cntF_clip (mbit xs L a) m (64 * N) h, ← foldC_range]
  have : List.range N = (List.finRange N).map (·.1) := by apply List.ext_getElem <;> simp
  rw [this, List.foldl_map]

structure CntL (w : World) (X g a m : Nat) (F : Nat → Prop) (xs : List Nat) (L : List (Nat × Nat)) (s : Nat) (W : World) : Prop where
  obj : W.heap[X]? = some (.cells (mapCs g a m) 114 (0, 0))
  view : ViewIs W g F xs L
  b0 : W.heap[w.heap.size]? = some (.cells #[.pointer (some ⟨X, 0, none⟩)] 84 (0, 0))
  b1 : W.heap[w.heap.size + 1]? = some (.cells #[.int .i64 (s : Int)] 3 (0, 0))
  grown : w.grownBy W none
  size : w.heap.size + 3 ≤ W.heap.size
theorem CntL.own {w : World} {X g a m : Nat} {F : Nat → Prop} {xs : List Nat} {L : List (Nat × Nat)} (hX : X < w.heap.size) (hF : ∀ i, F i → i < w.heap.size) : OwnFrom (w.heap.size + 3) (CntL w X g a m F xs L) := by
  intro s W W' row hs hgr hr
  have hb : ∀ k, k < w.heap.size + 3 → W'.heap[k]? = W.heap[k]? := fun k hk => hgr.block _ (by have := hs.size; omega) (by intro e; have := (hr _ e.symm).1; omega)
  exact ⟨(hb _ (by omega)).trans hs.obj, view_kept hs.view (fun i hi => hb i (by have := hF i hi; omega)) hgr.size, (hb _ (by omega)).trans hs.b0, (hb _ (by omega)).trans hs.b1, grown_new hs.grown hgr (fun j e => by have := (hr j e).1; omega), Nat.le_trans hs.size hgr.size⟩
theorem CntL.step {w W : World} {X g a m : Nat} {F : Nat → Prop} {xs : List Nat} {L : List (Nat × Nat)} {s : Nat} (h : CntL w X g a m F xs L s W) (hX : X < w.heap.size) (hF : ∀ i, F i → i < w.heap.size) (t : Nat) :
    KeepsOthers W (W.setCell ⟨w.heap.size + 1, 0, none⟩ (.int .i64 (t : Int))) ∧ KeptF (fun i => i = w.heap.size + 2 ∨ i = X ∨ F i) W (W.setCell ⟨w.heap.size + 1, 0, none⟩ (.int .i64 (t : Int))) ∧ CntL w X g a m F xs L t (W.setCell ⟨w.heap.size + 1, 0, none⟩ (.int .i64 (t : Int))) := by
  have hsz := h.size
  have hg := grown_setCell W ⟨w.heap.size + 1, 0, none⟩ (.int .i64 (t : Int))
  have hb : ∀ k, k < w.heap.size + 3 → k ≠ w.heap.size + 1 → (W.setCell ⟨w.heap.size + 1, 0, none⟩ (.int .i64 (t : Int))).heap[k]? = W.heap[k]? := fun k hk hn => hg.block _ (by omega) (by simpa using hn)
  refine ⟨KeepsOthers.setCell _ _ _, KeptF.of (row := some (w.heap.size + 1)) (fun i hi => ?_) hg, (hb _ (by omega) (by omega)).trans h.obj, view_kept h.view (fun i hi => hb i (by have := hF i hi; omega) (by have := hF i hi; omega)) hg.size, (hb _ (by omega) (by omega)).trans h.b0, ?_, grown_new h.grown hg (fun j e => by cases e; exact Nat.le_succ _), Nat.le_trans h.size hg.size⟩
  · rcases hi with rfl | rfl | hi
    · exact ⟨by omega, by simp⟩
    · exact ⟨by omega, by simp; omega⟩
    · have := hF i hi; exact ⟨by omega, by simp; omega⟩
  · have := heap_setCell_at (o := 0) h.b1 (.int .i64 (t : Int)); simpa using this

set_option maxRecDepth 100000 in
set_option maxHeartbeats 400000 in
theorem MCount_any (w : World) (X g a m N : Nat) (F : Nat → Prop) (xs : List Nat) (L : List (Nat × Nat)) (hX : w.heap[X]? = some (.cells (mapCs g a m) 114 (0, 0))) (hv : ViewIs w g F xs L) (hM : MapOk xs.length a m) (hN : (m - 1) / 64 + 1 = N) :
    Calls Tryd.prog 59 #[.pointer (some ⟨X, 0, none⟩)] w fun e w' => e = .returned (.int .i64 ((cntF (mbit xs L a) m : Nat) : Int)) ∧ w.grownBy w' none := by
  obtain ⟨C, HC⟩ : ∃ C, Hid (cntF (mbit xs L a) m = C) := ⟨_, Lib.hid rfl⟩
  rw [HC.out]
  have hXs := (Array.getElem?_eq_some_iff.1 hX).1
  have hFs : ∀ i, F i → i < w.heap.size := by obtain ⟨_, _, _, h⟩ := hv; exact h.old
  have hml := hM.lt
  have hm1 := hM.one
  have hNs : N ≤ 1000000 := by omega
  have hend := Lib.hid (foldC_all xs L a m N (by omega))
  rw [HC.out] at hend
  have hsm : (∀ n ∈ xs, n < 18446744073709551616) ∧ (∀ p ∈ L, p.2 < 18446744073709551616) := by obtain ⟨_, _, _, h⟩ := hv; exact ⟨h.small, h.good.val⟩
  refine (callsIn_wide (n := 9)).1 ?_
  refine callsIn_of_wp_marks Tryd.func59 rfl trivial ?_ rfl
  simp only [Tryd.ntmps59, List.size_toArray, List.length_cons, List.length_nil, Nat.reduceAdd, Nat.reduceSub, Array.replicate_succ, Array.replicate_zero, List.push_toArray, List.append_toArray, List.nil_append, List.cons_append]
  gi_wp2_with fail
  refine ⟨trivial, (callsIn_wide.2 (mwords_any _ X)).mono ?_⟩
  rintro e w2 ⟨rfl, hw2⟩
  have hC : CntL w X g a m F xs L 0 w2 := by
    subst hw2
    have g1 := World.grownBy_alloc w (.cells #[.pointer (some ⟨X, 0, none⟩)] 84) none
    have g2 := World.grownBy_alloc (w.alloc (.cells #[.pointer (some ⟨X, 0, none⟩)] 84)) (.cells #[.int .i64 0] 3) none
    have g3 := World.grownBy_alloc ((w.alloc (.cells #[.pointer (some ⟨X, 0, none⟩)] 84)).alloc (.cells #[.int .i64 0] 3)) (.cells #[.pointer (some ⟨X, 0, none⟩)] 84) none
    have g := grown_trans (grown_trans g1 g2) g3
    refine ⟨(g.block _ hXs (by simp)).trans hX, view_kept hv (fun i hi => g.block i (hFs i hi) (by simp)) g.size, ?_, ?_, g, by simp⟩
    · exact ((grown_trans g2 g3).block _ (by simp) (by simp)).trans (heap_alloc_new w _)
    · have := heap_alloc_new (w.alloc (.cells #[.pointer (some ⟨X, 0, none⟩)] 84)) (.cells #[.int .i64 0] 3)
      rw [World.size_alloc] at this
      exact (g3.block _ (by simp) (by simp)).trans this
  have hbm : w2.heap[w.heap.size + 2]? = some (.cells #[.pointer (some ⟨X, 0, none⟩)] 84 (0, 0)) := by
    subst hw2
    have := heap_alloc_new ((w.alloc (.cells #[.pointer (some ⟨X, 0, none⟩)] 84)).alloc (.cells #[.int .i64 0] 3)) (.cells #[.pointer (some ⟨X, 0, none⟩)] 84)
    rw [World.size_alloc, World.size_alloc] at this
    exact this
  have hs2 : w2.heap.size = w.heap.size + 3 := by subst hw2; simp
  have eb : ((w.alloc (.cells #[.pointer (some ⟨X, 0, none⟩)] 84)).alloc (.cells #[.int .i64 0] 3)).heap.size = w.heap.size + 2 := by simp
  clear hw2 hX hv
  gi_wp2_with fail
  try rw [eb]
  generalize hB : w.heap.size = B at *
  refine wpIn_rangeFunc_ownF (α := Fin N) rfl (by omega) (gf := 84) (lb := #[.pointer (some ⟨B + 2, 0, none⟩)]) rfl trivial (enters_of Tryd.func84 (by kernel_rfl) rfl)
    (words_stops 8 w2 (B + 2) X g a m N F (fun i => i = B + 2 ∨ i = X ∨ F i) xs L hbm hC.obj hC.view hM hN ⟨.inl rfl, .inr (.inl rfl), fun i hi => .inr (.inr hi)⟩)
    (fun h k => h.trans k) (KeptF.put (fun i hi => by rcases hi with rfl | rfl | hi; omega; omega; have := hFs i hi; omega)) (Below.refl _ _) (fun _ => rfl)
    (fun (pre : List (Fin N)) W => CntL w X g a m F xs L (pre.foldl (fun s x => stepC xs L a m s x.1) 0) W) (fun _ _ _ => False) ?own (fun _ _ _ _ _ hs _ _ => hs) hC
    (fun x => { tmps := #[.pointer (some ⟨X, 0, none⟩), .pointer (some ⟨B, 0, none⟩), .int .i64 0, .pointer (some ⟨B + 1, 0, none⟩), .int .i64 (x.1 : Int), .int .u64 (gotV xs L (a + x.1) : Int), .pointer (some ⟨X, 0, none⟩), .func (.func 84) #[] #[.pointer (some ⟨B + 2, 0, none⟩)], .int .i64 (x.1 : Int), .int .u64 (gotV xs L (a + x.1) : Int), undef, undef, undef, undef, undef, undef, undef, undef, undef], defers := [] }) ?assign ?body ?done ?stop
  case own =>
    intro pre W W' row hs hg hr
    exact (CntL.own (by omega) (fun i hi => by have := hFs i hi; omega)) _ W W' row hs hg (by rw [hs2] at hr; rw [hB]; exact hr)
  case stop => intro _ _ _ _ _ _ h; exact h.elim
  case assign =>
    intro l x W K hK
    unfold encW
    gi_wp2
    exact hK
  case body =>
    rintro l pre ⟨n, hn⟩ W hL hlen
    have hfl := foldC_le xs L a m pre 0
    have hst : Hid ((pre ++ [(⟨n, hn⟩ : Fin N)]).foldl (fun s x => stepC xs L a m s x.1) 0 = stepC xs L a m (pre.foldl (fun s x => stepC xs L a m s x.1) 0) n) := Lib.hid (by rw [List.foldl_append, List.foldl_cons, List.foldl_nil])
    replace hL : CntL w X g a m F xs L (pre.foldl (fun s x => stepC xs L a m s x.1) 0) W := hL
    obtain ⟨s, es⟩ : ∃ s, pre.foldl (fun s x => stepC xs L a m s x.1) 0 = s := ⟨_, rfl⟩
    rw [es] at hL hfl hst
    have hLd : CntL w X g a m F xs L s W.drew := ⟨hL.obj, view_kept hL.view (fun _ _ => rfl) (Nat.le_refl _), hL.b0, hL.b1, grown_drew hL.grown, hL.size⟩
    have hVs := gotV_small hsm.1 hsm.2 (a + n)
    have hnm : n * 64 < m := by omega
    have HO := Lib.hid (own_any X g a m n W.drew hLd.obj (by omega) hnm)
    have hOs := ownM_small m n
    rw [stepC_eq] at hst
    obtain ⟨V, eV⟩ : ∃ V, gotV xs L (a + n) = V := ⟨_, rfl⟩
    obtain ⟨O, eO⟩ : ∃ O, ownM m n = O := ⟨_, rfl⟩
    obtain ⟨R, eR⟩ : ∃ R, V &&& O = R := ⟨_, rfl⟩
    have hRs : R < 18446744073709551616 := by rw [← eR]; rw [eV] at hVs; exact Nat.lt_of_le_of_lt Nat.and_le_left hVs
    have HP := Lib.hid (pop_any R W.drew hRs)
    have hp64 := cntF_le R.testBit 64
    rw [show cntF R.testBit 64 = popW R from rfl] at hp64
    obtain ⟨p, ep⟩ : ∃ p, popW R = p := ⟨_, rfl⟩
    rw [eO] at HO hOs hst
    rw [eV] at hVs hst
    rw [eR, ep] at hst
    rw [ep] at HP hp64
    have e3 := and_u64 V O hVs hOs R eR (V : Int) (O : Int) rfl rfl
    obtain ⟨t, et⟩ : ∃ t, s + p = t := ⟨_, rfl⟩
    rw [et] at hst
    have hs0 : s ≤ 64000000 := by omega
    have e4 : IntKind.i64.wrap ((s : Int) + (p : Int)) = (t : Int) := by rw [IntWalk.i64_in _ ⟨by omega, by omega⟩]; omega
    have st := hLd.step (by omega) (fun i hi => by have := hFs i hi; omega) t
    rw [hB] at st
    have HFIN := Lib.hid (show KeepsOthers W (W.drew.setCell ⟨B + 1, 0, none⟩ (.int .i64 (t : Int))) ∧ KeptF (fun i => i = B + 2 ∨ i = X ∨ F i) W (W.drew.setCell ⟨B + 1, 0, none⟩ (.int .i64 (t : Int))) ∧ CntL w X g a m F xs L ((pre ++ [(⟨n, hn⟩ : Fin N)]).foldl (fun s x => stepC xs L a m s x.1) 0) (W.drew.setCell ⟨B + 1, 0, none⟩ (.int .i64 (t : Int))) from
      ⟨(KeepsOthers.drew W).trans st.1, ⟨st.2.1.size, st.2.1.same⟩, by rw [hst.out]; exact st.2.2⟩)
    have b0 := hLd.b0
    have b1 := hLd.b1
    rw [hB] at b0 b1
    have c0 : W.drew.cell? ⟨B, 0, none⟩ = some (.pointer (some ⟨X, 0, none⟩)) := by simp [World.cell?] at b0 ⊢; simp [b0]
    have c1 : W.drew.cell? ⟨B + 1, 0, none⟩ = some (.int .i64 (s : Int)) := by simp [World.cell?] at b1 ⊢; simp [b1]
    have z1 : W.drew.frozen? ⟨B + 1, 0, none⟩ = false := by simp [World.frozen?] at b1 ⊢; simp [b1]
    clear st hst hL hLd b0 b1 es et eR eO hp64 hRs hOs hfl
    simp only [eV]
    clear eV hVs
    gi_wp2_with fail
    refine wpIn_region_any (by kernel_rfl) ?_
    change wpAnyIn _ _ _ _ _ _ _ _ _ (World.drew _)
    refine wpAnyIn_via (fuel' := 1) (listed' := #[true, true, true, true, true, true, true, true, false]) (a' := { tmps := #[.pointer (some ⟨X, 0, none⟩), .pointer (some ⟨B, 0, none⟩), .int .i64 0, .pointer (some ⟨B + 1, 0, none⟩), .int .i64 (n : Int), .int .u64 (V : Int), .pointer (some ⟨X, 0, none⟩), .func (.func 84) #[] #[.pointer (some ⟨B + 2, 0, none⟩)], .int .i64 (n : Int), .int .u64 (V : Int), .int .i64 (s : Int), .int .u64 (V : Int), .pointer (some ⟨X, 0, none⟩), .int .i64 (n : Int), .int .u64 (O : Int), .int .u64 (R : Int), .int .i64 (p : Int), .int .i64 (t : Int), undef], defers := [] }) (w' := W.drew) ?cHd0 (fun Hd0 => ?_)
    case cHd0 =>
      refine wpAnyIn_ready (rs := [8]) (by kernel_rfl) (by simp) ?_
      refine AllReadyIn.cons (o := { dst := none, op := Op.store 3 (Operand.tmp 3) (Operand.tmp 17), type := 0, pos := "bitmap.go:83", after := #[{ on := 7, ground := Ground.data }, { on := 6, ground := Ground.chain }, { on := 0, ground := Ground.phase }, { on := 1, ground := Ground.phase }, { on := 2, ground := Ground.phase }, { on := 3, ground := Ground.phase }, { on := 4, ground := Ground.phase }, { on := 5, ground := Ground.phase }, { on := 6, ground := Ground.phase }, { on := 7, ground := Ground.phase }], guard := none }) rfl (fun K hK => ?_) AllReadyIn.nil
      go_simp
      refine hK _ _ ?_; clear hK K
      try simp only [List.setIfInBounds_toArray, List.set_cons_zero, List.set_cons_succ]
      refine wpAnyIn_done (by kernel_rfl) ?_ _
      gi_wp2
      exact HFIN.out
    refine wpAnyIn_via (fuel' := 2) (listed' := #[true, true, true, true, true, true, true, false, false]) (a' := { tmps := #[.pointer (some ⟨X, 0, none⟩), .pointer (some ⟨B, 0, none⟩), .int .i64 0, .pointer (some ⟨B + 1, 0, none⟩), .int .i64 (n : Int), .int .u64 (V : Int), .pointer (some ⟨X, 0, none⟩), .func (.func 84) #[] #[.pointer (some ⟨B + 2, 0, none⟩)], .int .i64 (n : Int), .int .u64 (V : Int), .int .i64 (s : Int), .int .u64 (V : Int), .pointer (some ⟨X, 0, none⟩), .int .i64 (n : Int), .int .u64 (O : Int), .int .u64 (R : Int), .int .i64 (p : Int), undef, undef], defers := [] }) (w' := W.drew) ?cHd1 (fun Hd1 => ?_)
    case cHd1 =>
      refine wpAnyIn_ready (rs := [7]) (by kernel_rfl) (by simp) ?_
      refine AllReadyIn.cons (o := { dst := some 17, op := Op.binOp BinOp.add 3 (Operand.tmp 10) (Operand.tmp 16) 3, type := 3, pos := "bitmap.go:83", after := #[{ on := 0, ground := Ground.data }, { on := 6, ground := Ground.data }], guard := none }) rfl (fun K hK => ?_) ?_
      · go_simp
        exact hK _ _ Hd0
      exact AllReadyIn.nil
    refine wpAnyIn_via (fuel' := 3) (listed' := #[true, true, true, true, true, true, false, false, false]) (a' := { tmps := #[.pointer (some ⟨X, 0, none⟩), .pointer (some ⟨B, 0, none⟩), .int .i64 0, .pointer (some ⟨B + 1, 0, none⟩), .int .i64 (n : Int), .int .u64 (V : Int), .pointer (some ⟨X, 0, none⟩), .func (.func 84) #[] #[.pointer (some ⟨B + 2, 0, none⟩)], .int .i64 (n : Int), .int .u64 (V : Int), .int .i64 (s : Int), .int .u64 (V : Int), .pointer (some ⟨X, 0, none⟩), .int .i64 (n : Int), .int .u64 (O : Int), .int .u64 (R : Int), undef, undef, undef], defers := [] }) (w' := W.drew) ?cHd2 (fun Hd2 => ?_)
    case cHd2 =>
      refine wpAnyIn_ready (rs := [6]) (by kernel_rfl) (by simp) ?_
      refine AllReadyIn.cons (o := { dst := some 16, op := Op.call { callee := Callee.value (Operand.func 79), args := #[Operand.tmp 15], argTypes := #[31] }, type := 3, pos := "bitmap.go:83", after := #[{ on := 5, ground := Ground.data }, { on := 4, ground := Ground.chain }], guard := none }) rfl (fun K hK => ?_) ?_
      · go_simp
        refine ⟨trivial, (CallsIn.inRound l (callsIn_wide.2 HP.out)).mono ?_⟩
        rintro e w5 ⟨rfl, rfl⟩
        exact hK _ _ Hd1
      exact AllReadyIn.nil
    refine wpAnyIn_via (fuel' := 4) (listed' := #[true, true, true, true, true, false, false, false, false]) (a' := { tmps := #[.pointer (some ⟨X, 0, none⟩), .pointer (some ⟨B, 0, none⟩), .int .i64 0, .pointer (some ⟨B + 1, 0, none⟩), .int .i64 (n : Int), .int .u64 (V : Int), .pointer (some ⟨X, 0, none⟩), .func (.func 84) #[] #[.pointer (some ⟨B + 2, 0, none⟩)], .int .i64 (n : Int), .int .u64 (V : Int), .int .i64 (s : Int), .int .u64 (V : Int), .pointer (some ⟨X, 0, none⟩), .int .i64 (n : Int), .int .u64 (O : Int), undef, undef, undef, undef], defers := [] }) (w' := W.drew) ?cHd3 (fun Hd3 => ?_)
    case cHd3 =>
      refine wpAnyIn_ready (rs := [5]) (by kernel_rfl) (by simp) ?_
      refine AllReadyIn.cons (o := { dst := some 15, op := Op.binOp BinOp.and 31 (Operand.tmp 11) (Operand.tmp 14) 31, type := 31, pos := "bitmap.go:83", after := #[{ on := 1, ground := Ground.data }, { on := 4, ground := Ground.data }], guard := none }) rfl (fun K hK => ?_) ?_
      · go_simp
        exact hK _ _ Hd2
      exact AllReadyIn.nil
    refine wpAnyIn_via (fuel' := 5) (listed' := #[true, true, true, true, false, false, false, false, false]) (a' := { tmps := #[.pointer (some ⟨X, 0, none⟩), .pointer (some ⟨B, 0, none⟩), .int .i64 0, .pointer (some ⟨B + 1, 0, none⟩), .int .i64 (n : Int), .int .u64 (V : Int), .pointer (some ⟨X, 0, none⟩), .func (.func 84) #[] #[.pointer (some ⟨B + 2, 0, none⟩)], .int .i64 (n : Int), .int .u64 (V : Int), .int .i64 (s : Int), .int .u64 (V : Int), .pointer (some ⟨X, 0, none⟩), .int .i64 (n : Int), undef, undef, undef, undef, undef], defers := [] }) (w' := W.drew) ?cHd4 (fun Hd4 => ?_)
    case cHd4 =>
      refine wpAnyIn_ready (rs := [4]) (by kernel_rfl) (by simp) ?_
      refine AllReadyIn.cons (o := { dst := some 14, op := Op.call { callee := Callee.value (Operand.func 73), args := #[Operand.tmp 12, Operand.tmp 13], argTypes := #[84, 3] }, type := 31, pos := "bitmap.go:83", after := #[{ on := 2, ground := Ground.data }, { on := 3, ground := Ground.data }], guard := none }) rfl (fun K hK => ?_) ?_
      · go_simp
        refine ⟨trivial, (CallsIn.inRound l (callsIn_wide.2 HO.out)).mono ?_⟩
        rintro e w5 ⟨rfl, rfl⟩
        exact hK _ _ Hd3
      exact AllReadyIn.nil
    refine wpAnyIn_via (fuel' := 6) (listed' := #[true, true, true, false, false, false, false, false, false]) (a' := { tmps := #[.pointer (some ⟨X, 0, none⟩), .pointer (some ⟨B, 0, none⟩), .int .i64 0, .pointer (some ⟨B + 1, 0, none⟩), .int .i64 (n : Int), .int .u64 (V : Int), .pointer (some ⟨X, 0, none⟩), .func (.func 84) #[] #[.pointer (some ⟨B + 2, 0, none⟩)], .int .i64 (n : Int), .int .u64 (V : Int), .int .i64 (s : Int), .int .u64 (V : Int), .pointer (some ⟨X, 0, none⟩), undef, undef, undef, undef, undef, undef], defers := [] }) (w' := W.drew) ?cHd5 (fun Hd5 => ?_)
    case cHd5 =>
      refine wpAnyIn_ready (rs := [3]) (by kernel_rfl) (by simp) ?_
      refine AllReadyIn.cons (o := { dst := some 13, op := Op.move (Operand.tmp 4), type := 3, pos := "bitmap.go:83", after := #[], guard := none }) rfl (fun K hK => ?_) ?_
      · go_simp
        exact hK _ _ Hd4
      exact AllReadyIn.nil
    refine wpAnyIn_via (fuel' := 6) (listed' := #[true, true, false, true, false, false, false, false, false]) (a' := { tmps := #[.pointer (some ⟨X, 0, none⟩), .pointer (some ⟨B, 0, none⟩), .int .i64 0, .pointer (some ⟨B + 1, 0, none⟩), .int .i64 (n : Int), .int .u64 (V : Int), .pointer (some ⟨X, 0, none⟩), .func (.func 84) #[] #[.pointer (some ⟨B + 2, 0, none⟩)], .int .i64 (n : Int), .int .u64 (V : Int), .int .i64 (s : Int), .int .u64 (V : Int), undef, .int .i64 (n : Int), undef, undef, undef, undef, undef], defers := [] }) (w' := W.drew) ?cHd6 (fun Hd6 => ?_)
    case cHd6 =>
      refine wpAnyIn_ready (rs := [2]) (by kernel_rfl) (by simp) ?_
      refine AllReadyIn.cons (o := { dst := some 12, op := Op.load 84 (Operand.tmp 1), type := 84, pos := "bitmap.go:83", after := #[], guard := none }) rfl (fun K hK => ?_) ?_
      · go_simp
        exact hK _ _ Hd4
      exact AllReadyIn.nil
    refine wpAnyIn_via (fuel' := 7) (listed' := #[true, true, false, false, false, false, false, false, false]) (a' := { tmps := #[.pointer (some ⟨X, 0, none⟩), .pointer (some ⟨B, 0, none⟩), .int .i64 0, .pointer (some ⟨B + 1, 0, none⟩), .int .i64 (n : Int), .int .u64 (V : Int), .pointer (some ⟨X, 0, none⟩), .func (.func 84) #[] #[.pointer (some ⟨B + 2, 0, none⟩)], .int .i64 (n : Int), .int .u64 (V : Int), .int .i64 (s : Int), .int .u64 (V : Int), undef, undef, undef, undef, undef, undef, undef], defers := [] }) (w' := W.drew) ?cHd7 (fun Hd7 => ?_)
    case cHd7 =>
      refine wpAnyIn_ready (rs := [2, 3]) (by kernel_rfl) (by simp) ?_
      refine AllReadyIn.cons (o := { dst := some 12, op := Op.load 84 (Operand.tmp 1), type := 84, pos := "bitmap.go:83", after := #[], guard := none }) rfl (fun K hK => ?_) ?_
      · go_simp
        exact hK _ _ Hd5
      refine AllReadyIn.cons (o := { dst := some 13, op := Op.move (Operand.tmp 4), type := 3, pos := "bitmap.go:83", after := #[], guard := none }) rfl (fun K hK => ?_) ?_
      · go_simp
        exact hK _ _ Hd6
      exact AllReadyIn.nil
    refine wpAnyIn_via (fuel' := 5) (listed' := #[true, false, true, true, true, false, false, false, false]) (a' := { tmps := #[.pointer (some ⟨X, 0, none⟩), .pointer (some ⟨B, 0, none⟩), .int .i64 0, .pointer (some ⟨B + 1, 0, none⟩), .int .i64 (n : Int), .int .u64 (V : Int), .pointer (some ⟨X, 0, none⟩), .func (.func 84) #[] #[.pointer (some ⟨B + 2, 0, none⟩)], .int .i64 (n : Int), .int .u64 (V : Int), .int .i64 (s : Int), undef, .pointer (some ⟨X, 0, none⟩), .int .i64 (n : Int), .int .u64 (O : Int), undef, undef, undef, undef], defers := [] }) (w' := W.drew) ?cHd8 (fun Hd8 => ?_)
    case cHd8 =>
      refine wpAnyIn_ready (rs := [1]) (by kernel_rfl) (by simp) ?_
      refine AllReadyIn.cons (o := { dst := some 11, op := Op.move (Operand.tmp 5), type := 31, pos := "bitmap.go:83", after := #[], guard := none }) rfl (fun K hK => ?_) ?_
      · go_simp
        exact hK _ _ Hd3
      exact AllReadyIn.nil
    refine wpAnyIn_via (fuel' := 6) (listed' := #[true, false, true, true, false, false, false, false, false]) (a' := { tmps := #[.pointer (some ⟨X, 0, none⟩), .pointer (some ⟨B, 0, none⟩), .int .i64 0, .pointer (some ⟨B + 1, 0, none⟩), .int .i64 (n : Int), .int .u64 (V : Int), .pointer (some ⟨X, 0, none⟩), .func (.func 84) #[] #[.pointer (some ⟨B + 2, 0, none⟩)], .int .i64 (n : Int), .int .u64 (V : Int), .int .i64 (s : Int), undef, .pointer (some ⟨X, 0, none⟩), .int .i64 (n : Int), undef, undef, undef, undef, undef], defers := [] }) (w' := W.drew) ?cHd9 (fun Hd9 => ?_)
    case cHd9 =>
      refine wpAnyIn_ready (rs := [1, 4]) (by kernel_rfl) (by simp) ?_
      refine AllReadyIn.cons (o := { dst := some 11, op := Op.move (Operand.tmp 5), type := 31, pos := "bitmap.go:83", after := #[], guard := none }) rfl (fun K hK => ?_) ?_
      · go_simp
        exact hK _ _ Hd4
      refine AllReadyIn.cons (o := { dst := some 14, op := Op.call { callee := Callee.value (Operand.func 73), args := #[Operand.tmp 12, Operand.tmp 13], argTypes := #[84, 3] }, type := 31, pos := "bitmap.go:83", after := #[{ on := 2, ground := Ground.data }, { on := 3, ground := Ground.data }], guard := none }) rfl (fun K hK => ?_) ?_
      · go_simp
        refine ⟨trivial, (CallsIn.inRound l (callsIn_wide.2 HO.out)).mono ?_⟩
        rintro e w5 ⟨rfl, rfl⟩
        exact hK _ _ Hd8
      exact AllReadyIn.nil
    refine wpAnyIn_via (fuel' := 7) (listed' := #[true, false, true, false, false, false, false, false, false]) (a' := { tmps := #[.pointer (some ⟨X, 0, none⟩), .pointer (some ⟨B, 0, none⟩), .int .i64 0, .pointer (some ⟨B + 1, 0, none⟩), .int .i64 (n : Int), .int .u64 (V : Int), .pointer (some ⟨X, 0, none⟩), .func (.func 84) #[] #[.pointer (some ⟨B + 2, 0, none⟩)], .int .i64 (n : Int), .int .u64 (V : Int), .int .i64 (s : Int), undef, .pointer (some ⟨X, 0, none⟩), undef, undef, undef, undef, undef, undef], defers := [] }) (w' := W.drew) ?cHd10 (fun Hd10 => ?_)
    case cHd10 =>
      refine wpAnyIn_ready (rs := [1, 3]) (by kernel_rfl) (by simp) ?_
      refine AllReadyIn.cons (o := { dst := some 11, op := Op.move (Operand.tmp 5), type := 31, pos := "bitmap.go:83", after := #[], guard := none }) rfl (fun K hK => ?_) ?_
      · go_simp
        exact hK _ _ Hd5
      refine AllReadyIn.cons (o := { dst := some 13, op := Op.move (Operand.tmp 4), type := 3, pos := "bitmap.go:83", after := #[], guard := none }) rfl (fun K hK => ?_) ?_
      · go_simp
        exact hK _ _ Hd9
      exact AllReadyIn.nil
    refine wpAnyIn_via (fuel' := 7) (listed' := #[true, false, false, true, false, false, false, false, false]) (a' := { tmps := #[.pointer (some ⟨X, 0, none⟩), .pointer (some ⟨B, 0, none⟩), .int .i64 0, .pointer (some ⟨B + 1, 0, none⟩), .int .i64 (n : Int), .int .u64 (V : Int), .pointer (some ⟨X, 0, none⟩), .func (.func 84) #[] #[.pointer (some ⟨B + 2, 0, none⟩)], .int .i64 (n : Int), .int .u64 (V : Int), .int .i64 (s : Int), undef, undef, .int .i64 (n : Int), undef, undef, undef, undef, undef], defers := [] }) (w' := W.drew) ?cHd11 (fun Hd11 => ?_)
    case cHd11 =>
      refine wpAnyIn_ready (rs := [1, 2]) (by kernel_rfl) (by simp) ?_
      refine AllReadyIn.cons (o := { dst := some 11, op := Op.move (Operand.tmp 5), type := 31, pos := "bitmap.go:83", after := #[], guard := none }) rfl (fun K hK => ?_) ?_
      · go_simp
        exact hK _ _ Hd6
      refine AllReadyIn.cons (o := { dst := some 12, op := Op.load 84 (Operand.tmp 1), type := 84, pos := "bitmap.go:83", after := #[], guard := none }) rfl (fun K hK => ?_) ?_
      · go_simp
        exact hK _ _ Hd9
      exact AllReadyIn.nil
    refine wpAnyIn_via (fuel' := 8) (listed' := #[true, false, false, false, false, false, false, false, false]) (a' := { tmps := #[.pointer (some ⟨X, 0, none⟩), .pointer (some ⟨B, 0, none⟩), .int .i64 0, .pointer (some ⟨B + 1, 0, none⟩), .int .i64 (n : Int), .int .u64 (V : Int), .pointer (some ⟨X, 0, none⟩), .func (.func 84) #[] #[.pointer (some ⟨B + 2, 0, none⟩)], .int .i64 (n : Int), .int .u64 (V : Int), .int .i64 (s : Int), undef, undef, undef, undef, undef, undef, undef, undef], defers := [] }) (w' := W.drew) ?cHd12 (fun Hd12 => ?_)
    case cHd12 =>
      refine wpAnyIn_ready (rs := [1, 2, 3]) (by kernel_rfl) (by simp) ?_
      refine AllReadyIn.cons (o := { dst := some 11, op := Op.move (Operand.tmp 5), type := 31, pos := "bitmap.go:83", after := #[], guard := none }) rfl (fun K hK => ?_) ?_
      · go_simp
        exact hK _ _ Hd7
      refine AllReadyIn.cons (o := { dst := some 12, op := Op.load 84 (Operand.tmp 1), type := 84, pos := "bitmap.go:83", after := #[], guard := none }) rfl (fun K hK => ?_) ?_
      · go_simp
        exact hK _ _ Hd10
      refine AllReadyIn.cons (o := { dst := some 13, op := Op.move (Operand.tmp 4), type := 3, pos := "bitmap.go:83", after := #[], guard := none }) rfl (fun K hK => ?_) ?_
      · go_simp
        exact hK _ _ Hd11
      exact AllReadyIn.nil
    refine wpAnyIn_via (fuel' := 3) (listed' := #[false, true, true, true, true, true, true, false, false]) (a' := { tmps := #[.pointer (some ⟨X, 0, none⟩), .pointer (some ⟨B, 0, none⟩), .int .i64 0, .pointer (some ⟨B + 1, 0, none⟩), .int .i64 (n : Int), .int .u64 (V : Int), .pointer (some ⟨X, 0, none⟩), .func (.func 84) #[] #[.pointer (some ⟨B + 2, 0, none⟩)], .int .i64 (n : Int), .int .u64 (V : Int), undef, .int .u64 (V : Int), .pointer (some ⟨X, 0, none⟩), .int .i64 (n : Int), .int .u64 (O : Int), .int .u64 (R : Int), .int .i64 (p : Int), undef, undef], defers := [] }) (w' := W.drew) ?cHd13 (fun Hd13 => ?_)
    case cHd13 =>
      refine wpAnyIn_ready (rs := [0]) (by kernel_rfl) (by simp) ?_
      refine AllReadyIn.cons (o := { dst := some 10, op := Op.load 3 (Operand.tmp 3), type := 3, pos := "bitmap.go:83", after := #[], guard := none }) rfl (fun K hK => ?_) ?_
      · go_simp
        exact hK _ _ Hd1
      exact AllReadyIn.nil
    refine wpAnyIn_via (fuel' := 4) (listed' := #[false, true, true, true, true, true, false, false, false]) (a' := { tmps := #[.pointer (some ⟨X, 0, none⟩), .pointer (some ⟨B, 0, none⟩), .int .i64 0, .pointer (some ⟨B + 1, 0, none⟩), .int .i64 (n : Int), .int .u64 (V : Int), .pointer (some ⟨X, 0, none⟩), .func (.func 84) #[] #[.pointer (some ⟨B + 2, 0, none⟩)], .int .i64 (n : Int), .int .u64 (V : Int), undef, .int .u64 (V : Int), .pointer (some ⟨X, 0, none⟩), .int .i64 (n : Int), .int .u64 (O : Int), .int .u64 (R : Int), undef, undef, undef], defers := [] }) (w' := W.drew) ?cHd14 (fun Hd14 => ?_)
    case cHd14 =>
      refine wpAnyIn_ready (rs := [0, 6]) (by kernel_rfl) (by simp) ?_
      refine AllReadyIn.cons (o := { dst := some 10, op := Op.load 3 (Operand.tmp 3), type := 3, pos := "bitmap.go:83", after := #[], guard := none }) rfl (fun K hK => ?_) ?_
      · go_simp
        exact hK _ _ Hd2
      refine AllReadyIn.cons (o := { dst := some 16, op := Op.call { callee := Callee.value (Operand.func 79), args := #[Operand.tmp 15], argTypes := #[31] }, type := 3, pos := "bitmap.go:83", after := #[{ on := 5, ground := Ground.data }, { on := 4, ground := Ground.chain }], guard := none }) rfl (fun K hK => ?_) ?_
      · go_simp
        refine ⟨trivial, (CallsIn.inRound l (callsIn_wide.2 HP.out)).mono ?_⟩
        rintro e w5 ⟨rfl, rfl⟩
        exact hK _ _ Hd13
      exact AllReadyIn.nil
    refine wpAnyIn_via (fuel' := 5) (listed' := #[false, true, true, true, true, false, false, false, false]) (a' := { tmps := #[.pointer (some ⟨X, 0, none⟩), .pointer (some ⟨B, 0, none⟩), .int .i64 0, .pointer (some ⟨B + 1, 0, none⟩), .int .i64 (n : Int), .int .u64 (V : Int), .pointer (some ⟨X, 0, none⟩), .func (.func 84) #[] #[.pointer (some ⟨B + 2, 0, none⟩)], .int .i64 (n : Int), .int .u64 (V : Int), undef, .int .u64 (V : Int), .pointer (some ⟨X, 0, none⟩), .int .i64 (n : Int), .int .u64 (O : Int), undef, undef, undef, undef], defers := [] }) (w' := W.drew) ?cHd15 (fun Hd15 => ?_)
    case cHd15 =>
      refine wpAnyIn_ready (rs := [0, 5]) (by kernel_rfl) (by simp) ?_
      refine AllReadyIn.cons (o := { dst := some 10, op := Op.load 3 (Operand.tmp 3), type := 3, pos := "bitmap.go:83", after := #[], guard := none }) rfl (fun K hK => ?_) ?_
      · go_simp
        exact hK _ _ Hd3
      refine AllReadyIn.cons (o := { dst := some 15, op := Op.binOp BinOp.and 31 (Operand.tmp 11) (Operand.tmp 14) 31, type := 31, pos := "bitmap.go:83", after := #[{ on := 1, ground := Ground.data }, { on := 4, ground := Ground.data }], guard := none }) rfl (fun K hK => ?_) ?_
      · go_simp
        exact hK _ _ Hd14
      exact AllReadyIn.nil
    refine wpAnyIn_via (fuel' := 6) (listed' := #[false, true, true, true, false, false, false, false, false]) (a' := { tmps := #[.pointer (some ⟨X, 0, none⟩), .pointer (some ⟨B, 0, none⟩), .int .i64 0, .pointer (some ⟨B + 1, 0, none⟩), .int .i64 (n : Int), .int .u64 (V : Int), .pointer (some ⟨X, 0, none⟩), .func (.func 84) #[] #[.pointer (some ⟨B + 2, 0, none⟩)], .int .i64 (n : Int), .int .u64 (V : Int), undef, .int .u64 (V : Int), .pointer (some ⟨X, 0, none⟩), .int .i64 (n : Int), undef, undef, undef, undef, undef], defers := [] }) (w' := W.drew) ?cHd16 (fun Hd16 => ?_)
    case cHd16 =>
      refine wpAnyIn_ready (rs := [0, 4]) (by kernel_rfl) (by simp) ?_
      refine AllReadyIn.cons (o := { dst := some 10, op := Op.load 3 (Operand.tmp 3), type := 3, pos := "bitmap.go:83", after := #[], guard := none }) rfl (fun K hK => ?_) ?_
      · go_simp
        exact hK _ _ Hd4
      refine AllReadyIn.cons (o := { dst := some 14, op := Op.call { callee := Callee.value (Operand.func 73), args := #[Operand.tmp 12, Operand.tmp 13], argTypes := #[84, 3] }, type := 31, pos := "bitmap.go:83", after := #[{ on := 2, ground := Ground.data }, { on := 3, ground := Ground.data }], guard := none }) rfl (fun K hK => ?_) ?_
      · go_simp
        refine ⟨trivial, (CallsIn.inRound l (callsIn_wide.2 HO.out)).mono ?_⟩
        rintro e w5 ⟨rfl, rfl⟩
        exact hK _ _ Hd15
      exact AllReadyIn.nil
    refine wpAnyIn_via (fuel' := 7) (listed' := #[false, true, true, false, false, false, false, false, false]) (a' := { tmps := #[.pointer (some ⟨X, 0, none⟩), .pointer (some ⟨B, 0, none⟩), .int .i64 0, .pointer (some ⟨B + 1, 0, none⟩), .int .i64 (n : Int), .int .u64 (V : Int), .pointer (some ⟨X, 0, none⟩), .func (.func 84) #[] #[.pointer (some ⟨B + 2, 0, none⟩)], .int .i64 (n : Int), .int .u64 (V : Int), undef, .int .u64 (V : Int), .pointer (some ⟨X, 0, none⟩), undef, undef, undef, undef, undef, undef], defers := [] }) (w' := W.drew) ?cHd17 (fun Hd17 => ?_)
    case cHd17 =>
      refine wpAnyIn_ready (rs := [0, 3]) (by kernel_rfl) (by simp) ?_
      refine AllReadyIn.cons (o := { dst := some 10, op := Op.load 3 (Operand.tmp 3), type := 3, pos := "bitmap.go:83", after := #[], guard := none }) rfl (fun K hK => ?_) ?_
      · go_simp
        exact hK _ _ Hd5
      refine AllReadyIn.cons (o := { dst := some 13, op := Op.move (Operand.tmp 4), type := 3, pos := "bitmap.go:83", after := #[], guard := none }) rfl (fun K hK => ?_) ?_
      · go_simp
        exact hK _ _ Hd16
      exact AllReadyIn.nil
    refine wpAnyIn_via (fuel' := 7) (listed' := #[false, true, false, true, false, false, false, false, false]) (a' := { tmps := #[.pointer (some ⟨X, 0, none⟩), .pointer (some ⟨B, 0, none⟩), .int .i64 0, .pointer (some ⟨B + 1, 0, none⟩), .int .i64 (n : Int), .int .u64 (V : Int), .pointer (some ⟨X, 0, none⟩), .func (.func 84) #[] #[.pointer (some ⟨B + 2, 0, none⟩)], .int .i64 (n : Int), .int .u64 (V : Int), undef, .int .u64 (V : Int), undef, .int .i64 (n : Int), undef, undef, undef, undef, undef], defers := [] }) (w' := W.drew) ?cHd18 (fun Hd18 => ?_)
    case cHd18 =>
      refine wpAnyIn_ready (rs := [0, 2]) (by kernel_rfl) (by simp) ?_
      refine AllReadyIn.cons (o := { dst := some 10, op := Op.load 3 (Operand.tmp 3), type := 3, pos := "bitmap.go:83", after := #[], guard := none }) rfl (fun K hK => ?_) ?_
      · go_simp
        exact hK _ _ Hd6
      refine AllReadyIn.cons (o := { dst := some 12, op := Op.load 84 (Operand.tmp 1), type := 84, pos := "bitmap.go:83", after := #[], guard := none }) rfl (fun K hK => ?_) ?_
      · go_simp
        exact hK _ _ Hd16
      exact AllReadyIn.nil
    refine wpAnyIn_via (fuel' := 8) (listed' := #[false, true, false, false, false, false, false, false, false]) (a' := { tmps := #[.pointer (some ⟨X, 0, none⟩), .pointer (some ⟨B, 0, none⟩), .int .i64 0, .pointer (some ⟨B + 1, 0, none⟩), .int .i64 (n : Int), .int .u64 (V : Int), .pointer (some ⟨X, 0, none⟩), .func (.func 84) #[] #[.pointer (some ⟨B + 2, 0, none⟩)], .int .i64 (n : Int), .int .u64 (V : Int), undef, .int .u64 (V : Int), undef, undef, undef, undef, undef, undef, undef], defers := [] }) (w' := W.drew) ?cHd19 (fun Hd19 => ?_)
    case cHd19 =>
      refine wpAnyIn_ready (rs := [0, 2, 3]) (by kernel_rfl) (by simp) ?_
      refine AllReadyIn.cons (o := { dst := some 10, op := Op.load 3 (Operand.tmp 3), type := 3, pos := "bitmap.go:83", after := #[], guard := none }) rfl (fun K hK => ?_) ?_
      · go_simp
        exact hK _ _ Hd7
      refine AllReadyIn.cons (o := { dst := some 12, op := Op.load 84 (Operand.tmp 1), type := 84, pos := "bitmap.go:83", after := #[], guard := none }) rfl (fun K hK => ?_) ?_
      · go_simp
        exact hK _ _ Hd17
      refine AllReadyIn.cons (o := { dst := some 13, op := Op.move (Operand.tmp 4), type := 3, pos := "bitmap.go:83", after := #[], guard := none }) rfl (fun K hK => ?_) ?_
      · go_simp
        exact hK _ _ Hd18
      exact AllReadyIn.nil
    refine wpAnyIn_via (fuel' := 6) (listed' := #[false, false, true, true, true, false, false, false, false]) (a' := { tmps := #[.pointer (some ⟨X, 0, none⟩), .pointer (some ⟨B, 0, none⟩), .int .i64 0, .pointer (some ⟨B + 1, 0, none⟩), .int .i64 (n : Int), .int .u64 (V : Int), .pointer (some ⟨X, 0, none⟩), .func (.func 84) #[] #[.pointer (some ⟨B + 2, 0, none⟩)], .int .i64 (n : Int), .int .u64 (V : Int), undef, undef, .pointer (some ⟨X, 0, none⟩), .int .i64 (n : Int), .int .u64 (O : Int), undef, undef, undef, undef], defers := [] }) (w' := W.drew) ?cHd20 (fun Hd20 => ?_)
    case cHd20 =>
      refine wpAnyIn_ready (rs := [0, 1]) (by kernel_rfl) (by simp) ?_
      refine AllReadyIn.cons (o := { dst := some 10, op := Op.load 3 (Operand.tmp 3), type := 3, pos := "bitmap.go:83", after := #[], guard := none }) rfl (fun K hK => ?_) ?_
      · go_simp
        exact hK _ _ Hd8
      refine AllReadyIn.cons (o := { dst := some 11, op := Op.move (Operand.tmp 5), type := 31, pos := "bitmap.go:83", after := #[], guard := none }) rfl (fun K hK => ?_) ?_
      · go_simp
        exact hK _ _ Hd15
      exact AllReadyIn.nil
    refine wpAnyIn_via (fuel' := 7) (listed' := #[false, false, true, true, false, false, false, false, false]) (a' := { tmps := #[.pointer (some ⟨X, 0, none⟩), .pointer (some ⟨B, 0, none⟩), .int .i64 0, .pointer (some ⟨B + 1, 0, none⟩), .int .i64 (n : Int), .int .u64 (V : Int), .pointer (some ⟨X, 0, none⟩), .func (.func 84) #[] #[.pointer (some ⟨B + 2, 0, none⟩)], .int .i64 (n : Int), .int .u64 (V : Int), undef, undef, .pointer (some ⟨X, 0, none⟩), .int .i64 (n : Int), undef, undef, undef, undef, undef], defers := [] }) (w' := W.drew) ?cHd21 (fun Hd21 => ?_)
    case cHd21 =>
      refine wpAnyIn_ready (rs := [0, 1, 4]) (by kernel_rfl) (by simp) ?_
      refine AllReadyIn.cons (o := { dst := some 10, op := Op.load 3 (Operand.tmp 3), type := 3, pos := "bitmap.go:83", after := #[], guard := none }) rfl (fun K hK => ?_) ?_
      · go_simp
        exact hK _ _ Hd9
      refine AllReadyIn.cons (o := { dst := some 11, op := Op.move (Operand.tmp 5), type := 31, pos := "bitmap.go:83", after := #[], guard := none }) rfl (fun K hK => ?_) ?_
      · go_simp
        exact hK _ _ Hd16
      refine AllReadyIn.cons (o := { dst := some 14, op := Op.call { callee := Callee.value (Operand.func 73), args := #[Operand.tmp 12, Operand.tmp 13], argTypes := #[84, 3] }, type := 31, pos := "bitmap.go:83", after := #[{ on := 2, ground := Ground.data }, { on := 3, ground := Ground.data }], guard := none }) rfl (fun K hK => ?_) ?_
      · go_simp
        refine ⟨trivial, (CallsIn.inRound l (callsIn_wide.2 HO.out)).mono ?_⟩
        rintro e w5 ⟨rfl, rfl⟩
        exact hK _ _ Hd20
      exact AllReadyIn.nil
    refine wpAnyIn_via (fuel' := 8) (listed' := #[false, false, true, false, false, false, false, false, false]) (a' := { tmps := #[.pointer (some ⟨X, 0, none⟩), .pointer (some ⟨B, 0, none⟩), .int .i64 0, .pointer (some ⟨B + 1, 0, none⟩), .int .i64 (n : Int), .int .u64 (V : Int), .pointer (some ⟨X, 0, none⟩), .func (.func 84) #[] #[.pointer (some ⟨B + 2, 0, none⟩)], .int .i64 (n : Int), .int .u64 (V : Int), undef, undef, .pointer (some ⟨X, 0, none⟩), undef, undef, undef, undef, undef, undef], defers := [] }) (w' := W.drew) ?cHd22 (fun Hd22 => ?_)
    case cHd22 =>
      refine wpAnyIn_ready (rs := [0, 1, 3]) (by kernel_rfl) (by simp) ?_
      refine AllReadyIn.cons (o := { dst := some 10, op := Op.load 3 (Operand.tmp 3), type := 3, pos := "bitmap.go:83", after := #[], guard := none }) rfl (fun K hK => ?_) ?_
      · go_simp
        exact hK _ _ Hd10
      refine AllReadyIn.cons (o := { dst := some 11, op := Op.move (Operand.tmp 5), type := 31, pos := "bitmap.go:83", after := #[], guard := none }) rfl (fun K hK => ?_) ?_
      · go_simp
        exact hK _ _ Hd17
      refine AllReadyIn.cons (o := { dst := some 13, op := Op.move (Operand.tmp 4), type := 3, pos := "bitmap.go:83", after := #[], guard := none }) rfl (fun K hK => ?_) ?_
      · go_simp
        exact hK _ _ Hd21
      exact AllReadyIn.nil
    refine wpAnyIn_via (fuel' := 8) (listed' := #[false, false, false, true, false, false, false, false, false]) (a' := { tmps := #[.pointer (some ⟨X, 0, none⟩), .pointer (some ⟨B, 0, none⟩), .int .i64 0, .pointer (some ⟨B + 1, 0, none⟩), .int .i64 (n : Int), .int .u64 (V : Int), .pointer (some ⟨X, 0, none⟩), .func (.func 84) #[] #[.pointer (some ⟨B + 2, 0, none⟩)], .int .i64 (n : Int), .int .u64 (V : Int), undef, undef, undef, .int .i64 (n : Int), undef, undef, undef, undef, undef], defers := [] }) (w' := W.drew) ?cHd23 (fun Hd23 => ?_)
    case cHd23 =>
      refine wpAnyIn_ready (rs := [0, 1, 2]) (by kernel_rfl) (by simp) ?_
      refine AllReadyIn.cons (o := { dst := some 10, op := Op.load 3 (Operand.tmp 3), type := 3, pos := "bitmap.go:83", after := #[], guard := none }) rfl (fun K hK => ?_) ?_
      · go_simp
        exact hK _ _ Hd11
      refine AllReadyIn.cons (o := { dst := some 11, op := Op.move (Operand.tmp 5), type := 31, pos := "bitmap.go:83", after := #[], guard := none }) rfl (fun K hK => ?_) ?_
      · go_simp
        exact hK _ _ Hd18
      refine AllReadyIn.cons (o := { dst := some 12, op := Op.load 84 (Operand.tmp 1), type := 84, pos := "bitmap.go:83", after := #[], guard := none }) rfl (fun K hK => ?_) ?_
      · go_simp
        exact hK _ _ Hd21
      exact AllReadyIn.nil
    refine wpAnyIn_ready (rs := [0, 1, 2, 3]) (by kernel_rfl) (by simp) ?_
    refine AllReadyIn.cons (o := { dst := some 10, op := Op.load 3 (Operand.tmp 3), type := 3, pos := "bitmap.go:83", after := #[], guard := none }) rfl (fun K hK => ?_) ?_
    · go_simp
      exact hK _ _ Hd12
    refine AllReadyIn.cons (o := { dst := some 11, op := Op.move (Operand.tmp 5), type := 31, pos := "bitmap.go:83", after := #[], guard := none }) rfl (fun K hK => ?_) ?_
    · go_simp
      exact hK _ _ Hd19
    refine AllReadyIn.cons (o := { dst := some 12, op := Op.load 84 (Operand.tmp 1), type := 84, pos := "bitmap.go:83", after := #[], guard := none }) rfl (fun K hK => ?_) ?_
    · go_simp
      exact hK _ _ Hd22
    refine AllReadyIn.cons (o := { dst := some 13, op := Op.move (Operand.tmp 4), type := 3, pos := "bitmap.go:83", after := #[], guard := none }) rfl (fun K hK => ?_) ?_
    · go_simp
      exact hK _ _ Hd23
    exact AllReadyIn.nil
  case done =>
    intro D ys W hD hys hL hK
    subst hys
    rw [hend.out] at hL
    have cB : W.cell? ⟨B + 1, 0, none⟩ = some (.int .i64 (C : Int)) := by have := hL.b1; rw [hB] at this; simp [World.cell?, this]
    have hgr := hL.grown
    clear hL hend HC
    gi_wp2
    refine leaves_marks (B := B) _ (D + 1) W ⟨D, rfl, by omega, by omega, hK, trivial⟩ ?_
    intro w' hw'
    exact ⟨_, results_tmp rfl _ _ _, rfl, hw'.grown (by omega) hgr⟩
end Go.Proofs.YtdblgnccjpjabaaDoor
