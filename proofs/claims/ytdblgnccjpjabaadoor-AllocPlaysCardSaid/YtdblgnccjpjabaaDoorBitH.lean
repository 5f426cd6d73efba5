/- Package bitmap: Clear. -/
import Derived.Test.YtdblgnccjpjabaaDoorBitG
-- OPTIONAL
namespace Go.Proofs.YtdblgnccjpjabaaDoor
open Go.RowKit Go.Grommet Go.Shelf
attribute [local go_sem] Oper.semAt_some

/-- The least bit that is 0, if there is one. -/
def ClrR (f : Nat → Bool) (m : Nat) (c : Int) (b : Bool) : Prop :=
  (b = true ∧ ∃ i : Nat, c = (i : Int) ∧ i < m ∧ f i = false ∧ ∀ j, j < i → f j = true) ∨ (b = false ∧ c = 0 ∧ ∀ j, j < m → f j = true)
theorem ClrR.one {f : Nat → Bool} {m : Nat} {c c' : Int} {b b' : Bool} (h : ClrR f m c b) (h' : ClrR f m c' b') : c = c' ∧ b = b' := by
  rcases h with ⟨rfl, i, rfl, hi, hf, hl⟩ | ⟨rfl, rfl, hl⟩ <;> rcases h' with ⟨rfl, i', rfl, hi', hf', hl'⟩ | ⟨rfl, rfl, hl'⟩
  · refine ⟨?_, rfl⟩
    rcases Nat.lt_trichotomy i i' with e | e | e
    · rw [hl' i e] at hf; cases hf
    · rw [e]
    · rw [hl i' e] at hf'; cases hf'
  · rw [hl' i hi] at hf; cases hf
  · rw [hl i' hi'] at hf'; cases hf'
  · exact ⟨rfl, rfl⟩
theorem clr_yes {xs : List Nat} {L : List (Nat × Nat)} {a m k t q : Nat} (hs : ∀ n, gotV xs L (a + n) < 18446744073709551616) (h0 : ∀ y, y < k → nghts m y (gotV xs L (a + y)) = 0) (ht : t < 64) (hk : nghts m k (gotV xs L (a + k)) = 2 ^ t * (2 * q + 1)) :
    ClrR (mbit xs L a) m ((k * 64 + t : Nat) : Int) true := by
  have bit : ∀ n j, j < 64 → (nghts m n (gotV xs L (a + n))).testBit j = (decide (n * 64 + j < m) && !(gotV xs L (a + n)).testBit j) := fun n j hj => nghts_bit m n _ j (hs n) hj
  have hb := bit k t ht
  rw [hk, odd_here] at hb
  have hb' : k * 64 + t < m ∧ (gotV xs L (a + k)).testBit t = false := by
    have := hb.symm
    simpa using this
  refine .inl ⟨rfl, k * 64 + t, rfl, hb'.1, ?_, ?_⟩
  · unfold mbit
    rw [show (k * 64 + t) / 64 = k from by omega, show (k * 64 + t) % 64 = t from by omega]
    exact hb'.2
  · intro j hj
    unfold mbit
    rcases Nat.lt_or_ge (j / 64) k with e | e
    · have hz := bit (j / 64) (j % 64) (by omega)
      rw [h0 _ e, Nat.zero_testBit] at hz
      have : j / 64 * 64 + j % 64 < m := by omega
      simpa [this] using hz.symm
    · have e' : j / 64 = k := by omega
      have hz := bit k (j % 64) (by omega)
      rw [hk, odd_bit t q (j % 64) (by omega)] at hz
      have : k * 64 + j % 64 < m := by omega
      rw [e']
      simpa [this] using hz.symm
theorem clr_no {xs : List Nat} {L : List (Nat × Nat)} {a m N : Nat} (hs : ∀ n, gotV xs L (a + n) < 18446744073709551616) (h0 : ∀ y, y < N → nghts m y (gotV xs L (a + y)) = 0) (hm : m ≤ 64 * N) : ClrR (mbit xs L a) m 0 false := by
  refine .inr ⟨rfl, rfl, fun j hj => ?_⟩
  have hz := nghts_bit m (j / 64) (gotV xs L (a + j / 64)) (j % 64) (hs _) (by omega)
  rw [h0 _ (by omega), Nat.zero_testBit] at hz
  have : j / 64 * 64 + j % 64 < m := by omega
  unfold mbit
  simpa [this] using hz.symm

structure ClrL (w : World) (X g a m : Nat) (F : Nat → Prop) (xs : List Nat) (L : List (Nat × Nat)) (c : Value) (b : Value) (W : World) : Prop where
  obj : W.heap[X]? = some (.cells (mapCs g a m) 114 (0, 0))
  view : ViewIs W g F xs L
  b0 : W.heap[w.heap.size]? = some (.cells #[.pointer (some ⟨X, 0, none⟩)] 84 (0, 0))
  b1 : W.heap[w.heap.size + 1]? = some (.cells #[c] 3 (0, 0))
  b2 : W.heap[w.heap.size + 2]? = some (.cells #[b] 4 (0, 0))
  grown : w.grownBy W none
  size : w.heap.size + 4 ≤ W.heap.size
theorem ClrL.own {w W W' : World} {X g a m : Nat} {F : Nat → Prop} {xs : List Nat} {L : List (Nat × Nat)} {c b : Value} {row : Option Nat} (hX : X < w.heap.size) (hF : ∀ i, F i → i < w.heap.size) (hs : ClrL w X g a m F xs L c b W) (hgr : W.grownBy W' row) (hr : ∀ r, row = some r → w.heap.size + 4 ≤ r) : ClrL w X g a m F xs L c b W' := by
  have hb : ∀ k, k < w.heap.size + 4 → W'.heap[k]? = W.heap[k]? := fun k hk => hgr.block _ (by have := hs.size; omega) (by intro e; have := (hr _ e.symm); omega)
  exact ⟨(hb _ (by omega)).trans hs.obj, view_kept hs.view (fun i hi => hb i (by have := hF i hi; omega)) hgr.size, (hb _ (by omega)).trans hs.b0, (hb _ (by omega)).trans hs.b1, (hb _ (by omega)).trans hs.b2, grown_new hs.grown hgr (fun j e => by have := (hr j e); omega), Nat.le_trans hs.size hgr.size⟩
theorem ClrL.put {w W : World} {X g a m : Nat} {F : Nat → Prop} {xs : List Nat} {L : List (Nat × Nat)} {c b : Value} (h : ClrL w X g a m F xs L c b W) (hX : X < w.heap.size) (hF : ∀ i, F i → i < w.heap.size) (c' b' : Value) :
    KeepsOthers W ((W.setCell ⟨w.heap.size + 1, 0, none⟩ c').setCell ⟨w.heap.size + 2, 0, none⟩ b') ∧ ClrL w X g a m F xs L c' b' ((W.setCell ⟨w.heap.size + 1, 0, none⟩ c').setCell ⟨w.heap.size + 2, 0, none⟩ b') := by
  have hsz := h.size
  have hg1 := grown_setCell W ⟨w.heap.size + 1, 0, none⟩ c'
  have hg2 := grown_setCell (W.setCell ⟨w.heap.size + 1, 0, none⟩ c') ⟨w.heap.size + 2, 0, none⟩ b'
  have hk1 := KeepsOthers.setCell W ⟨w.heap.size + 1, 0, none⟩ c'
  have hk2 := KeepsOthers.setCell (W.setCell ⟨w.heap.size + 1, 0, none⟩ c') ⟨w.heap.size + 2, 0, none⟩ b'
  have k1 : (W.setCell ⟨w.heap.size + 1, 0, none⟩ c').heap[w.heap.size + 1]? = some (.cells #[c'] 3 (0, 0)) := by have := heap_setCell_at (o := 0) h.b1 c'; simpa using this
  have k2 : (W.setCell ⟨w.heap.size + 1, 0, none⟩ c').heap[w.heap.size + 2]? = some (.cells #[b] 4 (0, 0)) := (hg1.block _ (by omega) (by simp)).trans h.b2
  generalize W.setCell ⟨w.heap.size + 1, 0, none⟩ c' = W1 at *
  have k3 : (W1.setCell ⟨w.heap.size + 2, 0, none⟩ b').heap[w.heap.size + 2]? = some (.cells #[b'] 4 (0, 0)) := by have := heap_setCell_at (o := 0) k2 b'; simpa using this
  have s1 := hg1.size
  have hb : ∀ k, k < w.heap.size + 1 → (W1.setCell ⟨w.heap.size + 2, 0, none⟩ b').heap[k]? = W.heap[k]? := fun k hk => (hg2.block k (by omega) (by simp; omega)).trans (hg1.block k (by omega) (by simp; omega))
  refine ⟨hk1.trans hk2, (hb _ (by omega)).trans h.obj, view_kept h.view (fun i hi => hb i (by have := hF i hi; omega)) (Nat.le_trans hg1.size hg2.size), (hb _ (by omega)).trans h.b0, (hg2.block _ (by omega) (by simp)).trans k1, k3, ?_, Nat.le_trans h.size (Nat.le_trans hg1.size hg2.size)⟩
  exact grown_new (grown_new h.grown hg1 (fun j e => by cases e; show _ ≤ w.heap.size + 1; omega)) hg2 (fun j e => by cases e; show _ ≤ w.heap.size + 2; omega)

theorem nghts_bits (m n V O : Nat) (hO : ownM m n = O) (hs : V < 18446744073709551616) (hOs : O < 18446744073709551616) (R : Nat) (hR : nghts m n V = R) : bits .andNot .u64 (O : Int) (V : Int) = (R : Int) := by
  rw [u64_andNot_nat O V hOs hs]
  unfold nghts at hR
  rw [hO] at hR
  rw [hR]

/-- What Clear hands back. -/
def ClrIs (f : Nat → Bool) (m : Nat) (w : World) (e : Ending) (w' : World) : Prop := ∃ c b, e = .returned (.tuple #[.int .i64 c, .bool b]) ∧ ClrR f m c b ∧ w.grownBy w' none
/-- How Clear's range is left. -/
def ClrX (w : World) (X g a m N : Nat) (F : Nat → Prop) (xs : List Nat) (L : List (Nat × Nat)) (c : Code) (pre : List (Fin N)) (W : World) : Prop :=
  c = .ret ∧ ∃ (pre' : List (Fin N)) (x : Fin N) (t q : Nat), pre = pre' ++ [x] ∧ (∀ y ∈ pre', nghts m y.1 (gotV xs L (a + y.1)) = 0) ∧ t < 64 ∧ nghts m x.1 (gotV xs L (a + x.1)) = 2 ^ t * (2 * q + 1) ∧ ClrL w X g a m F xs L (.int .i64 ((x.1 * 64 + t : Nat) : Int)) (.bool true) W

set_option maxRecDepth 100000 in
set_option maxHeartbeats 1000000 in
theorem MClear_any (w : World) (X g a m N : Nat) (F : Nat → Prop) (xs : List Nat) (L : List (Nat × Nat)) (hX : w.heap[X]? = some (.cells (mapCs g a m) 114 (0, 0))) (hv : ViewIs w g F xs L) (hM : MapOk xs.length a m) (hN : (m - 1) / 64 + 1 = N)
    (htab : Lib.TabIs Tryd.prog w "math/bits.deBruijn64tab" .u8 tab) :
    Calls Tryd.prog 51 #[.pointer (some ⟨X, 0, none⟩)] w (ClrIs (mbit xs L a) m w) := by
  have hXs := (Array.getElem?_eq_some_iff.1 hX).1
  have hFs : ∀ i, F i → i < w.heap.size := by obtain ⟨_, _, _, h⟩ := hv; exact h.old
  have hml := hM.lt
  have hm1 := hM.one
  have hNs : N ≤ 1000000 := by omega
  have hsm : (∀ n ∈ xs, n < 18446744073709551616) ∧ (∀ p ∈ L, p.2 < 18446744073709551616) := by obtain ⟨_, _, _, h⟩ := hv; exact ⟨h.small, h.good.val⟩
  have hVs : ∀ n, gotV xs L (a + n) < 18446744073709551616 := fun n => gotV_small hsm.1 hsm.2 (a + n)
  refine (callsIn_wide (n := 9)).1 ?_
  refine callsIn_of_wp_marks Tryd.func51 rfl trivial ?_ rfl
  simp only [Tryd.ntmps51, List.size_toArray, List.length_cons, List.length_nil, Nat.reduceAdd, Nat.reduceSub, Array.replicate_succ, Array.replicate_zero, List.push_toArray, List.append_toArray, List.nil_append, List.cons_append]
  gi_wp2_with fail
  refine ⟨trivial, (callsIn_wide.2 (mwords_any _ X)).mono ?_⟩
  rintro e w2 ⟨rfl, hw2⟩
  have g1 := World.grownBy_alloc w (.cells #[.pointer (some ⟨X, 0, none⟩)] 84) none
  have n1 := heap_alloc_new w (.cells #[.pointer (some ⟨X, 0, none⟩)] 84)
  have z1 : (w.alloc (.cells #[.pointer (some ⟨X, 0, none⟩)] 84)).heap.size = w.heap.size + 1 := by simp
  generalize w.alloc (.cells #[.pointer (some ⟨X, 0, none⟩)] 84) = u1 at *
  have g2 := World.grownBy_alloc u1 (.cells #[.int .i64 0] 3) none
  have n2 := heap_alloc_new u1 (.cells #[.int .i64 0] 3)
  have z2 : (u1.alloc (.cells #[.int .i64 0] 3)).heap.size = w.heap.size + 2 := by simp [z1]
  generalize u1.alloc (.cells #[.int .i64 0] 3) = u2 at *
  have g3 := World.grownBy_alloc u2 (.cells #[.bool false] 4) none
  have n3 := heap_alloc_new u2 (.cells #[.bool false] 4)
  have z3 : (u2.alloc (.cells #[.bool false] 4)).heap.size = w.heap.size + 3 := by simp [z2]
  generalize u2.alloc (.cells #[.bool false] 4) = u3 at *
  have g4 := World.grownBy_alloc u3 (.cells #[.pointer (some ⟨X, 0, none⟩)] 84) none
  have hbm := heap_alloc_new u3 (.cells #[.pointer (some ⟨X, 0, none⟩)] 84)
  have hs2 : (u3.alloc (.cells #[.pointer (some ⟨X, 0, none⟩)] 84)).heap.size = w.heap.size + 4 := by simp [z3]
  rw [← hw2] at g4 hbm hs2
  clear hw2
  rw [z1] at n2
  rw [z2] at n3
  rw [z3] at hbm
  have gw := grown_trans (grown_trans (grown_trans g1 g2) g3) g4
  have hC : ClrL w X g a m F xs L (.int .i64 0) (.bool false) w2 :=
    ⟨(gw.block _ hXs (by simp)).trans hX, view_kept hv (fun i hi => gw.block i (hFs i hi) (by simp)) gw.size, ((grown_trans (grown_trans g2 g3) g4).block _ (by omega) (by simp)).trans n1, ((grown_trans g3 g4).block _ (by omega) (by simp)).trans n2, (g4.block _ (by omega) (by simp)).trans n3, gw, by omega⟩
  try rw [z1]
  try rw [z2]
  try rw [z3]
  clear g1 g2 g3 g4 n1 n2 n3 gw hX hv
  gi_wp2_with fail
  generalize hB : w.heap.size = B at *
  simp only [Nat.add_assoc, Nat.reduceAdd]
  refine wpIn_rangeFunc_ownF (α := Fin N) rfl (by omega) (gf := 84) (lb := #[.pointer (some ⟨B + 3, 0, none⟩)]) rfl trivial (enters_of Tryd.func84 (by kernel_rfl) rfl)
    (words_stops 8 w2 (B + 3) X g a m N F (fun i => i = B + 3 ∨ i = X ∨ F i) xs L hbm hC.obj hC.view hM hN ⟨.inl rfl, .inr (.inl rfl), fun i hi => .inr (.inr hi)⟩)
    (fun h k => h.trans k) (KeptF.put (fun i hi => by rcases hi with rfl | rfl | hi; omega; omega; have := hFs i hi; omega)) (Below.refl _ _) (fun _ => rfl)
    (fun (pre : List (Fin N)) W => ClrL w X g a m F xs L (.int .i64 0) (.bool false) W ∧ ∀ y ∈ pre, nghts m y.1 (gotV xs L (a + y.1)) = 0)
    (fun c pre W => ClrX w X g a m N F xs L c pre W)
    ?own ?own2 ⟨hC, fun _ h => by cases h⟩
    (fun x => { tmps := #[.pointer (some ⟨X, 0, none⟩), .pointer (some ⟨B, 0, none⟩), .pointer (some ⟨B + 1, 0, none⟩), .pointer (some ⟨B + 2, 0, none⟩), .int .i64 (x.1 : Int), .int .u64 (gotV xs L (a + x.1) : Int), undef, .pointer (some ⟨X, 0, none⟩), .func (.func 84) #[] #[.pointer (some ⟨B + 3, 0, none⟩)], .int .i64 (x.1 : Int), .int .u64 (gotV xs L (a + x.1) : Int), undef, undef, undef, undef, undef, undef, undef, undef, undef, undef, undef, undef], defers := [] }) ?assign ?body ?done ?stop
  case own =>
    rintro pre W W' row ⟨hs, hp⟩ hg hr
    exact ⟨ClrL.own (by omega) (fun i hi => by have := hFs i hi; omega) hs hg (fun r e => by have := (hr r e).1; omega), hp⟩
  case own2 =>
    rintro c pre W W' row ⟨rfl, pre', x, t, q, hp, h0, ht, hq, hs⟩ hg hr
    exact ⟨rfl, pre', x, t, q, hp, h0, ht, hq, ClrL.own (by omega) (fun i hi => by have := hFs i hi; omega) hs hg (fun r e => by have := (hr r e).1; omega)⟩
  case assign =>
    intro l x W K hK
    unfold encW
    gi_wp2
    exact hK
  case body =>
    rintro l pre ⟨n, hn⟩ W ⟨hL, hp⟩ hlen
    replace hL : ClrL w X g a m F xs L (.int .i64 0) (.bool false) W := hL
    have hnm : n * 64 < m := by omega
    have HO := Lib.hid (own_any X g a m n W hL.obj (by omega) hnm)
    have hOs := ownM_small m n
    have hV := hVs n
    have hRs := nghts_small m n (gotV xs L (a + n))
    obtain ⟨R, eR⟩ : ∃ R, nghts m n (gotV xs L (a + n)) = R := ⟨_, rfl⟩
    have e3 := nghts_bits m n _ _ rfl hV hOs R eR
    have cB := hL.b0
    have cB1 := hL.b1
    have cB2 := hL.b2
    rw [hB] at cB cB1 cB2
    have c0 : W.cell? ⟨B, 0, none⟩ = some (.pointer (some ⟨X, 0, none⟩)) := by simp [World.cell?, cB]
    have z1 : W.frozen? ⟨B + 1, 0, none⟩ = false := by simp [World.frozen?, cB1]
    have z2 : W.frozen? ⟨B + 2, 0, none⟩ = false := by simp [World.frozen?, cB2]
    have d1 : W.cell? ⟨B + 1, 0, none⟩ = some (.int .i64 0) := by simp [World.cell?, cB1]
    have d2 : W.cell? ⟨B + 2, 0, none⟩ = some (.bool false) := by simp [World.cell?, cB2]
    have hg : w.grownBy W none := hL.grown
    have hput := hL.put (by omega) (fun i hi => by have := hFs i hi; omega)
    rw [hB] at hput
    rw [eR] at hRs
    by_cases h0 : R = 0
    · have HFIN := Lib.hid (show KeepsOthers W W ∧ KeptF (fun i => i = B + 3 ∨ i = X ∨ F i) W W ∧ (ClrL w X g a m F xs L (.int .i64 0) (.bool false) W ∧ ∀ y ∈ pre ++ [(⟨n, hn⟩ : Fin N)], nghts m y.1 (gotV xs L (a + y.1)) = 0) from
        ⟨KeepsOthers.refl _, KeptF.refl _ _, hL, fun y hy => by
          rcases List.mem_append.1 hy with hy | hy
          · exact hp y hy
          · obtain rfl : y = ⟨n, hn⟩ := by simpa using hy
            rw [eR]; exact h0⟩)
      subst h0
      have x1 : (((0 : Nat) : Int) != 0) = false := rfl
      obtain ⟨V, eV⟩ : ∃ V, gotV xs L (a + n) = V := ⟨_, rfl⟩
      obtain ⟨O, eO⟩ : ∃ O, ownM m n = O := ⟨_, rfl⟩
      rw [eO] at HO e3
      rw [eV] at e3
      simp only [eV]
      clear hput hL hp cB cB1 cB2 hOs hV hRs eO eV eR
      gi_wp2_with fail
      refine ⟨trivial, (CallsIn.inRound l (callsIn_wide.2 HO.out)).mono ?_⟩
      rintro e w5 ⟨rfl, rfl⟩
      gi_wp2
      exact HFIN.out
    · obtain ⟨t, q, hq, ht⟩ := odd_part 64 R h0 hRs
      have HT := Lib.hid (tz_any t q W ht (by rw [← hq]; exact hRs) (tab_grown htab hg))
      rw [← hq] at HT
      have hp2 := hput (.int .i64 ((n * 64 + t : Nat) : Int)) (.bool true)
      have HFIN := Lib.hid (show KeepsOthers W ((W.setCell ⟨B + 1, 0, none⟩ (.int .i64 ((n * 64 + t : Nat) : Int))).setCell ⟨B + 2, 0, none⟩ (.bool true)) ∧ ClrX w X g a m N F xs L .ret (pre ++ [(⟨n, hn⟩ : Fin N)]) ((W.setCell ⟨B + 1, 0, none⟩ (.int .i64 ((n * 64 + t : Nat) : Int))).setCell ⟨B + 2, 0, none⟩ (.bool true)) from
        ⟨hp2.1, rfl, pre, ⟨n, hn⟩, t, q, rfl, hp, ht, by rw [eR]; exact hq, hp2.2⟩)
      have x1 : ((R : Int) != 0) = true := by simp; omega
      have s1 : IntKind.i64.wrap ((n : Int) * 64) = (n : Int) * 64 := IntWalk.i64_in _ ⟨by omega, by omega⟩
      have s2 : IntKind.i64.wrap ((n : Int) * 64 + (t : Int)) = ((n * 64 + t : Nat) : Int) := by rw [IntWalk.i64_in _ ⟨by omega, by omega⟩]; omega
      have s3 : (n : Int) * 64 + (t : Int) = ((n * 64 + t : Nat) : Int) := by omega
      obtain ⟨T, eT⟩ : ∃ T, n * 64 + t = T := ⟨_, rfl⟩
      rw [eT] at s2 s3 HFIN
      obtain ⟨V, eV⟩ : ∃ V, gotV xs L (a + n) = V := ⟨_, rfl⟩
      obtain ⟨O, eO⟩ : ∃ O, ownM m n = O := ⟨_, rfl⟩
      rw [eO] at HO e3
      rw [eV] at e3
      simp only [eV]
      clear hp2 hput hL hp cB cB1 cB2 hOs hV hRs eO eV eR eT hq h0
      gi_wp2_with fail
      refine ⟨trivial, (CallsIn.inRound l (callsIn_wide.2 HO.out)).mono ?_⟩
      rintro e w5 ⟨rfl, rfl⟩
      gi_wp2_with fail
      refine ⟨trivial, (CallsIn.inRound l (callsIn_wide.2 HT.out)).mono ?_⟩
      rintro e w6 ⟨rfl, rfl⟩
      gi_wp2
      exact HFIN.out
  case done =>
    rintro D ys W hD hys ⟨hL, hp⟩ hK
    subst hys
    replace hL : ClrL w X g a m F xs L (.int .i64 0) (.bool false) W := hL
    have HR := Lib.hid (clr_no (m := m) hVs (fun y hy => hp ⟨y, hy⟩ (by simp)) (by omega))
    have hput := hL.put (by omega) (fun i hi => by have := hFs i hi; omega) (.int .i64 0) (.bool false)
    have cB1 := hL.b1
    have cB2 := hL.b2
    rw [hB] at cB1 cB2 hput
    have z1 : W.frozen? ⟨B + 1, 0, none⟩ = false := by simp [World.frozen?, cB1]
    have z2 : W.frozen? ⟨B + 2, 0, none⟩ = false := by simp [World.frozen?, cB2]
    have d1 : W.cell? ⟨B + 1, 0, none⟩ = some (.int .i64 0) := by simp [World.cell?, cB1]
    have d2 : W.cell? ⟨B + 2, 0, none⟩ = some (.bool false) := by simp [World.cell?, cB2]
    have hput := Lib.hid hput
    clear hL hp cB1 cB2
    gi_wp2
    obtain ⟨hk, hN2⟩ := hput.out
    refine leaves_marks (B := B) _ (D + 1) _ ⟨D, rfl, by omega, by omega, hk.same _ _ hK rfl, trivial⟩ ?_
    intro w' hw'
    have q1 := hw'.cells _ _ _ _ hN2.b1
    have q2 := hw'.cells _ _ _ _ hN2.b2
    rw [hB] at q1 q2
    have r1 : w'.cell? ⟨B + 1, 0, none⟩ = some (.int .i64 0) := by simp [World.cell?, q1]
    have r2 : w'.cell? ⟨B + 2, 0, none⟩ = some (.bool false) := by simp [World.cell?, q2]
    exact ⟨.tuple #[.int .i64 0, .bool false], by simp [results, Tryd.results51, go_sem, r1, r2], 0, false, rfl, HR.out, hw'.grown (by omega) hN2.grown⟩
  case stop =>
    rintro D c pre W hD ⟨k, hkN, rfl⟩ ⟨rfl, pre', x, t, q, hpre, h0, ht, hq, hL⟩ hK
    replace hL : ClrL w X g a m F xs L (.int .i64 ((x.1 * 64 + t : Nat) : Int)) (.bool true) W := hL
    have hsplit : (List.finRange N).take (k + 1) = (List.finRange N).take k ++ [⟨k, hkN⟩] := by rw [List.take_add_one]; simp [hkN]
    rw [hsplit] at hpre
    obtain ⟨hp1, hp2⟩ := List.append_inj' hpre rfl
    obtain rfl : (⟨k, hkN⟩ : Fin N) = x := by simpa using hp2
    have HR := Lib.hid (clr_yes (m := m) (k := k) hVs (fun y hy => h0 ⟨y, by omega⟩ (by rw [← hp1]; simp [List.mem_take_iff_getElem]; omega)) ht hq)
    simp only at hL
    generalize k * 64 + t = T at hL HR
    gi_wp2
    refine leaves_marks (B := B) _ (D + 1) _ ⟨D, rfl, by omega, by omega, hK, trivial⟩ ?_
    intro w' hw'
    have q1 := hw'.cells _ _ _ _ hL.b1
    have q2 := hw'.cells _ _ _ _ hL.b2
    rw [hB] at q1 q2
    have r1 : w'.cell? ⟨B + 1, 0, none⟩ = some (.int .i64 (T : Int)) := by simp [World.cell?, q1]
    have r2 : w'.cell? ⟨B + 2, 0, none⟩ = some (.bool true) := by simp [World.cell?, q2]
    exact ⟨.tuple #[.int .i64 (T : Int), .bool true], by simp [results, Tryd.results51, go_sem, r1, r2], _, true, rfl, HR.out, hw'.grown (by omega) hL.grown⟩
end Go.Proofs.YtdblgnccjpjabaaDoor
