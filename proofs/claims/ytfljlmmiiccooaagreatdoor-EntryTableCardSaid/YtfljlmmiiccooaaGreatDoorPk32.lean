import Derived.RangeFuncFrom
import Derived.Test.YtfljlmmiiccooaaGreatDoorPk31
import Derived.Test.YtfljlmmiiccooaaGreatDoorPk29
import Derived.Test.YtfljlmmiiccooaaGreatDoorPk4
set_option maxRecDepth 100000
set_option maxHeartbeats 2000000
section
namespace Go.Proofs.YtfljlmmiiccooaaGreatDoor
open Go.RowKit Go.Grommet Go.Shelf
attribute [local go_sem] Oper.semAt_some
theorem bmPlaces (w : World) (k : Int) : Calls Tryz.prog 122 #[.int .i64 k] w fun e w' => e = .returned (.func (.func 132) #[] #[.pointer (some ⟨w.heap.size, 0, none⟩)]) ∧ w' = w.alloc (.cells #[.int .i64 k] 3) := by
 go_enter Tryz.func122, Tryz.ntmps122
 go_wp2
 go_ret
 exact ⟨rfl, rfl⟩
def encP (fr N : Nat) (x : Fin N) : Array Value := #[.int .i64 ((fr + x.1 : Nat) : Int)]
theorem places_stops (d : Nat) (w : World) (pp fr N : Nat) (hpp : w.heap[pp]? = some (.cells #[.int .i64 (fr : Int)] 3 (0, 0))) (hN : fr + N = 12) :
  SeqStopsK Fence.wide d Tryz.prog 132 #[.pointer (some ⟨pp, 0, none⟩)] (encP fr N) (fun _ _ => True) (fun ys => ys = List.finRange N) (fun ys => ∃ k, k < N ∧ ys = (List.finRange N).take (k + 1)) N w := by
 intro l J Jx W hW hJ hJx hY h0
 have hbs := (Array.getElem?_eq_some_iff.1 hpp).1
 replace hpp := (hW.block pp hbs).trans hpp
 have HJA := Lib.hid hJ
 have HY := Lib.hid hY
 have HJ := Lib.hid h0
 clear hW hJ hJx hY h0 hbs
 refine callsIn_of_wp Tryz.func132 rfl trivial ?_ rfl
 simp only [Tryz.ntmps132, List.size_toArray, List.length_cons, List.length_nil, Nat.reduceAdd, Nat.reduceSub, Array.replicate_succ, Array.replicate_zero, List.push_toArray, List.append_toArray, List.nil_append, List.cons_append]
 have c1 : W.cell? ⟨pp, 0, none⟩ = some (.int .i64 (fr : Int)) := by simp [World.cell?, hpp]
 clear hpp
 gi_wp2_with fail
 gi_loopw [3] (fun p wr => ∃ k : Nat, k ≤ N ∧ p = .int .i64 ((fr + k : Nat) : Int) ∧ Hid (J ((List.finRange N).take k) wr)) (fun p _ => 12 - (intOf p).toNat)
 case atStart => exact ⟨0, Nat.zero_le _, rfl, HJ⟩
 case round =>
  obtain ⟨k, hk, rfl, hR⟩ := hrel
  clear HJ c1
  obtain ⟨A, eA⟩ : ∃ A, fr + k = A := ⟨_, rfl⟩
  by_cases hlt : k < N
  ·have hN1 : Hid ((List.finRange N).take (k + 1) = (List.finRange N).take k ++ [⟨k, hlt⟩]) := Lib.hid (by
    rw [List.take_add_one]; simp [hlt])
   have hy0 := HY.out _ ⟨k, hlt⟩ wr hR.out (by simp; omega)
   unfold encP at hy0
   simp only at hy0
   rw [eA] at hy0 ⊢
   have hlt' : (A : Int) < 12 := by omega
   have wk1 : IntKind.i64.wrap ((A : Int) + 1) = (A : Int) + 1 := IntWalk.i64_in _ ⟨by omega, by omega⟩
   obtain ⟨fn, tmps, assign, body, hy, hR2⟩ := hy0
   clear hR
   gi_wp2_with fail
   refine ⟨fun h => (by cases h), ?_⟩
   refine hR2.mono ?_
   clear hR2 hy
   rintro e W' (⟨rfl, hJ', _⟩ | ⟨rfl, hJx'⟩)
   ·have HJ' := Lib.hid hJ'
    clear hJ'
    gi_wp2
    go_roundw
    case rel => exact ⟨k + 1, by omega, by rw [← Nat.add_assoc, eA]; go_num, Lib.hid (by rw [hN1.out]; exact HJ'.out)⟩
    case measure => simp [intOf]; omega
   ·have HJ' := Lib.hid hJx'
    clear hJx'
    gi_wp2
    refine bodyPost_ret (results_none rfl _ _ _) rfl ?_
    exact ⟨⟨_, rfl⟩, .inr ⟨_, ⟨k, hlt, rfl⟩, by rw [hN1.out]; exact HJ'.out⟩⟩
  ·obtain rfl : k = N := by omega
   rw [eA]
   have hge : ¬ ((A : Int) < 12) := by omega
   have HJ8 := Lib.hid (show J (List.finRange k) wr by have := hR.out; rwa [List.take_of_length_le (by simp)] at this)
   clear hR
   gi_wp2
   go_end0
   exact ⟨⟨_, rfl⟩, .inl HJ8.out⟩
end Go.Proofs.YtfljlmmiiccooaaGreatDoor
end
section
namespace Go.Proofs.YtfljlmmiiccooaaGreatDoor
open Go.RowKit Go.Grommet Go.Shelf
attribute [local go_sem] Oper.semAt_some
set_option linter.unusedVariables false
structure BareL (w : World) (XM g a b c n f0 f1 f2 f3 f4 f5 f6 f7 f8 f9 : Nat) (v : Bool) (W : World) : Prop where
 b0 : W.heap[w.heap.size]? = some (.cells #[.pointer (some ⟨XM, 0, none⟩)] 82 (0, 0))
 b1 : W.heap[w.heap.size + 1]? = some (.cells #[.int .u64 (f0 : Int), .int .u64 (f1 : Int), .int .u64 (f2 : Int), .int .u64 (f3 : Int), .int .u64 (f4 : Int), .int .u64 (f5 : Int), .int .u64 (f6 : Int), .int .u64 (f7 : Int), .int .u64 (f8 : Int), .int .u64 (f9 : Int)] 133 (0, 0))
 b2 : W.heap[w.heap.size + 2]? = some (.cells #[.bool v] 4 (0, 0))
 bm : BM XM g a b c n W
 grown : w.grownBy W none
 size : w.heap.size + 4 ≤ W.heap.size
theorem BareL.own {w W W' : World} {XM g a b c n f0 f1 f2 f3 f4 f5 f6 f7 f8 f9 : Nat} {v : Bool} {row : Option Nat} (hX : XM < w.heap.size) (hs : BareL w XM g a b c n f0 f1 f2 f3 f4 f5 f6 f7 f8 f9 v W) (hgr : W.grownBy W' row) (hr : ∀ r, row = some r → w.heap.size + 4 ≤ r) : BareL w XM g a b c n f0 f1 f2 f3 f4 f5 f6 f7 f8 f9 v W' := by
 have hb : ∀ k, k < w.heap.size + 4 → W'.heap[k]? = W.heap[k]? := fun k hk => hgr.block _ (by have := hs.size; omega) (by intro e; have := (hr _ e.symm); omega)
 exact ⟨(hb _ (by omega)).trans hs.b0, (hb _ (by omega)).trans hs.b1, (hb _ (by omega)).trans hs.b2, ⟨(hb _ (by omega)).trans hs.bm.box⟩, grown_new hs.grown hgr (fun j e => by have := (hr j e); omega), Nat.le_trans hs.size hgr.size⟩
theorem BareL.put {w W : World} {XM g a b c n f0 f1 f2 f3 f4 f5 f6 f7 f8 f9 : Nat} {v : Bool} (h : BareL w XM g a b c n f0 f1 f2 f3 f4 f5 f6 f7 f8 f9 v W) (hX : XM < w.heap.size) (v' : Bool) :
  KeepsOthers W (W.setCell ⟨w.heap.size + 2, 0, none⟩ (.bool v')) ∧ BareL w XM g a b c n f0 f1 f2 f3 f4 f5 f6 f7 f8 f9 v' (W.setCell ⟨w.heap.size + 2, 0, none⟩ (.bool v')) := by
 have hsz := h.size
 have hg1 := grown_setCell W ⟨w.heap.size + 2, 0, none⟩ (.bool v')
 have k1 : (W.setCell ⟨w.heap.size + 2, 0, none⟩ (.bool v')).heap[w.heap.size + 2]? = some (.cells #[.bool v'] 4 (0, 0)) := by have := heap_setCell_at (o := 0) h.b2 (.bool v'); simpa using this
 have hb : ∀ k, k < w.heap.size + 2 → (W.setCell ⟨w.heap.size + 2, 0, none⟩ (.bool v')).heap[k]? = W.heap[k]? := fun k hk => hg1.block k (by omega) (by simp; omega)
 exact ⟨KeepsOthers.setCell _ _ _, (hb _ (by omega)).trans h.b0, (hb _ (by omega)).trans h.b1, k1, ⟨(hb _ (by omega)).trans h.bm.box⟩, grown_new h.grown hg1 (fun j e => by cases e; show _ ≤ w.heap.size + 2; omega), Nat.le_trans hsz hg1.size⟩
theorem BareL.cells {w wx : World} {XM g a b c n f0 f1 f2 f3 f4 f5 f6 f7 f8 f9 B : Nat} {v : Bool} (h : BareL w XM g a b c n f0 f1 f2 f3 f4 f5 f6 f7 f8 f9 v wx) (hB : w.heap.size = B) : wx.cell? ⟨B, 0, none⟩ = some (.pointer (some ⟨XM, 0, none⟩)) ∧ wx.cell? ⟨B + 1, 0, none⟩ = some (.int .u64 (f0 : Int)) ∧ wx.cell? ⟨B + 1, 1, none⟩ = some (.int .u64 (f1 : Int)) ∧ wx.cell? ⟨B + 1, 2, none⟩ = some (.int .u64 (f2 : Int)) ∧ wx.cell? ⟨B + 1, 3, none⟩ = some (.int .u64 (f3 : Int)) ∧ wx.cell? ⟨B + 1, 4, none⟩ = some (.int .u64 (f4 : Int)) ∧ wx.cell? ⟨B + 1, 5, none⟩ = some (.int .u64 (f5 : Int)) ∧ wx.cell? ⟨B + 1, 6, none⟩ = some (.int .u64 (f6 : Int)) ∧ wx.cell? ⟨B + 1, 7, none⟩ = some (.int .u64 (f7 : Int)) ∧ wx.cell? ⟨B + 1, 8, none⟩ = some (.int .u64 (f8 : Int)) ∧ wx.cell? ⟨B + 1, 9, none⟩ = some (.int .u64 (f9 : Int)) ∧ wx.cell? ⟨XM, 0, none⟩ = some (.pointer (some ⟨g, 0, none⟩)) ∧ wx.cell? ⟨XM, 1, none⟩ = some (.int .i64 (a : Int)) ∧ wx.cell? ⟨XM, 2, none⟩ = some (.int .i64 (b : Int)) ∧ wx.cell? ⟨XM, 3, none⟩ = some (.int .i64 (c : Int)) ∧ wx.cell? ⟨XM, 4, none⟩ = some (.int .i64 (n : Int)) := by
 have q0 := h.b0
 have q1 := h.b1
 rw [hB] at q0 q1
 obtain ⟨m0, m1, m2, m3, m4⟩ := h.bm.cells
 refine ⟨?_, ?_, ?_, ?_, ?_, ?_, ?_, ?_, ?_, ?_, ?_, m0, m1, m2, m3, m4⟩ <;> simp [World.cell?, q0, q1]
end Go.Proofs.YtfljlmmiiccooaaGreatDoor
end
section
namespace Go.Proofs.YtfljlmmiiccooaaGreatDoor
open Go.RowKit Go.Grommet Go.Shelf
attribute [local go_sem] Oper.semAt_some
set_option linter.unusedVariables false
theorem bool_frozen {w : World} {B : Nat} {v : Bool} {T : TypeId} (h : w.heap[B]? = some (.cells #[.bool v] T (0, 0))) : w.frozen? ⟨B, 0, none⟩ = false := by simp [World.frozen?, h]
theorem bool_cell {w : World} {B : Nat} {v : Bool} {T : TypeId} (h : w.heap[B]? = some (.cells #[.bool v] T (0, 0))) : w.cell? ⟨B, 0, none⟩ = some (.bool v) := by simp [World.cell?, h]
theorem bmBare_any (XM g a b c n P : Nat) (f0 f1 f2 f3 f4 f5 f6 f7 f8 f9 : Nat) (V : Nat → Nat) (r : Bool) (w : World) (hm : BM XM g a b c n w) (h8 : f8 ≠ 0) (h8s : f8 ≤ 1000000) (hP : blockV (a : Int) (b : Int) (c : Int) (f8 : Int) = (P : Int)) (hPl : P ≤ 1000000)
  (HV : ∀ (i : Nat) (wx : World), w.grownBy wx none → Calls Tryz.prog 88 #[.pointer (some ⟨g, 0, none⟩), .int .i64 ((P + i : Nat) : Int)] wx fun e w' => e = .returned (.int .u64 (V i : Int)) ∧ w' = wx)
  (hr : (∀ i, i < 8 → V i = 0) ↔ r = true) :
  Calls Tryz.prog 94 #[.pointer (some ⟨XM, 0, none⟩), nv f0 f1 f2 f3 f4 f5 f6 f7 f8 f9] w fun e w' => e = .returned (.bool r) ∧ w.grownBy w' none := by
 have hXs := (Array.getElem?_eq_some_iff.1 hm.box).1
 have HV0 := Lib.hid HV
 have HPL := Lib.hid hPl
 have HC0 := Lib.hid (fun k (hk : 0 ≤ k ∧ k ≤ 900) wx (hB : BM XM g a b c n wx) => bmChained XM g a b c n P k f0 f1 f2 f3 f4 f5 f6 f7 f8 f9 wx hB h8 (by omega) hP hPl h8s hk)
 clear HV hPl
 refine (callsIn_wide (n := 9)).1 ?_
 refine callsIn_of_wp_marks Tryz.func94 rfl trivial ?_ rfl
 unfold nv at *
 simp only [Tryz.ntmps94, List.size_toArray, List.length_cons, List.length_nil, Nat.reduceAdd, Nat.reduceSub, Array.replicate_succ, Array.replicate_zero, List.push_toArray, List.append_toArray, List.nil_append, List.cons_append]
 gi_wp2_with fail
 refine ⟨trivial, (callsIn_wide.2 (bmPlaces _ 4)).mono ?_⟩
 rintro e w2 ⟨rfl, hw2⟩
 have g1 := World.grownBy_alloc w (.cells #[.pointer (some ⟨XM, 0, none⟩)] 82) none
 have n1 := heap_alloc_new w (.cells #[.pointer (some ⟨XM, 0, none⟩)] 82)
 have z1 : (w.alloc (.cells #[.pointer (some ⟨XM, 0, none⟩)] 82)).heap.size = w.heap.size + 1 := by simp
 generalize w.alloc (.cells #[.pointer (some ⟨XM, 0, none⟩)] 82) = u1 at *
 have g2 := World.grownBy_alloc u1 (.cells #[.int .u64 (f0 : Int), .int .u64 (f1 : Int), .int .u64 (f2 : Int), .int .u64 (f3 : Int), .int .u64 (f4 : Int), .int .u64 (f5 : Int), .int .u64 (f6 : Int), .int .u64 (f7 : Int), .int .u64 (f8 : Int), .int .u64 (f9 : Int)] 133) none
 have n2 := heap_alloc_new u1 (.cells #[.int .u64 (f0 : Int), .int .u64 (f1 : Int), .int .u64 (f2 : Int), .int .u64 (f3 : Int), .int .u64 (f4 : Int), .int .u64 (f5 : Int), .int .u64 (f6 : Int), .int .u64 (f7 : Int), .int .u64 (f8 : Int), .int .u64 (f9 : Int)] 133)
 have z2 : (u1.alloc (.cells #[.int .u64 (f0 : Int), .int .u64 (f1 : Int), .int .u64 (f2 : Int), .int .u64 (f3 : Int), .int .u64 (f4 : Int), .int .u64 (f5 : Int), .int .u64 (f6 : Int), .int .u64 (f7 : Int), .int .u64 (f8 : Int), .int .u64 (f9 : Int)] 133)).heap.size = w.heap.size + 2 := by simp [z1]
 generalize u1.alloc (.cells #[.int .u64 (f0 : Int), .int .u64 (f1 : Int), .int .u64 (f2 : Int), .int .u64 (f3 : Int), .int .u64 (f4 : Int), .int .u64 (f5 : Int), .int .u64 (f6 : Int), .int .u64 (f7 : Int), .int .u64 (f8 : Int), .int .u64 (f9 : Int)] 133) = u2 at *
 have g3 := World.grownBy_alloc u2 (.cells #[.bool false] 4) none
 have n3 := heap_alloc_new u2 (.cells #[.bool false] 4)
 have z3 : (u2.alloc (.cells #[.bool false] 4)).heap.size = w.heap.size + 3 := by simp [z2]
 generalize u2.alloc (.cells #[.bool false] 4) = u3 at *
 have g4 := World.grownBy_alloc u3 (.cells #[.int .i64 4] 3) none
 have hpp := heap_alloc_new u3 (.cells #[.int .i64 4] 3)
 have hs2 : (u3.alloc (.cells #[.int .i64 4] 3)).heap.size = w.heap.size + 4 := by simp [z3]
 rw [← hw2] at g4 hpp hs2
 clear hw2
 rw [z1] at n2
 rw [z2] at n3
 rw [z3] at hpp
 have gw := grown_trans (grown_trans (grown_trans g1 g2) g3) g4
 have hC : BareL w XM g a b c n f0 f1 f2 f3 f4 f5 f6 f7 f8 f9 false w2 :=
  ⟨((grown_trans (grown_trans g2 g3) g4).block _ (by omega) (by simp)).trans n1, ((grown_trans g3 g4).block _ (by omega) (by simp)).trans n2, (g4.block _ (by omega) (by simp)).trans n3, hm.grown gw, gw, by omega⟩
 try rw [z1]
 try rw [z2]
 try rw [z3]
 clear g1 g2 g3 g4 n1 n2 n3 gw hm
 gi_wp2_with fail
 generalize hB : w.heap.size = B at *
 simp only [Nat.add_assoc, Nat.reduceAdd]
 refine wpIn_rangeFunc_ownF (α := Fin 8) rfl (by omega) (gf := 132) (lb := #[.pointer (some ⟨B + 3, 0, none⟩)]) rfl trivial (enters_of Tryz.func132 (by kernel_rfl) rfl)
  (places_stops 8 w2 (B + 3) 4 8 hpp rfl)
  (fun _ _ => trivial) (fun _ _ _ _ _ _ _ _ => trivial) (Below.refl _ _) (fun _ => rfl)
  (fun (pre : List (Fin 8)) W => BareL w XM g a b c n f0 f1 f2 f3 f4 f5 f6 f7 f8 f9 false W ∧ ∀ y ∈ pre, V y.1 = 0)
  (fun c' pre W => c' = Code.ret ∧ BareL w XM g a b c n f0 f1 f2 f3 f4 f5 f6 f7 f8 f9 false W ∧ ∃ y ∈ pre, V y.1 ≠ 0)
  ?own ?own2 ⟨hC, fun _ h => by cases h⟩
  (fun x => { tmps := #[.pointer (some ⟨XM, 0, none⟩), .agg #[.int .u64 (f0 : Int), .int .u64 (f1 : Int), .int .u64 (f2 : Int), .int .u64 (f3 : Int), .int .u64 (f4 : Int), .int .u64 (f5 : Int), .int .u64 (f6 : Int), .int .u64 (f7 : Int), .int .u64 (f8 : Int), .int .u64 (f9 : Int)], .pointer (some ⟨B, 0, none⟩), .pointer (some ⟨B + 1, 0, none⟩), .pointer (some ⟨B + 2, 0, none⟩), .int .i64 ((4 + x.1 : Nat) : Int), .func (.func 132) #[] #[.pointer (some ⟨B + 3, 0, none⟩)], .int .i64 ((4 + x.1 : Nat) : Int), undef, undef, undef, undef, undef, undef, undef, undef, undef, undef], defers := [] }) ?assign ?body ?done ?stop
 case own =>
  rintro pre W W' row ⟨hs, hp⟩ hg hr
  exact ⟨BareL.own (by omega) hs hg (fun r e => by have := (hr r e).1; omega), hp⟩
 case own2 =>
  rintro c pre W W' row ⟨rfl, hs, hp⟩ hg hr
  exact ⟨rfl, BareL.own (by omega) hs hg (fun r e => by have := (hr r e).1; omega), hp⟩
 case assign =>
  intro l x W K hK
  unfold encP
  gi_wp2
  exact hK
 case body =>
  rintro l pre ⟨i, hi⟩ W ⟨hL, hp⟩ hlen
  replace hL : BareL w XM g a b c n f0 f1 f2 f3 f4 f5 f6 f7 f8 f9 false W := hL
  have HF := Lib.hid (show ∀ wx, W.drew.grownBy wx none → wx.cell? ⟨B, 0, none⟩ = some (.pointer (some ⟨XM, 0, none⟩)) ∧ wx.cell? ⟨B + 1, 0, none⟩ = some (.int .u64 (f0 : Int)) ∧ wx.cell? ⟨B + 1, 1, none⟩ = some (.int .u64 (f1 : Int)) ∧ wx.cell? ⟨B + 1, 2, none⟩ = some (.int .u64 (f2 : Int)) ∧ wx.cell? ⟨B + 1, 3, none⟩ = some (.int .u64 (f3 : Int)) ∧ wx.cell? ⟨B + 1, 4, none⟩ = some (.int .u64 (f4 : Int)) ∧ wx.cell? ⟨B + 1, 5, none⟩ = some (.int .u64 (f5 : Int)) ∧ wx.cell? ⟨B + 1, 6, none⟩ = some (.int .u64 (f6 : Int)) ∧ wx.cell? ⟨B + 1, 7, none⟩ = some (.int .u64 (f7 : Int)) ∧ wx.cell? ⟨B + 1, 8, none⟩ = some (.int .u64 (f8 : Int)) ∧ wx.cell? ⟨B + 1, 9, none⟩ = some (.int .u64 (f9 : Int)) ∧ wx.cell? ⟨XM, 0, none⟩ = some (.pointer (some ⟨g, 0, none⟩)) ∧ wx.cell? ⟨XM, 1, none⟩ = some (.int .i64 (a : Int)) ∧ wx.cell? ⟨XM, 2, none⟩ = some (.int .i64 (b : Int)) ∧ wx.cell? ⟨XM, 3, none⟩ = some (.int .i64 (c : Int)) ∧ wx.cell? ⟨XM, 4, none⟩ = some (.int .i64 (n : Int)) from fun wx hgx => (hL.own (by omega) (grown_trans (grown_drew (World.grownBy.refl W none)) hgx) (fun r e => by cases e)).cells hB)
  have HBM := Lib.hid (show ∀ wx, W.drew.grownBy wx none → BM XM g a b c n wx from fun wx hgx => (hL.bm.grown (grown_trans (grown_drew (World.grownBy.refl W none)) hgx)))
  have HC := Lib.hid (HC0.out ((4 + i : Nat) : Int) ⟨by omega, by omega⟩)
  rw [show (P : Int) + ((4 + i : Nat) : Int) - 4 = ((P + i : Nat) : Int) from by omega] at HC
  have HV := Lib.hid (show ∀ wx, W.drew.grownBy wx none → _ from fun wx hgx => HV0.out i wx (grown_trans (grown_trans hL.grown (grown_drew (World.grownBy.refl W none))) hgx))
  have hgr := Lib.hid (World.grownBy.refl W.drew none)
  have HSt := Lib.hid (show ∀ wx, W.drew.grownBy wx none → KeepsOthers W wx ∧ BareL w XM g a b c n f0 f1 f2 f3 f4 f5 f6 f7 f8 f9 false wx from fun wx hgx => ⟨KeepsOthers.of_grownBy (grown_trans (grown_drew (World.grownBy.refl W none)) hgx) (fun _ _ e => by cases e), hL.own (by omega) (grown_trans (grown_drew (World.grownBy.refl W none)) hgx) (fun r e => by cases e)⟩)
  obtain ⟨T, hT⟩ : ∃ T, P + i = T := ⟨_, rfl⟩
  obtain ⟨Z, hZ⟩ : ∃ Z, 4 + i = Z := ⟨_, rfl⟩
  rw [hT] at HC HV
  simp only [hZ] at HC ⊢
  by_cases hv0 : V i = 0
  ·have HFIN := Lib.hid (show ∀ y ∈ pre ++ [(⟨i, hi⟩ : Fin 8)], V y.1 = 0 from fun y hy => by
    rcases List.mem_append.1 hy with hy | hy
    ·exact hp y hy
    ·obtain rfl : y = ⟨i, hi⟩ := by simpa using hy
     exact hv0)
   rw [hv0] at HV
   have HX1 := Lib.hid (show (((0 : Nat) : Int) != 0) = false from rfl)
   clear hL hp hv0
   gi_wp2_with fail
   have x1 := HX1.out
   refine wpIn_round_held (S := fun wx => W.drew.grownBy wx none) (by kernel_rfl) (by kernel_rfl) (hgr.out) (fun hS => ?_)
   refine wpAnyH_take (i := 0) (oi := ⟨some 8, .load 82 (.tmp 2), 82, "blocks.go:176", #[], none⟩) (v := ?via94r3o0) rfl (by kernel_rfl) (by kernel_rfl) (by kernel_rfl) (fun _ _ _ h => h) (Or.inl ⟨by rfl, ?hia94r3o0⟩) hS ?_
   case hia94r3o0 => (intro wx hx; obtain ⟨c0, c1, c2, c3, c4, c5, c6, c7, c8, c9, c10, m0, m1, m2, m3, m4⟩ := HF.out _ hx; go_simp; (try with_reducible rfl))
   try simp only [Act.put, List.setIfInBounds_toArray, List.set_cons_zero, List.set_cons_succ]
   refine wpAnyH_take (i := 1) (oi := ⟨some 9, .nilCheck (.tmp 8), 0, "blocks.go:176", #[⟨0, .data⟩], none⟩) (v := ?via94r3o1) rfl (by kernel_rfl) (by kernel_rfl) (by kernel_rfl) (fun _ _ _ h => h) (Or.inl ⟨by rfl, ?hia94r3o1⟩) hS ?_
   case hia94r3o1 => (intro wx hx; skip; go_simp; (try with_reducible rfl))
   try simp only [Act.put, List.setIfInBounds_toArray, List.set_cons_zero, List.set_cons_succ]
   refine wpAnyH_take (i := 2) (oi := ⟨some 10, .fieldAddr 161 (.tmp 9) 0, 0, "blocks.go:176", #[⟨1, .data⟩], none⟩) (v := ?via94r3o2) rfl (by kernel_rfl) (by kernel_rfl) (by kernel_rfl) (fun _ _ _ h => h) (Or.inl ⟨by rfl, ?hia94r3o2⟩) hS ?_
   case hia94r3o2 => (intro wx hx; skip; go_simp; (try with_reducible rfl))
   try simp only [Act.put, List.setIfInBounds_toArray, List.set_cons_zero, List.set_cons_succ]
   refine wpAnyH_take (i := 3) (oi := ⟨some 11, .load 32 (.tmp 10), 32, "blocks.go:176", #[⟨2, .data⟩], none⟩) (v := ?via94r3o3) rfl (by kernel_rfl) (by kernel_rfl) (by kernel_rfl) (fun _ _ _ h => h) (Or.inl ⟨by rfl, ?hia94r3o3⟩) hS ?_
   case hia94r3o3 => (intro wx hx; obtain ⟨c0, c1, c2, c3, c4, c5, c6, c7, c8, c9, c10, m0, m1, m2, m3, m4⟩ := HF.out _ hx; go_simp; (try with_reducible rfl))
   try simp only [Act.put, List.setIfInBounds_toArray, List.set_cons_zero, List.set_cons_succ]
   refine wpAnyH_take (i := 4) (oi := ⟨some 12, .load 82 (.tmp 2), 82, "blocks.go:176", #[], none⟩) (v := ?via94r3o4) rfl (by kernel_rfl) (by kernel_rfl) (by kernel_rfl) (fun _ _ _ h => h) (Or.inl ⟨by rfl, ?hia94r3o4⟩) hS ?_
   case hia94r3o4 => (intro wx hx; obtain ⟨c0, c1, c2, c3, c4, c5, c6, c7, c8, c9, c10, m0, m1, m2, m3, m4⟩ := HF.out _ hx; go_simp; (try with_reducible rfl))
   try simp only [Act.put, List.setIfInBounds_toArray, List.set_cons_zero, List.set_cons_succ]
   refine wpAnyH_take (i := 5) (oi := ⟨some 13, .load 133 (.tmp 3), 133, "blocks.go:176", #[], none⟩) (v := ?via94r3o5) rfl (by kernel_rfl) (by kernel_rfl) (by kernel_rfl) (fun _ _ _ h => h) (Or.inl ⟨by rfl, ?hia94r3o5⟩) hS ?_
   case hia94r3o5 => (intro wx hx; obtain ⟨c0, c1, c2, c3, c4, c5, c6, c7, c8, c9, c10, m0, m1, m2, m3, m4⟩ := HF.out _ hx; go_simp; (try with_reducible rfl))
   try simp only [Act.put, List.setIfInBounds_toArray, List.set_cons_zero, List.set_cons_succ]
   refine wpAnyH_take (i := 6) (oi := ⟨some 14, .move (.tmp 5), 3, "blocks.go:176", #[], none⟩) (v := ?via94r3o6) rfl (by kernel_rfl) (by kernel_rfl) (by kernel_rfl) (fun _ _ _ h => h) (Or.inl ⟨by rfl, ?hia94r3o6⟩) hS ?_
   case hia94r3o6 => (intro wx hx; skip; go_simp; (try with_reducible rfl))
   try simp only [Act.put, List.setIfInBounds_toArray, List.set_cons_zero, List.set_cons_succ]
   refine wpAnyH_ready (rs := [7]) (by kernel_rfl) (by simp) ?_
   refine AllReadyH.cons (o := ⟨some 15, .call { callee := Callee.value (Operand.func 111), args := #[.tmp 12, .tmp 13, .tmp 14], argTypes := #[82, 133, 3] }, 3, "blocks.go:176", #[⟨4, .data⟩, ⟨5, .data⟩, ⟨6, .data⟩], none⟩) rfl (fun K hK => ?_) AllReadyH.nil
   go_simp
   refine (HC.out _ (HBM.out _ hS)).mono ?_
   rintro e wA ⟨rfl, hgA⟩
   have hS1 := grown_trans hS hgA
   refine hK.out _ _ ?hsia94r3o7 (fun hS => ?_)
   case hsia94r3o7 => (exact hS1)
   clear hK K
   try simp only [Act.put, List.setIfInBounds_toArray, List.set_cons_zero, List.set_cons_succ]
   refine wpAnyH_ready (rs := [8]) (by kernel_rfl) (by simp) ?_
   refine AllReadyH.cons (o := ⟨some 16, .call { callee := Callee.value (Operand.func 88), args := #[.tmp 11, .tmp 15], argTypes := #[32, 3] }, 72, "blocks.go:176", #[⟨3, .data⟩, ⟨7, .data⟩, ⟨7, .chain⟩], none⟩) rfl (fun K hK => ?_) AllReadyH.nil
   go_simp
   refine (HV.out _ hS).mono ?_
   rintro e wB ⟨rfl, rfl⟩
   have hS1 := hS
   refine hK.out _ _ ?hsia94r3o8 (fun hS => ?_)
   case hsia94r3o8 => (exact hS1)
   clear hK K
   try simp only [Act.put, List.setIfInBounds_toArray, List.set_cons_zero, List.set_cons_succ]
   refine wpAnyH_take (i := 9) (oi := ⟨some 17, .binOp BinOp.neq 72 (.tmp 16) (Operand.const (Value.int IntKind.u64 0)) 72, 4, "blocks.go:176", #[⟨8, .data⟩], none⟩) (v := ?via94r3o9) rfl (by kernel_rfl) (by kernel_rfl) (by kernel_rfl) (fun _ _ _ h => h) (Or.inl ⟨by rfl, ?hia94r3o9⟩) hS ?_
   case hia94r3o9 => (intro wx hx; skip; go_simp; (try with_reducible rfl))
   try simp only [Act.put, List.setIfInBounds_toArray, List.set_cons_zero, List.set_cons_succ]
   refine wpAnyH_done (by kernel_rfl) ?_ _
   refine onlyEnd_mk ?_
   obtain ⟨k1, k2⟩ := HSt.out _ hS
   clear hS
   have HE := Lib.hid (And.intro k1 k2)
   clear k1 k2
   gi_wp2
   exact ⟨HE.out.1, trivial, HE.out.2, HFIN.out⟩
  ·have HFIN := Lib.hid (show ∃ y ∈ pre ++ [(⟨i, hi⟩ : Fin 8)], V y.1 ≠ 0 from ⟨⟨i, hi⟩, by simp, hv0⟩)
   have HX1 := Lib.hid (show ((V i : Int) != 0) = true by simpa using hv0)
   clear hL hp hv0
   gi_wp2_with fail
   have x1 := HX1.out
   refine wpIn_round_held (S := fun wx => W.drew.grownBy wx none) (by kernel_rfl) (by kernel_rfl) (hgr.out) (fun hS => ?_)
   refine wpAnyH_take (i := 0) (oi := ⟨some 8, .load 82 (.tmp 2), 82, "blocks.go:176", #[], none⟩) (v := ?vib94r3o0) rfl (by kernel_rfl) (by kernel_rfl) (by kernel_rfl) (fun _ _ _ h => h) (Or.inl ⟨by rfl, ?hib94r3o0⟩) hS ?_
   case hib94r3o0 => (intro wx hx; obtain ⟨c0, c1, c2, c3, c4, c5, c6, c7, c8, c9, c10, m0, m1, m2, m3, m4⟩ := HF.out _ hx; go_simp; (try with_reducible rfl))
   try simp only [Act.put, List.setIfInBounds_toArray, List.set_cons_zero, List.set_cons_succ]
   refine wpAnyH_take (i := 1) (oi := ⟨some 9, .nilCheck (.tmp 8), 0, "blocks.go:176", #[⟨0, .data⟩], none⟩) (v := ?vib94r3o1) rfl (by kernel_rfl) (by kernel_rfl) (by kernel_rfl) (fun _ _ _ h => h) (Or.inl ⟨by rfl, ?hib94r3o1⟩) hS ?_
   case hib94r3o1 => (intro wx hx; skip; go_simp; (try with_reducible rfl))
   try simp only [Act.put, List.setIfInBounds_toArray, List.set_cons_zero, List.set_cons_succ]
   refine wpAnyH_take (i := 2) (oi := ⟨some 10, .fieldAddr 161 (.tmp 9) 0, 0, "blocks.go:176", #[⟨1, .data⟩], none⟩) (v := ?vib94r3o2) rfl (by kernel_rfl) (by kernel_rfl) (by kernel_rfl) (fun _ _ _ h => h) (Or.inl ⟨by rfl, ?hib94r3o2⟩) hS ?_
   case hib94r3o2 => (intro wx hx; skip; go_simp; (try with_reducible rfl))
   try simp only [Act.put, List.setIfInBounds_toArray, List.set_cons_zero, List.set_cons_succ]
   refine wpAnyH_take (i := 3) (oi := ⟨some 11, .load 32 (.tmp 10), 32, "blocks.go:176", #[⟨2, .data⟩], none⟩) (v := ?vib94r3o3) rfl (by kernel_rfl) (by kernel_rfl) (by kernel_rfl) (fun _ _ _ h => h) (Or.inl ⟨by rfl, ?hib94r3o3⟩) hS ?_
   case hib94r3o3 => (intro wx hx; obtain ⟨c0, c1, c2, c3, c4, c5, c6, c7, c8, c9, c10, m0, m1, m2, m3, m4⟩ := HF.out _ hx; go_simp; (try with_reducible rfl))
   try simp only [Act.put, List.setIfInBounds_toArray, List.set_cons_zero, List.set_cons_succ]
   refine wpAnyH_take (i := 4) (oi := ⟨some 12, .load 82 (.tmp 2), 82, "blocks.go:176", #[], none⟩) (v := ?vib94r3o4) rfl (by kernel_rfl) (by kernel_rfl) (by kernel_rfl) (fun _ _ _ h => h) (Or.inl ⟨by rfl, ?hib94r3o4⟩) hS ?_
   case hib94r3o4 => (intro wx hx; obtain ⟨c0, c1, c2, c3, c4, c5, c6, c7, c8, c9, c10, m0, m1, m2, m3, m4⟩ := HF.out _ hx; go_simp; (try with_reducible rfl))
   try simp only [Act.put, List.setIfInBounds_toArray, List.set_cons_zero, List.set_cons_succ]
   refine wpAnyH_take (i := 5) (oi := ⟨some 13, .load 133 (.tmp 3), 133, "blocks.go:176", #[], none⟩) (v := ?vib94r3o5) rfl (by kernel_rfl) (by kernel_rfl) (by kernel_rfl) (fun _ _ _ h => h) (Or.inl ⟨by rfl, ?hib94r3o5⟩) hS ?_
   case hib94r3o5 => (intro wx hx; obtain ⟨c0, c1, c2, c3, c4, c5, c6, c7, c8, c9, c10, m0, m1, m2, m3, m4⟩ := HF.out _ hx; go_simp; (try with_reducible rfl))
   try simp only [Act.put, List.setIfInBounds_toArray, List.set_cons_zero, List.set_cons_succ]
   refine wpAnyH_take (i := 6) (oi := ⟨some 14, .move (.tmp 5), 3, "blocks.go:176", #[], none⟩) (v := ?vib94r3o6) rfl (by kernel_rfl) (by kernel_rfl) (by kernel_rfl) (fun _ _ _ h => h) (Or.inl ⟨by rfl, ?hib94r3o6⟩) hS ?_
   case hib94r3o6 => (intro wx hx; skip; go_simp; (try with_reducible rfl))
   try simp only [Act.put, List.setIfInBounds_toArray, List.set_cons_zero, List.set_cons_succ]
   refine wpAnyH_ready (rs := [7]) (by kernel_rfl) (by simp) ?_
   refine AllReadyH.cons (o := ⟨some 15, .call { callee := Callee.value (Operand.func 111), args := #[.tmp 12, .tmp 13, .tmp 14], argTypes := #[82, 133, 3] }, 3, "blocks.go:176", #[⟨4, .data⟩, ⟨5, .data⟩, ⟨6, .data⟩], none⟩) rfl (fun K hK => ?_) AllReadyH.nil
   go_simp
   refine (HC.out _ (HBM.out _ hS)).mono ?_
   rintro e wA ⟨rfl, hgA⟩
   have hS1 := grown_trans hS hgA
   refine hK.out _ _ ?hsib94r3o7 (fun hS => ?_)
   case hsib94r3o7 => (exact hS1)
   clear hK K
   try simp only [Act.put, List.setIfInBounds_toArray, List.set_cons_zero, List.set_cons_succ]
   refine wpAnyH_ready (rs := [8]) (by kernel_rfl) (by simp) ?_
   refine AllReadyH.cons (o := ⟨some 16, .call { callee := Callee.value (Operand.func 88), args := #[.tmp 11, .tmp 15], argTypes := #[32, 3] }, 72, "blocks.go:176", #[⟨3, .data⟩, ⟨7, .data⟩, ⟨7, .chain⟩], none⟩) rfl (fun K hK => ?_) AllReadyH.nil
   go_simp
   refine (HV.out _ hS).mono ?_
   rintro e wB ⟨rfl, rfl⟩
   have hS1 := hS
   refine hK.out _ _ ?hsib94r3o8 (fun hS => ?_)
   case hsib94r3o8 => (exact hS1)
   clear hK K
   try simp only [Act.put, List.setIfInBounds_toArray, List.set_cons_zero, List.set_cons_succ]
   refine wpAnyH_take (i := 9) (oi := ⟨some 17, .binOp BinOp.neq 72 (.tmp 16) (Operand.const (Value.int IntKind.u64 0)) 72, 4, "blocks.go:176", #[⟨8, .data⟩], none⟩) (v := ?vib94r3o9) rfl (by kernel_rfl) (by kernel_rfl) (by kernel_rfl) (fun _ _ _ h => h) (Or.inl ⟨by rfl, ?hib94r3o9⟩) hS ?_
   case hib94r3o9 => (intro wx hx; skip; go_simp; (try with_reducible rfl))
   try simp only [Act.put, List.setIfInBounds_toArray, List.set_cons_zero, List.set_cons_succ]
   refine wpAnyH_done (by kernel_rfl) ?_ _
   refine onlyEnd_mk ?_
   obtain ⟨k1, k2⟩ := HSt.out _ hS
   have cB2 := k2.b2
   have hput := k2.put (by omega) false
   rw [hB] at cB2 hput
   have z2 := bool_frozen cB2
   have d2 := bool_cell cB2
   have hput := Lib.hid hput
   clear cB2
   gi_wp2
   exact ⟨k1.trans hput.out.1, rfl, hput.out.2, HFIN.out⟩
 case done =>
  rintro D ys W hD hys ⟨hL, hp⟩ hK
  subst hys
  replace hL : BareL w XM g a b c n f0 f1 f2 f3 f4 f5 f6 f7 f8 f9 false W := hL
  have hrt : r = true := hr.1 (fun i hi => hp ⟨i, hi⟩ (by simp))
  subst hrt
  have hput := hL.put (by omega) true
  have cB2 := hL.b2
  rw [hB] at cB2 hput
  have z2 : W.frozen? ⟨B + 2, 0, none⟩ = false := by simp [World.frozen?, cB2]
  have d2 : W.cell? ⟨B + 2, 0, none⟩ = some (.bool false) := by simp [World.cell?, cB2]
  have hput := Lib.hid hput
  clear hL hp cB2 hr
  gi_wp2
  obtain ⟨hk, hN2⟩ := hput.out
  refine leaves_marks (B := B) _ (D + 1) _ ⟨D, rfl, by omega, by omega, hk.same _ _ hK rfl, trivial⟩ ?_
  intro w' hw'
  have q2 := hw'.cells _ _ _ _ hN2.b2
  rw [hB] at q2
  have r2 : w'.cell? ⟨B + 2, 0, none⟩ = some (.bool true) := by simp [World.cell?, q2]
  exact ⟨.bool true, by simp [results, Tryz.results94, go_sem, r2], rfl, hw'.grown (by omega) hN2.grown⟩
 case stop =>
  rintro D c pre W hD ⟨k, hkN, rfl⟩ ⟨rfl, hL, y, hy, hne⟩ hK
  replace hL : BareL w XM g a b c n f0 f1 f2 f3 f4 f5 f6 f7 f8 f9 false W := hL
  have hrt : r = false := by
   cases r
   ·rfl
   ·exact absurd (hr.2 rfl y.1 y.2) hne
  subst hrt
  gi_wp2
  refine leaves_marks (B := B) _ (D + 1) _ ⟨D, rfl, by omega, by omega, hK, trivial⟩ ?_
  intro w' hw'
  have q2 := hw'.cells _ _ _ _ hL.b2
  rw [hB] at q2
  have r2 : w'.cell? ⟨B + 2, 0, none⟩ = some (.bool false) := by simp [World.cell?, q2]
  exact ⟨.bool false, by simp [results, Tryz.results94, go_sem, r2], rfl, hw'.grown (by omega) hL.grown⟩
theorem bmBare (kv km XM g a b c n P : Nat) (f0 f1 f2 f3 f4 f5 f6 f7 f8 f9 : Nat) (xs : List Nat) (L : List (Nat × Nat)) (r : Bool) (w0 w : World) (Ps : List Pr) (h : Grommet.Own w0 w Ps) (hv : Ps[kv]? = some (viewP g xs L)) (hm : Ps[km]? = some (bmP XM g a b c n)) (h8 : f8 ≠ 0) (h8s : f8 ≤ 1000000) (hP : blockV (a : Int) (b : Int) (c : Int) (f8 : Int) = (P : Int)) (hPl : P ≤ 1000000)
  (hr : (∀ i : Nat, i < 8 → gotI xs L ((P + i : Nat) : Int) = 0) ↔ r = true) :
  Calls Tryz.prog 94 #[.pointer (some ⟨XM, 0, none⟩), nv f0 f1 f2 f3 f4 f5 f6 f7 f8 f9] w fun e w' => e = .returned (.bool r) ∧ Grommet.Own w0 w' Ps :=
 (bmBare_any XM g a b c n P f0 f1 f2 f3 f4 f5 f6 f7 f8 f9 (fun i => gotI xs L ((P + i : Nat) : Int)) r w (BM.of h hm) h8 h8s hP hPl (fun i wx hg => GetH kv g xs L _ w0 wx Ps (h.quiet hg) hv) hr).mono fun e w' ⟨he, hg⟩ => ⟨he, h.quiet hg⟩
end Go.Proofs.YtfljlmmiiccooaaGreatDoor
end
section
namespace Go.Grommet
open Go.RowKit
def isLoop : Obj → Bool
 | .loop _ => true
 | .deferred _ => true
 | _ => false
def Solid (P : Pr) : Prop := ∀ w F, P.holds w F → ∃ F', P.holds w F' ∧ (∀ i, F' i → F i) ∧ ∀ i, F' i → ∃ o, w.heap[i]? = some o ∧ isLoop o = false
theorem Own.beside {w0 w w' : World} {Ps : List Pr} (h : Own w0 w Ps) (hs : ∀ P ∈ Ps, Solid P) {r : Nat} (h0 : w0.heap.size ≤ r) {o : Obj} (ho : w.heap[r]? = some o) (hl : isLoop o = true) (hg : w.grownBy w' (some r)) : Own w0 w' Ps := by
 obtain ⟨Fs, h1, h2, h3, h4⟩ := h
 have hx : ∀ k, ∃ G : Nat → Prop, (∀ i, G i → Fs k i) ∧ (∀ P, Ps[k]? = some P → P.holds w G) ∧ (k < Ps.length → ∀ i, G i → ∃ o, w.heap[i]? = some o ∧ isLoop o = false) := by
  intro k
  by_cases hk : k < Ps.length
  ·obtain ⟨G, g1, g2, g3⟩ := hs Ps[k] (List.getElem_mem hk) w (Fs k) (h1 k _ (List.getElem?_eq_getElem hk))
   exact ⟨G, g2, fun P hP => by rw [List.getElem?_eq_getElem hk] at hP; cases hP; exact g1, fun _ => g3⟩
  ·exact ⟨Fs k, fun _ h => h, fun P hP => h1 k P hP, fun h => absurd h hk⟩
 refine ⟨fun k => (hx k).choose, fun k P hk => ?_, fun j k hj hk hne i hi hi' => h2 j k hj hk hne i ((hx j).choose_spec.1 i hi) ((hx k).choose_spec.1 i hi'), fun k hk i hi => h3 k hk i ((hx k).choose_spec.1 i hi), grown_new h4 hg (fun j e => by cases e; exact h0)⟩
 refine P.turn ((hx k).choose_spec.2.1 P hk) (Turn.of (F := fun i => i = r) hg (fun i e => by cases e; rfl)) (fun i hi e => ?_)
 subst e
 obtain ⟨o', ho', hl'⟩ := (hx k).choose_spec.2.2 (List.getElem?_eq_some_iff.1 hk).1 i hi
 rw [ho] at ho'
 cases ho'
 rw [hl] at hl'
 cases hl'
def objP (X : Nat) (o : Obj) : Pr where
 holds w F := w.heap[X]? = some o ∧ F X ∧ ∀ i, F i → i < w.heap.size
 turn := fun h ht hn => ⟨ht.obj h.1 (hn _ h.2.1), h.2.1, fun i hi => Nat.lt_of_lt_of_le (h.2.2 i hi) ht.size⟩
 old := fun h => h.2.2
theorem Own.withObjs {w0 w : World} {Ps : List Pr} (h : Own w0 w Ps) (hs : ∀ P ∈ Ps, Solid P) {r : Nat} (h0 : w0.heap.size ≤ r) {o o' : Obj} (ho : w.heap[r]? = some o) (hl : isLoop o = true) (ho' : w.heap[r + 1]? = some o') (hl' : isLoop o' = true) : Own w0 w (Ps ++ [objP r o, objP (r + 1) o']) := by
 obtain ⟨Fs, h1, h2, h3, h4⟩ := h
 have hx : ∀ k, ∃ G : Nat → Prop, (∀ i, G i → Fs k i) ∧ (∀ P, Ps[k]? = some P → P.holds w G) ∧ (k < Ps.length → ∀ i, G i → ∃ o, w.heap[i]? = some o ∧ isLoop o = false) := by
  intro k
  by_cases hk : k < Ps.length
  ·obtain ⟨G, g1, g2, g3⟩ := hs Ps[k] (List.getElem_mem hk) w (Fs k) (h1 k _ (List.getElem?_eq_getElem hk))
   exact ⟨G, g2, fun P hP => by rw [List.getElem?_eq_getElem hk] at hP; cases hP; exact g1, fun _ => g3⟩
  ·exact ⟨Fs k, fun _ h => h, fun P hP => h1 k P hP, fun h => absurd h hk⟩
 obtain ⟨G, hG⟩ := Classical.axiomOfChoice hx
 have off : ∀ k, k < Ps.length → ∀ i, G k i → i ≠ r ∧ i ≠ r + 1 := by
  intro k hk i hi
  obtain ⟨q, hq, hql⟩ := (hG k).2.2 hk i hi
  refine ⟨fun e => ?_, fun e => ?_⟩
  ·subst e; rw [ho] at hq; cases hq; rw [hl] at hql; cases hql
  ·subst e; rw [ho'] at hq; cases hq; rw [hl'] at hql; cases hql
 obtain ⟨K, hK⟩ : ∃ K : Nat → Nat → Prop, ∀ k i, K k i ↔ if k < Ps.length then G k i else if k = Ps.length then i = r else i = r + 1 := ⟨fun k i => if k < Ps.length then G k i else if k = Ps.length then i = r else i = r + 1, fun _ _ => Iff.rfl⟩
 have hlen : (Ps ++ [objP r o, objP (r + 1) o']).length = Ps.length + 2 := by simp
 refine ⟨K, fun k P hP => ?_, fun j k hj hk hne i hi hi' => ?_, fun k hk i hi => ?_, h4⟩
 ·have hkl := (List.getElem?_eq_some_iff.1 hP).1
  rw [hlen] at hkl
  by_cases hk : k < Ps.length
  ·rw [List.getElem?_append_left hk] at hP
   have e : K k = G k := by funext i; rw [hK k i, if_pos hk]
   rw [e]
   exact (hG k).2.1 P hP
  ·rw [List.getElem?_append_right (by omega)] at hP
   by_cases he : k = Ps.length
   ·subst he
    rw [Nat.sub_self] at hP
    cases hP
    exact ⟨ho, by rw [hK, if_neg hk, if_pos rfl], fun i hi => by rw [hK, if_neg hk, if_pos rfl] at hi; subst hi; exact (Array.getElem?_eq_some_iff.1 ho).1⟩
   ·obtain rfl : k = Ps.length + 1 := by omega
    rw [show Ps.length + 1 - Ps.length = 1 from by omega] at hP
    cases hP
    exact ⟨ho', by rw [hK, if_neg hk, if_neg he], fun i hi => by rw [hK, if_neg hk, if_neg he] at hi; subst hi; exact (Array.getElem?_eq_some_iff.1 ho').1⟩
 ·rw [hlen] at hj hk
  rw [hK] at hi hi'
  by_cases a : j < Ps.length
  ·rw [if_pos a] at hi
   have := off j a i hi
   by_cases b : k < Ps.length
   ·rw [if_pos b] at hi'; exact h2 j k a b hne i ((hG j).1 i hi) ((hG k).1 i hi')
   ·rw [if_neg b] at hi'
    split at hi' <;> omega
  ·rw [if_neg a] at hi
   by_cases b : k < Ps.length
   ·rw [if_pos b] at hi'
    have := off k b i hi'
    split at hi <;> omega
   ·rw [if_neg b] at hi'
    split at hi <;> split at hi' <;> omega
 ·rw [hlen] at hk
  rw [hK] at hi
  by_cases a : k < Ps.length
  ·rw [if_pos a] at hi; exact h3 k a i ((hG k).1 i hi)
  ·rw [if_neg a] at hi
   split at hi <;> omega
theorem solid_box (X : Nat) (T : TypeId) (cs : Array Value) : Solid (boxP X T cs) := fun w F h =>
 ⟨fun i => i = X, ⟨h.1, rfl, fun i e => by subst e; exact (Array.getElem?_eq_some_iff.1 h.1).1⟩, fun i e => by subst e; exact h.2.1, fun i e => by subst e; exact ⟨_, h.1, rfl⟩⟩
theorem row_block {w : World} {e : TypeId} {s n : Nat} {v : Value} {xs : List Value} (h : w.ownsRow 0 e s v n xs) (i : Nat) (hi : v.ownBlock = some i) : ∃ cur, w.heap[i]? = some (.cells cur e (0, 0)) := by
 obtain ⟨_, ⟨rfl, _⟩ | ⟨g, cap, cur, rfl, _, hc, _⟩⟩ := h
 ·cases hi
 ·cases hi; exact ⟨cur, hc⟩
end Go.Grommet
namespace Go.Proofs.YtfljlmmiiccooaaGreatDoor
open Go.RowKit Go.Grommet
theorem solid_view (g : Nat) (xs : List Nat) (L : List (Nat × Nat)) : Solid (viewP g xs L) := by
 rintro w F ⟨ws, wr, mb, h⟩
 obtain ⟨es, c, hmb⟩ := h.num.lt
 have hsol : ∀ i, (i = g ∨ i = mb ∨ ws.ownBlock = some i ∨ wr.ownBlock = some i) → ∃ o, w.heap[i]? = some o ∧ isLoop o = false := by
  rintro i (rfl | rfl | hi | hi)
  ·exact ⟨_, h.obj, rfl⟩
  ·exact ⟨_, hmb, rfl⟩
  ·obtain ⟨cur, hc⟩ := row_block h.words i hi; exact ⟨_, hc, rfl⟩
  ·obtain ⟨cur, hc⟩ := row_block h.writes i hi; exact ⟨_, hc, rfl⟩
 refine ⟨fun i => i = g ∨ i = mb ∨ ws.ownBlock = some i ∨ wr.ownBlock = some i, ⟨ws, wr, mb, h.obj, h.words, h.writes, h.num, h.small, h.fits, h.good, fun i hi => ?_, .inl rfl, .inr (.inl rfl), fun i hi => .inr (.inr (.inl hi)), fun i hi => .inr (.inr (.inr hi))⟩, ?_, hsol⟩
 ·obtain ⟨o, ho, _⟩ := hsol i hi
  exact (Array.getElem?_eq_some_iff.1 ho).1
 ·rintro i (rfl | rfl | hi | hi)
  ·exact h.fg
  ·exact h.fm
  ·exact h.fw i hi
  ·exact h.fr i hi
end Go.Proofs.YtfljlmmiiccooaaGreatDoor
end
section
namespace Go.Grommet
open Go Go.RowKit
variable {F : Fence} {n : Nat} {P : Program}
def Calm {β : Type} (B : Nat) (I : β → World → Prop) : Prop := ∀ (s : β) (W W' : World) (row : Option Nat), I s W → W.grownBy W' row → (∀ r, row = some r → B ≤ r ∧ ∃ o : Obj, W.heap[r]? = some o ∧ isLoop o = true) → I s W'
theorem Calm.putObj {β : Type} {B : Nat} {I : β → World → Prop} (h : Calm B I) {s : β} {W : World} {l : Nat} {o : Obj} (o' : Obj) (hs : I s W) (hB : B ≤ l) (hl : W.heap[l]? = some o) (ho : isLoop o = true) : I s (W.putObj l o') :=
 h s W _ (some l) hs (grownBy_putObj' W l o') (fun r e => by cases e; exact ⟨hB, o, hl, ho⟩)
theorem Calm.alloc {β : Type} {B : Nat} {I : β → World → Prop} (h : Calm B I) {s : β} {W : World} (o : Obj) (hs : I s W) : I s (W.alloc o) :=
 h s W _ none hs (World.grownBy_alloc W o none) (fun r e => by cases e)
structure Book (R : Nat) (lp : Loop) (W : World) : Prop where
 lp : W.heap[R + 1]? = some (.loop lp)
 marks : W.heap[R]? = some (.deferred (some []))
theorem Book.stay {R : Nat} {lp : Loop} {A B : World} (h : Book R lp A) (hs : ∀ (k : Nat) (o : Obj), A.heap[k]? = some o → o.isCells = false → o.isWalk = false → B.heap[k]? = some o) : Book R lp B := ⟨hs _ _ h.lp rfl rfl, hs _ _ h.marks rfl rfl⟩
theorem Book.turn {R : Nat} {lp : Loop} {A : World} (h : Book R lp A) (lp' : Loop) : Book R lp' (A.putObj (R + 1) (.loop lp')) :=
 ⟨World.putObj_heap_same (Array.getElem?_eq_some_iff.1 h.lp).1, (World.putObj_heap_other (by omega)).trans h.marks⟩
def lpOf (fn : FuncId) (tmps : Array Value) (ps : Array Tmp) (assign body : Code) (R : Nat) (st : LoopState) (pe : Option Code) : Loop := { state := st, pending := pe, fn, tmps, params := ps, assign, body, defers := R }
def bookPost {α : Type} (R : Nat) (lp : Loop) (I : List α → World → Prop) (Ix : Code → List α → World → Prop) (xs : List α) : Exit → Act → World → Prop
 | .normal, _, W' => Book R lp W' ∧ I xs W'
 | .ret, _, W' => Book R lp W' ∧ Ix .ret xs W'
 | .exit id, _, W' => Book R lp W' ∧ Ix (.exit id) xs W'
 | .goto t, _, W' => Book R lp W' ∧ Ix (.goto t) xs W'
 | .panic _, _, _ => False
 | .outgrown, _, _ => False
end Go.Grommet
end
section
namespace Go.Proofs.YtfljlmmiiccooaaGreatDoor
open Go.RowKit Go.Grommet Go.Shelf
attribute [local go_sem] Oper.semAt_some
end Go.Proofs.YtfljlmmiiccooaaGreatDoor
end
section
namespace Go.Proofs.YtfljlmmiiccooaaGreatDoor
open Go.RowKit Go.Grommet Go.Shelf
attribute [local go_sem] Oper.semAt_some
set_option linter.unusedVariables false
theorem leaves_own {F : Fence} {n : Nat} {P : Program} {fn : Func} {tmps : Array Value} {R : Ending → World → Prop} {w0 w : World} {Ps : List Pr} {D : Nat} (hO : Grommet.Own w0 w Ps) (hs : ∀ P ∈ Ps, Solid P) (h0 : w0.heap.size ≤ D) (hD : w.heap[D]? = some (.deferred (some [])))
  (h : ∀ w', Grommet.Own w0 w' Ps → ∃ v, (results fn tmps).run P w' = .ok v w' ∧ R (.returned v) w') : LeavesInM F n P fn tmps R [{ target := .collected D, args := #[] }] .returning w := by
 refine ⟨by simp, .inl ⟨D, _, rfl, run_takeDeferred hD, ?_⟩⟩
 exact h _ (hO.beside hs h0 hD rfl (grownBy_putObj' w D _))
theorem Own.calm {w0 : World} {R : Nat} {β : Type} (Qs : β → List Pr) (hs : ∀ b, ∀ P ∈ Qs b, Solid P) (h0 : w0.heap.size ≤ R) : Go.Grommet.Calm R (fun (b : β) W => Grommet.Own w0 W (Qs b)) := by
 intro b W W' row h hg hr
 cases row with
 | none => exact h.quiet hg
 | some r =>
  obtain ⟨h1, o, h2, h3⟩ := hr r rfl
  exact h.beside (hs b) (by omega) h2 h3 hg
theorem objs_back {w0 w : World} {Ps : List Pr} {R : Nat} {lp : Loop} (h : Grommet.Own w0 w (Ps ++ [objP R (.deferred (some [])), objP (R + 1) (.loop lp)])) : Book R lp w ∧ Grommet.Own w0 w Ps := by
 refine ⟨⟨?_, ?_⟩, h.less⟩
 ·obtain ⟨F, hF⟩ := h.get (Ps.length + 1) (by rw [List.getElem?_append_right (by omega)]; simp; rfl)
  exact hF.1
 ·obtain ⟨F, hF⟩ := h.get Ps.length (by rw [List.getElem?_append_right (by omega)]; simp; rfl)
  exact hF.1
end Go.Proofs.YtfljlmmiiccooaaGreatDoor
end
section
namespace Go.Grommet
open Go.RowKit
theorem solid_row (e s : Nat) (v : Value) (n : Nat) (xs : List Value) : Solid (rowP e s v n xs) := fun w F h =>
 ⟨fun i => v.ownBlock = some i, ⟨h.1, fun _ hi => hi, fun i hi => h.2.2 i (h.2.1 i hi)⟩, fun i hi => h.2.1 i hi, fun i hi => by obtain ⟨cur, hc⟩ := row_block h.1 i hi; exact ⟨_, hc, rfl⟩⟩
theorem Own.grows {w0 w w' : World} {Ps : List Pr} (h : Own w0 w Ps) (k : Nat) {e sz n n' : Nat} {v v' : Value} {xs ys : List Value} (hk : Ps[k]? = some (rowP e sz v n xs)) (hr : w'.ownsRow 0 e sz v' n' ys) (hg : w.grownBy w' v.ownBlock)
  (hb : ∀ g, v'.ownBlock = some g → v.ownBlock = some g ∨ w.heap.size ≤ g) : Own w0 w' (Ps.set k (rowP e sz v' n' ys)) := by
 obtain ⟨F, h1, h2⟩ := h.take k hk
 refine h2 _ _ ⟨fun i => v'.ownBlock = some i, ⟨hr, fun _ hi => hi, fun i hi => by obtain ⟨cur, hc⟩ := row_block hr i hi; exact (Array.getElem?_eq_some_iff.1 hc).1⟩, fun i hi => (hb i hi).imp (h1.2.1 i) id, Turn.of hg (fun i e => h1.2.1 i e)⟩
theorem Own.nilRow {w0 w : World} {Ps : List Pr} (h : Own w0 w Ps) (e size : Nat) : Own w0 w (Ps ++ [rowP e size (.slice none 0 0) 0 []]) :=
 h.add (F := fun _ => False) ⟨⟨by simp, .inl ⟨rfl, rfl⟩⟩, fun i hi => by simp [Value.ownBlock] at hi, fun _ h => h.elim⟩ (fun _ h => h.elim) (World.grownBy.refl _ _)
theorem Own.permute {w0 w : World} {Ps Qs : List Pr} (f : Nat → Nat) (h : Own w0 w Ps) (key : ∀ j, j < Qs.length → f j < Ps.length ∧ Qs[j]? = Ps[f j]?) (inj : ∀ i j, i < Qs.length → j < Qs.length → i ≠ j → f i ≠ f j) : Own w0 w Qs := by
 obtain ⟨Fs, h1, h2, h3, h4⟩ := h
 exact ⟨fun j => Fs (f j), fun k P hk => h1 _ P (by rw [← (key k (List.getElem?_eq_some_iff.1 hk).1).2]; exact hk), fun j k hj hk hne => h2 _ _ (key j hj).1 (key k hk).1 (inj j k hj hk hne), fun k hk => h3 _ (key k hk).1, h4⟩
end Go.Grommet
end
section
namespace Go.Proofs.YtfljlmmiiccooaaGreatDoor
open Go.RowKit Go.Grommet
set_option linter.unusedVariables false
theorem bmDrop_none (XM : Nat) (k p : Int) (w0 w : World) (Ps : List Pr) (h : Grommet.Own w0 w Ps) (hL : LookC XM k p 0 0 w0 Ps) :
  Calls Tryz.prog 56 #[.pointer (some ⟨XM, 0, none⟩), .int .i64 k] w fun e' w' => e' = .returned (.int .i64 0) ∧ Grommet.Own w0 w' Ps := by
 have HL := Lib.hid (hL w h)
 clear h hL
 go_enter Tryz.func56, Tryz.ntmps56
 go_wp2_with fail
 refine HL.out.mono ?_
 rintro e' w1 ⟨rfl, hO⟩
 have hO := Lib.hid hO
 clear HL
 go_wp2
 go_ret
 exact ⟨rfl, hO.out⟩
def giveBL (xs : List Nat) (L : List (Nat × Nat)) (a c : Nat) (m t : Int) : List (Nat × Nat) := setL xs (giveL xs L (272 + 208 * a) c m) t 0
theorem bmDrop_plain (kv km XM g a b c n A : Nat) (k t m : Int) (f0 f1 f2 f3 f4 f5 f6 f7 f8 f9 : Nat) (xs : List Nat) (L L1 : List (Nat × Nat)) (w0 w : World) (Ps : List Pr) (h : Grommet.Own w0 w Ps) (hv : Ps[kv]? = some (viewP g xs L)) (hm : Ps[km]? = some (bmP XM g a b c n)) (hkm : kv ≠ km) (hN : NodeOk xs L a b c n A)
  (hL : LookC XM k t m 0 w0 Ps) (hm0 : m ≠ 0) (ht : 0 ≤ t ∧ t < (xs.length : Int)) (he : giveE xs L (272 + 208 * a) c m = 0) (hl : (giveL xs L (272 + 208 * a) c m).length < 96) (hL1 : giveBL xs L a c m t = L1)
  (HG : ∀ Rs : List Pr, Rs[kv]? = some (viewP g xs L1) → ∀ wx Qs, Grommet.Own w0 wx (Rs ++ Qs) → Calls Tryz.prog 73 #[.pointer (some ⟨g, 0, none⟩), gv (a : Int) (b : Int) (c : Int), .int .i64 (n : Int)] wx fun e w' => e = .returned (.tuple #[nv f0 f1 f2 f3 f4 f5 f6 f7 f8 f9, .int .i64 0]) ∧ Grommet.Own w0 w' (Rs ++ Qs)) (h8 : f8 = 0) :
  Calls Tryz.prog 56 #[.pointer (some ⟨XM, 0, none⟩), .int .i64 k] w fun e' w' => e' = .returned (.int .i64 0) ∧ Grommet.Own w0 w' (Ps.set kv (viewP g xs L1)) := by
 have hkl := (List.getElem?_eq_some_iff.1 hv).1
 have HL := Lib.hid (hL w h)
 have HB0 := Lib.hid (show ∀ wx Rs, Grommet.Own w0 wx (Ps ++ Rs) → BM XM g a b c n wx from fun wx Rs hO => BM.of (k := km) hO (app_old hm))
 have HA := Lib.hid (fun wx (hO : Grommet.Own w0 wx Ps) => ANewH kv g a b c xs L w0 wx Ps hO hv hN.may hN.fits hN.few)
 have HV := Lib.hid (fun wx Y XI XB XA (hO : Grommet.Own w0 wx (Ps ++ alcPs Y g a b c XI XB XA)) => bmGive kv km _ _ _ g a b c XI XB XA XM n t m xs L w0 wx _ hO (alcIs_of hv hN) (app_old hm) hkm he hl ht)
 rw [show setL xs (giveL xs L (272 + 208 * a) c m) t 0 = L1 from hL1] at HV
 have HB1 := Lib.hid (show ∀ Y XI XB XA wx Qs, Grommet.Own w0 wx ((Ps ++ alcPs Y g a b c XI XB XA).set kv (viewP g xs L1) ++ Qs) → BM XM g a b c n wx from fun Y XI XB XA wx Qs hO => BM.of (k := km) hO (app_old (set_same_at _ _ (app_old hm) hkm)))
 have HG1 := Lib.hid (fun Y XI XB XA => HG ((Ps ++ alcPs Y g a b c XI XB XA).set kv (viewP g xs L1)) (set_at _ (app_old hv)))
 have HQ := Lib.hid (show ∀ wx Y XI XB XA Q, Grommet.Own w0 wx ((Ps ++ alcPs Y g a b c XI XB XA).set kv Q) → Grommet.Own w0 wx (Ps.set kv Q) from fun wx Y XI XB XA Q hO => by
  rw [List.set_append_left _ _ hkl] at hO
  exact hO.less)
 have e1 : (m == 0) = false := by simpa using hm0
 have He8 := Lib.hid (show ((f8 : Int) == 0) = true by simp [h8])
 unfold nv gv at *
 clear h hv hm hkm hN hL hm0 ht he hl hL1 HG hkl h8
 go_enter Tryz.func56, Tryz.ntmps56
 go_wp2_with fail
 refine HL.out.mono ?_
 rintro e' w1 ⟨rfl, hO1⟩
 have hS0 := Lib.hid (HB0.out _ [] (by rw [List.append_nil]; exact hO1)).drew
 have hOr := Lib.hid (hO1.quiet (grown_drew (World.grownBy.refl w1 none)))
 clear HL hO1
 go_wp2_with fail
 refine wp_region_held_drew (S := fun w' => BM XM g a b c n w') (by kernel_rfl) (hS0.out) (fun hS => ?_)
 refine wpAnyH_take (i := 0) (oi := ⟨some 26, .move (.tmp 0), 82, "blocks.go:151", #[], none⟩) (v := ?vda56r4o0) rfl (by kernel_rfl) (by kernel_rfl) (by kernel_rfl) (fun _ _ _ h => h) (Or.inl ⟨by rfl, ?hda56r4o0⟩) hS ?_
 case hda56r4o0 => (intro wx hx; skip; go_simp; (try with_reducible rfl))
 try simp only [Act.put, List.setIfInBounds_toArray, List.set_cons_zero, List.set_cons_succ]
 refine wpAnyH_take (i := 1) (oi := ⟨some 27, .nilCheck (.tmp 26), 0, "blocks.go:151", #[⟨0, .data⟩], none⟩) (v := ?vda56r4o1) rfl (by kernel_rfl) (by kernel_rfl) (by kernel_rfl) (fun _ _ _ h => h) (Or.inl ⟨by rfl, ?hda56r4o1⟩) hS ?_
 case hda56r4o1 => (intro wx hx; skip; go_simp; (try with_reducible rfl))
 try simp only [Act.put, List.setIfInBounds_toArray, List.set_cons_zero, List.set_cons_succ]
 refine wpAnyH_take (i := 2) (oi := ⟨some 28, .fieldAddr 161 (.tmp 27) 0, 0, "blocks.go:151", #[⟨1, .data⟩], none⟩) (v := ?vda56r4o2) rfl (by kernel_rfl) (by kernel_rfl) (by kernel_rfl) (fun _ _ _ h => h) (Or.inl ⟨by rfl, ?hda56r4o2⟩) hS ?_
 case hda56r4o2 => (intro wx hx; skip; go_simp; (try with_reducible rfl))
 try simp only [Act.put, List.setIfInBounds_toArray, List.set_cons_zero, List.set_cons_succ]
 refine wpAnyH_take (i := 3) (oi := ⟨some 29, .load 32 (.tmp 28), 32, "blocks.go:151", #[⟨2, .data⟩], none⟩) (v := ?vda56r4o3) rfl (by kernel_rfl) (by kernel_rfl) (by kernel_rfl) (fun _ _ _ h => h) (Or.inl ⟨by rfl, ?hda56r4o3⟩) hS ?_
 case hda56r4o3 => (intro wx hx; obtain ⟨c0, c1, c2, c3, c4⟩ := BM.cells hx; go_simp; (try with_reducible rfl))
 try simp only [Act.put, List.setIfInBounds_toArray, List.set_cons_zero, List.set_cons_succ]
 refine wpAnyH_take (i := 4) (oi := ⟨some 30, .move (.tmp 0), 82, "blocks.go:151", #[], none⟩) (v := ?vda56r4o4) rfl (by kernel_rfl) (by kernel_rfl) (by kernel_rfl) (fun _ _ _ h => h) (Or.inl ⟨by rfl, ?hda56r4o4⟩) hS ?_
 case hda56r4o4 => (intro wx hx; skip; go_simp; (try with_reducible rfl))
 try simp only [Act.put, List.setIfInBounds_toArray, List.set_cons_zero, List.set_cons_succ]
 refine wpAnyH_take (i := 5) (oi := ⟨some 31, .nilCheck (.tmp 30), 0, "blocks.go:151", #[⟨4, .data⟩], none⟩) (v := ?vda56r4o5) rfl (by kernel_rfl) (by kernel_rfl) (by kernel_rfl) (fun _ _ _ h => h) (Or.inl ⟨by rfl, ?hda56r4o5⟩) hS ?_
 case hda56r4o5 => (intro wx hx; skip; go_simp; (try with_reducible rfl))
 try simp only [Act.put, List.setIfInBounds_toArray, List.set_cons_zero, List.set_cons_succ]
 refine wpAnyH_take (i := 6) (oi := ⟨some 32, .fieldAddr 161 (.tmp 31) 1, 0, "blocks.go:151", #[⟨5, .data⟩], none⟩) (v := ?vda56r4o6) rfl (by kernel_rfl) (by kernel_rfl) (by kernel_rfl) (fun _ _ _ h => h) (Or.inl ⟨by rfl, ?hda56r4o6⟩) hS ?_
 case hda56r4o6 => (intro wx hx; skip; go_simp; (try with_reducible rfl))
 try simp only [Act.put, List.setIfInBounds_toArray, List.set_cons_zero, List.set_cons_succ]
 refine wpAnyH_take (i := 7) (oi := ⟨some 33, .load 23 (.tmp 32), 23, "blocks.go:151", #[⟨6, .data⟩], none⟩) (v := ?vda56r4o7) rfl (by kernel_rfl) (by kernel_rfl) (by kernel_rfl) (fun _ _ _ h => h) (Or.inl ⟨by rfl, ?hda56r4o7⟩) hS ?_
 case hda56r4o7 => (intro wx hx; obtain ⟨c0, c1, c2, c3, c4⟩ := BM.cells hx; go_simp; (try with_reducible rfl))
 try simp only [Act.put, List.setIfInBounds_toArray, List.set_cons_zero, List.set_cons_succ]
 refine wpAnyH_ready (rs := [8]) (by kernel_rfl) (by simp) ?_
 refine AllReadyH.cons (o := ⟨some 34, .call { callee := Callee.value (Operand.func 92), args := #[.tmp 29, .tmp 33], argTypes := #[32, 23] }, 158, "blocks.go:151", #[⟨3, .data⟩, ⟨7, .data⟩], none⟩) rfl (fun K hK => ?_) AllReadyH.nil
 go_simp
 refine (HA.out _ hOr.out).mono ?_
 rintro e wA ⟨Y, XI, XB, XA, rfl, hOA⟩
 have hS1 : BM XM g a b c n wA := HB0.out _ _ hOA
 refine hK.out _ _ ?hsda56r4o8 (fun hS => ?_)
 case hsda56r4o8 => (exact hS1)
 clear hK K
 try simp only [Act.put, List.setIfInBounds_toArray, List.set_cons_zero, List.set_cons_succ]
 refine wpAnyH_take (i := 9) (oi := ⟨some 25, .move (.tmp 34), 158, "blocks.go:151", #[⟨8, .data⟩], none⟩) (v := ?vda56r4o9) rfl (by kernel_rfl) (by kernel_rfl) (by kernel_rfl) (fun _ _ _ h => h) (Or.inl ⟨by rfl, ?hda56r4o9⟩) hS ?_
 case hda56r4o9 => (intro wx hx; skip; go_simp; (try with_reducible rfl))
 try simp only [Act.put, List.setIfInBounds_toArray, List.set_cons_zero, List.set_cons_succ]
 refine wpAnyH_take (i := 10) (oi := ⟨some 35, .extract (.tmp 25) 0, 157, "blocks.go:151", #[⟨9, .data⟩], none⟩) (v := ?vda56r4o10) rfl (by kernel_rfl) (by kernel_rfl) (by kernel_rfl) (fun _ _ _ h => h) (Or.inl ⟨by rfl, ?hda56r4o10⟩) hS ?_
 case hda56r4o10 => (intro wx hx; skip; go_simp; (try with_reducible rfl))
 try simp only [Act.put, List.setIfInBounds_toArray, List.set_cons_zero, List.set_cons_succ]
 refine wpAnyH_take (i := 11) (oi := ⟨some 36, .extract (.tmp 25) 1, 45, "blocks.go:151", #[⟨9, .data⟩, { on := 12, ground := Ground.gcOnly Departure.lateStores }], none⟩) (v := ?vda56r4o11) rfl (by kernel_rfl) (by kernel_rfl) (by kernel_rfl) (fun _ _ _ h => h) (Or.inl ⟨by rfl, ?hda56r4o11⟩) hS ?_
 case hda56r4o11 => (intro wx hx; skip; go_simp; (try with_reducible rfl))
 try simp only [Act.put, List.setIfInBounds_toArray, List.set_cons_zero, List.set_cons_succ]
 refine wpAnyH_take (i := 12) (oi := ⟨some 8, .assign (.tmp 35), 157, "blocks.go:151", #[⟨10, .data⟩, ⟨8, .chain⟩, ⟨0, .phase⟩, ⟨1, .phase⟩, ⟨2, .phase⟩, ⟨3, .phase⟩, ⟨4, .phase⟩, ⟨5, .phase⟩, ⟨6, .phase⟩, ⟨7, .phase⟩, ⟨8, .phase⟩, ⟨9, .phase⟩, ⟨10, .phase⟩, { on := 11, ground := Ground.textOnly Departure.lateStores }], none⟩) (v := ?vda56r4o12) rfl (by kernel_rfl) (by kernel_rfl) (by kernel_rfl) (fun _ _ _ h => h) (Or.inl ⟨by rfl, ?hda56r4o12⟩) hS ?_
 case hda56r4o12 => (intro wx hx; skip; go_simp; (try with_reducible rfl))
 try simp only [Act.put, List.setIfInBounds_toArray, List.set_cons_zero, List.set_cons_succ]
 refine wpAnyH_take (i := 13) (oi := ⟨some 7, .assign (.tmp 36), 45, "blocks.go:151", #[⟨11, .data⟩, ⟨12, .chain⟩, ⟨0, .phase⟩, ⟨1, .phase⟩, ⟨2, .phase⟩, ⟨3, .phase⟩, ⟨4, .phase⟩, ⟨5, .phase⟩, ⟨6, .phase⟩, ⟨7, .phase⟩, ⟨8, .phase⟩, ⟨9, .phase⟩, ⟨10, .phase⟩, ⟨11, .phase⟩, ⟨12, .phase⟩], none⟩) (v := ?vda56r4o13) rfl (by kernel_rfl) (by kernel_rfl) (by kernel_rfl) (fun _ _ _ h => h) (Or.inl ⟨by rfl, ?hda56r4o13⟩) hS ?_
 case hda56r4o13 => (intro wx hx; skip; go_simp; (try with_reducible rfl))
 try simp only [Act.put, List.setIfInBounds_toArray, List.set_cons_zero, List.set_cons_succ]
 refine wpAnyH_done (by kernel_rfl) ?_ _
 have hOA := Lib.hid hOA
 clear hS hS0 hOr HA hS1
 go_wp2_with fail
 refine (HV.out _ _ _ _ _ hOA.out).mono ?_
 rintro e w3 ⟨rfl, hO3⟩
 have HG := Lib.hid (HG1.out Y XI XB XA)
 have HB := Lib.hid (HB1.out Y XI XB XA)
 have hS3 := Lib.hid (HB.out _ [] (by rw [List.append_nil]; exact hO3)).drew
 have hOr := Lib.hid (show Grommet.Own w0 w3.drew ((Ps ++ alcPs Y g a b c XI XB XA).set kv (viewP g xs L1) ++ []) by rw [List.append_nil]; exact hO3.quiet (grown_drew (World.grownBy.refl _ _)))
 clear hOA HV hO3 HG1 HB1 HB0
 go_wp2_with fail
 refine wp_region_held_drew (S := fun w' => BM XM g a b c n w') (by kernel_rfl) (hS3.out) (fun hS => ?_)
 refine wpAnyH_take (i := 0) (oi := ⟨some 49, .move (.tmp 0), 82, "blocks.go:158", #[], none⟩) (v := ?vdp56r10o0) rfl (by kernel_rfl) (by kernel_rfl) (by kernel_rfl) (fun _ _ _ h => h) (Or.inl ⟨by rfl, ?hdp56r10o0⟩) hS ?_
 case hdp56r10o0 => (intro wx hx; skip; go_simp; (try with_reducible rfl))
 try simp only [Act.put, List.setIfInBounds_toArray, List.set_cons_zero, List.set_cons_succ]
 refine wpAnyH_take (i := 1) (oi := ⟨some 50, .nilCheck (.tmp 49), 0, "blocks.go:158", #[⟨0, .data⟩], none⟩) (v := ?vdp56r10o1) rfl (by kernel_rfl) (by kernel_rfl) (by kernel_rfl) (fun _ _ _ h => h) (Or.inl ⟨by rfl, ?hdp56r10o1⟩) hS ?_
 case hdp56r10o1 => (intro wx hx; skip; go_simp; (try with_reducible rfl))
 try simp only [Act.put, List.setIfInBounds_toArray, List.set_cons_zero, List.set_cons_succ]
 refine wpAnyH_take (i := 2) (oi := ⟨some 51, .fieldAddr 161 (.tmp 50) 0, 0, "blocks.go:158", #[⟨1, .data⟩], none⟩) (v := ?vdp56r10o2) rfl (by kernel_rfl) (by kernel_rfl) (by kernel_rfl) (fun _ _ _ h => h) (Or.inl ⟨by rfl, ?hdp56r10o2⟩) hS ?_
 case hdp56r10o2 => (intro wx hx; skip; go_simp; (try with_reducible rfl))
 try simp only [Act.put, List.setIfInBounds_toArray, List.set_cons_zero, List.set_cons_succ]
 refine wpAnyH_take (i := 3) (oi := ⟨some 52, .load 32 (.tmp 51), 32, "blocks.go:158", #[⟨2, .data⟩], none⟩) (v := ?vdp56r10o3) rfl (by kernel_rfl) (by kernel_rfl) (by kernel_rfl) (fun _ _ _ h => h) (Or.inl ⟨by rfl, ?hdp56r10o3⟩) hS ?_
 case hdp56r10o3 => (intro wx hx; obtain ⟨c0, c1, c2, c3, c4⟩ := BM.cells hx; go_simp; (try with_reducible rfl))
 try simp only [Act.put, List.setIfInBounds_toArray, List.set_cons_zero, List.set_cons_succ]
 refine wpAnyH_take (i := 4) (oi := ⟨some 53, .move (.tmp 0), 82, "blocks.go:158", #[], none⟩) (v := ?vdp56r10o4) rfl (by kernel_rfl) (by kernel_rfl) (by kernel_rfl) (fun _ _ _ h => h) (Or.inl ⟨by rfl, ?hdp56r10o4⟩) hS ?_
 case hdp56r10o4 => (intro wx hx; skip; go_simp; (try with_reducible rfl))
 try simp only [Act.put, List.setIfInBounds_toArray, List.set_cons_zero, List.set_cons_succ]
 refine wpAnyH_take (i := 5) (oi := ⟨some 54, .nilCheck (.tmp 53), 0, "blocks.go:158", #[⟨4, .data⟩], none⟩) (v := ?vdp56r10o5) rfl (by kernel_rfl) (by kernel_rfl) (by kernel_rfl) (fun _ _ _ h => h) (Or.inl ⟨by rfl, ?hdp56r10o5⟩) hS ?_
 case hdp56r10o5 => (intro wx hx; skip; go_simp; (try with_reducible rfl))
 try simp only [Act.put, List.setIfInBounds_toArray, List.set_cons_zero, List.set_cons_succ]
 refine wpAnyH_take (i := 6) (oi := ⟨some 55, .fieldAddr 161 (.tmp 54) 1, 0, "blocks.go:158", #[⟨5, .data⟩], none⟩) (v := ?vdp56r10o6) rfl (by kernel_rfl) (by kernel_rfl) (by kernel_rfl) (fun _ _ _ h => h) (Or.inl ⟨by rfl, ?hdp56r10o6⟩) hS ?_
 case hdp56r10o6 => (intro wx hx; skip; go_simp; (try with_reducible rfl))
 try simp only [Act.put, List.setIfInBounds_toArray, List.set_cons_zero, List.set_cons_succ]
 refine wpAnyH_take (i := 7) (oi := ⟨some 56, .load 23 (.tmp 55), 23, "blocks.go:158", #[⟨6, .data⟩], none⟩) (v := ?vdp56r10o7) rfl (by kernel_rfl) (by kernel_rfl) (by kernel_rfl) (fun _ _ _ h => h) (Or.inl ⟨by rfl, ?hdp56r10o7⟩) hS ?_
 case hdp56r10o7 => (intro wx hx; obtain ⟨c0, c1, c2, c3, c4⟩ := BM.cells hx; go_simp; (try with_reducible rfl))
 try simp only [Act.put, List.setIfInBounds_toArray, List.set_cons_zero, List.set_cons_succ]
 refine wpAnyH_take (i := 8) (oi := ⟨some 57, .move (.tmp 0), 82, "blocks.go:158", #[], none⟩) (v := ?vdp56r10o8) rfl (by kernel_rfl) (by kernel_rfl) (by kernel_rfl) (fun _ _ _ h => h) (Or.inl ⟨by rfl, ?hdp56r10o8⟩) hS ?_
 case hdp56r10o8 => (intro wx hx; skip; go_simp; (try with_reducible rfl))
 try simp only [Act.put, List.setIfInBounds_toArray, List.set_cons_zero, List.set_cons_succ]
 refine wpAnyH_take (i := 9) (oi := ⟨some 58, .nilCheck (.tmp 57), 0, "blocks.go:158", #[⟨8, .data⟩], none⟩) (v := ?vdp56r10o9) rfl (by kernel_rfl) (by kernel_rfl) (by kernel_rfl) (fun _ _ _ h => h) (Or.inl ⟨by rfl, ?hdp56r10o9⟩) hS ?_
 case hdp56r10o9 => (intro wx hx; skip; go_simp; (try with_reducible rfl))
 try simp only [Act.put, List.setIfInBounds_toArray, List.set_cons_zero, List.set_cons_succ]
 refine wpAnyH_take (i := 10) (oi := ⟨some 59, .fieldAddr 161 (.tmp 58) 2, 0, "blocks.go:158", #[⟨9, .data⟩], none⟩) (v := ?vdp56r10o10) rfl (by kernel_rfl) (by kernel_rfl) (by kernel_rfl) (fun _ _ _ h => h) (Or.inl ⟨by rfl, ?hdp56r10o10⟩) hS ?_
 case hdp56r10o10 => (intro wx hx; skip; go_simp; (try with_reducible rfl))
 try simp only [Act.put, List.setIfInBounds_toArray, List.set_cons_zero, List.set_cons_succ]
 refine wpAnyH_take (i := 11) (oi := ⟨some 60, .load 3 (.tmp 59), 3, "blocks.go:158", #[⟨10, .data⟩], none⟩) (v := ?vdp56r10o11) rfl (by kernel_rfl) (by kernel_rfl) (by kernel_rfl) (fun _ _ _ h => h) (Or.inl ⟨by rfl, ?hdp56r10o11⟩) hS ?_
 case hdp56r10o11 => (intro wx hx; obtain ⟨c0, c1, c2, c3, c4⟩ := BM.cells hx; go_simp; (try with_reducible rfl))
 try simp only [Act.put, List.setIfInBounds_toArray, List.set_cons_zero, List.set_cons_succ]
 refine wpAnyH_ready (rs := [12, 16]) (by kernel_rfl) (by simp) ?_
 refine AllReadyH.cons (o := ⟨some 61, .call { callee := Callee.value (Operand.func 73), args := #[.tmp 52, .tmp 56, .tmp 60], argTypes := #[32, 23, 3] }, 134, "blocks.go:158", #[⟨3, .data⟩, ⟨7, .data⟩, ⟨11, .data⟩], none⟩) rfl (fun K hK => ?_) ?_
 ·
  go_simp
  refine (HG.out _ _ hOr.out).mono ?_
  rintro e wB ⟨rfl, hOB⟩
  have hS1 : BM XM g a b c n _ := HB.out _ _ hOB
  clear hOr
  have hOr := Lib.hid hOB
  clear hOB
  refine hK.out _ _ ?hsdpx156r10o12 (fun hS => ?_)
  case hsdpx156r10o12 => (exact hS1)
  clear hK K
  try simp only [Act.put, List.setIfInBounds_toArray, List.set_cons_zero, List.set_cons_succ]
  refine wpAnyH_take (i := 13) (oi := ⟨some 48, .move (.tmp 61), 134, "blocks.go:158", #[⟨12, .data⟩], none⟩) (v := ?vdpx156r10o13) rfl (by kernel_rfl) (by kernel_rfl) (by kernel_rfl) (fun _ _ _ h => h) (Or.inl ⟨by rfl, ?hdpx156r10o13⟩) hS ?_
  case hdpx156r10o13 => (intro wx hx; skip; go_simp; (try with_reducible rfl))
  try simp only [Act.put, List.setIfInBounds_toArray, List.set_cons_zero, List.set_cons_succ]
  refine wpAnyH_take (i := 14) (oi := ⟨some 62, .extract (.tmp 48) 0, 133, "blocks.go:158", #[⟨13, .data⟩], none⟩) (v := ?vdpx156r10o14) rfl (by kernel_rfl) (by kernel_rfl) (by kernel_rfl) (fun _ _ _ h => h) (Or.inl ⟨by rfl, ?hdpx156r10o14⟩) hS ?_
  case hdpx156r10o14 => (intro wx hx; skip; go_simp; (try with_reducible rfl))
  try simp only [Act.put, List.setIfInBounds_toArray, List.set_cons_zero, List.set_cons_succ]
  refine wpAnyH_take (i := 15) (oi := ⟨some 63, .extract (.tmp 48) 1, 45, "blocks.go:158", #[⟨13, .data⟩, { on := 17, ground := Ground.gcOnly Departure.lateStores }], none⟩) (v := ?vdpx156r10o15) rfl (by kernel_rfl) (by kernel_rfl) (by kernel_rfl) (fun _ _ _ h => h) (Or.inl ⟨by rfl, ?hdpx156r10o15⟩) hS ?_
  case hdpx156r10o15 => (intro wx hx; skip; go_simp; (try with_reducible rfl))
  try simp only [Act.put, List.setIfInBounds_toArray, List.set_cons_zero, List.set_cons_succ]
  refine wpAnyH_ready (rs := [16]) (by kernel_rfl) (by simp) ?_
  refine AllReadyH.cons (o := ⟨some 10, .alloc 133, 0, "blocks.go:158", #[], none⟩) rfl (fun K hK => ?_) AllReadyH.nil
  go_simp
  have hS1 : BM XM g a b c n _ := hS.grown (World.grownBy_alloc _ (.cells #[.int .u64 0, .int .u64 0, .int .u64 0, .int .u64 0, .int .u64 0, .int .u64 0, .int .u64 0, .int .u64 0, .int .u64 0, .int .u64 0] 133) none)
  have hOn := hOr.out.addBox 133 #[.int .u64 0, .int .u64 0, .int .u64 0, .int .u64 0, .int .u64 0, .int .u64 0, .int .u64 0, .int .u64 0, .int .u64 0, .int .u64 0]
  rw [List.append_assoc, List.nil_append] at hOn
  clear hOr
  first | (obtain ⟨N, hN⟩ : ∃ N, wB.heap.size = N := ⟨_, rfl⟩; obtain ⟨wz, hwz⟩ : ∃ wz, wB.alloc (.cells #[.int .u64 0, .int .u64 0, .int .u64 0, .int .u64 0, .int .u64 0, .int .u64 0, .int .u64 0, .int .u64 0, .int .u64 0, .int .u64 0] 133) = wz := ⟨_, rfl⟩; rw [hN, hwz] at hOn; rw [hwz] at hS1; (try rw [hwz]); (first | rw [hN] | rw [show w3.heap.size = N from hN])) | (obtain ⟨N, hN⟩ : ∃ N, w3.heap.size = N := ⟨_, rfl⟩; obtain ⟨wz, hwz⟩ : ∃ wz, (w3.alloc (.cells #[.int .u64 0, .int .u64 0, .int .u64 0, .int .u64 0, .int .u64 0, .int .u64 0, .int .u64 0, .int .u64 0, .int .u64 0, .int .u64 0] 133)).drew = wz := ⟨_, rfl⟩; rw [show w3.drew.alloc (.cells #[.int .u64 0, .int .u64 0, .int .u64 0, .int .u64 0, .int .u64 0, .int .u64 0, .int .u64 0, .int .u64 0, .int .u64 0, .int .u64 0] 133) = wz from hwz] at hOn hS1; rw [show w3.drew.heap.size = N from hN] at hOn; rw [hwz, hN])
  have hOr := Lib.hid hOn
  clear hOn hwz hN
  refine hK.out _ _ ?hsdpx156r10o16 (fun hS => ?_)
  case hsdpx156r10o16 => (exact hS1)
  clear hK K
  try simp only [Act.put, List.setIfInBounds_toArray, List.set_cons_zero, List.set_cons_succ]
  refine wpAnyH_ready (rs := [17]) (by kernel_rfl) (by simp) ?_
  refine AllReadyH.cons (o := ⟨none, .store 133 (.tmp 10) (.tmp 62), 0, "blocks.go:158", #[⟨16, .data⟩, ⟨14, .data⟩, ⟨12, .chain⟩, ⟨0, .phase⟩, ⟨1, .phase⟩, ⟨2, .phase⟩, ⟨3, .phase⟩, ⟨4, .phase⟩, ⟨5, .phase⟩, ⟨6, .phase⟩, ⟨7, .phase⟩, ⟨8, .phase⟩, ⟨9, .phase⟩, ⟨10, .phase⟩, ⟨11, .phase⟩, ⟨12, .phase⟩, ⟨13, .phase⟩, ⟨14, .phase⟩, { on := 15, ground := Ground.textOnly Departure.lateStores }, ⟨16, .phase⟩], none⟩) rfl (fun K hK => ?_) AllReadyH.nil
  obtain ⟨⟨z0, z1, z2, z3, z4, z5, z6, z7, z8, z9⟩, q0, q1, q2, q3, q4, q5, q6, q7, q8, q9⟩ := node_zero hOr.out
  go_simp
  obtain ⟨wn, hwn, hOx⟩ := node_stored f0 f1 f2 f3 f4 f5 f6 f7 f8 f9 hOr.out
  rw [hwn]
  have hOn := Lib.hid hOx
  clear hwn hOx
  refine hK.out _ _ ?hs17 (fun hS => ?_)
  case hs17 => exact HB.out _ _ hOn.out
  clear hK K hOr z0 z1 z2 z3 z4 z5 z6 z7 z8 z9 q0 q1 q2 q3 q4 q5 q6 q7 q8 q9
  have hOr := Lib.hid hOn.out
  clear hOn
  try simp only [Act.put, List.setIfInBounds_toArray, List.set_cons_zero, List.set_cons_succ]
  refine wpAnyH_take (i := 18) (oi := ⟨some 7, .assign (.tmp 63), 45, "blocks.go:158", #[⟨15, .data⟩, ⟨17, .chain⟩, ⟨0, .phase⟩, ⟨1, .phase⟩, ⟨2, .phase⟩, ⟨3, .phase⟩, ⟨4, .phase⟩, ⟨5, .phase⟩, ⟨6, .phase⟩, ⟨7, .phase⟩, ⟨8, .phase⟩, ⟨9, .phase⟩, ⟨10, .phase⟩, ⟨11, .phase⟩, ⟨12, .phase⟩, ⟨13, .phase⟩, ⟨14, .phase⟩, ⟨15, .phase⟩, ⟨16, .phase⟩, ⟨17, .phase⟩], none⟩) (v := ?vdpx156r10o18) rfl (by kernel_rfl) (by kernel_rfl) (by kernel_rfl) (fun _ _ _ h => h) (Or.inl ⟨by rfl, ?hdpx156r10o18⟩) hS ?_
  case hdpx156r10o18 => (intro wx hx; skip; go_simp; (try with_reducible rfl))
  try simp only [Act.put, List.setIfInBounds_toArray, List.set_cons_zero, List.set_cons_succ]
  refine wpAnyH_done (by kernel_rfl) ?_ _
  obtain ⟨z0, z1, z2, z3, z4, z5, z6, z7, z8, z9⟩ := node_have hOr.out
  have e8 := He8.out
  go_wp2
  go_ret
  exact ⟨rfl, HQ.out _ _ _ _ _ _ hOr.out.less⟩
 refine AllReadyH.cons (o := ⟨some 10, .alloc 133, 0, "blocks.go:158", #[], none⟩) rfl (fun K hK => ?_) ?_
 ·
  go_simp
  have hS1 : BM XM g a b c n _ := hS.grown (World.grownBy_alloc _ (.cells #[.int .u64 0, .int .u64 0, .int .u64 0, .int .u64 0, .int .u64 0, .int .u64 0, .int .u64 0, .int .u64 0, .int .u64 0, .int .u64 0] 133) none)
  have hOn := hOr.out.addBox 133 #[.int .u64 0, .int .u64 0, .int .u64 0, .int .u64 0, .int .u64 0, .int .u64 0, .int .u64 0, .int .u64 0, .int .u64 0, .int .u64 0]
  rw [List.append_assoc, List.nil_append] at hOn
  clear hOr
  first | (obtain ⟨N, hN⟩ : ∃ N, wB.heap.size = N := ⟨_, rfl⟩; obtain ⟨wz, hwz⟩ : ∃ wz, wB.alloc (.cells #[.int .u64 0, .int .u64 0, .int .u64 0, .int .u64 0, .int .u64 0, .int .u64 0, .int .u64 0, .int .u64 0, .int .u64 0, .int .u64 0] 133) = wz := ⟨_, rfl⟩; rw [hN, hwz] at hOn; rw [hwz] at hS1; (try rw [hwz]); (first | rw [hN] | rw [show w3.heap.size = N from hN])) | (obtain ⟨N, hN⟩ : ∃ N, w3.heap.size = N := ⟨_, rfl⟩; obtain ⟨wz, hwz⟩ : ∃ wz, (w3.alloc (.cells #[.int .u64 0, .int .u64 0, .int .u64 0, .int .u64 0, .int .u64 0, .int .u64 0, .int .u64 0, .int .u64 0, .int .u64 0, .int .u64 0] 133)).drew = wz := ⟨_, rfl⟩; rw [show w3.drew.alloc (.cells #[.int .u64 0, .int .u64 0, .int .u64 0, .int .u64 0, .int .u64 0, .int .u64 0, .int .u64 0, .int .u64 0, .int .u64 0, .int .u64 0] 133) = wz from hwz] at hOn hS1; rw [show w3.drew.heap.size = N from hN] at hOn; rw [hwz, hN])
  have hOr := Lib.hid hOn
  clear hOn hwz hN
  refine hK.out _ _ ?hsdpx356r10o16 (fun hS => ?_)
  case hsdpx356r10o16 => (exact hS1)
  clear hK K
  try simp only [Act.put, List.setIfInBounds_toArray, List.set_cons_zero, List.set_cons_succ]
  refine wpAnyH_ready (rs := [12]) (by kernel_rfl) (by simp) ?_
  refine AllReadyH.cons (o := ⟨some 61, .call { callee := Callee.value (Operand.func 73), args := #[.tmp 52, .tmp 56, .tmp 60], argTypes := #[32, 23, 3] }, 134, "blocks.go:158", #[⟨3, .data⟩, ⟨7, .data⟩, ⟨11, .data⟩], none⟩) rfl (fun K hK => ?_) AllReadyH.nil
  go_simp
  refine (HG.out _ _ hOr.out).mono ?_
  rintro e wB ⟨rfl, hOB⟩
  have hS1 : BM XM g a b c n _ := HB.out _ _ hOB
  clear hOr
  have hOr := Lib.hid hOB
  clear hOB
  refine hK.out _ _ ?hsdpx356r10o12 (fun hS => ?_)
  case hsdpx356r10o12 => (exact hS1)
  clear hK K
  try simp only [Act.put, List.setIfInBounds_toArray, List.set_cons_zero, List.set_cons_succ]
  refine wpAnyH_take (i := 13) (oi := ⟨some 48, .move (.tmp 61), 134, "blocks.go:158", #[⟨12, .data⟩], none⟩) (v := ?vdpx356r10o13) rfl (by kernel_rfl) (by kernel_rfl) (by kernel_rfl) (fun _ _ _ h => h) (Or.inl ⟨by rfl, ?hdpx356r10o13⟩) hS ?_
  case hdpx356r10o13 => (intro wx hx; skip; go_simp; (try with_reducible rfl))
  try simp only [Act.put, List.setIfInBounds_toArray, List.set_cons_zero, List.set_cons_succ]
  refine wpAnyH_take (i := 14) (oi := ⟨some 62, .extract (.tmp 48) 0, 133, "blocks.go:158", #[⟨13, .data⟩], none⟩) (v := ?vdpx356r10o14) rfl (by kernel_rfl) (by kernel_rfl) (by kernel_rfl) (fun _ _ _ h => h) (Or.inl ⟨by rfl, ?hdpx356r10o14⟩) hS ?_
  case hdpx356r10o14 => (intro wx hx; skip; go_simp; (try with_reducible rfl))
  try simp only [Act.put, List.setIfInBounds_toArray, List.set_cons_zero, List.set_cons_succ]
  refine wpAnyH_take (i := 15) (oi := ⟨some 63, .extract (.tmp 48) 1, 45, "blocks.go:158", #[⟨13, .data⟩, { on := 17, ground := Ground.gcOnly Departure.lateStores }], none⟩) (v := ?vdpx356r10o15) rfl (by kernel_rfl) (by kernel_rfl) (by kernel_rfl) (fun _ _ _ h => h) (Or.inl ⟨by rfl, ?hdpx356r10o15⟩) hS ?_
  case hdpx356r10o15 => (intro wx hx; skip; go_simp; (try with_reducible rfl))
  try simp only [Act.put, List.setIfInBounds_toArray, List.set_cons_zero, List.set_cons_succ]
  refine wpAnyH_ready (rs := [17]) (by kernel_rfl) (by simp) ?_
  refine AllReadyH.cons (o := ⟨none, .store 133 (.tmp 10) (.tmp 62), 0, "blocks.go:158", #[⟨16, .data⟩, ⟨14, .data⟩, ⟨12, .chain⟩, ⟨0, .phase⟩, ⟨1, .phase⟩, ⟨2, .phase⟩, ⟨3, .phase⟩, ⟨4, .phase⟩, ⟨5, .phase⟩, ⟨6, .phase⟩, ⟨7, .phase⟩, ⟨8, .phase⟩, ⟨9, .phase⟩, ⟨10, .phase⟩, ⟨11, .phase⟩, ⟨12, .phase⟩, ⟨13, .phase⟩, ⟨14, .phase⟩, { on := 15, ground := Ground.textOnly Departure.lateStores }, ⟨16, .phase⟩], none⟩) rfl (fun K hK => ?_) AllReadyH.nil
  obtain ⟨⟨z0, z1, z2, z3, z4, z5, z6, z7, z8, z9⟩, q0, q1, q2, q3, q4, q5, q6, q7, q8, q9⟩ := node_zero hOr.out
  go_simp
  obtain ⟨wn, hwn, hOx⟩ := node_stored f0 f1 f2 f3 f4 f5 f6 f7 f8 f9 hOr.out
  rw [hwn]
  have hOn := Lib.hid hOx
  clear hwn hOx
  refine hK.out _ _ ?hs17 (fun hS => ?_)
  case hs17 => exact HB.out _ _ hOn.out
  clear hK K hOr z0 z1 z2 z3 z4 z5 z6 z7 z8 z9 q0 q1 q2 q3 q4 q5 q6 q7 q8 q9
  have hOr := Lib.hid hOn.out
  clear hOn
  try simp only [Act.put, List.setIfInBounds_toArray, List.set_cons_zero, List.set_cons_succ]
  refine wpAnyH_take (i := 18) (oi := ⟨some 7, .assign (.tmp 63), 45, "blocks.go:158", #[⟨15, .data⟩, ⟨17, .chain⟩, ⟨0, .phase⟩, ⟨1, .phase⟩, ⟨2, .phase⟩, ⟨3, .phase⟩, ⟨4, .phase⟩, ⟨5, .phase⟩, ⟨6, .phase⟩, ⟨7, .phase⟩, ⟨8, .phase⟩, ⟨9, .phase⟩, ⟨10, .phase⟩, ⟨11, .phase⟩, ⟨12, .phase⟩, ⟨13, .phase⟩, ⟨14, .phase⟩, ⟨15, .phase⟩, ⟨16, .phase⟩, ⟨17, .phase⟩], none⟩) (v := ?vdpx356r10o18) rfl (by kernel_rfl) (by kernel_rfl) (by kernel_rfl) (fun _ _ _ h => h) (Or.inl ⟨by rfl, ?hdpx356r10o18⟩) hS ?_
  case hdpx356r10o18 => (intro wx hx; skip; go_simp; (try with_reducible rfl))
  try simp only [Act.put, List.setIfInBounds_toArray, List.set_cons_zero, List.set_cons_succ]
  refine wpAnyH_done (by kernel_rfl) ?_ _
  obtain ⟨z0, z1, z2, z3, z4, z5, z6, z7, z8, z9⟩ := node_have hOr.out
  have e8 := He8.out
  go_wp2
  go_ret
  exact ⟨rfl, HQ.out _ _ _ _ _ _ hOr.out.less⟩
 exact AllReadyH.nil
theorem bmDrop_kept (kv km XM g a b c n A : Nat) (k t m : Int) (f0 f1 f2 f3 f4 f5 f6 f7 f8 f9 : Nat) (xs : List Nat) (L L1 : List (Nat × Nat)) (w0 w : World) (Ps : List Pr) (h : Grommet.Own w0 w Ps) (hv : Ps[kv]? = some (viewP g xs L)) (hm : Ps[km]? = some (bmP XM g a b c n)) (hkm : kv ≠ km) (hN : NodeOk xs L a b c n A)
  (hL : LookC XM k t m 0 w0 Ps) (hm0 : m ≠ 0) (ht : 0 ≤ t ∧ t < (xs.length : Int)) (he : giveE xs L (272 + 208 * a) c m = 0) (hl : (giveL xs L (272 + 208 * a) c m).length < 96) (hL1 : giveBL xs L a c m t = L1)
  (HG : ∀ Rs : List Pr, Rs[kv]? = some (viewP g xs L1) → ∀ wx Qs, Grommet.Own w0 wx (Rs ++ Qs) → Calls Tryz.prog 73 #[.pointer (some ⟨g, 0, none⟩), gv (a : Int) (b : Int) (c : Int), .int .i64 (n : Int)] wx fun e w' => e = .returned (.tuple #[nv f0 f1 f2 f3 f4 f5 f6 f7 f8 f9, .int .i64 0]) ∧ Grommet.Own w0 w' (Rs ++ Qs)) (h8 : f8 ≠ 0) (HR : ∀ Rs : List Pr, Rs[kv]? = some (viewP g xs L1) → Rs[km]? = some (bmP XM g a b c n) → ∀ wx, Grommet.Own w0 wx Rs → Calls Tryz.prog 94 #[.pointer (some ⟨XM, 0, none⟩), nv f0 f1 f2 f3 f4 f5 f6 f7 f8 f9] wx fun e w' => e = .returned (.bool false) ∧ Grommet.Own w0 w' Rs) :
  Calls Tryz.prog 56 #[.pointer (some ⟨XM, 0, none⟩), .int .i64 k] w fun e' w' => e' = .returned (.int .i64 0) ∧ Grommet.Own w0 w' (Ps.set kv (viewP g xs L1)) := by
 have hkl := (List.getElem?_eq_some_iff.1 hv).1
 have HL := Lib.hid (hL w h)
 have HB0 := Lib.hid (show ∀ wx Rs, Grommet.Own w0 wx (Ps ++ Rs) → BM XM g a b c n wx from fun wx Rs hO => BM.of (k := km) hO (app_old hm))
 have HA := Lib.hid (fun wx (hO : Grommet.Own w0 wx Ps) => ANewH kv g a b c xs L w0 wx Ps hO hv hN.may hN.fits hN.few)
 have HV := Lib.hid (fun wx Y XI XB XA (hO : Grommet.Own w0 wx (Ps ++ alcPs Y g a b c XI XB XA)) => bmGive kv km _ _ _ g a b c XI XB XA XM n t m xs L w0 wx _ hO (alcIs_of hv hN) (app_old hm) hkm he hl ht)
 rw [show setL xs (giveL xs L (272 + 208 * a) c m) t 0 = L1 from hL1] at HV
 have HB1 := Lib.hid (show ∀ Y XI XB XA wx Qs, Grommet.Own w0 wx ((Ps ++ alcPs Y g a b c XI XB XA).set kv (viewP g xs L1) ++ Qs) → BM XM g a b c n wx from fun Y XI XB XA wx Qs hO => BM.of (k := km) hO (app_old (set_same_at _ _ (app_old hm) hkm)))
 have HG1 := Lib.hid (fun Y XI XB XA => HG ((Ps ++ alcPs Y g a b c XI XB XA).set kv (viewP g xs L1)) (set_at _ (app_old hv)))
 have HQ := Lib.hid (show ∀ wx Y XI XB XA Q, Grommet.Own w0 wx ((Ps ++ alcPs Y g a b c XI XB XA).set kv Q) → Grommet.Own w0 wx (Ps.set kv Q) from fun wx Y XI XB XA Q hO => by
  rw [List.set_append_left _ _ hkl] at hO
  exact hO.less)
 have e1 : (m == 0) = false := by simpa using hm0
 have HR1 := Lib.hid (fun Y XI XB XA Qs => HR ((Ps ++ alcPs Y g a b c XI XB XA).set kv (viewP g xs L1) ++ Qs) (app_old (set_at _ (app_old hv))) (app_old (set_same_at _ _ (app_old hm) hkm)))
 have e8 : ((f8 : Int) == 0) = false := by simpa using h8
 have e9 : ¬ (f8 : Int) = 0 := by omega
 unfold nv gv at *
 clear h hv hm hkm hN hL hm0 ht he hl hL1 HG hkl h8 HR
 go_enter Tryz.func56, Tryz.ntmps56
 go_wp2_with fail
 refine HL.out.mono ?_
 rintro e' w1 ⟨rfl, hO1⟩
 have hS0 := Lib.hid (HB0.out _ [] (by rw [List.append_nil]; exact hO1)).drew
 have hOr := Lib.hid (hO1.quiet (grown_drew (World.grownBy.refl w1 none)))
 clear HL hO1
 go_wp2_with fail
 refine wp_region_held_drew (S := fun w' => BM XM g a b c n w') (by kernel_rfl) (hS0.out) (fun hS => ?_)
 refine wpAnyH_take (i := 0) (oi := ⟨some 26, .move (.tmp 0), 82, "blocks.go:151", #[], none⟩) (v := ?vda56r4o0) rfl (by kernel_rfl) (by kernel_rfl) (by kernel_rfl) (fun _ _ _ h => h) (Or.inl ⟨by rfl, ?hda56r4o0⟩) hS ?_
 case hda56r4o0 => (intro wx hx; skip; go_simp; (try with_reducible rfl))
 try simp only [Act.put, List.setIfInBounds_toArray, List.set_cons_zero, List.set_cons_succ]
 refine wpAnyH_take (i := 1) (oi := ⟨some 27, .nilCheck (.tmp 26), 0, "blocks.go:151", #[⟨0, .data⟩], none⟩) (v := ?vda56r4o1) rfl (by kernel_rfl) (by kernel_rfl) (by kernel_rfl) (fun _ _ _ h => h) (Or.inl ⟨by rfl, ?hda56r4o1⟩) hS ?_
 case hda56r4o1 => (intro wx hx; skip; go_simp; (try with_reducible rfl))
 try simp only [Act.put, List.setIfInBounds_toArray, List.set_cons_zero, List.set_cons_succ]
 refine wpAnyH_take (i := 2) (oi := ⟨some 28, .fieldAddr 161 (.tmp 27) 0, 0, "blocks.go:151", #[⟨1, .data⟩], none⟩) (v := ?vda56r4o2) rfl (by kernel_rfl) (by kernel_rfl) (by kernel_rfl) (fun _ _ _ h => h) (Or.inl ⟨by rfl, ?hda56r4o2⟩) hS ?_
 case hda56r4o2 => (intro wx hx; skip; go_simp; (try with_reducible rfl))
 try simp only [Act.put, List.setIfInBounds_toArray, List.set_cons_zero, List.set_cons_succ]
 refine wpAnyH_take (i := 3) (oi := ⟨some 29, .load 32 (.tmp 28), 32, "blocks.go:151", #[⟨2, .data⟩], none⟩) (v := ?vda56r4o3) rfl (by kernel_rfl) (by kernel_rfl) (by kernel_rfl) (fun _ _ _ h => h) (Or.inl ⟨by rfl, ?hda56r4o3⟩) hS ?_
 case hda56r4o3 => (intro wx hx; obtain ⟨c0, c1, c2, c3, c4⟩ := BM.cells hx; go_simp; (try with_reducible rfl))
 try simp only [Act.put, List.setIfInBounds_toArray, List.set_cons_zero, List.set_cons_succ]
 refine wpAnyH_take (i := 4) (oi := ⟨some 30, .move (.tmp 0), 82, "blocks.go:151", #[], none⟩) (v := ?vda56r4o4) rfl (by kernel_rfl) (by kernel_rfl) (by kernel_rfl) (fun _ _ _ h => h) (Or.inl ⟨by rfl, ?hda56r4o4⟩) hS ?_
 case hda56r4o4 => (intro wx hx; skip; go_simp; (try with_reducible rfl))
 try simp only [Act.put, List.setIfInBounds_toArray, List.set_cons_zero, List.set_cons_succ]
 refine wpAnyH_take (i := 5) (oi := ⟨some 31, .nilCheck (.tmp 30), 0, "blocks.go:151", #[⟨4, .data⟩], none⟩) (v := ?vda56r4o5) rfl (by kernel_rfl) (by kernel_rfl) (by kernel_rfl) (fun _ _ _ h => h) (Or.inl ⟨by rfl, ?hda56r4o5⟩) hS ?_
 case hda56r4o5 => (intro wx hx; skip; go_simp; (try with_reducible rfl))
 try simp only [Act.put, List.setIfInBounds_toArray, List.set_cons_zero, List.set_cons_succ]
 refine wpAnyH_take (i := 6) (oi := ⟨some 32, .fieldAddr 161 (.tmp 31) 1, 0, "blocks.go:151", #[⟨5, .data⟩], none⟩) (v := ?vda56r4o6) rfl (by kernel_rfl) (by kernel_rfl) (by kernel_rfl) (fun _ _ _ h => h) (Or.inl ⟨by rfl, ?hda56r4o6⟩) hS ?_
 case hda56r4o6 => (intro wx hx; skip; go_simp; (try with_reducible rfl))
 try simp only [Act.put, List.setIfInBounds_toArray, List.set_cons_zero, List.set_cons_succ]
 refine wpAnyH_take (i := 7) (oi := ⟨some 33, .load 23 (.tmp 32), 23, "blocks.go:151", #[⟨6, .data⟩], none⟩) (v := ?vda56r4o7) rfl (by kernel_rfl) (by kernel_rfl) (by kernel_rfl) (fun _ _ _ h => h) (Or.inl ⟨by rfl, ?hda56r4o7⟩) hS ?_
 case hda56r4o7 => (intro wx hx; obtain ⟨c0, c1, c2, c3, c4⟩ := BM.cells hx; go_simp; (try with_reducible rfl))
 try simp only [Act.put, List.setIfInBounds_toArray, List.set_cons_zero, List.set_cons_succ]
 refine wpAnyH_ready (rs := [8]) (by kernel_rfl) (by simp) ?_
 refine AllReadyH.cons (o := ⟨some 34, .call { callee := Callee.value (Operand.func 92), args := #[.tmp 29, .tmp 33], argTypes := #[32, 23] }, 158, "blocks.go:151", #[⟨3, .data⟩, ⟨7, .data⟩], none⟩) rfl (fun K hK => ?_) AllReadyH.nil
 go_simp
 refine (HA.out _ hOr.out).mono ?_
 rintro e wA ⟨Y, XI, XB, XA, rfl, hOA⟩
 have hS1 : BM XM g a b c n wA := HB0.out _ _ hOA
 refine hK.out _ _ ?hsda56r4o8 (fun hS => ?_)
 case hsda56r4o8 => (exact hS1)
 clear hK K
 try simp only [Act.put, List.setIfInBounds_toArray, List.set_cons_zero, List.set_cons_succ]
 refine wpAnyH_take (i := 9) (oi := ⟨some 25, .move (.tmp 34), 158, "blocks.go:151", #[⟨8, .data⟩], none⟩) (v := ?vda56r4o9) rfl (by kernel_rfl) (by kernel_rfl) (by kernel_rfl) (fun _ _ _ h => h) (Or.inl ⟨by rfl, ?hda56r4o9⟩) hS ?_
 case hda56r4o9 => (intro wx hx; skip; go_simp; (try with_reducible rfl))
 try simp only [Act.put, List.setIfInBounds_toArray, List.set_cons_zero, List.set_cons_succ]
 refine wpAnyH_take (i := 10) (oi := ⟨some 35, .extract (.tmp 25) 0, 157, "blocks.go:151", #[⟨9, .data⟩], none⟩) (v := ?vda56r4o10) rfl (by kernel_rfl) (by kernel_rfl) (by kernel_rfl) (fun _ _ _ h => h) (Or.inl ⟨by rfl, ?hda56r4o10⟩) hS ?_
 case hda56r4o10 => (intro wx hx; skip; go_simp; (try with_reducible rfl))
 try simp only [Act.put, List.setIfInBounds_toArray, List.set_cons_zero, List.set_cons_succ]
 refine wpAnyH_take (i := 11) (oi := ⟨some 36, .extract (.tmp 25) 1, 45, "blocks.go:151", #[⟨9, .data⟩, { on := 12, ground := Ground.gcOnly Departure.lateStores }], none⟩) (v := ?vda56r4o11) rfl (by kernel_rfl) (by kernel_rfl) (by kernel_rfl) (fun _ _ _ h => h) (Or.inl ⟨by rfl, ?hda56r4o11⟩) hS ?_
 case hda56r4o11 => (intro wx hx; skip; go_simp; (try with_reducible rfl))
 try simp only [Act.put, List.setIfInBounds_toArray, List.set_cons_zero, List.set_cons_succ]
 refine wpAnyH_take (i := 12) (oi := ⟨some 8, .assign (.tmp 35), 157, "blocks.go:151", #[⟨10, .data⟩, ⟨8, .chain⟩, ⟨0, .phase⟩, ⟨1, .phase⟩, ⟨2, .phase⟩, ⟨3, .phase⟩, ⟨4, .phase⟩, ⟨5, .phase⟩, ⟨6, .phase⟩, ⟨7, .phase⟩, ⟨8, .phase⟩, ⟨9, .phase⟩, ⟨10, .phase⟩, { on := 11, ground := Ground.textOnly Departure.lateStores }], none⟩) (v := ?vda56r4o12) rfl (by kernel_rfl) (by kernel_rfl) (by kernel_rfl) (fun _ _ _ h => h) (Or.inl ⟨by rfl, ?hda56r4o12⟩) hS ?_
 case hda56r4o12 => (intro wx hx; skip; go_simp; (try with_reducible rfl))
 try simp only [Act.put, List.setIfInBounds_toArray, List.set_cons_zero, List.set_cons_succ]
 refine wpAnyH_take (i := 13) (oi := ⟨some 7, .assign (.tmp 36), 45, "blocks.go:151", #[⟨11, .data⟩, ⟨12, .chain⟩, ⟨0, .phase⟩, ⟨1, .phase⟩, ⟨2, .phase⟩, ⟨3, .phase⟩, ⟨4, .phase⟩, ⟨5, .phase⟩, ⟨6, .phase⟩, ⟨7, .phase⟩, ⟨8, .phase⟩, ⟨9, .phase⟩, ⟨10, .phase⟩, ⟨11, .phase⟩, ⟨12, .phase⟩], none⟩) (v := ?vda56r4o13) rfl (by kernel_rfl) (by kernel_rfl) (by kernel_rfl) (fun _ _ _ h => h) (Or.inl ⟨by rfl, ?hda56r4o13⟩) hS ?_
 case hda56r4o13 => (intro wx hx; skip; go_simp; (try with_reducible rfl))
 try simp only [Act.put, List.setIfInBounds_toArray, List.set_cons_zero, List.set_cons_succ]
 refine wpAnyH_done (by kernel_rfl) ?_ _
 have hOA := Lib.hid hOA
 clear hS hS0 hOr HA hS1
 go_wp2_with fail
 refine (HV.out _ _ _ _ _ hOA.out).mono ?_
 rintro e w3 ⟨rfl, hO3⟩
 have HG := Lib.hid (HG1.out Y XI XB XA)
 have HB := Lib.hid (HB1.out Y XI XB XA)
 have hS3 := Lib.hid (HB.out _ [] (by rw [List.append_nil]; exact hO3)).drew
 have hOr := Lib.hid (show Grommet.Own w0 w3.drew ((Ps ++ alcPs Y g a b c XI XB XA).set kv (viewP g xs L1) ++ []) by rw [List.append_nil]; exact hO3.quiet (grown_drew (World.grownBy.refl _ _)))
 clear hOA HV hO3 HG1 HB1 HB0
 go_wp2_with fail
 refine wp_region_held_drew (S := fun w' => BM XM g a b c n w') (by kernel_rfl) (hS3.out) (fun hS => ?_)
 refine wpAnyH_take (i := 0) (oi := ⟨some 49, .move (.tmp 0), 82, "blocks.go:158", #[], none⟩) (v := ?vdk56r10o0) rfl (by kernel_rfl) (by kernel_rfl) (by kernel_rfl) (fun _ _ _ h => h) (Or.inl ⟨by rfl, ?hdk56r10o0⟩) hS ?_
 case hdk56r10o0 => (intro wx hx; skip; go_simp; (try with_reducible rfl))
 try simp only [Act.put, List.setIfInBounds_toArray, List.set_cons_zero, List.set_cons_succ]
 refine wpAnyH_take (i := 1) (oi := ⟨some 50, .nilCheck (.tmp 49), 0, "blocks.go:158", #[⟨0, .data⟩], none⟩) (v := ?vdk56r10o1) rfl (by kernel_rfl) (by kernel_rfl) (by kernel_rfl) (fun _ _ _ h => h) (Or.inl ⟨by rfl, ?hdk56r10o1⟩) hS ?_
 case hdk56r10o1 => (intro wx hx; skip; go_simp; (try with_reducible rfl))
 try simp only [Act.put, List.setIfInBounds_toArray, List.set_cons_zero, List.set_cons_succ]
 refine wpAnyH_take (i := 2) (oi := ⟨some 51, .fieldAddr 161 (.tmp 50) 0, 0, "blocks.go:158", #[⟨1, .data⟩], none⟩) (v := ?vdk56r10o2) rfl (by kernel_rfl) (by kernel_rfl) (by kernel_rfl) (fun _ _ _ h => h) (Or.inl ⟨by rfl, ?hdk56r10o2⟩) hS ?_
 case hdk56r10o2 => (intro wx hx; skip; go_simp; (try with_reducible rfl))
 try simp only [Act.put, List.setIfInBounds_toArray, List.set_cons_zero, List.set_cons_succ]
 refine wpAnyH_take (i := 3) (oi := ⟨some 52, .load 32 (.tmp 51), 32, "blocks.go:158", #[⟨2, .data⟩], none⟩) (v := ?vdk56r10o3) rfl (by kernel_rfl) (by kernel_rfl) (by kernel_rfl) (fun _ _ _ h => h) (Or.inl ⟨by rfl, ?hdk56r10o3⟩) hS ?_
 case hdk56r10o3 => (intro wx hx; obtain ⟨c0, c1, c2, c3, c4⟩ := BM.cells hx; go_simp; (try with_reducible rfl))
 try simp only [Act.put, List.setIfInBounds_toArray, List.set_cons_zero, List.set_cons_succ]
 refine wpAnyH_take (i := 4) (oi := ⟨some 53, .move (.tmp 0), 82, "blocks.go:158", #[], none⟩) (v := ?vdk56r10o4) rfl (by kernel_rfl) (by kernel_rfl) (by kernel_rfl) (fun _ _ _ h => h) (Or.inl ⟨by rfl, ?hdk56r10o4⟩) hS ?_
 case hdk56r10o4 => (intro wx hx; skip; go_simp; (try with_reducible rfl))
 try simp only [Act.put, List.setIfInBounds_toArray, List.set_cons_zero, List.set_cons_succ]
 refine wpAnyH_take (i := 5) (oi := ⟨some 54, .nilCheck (.tmp 53), 0, "blocks.go:158", #[⟨4, .data⟩], none⟩) (v := ?vdk56r10o5) rfl (by kernel_rfl) (by kernel_rfl) (by kernel_rfl) (fun _ _ _ h => h) (Or.inl ⟨by rfl, ?hdk56r10o5⟩) hS ?_
 case hdk56r10o5 => (intro wx hx; skip; go_simp; (try with_reducible rfl))
 try simp only [Act.put, List.setIfInBounds_toArray, List.set_cons_zero, List.set_cons_succ]
 refine wpAnyH_take (i := 6) (oi := ⟨some 55, .fieldAddr 161 (.tmp 54) 1, 0, "blocks.go:158", #[⟨5, .data⟩], none⟩) (v := ?vdk56r10o6) rfl (by kernel_rfl) (by kernel_rfl) (by kernel_rfl) (fun _ _ _ h => h) (Or.inl ⟨by rfl, ?hdk56r10o6⟩) hS ?_
 case hdk56r10o6 => (intro wx hx; skip; go_simp; (try with_reducible rfl))
 try simp only [Act.put, List.setIfInBounds_toArray, List.set_cons_zero, List.set_cons_succ]
 refine wpAnyH_take (i := 7) (oi := ⟨some 56, .load 23 (.tmp 55), 23, "blocks.go:158", #[⟨6, .data⟩], none⟩) (v := ?vdk56r10o7) rfl (by kernel_rfl) (by kernel_rfl) (by kernel_rfl) (fun _ _ _ h => h) (Or.inl ⟨by rfl, ?hdk56r10o7⟩) hS ?_
 case hdk56r10o7 => (intro wx hx; obtain ⟨c0, c1, c2, c3, c4⟩ := BM.cells hx; go_simp; (try with_reducible rfl))
 try simp only [Act.put, List.setIfInBounds_toArray, List.set_cons_zero, List.set_cons_succ]
 refine wpAnyH_take (i := 8) (oi := ⟨some 57, .move (.tmp 0), 82, "blocks.go:158", #[], none⟩) (v := ?vdk56r10o8) rfl (by kernel_rfl) (by kernel_rfl) (by kernel_rfl) (fun _ _ _ h => h) (Or.inl ⟨by rfl, ?hdk56r10o8⟩) hS ?_
 case hdk56r10o8 => (intro wx hx; skip; go_simp; (try with_reducible rfl))
 try simp only [Act.put, List.setIfInBounds_toArray, List.set_cons_zero, List.set_cons_succ]
 refine wpAnyH_take (i := 9) (oi := ⟨some 58, .nilCheck (.tmp 57), 0, "blocks.go:158", #[⟨8, .data⟩], none⟩) (v := ?vdk56r10o9) rfl (by kernel_rfl) (by kernel_rfl) (by kernel_rfl) (fun _ _ _ h => h) (Or.inl ⟨by rfl, ?hdk56r10o9⟩) hS ?_
 case hdk56r10o9 => (intro wx hx; skip; go_simp; (try with_reducible rfl))
 try simp only [Act.put, List.setIfInBounds_toArray, List.set_cons_zero, List.set_cons_succ]
 refine wpAnyH_take (i := 10) (oi := ⟨some 59, .fieldAddr 161 (.tmp 58) 2, 0, "blocks.go:158", #[⟨9, .data⟩], none⟩) (v := ?vdk56r10o10) rfl (by kernel_rfl) (by kernel_rfl) (by kernel_rfl) (fun _ _ _ h => h) (Or.inl ⟨by rfl, ?hdk56r10o10⟩) hS ?_
 case hdk56r10o10 => (intro wx hx; skip; go_simp; (try with_reducible rfl))
 try simp only [Act.put, List.setIfInBounds_toArray, List.set_cons_zero, List.set_cons_succ]
 refine wpAnyH_take (i := 11) (oi := ⟨some 60, .load 3 (.tmp 59), 3, "blocks.go:158", #[⟨10, .data⟩], none⟩) (v := ?vdk56r10o11) rfl (by kernel_rfl) (by kernel_rfl) (by kernel_rfl) (fun _ _ _ h => h) (Or.inl ⟨by rfl, ?hdk56r10o11⟩) hS ?_
 case hdk56r10o11 => (intro wx hx; obtain ⟨c0, c1, c2, c3, c4⟩ := BM.cells hx; go_simp; (try with_reducible rfl))
 try simp only [Act.put, List.setIfInBounds_toArray, List.set_cons_zero, List.set_cons_succ]
 refine wpAnyH_ready (rs := [12, 16]) (by kernel_rfl) (by simp) ?_
 refine AllReadyH.cons (o := ⟨some 61, .call { callee := Callee.value (Operand.func 73), args := #[.tmp 52, .tmp 56, .tmp 60], argTypes := #[32, 23, 3] }, 134, "blocks.go:158", #[⟨3, .data⟩, ⟨7, .data⟩, ⟨11, .data⟩], none⟩) rfl (fun K hK => ?_) ?_
 ·
  go_simp
  refine (HG.out _ _ hOr.out).mono ?_
  rintro e wB ⟨rfl, hOB⟩
  have hS1 : BM XM g a b c n _ := HB.out _ _ hOB
  clear hOr
  have hOr := Lib.hid hOB
  clear hOB
  refine hK.out _ _ ?hsdkx156r10o12 (fun hS => ?_)
  case hsdkx156r10o12 => (exact hS1)
  clear hK K
  try simp only [Act.put, List.setIfInBounds_toArray, List.set_cons_zero, List.set_cons_succ]
  refine wpAnyH_take (i := 13) (oi := ⟨some 48, .move (.tmp 61), 134, "blocks.go:158", #[⟨12, .data⟩], none⟩) (v := ?vdkx156r10o13) rfl (by kernel_rfl) (by kernel_rfl) (by kernel_rfl) (fun _ _ _ h => h) (Or.inl ⟨by rfl, ?hdkx156r10o13⟩) hS ?_
  case hdkx156r10o13 => (intro wx hx; skip; go_simp; (try with_reducible rfl))
  try simp only [Act.put, List.setIfInBounds_toArray, List.set_cons_zero, List.set_cons_succ]
  refine wpAnyH_take (i := 14) (oi := ⟨some 62, .extract (.tmp 48) 0, 133, "blocks.go:158", #[⟨13, .data⟩], none⟩) (v := ?vdkx156r10o14) rfl (by kernel_rfl) (by kernel_rfl) (by kernel_rfl) (fun _ _ _ h => h) (Or.inl ⟨by rfl, ?hdkx156r10o14⟩) hS ?_
  case hdkx156r10o14 => (intro wx hx; skip; go_simp; (try with_reducible rfl))
  try simp only [Act.put, List.setIfInBounds_toArray, List.set_cons_zero, List.set_cons_succ]
  refine wpAnyH_take (i := 15) (oi := ⟨some 63, .extract (.tmp 48) 1, 45, "blocks.go:158", #[⟨13, .data⟩, { on := 17, ground := Ground.gcOnly Departure.lateStores }], none⟩) (v := ?vdkx156r10o15) rfl (by kernel_rfl) (by kernel_rfl) (by kernel_rfl) (fun _ _ _ h => h) (Or.inl ⟨by rfl, ?hdkx156r10o15⟩) hS ?_
  case hdkx156r10o15 => (intro wx hx; skip; go_simp; (try with_reducible rfl))
  try simp only [Act.put, List.setIfInBounds_toArray, List.set_cons_zero, List.set_cons_succ]
  refine wpAnyH_ready (rs := [16]) (by kernel_rfl) (by simp) ?_
  refine AllReadyH.cons (o := ⟨some 10, .alloc 133, 0, "blocks.go:158", #[], none⟩) rfl (fun K hK => ?_) AllReadyH.nil
  go_simp
  have hS1 : BM XM g a b c n _ := hS.grown (World.grownBy_alloc _ (.cells #[.int .u64 0, .int .u64 0, .int .u64 0, .int .u64 0, .int .u64 0, .int .u64 0, .int .u64 0, .int .u64 0, .int .u64 0, .int .u64 0] 133) none)
  have hOn := hOr.out.addBox 133 #[.int .u64 0, .int .u64 0, .int .u64 0, .int .u64 0, .int .u64 0, .int .u64 0, .int .u64 0, .int .u64 0, .int .u64 0, .int .u64 0]
  rw [List.append_assoc, List.nil_append] at hOn
  clear hOr
  first | (obtain ⟨N, hN⟩ : ∃ N, wB.heap.size = N := ⟨_, rfl⟩; obtain ⟨wz, hwz⟩ : ∃ wz, wB.alloc (.cells #[.int .u64 0, .int .u64 0, .int .u64 0, .int .u64 0, .int .u64 0, .int .u64 0, .int .u64 0, .int .u64 0, .int .u64 0, .int .u64 0] 133) = wz := ⟨_, rfl⟩; rw [hN, hwz] at hOn; rw [hwz] at hS1; (try rw [hwz]); (first | rw [hN] | rw [show w3.heap.size = N from hN])) | (obtain ⟨N, hN⟩ : ∃ N, w3.heap.size = N := ⟨_, rfl⟩; obtain ⟨wz, hwz⟩ : ∃ wz, (w3.alloc (.cells #[.int .u64 0, .int .u64 0, .int .u64 0, .int .u64 0, .int .u64 0, .int .u64 0, .int .u64 0, .int .u64 0, .int .u64 0, .int .u64 0] 133)).drew = wz := ⟨_, rfl⟩; rw [show w3.drew.alloc (.cells #[.int .u64 0, .int .u64 0, .int .u64 0, .int .u64 0, .int .u64 0, .int .u64 0, .int .u64 0, .int .u64 0, .int .u64 0, .int .u64 0] 133) = wz from hwz] at hOn hS1; rw [show w3.drew.heap.size = N from hN] at hOn; rw [hwz, hN])
  have hOr := Lib.hid hOn
  clear hOn hwz hN
  refine hK.out _ _ ?hsdkx156r10o16 (fun hS => ?_)
  case hsdkx156r10o16 => (exact hS1)
  clear hK K
  try simp only [Act.put, List.setIfInBounds_toArray, List.set_cons_zero, List.set_cons_succ]
  refine wpAnyH_ready (rs := [17]) (by kernel_rfl) (by simp) ?_
  refine AllReadyH.cons (o := ⟨none, .store 133 (.tmp 10) (.tmp 62), 0, "blocks.go:158", #[⟨16, .data⟩, ⟨14, .data⟩, ⟨12, .chain⟩, ⟨0, .phase⟩, ⟨1, .phase⟩, ⟨2, .phase⟩, ⟨3, .phase⟩, ⟨4, .phase⟩, ⟨5, .phase⟩, ⟨6, .phase⟩, ⟨7, .phase⟩, ⟨8, .phase⟩, ⟨9, .phase⟩, ⟨10, .phase⟩, ⟨11, .phase⟩, ⟨12, .phase⟩, ⟨13, .phase⟩, ⟨14, .phase⟩, { on := 15, ground := Ground.textOnly Departure.lateStores }, ⟨16, .phase⟩], none⟩) rfl (fun K hK => ?_) AllReadyH.nil
  obtain ⟨⟨z0, z1, z2, z3, z4, z5, z6, z7, z8, z9⟩, q0, q1, q2, q3, q4, q5, q6, q7, q8, q9⟩ := node_zero hOr.out
  go_simp
  obtain ⟨wn, hwn, hOx⟩ := node_stored f0 f1 f2 f3 f4 f5 f6 f7 f8 f9 hOr.out
  rw [hwn]
  have hOn := Lib.hid hOx
  clear hwn hOx
  refine hK.out _ _ ?hs17 (fun hS => ?_)
  case hs17 => exact HB.out _ _ hOn.out
  clear hK K hOr z0 z1 z2 z3 z4 z5 z6 z7 z8 z9 q0 q1 q2 q3 q4 q5 q6 q7 q8 q9
  have hOr := Lib.hid hOn.out
  clear hOn
  try simp only [Act.put, List.setIfInBounds_toArray, List.set_cons_zero, List.set_cons_succ]
  refine wpAnyH_take (i := 18) (oi := ⟨some 7, .assign (.tmp 63), 45, "blocks.go:158", #[⟨15, .data⟩, ⟨17, .chain⟩, ⟨0, .phase⟩, ⟨1, .phase⟩, ⟨2, .phase⟩, ⟨3, .phase⟩, ⟨4, .phase⟩, ⟨5, .phase⟩, ⟨6, .phase⟩, ⟨7, .phase⟩, ⟨8, .phase⟩, ⟨9, .phase⟩, ⟨10, .phase⟩, ⟨11, .phase⟩, ⟨12, .phase⟩, ⟨13, .phase⟩, ⟨14, .phase⟩, ⟨15, .phase⟩, ⟨16, .phase⟩, ⟨17, .phase⟩], none⟩) (v := ?vdkx156r10o18) rfl (by kernel_rfl) (by kernel_rfl) (by kernel_rfl) (fun _ _ _ h => h) (Or.inl ⟨by rfl, ?hdkx156r10o18⟩) hS ?_
  case hdkx156r10o18 => (intro wx hx; skip; go_simp; (try with_reducible rfl))
  try simp only [Act.put, List.setIfInBounds_toArray, List.set_cons_zero, List.set_cons_succ]
  refine wpAnyH_done (by kernel_rfl) ?_ _
  obtain ⟨z0, z1, z2, z3, z4, z5, z6, z7, z8, z9⟩ := node_have hOr.out
  go_wp2_with fail
  refine (HR1.out Y XI XB XA _ _ hOr.out).mono ?_
  rintro e w5 ⟨rfl, hO5⟩
  clear hOr hS z0 z1 z2 z3 z4 z5 z6 z7 z8 z9
  have hOr := Lib.hid hO5
  clear hO5
  go_wp2
  go_ret
  exact ⟨rfl, HQ.out _ _ _ _ _ _ hOr.out.less⟩
 refine AllReadyH.cons (o := ⟨some 10, .alloc 133, 0, "blocks.go:158", #[], none⟩) rfl (fun K hK => ?_) ?_
 ·
  go_simp
  have hS1 : BM XM g a b c n _ := hS.grown (World.grownBy_alloc _ (.cells #[.int .u64 0, .int .u64 0, .int .u64 0, .int .u64 0, .int .u64 0, .int .u64 0, .int .u64 0, .int .u64 0, .int .u64 0, .int .u64 0] 133) none)
  have hOn := hOr.out.addBox 133 #[.int .u64 0, .int .u64 0, .int .u64 0, .int .u64 0, .int .u64 0, .int .u64 0, .int .u64 0, .int .u64 0, .int .u64 0, .int .u64 0]
  rw [List.append_assoc, List.nil_append] at hOn
  clear hOr
  first | (obtain ⟨N, hN⟩ : ∃ N, wB.heap.size = N := ⟨_, rfl⟩; obtain ⟨wz, hwz⟩ : ∃ wz, wB.alloc (.cells #[.int .u64 0, .int .u64 0, .int .u64 0, .int .u64 0, .int .u64 0, .int .u64 0, .int .u64 0, .int .u64 0, .int .u64 0, .int .u64 0] 133) = wz := ⟨_, rfl⟩; rw [hN, hwz] at hOn; rw [hwz] at hS1; (try rw [hwz]); (first | rw [hN] | rw [show w3.heap.size = N from hN])) | (obtain ⟨N, hN⟩ : ∃ N, w3.heap.size = N := ⟨_, rfl⟩; obtain ⟨wz, hwz⟩ : ∃ wz, (w3.alloc (.cells #[.int .u64 0, .int .u64 0, .int .u64 0, .int .u64 0, .int .u64 0, .int .u64 0, .int .u64 0, .int .u64 0, .int .u64 0, .int .u64 0] 133)).drew = wz := ⟨_, rfl⟩; rw [show w3.drew.alloc (.cells #[.int .u64 0, .int .u64 0, .int .u64 0, .int .u64 0, .int .u64 0, .int .u64 0, .int .u64 0, .int .u64 0, .int .u64 0, .int .u64 0] 133) = wz from hwz] at hOn hS1; rw [show w3.drew.heap.size = N from hN] at hOn; rw [hwz, hN])
  have hOr := Lib.hid hOn
  clear hOn hwz hN
  refine hK.out _ _ ?hsdkx356r10o16 (fun hS => ?_)
  case hsdkx356r10o16 => (exact hS1)
  clear hK K
  try simp only [Act.put, List.setIfInBounds_toArray, List.set_cons_zero, List.set_cons_succ]
  refine wpAnyH_ready (rs := [12]) (by kernel_rfl) (by simp) ?_
  refine AllReadyH.cons (o := ⟨some 61, .call { callee := Callee.value (Operand.func 73), args := #[.tmp 52, .tmp 56, .tmp 60], argTypes := #[32, 23, 3] }, 134, "blocks.go:158", #[⟨3, .data⟩, ⟨7, .data⟩, ⟨11, .data⟩], none⟩) rfl (fun K hK => ?_) AllReadyH.nil
  go_simp
  refine (HG.out _ _ hOr.out).mono ?_
  rintro e wB ⟨rfl, hOB⟩
  have hS1 : BM XM g a b c n _ := HB.out _ _ hOB
  clear hOr
  have hOr := Lib.hid hOB
  clear hOB
  refine hK.out _ _ ?hsdkx356r10o12 (fun hS => ?_)
  case hsdkx356r10o12 => (exact hS1)
  clear hK K
  try simp only [Act.put, List.setIfInBounds_toArray, List.set_cons_zero, List.set_cons_succ]
  refine wpAnyH_take (i := 13) (oi := ⟨some 48, .move (.tmp 61), 134, "blocks.go:158", #[⟨12, .data⟩], none⟩) (v := ?vdkx356r10o13) rfl (by kernel_rfl) (by kernel_rfl) (by kernel_rfl) (fun _ _ _ h => h) (Or.inl ⟨by rfl, ?hdkx356r10o13⟩) hS ?_
  case hdkx356r10o13 => (intro wx hx; skip; go_simp; (try with_reducible rfl))
  try simp only [Act.put, List.setIfInBounds_toArray, List.set_cons_zero, List.set_cons_succ]
  refine wpAnyH_take (i := 14) (oi := ⟨some 62, .extract (.tmp 48) 0, 133, "blocks.go:158", #[⟨13, .data⟩], none⟩) (v := ?vdkx356r10o14) rfl (by kernel_rfl) (by kernel_rfl) (by kernel_rfl) (fun _ _ _ h => h) (Or.inl ⟨by rfl, ?hdkx356r10o14⟩) hS ?_
  case hdkx356r10o14 => (intro wx hx; skip; go_simp; (try with_reducible rfl))
  try simp only [Act.put, List.setIfInBounds_toArray, List.set_cons_zero, List.set_cons_succ]
  refine wpAnyH_take (i := 15) (oi := ⟨some 63, .extract (.tmp 48) 1, 45, "blocks.go:158", #[⟨13, .data⟩, { on := 17, ground := Ground.gcOnly Departure.lateStores }], none⟩) (v := ?vdkx356r10o15) rfl (by kernel_rfl) (by kernel_rfl) (by kernel_rfl) (fun _ _ _ h => h) (Or.inl ⟨by rfl, ?hdkx356r10o15⟩) hS ?_
  case hdkx356r10o15 => (intro wx hx; skip; go_simp; (try with_reducible rfl))
  try simp only [Act.put, List.setIfInBounds_toArray, List.set_cons_zero, List.set_cons_succ]
  refine wpAnyH_ready (rs := [17]) (by kernel_rfl) (by simp) ?_
  refine AllReadyH.cons (o := ⟨none, .store 133 (.tmp 10) (.tmp 62), 0, "blocks.go:158", #[⟨16, .data⟩, ⟨14, .data⟩, ⟨12, .chain⟩, ⟨0, .phase⟩, ⟨1, .phase⟩, ⟨2, .phase⟩, ⟨3, .phase⟩, ⟨4, .phase⟩, ⟨5, .phase⟩, ⟨6, .phase⟩, ⟨7, .phase⟩, ⟨8, .phase⟩, ⟨9, .phase⟩, ⟨10, .phase⟩, ⟨11, .phase⟩, ⟨12, .phase⟩, ⟨13, .phase⟩, ⟨14, .phase⟩, { on := 15, ground := Ground.textOnly Departure.lateStores }, ⟨16, .phase⟩], none⟩) rfl (fun K hK => ?_) AllReadyH.nil
  obtain ⟨⟨z0, z1, z2, z3, z4, z5, z6, z7, z8, z9⟩, q0, q1, q2, q3, q4, q5, q6, q7, q8, q9⟩ := node_zero hOr.out
  go_simp
  obtain ⟨wn, hwn, hOx⟩ := node_stored f0 f1 f2 f3 f4 f5 f6 f7 f8 f9 hOr.out
  rw [hwn]
  have hOn := Lib.hid hOx
  clear hwn hOx
  refine hK.out _ _ ?hs17 (fun hS => ?_)
  case hs17 => exact HB.out _ _ hOn.out
  clear hK K hOr z0 z1 z2 z3 z4 z5 z6 z7 z8 z9 q0 q1 q2 q3 q4 q5 q6 q7 q8 q9
  have hOr := Lib.hid hOn.out
  clear hOn
  try simp only [Act.put, List.setIfInBounds_toArray, List.set_cons_zero, List.set_cons_succ]
  refine wpAnyH_take (i := 18) (oi := ⟨some 7, .assign (.tmp 63), 45, "blocks.go:158", #[⟨15, .data⟩, ⟨17, .chain⟩, ⟨0, .phase⟩, ⟨1, .phase⟩, ⟨2, .phase⟩, ⟨3, .phase⟩, ⟨4, .phase⟩, ⟨5, .phase⟩, ⟨6, .phase⟩, ⟨7, .phase⟩, ⟨8, .phase⟩, ⟨9, .phase⟩, ⟨10, .phase⟩, ⟨11, .phase⟩, ⟨12, .phase⟩, ⟨13, .phase⟩, ⟨14, .phase⟩, ⟨15, .phase⟩, ⟨16, .phase⟩, ⟨17, .phase⟩], none⟩) (v := ?vdkx356r10o18) rfl (by kernel_rfl) (by kernel_rfl) (by kernel_rfl) (fun _ _ _ h => h) (Or.inl ⟨by rfl, ?hdkx356r10o18⟩) hS ?_
  case hdkx356r10o18 => (intro wx hx; skip; go_simp; (try with_reducible rfl))
  try simp only [Act.put, List.setIfInBounds_toArray, List.set_cons_zero, List.set_cons_succ]
  refine wpAnyH_done (by kernel_rfl) ?_ _
  obtain ⟨z0, z1, z2, z3, z4, z5, z6, z7, z8, z9⟩ := node_have hOr.out
  go_wp2_with fail
  refine (HR1.out Y XI XB XA _ _ hOr.out).mono ?_
  rintro e w5 ⟨rfl, hO5⟩
  clear hOr hS z0 z1 z2 z3 z4 z5 z6 z7 z8 z9
  have hOr := Lib.hid hO5
  clear hO5
  go_wp2
  go_ret
  exact ⟨rfl, HQ.out _ _ _ _ _ _ hOr.out.less⟩
 exact AllReadyH.nil
end Go.Proofs.YtfljlmmiiccooaaGreatDoor
end
section
namespace Go.Proofs.YtfljlmmiiccooaaGreatDoor
open Go.RowKit Go.Grommet
set_option linter.unusedVariables false
theorem alcIs_more {kv kI kB kA g a b c XI XB XA : Nat} {xs : List Nat} {L : List (Nat × Nat)} {Ps : List Pr} (Qs : List Pr) (h : AlcIs Ps kv kI kB kA g a b c XI XB XA xs L) : AlcIs (Ps ++ Qs) kv kI kB kA g a b c XI XB XA xs L :=
 ⟨app_old h.view, app_old h.mi, app_old h.mb, app_old h.al, h.may, h.fits, h.few⟩
theorem bmDrop_bare (kv km XM g a b c n A : Nat) (k t m : Int) (f0 f1 f2 f3 f4 f5 f6 f7 f8 f9 : Nat) (xs : List Nat) (L L1 : List (Nat × Nat)) (w0 w : World) (Ps : List Pr) (h : Grommet.Own w0 w Ps) (hv : Ps[kv]? = some (viewP g xs L)) (hm : Ps[km]? = some (bmP XM g a b c n)) (hkm : kv ≠ km) (hN : NodeOk xs L a b c n A)
  (hL : LookC XM k t m 0 w0 Ps) (hm0 : m ≠ 0) (ht : 0 ≤ t ∧ t < (xs.length : Int)) (he : giveE xs L (272 + 208 * a) c m = 0) (hl : (giveL xs L (272 + 208 * a) c m).length < 96) (hL1 : giveBL xs L a c m t = L1)
  (HG : ∀ Rs : List Pr, Rs[kv]? = some (viewP g xs L1) → ∀ wx Qs, Grommet.Own w0 wx (Rs ++ Qs) → Calls Tryz.prog 73 #[.pointer (some ⟨g, 0, none⟩), gv (a : Int) (b : Int) (c : Int), .int .i64 (n : Int)] wx fun e w' => e = .returned (.tuple #[nv f0 f1 f2 f3 f4 f5 f6 f7 f8 f9, .int .i64 0]) ∧ Grommet.Own w0 w' (Rs ++ Qs)) (L2 : List (Nat × Nat)) (hL2 : giveBL xs L1 a c (f8 : Int) ((A : Int) + 8) = L2) (he2 : giveE xs L1 (272 + 208 * a) c (f8 : Int) = 0) (hl2 : (giveL xs L1 (272 + 208 * a) c (f8 : Int)).length < 96) (h8s : f8 ≤ 1000000) (h8 : f8 ≠ 0) (HR : ∀ Rs : List Pr, Rs[kv]? = some (viewP g xs L1) → Rs[km]? = some (bmP XM g a b c n) → ∀ wx, Grommet.Own w0 wx Rs → Calls Tryz.prog 94 #[.pointer (some ⟨XM, 0, none⟩), nv f0 f1 f2 f3 f4 f5 f6 f7 f8 f9] wx fun e w' => e = .returned (.bool true) ∧ Grommet.Own w0 w' Rs) :
  Calls Tryz.prog 56 #[.pointer (some ⟨XM, 0, none⟩), .int .i64 k] w fun e' w' => e' = .returned (.int .i64 0) ∧ Grommet.Own w0 w' (Ps.set kv (viewP g xs L2)) := by
 have hkl := (List.getElem?_eq_some_iff.1 hv).1
 have HL := Lib.hid (hL w h)
 have HB0 := Lib.hid (show ∀ wx Rs, Grommet.Own w0 wx (Ps ++ Rs) → BM XM g a b c n wx from fun wx Rs hO => BM.of (k := km) hO (app_old hm))
 have HA := Lib.hid (fun wx (hO : Grommet.Own w0 wx Ps) => ANewH kv g a b c xs L w0 wx Ps hO hv hN.may hN.fits hN.few)
 have HV := Lib.hid (fun wx Y XI XB XA (hO : Grommet.Own w0 wx (Ps ++ alcPs Y g a b c XI XB XA)) => bmGive kv km _ _ _ g a b c XI XB XA XM n t m xs L w0 wx _ hO (alcIs_of hv hN) (app_old hm) hkm he hl ht)
 rw [show setL xs (giveL xs L (272 + 208 * a) c m) t 0 = L1 from hL1] at HV
 have HB1 := Lib.hid (show ∀ Y XI XB XA wx Qs, Grommet.Own w0 wx ((Ps ++ alcPs Y g a b c XI XB XA).set kv (viewP g xs L1) ++ Qs) → BM XM g a b c n wx from fun Y XI XB XA wx Qs hO => BM.of (k := km) hO (app_old (set_same_at _ _ (app_old hm) hkm)))
 have HG1 := Lib.hid (fun Y XI XB XA => HG ((Ps ++ alcPs Y g a b c XI XB XA).set kv (viewP g xs L1)) (set_at _ (app_old hv)))
 have HQ := Lib.hid (show ∀ wx Y XI XB XA Q, Grommet.Own w0 wx ((Ps ++ alcPs Y g a b c XI XB XA).set kv Q) → Grommet.Own w0 wx (Ps.set kv Q) from fun wx Y XI XB XA Q hO => by
  rw [List.set_append_left _ _ hkl] at hO
  exact hO.less)
 have e1 : (m == 0) = false := by simpa using hm0
 have HR1 := Lib.hid (fun Y XI XB XA Qs => HR ((Ps ++ alcPs Y g a b c XI XB XA).set kv (viewP g xs L1) ++ Qs) (app_old (set_at _ (app_old hv))) (app_old (set_same_at _ _ (app_old hm) hkm)))
 have e8 : ((f8 : Int) == 0) = false := by simpa using h8
 have e9 : ¬ (f8 : Int) = 0 := by omega
 have hplace := hN.place
 have hmN := mayN hN.may
 have hbel := hN.below
 have hfit := hN.fits
 have w8 : IntKind.i64.wrap (f8 : Int) = (f8 : Int) := IntWalk.i64_in _ ⟨by omega, by omega⟩
 have HW := Lib.hid (fun wx hB => bmOwn XM g a b c n A 8 wx hB hN.inode (by omega) ⟨by omega, by omega⟩)
 have HV2 := Lib.hid (fun wx Y XI XB XA N (hO : Grommet.Own w0 wx (((Ps ++ alcPs Y g a b c XI XB XA).set kv (viewP g xs L1)) ++ [boxP N 133 #[.int .u64 (f0 : Int), .int .u64 (f1 : Int), .int .u64 (f2 : Int), .int .u64 (f3 : Int), .int .u64 (f4 : Int), .int .u64 (f5 : Int), .int .u64 (f6 : Int), .int .u64 (f7 : Int), .int .u64 (f8 : Int), .int .u64 (f9 : Int)]])) => bmGive kv km _ _ _ g a b c XI XB XA XM n ((A : Int) + 8) (f8 : Int) xs L1 w0 wx _ hO (alcIs_more _ (alcIs_set L1 (alcIs_of hv hN) (by omega) (by omega) (by omega))) (app_old (set_same_at _ _ (app_old hm) hkm)) hkm he2 hl2 ⟨by omega, by omega⟩)
 rw [show setL xs (giveL xs L1 (272 + 208 * a) c (f8 : Int)) ((A : Int) + 8) 0 = L2 from hL2] at HV2
 have HQ2 := Lib.hid (show ∀ wx Y XI XB XA N, Grommet.Own w0 wx ((((Ps ++ alcPs Y g a b c XI XB XA).set kv (viewP g xs L1)) ++ [boxP N 133 #[.int .u64 (f0 : Int), .int .u64 (f1 : Int), .int .u64 (f2 : Int), .int .u64 (f3 : Int), .int .u64 (f4 : Int), .int .u64 (f5 : Int), .int .u64 (f6 : Int), .int .u64 (f7 : Int), .int .u64 (f8 : Int), .int .u64 (f9 : Int)]]).set kv (viewP g xs L2)) → Grommet.Own w0 wx (Ps.set kv (viewP g xs L2)) from fun wx Y XI XB XA N hO => by
  rw [List.set_append_left _ _ (by rw [List.length_set, List.length_append]; omega), List.set_set, List.set_append_left _ _ hkl] at hO
  exact hO.less.less)
 have HS2 := Lib.hid (show ∀ wx Y XI XB XA N, Grommet.Own w0 wx ((((Ps ++ alcPs Y g a b c XI XB XA).set kv (viewP g xs L1)) ++ [boxP N 133 #[.int .u64 (f0 : Int), .int .u64 (f1 : Int), .int .u64 (f2 : Int), .int .u64 (f3 : Int), .int .u64 (f4 : Int), .int .u64 (f5 : Int), .int .u64 (f6 : Int), .int .u64 (f7 : Int), .int .u64 (f8 : Int), .int .u64 (f9 : Int)]]).set kv (viewP g xs L2)) → BM XM g a b c n wx ∧ NodeAt N f0 f1 f2 f3 f4 f5 f6 f7 f8 f9 wx from fun wx Y XI XB XA N hO => by
  refine ⟨BM.of (k := km) hO (set_same_at _ _ (app_old (set_same_at _ _ (app_old hm) hkm)) hkm), ?_⟩
  rw [List.set_append_left _ _ (by rw [List.length_set, List.length_append]; omega)] at hO
  exact hO.box (((Ps ++ alcPs Y g a b c XI XB XA).set kv (viewP g xs L1)).set kv (viewP g xs L2)).length (by rw [List.getElem?_append_right (Nat.le_refl _), Nat.sub_self]; rfl))
 have HN2 := Lib.hid (show ∀ wx Y XI XB XA N, Grommet.Own w0 wx (((Ps ++ alcPs Y g a b c XI XB XA).set kv (viewP g xs L1)) ++ [boxP N 133 #[.int .u64 (f0 : Int), .int .u64 (f1 : Int), .int .u64 (f2 : Int), .int .u64 (f3 : Int), .int .u64 (f4 : Int), .int .u64 (f5 : Int), .int .u64 (f6 : Int), .int .u64 (f7 : Int), .int .u64 (f8 : Int), .int .u64 (f9 : Int)]]) → NodeAt N f0 f1 f2 f3 f4 f5 f6 f7 f8 f9 wx from fun wx Y XI XB XA N hO => hO.box ((Ps ++ alcPs Y g a b c XI XB XA).set kv (viewP g xs L1)).length (by rw [List.getElem?_append_right (Nat.le_refl _), Nat.sub_self]; rfl))
 obtain ⟨T, hT⟩ : ∃ T, (A : Int) + 8 = T := ⟨_, rfl⟩
 rw [hT] at HW HV2
 unfold nv gv at *
 clear h hv hm hkm hN hL hm0 ht he hl hL1 HG hkl h8 HR hL2 he2 hl2 h8s hplace hmN hbel hfit hT
 go_enter Tryz.func56, Tryz.ntmps56
 go_wp2_with fail
 refine HL.out.mono ?_
 rintro e' w1 ⟨rfl, hO1⟩
 have hS0 := Lib.hid (HB0.out _ [] (by rw [List.append_nil]; exact hO1)).drew
 have hOr := Lib.hid (hO1.quiet (grown_drew (World.grownBy.refl w1 none)))
 clear HL hO1
 go_wp2_with fail
 refine wp_region_held_drew (S := fun w' => BM XM g a b c n w') (by kernel_rfl) (hS0.out) (fun hS => ?_)
 refine wpAnyH_take (i := 0) (oi := ⟨some 26, .move (.tmp 0), 82, "blocks.go:151", #[], none⟩) (v := ?vda56r4o0) rfl (by kernel_rfl) (by kernel_rfl) (by kernel_rfl) (fun _ _ _ h => h) (Or.inl ⟨by rfl, ?hda56r4o0⟩) hS ?_
 case hda56r4o0 => (intro wx hx; skip; go_simp; (try with_reducible rfl))
 try simp only [Act.put, List.setIfInBounds_toArray, List.set_cons_zero, List.set_cons_succ]
 refine wpAnyH_take (i := 1) (oi := ⟨some 27, .nilCheck (.tmp 26), 0, "blocks.go:151", #[⟨0, .data⟩], none⟩) (v := ?vda56r4o1) rfl (by kernel_rfl) (by kernel_rfl) (by kernel_rfl) (fun _ _ _ h => h) (Or.inl ⟨by rfl, ?hda56r4o1⟩) hS ?_
 case hda56r4o1 => (intro wx hx; skip; go_simp; (try with_reducible rfl))
 try simp only [Act.put, List.setIfInBounds_toArray, List.set_cons_zero, List.set_cons_succ]
 refine wpAnyH_take (i := 2) (oi := ⟨some 28, .fieldAddr 161 (.tmp 27) 0, 0, "blocks.go:151", #[⟨1, .data⟩], none⟩) (v := ?vda56r4o2) rfl (by kernel_rfl) (by kernel_rfl) (by kernel_rfl) (fun _ _ _ h => h) (Or.inl ⟨by rfl, ?hda56r4o2⟩) hS ?_
 case hda56r4o2 => (intro wx hx; skip; go_simp; (try with_reducible rfl))
 try simp only [Act.put, List.setIfInBounds_toArray, List.set_cons_zero, List.set_cons_succ]
 refine wpAnyH_take (i := 3) (oi := ⟨some 29, .load 32 (.tmp 28), 32, "blocks.go:151", #[⟨2, .data⟩], none⟩) (v := ?vda56r4o3) rfl (by kernel_rfl) (by kernel_rfl) (by kernel_rfl) (fun _ _ _ h => h) (Or.inl ⟨by rfl, ?hda56r4o3⟩) hS ?_
 case hda56r4o3 => (intro wx hx; obtain ⟨c0, c1, c2, c3, c4⟩ := BM.cells hx; go_simp; (try with_reducible rfl))
 try simp only [Act.put, List.setIfInBounds_toArray, List.set_cons_zero, List.set_cons_succ]
 refine wpAnyH_take (i := 4) (oi := ⟨some 30, .move (.tmp 0), 82, "blocks.go:151", #[], none⟩) (v := ?vda56r4o4) rfl (by kernel_rfl) (by kernel_rfl) (by kernel_rfl) (fun _ _ _ h => h) (Or.inl ⟨by rfl, ?hda56r4o4⟩) hS ?_
 case hda56r4o4 => (intro wx hx; skip; go_simp; (try with_reducible rfl))
 try simp only [Act.put, List.setIfInBounds_toArray, List.set_cons_zero, List.set_cons_succ]
 refine wpAnyH_take (i := 5) (oi := ⟨some 31, .nilCheck (.tmp 30), 0, "blocks.go:151", #[⟨4, .data⟩], none⟩) (v := ?vda56r4o5) rfl (by kernel_rfl) (by kernel_rfl) (by kernel_rfl) (fun _ _ _ h => h) (Or.inl ⟨by rfl, ?hda56r4o5⟩) hS ?_
 case hda56r4o5 => (intro wx hx; skip; go_simp; (try with_reducible rfl))
 try simp only [Act.put, List.setIfInBounds_toArray, List.set_cons_zero, List.set_cons_succ]
 refine wpAnyH_take (i := 6) (oi := ⟨some 32, .fieldAddr 161 (.tmp 31) 1, 0, "blocks.go:151", #[⟨5, .data⟩], none⟩) (v := ?vda56r4o6) rfl (by kernel_rfl) (by kernel_rfl) (by kernel_rfl) (fun _ _ _ h => h) (Or.inl ⟨by rfl, ?hda56r4o6⟩) hS ?_
 case hda56r4o6 => (intro wx hx; skip; go_simp; (try with_reducible rfl))
 try simp only [Act.put, List.setIfInBounds_toArray, List.set_cons_zero, List.set_cons_succ]
 refine wpAnyH_take (i := 7) (oi := ⟨some 33, .load 23 (.tmp 32), 23, "blocks.go:151", #[⟨6, .data⟩], none⟩) (v := ?vda56r4o7) rfl (by kernel_rfl) (by kernel_rfl) (by kernel_rfl) (fun _ _ _ h => h) (Or.inl ⟨by rfl, ?hda56r4o7⟩) hS ?_
 case hda56r4o7 => (intro wx hx; obtain ⟨c0, c1, c2, c3, c4⟩ := BM.cells hx; go_simp; (try with_reducible rfl))
 try simp only [Act.put, List.setIfInBounds_toArray, List.set_cons_zero, List.set_cons_succ]
 refine wpAnyH_ready (rs := [8]) (by kernel_rfl) (by simp) ?_
 refine AllReadyH.cons (o := ⟨some 34, .call { callee := Callee.value (Operand.func 92), args := #[.tmp 29, .tmp 33], argTypes := #[32, 23] }, 158, "blocks.go:151", #[⟨3, .data⟩, ⟨7, .data⟩], none⟩) rfl (fun K hK => ?_) AllReadyH.nil
 go_simp
 refine (HA.out _ hOr.out).mono ?_
 rintro e wA ⟨Y, XI, XB, XA, rfl, hOA⟩
 have hS1 : BM XM g a b c n wA := HB0.out _ _ hOA
 refine hK.out _ _ ?hsda56r4o8 (fun hS => ?_)
 case hsda56r4o8 => (exact hS1)
 clear hK K
 try simp only [Act.put, List.setIfInBounds_toArray, List.set_cons_zero, List.set_cons_succ]
 refine wpAnyH_take (i := 9) (oi := ⟨some 25, .move (.tmp 34), 158, "blocks.go:151", #[⟨8, .data⟩], none⟩) (v := ?vda56r4o9) rfl (by kernel_rfl) (by kernel_rfl) (by kernel_rfl) (fun _ _ _ h => h) (Or.inl ⟨by rfl, ?hda56r4o9⟩) hS ?_
 case hda56r4o9 => (intro wx hx; skip; go_simp; (try with_reducible rfl))
 try simp only [Act.put, List.setIfInBounds_toArray, List.set_cons_zero, List.set_cons_succ]
 refine wpAnyH_take (i := 10) (oi := ⟨some 35, .extract (.tmp 25) 0, 157, "blocks.go:151", #[⟨9, .data⟩], none⟩) (v := ?vda56r4o10) rfl (by kernel_rfl) (by kernel_rfl) (by kernel_rfl) (fun _ _ _ h => h) (Or.inl ⟨by rfl, ?hda56r4o10⟩) hS ?_
 case hda56r4o10 => (intro wx hx; skip; go_simp; (try with_reducible rfl))
 try simp only [Act.put, List.setIfInBounds_toArray, List.set_cons_zero, List.set_cons_succ]
 refine wpAnyH_take (i := 11) (oi := ⟨some 36, .extract (.tmp 25) 1, 45, "blocks.go:151", #[⟨9, .data⟩, { on := 12, ground := Ground.gcOnly Departure.lateStores }], none⟩) (v := ?vda56r4o11) rfl (by kernel_rfl) (by kernel_rfl) (by kernel_rfl) (fun _ _ _ h => h) (Or.inl ⟨by rfl, ?hda56r4o11⟩) hS ?_
 case hda56r4o11 => (intro wx hx; skip; go_simp; (try with_reducible rfl))
 try simp only [Act.put, List.setIfInBounds_toArray, List.set_cons_zero, List.set_cons_succ]
 refine wpAnyH_take (i := 12) (oi := ⟨some 8, .assign (.tmp 35), 157, "blocks.go:151", #[⟨10, .data⟩, ⟨8, .chain⟩, ⟨0, .phase⟩, ⟨1, .phase⟩, ⟨2, .phase⟩, ⟨3, .phase⟩, ⟨4, .phase⟩, ⟨5, .phase⟩, ⟨6, .phase⟩, ⟨7, .phase⟩, ⟨8, .phase⟩, ⟨9, .phase⟩, ⟨10, .phase⟩, { on := 11, ground := Ground.textOnly Departure.lateStores }], none⟩) (v := ?vda56r4o12) rfl (by kernel_rfl) (by kernel_rfl) (by kernel_rfl) (fun _ _ _ h => h) (Or.inl ⟨by rfl, ?hda56r4o12⟩) hS ?_
 case hda56r4o12 => (intro wx hx; skip; go_simp; (try with_reducible rfl))
 try simp only [Act.put, List.setIfInBounds_toArray, List.set_cons_zero, List.set_cons_succ]
 refine wpAnyH_take (i := 13) (oi := ⟨some 7, .assign (.tmp 36), 45, "blocks.go:151", #[⟨11, .data⟩, ⟨12, .chain⟩, ⟨0, .phase⟩, ⟨1, .phase⟩, ⟨2, .phase⟩, ⟨3, .phase⟩, ⟨4, .phase⟩, ⟨5, .phase⟩, ⟨6, .phase⟩, ⟨7, .phase⟩, ⟨8, .phase⟩, ⟨9, .phase⟩, ⟨10, .phase⟩, ⟨11, .phase⟩, ⟨12, .phase⟩], none⟩) (v := ?vda56r4o13) rfl (by kernel_rfl) (by kernel_rfl) (by kernel_rfl) (fun _ _ _ h => h) (Or.inl ⟨by rfl, ?hda56r4o13⟩) hS ?_
 case hda56r4o13 => (intro wx hx; skip; go_simp; (try with_reducible rfl))
 try simp only [Act.put, List.setIfInBounds_toArray, List.set_cons_zero, List.set_cons_succ]
 refine wpAnyH_done (by kernel_rfl) ?_ _
 have hOA := Lib.hid hOA
 clear hS hS0 hOr HA hS1
 go_wp2_with fail
 refine (HV.out _ _ _ _ _ hOA.out).mono ?_
 rintro e w3 ⟨rfl, hO3⟩
 have HG := Lib.hid (HG1.out Y XI XB XA)
 have HB := Lib.hid (HB1.out Y XI XB XA)
 have hS3 := Lib.hid (HB.out _ [] (by rw [List.append_nil]; exact hO3)).drew
 have hOr := Lib.hid (show Grommet.Own w0 w3.drew ((Ps ++ alcPs Y g a b c XI XB XA).set kv (viewP g xs L1) ++ []) by rw [List.append_nil]; exact hO3.quiet (grown_drew (World.grownBy.refl _ _)))
 clear hOA HV hO3 HG1 HB1 HB0
 go_wp2_with fail
 refine wp_region_held_drew (S := fun w' => BM XM g a b c n w') (by kernel_rfl) (hS3.out) (fun hS => ?_)
 refine wpAnyH_take (i := 0) (oi := ⟨some 49, .move (.tmp 0), 82, "blocks.go:158", #[], none⟩) (v := ?vdb56r10o0) rfl (by kernel_rfl) (by kernel_rfl) (by kernel_rfl) (fun _ _ _ h => h) (Or.inl ⟨by rfl, ?hdb56r10o0⟩) hS ?_
 case hdb56r10o0 => (intro wx hx; skip; go_simp; (try with_reducible rfl))
 try simp only [Act.put, List.setIfInBounds_toArray, List.set_cons_zero, List.set_cons_succ]
 refine wpAnyH_take (i := 1) (oi := ⟨some 50, .nilCheck (.tmp 49), 0, "blocks.go:158", #[⟨0, .data⟩], none⟩) (v := ?vdb56r10o1) rfl (by kernel_rfl) (by kernel_rfl) (by kernel_rfl) (fun _ _ _ h => h) (Or.inl ⟨by rfl, ?hdb56r10o1⟩) hS ?_
 case hdb56r10o1 => (intro wx hx; skip; go_simp; (try with_reducible rfl))
 try simp only [Act.put, List.setIfInBounds_toArray, List.set_cons_zero, List.set_cons_succ]
 refine wpAnyH_take (i := 2) (oi := ⟨some 51, .fieldAddr 161 (.tmp 50) 0, 0, "blocks.go:158", #[⟨1, .data⟩], none⟩) (v := ?vdb56r10o2) rfl (by kernel_rfl) (by kernel_rfl) (by kernel_rfl) (fun _ _ _ h => h) (Or.inl ⟨by rfl, ?hdb56r10o2⟩) hS ?_
 case hdb56r10o2 => (intro wx hx; skip; go_simp; (try with_reducible rfl))
 try simp only [Act.put, List.setIfInBounds_toArray, List.set_cons_zero, List.set_cons_succ]
 refine wpAnyH_take (i := 3) (oi := ⟨some 52, .load 32 (.tmp 51), 32, "blocks.go:158", #[⟨2, .data⟩], none⟩) (v := ?vdb56r10o3) rfl (by kernel_rfl) (by kernel_rfl) (by kernel_rfl) (fun _ _ _ h => h) (Or.inl ⟨by rfl, ?hdb56r10o3⟩) hS ?_
 case hdb56r10o3 => (intro wx hx; obtain ⟨c0, c1, c2, c3, c4⟩ := BM.cells hx; go_simp; (try with_reducible rfl))
 try simp only [Act.put, List.setIfInBounds_toArray, List.set_cons_zero, List.set_cons_succ]
 refine wpAnyH_take (i := 4) (oi := ⟨some 53, .move (.tmp 0), 82, "blocks.go:158", #[], none⟩) (v := ?vdb56r10o4) rfl (by kernel_rfl) (by kernel_rfl) (by kernel_rfl) (fun _ _ _ h => h) (Or.inl ⟨by rfl, ?hdb56r10o4⟩) hS ?_
 case hdb56r10o4 => (intro wx hx; skip; go_simp; (try with_reducible rfl))
 try simp only [Act.put, List.setIfInBounds_toArray, List.set_cons_zero, List.set_cons_succ]
 refine wpAnyH_take (i := 5) (oi := ⟨some 54, .nilCheck (.tmp 53), 0, "blocks.go:158", #[⟨4, .data⟩], none⟩) (v := ?vdb56r10o5) rfl (by kernel_rfl) (by kernel_rfl) (by kernel_rfl) (fun _ _ _ h => h) (Or.inl ⟨by rfl, ?hdb56r10o5⟩) hS ?_
 case hdb56r10o5 => (intro wx hx; skip; go_simp; (try with_reducible rfl))
 try simp only [Act.put, List.setIfInBounds_toArray, List.set_cons_zero, List.set_cons_succ]
 refine wpAnyH_take (i := 6) (oi := ⟨some 55, .fieldAddr 161 (.tmp 54) 1, 0, "blocks.go:158", #[⟨5, .data⟩], none⟩) (v := ?vdb56r10o6) rfl (by kernel_rfl) (by kernel_rfl) (by kernel_rfl) (fun _ _ _ h => h) (Or.inl ⟨by rfl, ?hdb56r10o6⟩) hS ?_
 case hdb56r10o6 => (intro wx hx; skip; go_simp; (try with_reducible rfl))
 try simp only [Act.put, List.setIfInBounds_toArray, List.set_cons_zero, List.set_cons_succ]
 refine wpAnyH_take (i := 7) (oi := ⟨some 56, .load 23 (.tmp 55), 23, "blocks.go:158", #[⟨6, .data⟩], none⟩) (v := ?vdb56r10o7) rfl (by kernel_rfl) (by kernel_rfl) (by kernel_rfl) (fun _ _ _ h => h) (Or.inl ⟨by rfl, ?hdb56r10o7⟩) hS ?_
 case hdb56r10o7 => (intro wx hx; obtain ⟨c0, c1, c2, c3, c4⟩ := BM.cells hx; go_simp; (try with_reducible rfl))
 try simp only [Act.put, List.setIfInBounds_toArray, List.set_cons_zero, List.set_cons_succ]
 refine wpAnyH_take (i := 8) (oi := ⟨some 57, .move (.tmp 0), 82, "blocks.go:158", #[], none⟩) (v := ?vdb56r10o8) rfl (by kernel_rfl) (by kernel_rfl) (by kernel_rfl) (fun _ _ _ h => h) (Or.inl ⟨by rfl, ?hdb56r10o8⟩) hS ?_
 case hdb56r10o8 => (intro wx hx; skip; go_simp; (try with_reducible rfl))
 try simp only [Act.put, List.setIfInBounds_toArray, List.set_cons_zero, List.set_cons_succ]
 refine wpAnyH_take (i := 9) (oi := ⟨some 58, .nilCheck (.tmp 57), 0, "blocks.go:158", #[⟨8, .data⟩], none⟩) (v := ?vdb56r10o9) rfl (by kernel_rfl) (by kernel_rfl) (by kernel_rfl) (fun _ _ _ h => h) (Or.inl ⟨by rfl, ?hdb56r10o9⟩) hS ?_
 case hdb56r10o9 => (intro wx hx; skip; go_simp; (try with_reducible rfl))
 try simp only [Act.put, List.setIfInBounds_toArray, List.set_cons_zero, List.set_cons_succ]
 refine wpAnyH_take (i := 10) (oi := ⟨some 59, .fieldAddr 161 (.tmp 58) 2, 0, "blocks.go:158", #[⟨9, .data⟩], none⟩) (v := ?vdb56r10o10) rfl (by kernel_rfl) (by kernel_rfl) (by kernel_rfl) (fun _ _ _ h => h) (Or.inl ⟨by rfl, ?hdb56r10o10⟩) hS ?_
 case hdb56r10o10 => (intro wx hx; skip; go_simp; (try with_reducible rfl))
 try simp only [Act.put, List.setIfInBounds_toArray, List.set_cons_zero, List.set_cons_succ]
 refine wpAnyH_take (i := 11) (oi := ⟨some 60, .load 3 (.tmp 59), 3, "blocks.go:158", #[⟨10, .data⟩], none⟩) (v := ?vdb56r10o11) rfl (by kernel_rfl) (by kernel_rfl) (by kernel_rfl) (fun _ _ _ h => h) (Or.inl ⟨by rfl, ?hdb56r10o11⟩) hS ?_
 case hdb56r10o11 => (intro wx hx; obtain ⟨c0, c1, c2, c3, c4⟩ := BM.cells hx; go_simp; (try with_reducible rfl))
 try simp only [Act.put, List.setIfInBounds_toArray, List.set_cons_zero, List.set_cons_succ]
 refine wpAnyH_ready (rs := [12, 16]) (by kernel_rfl) (by simp) ?_
 refine AllReadyH.cons (o := ⟨some 61, .call { callee := Callee.value (Operand.func 73), args := #[.tmp 52, .tmp 56, .tmp 60], argTypes := #[32, 23, 3] }, 134, "blocks.go:158", #[⟨3, .data⟩, ⟨7, .data⟩, ⟨11, .data⟩], none⟩) rfl (fun K hK => ?_) ?_
 ·
  go_simp
  refine (HG.out _ _ hOr.out).mono ?_
  rintro e wB ⟨rfl, hOB⟩
  have hS1 : BM XM g a b c n _ := HB.out _ _ hOB
  clear hOr
  have hOr := Lib.hid hOB
  clear hOB
  refine hK.out _ _ ?hsdbx156r10o12 (fun hS => ?_)
  case hsdbx156r10o12 => (exact hS1)
  clear hK K
  try simp only [Act.put, List.setIfInBounds_toArray, List.set_cons_zero, List.set_cons_succ]
  refine wpAnyH_take (i := 13) (oi := ⟨some 48, .move (.tmp 61), 134, "blocks.go:158", #[⟨12, .data⟩], none⟩) (v := ?vdbx156r10o13) rfl (by kernel_rfl) (by kernel_rfl) (by kernel_rfl) (fun _ _ _ h => h) (Or.inl ⟨by rfl, ?hdbx156r10o13⟩) hS ?_
  case hdbx156r10o13 => (intro wx hx; skip; go_simp; (try with_reducible rfl))
  try simp only [Act.put, List.setIfInBounds_toArray, List.set_cons_zero, List.set_cons_succ]
  refine wpAnyH_take (i := 14) (oi := ⟨some 62, .extract (.tmp 48) 0, 133, "blocks.go:158", #[⟨13, .data⟩], none⟩) (v := ?vdbx156r10o14) rfl (by kernel_rfl) (by kernel_rfl) (by kernel_rfl) (fun _ _ _ h => h) (Or.inl ⟨by rfl, ?hdbx156r10o14⟩) hS ?_
  case hdbx156r10o14 => (intro wx hx; skip; go_simp; (try with_reducible rfl))
  try simp only [Act.put, List.setIfInBounds_toArray, List.set_cons_zero, List.set_cons_succ]
  refine wpAnyH_take (i := 15) (oi := ⟨some 63, .extract (.tmp 48) 1, 45, "blocks.go:158", #[⟨13, .data⟩, { on := 17, ground := Ground.gcOnly Departure.lateStores }], none⟩) (v := ?vdbx156r10o15) rfl (by kernel_rfl) (by kernel_rfl) (by kernel_rfl) (fun _ _ _ h => h) (Or.inl ⟨by rfl, ?hdbx156r10o15⟩) hS ?_
  case hdbx156r10o15 => (intro wx hx; skip; go_simp; (try with_reducible rfl))
  try simp only [Act.put, List.setIfInBounds_toArray, List.set_cons_zero, List.set_cons_succ]
  refine wpAnyH_ready (rs := [16]) (by kernel_rfl) (by simp) ?_
  refine AllReadyH.cons (o := ⟨some 10, .alloc 133, 0, "blocks.go:158", #[], none⟩) rfl (fun K hK => ?_) AllReadyH.nil
  go_simp
  have hS1 : BM XM g a b c n _ := hS.grown (World.grownBy_alloc _ (.cells #[.int .u64 0, .int .u64 0, .int .u64 0, .int .u64 0, .int .u64 0, .int .u64 0, .int .u64 0, .int .u64 0, .int .u64 0, .int .u64 0] 133) none)
  have hOn := hOr.out.addBox 133 #[.int .u64 0, .int .u64 0, .int .u64 0, .int .u64 0, .int .u64 0, .int .u64 0, .int .u64 0, .int .u64 0, .int .u64 0, .int .u64 0]
  rw [List.append_assoc, List.nil_append] at hOn
  clear hOr
  first | (obtain ⟨N, hN⟩ : ∃ N, wB.heap.size = N := ⟨_, rfl⟩; obtain ⟨wz, hwz⟩ : ∃ wz, wB.alloc (.cells #[.int .u64 0, .int .u64 0, .int .u64 0, .int .u64 0, .int .u64 0, .int .u64 0, .int .u64 0, .int .u64 0, .int .u64 0, .int .u64 0] 133) = wz := ⟨_, rfl⟩; rw [hN, hwz] at hOn; rw [hwz] at hS1; (try rw [hwz]); (first | rw [hN] | rw [show w3.heap.size = N from hN])) | (obtain ⟨N, hN⟩ : ∃ N, w3.heap.size = N := ⟨_, rfl⟩; obtain ⟨wz, hwz⟩ : ∃ wz, (w3.alloc (.cells #[.int .u64 0, .int .u64 0, .int .u64 0, .int .u64 0, .int .u64 0, .int .u64 0, .int .u64 0, .int .u64 0, .int .u64 0, .int .u64 0] 133)).drew = wz := ⟨_, rfl⟩; rw [show w3.drew.alloc (.cells #[.int .u64 0, .int .u64 0, .int .u64 0, .int .u64 0, .int .u64 0, .int .u64 0, .int .u64 0, .int .u64 0, .int .u64 0, .int .u64 0] 133) = wz from hwz] at hOn hS1; rw [show w3.drew.heap.size = N from hN] at hOn; rw [hwz, hN])
  have hOr := Lib.hid hOn
  clear hOn hwz hN
  refine hK.out _ _ ?hsdbx156r10o16 (fun hS => ?_)
  case hsdbx156r10o16 => (exact hS1)
  clear hK K
  try simp only [Act.put, List.setIfInBounds_toArray, List.set_cons_zero, List.set_cons_succ]
  refine wpAnyH_ready (rs := [17]) (by kernel_rfl) (by simp) ?_
  refine AllReadyH.cons (o := ⟨none, .store 133 (.tmp 10) (.tmp 62), 0, "blocks.go:158", #[⟨16, .data⟩, ⟨14, .data⟩, ⟨12, .chain⟩, ⟨0, .phase⟩, ⟨1, .phase⟩, ⟨2, .phase⟩, ⟨3, .phase⟩, ⟨4, .phase⟩, ⟨5, .phase⟩, ⟨6, .phase⟩, ⟨7, .phase⟩, ⟨8, .phase⟩, ⟨9, .phase⟩, ⟨10, .phase⟩, ⟨11, .phase⟩, ⟨12, .phase⟩, ⟨13, .phase⟩, ⟨14, .phase⟩, { on := 15, ground := Ground.textOnly Departure.lateStores }, ⟨16, .phase⟩], none⟩) rfl (fun K hK => ?_) AllReadyH.nil
  obtain ⟨⟨z0, z1, z2, z3, z4, z5, z6, z7, z8, z9⟩, q0, q1, q2, q3, q4, q5, q6, q7, q8, q9⟩ := node_zero hOr.out
  go_simp
  obtain ⟨wn, hwn, hOx⟩ := node_stored f0 f1 f2 f3 f4 f5 f6 f7 f8 f9 hOr.out
  rw [hwn]
  have hOn := Lib.hid hOx
  clear hwn hOx
  refine hK.out _ _ ?hs17 (fun hS => ?_)
  case hs17 => exact HB.out _ _ hOn.out
  clear hK K hOr z0 z1 z2 z3 z4 z5 z6 z7 z8 z9 q0 q1 q2 q3 q4 q5 q6 q7 q8 q9
  have hOr := Lib.hid hOn.out
  clear hOn
  try simp only [Act.put, List.setIfInBounds_toArray, List.set_cons_zero, List.set_cons_succ]
  refine wpAnyH_take (i := 18) (oi := ⟨some 7, .assign (.tmp 63), 45, "blocks.go:158", #[⟨15, .data⟩, ⟨17, .chain⟩, ⟨0, .phase⟩, ⟨1, .phase⟩, ⟨2, .phase⟩, ⟨3, .phase⟩, ⟨4, .phase⟩, ⟨5, .phase⟩, ⟨6, .phase⟩, ⟨7, .phase⟩, ⟨8, .phase⟩, ⟨9, .phase⟩, ⟨10, .phase⟩, ⟨11, .phase⟩, ⟨12, .phase⟩, ⟨13, .phase⟩, ⟨14, .phase⟩, ⟨15, .phase⟩, ⟨16, .phase⟩, ⟨17, .phase⟩], none⟩) (v := ?vdbx156r10o18) rfl (by kernel_rfl) (by kernel_rfl) (by kernel_rfl) (fun _ _ _ h => h) (Or.inl ⟨by rfl, ?hdbx156r10o18⟩) hS ?_
  case hdbx156r10o18 => (intro wx hx; skip; go_simp; (try with_reducible rfl))
  try simp only [Act.put, List.setIfInBounds_toArray, List.set_cons_zero, List.set_cons_succ]
  refine wpAnyH_done (by kernel_rfl) ?_ _
  obtain ⟨z0, z1, z2, z3, z4, z5, z6, z7, z8, z9⟩ := node_have hOr.out
  go_wp2_with fail
  refine (HR1.out Y XI XB XA _ _ hOr.out).mono ?_
  rintro e w5 ⟨rfl, hO5⟩
  clear hOr hS z0 z1 z2 z3 z4 z5 z6 z7 z8 z9
  have hOr := Lib.hid hO5
  clear hO5
  have hS8 := Lib.hid (show BM XM g a b c n w5.drew ∧ NodeAt N f0 f1 f2 f3 f4 f5 f6 f7 f8 f9 w5.drew from ⟨(HB.out _ _ hOr.out).drew, (HN2.out _ _ _ _ _ _ hOr.out).keep (grown_drew (World.grownBy.refl _ _))⟩)
  have hOn := Lib.hid (hOr.out.quiet (grown_drew (World.grownBy.refl w5 none)))
  clear hOr
  have hOr := hOn
  clear hOn
  go_wp2_with fail
  refine wp_region_held_drew (S := fun w' => BM XM g a b c n w' ∧ NodeAt N f0 f1 f2 f3 f4 f5 f6 f7 f8 f9 w') (by kernel_rfl) (hS8.out) (fun hS => ?_)
  refine wpAnyH_take (i := 0) (oi := ⟨some 78, .move (.tmp 0), 82, "blocks.go:162", #[], none⟩) (v := ?vdgl256r13o0) rfl (by kernel_rfl) (by kernel_rfl) (by kernel_rfl) (fun _ _ _ h => h) (Or.inl ⟨by rfl, ?hdgl256r13o0⟩) hS ?_
  case hdgl256r13o0 => (intro wx hx; skip; go_simp; (try with_reducible rfl))
  try simp only [Act.put, List.setIfInBounds_toArray, List.set_cons_zero, List.set_cons_succ]
  refine wpAnyH_take (i := 1) (oi := ⟨some 79, .move (.tmp 8), 157, "blocks.go:162", #[], none⟩) (v := ?vdgl256r13o1) rfl (by kernel_rfl) (by kernel_rfl) (by kernel_rfl) (fun _ _ _ h => h) (Or.inl ⟨by rfl, ?hdgl256r13o1⟩) hS ?_
  case hdgl256r13o1 => (intro wx hx; skip; go_simp; (try with_reducible rfl))
  try simp only [Act.put, List.setIfInBounds_toArray, List.set_cons_zero, List.set_cons_succ]
  refine wpAnyH_take (i := 2) (oi := ⟨some 80, .move (.tmp 0), 82, "blocks.go:162", #[], none⟩) (v := ?vdgl256r13o2) rfl (by kernel_rfl) (by kernel_rfl) (by kernel_rfl) (fun _ _ _ h => h) (Or.inl ⟨by rfl, ?hdgl256r13o2⟩) hS ?_
  case hdgl256r13o2 => (intro wx hx; skip; go_simp; (try with_reducible rfl))
  try simp only [Act.put, List.setIfInBounds_toArray, List.set_cons_zero, List.set_cons_succ]
  refine wpAnyH_take (i := 4) (oi := ⟨some 82, .fieldAddr 133 (.tmp 10) 5, 0, "blocks.go:162", #[], none⟩) (v := ?vdgl256r13o4) rfl (by kernel_rfl) (by kernel_rfl) (by kernel_rfl) (fun _ _ _ h => h) (Or.inl ⟨by rfl, ?hdgl256r13o4⟩) hS ?_
  case hdgl256r13o4 => (intro wx hx; skip; go_simp; (try with_reducible rfl))
  try simp only [Act.put, List.setIfInBounds_toArray, List.set_cons_zero, List.set_cons_succ]
  refine wpAnyH_take (i := 5) (oi := ⟨some 83, .load 72 (.tmp 82), 72, "blocks.go:162", #[⟨4, .data⟩], none⟩) (v := ?vdgl256r13o5) rfl (by kernel_rfl) (by kernel_rfl) (by kernel_rfl) (fun _ _ _ h => h) (Or.inl ⟨by rfl, ?hdgl256r13o5⟩) hS ?_
  case hdgl256r13o5 => (intro wx hx; have c5 := NodeAt.chain hx.2; go_simp; (try with_reducible rfl))
  try simp only [Act.put, List.setIfInBounds_toArray, List.set_cons_zero, List.set_cons_succ]
  refine wpAnyH_take (i := 6) (oi := ⟨some 84, .convert 72 3 (.tmp 83), 3, "blocks.go:162", #[⟨5, .data⟩], none⟩) (v := ?vdgl256r13o6) rfl (by kernel_rfl) (by kernel_rfl) (by kernel_rfl) (fun _ _ _ h => h) (Or.inl ⟨by rfl, ?hdgl256r13o6⟩) hS ?_
  case hdgl256r13o6 => (intro wx hx; have c5 := NodeAt.chain hx.2; go_simp; (try with_reducible rfl))
  try simp only [Act.put, List.setIfInBounds_toArray, List.set_cons_zero, List.set_cons_succ]
  refine wpAnyH_ready (rs := [3]) (by kernel_rfl) (by simp) ?_
  refine AllReadyH.cons (o := ⟨some 81, .call { callee := Callee.value (Operand.func 95), args := #[.tmp 80, Operand.const (Value.int IntKind.i64 8)], argTypes := #[82, 3] }, 3, "blocks.go:162", #[⟨2, .data⟩], none⟩) rfl (fun K hK => ?_) AllReadyH.nil
  go_simp
  refine (HW.out _ hS.1).mono ?_
  rintro e wO ⟨rfl, hgO⟩
  have hS1 : BM XM g a b c n wO ∧ NodeAt N f0 f1 f2 f3 f4 f5 f6 f7 f8 f9 wO := ⟨hS.1.grown hgO, hS.2.keep hgO⟩
  have hOn := Lib.hid (hOr.out.quiet hgO)
  clear hOr hgO
  have hOr := hOn
  clear hOn
  refine hK.out _ _ ?hsdgl256r13o3 (fun hS => ?_)
  case hsdgl256r13o3 => (exact hS1)
  clear hK K
  try simp only [Act.put, List.setIfInBounds_toArray, List.set_cons_zero, List.set_cons_succ]
  refine wpAnyH_ready (rs := [7]) (by kernel_rfl) (by simp) ?_
  refine AllReadyH.cons (o := ⟨some 85, .call { callee := Callee.value (Operand.func 93), args := #[.tmp 78, .tmp 79, .tmp 81, .tmp 84], argTypes := #[82, 157, 3, 3] }, 45, "blocks.go:162", #[⟨0, .data⟩, ⟨1, .data⟩, ⟨3, .data⟩, ⟨6, .data⟩, ⟨3, .chain⟩], none⟩) rfl (fun K hK => ?_) AllReadyH.nil
  go_simp
  refine (HV2.out _ _ _ _ _ _ hOr.out).mono ?_
  rintro e wG ⟨rfl, hOG⟩
  have hS1 := HS2.out _ _ _ _ _ _ hOG
  refine hK.out _ _ ?hsdgl256r13o7 (fun hS => ?_)
  case hsdgl256r13o7 => (exact hS1)
  clear hK K
  try simp only [Act.put, List.setIfInBounds_toArray, List.set_cons_zero, List.set_cons_succ]
  refine wpAnyH_take (i := 8) (oi := ⟨some 4, .assign (.tmp 85), 45, "blocks.go:162", #[⟨7, .data⟩, ⟨7, .chain⟩, ⟨0, .phase⟩, ⟨1, .phase⟩, ⟨2, .phase⟩, ⟨3, .phase⟩, ⟨4, .phase⟩, ⟨5, .phase⟩, ⟨6, .phase⟩, ⟨7, .phase⟩], none⟩) (v := ?vdgl256r13o8) rfl (by kernel_rfl) (by kernel_rfl) (by kernel_rfl) (fun _ _ _ h => h) (Or.inl ⟨by rfl, ?hdgl256r13o8⟩) hS ?_
  case hdgl256r13o8 => (intro wx hx; skip; go_simp; (try with_reducible rfl))
  try simp only [Act.put, List.setIfInBounds_toArray, List.set_cons_zero, List.set_cons_succ]
  refine wpAnyH_done (by kernel_rfl) ?_ _
  have hOE := Lib.hid (HQ2.out _ _ _ _ _ _ hOG)
  clear hOG hOr hS8
  go_wp2
  go_ret
  exact ⟨rfl, hOE.out⟩
 refine AllReadyH.cons (o := ⟨some 10, .alloc 133, 0, "blocks.go:158", #[], none⟩) rfl (fun K hK => ?_) ?_
 ·
  go_simp
  have hS1 : BM XM g a b c n _ := hS.grown (World.grownBy_alloc _ (.cells #[.int .u64 0, .int .u64 0, .int .u64 0, .int .u64 0, .int .u64 0, .int .u64 0, .int .u64 0, .int .u64 0, .int .u64 0, .int .u64 0] 133) none)
  have hOn := hOr.out.addBox 133 #[.int .u64 0, .int .u64 0, .int .u64 0, .int .u64 0, .int .u64 0, .int .u64 0, .int .u64 0, .int .u64 0, .int .u64 0, .int .u64 0]
  rw [List.append_assoc, List.nil_append] at hOn
  clear hOr
  first | (obtain ⟨N, hN⟩ : ∃ N, wB.heap.size = N := ⟨_, rfl⟩; obtain ⟨wz, hwz⟩ : ∃ wz, wB.alloc (.cells #[.int .u64 0, .int .u64 0, .int .u64 0, .int .u64 0, .int .u64 0, .int .u64 0, .int .u64 0, .int .u64 0, .int .u64 0, .int .u64 0] 133) = wz := ⟨_, rfl⟩; rw [hN, hwz] at hOn; rw [hwz] at hS1; (try rw [hwz]); (first | rw [hN] | rw [show w3.heap.size = N from hN])) | (obtain ⟨N, hN⟩ : ∃ N, w3.heap.size = N := ⟨_, rfl⟩; obtain ⟨wz, hwz⟩ : ∃ wz, (w3.alloc (.cells #[.int .u64 0, .int .u64 0, .int .u64 0, .int .u64 0, .int .u64 0, .int .u64 0, .int .u64 0, .int .u64 0, .int .u64 0, .int .u64 0] 133)).drew = wz := ⟨_, rfl⟩; rw [show w3.drew.alloc (.cells #[.int .u64 0, .int .u64 0, .int .u64 0, .int .u64 0, .int .u64 0, .int .u64 0, .int .u64 0, .int .u64 0, .int .u64 0, .int .u64 0] 133) = wz from hwz] at hOn hS1; rw [show w3.drew.heap.size = N from hN] at hOn; rw [hwz, hN])
  have hOr := Lib.hid hOn
  clear hOn hwz hN
  refine hK.out _ _ ?hsdbx356r10o16 (fun hS => ?_)
  case hsdbx356r10o16 => (exact hS1)
  clear hK K
  try simp only [Act.put, List.setIfInBounds_toArray, List.set_cons_zero, List.set_cons_succ]
  refine wpAnyH_ready (rs := [12]) (by kernel_rfl) (by simp) ?_
  refine AllReadyH.cons (o := ⟨some 61, .call { callee := Callee.value (Operand.func 73), args := #[.tmp 52, .tmp 56, .tmp 60], argTypes := #[32, 23, 3] }, 134, "blocks.go:158", #[⟨3, .data⟩, ⟨7, .data⟩, ⟨11, .data⟩], none⟩) rfl (fun K hK => ?_) AllReadyH.nil
  go_simp
  refine (HG.out _ _ hOr.out).mono ?_
  rintro e wB ⟨rfl, hOB⟩
  have hS1 : BM XM g a b c n _ := HB.out _ _ hOB
  clear hOr
  have hOr := Lib.hid hOB
  clear hOB
  refine hK.out _ _ ?hsdbx356r10o12 (fun hS => ?_)
  case hsdbx356r10o12 => (exact hS1)
  clear hK K
  try simp only [Act.put, List.setIfInBounds_toArray, List.set_cons_zero, List.set_cons_succ]
  refine wpAnyH_take (i := 13) (oi := ⟨some 48, .move (.tmp 61), 134, "blocks.go:158", #[⟨12, .data⟩], none⟩) (v := ?vdbx356r10o13) rfl (by kernel_rfl) (by kernel_rfl) (by kernel_rfl) (fun _ _ _ h => h) (Or.inl ⟨by rfl, ?hdbx356r10o13⟩) hS ?_
  case hdbx356r10o13 => (intro wx hx; skip; go_simp; (try with_reducible rfl))
  try simp only [Act.put, List.setIfInBounds_toArray, List.set_cons_zero, List.set_cons_succ]
  refine wpAnyH_take (i := 14) (oi := ⟨some 62, .extract (.tmp 48) 0, 133, "blocks.go:158", #[⟨13, .data⟩], none⟩) (v := ?vdbx356r10o14) rfl (by kernel_rfl) (by kernel_rfl) (by kernel_rfl) (fun _ _ _ h => h) (Or.inl ⟨by rfl, ?hdbx356r10o14⟩) hS ?_
  case hdbx356r10o14 => (intro wx hx; skip; go_simp; (try with_reducible rfl))
  try simp only [Act.put, List.setIfInBounds_toArray, List.set_cons_zero, List.set_cons_succ]
  refine wpAnyH_take (i := 15) (oi := ⟨some 63, .extract (.tmp 48) 1, 45, "blocks.go:158", #[⟨13, .data⟩, { on := 17, ground := Ground.gcOnly Departure.lateStores }], none⟩) (v := ?vdbx356r10o15) rfl (by kernel_rfl) (by kernel_rfl) (by kernel_rfl) (fun _ _ _ h => h) (Or.inl ⟨by rfl, ?hdbx356r10o15⟩) hS ?_
  case hdbx356r10o15 => (intro wx hx; skip; go_simp; (try with_reducible rfl))
  try simp only [Act.put, List.setIfInBounds_toArray, List.set_cons_zero, List.set_cons_succ]
  refine wpAnyH_ready (rs := [17]) (by kernel_rfl) (by simp) ?_
  refine AllReadyH.cons (o := ⟨none, .store 133 (.tmp 10) (.tmp 62), 0, "blocks.go:158", #[⟨16, .data⟩, ⟨14, .data⟩, ⟨12, .chain⟩, ⟨0, .phase⟩, ⟨1, .phase⟩, ⟨2, .phase⟩, ⟨3, .phase⟩, ⟨4, .phase⟩, ⟨5, .phase⟩, ⟨6, .phase⟩, ⟨7, .phase⟩, ⟨8, .phase⟩, ⟨9, .phase⟩, ⟨10, .phase⟩, ⟨11, .phase⟩, ⟨12, .phase⟩, ⟨13, .phase⟩, ⟨14, .phase⟩, { on := 15, ground := Ground.textOnly Departure.lateStores }, ⟨16, .phase⟩], none⟩) rfl (fun K hK => ?_) AllReadyH.nil
  obtain ⟨⟨z0, z1, z2, z3, z4, z5, z6, z7, z8, z9⟩, q0, q1, q2, q3, q4, q5, q6, q7, q8, q9⟩ := node_zero hOr.out
  go_simp
  obtain ⟨wn, hwn, hOx⟩ := node_stored f0 f1 f2 f3 f4 f5 f6 f7 f8 f9 hOr.out
  rw [hwn]
  have hOn := Lib.hid hOx
  clear hwn hOx
  refine hK.out _ _ ?hs17 (fun hS => ?_)
  case hs17 => exact HB.out _ _ hOn.out
  clear hK K hOr z0 z1 z2 z3 z4 z5 z6 z7 z8 z9 q0 q1 q2 q3 q4 q5 q6 q7 q8 q9
  have hOr := Lib.hid hOn.out
  clear hOn
  try simp only [Act.put, List.setIfInBounds_toArray, List.set_cons_zero, List.set_cons_succ]
  refine wpAnyH_take (i := 18) (oi := ⟨some 7, .assign (.tmp 63), 45, "blocks.go:158", #[⟨15, .data⟩, ⟨17, .chain⟩, ⟨0, .phase⟩, ⟨1, .phase⟩, ⟨2, .phase⟩, ⟨3, .phase⟩, ⟨4, .phase⟩, ⟨5, .phase⟩, ⟨6, .phase⟩, ⟨7, .phase⟩, ⟨8, .phase⟩, ⟨9, .phase⟩, ⟨10, .phase⟩, ⟨11, .phase⟩, ⟨12, .phase⟩, ⟨13, .phase⟩, ⟨14, .phase⟩, ⟨15, .phase⟩, ⟨16, .phase⟩, ⟨17, .phase⟩], none⟩) (v := ?vdbx356r10o18) rfl (by kernel_rfl) (by kernel_rfl) (by kernel_rfl) (fun _ _ _ h => h) (Or.inl ⟨by rfl, ?hdbx356r10o18⟩) hS ?_
  case hdbx356r10o18 => (intro wx hx; skip; go_simp; (try with_reducible rfl))
  try simp only [Act.put, List.setIfInBounds_toArray, List.set_cons_zero, List.set_cons_succ]
  refine wpAnyH_done (by kernel_rfl) ?_ _
  obtain ⟨z0, z1, z2, z3, z4, z5, z6, z7, z8, z9⟩ := node_have hOr.out
  go_wp2_with fail
  refine (HR1.out Y XI XB XA _ _ hOr.out).mono ?_
  rintro e w5 ⟨rfl, hO5⟩
  clear hOr hS z0 z1 z2 z3 z4 z5 z6 z7 z8 z9
  have hOr := Lib.hid hO5
  clear hO5
  have hS8 := Lib.hid (show BM XM g a b c n w5.drew ∧ NodeAt N f0 f1 f2 f3 f4 f5 f6 f7 f8 f9 w5.drew from ⟨(HB.out _ _ hOr.out).drew, (HN2.out _ _ _ _ _ _ hOr.out).keep (grown_drew (World.grownBy.refl _ _))⟩)
  have hOn := Lib.hid (hOr.out.quiet (grown_drew (World.grownBy.refl w5 none)))
  clear hOr
  have hOr := hOn
  clear hOn
  go_wp2_with fail
  refine wp_region_held_drew (S := fun w' => BM XM g a b c n w' ∧ NodeAt N f0 f1 f2 f3 f4 f5 f6 f7 f8 f9 w') (by kernel_rfl) (hS8.out) (fun hS => ?_)
  refine wpAnyH_take (i := 0) (oi := ⟨some 78, .move (.tmp 0), 82, "blocks.go:162", #[], none⟩) (v := ?vdgl456r13o0) rfl (by kernel_rfl) (by kernel_rfl) (by kernel_rfl) (fun _ _ _ h => h) (Or.inl ⟨by rfl, ?hdgl456r13o0⟩) hS ?_
  case hdgl456r13o0 => (intro wx hx; skip; go_simp; (try with_reducible rfl))
  try simp only [Act.put, List.setIfInBounds_toArray, List.set_cons_zero, List.set_cons_succ]
  refine wpAnyH_take (i := 1) (oi := ⟨some 79, .move (.tmp 8), 157, "blocks.go:162", #[], none⟩) (v := ?vdgl456r13o1) rfl (by kernel_rfl) (by kernel_rfl) (by kernel_rfl) (fun _ _ _ h => h) (Or.inl ⟨by rfl, ?hdgl456r13o1⟩) hS ?_
  case hdgl456r13o1 => (intro wx hx; skip; go_simp; (try with_reducible rfl))
  try simp only [Act.put, List.setIfInBounds_toArray, List.set_cons_zero, List.set_cons_succ]
  refine wpAnyH_take (i := 2) (oi := ⟨some 80, .move (.tmp 0), 82, "blocks.go:162", #[], none⟩) (v := ?vdgl456r13o2) rfl (by kernel_rfl) (by kernel_rfl) (by kernel_rfl) (fun _ _ _ h => h) (Or.inl ⟨by rfl, ?hdgl456r13o2⟩) hS ?_
  case hdgl456r13o2 => (intro wx hx; skip; go_simp; (try with_reducible rfl))
  try simp only [Act.put, List.setIfInBounds_toArray, List.set_cons_zero, List.set_cons_succ]
  refine wpAnyH_take (i := 4) (oi := ⟨some 82, .fieldAddr 133 (.tmp 10) 5, 0, "blocks.go:162", #[], none⟩) (v := ?vdgl456r13o4) rfl (by kernel_rfl) (by kernel_rfl) (by kernel_rfl) (fun _ _ _ h => h) (Or.inl ⟨by rfl, ?hdgl456r13o4⟩) hS ?_
  case hdgl456r13o4 => (intro wx hx; skip; go_simp; (try with_reducible rfl))
  try simp only [Act.put, List.setIfInBounds_toArray, List.set_cons_zero, List.set_cons_succ]
  refine wpAnyH_take (i := 5) (oi := ⟨some 83, .load 72 (.tmp 82), 72, "blocks.go:162", #[⟨4, .data⟩], none⟩) (v := ?vdgl456r13o5) rfl (by kernel_rfl) (by kernel_rfl) (by kernel_rfl) (fun _ _ _ h => h) (Or.inl ⟨by rfl, ?hdgl456r13o5⟩) hS ?_
  case hdgl456r13o5 => (intro wx hx; have c5 := NodeAt.chain hx.2; go_simp; (try with_reducible rfl))
  try simp only [Act.put, List.setIfInBounds_toArray, List.set_cons_zero, List.set_cons_succ]
  refine wpAnyH_take (i := 6) (oi := ⟨some 84, .convert 72 3 (.tmp 83), 3, "blocks.go:162", #[⟨5, .data⟩], none⟩) (v := ?vdgl456r13o6) rfl (by kernel_rfl) (by kernel_rfl) (by kernel_rfl) (fun _ _ _ h => h) (Or.inl ⟨by rfl, ?hdgl456r13o6⟩) hS ?_
  case hdgl456r13o6 => (intro wx hx; have c5 := NodeAt.chain hx.2; go_simp; (try with_reducible rfl))
  try simp only [Act.put, List.setIfInBounds_toArray, List.set_cons_zero, List.set_cons_succ]
  refine wpAnyH_ready (rs := [3]) (by kernel_rfl) (by simp) ?_
  refine AllReadyH.cons (o := ⟨some 81, .call { callee := Callee.value (Operand.func 95), args := #[.tmp 80, Operand.const (Value.int IntKind.i64 8)], argTypes := #[82, 3] }, 3, "blocks.go:162", #[⟨2, .data⟩], none⟩) rfl (fun K hK => ?_) AllReadyH.nil
  go_simp
  refine (HW.out _ hS.1).mono ?_
  rintro e wO ⟨rfl, hgO⟩
  have hS1 : BM XM g a b c n wO ∧ NodeAt N f0 f1 f2 f3 f4 f5 f6 f7 f8 f9 wO := ⟨hS.1.grown hgO, hS.2.keep hgO⟩
  have hOn := Lib.hid (hOr.out.quiet hgO)
  clear hOr hgO
  have hOr := hOn
  clear hOn
  refine hK.out _ _ ?hsdgl456r13o3 (fun hS => ?_)
  case hsdgl456r13o3 => (exact hS1)
  clear hK K
  try simp only [Act.put, List.setIfInBounds_toArray, List.set_cons_zero, List.set_cons_succ]
  refine wpAnyH_ready (rs := [7]) (by kernel_rfl) (by simp) ?_
  refine AllReadyH.cons (o := ⟨some 85, .call { callee := Callee.value (Operand.func 93), args := #[.tmp 78, .tmp 79, .tmp 81, .tmp 84], argTypes := #[82, 157, 3, 3] }, 45, "blocks.go:162", #[⟨0, .data⟩, ⟨1, .data⟩, ⟨3, .data⟩, ⟨6, .data⟩, ⟨3, .chain⟩], none⟩) rfl (fun K hK => ?_) AllReadyH.nil
  go_simp
  refine (HV2.out _ _ _ _ _ _ hOr.out).mono ?_
  rintro e wG ⟨rfl, hOG⟩
  have hS1 := HS2.out _ _ _ _ _ _ hOG
  refine hK.out _ _ ?hsdgl456r13o7 (fun hS => ?_)
  case hsdgl456r13o7 => (exact hS1)
  clear hK K
  try simp only [Act.put, List.setIfInBounds_toArray, List.set_cons_zero, List.set_cons_succ]
  refine wpAnyH_take (i := 8) (oi := ⟨some 4, .assign (.tmp 85), 45, "blocks.go:162", #[⟨7, .data⟩, ⟨7, .chain⟩, ⟨0, .phase⟩, ⟨1, .phase⟩, ⟨2, .phase⟩, ⟨3, .phase⟩, ⟨4, .phase⟩, ⟨5, .phase⟩, ⟨6, .phase⟩, ⟨7, .phase⟩], none⟩) (v := ?vdgl456r13o8) rfl (by kernel_rfl) (by kernel_rfl) (by kernel_rfl) (fun _ _ _ h => h) (Or.inl ⟨by rfl, ?hdgl456r13o8⟩) hS ?_
  case hdgl456r13o8 => (intro wx hx; skip; go_simp; (try with_reducible rfl))
  try simp only [Act.put, List.setIfInBounds_toArray, List.set_cons_zero, List.set_cons_succ]
  refine wpAnyH_done (by kernel_rfl) ?_ _
  have hOE := Lib.hid (HQ2.out _ _ _ _ _ _ hOG)
  clear hOG hOr hS8
  go_wp2
  go_ret
  exact ⟨rfl, hOE.out⟩
 exact AllReadyH.nil
end Go.Proofs.YtfljlmmiiccooaaGreatDoor
end
section
namespace Go.Proofs.YtfljlmmiiccooaaGreatDoor
open Go.RowKit Go.Grommet
set_option linter.unusedVariables false
structure Bst (I B : Nat) (ns : Nat → Prop) (f0 : Nat → Nat) (xs : List Nat) (L : List (Nat × Nat)) (P : Nat → Nat → Nat) : Prop where
 may : mayB ((1 : Nat) : Int) (I : Int) (B : Int) = true
 b64 : B ≤ 64
 len : xs.length = 488 + 16 * I + 8 * B
 small : ∀ n ∈ xs, n < 18446744073709551616
 wl : Wl xs.length L
 lk : Lk I B ns f0 (gotV xs L) P
 base : ∀ n, ns n → rightB ((1 : Nat) : Int) (I : Int) (B : Int) (f0 (488 + 16 * n)) (f0 (489 + 16 * n)) (f0 (490 + 16 * n)) (f0 (491 + 16 * n)) 0 0 0 0 0 (f0 (497 + 16 * n)) = true
theorem Bst.got {I B : Nat} {ns : Nat → Prop} {f0 : Nat → Nat} {xs : List Nat} {L : List (Nat × Nat)} {P : Nat → Nat → Nat} (h : Bst I B ns f0 xs L P) (a : Nat) : gotV xs L a < 18446744073709551616 := gotV_small h.small h.wl.val a
theorem gotI_in {xs : List Nat} {L : List (Nat × Nat)} {a : Nat} (h : a < xs.length) : gotI xs L (a : Int) = gotV xs L a := by
 unfold gotI
 rw [if_pos (by omega), Int.toNat_natCast]
theorem Bst.node {I B : Nat} {ns : Nat → Prop} {f0 : Nat → Nat} {xs : List Nat} {L : List (Nat × Nat)} {P : Nat → Nat → Nat} (h : Bst I B ns f0 xs L P) {n : Nat} (hn : ns n) (i : Nat) (hi : i < 10) : nodeF xs L (488 + 16 * n) i = gotV xs L (488 + 16 * n + i) := by
 have h1 := h.lk.rg n hn
 have h2 := h.len
 unfold nodeF
 rw [show ((488 + 16 * n : Nat) : Int) + (i : Int) = ((488 + 16 * n + i : Nat) : Int) by omega, gotI_in (by omega)]
theorem Bst.chain {I B : Nat} {ns : Nat → Prop} {f0 : Nat → Nat} {xs : List Nat} {L : List (Nat × Nat)} {P : Nat → Nat → Nat} (h : Bst I B ns f0 xs L P) {n : Nat} (hn : ns n) : nodeF xs L (488 + 16 * n) 8 = P n 12 := by
 rw [h.node hn 8 (by omega), ← h.lk.chn n hn]
 congr 1; omega
theorem Bst.ok {I B : Nat} {ns : Nat → Prop} {f0 : Nat → Nat} {xs : List Nat} {L : List (Nat × Nat)} {P : Nat → Nat → Nat} (h : Bst I B ns f0 xs L P) {n : Nat} (hn : ns n) : NodeOk xs L 1 I B n (488 + 16 * n) := by
 have h1 := h.lk.rg n hn
 have h2 := h.len
 have hm := mayN h.may
 refine ⟨h.may, h1.1, h1.2, by omega, by omega, by omega, ?_⟩
 have r : ∀ i, i = 0 ∨ i = 1 ∨ i = 2 ∨ i = 3 ∨ i = 9 → nodeF xs L (488 + 16 * n) i = f0 (488 + 16 * n + i) := fun i hi => by
  rw [h.node hn i (by omega)]
  refine h.lk.rest _ (by omega) (by omega) (fun n' hn' hh => ?_)
  rcases hi with rfl | rfl | rfl | rfl | rfl <;> omega
 have d : ∀ k, k < 4 → nodeF xs L (488 + 16 * n) (4 + k) = P n k := fun k hk => by
  rw [h.node hn _ (by omega), ← h.lk.dir n k hn hk]
  congr 1; omega
 have hb := h.base n hn
 rw [r 0 (by omega), r 1 (by omega), r 2 (by omega), r 3 (by omega), r 9 (by omega), h.chain hn, show nodeF xs L (488 + 16 * n) 4 = P n 0 from d 0 (by omega), show nodeF xs L (488 + 16 * n) 5 = P n 1 from d 1 (by omega), show nodeF xs L (488 + 16 * n) 6 = P n 2 from d 2 (by omega), show nodeF xs L (488 + 16 * n) 7 = P n 3 from d 3 (by omega)]
 have l0 := h.lk.lt n 0 hn (by omega)
 have l1 := h.lk.lt n 1 hn (by omega)
 have l2 := h.lk.lt n 2 hn (by omega)
 have l3 := h.lk.lt n 3 hn (by omega)
 have l12 := h.lk.lt n 12 hn (by omega)
 rw [show 488 + 16 * n + 0 = 488 + 16 * n by omega, show 488 + 16 * n + 1 = 489 + 16 * n by omega, show 488 + 16 * n + 2 = 490 + 16 * n by omega, show 488 + 16 * n + 3 = 491 + 16 * n by omega, show 488 + 16 * n + 9 = 497 + 16 * n by omega]
 unfold rightB at hb ⊢
 rw [decide_eq_true_eq] at hb ⊢
 obtain ⟨b1, b2, b3, b4, b5, b6, b7, b8, b9, b10, b11, b12, b13⟩ := hb
 exact ⟨b1, b2, b3, b4, b5, by omega, b7, b8, b9, by omega, by omega, by omega, by omega⟩
def atI (I n k C : Nat) : Int := if 4 ≤ k ∧ C = 0 then -1 else (slotA I n k C : Int)
theorem Bst.look {I B : Nat} {ns : Nat → Prop} {f0 : Nat → Nat} {xs : List Nat} {L : List (Nat × Nat)} {P : Nat → Nat → Nat} (h : Bst I B ns f0 xs L P) {n k : Nat} (hn : ns n) (hk : k < 12) {kv km XM g : Nat} {w0 : World} {Ps : List Pr} (hv : Ps[kv]? = some (viewP g xs L)) (hm : Ps[km]? = some (bmP XM g 1 I B n)) :
  LookC XM (k : Int) (atI I n k (P n 12)) (P n k : Int) 0 w0 Ps := by
 have hN := h.ok hn
 have h1 := h.lk.rg n hn
 have h2 := h.len
 have hlt := h.lk.lt n k hn (by omega)
 have hC := h.lk.lt n 12 hn (by omega)
 unfold atI slotA
 by_cases hk4 : k < 4
 ·rw [if_neg (by omega), if_pos hk4]
  have := look_dir kv km XM g 1 I B n (488 + 16 * n) xs L w0 Ps hv hm hN k (P n k) hk4 (by rw [h.node hn _ (by omega), ← h.lk.dir n k hn hk4]; congr 1; omega) hlt
  rw [show ((488 + 16 * n + 4 + k : Nat) : Int) = ((492 + 16 * n + k : Nat) : Int) by omega] at this
  exact this
 ·by_cases hz : P n 12 = 0
  ·rw [if_pos ⟨by omega, hz⟩, h.lk.ch0 n k hn hz (by omega) hk]
   exact look_none kv km XM g 1 I B n (488 + 16 * n) xs L w0 Ps hv hm hN k ⟨by omega, hk⟩ (by rw [h.chain hn, hz])
  ·rw [if_neg (by omega), if_neg hk4, if_neg (by omega)]
   exact look_chain kv km XM g 1 I B n (488 + 16 * n) xs L w0 Ps hv hm hN k (P n 12) (488 + 16 * I + 8 * P n 12 + (k - 4)) (P n k) ⟨by omega, hk⟩ (h.chain hn) ⟨by omega, hC⟩ (by omega) (by rw [gotI_in (by omega)]; exact h.lk.chd n k hn hz (by omega) hk) hlt
def needK (P : Nat → Nat → Nat) (n k : Nat) : Nat := if P n k ≠ 0 then 0 else if 4 ≤ k ∧ P n 12 = 0 then 2 else 1
theorem needV_K (P : Nat → Nat → Nat) (I n k : Nat) : needV (atI I n k (P n 12)) (P n k : Int) 0 = (needK P n k : Int) := by
 unfold needV needK atI
 by_cases h0 : P n k = 0
 ·by_cases h4 : 4 ≤ k ∧ P n 12 = 0
  ·simp [h0, h4]
  ·simp only [h0, if_neg h4]
   simp
 ·simp [h0]
theorem Bst.need {I B : Nat} {ns : Nat → Prop} {f0 : Nat → Nat} {xs : List Nat} {L : List (Nat × Nat)} {P : Nat → Nat → Nat} (h : Bst I B ns f0 xs L P) {n k : Nat} (hn : ns n) (hk : k < 12) {kv km XM g : Nat} {w0 w : World} {Ps : List Pr} (hO : Grommet.Own w0 w Ps) (hv : Ps[kv]? = some (viewP g xs L)) (hm : Ps[km]? = some (bmP XM g 1 I B n)) :
  Calls Tryz.prog 109 #[.pointer (some ⟨XM, 0, none⟩), .int .i64 (k : Int)] w fun e' w' => e' = .returned (.int .i64 (needK P n k : Int)) ∧ Grommet.Own w0 w' Ps := by
 refine bmNeed XM k _ _ 0 _ w0 w Ps hO (h.look hn hk hv hm) ?_
 exact needV_K P I n k
theorem Bst.at_ {I B : Nat} {ns : Nat → Prop} {f0 : Nat → Nat} {xs : List Nat} {L : List (Nat × Nat)} {P : Nat → Nat → Nat} (h : Bst I B ns f0 xs L P) {n k : Nat} (hn : ns n) (hk : k < 12) {kv km XM g : Nat} {w0 w : World} {Ps : List Pr} (hO : Grommet.Own w0 w Ps) (hv : Ps[kv]? = some (viewP g xs L)) (hm : Ps[km]? = some (bmP XM g 1 I B n)) :
  Calls Tryz.prog 52 #[.pointer (some ⟨XM, 0, none⟩), .int .i64 (k : Int)] w fun e' w' => e' = .returned (.tuple #[.int .i64 (P n k : Int), .int .i64 0]) ∧ Grommet.Own w0 w' Ps :=
 bmAt XM k _ _ 0 w0 w Ps hO (h.look hn hk hv hm)
def cntB (xs : List Nat) (L : List (Nat × Nat)) (B : Nat) : Nat := cntF (mbit xs L (272 + 208 * 1)) B
theorem cntB_set {xs : List Nat} {L L' : List (Nat × Nat)} {B m : Nat} (hB : B ≤ 64) (hm : m < B) (hv : gotV xs L 480 < 18446744073709551616) (hf : (gotV xs L 480).testBit m = false) (h' : gotV xs L' 480 = setB (gotV xs L 480) m true) : cntB xs L' B = cntB xs L B + 1 := by
 have e : ∀ i, i < B → mbit xs L' (272 + 208 * 1) i = if i = m then true else mbit xs L (272 + 208 * 1) i := fun i hi => by rw [mbit_480 (by omega), mbit_480 (by omega), h', setB_bit true (by omega) hv]
 have := cntF_turn (f := mbit xs L (272 + 208 * 1)) (g := fun i => if i = m then true else mbit xs L (272 + 208 * 1) i) (k := m) (fun i hi => by simp [hi]) B hm
 unfold cntB
 rw [cntF_congr B e]
 rw [mbit_480 (by omega), hf] at this
 simpa using this
theorem cntB_clr {xs : List Nat} {L L' : List (Nat × Nat)} {B m : Nat} (hB : B ≤ 64) (hm : m < B) (hv : gotV xs L 480 < 18446744073709551616) (hf : (gotV xs L 480).testBit m = true) (h' : gotV xs L' 480 = setB (gotV xs L 480) m false) : cntB xs L' B + 1 = cntB xs L B := by
 have e : ∀ i, i < B → mbit xs L' (272 + 208 * 1) i = if i = m then false else mbit xs L (272 + 208 * 1) i := fun i hi => by rw [mbit_480 (by omega), mbit_480 (by omega), h', setB_bit false (by omega) hv]
 have := cntF_turn (f := mbit xs L (272 + 208 * 1)) (g := fun i => if i = m then false else mbit xs L (272 + 208 * 1) i) (k := m) (fun i hi => by simp [hi]) B hm
 unfold cntB
 rw [cntF_congr B e]
 rw [mbit_480 (by omega), hf] at this
 simpa using this
theorem cntB_le (xs : List Nat) (L : List (Nat × Nat)) (B : Nat) : cntB xs L B ≤ B := cntF_le _ _
theorem Bst.free {I B : Nat} {ns : Nat → Prop} {f0 : Nat → Nat} {xs : List Nat} {L : List (Nat × Nat)} {P : Nat → Nat → Nat} (h : Bst I B ns f0 xs L P) (hq : cntB xs L B < B) : ∃ m : Nat, ClrR (mbit xs L (272 + 208 * 1)) B (m : Int) true ∧ m < B ∧ 1 ≤ m ∧ (gotV xs L 480).testBit m = false := by
 have h64 := h.b64
 obtain ⟨c, b, hc⟩ := clrR_ex (mbit xs L (272 + 208 * 1)) B
 rcases hc with ⟨rfl, n, rfl, hn, hf, hl⟩ | ⟨rfl, rfl, hl⟩
 ·rw [mbit_480 (by omega)] at hf
  have := (h.lk.free (by omega) hf).1
  exact ⟨n, .inl ⟨rfl, n, rfl, hn, by rw [mbit_480 (by omega)]; exact hf, hl⟩, hn, by omega, hf⟩
 ·exfalso
  have e : cntB xs L B = B := by
   unfold cntB
   rw [cntF_congr (g := fun _ => true) B hl]
   clear hl hq h h64
   induction B with
   | zero => rfl
   | succ n ih => unfold cntF; rw [ih]; rfl
  omega
theorem Bst.put {I B : Nat} {ns : Nat → Prop} {f0 : Nat → Nat} {xs : List Nat} {L : List (Nat × Nat)} {P : Nat → Nat → Nat} (h : Bst I B ns f0 xs L P) (hl : L.length ≤ 80) {n k m t : Nat} (hn : ns n) (hk : k ≤ 12) (hm : m < B) (hf : (gotV xs L 480).testBit m = false) (h0 : P n k = 0) (hc : 4 ≤ k → k < 12 → P n 12 ≠ 0) (ht : slotA I n k (P n 12) = t) :
  t < xs.length ∧ Bst I B ns f0 xs (takeL xs L 1 I B m (t : Int)) (putP P n k m) ∧ cntB xs (takeL xs L 1 I B m (t : Int)) B = cntB xs L B + 1 ∧ ∀ j, j < 8 → 488 + 16 * I + 8 * m + j ≠ t ∧ gotV xs (takeL xs L 1 I B m (t : Int)) (488 + 16 * I + 8 * m + j) = 0 ∧ ∀ i q, ns i → q < 12 → dw (gotV xs (takeL xs L 1 I B m (t : Int))) I (putP P n k m) i q j = dw (gotV xs L) I P i q j := by
 have h64 := h.b64
 have hln := h.len
 have h1 := h.lk.rg n hn
 have hC := h.lk.lt n 12 hn (by omega)
 have hfr := h.lk.free (by omega) hf
 have htl : t < xs.length ∧ (t < 488 + 16 * I ∨ (P n 12 ≠ 0 ∧ 488 + 16 * I + 8 * P n 12 ≤ t ∧ t < 488 + 16 * I + 8 * P n 12 + 8)) ∧ 488 ≤ t := by
  unfold slotA at ht
  split at ht
  ·omega
  ·split at ht
   ·omega
   ·have := hc (by omega) (by omega); omega
 have hg := fun a => got_takeL (xs := xs) (L := L) (I := I) (B := B) (m := m) (t := t) hl hm h64 (by omega) htl.1 a
 refine ⟨htl.1, ⟨h.may, h64, hln, h.small, wl_takeL h.small h.wl (by omega) htl.1, h.lk.put (h.got 480) hn hk hm h64 hf h0 hc ht hg, h.base⟩, ?_, fun j hj => ?_⟩
 ·refine cntB_set h64 hm (h.got 480) hf ?_
  rw [hg, if_neg (by omega), if_neg (by omega), if_pos rfl]
 ·have hne := hfr.2 n 12 hn (by omega)
  have : 488 + 16 * I + 8 * m + j ≠ t := by omega
  exact ⟨this, by rw [hg, if_neg this, if_pos (by omega)], fun i q hi hq => h.lk.put_dw hn hk hm h64 hf h0 hc ht hg i q j hi hq hj⟩
theorem Bst.give {I B : Nat} {ns : Nat → Prop} {f0 : Nat → Nat} {xs : List Nat} {L : List (Nat × Nat)} {P : Nat → Nat → Nat} (h : Bst I B ns f0 xs L P) (hl : L.length ≤ 90) {n k m t : Nat} (hn : ns n) (hk : k ≤ 12) (hm : P n k = m) (m0 : m ≠ 0) (hb : k = 12 → ∀ j, 4 ≤ j → j < 12 → P n j = 0) (ht : slotA I n k (P n 12) = t) :
  t < xs.length ∧ giveE xs L (272 + 208 * 1) B (m : Int) = 0 ∧ Bst I B ns f0 xs (giveBL xs L 1 B (m : Int) (t : Int)) (putP P n k 0) ∧ cntB xs (giveBL xs L 1 B (m : Int) (t : Int)) B + 1 = cntB xs L B ∧ ∀ i q j, ns i → q < 12 → j < 8 → putP P n k 0 i q ≠ 0 → dw (gotV xs (giveBL xs L 1 B (m : Int) (t : Int))) I (putP P n k 0) i q j = dw (gotV xs L) I P i q j := by
 have h64 := h.b64
 have hln := h.len
 have h1 := h.lk.rg n hn
 have hC := h.lk.lt n 12 hn (by omega)
 have hmB := h.lk.lt n k hn hk
 rw [hm] at hmB
 have hbit : (gotV xs L 480).testBit m = true := (h.lk.bit m (by omega)).2 (.inr ⟨n, k, hn, hk, hm⟩)
 have htl : t < xs.length ∧ 488 ≤ t := by
  unfold slotA at ht
  split at ht
  ·omega
  ·split at ht
   ·omega
   ·omega
 unfold giveBL
 have hg := fun a => got_giveBL (xs := xs) (L := L) (B := B) (m := m) (t := t) (by omega) hmB h64 hbit hl (by omega) htl.1 a
 refine ⟨htl.1, giveE_yes (by omega) hmB h64 hbit (by omega) (by omega), ⟨h.may, h64, hln, h.small, wl_giveBL h.small h.wl htl.1, h.lk.give (h.got 480) hn hk hm m0 h64 hb ht hg, h.base⟩, ?_, fun i q j hi hq hj hz => h.lk.give_dw hn hk ht (fun h4 h12 hz2 => m0 (by rw [← hm]; exact h.lk.ch0 n k hn hz2 h4 h12)) hg i q j hi hq hj hz⟩
 refine cntB_clr h64 hmB (h.got 480) hbit ?_
 rw [hg, if_neg (by omega), if_pos rfl]
def Br (ns : Nat → Prop) (P : Nat → Nat → Nat) : Prop := ∀ n, ns n → P n 12 ≠ 0 → ∃ k, 4 ≤ k ∧ k < 12 ∧ P n k ≠ 0
structure TakeR (I B : Nat) (ns : Nat → Prop) (f0 : Nat → Nat) (xs : List Nat) (L L' : List (Nat × Nat)) (P P' : Nat → Nat → Nat) (n k v en : Nat) : Prop where
 st : Bst I B ns f0 xs L' P'
 other : ∀ n', n' ≠ n → P' n' = P n'
 br : Br ns P → Br ns P'
 dw : ∀ i q j, ns i → q < 12 → j < 8 → dw (gotV xs L') I P' i q j = dw (gotV xs L) I P i q j
 keep : ∀ j, P n j ≠ 0 → P' n j = P n j
 only : ∀ j, j ≠ k → j ≠ 12 → P' n j = P n j
 ch : needK P n k ≠ 2 → P' n 12 = P n 12
 len : L'.length ≤ L.length + 10 * needK P n k
 way : (P n k ≠ 0 ∧ v = P n k ∧ en = 0 ∧ L' = L ∧ P' = P) ∨ (P n k = 0 ∧ B < cntB xs L B + needK P n k ∧ v = 0 ∧ en = 7 ∧ L' = L ∧ P' = P) ∨
  (P n k = 0 ∧ cntB xs L B + needK P n k ≤ B ∧ v = P' n k ∧ v ≠ 0 ∧ v < B ∧ en = 0 ∧ L'.length ≤ L.length + 20 ∧ cntB xs L' B = cntB xs L B + needK P n k ∧ nzc (P' n) = nzc (P n) + needK P n k ∧ (∀ j, j < 8 → gotV xs L' (488 + 16 * I + 8 * v + j) = 0))
theorem Bst.take {I B : Nat} {ns : Nat → Prop} {f0 : Nat → Nat} {xs : List Nat} {L : List (Nat × Nat)} {P : Nat → Nat → Nat} (h : Bst I B ns f0 xs L P) (hl : L.length ≤ 60) {n k : Nat} (hn : ns n) (hk : k < 12) {kv km XM g : Nat} {w0 w : World} {Ps : List Pr} (hO : Grommet.Own w0 w Ps) (hv : Ps[kv]? = some (viewP g xs L)) (hm : Ps[km]? = some (bmP XM g 1 I B n)) (hkm : kv ≠ km)
  (htab : Lib.TabIs Tryz.prog w0 "math/bits.deBruijn64tab" .u8 tab) :
  Calls Tryz.prog 81 #[.pointer (some ⟨XM, 0, none⟩), .int .i64 (k : Int)] w fun e w' => ∃ v en L' P', e = .returned (.tuple #[.int .i64 ((v : Nat) : Int), .int .i64 ((en : Nat) : Int)]) ∧ Grommet.Own w0 w' (Ps.set kv (viewP g xs L')) ∧ TakeR I B ns f0 xs L L' P P' n k v en := by
 have h64 := h.b64
 have hln := h.len
 have h1 := h.lk.rg n hn
 have hC := h.lk.lt n 12 hn (by omega)
 have hcl := cntB_le xs L B
 have hset : Ps.set kv (viewP g xs L) = Ps := by
  apply List.ext_getElem?
  intro i
  by_cases e : kv = i
  ·subst e; rw [List.getElem?_set_self (List.getElem?_eq_some_iff.1 hv).1, hv]
  ·rw [List.getElem?_set_ne e]
 have HL : ∀ Rs, LookC XM (k : Int) (atI I n k (P n 12)) (P n k : Int) 0 w0 (Ps ++ Rs) := fun Rs => h.look hn hk (app_old hv) (app_old hm)
 by_cases h0 : P n k = 0
 ·have hq : (B : Int) - (cntF (mbit xs L (272 + 208 * 1)) B : Int) = ((B - cntB xs L B : Nat) : Int) := by unfold cntB at hcl ⊢; omega
  rw [h0] at HL
  by_cases hsp : B < cntB xs L B + needK P n k
  ·refine (bmTake_space kv km XM g 1 I B n (488 + 16 * n) k _ (needK P n k : Int) _ xs L w0 w Ps hO hv hm (h.ok hn) HL ?_ hq (by omega)).mono ?_
   ·have := needV_K P I n k
    rw [h0] at this
    exact this
   ·rintro e w' ⟨rfl, hO'⟩
    exact ⟨0, 7, L, P, rfl, by rw [hset]; exact hO', ⟨h, fun _ _ => rfl, fun hb => hb, fun _ _ _ _ _ _ => rfl, fun _ _ => rfl, fun _ _ _ => rfl, fun _ => rfl, by omega, .inr (.inl ⟨h0, hsp, rfl, rfl, rfl, rfl⟩)⟩⟩
  ·by_cases h4 : 4 ≤ k ∧ P n 12 = 0
   ·have e2 : needK P n k = 2 := by unfold needK; rw [if_neg (by omega), if_pos h4]
    rw [e2] at hsp
    obtain ⟨m1, c1, l1, p1, f1⟩ := h.free (by omega)
    obtain ⟨t1l, hS1, n1, z1⟩ := h.put (by omega) hn (Nat.le_refl 12) l1 f1 h4.2 (by omega) rfl
    have ea : slotA I n 12 (P n 12) = 488 + 16 * n + 8 := by unfold slotA; rw [if_neg (by omega), if_pos rfl]; omega
    rw [ea] at t1l hS1 n1 z1
    obtain ⟨L1, hL1⟩ : ∃ L1, takeL xs L 1 I B m1 ((488 + 16 * n + 8 : Nat) : Int) = L1 := ⟨_, rfl⟩
    have hlen1 := takeL_len xs L 1 I B m1 ((488 + 16 * n + 8 : Nat) : Int)
    rw [hL1] at hS1 n1 z1 hlen1
    obtain ⟨m2, c2, l2, p2, f2⟩ := hS1.free (by omega)
    have e12 : putP P n 12 m1 n 12 = m1 := putP_same _ _ _ _
    have ek : putP P n 12 m1 n k = 0 := by rw [putP_ne _ _ (by omega)]; exact h0
    obtain ⟨t2l, hS2, n2, z2⟩ := hS1.put (by omega) hn (Nat.le_of_lt hk) l2 f2 ek (fun _ _ => by rw [e12]; omega) rfl
    have eb : slotA I n k (putP P n 12 m1 n 12) = 488 + 16 * I + 8 * m1 + (k - 4) := by rw [e12]; unfold slotA; rw [if_neg (by omega), if_neg (by omega)]
    rw [eb] at t2l hS2 n2 z2
    have HL' : ∀ Rs, LookC XM (k : Int) (-1) 0 0 w0 (Ps ++ Rs) := fun Rs => by
     have := HL Rs
     rwa [show atI I n k (P n 12) = -1 by unfold atI; rw [if_pos h4]] at this
    refine (bmTake_two kv km XM g 1 I B n (488 + 16 * n) m1 m2 _ (488 + 16 * I + 8 * m1 + (k - 4)) k _ xs L L1 w0 w Ps hO hv hm hkm (h.ok hn) HL' ⟨by omega, by omega⟩ hq (by omega) htab c1 l1 p1 (by omega) rfl hL1 c2 l2 p2 (by omega)).mono ?_
    rintro e w' ⟨rfl, hO'⟩
    have hlen2 := takeL_len xs L1 1 I B m2 ((488 + 16 * I + 8 * m1 + (k - 4) : Nat) : Int)
    have hne12 := (hS1.lk.free (by omega) f2).2 n 12 hn (by omega)
    rw [e12] at hne12
    refine ⟨m2, 0, _, _, rfl, hO', ⟨hS2, fun n' hn' => ?_, fun hb i hi hz => ?_, fun i q j hi hq hj => ((z2 j hj).2.2 i q hi hq).trans ((z1 j hj).2.2 i q hi hq), fun j hj => ?_, fun j h1 h2 => ?_, fun e => absurd e2 e, by omega, .inr (.inr ⟨h0, by omega, (putP_same _ _ _ _).symm, by omega, l2, rfl, by omega, by omega, ?_, fun j hj => (z2 j hj).2.1⟩)⟩⟩
    ·rw [putP_other _ _ hn', putP_other _ _ hn']
    ·by_cases e : i = n
     ·subst e
      exact ⟨k, h4.1, hk, by rw [putP_same]; omega⟩
     ·rw [putP_other _ _ e, putP_other _ _ e] at hz ⊢
      exact hb i hi hz
    ·rw [putP_ne _ _ (fun e => hj (by rw [e.2]; exact h0)), putP_ne _ _ (fun e => hj (by rw [e.2]; exact h4.2))]
    ·rw [putP_ne _ _ (fun e => h1 e.2), putP_ne _ _ (fun e => h2 e.2)]
    ·rw [nzc_put (Nat.le_of_lt hk) ek (by omega), nzc_put (Nat.le_refl _) h4.2 (by omega)]; omega
   ·have e1 : needK P n k = 1 := by unfold needK; rw [if_neg (by omega), if_neg h4]
    rw [e1] at hsp
    obtain ⟨m1, c1, l1, p1, f1⟩ := h.free (by omega)
    obtain ⟨t1l, hS1, n1, z1⟩ := h.put (by omega) hn (Nat.le_of_lt hk) l1 f1 h0 (fun h4' _ hz => h4 ⟨h4', hz⟩) rfl
    have HL' : ∀ Rs, LookC XM (k : Int) ((slotA I n k (P n 12) : Nat) : Int) 0 0 w0 (Ps ++ Rs) := fun Rs => by
     have := HL Rs
     rwa [show atI I n k (P n 12) = ((slotA I n k (P n 12) : Nat) : Int) by unfold atI; rw [if_neg h4]] at this
    refine (bmTake_one kv km XM g 1 I B n (488 + 16 * n) m1 k _ _ xs L w0 w Ps hO hv hm hkm (h.ok hn) HL' ⟨by omega, by omega⟩ hq (by omega) htab c1 l1 p1 (by omega)).mono ?_
    rintro e w' ⟨rfl, hO'⟩
    have hlen1 := takeL_len xs L 1 I B m1 ((slotA I n k (P n 12) : Nat) : Int)
    refine ⟨m1, 0, _, _, rfl, hO', ⟨hS1, fun n' hn' => putP_other _ _ hn', fun hb i hi hz => ?_, fun i q j hi hq hj => (z1 j hj).2.2 i q hi hq, fun j hj => putP_ne _ _ (fun e => hj (by rw [e.2]; exact h0)), fun j h1 h2 => putP_ne _ _ (fun e => h1 e.2), fun _ => putP_ne _ _ (fun e => by omega), by omega, .inr (.inr ⟨h0, by omega, (putP_same _ _ _ _).symm, by omega, l1, rfl, by omega, by omega, ?_, fun j hj => (z1 j hj).2.1⟩)⟩⟩
    ·by_cases e : i = n
     ·subst e
      rw [putP_ne P m1 (by omega)] at hz
      obtain ⟨q, q4, q12, qz⟩ := hb i hi hz
      by_cases eq : q = k
      ·exact ⟨q, q4, q12, by rw [eq, putP_same]; omega⟩
      ·exact ⟨q, q4, q12, by rw [putP_ne P m1 (by omega)]; exact qz⟩
     ·rw [putP_other _ _ e] at hz ⊢
      exact hb i hi hz
    ·rw [nzc_put (Nat.le_of_lt hk) h0 (by omega), e1]
 ·have HL' := HL []
  rw [List.append_nil] at HL'
  refine (bmTake_has XM k _ _ w0 w Ps hO HL' (by omega)).mono ?_
  rintro e w' ⟨rfl, hO'⟩
  exact ⟨P n k, 0, L, P, rfl, by rw [hset]; exact hO', ⟨h, fun _ _ => rfl, fun hb => hb, fun _ _ _ _ _ _ => rfl, fun _ _ => rfl, fun _ _ _ => rfl, fun _ => rfl, by omega, .inl ⟨h0, rfl, rfl, rfl, rfl⟩⟩⟩
end Go.Proofs.YtfljlmmiiccooaaGreatDoor
end
section
namespace Go.Proofs.YtfljlmmiiccooaaGreatDoor
open Go.RowKit Go.Grommet
set_option linter.unusedVariables false
theorem set_view {Ps : List Pr} {kv : Nat} {Q : Pr} (hv : Ps[kv]? = some Q) : Ps.set kv Q = Ps := by
 apply List.ext_getElem?
 intro i
 by_cases e : kv = i
 ·subst e; rw [List.getElem?_set_self (List.getElem?_eq_some_iff.1 hv).1, hv]
 ·rw [List.getElem?_set_ne e]
theorem set_left {Ps Rs : List Pr} {kv : Nat} {Q : Pr} (hv : Ps[kv]? = some Q) (R : Pr) : (Ps ++ Rs).set kv R = Ps.set kv R ++ Rs := List.set_append_left _ _ (List.getElem?_eq_some_iff.1 hv).1
structure DropR (I B : Nat) (ns : Nat → Prop) (f0 : Nat → Nat) (xs : List Nat) (L L' : List (Nat × Nat)) (P P' : Nat → Nat → Nat) (n k : Nat) : Prop where
 st : Bst I B ns f0 xs L' P'
 len : L'.length ≤ L.length + 4
 other : ∀ n', n' ≠ n → P' n' = P n'
 br : Br ns P → Br ns P'
 zero : P' n k = 0
 le : ∀ j, P' n j = P n j ∨ P' n j = 0
 cnt : cntB xs L' B + nzc (P n) = cntB xs L B + nzc (P' n)
 dw : ∀ i q j, ns i → q < 12 → j < 8 → P' i q ≠ 0 → dw (gotV xs L') I P' i q j = dw (gotV xs L) I P i q j
 only : ∀ j, j ≠ k → j < 12 → P' n j = P n j
def DropC (n k : Nat) (I B : Nat) (xs : List Nat) (L L' : List (Nat × Nat)) : Prop :=
 ∀ (kv km XM g : Nat) (w0 w : World) (Ps : List Pr), Grommet.Own w0 w Ps → Ps[kv]? = some (viewP g xs L) → Ps[km]? = some (bmP XM g 1 I B n) → kv ≠ km →
  Calls Tryz.prog 56 #[.pointer (some ⟨XM, 0, none⟩), .int .i64 (k : Int)] w fun e w' => e = .returned (.int .i64 0) ∧ Grommet.Own w0 w' (Ps.set kv (viewP g xs L'))
theorem Bst.drop {I B : Nat} {ns : Nat → Prop} {f0 : Nat → Nat} {xs : List Nat} {L : List (Nat × Nat)} {P : Nat → Nat → Nat} (h : Bst I B ns f0 xs L P) (hl : L.length ≤ 70) {n k : Nat} (hn : ns n) (hk : k < 12) :
  ∃ L' P', DropR I B ns f0 xs L L' P P' n k ∧ DropC n k I B xs L L' := by
 have h64 := h.b64
 have hln := h.len
 have h1 := h.lk.rg n hn
 have hC := h.lk.lt n 12 hn (by omega)
 have hmN := mayN h.may
 by_cases h0 : P n k = 0
 ·refine ⟨L, P, ⟨h, by omega, fun _ _ => rfl, fun hb => hb, h0, fun _ => .inl rfl, rfl, fun _ _ _ _ _ _ _ => rfl, fun _ _ _ => rfl⟩, fun kv km XM g w0 w Ps hO hv hm hkm => ?_⟩
  rw [set_view hv]
  have := h.look hn hk hv hm (w0 := w0)
  rw [h0] at this
  exact bmDrop_none XM k _ w0 w Ps hO this
 ·have hkk : 4 ≤ k → P n 12 ≠ 0 := fun h4 hz => h0 (h.lk.ch0 n k hn hz h4 hk)
  have ha : atI I n k (P n 12) = ((slotA I n k (P n 12) : Nat) : Int) := by unfold atI; rw [if_neg (fun hh => hkk hh.1 hh.2)]
  obtain ⟨tl, he, hS1, hc1, hd1⟩ := h.give (by omega) hn (Nat.le_of_lt hk) rfl h0 (fun e => by omega) rfl
  obtain ⟨L1, hL1⟩ : ∃ L1, giveBL xs L 1 B (P n k : Int) ((slotA I n k (P n 12) : Nat) : Int) = L1 := ⟨_, rfl⟩
  have hlen := len_giveBL (xs := xs) (L := L) (B := B) (m := P n k) (t := slotA I n k (P n 12))
  have hlen1 : L1.length ≤ L.length + 2 := by rw [← hL1]; exact hlen.2
  rw [hL1] at hS1 hc1 hd1
  have hz1 := nzc_give (Nat.le_of_lt hk) h0
  have e12 : putP P n k 0 n 12 = P n 12 := putP_ne _ _ (by omega)
  have hch1 := hS1.chain hn
  rw [e12] at hch1
  by_cases hz : P n 12 = 0
  ·refine ⟨L1, putP P n k 0, ⟨hS1, by omega, fun n' hn' => putP_other _ _ hn', fun hb i hi hne => ?_, putP_same _ _ _ _, fun j => ?_, by omega, hd1, fun j hj _ => putP_ne _ _ (by omega)⟩, fun kv km XM g w0 w Ps hO hv hm hkm => ?_⟩
   ·by_cases e : i = n
    ·subst e; rw [e12] at hne; exact absurd hz hne
    ·rw [putP_other _ _ e] at hne ⊢; exact hb i hi hne
   ·by_cases e : j = k
    ·subst e; exact .inr (putP_same _ _ _ _)
    ·exact .inl (putP_ne _ _ (by omega))
   ·have hlk := h.look hn hk hv hm (w0 := w0)
    rw [ha] at hlk
    exact bmDrop_plain kv km XM g 1 I B n (488 + 16 * n) k _ (P n k : Int) _ _ _ _ _ _ _ _ _ _ xs L L1 w0 w Ps hO hv hm hkm (h.ok hn) hlk (by omega) ⟨by omega, by omega⟩ he (by omega) hL1
     (fun Rs hR => get_ok0 kv g 1 I B n (488 + 16 * n) xs L1 w0 Rs hR (hS1.ok hn)) (by rw [hch1, hz])
  ·have hbl : ∀ i, i < 8 → gotI xs L1 ((488 + 16 * I + 8 * P n 12 + i : Nat) : Int) = putP P n k 0 n (4 + i) := fun i hi => by
    rw [gotI_in (by omega), ← hS1.lk.chd n (4 + i) hn (by rw [e12]; exact hz) (by omega) (by omega), e12]
    congr 1; omega
   have hbV : blockV ((1 : Nat) : Int) (I : Int) (B : Int) ((P n 12 : Nat) : Int) = ((488 + 16 * I + 8 * P n 12 : Nat) : Int) := by
    unfold blockV
    rw [if_pos ⟨h.may, by omega, by omega⟩]
    omega
   by_cases hbare : ∀ j, 4 ≤ j → j < 12 → putP P n k 0 n j = 0
   ·have e12' : putP P n k 0 n 12 ≠ 0 := by rw [e12]; exact hz
    obtain ⟨tl2, he2, hS2, hc2, hd2⟩ := hS1.give (by omega) hn (Nat.le_refl 12) rfl e12' (fun _ => hbare) rfl
    have es : slotA I n 12 (putP P n k 0 n 12) = 488 + 16 * n + 8 := by unfold slotA; rw [if_neg (by omega), if_pos rfl]; omega
    rw [es, e12] at hS2 hc2 hd2
    rw [e12] at he2
    have hlen2 := len_giveBL (xs := xs) (L := L1) (B := B) (m := P n 12) (t := 488 + 16 * n + 8)
    have hz2 := nzc_give (Nat.le_refl 12) e12'
    refine ⟨_, putP (putP P n k 0) n 12 0, ⟨hS2, ?_, fun n' hn' => by rw [putP_other _ _ hn', putP_other _ _ hn'], fun hb i hi hne => ?_, ?_, fun j => ?_, by omega, fun i q j hi hq hj hz => (hd2 i q j hi hq hj hz).trans (hd1 i q j hi hq hj (by rw [putP_ne _ _ (by omega)] at hz; exact hz)), fun j hj _ => by rw [putP_ne _ _ (by omega), putP_ne _ _ (by omega)]⟩, fun kv km XM g w0 w Ps hO hv hm hkm => ?_⟩
    ·have := hlen2.2; unfold giveBL; omega
    ·by_cases e : i = n
     ·subst e; rw [putP_same] at hne; exact absurd rfl hne
     ·rw [putP_other _ _ e, putP_other _ _ e] at hne ⊢; exact hb i hi hne
    ·rw [putP_ne _ _ (by omega), putP_same]
    ·by_cases e : j = 12
     ·subst e; exact .inr (putP_same _ _ _ _)
     ·rw [putP_ne _ _ (by omega)]
      by_cases e : j = k
      ·subst e; exact .inr (putP_same _ _ _ _)
      ·exact .inl (putP_ne _ _ (by omega))
    ·have hlk := h.look hn hk hv hm (w0 := w0)
     rw [ha] at hlk
     exact bmDrop_bare kv km XM g 1 I B n (488 + 16 * n) k _ (P n k : Int) (nodeF xs L1 (488 + 16 * n) 0) (nodeF xs L1 (488 + 16 * n) 1) (nodeF xs L1 (488 + 16 * n) 2) (nodeF xs L1 (488 + 16 * n) 3) (nodeF xs L1 (488 + 16 * n) 4) (nodeF xs L1 (488 + 16 * n) 5) (nodeF xs L1 (488 + 16 * n) 6) (nodeF xs L1 (488 + 16 * n) 7) (nodeF xs L1 (488 + 16 * n) 8) (nodeF xs L1 (488 + 16 * n) 9) xs L L1 w0 w Ps hO hv hm hkm (h.ok hn) hlk (by omega) ⟨by omega, by omega⟩ he (by omega) hL1
      (fun Rs hR => get_ok0 kv g 1 I B n (488 + 16 * n) xs L1 w0 Rs hR (hS1.ok hn)) _ (by rw [hch1, show ((488 + 16 * n : Nat) : Int) + 8 = ((488 + 16 * n + 8 : Nat) : Int) by omega]) (by rw [hch1]; exact he2) (by rw [hch1]; have := hlen2.1; omega) (by rw [hch1]; omega) (by rw [hch1]; exact hz)
      (fun Rs hR hRm wx hOx => bmBare kv km XM g 1 I B n (488 + 16 * I + 8 * P n 12) _ _ _ _ _ _ _ _ _ _ xs L1 true w0 wx Rs hOx hR hRm (by rw [hch1]; exact hz) (by rw [hch1]; omega) (by rw [hch1]; exact hbV) (by omega) ⟨fun _ => rfl, fun _ i hi => by rw [hbl i hi]; exact hbare _ (by omega) (by omega)⟩)
   ·refine ⟨L1, putP P n k 0, ⟨hS1, by omega, fun n' hn' => putP_other _ _ hn', fun hb i hi hne => ?_, putP_same _ _ _ _, fun j => ?_, by omega, hd1, fun j hj _ => putP_ne _ _ (by omega)⟩, fun kv km XM g w0 w Ps hO hv hm hkm => ?_⟩
    ·by_cases e : i = n
     ·subst e
      refine Classical.byContradiction fun hx => hbare fun j h4 h12 => Classical.byContradiction fun hj => hx ⟨j, h4, h12, hj⟩
     ·rw [putP_other _ _ e] at hne ⊢; exact hb i hi hne
    ·by_cases e : j = k
     ·subst e; exact .inr (putP_same _ _ _ _)
     ·exact .inl (putP_ne _ _ (by omega))
    ·have hlk := h.look hn hk hv hm (w0 := w0)
     rw [ha] at hlk
     exact bmDrop_kept kv km XM g 1 I B n (488 + 16 * n) k _ (P n k : Int) _ _ _ _ _ _ _ _ _ _ xs L L1 w0 w Ps hO hv hm hkm (h.ok hn) hlk (by omega) ⟨by omega, by omega⟩ he (by omega) hL1
      (fun Rs hR => get_ok0 kv g 1 I B n (488 + 16 * n) xs L1 w0 Rs hR (hS1.ok hn)) (by rw [hch1]; exact hz)
      (fun Rs hR hRm wx hOx => bmBare kv km XM g 1 I B n (488 + 16 * I + 8 * P n 12) _ _ _ _ _ _ _ _ _ _ xs L1 false w0 wx Rs hOx hR hRm (by rw [hch1]; exact hz) (by rw [hch1]; omega) (by rw [hch1]; exact hbV) (by omega) ⟨fun hall => absurd (fun j h4 h12 => by
       have := hall (j - 4) (by omega)
       rw [hbl (j - 4) (by omega), show 4 + (j - 4) = j by omega] at this
       exact this) hbare, fun e => by cases e⟩)
structure CutR (I B : Nat) (ns : Nat → Prop) (f0 : Nat → Nat) (xs : List Nat) (L L' : List (Nat × Nat)) (P P' : Nat → Nat → Nat) (n k N : Nat) : Prop where
 st : Bst I B ns f0 xs L' P'
 len : L'.length ≤ L.length + 4 * N
 other : ∀ n', n' ≠ n → P' n' = P n'
 br : Br ns P → Br ns P'
 zero : ∀ j, k ≤ j → j < 12 → P' n j = 0
 le : ∀ j, P' n j = P n j ∨ P' n j = 0
 cnt : cntB xs L' B + nzc (P n) = cntB xs L B + nzc (P' n)
 dw : ∀ i q j, ns i → q < 12 → j < 8 → P' i q ≠ 0 → dw (gotV xs L') I P' i q j = dw (gotV xs L) I P i q j
 keep : ∀ j, j < k → P' n j = P n j
theorem Bst.of {I B : Nat} {ns : Nat → Prop} {f0 : Nat → Nat} {xs : List Nat} {L : List (Nat × Nat)} {P : Nat → Nat → Nat} (h : Bst I B ns f0 xs L P) {n : Nat} (hn : ns n) {kv g : Nat} {w0 w : World} {Ps : List Pr} (hO : Grommet.Own w0 w Ps) (hv : Ps[kv]? = some (viewP g xs L)) :
  Calls Tryz.prog 74 #[.pointer (some ⟨g, 0, none⟩), gv ((1 : Nat) : Int) (I : Int) (B : Int), .int .i64 (n : Int)] w fun e w' => ∃ XM, e = .returned (.tuple #[.pointer (some ⟨XM, 0, none⟩), .int .i64 0]) ∧ Grommet.Own w0 w' (Ps ++ [bmP XM g 1 I B n]) :=
 bmOf kv g 1 I B n (488 + 16 * n) xs L w0 w Ps hO hv (h.ok hn)
theorem Bst.flat {I B : Nat} {ns : Nat → Prop} {f0 : Nat → Nat} {xs : List Nat} {L : List (Nat × Nat)} {P : Nat → Nat → Nat} (h : Bst I B ns f0 xs L P) : Bst I B ns f0 (flatV xs L) [] P ∧ cntB (flatV xs L) [] B = cntB xs L B := by
 have hln := h.len
 have hm := mayN h.may
 have h64 := h.b64
 have e : ∀ a, gotV (flatV xs L) [] a = gotV xs L a := fun a => by
  show (flatV xs L).getD a 0 = _
  by_cases ha : a < xs.length
  ·exact Go.Grommet.flat_get h.wl a ha
  ·rw [List.getD_eq_getElem?_getD, List.getElem?_eq_none (by rw [flatV_length]; omega)]
   unfold gotV
   have hf : fidx L a = none := fidx_of_not (fun p hp hpa => by have := h.wl.at_ p hp; omega)
   rw [hf]
   show 0 = xs.getD a 0
   rw [List.getD_eq_getElem?_getD, List.getElem?_eq_none (by omega)]
   rfl
 have ef : gotV (flatV xs L) [] = gotV xs L := funext e
 refine ⟨⟨h.may, h64, by rw [flatV_length]; exact hln, flatV_small h.small h.wl.val, Wl.nil _, by rw [ef]; exact h.lk, h.base⟩, ?_⟩
 unfold cntB mbit
 rw [ef]
end Go.Proofs.YtfljlmmiiccooaaGreatDoor
end
section
namespace Go.Grommet
open Go Go.RowKit
variable {F : Fence} {n : Nat} {P : Program}
def SeqPlainK {α : Type} (Kp : World → Prop) (F : Fence) (n : Nat) (P : Program) (g : Nat) (lb : Array Value) (encs : α → Array Value) (S Sp : List α → Prop) (N : List α → α → Prop) (w : World) : Prop :=
 ∀ (l : Nat) (J Jx : List α → World → Prop) (W : World), Below w.heap.size w W → (∀ pre A, J pre A → Kp A) →
  (∀ pre x A, J pre A → N pre x → YieldAt F (n - 1) P l (encs x) A fun e B => (e = .returned (.bool true) ∧ J (pre ++ [x]) B) ∨ (e = .returned (.bool false) ∧ Jx (pre ++ [x]) B)) →
  J [] W → CallsIn F n P g (#[.func (.yield l) #[] #[]] ++ lb) W fun e B => (∃ v, e = .returned v) ∧ ((∃ xs, S xs ∧ J xs B) ∨ ∃ pre, Sp pre ∧ Jx pre B)
theorem wpIn_range_plainK {α : Type} {Kp : World → Prop} {g : Operand} {ps : Array Tmp} {assign body : Code} {Q : Exit → Act → World → Prop} {a : Act} {w : World}
  (hro : F.round = none) (h1 : 1 ≤ n) {gf : Nat} {lb : Array Value} (hg : a.eval g = .func (.func gf) #[] lb) (hFg : F.fn gf) (eg : ∀ args w, (callFunc gf args).run P w = .ok (.enter gf args) w)
  {encs : α → Array Value} {S Sp : List α → Prop} {N : List α → α → Prop} {w0 : World} (hseq : SeqPlainK Kp F (n - 1) P gf lb encs S Sp N w0)
  (hb0 : Below w0.heap.size w0 w) (hps : ∀ x, (encs x).size = ps.size)
  (I : List α → World → Prop) (Ix : Code → List α → World → Prop) (hI : Calm w.heap.size I) (hIx : ∀ c, Calm w.heap.size (Ix c)) (h0 : I [] w) (a₁ : α → Act)
  (hKp : ∀ pre W, I pre W → Kp W)
  (hassign : ∀ (l : Nat) (x : α) (W : World) (K : Act → World → Prop), K (a₁ x) W → assign.wpIn (F.inRound l) (n - 1 - 1) P (Exit.then K (fun _ _ _ => False)) { tmps := (ps.zip (encs x)).foldl (fun t (p, v) => t.setIfInBounds p v) a.tmps, defers := [] } W)
  (hbody : ∀ (l : Nat) (pre : List α) (x : α) (W : World), I pre W → N pre x → ∀ lp, Book w.heap.size lp W → body.wpIn (F.inRound l) (n - 1 - 1) P (bookPost w.heap.size lp I Ix (pre ++ [x])) (a₁ x) W)
  (hdone : ∀ (D : Nat) (xs : List α) (W : World), w.heap.size ≤ D → S xs → I xs W → W.heap[D]? = some (.deferred (some [])) → Q .normal { a with defers := { target := .collected D, args := #[] } :: a.defers } W)
  (hstop : ∀ (D : Nat) (c : Code) (pre : List α) (W : World), w.heap.size ≤ D → Sp pre → Ix c pre W → W.heap[D]? = some (.deferred (some [])) → c.wpIn F n P Q { a with defers := { target := .collected D, args := #[] } :: a.defers } W) :
  (Code.rangeFunc g ps assign body).wpIn F n P Q a w := by
 obtain ⟨R, hR⟩ : ∃ R, w.heap.size = R := ⟨_, rfl⟩
 rw [hR] at hI hIx hdone hstop hbody
 refine wpIn_rangeFunc fun fn hfn => ?_
 have hlaid : ∃ W1, (Instr.enterLoop fn a.tmps ps assign body F.round).run P w = .ok (R + 1, [{ target := .collected R, args := #[] }]) W1 ∧ Book R (lpOf fn a.tmps ps assign body R .ready none) W1 ∧ I [] W1 ∧ Below w0.heap.size w0 W1 ∧ R + 2 ≤ W1.heap.size := by
  refine ⟨_, by rw [hro]; exact run_enterLoop_outer _ _ _ _ _ |>.trans (by rw [hR]), ⟨?_, ?_⟩, hI.alloc _ (hI.alloc _ h0), hb0.trans ((((Below.refl _ w).alloc (Nat.le_refl _) _).alloc (by simp) _).mono hb0.size), by simp [hR]⟩
  ·have := World.alloc_heap_new (w.alloc (.deferred (some []))) (.loop (lpOf fn a.tmps ps assign body R .ready none))
   rw [World.size_alloc, hR] at this
   exact this
  ·have := World.alloc_heap_new w (.deferred (some []))
   rw [hR] at this
   exact (Below.heap_alloc _ _ _ (by simp [hR])).trans this
 obtain ⟨W1, hent, hB1, hI1, hb1, hs1⟩ := hlaid
 refine ⟨R + 1, _, W1, { target := .fn (.func gf) lb, args := #[.func (.yield (R + 1)) #[] #[]] }, W1, gf, #[.func (.yield (R + 1)) #[] #[]] ++ lb, W1, hent, by simp only [resolve, hg]; simp [go_sem], fun f' hf' => by simp [Target.leads] at hf'; subst hf'; exact hFg, by simp [invoke, go_sem, eg], fun _ => h1, ?_⟩
 refine (hseq (R + 1) (fun pre A => I pre A ∧ Book R (lpOf fn a.tmps ps assign body R .ready none) A) (fun pre A => ∃ c, Ix c pre A ∧ Book R (lpOf fn a.tmps ps assign body R .done (some c)) A) W1 hb1 (fun pre A h => hKp pre A h.1)
  ?round ⟨hI1, hB1⟩).mono ?after
 case after =>
  rintro e B ⟨⟨v, rfl⟩, h | h⟩
  ·obtain ⟨xs, hS, hi, hk⟩ := h
   exact ⟨none, _, run_endLoop hk.lp (by intro e; cases e), hdone R xs _ (Nat.le_refl _) hS (hI.putObj _ hi (by omega) hk.lp rfl) ((hk.turn _).marks)⟩
  ·obtain ⟨pre, hS, c, hi, hk⟩ := h
   exact ⟨some c, _, run_endLoop hk.lp (by intro e; cases e), hstop R c pre _ (Nat.le_refl _) hS ((hIx c).putObj _ hi (by omega) hk.lp rfl) ((hk.turn _).marks)⟩
 case round =>
  rintro pre x A ⟨hi, hk⟩ hlen
  refine ⟨fn, _, assign, body, run_yield hk.lp (hps x), roundIn_of_wpIn hfn (hassign _ x A _ ⟨_, run_beginRound hk.lp rfl, ?_⟩)⟩
  have hk2 := hk.turn (lpOf fn a.tmps ps assign body R .busy none)
  have hi2 := hI.putObj (.loop (lpOf fn a.tmps ps assign body R .busy none)) hi (by omega) hk.lp rfl
  have hleave : ∀ {C : World} (c : Code), Book R (lpOf fn a.tmps ps assign body R .busy none) C → Ix c (pre ++ [x]) C →
    ∃ v B, (Instr.endRound (R + 1) (some c)).run P C = .ok v B ∧ ((Ending.returned v = .returned (.bool true) ∧ (I (pre ++ [x]) B ∧ Book R (lpOf fn a.tmps ps assign body R .ready none) B)) ∨ (Ending.returned v = .returned (.bool false) ∧ ∃ c, Ix c (pre ++ [x]) B ∧ Book R (lpOf fn a.tmps ps assign body R .done (some c)) B)) := fun c h hx =>
   ⟨_, _, run_endRound (some c) h.lp, .inr ⟨rfl, c, (hIx c).putObj _ hx (by omega) h.lp rfl, h.turn _⟩⟩
  refine wpIn_mono (hbody (R + 1) pre x _ hi2 hlen _ hk2) ?_
  intro e a3 C hp
  cases e with
  | normal =>
   obtain ⟨hk3, hi3⟩ := hp
   exact ⟨_, _, run_endRound none hk3.lp, .inl ⟨rfl, ⟨hI.putObj _ hi3 (by omega) hk3.lp rfl, hk3.turn _⟩⟩⟩
  | ret => exact hleave .ret hp.1 hp.2
  | exit id => exact hleave (.exit id) hp.1 hp.2
  | goto t => exact hleave (.goto t) hp.1 hp.2
  | panic ch => exact hp.elim
  | outgrown => exact hp.elim
end Go.Grommet
end
