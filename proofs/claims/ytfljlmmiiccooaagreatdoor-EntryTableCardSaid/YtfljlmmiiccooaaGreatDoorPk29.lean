import Derived.RegionIn
import Derived.Test.YtfljlmmiiccooaaGreatDoorPk27
import Derived.Test.YtfljlmmiiccooaaGreatDoorPk10
set_option maxRecDepth 100000
set_option maxHeartbeats 1000000
section
namespace Go.Proofs.YtfljlmmiiccooaaGreatDoor
open Go.RowKit Go.Grommet Go.Shelf
attribute [local go_sem] Oper.semAt_some
theorem mwords_any (w : World) (X : Nat) : Calls Tryz.prog 134 #[.pointer (some ⟨X, 0, none⟩)] w fun e w' => e = .returned (.func (.func 142) #[] #[.pointer (some ⟨w.heap.size, 0, none⟩)]) ∧ w' = w.alloc (.cells #[.pointer (some ⟨X, 0, none⟩)] 181) := by
 go_enter Tryz.func134, Tryz.ntmps134
 go_wp2
 go_ret
 exact ⟨rfl, rfl⟩
structure KeptF (K : Nat → Prop) (W W' : World) : Prop where
 size : W.heap.size ≤ W'.heap.size
 same : ∀ i, K i → W'.heap[i]? = W.heap[i]?
theorem KeptF.refl (K : Nat → Prop) (W : World) : KeptF K W W := ⟨Nat.le_refl _, fun _ _ => rfl⟩
theorem KeptF.trans {K : Nat → Prop} {A B C : World} (h : KeptF K A B) (k : KeptF K B C) : KeptF K A C := ⟨Nat.le_trans h.size k.size, fun i hi => (k.same i hi).trans (h.same i hi)⟩
theorem KeptF.put {K : Nat → Prop} {w : World} (h : ∀ i, K i → i < w.heap.size) (W : World) (l : Nat) (o o' : Obj) (hl : w.heap.size ≤ l) (_ : W.heap[l]? = some o) (_ : o.isCells = false) (_ : o.isWalk = false) : KeptF K W (W.putObj l o') :=
 ⟨by simp, fun i hi => World.putObj_heap_other (by have := h i hi; omega)⟩
theorem KeptF.of {K : Nat → Prop} {W W' : World} {row : Option Nat} (h : ∀ i, K i → i < W.heap.size ∧ some i ≠ row) (hg : W.grownBy W' row) : KeptF K W W' := ⟨hg.size, fun i hi => hg.block i (h i hi).1 (h i hi).2⟩
theorem view_kept {F : Nat → Prop} {w w' : World} {g : Nat} {xs : List Nat} {L : List (Nat × Nat)} (h : ViewIs w g F xs L) (hk : ∀ i, F i → w'.heap[i]? = w.heap[i]?) (hs : w.heap.size ≤ w'.heap.size) : ViewIs w' g F xs L := by
 obtain ⟨ws, wr, mb, h⟩ := h
 have ht : Turn (fun i => ¬ F i) w { w' with os := w.os, tape := w.tape, output := w.output } := ⟨rfl, rfl, rfl, hs, fun k _ hn => hk k (Classical.not_not.1 hn)⟩
 have h' := h.turn ht (fun i hi hn => hn hi)
 exact ⟨ws, wr, mb, h'.obj, h'.words, h'.writes, h'.num, h'.small, h'.fits, h'.good, h'.old, h'.fg, h'.fm, h'.fw, h'.fr⟩
def encW (V : Nat → Nat) (N : Nat) (x : Fin N) : Array Value := #[.int .i64 (x.1 : Int), .int .u64 (V x.1 : Int)]
theorem words_stops (d : Nat) (w : World) (bm X g a m N : Nat) (F K : Nat → Prop) (xs : List Nat) (L : List (Nat × Nat)) (hbm : w.heap[bm]? = some (.cells #[.pointer (some ⟨X, 0, none⟩)] 181 (0, 0))) (hX : w.heap[X]? = some (.cells (mapCs g a m) 193 (0, 0)))
  (hv : ViewIs w g F xs L) (hM : MapOk xs.length a m) (hN : (m - 1) / 64 + 1 = N) (hK : K bm ∧ K X ∧ ∀ i, F i → K i) :
  SeqStopsK Fence.wide d Tryz.prog 142 #[.pointer (some ⟨bm, 0, none⟩)] (encW (fun n => gotV xs L (a + n)) N) (KeptF K) (fun ys => ys = List.finRange N) (fun ys => ∃ k, k < N ∧ ys = (List.finRange N).take (k + 1)) N w := by
 intro l J Jx W hW hJ hJx hY h0
 have hbs := (Array.getElem?_eq_some_iff.1 hbm).1
 have hXs := (Array.getElem?_eq_some_iff.1 hX).1
 have hVW : ViewIs W g F xs L := view_kept hv (fun i hi => hW.block i (by obtain ⟨_, _, _, hv'⟩ := hv; exact hv'.old i hi)) hW.size
 replace hbm := (hW.block bm hbs).trans hbm
 replace hX := (hW.block X hXs).trans hX
 have HJA := Lib.hid hJ
 have HK0 : Hid (KeptF K W W) := Lib.hid (KeptF.refl K W)
 have HY := Lib.hid hY
 have HJ := Lib.hid h0
 have h1 := hM.one
 have hml := hM.lt
 have hfew := hM.few
 have hfit : a + N ≤ xs.length := by have := hM.fits; omega
 have hNs : N ≤ 1000000 := by omega
 have HW := Lib.hid (wordsOf_any m W h1 (by omega))
 rw [hN] at HW
 obtain ⟨_, _, c2⟩ := map_cells hX
 clear hW hJ hJx hY h0 hbs hXs hv hM
 refine callsIn_of_wp Tryz.func142 rfl trivial ?_ rfl
 simp only [Tryz.ntmps142, List.size_toArray, List.length_cons, List.length_nil, Nat.reduceAdd, Nat.reduceSub, Array.replicate_succ, Array.replicate_zero, List.push_toArray, List.append_toArray, List.nil_append, List.cons_append]
 have c1 : W.cell? ⟨bm, 0, none⟩ = some (.pointer (some ⟨X, 0, none⟩)) := by simp [World.cell?, hbm]
 have HR := Lib.hid (⟨hbm, hX, hVW, hK⟩ : W.heap[bm]? = some (.cells #[.pointer (some ⟨X, 0, none⟩)] 181 (0, 0)) ∧ W.heap[X]? = some (.cells (mapCs g a m) 193 (0, 0)) ∧ ViewIs W g F xs L ∧ (K bm ∧ K X ∧ ∀ i, F i → K i))
 clear hbm hX hVW hK
 gi_wp2_with fail
 refine ⟨trivial, fun h => (by cases h), (callsIn_wide.2 HW.out).mono ?_⟩
 rintro e w1 ⟨rfl, rfl⟩
 clear HW
 gi_wp2_with fail
 gi_loopw [11] (fun p wr => ∃ k : Nat, k ≤ N ∧ p = .int .i64 (k : Int) ∧ Hid (J ((List.finRange N).take k) wr ∧ KeptF K W wr)) (fun p _ => N - (intOf p).toNat)
 case atStart => exact ⟨0, Nat.zero_le _, rfl, Lib.hid ⟨HJ.out, HK0.out⟩⟩
 case round =>
  obtain ⟨k, hk, rfl, hR⟩ := hrel
  have HJr := Lib.hid hR.out.1
  have HKr := Lib.hid hR.out.2
  obtain ⟨r1, r2, r3, k1, k2, k3⟩ := HR.out
  have b1 := (HKr.out.same bm k1).trans r1
  have b2 := (HKr.out.same X k2).trans r2
  have e1 : wr.cell? ⟨bm, 0, none⟩ = some (.pointer (some ⟨X, 0, none⟩)) := by simp [World.cell?, b1]
  obtain ⟨e2, e3, _⟩ := map_cells b2
  have k0 : (0 : Int) ≤ (k : Int) := by omega
  by_cases hlt : k < N
  ·have hlt' : (k : Int) < (N : Int) := by omega
   have hN1 : Hid ((List.finRange N).take (k + 1) = (List.finRange N).take k ++ [⟨k, hlt⟩]) := Lib.hid (by
    rw [List.take_add_one]; simp [hlt])
   have hJd := HJA.out _ _ wr.drew none HJr.out (grown_drew (World.grownBy.refl _ _)) (by intro r h; cases h)
   have hy0 := HY.out _ ⟨k, hlt⟩ wr.drew hJd (by simp; omega)
   have HG := Lib.hid (Get_any g F xs L ((a + k : Nat) : Int) wr.drew (view_kept r3 (fun i hi => HKr.out.same i (k3 i hi)) HKr.out.size))
   have hin2 : 0 ≤ ((a + k : Nat) : Int) ∧ ((a + k : Nat) : Int) < (xs.length : Int) := by omega
   rw [show gotI xs L ((a + k : Nat) : Int) = gotV xs L (a + k) from by unfold gotI; rw [if_pos hin2, Int.toNat_natCast]] at HG
   unfold encW at hy0
   simp only at hy0
   obtain ⟨V, eV⟩ : ∃ V, gotV xs L (a + k) = V := ⟨_, rfl⟩
   rw [eV] at HG hy0
   have s1 : IntKind.i64.wrap ((a : Int) + (k : Int)) = ((a + k : Nat) : Int) := by rw [IntWalk.i64_in _ ⟨by omega, by omega⟩]; omega
   have s2 : (a : Int) + (k : Int) = ((a + k : Nat) : Int) := by omega
   have s3 : IntKind.i64.wrap ((a + k : Nat) : Int) = ((a + k : Nat) : Int) := IntWalk.i64_in _ ⟨by omega, by omega⟩
   obtain ⟨A, eA⟩ : ∃ A, a + k = A := ⟨_, rfl⟩
   rw [eA] at HG s1 s2 s3
   obtain ⟨fn, tmps, assign, body, hy, hR⟩ := hy0
   have wk1 : IntKind.i64.wrap ((k : Int) + 1) = (k : Int) + 1 := IntWalk.i64_in _ ⟨by omega, by omega⟩
   clear HR HJr HJ hJd r1 r2 r3 b1 b2 hin2 eV eA hN hfit
   gi_wp2_with fail
   refine wpIn_region_any (by kernel_rfl) ?_
   change wpAnyIn _ _ _ _ _ _ _ _ _ (World.drew _)
   refine wpAnyIn_take (i := 0) (oi := ⟨some 14, .move (.tmp 0), 202, "bitmap.go:95", #[], none⟩) (v := ?v0_0) rfl rfl (by kernel_rfl) (by kernel_rfl) (by kernel_rfl) (fun _ _ _ h => h) ⟨Or.inl ⟨by rfl, ?h0_0⟩, fun _ => rfl⟩ ?_
   case h0_0 => (intro w; go_simp; (try with_reducible rfl))
   try simp only [Act.put, List.setIfInBounds_toArray, List.set_cons_zero, List.set_cons_succ]
   refine wpAnyIn_take (i := 1) (oi := ⟨some 15, .move (.tmp 3), 3, "bitmap.go:95", #[], none⟩) (v := ?v1_3) rfl rfl (by kernel_rfl) (by kernel_rfl) (by kernel_rfl) (fun _ _ _ h => h) ⟨Or.inl ⟨by rfl, ?h1_3⟩, fun _ => rfl⟩ ?_
   case h1_3 => (intro w; go_simp; (try with_reducible rfl))
   try simp only [Act.put, List.setIfInBounds_toArray, List.set_cons_zero, List.set_cons_succ]
   refine wpAnyIn_take (i := 10) (oi := ⟨some 24, .move (.tmp 3), 3, "bitmap.go:95", #[], none⟩) (v := ?v10_6) rfl rfl (by kernel_rfl) (by kernel_rfl) (by kernel_rfl) (fun _ _ _ h => h) ⟨Or.inl ⟨by rfl, ?h10_6⟩, fun _ => rfl⟩ ?_
   case h10_6 => (intro w; go_simp; (try with_reducible rfl))
   try simp only [Act.put, List.setIfInBounds_toArray, List.set_cons_zero, List.set_cons_succ]
   refine wpAnyIn_ready (rs := [2, 6]) (by kernel_rfl) (by simp) ?_
   refine AllReadyIn.cons (o := ⟨some 16, .load 181 (.tmp 1), 181, "bitmap.go:95", #[], none⟩) rfl (fun K hK => ?_) ?_
   ·go_simp
    refine hK _ _ ?_; clear hK K
    try simp only [Act.put, List.setIfInBounds_toArray, List.set_cons_zero, List.set_cons_succ]
    refine wpAnyIn_take (i := 3) (oi := ⟨some 17, .nilCheck (.tmp 16), 0, "bitmap.go:95", #[⟨2, .data⟩], none⟩) (v := ?v3_14) rfl rfl (by kernel_rfl) (by kernel_rfl) (by kernel_rfl) (fun _ _ _ h => h) ⟨Or.inl ⟨by rfl, ?h3_14⟩, fun _ => rfl⟩ ?_
    case h3_14 => (intro w; go_simp; (try with_reducible rfl))
    try simp only [Act.put, List.setIfInBounds_toArray, List.set_cons_zero, List.set_cons_succ]
    refine wpAnyIn_take (i := 4) (oi := ⟨some 18, .fieldAddr 193 (.tmp 17) 0, 0, "bitmap.go:95", #[⟨3, .data⟩], none⟩) (v := ?v4_17) rfl rfl (by kernel_rfl) (by kernel_rfl) (by kernel_rfl) (fun _ _ _ h => h) ⟨Or.inl ⟨by rfl, ?h4_17⟩, fun _ => rfl⟩ ?_
    case h4_17 => (intro w; go_simp; (try with_reducible rfl))
    try simp only [Act.put, List.setIfInBounds_toArray, List.set_cons_zero, List.set_cons_succ]
    refine wpAnyIn_ready (rs := [5, 6]) (by kernel_rfl) (by simp) ?_
    refine AllReadyIn.cons (o := ⟨some 19, .load 32 (.tmp 18), 32, "bitmap.go:95", #[⟨4, .data⟩], none⟩) rfl (fun K hK => ?_) ?_
    ·go_simp
     refine hK _ _ ?_; clear hK K
     try simp only [Act.put, List.setIfInBounds_toArray, List.set_cons_zero, List.set_cons_succ]
     refine wpAnyIn_ready (rs := [6]) (by kernel_rfl) (by simp) ?_
     refine AllReadyIn.cons (o := ⟨some 20, .load 181 (.tmp 1), 181, "bitmap.go:95", #[], none⟩) rfl (fun K hK => ?_) ?_
     ·go_simp
      refine hK _ _ ?_; clear hK K
      try simp only [Act.put, List.setIfInBounds_toArray, List.set_cons_zero, List.set_cons_succ]
      refine wpAnyIn_take (i := 7) (oi := ⟨some 21, .nilCheck (.tmp 20), 0, "bitmap.go:95", #[⟨6, .data⟩], none⟩) (v := ?v7_30) rfl rfl (by kernel_rfl) (by kernel_rfl) (by kernel_rfl) (fun _ _ _ h => h) ⟨Or.inl ⟨by rfl, ?h7_30⟩, fun _ => rfl⟩ ?_
      case h7_30 => (intro w; go_simp; (try with_reducible rfl))
      try simp only [Act.put, List.setIfInBounds_toArray, List.set_cons_zero, List.set_cons_succ]
      refine wpAnyIn_take (i := 8) (oi := ⟨some 22, .fieldAddr 193 (.tmp 21) 1, 0, "bitmap.go:95", #[⟨7, .data⟩], none⟩) (v := ?v8_33) rfl rfl (by kernel_rfl) (by kernel_rfl) (by kernel_rfl) (fun _ _ _ h => h) ⟨Or.inl ⟨by rfl, ?h8_33⟩, fun _ => rfl⟩ ?_
      case h8_33 => (intro w; go_simp; (try with_reducible rfl))
      try simp only [Act.put, List.setIfInBounds_toArray, List.set_cons_zero, List.set_cons_succ]
      refine wpAnyIn_ready (rs := [9]) (by kernel_rfl) (by simp) ?_
      refine AllReadyIn.cons (o := ⟨some 23, .load 3 (.tmp 22), 3, "bitmap.go:95", #[⟨8, .data⟩], none⟩) rfl (fun K hK => ?_) ?_
      ·go_simp
       refine hK _ _ ?_; clear hK K
       try simp only [Act.put, List.setIfInBounds_toArray, List.set_cons_zero, List.set_cons_succ]
       refine wpAnyIn_take (i := 11) (oi := ⟨some 25, .binOp BinOp.add 3 (.tmp 23) (.tmp 24) 3, 3, "bitmap.go:95", #[⟨9, .data⟩, ⟨10, .data⟩], none⟩) (v := ?v11_41) rfl rfl (by kernel_rfl) (by kernel_rfl) (by kernel_rfl) (fun _ _ _ h => h) ⟨Or.inl ⟨by rfl, ?h11_41⟩, fun _ => rfl⟩ ?_
       case h11_41 => (intro w; go_simp; (try with_reducible rfl))
       try simp only [Act.put, List.setIfInBounds_toArray, List.set_cons_zero, List.set_cons_succ]
       refine wpAnyIn_ready (rs := [12]) (by kernel_rfl) (by simp) ?_
       refine AllReadyIn.cons (o := ⟨some 26, .call { callee := Callee.value (Operand.func 88), args := #[.tmp 19, .tmp 25], argTypes := #[32, 3] }, 72, "bitmap.go:95", #[⟨5, .data⟩, ⟨11, .data⟩], none⟩) rfl (fun K hK => ?_) AllReadyIn.nil
       gi_wp2_with (refine ⟨trivial, fun h => (by cases h), (callsIn_wide.2 HG.out).mono ?_⟩; rintro e w5 ⟨rfl, rfl⟩)
       refine wpAnyIn_ready (rs := [13]) (by kernel_rfl) (by simp) ?_
       refine AllReadyIn.cons (o := ⟨some 27, .call { callee := Callee.value (.tmp 14), args := #[.tmp 15, .tmp 26], argTypes := #[3, 72] }, 4, "bitmap.go:95", #[⟨0, .data⟩, ⟨1, .data⟩, ⟨12, .data⟩, ⟨12, .chain⟩], none⟩) rfl (fun K hK => ?_) AllReadyIn.nil
       go_simp
       refine ⟨fun h => (by cases h), ?_⟩
       refine hR.mono ?_
       clear hR hy HG
       rintro e W' (⟨rfl, hJ', hkp⟩ | ⟨rfl, hJx'⟩)
       ·have HJ' := Lib.hid hJ'
        have HK' := Lib.hid (HKr.out.trans ⟨hkp.size, hkp.same⟩)
        clear hJ' hkp
        refine hK _ _ ?_; clear hK K
        try simp only [Act.put, List.setIfInBounds_toArray, List.set_cons_zero, List.set_cons_succ]
        refine wpAnyIn_ready (rs := [14]) (by kernel_rfl) (by simp) ?_
        refine AllReadyIn.cons (o := ⟨some 28, .unOp UnOp.not 4 (.tmp 27), 4, "bitmap.go:95", #[⟨13, .data⟩], none⟩) rfl (fun K hK => ?_) AllReadyIn.nil
        go_simp
        refine hK _ _ ?_; clear hK K
        try simp only [Act.put, List.setIfInBounds_toArray, List.set_cons_zero, List.set_cons_succ]
        refine wpAnyIn_done (by kernel_rfl) ?_ _
        gi_wp2
        go_roundw
        case rel => exact ⟨k + 1, by omega, by go_num, Lib.hid ⟨by rw [hN1.out]; exact HJ'.out, HK'.out⟩⟩
        case measure => simp [intOf]; omega
       ·have HJ' := Lib.hid hJx'
        clear hJx'
        refine hK _ _ ?_; clear hK K
        try simp only [Act.put, List.setIfInBounds_toArray, List.set_cons_zero, List.set_cons_succ]
        refine wpAnyIn_ready (rs := [14]) (by kernel_rfl) (by simp) ?_
        refine AllReadyIn.cons (o := ⟨some 28, .unOp UnOp.not 4 (.tmp 27), 4, "bitmap.go:95", #[⟨13, .data⟩], none⟩) rfl (fun K hK => ?_) AllReadyIn.nil
        go_simp
        refine hK _ _ ?_; clear hK K
        try simp only [Act.put, List.setIfInBounds_toArray, List.set_cons_zero, List.set_cons_succ]
        refine wpAnyIn_done (by kernel_rfl) ?_ _
        gi_wp2
        refine bodyPost_ret (results_none rfl _ _ _) rfl ?_
        exact ⟨⟨_, rfl⟩, .inr ⟨_, ⟨k, hlt, rfl⟩, by rw [hN1.out]; exact HJ'.out⟩⟩
      exact AllReadyIn.nil
     exact AllReadyIn.nil
    refine AllReadyIn.cons (o := ⟨some 20, .load 181 (.tmp 1), 181, "bitmap.go:95", #[], none⟩) rfl (fun K hK => ?_) ?_
    ·go_simp
     refine hK _ _ ?_; clear hK K
     try simp only [Act.put, List.setIfInBounds_toArray, List.set_cons_zero, List.set_cons_succ]
     refine wpAnyIn_take (i := 7) (oi := ⟨some 21, .nilCheck (.tmp 20), 0, "bitmap.go:95", #[⟨6, .data⟩], none⟩) (v := ?v7_51) rfl rfl (by kernel_rfl) (by kernel_rfl) (by kernel_rfl) (fun _ _ _ h => h) ⟨Or.inl ⟨by rfl, ?h7_51⟩, fun _ => rfl⟩ ?_
     case h7_51 => (intro w; go_simp; (try with_reducible rfl))
     try simp only [Act.put, List.setIfInBounds_toArray, List.set_cons_zero, List.set_cons_succ]
     refine wpAnyIn_take (i := 8) (oi := ⟨some 22, .fieldAddr 193 (.tmp 21) 1, 0, "bitmap.go:95", #[⟨7, .data⟩], none⟩) (v := ?v8_54) rfl rfl (by kernel_rfl) (by kernel_rfl) (by kernel_rfl) (fun _ _ _ h => h) ⟨Or.inl ⟨by rfl, ?h8_54⟩, fun _ => rfl⟩ ?_
     case h8_54 => (intro w; go_simp; (try with_reducible rfl))
     try simp only [Act.put, List.setIfInBounds_toArray, List.set_cons_zero, List.set_cons_succ]
     refine wpAnyIn_ready (rs := [5, 9]) (by kernel_rfl) (by simp) ?_
     refine AllReadyIn.cons (o := ⟨some 19, .load 32 (.tmp 18), 32, "bitmap.go:95", #[⟨4, .data⟩], none⟩) rfl (fun K hK => ?_) ?_
     ·go_simp
      refine hK _ _ ?_; clear hK K
      try simp only [Act.put, List.setIfInBounds_toArray, List.set_cons_zero, List.set_cons_succ]
      refine wpAnyIn_ready (rs := [9]) (by kernel_rfl) (by simp) ?_
      refine AllReadyIn.cons (o := ⟨some 23, .load 3 (.tmp 22), 3, "bitmap.go:95", #[⟨8, .data⟩], none⟩) rfl (fun K hK => ?_) ?_
      ·go_simp
       refine hK _ _ ?_; clear hK K
       try simp only [Act.put, List.setIfInBounds_toArray, List.set_cons_zero, List.set_cons_succ]
       refine wpAnyIn_take (i := 11) (oi := ⟨some 25, .binOp BinOp.add 3 (.tmp 23) (.tmp 24) 3, 3, "bitmap.go:95", #[⟨9, .data⟩, ⟨10, .data⟩], none⟩) (v := ?v11_67) rfl rfl (by kernel_rfl) (by kernel_rfl) (by kernel_rfl) (fun _ _ _ h => h) ⟨Or.inl ⟨by rfl, ?h11_67⟩, fun _ => rfl⟩ ?_
       case h11_67 => (intro w; go_simp; (try with_reducible rfl))
       try simp only [Act.put, List.setIfInBounds_toArray, List.set_cons_zero, List.set_cons_succ]
       refine wpAnyIn_ready (rs := [12]) (by kernel_rfl) (by simp) ?_
       refine AllReadyIn.cons (o := ⟨some 26, .call { callee := Callee.value (Operand.func 88), args := #[.tmp 19, .tmp 25], argTypes := #[32, 3] }, 72, "bitmap.go:95", #[⟨5, .data⟩, ⟨11, .data⟩], none⟩) rfl (fun K hK => ?_) AllReadyIn.nil
       gi_wp2_with (refine ⟨trivial, fun h => (by cases h), (callsIn_wide.2 HG.out).mono ?_⟩; rintro e w5 ⟨rfl, rfl⟩)
       refine wpAnyIn_ready (rs := [13]) (by kernel_rfl) (by simp) ?_
       refine AllReadyIn.cons (o := ⟨some 27, .call { callee := Callee.value (.tmp 14), args := #[.tmp 15, .tmp 26], argTypes := #[3, 72] }, 4, "bitmap.go:95", #[⟨0, .data⟩, ⟨1, .data⟩, ⟨12, .data⟩, ⟨12, .chain⟩], none⟩) rfl (fun K hK => ?_) AllReadyIn.nil
       go_simp
       refine ⟨fun h => (by cases h), ?_⟩
       refine hR.mono ?_
       clear hR hy HG
       rintro e W' (⟨rfl, hJ', hkp⟩ | ⟨rfl, hJx'⟩)
       ·have HJ' := Lib.hid hJ'
        have HK' := Lib.hid (HKr.out.trans ⟨hkp.size, hkp.same⟩)
        clear hJ' hkp
        refine hK _ _ ?_; clear hK K
        try simp only [Act.put, List.setIfInBounds_toArray, List.set_cons_zero, List.set_cons_succ]
        refine wpAnyIn_ready (rs := [14]) (by kernel_rfl) (by simp) ?_
        refine AllReadyIn.cons (o := ⟨some 28, .unOp UnOp.not 4 (.tmp 27), 4, "bitmap.go:95", #[⟨13, .data⟩], none⟩) rfl (fun K hK => ?_) AllReadyIn.nil
        go_simp
        refine hK _ _ ?_; clear hK K
        try simp only [Act.put, List.setIfInBounds_toArray, List.set_cons_zero, List.set_cons_succ]
        refine wpAnyIn_done (by kernel_rfl) ?_ _
        gi_wp2
        go_roundw
        case rel => exact ⟨k + 1, by omega, by go_num, Lib.hid ⟨by rw [hN1.out]; exact HJ'.out, HK'.out⟩⟩
        case measure => simp [intOf]; omega
       ·have HJ' := Lib.hid hJx'
        clear hJx'
        refine hK _ _ ?_; clear hK K
        try simp only [Act.put, List.setIfInBounds_toArray, List.set_cons_zero, List.set_cons_succ]
        refine wpAnyIn_ready (rs := [14]) (by kernel_rfl) (by simp) ?_
        refine AllReadyIn.cons (o := ⟨some 28, .unOp UnOp.not 4 (.tmp 27), 4, "bitmap.go:95", #[⟨13, .data⟩], none⟩) rfl (fun K hK => ?_) AllReadyIn.nil
        go_simp
        refine hK _ _ ?_; clear hK K
        try simp only [Act.put, List.setIfInBounds_toArray, List.set_cons_zero, List.set_cons_succ]
        refine wpAnyIn_done (by kernel_rfl) ?_ _
        gi_wp2
        refine bodyPost_ret (results_none rfl _ _ _) rfl ?_
        exact ⟨⟨_, rfl⟩, .inr ⟨_, ⟨k, hlt, rfl⟩, by rw [hN1.out]; exact HJ'.out⟩⟩
      exact AllReadyIn.nil
     refine AllReadyIn.cons (o := ⟨some 23, .load 3 (.tmp 22), 3, "bitmap.go:95", #[⟨8, .data⟩], none⟩) rfl (fun K hK => ?_) ?_
     ·go_simp
      refine hK _ _ ?_; clear hK K
      try simp only [Act.put, List.setIfInBounds_toArray, List.set_cons_zero, List.set_cons_succ]
      refine wpAnyIn_take (i := 11) (oi := ⟨some 25, .binOp BinOp.add 3 (.tmp 23) (.tmp 24) 3, 3, "bitmap.go:95", #[⟨9, .data⟩, ⟨10, .data⟩], none⟩) (v := ?v11_76) rfl rfl (by kernel_rfl) (by kernel_rfl) (by kernel_rfl) (fun _ _ _ h => h) ⟨Or.inl ⟨by rfl, ?h11_76⟩, fun _ => rfl⟩ ?_
      case h11_76 => (intro w; go_simp; (try with_reducible rfl))
      try simp only [Act.put, List.setIfInBounds_toArray, List.set_cons_zero, List.set_cons_succ]
      refine wpAnyIn_ready (rs := [5]) (by kernel_rfl) (by simp) ?_
      refine AllReadyIn.cons (o := ⟨some 19, .load 32 (.tmp 18), 32, "bitmap.go:95", #[⟨4, .data⟩], none⟩) rfl (fun K hK => ?_) ?_
      ·go_simp
       refine hK _ _ ?_; clear hK K
       try simp only [Act.put, List.setIfInBounds_toArray, List.set_cons_zero, List.set_cons_succ]
       refine wpAnyIn_ready (rs := [12]) (by kernel_rfl) (by simp) ?_
       refine AllReadyIn.cons (o := ⟨some 26, .call { callee := Callee.value (Operand.func 88), args := #[.tmp 19, .tmp 25], argTypes := #[32, 3] }, 72, "bitmap.go:95", #[⟨5, .data⟩, ⟨11, .data⟩], none⟩) rfl (fun K hK => ?_) AllReadyIn.nil
       gi_wp2_with (refine ⟨trivial, fun h => (by cases h), (callsIn_wide.2 HG.out).mono ?_⟩; rintro e w5 ⟨rfl, rfl⟩)
       refine wpAnyIn_ready (rs := [13]) (by kernel_rfl) (by simp) ?_
       refine AllReadyIn.cons (o := ⟨some 27, .call { callee := Callee.value (.tmp 14), args := #[.tmp 15, .tmp 26], argTypes := #[3, 72] }, 4, "bitmap.go:95", #[⟨0, .data⟩, ⟨1, .data⟩, ⟨12, .data⟩, ⟨12, .chain⟩], none⟩) rfl (fun K hK => ?_) AllReadyIn.nil
       go_simp
       refine ⟨fun h => (by cases h), ?_⟩
       refine hR.mono ?_
       clear hR hy HG
       rintro e W' (⟨rfl, hJ', hkp⟩ | ⟨rfl, hJx'⟩)
       ·have HJ' := Lib.hid hJ'
        have HK' := Lib.hid (HKr.out.trans ⟨hkp.size, hkp.same⟩)
        clear hJ' hkp
        refine hK _ _ ?_; clear hK K
        try simp only [Act.put, List.setIfInBounds_toArray, List.set_cons_zero, List.set_cons_succ]
        refine wpAnyIn_ready (rs := [14]) (by kernel_rfl) (by simp) ?_
        refine AllReadyIn.cons (o := ⟨some 28, .unOp UnOp.not 4 (.tmp 27), 4, "bitmap.go:95", #[⟨13, .data⟩], none⟩) rfl (fun K hK => ?_) AllReadyIn.nil
        go_simp
        refine hK _ _ ?_; clear hK K
        try simp only [Act.put, List.setIfInBounds_toArray, List.set_cons_zero, List.set_cons_succ]
        refine wpAnyIn_done (by kernel_rfl) ?_ _
        gi_wp2
        go_roundw
        case rel => exact ⟨k + 1, by omega, by go_num, Lib.hid ⟨by rw [hN1.out]; exact HJ'.out, HK'.out⟩⟩
        case measure => simp [intOf]; omega
       ·have HJ' := Lib.hid hJx'
        clear hJx'
        refine hK _ _ ?_; clear hK K
        try simp only [Act.put, List.setIfInBounds_toArray, List.set_cons_zero, List.set_cons_succ]
        refine wpAnyIn_ready (rs := [14]) (by kernel_rfl) (by simp) ?_
        refine AllReadyIn.cons (o := ⟨some 28, .unOp UnOp.not 4 (.tmp 27), 4, "bitmap.go:95", #[⟨13, .data⟩], none⟩) rfl (fun K hK => ?_) AllReadyIn.nil
        go_simp
        refine hK _ _ ?_; clear hK K
        try simp only [Act.put, List.setIfInBounds_toArray, List.set_cons_zero, List.set_cons_succ]
        refine wpAnyIn_done (by kernel_rfl) ?_ _
        gi_wp2
        refine bodyPost_ret (results_none rfl _ _ _) rfl ?_
        exact ⟨⟨_, rfl⟩, .inr ⟨_, ⟨k, hlt, rfl⟩, by rw [hN1.out]; exact HJ'.out⟩⟩
      exact AllReadyIn.nil
     exact AllReadyIn.nil
    exact AllReadyIn.nil
   refine AllReadyIn.cons (o := ⟨some 20, .load 181 (.tmp 1), 181, "bitmap.go:95", #[], none⟩) rfl (fun K hK => ?_) ?_
   ·go_simp
    refine hK _ _ ?_; clear hK K
    try simp only [Act.put, List.setIfInBounds_toArray, List.set_cons_zero, List.set_cons_succ]
    refine wpAnyIn_take (i := 7) (oi := ⟨some 21, .nilCheck (.tmp 20), 0, "bitmap.go:95", #[⟨6, .data⟩], none⟩) (v := ?v7_92) rfl rfl (by kernel_rfl) (by kernel_rfl) (by kernel_rfl) (fun _ _ _ h => h) ⟨Or.inl ⟨by rfl, ?h7_92⟩, fun _ => rfl⟩ ?_
    case h7_92 => (intro w; go_simp; (try with_reducible rfl))
    try simp only [Act.put, List.setIfInBounds_toArray, List.set_cons_zero, List.set_cons_succ]
    refine wpAnyIn_take (i := 8) (oi := ⟨some 22, .fieldAddr 193 (.tmp 21) 1, 0, "bitmap.go:95", #[⟨7, .data⟩], none⟩) (v := ?v8_95) rfl rfl (by kernel_rfl) (by kernel_rfl) (by kernel_rfl) (fun _ _ _ h => h) ⟨Or.inl ⟨by rfl, ?h8_95⟩, fun _ => rfl⟩ ?_
    case h8_95 => (intro w; go_simp; (try with_reducible rfl))
    try simp only [Act.put, List.setIfInBounds_toArray, List.set_cons_zero, List.set_cons_succ]
    refine wpAnyIn_ready (rs := [2, 9]) (by kernel_rfl) (by simp) ?_
    refine AllReadyIn.cons (o := ⟨some 16, .load 181 (.tmp 1), 181, "bitmap.go:95", #[], none⟩) rfl (fun K hK => ?_) ?_
    ·go_simp
     refine hK _ _ ?_; clear hK K
     try simp only [Act.put, List.setIfInBounds_toArray, List.set_cons_zero, List.set_cons_succ]
     refine wpAnyIn_take (i := 3) (oi := ⟨some 17, .nilCheck (.tmp 16), 0, "bitmap.go:95", #[⟨2, .data⟩], none⟩) (v := ?v3_103) rfl rfl (by kernel_rfl) (by kernel_rfl) (by kernel_rfl) (fun _ _ _ h => h) ⟨Or.inl ⟨by rfl, ?h3_103⟩, fun _ => rfl⟩ ?_
     case h3_103 => (intro w; go_simp; (try with_reducible rfl))
     try simp only [Act.put, List.setIfInBounds_toArray, List.set_cons_zero, List.set_cons_succ]
     refine wpAnyIn_take (i := 4) (oi := ⟨some 18, .fieldAddr 193 (.tmp 17) 0, 0, "bitmap.go:95", #[⟨3, .data⟩], none⟩) (v := ?v4_106) rfl rfl (by kernel_rfl) (by kernel_rfl) (by kernel_rfl) (fun _ _ _ h => h) ⟨Or.inl ⟨by rfl, ?h4_106⟩, fun _ => rfl⟩ ?_
     case h4_106 => (intro w; go_simp; (try with_reducible rfl))
     try simp only [Act.put, List.setIfInBounds_toArray, List.set_cons_zero, List.set_cons_succ]
     refine wpAnyIn_ready (rs := [5, 9]) (by kernel_rfl) (by simp) ?_
     refine AllReadyIn.cons (o := ⟨some 19, .load 32 (.tmp 18), 32, "bitmap.go:95", #[⟨4, .data⟩], none⟩) rfl (fun K hK => ?_) ?_
     ·go_simp
      refine hK _ _ ?_; clear hK K
      try simp only [Act.put, List.setIfInBounds_toArray, List.set_cons_zero, List.set_cons_succ]
      refine wpAnyIn_ready (rs := [9]) (by kernel_rfl) (by simp) ?_
      refine AllReadyIn.cons (o := ⟨some 23, .load 3 (.tmp 22), 3, "bitmap.go:95", #[⟨8, .data⟩], none⟩) rfl (fun K hK => ?_) ?_
      ·go_simp
       refine hK _ _ ?_; clear hK K
       try simp only [Act.put, List.setIfInBounds_toArray, List.set_cons_zero, List.set_cons_succ]
       refine wpAnyIn_take (i := 11) (oi := ⟨some 25, .binOp BinOp.add 3 (.tmp 23) (.tmp 24) 3, 3, "bitmap.go:95", #[⟨9, .data⟩, ⟨10, .data⟩], none⟩) (v := ?v11_119) rfl rfl (by kernel_rfl) (by kernel_rfl) (by kernel_rfl) (fun _ _ _ h => h) ⟨Or.inl ⟨by rfl, ?h11_119⟩, fun _ => rfl⟩ ?_
       case h11_119 => (intro w; go_simp; (try with_reducible rfl))
       try simp only [Act.put, List.setIfInBounds_toArray, List.set_cons_zero, List.set_cons_succ]
       refine wpAnyIn_ready (rs := [12]) (by kernel_rfl) (by simp) ?_
       refine AllReadyIn.cons (o := ⟨some 26, .call { callee := Callee.value (Operand.func 88), args := #[.tmp 19, .tmp 25], argTypes := #[32, 3] }, 72, "bitmap.go:95", #[⟨5, .data⟩, ⟨11, .data⟩], none⟩) rfl (fun K hK => ?_) AllReadyIn.nil
       gi_wp2_with (refine ⟨trivial, fun h => (by cases h), (callsIn_wide.2 HG.out).mono ?_⟩; rintro e w5 ⟨rfl, rfl⟩)
       refine wpAnyIn_ready (rs := [13]) (by kernel_rfl) (by simp) ?_
       refine AllReadyIn.cons (o := ⟨some 27, .call { callee := Callee.value (.tmp 14), args := #[.tmp 15, .tmp 26], argTypes := #[3, 72] }, 4, "bitmap.go:95", #[⟨0, .data⟩, ⟨1, .data⟩, ⟨12, .data⟩, ⟨12, .chain⟩], none⟩) rfl (fun K hK => ?_) AllReadyIn.nil
       go_simp
       refine ⟨fun h => (by cases h), ?_⟩
       refine hR.mono ?_
       clear hR hy HG
       rintro e W' (⟨rfl, hJ', hkp⟩ | ⟨rfl, hJx'⟩)
       ·have HJ' := Lib.hid hJ'
        have HK' := Lib.hid (HKr.out.trans ⟨hkp.size, hkp.same⟩)
        clear hJ' hkp
        refine hK _ _ ?_; clear hK K
        try simp only [Act.put, List.setIfInBounds_toArray, List.set_cons_zero, List.set_cons_succ]
        refine wpAnyIn_ready (rs := [14]) (by kernel_rfl) (by simp) ?_
        refine AllReadyIn.cons (o := ⟨some 28, .unOp UnOp.not 4 (.tmp 27), 4, "bitmap.go:95", #[⟨13, .data⟩], none⟩) rfl (fun K hK => ?_) AllReadyIn.nil
        go_simp
        refine hK _ _ ?_; clear hK K
        try simp only [Act.put, List.setIfInBounds_toArray, List.set_cons_zero, List.set_cons_succ]
        refine wpAnyIn_done (by kernel_rfl) ?_ _
        gi_wp2
        go_roundw
        case rel => exact ⟨k + 1, by omega, by go_num, Lib.hid ⟨by rw [hN1.out]; exact HJ'.out, HK'.out⟩⟩
        case measure => simp [intOf]; omega
       ·have HJ' := Lib.hid hJx'
        clear hJx'
        refine hK _ _ ?_; clear hK K
        try simp only [Act.put, List.setIfInBounds_toArray, List.set_cons_zero, List.set_cons_succ]
        refine wpAnyIn_ready (rs := [14]) (by kernel_rfl) (by simp) ?_
        refine AllReadyIn.cons (o := ⟨some 28, .unOp UnOp.not 4 (.tmp 27), 4, "bitmap.go:95", #[⟨13, .data⟩], none⟩) rfl (fun K hK => ?_) AllReadyIn.nil
        go_simp
        refine hK _ _ ?_; clear hK K
        try simp only [Act.put, List.setIfInBounds_toArray, List.set_cons_zero, List.set_cons_succ]
        refine wpAnyIn_done (by kernel_rfl) ?_ _
        gi_wp2
        refine bodyPost_ret (results_none rfl _ _ _) rfl ?_
        exact ⟨⟨_, rfl⟩, .inr ⟨_, ⟨k, hlt, rfl⟩, by rw [hN1.out]; exact HJ'.out⟩⟩
      exact AllReadyIn.nil
     refine AllReadyIn.cons (o := ⟨some 23, .load 3 (.tmp 22), 3, "bitmap.go:95", #[⟨8, .data⟩], none⟩) rfl (fun K hK => ?_) ?_
     ·go_simp
      refine hK _ _ ?_; clear hK K
      try simp only [Act.put, List.setIfInBounds_toArray, List.set_cons_zero, List.set_cons_succ]
      refine wpAnyIn_take (i := 11) (oi := ⟨some 25, .binOp BinOp.add 3 (.tmp 23) (.tmp 24) 3, 3, "bitmap.go:95", #[⟨9, .data⟩, ⟨10, .data⟩], none⟩) (v := ?v11_128) rfl rfl (by kernel_rfl) (by kernel_rfl) (by kernel_rfl) (fun _ _ _ h => h) ⟨Or.inl ⟨by rfl, ?h11_128⟩, fun _ => rfl⟩ ?_
      case h11_128 => (intro w; go_simp; (try with_reducible rfl))
      try simp only [Act.put, List.setIfInBounds_toArray, List.set_cons_zero, List.set_cons_succ]
      refine wpAnyIn_ready (rs := [5]) (by kernel_rfl) (by simp) ?_
      refine AllReadyIn.cons (o := ⟨some 19, .load 32 (.tmp 18), 32, "bitmap.go:95", #[⟨4, .data⟩], none⟩) rfl (fun K hK => ?_) ?_
      ·go_simp
       refine hK _ _ ?_; clear hK K
       try simp only [Act.put, List.setIfInBounds_toArray, List.set_cons_zero, List.set_cons_succ]
       refine wpAnyIn_ready (rs := [12]) (by kernel_rfl) (by simp) ?_
       refine AllReadyIn.cons (o := ⟨some 26, .call { callee := Callee.value (Operand.func 88), args := #[.tmp 19, .tmp 25], argTypes := #[32, 3] }, 72, "bitmap.go:95", #[⟨5, .data⟩, ⟨11, .data⟩], none⟩) rfl (fun K hK => ?_) AllReadyIn.nil
       gi_wp2_with (refine ⟨trivial, fun h => (by cases h), (callsIn_wide.2 HG.out).mono ?_⟩; rintro e w5 ⟨rfl, rfl⟩)
       refine wpAnyIn_ready (rs := [13]) (by kernel_rfl) (by simp) ?_
       refine AllReadyIn.cons (o := ⟨some 27, .call { callee := Callee.value (.tmp 14), args := #[.tmp 15, .tmp 26], argTypes := #[3, 72] }, 4, "bitmap.go:95", #[⟨0, .data⟩, ⟨1, .data⟩, ⟨12, .data⟩, ⟨12, .chain⟩], none⟩) rfl (fun K hK => ?_) AllReadyIn.nil
       go_simp
       refine ⟨fun h => (by cases h), ?_⟩
       refine hR.mono ?_
       clear hR hy HG
       rintro e W' (⟨rfl, hJ', hkp⟩ | ⟨rfl, hJx'⟩)
       ·have HJ' := Lib.hid hJ'
        have HK' := Lib.hid (HKr.out.trans ⟨hkp.size, hkp.same⟩)
        clear hJ' hkp
        refine hK _ _ ?_; clear hK K
        try simp only [Act.put, List.setIfInBounds_toArray, List.set_cons_zero, List.set_cons_succ]
        refine wpAnyIn_ready (rs := [14]) (by kernel_rfl) (by simp) ?_
        refine AllReadyIn.cons (o := ⟨some 28, .unOp UnOp.not 4 (.tmp 27), 4, "bitmap.go:95", #[⟨13, .data⟩], none⟩) rfl (fun K hK => ?_) AllReadyIn.nil
        go_simp
        refine hK _ _ ?_; clear hK K
        try simp only [Act.put, List.setIfInBounds_toArray, List.set_cons_zero, List.set_cons_succ]
        refine wpAnyIn_done (by kernel_rfl) ?_ _
        gi_wp2
        go_roundw
        case rel => exact ⟨k + 1, by omega, by go_num, Lib.hid ⟨by rw [hN1.out]; exact HJ'.out, HK'.out⟩⟩
        case measure => simp [intOf]; omega
       ·have HJ' := Lib.hid hJx'
        clear hJx'
        refine hK _ _ ?_; clear hK K
        try simp only [Act.put, List.setIfInBounds_toArray, List.set_cons_zero, List.set_cons_succ]
        refine wpAnyIn_ready (rs := [14]) (by kernel_rfl) (by simp) ?_
        refine AllReadyIn.cons (o := ⟨some 28, .unOp UnOp.not 4 (.tmp 27), 4, "bitmap.go:95", #[⟨13, .data⟩], none⟩) rfl (fun K hK => ?_) AllReadyIn.nil
        go_simp
        refine hK _ _ ?_; clear hK K
        try simp only [Act.put, List.setIfInBounds_toArray, List.set_cons_zero, List.set_cons_succ]
        refine wpAnyIn_done (by kernel_rfl) ?_ _
        gi_wp2
        refine bodyPost_ret (results_none rfl _ _ _) rfl ?_
        exact ⟨⟨_, rfl⟩, .inr ⟨_, ⟨k, hlt, rfl⟩, by rw [hN1.out]; exact HJ'.out⟩⟩
      exact AllReadyIn.nil
     exact AllReadyIn.nil
    refine AllReadyIn.cons (o := ⟨some 23, .load 3 (.tmp 22), 3, "bitmap.go:95", #[⟨8, .data⟩], none⟩) rfl (fun K hK => ?_) ?_
    ·go_simp
     refine hK _ _ ?_; clear hK K
     try simp only [Act.put, List.setIfInBounds_toArray, List.set_cons_zero, List.set_cons_succ]
     refine wpAnyIn_take (i := 11) (oi := ⟨some 25, .binOp BinOp.add 3 (.tmp 23) (.tmp 24) 3, 3, "bitmap.go:95", #[⟨9, .data⟩, ⟨10, .data⟩], none⟩) (v := ?v11_143) rfl rfl (by kernel_rfl) (by kernel_rfl) (by kernel_rfl) (fun _ _ _ h => h) ⟨Or.inl ⟨by rfl, ?h11_143⟩, fun _ => rfl⟩ ?_
     case h11_143 => (intro w; go_simp; (try with_reducible rfl))
     try simp only [Act.put, List.setIfInBounds_toArray, List.set_cons_zero, List.set_cons_succ]
     refine wpAnyIn_ready (rs := [2]) (by kernel_rfl) (by simp) ?_
     refine AllReadyIn.cons (o := ⟨some 16, .load 181 (.tmp 1), 181, "bitmap.go:95", #[], none⟩) rfl (fun K hK => ?_) ?_
     ·go_simp
      refine hK _ _ ?_; clear hK K
      try simp only [Act.put, List.setIfInBounds_toArray, List.set_cons_zero, List.set_cons_succ]
      refine wpAnyIn_take (i := 3) (oi := ⟨some 17, .nilCheck (.tmp 16), 0, "bitmap.go:95", #[⟨2, .data⟩], none⟩) (v := ?v3_151) rfl rfl (by kernel_rfl) (by kernel_rfl) (by kernel_rfl) (fun _ _ _ h => h) ⟨Or.inl ⟨by rfl, ?h3_151⟩, fun _ => rfl⟩ ?_
      case h3_151 => (intro w; go_simp; (try with_reducible rfl))
      try simp only [Act.put, List.setIfInBounds_toArray, List.set_cons_zero, List.set_cons_succ]
      refine wpAnyIn_take (i := 4) (oi := ⟨some 18, .fieldAddr 193 (.tmp 17) 0, 0, "bitmap.go:95", #[⟨3, .data⟩], none⟩) (v := ?v4_154) rfl rfl (by kernel_rfl) (by kernel_rfl) (by kernel_rfl) (fun _ _ _ h => h) ⟨Or.inl ⟨by rfl, ?h4_154⟩, fun _ => rfl⟩ ?_
      case h4_154 => (intro w; go_simp; (try with_reducible rfl))
      try simp only [Act.put, List.setIfInBounds_toArray, List.set_cons_zero, List.set_cons_succ]
      refine wpAnyIn_ready (rs := [5]) (by kernel_rfl) (by simp) ?_
      refine AllReadyIn.cons (o := ⟨some 19, .load 32 (.tmp 18), 32, "bitmap.go:95", #[⟨4, .data⟩], none⟩) rfl (fun K hK => ?_) ?_
      ·go_simp
       refine hK _ _ ?_; clear hK K
       try simp only [Act.put, List.setIfInBounds_toArray, List.set_cons_zero, List.set_cons_succ]
       refine wpAnyIn_ready (rs := [12]) (by kernel_rfl) (by simp) ?_
       refine AllReadyIn.cons (o := ⟨some 26, .call { callee := Callee.value (Operand.func 88), args := #[.tmp 19, .tmp 25], argTypes := #[32, 3] }, 72, "bitmap.go:95", #[⟨5, .data⟩, ⟨11, .data⟩], none⟩) rfl (fun K hK => ?_) AllReadyIn.nil
       gi_wp2_with (refine ⟨trivial, fun h => (by cases h), (callsIn_wide.2 HG.out).mono ?_⟩; rintro e w5 ⟨rfl, rfl⟩)
       refine wpAnyIn_ready (rs := [13]) (by kernel_rfl) (by simp) ?_
       refine AllReadyIn.cons (o := ⟨some 27, .call { callee := Callee.value (.tmp 14), args := #[.tmp 15, .tmp 26], argTypes := #[3, 72] }, 4, "bitmap.go:95", #[⟨0, .data⟩, ⟨1, .data⟩, ⟨12, .data⟩, ⟨12, .chain⟩], none⟩) rfl (fun K hK => ?_) AllReadyIn.nil
       go_simp
       refine ⟨fun h => (by cases h), ?_⟩
       refine hR.mono ?_
       clear hR hy HG
       rintro e W' (⟨rfl, hJ', hkp⟩ | ⟨rfl, hJx'⟩)
       ·have HJ' := Lib.hid hJ'
        have HK' := Lib.hid (HKr.out.trans ⟨hkp.size, hkp.same⟩)
        clear hJ' hkp
        refine hK _ _ ?_; clear hK K
        try simp only [Act.put, List.setIfInBounds_toArray, List.set_cons_zero, List.set_cons_succ]
        refine wpAnyIn_ready (rs := [14]) (by kernel_rfl) (by simp) ?_
        refine AllReadyIn.cons (o := ⟨some 28, .unOp UnOp.not 4 (.tmp 27), 4, "bitmap.go:95", #[⟨13, .data⟩], none⟩) rfl (fun K hK => ?_) AllReadyIn.nil
        go_simp
        refine hK _ _ ?_; clear hK K
        try simp only [Act.put, List.setIfInBounds_toArray, List.set_cons_zero, List.set_cons_succ]
        refine wpAnyIn_done (by kernel_rfl) ?_ _
        gi_wp2
        go_roundw
        case rel => exact ⟨k + 1, by omega, by go_num, Lib.hid ⟨by rw [hN1.out]; exact HJ'.out, HK'.out⟩⟩
        case measure => simp [intOf]; omega
       ·have HJ' := Lib.hid hJx'
        clear hJx'
        refine hK _ _ ?_; clear hK K
        try simp only [Act.put, List.setIfInBounds_toArray, List.set_cons_zero, List.set_cons_succ]
        refine wpAnyIn_ready (rs := [14]) (by kernel_rfl) (by simp) ?_
        refine AllReadyIn.cons (o := ⟨some 28, .unOp UnOp.not 4 (.tmp 27), 4, "bitmap.go:95", #[⟨13, .data⟩], none⟩) rfl (fun K hK => ?_) AllReadyIn.nil
        go_simp
        refine hK _ _ ?_; clear hK K
        try simp only [Act.put, List.setIfInBounds_toArray, List.set_cons_zero, List.set_cons_succ]
        refine wpAnyIn_done (by kernel_rfl) ?_ _
        gi_wp2
        refine bodyPost_ret (results_none rfl _ _ _) rfl ?_
        exact ⟨⟨_, rfl⟩, .inr ⟨_, ⟨k, hlt, rfl⟩, by rw [hN1.out]; exact HJ'.out⟩⟩
      exact AllReadyIn.nil
     exact AllReadyIn.nil
    exact AllReadyIn.nil
   exact AllReadyIn.nil
  ·obtain rfl : k = N := by omega
   have hge : ¬ ((k : Int) < (k : Int)) := by omega
   have HJ8 := Lib.hid (show J (List.finRange k) wr by have := HJr.out; rwa [List.take_of_length_le (by simp)] at this)
   clear HJr HKr HR
   gi_wp2
   go_end0
   exact ⟨⟨_, rfl⟩, .inl HJ8.out⟩
end Go.Proofs.YtfljlmmiiccooaaGreatDoor
end
section
namespace Go.Proofs.YtfljlmmiiccooaaGreatDoor
open Go.RowKit Go.Grommet Go.Shelf
attribute [local go_sem] Oper.semAt_some
theorem wpAnyIn_via {F : Fence} {n : Nat} {P : Program} {md : Region.Mode} {ops : Array Oper} {Q : Exit → Act → World → Prop} {fuel : Nat} {listed : Array Bool} {a : Act} {w : World} {fuel' : Nat} {listed' : Array Bool} {a' : Act} {w' : World}
  (h1 : wpAnyIn F n P md ops Q fuel' listed' a' w') (h : wpAnyIn F n P md ops Q fuel' listed' a' w' → wpAnyIn F n P md ops Q fuel listed a w) : wpAnyIn F n P md ops Q fuel listed a w := h h1
def stepC (xs : List Nat) (L : List (Nat × Nat)) (a m : Nat) (s n : Nat) : Nat := s + popW (gotV xs L (a + n) &&& ownM m n)
theorem foldC_le (xs : List Nat) (L : List (Nat × Nat)) (a m : Nat) {N : Nat} : ∀ (pre : List (Fin N)) (s : Nat), pre.foldl (fun s x => stepC xs L a m s x.1) s ≤ s + 64 * pre.length
 | [], s => by simp
 | x :: pre, s => by
  rw [List.foldl_cons]
  have := foldC_le xs L a m pre (stepC xs L a m s x.1)
  have h2 : stepC xs L a m s x.1 ≤ s + 64 := by unfold stepC; have := cntF_le (gotV xs L (a + x.1) &&& ownM m x.1).testBit 64; unfold popW; omega
  rw [List.length_cons]; omega
theorem stepC_eq (xs : List Nat) (L : List (Nat × Nat)) (a m s n : Nat) : stepC xs L a m s n = s + popW (gotV xs L (a + n) &&& ownM m n) := rfl
theorem foldC_word (xs : List Nat) (L : List (Nat × Nat)) (a m N : Nat) : popW (gotV xs L (a + N) &&& ownM m N) = cntF (fun j => decide (64 * N + j < m) && mbit xs L a (64 * N + j)) 64 := by
 rw [pop_own]
 refine cntF_congr 64 (fun j hj => ?_)
 unfold mbit
 rw [show (64 * N + j) / 64 = N from by omega, show (64 * N + j) % 64 = j from by omega, Nat.mul_comm N 64]
theorem foldC_range (xs : List Nat) (L : List (Nat × Nat)) (a m N : Nat) : (List.range N).foldl (stepC xs L a m) 0 = cntF (fun i => decide (i < m) && mbit xs L a i) (64 * N) := by
 induction N with
 | zero => rfl
 | succ N ih =>
  have e := cntF_add (fun i => decide (i < m) && mbit xs L a i) (64 * N) 64
  rw [List.range_succ, List.foldl_append, ih, show 64 * (N + 1) = 64 * N + 64 from by omega, e, List.foldl_cons, List.foldl_nil, stepC_eq, foldC_word]
theorem foldC_all (xs : List Nat) (L : List (Nat × Nat)) (a m N : Nat) (h : m ≤ 64 * N) : (List.finRange N).foldl (fun s x => stepC xs L a m s x.1) 0 = cntF (mbit xs L a) m := by
 rw [← cntF_clip (mbit xs L a) m (64 * N) h, ← foldC_range]
 have : List.range N = (List.finRange N).map (·.1) := by apply List.ext_getElem <;> simp
 rw [this, List.foldl_map]
structure CntL (w : World) (X g a m : Nat) (F : Nat → Prop) (xs : List Nat) (L : List (Nat × Nat)) (s : Nat) (W : World) : Prop where
 obj : W.heap[X]? = some (.cells (mapCs g a m) 193 (0, 0))
 view : ViewIs W g F xs L
 b0 : W.heap[w.heap.size]? = some (.cells #[.pointer (some ⟨X, 0, none⟩)] 181 (0, 0))
 b1 : W.heap[w.heap.size + 1]? = some (.cells #[.int .i64 (s : Int)] 3 (0, 0))
 grown : w.grownBy W none
 size : w.heap.size + 3 ≤ W.heap.size
theorem CntL.own {w : World} {X g a m : Nat} {F : Nat → Prop} {xs : List Nat} {L : List (Nat × Nat)} (hX : X < w.heap.size) (hF : ∀ i, F i → i < w.heap.size) : OwnFrom (w.heap.size + 3) (CntL w X g a m F xs L) := by
 intro s W W' row hs hgr hr
 have hb : ∀ k, k < w.heap.size + 3 → W'.heap[k]? = W.heap[k]? := fun k hk => hgr.block _ (by have := hs.size; omega) (by intro e; have := (hr _ e.symm).1; omega)
 exact ⟨(hb _ (by omega)).trans hs.obj, view_kept hs.view (fun i hi => hb i (by have := hF i hi; omega)) hgr.size, (hb _ (by omega)).trans hs.b0, (hb _ (by omega)).trans hs.b1, grown_new hs.grown hgr (fun j e => by have := (hr j e).1; omega), Nat.le_trans hs.size hgr.size⟩
theorem CntL.step {w W : World} {X g a m : Nat} {F : Nat → Prop} {xs : List Nat} {L : List (Nat × Nat)} {s : Nat} (h : CntL w X g a m F xs L s W) (hX : X < w.heap.size) (hF : ∀ i, F i → i < w.heap.size) (t : Nat) :
  KeepsOthers W (W.setCell ⟨w.heap.size + 1, 0, none⟩ (.int .i64 (t : Int))) ∧ KeptF (fun i => i = w.heap.size + 2 ∨ i = X ∨ F i) W (W.setCell ⟨w.heap.size + 1, 0, none⟩ (.int .i64 (t : Int))) ∧ CntL w X g a m F xs L t (W.setCell ⟨w.heap.size + 1, 0, none⟩ (.int .i64 (t : Int))) := by
 have hsz := h.size
 have hg := grown_setCell W ⟨w.heap.size + 1, 0, none⟩ (.int .i64 (t : Int))
 have hb : ∀ k, k < w.heap.size + 3 → k ≠ w.heap.size + 1 → (W.setCell ⟨w.heap.size + 1, 0, none⟩ (.int .i64 (t : Int))).heap[k]? = W.heap[k]? := fun k hk hn => hg.block _ (by omega) (by simpa using hn)
 refine ⟨KeepsOthers.setCell _ _ _, KeptF.of (row := some (w.heap.size + 1)) (fun i hi => ?_) hg, (hb _ (by omega) (by omega)).trans h.obj, view_kept h.view (fun i hi => hb i (by have := hF i hi; omega) (by have := hF i hi; omega)) hg.size, (hb _ (by omega) (by omega)).trans h.b0, ?_, grown_new h.grown hg (fun j e => by cases e; exact Nat.le_succ _), Nat.le_trans h.size hg.size⟩
 ·rcases hi with rfl | rfl | hi
  ·exact ⟨by omega, by simp⟩
  ·exact ⟨by omega, by simp; omega⟩
  ·have := hF i hi; exact ⟨by omega, by simp; omega⟩
 ·have := heap_setCell_at (o := 0) h.b1 (.int .i64 (t : Int)); simpa using this
theorem MCount_any (w : World) (X g a m N : Nat) (F : Nat → Prop) (xs : List Nat) (L : List (Nat × Nat)) (hX : w.heap[X]? = some (.cells (mapCs g a m) 193 (0, 0))) (hv : ViewIs w g F xs L) (hM : MapOk xs.length a m) (hN : (m - 1) / 64 + 1 = N) :
  Calls Tryz.prog 126 #[.pointer (some ⟨X, 0, none⟩)] w fun e w' => e = .returned (.int .i64 ((cntF (mbit xs L a) m : Nat) : Int)) ∧ w.grownBy w' none := by
 obtain ⟨C, HC⟩ : ∃ C, Hid (cntF (mbit xs L a) m = C) := ⟨_, Lib.hid rfl⟩
 rw [HC.out]
 have hXs := (Array.getElem?_eq_some_iff.1 hX).1
 have hFs : ∀ i, F i → i < w.heap.size := by obtain ⟨_, _, _, h⟩ := hv; exact h.old
 have hml := hM.lt
 have hm1 := hM.one
 have hNs : N ≤ 1000000 := by omega
 have hend := Lib.hid (foldC_all xs L a m N (by omega))
 rw [HC.out] at hend
 have hsm : (∀ n ∈ xs, n < 18446744073709551616) ∧ (∀ p ∈ L, p.2 < 18446744073709551616) := by obtain ⟨_, _, _, h⟩ := hv; exact ⟨h.small, h.good.val⟩
 refine (callsIn_wide (n := 9)).1 ?_
 refine callsIn_of_wp_marks Tryz.func126 rfl trivial ?_ rfl
 simp only [Tryz.ntmps126, List.size_toArray, List.length_cons, List.length_nil, Nat.reduceAdd, Nat.reduceSub, Array.replicate_succ, Array.replicate_zero, List.push_toArray, List.append_toArray, List.nil_append, List.cons_append]
 gi_wp2_with fail
 refine ⟨trivial, (callsIn_wide.2 (mwords_any _ X)).mono ?_⟩
 rintro e w2 ⟨rfl, hw2⟩
 have hC : CntL w X g a m F xs L 0 w2 := by
  subst hw2
  have g1 := World.grownBy_alloc w (.cells #[.pointer (some ⟨X, 0, none⟩)] 181) none
  have g2 := World.grownBy_alloc (w.alloc (.cells #[.pointer (some ⟨X, 0, none⟩)] 181)) (.cells #[.int .i64 0] 3) none
  have g3 := World.grownBy_alloc ((w.alloc (.cells #[.pointer (some ⟨X, 0, none⟩)] 181)).alloc (.cells #[.int .i64 0] 3)) (.cells #[.pointer (some ⟨X, 0, none⟩)] 181) none
  have g := grown_trans (grown_trans g1 g2) g3
  refine ⟨(g.block _ hXs (by simp)).trans hX, view_kept hv (fun i hi => g.block i (hFs i hi) (by simp)) g.size, ?_, ?_, g, by simp⟩
  ·exact ((grown_trans g2 g3).block _ (by simp) (by simp)).trans (heap_alloc_new w _)
  ·have := heap_alloc_new (w.alloc (.cells #[.pointer (some ⟨X, 0, none⟩)] 181)) (.cells #[.int .i64 0] 3)
   rw [World.size_alloc] at this
   exact (g3.block _ (by simp) (by simp)).trans this
 have hbm : w2.heap[w.heap.size + 2]? = some (.cells #[.pointer (some ⟨X, 0, none⟩)] 181 (0, 0)) := by
  subst hw2
  have := heap_alloc_new ((w.alloc (.cells #[.pointer (some ⟨X, 0, none⟩)] 181)).alloc (.cells #[.int .i64 0] 3)) (.cells #[.pointer (some ⟨X, 0, none⟩)] 181)
  rw [World.size_alloc, World.size_alloc] at this
  exact this
 have hs2 : w2.heap.size = w.heap.size + 3 := by subst hw2; simp
 have eb : ((w.alloc (.cells #[.pointer (some ⟨X, 0, none⟩)] 181)).alloc (.cells #[.int .i64 0] 3)).heap.size = w.heap.size + 2 := by simp
 clear hw2 hX hv
 gi_wp2_with fail
 try rw [eb]
 generalize hB : w.heap.size = B at *
 refine wpIn_rangeFunc_ownF (α := Fin N) rfl (by omega) (gf := 142) (lb := #[.pointer (some ⟨B + 2, 0, none⟩)]) rfl trivial (enters_of Tryz.func142 (by kernel_rfl) rfl)
  (words_stops 8 w2 (B + 2) X g a m N F (fun i => i = B + 2 ∨ i = X ∨ F i) xs L hbm hC.obj hC.view hM hN ⟨.inl rfl, .inr (.inl rfl), fun i hi => .inr (.inr hi)⟩)
  (fun h k => h.trans k) (KeptF.put (fun i hi => by rcases hi with rfl | rfl | hi; omega; omega; have := hFs i hi; omega)) (Below.refl _ _) (fun _ => rfl)
  (fun (pre : List (Fin N)) W => CntL w X g a m F xs L (pre.foldl (fun s x => stepC xs L a m s x.1) 0) W) (fun _ _ _ => False) ?own (fun _ _ _ _ _ hs _ _ => hs) hC
  (fun x => { tmps := #[.pointer (some ⟨X, 0, none⟩), .pointer (some ⟨B, 0, none⟩), .int .i64 0, .pointer (some ⟨B + 1, 0, none⟩), .int .i64 (x.1 : Int), .int .u64 (gotV xs L (a + x.1) : Int), .pointer (some ⟨X, 0, none⟩), .func (.func 142) #[] #[.pointer (some ⟨B + 2, 0, none⟩)], .int .i64 (x.1 : Int), .int .u64 (gotV xs L (a + x.1) : Int), undef, undef, undef, undef, undef, undef, undef, undef, undef], defers := [] }) ?assign ?body ?done ?stop
 case own =>
  intro pre W W' row hs hg hr
  exact (CntL.own (by omega) (fun i hi => by have := hFs i hi; omega)) _ W W' row hs hg (by rw [hs2] at hr; rw [hB]; exact hr)
 case stop => intro _ _ _ _ _ _ h; exact h.elim
 case assign =>
  intro l x W K hK
  unfold encW
  gi_wp2
  exact hK
 case body =>
  rintro l pre ⟨n, hn⟩ W hL hlen
  have hfl := foldC_le xs L a m pre 0
  have hst : Hid ((pre ++ [(⟨n, hn⟩ : Fin N)]).foldl (fun s x => stepC xs L a m s x.1) 0 = stepC xs L a m (pre.foldl (fun s x => stepC xs L a m s x.1) 0) n) := Lib.hid (by rw [List.foldl_append, List.foldl_cons, List.foldl_nil])
  replace hL : CntL w X g a m F xs L (pre.foldl (fun s x => stepC xs L a m s x.1) 0) W := hL
  obtain ⟨s, es⟩ : ∃ s, pre.foldl (fun s x => stepC xs L a m s x.1) 0 = s := ⟨_, rfl⟩
  rw [es] at hL hfl hst
  have hLd : CntL w X g a m F xs L s W.drew := ⟨hL.obj, view_kept hL.view (fun _ _ => rfl) (Nat.le_refl _), hL.b0, hL.b1, grown_drew hL.grown, hL.size⟩
  have hVs := gotV_small hsm.1 hsm.2 (a + n)
  have hnm : n * 64 < m := by omega
  have HO := Lib.hid (own_any X g a m n W.drew hLd.obj (by omega) hnm)
  have hOs := ownM_small m n
  rw [stepC_eq] at hst
  obtain ⟨V, eV⟩ : ∃ V, gotV xs L (a + n) = V := ⟨_, rfl⟩
  obtain ⟨O, eO⟩ : ∃ O, ownM m n = O := ⟨_, rfl⟩
  obtain ⟨R, eR⟩ : ∃ R, V &&& O = R := ⟨_, rfl⟩
  have hRs : R < 18446744073709551616 := by rw [← eR]; rw [eV] at hVs; exact Nat.lt_of_le_of_lt Nat.and_le_left hVs
  have HP := Lib.hid (pop_any R W.drew hRs)
  have hp64 := cntF_le R.testBit 64
  rw [show cntF R.testBit 64 = popW R from rfl] at hp64
  obtain ⟨p, ep⟩ : ∃ p, popW R = p := ⟨_, rfl⟩
  rw [eO] at HO hOs hst
  rw [eV] at hVs hst
  rw [eR, ep] at hst
  rw [ep] at HP hp64
  have e3 := and_u64 V O hVs hOs R eR (V : Int) (O : Int) rfl rfl
  obtain ⟨t, et⟩ : ∃ t, s + p = t := ⟨_, rfl⟩
  rw [et] at hst
  have hs0 : s ≤ 64000000 := by omega
  have e4 : IntKind.i64.wrap ((s : Int) + (p : Int)) = (t : Int) := by rw [IntWalk.i64_in _ ⟨by omega, by omega⟩]; omega
  have st := hLd.step (by omega) (fun i hi => by have := hFs i hi; omega) t
  rw [hB] at st
  have HFIN := Lib.hid (show KeepsOthers W (W.drew.setCell ⟨B + 1, 0, none⟩ (.int .i64 (t : Int))) ∧ KeptF (fun i => i = B + 2 ∨ i = X ∨ F i) W (W.drew.setCell ⟨B + 1, 0, none⟩ (.int .i64 (t : Int))) ∧ CntL w X g a m F xs L ((pre ++ [(⟨n, hn⟩ : Fin N)]).foldl (fun s x => stepC xs L a m s x.1) 0) (W.drew.setCell ⟨B + 1, 0, none⟩ (.int .i64 (t : Int))) from
   ⟨(KeepsOthers.drew W).trans st.1, ⟨st.2.1.size, st.2.1.same⟩, by rw [hst.out]; exact st.2.2⟩)
  have b0 := hLd.b0
  have b1 := hLd.b1
  rw [hB] at b0 b1
  have c0 : W.drew.cell? ⟨B, 0, none⟩ = some (.pointer (some ⟨X, 0, none⟩)) := by simp [World.cell?] at b0 ⊢; simp [b0]
  have c1 : W.drew.cell? ⟨B + 1, 0, none⟩ = some (.int .i64 (s : Int)) := by simp [World.cell?] at b1 ⊢; simp [b1]
  have z1 : W.drew.frozen? ⟨B + 1, 0, none⟩ = false := by simp [World.frozen?] at b1 ⊢; simp [b1]
  clear st hst hL hLd b0 b1 es et eR eO hp64 hRs hOs hfl
  simp only [eV]
  clear eV hVs
  gi_wp2_with fail
  refine wpIn_region_any (by kernel_rfl) ?_
  change wpAnyIn _ _ _ _ _ _ _ _ _ (World.drew _)
  refine wpAnyIn_via (fuel' := 1) (listed' := #[true, true, true, true, true, true, true, true, false]) (a' := { tmps := #[.pointer (some ⟨X, 0, none⟩), .pointer (some ⟨B, 0, none⟩), .int .i64 0, .pointer (some ⟨B + 1, 0, none⟩), .int .i64 (n : Int), .int .u64 (V : Int), .pointer (some ⟨X, 0, none⟩), .func (.func 142) #[] #[.pointer (some ⟨B + 2, 0, none⟩)], .int .i64 (n : Int), .int .u64 (V : Int), .int .i64 (s : Int), .int .u64 (V : Int), .pointer (some ⟨X, 0, none⟩), .int .i64 (n : Int), .int .u64 (O : Int), .int .u64 (R : Int), .int .i64 (p : Int), .int .i64 (t : Int), undef], defers := [] }) (w' := W.drew) ?cHd0 (fun Hd0 => ?_)
  case cHd0 =>
   refine wpAnyIn_ready (rs := [8]) (by kernel_rfl) (by simp) ?_
   refine AllReadyIn.cons (o := ⟨none, .store 3 (.tmp 3) (.tmp 17), 0, "bitmap.go:83", #[⟨7, .data⟩, ⟨6, .chain⟩, ⟨0, .phase⟩, ⟨1, .phase⟩, ⟨2, .phase⟩, ⟨3, .phase⟩, ⟨4, .phase⟩, ⟨5, .phase⟩, ⟨6, .phase⟩, ⟨7, .phase⟩], none⟩) rfl (fun K hK => ?_) AllReadyIn.nil
   go_simp
   refine hK _ _ ?_; clear hK K
   try simp only [List.setIfInBounds_toArray, List.set_cons_zero, List.set_cons_succ]
   refine wpAnyIn_done (by kernel_rfl) ?_ _
   gi_wp2
   exact HFIN.out
  refine wpAnyIn_via (fuel' := 2) (listed' := #[true, true, true, true, true, true, true, false, false]) (a' := { tmps := #[.pointer (some ⟨X, 0, none⟩), .pointer (some ⟨B, 0, none⟩), .int .i64 0, .pointer (some ⟨B + 1, 0, none⟩), .int .i64 (n : Int), .int .u64 (V : Int), .pointer (some ⟨X, 0, none⟩), .func (.func 142) #[] #[.pointer (some ⟨B + 2, 0, none⟩)], .int .i64 (n : Int), .int .u64 (V : Int), .int .i64 (s : Int), .int .u64 (V : Int), .pointer (some ⟨X, 0, none⟩), .int .i64 (n : Int), .int .u64 (O : Int), .int .u64 (R : Int), .int .i64 (p : Int), undef, undef], defers := [] }) (w' := W.drew) ?cHd1 (fun Hd1 => ?_)
  case cHd1 =>
   refine wpAnyIn_ready (rs := [7]) (by kernel_rfl) (by simp) ?_
   refine AllReadyIn.cons (o := ⟨some 17, .binOp BinOp.add 3 (.tmp 10) (.tmp 16) 3, 3, "bitmap.go:83", #[⟨0, .data⟩, ⟨6, .data⟩], none⟩) rfl (fun K hK => ?_) ?_
   ·go_simp
    exact hK _ _ Hd0
   exact AllReadyIn.nil
  refine wpAnyIn_via (fuel' := 3) (listed' := #[true, true, true, true, true, true, false, false, false]) (a' := { tmps := #[.pointer (some ⟨X, 0, none⟩), .pointer (some ⟨B, 0, none⟩), .int .i64 0, .pointer (some ⟨B + 1, 0, none⟩), .int .i64 (n : Int), .int .u64 (V : Int), .pointer (some ⟨X, 0, none⟩), .func (.func 142) #[] #[.pointer (some ⟨B + 2, 0, none⟩)], .int .i64 (n : Int), .int .u64 (V : Int), .int .i64 (s : Int), .int .u64 (V : Int), .pointer (some ⟨X, 0, none⟩), .int .i64 (n : Int), .int .u64 (O : Int), .int .u64 (R : Int), undef, undef, undef], defers := [] }) (w' := W.drew) ?cHd2 (fun Hd2 => ?_)
  case cHd2 =>
   refine wpAnyIn_ready (rs := [6]) (by kernel_rfl) (by simp) ?_
   refine AllReadyIn.cons (o := ⟨some 16, .call { callee := Callee.value (Operand.func 135), args := #[.tmp 15], argTypes := #[72] }, 3, "bitmap.go:83", #[⟨5, .data⟩, ⟨4, .chain⟩], none⟩) rfl (fun K hK => ?_) ?_
   ·go_simp
    refine ⟨trivial, (CallsIn.inRound l (callsIn_wide.2 HP.out)).mono ?_⟩
    rintro e w5 ⟨rfl, rfl⟩
    exact hK _ _ Hd1
   exact AllReadyIn.nil
  refine wpAnyIn_via (fuel' := 4) (listed' := #[true, true, true, true, true, false, false, false, false]) (a' := { tmps := #[.pointer (some ⟨X, 0, none⟩), .pointer (some ⟨B, 0, none⟩), .int .i64 0, .pointer (some ⟨B + 1, 0, none⟩), .int .i64 (n : Int), .int .u64 (V : Int), .pointer (some ⟨X, 0, none⟩), .func (.func 142) #[] #[.pointer (some ⟨B + 2, 0, none⟩)], .int .i64 (n : Int), .int .u64 (V : Int), .int .i64 (s : Int), .int .u64 (V : Int), .pointer (some ⟨X, 0, none⟩), .int .i64 (n : Int), .int .u64 (O : Int), undef, undef, undef, undef], defers := [] }) (w' := W.drew) ?cHd3 (fun Hd3 => ?_)
  case cHd3 =>
   refine wpAnyIn_ready (rs := [5]) (by kernel_rfl) (by simp) ?_
   refine AllReadyIn.cons (o := ⟨some 15, .binOp BinOp.and 72 (.tmp 11) (.tmp 14) 72, 72, "bitmap.go:83", #[⟨1, .data⟩, ⟨4, .data⟩], none⟩) rfl (fun K hK => ?_) ?_
   ·go_simp
    exact hK _ _ Hd2
   exact AllReadyIn.nil
  refine wpAnyIn_via (fuel' := 5) (listed' := #[true, true, true, true, false, false, false, false, false]) (a' := { tmps := #[.pointer (some ⟨X, 0, none⟩), .pointer (some ⟨B, 0, none⟩), .int .i64 0, .pointer (some ⟨B + 1, 0, none⟩), .int .i64 (n : Int), .int .u64 (V : Int), .pointer (some ⟨X, 0, none⟩), .func (.func 142) #[] #[.pointer (some ⟨B + 2, 0, none⟩)], .int .i64 (n : Int), .int .u64 (V : Int), .int .i64 (s : Int), .int .u64 (V : Int), .pointer (some ⟨X, 0, none⟩), .int .i64 (n : Int), undef, undef, undef, undef, undef], defers := [] }) (w' := W.drew) ?cHd4 (fun Hd4 => ?_)
  case cHd4 =>
   refine wpAnyIn_ready (rs := [4]) (by kernel_rfl) (by simp) ?_
   refine AllReadyIn.cons (o := ⟨some 14, .call { callee := Callee.value (Operand.func 136), args := #[.tmp 12, .tmp 13], argTypes := #[181, 3] }, 72, "bitmap.go:83", #[⟨2, .data⟩, ⟨3, .data⟩], none⟩) rfl (fun K hK => ?_) ?_
   ·go_simp
    refine ⟨trivial, (CallsIn.inRound l (callsIn_wide.2 HO.out)).mono ?_⟩
    rintro e w5 ⟨rfl, rfl⟩
    exact hK _ _ Hd3
   exact AllReadyIn.nil
  refine wpAnyIn_via (fuel' := 6) (listed' := #[true, true, true, false, false, false, false, false, false]) (a' := { tmps := #[.pointer (some ⟨X, 0, none⟩), .pointer (some ⟨B, 0, none⟩), .int .i64 0, .pointer (some ⟨B + 1, 0, none⟩), .int .i64 (n : Int), .int .u64 (V : Int), .pointer (some ⟨X, 0, none⟩), .func (.func 142) #[] #[.pointer (some ⟨B + 2, 0, none⟩)], .int .i64 (n : Int), .int .u64 (V : Int), .int .i64 (s : Int), .int .u64 (V : Int), .pointer (some ⟨X, 0, none⟩), undef, undef, undef, undef, undef, undef], defers := [] }) (w' := W.drew) ?cHd5 (fun Hd5 => ?_)
  case cHd5 =>
   refine wpAnyIn_ready (rs := [3]) (by kernel_rfl) (by simp) ?_
   refine AllReadyIn.cons (o := ⟨some 13, .move (.tmp 4), 3, "bitmap.go:83", #[], none⟩) rfl (fun K hK => ?_) ?_
   ·go_simp
    exact hK _ _ Hd4
   exact AllReadyIn.nil
  refine wpAnyIn_via (fuel' := 6) (listed' := #[true, true, false, true, false, false, false, false, false]) (a' := { tmps := #[.pointer (some ⟨X, 0, none⟩), .pointer (some ⟨B, 0, none⟩), .int .i64 0, .pointer (some ⟨B + 1, 0, none⟩), .int .i64 (n : Int), .int .u64 (V : Int), .pointer (some ⟨X, 0, none⟩), .func (.func 142) #[] #[.pointer (some ⟨B + 2, 0, none⟩)], .int .i64 (n : Int), .int .u64 (V : Int), .int .i64 (s : Int), .int .u64 (V : Int), undef, .int .i64 (n : Int), undef, undef, undef, undef, undef], defers := [] }) (w' := W.drew) ?cHd6 (fun Hd6 => ?_)
  case cHd6 =>
   refine wpAnyIn_ready (rs := [2]) (by kernel_rfl) (by simp) ?_
   refine AllReadyIn.cons (o := ⟨some 12, .load 181 (.tmp 1), 181, "bitmap.go:83", #[], none⟩) rfl (fun K hK => ?_) ?_
   ·go_simp
    exact hK _ _ Hd4
   exact AllReadyIn.nil
  refine wpAnyIn_via (fuel' := 7) (listed' := #[true, true, false, false, false, false, false, false, false]) (a' := { tmps := #[.pointer (some ⟨X, 0, none⟩), .pointer (some ⟨B, 0, none⟩), .int .i64 0, .pointer (some ⟨B + 1, 0, none⟩), .int .i64 (n : Int), .int .u64 (V : Int), .pointer (some ⟨X, 0, none⟩), .func (.func 142) #[] #[.pointer (some ⟨B + 2, 0, none⟩)], .int .i64 (n : Int), .int .u64 (V : Int), .int .i64 (s : Int), .int .u64 (V : Int), undef, undef, undef, undef, undef, undef, undef], defers := [] }) (w' := W.drew) ?cHd7 (fun Hd7 => ?_)
  case cHd7 =>
   refine wpAnyIn_ready (rs := [2, 3]) (by kernel_rfl) (by simp) ?_
   refine AllReadyIn.cons (o := ⟨some 12, .load 181 (.tmp 1), 181, "bitmap.go:83", #[], none⟩) rfl (fun K hK => ?_) ?_
   ·go_simp
    exact hK _ _ Hd5
   refine AllReadyIn.cons (o := ⟨some 13, .move (.tmp 4), 3, "bitmap.go:83", #[], none⟩) rfl (fun K hK => ?_) ?_
   ·go_simp
    exact hK _ _ Hd6
   exact AllReadyIn.nil
  refine wpAnyIn_via (fuel' := 5) (listed' := #[true, false, true, true, true, false, false, false, false]) (a' := { tmps := #[.pointer (some ⟨X, 0, none⟩), .pointer (some ⟨B, 0, none⟩), .int .i64 0, .pointer (some ⟨B + 1, 0, none⟩), .int .i64 (n : Int), .int .u64 (V : Int), .pointer (some ⟨X, 0, none⟩), .func (.func 142) #[] #[.pointer (some ⟨B + 2, 0, none⟩)], .int .i64 (n : Int), .int .u64 (V : Int), .int .i64 (s : Int), undef, .pointer (some ⟨X, 0, none⟩), .int .i64 (n : Int), .int .u64 (O : Int), undef, undef, undef, undef], defers := [] }) (w' := W.drew) ?cHd8 (fun Hd8 => ?_)
  case cHd8 =>
   refine wpAnyIn_ready (rs := [1]) (by kernel_rfl) (by simp) ?_
   refine AllReadyIn.cons (o := ⟨some 11, .move (.tmp 5), 72, "bitmap.go:83", #[], none⟩) rfl (fun K hK => ?_) ?_
   ·go_simp
    exact hK _ _ Hd3
   exact AllReadyIn.nil
  refine wpAnyIn_via (fuel' := 6) (listed' := #[true, false, true, true, false, false, false, false, false]) (a' := { tmps := #[.pointer (some ⟨X, 0, none⟩), .pointer (some ⟨B, 0, none⟩), .int .i64 0, .pointer (some ⟨B + 1, 0, none⟩), .int .i64 (n : Int), .int .u64 (V : Int), .pointer (some ⟨X, 0, none⟩), .func (.func 142) #[] #[.pointer (some ⟨B + 2, 0, none⟩)], .int .i64 (n : Int), .int .u64 (V : Int), .int .i64 (s : Int), undef, .pointer (some ⟨X, 0, none⟩), .int .i64 (n : Int), undef, undef, undef, undef, undef], defers := [] }) (w' := W.drew) ?cHd9 (fun Hd9 => ?_)
  case cHd9 =>
   refine wpAnyIn_ready (rs := [1, 4]) (by kernel_rfl) (by simp) ?_
   refine AllReadyIn.cons (o := ⟨some 11, .move (.tmp 5), 72, "bitmap.go:83", #[], none⟩) rfl (fun K hK => ?_) ?_
   ·go_simp
    exact hK _ _ Hd4
   refine AllReadyIn.cons (o := ⟨some 14, .call { callee := Callee.value (Operand.func 136), args := #[.tmp 12, .tmp 13], argTypes := #[181, 3] }, 72, "bitmap.go:83", #[⟨2, .data⟩, ⟨3, .data⟩], none⟩) rfl (fun K hK => ?_) ?_
   ·go_simp
    refine ⟨trivial, (CallsIn.inRound l (callsIn_wide.2 HO.out)).mono ?_⟩
    rintro e w5 ⟨rfl, rfl⟩
    exact hK _ _ Hd8
   exact AllReadyIn.nil
  refine wpAnyIn_via (fuel' := 7) (listed' := #[true, false, true, false, false, false, false, false, false]) (a' := { tmps := #[.pointer (some ⟨X, 0, none⟩), .pointer (some ⟨B, 0, none⟩), .int .i64 0, .pointer (some ⟨B + 1, 0, none⟩), .int .i64 (n : Int), .int .u64 (V : Int), .pointer (some ⟨X, 0, none⟩), .func (.func 142) #[] #[.pointer (some ⟨B + 2, 0, none⟩)], .int .i64 (n : Int), .int .u64 (V : Int), .int .i64 (s : Int), undef, .pointer (some ⟨X, 0, none⟩), undef, undef, undef, undef, undef, undef], defers := [] }) (w' := W.drew) ?cHd10 (fun Hd10 => ?_)
  case cHd10 =>
   refine wpAnyIn_ready (rs := [1, 3]) (by kernel_rfl) (by simp) ?_
   refine AllReadyIn.cons (o := ⟨some 11, .move (.tmp 5), 72, "bitmap.go:83", #[], none⟩) rfl (fun K hK => ?_) ?_
   ·go_simp
    exact hK _ _ Hd5
   refine AllReadyIn.cons (o := ⟨some 13, .move (.tmp 4), 3, "bitmap.go:83", #[], none⟩) rfl (fun K hK => ?_) ?_
   ·go_simp
    exact hK _ _ Hd9
   exact AllReadyIn.nil
  refine wpAnyIn_via (fuel' := 7) (listed' := #[true, false, false, true, false, false, false, false, false]) (a' := { tmps := #[.pointer (some ⟨X, 0, none⟩), .pointer (some ⟨B, 0, none⟩), .int .i64 0, .pointer (some ⟨B + 1, 0, none⟩), .int .i64 (n : Int), .int .u64 (V : Int), .pointer (some ⟨X, 0, none⟩), .func (.func 142) #[] #[.pointer (some ⟨B + 2, 0, none⟩)], .int .i64 (n : Int), .int .u64 (V : Int), .int .i64 (s : Int), undef, undef, .int .i64 (n : Int), undef, undef, undef, undef, undef], defers := [] }) (w' := W.drew) ?cHd11 (fun Hd11 => ?_)
  case cHd11 =>
   refine wpAnyIn_ready (rs := [1, 2]) (by kernel_rfl) (by simp) ?_
   refine AllReadyIn.cons (o := ⟨some 11, .move (.tmp 5), 72, "bitmap.go:83", #[], none⟩) rfl (fun K hK => ?_) ?_
   ·go_simp
    exact hK _ _ Hd6
   refine AllReadyIn.cons (o := ⟨some 12, .load 181 (.tmp 1), 181, "bitmap.go:83", #[], none⟩) rfl (fun K hK => ?_) ?_
   ·go_simp
    exact hK _ _ Hd9
   exact AllReadyIn.nil
  refine wpAnyIn_via (fuel' := 8) (listed' := #[true, false, false, false, false, false, false, false, false]) (a' := { tmps := #[.pointer (some ⟨X, 0, none⟩), .pointer (some ⟨B, 0, none⟩), .int .i64 0, .pointer (some ⟨B + 1, 0, none⟩), .int .i64 (n : Int), .int .u64 (V : Int), .pointer (some ⟨X, 0, none⟩), .func (.func 142) #[] #[.pointer (some ⟨B + 2, 0, none⟩)], .int .i64 (n : Int), .int .u64 (V : Int), .int .i64 (s : Int), undef, undef, undef, undef, undef, undef, undef, undef], defers := [] }) (w' := W.drew) ?cHd12 (fun Hd12 => ?_)
  case cHd12 =>
   refine wpAnyIn_ready (rs := [1, 2, 3]) (by kernel_rfl) (by simp) ?_
   refine AllReadyIn.cons (o := ⟨some 11, .move (.tmp 5), 72, "bitmap.go:83", #[], none⟩) rfl (fun K hK => ?_) ?_
   ·go_simp
    exact hK _ _ Hd7
   refine AllReadyIn.cons (o := ⟨some 12, .load 181 (.tmp 1), 181, "bitmap.go:83", #[], none⟩) rfl (fun K hK => ?_) ?_
   ·go_simp
    exact hK _ _ Hd10
   refine AllReadyIn.cons (o := ⟨some 13, .move (.tmp 4), 3, "bitmap.go:83", #[], none⟩) rfl (fun K hK => ?_) ?_
   ·go_simp
    exact hK _ _ Hd11
   exact AllReadyIn.nil
  refine wpAnyIn_via (fuel' := 3) (listed' := #[false, true, true, true, true, true, true, false, false]) (a' := { tmps := #[.pointer (some ⟨X, 0, none⟩), .pointer (some ⟨B, 0, none⟩), .int .i64 0, .pointer (some ⟨B + 1, 0, none⟩), .int .i64 (n : Int), .int .u64 (V : Int), .pointer (some ⟨X, 0, none⟩), .func (.func 142) #[] #[.pointer (some ⟨B + 2, 0, none⟩)], .int .i64 (n : Int), .int .u64 (V : Int), undef, .int .u64 (V : Int), .pointer (some ⟨X, 0, none⟩), .int .i64 (n : Int), .int .u64 (O : Int), .int .u64 (R : Int), .int .i64 (p : Int), undef, undef], defers := [] }) (w' := W.drew) ?cHd13 (fun Hd13 => ?_)
  case cHd13 =>
   refine wpAnyIn_ready (rs := [0]) (by kernel_rfl) (by simp) ?_
   refine AllReadyIn.cons (o := ⟨some 10, .load 3 (.tmp 3), 3, "bitmap.go:83", #[], none⟩) rfl (fun K hK => ?_) ?_
   ·go_simp
    exact hK _ _ Hd1
   exact AllReadyIn.nil
  refine wpAnyIn_via (fuel' := 4) (listed' := #[false, true, true, true, true, true, false, false, false]) (a' := { tmps := #[.pointer (some ⟨X, 0, none⟩), .pointer (some ⟨B, 0, none⟩), .int .i64 0, .pointer (some ⟨B + 1, 0, none⟩), .int .i64 (n : Int), .int .u64 (V : Int), .pointer (some ⟨X, 0, none⟩), .func (.func 142) #[] #[.pointer (some ⟨B + 2, 0, none⟩)], .int .i64 (n : Int), .int .u64 (V : Int), undef, .int .u64 (V : Int), .pointer (some ⟨X, 0, none⟩), .int .i64 (n : Int), .int .u64 (O : Int), .int .u64 (R : Int), undef, undef, undef], defers := [] }) (w' := W.drew) ?cHd14 (fun Hd14 => ?_)
  case cHd14 =>
   refine wpAnyIn_ready (rs := [0, 6]) (by kernel_rfl) (by simp) ?_
   refine AllReadyIn.cons (o := ⟨some 10, .load 3 (.tmp 3), 3, "bitmap.go:83", #[], none⟩) rfl (fun K hK => ?_) ?_
   ·go_simp
    exact hK _ _ Hd2
   refine AllReadyIn.cons (o := ⟨some 16, .call { callee := Callee.value (Operand.func 135), args := #[.tmp 15], argTypes := #[72] }, 3, "bitmap.go:83", #[⟨5, .data⟩, ⟨4, .chain⟩], none⟩) rfl (fun K hK => ?_) ?_
   ·go_simp
    refine ⟨trivial, (CallsIn.inRound l (callsIn_wide.2 HP.out)).mono ?_⟩
    rintro e w5 ⟨rfl, rfl⟩
    exact hK _ _ Hd13
   exact AllReadyIn.nil
  refine wpAnyIn_via (fuel' := 5) (listed' := #[false, true, true, true, true, false, false, false, false]) (a' := { tmps := #[.pointer (some ⟨X, 0, none⟩), .pointer (some ⟨B, 0, none⟩), .int .i64 0, .pointer (some ⟨B + 1, 0, none⟩), .int .i64 (n : Int), .int .u64 (V : Int), .pointer (some ⟨X, 0, none⟩), .func (.func 142) #[] #[.pointer (some ⟨B + 2, 0, none⟩)], .int .i64 (n : Int), .int .u64 (V : Int), undef, .int .u64 (V : Int), .pointer (some ⟨X, 0, none⟩), .int .i64 (n : Int), .int .u64 (O : Int), undef, undef, undef, undef], defers := [] }) (w' := W.drew) ?cHd15 (fun Hd15 => ?_)
  case cHd15 =>
   refine wpAnyIn_ready (rs := [0, 5]) (by kernel_rfl) (by simp) ?_
   refine AllReadyIn.cons (o := ⟨some 10, .load 3 (.tmp 3), 3, "bitmap.go:83", #[], none⟩) rfl (fun K hK => ?_) ?_
   ·go_simp
    exact hK _ _ Hd3
   refine AllReadyIn.cons (o := ⟨some 15, .binOp BinOp.and 72 (.tmp 11) (.tmp 14) 72, 72, "bitmap.go:83", #[⟨1, .data⟩, ⟨4, .data⟩], none⟩) rfl (fun K hK => ?_) ?_
   ·go_simp
    exact hK _ _ Hd14
   exact AllReadyIn.nil
  refine wpAnyIn_via (fuel' := 6) (listed' := #[false, true, true, true, false, false, false, false, false]) (a' := { tmps := #[.pointer (some ⟨X, 0, none⟩), .pointer (some ⟨B, 0, none⟩), .int .i64 0, .pointer (some ⟨B + 1, 0, none⟩), .int .i64 (n : Int), .int .u64 (V : Int), .pointer (some ⟨X, 0, none⟩), .func (.func 142) #[] #[.pointer (some ⟨B + 2, 0, none⟩)], .int .i64 (n : Int), .int .u64 (V : Int), undef, .int .u64 (V : Int), .pointer (some ⟨X, 0, none⟩), .int .i64 (n : Int), undef, undef, undef, undef, undef], defers := [] }) (w' := W.drew) ?cHd16 (fun Hd16 => ?_)
  case cHd16 =>
   refine wpAnyIn_ready (rs := [0, 4]) (by kernel_rfl) (by simp) ?_
   refine AllReadyIn.cons (o := ⟨some 10, .load 3 (.tmp 3), 3, "bitmap.go:83", #[], none⟩) rfl (fun K hK => ?_) ?_
   ·go_simp
    exact hK _ _ Hd4
   refine AllReadyIn.cons (o := ⟨some 14, .call { callee := Callee.value (Operand.func 136), args := #[.tmp 12, .tmp 13], argTypes := #[181, 3] }, 72, "bitmap.go:83", #[⟨2, .data⟩, ⟨3, .data⟩], none⟩) rfl (fun K hK => ?_) ?_
   ·go_simp
    refine ⟨trivial, (CallsIn.inRound l (callsIn_wide.2 HO.out)).mono ?_⟩
    rintro e w5 ⟨rfl, rfl⟩
    exact hK _ _ Hd15
   exact AllReadyIn.nil
  refine wpAnyIn_via (fuel' := 7) (listed' := #[false, true, true, false, false, false, false, false, false]) (a' := { tmps := #[.pointer (some ⟨X, 0, none⟩), .pointer (some ⟨B, 0, none⟩), .int .i64 0, .pointer (some ⟨B + 1, 0, none⟩), .int .i64 (n : Int), .int .u64 (V : Int), .pointer (some ⟨X, 0, none⟩), .func (.func 142) #[] #[.pointer (some ⟨B + 2, 0, none⟩)], .int .i64 (n : Int), .int .u64 (V : Int), undef, .int .u64 (V : Int), .pointer (some ⟨X, 0, none⟩), undef, undef, undef, undef, undef, undef], defers := [] }) (w' := W.drew) ?cHd17 (fun Hd17 => ?_)
  case cHd17 =>
   refine wpAnyIn_ready (rs := [0, 3]) (by kernel_rfl) (by simp) ?_
   refine AllReadyIn.cons (o := ⟨some 10, .load 3 (.tmp 3), 3, "bitmap.go:83", #[], none⟩) rfl (fun K hK => ?_) ?_
   ·go_simp
    exact hK _ _ Hd5
   refine AllReadyIn.cons (o := ⟨some 13, .move (.tmp 4), 3, "bitmap.go:83", #[], none⟩) rfl (fun K hK => ?_) ?_
   ·go_simp
    exact hK _ _ Hd16
   exact AllReadyIn.nil
  refine wpAnyIn_via (fuel' := 7) (listed' := #[false, true, false, true, false, false, false, false, false]) (a' := { tmps := #[.pointer (some ⟨X, 0, none⟩), .pointer (some ⟨B, 0, none⟩), .int .i64 0, .pointer (some ⟨B + 1, 0, none⟩), .int .i64 (n : Int), .int .u64 (V : Int), .pointer (some ⟨X, 0, none⟩), .func (.func 142) #[] #[.pointer (some ⟨B + 2, 0, none⟩)], .int .i64 (n : Int), .int .u64 (V : Int), undef, .int .u64 (V : Int), undef, .int .i64 (n : Int), undef, undef, undef, undef, undef], defers := [] }) (w' := W.drew) ?cHd18 (fun Hd18 => ?_)
  case cHd18 =>
   refine wpAnyIn_ready (rs := [0, 2]) (by kernel_rfl) (by simp) ?_
   refine AllReadyIn.cons (o := ⟨some 10, .load 3 (.tmp 3), 3, "bitmap.go:83", #[], none⟩) rfl (fun K hK => ?_) ?_
   ·go_simp
    exact hK _ _ Hd6
   refine AllReadyIn.cons (o := ⟨some 12, .load 181 (.tmp 1), 181, "bitmap.go:83", #[], none⟩) rfl (fun K hK => ?_) ?_
   ·go_simp
    exact hK _ _ Hd16
   exact AllReadyIn.nil
  refine wpAnyIn_via (fuel' := 8) (listed' := #[false, true, false, false, false, false, false, false, false]) (a' := { tmps := #[.pointer (some ⟨X, 0, none⟩), .pointer (some ⟨B, 0, none⟩), .int .i64 0, .pointer (some ⟨B + 1, 0, none⟩), .int .i64 (n : Int), .int .u64 (V : Int), .pointer (some ⟨X, 0, none⟩), .func (.func 142) #[] #[.pointer (some ⟨B + 2, 0, none⟩)], .int .i64 (n : Int), .int .u64 (V : Int), undef, .int .u64 (V : Int), undef, undef, undef, undef, undef, undef, undef], defers := [] }) (w' := W.drew) ?cHd19 (fun Hd19 => ?_)
  case cHd19 =>
   refine wpAnyIn_ready (rs := [0, 2, 3]) (by kernel_rfl) (by simp) ?_
   refine AllReadyIn.cons (o := ⟨some 10, .load 3 (.tmp 3), 3, "bitmap.go:83", #[], none⟩) rfl (fun K hK => ?_) ?_
   ·go_simp
    exact hK _ _ Hd7
   refine AllReadyIn.cons (o := ⟨some 12, .load 181 (.tmp 1), 181, "bitmap.go:83", #[], none⟩) rfl (fun K hK => ?_) ?_
   ·go_simp
    exact hK _ _ Hd17
   refine AllReadyIn.cons (o := ⟨some 13, .move (.tmp 4), 3, "bitmap.go:83", #[], none⟩) rfl (fun K hK => ?_) ?_
   ·go_simp
    exact hK _ _ Hd18
   exact AllReadyIn.nil
  refine wpAnyIn_via (fuel' := 6) (listed' := #[false, false, true, true, true, false, false, false, false]) (a' := { tmps := #[.pointer (some ⟨X, 0, none⟩), .pointer (some ⟨B, 0, none⟩), .int .i64 0, .pointer (some ⟨B + 1, 0, none⟩), .int .i64 (n : Int), .int .u64 (V : Int), .pointer (some ⟨X, 0, none⟩), .func (.func 142) #[] #[.pointer (some ⟨B + 2, 0, none⟩)], .int .i64 (n : Int), .int .u64 (V : Int), undef, undef, .pointer (some ⟨X, 0, none⟩), .int .i64 (n : Int), .int .u64 (O : Int), undef, undef, undef, undef], defers := [] }) (w' := W.drew) ?cHd20 (fun Hd20 => ?_)
  case cHd20 =>
   refine wpAnyIn_ready (rs := [0, 1]) (by kernel_rfl) (by simp) ?_
   refine AllReadyIn.cons (o := ⟨some 10, .load 3 (.tmp 3), 3, "bitmap.go:83", #[], none⟩) rfl (fun K hK => ?_) ?_
   ·go_simp
    exact hK _ _ Hd8
   refine AllReadyIn.cons (o := ⟨some 11, .move (.tmp 5), 72, "bitmap.go:83", #[], none⟩) rfl (fun K hK => ?_) ?_
   ·go_simp
    exact hK _ _ Hd15
   exact AllReadyIn.nil
  refine wpAnyIn_via (fuel' := 7) (listed' := #[false, false, true, true, false, false, false, false, false]) (a' := { tmps := #[.pointer (some ⟨X, 0, none⟩), .pointer (some ⟨B, 0, none⟩), .int .i64 0, .pointer (some ⟨B + 1, 0, none⟩), .int .i64 (n : Int), .int .u64 (V : Int), .pointer (some ⟨X, 0, none⟩), .func (.func 142) #[] #[.pointer (some ⟨B + 2, 0, none⟩)], .int .i64 (n : Int), .int .u64 (V : Int), undef, undef, .pointer (some ⟨X, 0, none⟩), .int .i64 (n : Int), undef, undef, undef, undef, undef], defers := [] }) (w' := W.drew) ?cHd21 (fun Hd21 => ?_)
  case cHd21 =>
   refine wpAnyIn_ready (rs := [0, 1, 4]) (by kernel_rfl) (by simp) ?_
   refine AllReadyIn.cons (o := ⟨some 10, .load 3 (.tmp 3), 3, "bitmap.go:83", #[], none⟩) rfl (fun K hK => ?_) ?_
   ·go_simp
    exact hK _ _ Hd9
   refine AllReadyIn.cons (o := ⟨some 11, .move (.tmp 5), 72, "bitmap.go:83", #[], none⟩) rfl (fun K hK => ?_) ?_
   ·go_simp
    exact hK _ _ Hd16
   refine AllReadyIn.cons (o := ⟨some 14, .call { callee := Callee.value (Operand.func 136), args := #[.tmp 12, .tmp 13], argTypes := #[181, 3] }, 72, "bitmap.go:83", #[⟨2, .data⟩, ⟨3, .data⟩], none⟩) rfl (fun K hK => ?_) ?_
   ·go_simp
    refine ⟨trivial, (CallsIn.inRound l (callsIn_wide.2 HO.out)).mono ?_⟩
    rintro e w5 ⟨rfl, rfl⟩
    exact hK _ _ Hd20
   exact AllReadyIn.nil
  refine wpAnyIn_via (fuel' := 8) (listed' := #[false, false, true, false, false, false, false, false, false]) (a' := { tmps := #[.pointer (some ⟨X, 0, none⟩), .pointer (some ⟨B, 0, none⟩), .int .i64 0, .pointer (some ⟨B + 1, 0, none⟩), .int .i64 (n : Int), .int .u64 (V : Int), .pointer (some ⟨X, 0, none⟩), .func (.func 142) #[] #[.pointer (some ⟨B + 2, 0, none⟩)], .int .i64 (n : Int), .int .u64 (V : Int), undef, undef, .pointer (some ⟨X, 0, none⟩), undef, undef, undef, undef, undef, undef], defers := [] }) (w' := W.drew) ?cHd22 (fun Hd22 => ?_)
  case cHd22 =>
   refine wpAnyIn_ready (rs := [0, 1, 3]) (by kernel_rfl) (by simp) ?_
   refine AllReadyIn.cons (o := ⟨some 10, .load 3 (.tmp 3), 3, "bitmap.go:83", #[], none⟩) rfl (fun K hK => ?_) ?_
   ·go_simp
    exact hK _ _ Hd10
   refine AllReadyIn.cons (o := ⟨some 11, .move (.tmp 5), 72, "bitmap.go:83", #[], none⟩) rfl (fun K hK => ?_) ?_
   ·go_simp
    exact hK _ _ Hd17
   refine AllReadyIn.cons (o := ⟨some 13, .move (.tmp 4), 3, "bitmap.go:83", #[], none⟩) rfl (fun K hK => ?_) ?_
   ·go_simp
    exact hK _ _ Hd21
   exact AllReadyIn.nil
  refine wpAnyIn_via (fuel' := 8) (listed' := #[false, false, false, true, false, false, false, false, false]) (a' := { tmps := #[.pointer (some ⟨X, 0, none⟩), .pointer (some ⟨B, 0, none⟩), .int .i64 0, .pointer (some ⟨B + 1, 0, none⟩), .int .i64 (n : Int), .int .u64 (V : Int), .pointer (some ⟨X, 0, none⟩), .func (.func 142) #[] #[.pointer (some ⟨B + 2, 0, none⟩)], .int .i64 (n : Int), .int .u64 (V : Int), undef, undef, undef, .int .i64 (n : Int), undef, undef, undef, undef, undef], defers := [] }) (w' := W.drew) ?cHd23 (fun Hd23 => ?_)
  case cHd23 =>
   refine wpAnyIn_ready (rs := [0, 1, 2]) (by kernel_rfl) (by simp) ?_
   refine AllReadyIn.cons (o := ⟨some 10, .load 3 (.tmp 3), 3, "bitmap.go:83", #[], none⟩) rfl (fun K hK => ?_) ?_
   ·go_simp
    exact hK _ _ Hd11
   refine AllReadyIn.cons (o := ⟨some 11, .move (.tmp 5), 72, "bitmap.go:83", #[], none⟩) rfl (fun K hK => ?_) ?_
   ·go_simp
    exact hK _ _ Hd18
   refine AllReadyIn.cons (o := ⟨some 12, .load 181 (.tmp 1), 181, "bitmap.go:83", #[], none⟩) rfl (fun K hK => ?_) ?_
   ·go_simp
    exact hK _ _ Hd21
   exact AllReadyIn.nil
  refine wpAnyIn_ready (rs := [0, 1, 2, 3]) (by kernel_rfl) (by simp) ?_
  refine AllReadyIn.cons (o := ⟨some 10, .load 3 (.tmp 3), 3, "bitmap.go:83", #[], none⟩) rfl (fun K hK => ?_) ?_
  ·go_simp
   exact hK _ _ Hd12
  refine AllReadyIn.cons (o := ⟨some 11, .move (.tmp 5), 72, "bitmap.go:83", #[], none⟩) rfl (fun K hK => ?_) ?_
  ·go_simp
   exact hK _ _ Hd19
  refine AllReadyIn.cons (o := ⟨some 12, .load 181 (.tmp 1), 181, "bitmap.go:83", #[], none⟩) rfl (fun K hK => ?_) ?_
  ·go_simp
   exact hK _ _ Hd22
  refine AllReadyIn.cons (o := ⟨some 13, .move (.tmp 4), 3, "bitmap.go:83", #[], none⟩) rfl (fun K hK => ?_) ?_
  ·go_simp
   exact hK _ _ Hd23
  exact AllReadyIn.nil
 case done =>
  intro D ys W hD hys hL hK
  subst hys
  rw [hend.out] at hL
  have cB : W.cell? ⟨B + 1, 0, none⟩ = some (.int .i64 (C : Int)) := by have := hL.b1; rw [hB] at this; simp [World.cell?, this]
  have hgr := hL.grown
  clear hL hend HC
  gi_wp2
  refine leaves_marks (B := B) _ (D + 1) W ⟨D, rfl, by omega, by omega, hK, trivial⟩ ?_
  intro w' hw'
  exact ⟨_, results_tmp rfl _ _ _, rfl, hw'.grown (by omega) hgr⟩
end Go.Proofs.YtfljlmmiiccooaaGreatDoor
end
section
namespace Go.Proofs.YtfljlmmiiccooaaGreatDoor
open Go.RowKit Go.Grommet Go.Shelf
attribute [local go_sem] Oper.semAt_some
def ClrR (f : Nat → Bool) (m : Nat) (c : Int) (b : Bool) : Prop :=
 (b = true ∧ ∃ i : Nat, c = (i : Int) ∧ i < m ∧ f i = false ∧ ∀ j, j < i → f j = true) ∨ (b = false ∧ c = 0 ∧ ∀ j, j < m → f j = true)
theorem ClrR.one {f : Nat → Bool} {m : Nat} {c c' : Int} {b b' : Bool} (h : ClrR f m c b) (h' : ClrR f m c' b') : c = c' ∧ b = b' := by
 rcases h with ⟨rfl, i, rfl, hi, hf, hl⟩ | ⟨rfl, rfl, hl⟩ <;> rcases h' with ⟨rfl, i', rfl, hi', hf', hl'⟩ | ⟨rfl, rfl, hl'⟩
 ·refine ⟨?_, rfl⟩
  rcases Nat.lt_trichotomy i i' with e | e | e
  ·rw [hl' i e] at hf; cases hf
  ·rw [e]
  ·rw [hl i' e] at hf'; cases hf'
 ·rw [hl' i hi] at hf; cases hf
 ·rw [hl i' hi'] at hf'; cases hf'
 ·exact ⟨rfl, rfl⟩
theorem clr_yes {xs : List Nat} {L : List (Nat × Nat)} {a m k t q : Nat} (hs : ∀ n, gotV xs L (a + n) < 18446744073709551616) (h0 : ∀ y, y < k → nghts m y (gotV xs L (a + y)) = 0) (ht : t < 64) (hk : nghts m k (gotV xs L (a + k)) = 2 ^ t * (2 * q + 1)) :
  ClrR (mbit xs L a) m ((k * 64 + t : Nat) : Int) true := by
 have bit : ∀ n j, j < 64 → (nghts m n (gotV xs L (a + n))).testBit j = (decide (n * 64 + j < m) && !(gotV xs L (a + n)).testBit j) := fun n j hj => nghts_bit m n _ j (hs n) hj
 have hb := bit k t ht
 rw [hk, odd_here] at hb
 have hb' : k * 64 + t < m ∧ (gotV xs L (a + k)).testBit t = false := by
  have := hb.symm
  simpa using this
 refine .inl ⟨rfl, k * 64 + t, rfl, hb'.1, ?_, ?_⟩
 ·unfold mbit
  rw [show (k * 64 + t) / 64 = k from by omega, show (k * 64 + t) % 64 = t from by omega]
  exact hb'.2
 ·intro j hj
  unfold mbit
  rcases Nat.lt_or_ge (j / 64) k with e | e
  ·have hz := bit (j / 64) (j % 64) (by omega)
   rw [h0 _ e, Nat.zero_testBit] at hz
   have : j / 64 * 64 + j % 64 < m := by omega
   simpa [this] using hz.symm
  ·have e' : j / 64 = k := by omega
   have hz := bit k (j % 64) (by omega)
   rw [hk, odd_bit t q (j % 64) (by omega)] at hz
   have : k * 64 + j % 64 < m := by omega
   rw [e']
   simpa [this] using hz.symm
theorem clr_no {xs : List Nat} {L : List (Nat × Nat)} {a m N : Nat} (hs : ∀ n, gotV xs L (a + n) < 18446744073709551616) (h0 : ∀ y, y < N → nghts m y (gotV xs L (a + y)) = 0) (hm : m ≤ 64 * N) : ClrR (mbit xs L a) m 0 false := by
 refine .inr ⟨rfl, rfl, fun j hj => ?_⟩
 have hz := nghts_bit m (j / 64) (gotV xs L (a + j / 64)) (j % 64) (hs _) (by omega)
 rw [h0 _ (by omega), Nat.zero_testBit] at hz
 have : j / 64 * 64 + j % 64 < m := by omega
 unfold mbit
 simpa [this] using hz.symm
structure ClrL (w : World) (X g a m : Nat) (F : Nat → Prop) (xs : List Nat) (L : List (Nat × Nat)) (c : Value) (b : Value) (W : World) : Prop where
 obj : W.heap[X]? = some (.cells (mapCs g a m) 193 (0, 0))
 view : ViewIs W g F xs L
 b0 : W.heap[w.heap.size]? = some (.cells #[.pointer (some ⟨X, 0, none⟩)] 181 (0, 0))
 b1 : W.heap[w.heap.size + 1]? = some (.cells #[c] 3 (0, 0))
 b2 : W.heap[w.heap.size + 2]? = some (.cells #[b] 4 (0, 0))
 grown : w.grownBy W none
 size : w.heap.size + 4 ≤ W.heap.size
theorem ClrL.own {w W W' : World} {X g a m : Nat} {F : Nat → Prop} {xs : List Nat} {L : List (Nat × Nat)} {c b : Value} {row : Option Nat} (hX : X < w.heap.size) (hF : ∀ i, F i → i < w.heap.size) (hs : ClrL w X g a m F xs L c b W) (hgr : W.grownBy W' row) (hr : ∀ r, row = some r → w.heap.size + 4 ≤ r) : ClrL w X g a m F xs L c b W' := by
 have hb : ∀ k, k < w.heap.size + 4 → W'.heap[k]? = W.heap[k]? := fun k hk => hgr.block _ (by have := hs.size; omega) (by intro e; have := (hr _ e.symm); omega)
 exact ⟨(hb _ (by omega)).trans hs.obj, view_kept hs.view (fun i hi => hb i (by have := hF i hi; omega)) hgr.size, (hb _ (by omega)).trans hs.b0, (hb _ (by omega)).trans hs.b1, (hb _ (by omega)).trans hs.b2, grown_new hs.grown hgr (fun j e => by have := (hr j e); omega), Nat.le_trans hs.size hgr.size⟩
theorem ClrL.put {w W : World} {X g a m : Nat} {F : Nat → Prop} {xs : List Nat} {L : List (Nat × Nat)} {c b : Value} (h : ClrL w X g a m F xs L c b W) (hX : X < w.heap.size) (hF : ∀ i, F i → i < w.heap.size) (c' b' : Value) :
  KeepsOthers W ((W.setCell ⟨w.heap.size + 1, 0, none⟩ c').setCell ⟨w.heap.size + 2, 0, none⟩ b') ∧ ClrL w X g a m F xs L c' b' ((W.setCell ⟨w.heap.size + 1, 0, none⟩ c').setCell ⟨w.heap.size + 2, 0, none⟩ b') := by
 have hsz := h.size
 have hg1 := grown_setCell W ⟨w.heap.size + 1, 0, none⟩ c'
 have hg2 := grown_setCell (W.setCell ⟨w.heap.size + 1, 0, none⟩ c') ⟨w.heap.size + 2, 0, none⟩ b'
 have hk1 := KeepsOthers.setCell W ⟨w.heap.size + 1, 0, none⟩ c'
 have hk2 := KeepsOthers.setCell (W.setCell ⟨w.heap.size + 1, 0, none⟩ c') ⟨w.heap.size + 2, 0, none⟩ b'
 have k1 : (W.setCell ⟨w.heap.size + 1, 0, none⟩ c').heap[w.heap.size + 1]? = some (.cells #[c'] 3 (0, 0)) := by have := heap_setCell_at (o := 0) h.b1 c'; simpa using this
 have k2 : (W.setCell ⟨w.heap.size + 1, 0, none⟩ c').heap[w.heap.size + 2]? = some (.cells #[b] 4 (0, 0)) := (hg1.block _ (by omega) (by simp)).trans h.b2
 generalize W.setCell ⟨w.heap.size + 1, 0, none⟩ c' = W1 at *
 have k3 : (W1.setCell ⟨w.heap.size + 2, 0, none⟩ b').heap[w.heap.size + 2]? = some (.cells #[b'] 4 (0, 0)) := by have := heap_setCell_at (o := 0) k2 b'; simpa using this
 have s1 := hg1.size
 have hb : ∀ k, k < w.heap.size + 1 → (W1.setCell ⟨w.heap.size + 2, 0, none⟩ b').heap[k]? = W.heap[k]? := fun k hk => (hg2.block k (by omega) (by simp; omega)).trans (hg1.block k (by omega) (by simp; omega))
 refine ⟨hk1.trans hk2, (hb _ (by omega)).trans h.obj, view_kept h.view (fun i hi => hb i (by have := hF i hi; omega)) (Nat.le_trans hg1.size hg2.size), (hb _ (by omega)).trans h.b0, (hg2.block _ (by omega) (by simp)).trans k1, k3, ?_, Nat.le_trans h.size (Nat.le_trans hg1.size hg2.size)⟩
 exact grown_new (grown_new h.grown hg1 (fun j e => by cases e; show _ ≤ w.heap.size + 1; omega)) hg2 (fun j e => by cases e; show _ ≤ w.heap.size + 2; omega)
theorem nghts_bits (m n V O : Nat) (hO : ownM m n = O) (hs : V < 18446744073709551616) (hOs : O < 18446744073709551616) (R : Nat) (hR : nghts m n V = R) : bits .andNot .u64 (O : Int) (V : Int) = (R : Int) := by
 rw [u64_andNot_nat O V hOs hs]
 unfold nghts at hR
 rw [hO] at hR
 rw [hR]
def ClrIs (f : Nat → Bool) (m : Nat) (w : World) (e : Ending) (w' : World) : Prop := ∃ c b, e = .returned (.tuple #[.int .i64 c, .bool b]) ∧ ClrR f m c b ∧ w.grownBy w' none
def ClrX (w : World) (X g a m N : Nat) (F : Nat → Prop) (xs : List Nat) (L : List (Nat × Nat)) (c : Code) (pre : List (Fin N)) (W : World) : Prop :=
 c = .ret ∧ ∃ (pre' : List (Fin N)) (x : Fin N) (t q : Nat), pre = pre' ++ [x] ∧ (∀ y ∈ pre', nghts m y.1 (gotV xs L (a + y.1)) = 0) ∧ t < 64 ∧ nghts m x.1 (gotV xs L (a + x.1)) = 2 ^ t * (2 * q + 1) ∧ ClrL w X g a m F xs L (.int .i64 ((x.1 * 64 + t : Nat) : Int)) (.bool true) W
theorem MClear_any (w : World) (X g a m N : Nat) (F : Nat → Prop) (xs : List Nat) (L : List (Nat × Nat)) (hX : w.heap[X]? = some (.cells (mapCs g a m) 193 (0, 0))) (hv : ViewIs w g F xs L) (hM : MapOk xs.length a m) (hN : (m - 1) / 64 + 1 = N)
  (htab : Lib.TabIs Tryz.prog w "math/bits.deBruijn64tab" .u8 tab) :
  Calls Tryz.prog 137 #[.pointer (some ⟨X, 0, none⟩)] w (ClrIs (mbit xs L a) m w) := by
 have hXs := (Array.getElem?_eq_some_iff.1 hX).1
 have hFs : ∀ i, F i → i < w.heap.size := by obtain ⟨_, _, _, h⟩ := hv; exact h.old
 have hml := hM.lt
 have hm1 := hM.one
 have hNs : N ≤ 1000000 := by omega
 have hsm : (∀ n ∈ xs, n < 18446744073709551616) ∧ (∀ p ∈ L, p.2 < 18446744073709551616) := by obtain ⟨_, _, _, h⟩ := hv; exact ⟨h.small, h.good.val⟩
 have hVs : ∀ n, gotV xs L (a + n) < 18446744073709551616 := fun n => gotV_small hsm.1 hsm.2 (a + n)
 refine (callsIn_wide (n := 9)).1 ?_
 refine callsIn_of_wp_marks Tryz.func137 rfl trivial ?_ rfl
 simp only [Tryz.ntmps137, List.size_toArray, List.length_cons, List.length_nil, Nat.reduceAdd, Nat.reduceSub, Array.replicate_succ, Array.replicate_zero, List.push_toArray, List.append_toArray, List.nil_append, List.cons_append]
 gi_wp2_with fail
 refine ⟨trivial, (callsIn_wide.2 (mwords_any _ X)).mono ?_⟩
 rintro e w2 ⟨rfl, hw2⟩
 have g1 := World.grownBy_alloc w (.cells #[.pointer (some ⟨X, 0, none⟩)] 181) none
 have n1 := heap_alloc_new w (.cells #[.pointer (some ⟨X, 0, none⟩)] 181)
 have z1 : (w.alloc (.cells #[.pointer (some ⟨X, 0, none⟩)] 181)).heap.size = w.heap.size + 1 := by simp
 generalize w.alloc (.cells #[.pointer (some ⟨X, 0, none⟩)] 181) = u1 at *
 have g2 := World.grownBy_alloc u1 (.cells #[.int .i64 0] 3) none
 have n2 := heap_alloc_new u1 (.cells #[.int .i64 0] 3)
 have z2 : (u1.alloc (.cells #[.int .i64 0] 3)).heap.size = w.heap.size + 2 := by simp [z1]
 generalize u1.alloc (.cells #[.int .i64 0] 3) = u2 at *
 have g3 := World.grownBy_alloc u2 (.cells #[.bool false] 4) none
 have n3 := heap_alloc_new u2 (.cells #[.bool false] 4)
 have z3 : (u2.alloc (.cells #[.bool false] 4)).heap.size = w.heap.size + 3 := by simp [z2]
 generalize u2.alloc (.cells #[.bool false] 4) = u3 at *
 have g4 := World.grownBy_alloc u3 (.cells #[.pointer (some ⟨X, 0, none⟩)] 181) none
 have hbm := heap_alloc_new u3 (.cells #[.pointer (some ⟨X, 0, none⟩)] 181)
 have hs2 : (u3.alloc (.cells #[.pointer (some ⟨X, 0, none⟩)] 181)).heap.size = w.heap.size + 4 := by simp [z3]
 rw [← hw2] at g4 hbm hs2
 clear hw2
 rw [z1] at n2
 rw [z2] at n3
 rw [z3] at hbm
 have gw := grown_trans (grown_trans (grown_trans g1 g2) g3) g4
 have hC : ClrL w X g a m F xs L (.int .i64 0) (.bool false) w2 :=
  ⟨(gw.block _ hXs (by simp)).trans hX, view_kept hv (fun i hi => gw.block i (hFs i hi) (by simp)) gw.size, ((grown_trans (grown_trans g2 g3) g4).block _ (by omega) (by simp)).trans n1, ((grown_trans g3 g4).block _ (by omega) (by simp)).trans n2, (g4.block _ (by omega) (by simp)).trans n3, gw, by omega⟩
 try rw [z1]
 try rw [z2]
 try rw [z3]
 clear g1 g2 g3 g4 n1 n2 n3 gw hX hv
 gi_wp2_with fail
 generalize hB : w.heap.size = B at *
 simp only [Nat.add_assoc, Nat.reduceAdd]
 refine wpIn_rangeFunc_ownF (α := Fin N) rfl (by omega) (gf := 142) (lb := #[.pointer (some ⟨B + 3, 0, none⟩)]) rfl trivial (enters_of Tryz.func142 (by kernel_rfl) rfl)
  (words_stops 8 w2 (B + 3) X g a m N F (fun i => i = B + 3 ∨ i = X ∨ F i) xs L hbm hC.obj hC.view hM hN ⟨.inl rfl, .inr (.inl rfl), fun i hi => .inr (.inr hi)⟩)
  (fun h k => h.trans k) (KeptF.put (fun i hi => by rcases hi with rfl | rfl | hi; omega; omega; have := hFs i hi; omega)) (Below.refl _ _) (fun _ => rfl)
  (fun (pre : List (Fin N)) W => ClrL w X g a m F xs L (.int .i64 0) (.bool false) W ∧ ∀ y ∈ pre, nghts m y.1 (gotV xs L (a + y.1)) = 0)
  (fun c pre W => ClrX w X g a m N F xs L c pre W)
  ?own ?own2 ⟨hC, fun _ h => by cases h⟩
  (fun x => { tmps := #[.pointer (some ⟨X, 0, none⟩), .pointer (some ⟨B, 0, none⟩), .pointer (some ⟨B + 1, 0, none⟩), .pointer (some ⟨B + 2, 0, none⟩), .int .i64 (x.1 : Int), .int .u64 (gotV xs L (a + x.1) : Int), undef, .pointer (some ⟨X, 0, none⟩), .func (.func 142) #[] #[.pointer (some ⟨B + 3, 0, none⟩)], .int .i64 (x.1 : Int), .int .u64 (gotV xs L (a + x.1) : Int), undef, undef, undef, undef, undef, undef, undef, undef, undef, undef, undef, undef], defers := [] }) ?assign ?body ?done ?stop
 case own =>
  rintro pre W W' row ⟨hs, hp⟩ hg hr
  exact ⟨ClrL.own (by omega) (fun i hi => by have := hFs i hi; omega) hs hg (fun r e => by have := (hr r e).1; omega), hp⟩
 case own2 =>
  rintro c pre W W' row ⟨rfl, pre', x, t, q, hp, h0, ht, hq, hs⟩ hg hr
  exact ⟨rfl, pre', x, t, q, hp, h0, ht, hq, ClrL.own (by omega) (fun i hi => by have := hFs i hi; omega) hs hg (fun r e => by have := (hr r e).1; omega)⟩
 case assign =>
  intro l x W K hK
  unfold encW
  gi_wp2
  exact hK
 case body =>
  rintro l pre ⟨n, hn⟩ W ⟨hL, hp⟩ hlen
  replace hL : ClrL w X g a m F xs L (.int .i64 0) (.bool false) W := hL
  have hnm : n * 64 < m := by omega
  have HO := Lib.hid (own_any X g a m n W hL.obj (by omega) hnm)
  have hOs := ownM_small m n
  have hV := hVs n
  have hRs := nghts_small m n (gotV xs L (a + n))
  obtain ⟨R, eR⟩ : ∃ R, nghts m n (gotV xs L (a + n)) = R := ⟨_, rfl⟩
  have e3 := nghts_bits m n _ _ rfl hV hOs R eR
  have cB := hL.b0
  have cB1 := hL.b1
  have cB2 := hL.b2
  rw [hB] at cB cB1 cB2
  have c0 : W.cell? ⟨B, 0, none⟩ = some (.pointer (some ⟨X, 0, none⟩)) := by simp [World.cell?, cB]
  have z1 : W.frozen? ⟨B + 1, 0, none⟩ = false := by simp [World.frozen?, cB1]
  have z2 : W.frozen? ⟨B + 2, 0, none⟩ = false := by simp [World.frozen?, cB2]
  have d1 : W.cell? ⟨B + 1, 0, none⟩ = some (.int .i64 0) := by simp [World.cell?, cB1]
  have d2 : W.cell? ⟨B + 2, 0, none⟩ = some (.bool false) := by simp [World.cell?, cB2]
  have hg : w.grownBy W none := hL.grown
  have hput := hL.put (by omega) (fun i hi => by have := hFs i hi; omega)
  rw [hB] at hput
  rw [eR] at hRs
  by_cases h0 : R = 0
  ·have HFIN := Lib.hid (show KeepsOthers W W ∧ KeptF (fun i => i = B + 3 ∨ i = X ∨ F i) W W ∧ (ClrL w X g a m F xs L (.int .i64 0) (.bool false) W ∧ ∀ y ∈ pre ++ [(⟨n, hn⟩ : Fin N)], nghts m y.1 (gotV xs L (a + y.1)) = 0) from
    ⟨KeepsOthers.refl _, KeptF.refl _ _, hL, fun y hy => by
     rcases List.mem_append.1 hy with hy | hy
     ·exact hp y hy
     ·obtain rfl : y = ⟨n, hn⟩ := by simpa using hy
      rw [eR]; exact h0⟩)
   subst h0
   have x1 : (((0 : Nat) : Int) != 0) = false := rfl
   obtain ⟨V, eV⟩ : ∃ V, gotV xs L (a + n) = V := ⟨_, rfl⟩
   obtain ⟨O, eO⟩ : ∃ O, ownM m n = O := ⟨_, rfl⟩
   rw [eO] at HO e3
   rw [eV] at e3
   simp only [eV]
   clear hput hL hp cB cB1 cB2 hOs hV hRs eO eV eR
   gi_wp2_with fail
   refine ⟨trivial, (CallsIn.inRound l (callsIn_wide.2 HO.out)).mono ?_⟩
   rintro e w5 ⟨rfl, rfl⟩
   gi_wp2
   exact HFIN.out
  ·obtain ⟨t, q, hq, ht⟩ := odd_part 64 R h0 hRs
   have HT := Lib.hid (tz_any t q W ht (by rw [← hq]; exact hRs) (tab_grown htab hg))
   rw [← hq] at HT
   have hp2 := hput (.int .i64 ((n * 64 + t : Nat) : Int)) (.bool true)
   have HFIN := Lib.hid (show KeepsOthers W ((W.setCell ⟨B + 1, 0, none⟩ (.int .i64 ((n * 64 + t : Nat) : Int))).setCell ⟨B + 2, 0, none⟩ (.bool true)) ∧ ClrX w X g a m N F xs L .ret (pre ++ [(⟨n, hn⟩ : Fin N)]) ((W.setCell ⟨B + 1, 0, none⟩ (.int .i64 ((n * 64 + t : Nat) : Int))).setCell ⟨B + 2, 0, none⟩ (.bool true)) from
    ⟨hp2.1, rfl, pre, ⟨n, hn⟩, t, q, rfl, hp, ht, by rw [eR]; exact hq, hp2.2⟩)
   have x1 : ((R : Int) != 0) = true := by simp; omega
   have s1 : IntKind.i64.wrap ((n : Int) * 64) = (n : Int) * 64 := IntWalk.i64_in _ ⟨by omega, by omega⟩
   have s2 : IntKind.i64.wrap ((n : Int) * 64 + (t : Int)) = ((n * 64 + t : Nat) : Int) := by rw [IntWalk.i64_in _ ⟨by omega, by omega⟩]; omega
   have s3 : (n : Int) * 64 + (t : Int) = ((n * 64 + t : Nat) : Int) := by omega
   obtain ⟨T, eT⟩ : ∃ T, n * 64 + t = T := ⟨_, rfl⟩
   rw [eT] at s2 s3 HFIN
   obtain ⟨V, eV⟩ : ∃ V, gotV xs L (a + n) = V := ⟨_, rfl⟩
   obtain ⟨O, eO⟩ : ∃ O, ownM m n = O := ⟨_, rfl⟩
   rw [eO] at HO e3
   rw [eV] at e3
   simp only [eV]
   clear hp2 hput hL hp cB cB1 cB2 hOs hV hRs eO eV eR eT hq h0
   gi_wp2_with fail
   refine ⟨trivial, (CallsIn.inRound l (callsIn_wide.2 HO.out)).mono ?_⟩
   rintro e w5 ⟨rfl, rfl⟩
   gi_wp2_with fail
   refine ⟨trivial, (CallsIn.inRound l (callsIn_wide.2 HT.out)).mono ?_⟩
   rintro e w6 ⟨rfl, rfl⟩
   gi_wp2
   exact HFIN.out
 case done =>
  rintro D ys W hD hys ⟨hL, hp⟩ hK
  subst hys
  replace hL : ClrL w X g a m F xs L (.int .i64 0) (.bool false) W := hL
  have HR := Lib.hid (clr_no (m := m) hVs (fun y hy => hp ⟨y, hy⟩ (by simp)) (by omega))
  have hput := hL.put (by omega) (fun i hi => by have := hFs i hi; omega) (.int .i64 0) (.bool false)
  have cB1 := hL.b1
  have cB2 := hL.b2
  rw [hB] at cB1 cB2 hput
  have z1 : W.frozen? ⟨B + 1, 0, none⟩ = false := by simp [World.frozen?, cB1]
  have z2 : W.frozen? ⟨B + 2, 0, none⟩ = false := by simp [World.frozen?, cB2]
  have d1 : W.cell? ⟨B + 1, 0, none⟩ = some (.int .i64 0) := by simp [World.cell?, cB1]
  have d2 : W.cell? ⟨B + 2, 0, none⟩ = some (.bool false) := by simp [World.cell?, cB2]
  have hput := Lib.hid hput
  clear hL hp cB1 cB2
  gi_wp2
  obtain ⟨hk, hN2⟩ := hput.out
  refine leaves_marks (B := B) _ (D + 1) _ ⟨D, rfl, by omega, by omega, hk.same _ _ hK rfl, trivial⟩ ?_
  intro w' hw'
  have q1 := hw'.cells _ _ _ _ hN2.b1
  have q2 := hw'.cells _ _ _ _ hN2.b2
  rw [hB] at q1 q2
  have r1 : w'.cell? ⟨B + 1, 0, none⟩ = some (.int .i64 0) := by simp [World.cell?, q1]
  have r2 : w'.cell? ⟨B + 2, 0, none⟩ = some (.bool false) := by simp [World.cell?, q2]
  exact ⟨.tuple #[.int .i64 0, .bool false], by simp [results, Tryz.results137, go_sem, r1, r2], 0, false, rfl, HR.out, hw'.grown (by omega) hN2.grown⟩
 case stop =>
  rintro D c pre W hD ⟨k, hkN, rfl⟩ ⟨rfl, pre', x, t, q, hpre, h0, ht, hq, hL⟩ hK
  replace hL : ClrL w X g a m F xs L (.int .i64 ((x.1 * 64 + t : Nat) : Int)) (.bool true) W := hL
  have hsplit : (List.finRange N).take (k + 1) = (List.finRange N).take k ++ [⟨k, hkN⟩] := by rw [List.take_add_one]; simp [hkN]
  rw [hsplit] at hpre
  obtain ⟨hp1, hp2⟩ := List.append_inj' hpre rfl
  obtain rfl : (⟨k, hkN⟩ : Fin N) = x := by simpa using hp2
  have HR := Lib.hid (clr_yes (m := m) (k := k) hVs (fun y hy => h0 ⟨y, by omega⟩ (by rw [← hp1]; simp [List.mem_take_iff_getElem]; omega)) ht hq)
  simp only at hL
  generalize k * 64 + t = T at hL HR
  gi_wp2
  refine leaves_marks (B := B) _ (D + 1) _ ⟨D, rfl, by omega, by omega, hK, trivial⟩ ?_
  intro w' hw'
  have q1 := hw'.cells _ _ _ _ hL.b1
  have q2 := hw'.cells _ _ _ _ hL.b2
  rw [hB] at q1 q2
  have r1 : w'.cell? ⟨B + 1, 0, none⟩ = some (.int .i64 (T : Int)) := by simp [World.cell?, q1]
  have r2 : w'.cell? ⟨B + 2, 0, none⟩ = some (.bool true) := by simp [World.cell?, q2]
  exact ⟨.tuple #[.int .i64 (T : Int), .bool true], by simp [results, Tryz.results137, go_sem, r1, r2], _, true, rfl, HR.out, hw'.grown (by omega) hL.grown⟩
end Go.Proofs.YtfljlmmiiccooaaGreatDoor
end
