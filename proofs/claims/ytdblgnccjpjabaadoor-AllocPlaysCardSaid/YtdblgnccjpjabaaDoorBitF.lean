/- Package bitmap: the words of a map, gone through. -/
import Derived.Test.YtdblgnccjpjabaaDoorBitE
import Derived.Test.YtdblgnccjpjabaaDoorMarks
import Derived.RegionIn
-- OPTIONAL
namespace Go.Proofs.YtdblgnccjpjabaaDoor
open Go.RowKit Go.Grommet Go.Shelf
attribute [local go_sem] Oper.semAt_some

theorem mwords_any (w : World) (X : Nat) : Calls Tryd.prog 72 #[.pointer (some ⟨X, 0, none⟩)] w fun e w' => e = .returned (.func (.func 84) #[] #[.pointer (some ⟨w.heap.size, 0, none⟩)]) ∧ w' = w.alloc (.cells #[.pointer (some ⟨X, 0, none⟩)] 84) := by
  go_enter Tryd.func72, Tryd.ntmps72
  go_wp2
  go_ret
  exact ⟨rfl, rfl⟩

/-- What a round keeps: these blocks. -/
structure KeptF (K : Nat → Prop) (W W' : World) : Prop where
  size : W.heap.size ≤ W'.heap.size
  same : ∀ i, K i → W'.heap[i]? = W.heap[i]?
theorem KeptF.refl (K : Nat → Prop) (W : World) : KeptF K W W := ⟨Nat.le_refl _, fun _ _ => rfl⟩
theorem KeptF.trans {K : Nat → Prop} {A B C : World} (h : KeptF K A B) (k : KeptF K B C) : KeptF K A C := ⟨Nat.le_trans h.size k.size, fun i hi => (k.same i hi).trans (h.same i hi)⟩
theorem KeptF.put {K : Nat → Prop} {w : World} (h : ∀ i, K i → i < w.heap.size) (W : World) (l : Nat) (o o' : Obj) (hl : w.heap.size ≤ l) (_ : W.heap[l]? = some o) (_ : o.isCells = false) (_ : o.isWalk = false) : KeptF K W (W.putObj l o') :=
  ⟨by simp, fun i hi => World.putObj_heap_other (by have := h i hi; omega)⟩
theorem KeptF.of {K : Nat → Prop} {W W' : World} {row : Option Nat} (h : ∀ i, K i → i < W.heap.size ∧ some i ≠ row) (hg : W.grownBy W' row) : KeptF K W W' := ⟨hg.size, fun i hi => hg.block i (h i hi).1 (h i hi).2⟩

/-- A view stands where its blocks stand. -/
theorem view_kept {F : Nat → Prop} {w w' : World} {g : Nat} {xs : List Nat} {L : List (Nat × Nat)} (h : ViewIs w g F xs L) (hk : ∀ i, F i → w'.heap[i]? = w.heap[i]?) (hs : w.heap.size ≤ w'.heap.size) : ViewIs w' g F xs L := by
  obtain ⟨ws, wr, mb, h⟩ := h
  have ht : Turn (fun i => ¬ F i) w { w' with os := w.os, tape := w.tape, output := w.output } := ⟨rfl, rfl, rfl, hs, fun k _ hn => hk k (Classical.not_not.1 hn)⟩
  have h' := h.turn ht (fun i hi hn => hn hi)
  exact ⟨ws, wr, mb, h'.obj, h'.words, h'.writes, h'.num, h'.small, h'.fits, h'.good, h'.old, h'.fg, h'.fm, h'.fw, h'.fr⟩

def encW (V : Nat → Nat) (N : Nat) (x : Fin N) : Array Value := #[.int .i64 (x.1 : Int), .int .u64 (V x.1 : Int)]

set_option maxRecDepth 100000 in
set_option maxHeartbeats 400000 in
theorem words_stops (d : Nat) (w : World) (bm X g a m N : Nat) (F K : Nat → Prop) (xs : List Nat) (L : List (Nat × Nat)) (hbm : w.heap[bm]? = some (.cells #[.pointer (some ⟨X, 0, none⟩)] 84 (0, 0))) (hX : w.heap[X]? = some (.cells (mapCs g a m) 114 (0, 0)))
    (hv : ViewIs w g F xs L) (hM : MapOk xs.length a m) (hN : (m - 1) / 64 + 1 = N) (hK : K bm ∧ K X ∧ ∀ i, F i → K i) :
    SeqStopsK Fence.wide d Tryd.prog 84 #[.pointer (some ⟨bm, 0, none⟩)] (encW (fun n => gotV xs L (a + n)) N) (KeptF K) (fun ys => ys = List.finRange N) (fun ys => ∃ k, k < N ∧ ys = (List.finRange N).take (k + 1)) N w := by
  intro l J Jx W hW hJ hJx hY h0
  have hbs := (Array.getElem?_eq_some_iff.1 hbm).1
  have hXs := (Array.getElem?_eq_some_iff.1 hX).1
  have hVW : ViewIs W g F xs L := view_kept hv (fun i hi => hW.block i (by obtain ⟨_, _, _, hv'⟩ := hv; exact hv'.old i hi)) hW.size
  replace hbm := (hW.block bm hbs).trans hbm
  replace hX := (hW.block X hXs).trans hX
  have HJA := Lib.hid hJ
  have HK0 : Hid (KeptF K W W) := Lib.hid (KeptF.refl K W)
  have HY := Lib.hid hY
  have HJ := Lib.hid h0
  have h1 := hM.one
  have hml := hM.lt
  have hfew := hM.few
  have hfit : a + N ≤ xs.length := by have := hM.fits; omega
  have hNs : N ≤ 1000000 := by omega
  have HW := Lib.hid (wordsOf_any m W h1 (by omega))
  rw [hN] at HW
  obtain ⟨_, _, c2⟩ := map_cells hX
  clear hW hJ hJx hY h0 hbs hXs hv hM
  refine callsIn_of_wp Tryd.func84 rfl trivial ?_ rfl
  simp only [Tryd.ntmps84, List.size_toArray, List.length_cons, List.length_nil, Nat.reduceAdd, Nat.reduceSub, Array.replicate_succ, Array.replicate_zero, List.push_toArray, List.append_toArray, List.nil_append, List.cons_append]
  have c1 : W.cell? ⟨bm, 0, none⟩ = some (.pointer (some ⟨X, 0, none⟩)) := by simp [World.cell?, hbm]
  have HR := Lib.hid (⟨hbm, hX, hVW, hK⟩ : W.heap[bm]? = some (.cells #[.pointer (some ⟨X, 0, none⟩)] 84 (0, 0)) ∧ W.heap[X]? = some (.cells (mapCs g a m) 114 (0, 0)) ∧ ViewIs W g F xs L ∧ (K bm ∧ K X ∧ ∀ i, F i → K i))
  clear hbm hX hVW hK
  gi_wp2_with fail
  refine ⟨trivial, fun h => (by cases h), (callsIn_wide.2 HW.out).mono ?_⟩
  rintro e w1 ⟨rfl, rfl⟩
  clear HW
  gi_wp2_with fail
  gi_loopw [11] (fun p wr => ∃ k : Nat, k ≤ N ∧ p = .int .i64 (k : Int) ∧ Hid (J ((List.finRange N).take k) wr ∧ KeptF K W wr)) (fun p _ => N - (intOf p).toNat)
  case atStart => exact ⟨0, Nat.zero_le _, rfl, Lib.hid ⟨HJ.out, HK0.out⟩⟩
  case round =>
    obtain ⟨k, hk, rfl, hR⟩ := hrel
    have HJr := Lib.hid hR.out.1
    have HKr := Lib.hid hR.out.2
    obtain ⟨r1, r2, r3, k1, k2, k3⟩ := HR.out
    have b1 := (HKr.out.same bm k1).trans r1
    have b2 := (HKr.out.same X k2).trans r2
    have e1 : wr.cell? ⟨bm, 0, none⟩ = some (.pointer (some ⟨X, 0, none⟩)) := by simp [World.cell?, b1]
    obtain ⟨e2, e3, _⟩ := map_cells b2
    have k0 : (0 : Int) ≤ (k : Int) := by omega
    by_cases hlt : k < N
    · have hlt' : (k : Int) < (N : Int) := by omega
      have hN1 : Hid ((List.finRange N).take (k + 1) = (List.finRange N).take k ++ [⟨k, hlt⟩]) := Lib.hid (by
        rw [List.take_add_one]; simp [hlt])
      have hJd := HJA.out _ _ wr.drew none HJr.out (grown_drew (World.grownBy.refl _ _)) (by intro r h; cases h)
      have hy0 := HY.out _ ⟨k, hlt⟩ wr.drew hJd (by simp; omega)
      have HG := Lib.hid (Get_any g F xs L ((a + k : Nat) : Int) wr.drew (view_kept r3 (fun i hi => HKr.out.same i (k3 i hi)) HKr.out.size))
      have hin2 : 0 ≤ ((a + k : Nat) : Int) ∧ ((a + k : Nat) : Int) < (xs.length : Int) := by omega
      rw [show gotI xs L ((a + k : Nat) : Int) = gotV xs L (a + k) from by unfold gotI; rw [if_pos hin2, Int.toNat_natCast]] at HG
      unfold encW at hy0
      simp only at hy0
      obtain ⟨V, eV⟩ : ∃ V, gotV xs L (a + k) = V := ⟨_, rfl⟩
      rw [eV] at HG hy0
      have s1 : IntKind.i64.wrap ((a : Int) + (k : Int)) = ((a + k : Nat) : Int) := by rw [IntWalk.i64_in _ ⟨by omega, by omega⟩]; omega
      have s2 : (a : Int) + (k : Int) = ((a + k : Nat) : Int) := by omega
      have s3 : IntKind.i64.wrap ((a + k : Nat) : Int) = ((a + k : Nat) : Int) := IntWalk.i64_in _ ⟨by omega, by omega⟩
      obtain ⟨A, eA⟩ : ∃ A, a + k = A := ⟨_, rfl⟩
      rw [eA] at HG s1 s2 s3
      obtain ⟨fn, tmps, assign, body, hy, hR⟩ := hy0
      have wk1 : IntKind.i64.wrap ((k : Int) + 1) = (k : Int) + 1 := IntWalk.i64_in _ ⟨by omega, by omega⟩
      clear HR HJr HJ hJd r1 r2 r3 b1 b2 hin2 eV eA hN hfit
      gi_wp2_with fail
      refine wpIn_region_any (by kernel_rfl) ?_
      change wpAnyIn _ _ _ _ _ _ _ _ _ (World.drew _)
      refine wpAnyIn_take (i := 0) (oi := { dst := some 14, op := Op.move (Operand.tmp 0), type := 125, pos := "bitmap.go:95", after := #[], guard := none }) (v := ?v0_0) rfl rfl (by kernel_rfl) (by kernel_rfl) (by kernel_rfl) (fun _ _ _ h => h) ⟨Or.inl ⟨by rfl, ?h0_0⟩, fun _ => rfl⟩ ?_
      case h0_0 => (intro w; go_simp; (try with_reducible rfl))
      try simp only [Act.put, List.setIfInBounds_toArray, List.set_cons_zero, List.set_cons_succ]
      refine wpAnyIn_take (i := 1) (oi := { dst := some 15, op := Op.move (Operand.tmp 3), type := 3, pos := "bitmap.go:95", after := #[], guard := none }) (v := ?v1_3) rfl rfl (by kernel_rfl) (by kernel_rfl) (by kernel_rfl) (fun _ _ _ h => h) ⟨Or.inl ⟨by rfl, ?h1_3⟩, fun _ => rfl⟩ ?_
      case h1_3 => (intro w; go_simp; (try with_reducible rfl))
      try simp only [Act.put, List.setIfInBounds_toArray, List.set_cons_zero, List.set_cons_succ]
      refine wpAnyIn_take (i := 10) (oi := { dst := some 24, op := Op.move (Operand.tmp 3), type := 3, pos := "bitmap.go:95", after := #[], guard := none }) (v := ?v10_6) rfl rfl (by kernel_rfl) (by kernel_rfl) (by kernel_rfl) (fun _ _ _ h => h) ⟨Or.inl ⟨by rfl, ?h10_6⟩, fun _ => rfl⟩ ?_
      case h10_6 => (intro w; go_simp; (try with_reducible rfl))
      try simp only [Act.put, List.setIfInBounds_toArray, List.set_cons_zero, List.set_cons_succ]
      refine wpAnyIn_ready (rs := [2, 6]) (by kernel_rfl) (by simp) ?_
      refine AllReadyIn.cons (o := { dst := some 16, op := Op.load 84 (Operand.tmp 1), type := 84, pos := "bitmap.go:95", after := #[], guard := none }) rfl (fun K hK => ?_) ?_
      · go_simp
        refine hK _ _ ?_; clear hK K
        try simp only [Act.put, List.setIfInBounds_toArray, List.set_cons_zero, List.set_cons_succ]
        refine wpAnyIn_take (i := 3) (oi := { dst := some 17, op := Op.nilCheck (Operand.tmp 16), type := 0, pos := "bitmap.go:95", after := #[{ on := 2, ground := Ground.data }], guard := none }) (v := ?v3_14) rfl rfl (by kernel_rfl) (by kernel_rfl) (by kernel_rfl) (fun _ _ _ h => h) ⟨Or.inl ⟨by rfl, ?h3_14⟩, fun _ => rfl⟩ ?_
        case h3_14 => (intro w; go_simp; (try with_reducible rfl))
        try simp only [Act.put, List.setIfInBounds_toArray, List.set_cons_zero, List.set_cons_succ]
        refine wpAnyIn_take (i := 4) (oi := { dst := some 18, op := Op.fieldAddr 114 (Operand.tmp 17) 0, type := 0, pos := "bitmap.go:95", after := #[{ on := 3, ground := Ground.data }], guard := none }) (v := ?v4_17) rfl rfl (by kernel_rfl) (by kernel_rfl) (by kernel_rfl) (fun _ _ _ h => h) ⟨Or.inl ⟨by rfl, ?h4_17⟩, fun _ => rfl⟩ ?_
        case h4_17 => (intro w; go_simp; (try with_reducible rfl))
        try simp only [Act.put, List.setIfInBounds_toArray, List.set_cons_zero, List.set_cons_succ]
        refine wpAnyIn_ready (rs := [5, 6]) (by kernel_rfl) (by simp) ?_
        refine AllReadyIn.cons (o := { dst := some 19, op := Op.load 34 (Operand.tmp 18), type := 34, pos := "bitmap.go:95", after := #[{ on := 4, ground := Ground.data }], guard := none }) rfl (fun K hK => ?_) ?_
        · go_simp
          refine hK _ _ ?_; clear hK K
          try simp only [Act.put, List.setIfInBounds_toArray, List.set_cons_zero, List.set_cons_succ]
          refine wpAnyIn_ready (rs := [6]) (by kernel_rfl) (by simp) ?_
          refine AllReadyIn.cons (o := { dst := some 20, op := Op.load 84 (Operand.tmp 1), type := 84, pos := "bitmap.go:95", after := #[], guard := none }) rfl (fun K hK => ?_) ?_
          · go_simp
            refine hK _ _ ?_; clear hK K
            try simp only [Act.put, List.setIfInBounds_toArray, List.set_cons_zero, List.set_cons_succ]
            refine wpAnyIn_take (i := 7) (oi := { dst := some 21, op := Op.nilCheck (Operand.tmp 20), type := 0, pos := "bitmap.go:95", after := #[{ on := 6, ground := Ground.data }], guard := none }) (v := ?v7_30) rfl rfl (by kernel_rfl) (by kernel_rfl) (by kernel_rfl) (fun _ _ _ h => h) ⟨Or.inl ⟨by rfl, ?h7_30⟩, fun _ => rfl⟩ ?_
            case h7_30 => (intro w; go_simp; (try with_reducible rfl))
            try simp only [Act.put, List.setIfInBounds_toArray, List.set_cons_zero, List.set_cons_succ]
            refine wpAnyIn_take (i := 8) (oi := { dst := some 22, op := Op.fieldAddr 114 (Operand.tmp 21) 1, type := 0, pos := "bitmap.go:95", after := #[{ on := 7, ground := Ground.data }], guard := none }) (v := ?v8_33) rfl rfl (by kernel_rfl) (by kernel_rfl) (by kernel_rfl) (fun _ _ _ h => h) ⟨Or.inl ⟨by rfl, ?h8_33⟩, fun _ => rfl⟩ ?_
            case h8_33 => (intro w; go_simp; (try with_reducible rfl))
            try simp only [Act.put, List.setIfInBounds_toArray, List.set_cons_zero, List.set_cons_succ]
            refine wpAnyIn_ready (rs := [9]) (by kernel_rfl) (by simp) ?_
            refine AllReadyIn.cons (o := { dst := some 23, op := Op.load 3 (Operand.tmp 22), type := 3, pos := "bitmap.go:95", after := #[{ on := 8, ground := Ground.data }], guard := none }) rfl (fun K hK => ?_) ?_
            · go_simp
              refine hK _ _ ?_; clear hK K
              try simp only [Act.put, List.setIfInBounds_toArray, List.set_cons_zero, List.set_cons_succ]
              refine wpAnyIn_take (i := 11) (oi := { dst := some 25, op := Op.binOp BinOp.add 3 (Operand.tmp 23) (Operand.tmp 24) 3, type := 3, pos := "bitmap.go:95", after := #[{ on := 9, ground := Ground.data }, { on := 10, ground := Ground.data }], guard := none }) (v := ?v11_41) rfl rfl (by kernel_rfl) (by kernel_rfl) (by kernel_rfl) (fun _ _ _ h => h) ⟨Or.inl ⟨by rfl, ?h11_41⟩, fun _ => rfl⟩ ?_
              case h11_41 => (intro w; go_simp; (try with_reducible rfl))
              try simp only [Act.put, List.setIfInBounds_toArray, List.set_cons_zero, List.set_cons_succ]
              refine wpAnyIn_ready (rs := [12]) (by kernel_rfl) (by simp) ?_
              refine AllReadyIn.cons (o := { dst := some 26, op := Op.call { callee := Callee.value (Operand.func 77), args := #[Operand.tmp 19, Operand.tmp 25], argTypes := #[34, 3] }, type := 31, pos := "bitmap.go:95", after := #[{ on := 5, ground := Ground.data }, { on := 11, ground := Ground.data }], guard := none }) rfl (fun K hK => ?_) AllReadyIn.nil
              gi_wp2_with (refine ⟨trivial, fun h => (by cases h), (callsIn_wide.2 HG.out).mono ?_⟩; rintro e w5 ⟨rfl, rfl⟩)
              refine wpAnyIn_ready (rs := [13]) (by kernel_rfl) (by simp) ?_
              refine AllReadyIn.cons (o := { dst := some 27, op := Op.call { callee := Callee.value (Operand.tmp 14), args := #[Operand.tmp 15, Operand.tmp 26], argTypes := #[3, 31] }, type := 4, pos := "bitmap.go:95", after := #[{ on := 0, ground := Ground.data }, { on := 1, ground := Ground.data }, { on := 12, ground := Ground.data }, { on := 12, ground := Ground.chain }], guard := none }) rfl (fun K hK => ?_) AllReadyIn.nil
              go_simp
              refine ⟨fun h => (by cases h), ?_⟩
              refine hR.mono ?_
              clear hR hy HG
              rintro e W' (⟨rfl, hJ', hkp⟩ | ⟨rfl, hJx'⟩)
              · have HJ' := Lib.hid hJ'
                have HK' := Lib.hid (HKr.out.trans ⟨hkp.size, hkp.same⟩)
                clear hJ' hkp
                refine hK _ _ ?_; clear hK K
                try simp only [Act.put, List.setIfInBounds_toArray, List.set_cons_zero, List.set_cons_succ]
                refine wpAnyIn_ready (rs := [14]) (by kernel_rfl) (by simp) ?_
                refine AllReadyIn.cons (o := { dst := some 28, op := Op.unOp UnOp.not 4 (Operand.tmp 27), type := 4, pos := "bitmap.go:95", after := #[{ on := 13, ground := Ground.data }], guard := none }) rfl (fun K hK => ?_) AllReadyIn.nil
                go_simp
                refine hK _ _ ?_; clear hK K
                try simp only [Act.put, List.setIfInBounds_toArray, List.set_cons_zero, List.set_cons_succ]
                refine wpAnyIn_done (by kernel_rfl) ?_ _
                gi_wp2
                go_roundw
                case rel => exact ⟨k + 1, by omega, by go_num, Lib.hid ⟨by rw [hN1.out]; exact HJ'.out, HK'.out⟩⟩
                case measure => simp [intOf]; omega
              · have HJ' := Lib.hid hJx'
                clear hJx'
                refine hK _ _ ?_; clear hK K
                try simp only [Act.put, List.setIfInBounds_toArray, List.set_cons_zero, List.set_cons_succ]
                refine wpAnyIn_ready (rs := [14]) (by kernel_rfl) (by simp) ?_
                refine AllReadyIn.cons (o := { dst := some 28, op := Op.unOp UnOp.not 4 (Operand.tmp 27), type := 4, pos := "bitmap.go:95", after := #[{ on := 13, ground := Ground.data }], guard := none }) rfl (fun K hK => ?_) AllReadyIn.nil
                go_simp
                refine hK _ _ ?_; clear hK K
                try simp only [Act.put, List.setIfInBounds_toArray, List.set_cons_zero, List.set_cons_succ]
                refine wpAnyIn_done (by kernel_rfl) ?_ _
                gi_wp2
                refine bodyPost_ret (results_none rfl _ _ _) rfl ?_
                exact ⟨⟨_, rfl⟩, .inr ⟨_, ⟨k, hlt, rfl⟩, by rw [hN1.out]; exact HJ'.out⟩⟩
            exact AllReadyIn.nil
          exact AllReadyIn.nil
        refine AllReadyIn.cons (o := { dst := some 20, op := Op.load 84 (Operand.tmp 1), type := 84, pos := "bitmap.go:95", after := #[], guard := none }) rfl (fun K hK => ?_) ?_
        · go_simp
          refine hK _ _ ?_; clear hK K
          try simp only [Act.put, List.setIfInBounds_toArray, List.set_cons_zero, List.set_cons_succ]
          refine wpAnyIn_take (i := 7) (oi := { dst := some 21, op := Op.nilCheck (Operand.tmp 20), type := 0, pos := "bitmap.go:95", after := #[{ on := 6, ground := Ground.data }], guard := none }) (v := ?v7_51) rfl rfl (by kernel_rfl) (by kernel_rfl) (by kernel_rfl) (fun _ _ _ h => h) ⟨Or.inl ⟨by rfl, ?h7_51⟩, fun _ => rfl⟩ ?_
          case h7_51 => (intro w; go_simp; (try with_reducible rfl))
          try simp only [Act.put, List.setIfInBounds_toArray, List.set_cons_zero, List.set_cons_succ]
          refine wpAnyIn_take (i := 8) (oi := { dst := some 22, op := Op.fieldAddr 114 (Operand.tmp 21) 1, type := 0, pos := "bitmap.go:95", after := #[{ on := 7, ground := Ground.data }], guard := none }) (v := ?v8_54) rfl rfl (by kernel_rfl) (by kernel_rfl) (by kernel_rfl) (fun _ _ _ h => h) ⟨Or.inl ⟨by rfl, ?h8_54⟩, fun _ => rfl⟩ ?_
          case h8_54 => (intro w; go_simp; (try with_reducible rfl))
          try simp only [Act.put, List.setIfInBounds_toArray, List.set_cons_zero, List.set_cons_succ]
          refine wpAnyIn_ready (rs := [5, 9]) (by kernel_rfl) (by simp) ?_
          refine AllReadyIn.cons (o := { dst := some 19, op := Op.load 34 (Operand.tmp 18), type := 34, pos := "bitmap.go:95", after := #[{ on := 4, ground := Ground.data }], guard := none }) rfl (fun K hK => ?_) ?_
          · go_simp
            refine hK _ _ ?_; clear hK K
            try simp only [Act.put, List.setIfInBounds_toArray, List.set_cons_zero, List.set_cons_succ]
            refine wpAnyIn_ready (rs := [9]) (by kernel_rfl) (by simp) ?_
            refine AllReadyIn.cons (o := { dst := some 23, op := Op.load 3 (Operand.tmp 22), type := 3, pos := "bitmap.go:95", after := #[{ on := 8, ground := Ground.data }], guard := none }) rfl (fun K hK => ?_) ?_
            · go_simp
              refine hK _ _ ?_; clear hK K
              try simp only [Act.put, List.setIfInBounds_toArray, List.set_cons_zero, List.set_cons_succ]
              refine wpAnyIn_take (i := 11) (oi := { dst := some 25, op := Op.binOp BinOp.add 3 (Operand.tmp 23) (Operand.tmp 24) 3, type := 3, pos := "bitmap.go:95", after := #[{ on := 9, ground := Ground.data }, { on := 10, ground := Ground.data }], guard := none }) (v := ?v11_67) rfl rfl (by kernel_rfl) (by kernel_rfl) (by kernel_rfl) (fun _ _ _ h => h) ⟨Or.inl ⟨by rfl, ?h11_67⟩, fun _ => rfl⟩ ?_
              case h11_67 => (intro w; go_simp; (try with_reducible rfl))
              try simp only [Act.put, List.setIfInBounds_toArray, List.set_cons_zero, List.set_cons_succ]
              refine wpAnyIn_ready (rs := [12]) (by kernel_rfl) (by simp) ?_
              refine AllReadyIn.cons (o := { dst := some 26, op := Op.call { callee := Callee.value (Operand.func 77), args := #[Operand.tmp 19, Operand.tmp 25], argTypes := #[34, 3] }, type := 31, pos := "bitmap.go:95", after := #[{ on := 5, ground := Ground.data }, { on := 11, ground := Ground.data }], guard := none }) rfl (fun K hK => ?_) AllReadyIn.nil
              gi_wp2_with (refine ⟨trivial, fun h => (by cases h), (callsIn_wide.2 HG.out).mono ?_⟩; rintro e w5 ⟨rfl, rfl⟩)
              refine wpAnyIn_ready (rs := [13]) (by kernel_rfl) (by simp) ?_
              refine AllReadyIn.cons (o := { dst := some 27, op := Op.call { callee := Callee.value (Operand.tmp 14), args := #[Operand.tmp 15, Operand.tmp 26], argTypes := #[3, 31] }, type := 4, pos := "bitmap.go:95", after := #[{ on := 0, ground := Ground.data }, { on := 1, ground := Ground.data }, { on := 12, ground := Ground.data }, { on := 12, ground := Ground.chain }], guard := none }) rfl (fun K hK => ?_) AllReadyIn.nil
              go_simp
              refine ⟨fun h => (by cases h), ?_⟩
              refine hR.mono ?_
              clear hR hy HG
              rintro e W' (⟨rfl, hJ', hkp⟩ | ⟨rfl, hJx'⟩)
              · have HJ' := Lib.hid hJ'
                have HK' := Lib.hid (HKr.out.trans ⟨hkp.size, hkp.same⟩)
                clear hJ' hkp
                refine hK _ _ ?_; clear hK K
                try simp only [Act.put, List.setIfInBounds_toArray, List.set_cons_zero, List.set_cons_succ]
                refine wpAnyIn_ready (rs := [14]) (by kernel_rfl) (by simp) ?_
                refine AllReadyIn.cons (o := { dst := some 28, op := Op.unOp UnOp.not 4 (Operand.tmp 27), type := 4, pos := "bitmap.go:95", after := #[{ on := 13, ground := Ground.data }], guard := none }) rfl (fun K hK => ?_) AllReadyIn.nil
                go_simp
                refine hK _ _ ?_; clear hK K
                try simp only [Act.put, List.setIfInBounds_toArray, List.set_cons_zero, List.set_cons_succ]
                refine wpAnyIn_done (by kernel_rfl) ?_ _
                gi_wp2
                go_roundw
                case rel => exact ⟨k + 1, by omega, by go_num, Lib.hid ⟨by rw [hN1.out]; exact HJ'.out, HK'.out⟩⟩
                case measure => simp [intOf]; omega
              · have HJ' := Lib.hid hJx'
                clear hJx'
                refine hK _ _ ?_; clear hK K
                try simp only [Act.put, List.setIfInBounds_toArray, List.set_cons_zero, List.set_cons_succ]
                refine wpAnyIn_ready (rs := [14]) (by kernel_rfl) (by simp) ?_
                refine AllReadyIn.cons (o := { dst := some 28, op := Op.unOp UnOp.not 4 (Operand.tmp 27), type := 4, pos := "bitmap.go:95", after := #[{ on := 13, ground := Ground.data }], guard := none }) rfl (fun K hK => ?_) AllReadyIn.nil
                go_simp
                refine hK _ _ ?_; clear hK K
                try simp only [Act.put, List.setIfInBounds_toArray, List.set_cons_zero, List.set_cons_succ]
                refine wpAnyIn_done (by kernel_rfl) ?_ _
                gi_wp2
                refine bodyPost_ret (results_none rfl _ _ _) rfl ?_
                exact ⟨⟨_, rfl⟩, .inr ⟨_, ⟨k, hlt, rfl⟩, by rw [hN1.out]; exact HJ'.out⟩⟩
            exact AllReadyIn.nil
          refine AllReadyIn.cons (o := { dst := some 23, op := Op.load 3 (Operand.tmp 22), type := 3, pos := "bitmap.go:95", after := #[{ on := 8, ground := Ground.data }], guard := none }) rfl (fun K hK => ?_) ?_
          · go_simp
            refine hK _ _ ?_; clear hK K
            try simp only [Act.put, List.setIfInBounds_toArray, List.set_cons_zero, List.set_cons_succ]
            refine wpAnyIn_take (i := 11) (oi := { dst := some 25, op := Op.binOp BinOp.add 3 (Operand.tmp 23) (Operand.tmp 24) 3, type := 3, pos := "bitmap.go:95", after := #[{ on := 9, ground := Ground.data }, { on := 10, ground := Ground.data }], guard := none }) (v := ?v11_76) rfl rfl (by kernel_rfl) (by kernel_rfl) (by kernel_rfl) (fun _ _ _ h => h) ⟨Or.inl ⟨by rfl, ?h11_76⟩, fun _ => rfl⟩ ?_
            case h11_76 => (intro w; go_simp; (try with_reducible rfl))
            try simp only [Act.put, List.setIfInBounds_toArray, List.set_cons_zero, List.set_cons_succ]
            refine wpAnyIn_ready (rs := [5]) (by kernel_rfl) (by simp) ?_
            refine AllReadyIn.cons (o := { dst := some 19, op := Op.load 34 (Operand.tmp 18), type := 34, pos := "bitmap.go:95", after := #[{ on := 4, ground := Ground.data }], guard := none }) rfl (fun K hK => ?_) ?_
            · go_simp
              refine hK _ _ ?_; clear hK K
              try simp only [Act.put, List.setIfInBounds_toArray, List.set_cons_zero, List.set_cons_succ]
              refine wpAnyIn_ready (rs := [12]) (by kernel_rfl) (by simp) ?_
              refine AllReadyIn.cons (o := { dst := some 26, op := Op.call { callee := Callee.value (Operand.func 77), args := #[Operand.tmp 19, Operand.tmp 25], argTypes := #[34, 3] }, type := 31, pos := "bitmap.go:95", after := #[{ on := 5, ground := Ground.data }, { on := 11, ground := Ground.data }], guard := none }) rfl (fun K hK => ?_) AllReadyIn.nil
              gi_wp2_with (refine ⟨trivial, fun h => (by cases h), (callsIn_wide.2 HG.out).mono ?_⟩; rintro e w5 ⟨rfl, rfl⟩)
              refine wpAnyIn_ready (rs := [13]) (by kernel_rfl) (by simp) ?_
              refine AllReadyIn.cons (o := { dst := some 27, op := Op.call { callee := Callee.value (Operand.tmp 14), args := #[Operand.tmp 15, Operand.tmp 26], argTypes := #[3, 31] }, type := 4, pos := "bitmap.go:95", after := #[{ on := 0, ground := Ground.data }, { on := 1, ground := Ground.data }, { on := 12, ground := Ground.data }, { on := 12, ground := Ground.chain }], guard := none }) rfl (fun K hK => ?_) AllReadyIn.nil
              go_simp
              refine ⟨fun h => (by cases h), ?_⟩
              refine hR.mono ?_
              clear hR hy HG
              rintro e W' (⟨rfl, hJ', hkp⟩ | ⟨rfl, hJx'⟩)
              · have HJ' := Lib.hid hJ'
                have HK' := Lib.hid (HKr.out.trans ⟨hkp.size, hkp.same⟩)
                clear hJ' hkp
                refine hK _ _ ?_; clear hK K
                try simp only [Act.put, List.setIfInBounds_toArray, List.set_cons_zero, List.set_cons_succ]
                refine wpAnyIn_ready (rs := [14]) (by kernel_rfl) (by simp) ?_
                refine AllReadyIn.cons (o := { dst := some 28, op := Op.unOp UnOp.not 4 (Operand.tmp 27), type := 4, pos := "bitmap.go:95", after := #[{ on := 13, ground := Ground.data }], guard := none }) rfl (fun K hK => ?_) AllReadyIn.nil
                go_simp
                refine hK _ _ ?_; clear hK K
                try simp only [Act.put, List.setIfInBounds_toArray, List.set_cons_zero, List.set_cons_succ]
                refine wpAnyIn_done (by kernel_rfl) ?_ _
                gi_wp2
                go_roundw
                case rel => exact ⟨k + 1, by omega, by go_num, Lib.hid ⟨by rw [hN1.out]; exact HJ'.out, HK'.out⟩⟩
                case measure => simp [intOf]; omega
              · have HJ' := Lib.hid hJx'
                clear hJx'
                refine hK _ _ ?_; clear hK K
                try simp only [Act.put, List.setIfInBounds_toArray, List.set_cons_zero, List.set_cons_succ]
                refine wpAnyIn_ready (rs := [14]) (by kernel_rfl) (by simp) ?_
                refine AllReadyIn.cons (o := { dst := some 28, op := Op.unOp UnOp.not 4 (Operand.tmp 27), type := 4, pos := "bitmap.go:95", after := #[{ on := 13, ground := Ground.data }], guard := none }) rfl (fun K hK => ?_) AllReadyIn.nil
                go_simp
                refine hK _ _ ?_; clear hK K
                try simp only [Act.put, List.setIfInBounds_toArray, List.set_cons_zero, List.set_cons_succ]
                refine wpAnyIn_done (by kernel_rfl) ?_ _
                gi_wp2
                refine bodyPost_ret (results_none rfl _ _ _) rfl ?_
                exact ⟨⟨_, rfl⟩, .inr ⟨_, ⟨k, hlt, rfl⟩, by rw [hN1.out]; exact HJ'.out⟩⟩
            exact AllReadyIn.nil
          exact AllReadyIn.nil
        exact AllReadyIn.nil
      refine AllReadyIn.cons (o := { dst := some 20, op := Op.load 84 (Operand.tmp 1), type := 84, pos := "bitmap.go:95", after := #[], guard := none }) rfl (fun K hK => ?_) ?_
      · go_simp
        refine hK _ _ ?_; clear hK K
        try simp only [Act.put, List.setIfInBounds_toArray, List.set_cons_zero, List.set_cons_succ]
        refine wpAnyIn_take (i := 7) (oi := { dst := some 21, op := Op.nilCheck (Operand.tmp 20), type := 0, pos := "bitmap.go:95", after := #[{ on := 6, ground := Ground.data }], guard := none }) (v := ?v7_92) rfl rfl (by kernel_rfl) (by kernel_rfl) (by kernel_rfl) (fun _ _ _ h => h) ⟨Or.inl ⟨by rfl, ?h7_92⟩, fun _ => rfl⟩ ?_
        case h7_92 => (intro w; go_simp; (try with_reducible rfl))
        try simp only [Act.put, List.setIfInBounds_toArray, List.set_cons_zero, List.set_cons_succ]
        refine wpAnyIn_take (i := 8) (oi := { dst := some 22, op := Op.fieldAddr 114 (Operand.tmp 21) 1, type := 0, pos := "bitmap.go:95", after := #[{ on := 7, ground := Ground.data }], guard := none }) (v := ?v8_95) rfl rfl (by kernel_rfl) (by kernel_rfl) (by kernel_rfl) (fun _ _ _ h => h) ⟨Or.inl ⟨by rfl, ?h8_95⟩, fun _ => rfl⟩ ?_
        case h8_95 => (intro w; go_simp; (try with_reducible rfl))
        try simp only [Act.put, List.setIfInBounds_toArray, List.set_cons_zero, List.set_cons_succ]
        refine wpAnyIn_ready (rs := [2, 9]) (by kernel_rfl) (by simp) ?_
        refine AllReadyIn.cons (o := { dst := some 16, op := Op.load 84 (Operand.tmp 1), type := 84, pos := "bitmap.go:95", after := #[], guard := none }) rfl (fun K hK => ?_) ?_
        · go_simp
          refine hK _ _ ?_; clear hK K
          try simp only [Act.put, List.setIfInBounds_toArray, List.set_cons_zero, List.set_cons_succ]
          refine wpAnyIn_take (i := 3) (oi := { dst := some 17, op := Op.nilCheck (Operand.tmp 16), type := 0, pos := "bitmap.go:95", after := #[{ on := 2, ground := Ground.data }], guard := none }) (v := ?v3_103) rfl rfl (by kernel_rfl) (by kernel_rfl) (by kernel_rfl) (fun _ _ _ h => h) ⟨Or.inl ⟨by rfl, ?h3_103⟩, fun _ => rfl⟩ ?_
          case h3_103 => (intro w; go_simp; (try with_reducible rfl))
          try simp only [Act.put, List.setIfInBounds_toArray, List.set_cons_zero, List.set_cons_succ]
          refine wpAnyIn_take (i := 4) (oi := { dst := some 18, op := Op.fieldAddr 114 (Operand.tmp 17) 0, type := 0, pos := "bitmap.go:95", after := #[{ on := 3, ground := Ground.data }], guard := none }) (v := ?v4_106) rfl rfl (by kernel_rfl) (by kernel_rfl) (by kernel_rfl) (fun _ _ _ h => h) ⟨Or.inl ⟨by rfl, ?h4_106⟩, fun _ => rfl⟩ ?_
          case h4_106 => (intro w; go_simp; (try with_reducible rfl))
          try simp only [Act.put, List.setIfInBounds_toArray, List.set_cons_zero, List.set_cons_succ]
          refine wpAnyIn_ready (rs := [5, 9]) (by kernel_rfl) (by simp) ?_
          refine AllReadyIn.cons (o := { dst := some 19, op := Op.load 34 (Operand.tmp 18), type := 34, pos := "bitmap.go:95", after := #[{ on := 4, ground := Ground.data }], guard := none }) rfl (fun K hK => ?_) ?_
          · go_simp
            refine hK _ _ ?_; clear hK K
            try simp only [Act.put, List.setIfInBounds_toArray, List.set_cons_zero, List.set_cons_succ]
            refine wpAnyIn_ready (rs := [9]) (by kernel_rfl) (by simp) ?_
            refine AllReadyIn.cons (o := { dst := some 23, op := Op.load 3 (Operand.tmp 22), type := 3, pos := "bitmap.go:95", after := #[{ on := 8, ground := Ground.data }], guard := none }) rfl (fun K hK => ?_) ?_
            · go_simp
              refine hK _ _ ?_; clear hK K
              try simp only [Act.put, List.setIfInBounds_toArray, List.set_cons_zero, List.set_cons_succ]
              refine wpAnyIn_take (i := 11) (oi := { dst := some 25, op := Op.binOp BinOp.add 3 (Operand.tmp 23) (Operand.tmp 24) 3, type := 3, pos := "bitmap.go:95", after := #[{ on := 9, ground := Ground.data }, { on := 10, ground := Ground.data }], guard := none }) (v := ?v11_119) rfl rfl (by kernel_rfl) (by kernel_rfl) (by kernel_rfl) (fun _ _ _ h => h) ⟨Or.inl ⟨by rfl, ?h11_119⟩, fun _ => rfl⟩ ?_
              case h11_119 => (intro w; go_simp; (try with_reducible rfl))
              try simp only [Act.put, List.setIfInBounds_toArray, List.set_cons_zero, List.set_cons_succ]
              refine wpAnyIn_ready (rs := [12]) (by kernel_rfl) (by simp) ?_
              refine AllReadyIn.cons (o := { dst := some 26, op := Op.call { callee := Callee.value (Operand.func 77), args := #[Operand.tmp 19, Operand.tmp 25], argTypes := #[34, 3] }, type := 31, pos := "bitmap.go:95", after := #[{ on := 5, ground := Ground.data }, { on := 11, ground := Ground.data }], guard := none }) rfl (fun K hK => ?_) AllReadyIn.nil
              gi_wp2_with (refine ⟨trivial, fun h => (by cases h), (callsIn_wide.2 HG.out).mono ?_⟩; rintro e w5 ⟨rfl, rfl⟩)
              refine wpAnyIn_ready (rs := [13]) (by kernel_rfl) (by simp) ?_
              refine AllReadyIn.cons (o := { dst := some 27, op := Op.call { callee := Callee.value (Operand.tmp 14), args := #[Operand.tmp 15, Operand.tmp 26], argTypes := #[3, 31] }, type := 4, pos := "bitmap.go:95", after := #[{ on := 0, ground := Ground.data }, { on := 1, ground := Ground.data }, { on := 12, ground := Ground.data }, { on := 12, ground := Ground.chain }], guard := none }) rfl (fun K hK => ?_) AllReadyIn.nil
              go_simp
              refine ⟨fun h => (by cases h), ?_⟩
              refine hR.mono ?_
              clear hR hy HG
              rintro e W' (⟨rfl, hJ', hkp⟩ | ⟨rfl, hJx'⟩)
              · have HJ' := Lib.hid hJ'
                have HK' := Lib.hid (HKr.out.trans ⟨hkp.size, hkp.same⟩)
                clear hJ' hkp
                refine hK _ _ ?_; clear hK K
                try simp only [Act.put, List.setIfInBounds_toArray, List.set_cons_zero, List.set_cons_succ]
                refine wpAnyIn_ready (rs := [14]) (by kernel_rfl) (by simp) ?_
                refine AllReadyIn.cons (o := { dst := some 28, op := Op.unOp UnOp.not 4 (Operand.tmp 27), type := 4, pos := "bitmap.go:95", after := #[{ on := 13, ground := Ground.data }], guard := none }) rfl (fun K hK => ?_) AllReadyIn.nil
                go_simp
                refine hK _ _ ?_; clear hK K
                try simp only [Act.put, List.setIfInBounds_toArray, List.set_cons_zero, List.set_cons_succ]
                refine wpAnyIn_done (by kernel_rfl) ?_ _
                gi_wp2
                go_roundw
                case rel => exact ⟨k + 1, by omega, by go_num, Lib.hid ⟨by rw [hN1.out]; exact HJ'.out, HK'.out⟩⟩
                case measure => simp [intOf]; omega
              · have HJ' := Lib.hid hJx'
                clear hJx'
                refine hK _ _ ?_; clear hK K
                try simp only [Act.put, List.setIfInBounds_toArray, List.set_cons_zero, List.set_cons_succ]
                refine wpAnyIn_ready (rs := [14]) (by kernel_rfl) (by simp) ?_
                refine AllReadyIn.cons (o := { dst := some 28, op := Op.unOp UnOp.not 4 (Operand.tmp 27), type := 4, pos := "bitmap.go:95", after := #[{ on := 13, ground := Ground.data }], guard := none }) rfl (fun K hK => ?_) AllReadyIn.nil
                go_simp
                refine hK _ _ ?_; clear hK K
                try simp only [Act.put, List.setIfInBounds_toArray, List.set_cons_zero, List.set_cons_succ]
                refine wpAnyIn_done (by kernel_rfl) ?_ _
                gi_wp2
                refine bodyPost_ret (results_none rfl _ _ _) rfl ?_
                exact ⟨⟨_, rfl⟩, .inr ⟨_, ⟨k, hlt, rfl⟩, by rw [hN1.out]; exact HJ'.out⟩⟩
            exact AllReadyIn.nil
          refine AllReadyIn.cons (o := { dst := some 23, op := Op.load 3 (Operand.tmp 22), type := 3, pos := "bitmap.go:95", after := #[{ on := 8, ground := Ground.data }], guard := none }) rfl (fun K hK => ?_) ?_
          · go_simp
            refine hK _ _ ?_; clear hK K
            try simp only [Act.put, List.setIfInBounds_toArray, List.set_cons_zero, List.set_cons_succ]
            refine wpAnyIn_take (i := 11) (oi := { dst := some 25, op := Op.binOp BinOp.add 3 (Operand.tmp 23) (Operand.tmp 24) 3, type := 3, pos := "bitmap.go:95", after := #[{ on := 9, ground := Ground.data }, { on := 10, ground := Ground.data }], guard := none }) (v := ?v11_128) rfl rfl (by kernel_rfl) (by kernel_rfl) (by kernel_rfl) (fun _ _ _ h => h) ⟨Or.inl ⟨by rfl, ?h11_128⟩, fun _ => rfl⟩ ?_
            case h11_128 => (intro w; go_simp; (try with_reducible rfl))
            try simp only [Act.put, List.setIfInBounds_toArray, List.set_cons_zero, List.set_cons_succ]
            refine wpAnyIn_ready (rs := [5]) (by kernel_rfl) (by simp) ?_
            refine AllReadyIn.cons (o := { dst := some 19, op := Op.load 34 (Operand.tmp 18), type := 34, pos := "bitmap.go:95", after := #[{ on := 4, ground := Ground.data }], guard := none }) rfl (fun K hK => ?_) ?_
            · go_simp
              refine hK _ _ ?_; clear hK K
              try simp only [Act.put, List.setIfInBounds_toArray, List.set_cons_zero, List.set_cons_succ]
              refine wpAnyIn_ready (rs := [12]) (by kernel_rfl) (by simp) ?_
              refine AllReadyIn.cons (o := { dst := some 26, op := Op.call { callee := Callee.value (Operand.func 77), args := #[Operand.tmp 19, Operand.tmp 25], argTypes := #[34, 3] }, type := 31, pos := "bitmap.go:95", after := #[{ on := 5, ground := Ground.data }, { on := 11, ground := Ground.data }], guard := none }) rfl (fun K hK => ?_) AllReadyIn.nil
              gi_wp2_with (refine ⟨trivial, fun h => (by cases h), (callsIn_wide.2 HG.out).mono ?_⟩; rintro e w5 ⟨rfl, rfl⟩)
              refine wpAnyIn_ready (rs := [13]) (by kernel_rfl) (by simp) ?_
              refine AllReadyIn.cons (o := { dst := some 27, op := Op.call { callee := Callee.value (Operand.tmp 14), args := #[Operand.tmp 15, Operand.tmp 26], argTypes := #[3, 31] }, type := 4, pos := "bitmap.go:95", after := #[{ on := 0, ground := Ground.data }, { on := 1, ground := Ground.data }, { on := 12, ground := Ground.data }, { on := 12, ground := Ground.chain }], guard := none }) rfl (fun K hK => ?_) AllReadyIn.nil
              go_simp
              refine ⟨fun h => (by cases h), ?_⟩
              refine hR.mono ?_
              clear hR hy HG
              rintro e W' (⟨rfl, hJ', hkp⟩ | ⟨rfl, hJx'⟩)
              · have HJ' := Lib.hid hJ'
                have HK' := Lib.hid (HKr.out.trans ⟨hkp.size, hkp.same⟩)
                clear hJ' hkp
                refine hK _ _ ?_; clear hK K
                try simp only [Act.put, List.setIfInBounds_toArray, List.set_cons_zero, List.set_cons_succ]
                refine wpAnyIn_ready (rs := [14]) (by kernel_rfl) (by simp) ?_
                refine AllReadyIn.cons (o := { dst := some 28, op := Op.unOp UnOp.not 4 (Operand.tmp 27), type := 4, pos := "bitmap.go:95", after := #[{ on := 13, ground := Ground.data }], guard := none }) rfl (fun K hK => ?_) AllReadyIn.nil
                go_simp
                refine hK _ _ ?_; clear hK K
                try simp only [Act.put, List.setIfInBounds_toArray, List.set_cons_zero, List.set_cons_succ]
                refine wpAnyIn_done (by kernel_rfl) ?_ _
                gi_wp2
                go_roundw
                case rel => exact ⟨k + 1, by omega, by go_num, Lib.hid ⟨by rw [hN1.out]; exact HJ'.out, HK'.out⟩⟩
                case measure => simp [intOf]; omega
              · have HJ' := Lib.hid hJx'
                clear hJx'
                refine hK _ _ ?_; clear hK K
                try simp only [Act.put, List.setIfInBounds_toArray, List.set_cons_zero, List.set_cons_succ]
                refine wpAnyIn_ready (rs := [14]) (by kernel_rfl) (by simp) ?_
                refine AllReadyIn.cons (o := { dst := some 28, op := Op.unOp UnOp.not 4 (Operand.tmp 27), type := 4, pos := "bitmap.go:95", after := #[{ on := 13, ground := Ground.data }], guard := none }) rfl (fun K hK => ?_) AllReadyIn.nil
                go_simp
                refine hK _ _ ?_; clear hK K
                try simp only [Act.put, List.setIfInBounds_toArray, List.set_cons_zero, List.set_cons_succ]
                refine wpAnyIn_done (by kernel_rfl) ?_ _
                gi_wp2
                refine bodyPost_ret (results_none rfl _ _ _) rfl ?_
                exact ⟨⟨_, rfl⟩, .inr ⟨_, ⟨k, hlt, rfl⟩, by rw [hN1.out]; exact HJ'.out⟩⟩
            exact AllReadyIn.nil
          exact AllReadyIn.nil
        refine AllReadyIn.cons (o := { dst := some 23, op := Op.load 3 (Operand.tmp 22), type := 3, pos := "bitmap.go:95", after := #[{ on := 8, ground := Ground.data }], guard := none }) rfl (fun K hK => ?_) ?_
        · go_simp
          refine hK _ _ ?_; clear hK K
          try simp only [Act.put, List.setIfInBounds_toArray, List.set_cons_zero, List.set_cons_succ]
          refine wpAnyIn_take (i := 11) (oi := { dst := some 25, op := Op.binOp BinOp.add 3 (Operand.tmp 23) (Operand.tmp 24) 3, type := 3, pos := "bitmap.go:95", after := #[{ on := 9, ground := Ground.data }, { on := 10, ground := Ground.data }], guard := none }) (v := ?v11_143) rfl rfl (by kernel_rfl) (by kernel_rfl) (by kernel_rfl) (fun _ _ _ h => h) ⟨Or.inl ⟨by rfl, ?h11_143⟩, fun _ => rfl⟩ ?_
          case h11_143 => (intro w; go_simp; (try with_reducible rfl))
          try simp only [Act.put, List.setIfInBounds_toArray, List.set_cons_zero, List.set_cons_succ]
          refine wpAnyIn_ready (rs := [2]) (by kernel_rfl) (by simp) ?_
          refine AllReadyIn.cons (o := { dst := some 16, op := Op.load 84 (Operand.tmp 1), type := 84, pos := "bitmap.go:95", after := #[], guard := none }) rfl (fun K hK => ?_) ?_
          · go_simp
            refine hK _ _ ?_; clear hK K
            try simp only [Act.put, List.setIfInBounds_toArray, List.set_cons_zero, List.set_cons_succ]
            refine wpAnyIn_take (i := 3) (oi := { dst := some 17, op := Op.nilCheck (Operand.tmp 16), type := 0, pos := "bitmap.go:95", after := #[{ on := 2, ground := Ground.data }], guard := none }) (v := ?v3_151) rfl rfl (by kernel_rfl) (by kernel_rfl) (by kernel_rfl) (fun _ _ _ h => h) ⟨Or.inl ⟨by rfl, ?h3_151⟩, fun _ => rfl⟩ ?_
            case h3_151 => (intro w; go_simp; (try with_reducible rfl))
            try simp only [Act.put, List.setIfInBounds_toArray, List.set_cons_zero, List.set_cons_succ]
            refine wpAnyIn_take (i := 4) (oi := { dst := some 18, op := Op.fieldAddr 114 (Operand.tmp 17) 0, type := 0, pos := "bitmap.go:95", after := #[{ on := 3, ground := Ground.data }], guard := none }) (v := ?v4_154) rfl rfl (by kernel_rfl) (by kernel_rfl) (by kernel_rfl) (fun _ _ _ h => h) ⟨Or.inl ⟨by rfl, ?h4_154⟩, fun _ => rfl⟩ ?_
            case h4_154 => (intro w; go_simp; (try with_reducible rfl))
            try simp only [Act.put, List.setIfInBounds_toArray, List.set_cons_zero, List.set_cons_succ]
            refine wpAnyIn_ready (rs := [5]) (by kernel_rfl) (by simp) ?_
            refine AllReadyIn.cons (o := { dst := some 19, op := Op.load 34 (Operand.tmp 18), type := 34, pos := "bitmap.go:95", after := #[{ on := 4, ground := Ground.data }], guard := none }) rfl (fun K hK => ?_) ?_
            · go_simp
              refine hK _ _ ?_; clear hK K
              try simp only [Act.put, List.setIfInBounds_toArray, List.set_cons_zero, List.set_cons_succ]
              refine wpAnyIn_ready (rs := [12]) (by kernel_rfl) (by simp) ?_
              refine AllReadyIn.cons (o := { dst := some 26, op := Op.call { callee := Callee.value (Operand.func 77), args := #[Operand.tmp 19, Operand.tmp 25], argTypes := #[34, 3] }, type := 31, pos := "bitmap.go:95", after := #[{ on := 5, ground := Ground.data }, { on := 11, ground := Ground.data }], guard := none }) rfl (fun K hK => ?_) AllReadyIn.nil
              gi_wp2_with (refine ⟨trivial, fun h => (by cases h), (callsIn_wide.2 HG.out).mono ?_⟩; rintro e w5 ⟨rfl, rfl⟩)
              refine wpAnyIn_ready (rs := [13]) (by kernel_rfl) (by simp) ?_
              refine AllReadyIn.cons (o := { dst := some 27, op := Op.call { callee := Callee.value (Operand.tmp 14), args := #[Operand.tmp 15, Operand.tmp 26], argTypes := #[3, 31] }, type := 4, pos := "bitmap.go:95", after := #[{ on := 0, ground := Ground.data }, { on := 1, ground := Ground.data }, { on := 12, ground := Ground.data }, { on := 12, ground := Ground.chain }], guard := none }) rfl (fun K hK => ?_) AllReadyIn.nil
              go_simp
              refine ⟨fun h => (by cases h), ?_⟩
              refine hR.mono ?_
              clear hR hy HG
              rintro e W' (⟨rfl, hJ', hkp⟩ | ⟨rfl, hJx'⟩)
              · have HJ' := Lib.hid hJ'
                have HK' := Lib.hid (HKr.out.trans ⟨hkp.size, hkp.same⟩)
                clear hJ' hkp
                refine hK _ _ ?_; clear hK K
                try simp only [Act.put, List.setIfInBounds_toArray, List.set_cons_zero, List.set_cons_succ]
                refine wpAnyIn_ready (rs := [14]) (by kernel_rfl) (by simp) ?_
                refine AllReadyIn.cons (o := { dst := some 28, op := Op.unOp UnOp.not 4 (Operand.tmp 27), type := 4, pos := "bitmap.go:95", after := #[{ on := 13, ground := Ground.data }], guard := none }) rfl (fun K hK => ?_) AllReadyIn.nil
                go_simp
                refine hK _ _ ?_; clear hK K
                try simp only [Act.put, List.setIfInBounds_toArray, List.set_cons_zero, List.set_cons_succ]
                refine wpAnyIn_done (by kernel_rfl) ?_ _
                gi_wp2
                go_roundw
                case rel => exact ⟨k + 1, by omega, by go_num, Lib.hid ⟨by rw [hN1.out]; exact HJ'.out, HK'.out⟩⟩
                case measure => simp [intOf]; omega
              · have HJ' := Lib.hid hJx'
                clear hJx'
                refine hK _ _ ?_; clear hK K
                try simp only [Act.put, List.setIfInBounds_toArray, List.set_cons_zero, List.set_cons_succ]
                refine wpAnyIn_ready (rs := [14]) (by kernel_rfl) (by simp) ?_
                refine AllReadyIn.cons (o := { dst := some 28, op := Op.unOp UnOp.not 4 (Operand.tmp 27), type := 4, pos := "bitmap.go:95", after := #[{ on := 13, ground := Ground.data }], guard := none }) rfl (fun K hK => ?_) AllReadyIn.nil
                go_simp
                refine hK _ _ ?_; clear hK K
                try simp only [Act.put, List.setIfInBounds_toArray, List.set_cons_zero, List.set_cons_succ]
                refine wpAnyIn_done (by kernel_rfl) ?_ _
                gi_wp2
                refine bodyPost_ret (results_none rfl _ _ _) rfl ?_
                exact ⟨⟨_, rfl⟩, .inr ⟨_, ⟨k, hlt, rfl⟩, by rw [hN1.out]; exact HJ'.out⟩⟩
            exact AllReadyIn.nil
          exact AllReadyIn.nil
        exact AllReadyIn.nil
      exact AllReadyIn.nil
    · obtain rfl : k = N := by omega
      have hge : ¬ ((k : Int) < (k : Int)) := by omega
      have HJ8 := Lib.hid (show J (List.finRange k) wr by have := HJr.out; rwa [List.take_of_length_le (by simp)] at this)
      clear HJr HKr HR
      gi_wp2
      go_end0
      exact ⟨⟨_, rfl⟩, .inl HJ8.out⟩
end Go.Proofs.YtdblgnccjpjabaaDoor
