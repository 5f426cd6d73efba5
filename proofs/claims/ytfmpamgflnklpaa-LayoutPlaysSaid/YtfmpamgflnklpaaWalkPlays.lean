/- LayoutPlays, walked. -/
import Derived.Test.YtfmpamgflnklpaaLayR
import Derived.Test.YtfmpamgflnklpaaGeo
namespace Go.Proofs.Ytfmpamgflnklpaa.layoutPlays
open Go.RowKit Go.Grommet

def S2 (w : World) (a b c : Int) (w' : World) : Prop :=
  w'.heap[w.heap.size]? = some (.cells #[.int .i64 a, .int .i64 b, .int .i64 c] 23 (0, 0)) ∧ w'.heap[w.heap.size + 1]? = some (.cells #[.int .i64 a, .int .i64 b, .int .i64 c] 24 (0, 0)) ∧ w.grownBy w' none
theorem S2.keep {w : World} {a b c : Int} {x y : World} (h : S2 w a b c x) (hg : x.grownBy y none) : S2 w a b c y :=
  ⟨(hg.block _ (lt_of_block h.1) (by simp)).trans h.1, (hg.block _ (lt_of_block h.2.1) (by simp)).trans h.2.1, grown_trans h.2.2 hg⟩
theorem S2.drew {w : World} {a b c : Int} {x : World} (h : S2 w a b c x) : S2 w a b c x.drew := ⟨h.1, h.2.1, grown_drew h.2.2⟩
theorem S2.facts {w : World} {a b c : Int} {x : World} (h : S2 w a b c x) : x.cell? ⟨w.heap.size, 0, none⟩ = some (.int .i64 a) ∧ x.cell? ⟨w.heap.size, 1, none⟩ = some (.int .i64 b) ∧ x.cell? ⟨w.heap.size, 2, none⟩ = some (.int .i64 c) ∧
    x.cell? ⟨w.heap.size + 1, 0, none⟩ = some (.int .i64 a) ∧ x.cell? ⟨w.heap.size + 1, 1, none⟩ = some (.int .i64 b) ∧ x.cell? ⟨w.heap.size + 1, 2, none⟩ = some (.int .i64 c) := by
  refine ⟨?_, ?_, ?_, ?_, ?_, ?_⟩ <;> simp [World.cell?, h.1, h.2.1]

set_option maxRecDepth 100000 in
set_option maxHeartbeats 8000000 in
theorem walk_at (a b c i k : Int) (w : World) : Calls Try.prog 3 #[gv a b c, .int .i64 i, .int .i64 k] w (WorksIs w) := by
  have A0 := Lib.hid (fun wx => May_any a b c wx)
  have B0 := Lib.hid (fun wx => RMay_any a b c wx)
  generalize mayB a b c = v0 at A0 B0
  have hv0 : (v0 == v0) = true := by simp
  have A1 := Lib.hid (fun wx => Words_any a b c wx)
  have B1 := Lib.hid (fun wx => RWords_any a b c wx)
  generalize wordsV a b c = v1 at A1 B1
  have A2 := Lib.hid (fun wx => SessionAt_any i wx)
  have B2 := Lib.hid (fun wx => RSessionAt_any i wx)
  generalize sessionV i = v2 at A2 B2
  have A3 := Lib.hid (fun wx => SlotAt_any i k wx)
  have B3 := Lib.hid (fun wx => RSlotAt_any i k wx)
  generalize slotV i k = v3 at A3 B3
  have A4 := Lib.hid (fun wx => DescriptorAt_any i k wx)
  have B4 := Lib.hid (fun wx => RDescriptorAt_any i k wx)
  generalize descV i k = v4 at A4 B4
  have A5 := Lib.hid (fun wx => AreaAt_any a b c i wx)
  have B5 := Lib.hid (fun wx => RAreaAt_any a b c i wx)
  generalize areaV a b c i = v5 at A5 B5
  have A6 := Lib.hid (fun wx => InodeMapAt_any a b c wx)
  have B6 := Lib.hid (fun wx => RInodeMapAt_any a b c wx)
  generalize imapV a b c = v6 at A6 B6
  have A7 := Lib.hid (fun wx => BlockMapAt_any a b c wx)
  have B7 := Lib.hid (fun wx => RBlockMapAt_any a b c wx)
  generalize bmapV a b c = v7 at A7 B7
  have A8 := Lib.hid (fun wx => InodeAt_any a b c i wx)
  have B8 := Lib.hid (fun wx => RInodeAt_any a b c i wx)
  generalize inodeV a b c i = v8 at A8 B8
  have A9 := Lib.hid (fun wx => BlockAt_any a b c i wx)
  have B9 := Lib.hid (fun wx => RBlockAt_any a b c i wx)
  generalize blockV a b c i = v9 at A9 B9
  unfold gv at A0 B0 A1 B1 A5 B5 A6 B6 A7 B7 A8 B8 A9 B9 ⊢
  have hb : ((w.alloc (.cells #[.int .i64 a, .int .i64 b, .int .i64 c] 23)).alloc (.cells #[.int .i64 a, .int .i64 b, .int .i64 c] 24)).heap[w.heap.size]? = some (.cells #[.int .i64 a, .int .i64 b, .int .i64 c] 23 (0, 0)) :=
    ((World.grownBy_alloc _ _ none).block _ (by simp) (by simp)).trans (heap_alloc_new w _)
  have hc : ((w.alloc (.cells #[.int .i64 a, .int .i64 b, .int .i64 c] 23)).alloc (.cells #[.int .i64 a, .int .i64 b, .int .i64 c] 24)).heap[w.heap.size + 1]? = some (.cells #[.int .i64 a, .int .i64 b, .int .i64 c] 24 (0, 0)) := heap_alloc_new2 w _ _
  have hg := grown_alloc2 w (.cells #[.int .i64 a, .int .i64 b, .int .i64 c] 23) (.cells #[.int .i64 a, .int .i64 b, .int .i64 c] 24)
  go_enter Try.func3, Try.ntmps3
  go_wp2_with fail
  refine wp_region_held_drew (S := fun w' => S2 w a b c w') (by kernel_rfl) (S2.drew ⟨hb, hc, hg⟩) (fun hS => ?_)
  refine wpAnyH_take (i := 0) (oi := { dst := some 9, op := Op.load 23 (Operand.tmp 3), type := 23, pos := "law.go:20", after := #[], guard := none }) (v := ?vr3r2o0) rfl (by kernel_rfl) (by kernel_rfl) (by kernel_rfl) (fun _ _ _ h => h) (Or.inl ⟨by rfl, ?hr3r2o0⟩) hS ?_
  case hr3r2o0 => (intro wx hx; obtain ⟨f0, f1, f2, e0, e1, e2⟩ := S2.facts hx; go_simp; (try with_reducible rfl))
  try simp only [Act.put, List.setIfInBounds_toArray, List.set_cons_zero, List.set_cons_succ]
  refine wpAnyH_take (i := 2) (oi := { dst := some 11, op := Op.load 24 (Operand.tmp 7), type := 24, pos := "law.go:20", after := #[], guard := none }) (v := ?vr3r2o2) rfl (by kernel_rfl) (by kernel_rfl) (by kernel_rfl) (fun _ _ _ h => h) (Or.inl ⟨by rfl, ?hr3r2o2⟩) hS ?_
  case hr3r2o2 => (intro wx hx; obtain ⟨f0, f1, f2, e0, e1, e2⟩ := S2.facts hx; go_simp; (try with_reducible rfl))
  try simp only [Act.put, List.setIfInBounds_toArray, List.set_cons_zero, List.set_cons_succ]
  refine wpAnyH_ready (rs := [1]) (by kernel_rfl) (by simp) ?_
  refine AllReadyH.cons (o := { dst := some 10, op := Op.call { callee := Callee.value (Operand.func 10), args := #[Operand.tmp 9], argTypes := #[23] }, type := 4, pos := "law.go:20", after := #[{ on := 0, ground := Ground.data }], guard := none }) rfl (fun K hK => ?_) AllReadyH.nil
  go_simp
  refine (A0.out _).mono ?_
  rintro e wA0 ⟨rfl, hgx⟩
  have hS1 := S2.keep hS hgx
  clear hgx
  refine hK.out _ _ ?hsr3r2o1 (fun hS => ?_)
  case hsr3r2o1 => (exact hS1)
  clear hK K
  try simp only [Act.put, List.setIfInBounds_toArray, List.set_cons_zero, List.set_cons_succ]
  refine wpAnyH_ready (rs := [3]) (by kernel_rfl) (by simp) ?_
  refine AllReadyH.cons (o := { dst := some 12, op := Op.call { callee := Callee.value (Operand.func 11), args := #[Operand.tmp 11], argTypes := #[24] }, type := 4, pos := "law.go:20", after := #[{ on := 2, ground := Ground.data }, { on := 1, ground := Ground.chain }], guard := none }) rfl (fun K hK => ?_) AllReadyH.nil
  go_simp
  refine (B0.out _).mono ?_
  rintro e wB0 ⟨rfl, hgx⟩
  have hS1 := S2.keep hS hgx
  clear hgx
  refine hK.out _ _ ?hsr3r2o3 (fun hS => ?_)
  case hsr3r2o3 => (exact hS1)
  clear hK K
  try simp only [Act.put, List.setIfInBounds_toArray, List.set_cons_zero, List.set_cons_succ]
  refine wpAnyH_take (i := 4) (oi := { dst := some 13, op := Op.binOp BinOp.eql 4 (Operand.tmp 10) (Operand.tmp 12) 4, type := 4, pos := "law.go:20", after := #[{ on := 1, ground := Ground.data }, { on := 3, ground := Ground.data }], guard := none }) (v := ?vr3r2o4) rfl (by kernel_rfl) (by kernel_rfl) (by kernel_rfl) (fun _ _ _ h => h) (Or.inl ⟨by rfl, ?hr3r2o4⟩) hS ?_
  case hr3r2o4 => (intro wx hx; skip; go_simp; (try with_reducible rfl))
  try simp only [Act.put, List.setIfInBounds_toArray, List.set_cons_zero, List.set_cons_succ]
  refine wpAnyH_take (i := 5) (oi := { dst := some 14, op := Op.move (Operand.tmp 13), type := 4, pos := "law.go:20", after := #[{ on := 4, ground := Ground.data }, { on := 3, ground := Ground.chain }], guard := none }) (v := ?vr3r2o5) rfl (by kernel_rfl) (by kernel_rfl) (by kernel_rfl) (fun _ _ _ h => h) (Or.inl ⟨by rfl, ?hr3r2o5⟩) hS ?_
  case hr3r2o5 => (intro wx hx; skip; go_simp; (try with_reducible rfl))
  try simp only [Act.put, List.setIfInBounds_toArray, List.set_cons_zero, List.set_cons_succ]
  refine wpAnyH_take (i := 6) (oi := { dst := some 15, op := Op.load 23 (Operand.tmp 3), type := 23, pos := "law.go:20", after := #[{ on := 5, ground := Ground.guard }], guard := some (5, true) }) (v := ?vr3r2o6) rfl (by kernel_rfl) (by kernel_rfl) (by kernel_rfl) (fun _ _ _ h => h) (Or.inl ⟨by rfl, ?hr3r2o6⟩) hS ?_
  case hr3r2o6 => (intro wx hx; obtain ⟨f0, f1, f2, e0, e1, e2⟩ := S2.facts hx; go_simp; (try with_reducible rfl))
  try simp only [Act.put, List.setIfInBounds_toArray, List.set_cons_zero, List.set_cons_succ]
  refine wpAnyH_take (i := 8) (oi := { dst := some 17, op := Op.load 24 (Operand.tmp 7), type := 24, pos := "law.go:20", after := #[{ on := 5, ground := Ground.guard }], guard := some (5, true) }) (v := ?vr3r2o8) rfl (by kernel_rfl) (by kernel_rfl) (by kernel_rfl) (fun _ _ _ h => h) (Or.inl ⟨by rfl, ?hr3r2o8⟩) hS ?_
  case hr3r2o8 => (intro wx hx; obtain ⟨f0, f1, f2, e0, e1, e2⟩ := S2.facts hx; go_simp; (try with_reducible rfl))
  try simp only [Act.put, List.setIfInBounds_toArray, List.set_cons_zero, List.set_cons_succ]
  refine wpAnyH_ready (rs := [7]) (by kernel_rfl) (by simp) ?_
  refine AllReadyH.cons (o := { dst := some 16, op := Op.call { callee := Callee.value (Operand.func 12), args := #[Operand.tmp 15], argTypes := #[23] }, type := 3, pos := "law.go:20", after := #[{ on := 6, ground := Ground.data }, { on := 5, ground := Ground.chain }, { on := 5, ground := Ground.guard }], guard := some (5, true) }) rfl (fun K hK => ?_) AllReadyH.nil
  go_simp
  refine (A1.out _).mono ?_
  rintro e wA1 ⟨rfl, hgx⟩
  have hS1 := S2.keep hS hgx
  clear hgx
  refine hK.out _ _ ?hsr3r2o7 (fun hS => ?_)
  case hsr3r2o7 => (exact hS1)
  clear hK K
  try simp only [Act.put, List.setIfInBounds_toArray, List.set_cons_zero, List.set_cons_succ]
  refine wpAnyH_ready (rs := [9]) (by kernel_rfl) (by simp) ?_
  refine AllReadyH.cons (o := { dst := some 18, op := Op.call { callee := Callee.value (Operand.func 13), args := #[Operand.tmp 17], argTypes := #[24] }, type := 3, pos := "law.go:20", after := #[{ on := 8, ground := Ground.data }, { on := 7, ground := Ground.chain }, { on := 5, ground := Ground.guard }], guard := some (5, true) }) rfl (fun K hK => ?_) AllReadyH.nil
  go_simp
  refine (B1.out _).mono ?_
  rintro e wB1 ⟨rfl, hgx⟩
  have hS1 := S2.keep hS hgx
  clear hgx
  refine hK.out _ _ ?hsr3r2o9 (fun hS => ?_)
  case hsr3r2o9 => (exact hS1)
  clear hK K
  try simp only [Act.put, List.setIfInBounds_toArray, List.set_cons_zero, List.set_cons_succ]
  refine wpAnyH_take (i := 10) (oi := { dst := some 19, op := Op.binOp BinOp.eql 3 (Operand.tmp 16) (Operand.tmp 18) 3, type := 4, pos := "law.go:20", after := #[{ on := 7, ground := Ground.data }, { on := 9, ground := Ground.data }, { on := 5, ground := Ground.guard }], guard := some (5, true) }) (v := ?vr3r2o10) rfl (by kernel_rfl) (by kernel_rfl) (by kernel_rfl) (fun _ _ _ h => h) (Or.inl ⟨by rfl, ?hr3r2o10⟩) hS ?_
  case hr3r2o10 => (intro wx hx; skip; go_simp; (try with_reducible rfl))
  try simp only [Act.put, List.setIfInBounds_toArray, List.set_cons_zero, List.set_cons_succ]
  refine wpAnyH_take (i := 11) (oi := { dst := some 20, op := Op.pick (Operand.tmp 14) (Operand.tmp 19) (Operand.const (Value.bool false)), type := 4, pos := "law.go:20", after := #[{ on := 5, ground := Ground.data }, { on := 10, ground := Ground.data }], guard := none }) (v := ?vr3r2o11) rfl (by kernel_rfl) (by kernel_rfl) (by kernel_rfl) (fun _ _ _ h => h) (Or.inl ⟨by rfl, ?hr3r2o11⟩) hS ?_
  case hr3r2o11 => (intro wx hx; skip; go_simp; (try with_reducible rfl))
  try simp only [Act.put, List.setIfInBounds_toArray, List.set_cons_zero, List.set_cons_succ]
  refine wpAnyH_take (i := 12) (oi := { dst := some 21, op := Op.move (Operand.tmp 20), type := 4, pos := "law.go:20", after := #[{ on := 11, ground := Ground.data }, { on := 9, ground := Ground.chain }], guard := none }) (v := ?vr3r2o12) rfl (by kernel_rfl) (by kernel_rfl) (by kernel_rfl) (fun _ _ _ h => h) (Or.inl ⟨by rfl, ?hr3r2o12⟩) hS ?_
  case hr3r2o12 => (intro wx hx; skip; go_simp; (try with_reducible rfl))
  try simp only [Act.put, List.setIfInBounds_toArray, List.set_cons_zero, List.set_cons_succ]
  refine wpAnyH_take (i := 13) (oi := { dst := some 22, op := Op.move (Operand.tmp 1), type := 3, pos := "law.go:20", after := #[{ on := 12, ground := Ground.guard }], guard := some (12, true) }) (v := ?vr3r2o13) rfl (by kernel_rfl) (by kernel_rfl) (by kernel_rfl) (fun _ _ _ h => h) (Or.inl ⟨by rfl, ?hr3r2o13⟩) hS ?_
  case hr3r2o13 => (intro wx hx; skip; go_simp; (try with_reducible rfl))
  try simp only [Act.put, List.setIfInBounds_toArray, List.set_cons_zero, List.set_cons_succ]
  refine wpAnyH_take (i := 15) (oi := { dst := some 24, op := Op.move (Operand.tmp 1), type := 3, pos := "law.go:20", after := #[{ on := 12, ground := Ground.guard }], guard := some (12, true) }) (v := ?vr3r2o15) rfl (by kernel_rfl) (by kernel_rfl) (by kernel_rfl) (fun _ _ _ h => h) (Or.inl ⟨by rfl, ?hr3r2o15⟩) hS ?_
  case hr3r2o15 => (intro wx hx; skip; go_simp; (try with_reducible rfl))
  try simp only [Act.put, List.setIfInBounds_toArray, List.set_cons_zero, List.set_cons_succ]
  refine wpAnyH_ready (rs := [14]) (by kernel_rfl) (by simp) ?_
  refine AllReadyH.cons (o := { dst := some 23, op := Op.call { callee := Callee.value (Operand.func 14), args := #[Operand.tmp 22], argTypes := #[3] }, type := 3, pos := "law.go:20", after := #[{ on := 13, ground := Ground.data }, { on := 12, ground := Ground.chain }, { on := 12, ground := Ground.guard }], guard := some (12, true) }) rfl (fun K hK => ?_) AllReadyH.nil
  go_simp
  refine (A2.out _).mono ?_
  rintro e wA2 ⟨rfl, hgx⟩
  have hS1 := S2.keep hS hgx
  clear hgx
  refine hK.out _ _ ?hsr3r2o14 (fun hS => ?_)
  case hsr3r2o14 => (exact hS1)
  clear hK K
  try simp only [Act.put, List.setIfInBounds_toArray, List.set_cons_zero, List.set_cons_succ]
  refine wpAnyH_ready (rs := [16]) (by kernel_rfl) (by simp) ?_
  refine AllReadyH.cons (o := { dst := some 25, op := Op.call { callee := Callee.value (Operand.func 15), args := #[Operand.tmp 24], argTypes := #[3] }, type := 3, pos := "law.go:20", after := #[{ on := 15, ground := Ground.data }, { on := 14, ground := Ground.chain }, { on := 12, ground := Ground.guard }], guard := some (12, true) }) rfl (fun K hK => ?_) AllReadyH.nil
  go_simp
  refine (B2.out _).mono ?_
  rintro e wB2 ⟨rfl, hgx⟩
  have hS1 := S2.keep hS hgx
  clear hgx
  refine hK.out _ _ ?hsr3r2o16 (fun hS => ?_)
  case hsr3r2o16 => (exact hS1)
  clear hK K
  try simp only [Act.put, List.setIfInBounds_toArray, List.set_cons_zero, List.set_cons_succ]
  refine wpAnyH_take (i := 17) (oi := { dst := some 26, op := Op.binOp BinOp.eql 3 (Operand.tmp 23) (Operand.tmp 25) 3, type := 4, pos := "law.go:20", after := #[{ on := 14, ground := Ground.data }, { on := 16, ground := Ground.data }, { on := 12, ground := Ground.guard }], guard := some (12, true) }) (v := ?vr3r2o17) rfl (by kernel_rfl) (by kernel_rfl) (by kernel_rfl) (fun _ _ _ h => h) (Or.inl ⟨by rfl, ?hr3r2o17⟩) hS ?_
  case hr3r2o17 => (intro wx hx; skip; go_simp; (try with_reducible rfl))
  try simp only [Act.put, List.setIfInBounds_toArray, List.set_cons_zero, List.set_cons_succ]
  refine wpAnyH_take (i := 18) (oi := { dst := some 27, op := Op.pick (Operand.tmp 21) (Operand.tmp 26) (Operand.const (Value.bool false)), type := 4, pos := "law.go:20", after := #[{ on := 12, ground := Ground.data }, { on := 17, ground := Ground.data }], guard := none }) (v := ?vr3r2o18) rfl (by kernel_rfl) (by kernel_rfl) (by kernel_rfl) (fun _ _ _ h => h) (Or.inl ⟨by rfl, ?hr3r2o18⟩) hS ?_
  case hr3r2o18 => (intro wx hx; skip; go_simp; (try with_reducible rfl))
  try simp only [Act.put, List.setIfInBounds_toArray, List.set_cons_zero, List.set_cons_succ]
  refine wpAnyH_take (i := 19) (oi := { dst := some 28, op := Op.move (Operand.tmp 27), type := 4, pos := "law.go:20", after := #[{ on := 18, ground := Ground.data }, { on := 16, ground := Ground.chain }], guard := none }) (v := ?vr3r2o19) rfl (by kernel_rfl) (by kernel_rfl) (by kernel_rfl) (fun _ _ _ h => h) (Or.inl ⟨by rfl, ?hr3r2o19⟩) hS ?_
  case hr3r2o19 => (intro wx hx; skip; go_simp; (try with_reducible rfl))
  try simp only [Act.put, List.setIfInBounds_toArray, List.set_cons_zero, List.set_cons_succ]
  refine wpAnyH_take (i := 20) (oi := { dst := some 29, op := Op.move (Operand.tmp 1), type := 3, pos := "law.go:20", after := #[{ on := 19, ground := Ground.guard }], guard := some (19, true) }) (v := ?vr3r2o20) rfl (by kernel_rfl) (by kernel_rfl) (by kernel_rfl) (fun _ _ _ h => h) (Or.inl ⟨by rfl, ?hr3r2o20⟩) hS ?_
  case hr3r2o20 => (intro wx hx; skip; go_simp; (try with_reducible rfl))
  try simp only [Act.put, List.setIfInBounds_toArray, List.set_cons_zero, List.set_cons_succ]
  refine wpAnyH_take (i := 21) (oi := { dst := some 30, op := Op.move (Operand.tmp 2), type := 3, pos := "law.go:20", after := #[{ on := 19, ground := Ground.guard }], guard := some (19, true) }) (v := ?vr3r2o21) rfl (by kernel_rfl) (by kernel_rfl) (by kernel_rfl) (fun _ _ _ h => h) (Or.inl ⟨by rfl, ?hr3r2o21⟩) hS ?_
  case hr3r2o21 => (intro wx hx; skip; go_simp; (try with_reducible rfl))
  try simp only [Act.put, List.setIfInBounds_toArray, List.set_cons_zero, List.set_cons_succ]
  refine wpAnyH_take (i := 23) (oi := { dst := some 32, op := Op.move (Operand.tmp 1), type := 3, pos := "law.go:20", after := #[{ on := 19, ground := Ground.guard }], guard := some (19, true) }) (v := ?vr3r2o23) rfl (by kernel_rfl) (by kernel_rfl) (by kernel_rfl) (fun _ _ _ h => h) (Or.inl ⟨by rfl, ?hr3r2o23⟩) hS ?_
  case hr3r2o23 => (intro wx hx; skip; go_simp; (try with_reducible rfl))
  try simp only [Act.put, List.setIfInBounds_toArray, List.set_cons_zero, List.set_cons_succ]
  refine wpAnyH_take (i := 24) (oi := { dst := some 33, op := Op.move (Operand.tmp 2), type := 3, pos := "law.go:20", after := #[{ on := 19, ground := Ground.guard }], guard := some (19, true) }) (v := ?vr3r2o24) rfl (by kernel_rfl) (by kernel_rfl) (by kernel_rfl) (fun _ _ _ h => h) (Or.inl ⟨by rfl, ?hr3r2o24⟩) hS ?_
  case hr3r2o24 => (intro wx hx; skip; go_simp; (try with_reducible rfl))
  try simp only [Act.put, List.setIfInBounds_toArray, List.set_cons_zero, List.set_cons_succ]
  refine wpAnyH_ready (rs := [22]) (by kernel_rfl) (by simp) ?_
  refine AllReadyH.cons (o := { dst := some 31, op := Op.call { callee := Callee.value (Operand.func 16), args := #[Operand.tmp 29, Operand.tmp 30], argTypes := #[3, 3] }, type := 3, pos := "law.go:20", after := #[{ on := 20, ground := Ground.data }, { on := 21, ground := Ground.data }, { on := 19, ground := Ground.chain }, { on := 19, ground := Ground.guard }], guard := some (19, true) }) rfl (fun K hK => ?_) AllReadyH.nil
  go_simp
  refine (A3.out _).mono ?_
  rintro e wA3 ⟨rfl, hgx⟩
  have hS1 := S2.keep hS hgx
  clear hgx
  refine hK.out _ _ ?hsr3r2o22 (fun hS => ?_)
  case hsr3r2o22 => (exact hS1)
  clear hK K
  try simp only [Act.put, List.setIfInBounds_toArray, List.set_cons_zero, List.set_cons_succ]
  refine wpAnyH_ready (rs := [25]) (by kernel_rfl) (by simp) ?_
  refine AllReadyH.cons (o := { dst := some 34, op := Op.call { callee := Callee.value (Operand.func 17), args := #[Operand.tmp 32, Operand.tmp 33], argTypes := #[3, 3] }, type := 3, pos := "law.go:20", after := #[{ on := 23, ground := Ground.data }, { on := 24, ground := Ground.data }, { on := 22, ground := Ground.chain }, { on := 19, ground := Ground.guard }], guard := some (19, true) }) rfl (fun K hK => ?_) AllReadyH.nil
  go_simp
  refine (B3.out _).mono ?_
  rintro e wB3 ⟨rfl, hgx⟩
  have hS1 := S2.keep hS hgx
  clear hgx
  refine hK.out _ _ ?hsr3r2o25 (fun hS => ?_)
  case hsr3r2o25 => (exact hS1)
  clear hK K
  try simp only [Act.put, List.setIfInBounds_toArray, List.set_cons_zero, List.set_cons_succ]
  refine wpAnyH_take (i := 26) (oi := { dst := some 35, op := Op.binOp BinOp.eql 3 (Operand.tmp 31) (Operand.tmp 34) 3, type := 4, pos := "law.go:20", after := #[{ on := 22, ground := Ground.data }, { on := 25, ground := Ground.data }, { on := 19, ground := Ground.guard }], guard := some (19, true) }) (v := ?vr3r2o26) rfl (by kernel_rfl) (by kernel_rfl) (by kernel_rfl) (fun _ _ _ h => h) (Or.inl ⟨by rfl, ?hr3r2o26⟩) hS ?_
  case hr3r2o26 => (intro wx hx; skip; go_simp; (try with_reducible rfl))
  try simp only [Act.put, List.setIfInBounds_toArray, List.set_cons_zero, List.set_cons_succ]
  refine wpAnyH_take (i := 27) (oi := { dst := some 36, op := Op.pick (Operand.tmp 28) (Operand.tmp 35) (Operand.const (Value.bool false)), type := 4, pos := "law.go:20", after := #[{ on := 19, ground := Ground.data }, { on := 26, ground := Ground.data }], guard := none }) (v := ?vr3r2o27) rfl (by kernel_rfl) (by kernel_rfl) (by kernel_rfl) (fun _ _ _ h => h) (Or.inl ⟨by rfl, ?hr3r2o27⟩) hS ?_
  case hr3r2o27 => (intro wx hx; skip; go_simp; (try with_reducible rfl))
  try simp only [Act.put, List.setIfInBounds_toArray, List.set_cons_zero, List.set_cons_succ]
  refine wpAnyH_take (i := 28) (oi := { dst := some 37, op := Op.move (Operand.tmp 36), type := 4, pos := "law.go:20", after := #[{ on := 27, ground := Ground.data }, { on := 25, ground := Ground.chain }], guard := none }) (v := ?vr3r2o28) rfl (by kernel_rfl) (by kernel_rfl) (by kernel_rfl) (fun _ _ _ h => h) (Or.inl ⟨by rfl, ?hr3r2o28⟩) hS ?_
  case hr3r2o28 => (intro wx hx; skip; go_simp; (try with_reducible rfl))
  try simp only [Act.put, List.setIfInBounds_toArray, List.set_cons_zero, List.set_cons_succ]
  refine wpAnyH_take (i := 29) (oi := { dst := some 38, op := Op.move (Operand.tmp 1), type := 3, pos := "law.go:20", after := #[{ on := 28, ground := Ground.guard }], guard := some (28, true) }) (v := ?vr3r2o29) rfl (by kernel_rfl) (by kernel_rfl) (by kernel_rfl) (fun _ _ _ h => h) (Or.inl ⟨by rfl, ?hr3r2o29⟩) hS ?_
  case hr3r2o29 => (intro wx hx; skip; go_simp; (try with_reducible rfl))
  try simp only [Act.put, List.setIfInBounds_toArray, List.set_cons_zero, List.set_cons_succ]
  refine wpAnyH_take (i := 30) (oi := { dst := some 39, op := Op.move (Operand.tmp 2), type := 3, pos := "law.go:20", after := #[{ on := 28, ground := Ground.guard }], guard := some (28, true) }) (v := ?vr3r2o30) rfl (by kernel_rfl) (by kernel_rfl) (by kernel_rfl) (fun _ _ _ h => h) (Or.inl ⟨by rfl, ?hr3r2o30⟩) hS ?_
  case hr3r2o30 => (intro wx hx; skip; go_simp; (try with_reducible rfl))
  try simp only [Act.put, List.setIfInBounds_toArray, List.set_cons_zero, List.set_cons_succ]
  refine wpAnyH_take (i := 32) (oi := { dst := some 41, op := Op.move (Operand.tmp 1), type := 3, pos := "law.go:20", after := #[{ on := 28, ground := Ground.guard }], guard := some (28, true) }) (v := ?vr3r2o32) rfl (by kernel_rfl) (by kernel_rfl) (by kernel_rfl) (fun _ _ _ h => h) (Or.inl ⟨by rfl, ?hr3r2o32⟩) hS ?_
  case hr3r2o32 => (intro wx hx; skip; go_simp; (try with_reducible rfl))
  try simp only [Act.put, List.setIfInBounds_toArray, List.set_cons_zero, List.set_cons_succ]
  refine wpAnyH_take (i := 33) (oi := { dst := some 42, op := Op.move (Operand.tmp 2), type := 3, pos := "law.go:20", after := #[{ on := 28, ground := Ground.guard }], guard := some (28, true) }) (v := ?vr3r2o33) rfl (by kernel_rfl) (by kernel_rfl) (by kernel_rfl) (fun _ _ _ h => h) (Or.inl ⟨by rfl, ?hr3r2o33⟩) hS ?_
  case hr3r2o33 => (intro wx hx; skip; go_simp; (try with_reducible rfl))
  try simp only [Act.put, List.setIfInBounds_toArray, List.set_cons_zero, List.set_cons_succ]
  refine wpAnyH_ready (rs := [31]) (by kernel_rfl) (by simp) ?_
  refine AllReadyH.cons (o := { dst := some 40, op := Op.call { callee := Callee.value (Operand.func 18), args := #[Operand.tmp 38, Operand.tmp 39], argTypes := #[3, 3] }, type := 3, pos := "law.go:20", after := #[{ on := 29, ground := Ground.data }, { on := 30, ground := Ground.data }, { on := 28, ground := Ground.chain }, { on := 28, ground := Ground.guard }], guard := some (28, true) }) rfl (fun K hK => ?_) AllReadyH.nil
  go_simp
  refine (A4.out _).mono ?_
  rintro e wA4 ⟨rfl, hgx⟩
  have hS1 := S2.keep hS hgx
  clear hgx
  refine hK.out _ _ ?hsr3r2o31 (fun hS => ?_)
  case hsr3r2o31 => (exact hS1)
  clear hK K
  try simp only [Act.put, List.setIfInBounds_toArray, List.set_cons_zero, List.set_cons_succ]
  refine wpAnyH_ready (rs := [34]) (by kernel_rfl) (by simp) ?_
  refine AllReadyH.cons (o := { dst := some 43, op := Op.call { callee := Callee.value (Operand.func 19), args := #[Operand.tmp 41, Operand.tmp 42], argTypes := #[3, 3] }, type := 3, pos := "law.go:20", after := #[{ on := 32, ground := Ground.data }, { on := 33, ground := Ground.data }, { on := 31, ground := Ground.chain }, { on := 28, ground := Ground.guard }], guard := some (28, true) }) rfl (fun K hK => ?_) AllReadyH.nil
  go_simp
  refine (B4.out _).mono ?_
  rintro e wB4 ⟨rfl, hgx⟩
  have hS1 := S2.keep hS hgx
  clear hgx
  refine hK.out _ _ ?hsr3r2o34 (fun hS => ?_)
  case hsr3r2o34 => (exact hS1)
  clear hK K
  try simp only [Act.put, List.setIfInBounds_toArray, List.set_cons_zero, List.set_cons_succ]
  refine wpAnyH_take (i := 35) (oi := { dst := some 44, op := Op.binOp BinOp.eql 3 (Operand.tmp 40) (Operand.tmp 43) 3, type := 4, pos := "law.go:20", after := #[{ on := 31, ground := Ground.data }, { on := 34, ground := Ground.data }, { on := 28, ground := Ground.guard }], guard := some (28, true) }) (v := ?vr3r2o35) rfl (by kernel_rfl) (by kernel_rfl) (by kernel_rfl) (fun _ _ _ h => h) (Or.inl ⟨by rfl, ?hr3r2o35⟩) hS ?_
  case hr3r2o35 => (intro wx hx; skip; go_simp; (try with_reducible rfl))
  try simp only [Act.put, List.setIfInBounds_toArray, List.set_cons_zero, List.set_cons_succ]
  refine wpAnyH_take (i := 36) (oi := { dst := some 45, op := Op.pick (Operand.tmp 37) (Operand.tmp 44) (Operand.const (Value.bool false)), type := 4, pos := "law.go:20", after := #[{ on := 28, ground := Ground.data }, { on := 35, ground := Ground.data }], guard := none }) (v := ?vr3r2o36) rfl (by kernel_rfl) (by kernel_rfl) (by kernel_rfl) (fun _ _ _ h => h) (Or.inl ⟨by rfl, ?hr3r2o36⟩) hS ?_
  case hr3r2o36 => (intro wx hx; skip; go_simp; (try with_reducible rfl))
  try simp only [Act.put, List.setIfInBounds_toArray, List.set_cons_zero, List.set_cons_succ]
  refine wpAnyH_take (i := 37) (oi := { dst := some 46, op := Op.move (Operand.tmp 45), type := 4, pos := "law.go:20", after := #[{ on := 36, ground := Ground.data }, { on := 34, ground := Ground.chain }], guard := none }) (v := ?vr3r2o37) rfl (by kernel_rfl) (by kernel_rfl) (by kernel_rfl) (fun _ _ _ h => h) (Or.inl ⟨by rfl, ?hr3r2o37⟩) hS ?_
  case hr3r2o37 => (intro wx hx; skip; go_simp; (try with_reducible rfl))
  try simp only [Act.put, List.setIfInBounds_toArray, List.set_cons_zero, List.set_cons_succ]
  refine wpAnyH_take (i := 38) (oi := { dst := some 47, op := Op.load 23 (Operand.tmp 3), type := 23, pos := "law.go:20", after := #[{ on := 37, ground := Ground.guard }], guard := some (37, true) }) (v := ?vr3r2o38) rfl (by kernel_rfl) (by kernel_rfl) (by kernel_rfl) (fun _ _ _ h => h) (Or.inl ⟨by rfl, ?hr3r2o38⟩) hS ?_
  case hr3r2o38 => (intro wx hx; obtain ⟨f0, f1, f2, e0, e1, e2⟩ := S2.facts hx; go_simp; (try with_reducible rfl))
  try simp only [Act.put, List.setIfInBounds_toArray, List.set_cons_zero, List.set_cons_succ]
  refine wpAnyH_take (i := 39) (oi := { dst := some 48, op := Op.move (Operand.tmp 1), type := 3, pos := "law.go:20", after := #[{ on := 37, ground := Ground.guard }], guard := some (37, true) }) (v := ?vr3r2o39) rfl (by kernel_rfl) (by kernel_rfl) (by kernel_rfl) (fun _ _ _ h => h) (Or.inl ⟨by rfl, ?hr3r2o39⟩) hS ?_
  case hr3r2o39 => (intro wx hx; skip; go_simp; (try with_reducible rfl))
  try simp only [Act.put, List.setIfInBounds_toArray, List.set_cons_zero, List.set_cons_succ]
  refine wpAnyH_take (i := 41) (oi := { dst := some 50, op := Op.load 24 (Operand.tmp 7), type := 24, pos := "law.go:20", after := #[{ on := 37, ground := Ground.guard }], guard := some (37, true) }) (v := ?vr3r2o41) rfl (by kernel_rfl) (by kernel_rfl) (by kernel_rfl) (fun _ _ _ h => h) (Or.inl ⟨by rfl, ?hr3r2o41⟩) hS ?_
  case hr3r2o41 => (intro wx hx; obtain ⟨f0, f1, f2, e0, e1, e2⟩ := S2.facts hx; go_simp; (try with_reducible rfl))
  try simp only [Act.put, List.setIfInBounds_toArray, List.set_cons_zero, List.set_cons_succ]
  refine wpAnyH_take (i := 42) (oi := { dst := some 51, op := Op.move (Operand.tmp 1), type := 3, pos := "law.go:20", after := #[{ on := 37, ground := Ground.guard }], guard := some (37, true) }) (v := ?vr3r2o42) rfl (by kernel_rfl) (by kernel_rfl) (by kernel_rfl) (fun _ _ _ h => h) (Or.inl ⟨by rfl, ?hr3r2o42⟩) hS ?_
  case hr3r2o42 => (intro wx hx; skip; go_simp; (try with_reducible rfl))
  try simp only [Act.put, List.setIfInBounds_toArray, List.set_cons_zero, List.set_cons_succ]
  refine wpAnyH_ready (rs := [40]) (by kernel_rfl) (by simp) ?_
  refine AllReadyH.cons (o := { dst := some 49, op := Op.call { callee := Callee.value (Operand.func 20), args := #[Operand.tmp 47, Operand.tmp 48], argTypes := #[23, 3] }, type := 3, pos := "law.go:20", after := #[{ on := 38, ground := Ground.data }, { on := 39, ground := Ground.data }, { on := 37, ground := Ground.chain }, { on := 37, ground := Ground.guard }], guard := some (37, true) }) rfl (fun K hK => ?_) AllReadyH.nil
  go_simp
  refine (A5.out _).mono ?_
  rintro e wA5 ⟨rfl, hgx⟩
  have hS1 := S2.keep hS hgx
  clear hgx
  refine hK.out _ _ ?hsr3r2o40 (fun hS => ?_)
  case hsr3r2o40 => (exact hS1)
  clear hK K
  try simp only [Act.put, List.setIfInBounds_toArray, List.set_cons_zero, List.set_cons_succ]
  refine wpAnyH_ready (rs := [43]) (by kernel_rfl) (by simp) ?_
  refine AllReadyH.cons (o := { dst := some 52, op := Op.call { callee := Callee.value (Operand.func 21), args := #[Operand.tmp 50, Operand.tmp 51], argTypes := #[24, 3] }, type := 3, pos := "law.go:20", after := #[{ on := 41, ground := Ground.data }, { on := 42, ground := Ground.data }, { on := 40, ground := Ground.chain }, { on := 37, ground := Ground.guard }], guard := some (37, true) }) rfl (fun K hK => ?_) AllReadyH.nil
  go_simp
  refine (B5.out _).mono ?_
  rintro e wB5 ⟨rfl, hgx⟩
  have hS1 := S2.keep hS hgx
  clear hgx
  refine hK.out _ _ ?hsr3r2o43 (fun hS => ?_)
  case hsr3r2o43 => (exact hS1)
  clear hK K
  try simp only [Act.put, List.setIfInBounds_toArray, List.set_cons_zero, List.set_cons_succ]
  refine wpAnyH_take (i := 44) (oi := { dst := some 53, op := Op.binOp BinOp.eql 3 (Operand.tmp 49) (Operand.tmp 52) 3, type := 4, pos := "law.go:20", after := #[{ on := 40, ground := Ground.data }, { on := 43, ground := Ground.data }, { on := 37, ground := Ground.guard }], guard := some (37, true) }) (v := ?vr3r2o44) rfl (by kernel_rfl) (by kernel_rfl) (by kernel_rfl) (fun _ _ _ h => h) (Or.inl ⟨by rfl, ?hr3r2o44⟩) hS ?_
  case hr3r2o44 => (intro wx hx; skip; go_simp; (try with_reducible rfl))
  try simp only [Act.put, List.setIfInBounds_toArray, List.set_cons_zero, List.set_cons_succ]
  refine wpAnyH_take (i := 45) (oi := { dst := some 54, op := Op.pick (Operand.tmp 46) (Operand.tmp 53) (Operand.const (Value.bool false)), type := 4, pos := "law.go:20", after := #[{ on := 37, ground := Ground.data }, { on := 44, ground := Ground.data }], guard := none }) (v := ?vr3r2o45) rfl (by kernel_rfl) (by kernel_rfl) (by kernel_rfl) (fun _ _ _ h => h) (Or.inl ⟨by rfl, ?hr3r2o45⟩) hS ?_
  case hr3r2o45 => (intro wx hx; skip; go_simp; (try with_reducible rfl))
  try simp only [Act.put, List.setIfInBounds_toArray, List.set_cons_zero, List.set_cons_succ]
  refine wpAnyH_take (i := 46) (oi := { dst := some 55, op := Op.move (Operand.tmp 54), type := 4, pos := "law.go:20", after := #[{ on := 45, ground := Ground.data }, { on := 43, ground := Ground.chain }], guard := none }) (v := ?vr3r2o46) rfl (by kernel_rfl) (by kernel_rfl) (by kernel_rfl) (fun _ _ _ h => h) (Or.inl ⟨by rfl, ?hr3r2o46⟩) hS ?_
  case hr3r2o46 => (intro wx hx; skip; go_simp; (try with_reducible rfl))
  try simp only [Act.put, List.setIfInBounds_toArray, List.set_cons_zero, List.set_cons_succ]
  refine wpAnyH_take (i := 47) (oi := { dst := some 56, op := Op.load 23 (Operand.tmp 3), type := 23, pos := "law.go:20", after := #[{ on := 46, ground := Ground.guard }], guard := some (46, true) }) (v := ?vr3r2o47) rfl (by kernel_rfl) (by kernel_rfl) (by kernel_rfl) (fun _ _ _ h => h) (Or.inl ⟨by rfl, ?hr3r2o47⟩) hS ?_
  case hr3r2o47 => (intro wx hx; obtain ⟨f0, f1, f2, e0, e1, e2⟩ := S2.facts hx; go_simp; (try with_reducible rfl))
  try simp only [Act.put, List.setIfInBounds_toArray, List.set_cons_zero, List.set_cons_succ]
  refine wpAnyH_take (i := 49) (oi := { dst := some 58, op := Op.load 24 (Operand.tmp 7), type := 24, pos := "law.go:20", after := #[{ on := 46, ground := Ground.guard }], guard := some (46, true) }) (v := ?vr3r2o49) rfl (by kernel_rfl) (by kernel_rfl) (by kernel_rfl) (fun _ _ _ h => h) (Or.inl ⟨by rfl, ?hr3r2o49⟩) hS ?_
  case hr3r2o49 => (intro wx hx; obtain ⟨f0, f1, f2, e0, e1, e2⟩ := S2.facts hx; go_simp; (try with_reducible rfl))
  try simp only [Act.put, List.setIfInBounds_toArray, List.set_cons_zero, List.set_cons_succ]
  refine wpAnyH_ready (rs := [48]) (by kernel_rfl) (by simp) ?_
  refine AllReadyH.cons (o := { dst := some 57, op := Op.call { callee := Callee.value (Operand.func 22), args := #[Operand.tmp 56], argTypes := #[23] }, type := 3, pos := "law.go:20", after := #[{ on := 47, ground := Ground.data }, { on := 46, ground := Ground.chain }, { on := 46, ground := Ground.guard }], guard := some (46, true) }) rfl (fun K hK => ?_) AllReadyH.nil
  go_simp
  refine (A6.out _).mono ?_
  rintro e wA6 ⟨rfl, hgx⟩
  have hS1 := S2.keep hS hgx
  clear hgx
  refine hK.out _ _ ?hsr3r2o48 (fun hS => ?_)
  case hsr3r2o48 => (exact hS1)
  clear hK K
  try simp only [Act.put, List.setIfInBounds_toArray, List.set_cons_zero, List.set_cons_succ]
  refine wpAnyH_ready (rs := [50]) (by kernel_rfl) (by simp) ?_
  refine AllReadyH.cons (o := { dst := some 59, op := Op.call { callee := Callee.value (Operand.func 23), args := #[Operand.tmp 58], argTypes := #[24] }, type := 3, pos := "law.go:20", after := #[{ on := 49, ground := Ground.data }, { on := 48, ground := Ground.chain }, { on := 46, ground := Ground.guard }], guard := some (46, true) }) rfl (fun K hK => ?_) AllReadyH.nil
  go_simp
  refine (B6.out _).mono ?_
  rintro e wB6 ⟨rfl, hgx⟩
  have hS1 := S2.keep hS hgx
  clear hgx
  refine hK.out _ _ ?hsr3r2o50 (fun hS => ?_)
  case hsr3r2o50 => (exact hS1)
  clear hK K
  try simp only [Act.put, List.setIfInBounds_toArray, List.set_cons_zero, List.set_cons_succ]
  refine wpAnyH_take (i := 51) (oi := { dst := some 60, op := Op.binOp BinOp.eql 3 (Operand.tmp 57) (Operand.tmp 59) 3, type := 4, pos := "law.go:20", after := #[{ on := 48, ground := Ground.data }, { on := 50, ground := Ground.data }, { on := 46, ground := Ground.guard }], guard := some (46, true) }) (v := ?vr3r2o51) rfl (by kernel_rfl) (by kernel_rfl) (by kernel_rfl) (fun _ _ _ h => h) (Or.inl ⟨by rfl, ?hr3r2o51⟩) hS ?_
  case hr3r2o51 => (intro wx hx; skip; go_simp; (try with_reducible rfl))
  try simp only [Act.put, List.setIfInBounds_toArray, List.set_cons_zero, List.set_cons_succ]
  refine wpAnyH_take (i := 52) (oi := { dst := some 61, op := Op.pick (Operand.tmp 55) (Operand.tmp 60) (Operand.const (Value.bool false)), type := 4, pos := "law.go:20", after := #[{ on := 46, ground := Ground.data }, { on := 51, ground := Ground.data }], guard := none }) (v := ?vr3r2o52) rfl (by kernel_rfl) (by kernel_rfl) (by kernel_rfl) (fun _ _ _ h => h) (Or.inl ⟨by rfl, ?hr3r2o52⟩) hS ?_
  case hr3r2o52 => (intro wx hx; skip; go_simp; (try with_reducible rfl))
  try simp only [Act.put, List.setIfInBounds_toArray, List.set_cons_zero, List.set_cons_succ]
  refine wpAnyH_take (i := 53) (oi := { dst := some 62, op := Op.move (Operand.tmp 61), type := 4, pos := "law.go:20", after := #[{ on := 52, ground := Ground.data }, { on := 50, ground := Ground.chain }], guard := none }) (v := ?vr3r2o53) rfl (by kernel_rfl) (by kernel_rfl) (by kernel_rfl) (fun _ _ _ h => h) (Or.inl ⟨by rfl, ?hr3r2o53⟩) hS ?_
  case hr3r2o53 => (intro wx hx; skip; go_simp; (try with_reducible rfl))
  try simp only [Act.put, List.setIfInBounds_toArray, List.set_cons_zero, List.set_cons_succ]
  refine wpAnyH_take (i := 54) (oi := { dst := some 63, op := Op.load 23 (Operand.tmp 3), type := 23, pos := "law.go:20", after := #[{ on := 53, ground := Ground.guard }], guard := some (53, true) }) (v := ?vr3r2o54) rfl (by kernel_rfl) (by kernel_rfl) (by kernel_rfl) (fun _ _ _ h => h) (Or.inl ⟨by rfl, ?hr3r2o54⟩) hS ?_
  case hr3r2o54 => (intro wx hx; obtain ⟨f0, f1, f2, e0, e1, e2⟩ := S2.facts hx; go_simp; (try with_reducible rfl))
  try simp only [Act.put, List.setIfInBounds_toArray, List.set_cons_zero, List.set_cons_succ]
  refine wpAnyH_take (i := 56) (oi := { dst := some 65, op := Op.load 24 (Operand.tmp 7), type := 24, pos := "law.go:20", after := #[{ on := 53, ground := Ground.guard }], guard := some (53, true) }) (v := ?vr3r2o56) rfl (by kernel_rfl) (by kernel_rfl) (by kernel_rfl) (fun _ _ _ h => h) (Or.inl ⟨by rfl, ?hr3r2o56⟩) hS ?_
  case hr3r2o56 => (intro wx hx; obtain ⟨f0, f1, f2, e0, e1, e2⟩ := S2.facts hx; go_simp; (try with_reducible rfl))
  try simp only [Act.put, List.setIfInBounds_toArray, List.set_cons_zero, List.set_cons_succ]
  refine wpAnyH_ready (rs := [55]) (by kernel_rfl) (by simp) ?_
  refine AllReadyH.cons (o := { dst := some 64, op := Op.call { callee := Callee.value (Operand.func 24), args := #[Operand.tmp 63], argTypes := #[23] }, type := 3, pos := "law.go:20", after := #[{ on := 54, ground := Ground.data }, { on := 53, ground := Ground.chain }, { on := 53, ground := Ground.guard }], guard := some (53, true) }) rfl (fun K hK => ?_) AllReadyH.nil
  go_simp
  refine (A7.out _).mono ?_
  rintro e wA7 ⟨rfl, hgx⟩
  have hS1 := S2.keep hS hgx
  clear hgx
  refine hK.out _ _ ?hsr3r2o55 (fun hS => ?_)
  case hsr3r2o55 => (exact hS1)
  clear hK K
  try simp only [Act.put, List.setIfInBounds_toArray, List.set_cons_zero, List.set_cons_succ]
  refine wpAnyH_ready (rs := [57]) (by kernel_rfl) (by simp) ?_
  refine AllReadyH.cons (o := { dst := some 66, op := Op.call { callee := Callee.value (Operand.func 25), args := #[Operand.tmp 65], argTypes := #[24] }, type := 3, pos := "law.go:20", after := #[{ on := 56, ground := Ground.data }, { on := 55, ground := Ground.chain }, { on := 53, ground := Ground.guard }], guard := some (53, true) }) rfl (fun K hK => ?_) AllReadyH.nil
  go_simp
  refine (B7.out _).mono ?_
  rintro e wB7 ⟨rfl, hgx⟩
  have hS1 := S2.keep hS hgx
  clear hgx
  refine hK.out _ _ ?hsr3r2o57 (fun hS => ?_)
  case hsr3r2o57 => (exact hS1)
  clear hK K
  try simp only [Act.put, List.setIfInBounds_toArray, List.set_cons_zero, List.set_cons_succ]
  refine wpAnyH_take (i := 58) (oi := { dst := some 67, op := Op.binOp BinOp.eql 3 (Operand.tmp 64) (Operand.tmp 66) 3, type := 4, pos := "law.go:20", after := #[{ on := 55, ground := Ground.data }, { on := 57, ground := Ground.data }, { on := 53, ground := Ground.guard }], guard := some (53, true) }) (v := ?vr3r2o58) rfl (by kernel_rfl) (by kernel_rfl) (by kernel_rfl) (fun _ _ _ h => h) (Or.inl ⟨by rfl, ?hr3r2o58⟩) hS ?_
  case hr3r2o58 => (intro wx hx; skip; go_simp; (try with_reducible rfl))
  try simp only [Act.put, List.setIfInBounds_toArray, List.set_cons_zero, List.set_cons_succ]
  refine wpAnyH_take (i := 59) (oi := { dst := some 68, op := Op.pick (Operand.tmp 62) (Operand.tmp 67) (Operand.const (Value.bool false)), type := 4, pos := "law.go:20", after := #[{ on := 53, ground := Ground.data }, { on := 58, ground := Ground.data }], guard := none }) (v := ?vr3r2o59) rfl (by kernel_rfl) (by kernel_rfl) (by kernel_rfl) (fun _ _ _ h => h) (Or.inl ⟨by rfl, ?hr3r2o59⟩) hS ?_
  case hr3r2o59 => (intro wx hx; skip; go_simp; (try with_reducible rfl))
  try simp only [Act.put, List.setIfInBounds_toArray, List.set_cons_zero, List.set_cons_succ]
  refine wpAnyH_take (i := 60) (oi := { dst := some 69, op := Op.move (Operand.tmp 68), type := 4, pos := "law.go:20", after := #[{ on := 59, ground := Ground.data }, { on := 57, ground := Ground.chain }], guard := none }) (v := ?vr3r2o60) rfl (by kernel_rfl) (by kernel_rfl) (by kernel_rfl) (fun _ _ _ h => h) (Or.inl ⟨by rfl, ?hr3r2o60⟩) hS ?_
  case hr3r2o60 => (intro wx hx; skip; go_simp; (try with_reducible rfl))
  try simp only [Act.put, List.setIfInBounds_toArray, List.set_cons_zero, List.set_cons_succ]
  refine wpAnyH_take (i := 61) (oi := { dst := some 70, op := Op.load 23 (Operand.tmp 3), type := 23, pos := "law.go:20", after := #[{ on := 60, ground := Ground.guard }], guard := some (60, true) }) (v := ?vr3r2o61) rfl (by kernel_rfl) (by kernel_rfl) (by kernel_rfl) (fun _ _ _ h => h) (Or.inl ⟨by rfl, ?hr3r2o61⟩) hS ?_
  case hr3r2o61 => (intro wx hx; obtain ⟨f0, f1, f2, e0, e1, e2⟩ := S2.facts hx; go_simp; (try with_reducible rfl))
  try simp only [Act.put, List.setIfInBounds_toArray, List.set_cons_zero, List.set_cons_succ]
  refine wpAnyH_take (i := 62) (oi := { dst := some 71, op := Op.move (Operand.tmp 1), type := 3, pos := "law.go:20", after := #[{ on := 60, ground := Ground.guard }], guard := some (60, true) }) (v := ?vr3r2o62) rfl (by kernel_rfl) (by kernel_rfl) (by kernel_rfl) (fun _ _ _ h => h) (Or.inl ⟨by rfl, ?hr3r2o62⟩) hS ?_
  case hr3r2o62 => (intro wx hx; skip; go_simp; (try with_reducible rfl))
  try simp only [Act.put, List.setIfInBounds_toArray, List.set_cons_zero, List.set_cons_succ]
  refine wpAnyH_take (i := 64) (oi := { dst := some 73, op := Op.load 24 (Operand.tmp 7), type := 24, pos := "law.go:20", after := #[{ on := 60, ground := Ground.guard }], guard := some (60, true) }) (v := ?vr3r2o64) rfl (by kernel_rfl) (by kernel_rfl) (by kernel_rfl) (fun _ _ _ h => h) (Or.inl ⟨by rfl, ?hr3r2o64⟩) hS ?_
  case hr3r2o64 => (intro wx hx; obtain ⟨f0, f1, f2, e0, e1, e2⟩ := S2.facts hx; go_simp; (try with_reducible rfl))
  try simp only [Act.put, List.setIfInBounds_toArray, List.set_cons_zero, List.set_cons_succ]
  refine wpAnyH_take (i := 65) (oi := { dst := some 74, op := Op.move (Operand.tmp 1), type := 3, pos := "law.go:20", after := #[{ on := 60, ground := Ground.guard }], guard := some (60, true) }) (v := ?vr3r2o65) rfl (by kernel_rfl) (by kernel_rfl) (by kernel_rfl) (fun _ _ _ h => h) (Or.inl ⟨by rfl, ?hr3r2o65⟩) hS ?_
  case hr3r2o65 => (intro wx hx; skip; go_simp; (try with_reducible rfl))
  try simp only [Act.put, List.setIfInBounds_toArray, List.set_cons_zero, List.set_cons_succ]
  refine wpAnyH_ready (rs := [63]) (by kernel_rfl) (by simp) ?_
  refine AllReadyH.cons (o := { dst := some 72, op := Op.call { callee := Callee.value (Operand.func 26), args := #[Operand.tmp 70, Operand.tmp 71], argTypes := #[23, 3] }, type := 3, pos := "law.go:20", after := #[{ on := 61, ground := Ground.data }, { on := 62, ground := Ground.data }, { on := 60, ground := Ground.chain }, { on := 60, ground := Ground.guard }], guard := some (60, true) }) rfl (fun K hK => ?_) AllReadyH.nil
  go_simp
  refine (A8.out _).mono ?_
  rintro e wA8 ⟨rfl, hgx⟩
  have hS1 := S2.keep hS hgx
  clear hgx
  refine hK.out _ _ ?hsr3r2o63 (fun hS => ?_)
  case hsr3r2o63 => (exact hS1)
  clear hK K
  try simp only [Act.put, List.setIfInBounds_toArray, List.set_cons_zero, List.set_cons_succ]
  refine wpAnyH_ready (rs := [66]) (by kernel_rfl) (by simp) ?_
  refine AllReadyH.cons (o := { dst := some 75, op := Op.call { callee := Callee.value (Operand.func 27), args := #[Operand.tmp 73, Operand.tmp 74], argTypes := #[24, 3] }, type := 3, pos := "law.go:20", after := #[{ on := 64, ground := Ground.data }, { on := 65, ground := Ground.data }, { on := 63, ground := Ground.chain }, { on := 60, ground := Ground.guard }], guard := some (60, true) }) rfl (fun K hK => ?_) AllReadyH.nil
  go_simp
  refine (B8.out _).mono ?_
  rintro e wB8 ⟨rfl, hgx⟩
  have hS1 := S2.keep hS hgx
  clear hgx
  refine hK.out _ _ ?hsr3r2o66 (fun hS => ?_)
  case hsr3r2o66 => (exact hS1)
  clear hK K
  try simp only [Act.put, List.setIfInBounds_toArray, List.set_cons_zero, List.set_cons_succ]
  refine wpAnyH_take (i := 67) (oi := { dst := some 76, op := Op.binOp BinOp.eql 3 (Operand.tmp 72) (Operand.tmp 75) 3, type := 4, pos := "law.go:20", after := #[{ on := 63, ground := Ground.data }, { on := 66, ground := Ground.data }, { on := 60, ground := Ground.guard }], guard := some (60, true) }) (v := ?vr3r2o67) rfl (by kernel_rfl) (by kernel_rfl) (by kernel_rfl) (fun _ _ _ h => h) (Or.inl ⟨by rfl, ?hr3r2o67⟩) hS ?_
  case hr3r2o67 => (intro wx hx; skip; go_simp; (try with_reducible rfl))
  try simp only [Act.put, List.setIfInBounds_toArray, List.set_cons_zero, List.set_cons_succ]
  refine wpAnyH_take (i := 68) (oi := { dst := some 77, op := Op.pick (Operand.tmp 69) (Operand.tmp 76) (Operand.const (Value.bool false)), type := 4, pos := "law.go:20", after := #[{ on := 60, ground := Ground.data }, { on := 67, ground := Ground.data }], guard := none }) (v := ?vr3r2o68) rfl (by kernel_rfl) (by kernel_rfl) (by kernel_rfl) (fun _ _ _ h => h) (Or.inl ⟨by rfl, ?hr3r2o68⟩) hS ?_
  case hr3r2o68 => (intro wx hx; skip; go_simp; (try with_reducible rfl))
  try simp only [Act.put, List.setIfInBounds_toArray, List.set_cons_zero, List.set_cons_succ]
  refine wpAnyH_take (i := 69) (oi := { dst := some 78, op := Op.move (Operand.tmp 77), type := 4, pos := "law.go:20", after := #[{ on := 68, ground := Ground.data }, { on := 66, ground := Ground.chain }], guard := none }) (v := ?vr3r2o69) rfl (by kernel_rfl) (by kernel_rfl) (by kernel_rfl) (fun _ _ _ h => h) (Or.inl ⟨by rfl, ?hr3r2o69⟩) hS ?_
  case hr3r2o69 => (intro wx hx; skip; go_simp; (try with_reducible rfl))
  try simp only [Act.put, List.setIfInBounds_toArray, List.set_cons_zero, List.set_cons_succ]
  refine wpAnyH_take (i := 70) (oi := { dst := some 79, op := Op.load 23 (Operand.tmp 3), type := 23, pos := "law.go:20", after := #[{ on := 69, ground := Ground.guard }], guard := some (69, true) }) (v := ?vr3r2o70) rfl (by kernel_rfl) (by kernel_rfl) (by kernel_rfl) (fun _ _ _ h => h) (Or.inl ⟨by rfl, ?hr3r2o70⟩) hS ?_
  case hr3r2o70 => (intro wx hx; obtain ⟨f0, f1, f2, e0, e1, e2⟩ := S2.facts hx; go_simp; (try with_reducible rfl))
  try simp only [Act.put, List.setIfInBounds_toArray, List.set_cons_zero, List.set_cons_succ]
  refine wpAnyH_take (i := 71) (oi := { dst := some 80, op := Op.move (Operand.tmp 1), type := 3, pos := "law.go:20", after := #[{ on := 69, ground := Ground.guard }], guard := some (69, true) }) (v := ?vr3r2o71) rfl (by kernel_rfl) (by kernel_rfl) (by kernel_rfl) (fun _ _ _ h => h) (Or.inl ⟨by rfl, ?hr3r2o71⟩) hS ?_
  case hr3r2o71 => (intro wx hx; skip; go_simp; (try with_reducible rfl))
  try simp only [Act.put, List.setIfInBounds_toArray, List.set_cons_zero, List.set_cons_succ]
  refine wpAnyH_take (i := 73) (oi := { dst := some 82, op := Op.load 24 (Operand.tmp 7), type := 24, pos := "law.go:20", after := #[{ on := 69, ground := Ground.guard }], guard := some (69, true) }) (v := ?vr3r2o73) rfl (by kernel_rfl) (by kernel_rfl) (by kernel_rfl) (fun _ _ _ h => h) (Or.inl ⟨by rfl, ?hr3r2o73⟩) hS ?_
  case hr3r2o73 => (intro wx hx; obtain ⟨f0, f1, f2, e0, e1, e2⟩ := S2.facts hx; go_simp; (try with_reducible rfl))
  try simp only [Act.put, List.setIfInBounds_toArray, List.set_cons_zero, List.set_cons_succ]
  refine wpAnyH_take (i := 74) (oi := { dst := some 83, op := Op.move (Operand.tmp 1), type := 3, pos := "law.go:20", after := #[{ on := 69, ground := Ground.guard }], guard := some (69, true) }) (v := ?vr3r2o74) rfl (by kernel_rfl) (by kernel_rfl) (by kernel_rfl) (fun _ _ _ h => h) (Or.inl ⟨by rfl, ?hr3r2o74⟩) hS ?_
  case hr3r2o74 => (intro wx hx; skip; go_simp; (try with_reducible rfl))
  try simp only [Act.put, List.setIfInBounds_toArray, List.set_cons_zero, List.set_cons_succ]
  refine wpAnyH_ready (rs := [72]) (by kernel_rfl) (by simp) ?_
  refine AllReadyH.cons (o := { dst := some 81, op := Op.call { callee := Callee.value (Operand.func 28), args := #[Operand.tmp 79, Operand.tmp 80], argTypes := #[23, 3] }, type := 3, pos := "law.go:20", after := #[{ on := 70, ground := Ground.data }, { on := 71, ground := Ground.data }, { on := 69, ground := Ground.chain }, { on := 69, ground := Ground.guard }], guard := some (69, true) }) rfl (fun K hK => ?_) AllReadyH.nil
  go_simp
  refine (A9.out _).mono ?_
  rintro e wA9 ⟨rfl, hgx⟩
  have hS1 := S2.keep hS hgx
  clear hgx
  refine hK.out _ _ ?hsr3r2o72 (fun hS => ?_)
  case hsr3r2o72 => (exact hS1)
  clear hK K
  try simp only [Act.put, List.setIfInBounds_toArray, List.set_cons_zero, List.set_cons_succ]
  refine wpAnyH_ready (rs := [75]) (by kernel_rfl) (by simp) ?_
  refine AllReadyH.cons (o := { dst := some 84, op := Op.call { callee := Callee.value (Operand.func 29), args := #[Operand.tmp 82, Operand.tmp 83], argTypes := #[24, 3] }, type := 3, pos := "law.go:20", after := #[{ on := 73, ground := Ground.data }, { on := 74, ground := Ground.data }, { on := 72, ground := Ground.chain }, { on := 69, ground := Ground.guard }], guard := some (69, true) }) rfl (fun K hK => ?_) AllReadyH.nil
  go_simp
  refine (B9.out _).mono ?_
  rintro e wB9 ⟨rfl, hgx⟩
  have hS1 := S2.keep hS hgx
  clear hgx
  refine hK.out _ _ ?hsr3r2o75 (fun hS => ?_)
  case hsr3r2o75 => (exact hS1)
  clear hK K
  try simp only [Act.put, List.setIfInBounds_toArray, List.set_cons_zero, List.set_cons_succ]
  refine wpAnyH_take (i := 76) (oi := { dst := some 85, op := Op.binOp BinOp.eql 3 (Operand.tmp 81) (Operand.tmp 84) 3, type := 4, pos := "law.go:20", after := #[{ on := 72, ground := Ground.data }, { on := 75, ground := Ground.data }, { on := 69, ground := Ground.guard }], guard := some (69, true) }) (v := ?vr3r2o76) rfl (by kernel_rfl) (by kernel_rfl) (by kernel_rfl) (fun _ _ _ h => h) (Or.inl ⟨by rfl, ?hr3r2o76⟩) hS ?_
  case hr3r2o76 => (intro wx hx; skip; go_simp; (try with_reducible rfl))
  try simp only [Act.put, List.setIfInBounds_toArray, List.set_cons_zero, List.set_cons_succ]
  refine wpAnyH_take (i := 77) (oi := { dst := some 86, op := Op.pick (Operand.tmp 78) (Operand.tmp 85) (Operand.const (Value.bool false)), type := 4, pos := "law.go:20", after := #[{ on := 69, ground := Ground.data }, { on := 76, ground := Ground.data }], guard := none }) (v := ?vr3r2o77) rfl (by kernel_rfl) (by kernel_rfl) (by kernel_rfl) (fun _ _ _ h => h) (Or.inl ⟨by rfl, ?hr3r2o77⟩) hS ?_
  case hr3r2o77 => (intro wx hx; skip; go_simp; (try with_reducible rfl))
  try simp only [Act.put, List.setIfInBounds_toArray, List.set_cons_zero, List.set_cons_succ]
  refine wpAnyH_take (i := 78) (oi := { dst := some 87, op := Op.move (Operand.tmp 86), type := 4, pos := "law.go:20", after := #[{ on := 77, ground := Ground.data }, { on := 75, ground := Ground.chain }], guard := none }) (v := ?vr3r2o78) rfl (by kernel_rfl) (by kernel_rfl) (by kernel_rfl) (fun _ _ _ h => h) (Or.inl ⟨by rfl, ?hr3r2o78⟩) hS ?_
  case hr3r2o78 => (intro wx hx; skip; go_simp; (try with_reducible rfl))
  try simp only [Act.put, List.setIfInBounds_toArray, List.set_cons_zero, List.set_cons_succ]
  refine wpAnyH_ready (rs := [79]) (by kernel_rfl) (by simp) ?_
  refine AllReadyH.cons (o := { dst := some 88, op := Op.call { callee := Callee.value (Operand.func 30), args := #[], argTypes := #[] }, type := 4, pos := "law.go:20", after := #[{ on := 78, ground := Ground.chain }, { on := 78, ground := Ground.guard }], guard := some (78, true) }) rfl (fun K hK => ?_) AllReadyH.nil
  go_simp
  refine (works_any _).mono ?_
  rintro e wz ⟨rfl, hgx⟩
  have hS1 := S2.keep hS hgx
  clear hgx
  refine hK.out _ _ ?hsr3r2o79 (fun hS => ?_)
  case hsr3r2o79 => (exact hS1)
  clear hK K
  try simp only [Act.put, List.setIfInBounds_toArray, List.set_cons_zero, List.set_cons_succ]
  refine wpAnyH_take (i := 80) (oi := { dst := some 89, op := Op.pick (Operand.tmp 87) (Operand.tmp 88) (Operand.const (Value.bool false)), type := 4, pos := "law.go:20", after := #[{ on := 78, ground := Ground.data }, { on := 79, ground := Ground.data }], guard := none }) (v := ?vr3r2o80) rfl (by kernel_rfl) (by kernel_rfl) (by kernel_rfl) (fun _ _ _ h => h) (Or.inl ⟨by rfl, ?hr3r2o80⟩) hS ?_
  case hr3r2o80 => (intro wx hx; skip; go_simp; (try with_reducible rfl))
  try simp only [Act.put, List.setIfInBounds_toArray, List.set_cons_zero, List.set_cons_succ]
  refine wpAnyH_take (i := 81) (oi := { dst := some 6, op := Op.assign (Operand.tmp 89), type := 4, pos := "law.go:20", after := ([{ on := 80, ground := Ground.data }, { on := 79, ground := Ground.chain }, { on := 0, ground := Ground.phase }, { on := 1, ground := Ground.phase }, { on := 2, ground := Ground.phase }, { on := 3, ground := Ground.phase }, { on := 4, ground := Ground.phase }, { on := 5, ground := Ground.phase }, { on := 6, ground := Ground.phase }, { on := 7, ground := Ground.phase }, { on := 8, ground := Ground.phase }, { on := 9, ground := Ground.phase }, { on := 10, ground := Ground.phase }, { on := 11, ground := Ground.phase }, { on := 12, ground := Ground.phase }, { on := 13, ground := Ground.phase }, { on := 14, ground := Ground.phase }, { on := 15, ground := Ground.phase }, { on := 16, ground := Ground.phase }, { on := 17, ground := Ground.phase }, { on := 18, ground := Ground.phase }, { on := 19, ground := Ground.phase }, { on := 20, ground := Ground.phase }, { on := 21, ground := Ground.phase }, { on := 22, ground := Ground.phase }, { on := 23, ground := Ground.phase }, { on := 24, ground := Ground.phase }, { on := 25, ground := Ground.phase }, { on := 26, ground := Ground.phase }, { on := 27, ground := Ground.phase }, { on := 28, ground := Ground.phase }, { on := 29, ground := Ground.phase }, { on := 30, ground := Ground.phase }, { on := 31, ground := Ground.phase }, { on := 32, ground := Ground.phase }, { on := 33, ground := Ground.phase }, { on := 34, ground := Ground.phase }, { on := 35, ground := Ground.phase }, { on := 36, ground := Ground.phase }, { on := 37, ground := Ground.phase }, { on := 38, ground := Ground.phase }].append [{ on := 39, ground := Ground.phase }, { on := 40, ground := Ground.phase }, { on := 41, ground := Ground.phase }, { on := 42, ground := Ground.phase }, { on := 43, ground := Ground.phase }, { on := 44, ground := Ground.phase }, { on := 45, ground := Ground.phase }, { on := 46, ground := Ground.phase }, { on := 47, ground := Ground.phase }, { on := 48, ground := Ground.phase }, { on := 49, ground := Ground.phase }, { on := 50, ground := Ground.phase }, { on := 51, ground := Ground.phase }, { on := 52, ground := Ground.phase }, { on := 53, ground := Ground.phase }, { on := 54, ground := Ground.phase }, { on := 55, ground := Ground.phase }, { on := 56, ground := Ground.phase }, { on := 57, ground := Ground.phase }, { on := 58, ground := Ground.phase }, { on := 59, ground := Ground.phase }, { on := 60, ground := Ground.phase }, { on := 61, ground := Ground.phase }, { on := 62, ground := Ground.phase }, { on := 63, ground := Ground.phase }, { on := 64, ground := Ground.phase }, { on := 65, ground := Ground.phase }, { on := 66, ground := Ground.phase }, { on := 67, ground := Ground.phase }, { on := 68, ground := Ground.phase }, { on := 69, ground := Ground.phase }, { on := 70, ground := Ground.phase }, { on := 71, ground := Ground.phase }, { on := 72, ground := Ground.phase }, { on := 73, ground := Ground.phase }, { on := 74, ground := Ground.phase }, { on := 75, ground := Ground.phase }, { on := 76, ground := Ground.phase }, { on := 77, ground := Ground.phase }, { on := 78, ground := Ground.phase }, { on := 79, ground := Ground.phase }, { on := 80, ground := Ground.phase }]).toArray, guard := none }) (v := ?vr3r2o81) rfl (by kernel_rfl) (by kernel_rfl) (by kernel_rfl) (fun _ _ _ h => h) (Or.inl ⟨by rfl, ?hr3r2o81⟩) hS ?_
  case hr3r2o81 => (intro wx hx; skip; go_simp; (try with_reducible rfl))
  try simp only [Act.put, List.setIfInBounds_toArray, List.set_cons_zero, List.set_cons_succ]
  refine wpAnyH_done (by kernel_rfl) ?_ _
  go_wp2
  go_ret
  exact ⟨rfl, hS.2.2⟩

theorem walk (a b c i k : Int) (w : World) (_wa : (Lit.int .i64 a).wf = true) (_wb : (Lit.int .i64 b).wf = true) (_wc : (Lit.int .i64 c).wf = true) (_wi : (Lit.int .i64 i).wf = true) (_wk : (Lit.int .i64 k).wf = true) :
    Calls Try.prog 3 #[gv a b c, .int .i64 i, .int .i64 k] w (WorksIs w) := walk_at a b c i k w
end Go.Proofs.Ytfmpamgflnklpaa.layoutPlays
