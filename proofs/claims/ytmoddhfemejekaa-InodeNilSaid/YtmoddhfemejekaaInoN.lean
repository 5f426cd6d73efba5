/- Package inode: of no view. -/
import Derived.Test.YtmoddhfemejekaaInoB
import Derived.BigQuiet
import Derived.Deep.QuietTactic
import Derived.Deep.RegionHeld
namespace Go.Proofs.Ytmoddhfemejekaa
open Go.RowKit Go.Grommet

def ErrIs (v : Int) (w : World) (e : Ending) (w' : World) : Prop := e = .returned (.int .i64 v) ∧ w.grownBy w' none
set_option maxHeartbeats 1000000 in
theorem has_nil (a b c n : Int) (m : Bool) (w : World) : Calls Try.prog 31 #[.pointer none, gv a b c, .int .i64 n, .bool m] w (ErrIs 2 w) := by
  unfold gv
  go_enter Try.func31, Try.ntmps31
  go_wp2
  go_ret
  exact ⟨rfl, World.grownBy_alloc w _ none⟩

set_option maxRecDepth 100000 in
set_option maxHeartbeats 1000000 in
theorem Get_nil (a b c n : Int) (w : World) : Calls Try.prog 15 #[.pointer none, gv a b c, .int .i64 n] w fun e w' => e = .returned (.tuple #[.agg #[.int .u64 0, .int .u64 0, .int .u64 0, .int .u64 0, .int .u64 0, .int .u64 0, .int .u64 0, .int .u64 0, .int .u64 0, .int .u64 0], .int .i64 2]) ∧ w.grownBy w' none := by
  have H := Lib.hid (fun wx => has_nil a b c n true wx)
  unfold gv at H ⊢
  go_enter Try.func15, Try.ntmps15
  go_wp2_with fail
  obtain ⟨X, HX⟩ : ∃ X, Hid (X = w.heap.size + 1) := ⟨_, Lib.hid rfl⟩
  have hz0 : ((w.alloc (.cells #[.int .i64 a, .int .i64 b, .int .i64 c] 23)).alloc (.cells #[.int .u64 0, .int .u64 0, .int .u64 0, .int .u64 0, .int .u64 0, .int .u64 0, .int .u64 0, .int .u64 0, .int .u64 0, .int .u64 0] 38)).heap[X]? = some (.cells #[.int .u64 0, .int .u64 0, .int .u64 0, .int .u64 0, .int .u64 0, .int .u64 0, .int .u64 0, .int .u64 0, .int .u64 0, .int .u64 0] 38 (0, 0)) := by rw [HX.out]; exact heap_alloc_new2 w _ _
  rw [← HX.out]
  refine (H.out _).mono ?_
  rintro e w1 ⟨rfl, hg1⟩
  have hz := (hg1.block _ (lt_of_block hz0) (by simp)).trans hz0
  have hg := grown_trans (grown_alloc2 w _ _) hg1
  have z0 : w1.cell? ⟨X, 0, none⟩ = some (.int .u64 0) := by simp [World.cell?, hz]
  have z1 : w1.cell? ⟨X, 1, none⟩ = some (.int .u64 0) := by simp [World.cell?, hz]
  have z2 : w1.cell? ⟨X, 2, none⟩ = some (.int .u64 0) := by simp [World.cell?, hz]
  have z3 : w1.cell? ⟨X, 3, none⟩ = some (.int .u64 0) := by simp [World.cell?, hz]
  have z4 : w1.cell? ⟨X, 4, none⟩ = some (.int .u64 0) := by simp [World.cell?, hz]
  have z5 : w1.cell? ⟨X, 5, none⟩ = some (.int .u64 0) := by simp [World.cell?, hz]
  have z6 : w1.cell? ⟨X, 6, none⟩ = some (.int .u64 0) := by simp [World.cell?, hz]
  have z7 : w1.cell? ⟨X, 7, none⟩ = some (.int .u64 0) := by simp [World.cell?, hz]
  have z8 : w1.cell? ⟨X, 8, none⟩ = some (.int .u64 0) := by simp [World.cell?, hz]
  have z9 : w1.cell? ⟨X, 9, none⟩ = some (.int .u64 0) := by simp [World.cell?, hz]
  have y0 : w1.frozen? ⟨X, 0, none⟩ = false := by simp [World.frozen?, hz]
  have y1 : w1.frozen? ⟨X, 1, none⟩ = false := by simp [World.frozen?, hz]
  have y2 : w1.frozen? ⟨X, 2, none⟩ = false := by simp [World.frozen?, hz]
  have y3 : w1.frozen? ⟨X, 3, none⟩ = false := by simp [World.frozen?, hz]
  have y4 : w1.frozen? ⟨X, 4, none⟩ = false := by simp [World.frozen?, hz]
  have y5 : w1.frozen? ⟨X, 5, none⟩ = false := by simp [World.frozen?, hz]
  have y6 : w1.frozen? ⟨X, 6, none⟩ = false := by simp [World.frozen?, hz]
  have y7 : w1.frozen? ⟨X, 7, none⟩ = false := by simp [World.frozen?, hz]
  have y8 : w1.frozen? ⟨X, 8, none⟩ = false := by simp [World.frozen?, hz]
  have y9 : w1.frozen? ⟨X, 9, none⟩ = false := by simp [World.frozen?, hz]
  have hz1 := heap_setCell_at (o := 0) hz (.int .u64 0)
  have hz2 := heap_setCell_at (o := 1) hz1 (.int .u64 0)
  have hz3 := heap_setCell_at (o := 2) hz2 (.int .u64 0)
  have hz4 := heap_setCell_at (o := 3) hz3 (.int .u64 0)
  have hz5 := heap_setCell_at (o := 4) hz4 (.int .u64 0)
  have hz6 := heap_setCell_at (o := 5) hz5 (.int .u64 0)
  have hz7 := heap_setCell_at (o := 6) hz6 (.int .u64 0)
  have hz8 := heap_setCell_at (o := 7) hz7 (.int .u64 0)
  have hz9 := heap_setCell_at (o := 8) hz8 (.int .u64 0)
  have hz10 := heap_setCell_at (o := 9) hz9 (.int .u64 0)
  have g1 := grown_new hg (grown_trans (grown_trans (grown_trans (grown_trans (grown_trans (grown_trans (grown_trans (grown_trans (grown_trans (grown_setCell _ ⟨X, 0, none⟩ (.int .u64 0)) (grown_setCell _ ⟨X, 1, none⟩ (.int .u64 0))) (grown_setCell _ ⟨X, 2, none⟩ (.int .u64 0))) (grown_setCell _ ⟨X, 3, none⟩ (.int .u64 0))) (grown_setCell _ ⟨X, 4, none⟩ (.int .u64 0))) (grown_setCell _ ⟨X, 5, none⟩ (.int .u64 0))) (grown_setCell _ ⟨X, 6, none⟩ (.int .u64 0))) (grown_setCell _ ⟨X, 7, none⟩ (.int .u64 0))) (grown_setCell _ ⟨X, 8, none⟩ (.int .u64 0))) (grown_setCell _ ⟨X, 9, none⟩ (.int .u64 0))) (by intro k e; have h1 : X = k := Option.some.inj e; have h2 := HX.out; omega)
  obtain ⟨W3, hW3⟩ : ∃ W3, W3 = ((((((((((w1.setCell ⟨X, 0, none⟩ (.int .u64 0)).setCell ⟨X, 1, none⟩ (.int .u64 0)).setCell ⟨X, 2, none⟩ (.int .u64 0)).setCell ⟨X, 3, none⟩ (.int .u64 0)).setCell ⟨X, 4, none⟩ (.int .u64 0)).setCell ⟨X, 5, none⟩ (.int .u64 0)).setCell ⟨X, 6, none⟩ (.int .u64 0)).setCell ⟨X, 7, none⟩ (.int .u64 0)).setCell ⟨X, 8, none⟩ (.int .u64 0)).setCell ⟨X, 9, none⟩ (.int .u64 0)) := ⟨_, rfl⟩
  clear hz0 hg1 hg hz1 hz2 hz3 hz4 hz5 hz6 hz7 hz8 hz9
  go_wp2
  rw [← hW3] at hz10 g1 ⊢
  have Z0 : W3.cell? ⟨X, 0, none⟩ = some (.int .u64 0) := by simp [World.cell?, hz10]
  have Z1 : W3.cell? ⟨X, 1, none⟩ = some (.int .u64 0) := by simp [World.cell?, hz10]
  have Z2 : W3.cell? ⟨X, 2, none⟩ = some (.int .u64 0) := by simp [World.cell?, hz10]
  have Z3 : W3.cell? ⟨X, 3, none⟩ = some (.int .u64 0) := by simp [World.cell?, hz10]
  have Z4 : W3.cell? ⟨X, 4, none⟩ = some (.int .u64 0) := by simp [World.cell?, hz10]
  have Z5 : W3.cell? ⟨X, 5, none⟩ = some (.int .u64 0) := by simp [World.cell?, hz10]
  have Z6 : W3.cell? ⟨X, 6, none⟩ = some (.int .u64 0) := by simp [World.cell?, hz10]
  have Z7 : W3.cell? ⟨X, 7, none⟩ = some (.int .u64 0) := by simp [World.cell?, hz10]
  have Z8 : W3.cell? ⟨X, 8, none⟩ = some (.int .u64 0) := by simp [World.cell?, hz10]
  have Z9 : W3.cell? ⟨X, 9, none⟩ = some (.int .u64 0) := by simp [World.cell?, hz10]
  exact bodyPost_ret (v := .tuple #[.agg #[.int .u64 0, .int .u64 0, .int .u64 0, .int .u64 0, .int .u64 0, .int .u64 0, .int .u64 0, .int .u64 0, .int .u64 0, .int .u64 0], .int .i64 2]) (by simp [results, Try.results15, go_sem, Z0, Z1, Z2, Z3, Z4, Z5, Z6, Z7, Z8, Z9]) rfl ⟨rfl, g1⟩

set_option maxRecDepth 100000 in
set_option maxHeartbeats 1000000 in
theorem Wipe_nil (a b c n : Int) (w : World) : Calls Try.prog 19 #[.pointer none, gv a b c, .int .i64 n] w (ErrIs 2 w) := by
  have H := Lib.hid (fun wx => has_nil a b c n true wx)
  unfold gv at H ⊢
  go_enter Try.func19, Try.ntmps19
  go_wp2_with fail
  refine (H.out _).mono ?_
  rintro e w1 ⟨rfl, hg1⟩
  go_wp2
  go_ret
  exact ⟨rfl, grown_trans (World.grownBy_alloc w _ none) hg1⟩

set_option maxRecDepth 100000 in
set_option maxHeartbeats 1000000 in
theorem Put_nil (a b c n : Int) (k l o s d0 d1 d2 d3 ch p : Nat) (w : World) : Calls Try.prog 17 #[.pointer none, gv a b c, .int .i64 n, nv k l o s d0 d1 d2 d3 ch p] w (ErrIs 2 w) := by
  have H := Lib.hid (fun wx m => has_nil a b c n m wx)
  have HR := Lib.hid (fun wx => Right_any a b c k l o s d0 d1 d2 d3 ch p wx)
  generalize rightB a b c k l o s d0 d1 d2 d3 ch p = r at HR
  unfold gv nv at *
  go_enter Try.func17, Try.ntmps17
  go_wp2_with fail
  obtain ⟨G, HG⟩ : ∃ G, Hid (G = w.heap.size) := ⟨_, Lib.hid rfl⟩
  obtain ⟨X, HX⟩ : ∃ X, Hid (X = w.heap.size + 1) := ⟨_, Lib.hid rfl⟩
  have hS0 : GeoS G a b c ((w.alloc (.cells #[.int .i64 a, .int .i64 b, .int .i64 c] 23)).alloc (.cells #[.int .u64 (k : Int), .int .u64 (l : Int), .int .u64 (o : Int), .int .u64 (s : Int), .int .u64 (d0 : Int), .int .u64 (d1 : Int), .int .u64 (d2 : Int), .int .u64 (d3 : Int), .int .u64 (ch : Int), .int .u64 (p : Int)] 38)) ∧ NodeS X k l o s d0 d1 d2 d3 ch p ((w.alloc (.cells #[.int .i64 a, .int .i64 b, .int .i64 c] 23)).alloc (.cells #[.int .u64 (k : Int), .int .u64 (l : Int), .int .u64 (o : Int), .int .u64 (s : Int), .int .u64 (d0 : Int), .int .u64 (d1 : Int), .int .u64 (d2 : Int), .int .u64 (d3 : Int), .int .u64 (ch : Int), .int .u64 (p : Int)] 38)) :=
    ⟨by rw [HG.out]; exact ((World.grownBy_alloc _ _ none).block _ (by simp) (by simp)).trans (heap_alloc_new w _), by rw [HX.out]; exact heap_alloc_new2 w _ _⟩
  rw [← HX.out, ← HG.out]
  refine wp_region_held_drew (S := fun w' => GeoS G a b c w' ∧ NodeS X k l o s d0 d1 d2 d3 ch p w') (by kernel_rfl) (And.intro (hS0.1.keep (grown_drew (World.grownBy.refl _ none))) (hS0.2.keep (grown_drew (World.grownBy.refl _ none)))) (fun hS => ?_)
  refine wpAnyH_take (i := 0) (oi := { dst := some 10, op := Op.move (Operand.tmp 0), type := 31, pos := "inode.go:89", after := #[], guard := none }) (v := ?vr17r1o0) rfl (by kernel_rfl) (by kernel_rfl) (by kernel_rfl) (fun _ _ _ h => h) (Or.inl ⟨by rfl, ?hr17r1o0⟩) hS ?_
  case hr17r1o0 => (intro wx hx; skip; go_simp; (try with_reducible rfl))
  try simp only [Act.put, List.setIfInBounds_toArray, List.set_cons_zero, List.set_cons_succ]
  refine wpAnyH_take (i := 1) (oi := { dst := some 11, op := Op.load 23 (Operand.tmp 5), type := 23, pos := "inode.go:89", after := #[], guard := none }) (v := ?vr17r1o1) rfl (by kernel_rfl) (by kernel_rfl) (by kernel_rfl) (fun _ _ _ h => h) (Or.inl ⟨by rfl, ?hr17r1o1⟩) hS ?_
  case hr17r1o1 => (intro wx hx; obtain ⟨hx0, hx1⟩ := hx; obtain ⟨y0, y1, y2⟩ := GeoS.cells hx0; obtain ⟨z0, z1, z2, z3, z4, z5, z6, z7, z8, z9⟩ := NodeS.cells hx1; go_simp; (try with_reducible rfl))
  try simp only [Act.put, List.setIfInBounds_toArray, List.set_cons_zero, List.set_cons_succ]
  refine wpAnyH_take (i := 2) (oi := { dst := some 12, op := Op.move (Operand.tmp 2), type := 3, pos := "inode.go:89", after := #[], guard := none }) (v := ?vr17r1o2) rfl (by kernel_rfl) (by kernel_rfl) (by kernel_rfl) (fun _ _ _ h => h) (Or.inl ⟨by rfl, ?hr17r1o2⟩) hS ?_
  case hr17r1o2 => (intro wx hx; skip; go_simp; (try with_reducible rfl))
  try simp only [Act.put, List.setIfInBounds_toArray, List.set_cons_zero, List.set_cons_succ]
  refine wpAnyH_take (i := 3) (oi := { dst := some 13, op := Op.load 23 (Operand.tmp 5), type := 23, pos := "inode.go:89", after := #[], guard := none }) (v := ?vr17r1o3) rfl (by kernel_rfl) (by kernel_rfl) (by kernel_rfl) (fun _ _ _ h => h) (Or.inl ⟨by rfl, ?hr17r1o3⟩) hS ?_
  case hr17r1o3 => (intro wx hx; obtain ⟨hx0, hx1⟩ := hx; obtain ⟨y0, y1, y2⟩ := GeoS.cells hx0; obtain ⟨z0, z1, z2, z3, z4, z5, z6, z7, z8, z9⟩ := NodeS.cells hx1; go_simp; (try with_reducible rfl))
  try simp only [Act.put, List.setIfInBounds_toArray, List.set_cons_zero, List.set_cons_succ]
  refine wpAnyH_take (i := 4) (oi := { dst := some 14, op := Op.load 38 (Operand.tmp 7), type := 38, pos := "inode.go:89", after := #[], guard := none }) (v := ?vr17r1o4) rfl (by kernel_rfl) (by kernel_rfl) (by kernel_rfl) (fun _ _ _ h => h) (Or.inl ⟨by rfl, ?hr17r1o4⟩) hS ?_
  case hr17r1o4 => (intro wx hx; obtain ⟨hx0, hx1⟩ := hx; obtain ⟨y0, y1, y2⟩ := GeoS.cells hx0; obtain ⟨z0, z1, z2, z3, z4, z5, z6, z7, z8, z9⟩ := NodeS.cells hx1; go_simp; (try with_reducible rfl))
  try simp only [Act.put, List.setIfInBounds_toArray, List.set_cons_zero, List.set_cons_succ]
  refine wpAnyH_ready (rs := [5]) (by kernel_rfl) (by simp) ?_
  refine AllReadyH.cons (o := { dst := some 15, op := Op.call { callee := Callee.value (Operand.func 13), args := #[Operand.tmp 13, Operand.tmp 14], argTypes := #[23, 38] }, type := 4, pos := "inode.go:89", after := #[{ on := 3, ground := Ground.data }, { on := 4, ground := Ground.data }], guard := none }) rfl (fun K hK => ?_) AllReadyH.nil
  go_simp
  refine (HR.out _).mono ?_
  rintro e wA ⟨rfl, hgA⟩
  have hS1 := And.intro (hS.1.keep hgA) (hS.2.keep hgA)
  refine hK.out _ _ ?hsr17r1o5 (fun hS => ?_)
  case hsr17r1o5 => (exact hS1)
  clear hK K
  try simp only [Act.put, List.setIfInBounds_toArray, List.set_cons_zero, List.set_cons_succ]
  refine wpAnyH_ready (rs := [6]) (by kernel_rfl) (by simp) ?_
  refine AllReadyH.cons (o := { dst := some 16, op := Op.call { callee := Callee.value (Operand.func 31), args := #[Operand.tmp 10, Operand.tmp 11, Operand.tmp 12, Operand.tmp 15], argTypes := #[31, 23, 3, 4] }, type := 47, pos := "inode.go:89", after := #[{ on := 0, ground := Ground.data }, { on := 1, ground := Ground.data }, { on := 2, ground := Ground.data }, { on := 5, ground := Ground.data }, { on := 5, ground := Ground.chain }], guard := none }) rfl (fun K hK => ?_) AllReadyH.nil
  go_simp
  refine (H.out _ _).mono ?_
  rintro e wB ⟨rfl, hgB⟩
  have hS1 := And.intro (hS.1.keep hgB) (hS.2.keep hgB)
  refine hK.out _ _ ?hsr17r1o6 (fun hS => ?_)
  case hsr17r1o6 => (exact hS1)
  clear hK K
  try simp only [Act.put, List.setIfInBounds_toArray, List.set_cons_zero, List.set_cons_succ]
  refine wpAnyH_take (i := 7) (oi := { dst := some 9, op := Op.assign (Operand.tmp 16), type := 47, pos := "inode.go:89", after := #[{ on := 6, ground := Ground.data }, { on := 6, ground := Ground.chain }, { on := 0, ground := Ground.phase }, { on := 1, ground := Ground.phase }, { on := 2, ground := Ground.phase }, { on := 3, ground := Ground.phase }, { on := 4, ground := Ground.phase }, { on := 5, ground := Ground.phase }, { on := 6, ground := Ground.phase }], guard := none }) (v := ?vr17r1o7) rfl (by kernel_rfl) (by kernel_rfl) (by kernel_rfl) (fun _ _ _ h => h) (Or.inl ⟨by rfl, ?hr17r1o7⟩) hS ?_
  case hr17r1o7 => (intro wx hx; skip; go_simp; (try with_reducible rfl))
  try simp only [Act.put, List.setIfInBounds_toArray, List.set_cons_zero, List.set_cons_succ]
  refine wpAnyH_done (by kernel_rfl) ?_ _
  have hgA2 := grown_trans (grown_trans (grown_drew (grown_alloc2 w _ _)) hgA) hgB
  clear hS hS1 hgA hgB hS0
  go_wp2
  go_ret
  exact ⟨rfl, hgA2⟩
end Go.Proofs.Ytmoddhfemejekaa
