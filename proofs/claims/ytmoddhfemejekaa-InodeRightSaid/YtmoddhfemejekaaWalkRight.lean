/- InodeRight, walked. -/
import Derived.Test.YtmoddhfemejekaaInoB
namespace Go.Proofs.Ytmoddhfemejekaa.inodeRight
open Go.RowKit Go.Grommet

set_option maxRecDepth 100000 in
set_option maxHeartbeats 1000000 in
theorem walk_no (x y wh M k l o s d0 d1 d2 d3 ch p : Nat) (w : World) (hx : x < 256) (hy : y < 256) (hr : rightB 1 ((2 + x % 20 : Nat) : Int) ((2 + y % 60 : Nat) : Int) k l o s d0 d1 d2 d3 ch p = false) :
    Calls Try.prog 5 #[.int .u8 (x : Int), .int .u8 (y : Int), .agg #[.int .u64 (k : Int), .int .u64 (l : Int), .int .u64 (o : Int), .int .u64 (s : Int), .int .u64 (d0 : Int), .int .u64 (d1 : Int), .int .u64 (d2 : Int), .int .u64 (d3 : Int), .int .u64 (ch : Int), .int .u64 (p : Int)], .int .u8 (wh : Int), .int .u64 (M : Int)] w (WorksIs w) := by
  have hB2 : (2 + x % 20 : Nat) < 1000 := by omega
  have hC2 : (2 + y % 60 : Nat) < 1000 := by omega
  have HS := Lib.hid (fun wx => Small_any x y hx hy wx)
  have H1 := Lib.hid (fun wx => Right_any 1 ((2 + x % 20 : Nat) : Int) ((2 + y % 60 : Nat) : Int) k l o s d0 d1 d2 d3 ch p wx)
  rw [hr] at H1
  have H2 := Lib.hid (fun wx => Right_any 9 3 3 k l o s d0 d1 d2 d3 ch p wx)
  rw [show rightB 9 3 3 k l o s d0 d1 d2 d3 ch p = false from by unfold rightB; rw [decide_eq_false_iff_not]; intro h; exact absurd h.1 (by decide)] at H2
  generalize (2 + x % 20 : Nat) = B at *
  generalize (2 + y % 60 : Nat) = C at *
  clear hr hx hy
  unfold gv nv at *
  go_enter Try.func5, Try.ntmps5
  go_wp2_with fail
  obtain ⟨N, HN⟩ : ∃ N, Hid (N = w.heap.size) := ⟨_, Lib.hid rfl⟩
  have hN0 : NodeS N k l o s d0 d1 d2 d3 ch p (w.alloc (.cells #[.int .u64 (k : Int), .int .u64 (l : Int), .int .u64 (o : Int), .int .u64 (s : Int), .int .u64 (d0 : Int), .int .u64 (d1 : Int), .int .u64 (d2 : Int), .int .u64 (d3 : Int), .int .u64 (ch : Int), .int .u64 (p : Int)] 38)) := by rw [HN.out]; exact heap_alloc_new w _
  rw [← HN.out]
  refine (HS.out _).mono ?_
  rintro e w1 ⟨rfl, hg1⟩
  obtain ⟨G, HG⟩ : ∃ G, Hid (G = w1.heap.size) := ⟨_, Lib.hid rfl⟩
  have hGN : G ≠ N := by rw [HG.out]; have := hg1.size; rw [World.size_alloc] at this; rw [HN.out]; omega
  have hN1 := (hN0.keep hg1).keep (World.grownBy_alloc w1 (.cells #[.int .i64 1, .int .i64 (B : Int), .int .i64 (C : Int)] 23) none)
  have hG1 : GeoS G 1 (B : Int) (C : Int) (w1.alloc (.cells #[.int .i64 1, .int .i64 (B : Int), .int .i64 (C : Int)] 23)) := by rw [HG.out]; exact heap_alloc_new w1 _
  have hgw := Lib.hid (grown_trans (grown_trans (World.grownBy_alloc w _ none) hg1) (World.grownBy_alloc w1 (.cells #[.int .i64 1, .int .i64 (B : Int), .int .i64 (C : Int)] 23) none))
  obtain ⟨x0, x1, x2, x3, x4, x5, x6, x7, x8, x9⟩ := hN1.cells
  replace hN1 := Lib.hid hN1
  replace hG1 := Lib.hid hG1
  clear hN0 hg1 HS
  go_wp2_with fail
  rw [← HG.out]
  refine (H1.out _).mono ?_
  rintro e w2 ⟨rfl, hg⟩
  have hN2 := hN1.out.keep hg
  have hG2 := hG1.out.keep hg
  have hgw := Lib.hid (grown_trans hgw.out hg)
  clear x0 x1 x2 x3 x4 x5 x6 x7 x8 x9 hg H1
  obtain ⟨x0, x1, x2, x3, x4, x5, x6, x7, x8, x9⟩ := hN2.cells
  obtain ⟨g0, g1, g2⟩ := hG2.cells
  replace hN2 := Lib.hid hN2
  replace hG2 := Lib.hid hG2
  go_wp2_with fail
  refine (H2.out _).mono ?_
  rintro e w3 ⟨rfl, hg⟩
  have hN3 := hN2.out.keep hg
  have hG3 := hG2.out.keep hg
  have hgw := Lib.hid (grown_trans hgw.out hg)
  clear x0 x1 x2 x3 x4 x5 x6 x7 x8 x9 g0 g1 g2 hg H2
  obtain ⟨x0, x1, x2, x3, x4, x5, x6, x7, x8, x9⟩ := hN3.cells
  obtain ⟨g0, g1, g2⟩ := hG3.cells
  replace hN3 := Lib.hid hN3
  replace hG3 := Lib.hid hG3
  go_wp2_with fail
  refine (works_any _).mono ?_
  rintro e w9 ⟨rfl, hg⟩
  go_wp2
  go_ret
  exact ⟨rfl, grown_trans hgw.out hg⟩

set_option maxRecDepth 100000 in
set_option maxHeartbeats 1000000 in
theorem walk_0 (x y wh M k l o s d0 d1 d2 d3 ch p : Nat) (w : World) (hx : x < 256) (hy : y < 256) (hr : rightB 1 ((2 + x % 20 : Nat) : Int) ((2 + y % 60 : Nat) : Int) k l o s d0 d1 d2 d3 ch p = true) (hw : wh % 7 = 0) :
    Calls Try.prog 5 #[.int .u8 (x : Int), .int .u8 (y : Int), .agg #[.int .u64 (k : Int), .int .u64 (l : Int), .int .u64 (o : Int), .int .u64 (s : Int), .int .u64 (d0 : Int), .int .u64 (d1 : Int), .int .u64 (d2 : Int), .int .u64 (d3 : Int), .int .u64 (ch : Int), .int .u64 (p : Int)], .int .u8 (wh : Int), .int .u64 (M : Int)] w (WorksIs w) := by
  have hB2 : (2 + x % 20 : Nat) < 1000 := by omega
  have hC2 : (2 + y % 60 : Nat) < 1000 := by omega
  have HS := Lib.hid (fun wx => Small_any x y hx hy wx)
  have H1 := Lib.hid (fun wx => Right_any 1 ((2 + x % 20 : Nat) : Int) ((2 + y % 60 : Nat) : Int) k l o s d0 d1 d2 d3 ch p wx)
  rw [hr] at H1
  have hq : mayB 1 ((2 + x % 20 : Nat) : Int) ((2 + y % 60 : Nat) : Int) = true ∧ (k = 1 ∨ k = 2) ∧ l ≤ 65536 ∧ o ≤ 16 ∧ s ≤ 768 ∧ (ch : Int) < ((2 + y % 60 : Nat) : Int) ∧ (p : Int) < ((2 + x % 20 : Nat) : Int) ∧ (k = 1 → p = 0) ∧ (k = 2 → s = 0) ∧ (d0 : Int) < ((2 + y % 60 : Nat) : Int) ∧ (d1 : Int) < ((2 + y % 60 : Nat) : Int) ∧ (d2 : Int) < ((2 + y % 60 : Nat) : Int) ∧ (d3 : Int) < ((2 + y % 60 : Nat) : Int) := by unfold rightB at hr; rw [decide_eq_true_eq] at hr; exact hr
  have H2 := Lib.hid (fun wx => Right_any 4 64 512 k l o s d0 d1 d2 d3 ch p wx)
  have H3 := Lib.hid (fun wx => Right_any 0 0 0 k l o s d0 d1 d2 d3 ch p wx)
  rw [show rightB 4 64 512 k l o s d0 d1 d2 d3 ch p = true from by unfold rightB; rw [decide_eq_true_eq]; exact ⟨by decide, hq.2.1, hq.2.2.1, hq.2.2.2.1, hq.2.2.2.2.1, by omega, by omega, hq.2.2.2.2.2.2.2.1, hq.2.2.2.2.2.2.2.2.1, by omega, by omega, by omega, by omega⟩] at H2
  rw [show rightB 0 0 0 k l o s d0 d1 d2 d3 ch p = false from by unfold rightB; rw [decide_eq_false_iff_not]; intro h; exact absurd h.1 (by decide)] at H3
  obtain ⟨m, Hm⟩ : ∃ m, Hid (m = M % 4611686018427387904) := ⟨_, Lib.hid rfl⟩
  obtain ⟨V, HV⟩ : ∃ V, Hid (V = 3 + m) := ⟨_, Lib.hid rfl⟩
  have em : (M : Int) % 4611686018427387904 = (m : Int) := by rw [Hm.out]; omega
  have ew : (wh : Int) % 7 = 0 := by omega
  have wV : IntKind.u64.wrap (3 + (m : Int)) = (V : Int) := by
    rw [show (3 : Int) + (m : Int) = (V : Int) from by rw [HV.out]; omega]
    exact IntWalk.u64_in _ ⟨by omega, by rw [HV.out, Hm.out]; omega⟩
  have H4 := Lib.hid (fun wx => Right_any 1 ((2 + x % 20 : Nat) : Int) ((2 + y % 60 : Nat) : Int) V l o s d0 d1 d2 d3 ch p wx)
  rw [show rightB 1 ((2 + x % 20 : Nat) : Int) ((2 + y % 60 : Nat) : Int) V l o s d0 d1 d2 d3 ch p = false from by unfold rightB; rw [decide_eq_false_iff_not]; rw [HV.out]; omega] at H4
  have wB : IntKind.u64.wrap ((2 + x % 20 : Nat) : Int) = ((2 + x % 20 : Nat) : Int) := IntWalk.u64_in _ ⟨by omega, by omega⟩
  have wC : IntKind.u64.wrap ((2 + y % 60 : Nat) : Int) = ((2 + y % 60 : Nat) : Int) := IntWalk.u64_in _ ⟨by omega, by omega⟩
  clear hq hw
  generalize (2 + x % 20 : Nat) = B at *
  generalize (2 + y % 60 : Nat) = C at *
  clear hr hx hy
  unfold gv nv at *
  go_enter Try.func5, Try.ntmps5
  go_wp2_with fail
  obtain ⟨N, HN⟩ : ∃ N, Hid (N = w.heap.size) := ⟨_, Lib.hid rfl⟩
  have hN0 : NodeS N k l o s d0 d1 d2 d3 ch p (w.alloc (.cells #[.int .u64 (k : Int), .int .u64 (l : Int), .int .u64 (o : Int), .int .u64 (s : Int), .int .u64 (d0 : Int), .int .u64 (d1 : Int), .int .u64 (d2 : Int), .int .u64 (d3 : Int), .int .u64 (ch : Int), .int .u64 (p : Int)] 38)) := by rw [HN.out]; exact heap_alloc_new w _
  rw [← HN.out]
  refine (HS.out _).mono ?_
  rintro e w1 ⟨rfl, hg1⟩
  obtain ⟨G, HG⟩ : ∃ G, Hid (G = w1.heap.size) := ⟨_, Lib.hid rfl⟩
  have hGN : G ≠ N := by rw [HG.out]; have := hg1.size; rw [World.size_alloc] at this; rw [HN.out]; omega
  have hN1 := (hN0.keep hg1).keep (World.grownBy_alloc w1 (.cells #[.int .i64 1, .int .i64 (B : Int), .int .i64 (C : Int)] 23) none)
  have hG1 : GeoS G 1 (B : Int) (C : Int) (w1.alloc (.cells #[.int .i64 1, .int .i64 (B : Int), .int .i64 (C : Int)] 23)) := by rw [HG.out]; exact heap_alloc_new w1 _
  have hgw := Lib.hid (grown_trans (grown_trans (World.grownBy_alloc w _ none) hg1) (World.grownBy_alloc w1 (.cells #[.int .i64 1, .int .i64 (B : Int), .int .i64 (C : Int)] 23) none))
  obtain ⟨x0, x1, x2, x3, x4, x5, x6, x7, x8, x9⟩ := hN1.cells
  replace hN1 := Lib.hid hN1
  replace hG1 := Lib.hid hG1
  clear hN0 hg1 HS
  go_wp2_with fail
  rw [← HG.out]
  refine (H1.out _).mono ?_
  rintro e w2 ⟨rfl, hg⟩
  have hN2 := hN1.out.keep hg
  have hG2 := hG1.out.keep hg
  have hgw := Lib.hid (grown_trans hgw.out hg)
  clear x0 x1 x2 x3 x4 x5 x6 x7 x8 x9 hg H1
  obtain ⟨x0, x1, x2, x3, x4, x5, x6, x7, x8, x9⟩ := hN2.cells
  obtain ⟨g0, g1, g2⟩ := hG2.cells
  replace hN2 := Lib.hid hN2
  replace hG2 := Lib.hid hG2
  have hA := World.grownBy_alloc w2 (.cells #[.int .i64 4, .int .i64 64, .int .i64 512] 23) none
  replace hN2 := hN2.out.keep hA
  replace hG2 := hG2.out.keep hA
  have hgw := Lib.hid (grown_trans hgw.out hA)
  clear x0 x1 x2 x3 x4 x5 x6 x7 x8 x9 g0 g1 g2 hA
  obtain ⟨x0, x1, x2, x3, x4, x5, x6, x7, x8, x9⟩ := hN2.cells
  obtain ⟨g0, g1, g2⟩ := hG2.cells
  replace hN2 := Lib.hid hN2
  replace hG2 := Lib.hid hG2
  go_wp2_with fail
  refine (H2.out _).mono ?_
  rintro e w3 ⟨rfl, hg⟩
  have hN3 := hN2.out.keep hg
  have hG3 := hG2.out.keep hg
  have hgw := Lib.hid (grown_trans hgw.out hg)
  clear x0 x1 x2 x3 x4 x5 x6 x7 x8 x9 g0 g1 g2 hg H2
  obtain ⟨x0, x1, x2, x3, x4, x5, x6, x7, x8, x9⟩ := hN3.cells
  obtain ⟨g0, g1, g2⟩ := hG3.cells
  replace hN3 := Lib.hid hN3
  replace hG3 := Lib.hid hG3
  go_wp2_with fail
  refine (H3.out _).mono ?_
  rintro e w4 ⟨rfl, hg⟩
  have hN4 := hN3.out.keep hg
  have hG4 := hG3.out.keep hg
  have hgw := Lib.hid (grown_trans hgw.out hg)
  clear x0 x1 x2 x3 x4 x5 x6 x7 x8 x9 g0 g1 g2 hg H3
  obtain ⟨x0, x1, x2, x3, x4, x5, x6, x7, x8, x9⟩ := hN4.cells
  obtain ⟨g0, g1, g2⟩ := hG4.cells
  replace hN4 := Lib.hid hN4
  replace hG4 := Lib.hid hG4
  have hfr := hN4.out.free 0
  have hN5 : NodeS N V l o s d0 d1 d2 d3 ch p (w4.setCell ⟨N, 0, none⟩ (.int .u64 (V : Int))) := by
    have h := heap_setCell_at (o := 0) hN4.out (.int .u64 (V : Int))
    unfold NodeS; simpa using h
  have hG5 := hG4.out.past (o := 0) (u := .int .u64 (V : Int)) hGN
  have hgw := Lib.hid (grown_new hgw.out (grown_setCell w4 ⟨N, 0, none⟩ (.int .u64 (V : Int))) (by intro g e; cases e; rw [HN.out]; exact Nat.le_refl _))
  obtain ⟨y0, y1, y2, y3, y4, y5, y6, y7, y8, y9⟩ := hN5.cells
  obtain ⟨f0, f1, f2⟩ := hG5.cells
  replace hN5 := Lib.hid hN5
  replace hG5 := Lib.hid hG5
  go_wp2_with fail
  refine (H4.out _).mono ?_
  rintro e w6 ⟨rfl, hg⟩
  have hgw := Lib.hid (grown_trans hgw.out hg)
  clear hg
  go_wp2_with fail
  refine (works_any _).mono ?_
  rintro e w9 ⟨rfl, hg⟩
  go_wp2
  go_ret
  exact ⟨rfl, grown_trans hgw.out hg⟩

set_option maxRecDepth 100000 in
set_option maxHeartbeats 1000000 in
theorem walk_1 (x y wh M k l o s d0 d1 d2 d3 ch p : Nat) (w : World) (hx : x < 256) (hy : y < 256) (hr : rightB 1 ((2 + x % 20 : Nat) : Int) ((2 + y % 60 : Nat) : Int) k l o s d0 d1 d2 d3 ch p = true) (hw : wh % 7 = 1) :
    Calls Try.prog 5 #[.int .u8 (x : Int), .int .u8 (y : Int), .agg #[.int .u64 (k : Int), .int .u64 (l : Int), .int .u64 (o : Int), .int .u64 (s : Int), .int .u64 (d0 : Int), .int .u64 (d1 : Int), .int .u64 (d2 : Int), .int .u64 (d3 : Int), .int .u64 (ch : Int), .int .u64 (p : Int)], .int .u8 (wh : Int), .int .u64 (M : Int)] w (WorksIs w) := by
  have hB2 : (2 + x % 20 : Nat) < 1000 := by omega
  have hC2 : (2 + y % 60 : Nat) < 1000 := by omega
  have HS := Lib.hid (fun wx => Small_any x y hx hy wx)
  have H1 := Lib.hid (fun wx => Right_any 1 ((2 + x % 20 : Nat) : Int) ((2 + y % 60 : Nat) : Int) k l o s d0 d1 d2 d3 ch p wx)
  rw [hr] at H1
  have hq : mayB 1 ((2 + x % 20 : Nat) : Int) ((2 + y % 60 : Nat) : Int) = true ∧ (k = 1 ∨ k = 2) ∧ l ≤ 65536 ∧ o ≤ 16 ∧ s ≤ 768 ∧ (ch : Int) < ((2 + y % 60 : Nat) : Int) ∧ (p : Int) < ((2 + x % 20 : Nat) : Int) ∧ (k = 1 → p = 0) ∧ (k = 2 → s = 0) ∧ (d0 : Int) < ((2 + y % 60 : Nat) : Int) ∧ (d1 : Int) < ((2 + y % 60 : Nat) : Int) ∧ (d2 : Int) < ((2 + y % 60 : Nat) : Int) ∧ (d3 : Int) < ((2 + y % 60 : Nat) : Int) := by unfold rightB at hr; rw [decide_eq_true_eq] at hr; exact hr
  have H2 := Lib.hid (fun wx => Right_any 4 64 512 k l o s d0 d1 d2 d3 ch p wx)
  have H3 := Lib.hid (fun wx => Right_any 0 0 0 k l o s d0 d1 d2 d3 ch p wx)
  rw [show rightB 4 64 512 k l o s d0 d1 d2 d3 ch p = true from by unfold rightB; rw [decide_eq_true_eq]; exact ⟨by decide, hq.2.1, hq.2.2.1, hq.2.2.2.1, hq.2.2.2.2.1, by omega, by omega, hq.2.2.2.2.2.2.2.1, hq.2.2.2.2.2.2.2.2.1, by omega, by omega, by omega, by omega⟩] at H2
  rw [show rightB 0 0 0 k l o s d0 d1 d2 d3 ch p = false from by unfold rightB; rw [decide_eq_false_iff_not]; intro h; exact absurd h.1 (by decide)] at H3
  obtain ⟨m, Hm⟩ : ∃ m, Hid (m = M % 4611686018427387904) := ⟨_, Lib.hid rfl⟩
  obtain ⟨V, HV⟩ : ∃ V, Hid (V = 65537 + m) := ⟨_, Lib.hid rfl⟩
  have em : (M : Int) % 4611686018427387904 = (m : Int) := by rw [Hm.out]; omega
  have ew : (wh : Int) % 7 = 1 := by omega
  have wV : IntKind.u64.wrap (65537 + (m : Int)) = (V : Int) := by
    rw [show (65537 : Int) + (m : Int) = (V : Int) from by rw [HV.out]; omega]
    exact IntWalk.u64_in _ ⟨by omega, by rw [HV.out, Hm.out]; omega⟩
  have H4 := Lib.hid (fun wx => Right_any 1 ((2 + x % 20 : Nat) : Int) ((2 + y % 60 : Nat) : Int) k V o s d0 d1 d2 d3 ch p wx)
  rw [show rightB 1 ((2 + x % 20 : Nat) : Int) ((2 + y % 60 : Nat) : Int) k V o s d0 d1 d2 d3 ch p = false from by unfold rightB; rw [decide_eq_false_iff_not]; rw [HV.out]; omega] at H4
  have wB : IntKind.u64.wrap ((2 + x % 20 : Nat) : Int) = ((2 + x % 20 : Nat) : Int) := IntWalk.u64_in _ ⟨by omega, by omega⟩
  have wC : IntKind.u64.wrap ((2 + y % 60 : Nat) : Int) = ((2 + y % 60 : Nat) : Int) := IntWalk.u64_in _ ⟨by omega, by omega⟩
  clear hq hw
  generalize (2 + x % 20 : Nat) = B at *
  generalize (2 + y % 60 : Nat) = C at *
  clear hr hx hy
  unfold gv nv at *
  go_enter Try.func5, Try.ntmps5
  go_wp2_with fail
  obtain ⟨N, HN⟩ : ∃ N, Hid (N = w.heap.size) := ⟨_, Lib.hid rfl⟩
  have hN0 : NodeS N k l o s d0 d1 d2 d3 ch p (w.alloc (.cells #[.int .u64 (k : Int), .int .u64 (l : Int), .int .u64 (o : Int), .int .u64 (s : Int), .int .u64 (d0 : Int), .int .u64 (d1 : Int), .int .u64 (d2 : Int), .int .u64 (d3 : Int), .int .u64 (ch : Int), .int .u64 (p : Int)] 38)) := by rw [HN.out]; exact heap_alloc_new w _
  rw [← HN.out]
  refine (HS.out _).mono ?_
  rintro e w1 ⟨rfl, hg1⟩
  obtain ⟨G, HG⟩ : ∃ G, Hid (G = w1.heap.size) := ⟨_, Lib.hid rfl⟩
  have hGN : G ≠ N := by rw [HG.out]; have := hg1.size; rw [World.size_alloc] at this; rw [HN.out]; omega
  have hN1 := (hN0.keep hg1).keep (World.grownBy_alloc w1 (.cells #[.int .i64 1, .int .i64 (B : Int), .int .i64 (C : Int)] 23) none)
  have hG1 : GeoS G 1 (B : Int) (C : Int) (w1.alloc (.cells #[.int .i64 1, .int .i64 (B : Int), .int .i64 (C : Int)] 23)) := by rw [HG.out]; exact heap_alloc_new w1 _
  have hgw := Lib.hid (grown_trans (grown_trans (World.grownBy_alloc w _ none) hg1) (World.grownBy_alloc w1 (.cells #[.int .i64 1, .int .i64 (B : Int), .int .i64 (C : Int)] 23) none))
  obtain ⟨x0, x1, x2, x3, x4, x5, x6, x7, x8, x9⟩ := hN1.cells
  replace hN1 := Lib.hid hN1
  replace hG1 := Lib.hid hG1
  clear hN0 hg1 HS
  go_wp2_with fail
  rw [← HG.out]
  refine (H1.out _).mono ?_
  rintro e w2 ⟨rfl, hg⟩
  have hN2 := hN1.out.keep hg
  have hG2 := hG1.out.keep hg
  have hgw := Lib.hid (grown_trans hgw.out hg)
  clear x0 x1 x2 x3 x4 x5 x6 x7 x8 x9 hg H1
  obtain ⟨x0, x1, x2, x3, x4, x5, x6, x7, x8, x9⟩ := hN2.cells
  obtain ⟨g0, g1, g2⟩ := hG2.cells
  replace hN2 := Lib.hid hN2
  replace hG2 := Lib.hid hG2
  have hA := World.grownBy_alloc w2 (.cells #[.int .i64 4, .int .i64 64, .int .i64 512] 23) none
  replace hN2 := hN2.out.keep hA
  replace hG2 := hG2.out.keep hA
  have hgw := Lib.hid (grown_trans hgw.out hA)
  clear x0 x1 x2 x3 x4 x5 x6 x7 x8 x9 g0 g1 g2 hA
  obtain ⟨x0, x1, x2, x3, x4, x5, x6, x7, x8, x9⟩ := hN2.cells
  obtain ⟨g0, g1, g2⟩ := hG2.cells
  replace hN2 := Lib.hid hN2
  replace hG2 := Lib.hid hG2
  go_wp2_with fail
  refine (H2.out _).mono ?_
  rintro e w3 ⟨rfl, hg⟩
  have hN3 := hN2.out.keep hg
  have hG3 := hG2.out.keep hg
  have hgw := Lib.hid (grown_trans hgw.out hg)
  clear x0 x1 x2 x3 x4 x5 x6 x7 x8 x9 g0 g1 g2 hg H2
  obtain ⟨x0, x1, x2, x3, x4, x5, x6, x7, x8, x9⟩ := hN3.cells
  obtain ⟨g0, g1, g2⟩ := hG3.cells
  replace hN3 := Lib.hid hN3
  replace hG3 := Lib.hid hG3
  go_wp2_with fail
  refine (H3.out _).mono ?_
  rintro e w4 ⟨rfl, hg⟩
  have hN4 := hN3.out.keep hg
  have hG4 := hG3.out.keep hg
  have hgw := Lib.hid (grown_trans hgw.out hg)
  clear x0 x1 x2 x3 x4 x5 x6 x7 x8 x9 g0 g1 g2 hg H3
  obtain ⟨x0, x1, x2, x3, x4, x5, x6, x7, x8, x9⟩ := hN4.cells
  obtain ⟨g0, g1, g2⟩ := hG4.cells
  replace hN4 := Lib.hid hN4
  replace hG4 := Lib.hid hG4
  have hfr := hN4.out.free 1
  have hN5 : NodeS N k V o s d0 d1 d2 d3 ch p (w4.setCell ⟨N, 1, none⟩ (.int .u64 (V : Int))) := by
    have h := heap_setCell_at (o := 1) hN4.out (.int .u64 (V : Int))
    unfold NodeS; simpa using h
  have hG5 := hG4.out.past (o := 1) (u := .int .u64 (V : Int)) hGN
  have hgw := Lib.hid (grown_new hgw.out (grown_setCell w4 ⟨N, 1, none⟩ (.int .u64 (V : Int))) (by intro g e; cases e; rw [HN.out]; exact Nat.le_refl _))
  obtain ⟨y0, y1, y2, y3, y4, y5, y6, y7, y8, y9⟩ := hN5.cells
  obtain ⟨f0, f1, f2⟩ := hG5.cells
  replace hN5 := Lib.hid hN5
  replace hG5 := Lib.hid hG5
  go_wp2_with fail
  refine (H4.out _).mono ?_
  rintro e w6 ⟨rfl, hg⟩
  have hgw := Lib.hid (grown_trans hgw.out hg)
  clear hg
  go_wp2_with fail
  refine (works_any _).mono ?_
  rintro e w9 ⟨rfl, hg⟩
  go_wp2
  go_ret
  exact ⟨rfl, grown_trans hgw.out hg⟩

set_option maxRecDepth 100000 in
set_option maxHeartbeats 1000000 in
theorem walk_2 (x y wh M k l o s d0 d1 d2 d3 ch p : Nat) (w : World) (hx : x < 256) (hy : y < 256) (hr : rightB 1 ((2 + x % 20 : Nat) : Int) ((2 + y % 60 : Nat) : Int) k l o s d0 d1 d2 d3 ch p = true) (hw : wh % 7 = 2) :
    Calls Try.prog 5 #[.int .u8 (x : Int), .int .u8 (y : Int), .agg #[.int .u64 (k : Int), .int .u64 (l : Int), .int .u64 (o : Int), .int .u64 (s : Int), .int .u64 (d0 : Int), .int .u64 (d1 : Int), .int .u64 (d2 : Int), .int .u64 (d3 : Int), .int .u64 (ch : Int), .int .u64 (p : Int)], .int .u8 (wh : Int), .int .u64 (M : Int)] w (WorksIs w) := by
  have hB2 : (2 + x % 20 : Nat) < 1000 := by omega
  have hC2 : (2 + y % 60 : Nat) < 1000 := by omega
  have HS := Lib.hid (fun wx => Small_any x y hx hy wx)
  have H1 := Lib.hid (fun wx => Right_any 1 ((2 + x % 20 : Nat) : Int) ((2 + y % 60 : Nat) : Int) k l o s d0 d1 d2 d3 ch p wx)
  rw [hr] at H1
  have hq : mayB 1 ((2 + x % 20 : Nat) : Int) ((2 + y % 60 : Nat) : Int) = true ∧ (k = 1 ∨ k = 2) ∧ l ≤ 65536 ∧ o ≤ 16 ∧ s ≤ 768 ∧ (ch : Int) < ((2 + y % 60 : Nat) : Int) ∧ (p : Int) < ((2 + x % 20 : Nat) : Int) ∧ (k = 1 → p = 0) ∧ (k = 2 → s = 0) ∧ (d0 : Int) < ((2 + y % 60 : Nat) : Int) ∧ (d1 : Int) < ((2 + y % 60 : Nat) : Int) ∧ (d2 : Int) < ((2 + y % 60 : Nat) : Int) ∧ (d3 : Int) < ((2 + y % 60 : Nat) : Int) := by unfold rightB at hr; rw [decide_eq_true_eq] at hr; exact hr
  have H2 := Lib.hid (fun wx => Right_any 4 64 512 k l o s d0 d1 d2 d3 ch p wx)
  have H3 := Lib.hid (fun wx => Right_any 0 0 0 k l o s d0 d1 d2 d3 ch p wx)
  rw [show rightB 4 64 512 k l o s d0 d1 d2 d3 ch p = true from by unfold rightB; rw [decide_eq_true_eq]; exact ⟨by decide, hq.2.1, hq.2.2.1, hq.2.2.2.1, hq.2.2.2.2.1, by omega, by omega, hq.2.2.2.2.2.2.2.1, hq.2.2.2.2.2.2.2.2.1, by omega, by omega, by omega, by omega⟩] at H2
  rw [show rightB 0 0 0 k l o s d0 d1 d2 d3 ch p = false from by unfold rightB; rw [decide_eq_false_iff_not]; intro h; exact absurd h.1 (by decide)] at H3
  obtain ⟨m, Hm⟩ : ∃ m, Hid (m = M % 4611686018427387904) := ⟨_, Lib.hid rfl⟩
  obtain ⟨V, HV⟩ : ∃ V, Hid (V = 17 + m) := ⟨_, Lib.hid rfl⟩
  have em : (M : Int) % 4611686018427387904 = (m : Int) := by rw [Hm.out]; omega
  have ew : (wh : Int) % 7 = 2 := by omega
  have wV : IntKind.u64.wrap (17 + (m : Int)) = (V : Int) := by
    rw [show (17 : Int) + (m : Int) = (V : Int) from by rw [HV.out]; omega]
    exact IntWalk.u64_in _ ⟨by omega, by rw [HV.out, Hm.out]; omega⟩
  have H4 := Lib.hid (fun wx => Right_any 1 ((2 + x % 20 : Nat) : Int) ((2 + y % 60 : Nat) : Int) k l V s d0 d1 d2 d3 ch p wx)
  rw [show rightB 1 ((2 + x % 20 : Nat) : Int) ((2 + y % 60 : Nat) : Int) k l V s d0 d1 d2 d3 ch p = false from by unfold rightB; rw [decide_eq_false_iff_not]; rw [HV.out]; omega] at H4
  have wB : IntKind.u64.wrap ((2 + x % 20 : Nat) : Int) = ((2 + x % 20 : Nat) : Int) := IntWalk.u64_in _ ⟨by omega, by omega⟩
  have wC : IntKind.u64.wrap ((2 + y % 60 : Nat) : Int) = ((2 + y % 60 : Nat) : Int) := IntWalk.u64_in _ ⟨by omega, by omega⟩
  clear hq hw
  generalize (2 + x % 20 : Nat) = B at *
  generalize (2 + y % 60 : Nat) = C at *
  clear hr hx hy
  unfold gv nv at *
  go_enter Try.func5, Try.ntmps5
  go_wp2_with fail
  obtain ⟨N, HN⟩ : ∃ N, Hid (N = w.heap.size) := ⟨_, Lib.hid rfl⟩
  have hN0 : NodeS N k l o s d0 d1 d2 d3 ch p (w.alloc (.cells #[.int .u64 (k : Int), .int .u64 (l : Int), .int .u64 (o : Int), .int .u64 (s : Int), .int .u64 (d0 : Int), .int .u64 (d1 : Int), .int .u64 (d2 : Int), .int .u64 (d3 : Int), .int .u64 (ch : Int), .int .u64 (p : Int)] 38)) := by rw [HN.out]; exact heap_alloc_new w _
  rw [← HN.out]
  refine (HS.out _).mono ?_
  rintro e w1 ⟨rfl, hg1⟩
  obtain ⟨G, HG⟩ : ∃ G, Hid (G = w1.heap.size) := ⟨_, Lib.hid rfl⟩
  have hGN : G ≠ N := by rw [HG.out]; have := hg1.size; rw [World.size_alloc] at this; rw [HN.out]; omega
  have hN1 := (hN0.keep hg1).keep (World.grownBy_alloc w1 (.cells #[.int .i64 1, .int .i64 (B : Int), .int .i64 (C : Int)] 23) none)
  have hG1 : GeoS G 1 (B : Int) (C : Int) (w1.alloc (.cells #[.int .i64 1, .int .i64 (B : Int), .int .i64 (C : Int)] 23)) := by rw [HG.out]; exact heap_alloc_new w1 _
  have hgw := Lib.hid (grown_trans (grown_trans (World.grownBy_alloc w _ none) hg1) (World.grownBy_alloc w1 (.cells #[.int .i64 1, .int .i64 (B : Int), .int .i64 (C : Int)] 23) none))
  obtain ⟨x0, x1, x2, x3, x4, x5, x6, x7, x8, x9⟩ := hN1.cells
  replace hN1 := Lib.hid hN1
  replace hG1 := Lib.hid hG1
  clear hN0 hg1 HS
  go_wp2_with fail
  rw [← HG.out]
  refine (H1.out _).mono ?_
  rintro e w2 ⟨rfl, hg⟩
  have hN2 := hN1.out.keep hg
  have hG2 := hG1.out.keep hg
  have hgw := Lib.hid (grown_trans hgw.out hg)
  clear x0 x1 x2 x3 x4 x5 x6 x7 x8 x9 hg H1
  obtain ⟨x0, x1, x2, x3, x4, x5, x6, x7, x8, x9⟩ := hN2.cells
  obtain ⟨g0, g1, g2⟩ := hG2.cells
  replace hN2 := Lib.hid hN2
  replace hG2 := Lib.hid hG2
  have hA := World.grownBy_alloc w2 (.cells #[.int .i64 4, .int .i64 64, .int .i64 512] 23) none
  replace hN2 := hN2.out.keep hA
  replace hG2 := hG2.out.keep hA
  have hgw := Lib.hid (grown_trans hgw.out hA)
  clear x0 x1 x2 x3 x4 x5 x6 x7 x8 x9 g0 g1 g2 hA
  obtain ⟨x0, x1, x2, x3, x4, x5, x6, x7, x8, x9⟩ := hN2.cells
  obtain ⟨g0, g1, g2⟩ := hG2.cells
  replace hN2 := Lib.hid hN2
  replace hG2 := Lib.hid hG2
  go_wp2_with fail
  refine (H2.out _).mono ?_
  rintro e w3 ⟨rfl, hg⟩
  have hN3 := hN2.out.keep hg
  have hG3 := hG2.out.keep hg
  have hgw := Lib.hid (grown_trans hgw.out hg)
  clear x0 x1 x2 x3 x4 x5 x6 x7 x8 x9 g0 g1 g2 hg H2
  obtain ⟨x0, x1, x2, x3, x4, x5, x6, x7, x8, x9⟩ := hN3.cells
  obtain ⟨g0, g1, g2⟩ := hG3.cells
  replace hN3 := Lib.hid hN3
  replace hG3 := Lib.hid hG3
  go_wp2_with fail
  refine (H3.out _).mono ?_
  rintro e w4 ⟨rfl, hg⟩
  have hN4 := hN3.out.keep hg
  have hG4 := hG3.out.keep hg
  have hgw := Lib.hid (grown_trans hgw.out hg)
  clear x0 x1 x2 x3 x4 x5 x6 x7 x8 x9 g0 g1 g2 hg H3
  obtain ⟨x0, x1, x2, x3, x4, x5, x6, x7, x8, x9⟩ := hN4.cells
  obtain ⟨g0, g1, g2⟩ := hG4.cells
  replace hN4 := Lib.hid hN4
  replace hG4 := Lib.hid hG4
  have hfr := hN4.out.free 2
  have hN5 : NodeS N k l V s d0 d1 d2 d3 ch p (w4.setCell ⟨N, 2, none⟩ (.int .u64 (V : Int))) := by
    have h := heap_setCell_at (o := 2) hN4.out (.int .u64 (V : Int))
    unfold NodeS; simpa using h
  have hG5 := hG4.out.past (o := 2) (u := .int .u64 (V : Int)) hGN
  have hgw := Lib.hid (grown_new hgw.out (grown_setCell w4 ⟨N, 2, none⟩ (.int .u64 (V : Int))) (by intro g e; cases e; rw [HN.out]; exact Nat.le_refl _))
  obtain ⟨y0, y1, y2, y3, y4, y5, y6, y7, y8, y9⟩ := hN5.cells
  obtain ⟨f0, f1, f2⟩ := hG5.cells
  replace hN5 := Lib.hid hN5
  replace hG5 := Lib.hid hG5
  go_wp2_with fail
  refine (H4.out _).mono ?_
  rintro e w6 ⟨rfl, hg⟩
  have hgw := Lib.hid (grown_trans hgw.out hg)
  clear hg
  go_wp2_with fail
  refine (works_any _).mono ?_
  rintro e w9 ⟨rfl, hg⟩
  go_wp2
  go_ret
  exact ⟨rfl, grown_trans hgw.out hg⟩

set_option maxRecDepth 100000 in
set_option maxHeartbeats 1000000 in
theorem walk_3 (x y wh M k l o s d0 d1 d2 d3 ch p : Nat) (w : World) (hx : x < 256) (hy : y < 256) (hr : rightB 1 ((2 + x % 20 : Nat) : Int) ((2 + y % 60 : Nat) : Int) k l o s d0 d1 d2 d3 ch p = true) (hw : wh % 7 = 3) :
    Calls Try.prog 5 #[.int .u8 (x : Int), .int .u8 (y : Int), .agg #[.int .u64 (k : Int), .int .u64 (l : Int), .int .u64 (o : Int), .int .u64 (s : Int), .int .u64 (d0 : Int), .int .u64 (d1 : Int), .int .u64 (d2 : Int), .int .u64 (d3 : Int), .int .u64 (ch : Int), .int .u64 (p : Int)], .int .u8 (wh : Int), .int .u64 (M : Int)] w (WorksIs w) := by
  have hB2 : (2 + x % 20 : Nat) < 1000 := by omega
  have hC2 : (2 + y % 60 : Nat) < 1000 := by omega
  have HS := Lib.hid (fun wx => Small_any x y hx hy wx)
  have H1 := Lib.hid (fun wx => Right_any 1 ((2 + x % 20 : Nat) : Int) ((2 + y % 60 : Nat) : Int) k l o s d0 d1 d2 d3 ch p wx)
  rw [hr] at H1
  have hq : mayB 1 ((2 + x % 20 : Nat) : Int) ((2 + y % 60 : Nat) : Int) = true ∧ (k = 1 ∨ k = 2) ∧ l ≤ 65536 ∧ o ≤ 16 ∧ s ≤ 768 ∧ (ch : Int) < ((2 + y % 60 : Nat) : Int) ∧ (p : Int) < ((2 + x % 20 : Nat) : Int) ∧ (k = 1 → p = 0) ∧ (k = 2 → s = 0) ∧ (d0 : Int) < ((2 + y % 60 : Nat) : Int) ∧ (d1 : Int) < ((2 + y % 60 : Nat) : Int) ∧ (d2 : Int) < ((2 + y % 60 : Nat) : Int) ∧ (d3 : Int) < ((2 + y % 60 : Nat) : Int) := by unfold rightB at hr; rw [decide_eq_true_eq] at hr; exact hr
  have H2 := Lib.hid (fun wx => Right_any 4 64 512 k l o s d0 d1 d2 d3 ch p wx)
  have H3 := Lib.hid (fun wx => Right_any 0 0 0 k l o s d0 d1 d2 d3 ch p wx)
  rw [show rightB 4 64 512 k l o s d0 d1 d2 d3 ch p = true from by unfold rightB; rw [decide_eq_true_eq]; exact ⟨by decide, hq.2.1, hq.2.2.1, hq.2.2.2.1, hq.2.2.2.2.1, by omega, by omega, hq.2.2.2.2.2.2.2.1, hq.2.2.2.2.2.2.2.2.1, by omega, by omega, by omega, by omega⟩] at H2
  rw [show rightB 0 0 0 k l o s d0 d1 d2 d3 ch p = false from by unfold rightB; rw [decide_eq_false_iff_not]; intro h; exact absurd h.1 (by decide)] at H3
  obtain ⟨m, Hm⟩ : ∃ m, Hid (m = M % 4611686018427387904) := ⟨_, Lib.hid rfl⟩
  obtain ⟨V, HV⟩ : ∃ V, Hid (V = 769 + m) := ⟨_, Lib.hid rfl⟩
  have em : (M : Int) % 4611686018427387904 = (m : Int) := by rw [Hm.out]; omega
  have ew : (wh : Int) % 7 = 3 := by omega
  have wV : IntKind.u64.wrap (769 + (m : Int)) = (V : Int) := by
    rw [show (769 : Int) + (m : Int) = (V : Int) from by rw [HV.out]; omega]
    exact IntWalk.u64_in _ ⟨by omega, by rw [HV.out, Hm.out]; omega⟩
  have H4 := Lib.hid (fun wx => Right_any 1 ((2 + x % 20 : Nat) : Int) ((2 + y % 60 : Nat) : Int) k l o V d0 d1 d2 d3 ch p wx)
  rw [show rightB 1 ((2 + x % 20 : Nat) : Int) ((2 + y % 60 : Nat) : Int) k l o V d0 d1 d2 d3 ch p = false from by unfold rightB; rw [decide_eq_false_iff_not]; rw [HV.out]; omega] at H4
  have wB : IntKind.u64.wrap ((2 + x % 20 : Nat) : Int) = ((2 + x % 20 : Nat) : Int) := IntWalk.u64_in _ ⟨by omega, by omega⟩
  have wC : IntKind.u64.wrap ((2 + y % 60 : Nat) : Int) = ((2 + y % 60 : Nat) : Int) := IntWalk.u64_in _ ⟨by omega, by omega⟩
  clear hq hw
  generalize (2 + x % 20 : Nat) = B at *
  generalize (2 + y % 60 : Nat) = C at *
  clear hr hx hy
  unfold gv nv at *
  go_enter Try.func5, Try.ntmps5
  go_wp2_with fail
  obtain ⟨N, HN⟩ : ∃ N, Hid (N = w.heap.size) := ⟨_, Lib.hid rfl⟩
  have hN0 : NodeS N k l o s d0 d1 d2 d3 ch p (w.alloc (.cells #[.int .u64 (k : Int), .int .u64 (l : Int), .int .u64 (o : Int), .int .u64 (s : Int), .int .u64 (d0 : Int), .int .u64 (d1 : Int), .int .u64 (d2 : Int), .int .u64 (d3 : Int), .int .u64 (ch : Int), .int .u64 (p : Int)] 38)) := by rw [HN.out]; exact heap_alloc_new w _
  rw [← HN.out]
  refine (HS.out _).mono ?_
  rintro e w1 ⟨rfl, hg1⟩
  obtain ⟨G, HG⟩ : ∃ G, Hid (G = w1.heap.size) := ⟨_, Lib.hid rfl⟩
  have hGN : G ≠ N := by rw [HG.out]; have := hg1.size; rw [World.size_alloc] at this; rw [HN.out]; omega
  have hN1 := (hN0.keep hg1).keep (World.grownBy_alloc w1 (.cells #[.int .i64 1, .int .i64 (B : Int), .int .i64 (C : Int)] 23) none)
  have hG1 : GeoS G 1 (B : Int) (C : Int) (w1.alloc (.cells #[.int .i64 1, .int .i64 (B : Int), .int .i64 (C : Int)] 23)) := by rw [HG.out]; exact heap_alloc_new w1 _
  have hgw := Lib.hid (grown_trans (grown_trans (World.grownBy_alloc w _ none) hg1) (World.grownBy_alloc w1 (.cells #[.int .i64 1, .int .i64 (B : Int), .int .i64 (C : Int)] 23) none))
  obtain ⟨x0, x1, x2, x3, x4, x5, x6, x7, x8, x9⟩ := hN1.cells
  replace hN1 := Lib.hid hN1
  replace hG1 := Lib.hid hG1
  clear hN0 hg1 HS
  go_wp2_with fail
  rw [← HG.out]
  refine (H1.out _).mono ?_
  rintro e w2 ⟨rfl, hg⟩
  have hN2 := hN1.out.keep hg
  have hG2 := hG1.out.keep hg
  have hgw := Lib.hid (grown_trans hgw.out hg)
  clear x0 x1 x2 x3 x4 x5 x6 x7 x8 x9 hg H1
  obtain ⟨x0, x1, x2, x3, x4, x5, x6, x7, x8, x9⟩ := hN2.cells
  obtain ⟨g0, g1, g2⟩ := hG2.cells
  replace hN2 := Lib.hid hN2
  replace hG2 := Lib.hid hG2
  have hA := World.grownBy_alloc w2 (.cells #[.int .i64 4, .int .i64 64, .int .i64 512] 23) none
  replace hN2 := hN2.out.keep hA
  replace hG2 := hG2.out.keep hA
  have hgw := Lib.hid (grown_trans hgw.out hA)
  clear x0 x1 x2 x3 x4 x5 x6 x7 x8 x9 g0 g1 g2 hA
  obtain ⟨x0, x1, x2, x3, x4, x5, x6, x7, x8, x9⟩ := hN2.cells
  obtain ⟨g0, g1, g2⟩ := hG2.cells
  replace hN2 := Lib.hid hN2
  replace hG2 := Lib.hid hG2
  go_wp2_with fail
  refine (H2.out _).mono ?_
  rintro e w3 ⟨rfl, hg⟩
  have hN3 := hN2.out.keep hg
  have hG3 := hG2.out.keep hg
  have hgw := Lib.hid (grown_trans hgw.out hg)
  clear x0 x1 x2 x3 x4 x5 x6 x7 x8 x9 g0 g1 g2 hg H2
  obtain ⟨x0, x1, x2, x3, x4, x5, x6, x7, x8, x9⟩ := hN3.cells
  obtain ⟨g0, g1, g2⟩ := hG3.cells
  replace hN3 := Lib.hid hN3
  replace hG3 := Lib.hid hG3
  go_wp2_with fail
  refine (H3.out _).mono ?_
  rintro e w4 ⟨rfl, hg⟩
  have hN4 := hN3.out.keep hg
  have hG4 := hG3.out.keep hg
  have hgw := Lib.hid (grown_trans hgw.out hg)
  clear x0 x1 x2 x3 x4 x5 x6 x7 x8 x9 g0 g1 g2 hg H3
  obtain ⟨x0, x1, x2, x3, x4, x5, x6, x7, x8, x9⟩ := hN4.cells
  obtain ⟨g0, g1, g2⟩ := hG4.cells
  replace hN4 := Lib.hid hN4
  replace hG4 := Lib.hid hG4
  have hfr := hN4.out.free 3
  have hN5 : NodeS N k l o V d0 d1 d2 d3 ch p (w4.setCell ⟨N, 3, none⟩ (.int .u64 (V : Int))) := by
    have h := heap_setCell_at (o := 3) hN4.out (.int .u64 (V : Int))
    unfold NodeS; simpa using h
  have hG5 := hG4.out.past (o := 3) (u := .int .u64 (V : Int)) hGN
  have hgw := Lib.hid (grown_new hgw.out (grown_setCell w4 ⟨N, 3, none⟩ (.int .u64 (V : Int))) (by intro g e; cases e; rw [HN.out]; exact Nat.le_refl _))
  obtain ⟨y0, y1, y2, y3, y4, y5, y6, y7, y8, y9⟩ := hN5.cells
  obtain ⟨f0, f1, f2⟩ := hG5.cells
  replace hN5 := Lib.hid hN5
  replace hG5 := Lib.hid hG5
  go_wp2_with fail
  refine (H4.out _).mono ?_
  rintro e w6 ⟨rfl, hg⟩
  have hgw := Lib.hid (grown_trans hgw.out hg)
  clear hg
  go_wp2_with fail
  refine (works_any _).mono ?_
  rintro e w9 ⟨rfl, hg⟩
  go_wp2
  go_ret
  exact ⟨rfl, grown_trans hgw.out hg⟩

set_option maxRecDepth 100000 in
set_option maxHeartbeats 1000000 in
theorem walk_4_0 (x y wh M k l o s d0 d1 d2 d3 ch p : Nat) (w : World) (hx : x < 256) (hy : y < 256) (hr : rightB 1 ((2 + x % 20 : Nat) : Int) ((2 + y % 60 : Nat) : Int) k l o s d0 d1 d2 d3 ch p = true) (hw : wh % 7 = 4) (hi : M % 4611686018427387904 % 4 = 0) :
    Calls Try.prog 5 #[.int .u8 (x : Int), .int .u8 (y : Int), .agg #[.int .u64 (k : Int), .int .u64 (l : Int), .int .u64 (o : Int), .int .u64 (s : Int), .int .u64 (d0 : Int), .int .u64 (d1 : Int), .int .u64 (d2 : Int), .int .u64 (d3 : Int), .int .u64 (ch : Int), .int .u64 (p : Int)], .int .u8 (wh : Int), .int .u64 (M : Int)] w (WorksIs w) := by
  have hB2 : (2 + x % 20 : Nat) < 1000 := by omega
  have hC2 : (2 + y % 60 : Nat) < 1000 := by omega
  have HS := Lib.hid (fun wx => Small_any x y hx hy wx)
  have H1 := Lib.hid (fun wx => Right_any 1 ((2 + x % 20 : Nat) : Int) ((2 + y % 60 : Nat) : Int) k l o s d0 d1 d2 d3 ch p wx)
  rw [hr] at H1
  have hq : mayB 1 ((2 + x % 20 : Nat) : Int) ((2 + y % 60 : Nat) : Int) = true ∧ (k = 1 ∨ k = 2) ∧ l ≤ 65536 ∧ o ≤ 16 ∧ s ≤ 768 ∧ (ch : Int) < ((2 + y % 60 : Nat) : Int) ∧ (p : Int) < ((2 + x % 20 : Nat) : Int) ∧ (k = 1 → p = 0) ∧ (k = 2 → s = 0) ∧ (d0 : Int) < ((2 + y % 60 : Nat) : Int) ∧ (d1 : Int) < ((2 + y % 60 : Nat) : Int) ∧ (d2 : Int) < ((2 + y % 60 : Nat) : Int) ∧ (d3 : Int) < ((2 + y % 60 : Nat) : Int) := by unfold rightB at hr; rw [decide_eq_true_eq] at hr; exact hr
  have H2 := Lib.hid (fun wx => Right_any 4 64 512 k l o s d0 d1 d2 d3 ch p wx)
  have H3 := Lib.hid (fun wx => Right_any 0 0 0 k l o s d0 d1 d2 d3 ch p wx)
  rw [show rightB 4 64 512 k l o s d0 d1 d2 d3 ch p = true from by unfold rightB; rw [decide_eq_true_eq]; exact ⟨by decide, hq.2.1, hq.2.2.1, hq.2.2.2.1, hq.2.2.2.2.1, by omega, by omega, hq.2.2.2.2.2.2.2.1, hq.2.2.2.2.2.2.2.2.1, by omega, by omega, by omega, by omega⟩] at H2
  rw [show rightB 0 0 0 k l o s d0 d1 d2 d3 ch p = false from by unfold rightB; rw [decide_eq_false_iff_not]; intro h; exact absurd h.1 (by decide)] at H3
  obtain ⟨m, Hm⟩ : ∃ m, Hid (m = M % 4611686018427387904) := ⟨_, Lib.hid rfl⟩
  obtain ⟨V, HV⟩ : ∃ V, Hid (V = (2 + y % 60) + m) := ⟨_, Lib.hid rfl⟩
  have em : (M : Int) % 4611686018427387904 = (m : Int) := by rw [Hm.out]; omega
  have ew : (wh : Int) % 7 = 4 := by omega
  have wV : IntKind.u64.wrap (((2 + y % 60 : Nat) : Int) + (m : Int)) = (V : Int) := by
    rw [show (((2 + y % 60 : Nat) : Int) : Int) + (m : Int) = (V : Int) from by rw [HV.out]; omega]
    exact IntWalk.u64_in _ ⟨by omega, by rw [HV.out, Hm.out]; omega⟩
  have H4 := Lib.hid (fun wx => Right_any 1 ((2 + x % 20 : Nat) : Int) ((2 + y % 60 : Nat) : Int) k l o s V d1 d2 d3 ch p wx)
  rw [show rightB 1 ((2 + x % 20 : Nat) : Int) ((2 + y % 60 : Nat) : Int) k l o s V d1 d2 d3 ch p = false from by unfold rightB; rw [decide_eq_false_iff_not]; rw [HV.out]; omega] at H4
  have wB : IntKind.u64.wrap ((2 + x % 20 : Nat) : Int) = ((2 + x % 20 : Nat) : Int) := IntWalk.u64_in _ ⟨by omega, by omega⟩
  have wC : IntKind.u64.wrap ((2 + y % 60 : Nat) : Int) = ((2 + y % 60 : Nat) : Int) := IntWalk.u64_in _ ⟨by omega, by omega⟩
  have ei : (m : Int) % 4 = 0 := by rw [Hm.out]; omega
  clear hq hw hi
  generalize (2 + x % 20 : Nat) = B at *
  generalize (2 + y % 60 : Nat) = C at *
  clear hr hx hy
  unfold gv nv at *
  go_enter Try.func5, Try.ntmps5
  go_wp2_with fail
  obtain ⟨N, HN⟩ : ∃ N, Hid (N = w.heap.size) := ⟨_, Lib.hid rfl⟩
  have hN0 : NodeS N k l o s d0 d1 d2 d3 ch p (w.alloc (.cells #[.int .u64 (k : Int), .int .u64 (l : Int), .int .u64 (o : Int), .int .u64 (s : Int), .int .u64 (d0 : Int), .int .u64 (d1 : Int), .int .u64 (d2 : Int), .int .u64 (d3 : Int), .int .u64 (ch : Int), .int .u64 (p : Int)] 38)) := by rw [HN.out]; exact heap_alloc_new w _
  rw [← HN.out]
  refine (HS.out _).mono ?_
  rintro e w1 ⟨rfl, hg1⟩
  obtain ⟨G, HG⟩ : ∃ G, Hid (G = w1.heap.size) := ⟨_, Lib.hid rfl⟩
  have hGN : G ≠ N := by rw [HG.out]; have := hg1.size; rw [World.size_alloc] at this; rw [HN.out]; omega
  have hN1 := (hN0.keep hg1).keep (World.grownBy_alloc w1 (.cells #[.int .i64 1, .int .i64 (B : Int), .int .i64 (C : Int)] 23) none)
  have hG1 : GeoS G 1 (B : Int) (C : Int) (w1.alloc (.cells #[.int .i64 1, .int .i64 (B : Int), .int .i64 (C : Int)] 23)) := by rw [HG.out]; exact heap_alloc_new w1 _
  have hgw := Lib.hid (grown_trans (grown_trans (World.grownBy_alloc w _ none) hg1) (World.grownBy_alloc w1 (.cells #[.int .i64 1, .int .i64 (B : Int), .int .i64 (C : Int)] 23) none))
  obtain ⟨x0, x1, x2, x3, x4, x5, x6, x7, x8, x9⟩ := hN1.cells
  replace hN1 := Lib.hid hN1
  replace hG1 := Lib.hid hG1
  clear hN0 hg1 HS
  go_wp2_with fail
  rw [← HG.out]
  refine (H1.out _).mono ?_
  rintro e w2 ⟨rfl, hg⟩
  have hN2 := hN1.out.keep hg
  have hG2 := hG1.out.keep hg
  have hgw := Lib.hid (grown_trans hgw.out hg)
  clear x0 x1 x2 x3 x4 x5 x6 x7 x8 x9 hg H1
  obtain ⟨x0, x1, x2, x3, x4, x5, x6, x7, x8, x9⟩ := hN2.cells
  obtain ⟨g0, g1, g2⟩ := hG2.cells
  replace hN2 := Lib.hid hN2
  replace hG2 := Lib.hid hG2
  have hA := World.grownBy_alloc w2 (.cells #[.int .i64 4, .int .i64 64, .int .i64 512] 23) none
  replace hN2 := hN2.out.keep hA
  replace hG2 := hG2.out.keep hA
  have hgw := Lib.hid (grown_trans hgw.out hA)
  clear x0 x1 x2 x3 x4 x5 x6 x7 x8 x9 g0 g1 g2 hA
  obtain ⟨x0, x1, x2, x3, x4, x5, x6, x7, x8, x9⟩ := hN2.cells
  obtain ⟨g0, g1, g2⟩ := hG2.cells
  replace hN2 := Lib.hid hN2
  replace hG2 := Lib.hid hG2
  go_wp2_with fail
  refine (H2.out _).mono ?_
  rintro e w3 ⟨rfl, hg⟩
  have hN3 := hN2.out.keep hg
  have hG3 := hG2.out.keep hg
  have hgw := Lib.hid (grown_trans hgw.out hg)
  clear x0 x1 x2 x3 x4 x5 x6 x7 x8 x9 g0 g1 g2 hg H2
  obtain ⟨x0, x1, x2, x3, x4, x5, x6, x7, x8, x9⟩ := hN3.cells
  obtain ⟨g0, g1, g2⟩ := hG3.cells
  replace hN3 := Lib.hid hN3
  replace hG3 := Lib.hid hG3
  go_wp2_with fail
  refine (H3.out _).mono ?_
  rintro e w4 ⟨rfl, hg⟩
  have hN4 := hN3.out.keep hg
  have hG4 := hG3.out.keep hg
  have hgw := Lib.hid (grown_trans hgw.out hg)
  clear x0 x1 x2 x3 x4 x5 x6 x7 x8 x9 g0 g1 g2 hg H3
  obtain ⟨x0, x1, x2, x3, x4, x5, x6, x7, x8, x9⟩ := hN4.cells
  obtain ⟨g0, g1, g2⟩ := hG4.cells
  replace hN4 := Lib.hid hN4
  replace hG4 := Lib.hid hG4
  have hfr := hN4.out.free 4
  have hN5 : NodeS N k l o s V d1 d2 d3 ch p (w4.setCell ⟨N, 4, none⟩ (.int .u64 (V : Int))) := by
    have h := heap_setCell_at (o := 4) hN4.out (.int .u64 (V : Int))
    unfold NodeS; simpa using h
  have hG5 := hG4.out.past (o := 4) (u := .int .u64 (V : Int)) hGN
  have hgw := Lib.hid (grown_new hgw.out (grown_setCell w4 ⟨N, 4, none⟩ (.int .u64 (V : Int))) (by intro g e; cases e; rw [HN.out]; exact Nat.le_refl _))
  obtain ⟨y0, y1, y2, y3, y4, y5, y6, y7, y8, y9⟩ := hN5.cells
  obtain ⟨f0, f1, f2⟩ := hG5.cells
  replace hN5 := Lib.hid hN5
  replace hG5 := Lib.hid hG5
  go_wp2_with fail
  refine (H4.out _).mono ?_
  rintro e w6 ⟨rfl, hg⟩
  have hgw := Lib.hid (grown_trans hgw.out hg)
  clear hg
  go_wp2_with fail
  refine (works_any _).mono ?_
  rintro e w9 ⟨rfl, hg⟩
  go_wp2
  go_ret
  exact ⟨rfl, grown_trans hgw.out hg⟩

set_option maxRecDepth 100000 in
set_option maxHeartbeats 1000000 in
theorem walk_4_1 (x y wh M k l o s d0 d1 d2 d3 ch p : Nat) (w : World) (hx : x < 256) (hy : y < 256) (hr : rightB 1 ((2 + x % 20 : Nat) : Int) ((2 + y % 60 : Nat) : Int) k l o s d0 d1 d2 d3 ch p = true) (hw : wh % 7 = 4) (hi : M % 4611686018427387904 % 4 = 1) :
    Calls Try.prog 5 #[.int .u8 (x : Int), .int .u8 (y : Int), .agg #[.int .u64 (k : Int), .int .u64 (l : Int), .int .u64 (o : Int), .int .u64 (s : Int), .int .u64 (d0 : Int), .int .u64 (d1 : Int), .int .u64 (d2 : Int), .int .u64 (d3 : Int), .int .u64 (ch : Int), .int .u64 (p : Int)], .int .u8 (wh : Int), .int .u64 (M : Int)] w (WorksIs w) := by
  have hB2 : (2 + x % 20 : Nat) < 1000 := by omega
  have hC2 : (2 + y % 60 : Nat) < 1000 := by omega
  have HS := Lib.hid (fun wx => Small_any x y hx hy wx)
  have H1 := Lib.hid (fun wx => Right_any 1 ((2 + x % 20 : Nat) : Int) ((2 + y % 60 : Nat) : Int) k l o s d0 d1 d2 d3 ch p wx)
  rw [hr] at H1
  have hq : mayB 1 ((2 + x % 20 : Nat) : Int) ((2 + y % 60 : Nat) : Int) = true ∧ (k = 1 ∨ k = 2) ∧ l ≤ 65536 ∧ o ≤ 16 ∧ s ≤ 768 ∧ (ch : Int) < ((2 + y % 60 : Nat) : Int) ∧ (p : Int) < ((2 + x % 20 : Nat) : Int) ∧ (k = 1 → p = 0) ∧ (k = 2 → s = 0) ∧ (d0 : Int) < ((2 + y % 60 : Nat) : Int) ∧ (d1 : Int) < ((2 + y % 60 : Nat) : Int) ∧ (d2 : Int) < ((2 + y % 60 : Nat) : Int) ∧ (d3 : Int) < ((2 + y % 60 : Nat) : Int) := by unfold rightB at hr; rw [decide_eq_true_eq] at hr; exact hr
  have H2 := Lib.hid (fun wx => Right_any 4 64 512 k l o s d0 d1 d2 d3 ch p wx)
  have H3 := Lib.hid (fun wx => Right_any 0 0 0 k l o s d0 d1 d2 d3 ch p wx)
  rw [show rightB 4 64 512 k l o s d0 d1 d2 d3 ch p = true from by unfold rightB; rw [decide_eq_true_eq]; exact ⟨by decide, hq.2.1, hq.2.2.1, hq.2.2.2.1, hq.2.2.2.2.1, by omega, by omega, hq.2.2.2.2.2.2.2.1, hq.2.2.2.2.2.2.2.2.1, by omega, by omega, by omega, by omega⟩] at H2
  rw [show rightB 0 0 0 k l o s d0 d1 d2 d3 ch p = false from by unfold rightB; rw [decide_eq_false_iff_not]; intro h; exact absurd h.1 (by decide)] at H3
  obtain ⟨m, Hm⟩ : ∃ m, Hid (m = M % 4611686018427387904) := ⟨_, Lib.hid rfl⟩
  obtain ⟨V, HV⟩ : ∃ V, Hid (V = (2 + y % 60) + m) := ⟨_, Lib.hid rfl⟩
  have em : (M : Int) % 4611686018427387904 = (m : Int) := by rw [Hm.out]; omega
  have ew : (wh : Int) % 7 = 4 := by omega
  have wV : IntKind.u64.wrap (((2 + y % 60 : Nat) : Int) + (m : Int)) = (V : Int) := by
    rw [show (((2 + y % 60 : Nat) : Int) : Int) + (m : Int) = (V : Int) from by rw [HV.out]; omega]
    exact IntWalk.u64_in _ ⟨by omega, by rw [HV.out, Hm.out]; omega⟩
  have H4 := Lib.hid (fun wx => Right_any 1 ((2 + x % 20 : Nat) : Int) ((2 + y % 60 : Nat) : Int) k l o s d0 V d2 d3 ch p wx)
  rw [show rightB 1 ((2 + x % 20 : Nat) : Int) ((2 + y % 60 : Nat) : Int) k l o s d0 V d2 d3 ch p = false from by unfold rightB; rw [decide_eq_false_iff_not]; rw [HV.out]; omega] at H4
  have wB : IntKind.u64.wrap ((2 + x % 20 : Nat) : Int) = ((2 + x % 20 : Nat) : Int) := IntWalk.u64_in _ ⟨by omega, by omega⟩
  have wC : IntKind.u64.wrap ((2 + y % 60 : Nat) : Int) = ((2 + y % 60 : Nat) : Int) := IntWalk.u64_in _ ⟨by omega, by omega⟩
  have ei : (m : Int) % 4 = 1 := by rw [Hm.out]; omega
  clear hq hw hi
  generalize (2 + x % 20 : Nat) = B at *
  generalize (2 + y % 60 : Nat) = C at *
  clear hr hx hy
  unfold gv nv at *
  go_enter Try.func5, Try.ntmps5
  go_wp2_with fail
  obtain ⟨N, HN⟩ : ∃ N, Hid (N = w.heap.size) := ⟨_, Lib.hid rfl⟩
  have hN0 : NodeS N k l o s d0 d1 d2 d3 ch p (w.alloc (.cells #[.int .u64 (k : Int), .int .u64 (l : Int), .int .u64 (o : Int), .int .u64 (s : Int), .int .u64 (d0 : Int), .int .u64 (d1 : Int), .int .u64 (d2 : Int), .int .u64 (d3 : Int), .int .u64 (ch : Int), .int .u64 (p : Int)] 38)) := by rw [HN.out]; exact heap_alloc_new w _
  rw [← HN.out]
  refine (HS.out _).mono ?_
  rintro e w1 ⟨rfl, hg1⟩
  obtain ⟨G, HG⟩ : ∃ G, Hid (G = w1.heap.size) := ⟨_, Lib.hid rfl⟩
  have hGN : G ≠ N := by rw [HG.out]; have := hg1.size; rw [World.size_alloc] at this; rw [HN.out]; omega
  have hN1 := (hN0.keep hg1).keep (World.grownBy_alloc w1 (.cells #[.int .i64 1, .int .i64 (B : Int), .int .i64 (C : Int)] 23) none)
  have hG1 : GeoS G 1 (B : Int) (C : Int) (w1.alloc (.cells #[.int .i64 1, .int .i64 (B : Int), .int .i64 (C : Int)] 23)) := by rw [HG.out]; exact heap_alloc_new w1 _
  have hgw := Lib.hid (grown_trans (grown_trans (World.grownBy_alloc w _ none) hg1) (World.grownBy_alloc w1 (.cells #[.int .i64 1, .int .i64 (B : Int), .int .i64 (C : Int)] 23) none))
  obtain ⟨x0, x1, x2, x3, x4, x5, x6, x7, x8, x9⟩ := hN1.cells
  replace hN1 := Lib.hid hN1
  replace hG1 := Lib.hid hG1
  clear hN0 hg1 HS
  go_wp2_with fail
  rw [← HG.out]
  refine (H1.out _).mono ?_
  rintro e w2 ⟨rfl, hg⟩
  have hN2 := hN1.out.keep hg
  have hG2 := hG1.out.keep hg
  have hgw := Lib.hid (grown_trans hgw.out hg)
  clear x0 x1 x2 x3 x4 x5 x6 x7 x8 x9 hg H1
  obtain ⟨x0, x1, x2, x3, x4, x5, x6, x7, x8, x9⟩ := hN2.cells
  obtain ⟨g0, g1, g2⟩ := hG2.cells
  replace hN2 := Lib.hid hN2
  replace hG2 := Lib.hid hG2
  have hA := World.grownBy_alloc w2 (.cells #[.int .i64 4, .int .i64 64, .int .i64 512] 23) none
  replace hN2 := hN2.out.keep hA
  replace hG2 := hG2.out.keep hA
  have hgw := Lib.hid (grown_trans hgw.out hA)
  clear x0 x1 x2 x3 x4 x5 x6 x7 x8 x9 g0 g1 g2 hA
  obtain ⟨x0, x1, x2, x3, x4, x5, x6, x7, x8, x9⟩ := hN2.cells
  obtain ⟨g0, g1, g2⟩ := hG2.cells
  replace hN2 := Lib.hid hN2
  replace hG2 := Lib.hid hG2
  go_wp2_with fail
  refine (H2.out _).mono ?_
  rintro e w3 ⟨rfl, hg⟩
  have hN3 := hN2.out.keep hg
  have hG3 := hG2.out.keep hg
  have hgw := Lib.hid (grown_trans hgw.out hg)
  clear x0 x1 x2 x3 x4 x5 x6 x7 x8 x9 g0 g1 g2 hg H2
  obtain ⟨x0, x1, x2, x3, x4, x5, x6, x7, x8, x9⟩ := hN3.cells
  obtain ⟨g0, g1, g2⟩ := hG3.cells
  replace hN3 := Lib.hid hN3
  replace hG3 := Lib.hid hG3
  go_wp2_with fail
  refine (H3.out _).mono ?_
  rintro e w4 ⟨rfl, hg⟩
  have hN4 := hN3.out.keep hg
  have hG4 := hG3.out.keep hg
  have hgw := Lib.hid (grown_trans hgw.out hg)
  clear x0 x1 x2 x3 x4 x5 x6 x7 x8 x9 g0 g1 g2 hg H3
  obtain ⟨x0, x1, x2, x3, x4, x5, x6, x7, x8, x9⟩ := hN4.cells
  obtain ⟨g0, g1, g2⟩ := hG4.cells
  replace hN4 := Lib.hid hN4
  replace hG4 := Lib.hid hG4
  have hfr := hN4.out.free 5
  have hN5 : NodeS N k l o s d0 V d2 d3 ch p (w4.setCell ⟨N, 5, none⟩ (.int .u64 (V : Int))) := by
    have h := heap_setCell_at (o := 5) hN4.out (.int .u64 (V : Int))
    unfold NodeS; simpa using h
  have hG5 := hG4.out.past (o := 5) (u := .int .u64 (V : Int)) hGN
  have hgw := Lib.hid (grown_new hgw.out (grown_setCell w4 ⟨N, 5, none⟩ (.int .u64 (V : Int))) (by intro g e; cases e; rw [HN.out]; exact Nat.le_refl _))
  obtain ⟨y0, y1, y2, y3, y4, y5, y6, y7, y8, y9⟩ := hN5.cells
  obtain ⟨f0, f1, f2⟩ := hG5.cells
  replace hN5 := Lib.hid hN5
  replace hG5 := Lib.hid hG5
  go_wp2_with fail
  refine (H4.out _).mono ?_
  rintro e w6 ⟨rfl, hg⟩
  have hgw := Lib.hid (grown_trans hgw.out hg)
  clear hg
  go_wp2_with fail
  refine (works_any _).mono ?_
  rintro e w9 ⟨rfl, hg⟩
  go_wp2
  go_ret
  exact ⟨rfl, grown_trans hgw.out hg⟩

set_option maxRecDepth 100000 in
set_option maxHeartbeats 1000000 in
theorem walk_4_2 (x y wh M k l o s d0 d1 d2 d3 ch p : Nat) (w : World) (hx : x < 256) (hy : y < 256) (hr : rightB 1 ((2 + x % 20 : Nat) : Int) ((2 + y % 60 : Nat) : Int) k l o s d0 d1 d2 d3 ch p = true) (hw : wh % 7 = 4) (hi : M % 4611686018427387904 % 4 = 2) :
    Calls Try.prog 5 #[.int .u8 (x : Int), .int .u8 (y : Int), .agg #[.int .u64 (k : Int), .int .u64 (l : Int), .int .u64 (o : Int), .int .u64 (s : Int), .int .u64 (d0 : Int), .int .u64 (d1 : Int), .int .u64 (d2 : Int), .int .u64 (d3 : Int), .int .u64 (ch : Int), .int .u64 (p : Int)], .int .u8 (wh : Int), .int .u64 (M : Int)] w (WorksIs w) := by
  have hB2 : (2 + x % 20 : Nat) < 1000 := by omega
  have hC2 : (2 + y % 60 : Nat) < 1000 := by omega
  have HS := Lib.hid (fun wx => Small_any x y hx hy wx)
  have H1 := Lib.hid (fun wx => Right_any 1 ((2 + x % 20 : Nat) : Int) ((2 + y % 60 : Nat) : Int) k l o s d0 d1 d2 d3 ch p wx)
  rw [hr] at H1
  have hq : mayB 1 ((2 + x % 20 : Nat) : Int) ((2 + y % 60 : Nat) : Int) = true ∧ (k = 1 ∨ k = 2) ∧ l ≤ 65536 ∧ o ≤ 16 ∧ s ≤ 768 ∧ (ch : Int) < ((2 + y % 60 : Nat) : Int) ∧ (p : Int) < ((2 + x % 20 : Nat) : Int) ∧ (k = 1 → p = 0) ∧ (k = 2 → s = 0) ∧ (d0 : Int) < ((2 + y % 60 : Nat) : Int) ∧ (d1 : Int) < ((2 + y % 60 : Nat) : Int) ∧ (d2 : Int) < ((2 + y % 60 : Nat) : Int) ∧ (d3 : Int) < ((2 + y % 60 : Nat) : Int) := by unfold rightB at hr; rw [decide_eq_true_eq] at hr; exact hr
  have H2 := Lib.hid (fun wx => Right_any 4 64 512 k l o s d0 d1 d2 d3 ch p wx)
  have H3 := Lib.hid (fun wx => Right_any 0 0 0 k l o s d0 d1 d2 d3 ch p wx)
  rw [show rightB 4 64 512 k l o s d0 d1 d2 d3 ch p = true from by unfold rightB; rw [decide_eq_true_eq]; exact ⟨by decide, hq.2.1, hq.2.2.1, hq.2.2.2.1, hq.2.2.2.2.1, by omega, by omega, hq.2.2.2.2.2.2.2.1, hq.2.2.2.2.2.2.2.2.1, by omega, by omega, by omega, by omega⟩] at H2
  rw [show rightB 0 0 0 k l o s d0 d1 d2 d3 ch p = false from by unfold rightB; rw [decide_eq_false_iff_not]; intro h; exact absurd h.1 (by decide)] at H3
  obtain ⟨m, Hm⟩ : ∃ m, Hid (m = M % 4611686018427387904) := ⟨_, Lib.hid rfl⟩
  obtain ⟨V, HV⟩ : ∃ V, Hid (V = (2 + y % 60) + m) := ⟨_, Lib.hid rfl⟩
  have em : (M : Int) % 4611686018427387904 = (m : Int) := by rw [Hm.out]; omega
  have ew : (wh : Int) % 7 = 4 := by omega
  have wV : IntKind.u64.wrap (((2 + y % 60 : Nat) : Int) + (m : Int)) = (V : Int) := by
    rw [show (((2 + y % 60 : Nat) : Int) : Int) + (m : Int) = (V : Int) from by rw [HV.out]; omega]
    exact IntWalk.u64_in _ ⟨by omega, by rw [HV.out, Hm.out]; omega⟩
  have H4 := Lib.hid (fun wx => Right_any 1 ((2 + x % 20 : Nat) : Int) ((2 + y % 60 : Nat) : Int) k l o s d0 d1 V d3 ch p wx)
  rw [show rightB 1 ((2 + x % 20 : Nat) : Int) ((2 + y % 60 : Nat) : Int) k l o s d0 d1 V d3 ch p = false from by unfold rightB; rw [decide_eq_false_iff_not]; rw [HV.out]; omega] at H4
  have wB : IntKind.u64.wrap ((2 + x % 20 : Nat) : Int) = ((2 + x % 20 : Nat) : Int) := IntWalk.u64_in _ ⟨by omega, by omega⟩
  have wC : IntKind.u64.wrap ((2 + y % 60 : Nat) : Int) = ((2 + y % 60 : Nat) : Int) := IntWalk.u64_in _ ⟨by omega, by omega⟩
  have ei : (m : Int) % 4 = 2 := by rw [Hm.out]; omega
  clear hq hw hi
  generalize (2 + x % 20 : Nat) = B at *
  generalize (2 + y % 60 : Nat) = C at *
  clear hr hx hy
  unfold gv nv at *
  go_enter Try.func5, Try.ntmps5
  go_wp2_with fail
  obtain ⟨N, HN⟩ : ∃ N, Hid (N = w.heap.size) := ⟨_, Lib.hid rfl⟩
  have hN0 : NodeS N k l o s d0 d1 d2 d3 ch p (w.alloc (.cells #[.int .u64 (k : Int), .int .u64 (l : Int), .int .u64 (o : Int), .int .u64 (s : Int), .int .u64 (d0 : Int), .int .u64 (d1 : Int), .int .u64 (d2 : Int), .int .u64 (d3 : Int), .int .u64 (ch : Int), .int .u64 (p : Int)] 38)) := by rw [HN.out]; exact heap_alloc_new w _
  rw [← HN.out]
  refine (HS.out _).mono ?_
  rintro e w1 ⟨rfl, hg1⟩
  obtain ⟨G, HG⟩ : ∃ G, Hid (G = w1.heap.size) := ⟨_, Lib.hid rfl⟩
  have hGN : G ≠ N := by rw [HG.out]; have := hg1.size; rw [World.size_alloc] at this; rw [HN.out]; omega
  have hN1 := (hN0.keep hg1).keep (World.grownBy_alloc w1 (.cells #[.int .i64 1, .int .i64 (B : Int), .int .i64 (C : Int)] 23) none)
  have hG1 : GeoS G 1 (B : Int) (C : Int) (w1.alloc (.cells #[.int .i64 1, .int .i64 (B : Int), .int .i64 (C : Int)] 23)) := by rw [HG.out]; exact heap_alloc_new w1 _
  have hgw := Lib.hid (grown_trans (grown_trans (World.grownBy_alloc w _ none) hg1) (World.grownBy_alloc w1 (.cells #[.int .i64 1, .int .i64 (B : Int), .int .i64 (C : Int)] 23) none))
  obtain ⟨x0, x1, x2, x3, x4, x5, x6, x7, x8, x9⟩ := hN1.cells
  replace hN1 := Lib.hid hN1
  replace hG1 := Lib.hid hG1
  clear hN0 hg1 HS
  go_wp2_with fail
  rw [← HG.out]
  refine (H1.out _).mono ?_
  rintro e w2 ⟨rfl, hg⟩
  have hN2 := hN1.out.keep hg
  have hG2 := hG1.out.keep hg
  have hgw := Lib.hid (grown_trans hgw.out hg)
  clear x0 x1 x2 x3 x4 x5 x6 x7 x8 x9 hg H1
  obtain ⟨x0, x1, x2, x3, x4, x5, x6, x7, x8, x9⟩ := hN2.cells
  obtain ⟨g0, g1, g2⟩ := hG2.cells
  replace hN2 := Lib.hid hN2
  replace hG2 := Lib.hid hG2
  have hA := World.grownBy_alloc w2 (.cells #[.int .i64 4, .int .i64 64, .int .i64 512] 23) none
  replace hN2 := hN2.out.keep hA
  replace hG2 := hG2.out.keep hA
  have hgw := Lib.hid (grown_trans hgw.out hA)
  clear x0 x1 x2 x3 x4 x5 x6 x7 x8 x9 g0 g1 g2 hA
  obtain ⟨x0, x1, x2, x3, x4, x5, x6, x7, x8, x9⟩ := hN2.cells
  obtain ⟨g0, g1, g2⟩ := hG2.cells
  replace hN2 := Lib.hid hN2
  replace hG2 := Lib.hid hG2
  go_wp2_with fail
  refine (H2.out _).mono ?_
  rintro e w3 ⟨rfl, hg⟩
  have hN3 := hN2.out.keep hg
  have hG3 := hG2.out.keep hg
  have hgw := Lib.hid (grown_trans hgw.out hg)
  clear x0 x1 x2 x3 x4 x5 x6 x7 x8 x9 g0 g1 g2 hg H2
  obtain ⟨x0, x1, x2, x3, x4, x5, x6, x7, x8, x9⟩ := hN3.cells
  obtain ⟨g0, g1, g2⟩ := hG3.cells
  replace hN3 := Lib.hid hN3
  replace hG3 := Lib.hid hG3
  go_wp2_with fail
  refine (H3.out _).mono ?_
  rintro e w4 ⟨rfl, hg⟩
  have hN4 := hN3.out.keep hg
  have hG4 := hG3.out.keep hg
  have hgw := Lib.hid (grown_trans hgw.out hg)
  clear x0 x1 x2 x3 x4 x5 x6 x7 x8 x9 g0 g1 g2 hg H3
  obtain ⟨x0, x1, x2, x3, x4, x5, x6, x7, x8, x9⟩ := hN4.cells
  obtain ⟨g0, g1, g2⟩ := hG4.cells
  replace hN4 := Lib.hid hN4
  replace hG4 := Lib.hid hG4
  have hfr := hN4.out.free 6
  have hN5 : NodeS N k l o s d0 d1 V d3 ch p (w4.setCell ⟨N, 6, none⟩ (.int .u64 (V : Int))) := by
    have h := heap_setCell_at (o := 6) hN4.out (.int .u64 (V : Int))
    unfold NodeS; simpa using h
  have hG5 := hG4.out.past (o := 6) (u := .int .u64 (V : Int)) hGN
  have hgw := Lib.hid (grown_new hgw.out (grown_setCell w4 ⟨N, 6, none⟩ (.int .u64 (V : Int))) (by intro g e; cases e; rw [HN.out]; exact Nat.le_refl _))
  obtain ⟨y0, y1, y2, y3, y4, y5, y6, y7, y8, y9⟩ := hN5.cells
  obtain ⟨f0, f1, f2⟩ := hG5.cells
  replace hN5 := Lib.hid hN5
  replace hG5 := Lib.hid hG5
  go_wp2_with fail
  refine (H4.out _).mono ?_
  rintro e w6 ⟨rfl, hg⟩
  have hgw := Lib.hid (grown_trans hgw.out hg)
  clear hg
  go_wp2_with fail
  refine (works_any _).mono ?_
  rintro e w9 ⟨rfl, hg⟩
  go_wp2
  go_ret
  exact ⟨rfl, grown_trans hgw.out hg⟩

set_option maxRecDepth 100000 in
set_option maxHeartbeats 1000000 in
theorem walk_4_3 (x y wh M k l o s d0 d1 d2 d3 ch p : Nat) (w : World) (hx : x < 256) (hy : y < 256) (hr : rightB 1 ((2 + x % 20 : Nat) : Int) ((2 + y % 60 : Nat) : Int) k l o s d0 d1 d2 d3 ch p = true) (hw : wh % 7 = 4) (hi : M % 4611686018427387904 % 4 = 3) :
    Calls Try.prog 5 #[.int .u8 (x : Int), .int .u8 (y : Int), .agg #[.int .u64 (k : Int), .int .u64 (l : Int), .int .u64 (o : Int), .int .u64 (s : Int), .int .u64 (d0 : Int), .int .u64 (d1 : Int), .int .u64 (d2 : Int), .int .u64 (d3 : Int), .int .u64 (ch : Int), .int .u64 (p : Int)], .int .u8 (wh : Int), .int .u64 (M : Int)] w (WorksIs w) := by
  have hB2 : (2 + x % 20 : Nat) < 1000 := by omega
  have hC2 : (2 + y % 60 : Nat) < 1000 := by omega
  have HS := Lib.hid (fun wx => Small_any x y hx hy wx)
  have H1 := Lib.hid (fun wx => Right_any 1 ((2 + x % 20 : Nat) : Int) ((2 + y % 60 : Nat) : Int) k l o s d0 d1 d2 d3 ch p wx)
  rw [hr] at H1
  have hq : mayB 1 ((2 + x % 20 : Nat) : Int) ((2 + y % 60 : Nat) : Int) = true ∧ (k = 1 ∨ k = 2) ∧ l ≤ 65536 ∧ o ≤ 16 ∧ s ≤ 768 ∧ (ch : Int) < ((2 + y % 60 : Nat) : Int) ∧ (p : Int) < ((2 + x % 20 : Nat) : Int) ∧ (k = 1 → p = 0) ∧ (k = 2 → s = 0) ∧ (d0 : Int) < ((2 + y % 60 : Nat) : Int) ∧ (d1 : Int) < ((2 + y % 60 : Nat) : Int) ∧ (d2 : Int) < ((2 + y % 60 : Nat) : Int) ∧ (d3 : Int) < ((2 + y % 60 : Nat) : Int) := by unfold rightB at hr; rw [decide_eq_true_eq] at hr; exact hr
  have H2 := Lib.hid (fun wx => Right_any 4 64 512 k l o s d0 d1 d2 d3 ch p wx)
  have H3 := Lib.hid (fun wx => Right_any 0 0 0 k l o s d0 d1 d2 d3 ch p wx)
  rw [show rightB 4 64 512 k l o s d0 d1 d2 d3 ch p = true from by unfold rightB; rw [decide_eq_true_eq]; exact ⟨by decide, hq.2.1, hq.2.2.1, hq.2.2.2.1, hq.2.2.2.2.1, by omega, by omega, hq.2.2.2.2.2.2.2.1, hq.2.2.2.2.2.2.2.2.1, by omega, by omega, by omega, by omega⟩] at H2
  rw [show rightB 0 0 0 k l o s d0 d1 d2 d3 ch p = false from by unfold rightB; rw [decide_eq_false_iff_not]; intro h; exact absurd h.1 (by decide)] at H3
  obtain ⟨m, Hm⟩ : ∃ m, Hid (m = M % 4611686018427387904) := ⟨_, Lib.hid rfl⟩
  obtain ⟨V, HV⟩ : ∃ V, Hid (V = (2 + y % 60) + m) := ⟨_, Lib.hid rfl⟩
  have em : (M : Int) % 4611686018427387904 = (m : Int) := by rw [Hm.out]; omega
  have ew : (wh : Int) % 7 = 4 := by omega
  have wV : IntKind.u64.wrap (((2 + y % 60 : Nat) : Int) + (m : Int)) = (V : Int) := by
    rw [show (((2 + y % 60 : Nat) : Int) : Int) + (m : Int) = (V : Int) from by rw [HV.out]; omega]
    exact IntWalk.u64_in _ ⟨by omega, by rw [HV.out, Hm.out]; omega⟩
  have H4 := Lib.hid (fun wx => Right_any 1 ((2 + x % 20 : Nat) : Int) ((2 + y % 60 : Nat) : Int) k l o s d0 d1 d2 V ch p wx)
  rw [show rightB 1 ((2 + x % 20 : Nat) : Int) ((2 + y % 60 : Nat) : Int) k l o s d0 d1 d2 V ch p = false from by unfold rightB; rw [decide_eq_false_iff_not]; rw [HV.out]; omega] at H4
  have wB : IntKind.u64.wrap ((2 + x % 20 : Nat) : Int) = ((2 + x % 20 : Nat) : Int) := IntWalk.u64_in _ ⟨by omega, by omega⟩
  have wC : IntKind.u64.wrap ((2 + y % 60 : Nat) : Int) = ((2 + y % 60 : Nat) : Int) := IntWalk.u64_in _ ⟨by omega, by omega⟩
  have ei : (m : Int) % 4 = 3 := by rw [Hm.out]; omega
  clear hq hw hi
  generalize (2 + x % 20 : Nat) = B at *
  generalize (2 + y % 60 : Nat) = C at *
  clear hr hx hy
  unfold gv nv at *
  go_enter Try.func5, Try.ntmps5
  go_wp2_with fail
  obtain ⟨N, HN⟩ : ∃ N, Hid (N = w.heap.size) := ⟨_, Lib.hid rfl⟩
  have hN0 : NodeS N k l o s d0 d1 d2 d3 ch p (w.alloc (.cells #[.int .u64 (k : Int), .int .u64 (l : Int), .int .u64 (o : Int), .int .u64 (s : Int), .int .u64 (d0 : Int), .int .u64 (d1 : Int), .int .u64 (d2 : Int), .int .u64 (d3 : Int), .int .u64 (ch : Int), .int .u64 (p : Int)] 38)) := by rw [HN.out]; exact heap_alloc_new w _
  rw [← HN.out]
  refine (HS.out _).mono ?_
  rintro e w1 ⟨rfl, hg1⟩
  obtain ⟨G, HG⟩ : ∃ G, Hid (G = w1.heap.size) := ⟨_, Lib.hid rfl⟩
  have hGN : G ≠ N := by rw [HG.out]; have := hg1.size; rw [World.size_alloc] at this; rw [HN.out]; omega
  have hN1 := (hN0.keep hg1).keep (World.grownBy_alloc w1 (.cells #[.int .i64 1, .int .i64 (B : Int), .int .i64 (C : Int)] 23) none)
  have hG1 : GeoS G 1 (B : Int) (C : Int) (w1.alloc (.cells #[.int .i64 1, .int .i64 (B : Int), .int .i64 (C : Int)] 23)) := by rw [HG.out]; exact heap_alloc_new w1 _
  have hgw := Lib.hid (grown_trans (grown_trans (World.grownBy_alloc w _ none) hg1) (World.grownBy_alloc w1 (.cells #[.int .i64 1, .int .i64 (B : Int), .int .i64 (C : Int)] 23) none))
  obtain ⟨x0, x1, x2, x3, x4, x5, x6, x7, x8, x9⟩ := hN1.cells
  replace hN1 := Lib.hid hN1
  replace hG1 := Lib.hid hG1
  clear hN0 hg1 HS
  go_wp2_with fail
  rw [← HG.out]
  refine (H1.out _).mono ?_
  rintro e w2 ⟨rfl, hg⟩
  have hN2 := hN1.out.keep hg
  have hG2 := hG1.out.keep hg
  have hgw := Lib.hid (grown_trans hgw.out hg)
  clear x0 x1 x2 x3 x4 x5 x6 x7 x8 x9 hg H1
  obtain ⟨x0, x1, x2, x3, x4, x5, x6, x7, x8, x9⟩ := hN2.cells
  obtain ⟨g0, g1, g2⟩ := hG2.cells
  replace hN2 := Lib.hid hN2
  replace hG2 := Lib.hid hG2
  have hA := World.grownBy_alloc w2 (.cells #[.int .i64 4, .int .i64 64, .int .i64 512] 23) none
  replace hN2 := hN2.out.keep hA
  replace hG2 := hG2.out.keep hA
  have hgw := Lib.hid (grown_trans hgw.out hA)
  clear x0 x1 x2 x3 x4 x5 x6 x7 x8 x9 g0 g1 g2 hA
  obtain ⟨x0, x1, x2, x3, x4, x5, x6, x7, x8, x9⟩ := hN2.cells
  obtain ⟨g0, g1, g2⟩ := hG2.cells
  replace hN2 := Lib.hid hN2
  replace hG2 := Lib.hid hG2
  go_wp2_with fail
  refine (H2.out _).mono ?_
  rintro e w3 ⟨rfl, hg⟩
  have hN3 := hN2.out.keep hg
  have hG3 := hG2.out.keep hg
  have hgw := Lib.hid (grown_trans hgw.out hg)
  clear x0 x1 x2 x3 x4 x5 x6 x7 x8 x9 g0 g1 g2 hg H2
  obtain ⟨x0, x1, x2, x3, x4, x5, x6, x7, x8, x9⟩ := hN3.cells
  obtain ⟨g0, g1, g2⟩ := hG3.cells
  replace hN3 := Lib.hid hN3
  replace hG3 := Lib.hid hG3
  go_wp2_with fail
  refine (H3.out _).mono ?_
  rintro e w4 ⟨rfl, hg⟩
  have hN4 := hN3.out.keep hg
  have hG4 := hG3.out.keep hg
  have hgw := Lib.hid (grown_trans hgw.out hg)
  clear x0 x1 x2 x3 x4 x5 x6 x7 x8 x9 g0 g1 g2 hg H3
  obtain ⟨x0, x1, x2, x3, x4, x5, x6, x7, x8, x9⟩ := hN4.cells
  obtain ⟨g0, g1, g2⟩ := hG4.cells
  replace hN4 := Lib.hid hN4
  replace hG4 := Lib.hid hG4
  have hfr := hN4.out.free 7
  have hN5 : NodeS N k l o s d0 d1 d2 V ch p (w4.setCell ⟨N, 7, none⟩ (.int .u64 (V : Int))) := by
    have h := heap_setCell_at (o := 7) hN4.out (.int .u64 (V : Int))
    unfold NodeS; simpa using h
  have hG5 := hG4.out.past (o := 7) (u := .int .u64 (V : Int)) hGN
  have hgw := Lib.hid (grown_new hgw.out (grown_setCell w4 ⟨N, 7, none⟩ (.int .u64 (V : Int))) (by intro g e; cases e; rw [HN.out]; exact Nat.le_refl _))
  obtain ⟨y0, y1, y2, y3, y4, y5, y6, y7, y8, y9⟩ := hN5.cells
  obtain ⟨f0, f1, f2⟩ := hG5.cells
  replace hN5 := Lib.hid hN5
  replace hG5 := Lib.hid hG5
  go_wp2_with fail
  refine (H4.out _).mono ?_
  rintro e w6 ⟨rfl, hg⟩
  have hgw := Lib.hid (grown_trans hgw.out hg)
  clear hg
  go_wp2_with fail
  refine (works_any _).mono ?_
  rintro e w9 ⟨rfl, hg⟩
  go_wp2
  go_ret
  exact ⟨rfl, grown_trans hgw.out hg⟩

set_option maxRecDepth 100000 in
set_option maxHeartbeats 1000000 in
theorem walk_5 (x y wh M k l o s d0 d1 d2 d3 ch p : Nat) (w : World) (hx : x < 256) (hy : y < 256) (hr : rightB 1 ((2 + x % 20 : Nat) : Int) ((2 + y % 60 : Nat) : Int) k l o s d0 d1 d2 d3 ch p = true) (hw : wh % 7 = 5) :
    Calls Try.prog 5 #[.int .u8 (x : Int), .int .u8 (y : Int), .agg #[.int .u64 (k : Int), .int .u64 (l : Int), .int .u64 (o : Int), .int .u64 (s : Int), .int .u64 (d0 : Int), .int .u64 (d1 : Int), .int .u64 (d2 : Int), .int .u64 (d3 : Int), .int .u64 (ch : Int), .int .u64 (p : Int)], .int .u8 (wh : Int), .int .u64 (M : Int)] w (WorksIs w) := by
  have hB2 : (2 + x % 20 : Nat) < 1000 := by omega
  have hC2 : (2 + y % 60 : Nat) < 1000 := by omega
  have HS := Lib.hid (fun wx => Small_any x y hx hy wx)
  have H1 := Lib.hid (fun wx => Right_any 1 ((2 + x % 20 : Nat) : Int) ((2 + y % 60 : Nat) : Int) k l o s d0 d1 d2 d3 ch p wx)
  rw [hr] at H1
  have hq : mayB 1 ((2 + x % 20 : Nat) : Int) ((2 + y % 60 : Nat) : Int) = true ∧ (k = 1 ∨ k = 2) ∧ l ≤ 65536 ∧ o ≤ 16 ∧ s ≤ 768 ∧ (ch : Int) < ((2 + y % 60 : Nat) : Int) ∧ (p : Int) < ((2 + x % 20 : Nat) : Int) ∧ (k = 1 → p = 0) ∧ (k = 2 → s = 0) ∧ (d0 : Int) < ((2 + y % 60 : Nat) : Int) ∧ (d1 : Int) < ((2 + y % 60 : Nat) : Int) ∧ (d2 : Int) < ((2 + y % 60 : Nat) : Int) ∧ (d3 : Int) < ((2 + y % 60 : Nat) : Int) := by unfold rightB at hr; rw [decide_eq_true_eq] at hr; exact hr
  have H2 := Lib.hid (fun wx => Right_any 4 64 512 k l o s d0 d1 d2 d3 ch p wx)
  have H3 := Lib.hid (fun wx => Right_any 0 0 0 k l o s d0 d1 d2 d3 ch p wx)
  rw [show rightB 4 64 512 k l o s d0 d1 d2 d3 ch p = true from by unfold rightB; rw [decide_eq_true_eq]; exact ⟨by decide, hq.2.1, hq.2.2.1, hq.2.2.2.1, hq.2.2.2.2.1, by omega, by omega, hq.2.2.2.2.2.2.2.1, hq.2.2.2.2.2.2.2.2.1, by omega, by omega, by omega, by omega⟩] at H2
  rw [show rightB 0 0 0 k l o s d0 d1 d2 d3 ch p = false from by unfold rightB; rw [decide_eq_false_iff_not]; intro h; exact absurd h.1 (by decide)] at H3
  obtain ⟨m, Hm⟩ : ∃ m, Hid (m = M % 4611686018427387904) := ⟨_, Lib.hid rfl⟩
  obtain ⟨V, HV⟩ : ∃ V, Hid (V = (2 + y % 60) + m) := ⟨_, Lib.hid rfl⟩
  have em : (M : Int) % 4611686018427387904 = (m : Int) := by rw [Hm.out]; omega
  have ew : (wh : Int) % 7 = 5 := by omega
  have wV : IntKind.u64.wrap (((2 + y % 60 : Nat) : Int) + (m : Int)) = (V : Int) := by
    rw [show (((2 + y % 60 : Nat) : Int) : Int) + (m : Int) = (V : Int) from by rw [HV.out]; omega]
    exact IntWalk.u64_in _ ⟨by omega, by rw [HV.out, Hm.out]; omega⟩
  have H4 := Lib.hid (fun wx => Right_any 1 ((2 + x % 20 : Nat) : Int) ((2 + y % 60 : Nat) : Int) k l o s d0 d1 d2 d3 V p wx)
  rw [show rightB 1 ((2 + x % 20 : Nat) : Int) ((2 + y % 60 : Nat) : Int) k l o s d0 d1 d2 d3 V p = false from by unfold rightB; rw [decide_eq_false_iff_not]; rw [HV.out]; omega] at H4
  have wB : IntKind.u64.wrap ((2 + x % 20 : Nat) : Int) = ((2 + x % 20 : Nat) : Int) := IntWalk.u64_in _ ⟨by omega, by omega⟩
  have wC : IntKind.u64.wrap ((2 + y % 60 : Nat) : Int) = ((2 + y % 60 : Nat) : Int) := IntWalk.u64_in _ ⟨by omega, by omega⟩
  clear hq hw
  generalize (2 + x % 20 : Nat) = B at *
  generalize (2 + y % 60 : Nat) = C at *
  clear hr hx hy
  unfold gv nv at *
  go_enter Try.func5, Try.ntmps5
  go_wp2_with fail
  obtain ⟨N, HN⟩ : ∃ N, Hid (N = w.heap.size) := ⟨_, Lib.hid rfl⟩
  have hN0 : NodeS N k l o s d0 d1 d2 d3 ch p (w.alloc (.cells #[.int .u64 (k : Int), .int .u64 (l : Int), .int .u64 (o : Int), .int .u64 (s : Int), .int .u64 (d0 : Int), .int .u64 (d1 : Int), .int .u64 (d2 : Int), .int .u64 (d3 : Int), .int .u64 (ch : Int), .int .u64 (p : Int)] 38)) := by rw [HN.out]; exact heap_alloc_new w _
  rw [← HN.out]
  refine (HS.out _).mono ?_
  rintro e w1 ⟨rfl, hg1⟩
  obtain ⟨G, HG⟩ : ∃ G, Hid (G = w1.heap.size) := ⟨_, Lib.hid rfl⟩
  have hGN : G ≠ N := by rw [HG.out]; have := hg1.size; rw [World.size_alloc] at this; rw [HN.out]; omega
  have hN1 := (hN0.keep hg1).keep (World.grownBy_alloc w1 (.cells #[.int .i64 1, .int .i64 (B : Int), .int .i64 (C : Int)] 23) none)
  have hG1 : GeoS G 1 (B : Int) (C : Int) (w1.alloc (.cells #[.int .i64 1, .int .i64 (B : Int), .int .i64 (C : Int)] 23)) := by rw [HG.out]; exact heap_alloc_new w1 _
  have hgw := Lib.hid (grown_trans (grown_trans (World.grownBy_alloc w _ none) hg1) (World.grownBy_alloc w1 (.cells #[.int .i64 1, .int .i64 (B : Int), .int .i64 (C : Int)] 23) none))
  obtain ⟨x0, x1, x2, x3, x4, x5, x6, x7, x8, x9⟩ := hN1.cells
  replace hN1 := Lib.hid hN1
  replace hG1 := Lib.hid hG1
  clear hN0 hg1 HS
  go_wp2_with fail
  rw [← HG.out]
  refine (H1.out _).mono ?_
  rintro e w2 ⟨rfl, hg⟩
  have hN2 := hN1.out.keep hg
  have hG2 := hG1.out.keep hg
  have hgw := Lib.hid (grown_trans hgw.out hg)
  clear x0 x1 x2 x3 x4 x5 x6 x7 x8 x9 hg H1
  obtain ⟨x0, x1, x2, x3, x4, x5, x6, x7, x8, x9⟩ := hN2.cells
  obtain ⟨g0, g1, g2⟩ := hG2.cells
  replace hN2 := Lib.hid hN2
  replace hG2 := Lib.hid hG2
  have hA := World.grownBy_alloc w2 (.cells #[.int .i64 4, .int .i64 64, .int .i64 512] 23) none
  replace hN2 := hN2.out.keep hA
  replace hG2 := hG2.out.keep hA
  have hgw := Lib.hid (grown_trans hgw.out hA)
  clear x0 x1 x2 x3 x4 x5 x6 x7 x8 x9 g0 g1 g2 hA
  obtain ⟨x0, x1, x2, x3, x4, x5, x6, x7, x8, x9⟩ := hN2.cells
  obtain ⟨g0, g1, g2⟩ := hG2.cells
  replace hN2 := Lib.hid hN2
  replace hG2 := Lib.hid hG2
  go_wp2_with fail
  refine (H2.out _).mono ?_
  rintro e w3 ⟨rfl, hg⟩
  have hN3 := hN2.out.keep hg
  have hG3 := hG2.out.keep hg
  have hgw := Lib.hid (grown_trans hgw.out hg)
  clear x0 x1 x2 x3 x4 x5 x6 x7 x8 x9 g0 g1 g2 hg H2
  obtain ⟨x0, x1, x2, x3, x4, x5, x6, x7, x8, x9⟩ := hN3.cells
  obtain ⟨g0, g1, g2⟩ := hG3.cells
  replace hN3 := Lib.hid hN3
  replace hG3 := Lib.hid hG3
  go_wp2_with fail
  refine (H3.out _).mono ?_
  rintro e w4 ⟨rfl, hg⟩
  have hN4 := hN3.out.keep hg
  have hG4 := hG3.out.keep hg
  have hgw := Lib.hid (grown_trans hgw.out hg)
  clear x0 x1 x2 x3 x4 x5 x6 x7 x8 x9 g0 g1 g2 hg H3
  obtain ⟨x0, x1, x2, x3, x4, x5, x6, x7, x8, x9⟩ := hN4.cells
  obtain ⟨g0, g1, g2⟩ := hG4.cells
  replace hN4 := Lib.hid hN4
  replace hG4 := Lib.hid hG4
  have hfr := hN4.out.free 8
  have hN5 : NodeS N k l o s d0 d1 d2 d3 V p (w4.setCell ⟨N, 8, none⟩ (.int .u64 (V : Int))) := by
    have h := heap_setCell_at (o := 8) hN4.out (.int .u64 (V : Int))
    unfold NodeS; simpa using h
  have hG5 := hG4.out.past (o := 8) (u := .int .u64 (V : Int)) hGN
  have hgw := Lib.hid (grown_new hgw.out (grown_setCell w4 ⟨N, 8, none⟩ (.int .u64 (V : Int))) (by intro g e; cases e; rw [HN.out]; exact Nat.le_refl _))
  obtain ⟨y0, y1, y2, y3, y4, y5, y6, y7, y8, y9⟩ := hN5.cells
  obtain ⟨f0, f1, f2⟩ := hG5.cells
  replace hN5 := Lib.hid hN5
  replace hG5 := Lib.hid hG5
  go_wp2_with fail
  refine (H4.out _).mono ?_
  rintro e w6 ⟨rfl, hg⟩
  have hgw := Lib.hid (grown_trans hgw.out hg)
  clear hg
  go_wp2_with fail
  refine (works_any _).mono ?_
  rintro e w9 ⟨rfl, hg⟩
  go_wp2
  go_ret
  exact ⟨rfl, grown_trans hgw.out hg⟩

set_option maxRecDepth 100000 in
set_option maxHeartbeats 1000000 in
theorem walk_6 (x y wh M k l o s d0 d1 d2 d3 ch p : Nat) (w : World) (hx : x < 256) (hy : y < 256) (hr : rightB 1 ((2 + x % 20 : Nat) : Int) ((2 + y % 60 : Nat) : Int) k l o s d0 d1 d2 d3 ch p = true) (hw : wh % 7 = 6) :
    Calls Try.prog 5 #[.int .u8 (x : Int), .int .u8 (y : Int), .agg #[.int .u64 (k : Int), .int .u64 (l : Int), .int .u64 (o : Int), .int .u64 (s : Int), .int .u64 (d0 : Int), .int .u64 (d1 : Int), .int .u64 (d2 : Int), .int .u64 (d3 : Int), .int .u64 (ch : Int), .int .u64 (p : Int)], .int .u8 (wh : Int), .int .u64 (M : Int)] w (WorksIs w) := by
  have hB2 : (2 + x % 20 : Nat) < 1000 := by omega
  have hC2 : (2 + y % 60 : Nat) < 1000 := by omega
  have HS := Lib.hid (fun wx => Small_any x y hx hy wx)
  have H1 := Lib.hid (fun wx => Right_any 1 ((2 + x % 20 : Nat) : Int) ((2 + y % 60 : Nat) : Int) k l o s d0 d1 d2 d3 ch p wx)
  rw [hr] at H1
  have hq : mayB 1 ((2 + x % 20 : Nat) : Int) ((2 + y % 60 : Nat) : Int) = true ∧ (k = 1 ∨ k = 2) ∧ l ≤ 65536 ∧ o ≤ 16 ∧ s ≤ 768 ∧ (ch : Int) < ((2 + y % 60 : Nat) : Int) ∧ (p : Int) < ((2 + x % 20 : Nat) : Int) ∧ (k = 1 → p = 0) ∧ (k = 2 → s = 0) ∧ (d0 : Int) < ((2 + y % 60 : Nat) : Int) ∧ (d1 : Int) < ((2 + y % 60 : Nat) : Int) ∧ (d2 : Int) < ((2 + y % 60 : Nat) : Int) ∧ (d3 : Int) < ((2 + y % 60 : Nat) : Int) := by unfold rightB at hr; rw [decide_eq_true_eq] at hr; exact hr
  have H2 := Lib.hid (fun wx => Right_any 4 64 512 k l o s d0 d1 d2 d3 ch p wx)
  have H3 := Lib.hid (fun wx => Right_any 0 0 0 k l o s d0 d1 d2 d3 ch p wx)
  rw [show rightB 4 64 512 k l o s d0 d1 d2 d3 ch p = true from by unfold rightB; rw [decide_eq_true_eq]; exact ⟨by decide, hq.2.1, hq.2.2.1, hq.2.2.2.1, hq.2.2.2.2.1, by omega, by omega, hq.2.2.2.2.2.2.2.1, hq.2.2.2.2.2.2.2.2.1, by omega, by omega, by omega, by omega⟩] at H2
  rw [show rightB 0 0 0 k l o s d0 d1 d2 d3 ch p = false from by unfold rightB; rw [decide_eq_false_iff_not]; intro h; exact absurd h.1 (by decide)] at H3
  obtain ⟨m, Hm⟩ : ∃ m, Hid (m = M % 4611686018427387904) := ⟨_, Lib.hid rfl⟩
  obtain ⟨V, HV⟩ : ∃ V, Hid (V = (2 + x % 20) + m) := ⟨_, Lib.hid rfl⟩
  have em : (M : Int) % 4611686018427387904 = (m : Int) := by rw [Hm.out]; omega
  have ew : (wh : Int) % 7 = 6 := by omega
  have wV : IntKind.u64.wrap (((2 + x % 20 : Nat) : Int) + (m : Int)) = (V : Int) := by
    rw [show (((2 + x % 20 : Nat) : Int) : Int) + (m : Int) = (V : Int) from by rw [HV.out]; omega]
    exact IntWalk.u64_in _ ⟨by omega, by rw [HV.out, Hm.out]; omega⟩
  have H4 := Lib.hid (fun wx => Right_any 1 ((2 + x % 20 : Nat) : Int) ((2 + y % 60 : Nat) : Int) k l o s d0 d1 d2 d3 ch V wx)
  rw [show rightB 1 ((2 + x % 20 : Nat) : Int) ((2 + y % 60 : Nat) : Int) k l o s d0 d1 d2 d3 ch V = false from by unfold rightB; rw [decide_eq_false_iff_not]; rw [HV.out]; omega] at H4
  have wB : IntKind.u64.wrap ((2 + x % 20 : Nat) : Int) = ((2 + x % 20 : Nat) : Int) := IntWalk.u64_in _ ⟨by omega, by omega⟩
  have wC : IntKind.u64.wrap ((2 + y % 60 : Nat) : Int) = ((2 + y % 60 : Nat) : Int) := IntWalk.u64_in _ ⟨by omega, by omega⟩
  clear hq hw
  generalize (2 + x % 20 : Nat) = B at *
  generalize (2 + y % 60 : Nat) = C at *
  clear hr hx hy
  unfold gv nv at *
  go_enter Try.func5, Try.ntmps5
  go_wp2_with fail
  obtain ⟨N, HN⟩ : ∃ N, Hid (N = w.heap.size) := ⟨_, Lib.hid rfl⟩
  have hN0 : NodeS N k l o s d0 d1 d2 d3 ch p (w.alloc (.cells #[.int .u64 (k : Int), .int .u64 (l : Int), .int .u64 (o : Int), .int .u64 (s : Int), .int .u64 (d0 : Int), .int .u64 (d1 : Int), .int .u64 (d2 : Int), .int .u64 (d3 : Int), .int .u64 (ch : Int), .int .u64 (p : Int)] 38)) := by rw [HN.out]; exact heap_alloc_new w _
  rw [← HN.out]
  refine (HS.out _).mono ?_
  rintro e w1 ⟨rfl, hg1⟩
  obtain ⟨G, HG⟩ : ∃ G, Hid (G = w1.heap.size) := ⟨_, Lib.hid rfl⟩
  have hGN : G ≠ N := by rw [HG.out]; have := hg1.size; rw [World.size_alloc] at this; rw [HN.out]; omega
  have hN1 := (hN0.keep hg1).keep (World.grownBy_alloc w1 (.cells #[.int .i64 1, .int .i64 (B : Int), .int .i64 (C : Int)] 23) none)
  have hG1 : GeoS G 1 (B : Int) (C : Int) (w1.alloc (.cells #[.int .i64 1, .int .i64 (B : Int), .int .i64 (C : Int)] 23)) := by rw [HG.out]; exact heap_alloc_new w1 _
  have hgw := Lib.hid (grown_trans (grown_trans (World.grownBy_alloc w _ none) hg1) (World.grownBy_alloc w1 (.cells #[.int .i64 1, .int .i64 (B : Int), .int .i64 (C : Int)] 23) none))
  obtain ⟨x0, x1, x2, x3, x4, x5, x6, x7, x8, x9⟩ := hN1.cells
  replace hN1 := Lib.hid hN1
  replace hG1 := Lib.hid hG1
  clear hN0 hg1 HS
  go_wp2_with fail
  rw [← HG.out]
  refine (H1.out _).mono ?_
  rintro e w2 ⟨rfl, hg⟩
  have hN2 := hN1.out.keep hg
  have hG2 := hG1.out.keep hg
  have hgw := Lib.hid (grown_trans hgw.out hg)
  clear x0 x1 x2 x3 x4 x5 x6 x7 x8 x9 hg H1
  obtain ⟨x0, x1, x2, x3, x4, x5, x6, x7, x8, x9⟩ := hN2.cells
  obtain ⟨g0, g1, g2⟩ := hG2.cells
  replace hN2 := Lib.hid hN2
  replace hG2 := Lib.hid hG2
  have hA := World.grownBy_alloc w2 (.cells #[.int .i64 4, .int .i64 64, .int .i64 512] 23) none
  replace hN2 := hN2.out.keep hA
  replace hG2 := hG2.out.keep hA
  have hgw := Lib.hid (grown_trans hgw.out hA)
  clear x0 x1 x2 x3 x4 x5 x6 x7 x8 x9 g0 g1 g2 hA
  obtain ⟨x0, x1, x2, x3, x4, x5, x6, x7, x8, x9⟩ := hN2.cells
  obtain ⟨g0, g1, g2⟩ := hG2.cells
  replace hN2 := Lib.hid hN2
  replace hG2 := Lib.hid hG2
  go_wp2_with fail
  refine (H2.out _).mono ?_
  rintro e w3 ⟨rfl, hg⟩
  have hN3 := hN2.out.keep hg
  have hG3 := hG2.out.keep hg
  have hgw := Lib.hid (grown_trans hgw.out hg)
  clear x0 x1 x2 x3 x4 x5 x6 x7 x8 x9 g0 g1 g2 hg H2
  obtain ⟨x0, x1, x2, x3, x4, x5, x6, x7, x8, x9⟩ := hN3.cells
  obtain ⟨g0, g1, g2⟩ := hG3.cells
  replace hN3 := Lib.hid hN3
  replace hG3 := Lib.hid hG3
  go_wp2_with fail
  refine (H3.out _).mono ?_
  rintro e w4 ⟨rfl, hg⟩
  have hN4 := hN3.out.keep hg
  have hG4 := hG3.out.keep hg
  have hgw := Lib.hid (grown_trans hgw.out hg)
  clear x0 x1 x2 x3 x4 x5 x6 x7 x8 x9 g0 g1 g2 hg H3
  obtain ⟨x0, x1, x2, x3, x4, x5, x6, x7, x8, x9⟩ := hN4.cells
  obtain ⟨g0, g1, g2⟩ := hG4.cells
  replace hN4 := Lib.hid hN4
  replace hG4 := Lib.hid hG4
  have hfr := hN4.out.free 9
  have hN5 : NodeS N k l o s d0 d1 d2 d3 ch V (w4.setCell ⟨N, 9, none⟩ (.int .u64 (V : Int))) := by
    have h := heap_setCell_at (o := 9) hN4.out (.int .u64 (V : Int))
    unfold NodeS; simpa using h
  have hG5 := hG4.out.past (o := 9) (u := .int .u64 (V : Int)) hGN
  have hgw := Lib.hid (grown_new hgw.out (grown_setCell w4 ⟨N, 9, none⟩ (.int .u64 (V : Int))) (by intro g e; cases e; rw [HN.out]; exact Nat.le_refl _))
  obtain ⟨y0, y1, y2, y3, y4, y5, y6, y7, y8, y9⟩ := hN5.cells
  obtain ⟨f0, f1, f2⟩ := hG5.cells
  replace hN5 := Lib.hid hN5
  replace hG5 := Lib.hid hG5
  go_wp2_with fail
  refine (H4.out _).mono ?_
  rintro e w6 ⟨rfl, hg⟩
  have hgw := Lib.hid (grown_trans hgw.out hg)
  clear hg
  go_wp2_with fail
  refine (works_any _).mono ?_
  rintro e w9 ⟨rfl, hg⟩
  go_wp2
  go_ret
  exact ⟨rfl, grown_trans hgw.out hg⟩

theorem walk (a0 a1 : Int) (z0 z1 z2 z3 z4 z5 z6 z7 z8 z9 : Int) (a3 a4 : Int) (w : World) (h0 : (Lit.int .u8 a0).wf = true) (h1 : (Lit.int .u8 a1).wf = true) (k0 : (Lit.int .u64 z0).wf = true) (k1 : (Lit.int .u64 z1).wf = true) (k2 : (Lit.int .u64 z2).wf = true) (k3 : (Lit.int .u64 z3).wf = true) (k4 : (Lit.int .u64 z4).wf = true) (k5 : (Lit.int .u64 z5).wf = true) (k6 : (Lit.int .u64 z6).wf = true) (k7 : (Lit.int .u64 z7).wf = true) (k8 : (Lit.int .u64 z8).wf = true) (k9 : (Lit.int .u64 z9).wf = true) (h3 : (Lit.int .u8 a3).wf = true) (h4 : (Lit.int .u64 a4).wf = true) :
    Calls Try.prog 5 #[.int .u8 a0, .int .u8 a1, .agg #[.int .u64 z0, .int .u64 z1, .int .u64 z2, .int .u64 z3, .int .u64 z4, .int .u64 z5, .int .u64 z6, .int .u64 z7, .int .u64 z8, .int .u64 z9], .int .u8 a3, .int .u64 a4] w (WorksIs w) := by
  have b0 := bounds_u8 h0
  have b1 := bounds_u8 h1
  have b3 := bounds_u8 h3
  have b4 := bounds_u64 h4
  obtain ⟨x, rfl⟩ := Int.eq_ofNat_of_zero_le b0.1
  obtain ⟨y, rfl⟩ := Int.eq_ofNat_of_zero_le b1.1
  obtain ⟨wh, rfl⟩ := Int.eq_ofNat_of_zero_le b3.1
  obtain ⟨M, rfl⟩ := Int.eq_ofNat_of_zero_le b4.1
  obtain ⟨k, rfl⟩ := Int.eq_ofNat_of_zero_le (bounds_u64 k0).1
  obtain ⟨l, rfl⟩ := Int.eq_ofNat_of_zero_le (bounds_u64 k1).1
  obtain ⟨o, rfl⟩ := Int.eq_ofNat_of_zero_le (bounds_u64 k2).1
  obtain ⟨s, rfl⟩ := Int.eq_ofNat_of_zero_le (bounds_u64 k3).1
  obtain ⟨d0, rfl⟩ := Int.eq_ofNat_of_zero_le (bounds_u64 k4).1
  obtain ⟨d1, rfl⟩ := Int.eq_ofNat_of_zero_le (bounds_u64 k5).1
  obtain ⟨d2, rfl⟩ := Int.eq_ofNat_of_zero_le (bounds_u64 k6).1
  obtain ⟨d3, rfl⟩ := Int.eq_ofNat_of_zero_le (bounds_u64 k7).1
  obtain ⟨ch, rfl⟩ := Int.eq_ofNat_of_zero_le (bounds_u64 k8).1
  obtain ⟨p, rfl⟩ := Int.eq_ofNat_of_zero_le (bounds_u64 k9).1
  have hx : x < 256 := by omega
  have hy : y < 256 := by omega
  cases hr : rightB 1 ((2 + x % 20 : Nat) : Int) ((2 + y % 60 : Nat) : Int) k l o s d0 d1 d2 d3 ch p with
  | false => exact walk_no x y wh M k l o s d0 d1 d2 d3 ch p w hx hy hr
  | true =>
    have hw : wh % 7 = 0 ∨ wh % 7 = 1 ∨ wh % 7 = 2 ∨ wh % 7 = 3 ∨ wh % 7 = 4 ∨ wh % 7 = 5 ∨ wh % 7 = 6 := by omega
    have hi : M % 4611686018427387904 % 4 = 0 ∨ M % 4611686018427387904 % 4 = 1 ∨ M % 4611686018427387904 % 4 = 2 ∨ M % 4611686018427387904 % 4 = 3 := by omega
    rcases hw with hw | hw | hw | hw | hw | hw | hw
    · exact walk_0 x y wh M k l o s d0 d1 d2 d3 ch p w hx hy hr hw
    · exact walk_1 x y wh M k l o s d0 d1 d2 d3 ch p w hx hy hr hw
    · exact walk_2 x y wh M k l o s d0 d1 d2 d3 ch p w hx hy hr hw
    · exact walk_3 x y wh M k l o s d0 d1 d2 d3 ch p w hx hy hr hw
    · rcases hi with hi | hi | hi | hi
      · exact walk_4_0 x y wh M k l o s d0 d1 d2 d3 ch p w hx hy hr hw hi
      · exact walk_4_1 x y wh M k l o s d0 d1 d2 d3 ch p w hx hy hr hw hi
      · exact walk_4_2 x y wh M k l o s d0 d1 d2 d3 ch p w hx hy hr hw hi
      · exact walk_4_3 x y wh M k l o s d0 d1 d2 d3 ch p w hx hy hr hw hi
    · exact walk_5 x y wh M k l o s d0 d1 d2 d3 ch p w hx hy hr hw
    · exact walk_6 x y wh M k l o s d0 d1 d2 d3 ch p w hx hy hr hw
end Go.Proofs.Ytmoddhfemejekaa.inodeRight
