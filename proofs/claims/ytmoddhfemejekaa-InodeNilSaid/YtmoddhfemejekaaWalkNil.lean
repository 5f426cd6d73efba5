/- InodeNil, walked. -/
import Derived.Test.YtmoddhfemejekaaInoN
namespace Go.Proofs.Ytmoddhfemejekaa.inodeNil
open Go.RowKit Go.Grommet

set_option maxRecDepth 100000 in
set_option maxHeartbeats 1000000 in
theorem walk_at (a b c n : Int) (k l o s d0 d1 d2 d3 ch p : Nat) (w : World) :
    Calls Try.prog 7 #[gv a b c, .int .i64 n, .agg #[.int .u64 (k : Int), .int .u64 (l : Int), .int .u64 (o : Int), .int .u64 (s : Int), .int .u64 (d0 : Int), .int .u64 (d1 : Int), .int .u64 (d2 : Int), .int .u64 (d3 : Int), .int .u64 (ch : Int), .int .u64 (p : Int)]] w (WorksIs w) := by
  have HG1 := Lib.hid (fun wx => Get_nil a b c n wx)
  have HP := Lib.hid (fun wx => Put_nil a b c n k l o s d0 d1 d2 d3 ch p wx)
  have HW := Lib.hid (fun wx => Wipe_nil a b c n wx)
  unfold gv nv at *
  go_enter Try.func7, Try.ntmps7
  go_wp2_with fail
  obtain ⟨G, HG⟩ : ∃ G, Hid (G = w.heap.size) := ⟨_, Lib.hid rfl⟩
  obtain ⟨X, HX⟩ : ∃ X, Hid (X = w.heap.size + 1) := ⟨_, Lib.hid rfl⟩
  have hG0 : GeoS G a b c ((w.alloc (.cells #[.int .i64 a, .int .i64 b, .int .i64 c] 23)).alloc (.cells #[.int .u64 (k : Int), .int .u64 (l : Int), .int .u64 (o : Int), .int .u64 (s : Int), .int .u64 (d0 : Int), .int .u64 (d1 : Int), .int .u64 (d2 : Int), .int .u64 (d3 : Int), .int .u64 (ch : Int), .int .u64 (p : Int)] 38)) := by rw [HG.out]; exact ((World.grownBy_alloc _ _ none).block _ (by simp) (by simp)).trans (heap_alloc_new w _)
  have hN0 : NodeS X k l o s d0 d1 d2 d3 ch p ((w.alloc (.cells #[.int .i64 a, .int .i64 b, .int .i64 c] 23)).alloc (.cells #[.int .u64 (k : Int), .int .u64 (l : Int), .int .u64 (o : Int), .int .u64 (s : Int), .int .u64 (d0 : Int), .int .u64 (d1 : Int), .int .u64 (d2 : Int), .int .u64 (d3 : Int), .int .u64 (ch : Int), .int .u64 (p : Int)] 38)) := by rw [HX.out]; exact heap_alloc_new2 w _ _
  rw [← HX.out, ← HG.out]
  refine (HG1.out _).mono ?_
  rintro e w1 ⟨rfl, hg1⟩
  have hA := World.grownBy_alloc w1 (.cells #[.int .u64 0, .int .u64 0, .int .u64 0, .int .u64 0, .int .u64 0, .int .u64 0, .int .u64 0, .int .u64 0, .int .u64 0, .int .u64 0] 38) none
  have hg := grown_trans (grown_trans (grown_alloc2 w _ _) hg1) hA
  have hG1 := (hG0.keep hg1).keep hA
  have hN1 := (hN0.keep hg1).keep hA
  have hgw := Lib.hid hg
  have heq : ∀ wx : World, (binOp .eql 38 (.agg #[.int .u64 0, .int .u64 0, .int .u64 0, .int .u64 0, .int .u64 0, .int .u64 0, .int .u64 0, .int .u64 0, .int .u64 0, .int .u64 0]) (.agg #[.int .u64 0, .int .u64 0, .int .u64 0, .int .u64 0, .int .u64 0, .int .u64 0, .int .u64 0, .int .u64 0, .int .u64 0, .int .u64 0])).run Try.prog wx = .ok (.bool true) wx := fun _ => by kernel_rfl
  obtain ⟨y0, y1, y2⟩ := hG1.cells
  obtain ⟨z0, z1, z2, z3, z4, z5, z6, z7, z8, z9⟩ := hN1.cells
  replace hG1 := Lib.hid hG1
  replace hN1 := Lib.hid hN1
  clear hG0 hN0 hg1 hA hg
  go_wp2_with fail
  refine (HP.out _).mono ?_
  rintro e w2 ⟨rfl, hg⟩
  have hG2 := hG1.out.keep hg
  have hgw := Lib.hid (grown_trans hgw.out hg)
  clear y0 y1 y2 z0 z1 z2 z3 z4 z5 z6 z7 z8 z9 hg
  obtain ⟨y0, y1, y2⟩ := hG2.cells
  replace hG2 := Lib.hid hG2
  go_wp2_with fail
  refine (HW.out _).mono ?_
  rintro e w3 ⟨rfl, hg⟩
  have hgw := Lib.hid (grown_trans hgw.out hg)
  clear y0 y1 y2 hg
  go_wp2_with fail
  refine (works_any _).mono ?_
  rintro e w9 ⟨rfl, hg⟩
  go_wp2
  go_ret
  exact ⟨rfl, grown_trans hgw.out hg⟩

theorem walk (a b c n : Int) (z0 z1 z2 z3 z4 z5 z6 z7 z8 z9 : Int) (w : World) (_ : (Lit.int .i64 a).wf = true) (_ : (Lit.int .i64 b).wf = true) (_ : (Lit.int .i64 c).wf = true) (_ : (Lit.int .i64 n).wf = true) (k0 : (Lit.int .u64 z0).wf = true) (k1 : (Lit.int .u64 z1).wf = true) (k2 : (Lit.int .u64 z2).wf = true) (k3 : (Lit.int .u64 z3).wf = true) (k4 : (Lit.int .u64 z4).wf = true) (k5 : (Lit.int .u64 z5).wf = true) (k6 : (Lit.int .u64 z6).wf = true) (k7 : (Lit.int .u64 z7).wf = true) (k8 : (Lit.int .u64 z8).wf = true) (k9 : (Lit.int .u64 z9).wf = true) :
    Calls Try.prog 7 #[.agg #[.int .i64 a, .int .i64 b, .int .i64 c], .int .i64 n, .agg #[.int .u64 z0, .int .u64 z1, .int .u64 z2, .int .u64 z3, .int .u64 z4, .int .u64 z5, .int .u64 z6, .int .u64 z7, .int .u64 z8, .int .u64 z9]] w (WorksIs w) := by
  obtain ⟨k, rfl⟩ := Int.eq_ofNat_of_zero_le (bounds_u64 k0).1
  obtain ⟨l, rfl⟩ := Int.eq_ofNat_of_zero_le (bounds_u64 k1).1
  obtain ⟨o, rfl⟩ := Int.eq_ofNat_of_zero_le (bounds_u64 k2).1
  obtain ⟨s, rfl⟩ := Int.eq_ofNat_of_zero_le (bounds_u64 k3).1
  obtain ⟨d0, rfl⟩ := Int.eq_ofNat_of_zero_le (bounds_u64 k4).1
  obtain ⟨d1, rfl⟩ := Int.eq_ofNat_of_zero_le (bounds_u64 k5).1
  obtain ⟨d2, rfl⟩ := Int.eq_ofNat_of_zero_le (bounds_u64 k6).1
  obtain ⟨d3, rfl⟩ := Int.eq_ofNat_of_zero_le (bounds_u64 k7).1
  obtain ⟨ch, rfl⟩ := Int.eq_ofNat_of_zero_le (bounds_u64 k8).1
  obtain ⟨p, rfl⟩ := Int.eq_ofNat_of_zero_le (bounds_u64 k9).1
  exact walk_at a b c n k l o s d0 d1 d2 d3 ch p w
end Go.Proofs.Ytmoddhfemejekaa.inodeNil
