/- Package inode: Get, Wipe. -/
import Derived.Test.YtmoddhfemejekaaInoG
namespace Go.Proofs.Ytmoddhfemejekaa
open Go.RowKit Go.Grommet

set_option maxRecDepth 100000 in
set_option maxHeartbeats 4000000 in
theorem GetYes (k g : Nat) (xs : List Nat) (L : List (Nat × Nat)) (a b c n at_ : Int) (f0 f1 f2 f3 f4 f5 f6 f7 f8 f9 : Nat) (w0 w : World) (Ps : List Pr) (h : Own w0 w Ps) (hk : Ps[k]? = some (viewP g xs L)) (hn : 1 ≤ n) (hat : inodeV a b c n = at_) (ha : 0 ≤ at_ ∧ at_ + 10 ≤ (xs.length : Int)) (hxl : xs.length ≤ 1000000)
    (hwd : wordsV a b c ≤ (xs.length : Int)) (hf : ∀ i, i < 10 → gotI xs L (at_ + ((i : Nat) : Int)) = [f0, f1, f2, f3, f4, f5, f6, f7, f8, f9].getD i 0) (hr : rightB a b c f0 f1 f2 f3 f4 f5 f6 f7 f8 f9 = true) :
    Calls Try.prog 15 #[.pointer (some ⟨g, 0, none⟩), gv a b c, .int .i64 n] w fun e w' => e = .returned (.tuple #[.agg #[.int .u64 (f0 : Int), .int .u64 (f1 : Int), .int .u64 (f2 : Int), .int .u64 (f3 : Int), .int .u64 (f4 : Int), .int .u64 (f5 : Int), .int .u64 (f6 : Int), .int .u64 (f7 : Int), .int .u64 (f8 : Int), .int .u64 (f9 : Int)], .int .i64 0]) ∧ Own w0 w' Ps := by
  have hkl := (List.getElem?_eq_some_iff.1 hk).1
  obtain ⟨G, HG⟩ : ∃ G, Hid (G = w.heap.size) := ⟨_, Lib.hid rfl⟩
  obtain ⟨M, HM⟩ : ∃ M, Hid (M = w.heap.size + 1) := ⟨_, Lib.hid rfl⟩
  have hO : Own w0 ((w.alloc (.cells #[.int .i64 a, .int .i64 b, .int .i64 c] 23)).alloc (.cells #[.int .u64 0, .int .u64 0, .int .u64 0, .int .u64 0, .int .u64 0, .int .u64 0, .int .u64 0, .int .u64 0, .int .u64 0, .int .u64 0] 38)) (Ps ++ [boxP G 23 #[.int .i64 a, .int .i64 b, .int .i64 c], boxP M 38 #[.int .u64 0, .int .u64 0, .int .u64 0, .int .u64 0, .int .u64 0, .int .u64 0, .int .u64 0, .int .u64 0, .int .u64 0, .int .u64 0]]) := by
    have h := (h.addBox 23 #[.int .i64 a, .int .i64 b, .int .i64 c]).addBox 38 #[.int .u64 0, .int .u64 0, .int .u64 0, .int .u64 0, .int .u64 0, .int .u64 0, .int .u64 0, .int .u64 0, .int .u64 0, .int .u64 0]
    rw [World.size_alloc, ← HM.out, ← HG.out, List.append_assoc] at h
    exact h
  have Hk := Lib.hid (show ∀ Rs, (Ps ++ Rs)[k]? = some (viewP g xs L) from fun Rs => by rw [List.getElem?_append_left hkl]; exact hk)
  have Hgeo := Lib.hid (fun wx Rs (hO : Own w0 wx (Ps ++ (boxP G 23 #[.int .i64 a, .int .i64 b, .int .i64 c] :: Rs))) => show GeoS G a b c wx from Own.box hO Ps.length (by rw [List.getElem?_append_right (Nat.le_refl _), Nat.sub_self]; rfl))
  have HR := Lib.hid (fun wx => Right_any a b c f0 f1 f2 f3 f4 f5 f6 f7 f8 f9 wx)
  rw [hr] at HR
  have HI := Lib.hid (fun wx => InodeAt_any a b c n wx)
  rw [hat] at HI
  obtain ⟨f, hf'⟩ : ∃ f : Nat → Nat, ∀ i : Nat, gotI xs L (at_ + (i : Int)) = f i := ⟨fun i => gotI xs L (at_ + (i : Int)), fun _ => rfl⟩
  have Hhas := Lib.hid (fun wx (hO : Own w0 wx (Ps ++ [boxP G 23 #[.int .i64 a, .int .i64 b, .int .i64 c], boxP M 38 #[.int .u64 0, .int .u64 0, .int .u64 0, .int .u64 0, .int .u64 0, .int .u64 0, .int .u64 0, .int .u64 0, .int .u64 0, .int .u64 0]])) => hasH k g xs L a b c n true 0 w0 wx _ hO (Hk.out _) (by unfold hasE; rw [if_neg (by rw [hat]; rintro (h | h | h); omega; omega; cases h), if_neg (by omega)]))
  have HSt := Lib.hid (fun wx (hO : Own w0 wx (Ps ++ [boxP G 23 #[.int .i64 a, .int .i64 b, .int .i64 c], boxP M 38 #[.int .u64 0, .int .u64 0, .int .u64 0, .int .u64 0, .int .u64 0, .int .u64 0, .int .u64 0, .int .u64 0, .int .u64 0, .int .u64 0]])) => StandsH k g xs L at_ f w0 wx _ hO (Hk.out _) ⟨ha.1, by omega⟩ hf')
  rw [show f 0 = f0 from (hf' 0).symm.trans (hf 0 (by decide)), show f 1 = f1 from (hf' 1).symm.trans (hf 1 (by decide)), show f 2 = f2 from (hf' 2).symm.trans (hf 2 (by decide)), show f 3 = f3 from (hf' 3).symm.trans (hf 3 (by decide)), show f 4 = f4 from (hf' 4).symm.trans (hf 4 (by decide)), show f 5 = f5 from (hf' 5).symm.trans (hf 5 (by decide)), show f 6 = f6 from (hf' 6).symm.trans (hf 6 (by decide)), show f 7 = f7 from (hf' 7).symm.trans (hf 7 (by decide)), show f 8 = f8 from (hf' 8).symm.trans (hf 8 (by decide)), show f 9 = f9 from (hf' 9).symm.trans (hf 9 (by decide))] at HSt
  replace hO := Lib.hid hO
  obtain ⟨y0, y1, y2⟩ := (Hgeo.out _ _ hO.out).cells
  unfold nv gv at *
  clear h hk hkl ha hxl hwd hr hf hf' hat hn
  go_enter Try.func15, Try.ntmps15
  go_wp2_with fail
  rw [← HM.out, ← HG.out]
  refine (Hhas.out _ hO.out).mono ?_
  rintro e w1 ⟨rfl, hO1⟩
  clear y0 y1 y2 Hhas hO
  obtain ⟨y0, y1, y2⟩ := (Hgeo.out _ _ hO1).cells
  replace hO1 := Lib.hid hO1
  go_wp2_with fail
  refine (HI.out _).mono ?_
  rintro e w2 ⟨rfl, hg⟩
  have hO2 := Lib.hid (hO1.out.quiet hg)
  clear y0 y1 y2 HI hg hO1
  go_wp2_with fail
  refine (HSt.out _ hO2.out).mono ?_
  rintro e w3 ⟨rfl, hO3⟩
  obtain ⟨Y, HY⟩ : ∃ Y, Hid (Y = w3.heap.size) := ⟨_, Lib.hid rfl⟩
  have hO3 : Own w0 (w3.alloc (.cells #[.int .u64 (f0 : Int), .int .u64 (f1 : Int), .int .u64 (f2 : Int), .int .u64 (f3 : Int), .int .u64 (f4 : Int), .int .u64 (f5 : Int), .int .u64 (f6 : Int), .int .u64 (f7 : Int), .int .u64 (f8 : Int), .int .u64 (f9 : Int)] 38)) (Ps ++ [boxP G 23 #[.int .i64 a, .int .i64 b, .int .i64 c], boxP M 38 #[.int .u64 0, .int .u64 0, .int .u64 0, .int .u64 0, .int .u64 0, .int .u64 0, .int .u64 0, .int .u64 0, .int .u64 0, .int .u64 0], boxP Y 38 #[.int .u64 (f0 : Int), .int .u64 (f1 : Int), .int .u64 (f2 : Int), .int .u64 (f3 : Int), .int .u64 (f4 : Int), .int .u64 (f5 : Int), .int .u64 (f6 : Int), .int .u64 (f7 : Int), .int .u64 (f8 : Int), .int .u64 (f9 : Int)]]) := by
    have h := hO3.addBox 38 #[.int .u64 (f0 : Int), .int .u64 (f1 : Int), .int .u64 (f2 : Int), .int .u64 (f3 : Int), .int .u64 (f4 : Int), .int .u64 (f5 : Int), .int .u64 (f6 : Int), .int .u64 (f7 : Int), .int .u64 (f8 : Int), .int .u64 (f9 : Int)]
    rw [← HY.out, List.append_assoc] at h
    exact h
  clear HSt hO2
  obtain ⟨y0, y1, y2⟩ := (Hgeo.out _ _ hO3).cells
  obtain ⟨z0, z1, z2, z3, z4, z5, z6, z7, z8, z9⟩ := NodeS.cells (show NodeS Y f0 f1 f2 f3 f4 f5 f6 f7 f8 f9 _ from Own.box hO3 (Ps.length + 2) (by rw [List.getElem?_append_right (by omega), show Ps.length + 2 - Ps.length = 2 from by omega]; rfl))
  replace hO3 := Lib.hid hO3
  go_wp2_with fail
  rw [← HY.out]
  refine (HR.out _).mono ?_
  rintro e w4 ⟨rfl, hg⟩
  have hO4 := hO3.out.quiet hg
  clear y0 y1 y2 z0 z1 z2 z3 z4 z5 z6 z7 z8 z9 HR hg hO3
  have hz : w4.heap[M]? = some (.cells #[.int .u64 0, .int .u64 0, .int .u64 0, .int .u64 0, .int .u64 0, .int .u64 0, .int .u64 0, .int .u64 0, .int .u64 0, .int .u64 0] 38 (0, 0)) := Own.box hO4 (Ps.length + 1) (by rw [List.getElem?_append_right (by omega), show Ps.length + 1 - Ps.length = 1 from by omega]; rfl)
  obtain ⟨z0, z1, z2, z3, z4, z5, z6, z7, z8, z9⟩ := NodeS.cells (show NodeS Y f0 f1 f2 f3 f4 f5 f6 f7 f8 f9 _ from Own.box hO4 (Ps.length + 2) (by rw [List.getElem?_append_right (by omega), show Ps.length + 2 - Ps.length = 2 from by omega]; rfl))
  have hq : ∀ w5 : World, w4.grownBy w5 (some M) → Own w0 w5 Ps := fun w5 hg => by
    have h : Own w0 w4 ((Ps ++ [boxP G 23 #[.int .i64 a, .int .i64 b, .int .i64 c]]) ++ boxP M 38 #[.int .u64 0, .int .u64 0, .int .u64 0, .int .u64 0, .int .u64 0, .int .u64 0, .int .u64 0, .int .u64 0, .int .u64 0, .int .u64 0] :: [boxP Y 38 #[.int .u64 (f0 : Int), .int .u64 (f1 : Int), .int .u64 (f2 : Int), .int .u64 (f3 : Int), .int .u64 (f4 : Int), .int .u64 (f5 : Int), .int .u64 (f6 : Int), .int .u64 (f7 : Int), .int .u64 (f8 : Int), .int .u64 (f9 : Int)]]) := by rw [List.append_assoc]; exact hO4
    exact (h.forget hg).less
  have Hq := Lib.hid hq
  clear hq hO4
  have m0 : w4.cell? ⟨M, 0, none⟩ = some (.int .u64 0) := by simp [World.cell?, hz]
  have m1 : w4.cell? ⟨M, 1, none⟩ = some (.int .u64 0) := by simp [World.cell?, hz]
  have m2 : w4.cell? ⟨M, 2, none⟩ = some (.int .u64 0) := by simp [World.cell?, hz]
  have m3 : w4.cell? ⟨M, 3, none⟩ = some (.int .u64 0) := by simp [World.cell?, hz]
  have m4 : w4.cell? ⟨M, 4, none⟩ = some (.int .u64 0) := by simp [World.cell?, hz]
  have m5 : w4.cell? ⟨M, 5, none⟩ = some (.int .u64 0) := by simp [World.cell?, hz]
  have m6 : w4.cell? ⟨M, 6, none⟩ = some (.int .u64 0) := by simp [World.cell?, hz]
  have m7 : w4.cell? ⟨M, 7, none⟩ = some (.int .u64 0) := by simp [World.cell?, hz]
  have m8 : w4.cell? ⟨M, 8, none⟩ = some (.int .u64 0) := by simp [World.cell?, hz]
  have m9 : w4.cell? ⟨M, 9, none⟩ = some (.int .u64 0) := by simp [World.cell?, hz]
  have q0 : w4.frozen? ⟨M, 0, none⟩ = false := by simp [World.frozen?, hz]
  have q1 : w4.frozen? ⟨M, 1, none⟩ = false := by simp [World.frozen?, hz]
  have q2 : w4.frozen? ⟨M, 2, none⟩ = false := by simp [World.frozen?, hz]
  have q3 : w4.frozen? ⟨M, 3, none⟩ = false := by simp [World.frozen?, hz]
  have q4 : w4.frozen? ⟨M, 4, none⟩ = false := by simp [World.frozen?, hz]
  have q5 : w4.frozen? ⟨M, 5, none⟩ = false := by simp [World.frozen?, hz]
  have q6 : w4.frozen? ⟨M, 6, none⟩ = false := by simp [World.frozen?, hz]
  have q7 : w4.frozen? ⟨M, 7, none⟩ = false := by simp [World.frozen?, hz]
  have q8 : w4.frozen? ⟨M, 8, none⟩ = false := by simp [World.frozen?, hz]
  have q9 : w4.frozen? ⟨M, 9, none⟩ = false := by simp [World.frozen?, hz]
  have hz1 := heap_setCell_at (o := 0) hz (.int .u64 (f0 : Int))
  have hz2 := heap_setCell_at (o := 1) hz1 (.int .u64 (f1 : Int))
  have hz3 := heap_setCell_at (o := 2) hz2 (.int .u64 (f2 : Int))
  have hz4 := heap_setCell_at (o := 3) hz3 (.int .u64 (f3 : Int))
  have hz5 := heap_setCell_at (o := 4) hz4 (.int .u64 (f4 : Int))
  have hz6 := heap_setCell_at (o := 5) hz5 (.int .u64 (f5 : Int))
  have hz7 := heap_setCell_at (o := 6) hz6 (.int .u64 (f6 : Int))
  have hz8 := heap_setCell_at (o := 7) hz7 (.int .u64 (f7 : Int))
  have hz9 := heap_setCell_at (o := 8) hz8 (.int .u64 (f8 : Int))
  have hz10 := heap_setCell_at (o := 9) hz9 (.int .u64 (f9 : Int))
  have g1 : w4.grownBy ((((((((((w4.setCell ⟨M, 0, none⟩ (.int .u64 (f0 : Int))).setCell ⟨M, 1, none⟩ (.int .u64 (f1 : Int))).setCell ⟨M, 2, none⟩ (.int .u64 (f2 : Int))).setCell ⟨M, 3, none⟩ (.int .u64 (f3 : Int))).setCell ⟨M, 4, none⟩ (.int .u64 (f4 : Int))).setCell ⟨M, 5, none⟩ (.int .u64 (f5 : Int))).setCell ⟨M, 6, none⟩ (.int .u64 (f6 : Int))).setCell ⟨M, 7, none⟩ (.int .u64 (f7 : Int))).setCell ⟨M, 8, none⟩ (.int .u64 (f8 : Int))).setCell ⟨M, 9, none⟩ (.int .u64 (f9 : Int))) (some M) := (grown_trans (grown_trans (grown_trans (grown_trans (grown_trans (grown_trans (grown_trans (grown_trans (grown_trans (grown_setCell _ ⟨M, 0, none⟩ (.int .u64 (f0 : Int))) (grown_setCell _ ⟨M, 1, none⟩ (.int .u64 (f1 : Int)))) (grown_setCell _ ⟨M, 2, none⟩ (.int .u64 (f2 : Int)))) (grown_setCell _ ⟨M, 3, none⟩ (.int .u64 (f3 : Int)))) (grown_setCell _ ⟨M, 4, none⟩ (.int .u64 (f4 : Int)))) (grown_setCell _ ⟨M, 5, none⟩ (.int .u64 (f5 : Int)))) (grown_setCell _ ⟨M, 6, none⟩ (.int .u64 (f6 : Int)))) (grown_setCell _ ⟨M, 7, none⟩ (.int .u64 (f7 : Int)))) (grown_setCell _ ⟨M, 8, none⟩ (.int .u64 (f8 : Int)))) (grown_setCell _ ⟨M, 9, none⟩ (.int .u64 (f9 : Int))))
  obtain ⟨W3, hW3⟩ : ∃ W3, W3 = ((((((((((w4.setCell ⟨M, 0, none⟩ (.int .u64 (f0 : Int))).setCell ⟨M, 1, none⟩ (.int .u64 (f1 : Int))).setCell ⟨M, 2, none⟩ (.int .u64 (f2 : Int))).setCell ⟨M, 3, none⟩ (.int .u64 (f3 : Int))).setCell ⟨M, 4, none⟩ (.int .u64 (f4 : Int))).setCell ⟨M, 5, none⟩ (.int .u64 (f5 : Int))).setCell ⟨M, 6, none⟩ (.int .u64 (f6 : Int))).setCell ⟨M, 7, none⟩ (.int .u64 (f7 : Int))).setCell ⟨M, 8, none⟩ (.int .u64 (f8 : Int))).setCell ⟨M, 9, none⟩ (.int .u64 (f9 : Int))) := ⟨_, rfl⟩
  clear hz1 hz2 hz3 hz4 hz5 hz6 hz7 hz8 hz9
  go_wp2
  rw [← hW3] at hz10 g1 ⊢
  have Z0 : W3.cell? ⟨M, 0, none⟩ = some (.int .u64 (f0 : Int)) := by simp [World.cell?, hz10]
  have Z1 : W3.cell? ⟨M, 1, none⟩ = some (.int .u64 (f1 : Int)) := by simp [World.cell?, hz10]
  have Z2 : W3.cell? ⟨M, 2, none⟩ = some (.int .u64 (f2 : Int)) := by simp [World.cell?, hz10]
  have Z3 : W3.cell? ⟨M, 3, none⟩ = some (.int .u64 (f3 : Int)) := by simp [World.cell?, hz10]
  have Z4 : W3.cell? ⟨M, 4, none⟩ = some (.int .u64 (f4 : Int)) := by simp [World.cell?, hz10]
  have Z5 : W3.cell? ⟨M, 5, none⟩ = some (.int .u64 (f5 : Int)) := by simp [World.cell?, hz10]
  have Z6 : W3.cell? ⟨M, 6, none⟩ = some (.int .u64 (f6 : Int)) := by simp [World.cell?, hz10]
  have Z7 : W3.cell? ⟨M, 7, none⟩ = some (.int .u64 (f7 : Int)) := by simp [World.cell?, hz10]
  have Z8 : W3.cell? ⟨M, 8, none⟩ = some (.int .u64 (f8 : Int)) := by simp [World.cell?, hz10]
  have Z9 : W3.cell? ⟨M, 9, none⟩ = some (.int .u64 (f9 : Int)) := by simp [World.cell?, hz10]
  exact bodyPost_ret (v := .tuple #[.agg #[.int .u64 (f0 : Int), .int .u64 (f1 : Int), .int .u64 (f2 : Int), .int .u64 (f3 : Int), .int .u64 (f4 : Int), .int .u64 (f5 : Int), .int .u64 (f6 : Int), .int .u64 (f7 : Int), .int .u64 (f8 : Int), .int .u64 (f9 : Int)], .int .i64 0]) (by simp [results, Try.results15, go_sem, Z0, Z1, Z2, Z3, Z4, Z5, Z6, Z7, Z8, Z9]) rfl ⟨rfl, Hq.out _ g1⟩

set_option maxRecDepth 100000 in
set_option maxHeartbeats 4000000 in
theorem GetNo (k g : Nat) (xs : List Nat) (L : List (Nat × Nat)) (a b c n at_ : Int) (f0 f1 f2 f3 f4 f5 f6 f7 f8 f9 : Nat) (w0 w : World) (Ps : List Pr) (h : Own w0 w Ps) (hk : Ps[k]? = some (viewP g xs L)) (hn : 1 ≤ n) (hat : inodeV a b c n = at_) (ha : 0 ≤ at_ ∧ at_ + 10 ≤ (xs.length : Int)) (hxl : xs.length ≤ 1000000)
    (hwd : wordsV a b c ≤ (xs.length : Int)) (hf : ∀ i, i < 10 → gotI xs L (at_ + ((i : Nat) : Int)) = [f0, f1, f2, f3, f4, f5, f6, f7, f8, f9].getD i 0) (hr : rightB a b c f0 f1 f2 f3 f4 f5 f6 f7 f8 f9 = false) :
    Calls Try.prog 15 #[.pointer (some ⟨g, 0, none⟩), gv a b c, .int .i64 n] w fun e w' => e = .returned (.tuple #[.agg #[.int .u64 0, .int .u64 0, .int .u64 0, .int .u64 0, .int .u64 0, .int .u64 0, .int .u64 0, .int .u64 0, .int .u64 0, .int .u64 0], .int .i64 4]) ∧ Own w0 w' Ps := by
  have hkl := (List.getElem?_eq_some_iff.1 hk).1
  obtain ⟨G, HG⟩ : ∃ G, Hid (G = w.heap.size) := ⟨_, Lib.hid rfl⟩
  obtain ⟨M, HM⟩ : ∃ M, Hid (M = w.heap.size + 1) := ⟨_, Lib.hid rfl⟩
  have hO : Own w0 ((w.alloc (.cells #[.int .i64 a, .int .i64 b, .int .i64 c] 23)).alloc (.cells #[.int .u64 0, .int .u64 0, .int .u64 0, .int .u64 0, .int .u64 0, .int .u64 0, .int .u64 0, .int .u64 0, .int .u64 0, .int .u64 0] 38)) (Ps ++ [boxP G 23 #[.int .i64 a, .int .i64 b, .int .i64 c], boxP M 38 #[.int .u64 0, .int .u64 0, .int .u64 0, .int .u64 0, .int .u64 0, .int .u64 0, .int .u64 0, .int .u64 0, .int .u64 0, .int .u64 0]]) := by
    have h := (h.addBox 23 #[.int .i64 a, .int .i64 b, .int .i64 c]).addBox 38 #[.int .u64 0, .int .u64 0, .int .u64 0, .int .u64 0, .int .u64 0, .int .u64 0, .int .u64 0, .int .u64 0, .int .u64 0, .int .u64 0]
    rw [World.size_alloc, ← HM.out, ← HG.out, List.append_assoc] at h
    exact h
  have Hk := Lib.hid (show ∀ Rs, (Ps ++ Rs)[k]? = some (viewP g xs L) from fun Rs => by rw [List.getElem?_append_left hkl]; exact hk)
  have Hgeo := Lib.hid (fun wx Rs (hO : Own w0 wx (Ps ++ (boxP G 23 #[.int .i64 a, .int .i64 b, .int .i64 c] :: Rs))) => show GeoS G a b c wx from Own.box hO Ps.length (by rw [List.getElem?_append_right (Nat.le_refl _), Nat.sub_self]; rfl))
  have HR := Lib.hid (fun wx => Right_any a b c f0 f1 f2 f3 f4 f5 f6 f7 f8 f9 wx)
  rw [hr] at HR
  have HI := Lib.hid (fun wx => InodeAt_any a b c n wx)
  rw [hat] at HI
  obtain ⟨f, hf'⟩ : ∃ f : Nat → Nat, ∀ i : Nat, gotI xs L (at_ + (i : Int)) = f i := ⟨fun i => gotI xs L (at_ + (i : Int)), fun _ => rfl⟩
  have Hhas := Lib.hid (fun wx (hO : Own w0 wx (Ps ++ [boxP G 23 #[.int .i64 a, .int .i64 b, .int .i64 c], boxP M 38 #[.int .u64 0, .int .u64 0, .int .u64 0, .int .u64 0, .int .u64 0, .int .u64 0, .int .u64 0, .int .u64 0, .int .u64 0, .int .u64 0]])) => hasH k g xs L a b c n true 0 w0 wx _ hO (Hk.out _) (by unfold hasE; rw [if_neg (by rw [hat]; rintro (h | h | h); omega; omega; cases h), if_neg (by omega)]))
  have HSt := Lib.hid (fun wx (hO : Own w0 wx (Ps ++ [boxP G 23 #[.int .i64 a, .int .i64 b, .int .i64 c], boxP M 38 #[.int .u64 0, .int .u64 0, .int .u64 0, .int .u64 0, .int .u64 0, .int .u64 0, .int .u64 0, .int .u64 0, .int .u64 0, .int .u64 0]])) => StandsH k g xs L at_ f w0 wx _ hO (Hk.out _) ⟨ha.1, by omega⟩ hf')
  rw [show f 0 = f0 from (hf' 0).symm.trans (hf 0 (by decide)), show f 1 = f1 from (hf' 1).symm.trans (hf 1 (by decide)), show f 2 = f2 from (hf' 2).symm.trans (hf 2 (by decide)), show f 3 = f3 from (hf' 3).symm.trans (hf 3 (by decide)), show f 4 = f4 from (hf' 4).symm.trans (hf 4 (by decide)), show f 5 = f5 from (hf' 5).symm.trans (hf 5 (by decide)), show f 6 = f6 from (hf' 6).symm.trans (hf 6 (by decide)), show f 7 = f7 from (hf' 7).symm.trans (hf 7 (by decide)), show f 8 = f8 from (hf' 8).symm.trans (hf 8 (by decide)), show f 9 = f9 from (hf' 9).symm.trans (hf 9 (by decide))] at HSt
  replace hO := Lib.hid hO
  obtain ⟨y0, y1, y2⟩ := (Hgeo.out _ _ hO.out).cells
  unfold nv gv at *
  clear h hk hkl ha hxl hwd hr hf hf' hat hn
  go_enter Try.func15, Try.ntmps15
  go_wp2_with fail
  rw [← HM.out, ← HG.out]
  refine (Hhas.out _ hO.out).mono ?_
  rintro e w1 ⟨rfl, hO1⟩
  clear y0 y1 y2 Hhas hO
  obtain ⟨y0, y1, y2⟩ := (Hgeo.out _ _ hO1).cells
  replace hO1 := Lib.hid hO1
  go_wp2_with fail
  refine (HI.out _).mono ?_
  rintro e w2 ⟨rfl, hg⟩
  have hO2 := Lib.hid (hO1.out.quiet hg)
  clear y0 y1 y2 HI hg hO1
  go_wp2_with fail
  refine (HSt.out _ hO2.out).mono ?_
  rintro e w3 ⟨rfl, hO3⟩
  obtain ⟨Y, HY⟩ : ∃ Y, Hid (Y = w3.heap.size) := ⟨_, Lib.hid rfl⟩
  have hO3 : Own w0 (w3.alloc (.cells #[.int .u64 (f0 : Int), .int .u64 (f1 : Int), .int .u64 (f2 : Int), .int .u64 (f3 : Int), .int .u64 (f4 : Int), .int .u64 (f5 : Int), .int .u64 (f6 : Int), .int .u64 (f7 : Int), .int .u64 (f8 : Int), .int .u64 (f9 : Int)] 38)) (Ps ++ [boxP G 23 #[.int .i64 a, .int .i64 b, .int .i64 c], boxP M 38 #[.int .u64 0, .int .u64 0, .int .u64 0, .int .u64 0, .int .u64 0, .int .u64 0, .int .u64 0, .int .u64 0, .int .u64 0, .int .u64 0], boxP Y 38 #[.int .u64 (f0 : Int), .int .u64 (f1 : Int), .int .u64 (f2 : Int), .int .u64 (f3 : Int), .int .u64 (f4 : Int), .int .u64 (f5 : Int), .int .u64 (f6 : Int), .int .u64 (f7 : Int), .int .u64 (f8 : Int), .int .u64 (f9 : Int)]]) := by
    have h := hO3.addBox 38 #[.int .u64 (f0 : Int), .int .u64 (f1 : Int), .int .u64 (f2 : Int), .int .u64 (f3 : Int), .int .u64 (f4 : Int), .int .u64 (f5 : Int), .int .u64 (f6 : Int), .int .u64 (f7 : Int), .int .u64 (f8 : Int), .int .u64 (f9 : Int)]
    rw [← HY.out, List.append_assoc] at h
    exact h
  clear HSt hO2
  obtain ⟨y0, y1, y2⟩ := (Hgeo.out _ _ hO3).cells
  obtain ⟨z0, z1, z2, z3, z4, z5, z6, z7, z8, z9⟩ := NodeS.cells (show NodeS Y f0 f1 f2 f3 f4 f5 f6 f7 f8 f9 _ from Own.box hO3 (Ps.length + 2) (by rw [List.getElem?_append_right (by omega), show Ps.length + 2 - Ps.length = 2 from by omega]; rfl))
  replace hO3 := Lib.hid hO3
  go_wp2_with fail
  rw [← HY.out]
  refine (HR.out _).mono ?_
  rintro e w4 ⟨rfl, hg⟩
  have hO4 := hO3.out.quiet hg
  clear y0 y1 y2 z0 z1 z2 z3 z4 z5 z6 z7 z8 z9 HR hg hO3
  have hz : w4.heap[M]? = some (.cells #[.int .u64 0, .int .u64 0, .int .u64 0, .int .u64 0, .int .u64 0, .int .u64 0, .int .u64 0, .int .u64 0, .int .u64 0, .int .u64 0] 38 (0, 0)) := Own.box hO4 (Ps.length + 1) (by rw [List.getElem?_append_right (by omega), show Ps.length + 1 - Ps.length = 1 from by omega]; rfl)
  have hq : ∀ w5 : World, w4.grownBy w5 (some M) → Own w0 w5 Ps := fun w5 hg => by
    have h : Own w0 w4 ((Ps ++ [boxP G 23 #[.int .i64 a, .int .i64 b, .int .i64 c]]) ++ boxP M 38 #[.int .u64 0, .int .u64 0, .int .u64 0, .int .u64 0, .int .u64 0, .int .u64 0, .int .u64 0, .int .u64 0, .int .u64 0, .int .u64 0] :: [boxP Y 38 #[.int .u64 (f0 : Int), .int .u64 (f1 : Int), .int .u64 (f2 : Int), .int .u64 (f3 : Int), .int .u64 (f4 : Int), .int .u64 (f5 : Int), .int .u64 (f6 : Int), .int .u64 (f7 : Int), .int .u64 (f8 : Int), .int .u64 (f9 : Int)]]) := by rw [List.append_assoc]; exact hO4
    exact (h.forget hg).less
  have Hq := Lib.hid hq
  clear hq hO4
  have m0 : w4.cell? ⟨M, 0, none⟩ = some (.int .u64 0) := by simp [World.cell?, hz]
  have m1 : w4.cell? ⟨M, 1, none⟩ = some (.int .u64 0) := by simp [World.cell?, hz]
  have m2 : w4.cell? ⟨M, 2, none⟩ = some (.int .u64 0) := by simp [World.cell?, hz]
  have m3 : w4.cell? ⟨M, 3, none⟩ = some (.int .u64 0) := by simp [World.cell?, hz]
  have m4 : w4.cell? ⟨M, 4, none⟩ = some (.int .u64 0) := by simp [World.cell?, hz]
  have m5 : w4.cell? ⟨M, 5, none⟩ = some (.int .u64 0) := by simp [World.cell?, hz]
  have m6 : w4.cell? ⟨M, 6, none⟩ = some (.int .u64 0) := by simp [World.cell?, hz]
  have m7 : w4.cell? ⟨M, 7, none⟩ = some (.int .u64 0) := by simp [World.cell?, hz]
  have m8 : w4.cell? ⟨M, 8, none⟩ = some (.int .u64 0) := by simp [World.cell?, hz]
  have m9 : w4.cell? ⟨M, 9, none⟩ = some (.int .u64 0) := by simp [World.cell?, hz]
  have q0 : w4.frozen? ⟨M, 0, none⟩ = false := by simp [World.frozen?, hz]
  have q1 : w4.frozen? ⟨M, 1, none⟩ = false := by simp [World.frozen?, hz]
  have q2 : w4.frozen? ⟨M, 2, none⟩ = false := by simp [World.frozen?, hz]
  have q3 : w4.frozen? ⟨M, 3, none⟩ = false := by simp [World.frozen?, hz]
  have q4 : w4.frozen? ⟨M, 4, none⟩ = false := by simp [World.frozen?, hz]
  have q5 : w4.frozen? ⟨M, 5, none⟩ = false := by simp [World.frozen?, hz]
  have q6 : w4.frozen? ⟨M, 6, none⟩ = false := by simp [World.frozen?, hz]
  have q7 : w4.frozen? ⟨M, 7, none⟩ = false := by simp [World.frozen?, hz]
  have q8 : w4.frozen? ⟨M, 8, none⟩ = false := by simp [World.frozen?, hz]
  have q9 : w4.frozen? ⟨M, 9, none⟩ = false := by simp [World.frozen?, hz]
  have hz1 := heap_setCell_at (o := 0) hz (.int .u64 0)
  have hz2 := heap_setCell_at (o := 1) hz1 (.int .u64 0)
  have hz3 := heap_setCell_at (o := 2) hz2 (.int .u64 0)
  have hz4 := heap_setCell_at (o := 3) hz3 (.int .u64 0)
  have hz5 := heap_setCell_at (o := 4) hz4 (.int .u64 0)
  have hz6 := heap_setCell_at (o := 5) hz5 (.int .u64 0)
  have hz7 := heap_setCell_at (o := 6) hz6 (.int .u64 0)
  have hz8 := heap_setCell_at (o := 7) hz7 (.int .u64 0)
  have hz9 := heap_setCell_at (o := 8) hz8 (.int .u64 0)
  have hz10 := heap_setCell_at (o := 9) hz9 (.int .u64 0)
  have g1 : w4.grownBy ((((((((((w4.setCell ⟨M, 0, none⟩ (.int .u64 0)).setCell ⟨M, 1, none⟩ (.int .u64 0)).setCell ⟨M, 2, none⟩ (.int .u64 0)).setCell ⟨M, 3, none⟩ (.int .u64 0)).setCell ⟨M, 4, none⟩ (.int .u64 0)).setCell ⟨M, 5, none⟩ (.int .u64 0)).setCell ⟨M, 6, none⟩ (.int .u64 0)).setCell ⟨M, 7, none⟩ (.int .u64 0)).setCell ⟨M, 8, none⟩ (.int .u64 0)).setCell ⟨M, 9, none⟩ (.int .u64 0)) (some M) := (grown_trans (grown_trans (grown_trans (grown_trans (grown_trans (grown_trans (grown_trans (grown_trans (grown_trans (grown_setCell _ ⟨M, 0, none⟩ (.int .u64 0)) (grown_setCell _ ⟨M, 1, none⟩ (.int .u64 0))) (grown_setCell _ ⟨M, 2, none⟩ (.int .u64 0))) (grown_setCell _ ⟨M, 3, none⟩ (.int .u64 0))) (grown_setCell _ ⟨M, 4, none⟩ (.int .u64 0))) (grown_setCell _ ⟨M, 5, none⟩ (.int .u64 0))) (grown_setCell _ ⟨M, 6, none⟩ (.int .u64 0))) (grown_setCell _ ⟨M, 7, none⟩ (.int .u64 0))) (grown_setCell _ ⟨M, 8, none⟩ (.int .u64 0))) (grown_setCell _ ⟨M, 9, none⟩ (.int .u64 0)))
  obtain ⟨W3, hW3⟩ : ∃ W3, W3 = ((((((((((w4.setCell ⟨M, 0, none⟩ (.int .u64 0)).setCell ⟨M, 1, none⟩ (.int .u64 0)).setCell ⟨M, 2, none⟩ (.int .u64 0)).setCell ⟨M, 3, none⟩ (.int .u64 0)).setCell ⟨M, 4, none⟩ (.int .u64 0)).setCell ⟨M, 5, none⟩ (.int .u64 0)).setCell ⟨M, 6, none⟩ (.int .u64 0)).setCell ⟨M, 7, none⟩ (.int .u64 0)).setCell ⟨M, 8, none⟩ (.int .u64 0)).setCell ⟨M, 9, none⟩ (.int .u64 0)) := ⟨_, rfl⟩
  clear hz1 hz2 hz3 hz4 hz5 hz6 hz7 hz8 hz9
  go_wp2
  rw [← hW3] at hz10 g1 ⊢
  have Z0 : W3.cell? ⟨M, 0, none⟩ = some (.int .u64 0) := by simp [World.cell?, hz10]
  have Z1 : W3.cell? ⟨M, 1, none⟩ = some (.int .u64 0) := by simp [World.cell?, hz10]
  have Z2 : W3.cell? ⟨M, 2, none⟩ = some (.int .u64 0) := by simp [World.cell?, hz10]
  have Z3 : W3.cell? ⟨M, 3, none⟩ = some (.int .u64 0) := by simp [World.cell?, hz10]
  have Z4 : W3.cell? ⟨M, 4, none⟩ = some (.int .u64 0) := by simp [World.cell?, hz10]
  have Z5 : W3.cell? ⟨M, 5, none⟩ = some (.int .u64 0) := by simp [World.cell?, hz10]
  have Z6 : W3.cell? ⟨M, 6, none⟩ = some (.int .u64 0) := by simp [World.cell?, hz10]
  have Z7 : W3.cell? ⟨M, 7, none⟩ = some (.int .u64 0) := by simp [World.cell?, hz10]
  have Z8 : W3.cell? ⟨M, 8, none⟩ = some (.int .u64 0) := by simp [World.cell?, hz10]
  have Z9 : W3.cell? ⟨M, 9, none⟩ = some (.int .u64 0) := by simp [World.cell?, hz10]
  exact bodyPost_ret (v := .tuple #[.agg #[.int .u64 0, .int .u64 0, .int .u64 0, .int .u64 0, .int .u64 0, .int .u64 0, .int .u64 0, .int .u64 0, .int .u64 0, .int .u64 0], .int .i64 4]) (by simp [results, Try.results15, go_sem, Z0, Z1, Z2, Z3, Z4, Z5, Z6, Z7, Z8, Z9]) rfl ⟨rfl, Hq.out _ g1⟩

set_option maxRecDepth 100000 in
set_option maxHeartbeats 2000000 in
theorem WipeH12 (k g : Nat) (xs : List Nat) (L : List (Nat × Nat)) (a b c n at_ : Int) (en : Int) (w0 w : World) (Ps Qs : List Pr) (h : Own w0 w Ps) (hk : Ps[k]? = some (viewP g xs L)) (hn : 1 ≤ n) (hat : inodeV a b c n = at_) (ha : 0 ≤ at_ ∧ at_ + 10 ≤ (xs.length : Int)) (hxl : xs.length ≤ 1000000)
    (hwd : wordsV a b c ≤ (xs.length : Int)) (he : (allE xs L (rowS at_ [0, 0, 0, 0, 0, 0, 0, 0, 0, 0]) : Int) = en) (hQ : Ps.set k (viewP g xs (allL xs L (rowS at_ [0, 0, 0, 0, 0, 0, 0, 0, 0, 0]))) = Qs) :
    Calls Try.prog 19 #[.pointer (some ⟨g, 0, none⟩), gv a b c, .int .i64 n] w fun e w' => e = .returned (.int .i64 en) ∧ Own w0 w' Qs := by
  have hkl := (List.getElem?_eq_some_iff.1 hk).1
  obtain ⟨G, HG⟩ : ∃ G, Hid (G = w.heap.size) := ⟨_, Lib.hid rfl⟩
  have hO : Own w0 (w.alloc (.cells #[.int .i64 a, .int .i64 b, .int .i64 c] 23)) (Ps ++ [boxP G 23 #[.int .i64 a, .int .i64 b, .int .i64 c]]) := by rw [HG.out]; exact h.addBox _ _
  have Hk := Lib.hid (show ∀ Rs, (Ps ++ Rs)[k]? = some (viewP g xs L) from fun Rs => by rw [List.getElem?_append_left hkl]; exact hk)
  have Hgeo := Lib.hid (fun wx (hO : Own w0 wx (Ps ++ [boxP G 23 #[.int .i64 a, .int .i64 b, .int .i64 c]])) => show GeoS G a b c wx from Own.box hO Ps.length (by rw [List.getElem?_append_right (Nat.le_refl _), Nat.sub_self]; rfl))
  have HI := Lib.hid (fun wx => InodeAt_any a b c n wx)
  rw [hat] at HI
  have Hhas := Lib.hid (fun wx (hO : Own w0 wx (Ps ++ [boxP G 23 #[.int .i64 a, .int .i64 b, .int .i64 c]])) => hasH k g xs L a b c n true 0 w0 wx _ hO (Hk.out _) (by unfold hasE; rw [if_neg (by rw [hat]; rintro (h | h | h); omega; omega; cases h), if_neg (by omega)]))
  have Hput := Lib.hid (fun wx (hO : Own w0 wx (Ps ++ [boxP G 23 #[.int .i64 a, .int .i64 b, .int .i64 c]])) => putH k g xs L at_ 0 0 0 0 0 0 0 0 0 0 en w0 wx _ (Qs ++ [boxP G 23 #[.int .i64 a, .int .i64 b, .int .i64 c]]) hO (Hk.out _) ha hxl (by intro x hx; simp at hx; omega) he (by rw [List.set_append_left _ _ hkl, hQ]))
  rw [show ((0 : Nat) : Int) = 0 from rfl] at Hput
  unfold gv at *
  obtain ⟨y0, y1, y2⟩ := (Hgeo.out _ hO).cells
  replace hO := Lib.hid hO
  clear h hk hkl ha hxl hwd he hQ hat hn
  go_enter Try.func19, Try.ntmps19
  go_wp2_with fail
  rw [← HG.out]
  refine (Hhas.out _ hO.out).mono ?_
  rintro e w1 ⟨rfl, hO1⟩
  clear y0 y1 y2 Hhas hO
  obtain ⟨y0, y1, y2⟩ := (Hgeo.out _ hO1).cells
  replace hO1 := Lib.hid hO1
  go_wp2_with fail
  refine (HI.out _).mono ?_
  rintro e w2 ⟨rfl, hg⟩
  have hO2 := Lib.hid (hO1.out.quiet hg)
  clear y0 y1 y2 HI hg hO1
  go_wp2_with fail
  refine (Hput.out _ hO2.out).mono ?_
  rintro e w3 ⟨rfl, hO3⟩
  replace hO3 := Lib.hid hO3
  go_wp2
  go_ret
  exact ⟨rfl, hO3.out.less⟩
end Go.Proofs.Ytmoddhfemejekaa
