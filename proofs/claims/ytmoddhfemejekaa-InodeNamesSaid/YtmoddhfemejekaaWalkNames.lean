/- InodeNames, walked. -/
import Derived.Test.YtmoddhfemejekaaInoH
namespace Go.Proofs.Ytmoddhfemejekaa.inodeNames
open Go.RowKit Go.Grommet

set_option maxRecDepth 100000 in
set_option maxHeartbeats 4000000 in
theorem walk_no (x y n v0 v1 v2 v3 v4 v5 v6 v7 v8 v9 : Nat) (w : World) (hx : x < 256) (hy : y < 256) (hn : n < 256) (hv : ∀ q ∈ [v0, v1, v2, v3, v4, v5, v6, v7, v8, v9], q < 18446744073709551616) (hr : rightB 1 ((2 + x % 20 : Nat) : Int) ((2 + y % 60 : Nat) : Int) v0 v1 v2 v3 v4 v5 v6 v7 v8 v9 = false) :
    Calls Try.prog 6 #[.int .u8 (x : Int), .int .u8 (y : Int), .int .u8 (n : Int), .agg #[.int .u64 (v0 : Int), .int .u64 (v1 : Int), .int .u64 (v2 : Int), .int .u64 (v3 : Int), .int .u64 (v4 : Int), .int .u64 (v5 : Int), .int .u64 (v6 : Int), .int .u64 (v7 : Int), .int .u64 (v8 : Int), .int .u64 (v9 : Int)]] w (WorksIs w) := by
  have hm := small_may' x y
  obtain ⟨XR, Z, hXl, hZe, hZ, hXs, hF⟩ := format_row 1 (2 + x % 20) (2 + y % 60) hm
  have HS := Lib.hid (fun wx => Small_any x y hx hy wx)
  have hB2 : 2 ≤ 2 + x % 20 ∧ 2 + x % 20 ≤ 21 := by omega
  have hC2 : 2 ≤ 2 + y % 60 ∧ 2 + y % 60 ≤ 61 := by omega
  have HF := Lib.hid hF
  have HXl := Lib.hid hXl
  have HXs := Lib.hid hXs
  generalize 2 + x % 20 = B at *
  generalize 2 + y % 60 = C at *
  rw [show ((1 : Nat) : Int) = 1 from rfl] at hm HF
  obtain ⟨D, HD⟩ : ∃ D, Hid (D = B - 1) := ⟨_, Lib.hid rfl⟩
  obtain ⟨E, HE⟩ : ∃ E, Hid (E = n % D) := ⟨_, Lib.hid rfl⟩
  obtain ⟨K, HK⟩ : ∃ K, Hid (K = 1 + E) := ⟨_, Lib.hid rfl⟩
  have hD : 1 ≤ D := by rw [HD.out]; omega
  have hE : E < D := by rw [HE.out]; exact Nat.mod_lt _ hD
  have hK : 1 ≤ K ∧ K < B := by rw [HK.out]; have := HD.out; omega
  obtain ⟨A, HA⟩ : ∃ A, Hid (A = 488 + 16 * K) := ⟨_, Lib.hid rfl⟩
  have hA : A + 10 ≤ Z := by rw [HA.out, hZe]; omega
  have hin : inodeV 1 (B : Int) (C : Int) (K : Int) = (A : Int) := by unfold inodeV; rw [if_pos ⟨hm, by omega, by omega⟩, HA.out]; omega
  have HI := Lib.hid (fun wx => InodeAt_any 1 (B : Int) (C : Int) (K : Int) wx)
  rw [hin] at HI
  have wd : wordsV 1 (B : Int) (C : Int) ≤ (XR.length : Int) := by rw [words_pos' hm, hXl, hZe]; omega
  have HR := Lib.hid (fun wx => Right_any 1 (B : Int) (C : Int) v0 v1 v2 v3 v4 v5 v6 v7 v8 v9 wx)
  have eD : (B : Int) - 1 = (D : Int) := by rw [HD.out]; omega
  have eE : (n : Int).tmod (D : Int) = (E : Int) := by rw [HE.out, Int.tmod_eq_emod_of_nonneg (by omega), Int.natCast_emod]
  have eE' : (n : Int) % (D : Int) = (E : Int) := by rw [HE.out, Int.natCast_emod]
  have zD : ((D : Int) == 0) = false := by rw [beq_eq_false_iff_ne]; omega
  have eK : (1 : Int) + (E : Int) = (K : Int) := by rw [HK.out]; omega
  rw [hr] at HR
  have _h := hv
  clear _h
  have HRr := Lib.hid hr
  clear hv hx hy hr hm hin wd hF hXl hXs hZe
  unfold gv nv at *
  go_enter Try.func6, Try.ntmps6
  go_wp2_with fail
  obtain ⟨N, HN⟩ : ∃ N, Hid (N = w.heap.size) := ⟨_, Lib.hid rfl⟩
  have hO : Own w (w.alloc (.cells #[.int .u64 (v0 : Int), .int .u64 (v1 : Int), .int .u64 (v2 : Int), .int .u64 (v3 : Int), .int .u64 (v4 : Int), .int .u64 (v5 : Int), .int .u64 (v6 : Int), .int .u64 (v7 : Int), .int .u64 (v8 : Int), .int .u64 (v9 : Int)] 38)) [boxP N 38 #[.int .u64 (v0 : Int), .int .u64 (v1 : Int), .int .u64 (v2 : Int), .int .u64 (v3 : Int), .int .u64 (v4 : Int), .int .u64 (v5 : Int), .int .u64 (v6 : Int), .int .u64 (v7 : Int), .int .u64 (v8 : Int), .int .u64 (v9 : Int)]] := by rw [HN.out]; exact (Own.nil w).addBox _ _
  rw [← HN.out]
  refine (HS.out _).mono ?_
  rintro e w1 ⟨rfl, hg1⟩
  obtain ⟨G, HG⟩ : ∃ G, Hid (G = w1.heap.size) := ⟨_, Lib.hid rfl⟩
  have hO : Own w (w1.alloc (.cells #[.int .i64 1, .int .i64 (B : Int), .int .i64 (C : Int)] 23)) [boxP N 38 #[.int .u64 (v0 : Int), .int .u64 (v1 : Int), .int .u64 (v2 : Int), .int .u64 (v3 : Int), .int .u64 (v4 : Int), .int .u64 (v5 : Int), .int .u64 (v6 : Int), .int .u64 (v7 : Int), .int .u64 (v8 : Int), .int .u64 (v9 : Int)], boxP G 23 #[.int .i64 1, .int .i64 (B : Int), .int .i64 (C : Int)]] := by rw [HG.out]; exact (hO.quiet hg1).addBox _ _
  obtain ⟨g0, g1, g2⟩ := GeoS.cells (show GeoS G 1 (B : Int) (C : Int) _ from Own.box hO 1 rfl)
  replace hO := Lib.hid hO
  clear hg1 HS
  go_wp2_with fail
  rw [← HG.out]
  refine (HF.out _).mono ?_
  rintro e w2 ⟨ad, cp, rfl, hrow, hg2⟩
  have hO : Own w w2 [boxP N 38 #[.int .u64 (v0 : Int), .int .u64 (v1 : Int), .int .u64 (v2 : Int), .int .u64 (v3 : Int), .int .u64 (v4 : Int), .int .u64 (v5 : Int), .int .u64 (v6 : Int), .int .u64 (v7 : Int), .int .u64 (v8 : Int), .int .u64 (v9 : Int)], boxP G 23 #[.int .i64 1, .int .i64 (B : Int), .int .i64 (C : Int)], rowP 35 1 (.slice ad Z cp) Z (XR.map wv)] := hO.out.addRow hrow hg2
  obtain ⟨hW, hnil, _⟩ := Own.words hO 2 rfl HXs.out (by omega)
  have HNew := Lib.hid (NewH ad Z cp XR w w2 _ hO hW (by omega) hnil)
  clear hrow hg2 HF g0 g1 g2 hO hW hnil
  go_wp2_with fail
  refine HNew.out.mono ?_
  rintro e w3 ⟨g, rfl, hO⟩
  have hO : Own w w3 [boxP N 38 #[.int .u64 (v0 : Int), .int .u64 (v1 : Int), .int .u64 (v2 : Int), .int .u64 (v3 : Int), .int .u64 (v4 : Int), .int .u64 (v5 : Int), .int .u64 (v6 : Int), .int .u64 (v7 : Int), .int .u64 (v8 : Int), .int .u64 (v9 : Int)], boxP G 23 #[.int .i64 1, .int .i64 (B : Int), .int .i64 (C : Int)], rowP 35 1 (.slice ad Z cp) Z (XR.map wv), viewP g XR []] := hO
  obtain ⟨g0, g1, g2⟩ := GeoS.cells (show GeoS G 1 (B : Int) (C : Int) _ from Own.box hO 1 rfl)
  replace hO := Lib.hid hO
  clear HNew
  go_wp2_with fail
  refine (HI.out _).mono ?_
  rintro e w4 ⟨rfl, hg4⟩
  have hO := hO.out.quiet hg4
  obtain ⟨z0, z1, z2, z3, z4, z5, z6, z7, z8, z9⟩ := NodeS.cells (show NodeS N v0 v1 v2 v3 v4 v5 v6 v7 v8 v9 _ from Own.box hO 0 rfl)
  clear g0 g1 g2 hg4
  obtain ⟨g0, g1, g2⟩ := GeoS.cells (show GeoS G 1 (B : Int) (C : Int) _ from Own.box hO 1 rfl)
  have nA : ¬ (A : Int) < 0 := by omega
  have HP := Lib.hid (PutW12 3 g XR [] 1 (B : Int) (C : Int) (K : Int) v0 v1 v2 v3 v4 v5 v6 v7 v8 v9 w w4 _ hO rfl HRr.out)
  clear hO
  unfold nv gv at HP
  go_wp2_with fail
  refine HP.out.mono ?_
  rintro e w5 ⟨rfl, hO⟩
  clear g0 g1 g2 z0 z1 z2 z3 z4 z5 z6 z7 z8 z9 HP
  obtain ⟨z0, z1, z2, z3, z4, z5, z6, z7, z8, z9⟩ := NodeS.cells (show NodeS N v0 v1 v2 v3 v4 v5 v6 v7 v8 v9 _ from Own.box hO 0 rfl)
  obtain ⟨g0, g1, g2⟩ := GeoS.cells (show GeoS G 1 (B : Int) (C : Int) _ from Own.box hO 1 rfl)
  replace hO := Lib.hid hO
  go_wp2_with fail
  refine (HR.out _).mono ?_
  rintro e w6 ⟨rfl, hg6⟩
  have hgw := Lib.hid (grown_trans hO.out.grown hg6)
  clear hg6
  go_wp2_with fail
  refine (works_any _).mono ?_
  rintro e w9 ⟨rfl, hg⟩
  go_wp2
  go_ret
  exact ⟨rfl, grown_trans hgw.out hg⟩

set_option maxRecDepth 100000 in
set_option maxHeartbeats 4000000 in
theorem walk_yes (x y n v0 v1 v2 v3 v4 v5 v6 v7 v8 v9 : Nat) (w : World) (hx : x < 256) (hy : y < 256) (hn : n < 256) (hv : ∀ q ∈ [v0, v1, v2, v3, v4, v5, v6, v7, v8, v9], q < 18446744073709551616) (hr : rightB 1 ((2 + x % 20 : Nat) : Int) ((2 + y % 60 : Nat) : Int) v0 v1 v2 v3 v4 v5 v6 v7 v8 v9 = true) :
    Calls Try.prog 6 #[.int .u8 (x : Int), .int .u8 (y : Int), .int .u8 (n : Int), .agg #[.int .u64 (v0 : Int), .int .u64 (v1 : Int), .int .u64 (v2 : Int), .int .u64 (v3 : Int), .int .u64 (v4 : Int), .int .u64 (v5 : Int), .int .u64 (v6 : Int), .int .u64 (v7 : Int), .int .u64 (v8 : Int), .int .u64 (v9 : Int)]] w (WorksIs w) := by
  have hm := small_may' x y
  obtain ⟨XR, Z, hXl, hZe, hZ, hXs, hF⟩ := format_row 1 (2 + x % 20) (2 + y % 60) hm
  have HS := Lib.hid (fun wx => Small_any x y hx hy wx)
  have hB2 : 2 ≤ 2 + x % 20 ∧ 2 + x % 20 ≤ 21 := by omega
  have hC2 : 2 ≤ 2 + y % 60 ∧ 2 + y % 60 ≤ 61 := by omega
  have HF := Lib.hid hF
  have HXl := Lib.hid hXl
  have HXs := Lib.hid hXs
  generalize 2 + x % 20 = B at *
  generalize 2 + y % 60 = C at *
  rw [show ((1 : Nat) : Int) = 1 from rfl] at hm HF
  obtain ⟨D, HD⟩ : ∃ D, Hid (D = B - 1) := ⟨_, Lib.hid rfl⟩
  obtain ⟨E, HE⟩ : ∃ E, Hid (E = n % D) := ⟨_, Lib.hid rfl⟩
  obtain ⟨K, HK⟩ : ∃ K, Hid (K = 1 + E) := ⟨_, Lib.hid rfl⟩
  have hD : 1 ≤ D := by rw [HD.out]; omega
  have hE : E < D := by rw [HE.out]; exact Nat.mod_lt _ hD
  have hK : 1 ≤ K ∧ K < B := by rw [HK.out]; have := HD.out; omega
  obtain ⟨A, HA⟩ : ∃ A, Hid (A = 488 + 16 * K) := ⟨_, Lib.hid rfl⟩
  have hA : A + 10 ≤ Z := by rw [HA.out, hZe]; omega
  have hin : inodeV 1 (B : Int) (C : Int) (K : Int) = (A : Int) := by unfold inodeV; rw [if_pos ⟨hm, by omega, by omega⟩, HA.out]; omega
  have HI := Lib.hid (fun wx => InodeAt_any 1 (B : Int) (C : Int) (K : Int) wx)
  rw [hin] at HI
  have wd : wordsV 1 (B : Int) (C : Int) ≤ (XR.length : Int) := by rw [words_pos' hm, hXl, hZe]; omega
  have HR := Lib.hid (fun wx => Right_any 1 (B : Int) (C : Int) v0 v1 v2 v3 v4 v5 v6 v7 v8 v9 wx)
  have eD : (B : Int) - 1 = (D : Int) := by rw [HD.out]; omega
  have eE : (n : Int).tmod (D : Int) = (E : Int) := by rw [HE.out, Int.tmod_eq_emod_of_nonneg (by omega), Int.natCast_emod]
  have eE' : (n : Int) % (D : Int) = (E : Int) := by rw [HE.out, Int.natCast_emod]
  have zD : ((D : Int) == 0) = false := by rw [beq_eq_false_iff_ne]; omega
  have eK : (1 : Int) + (E : Int) = (K : Int) := by rw [HK.out]; omega
  have hok := all_ok XR [v0, v1, v2, v3, v4, v5, v6, v7, v8, v9] [] A (by rw [hXl]; exact hA) (by simp)
  have hrs : rowS (A : Int) [v0, v1, v2, v3, v4, v5, v6, v7, v8, v9] = (List.range ([v0, v1, v2, v3, v4, v5, v6, v7, v8, v9] : List Nat).length).map (fun i => (((A + i : Nat) : Int), ([v0, v1, v2, v3, v4, v5, v6, v7, v8, v9] : List Nat).getD i 0)) := by
    unfold rowS; apply List.map_congr_left; intro i _; simp
  rw [← hrs] at hok
  obtain ⟨LL, HLL⟩ : ∃ LL, Hid (allL XR [] (rowS (A : Int) [v0, v1, v2, v3, v4, v5, v6, v7, v8, v9]) = LL) := ⟨_, Lib.hid rfl⟩
  rw [HLL.out] at hok
  have HOk := Lib.hid hok
  have HRr := Lib.hid hr
  have Hv := Lib.hid hv
  have Hin := Lib.hid hin
  have Hwd := Lib.hid wd
  have hAX : (A : Int) + 10 ≤ (XR.length : Int) := by rw [hXl]; omega
  have hXm : XR.length ≤ 1000000 := by rw [hXl]; omega
  have HAX := Lib.hid hAX
  have HXm := Lib.hid hXm
  have Hgot : Hid (∀ i, i < 10 → gotI XR LL ((A : Int) + ((i : Nat) : Int)) = [v0, v1, v2, v3, v4, v5, v6, v7, v8, v9].getD i 0) := Lib.hid (fun i hi => by
    unfold gotI
    rw [if_pos ⟨by omega, by omega⟩, show ((A : Int) + (i : Int)).toNat = A + i from by omega, HOk.out.2 (A + i), if_pos ⟨by omega, by show A + i < A + 10; omega⟩, Nat.add_sub_cancel_left])
  clear hv hx hy hr hm hin wd hF hXl hXs hZe hok hrs hAX hXm
  unfold gv nv at *
  go_enter Try.func6, Try.ntmps6
  go_wp2_with fail
  obtain ⟨N, HN⟩ : ∃ N, Hid (N = w.heap.size) := ⟨_, Lib.hid rfl⟩
  have hO : Own w (w.alloc (.cells #[.int .u64 (v0 : Int), .int .u64 (v1 : Int), .int .u64 (v2 : Int), .int .u64 (v3 : Int), .int .u64 (v4 : Int), .int .u64 (v5 : Int), .int .u64 (v6 : Int), .int .u64 (v7 : Int), .int .u64 (v8 : Int), .int .u64 (v9 : Int)] 38)) [boxP N 38 #[.int .u64 (v0 : Int), .int .u64 (v1 : Int), .int .u64 (v2 : Int), .int .u64 (v3 : Int), .int .u64 (v4 : Int), .int .u64 (v5 : Int), .int .u64 (v6 : Int), .int .u64 (v7 : Int), .int .u64 (v8 : Int), .int .u64 (v9 : Int)]] := by rw [HN.out]; exact (Own.nil w).addBox _ _
  rw [← HN.out]
  refine (HS.out _).mono ?_
  rintro e w1 ⟨rfl, hg1⟩
  obtain ⟨G, HG⟩ : ∃ G, Hid (G = w1.heap.size) := ⟨_, Lib.hid rfl⟩
  have hO : Own w (w1.alloc (.cells #[.int .i64 1, .int .i64 (B : Int), .int .i64 (C : Int)] 23)) [boxP N 38 #[.int .u64 (v0 : Int), .int .u64 (v1 : Int), .int .u64 (v2 : Int), .int .u64 (v3 : Int), .int .u64 (v4 : Int), .int .u64 (v5 : Int), .int .u64 (v6 : Int), .int .u64 (v7 : Int), .int .u64 (v8 : Int), .int .u64 (v9 : Int)], boxP G 23 #[.int .i64 1, .int .i64 (B : Int), .int .i64 (C : Int)]] := by rw [HG.out]; exact (hO.quiet hg1).addBox _ _
  obtain ⟨g0, g1, g2⟩ := GeoS.cells (show GeoS G 1 (B : Int) (C : Int) _ from Own.box hO 1 rfl)
  replace hO := Lib.hid hO
  clear hg1 HS
  go_wp2_with fail
  rw [← HG.out]
  refine (HF.out _).mono ?_
  rintro e w2 ⟨ad, cp, rfl, hrow, hg2⟩
  have hO : Own w w2 [boxP N 38 #[.int .u64 (v0 : Int), .int .u64 (v1 : Int), .int .u64 (v2 : Int), .int .u64 (v3 : Int), .int .u64 (v4 : Int), .int .u64 (v5 : Int), .int .u64 (v6 : Int), .int .u64 (v7 : Int), .int .u64 (v8 : Int), .int .u64 (v9 : Int)], boxP G 23 #[.int .i64 1, .int .i64 (B : Int), .int .i64 (C : Int)], rowP 35 1 (.slice ad Z cp) Z (XR.map wv)] := hO.out.addRow hrow hg2
  obtain ⟨hW, hnil, _⟩ := Own.words hO 2 rfl HXs.out (by omega)
  have HNew := Lib.hid (NewH ad Z cp XR w w2 _ hO hW (by omega) hnil)
  clear hrow hg2 HF g0 g1 g2 hO hW hnil
  go_wp2_with fail
  refine HNew.out.mono ?_
  rintro e w3 ⟨g, rfl, hO⟩
  have hO : Own w w3 [boxP N 38 #[.int .u64 (v0 : Int), .int .u64 (v1 : Int), .int .u64 (v2 : Int), .int .u64 (v3 : Int), .int .u64 (v4 : Int), .int .u64 (v5 : Int), .int .u64 (v6 : Int), .int .u64 (v7 : Int), .int .u64 (v8 : Int), .int .u64 (v9 : Int)], boxP G 23 #[.int .i64 1, .int .i64 (B : Int), .int .i64 (C : Int)], rowP 35 1 (.slice ad Z cp) Z (XR.map wv), viewP g XR []] := hO
  obtain ⟨g0, g1, g2⟩ := GeoS.cells (show GeoS G 1 (B : Int) (C : Int) _ from Own.box hO 1 rfl)
  replace hO := Lib.hid hO
  clear HNew
  go_wp2_with fail
  refine (HI.out _).mono ?_
  rintro e w4 ⟨rfl, hg4⟩
  have hO := hO.out.quiet hg4
  obtain ⟨z0, z1, z2, z3, z4, z5, z6, z7, z8, z9⟩ := NodeS.cells (show NodeS N v0 v1 v2 v3 v4 v5 v6 v7 v8 v9 _ from Own.box hO 0 rfl)
  clear g0 g1 g2 hg4
  obtain ⟨g0, g1, g2⟩ := GeoS.cells (show GeoS G 1 (B : Int) (C : Int) _ from Own.box hO 1 rfl)
  have nA : ¬ (A : Int) < 0 := by omega
  have HP := Lib.hid (PutH12 3 g XR [] 1 (B : Int) (C : Int) (K : Int) (A : Int) v0 v1 v2 v3 v4 v5 v6 v7 v8 v9 0 w w4 _ [boxP N 38 #[.int .u64 (v0 : Int), .int .u64 (v1 : Int), .int .u64 (v2 : Int), .int .u64 (v3 : Int), .int .u64 (v4 : Int), .int .u64 (v5 : Int), .int .u64 (v6 : Int), .int .u64 (v7 : Int), .int .u64 (v8 : Int), .int .u64 (v9 : Int)], boxP G 23 #[.int .i64 1, .int .i64 (B : Int), .int .i64 (C : Int)], rowP 35 1 (.slice ad Z cp) Z (XR.map wv), viewP g XR LL] hO rfl (by omega) Hin.out ⟨by omega, HAX.out⟩ HXm.out Hwd.out HRr.out Hv.out (by rw [HOk.out.1]; rfl) (by rw [HLL.out]; rfl))
  clear hO
  unfold nv gv at HP
  go_wp2_with fail
  refine HP.out.mono ?_
  rintro e w5 ⟨rfl, hO⟩
  clear g0 g1 g2 z0 z1 z2 z3 z4 z5 z6 z7 z8 z9 HP
  have hg5 := hO.grown
  have HGet := Lib.hid (fun (i : Nat) (_ : i < 10) wx (hO : Own w wx [boxP N 38 #[.int .u64 (v0 : Int), .int .u64 (v1 : Int), .int .u64 (v2 : Int), .int .u64 (v3 : Int), .int .u64 (v4 : Int), .int .u64 (v5 : Int), .int .u64 (v6 : Int), .int .u64 (v7 : Int), .int .u64 (v8 : Int), .int .u64 (v9 : Int)], boxP G 23 #[.int .i64 1, .int .i64 (B : Int), .int .i64 (C : Int)], rowP 35 1 (.slice ad Z cp) Z (XR.map wv), viewP g XR LL]) => GetH 3 g XR LL ((A : Int) + (i : Int)) w wx _ hO rfl)
  replace hO := Lib.hid hO
  go_wp2_with fail
  go_loopw [13] (fun i wr => ∃ j : Nat, j ≤ 4 ∧ i = .int .i64 (j : Int) ∧ Hid (Own w wr [boxP N 38 #[.int .u64 (v0 : Int), .int .u64 (v1 : Int), .int .u64 (v2 : Int), .int .u64 (v3 : Int), .int .u64 (v4 : Int), .int .u64 (v5 : Int), .int .u64 (v6 : Int), .int .u64 (v7 : Int), .int .u64 (v8 : Int), .int .u64 (v9 : Int)], boxP G 23 #[.int .i64 1, .int .i64 (B : Int), .int .i64 (C : Int)], rowP 35 1 (.slice ad Z cp) Z (XR.map wv), viewP g XR LL])) (fun i _ => 4 - (intOf i).toNat)
  case atStart => exact ⟨0, Nat.zero_le _, rfl, hO⟩
  case round =>
    clear hO
    obtain ⟨j, hj, rfl, hO⟩ := hrel
    have j0 : (0 : Int) ≤ (j : Int) := by omega
    by_cases hlt : j < 4
    · have hlt' : (j : Int) < 4 := by omega
      have HGj := Lib.hid (fun wx hO => HGet.out (4 + j) (by omega) wx hO)
      rw [Hgot.out (4 + j) (by omega)] at HGj
      have hcell : Hid (∀ wx, Own w wx [boxP N 38 #[.int .u64 (v0 : Int), .int .u64 (v1 : Int), .int .u64 (v2 : Int), .int .u64 (v3 : Int), .int .u64 (v4 : Int), .int .u64 (v5 : Int), .int .u64 (v6 : Int), .int .u64 (v7 : Int), .int .u64 (v8 : Int), .int .u64 (v9 : Int)], boxP G 23 #[.int .i64 1, .int .i64 (B : Int), .int .i64 (C : Int)], rowP 35 1 (.slice ad Z cp) Z (XR.map wv), viewP g XR LL] → wx.cell? ⟨N, 4 + j, none⟩ = some (.int .u64 (([v0, v1, v2, v3, v4, v5, v6, v7, v8, v9].getD (4 + j) 0 : Nat) : Int))) := Lib.hid (fun wx hO => by
        obtain ⟨z0, z1, z2, z3, z4, z5, z6, z7, z8, z9⟩ := NodeS.cells (show NodeS N v0 v1 v2 v3 v4 v5 v6 v7 v8 v9 _ from Own.box hO 0 rfl)
        have h : j = 0 ∨ j = 1 ∨ j = 2 ∨ j = 3 := by omega
        rcases h with rfl | rfl | rfl | rfl
        · exact z4
        · exact z5
        · exact z6
        · exact z7)
      generalize [v0, v1, v2, v3, v4, v5, v6, v7, v8, v9].getD (4 + j) 0 = U at HGj hcell
      have eU : ((U : Int) != (U : Int)) = false := by simp
      rw [show (A : Int) + ((4 + j : Nat) : Int) = (A : Int) + 4 + (j : Int) from by omega] at HGj
      have wa : IntKind.i64.wrap ((A : Int) + 4) = (A : Int) + 4 := IntWalk.i64_in _ ⟨by omega, by omega⟩
      have wb : IntKind.i64.wrap ((A : Int) + 4 + (j : Int)) = (A : Int) + 4 + (j : Int) := IntWalk.i64_in _ ⟨by omega, by omega⟩
      have hc0 := hcell.out _ hO.out
      have hz4 := hlt
      go_wp2_with fail
      refine wp_region_held_drew (S := fun w' => w'.cell? ⟨N, 4 + j, none⟩ = some (.int .u64 (U : Int))) (by kernel_rfl) ((grown_drew (World.grownBy.refl _ none)).cell hc0 (by simp)) (fun hS => ?_)
      refine wpAnyH_take (i := 0) (oi := { dst := some 53, op := Op.move (Operand.tmp 10), type := 31, pos := "law.go:156", after := #[], guard := none }) (v := ?vn16r12o0) rfl (by kernel_rfl) (by kernel_rfl) (by kernel_rfl) (fun _ _ _ h => h) (Or.inl ⟨by rfl, ?hn16r12o0⟩) hS ?_
      case hn16r12o0 => (intro wx hx; skip; go_simp; (try with_reducible rfl))
      try simp only [Act.put, List.setIfInBounds_toArray, List.set_cons_zero, List.set_cons_succ]
      refine wpAnyH_take (i := 1) (oi := { dst := some 54, op := Op.move (Operand.tmp 12), type := 3, pos := "law.go:156", after := #[], guard := none }) (v := ?vn16r12o1) rfl (by kernel_rfl) (by kernel_rfl) (by kernel_rfl) (fun _ _ _ h => h) (Or.inl ⟨by rfl, ?hn16r12o1⟩) hS ?_
      case hn16r12o1 => (intro wx hx; skip; go_simp; (try with_reducible rfl))
      try simp only [Act.put, List.setIfInBounds_toArray, List.set_cons_zero, List.set_cons_succ]
      refine wpAnyH_take (i := 2) (oi := { dst := some 55, op := Op.binOp BinOp.add 3 (Operand.tmp 54) (Operand.const (Value.int IntKind.i64 4)) 3, type := 3, pos := "law.go:156", after := #[{ on := 1, ground := Ground.data }], guard := none }) (v := ?vn16r12o2) rfl (by kernel_rfl) (by kernel_rfl) (by kernel_rfl) (fun _ _ _ h => h) (Or.inl ⟨by rfl, ?hn16r12o2⟩) hS ?_
      case hn16r12o2 => (intro wx hx; skip; go_simp; (try with_reducible rfl))
      try simp only [Act.put, List.setIfInBounds_toArray, List.set_cons_zero, List.set_cons_succ]
      refine wpAnyH_take (i := 3) (oi := { dst := some 56, op := Op.move (Operand.tmp 13), type := 3, pos := "law.go:156", after := #[], guard := none }) (v := ?vn16r12o3) rfl (by kernel_rfl) (by kernel_rfl) (by kernel_rfl) (fun _ _ _ h => h) (Or.inl ⟨by rfl, ?hn16r12o3⟩) hS ?_
      case hn16r12o3 => (intro wx hx; skip; go_simp; (try with_reducible rfl))
      try simp only [Act.put, List.setIfInBounds_toArray, List.set_cons_zero, List.set_cons_succ]
      refine wpAnyH_take (i := 4) (oi := { dst := some 57, op := Op.binOp BinOp.add 3 (Operand.tmp 55) (Operand.tmp 56) 3, type := 3, pos := "law.go:156", after := #[{ on := 2, ground := Ground.data }, { on := 3, ground := Ground.data }], guard := none }) (v := ?vn16r12o4) rfl (by kernel_rfl) (by kernel_rfl) (by kernel_rfl) (fun _ _ _ h => h) (Or.inl ⟨by rfl, ?hn16r12o4⟩) hS ?_
      case hn16r12o4 => (intro wx hx; skip; go_simp; (try with_reducible rfl))
      try simp only [Act.put, List.setIfInBounds_toArray, List.set_cons_zero, List.set_cons_succ]
      refine wpAnyH_take (i := 6) (oi := { dst := some 59, op := Op.move (Operand.tmp 13), type := 3, pos := "law.go:156", after := #[], guard := none }) (v := ?vn16r12o6) rfl (by kernel_rfl) (by kernel_rfl) (by kernel_rfl) (fun _ _ _ h => h) (Or.inl ⟨by rfl, ?hn16r12o6⟩) hS ?_
      case hn16r12o6 => (intro wx hx; skip; go_simp; (try with_reducible rfl))
      try simp only [Act.put, List.setIfInBounds_toArray, List.set_cons_zero, List.set_cons_succ]
      refine wpAnyH_take (i := 7) (oi := { dst := some 60, op := Op.fieldAddr 38 (Operand.tmp 7) 4, type := 0, pos := "law.go:156", after := #[], guard := none }) (v := ?vn16r12o7) rfl (by kernel_rfl) (by kernel_rfl) (by kernel_rfl) (fun _ _ _ h => h) (Or.inl ⟨by rfl, ?hn16r12o7⟩) hS ?_
      case hn16r12o7 => (intro wx hx; skip; go_simp; (try with_reducible rfl))
      try simp only [Act.put, List.setIfInBounds_toArray, List.set_cons_zero, List.set_cons_succ]
      refine wpAnyH_take (i := 8) (oi := { dst := some 61, op := Op.indexAddr 36 (Operand.tmp 60) (Operand.tmp 59), type := 0, pos := "law.go:156", after := #[{ on := 7, ground := Ground.data }, { on := 6, ground := Ground.data }], guard := none }) (v := ?vn16r12o8) rfl (by kernel_rfl) (by kernel_rfl) (by kernel_rfl) (fun _ _ _ h => h) (Or.inl ⟨by rfl, ?hn16r12o8⟩) hS ?_
      case hn16r12o8 => (intro wx hx; skip; go_simp; (try with_reducible rfl))
      try simp only [Act.put, List.setIfInBounds_toArray, List.set_cons_zero, List.set_cons_succ]
      refine wpAnyH_take (i := 9) (oi := { dst := some 62, op := Op.load 35 (Operand.tmp 61), type := 35, pos := "law.go:156", after := #[{ on := 8, ground := Ground.data }], guard := none }) (v := ?vn16r12o9) rfl (by kernel_rfl) (by kernel_rfl) (by kernel_rfl) (fun _ _ _ h => h) (Or.inl ⟨by rfl, ?hn16r12o9⟩) hS ?_
      case hn16r12o9 => (intro wx hx; have hcx := hx; go_simp; (try with_reducible rfl))
      try simp only [Act.put, List.setIfInBounds_toArray, List.set_cons_zero, List.set_cons_succ]
      refine wpAnyH_ready (rs := [5]) (by kernel_rfl) (by simp) ?_
      refine AllReadyH.cons (o := { dst := some 58, op := Op.call { callee := Callee.value (Operand.func 27), args := #[Operand.tmp 53, Operand.tmp 57], argTypes := #[31, 3] }, type := 35, pos := "law.go:156", after := #[{ on := 0, ground := Ground.data }, { on := 4, ground := Ground.data }], guard := none }) rfl (fun K hK => ?_) AllReadyH.nil
      go_simp
      refine (HGj.out _ (hO.out.quiet (grown_drew (World.grownBy.refl _ none)))).mono ?_
      rintro e wA ⟨rfl, rfl⟩
      have hS1 := hS
      refine hK.out _ _ ?hsn16r12o5 (fun hS => ?_)
      case hsn16r12o5 => (exact hS1)
      clear hK K
      try simp only [Act.put, List.setIfInBounds_toArray, List.set_cons_zero, List.set_cons_succ]
      refine wpAnyH_take (i := 10) (oi := { dst := some 63, op := Op.binOp BinOp.neq 35 (Operand.tmp 58) (Operand.tmp 62) 35, type := 4, pos := "law.go:156", after := #[{ on := 5, ground := Ground.data }, { on := 9, ground := Ground.data }], guard := none }) (v := ?vn16r12o10) rfl (by kernel_rfl) (by kernel_rfl) (by kernel_rfl) (fun _ _ _ h => h) (Or.inl ⟨by rfl, ?hn16r12o10⟩) hS ?_
      case hn16r12o10 => (intro wx hx; skip; go_simp; (try with_reducible rfl))
      try simp only [Act.put, List.setIfInBounds_toArray, List.set_cons_zero, List.set_cons_succ]
      refine wpAnyH_done (by kernel_rfl) ?_ _
      have hO2 := Lib.hid (hO.out.quiet (grown_drew (World.grownBy.refl _ none)))
      clear hS hS1 hO hc0
      go_wp2
      go_roundw
      case rel => exact ⟨j + 1, by omega, by go_num, hO2⟩
      case measure => simp [intOf]; omega
    · have hlt' : ¬ (j : Int) < 4 := by omega
      have HGet0 := Lib.hid (fun wx hO => HGet.out 0 (by decide) wx hO)
      rw [Hgot.out 0 (by decide), show (A : Int) + ((0 : Nat) : Int) = (A : Int) from by simp, show [v0, v1, v2, v3, v4, v5, v6, v7, v8, v9].getD 0 0 = v0 from rfl] at HGet0
      have eb0 : ((v0 : Int) == (v0 : Int)) = true := by simp
      have HGet1 := Lib.hid (fun wx hO => HGet.out 1 (by decide) wx hO)
      rw [Hgot.out 1 (by decide), show (A : Int) + ((1 : Nat) : Int) = (A : Int) + 1 from by simp, show [v0, v1, v2, v3, v4, v5, v6, v7, v8, v9].getD 1 0 = v1 from rfl] at HGet1
      have wa1 : IntKind.i64.wrap ((A : Int) + 1) = (A : Int) + 1 := IntWalk.i64_in _ ⟨by omega, by omega⟩
      have eb1 : ((v1 : Int) == (v1 : Int)) = true := by simp
      have HGet2 := Lib.hid (fun wx hO => HGet.out 2 (by decide) wx hO)
      rw [Hgot.out 2 (by decide), show (A : Int) + ((2 : Nat) : Int) = (A : Int) + 2 from by simp, show [v0, v1, v2, v3, v4, v5, v6, v7, v8, v9].getD 2 0 = v2 from rfl] at HGet2
      have wa2 : IntKind.i64.wrap ((A : Int) + 2) = (A : Int) + 2 := IntWalk.i64_in _ ⟨by omega, by omega⟩
      have eb2 : ((v2 : Int) == (v2 : Int)) = true := by simp
      have HGet3 := Lib.hid (fun wx hO => HGet.out 3 (by decide) wx hO)
      rw [Hgot.out 3 (by decide), show (A : Int) + ((3 : Nat) : Int) = (A : Int) + 3 from by simp, show [v0, v1, v2, v3, v4, v5, v6, v7, v8, v9].getD 3 0 = v3 from rfl] at HGet3
      have wa3 : IntKind.i64.wrap ((A : Int) + 3) = (A : Int) + 3 := IntWalk.i64_in _ ⟨by omega, by omega⟩
      have eb3 : ((v3 : Int) == (v3 : Int)) = true := by simp
      have HGet8 := Lib.hid (fun wx hO => HGet.out 8 (by decide) wx hO)
      rw [Hgot.out 8 (by decide), show (A : Int) + ((8 : Nat) : Int) = (A : Int) + 8 from by simp, show [v0, v1, v2, v3, v4, v5, v6, v7, v8, v9].getD 8 0 = v8 from rfl] at HGet8
      have wa8 : IntKind.i64.wrap ((A : Int) + 8) = (A : Int) + 8 := IntWalk.i64_in _ ⟨by omega, by omega⟩
      have eb8 : ((v8 : Int) == (v8 : Int)) = true := by simp
      have HGet9 := Lib.hid (fun wx hO => HGet.out 9 (by decide) wx hO)
      rw [Hgot.out 9 (by decide), show (A : Int) + ((9 : Nat) : Int) = (A : Int) + 9 from by simp, show [v0, v1, v2, v3, v4, v5, v6, v7, v8, v9].getD 9 0 = v9 from rfl] at HGet9
      have wa9 : IntKind.i64.wrap ((A : Int) + 9) = (A : Int) + 9 := IntWalk.i64_in _ ⟨by omega, by omega⟩
      have eb9 : ((v9 : Int) == (v9 : Int)) = true := by simp
      have hS0 : NodeS N v0 v1 v2 v3 v4 v5 v6 v7 v8 v9 wr := Own.box hO.out 0 rfl
      clear hlt hj HGet Hgot
      go_wp2_with fail
      refine wp_region_held_drew (S := fun w' => NodeS N v0 v1 v2 v3 v4 v5 v6 v7 v8 v9 w') (by kernel_rfl) (hS0.keep (grown_drew (World.grownBy.refl _ none))) (fun hS => ?_)
      refine wpAnyH_take (i := 0) (oi := { dst := some 64, op := Op.move (Operand.tmp 10), type := 31, pos := "law.go:160", after := #[], guard := none }) (v := ?vn26r14o0) rfl (by kernel_rfl) (by kernel_rfl) (by kernel_rfl) (fun _ _ _ h => h) (Or.inl ⟨by rfl, ?hn26r14o0⟩) hS ?_
      case hn26r14o0 => (intro wx hx; skip; go_simp; (try with_reducible rfl))
      try simp only [Act.put, List.setIfInBounds_toArray, List.set_cons_zero, List.set_cons_succ]
      refine wpAnyH_take (i := 1) (oi := { dst := some 65, op := Op.move (Operand.tmp 12), type := 3, pos := "law.go:160", after := #[], guard := none }) (v := ?vn26r14o1) rfl (by kernel_rfl) (by kernel_rfl) (by kernel_rfl) (fun _ _ _ h => h) (Or.inl ⟨by rfl, ?hn26r14o1⟩) hS ?_
      case hn26r14o1 => (intro wx hx; skip; go_simp; (try with_reducible rfl))
      try simp only [Act.put, List.setIfInBounds_toArray, List.set_cons_zero, List.set_cons_succ]
      refine wpAnyH_take (i := 3) (oi := { dst := some 67, op := Op.fieldAddr 38 (Operand.tmp 7) 0, type := 0, pos := "law.go:160", after := #[], guard := none }) (v := ?vn26r14o3) rfl (by kernel_rfl) (by kernel_rfl) (by kernel_rfl) (fun _ _ _ h => h) (Or.inl ⟨by rfl, ?hn26r14o3⟩) hS ?_
      case hn26r14o3 => (intro wx hx; skip; go_simp; (try with_reducible rfl))
      try simp only [Act.put, List.setIfInBounds_toArray, List.set_cons_zero, List.set_cons_succ]
      refine wpAnyH_take (i := 4) (oi := { dst := some 68, op := Op.load 35 (Operand.tmp 67), type := 35, pos := "law.go:160", after := #[{ on := 3, ground := Ground.data }], guard := none }) (v := ?vn26r14o4) rfl (by kernel_rfl) (by kernel_rfl) (by kernel_rfl) (fun _ _ _ h => h) (Or.inl ⟨by rfl, ?hn26r14o4⟩) hS ?_
      case hn26r14o4 => (intro wx hx; obtain ⟨z0, z1, z2, z3, z4, z5, z6, z7, z8, z9⟩ := NodeS.cells hx; go_simp; (try with_reducible rfl))
      try simp only [Act.put, List.setIfInBounds_toArray, List.set_cons_zero, List.set_cons_succ]
      refine wpAnyH_ready (rs := [2]) (by kernel_rfl) (by simp) ?_
      refine AllReadyH.cons (o := { dst := some 66, op := Op.call { callee := Callee.value (Operand.func 27), args := #[Operand.tmp 64, Operand.tmp 65], argTypes := #[31, 3] }, type := 35, pos := "law.go:160", after := #[{ on := 0, ground := Ground.data }, { on := 1, ground := Ground.data }], guard := none }) rfl (fun K hK => ?_) AllReadyH.nil
      go_simp
      refine (HGet0.out _ (hO.out.quiet (grown_drew (World.grownBy.refl _ none)))).mono ?_
      rintro e wA0 ⟨rfl, rfl⟩
      have hS1 := hS
      refine hK.out _ _ ?hsn26r14o2 (fun hS => ?_)
      case hsn26r14o2 => (exact hS1)
      clear hK K
      try simp only [Act.put, List.setIfInBounds_toArray, List.set_cons_zero, List.set_cons_succ]
      refine wpAnyH_take (i := 5) (oi := { dst := some 69, op := Op.binOp BinOp.eql 35 (Operand.tmp 66) (Operand.tmp 68) 35, type := 4, pos := "law.go:160", after := #[{ on := 2, ground := Ground.data }, { on := 4, ground := Ground.data }], guard := none }) (v := ?vn26r14o5) rfl (by kernel_rfl) (by kernel_rfl) (by kernel_rfl) (fun _ _ _ h => h) (Or.inl ⟨by rfl, ?hn26r14o5⟩) hS ?_
      case hn26r14o5 => (intro wx hx; skip; go_simp; (try with_reducible rfl))
      try simp only [Act.put, List.setIfInBounds_toArray, List.set_cons_zero, List.set_cons_succ]
      refine wpAnyH_take (i := 6) (oi := { dst := some 70, op := Op.move (Operand.tmp 69), type := 4, pos := "law.go:160", after := #[{ on := 5, ground := Ground.data }, { on := 2, ground := Ground.chain }], guard := none }) (v := ?vn26r14o6) rfl (by kernel_rfl) (by kernel_rfl) (by kernel_rfl) (fun _ _ _ h => h) (Or.inl ⟨by rfl, ?hn26r14o6⟩) hS ?_
      case hn26r14o6 => (intro wx hx; skip; go_simp; (try with_reducible rfl))
      try simp only [Act.put, List.setIfInBounds_toArray, List.set_cons_zero, List.set_cons_succ]
      refine wpAnyH_take (i := 7) (oi := { dst := some 71, op := Op.move (Operand.tmp 10), type := 31, pos := "law.go:160", after := #[{ on := 6, ground := Ground.guard }], guard := some (6, true) }) (v := ?vn26r14o7) rfl (by kernel_rfl) (by kernel_rfl) (by kernel_rfl) (fun _ _ _ h => h) (Or.inl ⟨by rfl, ?hn26r14o7⟩) hS ?_
      case hn26r14o7 => (intro wx hx; skip; go_simp; (try with_reducible rfl))
      try simp only [Act.put, List.setIfInBounds_toArray, List.set_cons_zero, List.set_cons_succ]
      refine wpAnyH_take (i := 8) (oi := { dst := some 72, op := Op.move (Operand.tmp 12), type := 3, pos := "law.go:160", after := #[{ on := 6, ground := Ground.guard }], guard := some (6, true) }) (v := ?vn26r14o8) rfl (by kernel_rfl) (by kernel_rfl) (by kernel_rfl) (fun _ _ _ h => h) (Or.inl ⟨by rfl, ?hn26r14o8⟩) hS ?_
      case hn26r14o8 => (intro wx hx; skip; go_simp; (try with_reducible rfl))
      try simp only [Act.put, List.setIfInBounds_toArray, List.set_cons_zero, List.set_cons_succ]
      refine wpAnyH_take (i := 9) (oi := { dst := some 73, op := Op.binOp BinOp.add 3 (Operand.tmp 72) (Operand.const (Value.int IntKind.i64 1)) 3, type := 3, pos := "law.go:160", after := #[{ on := 8, ground := Ground.data }, { on := 6, ground := Ground.guard }], guard := some (6, true) }) (v := ?vn26r14o9) rfl (by kernel_rfl) (by kernel_rfl) (by kernel_rfl) (fun _ _ _ h => h) (Or.inl ⟨by rfl, ?hn26r14o9⟩) hS ?_
      case hn26r14o9 => (intro wx hx; skip; go_simp; (try with_reducible rfl))
      try simp only [Act.put, List.setIfInBounds_toArray, List.set_cons_zero, List.set_cons_succ]
      refine wpAnyH_take (i := 11) (oi := { dst := some 75, op := Op.fieldAddr 38 (Operand.tmp 7) 1, type := 0, pos := "law.go:160", after := #[{ on := 6, ground := Ground.guard }], guard := some (6, true) }) (v := ?vn26r14o11) rfl (by kernel_rfl) (by kernel_rfl) (by kernel_rfl) (fun _ _ _ h => h) (Or.inl ⟨by rfl, ?hn26r14o11⟩) hS ?_
      case hn26r14o11 => (intro wx hx; skip; go_simp; (try with_reducible rfl))
      try simp only [Act.put, List.setIfInBounds_toArray, List.set_cons_zero, List.set_cons_succ]
      refine wpAnyH_take (i := 12) (oi := { dst := some 76, op := Op.load 35 (Operand.tmp 75), type := 35, pos := "law.go:160", after := #[{ on := 11, ground := Ground.data }, { on := 6, ground := Ground.guard }], guard := some (6, true) }) (v := ?vn26r14o12) rfl (by kernel_rfl) (by kernel_rfl) (by kernel_rfl) (fun _ _ _ h => h) (Or.inl ⟨by rfl, ?hn26r14o12⟩) hS ?_
      case hn26r14o12 => (intro wx hx; obtain ⟨z0, z1, z2, z3, z4, z5, z6, z7, z8, z9⟩ := NodeS.cells hx; go_simp; (try with_reducible rfl))
      try simp only [Act.put, List.setIfInBounds_toArray, List.set_cons_zero, List.set_cons_succ]
      refine wpAnyH_ready (rs := [10]) (by kernel_rfl) (by simp) ?_
      refine AllReadyH.cons (o := { dst := some 74, op := Op.call { callee := Callee.value (Operand.func 27), args := #[Operand.tmp 71, Operand.tmp 73], argTypes := #[31, 3] }, type := 35, pos := "law.go:160", after := #[{ on := 7, ground := Ground.data }, { on := 9, ground := Ground.data }, { on := 6, ground := Ground.chain }, { on := 6, ground := Ground.guard }], guard := some (6, true) }) rfl (fun K hK => ?_) AllReadyH.nil
      go_simp
      refine (HGet1.out _ (hO.out.quiet (grown_drew (World.grownBy.refl _ none)))).mono ?_
      rintro e wA1 ⟨rfl, rfl⟩
      have hS1 := hS
      refine hK.out _ _ ?hsn26r14o10 (fun hS => ?_)
      case hsn26r14o10 => (exact hS1)
      clear hK K
      try simp only [Act.put, List.setIfInBounds_toArray, List.set_cons_zero, List.set_cons_succ]
      refine wpAnyH_take (i := 13) (oi := { dst := some 77, op := Op.binOp BinOp.eql 35 (Operand.tmp 74) (Operand.tmp 76) 35, type := 4, pos := "law.go:160", after := #[{ on := 10, ground := Ground.data }, { on := 12, ground := Ground.data }, { on := 6, ground := Ground.guard }], guard := some (6, true) }) (v := ?vn26r14o13) rfl (by kernel_rfl) (by kernel_rfl) (by kernel_rfl) (fun _ _ _ h => h) (Or.inl ⟨by rfl, ?hn26r14o13⟩) hS ?_
      case hn26r14o13 => (intro wx hx; skip; go_simp; (try with_reducible rfl))
      try simp only [Act.put, List.setIfInBounds_toArray, List.set_cons_zero, List.set_cons_succ]
      refine wpAnyH_take (i := 14) (oi := { dst := some 78, op := Op.pick (Operand.tmp 70) (Operand.tmp 77) (Operand.const (Value.bool false)), type := 4, pos := "law.go:160", after := #[{ on := 6, ground := Ground.data }, { on := 13, ground := Ground.data }], guard := none }) (v := ?vn26r14o14) rfl (by kernel_rfl) (by kernel_rfl) (by kernel_rfl) (fun _ _ _ h => h) (Or.inl ⟨by rfl, ?hn26r14o14⟩) hS ?_
      case hn26r14o14 => (intro wx hx; skip; go_simp; (try with_reducible rfl))
      try simp only [Act.put, List.setIfInBounds_toArray, List.set_cons_zero, List.set_cons_succ]
      refine wpAnyH_take (i := 15) (oi := { dst := some 79, op := Op.move (Operand.tmp 78), type := 4, pos := "law.go:160", after := #[{ on := 14, ground := Ground.data }, { on := 10, ground := Ground.chain }], guard := none }) (v := ?vn26r14o15) rfl (by kernel_rfl) (by kernel_rfl) (by kernel_rfl) (fun _ _ _ h => h) (Or.inl ⟨by rfl, ?hn26r14o15⟩) hS ?_
      case hn26r14o15 => (intro wx hx; skip; go_simp; (try with_reducible rfl))
      try simp only [Act.put, List.setIfInBounds_toArray, List.set_cons_zero, List.set_cons_succ]
      refine wpAnyH_take (i := 16) (oi := { dst := some 80, op := Op.move (Operand.tmp 10), type := 31, pos := "law.go:160", after := #[{ on := 15, ground := Ground.guard }], guard := some (15, true) }) (v := ?vn26r14o16) rfl (by kernel_rfl) (by kernel_rfl) (by kernel_rfl) (fun _ _ _ h => h) (Or.inl ⟨by rfl, ?hn26r14o16⟩) hS ?_
      case hn26r14o16 => (intro wx hx; skip; go_simp; (try with_reducible rfl))
      try simp only [Act.put, List.setIfInBounds_toArray, List.set_cons_zero, List.set_cons_succ]
      refine wpAnyH_take (i := 17) (oi := { dst := some 81, op := Op.move (Operand.tmp 12), type := 3, pos := "law.go:160", after := #[{ on := 15, ground := Ground.guard }], guard := some (15, true) }) (v := ?vn26r14o17) rfl (by kernel_rfl) (by kernel_rfl) (by kernel_rfl) (fun _ _ _ h => h) (Or.inl ⟨by rfl, ?hn26r14o17⟩) hS ?_
      case hn26r14o17 => (intro wx hx; skip; go_simp; (try with_reducible rfl))
      try simp only [Act.put, List.setIfInBounds_toArray, List.set_cons_zero, List.set_cons_succ]
      refine wpAnyH_take (i := 18) (oi := { dst := some 82, op := Op.binOp BinOp.add 3 (Operand.tmp 81) (Operand.const (Value.int IntKind.i64 2)) 3, type := 3, pos := "law.go:160", after := #[{ on := 17, ground := Ground.data }, { on := 15, ground := Ground.guard }], guard := some (15, true) }) (v := ?vn26r14o18) rfl (by kernel_rfl) (by kernel_rfl) (by kernel_rfl) (fun _ _ _ h => h) (Or.inl ⟨by rfl, ?hn26r14o18⟩) hS ?_
      case hn26r14o18 => (intro wx hx; skip; go_simp; (try with_reducible rfl))
      try simp only [Act.put, List.setIfInBounds_toArray, List.set_cons_zero, List.set_cons_succ]
      refine wpAnyH_take (i := 20) (oi := { dst := some 84, op := Op.fieldAddr 38 (Operand.tmp 7) 2, type := 0, pos := "law.go:160", after := #[{ on := 15, ground := Ground.guard }], guard := some (15, true) }) (v := ?vn26r14o20) rfl (by kernel_rfl) (by kernel_rfl) (by kernel_rfl) (fun _ _ _ h => h) (Or.inl ⟨by rfl, ?hn26r14o20⟩) hS ?_
      case hn26r14o20 => (intro wx hx; skip; go_simp; (try with_reducible rfl))
      try simp only [Act.put, List.setIfInBounds_toArray, List.set_cons_zero, List.set_cons_succ]
      refine wpAnyH_take (i := 21) (oi := { dst := some 85, op := Op.load 35 (Operand.tmp 84), type := 35, pos := "law.go:160", after := #[{ on := 20, ground := Ground.data }, { on := 15, ground := Ground.guard }], guard := some (15, true) }) (v := ?vn26r14o21) rfl (by kernel_rfl) (by kernel_rfl) (by kernel_rfl) (fun _ _ _ h => h) (Or.inl ⟨by rfl, ?hn26r14o21⟩) hS ?_
      case hn26r14o21 => (intro wx hx; obtain ⟨z0, z1, z2, z3, z4, z5, z6, z7, z8, z9⟩ := NodeS.cells hx; go_simp; (try with_reducible rfl))
      try simp only [Act.put, List.setIfInBounds_toArray, List.set_cons_zero, List.set_cons_succ]
      refine wpAnyH_ready (rs := [19]) (by kernel_rfl) (by simp) ?_
      refine AllReadyH.cons (o := { dst := some 83, op := Op.call { callee := Callee.value (Operand.func 27), args := #[Operand.tmp 80, Operand.tmp 82], argTypes := #[31, 3] }, type := 35, pos := "law.go:160", after := #[{ on := 16, ground := Ground.data }, { on := 18, ground := Ground.data }, { on := 15, ground := Ground.chain }, { on := 15, ground := Ground.guard }], guard := some (15, true) }) rfl (fun K hK => ?_) AllReadyH.nil
      go_simp
      refine (HGet2.out _ (hO.out.quiet (grown_drew (World.grownBy.refl _ none)))).mono ?_
      rintro e wA2 ⟨rfl, rfl⟩
      have hS1 := hS
      refine hK.out _ _ ?hsn26r14o19 (fun hS => ?_)
      case hsn26r14o19 => (exact hS1)
      clear hK K
      try simp only [Act.put, List.setIfInBounds_toArray, List.set_cons_zero, List.set_cons_succ]
      refine wpAnyH_take (i := 22) (oi := { dst := some 86, op := Op.binOp BinOp.eql 35 (Operand.tmp 83) (Operand.tmp 85) 35, type := 4, pos := "law.go:160", after := #[{ on := 19, ground := Ground.data }, { on := 21, ground := Ground.data }, { on := 15, ground := Ground.guard }], guard := some (15, true) }) (v := ?vn26r14o22) rfl (by kernel_rfl) (by kernel_rfl) (by kernel_rfl) (fun _ _ _ h => h) (Or.inl ⟨by rfl, ?hn26r14o22⟩) hS ?_
      case hn26r14o22 => (intro wx hx; skip; go_simp; (try with_reducible rfl))
      try simp only [Act.put, List.setIfInBounds_toArray, List.set_cons_zero, List.set_cons_succ]
      refine wpAnyH_take (i := 23) (oi := { dst := some 87, op := Op.pick (Operand.tmp 79) (Operand.tmp 86) (Operand.const (Value.bool false)), type := 4, pos := "law.go:160", after := #[{ on := 15, ground := Ground.data }, { on := 22, ground := Ground.data }], guard := none }) (v := ?vn26r14o23) rfl (by kernel_rfl) (by kernel_rfl) (by kernel_rfl) (fun _ _ _ h => h) (Or.inl ⟨by rfl, ?hn26r14o23⟩) hS ?_
      case hn26r14o23 => (intro wx hx; skip; go_simp; (try with_reducible rfl))
      try simp only [Act.put, List.setIfInBounds_toArray, List.set_cons_zero, List.set_cons_succ]
      refine wpAnyH_take (i := 24) (oi := { dst := some 88, op := Op.move (Operand.tmp 87), type := 4, pos := "law.go:160", after := #[{ on := 23, ground := Ground.data }, { on := 19, ground := Ground.chain }], guard := none }) (v := ?vn26r14o24) rfl (by kernel_rfl) (by kernel_rfl) (by kernel_rfl) (fun _ _ _ h => h) (Or.inl ⟨by rfl, ?hn26r14o24⟩) hS ?_
      case hn26r14o24 => (intro wx hx; skip; go_simp; (try with_reducible rfl))
      try simp only [Act.put, List.setIfInBounds_toArray, List.set_cons_zero, List.set_cons_succ]
      refine wpAnyH_take (i := 25) (oi := { dst := some 89, op := Op.move (Operand.tmp 10), type := 31, pos := "law.go:160", after := #[{ on := 24, ground := Ground.guard }], guard := some (24, true) }) (v := ?vn26r14o25) rfl (by kernel_rfl) (by kernel_rfl) (by kernel_rfl) (fun _ _ _ h => h) (Or.inl ⟨by rfl, ?hn26r14o25⟩) hS ?_
      case hn26r14o25 => (intro wx hx; skip; go_simp; (try with_reducible rfl))
      try simp only [Act.put, List.setIfInBounds_toArray, List.set_cons_zero, List.set_cons_succ]
      refine wpAnyH_take (i := 26) (oi := { dst := some 90, op := Op.move (Operand.tmp 12), type := 3, pos := "law.go:160", after := #[{ on := 24, ground := Ground.guard }], guard := some (24, true) }) (v := ?vn26r14o26) rfl (by kernel_rfl) (by kernel_rfl) (by kernel_rfl) (fun _ _ _ h => h) (Or.inl ⟨by rfl, ?hn26r14o26⟩) hS ?_
      case hn26r14o26 => (intro wx hx; skip; go_simp; (try with_reducible rfl))
      try simp only [Act.put, List.setIfInBounds_toArray, List.set_cons_zero, List.set_cons_succ]
      refine wpAnyH_take (i := 27) (oi := { dst := some 91, op := Op.binOp BinOp.add 3 (Operand.tmp 90) (Operand.const (Value.int IntKind.i64 3)) 3, type := 3, pos := "law.go:160", after := #[{ on := 26, ground := Ground.data }, { on := 24, ground := Ground.guard }], guard := some (24, true) }) (v := ?vn26r14o27) rfl (by kernel_rfl) (by kernel_rfl) (by kernel_rfl) (fun _ _ _ h => h) (Or.inl ⟨by rfl, ?hn26r14o27⟩) hS ?_
      case hn26r14o27 => (intro wx hx; skip; go_simp; (try with_reducible rfl))
      try simp only [Act.put, List.setIfInBounds_toArray, List.set_cons_zero, List.set_cons_succ]
      refine wpAnyH_take (i := 29) (oi := { dst := some 93, op := Op.fieldAddr 38 (Operand.tmp 7) 3, type := 0, pos := "law.go:160", after := #[{ on := 24, ground := Ground.guard }], guard := some (24, true) }) (v := ?vn26r14o29) rfl (by kernel_rfl) (by kernel_rfl) (by kernel_rfl) (fun _ _ _ h => h) (Or.inl ⟨by rfl, ?hn26r14o29⟩) hS ?_
      case hn26r14o29 => (intro wx hx; skip; go_simp; (try with_reducible rfl))
      try simp only [Act.put, List.setIfInBounds_toArray, List.set_cons_zero, List.set_cons_succ]
      refine wpAnyH_take (i := 30) (oi := { dst := some 94, op := Op.load 35 (Operand.tmp 93), type := 35, pos := "law.go:160", after := #[{ on := 29, ground := Ground.data }, { on := 24, ground := Ground.guard }], guard := some (24, true) }) (v := ?vn26r14o30) rfl (by kernel_rfl) (by kernel_rfl) (by kernel_rfl) (fun _ _ _ h => h) (Or.inl ⟨by rfl, ?hn26r14o30⟩) hS ?_
      case hn26r14o30 => (intro wx hx; obtain ⟨z0, z1, z2, z3, z4, z5, z6, z7, z8, z9⟩ := NodeS.cells hx; go_simp; (try with_reducible rfl))
      try simp only [Act.put, List.setIfInBounds_toArray, List.set_cons_zero, List.set_cons_succ]
      refine wpAnyH_ready (rs := [28]) (by kernel_rfl) (by simp) ?_
      refine AllReadyH.cons (o := { dst := some 92, op := Op.call { callee := Callee.value (Operand.func 27), args := #[Operand.tmp 89, Operand.tmp 91], argTypes := #[31, 3] }, type := 35, pos := "law.go:160", after := #[{ on := 25, ground := Ground.data }, { on := 27, ground := Ground.data }, { on := 24, ground := Ground.chain }, { on := 24, ground := Ground.guard }], guard := some (24, true) }) rfl (fun K hK => ?_) AllReadyH.nil
      go_simp
      refine (HGet3.out _ (hO.out.quiet (grown_drew (World.grownBy.refl _ none)))).mono ?_
      rintro e wA3 ⟨rfl, rfl⟩
      have hS1 := hS
      refine hK.out _ _ ?hsn26r14o28 (fun hS => ?_)
      case hsn26r14o28 => (exact hS1)
      clear hK K
      try simp only [Act.put, List.setIfInBounds_toArray, List.set_cons_zero, List.set_cons_succ]
      refine wpAnyH_take (i := 31) (oi := { dst := some 95, op := Op.binOp BinOp.eql 35 (Operand.tmp 92) (Operand.tmp 94) 35, type := 4, pos := "law.go:160", after := #[{ on := 28, ground := Ground.data }, { on := 30, ground := Ground.data }, { on := 24, ground := Ground.guard }], guard := some (24, true) }) (v := ?vn26r14o31) rfl (by kernel_rfl) (by kernel_rfl) (by kernel_rfl) (fun _ _ _ h => h) (Or.inl ⟨by rfl, ?hn26r14o31⟩) hS ?_
      case hn26r14o31 => (intro wx hx; skip; go_simp; (try with_reducible rfl))
      try simp only [Act.put, List.setIfInBounds_toArray, List.set_cons_zero, List.set_cons_succ]
      refine wpAnyH_take (i := 32) (oi := { dst := some 96, op := Op.pick (Operand.tmp 88) (Operand.tmp 95) (Operand.const (Value.bool false)), type := 4, pos := "law.go:160", after := #[{ on := 24, ground := Ground.data }, { on := 31, ground := Ground.data }], guard := none }) (v := ?vn26r14o32) rfl (by kernel_rfl) (by kernel_rfl) (by kernel_rfl) (fun _ _ _ h => h) (Or.inl ⟨by rfl, ?hn26r14o32⟩) hS ?_
      case hn26r14o32 => (intro wx hx; skip; go_simp; (try with_reducible rfl))
      try simp only [Act.put, List.setIfInBounds_toArray, List.set_cons_zero, List.set_cons_succ]
      refine wpAnyH_take (i := 33) (oi := { dst := some 97, op := Op.move (Operand.tmp 96), type := 4, pos := "law.go:160", after := #[{ on := 32, ground := Ground.data }, { on := 28, ground := Ground.chain }], guard := none }) (v := ?vn26r14o33) rfl (by kernel_rfl) (by kernel_rfl) (by kernel_rfl) (fun _ _ _ h => h) (Or.inl ⟨by rfl, ?hn26r14o33⟩) hS ?_
      case hn26r14o33 => (intro wx hx; skip; go_simp; (try with_reducible rfl))
      try simp only [Act.put, List.setIfInBounds_toArray, List.set_cons_zero, List.set_cons_succ]
      refine wpAnyH_take (i := 34) (oi := { dst := some 98, op := Op.move (Operand.tmp 10), type := 31, pos := "law.go:160", after := #[{ on := 33, ground := Ground.guard }], guard := some (33, true) }) (v := ?vn26r14o34) rfl (by kernel_rfl) (by kernel_rfl) (by kernel_rfl) (fun _ _ _ h => h) (Or.inl ⟨by rfl, ?hn26r14o34⟩) hS ?_
      case hn26r14o34 => (intro wx hx; skip; go_simp; (try with_reducible rfl))
      try simp only [Act.put, List.setIfInBounds_toArray, List.set_cons_zero, List.set_cons_succ]
      refine wpAnyH_take (i := 35) (oi := { dst := some 99, op := Op.move (Operand.tmp 12), type := 3, pos := "law.go:160", after := #[{ on := 33, ground := Ground.guard }], guard := some (33, true) }) (v := ?vn26r14o35) rfl (by kernel_rfl) (by kernel_rfl) (by kernel_rfl) (fun _ _ _ h => h) (Or.inl ⟨by rfl, ?hn26r14o35⟩) hS ?_
      case hn26r14o35 => (intro wx hx; skip; go_simp; (try with_reducible rfl))
      try simp only [Act.put, List.setIfInBounds_toArray, List.set_cons_zero, List.set_cons_succ]
      refine wpAnyH_take (i := 36) (oi := { dst := some 100, op := Op.binOp BinOp.add 3 (Operand.tmp 99) (Operand.const (Value.int IntKind.i64 8)) 3, type := 3, pos := "law.go:160", after := #[{ on := 35, ground := Ground.data }, { on := 33, ground := Ground.guard }], guard := some (33, true) }) (v := ?vn26r14o36) rfl (by kernel_rfl) (by kernel_rfl) (by kernel_rfl) (fun _ _ _ h => h) (Or.inl ⟨by rfl, ?hn26r14o36⟩) hS ?_
      case hn26r14o36 => (intro wx hx; skip; go_simp; (try with_reducible rfl))
      try simp only [Act.put, List.setIfInBounds_toArray, List.set_cons_zero, List.set_cons_succ]
      refine wpAnyH_take (i := 38) (oi := { dst := some 102, op := Op.fieldAddr 38 (Operand.tmp 7) 5, type := 0, pos := "law.go:160", after := #[{ on := 33, ground := Ground.guard }], guard := some (33, true) }) (v := ?vn26r14o38) rfl (by kernel_rfl) (by kernel_rfl) (by kernel_rfl) (fun _ _ _ h => h) (Or.inl ⟨by rfl, ?hn26r14o38⟩) hS ?_
      case hn26r14o38 => (intro wx hx; skip; go_simp; (try with_reducible rfl))
      try simp only [Act.put, List.setIfInBounds_toArray, List.set_cons_zero, List.set_cons_succ]
      refine wpAnyH_take (i := 39) (oi := { dst := some 103, op := Op.load 35 (Operand.tmp 102), type := 35, pos := "law.go:160", after := #[{ on := 38, ground := Ground.data }, { on := 33, ground := Ground.guard }], guard := some (33, true) }) (v := ?vn26r14o39) rfl (by kernel_rfl) (by kernel_rfl) (by kernel_rfl) (fun _ _ _ h => h) (Or.inl ⟨by rfl, ?hn26r14o39⟩) hS ?_
      case hn26r14o39 => (intro wx hx; obtain ⟨z0, z1, z2, z3, z4, z5, z6, z7, z8, z9⟩ := NodeS.cells hx; go_simp; (try with_reducible rfl))
      try simp only [Act.put, List.setIfInBounds_toArray, List.set_cons_zero, List.set_cons_succ]
      refine wpAnyH_ready (rs := [37]) (by kernel_rfl) (by simp) ?_
      refine AllReadyH.cons (o := { dst := some 101, op := Op.call { callee := Callee.value (Operand.func 27), args := #[Operand.tmp 98, Operand.tmp 100], argTypes := #[31, 3] }, type := 35, pos := "law.go:160", after := #[{ on := 34, ground := Ground.data }, { on := 36, ground := Ground.data }, { on := 33, ground := Ground.chain }, { on := 33, ground := Ground.guard }], guard := some (33, true) }) rfl (fun K hK => ?_) AllReadyH.nil
      go_simp
      refine (HGet8.out _ (hO.out.quiet (grown_drew (World.grownBy.refl _ none)))).mono ?_
      rintro e wA8 ⟨rfl, rfl⟩
      have hS1 := hS
      refine hK.out _ _ ?hsn26r14o37 (fun hS => ?_)
      case hsn26r14o37 => (exact hS1)
      clear hK K
      try simp only [Act.put, List.setIfInBounds_toArray, List.set_cons_zero, List.set_cons_succ]
      refine wpAnyH_take (i := 40) (oi := { dst := some 104, op := Op.binOp BinOp.eql 35 (Operand.tmp 101) (Operand.tmp 103) 35, type := 4, pos := "law.go:160", after := #[{ on := 37, ground := Ground.data }, { on := 39, ground := Ground.data }, { on := 33, ground := Ground.guard }], guard := some (33, true) }) (v := ?vn26r14o40) rfl (by kernel_rfl) (by kernel_rfl) (by kernel_rfl) (fun _ _ _ h => h) (Or.inl ⟨by rfl, ?hn26r14o40⟩) hS ?_
      case hn26r14o40 => (intro wx hx; skip; go_simp; (try with_reducible rfl))
      try simp only [Act.put, List.setIfInBounds_toArray, List.set_cons_zero, List.set_cons_succ]
      refine wpAnyH_take (i := 41) (oi := { dst := some 105, op := Op.pick (Operand.tmp 97) (Operand.tmp 104) (Operand.const (Value.bool false)), type := 4, pos := "law.go:160", after := #[{ on := 33, ground := Ground.data }, { on := 40, ground := Ground.data }], guard := none }) (v := ?vn26r14o41) rfl (by kernel_rfl) (by kernel_rfl) (by kernel_rfl) (fun _ _ _ h => h) (Or.inl ⟨by rfl, ?hn26r14o41⟩) hS ?_
      case hn26r14o41 => (intro wx hx; skip; go_simp; (try with_reducible rfl))
      try simp only [Act.put, List.setIfInBounds_toArray, List.set_cons_zero, List.set_cons_succ]
      refine wpAnyH_take (i := 42) (oi := { dst := some 106, op := Op.move (Operand.tmp 105), type := 4, pos := "law.go:160", after := #[{ on := 41, ground := Ground.data }, { on := 37, ground := Ground.chain }], guard := none }) (v := ?vn26r14o42) rfl (by kernel_rfl) (by kernel_rfl) (by kernel_rfl) (fun _ _ _ h => h) (Or.inl ⟨by rfl, ?hn26r14o42⟩) hS ?_
      case hn26r14o42 => (intro wx hx; skip; go_simp; (try with_reducible rfl))
      try simp only [Act.put, List.setIfInBounds_toArray, List.set_cons_zero, List.set_cons_succ]
      refine wpAnyH_take (i := 43) (oi := { dst := some 107, op := Op.move (Operand.tmp 10), type := 31, pos := "law.go:160", after := #[{ on := 42, ground := Ground.guard }], guard := some (42, true) }) (v := ?vn26r14o43) rfl (by kernel_rfl) (by kernel_rfl) (by kernel_rfl) (fun _ _ _ h => h) (Or.inl ⟨by rfl, ?hn26r14o43⟩) hS ?_
      case hn26r14o43 => (intro wx hx; skip; go_simp; (try with_reducible rfl))
      try simp only [Act.put, List.setIfInBounds_toArray, List.set_cons_zero, List.set_cons_succ]
      refine wpAnyH_take (i := 44) (oi := { dst := some 108, op := Op.move (Operand.tmp 12), type := 3, pos := "law.go:160", after := #[{ on := 42, ground := Ground.guard }], guard := some (42, true) }) (v := ?vn26r14o44) rfl (by kernel_rfl) (by kernel_rfl) (by kernel_rfl) (fun _ _ _ h => h) (Or.inl ⟨by rfl, ?hn26r14o44⟩) hS ?_
      case hn26r14o44 => (intro wx hx; skip; go_simp; (try with_reducible rfl))
      try simp only [Act.put, List.setIfInBounds_toArray, List.set_cons_zero, List.set_cons_succ]
      refine wpAnyH_take (i := 45) (oi := { dst := some 109, op := Op.binOp BinOp.add 3 (Operand.tmp 108) (Operand.const (Value.int IntKind.i64 9)) 3, type := 3, pos := "law.go:160", after := #[{ on := 44, ground := Ground.data }, { on := 42, ground := Ground.guard }], guard := some (42, true) }) (v := ?vn26r14o45) rfl (by kernel_rfl) (by kernel_rfl) (by kernel_rfl) (fun _ _ _ h => h) (Or.inl ⟨by rfl, ?hn26r14o45⟩) hS ?_
      case hn26r14o45 => (intro wx hx; skip; go_simp; (try with_reducible rfl))
      try simp only [Act.put, List.setIfInBounds_toArray, List.set_cons_zero, List.set_cons_succ]
      refine wpAnyH_take (i := 47) (oi := { dst := some 111, op := Op.fieldAddr 38 (Operand.tmp 7) 6, type := 0, pos := "law.go:160", after := #[{ on := 42, ground := Ground.guard }], guard := some (42, true) }) (v := ?vn26r14o47) rfl (by kernel_rfl) (by kernel_rfl) (by kernel_rfl) (fun _ _ _ h => h) (Or.inl ⟨by rfl, ?hn26r14o47⟩) hS ?_
      case hn26r14o47 => (intro wx hx; skip; go_simp; (try with_reducible rfl))
      try simp only [Act.put, List.setIfInBounds_toArray, List.set_cons_zero, List.set_cons_succ]
      refine wpAnyH_take (i := 48) (oi := { dst := some 112, op := Op.load 35 (Operand.tmp 111), type := 35, pos := "law.go:160", after := #[{ on := 47, ground := Ground.data }, { on := 42, ground := Ground.guard }], guard := some (42, true) }) (v := ?vn26r14o48) rfl (by kernel_rfl) (by kernel_rfl) (by kernel_rfl) (fun _ _ _ h => h) (Or.inl ⟨by rfl, ?hn26r14o48⟩) hS ?_
      case hn26r14o48 => (intro wx hx; obtain ⟨z0, z1, z2, z3, z4, z5, z6, z7, z8, z9⟩ := NodeS.cells hx; go_simp; (try with_reducible rfl))
      try simp only [Act.put, List.setIfInBounds_toArray, List.set_cons_zero, List.set_cons_succ]
      refine wpAnyH_ready (rs := [46]) (by kernel_rfl) (by simp) ?_
      refine AllReadyH.cons (o := { dst := some 110, op := Op.call { callee := Callee.value (Operand.func 27), args := #[Operand.tmp 107, Operand.tmp 109], argTypes := #[31, 3] }, type := 35, pos := "law.go:160", after := #[{ on := 43, ground := Ground.data }, { on := 45, ground := Ground.data }, { on := 42, ground := Ground.chain }, { on := 42, ground := Ground.guard }], guard := some (42, true) }) rfl (fun K hK => ?_) AllReadyH.nil
      go_simp
      refine (HGet9.out _ (hO.out.quiet (grown_drew (World.grownBy.refl _ none)))).mono ?_
      rintro e wA9 ⟨rfl, rfl⟩
      have hS1 := hS
      refine hK.out _ _ ?hsn26r14o46 (fun hS => ?_)
      case hsn26r14o46 => (exact hS1)
      clear hK K
      try simp only [Act.put, List.setIfInBounds_toArray, List.set_cons_zero, List.set_cons_succ]
      refine wpAnyH_take (i := 49) (oi := { dst := some 113, op := Op.binOp BinOp.eql 35 (Operand.tmp 110) (Operand.tmp 112) 35, type := 4, pos := "law.go:160", after := #[{ on := 46, ground := Ground.data }, { on := 48, ground := Ground.data }, { on := 42, ground := Ground.guard }], guard := some (42, true) }) (v := ?vn26r14o49) rfl (by kernel_rfl) (by kernel_rfl) (by kernel_rfl) (fun _ _ _ h => h) (Or.inl ⟨by rfl, ?hn26r14o49⟩) hS ?_
      case hn26r14o49 => (intro wx hx; skip; go_simp; (try with_reducible rfl))
      try simp only [Act.put, List.setIfInBounds_toArray, List.set_cons_zero, List.set_cons_succ]
      refine wpAnyH_take (i := 50) (oi := { dst := some 114, op := Op.pick (Operand.tmp 106) (Operand.tmp 113) (Operand.const (Value.bool false)), type := 4, pos := "law.go:160", after := #[{ on := 42, ground := Ground.data }, { on := 49, ground := Ground.data }], guard := none }) (v := ?vn26r14o50) rfl (by kernel_rfl) (by kernel_rfl) (by kernel_rfl) (fun _ _ _ h => h) (Or.inl ⟨by rfl, ?hn26r14o50⟩) hS ?_
      case hn26r14o50 => (intro wx hx; skip; go_simp; (try with_reducible rfl))
      try simp only [Act.put, List.setIfInBounds_toArray, List.set_cons_zero, List.set_cons_succ]
      refine wpAnyH_take (i := 51) (oi := { dst := some 115, op := Op.move (Operand.tmp 114), type := 4, pos := "law.go:160", after := #[{ on := 50, ground := Ground.data }, { on := 46, ground := Ground.chain }], guard := none }) (v := ?vn26r14o51) rfl (by kernel_rfl) (by kernel_rfl) (by kernel_rfl) (fun _ _ _ h => h) (Or.inl ⟨by rfl, ?hn26r14o51⟩) hS ?_
      case hn26r14o51 => (intro wx hx; skip; go_simp; (try with_reducible rfl))
      try simp only [Act.put, List.setIfInBounds_toArray, List.set_cons_zero, List.set_cons_succ]
      refine wpAnyH_ready (rs := [52]) (by kernel_rfl) (by simp) ?_
      refine AllReadyH.cons (o := { dst := some 116, op := Op.call { callee := Callee.value (Operand.func 8), args := #[], argTypes := #[] }, type := 4, pos := "law.go:160", after := #[{ on := 51, ground := Ground.chain }, { on := 51, ground := Ground.guard }], guard := some (51, true) }) rfl (fun K hK => ?_) AllReadyH.nil
      go_simp
      refine (works_any _).mono ?_
      rintro e wZ ⟨rfl, hgZ⟩
      have hS1 := hS.keep hgZ
      refine hK.out _ _ ?hsn26r14o52 (fun hS => ?_)
      case hsn26r14o52 => (exact hS1)
      clear hK K
      try simp only [Act.put, List.setIfInBounds_toArray, List.set_cons_zero, List.set_cons_succ]
      refine wpAnyH_take (i := 53) (oi := { dst := some 117, op := Op.pick (Operand.tmp 115) (Operand.tmp 116) (Operand.const (Value.bool false)), type := 4, pos := "law.go:160", after := #[{ on := 51, ground := Ground.data }, { on := 52, ground := Ground.data }], guard := none }) (v := ?vn26r14o53) rfl (by kernel_rfl) (by kernel_rfl) (by kernel_rfl) (fun _ _ _ h => h) (Or.inl ⟨by rfl, ?hn26r14o53⟩) hS ?_
      case hn26r14o53 => (intro wx hx; skip; go_simp; (try with_reducible rfl))
      try simp only [Act.put, List.setIfInBounds_toArray, List.set_cons_zero, List.set_cons_succ]
      refine wpAnyH_take (i := 54) (oi := { dst := some 8, op := Op.assign (Operand.tmp 117), type := 4, pos := "law.go:160", after := #[{ on := 53, ground := Ground.data }, { on := 52, ground := Ground.chain }, { on := 0, ground := Ground.phase }, { on := 1, ground := Ground.phase }, { on := 2, ground := Ground.phase }, { on := 3, ground := Ground.phase }, { on := 4, ground := Ground.phase }, { on := 5, ground := Ground.phase }, { on := 6, ground := Ground.phase }, { on := 7, ground := Ground.phase }, { on := 8, ground := Ground.phase }, { on := 9, ground := Ground.phase }, { on := 10, ground := Ground.phase }, { on := 11, ground := Ground.phase }, { on := 12, ground := Ground.phase }, { on := 13, ground := Ground.phase }, { on := 14, ground := Ground.phase }, { on := 15, ground := Ground.phase }, { on := 16, ground := Ground.phase }, { on := 17, ground := Ground.phase }, { on := 18, ground := Ground.phase }, { on := 19, ground := Ground.phase }, { on := 20, ground := Ground.phase }, { on := 21, ground := Ground.phase }, { on := 22, ground := Ground.phase }, { on := 23, ground := Ground.phase }, { on := 24, ground := Ground.phase }, { on := 25, ground := Ground.phase }, { on := 26, ground := Ground.phase }, { on := 27, ground := Ground.phase }, { on := 28, ground := Ground.phase }, { on := 29, ground := Ground.phase }, { on := 30, ground := Ground.phase }, { on := 31, ground := Ground.phase }, { on := 32, ground := Ground.phase }, { on := 33, ground := Ground.phase }, { on := 34, ground := Ground.phase }, { on := 35, ground := Ground.phase }, { on := 36, ground := Ground.phase }, { on := 37, ground := Ground.phase }, { on := 38, ground := Ground.phase }, { on := 39, ground := Ground.phase }, { on := 40, ground := Ground.phase }, { on := 41, ground := Ground.phase }, { on := 42, ground := Ground.phase }, { on := 43, ground := Ground.phase }, { on := 44, ground := Ground.phase }, { on := 45, ground := Ground.phase }, { on := 46, ground := Ground.phase }, { on := 47, ground := Ground.phase }, { on := 48, ground := Ground.phase }, { on := 49, ground := Ground.phase }, { on := 50, ground := Ground.phase }, { on := 51, ground := Ground.phase }, { on := 52, ground := Ground.phase }, { on := 53, ground := Ground.phase }], guard := none }) (v := ?vn26r14o54) rfl (by kernel_rfl) (by kernel_rfl) (by kernel_rfl) (fun _ _ _ h => h) (Or.inl ⟨by rfl, ?hn26r14o54⟩) hS ?_
      case hn26r14o54 => (intro wx hx; skip; go_simp; (try with_reducible rfl))
      try simp only [Act.put, List.setIfInBounds_toArray, List.set_cons_zero, List.set_cons_succ]
      refine wpAnyH_done (by kernel_rfl) ?_ _
      have hgw := Lib.hid (grown_trans (hO.out.quiet (grown_drew (World.grownBy.refl _ none))).grown hgZ)
      clear hS hS1 hS0 hO hgZ
      go_wp2
      go_ret
      exact ⟨rfl, hgw.out⟩

theorem walk (a0 a1 a2 : Int) (z0 z1 z2 z3 z4 z5 z6 z7 z8 z9 : Int) (w : World) (h0 : (Lit.int .u8 a0).wf = true) (h1 : (Lit.int .u8 a1).wf = true) (h2 : (Lit.int .u8 a2).wf = true) (k0 : (Lit.int .u64 z0).wf = true) (k1 : (Lit.int .u64 z1).wf = true) (k2 : (Lit.int .u64 z2).wf = true) (k3 : (Lit.int .u64 z3).wf = true) (k4 : (Lit.int .u64 z4).wf = true) (k5 : (Lit.int .u64 z5).wf = true) (k6 : (Lit.int .u64 z6).wf = true) (k7 : (Lit.int .u64 z7).wf = true) (k8 : (Lit.int .u64 z8).wf = true) (k9 : (Lit.int .u64 z9).wf = true) :
    Calls Try.prog 6 #[.int .u8 a0, .int .u8 a1, .int .u8 a2, .agg #[.int .u64 z0, .int .u64 z1, .int .u64 z2, .int .u64 z3, .int .u64 z4, .int .u64 z5, .int .u64 z6, .int .u64 z7, .int .u64 z8, .int .u64 z9]] w (WorksIs w) := by
  have b0 := bounds_u8 h0
  have b1 := bounds_u8 h1
  have b2 := bounds_u8 h2
  obtain ⟨x, rfl⟩ := Int.eq_ofNat_of_zero_le b0.1
  obtain ⟨y, rfl⟩ := Int.eq_ofNat_of_zero_le b1.1
  obtain ⟨n, rfl⟩ := Int.eq_ofNat_of_zero_le b2.1
  have q0 := bounds_u64 k0
  obtain ⟨v0, rfl⟩ := Int.eq_ofNat_of_zero_le q0.1
  have q1 := bounds_u64 k1
  obtain ⟨v1, rfl⟩ := Int.eq_ofNat_of_zero_le q1.1
  have q2 := bounds_u64 k2
  obtain ⟨v2, rfl⟩ := Int.eq_ofNat_of_zero_le q2.1
  have q3 := bounds_u64 k3
  obtain ⟨v3, rfl⟩ := Int.eq_ofNat_of_zero_le q3.1
  have q4 := bounds_u64 k4
  obtain ⟨v4, rfl⟩ := Int.eq_ofNat_of_zero_le q4.1
  have q5 := bounds_u64 k5
  obtain ⟨v5, rfl⟩ := Int.eq_ofNat_of_zero_le q5.1
  have q6 := bounds_u64 k6
  obtain ⟨v6, rfl⟩ := Int.eq_ofNat_of_zero_le q6.1
  have q7 := bounds_u64 k7
  obtain ⟨v7, rfl⟩ := Int.eq_ofNat_of_zero_le q7.1
  have q8 := bounds_u64 k8
  obtain ⟨v8, rfl⟩ := Int.eq_ofNat_of_zero_le q8.1
  have q9 := bounds_u64 k9
  obtain ⟨v9, rfl⟩ := Int.eq_ofNat_of_zero_le q9.1
  have hv : ∀ q ∈ [v0, v1, v2, v3, v4, v5, v6, v7, v8, v9], q < 18446744073709551616 := by
    intro q hq
    simp only [List.mem_cons, List.not_mem_nil, or_false] at hq
    rcases hq with rfl | rfl | rfl | rfl | rfl | rfl | rfl | rfl | rfl | rfl <;> omega
  cases hr : rightB 1 ((2 + x % 20 : Nat) : Int) ((2 + y % 60 : Nat) : Int) v0 v1 v2 v3 v4 v5 v6 v7 v8 v9 with
  | false => exact walk_no x y n v0 v1 v2 v3 v4 v5 v6 v7 v8 v9 w (by omega) (by omega) (by omega) hv hr
  | true => exact walk_yes x y n v0 v1 v2 v3 v4 v5 v6 v7 v8 v9 w (by omega) (by omega) (by omega) hv hr
end Go.Proofs.Ytmoddhfemejekaa.inodeNames
