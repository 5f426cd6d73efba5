/- InodeBack, walked. -/
import Derived.Test.YtmoddhfemejekaaInoI
import Derived.Test.YtmoddhfemejekaaInoJ
namespace Go.Proofs.Ytmoddhfemejekaa.inodeBack
open Go.RowKit Go.Grommet

set_option maxRecDepth 100000 in
set_option maxHeartbeats 1000000 in
theorem walk_far (a0 a1 a3 : Int) (v0 v1 v2 v3 v4 v5 v6 v7 v8 v9 : Nat) (td : Option Addr) (tl tc : Nat) (w : World) (h : 60 < tl) :
    Calls Try.prog 4 #[.int .u8 a0, .int .u8 a1, .slice td tl tc, .int .u8 a3, .agg #[.int .u64 (v0 : Int), .int .u64 (v1 : Int), .int .u64 (v2 : Int), .int .u64 (v3 : Int), .int .u64 (v4 : Int), .int .u64 (v5 : Int), .int .u64 (v6 : Int), .int .u64 (v7 : Int), .int .u64 (v8 : Int), .int .u64 (v9 : Int)]] w (WorksIs w) := by
  have g1 : (60 : Int) < (tl : Int) := by omega
  go_enter Try.func4, Try.ntmps4
  go_wp2_with fail
  refine (works_any _).mono ?_
  rintro e w5 ⟨rfl, hg⟩
  go_wp2
  go_ret
  exact ⟨rfl, grown_trans (World.grownBy_alloc w _ none) hg⟩

set_option maxRecDepth 100000 in
set_option maxHeartbeats 8000000 in
theorem walk_no (x y n v0 v1 v2 v3 v4 v5 v6 v7 v8 v9 : Nat) (td : Option Addr) (tl tc : Nat) (T : List Tur) (w : World) (hx : x < 256) (hy : y < 256) (hn : n < 256) (hv : ∀ q ∈ [v0, v1, v2, v3, v4, v5, v6, v7, v8, v9], q < 18446744073709551616) (hT : TursIn w td tl T) (htl : ¬ 60 < tl) (hr : rightB 1 ((2 + x % 20 : Nat) : Int) ((2 + y % 60 : Nat) : Int) v0 v1 v2 v3 v4 v5 v6 v7 v8 v9 = false) :
    Calls Try.prog 4 #[.int .u8 (x : Int), .int .u8 (y : Int), .slice td tl tc, .int .u8 (n : Int), .agg #[.int .u64 (v0 : Int), .int .u64 (v1 : Int), .int .u64 (v2 : Int), .int .u64 (v3 : Int), .int .u64 (v4 : Int), .int .u64 (v5 : Int), .int .u64 (v6 : Int), .int .u64 (v7 : Int), .int .u64 (v8 : Int), .int .u64 (v9 : Int)]] w (WorksIs w) := by
  have gt : ¬ (60 : Int) < (tl : Int) := by omega
  have hm := small_may' x y
  have HS := Lib.hid (fun wx => Small_any x y hx hy wx)
  have hB2 : 2 ≤ 2 + x % 20 ∧ 2 + x % 20 ≤ 21 := by omega
  have hC2 : 2 ≤ 2 + y % 60 ∧ 2 + y % 60 ≤ 61 := by omega
  generalize 2 + x % 20 = B at *
  generalize 2 + y % 60 = C at *
  rw [show ((1 : Nat) : Int) = 1 from rfl] at hm
  obtain ⟨Z, hZe⟩ : ∃ Z, 280 + 208 * 1 + 16 * B + 8 * C = Z := ⟨_, rfl⟩
  have HIm := Lib.hid (fun wx Ps (h : Own w wx Ps) => ImageH 1 B C hm td tl tc T w wx Ps h hT (by omega))
  rw [hZe, show ((1 : Nat) : Int) = 1 from rfl] at HIm
  have hZ : Z ≤ 100000 := by omega
  obtain ⟨D, HD⟩ : ∃ D, Hid (D = B - 1) := ⟨_, Lib.hid rfl⟩
  obtain ⟨E, HE⟩ : ∃ E, Hid (E = n % D) := ⟨_, Lib.hid rfl⟩
  obtain ⟨K, HK⟩ : ∃ K, Hid (K = 1 + E) := ⟨_, Lib.hid rfl⟩
  have hD : 1 ≤ D := by rw [HD.out]; omega
  have hE : E < D := by rw [HE.out]; exact Nat.mod_lt _ hD
  have hK : 1 ≤ K ∧ K < B := by rw [HK.out]; have := HD.out; omega
  obtain ⟨A, HA⟩ : ∃ A, Hid (A = 488 + 16 * K) := ⟨_, Lib.hid rfl⟩
  have hA : A + 10 ≤ Z := by rw [HA.out]; omega
  have hin : inodeV 1 (B : Int) (C : Int) (K : Int) = (A : Int) := by unfold inodeV; rw [if_pos ⟨hm, by omega, by omega⟩, HA.out]; omega
  have HI := Lib.hid (fun wx => InodeAt_any 1 (B : Int) (C : Int) (K : Int) wx)
  rw [hin] at HI
  have Hin := Lib.hid hin
  have Hwd : Hid (wordsV 1 (B : Int) (C : Int) ≤ (Z : Int)) := Lib.hid (by rw [words_pos' hm, ← hZe]; omega)
  have HR := Lib.hid (fun wx => Right_any 1 (B : Int) (C : Int) v0 v1 v2 v3 v4 v5 v6 v7 v8 v9 wx)
  have HRz := Lib.hid (fun wx => Right_any 1 (B : Int) (C : Int) 0 0 0 0 0 0 0 0 0 0 wx)
  have hz0 : rightB 1 (B : Int) (C : Int) 0 0 0 0 0 0 0 0 0 0 = false := by unfold rightB; rw [decide_eq_false_iff_not]; omega
  rw [hz0] at HRz
  have Hz0 := Lib.hid hz0
  rw [hr] at HR
  have HRr := Lib.hid hr
  have Hv := Lib.hid hv
  have eD : (B : Int) - 1 = (D : Int) := by rw [HD.out]; omega
  have eE : (n : Int).tmod (D : Int) = (E : Int) := by rw [HE.out, Int.tmod_eq_emod_of_nonneg (by omega), Int.natCast_emod]
  have eE' : (n : Int) % (D : Int) = (E : Int) := by rw [HE.out, Int.natCast_emod]
  have zD : ((D : Int) == 0) = false := by rw [beq_eq_false_iff_ne]; omega
  have eK : (1 : Int) + (E : Int) = (K : Int) := by rw [HK.out]; omega
  have nA : ¬ (A : Int) < 0 := by omega
  clear hx hy hr hm hin hz0 hv hT hZe
  unfold gv nv at *
  go_enter Try.func4, Try.ntmps4
  go_wp2_with fail
  obtain ⟨N, HN⟩ : ∃ N, Hid (N = w.heap.size) := ⟨_, Lib.hid rfl⟩
  have hO : Own w (w.alloc (.cells #[.int .u64 (v0 : Int), .int .u64 (v1 : Int), .int .u64 (v2 : Int), .int .u64 (v3 : Int), .int .u64 (v4 : Int), .int .u64 (v5 : Int), .int .u64 (v6 : Int), .int .u64 (v7 : Int), .int .u64 (v8 : Int), .int .u64 (v9 : Int)] 38)) [boxP N 38 #[.int .u64 (v0 : Int), .int .u64 (v1 : Int), .int .u64 (v2 : Int), .int .u64 (v3 : Int), .int .u64 (v4 : Int), .int .u64 (v5 : Int), .int .u64 (v6 : Int), .int .u64 (v7 : Int), .int .u64 (v8 : Int), .int .u64 (v9 : Int)]] := by rw [HN.out]; exact (Own.nil w).addBox _ _
  rw [← HN.out]
  refine (HS.out _).mono ?_
  rintro e w1 ⟨rfl, hg1⟩
  obtain ⟨G, HG⟩ : ∃ G, Hid (G = w1.heap.size) := ⟨_, Lib.hid rfl⟩
  have hO : Own w (w1.alloc (.cells #[.int .i64 1, .int .i64 (B : Int), .int .i64 (C : Int)] 23)) [boxP N 38 #[.int .u64 (v0 : Int), .int .u64 (v1 : Int), .int .u64 (v2 : Int), .int .u64 (v3 : Int), .int .u64 (v4 : Int), .int .u64 (v5 : Int), .int .u64 (v6 : Int), .int .u64 (v7 : Int), .int .u64 (v8 : Int), .int .u64 (v9 : Int)], boxP G 23 #[.int .i64 1, .int .i64 (B : Int), .int .i64 (C : Int)]] := by rw [HG.out]; exact (hO.quiet hg1).addBox _ _
  obtain ⟨g0, g1, g2⟩ := GeoS.cells (show GeoS G 1 (B : Int) (C : Int) _ from Own.box hO 1 rfl)
  replace hO := Lib.hid hO
  clear hg1 HS
  go_wp2_with fail
  rw [← HG.out]
  refine (HIm.out _ _ hO.out).mono ?_
  rintro e w2 ⟨YS, ad, cp, rfl, hYl, hYs, hO⟩
  have hO : Own w w2 [boxP N 38 #[.int .u64 (v0 : Int), .int .u64 (v1 : Int), .int .u64 (v2 : Int), .int .u64 (v3 : Int), .int .u64 (v4 : Int), .int .u64 (v5 : Int), .int .u64 (v6 : Int), .int .u64 (v7 : Int), .int .u64 (v8 : Int), .int .u64 (v9 : Int)], boxP G 23 #[.int .i64 1, .int .i64 (B : Int), .int .i64 (C : Int)], rowP 35 1 (.slice ad Z cp) Z (YS.map wv)] := hO
  have HYl := Lib.hid hYl
  obtain ⟨hW, hnil, _⟩ := Own.words hO 2 rfl hYs (by omega)
  have HNew := Lib.hid (NewH ad Z cp YS w w2 _ hO hW (by omega) hnil)
  have HYs := Lib.hid hYs
  clear HIm g0 g1 g2 hO hW hnil hYl hYs
  go_wp2_with fail
  refine HNew.out.mono ?_
  rintro e w3 ⟨g, rfl, hO⟩
  have hO : Own w w3 [boxP N 38 #[.int .u64 (v0 : Int), .int .u64 (v1 : Int), .int .u64 (v2 : Int), .int .u64 (v3 : Int), .int .u64 (v4 : Int), .int .u64 (v5 : Int), .int .u64 (v6 : Int), .int .u64 (v7 : Int), .int .u64 (v8 : Int), .int .u64 (v9 : Int)], boxP G 23 #[.int .i64 1, .int .i64 (B : Int), .int .i64 (C : Int)], rowP 35 1 (.slice ad Z cp) Z (YS.map wv), viewP g YS []] := hO
  obtain ⟨z0, z1, z2, z3, z4, z5, z6, z7, z8, z9⟩ := NodeS.cells (show NodeS N v0 v1 v2 v3 v4 v5 v6 v7 v8 v9 _ from Own.box hO 0 rfl)
  obtain ⟨g0, g1, g2⟩ := GeoS.cells (show GeoS G 1 (B : Int) (C : Int) _ from Own.box hO 1 rfl)
  have HAX : Hid ((A : Int) + 10 ≤ (YS.length : Int)) := Lib.hid (by rw [HYl.out]; omega)
  have HXm : Hid (YS.length ≤ 1000000) := Lib.hid (by rw [HYl.out]; omega)
  have HWd : Hid (wordsV 1 (B : Int) (C : Int) ≤ (YS.length : Int)) := Lib.hid (by rw [HYl.out]; exact Hwd.out)
  clear HNew
  have HP := Lib.hid (PutW12 3 g YS [] 1 (B : Int) (C : Int) (K : Int) v0 v1 v2 v3 v4 v5 v6 v7 v8 v9 w w3 _ hO rfl HRr.out)
  clear hO
  unfold nv gv at HP
  go_wp2_with fail
  refine HP.out.mono ?_
  rintro e w4 ⟨rfl, hO⟩
  clear g0 g1 g2 z0 z1 z2 z3 z4 z5 z6 z7 z8 z9
  clear HP
  obtain ⟨z0, z1, z2, z3, z4, z5, z6, z7, z8, z9⟩ := NodeS.cells (show NodeS N v0 v1 v2 v3 v4 v5 v6 v7 v8 v9 _ from Own.box hO 0 rfl)
  obtain ⟨g0, g1, g2⟩ := GeoS.cells (show GeoS G 1 (B : Int) (C : Int) _ from Own.box hO 1 rfl)
  replace hO := Lib.hid hO
  go_wp2_with fail
  refine (HR.out _).mono ?_
  rintro e w5 ⟨rfl, hg⟩
  have hO := hO.out.quiet hg
  clear g0 g1 g2 z0 z1 z2 z3 z4 z5 z6 z7 z8 z9
  have HWr := Lib.hid (show Calls Try.prog 22 #[.pointer (some ⟨g, 0, none⟩)] w5 fun e w' => ∃ ad5 cp5, e = .returned (.slice ad5 0 cp5) ∧ Own w w' [boxP N 38 #[.int .u64 (v0 : Int), .int .u64 (v1 : Int), .int .u64 (v2 : Int), .int .u64 (v3 : Int), .int .u64 (v4 : Int), .int .u64 (v5 : Int), .int .u64 (v6 : Int), .int .u64 (v7 : Int), .int .u64 (v8 : Int), .int .u64 (v9 : Int)], boxP G 23 #[.int .i64 1, .int .i64 (B : Int), .int .i64 (C : Int)], rowP 35 1 (.slice ad Z cp) Z (YS.map wv), viewP g YS [], rowP 82 2 (.slice ad5 0 cp5) 0 (wcells [])] from WritesH 3 g YS [] w w5 _ hO rfl)
  clear hO hg HR
  go_wp2_with fail
  refine HWr.out.mono ?_
  rintro e w6 ⟨ad5, cp5, rfl, hO⟩
  have HWr2 := Lib.hid (show Calls Try.prog 22 #[.pointer (some ⟨g, 0, none⟩)] w6 fun e w' => ∃ ad6 cp6, e = .returned (.slice ad6 0 cp6) ∧ Own w w' [boxP N 38 #[.int .u64 (v0 : Int), .int .u64 (v1 : Int), .int .u64 (v2 : Int), .int .u64 (v3 : Int), .int .u64 (v4 : Int), .int .u64 (v5 : Int), .int .u64 (v6 : Int), .int .u64 (v7 : Int), .int .u64 (v8 : Int), .int .u64 (v9 : Int)], boxP G 23 #[.int .i64 1, .int .i64 (B : Int), .int .i64 (C : Int)], rowP 35 1 (.slice ad Z cp) Z (YS.map wv), viewP g YS [], rowP 82 2 (.slice ad5 0 cp5) 0 (wcells []), rowP 82 2 (.slice ad6 0 cp6) 0 (wcells [])] from WritesH 3 g YS [] w w6 _ hO rfl)
  clear hO HWr
  go_wp2_with fail
  refine HWr2.out.mono ?_
  rintro e w7 ⟨ad6, cp6, rfl, hO⟩
  clear HWr2
  obtain ⟨z0, z1, z2, z3, z4, z5, z6, z7, z8, z9⟩ := NodeS.cells (show NodeS N v0 v1 v2 v3 v4 v5 v6 v7 v8 v9 _ from Own.box hO 0 rfl)
  obtain ⟨g0, g1, g2⟩ := GeoS.cells (show GeoS G 1 (B : Int) (C : Int) _ from Own.box hO 1 rfl)
  have HLL : Hid (([] : List (Nat × Nat)).length ≤ 10) := Lib.hid (by simp)
  have HWl : Hid (Wl YS.length []) := Lib.hid (Own.wl hO 3 rfl).1
  have HOut : Hid (∀ j, (j < A ∨ A + 10 ≤ j) → gotV YS [] j = YS.getD j 0) := Lib.hid (fun j _ => rfl)
  replace hO := Lib.hid hO
  go_wp2_with fail
  refine (HI.out _).mono ?_
  rintro e w10 ⟨rfl, hg⟩
  have hO := hO.out.quiet hg
  have HFl := Lib.hid (FlatH 3 g YS [] w w10 _ hO rfl)
  rw [HYl.out] at HFl
  clear g0 g1 g2 z0 z1 z2 z3 z4 z5 z6 z7 z8 z9 hg hO
  go_wp2_with fail
  refine HFl.out.mono ?_
  rintro e w11 ⟨ad7, cp7, rfl, hO⟩
  have hO : Own w w11 [boxP N 38 #[.int .u64 (v0 : Int), .int .u64 (v1 : Int), .int .u64 (v2 : Int), .int .u64 (v3 : Int), .int .u64 (v4 : Int), .int .u64 (v5 : Int), .int .u64 (v6 : Int), .int .u64 (v7 : Int), .int .u64 (v8 : Int), .int .u64 (v9 : Int)], boxP G 23 #[.int .i64 1, .int .i64 (B : Int), .int .i64 (C : Int)], rowP 35 1 (.slice ad Z cp) Z (YS.map wv), viewP g YS [], rowP 82 2 (.slice ad5 0 cp5) 0 (wcells []), rowP 82 2 (.slice ad6 0 cp6) 0 (wcells []), rowP 35 1 (.slice ad7 Z cp7) Z ((flatV YS []).map wv)] := hO
  have HFlen : Hid ((flatV YS []).length = Z) := Lib.hid (by rw [flatV_length]; exact HYl.out)
  have HGet : Hid (∀ j, j < Z → (j < A ∨ A + 10 ≤ j) → (flatV YS []).getD j 0 = YS.getD j 0) := Lib.hid (fun j hj ho => by
    rw [Go.Grommet.flat_get HWl.out j (by rw [HYl.out]; exact hj)]; exact HOut.out j ho)
  replace hO := Lib.hid hO
  clear HFl
  have eZ : ((Z : Int) != (Z : Int)) = false := by simp
  go_wp2_with fail
  go_loopw [21] (fun i wr => ∃ j : Nat, j ≤ Z ∧ i = .int .i64 (j : Int) ∧ Hid (Own w wr [boxP N 38 #[.int .u64 (v0 : Int), .int .u64 (v1 : Int), .int .u64 (v2 : Int), .int .u64 (v3 : Int), .int .u64 (v4 : Int), .int .u64 (v5 : Int), .int .u64 (v6 : Int), .int .u64 (v7 : Int), .int .u64 (v8 : Int), .int .u64 (v9 : Int)], boxP G 23 #[.int .i64 1, .int .i64 (B : Int), .int .i64 (C : Int)], rowP 35 1 (.slice ad Z cp) Z (YS.map wv), viewP g YS [], rowP 82 2 (.slice ad5 0 cp5) 0 (wcells []), rowP 82 2 (.slice ad6 0 cp6) 0 (wcells []), rowP 35 1 (.slice ad7 Z cp7) Z ((flatV YS []).map wv)])) (fun i _ => Z - (intOf i).toNat)
  case atStart => exact ⟨0, Nat.zero_le _, rfl, hO⟩
  case round =>
    clear hO
    obtain ⟨j, hj, rfl, hO⟩ := hrel
    have j0 : (0 : Int) ≤ (j : Int) := by omega
    have wA : IntKind.i64.wrap ((A : Int) + 10) = (A : Int) + 10 := IntWalk.i64_in _ ⟨by omega, by omega⟩
    by_cases hlt : j < Z
    · have hlt' : (j : Int) < (Z : Int) := by omega
      by_cases ho : j < A ∨ A + 10 ≤ j
      · obtain ⟨q1, rfl, c1, _, _⟩ := Own.word hO.out 6 rfl HFlen.out j hlt
        obtain ⟨q2, rfl, c2, _, _⟩ := Own.word hO.out 2 rfl HYl.out j hlt
        rw [HGet.out j hlt ho] at c1
        generalize YS.getD j 0 = U at c1 c2
        have eU : ((U : Int) != (U : Int)) = false := by simp
        have hO2 := Lib.hid (hO.out.quiet (grown_drew (World.grownBy.refl wr none)))
        by_cases hA1 : j < A
        · have dA : decide ((j : Int) < (A : Int)) = true := by simp; omega
          have dA' : (j : Int) < (A : Int) := by omega
          clear ho
          go_wp2_with fail
          go_quiet (fail)
          go_wp2
          go_roundw
          case rel => exact ⟨j + 1, by omega, by go_num, Lib.hid (hO.out.quiet (grown_drewN _ _ _))⟩
          case measure => simp [intOf]; omega
        · have dA : decide ((j : Int) < (A : Int)) = false := by simp; omega
          have dA' : ¬ (j : Int) < (A : Int) := by omega
          have dB : decide ((A : Int) + 10 ≤ (j : Int)) = true := by simp; omega
          have dB' : (A : Int) + 10 ≤ (j : Int) := by omega
          clear ho
          go_wp2_with fail
          go_quiet (fail)
          go_wp2
          go_roundw
          case rel => exact ⟨j + 1, by omega, by go_num, Lib.hid (hO.out.quiet (grown_drewN _ _ _))⟩
          case measure => simp [intOf]; omega
      · obtain ⟨q1, rfl, c1, _, _⟩ := Own.word hO.out 6 rfl HFlen.out j hlt
        obtain ⟨q2, rfl, c2, _, _⟩ := Own.word hO.out 2 rfl HYl.out j hlt
        generalize YS.getD j 0 = U at c2
        generalize (flatV YS []).getD j 0 = U2 at c1
        have dA : decide ((j : Int) < (A : Int)) = false := by simp; omega
        have dA' : ¬ (j : Int) < (A : Int) := by omega
        have dB : decide ((A : Int) + 10 ≤ (j : Int)) = false := by simp; omega
        have dB' : ¬ (A : Int) + 10 ≤ (j : Int) := by omega
        have n1 : ¬ j < A := by omega
        have n2 : ¬ A + 10 ≤ j := by omega
        clear ho
        go_wp2_with fail
        go_quiet (fail)
        go_wp2
        go_roundw
        case rel => exact ⟨j + 1, by omega, by go_num, Lib.hid (hO.out.quiet (grown_drewN _ _ _))⟩
        case measure => simp [intOf]; omega
    · have hlt' : ¬ (j : Int) < (Z : Int) := by omega
      have hokz := all_ok YS [0, 0, 0, 0, 0, 0, 0, 0, 0, 0] [] A (by rw [HYl.out]; exact hA) (by have := HLL.out; simp only [List.length_cons, List.length_nil] at *; omega)
      have hrz : rowS (A : Int) [0, 0, 0, 0, 0, 0, 0, 0, 0, 0] = (List.range ([0, 0, 0, 0, 0, 0, 0, 0, 0, 0] : List Nat).length).map (fun i => (((A + i : Nat) : Int), ([0, 0, 0, 0, 0, 0, 0, 0, 0, 0] : List Nat).getD i 0)) := by
        unfold rowS; apply List.map_congr_left; intro i _; simp
      rw [← hrz] at hokz
      obtain ⟨LZ, HLZ⟩ : ∃ LZ, Hid (allL YS [] (rowS (A : Int) [0, 0, 0, 0, 0, 0, 0, 0, 0, 0]) = LZ) := ⟨_, Lib.hid rfl⟩
      rw [HLZ.out] at hokz
      have HOkz := Lib.hid hokz
      have HWi := Lib.hid (WipeH12 3 g YS [] 1 (B : Int) (C : Int) (K : Int) (A : Int) 0 w wr _ [boxP N 38 #[.int .u64 (v0 : Int), .int .u64 (v1 : Int), .int .u64 (v2 : Int), .int .u64 (v3 : Int), .int .u64 (v4 : Int), .int .u64 (v5 : Int), .int .u64 (v6 : Int), .int .u64 (v7 : Int), .int .u64 (v8 : Int), .int .u64 (v9 : Int)], boxP G 23 #[.int .i64 1, .int .i64 (B : Int), .int .i64 (C : Int)], rowP 35 1 (.slice ad Z cp) Z (YS.map wv), viewP g YS LZ, rowP 82 2 (.slice ad5 0 cp5) 0 (wcells []), rowP 82 2 (.slice ad6 0 cp6) 0 (wcells []), rowP 35 1 (.slice ad7 Z cp7) Z ((flatV YS []).map wv)] hO.out rfl (by omega) Hin.out ⟨by omega, HAX.out⟩ HXm.out HWd.out (by rw [HOkz.out.1]; rfl) (by rw [HLZ.out]; rfl))
      have hO := hO.out
      obtain ⟨g0, g1, g2⟩ := GeoS.cells (show GeoS G 1 (B : Int) (C : Int) _ from Own.box hO 1 rfl)
      clear hO hokz hrz
      unfold gv at HWi
      go_wp2_with fail
      refine HWi.out.mono ?_
      rintro e w12 ⟨rfl, hO⟩
      clear g0 g1 g2 HWi
      obtain ⟨g0, g1, g2⟩ := GeoS.cells (show GeoS G 1 (B : Int) (C : Int) _ from Own.box hO 1 rfl)
      have HGn := Lib.hid (GetNo 3 g YS LZ 1 (B : Int) (C : Int) (K : Int) (A : Int) 0 0 0 0 0 0 0 0 0 0 w w12 _ hO rfl (by omega) Hin.out ⟨by omega, HAX.out⟩ HXm.out HWd.out (fun i hi => by
        have := HAX.out
        unfold gotI
        rw [if_pos ⟨by omega, by omega⟩, show ((A : Int) + (i : Int)).toNat = A + i from by omega, HOkz.out.2 (A + i), if_pos ⟨by omega, by show A + i < A + 10; omega⟩, Nat.add_sub_cancel_left]) Hz0.out)
      replace hO := Lib.hid hO
      unfold gv at HGn
      go_wp2_with fail
      refine HGn.out.mono ?_
      rintro e w13 ⟨rfl, hO⟩
      have hO := hO.quiet (World.grownBy_alloc w13 (.cells #[.int .u64 0, .int .u64 0, .int .u64 0, .int .u64 0, .int .u64 0, .int .u64 0, .int .u64 0, .int .u64 0, .int .u64 0, .int .u64 0] 38) none)
      clear g0 g1 g2 HGn
      obtain ⟨g0, g1, g2⟩ := GeoS.cells (show GeoS G 1 (B : Int) (C : Int) _ from Own.box hO 1 rfl)
      have hgw := Lib.hid hO.grown
      clear hO
      go_wp2_with fail
      refine (HRz.out _).mono ?_
      rintro e w14 ⟨rfl, hg⟩
      have hgw := Lib.hid (grown_trans hgw.out hg)
      clear hg g0 g1 g2
      go_wp2_with fail
      refine (works_any _).mono ?_
      rintro e w15 ⟨rfl, hg⟩
      go_wp2
      go_ret
      exact ⟨rfl, grown_trans hgw.out hg⟩

set_option maxRecDepth 100000 in
set_option maxHeartbeats 8000000 in
theorem walk_yes (x y n v0 v1 v2 v3 v4 v5 v6 v7 v8 v9 : Nat) (td : Option Addr) (tl tc : Nat) (T : List Tur) (w : World) (hx : x < 256) (hy : y < 256) (hn : n < 256) (hv : ∀ q ∈ [v0, v1, v2, v3, v4, v5, v6, v7, v8, v9], q < 18446744073709551616) (hT : TursIn w td tl T) (htl : ¬ 60 < tl) (hr : rightB 1 ((2 + x % 20 : Nat) : Int) ((2 + y % 60 : Nat) : Int) v0 v1 v2 v3 v4 v5 v6 v7 v8 v9 = true) :
    Calls Try.prog 4 #[.int .u8 (x : Int), .int .u8 (y : Int), .slice td tl tc, .int .u8 (n : Int), .agg #[.int .u64 (v0 : Int), .int .u64 (v1 : Int), .int .u64 (v2 : Int), .int .u64 (v3 : Int), .int .u64 (v4 : Int), .int .u64 (v5 : Int), .int .u64 (v6 : Int), .int .u64 (v7 : Int), .int .u64 (v8 : Int), .int .u64 (v9 : Int)]] w (WorksIs w) := by
  have gt : ¬ (60 : Int) < (tl : Int) := by omega
  have hm := small_may' x y
  have HS := Lib.hid (fun wx => Small_any x y hx hy wx)
  have hB2 : 2 ≤ 2 + x % 20 ∧ 2 + x % 20 ≤ 21 := by omega
  have hC2 : 2 ≤ 2 + y % 60 ∧ 2 + y % 60 ≤ 61 := by omega
  generalize 2 + x % 20 = B at *
  generalize 2 + y % 60 = C at *
  rw [show ((1 : Nat) : Int) = 1 from rfl] at hm
  obtain ⟨Z, hZe⟩ : ∃ Z, 280 + 208 * 1 + 16 * B + 8 * C = Z := ⟨_, rfl⟩
  have HIm := Lib.hid (fun wx Ps (h : Own w wx Ps) => ImageH 1 B C hm td tl tc T w wx Ps h hT (by omega))
  rw [hZe, show ((1 : Nat) : Int) = 1 from rfl] at HIm
  have hZ : Z ≤ 100000 := by omega
  obtain ⟨D, HD⟩ : ∃ D, Hid (D = B - 1) := ⟨_, Lib.hid rfl⟩
  obtain ⟨E, HE⟩ : ∃ E, Hid (E = n % D) := ⟨_, Lib.hid rfl⟩
  obtain ⟨K, HK⟩ : ∃ K, Hid (K = 1 + E) := ⟨_, Lib.hid rfl⟩
  have hD : 1 ≤ D := by rw [HD.out]; omega
  have hE : E < D := by rw [HE.out]; exact Nat.mod_lt _ hD
  have hK : 1 ≤ K ∧ K < B := by rw [HK.out]; have := HD.out; omega
  obtain ⟨A, HA⟩ : ∃ A, Hid (A = 488 + 16 * K) := ⟨_, Lib.hid rfl⟩
  have hA : A + 10 ≤ Z := by rw [HA.out]; omega
  have hin : inodeV 1 (B : Int) (C : Int) (K : Int) = (A : Int) := by unfold inodeV; rw [if_pos ⟨hm, by omega, by omega⟩, HA.out]; omega
  have HI := Lib.hid (fun wx => InodeAt_any 1 (B : Int) (C : Int) (K : Int) wx)
  rw [hin] at HI
  have Hin := Lib.hid hin
  have Hwd : Hid (wordsV 1 (B : Int) (C : Int) ≤ (Z : Int)) := Lib.hid (by rw [words_pos' hm, ← hZe]; omega)
  have HR := Lib.hid (fun wx => Right_any 1 (B : Int) (C : Int) v0 v1 v2 v3 v4 v5 v6 v7 v8 v9 wx)
  have HRz := Lib.hid (fun wx => Right_any 1 (B : Int) (C : Int) 0 0 0 0 0 0 0 0 0 0 wx)
  have hz0 : rightB 1 (B : Int) (C : Int) 0 0 0 0 0 0 0 0 0 0 = false := by unfold rightB; rw [decide_eq_false_iff_not]; omega
  rw [hz0] at HRz
  have Hz0 := Lib.hid hz0
  rw [hr] at HR
  have HRr := Lib.hid hr
  have Hv := Lib.hid hv
  have eD : (B : Int) - 1 = (D : Int) := by rw [HD.out]; omega
  have eE : (n : Int).tmod (D : Int) = (E : Int) := by rw [HE.out, Int.tmod_eq_emod_of_nonneg (by omega), Int.natCast_emod]
  have eE' : (n : Int) % (D : Int) = (E : Int) := by rw [HE.out, Int.natCast_emod]
  have zD : ((D : Int) == 0) = false := by rw [beq_eq_false_iff_ne]; omega
  have eK : (1 : Int) + (E : Int) = (K : Int) := by rw [HK.out]; omega
  have nA : ¬ (A : Int) < 0 := by omega
  clear hx hy hr hm hin hz0 hv hT hZe
  unfold gv nv at *
  go_enter Try.func4, Try.ntmps4
  go_wp2_with fail
  obtain ⟨N, HN⟩ : ∃ N, Hid (N = w.heap.size) := ⟨_, Lib.hid rfl⟩
  have hO : Own w (w.alloc (.cells #[.int .u64 (v0 : Int), .int .u64 (v1 : Int), .int .u64 (v2 : Int), .int .u64 (v3 : Int), .int .u64 (v4 : Int), .int .u64 (v5 : Int), .int .u64 (v6 : Int), .int .u64 (v7 : Int), .int .u64 (v8 : Int), .int .u64 (v9 : Int)] 38)) [boxP N 38 #[.int .u64 (v0 : Int), .int .u64 (v1 : Int), .int .u64 (v2 : Int), .int .u64 (v3 : Int), .int .u64 (v4 : Int), .int .u64 (v5 : Int), .int .u64 (v6 : Int), .int .u64 (v7 : Int), .int .u64 (v8 : Int), .int .u64 (v9 : Int)]] := by rw [HN.out]; exact (Own.nil w).addBox _ _
  rw [← HN.out]
  refine (HS.out _).mono ?_
  rintro e w1 ⟨rfl, hg1⟩
  obtain ⟨G, HG⟩ : ∃ G, Hid (G = w1.heap.size) := ⟨_, Lib.hid rfl⟩
  have hO : Own w (w1.alloc (.cells #[.int .i64 1, .int .i64 (B : Int), .int .i64 (C : Int)] 23)) [boxP N 38 #[.int .u64 (v0 : Int), .int .u64 (v1 : Int), .int .u64 (v2 : Int), .int .u64 (v3 : Int), .int .u64 (v4 : Int), .int .u64 (v5 : Int), .int .u64 (v6 : Int), .int .u64 (v7 : Int), .int .u64 (v8 : Int), .int .u64 (v9 : Int)], boxP G 23 #[.int .i64 1, .int .i64 (B : Int), .int .i64 (C : Int)]] := by rw [HG.out]; exact (hO.quiet hg1).addBox _ _
  obtain ⟨g0, g1, g2⟩ := GeoS.cells (show GeoS G 1 (B : Int) (C : Int) _ from Own.box hO 1 rfl)
  replace hO := Lib.hid hO
  clear hg1 HS
  go_wp2_with fail
  rw [← HG.out]
  refine (HIm.out _ _ hO.out).mono ?_
  rintro e w2 ⟨YS, ad, cp, rfl, hYl, hYs, hO⟩
  have hO : Own w w2 [boxP N 38 #[.int .u64 (v0 : Int), .int .u64 (v1 : Int), .int .u64 (v2 : Int), .int .u64 (v3 : Int), .int .u64 (v4 : Int), .int .u64 (v5 : Int), .int .u64 (v6 : Int), .int .u64 (v7 : Int), .int .u64 (v8 : Int), .int .u64 (v9 : Int)], boxP G 23 #[.int .i64 1, .int .i64 (B : Int), .int .i64 (C : Int)], rowP 35 1 (.slice ad Z cp) Z (YS.map wv)] := hO
  have HYl := Lib.hid hYl
  obtain ⟨hW, hnil, _⟩ := Own.words hO 2 rfl hYs (by omega)
  have HNew := Lib.hid (NewH ad Z cp YS w w2 _ hO hW (by omega) hnil)
  have HYs := Lib.hid hYs
  clear HIm g0 g1 g2 hO hW hnil hYl hYs
  go_wp2_with fail
  refine HNew.out.mono ?_
  rintro e w3 ⟨g, rfl, hO⟩
  have hO : Own w w3 [boxP N 38 #[.int .u64 (v0 : Int), .int .u64 (v1 : Int), .int .u64 (v2 : Int), .int .u64 (v3 : Int), .int .u64 (v4 : Int), .int .u64 (v5 : Int), .int .u64 (v6 : Int), .int .u64 (v7 : Int), .int .u64 (v8 : Int), .int .u64 (v9 : Int)], boxP G 23 #[.int .i64 1, .int .i64 (B : Int), .int .i64 (C : Int)], rowP 35 1 (.slice ad Z cp) Z (YS.map wv), viewP g YS []] := hO
  obtain ⟨z0, z1, z2, z3, z4, z5, z6, z7, z8, z9⟩ := NodeS.cells (show NodeS N v0 v1 v2 v3 v4 v5 v6 v7 v8 v9 _ from Own.box hO 0 rfl)
  obtain ⟨g0, g1, g2⟩ := GeoS.cells (show GeoS G 1 (B : Int) (C : Int) _ from Own.box hO 1 rfl)
  have HAX : Hid ((A : Int) + 10 ≤ (YS.length : Int)) := Lib.hid (by rw [HYl.out]; omega)
  have HXm : Hid (YS.length ≤ 1000000) := Lib.hid (by rw [HYl.out]; omega)
  have HWd : Hid (wordsV 1 (B : Int) (C : Int) ≤ (YS.length : Int)) := Lib.hid (by rw [HYl.out]; exact Hwd.out)
  clear HNew
  have hok := all_ok YS [v0, v1, v2, v3, v4, v5, v6, v7, v8, v9] [] A (by rw [HYl.out]; exact hA) (by simp)
  have hrs : rowS (A : Int) [v0, v1, v2, v3, v4, v5, v6, v7, v8, v9] = (List.range ([v0, v1, v2, v3, v4, v5, v6, v7, v8, v9] : List Nat).length).map (fun i => (((A + i : Nat) : Int), ([v0, v1, v2, v3, v4, v5, v6, v7, v8, v9] : List Nat).getD i 0)) := by
    unfold rowS; apply List.map_congr_left; intro i _; simp
  rw [← hrs] at hok
  obtain ⟨LL, HLe⟩ : ∃ LL, Hid (allL YS [] (rowS (A : Int) [v0, v1, v2, v3, v4, v5, v6, v7, v8, v9]) = LL) := ⟨_, Lib.hid rfl⟩
  rw [HLe.out] at hok
  have HOk := Lib.hid hok
  have HLL : Hid (LL.length ≤ 10) := Lib.hid (by rw [← HLe.out]; have := allL_length YS (rowS (A : Int) [v0, v1, v2, v3, v4, v5, v6, v7, v8, v9]) []; rw [rowS_length] at this; simpa using this)
  obtain ⟨Q, HQ⟩ : ∃ Q, Hid (Q = LL.length) := ⟨_, Lib.hid rfl⟩
  have hQ10 : ¬ (10 : Int) < (Q : Int) := by have := HLL.out; rw [HQ.out]; omega
  have eQ : ((Q : Int) != (Q : Int)) = false := by simp
  have Hgot : Hid (∀ i, i < 10 → gotI YS LL ((A : Int) + ((i : Nat) : Int)) = [v0, v1, v2, v3, v4, v5, v6, v7, v8, v9].getD i 0) := Lib.hid (fun i hi => by
    have := HAX.out
    unfold gotI
    rw [if_pos ⟨by omega, by omega⟩, show ((A : Int) + (i : Int)).toNat = A + i from by omega, HOk.out.2 (A + i), if_pos ⟨by omega, by show A + i < A + 10; omega⟩, Nat.add_sub_cancel_left])
  have Hagain : Hid (allE YS LL (rowS (A : Int) [v0, v1, v2, v3, v4, v5, v6, v7, v8, v9]) = 0 ∧ allL YS LL (rowS (A : Int) [v0, v1, v2, v3, v4, v5, v6, v7, v8, v9]) = LL) := Lib.hid (all_same _ (fun p hp => by
    obtain ⟨i, hi, rfl⟩ := List.mem_map.1 hp
    have hi := List.mem_range.1 hi
    have hi : i < 10 := hi
    have := HAX.out
    exact same_set ⟨by dsimp only; omega, by dsimp only; omega⟩ (Hgot.out i hi)))
  have HOut : Hid (∀ j, (j < A ∨ A + 10 ≤ j) → gotV YS LL j = YS.getD j 0) := Lib.hid (fun j hj => by
    rw [HOk.out.2 j, if_neg (by show ¬ (A ≤ j ∧ j < A + 10); omega)]; rfl)
  have HP := Lib.hid (PutH12 3 g YS [] 1 (B : Int) (C : Int) (K : Int) (A : Int) v0 v1 v2 v3 v4 v5 v6 v7 v8 v9 0 w w3 _ [boxP N 38 #[.int .u64 (v0 : Int), .int .u64 (v1 : Int), .int .u64 (v2 : Int), .int .u64 (v3 : Int), .int .u64 (v4 : Int), .int .u64 (v5 : Int), .int .u64 (v6 : Int), .int .u64 (v7 : Int), .int .u64 (v8 : Int), .int .u64 (v9 : Int)], boxP G 23 #[.int .i64 1, .int .i64 (B : Int), .int .i64 (C : Int)], rowP 35 1 (.slice ad Z cp) Z (YS.map wv), viewP g YS LL] hO rfl (by omega) Hin.out ⟨by omega, HAX.out⟩ HXm.out HWd.out HRr.out Hv.out (by rw [HOk.out.1]; rfl) (by rw [HLe.out]; rfl))
  clear hO hok hrs
  unfold nv gv at HP
  go_wp2_with fail
  refine HP.out.mono ?_
  rintro e w4 ⟨rfl, hO⟩
  clear g0 g1 g2 z0 z1 z2 z3 z4 z5 z6 z7 z8 z9
  clear HP
  obtain ⟨z0, z1, z2, z3, z4, z5, z6, z7, z8, z9⟩ := NodeS.cells (show NodeS N v0 v1 v2 v3 v4 v5 v6 v7 v8 v9 _ from Own.box hO 0 rfl)
  obtain ⟨g0, g1, g2⟩ := GeoS.cells (show GeoS G 1 (B : Int) (C : Int) _ from Own.box hO 1 rfl)
  replace hO := Lib.hid hO
  go_wp2_with fail
  refine (HR.out _).mono ?_
  rintro e w5 ⟨rfl, hg⟩
  have hO := hO.out.quiet hg
  clear g0 g1 g2 z0 z1 z2 z3 z4 z5 z6 z7 z8 z9
  have HWr := Lib.hid (WritesH 3 g YS LL w w5 _ hO rfl)
  rw [← HQ.out] at HWr
  clear hO hg
  go_wp2_with fail
  refine HWr.out.mono ?_
  rintro e w6 ⟨ad5, cp5, rfl, hO⟩
  have hO : Own w w6 [boxP N 38 #[.int .u64 (v0 : Int), .int .u64 (v1 : Int), .int .u64 (v2 : Int), .int .u64 (v3 : Int), .int .u64 (v4 : Int), .int .u64 (v5 : Int), .int .u64 (v6 : Int), .int .u64 (v7 : Int), .int .u64 (v8 : Int), .int .u64 (v9 : Int)], boxP G 23 #[.int .i64 1, .int .i64 (B : Int), .int .i64 (C : Int)], rowP 35 1 (.slice ad Z cp) Z (YS.map wv), viewP g YS LL, rowP 82 2 (.slice ad5 Q cp5) Q (wcells LL)] := hO
  clear HWr
  obtain ⟨z0, z1, z2, z3, z4, z5, z6, z7, z8, z9⟩ := NodeS.cells (show NodeS N v0 v1 v2 v3 v4 v5 v6 v7 v8 v9 _ from Own.box hO 0 rfl)
  obtain ⟨g0, g1, g2⟩ := GeoS.cells (show GeoS G 1 (B : Int) (C : Int) _ from Own.box hO 1 rfl)
  have HGy := Lib.hid (GetYes 3 g YS LL 1 (B : Int) (C : Int) (K : Int) (A : Int) v0 v1 v2 v3 v4 v5 v6 v7 v8 v9 w w6 _ hO rfl (by omega) Hin.out ⟨by omega, HAX.out⟩ HXm.out HWd.out Hgot.out HRr.out)
  unfold gv at HGy
  replace hO := Lib.hid hO
  go_wp2_with fail
  refine HGy.out.mono ?_
  rintro e w7 ⟨rfl, hO⟩
  have hO := hO.quiet (World.grownBy_alloc w7 (.cells #[.int .u64 (v0 : Int), .int .u64 (v1 : Int), .int .u64 (v2 : Int), .int .u64 (v3 : Int), .int .u64 (v4 : Int), .int .u64 (v5 : Int), .int .u64 (v6 : Int), .int .u64 (v7 : Int), .int .u64 (v8 : Int), .int .u64 (v9 : Int)] 38) none)
  clear g0 g1 g2 z0 z1 z2 z3 z4 z5 z6 z7 z8 z9
  clear HGy
  obtain ⟨z0, z1, z2, z3, z4, z5, z6, z7, z8, z9⟩ := NodeS.cells (show NodeS N v0 v1 v2 v3 v4 v5 v6 v7 v8 v9 _ from Own.box hO 0 rfl)
  obtain ⟨g0, g1, g2⟩ := GeoS.cells (show GeoS G 1 (B : Int) (C : Int) _ from Own.box hO 1 rfl)
  have hne := neq_same (v0 : Int) (v1 : Int) (v2 : Int) (v3 : Int) (v4 : Int) (v5 : Int) (v6 : Int) (v7 : Int) (v8 : Int) (v9 : Int)
  have HP2 := Lib.hid (PutH12 3 g YS LL 1 (B : Int) (C : Int) (K : Int) (A : Int) v0 v1 v2 v3 v4 v5 v6 v7 v8 v9 0 w _ _ [boxP N 38 #[.int .u64 (v0 : Int), .int .u64 (v1 : Int), .int .u64 (v2 : Int), .int .u64 (v3 : Int), .int .u64 (v4 : Int), .int .u64 (v5 : Int), .int .u64 (v6 : Int), .int .u64 (v7 : Int), .int .u64 (v8 : Int), .int .u64 (v9 : Int)], boxP G 23 #[.int .i64 1, .int .i64 (B : Int), .int .i64 (C : Int)], rowP 35 1 (.slice ad Z cp) Z (YS.map wv), viewP g YS LL, rowP 82 2 (.slice ad5 Q cp5) Q (wcells LL)] hO rfl (by omega) Hin.out ⟨by omega, HAX.out⟩ HXm.out HWd.out HRr.out Hv.out (by rw [Hagain.out.1]; rfl) (by rw [Hagain.out.2]; rfl))
  unfold nv gv at HP2
  clear hO
  go_wp2_with fail
  refine HP2.out.mono ?_
  rintro e w8 ⟨rfl, hO⟩
  clear g0 g1 g2 z0 z1 z2 z3 z4 z5 z6 z7 z8 z9
  clear HP2 hne
  have HWr := Lib.hid (WritesH 3 g YS LL w w8 _ hO rfl)
  rw [← HQ.out] at HWr
  clear hO
  go_wp2_with fail
  refine HWr.out.mono ?_
  rintro e w9 ⟨ad6, cp6, rfl, hO⟩
  have hO : Own w w9 [boxP N 38 #[.int .u64 (v0 : Int), .int .u64 (v1 : Int), .int .u64 (v2 : Int), .int .u64 (v3 : Int), .int .u64 (v4 : Int), .int .u64 (v5 : Int), .int .u64 (v6 : Int), .int .u64 (v7 : Int), .int .u64 (v8 : Int), .int .u64 (v9 : Int)], boxP G 23 #[.int .i64 1, .int .i64 (B : Int), .int .i64 (C : Int)], rowP 35 1 (.slice ad Z cp) Z (YS.map wv), viewP g YS LL, rowP 82 2 (.slice ad5 Q cp5) Q (wcells LL), rowP 82 2 (.slice ad6 Q cp6) Q (wcells LL)] := hO
  clear HWr
  obtain ⟨z0, z1, z2, z3, z4, z5, z6, z7, z8, z9⟩ := NodeS.cells (show NodeS N v0 v1 v2 v3 v4 v5 v6 v7 v8 v9 _ from Own.box hO 0 rfl)
  obtain ⟨g0, g1, g2⟩ := GeoS.cells (show GeoS G 1 (B : Int) (C : Int) _ from Own.box hO 1 rfl)
  have HWl : Hid (Wl YS.length LL) := Lib.hid (Own.wl hO 3 rfl).1
  replace hO := Lib.hid hO
  go_wp2_with fail
  refine (HI.out _).mono ?_
  rintro e w10 ⟨rfl, hg⟩
  have hO := hO.out.quiet hg
  have HFl := Lib.hid (FlatH 3 g YS LL w w10 _ hO rfl)
  rw [HYl.out] at HFl
  clear g0 g1 g2 z0 z1 z2 z3 z4 z5 z6 z7 z8 z9 hg hO
  go_wp2_with fail
  refine HFl.out.mono ?_
  rintro e w11 ⟨ad7, cp7, rfl, hO⟩
  have hO : Own w w11 [boxP N 38 #[.int .u64 (v0 : Int), .int .u64 (v1 : Int), .int .u64 (v2 : Int), .int .u64 (v3 : Int), .int .u64 (v4 : Int), .int .u64 (v5 : Int), .int .u64 (v6 : Int), .int .u64 (v7 : Int), .int .u64 (v8 : Int), .int .u64 (v9 : Int)], boxP G 23 #[.int .i64 1, .int .i64 (B : Int), .int .i64 (C : Int)], rowP 35 1 (.slice ad Z cp) Z (YS.map wv), viewP g YS LL, rowP 82 2 (.slice ad5 Q cp5) Q (wcells LL), rowP 82 2 (.slice ad6 Q cp6) Q (wcells LL), rowP 35 1 (.slice ad7 Z cp7) Z ((flatV YS LL).map wv)] := hO
  have HFlen : Hid ((flatV YS LL).length = Z) := Lib.hid (by rw [flatV_length]; exact HYl.out)
  have HGet : Hid (∀ j, j < Z → (j < A ∨ A + 10 ≤ j) → (flatV YS LL).getD j 0 = YS.getD j 0) := Lib.hid (fun j hj ho => by
    rw [Go.Grommet.flat_get HWl.out j (by rw [HYl.out]; exact hj)]; exact HOut.out j ho)
  replace hO := Lib.hid hO
  clear HFl
  have eZ : ((Z : Int) != (Z : Int)) = false := by simp
  go_wp2_with fail
  go_loopw [21] (fun i wr => ∃ j : Nat, j ≤ Z ∧ i = .int .i64 (j : Int) ∧ Hid (Own w wr [boxP N 38 #[.int .u64 (v0 : Int), .int .u64 (v1 : Int), .int .u64 (v2 : Int), .int .u64 (v3 : Int), .int .u64 (v4 : Int), .int .u64 (v5 : Int), .int .u64 (v6 : Int), .int .u64 (v7 : Int), .int .u64 (v8 : Int), .int .u64 (v9 : Int)], boxP G 23 #[.int .i64 1, .int .i64 (B : Int), .int .i64 (C : Int)], rowP 35 1 (.slice ad Z cp) Z (YS.map wv), viewP g YS LL, rowP 82 2 (.slice ad5 Q cp5) Q (wcells LL), rowP 82 2 (.slice ad6 Q cp6) Q (wcells LL), rowP 35 1 (.slice ad7 Z cp7) Z ((flatV YS LL).map wv)])) (fun i _ => Z - (intOf i).toNat)
  case atStart => exact ⟨0, Nat.zero_le _, rfl, hO⟩
  case round =>
    clear hO
    obtain ⟨j, hj, rfl, hO⟩ := hrel
    have j0 : (0 : Int) ≤ (j : Int) := by omega
    have wA : IntKind.i64.wrap ((A : Int) + 10) = (A : Int) + 10 := IntWalk.i64_in _ ⟨by omega, by omega⟩
    by_cases hlt : j < Z
    · have hlt' : (j : Int) < (Z : Int) := by omega
      by_cases ho : j < A ∨ A + 10 ≤ j
      · obtain ⟨q1, rfl, c1, _, _⟩ := Own.word hO.out 6 rfl HFlen.out j hlt
        obtain ⟨q2, rfl, c2, _, _⟩ := Own.word hO.out 2 rfl HYl.out j hlt
        rw [HGet.out j hlt ho] at c1
        generalize YS.getD j 0 = U at c1 c2
        have eU : ((U : Int) != (U : Int)) = false := by simp
        have hO2 := Lib.hid (hO.out.quiet (grown_drew (World.grownBy.refl wr none)))
        by_cases hA1 : j < A
        · have dA : decide ((j : Int) < (A : Int)) = true := by simp; omega
          have dA' : (j : Int) < (A : Int) := by omega
          clear ho
          go_wp2_with fail
          go_quiet (fail)
          go_wp2
          go_roundw
          case rel => exact ⟨j + 1, by omega, by go_num, Lib.hid (hO.out.quiet (grown_drewN _ _ _))⟩
          case measure => simp [intOf]; omega
        · have dA : decide ((j : Int) < (A : Int)) = false := by simp; omega
          have dA' : ¬ (j : Int) < (A : Int) := by omega
          have dB : decide ((A : Int) + 10 ≤ (j : Int)) = true := by simp; omega
          have dB' : (A : Int) + 10 ≤ (j : Int) := by omega
          clear ho
          go_wp2_with fail
          go_quiet (fail)
          go_wp2
          go_roundw
          case rel => exact ⟨j + 1, by omega, by go_num, Lib.hid (hO.out.quiet (grown_drewN _ _ _))⟩
          case measure => simp [intOf]; omega
      · obtain ⟨q1, rfl, c1, _, _⟩ := Own.word hO.out 6 rfl HFlen.out j hlt
        obtain ⟨q2, rfl, c2, _, _⟩ := Own.word hO.out 2 rfl HYl.out j hlt
        generalize YS.getD j 0 = U at c2
        generalize (flatV YS LL).getD j 0 = U2 at c1
        have dA : decide ((j : Int) < (A : Int)) = false := by simp; omega
        have dA' : ¬ (j : Int) < (A : Int) := by omega
        have dB : decide ((A : Int) + 10 ≤ (j : Int)) = false := by simp; omega
        have dB' : ¬ (A : Int) + 10 ≤ (j : Int) := by omega
        have n1 : ¬ j < A := by omega
        have n2 : ¬ A + 10 ≤ j := by omega
        clear ho
        go_wp2_with fail
        go_quiet (fail)
        go_wp2
        go_roundw
        case rel => exact ⟨j + 1, by omega, by go_num, Lib.hid (hO.out.quiet (grown_drewN _ _ _))⟩
        case measure => simp [intOf]; omega
    · have hlt' : ¬ (j : Int) < (Z : Int) := by omega
      have hokz := all_ok YS [0, 0, 0, 0, 0, 0, 0, 0, 0, 0] LL A (by rw [HYl.out]; exact hA) (by have := HLL.out; simp only [List.length_cons, List.length_nil] at *; omega)
      have hrz : rowS (A : Int) [0, 0, 0, 0, 0, 0, 0, 0, 0, 0] = (List.range ([0, 0, 0, 0, 0, 0, 0, 0, 0, 0] : List Nat).length).map (fun i => (((A + i : Nat) : Int), ([0, 0, 0, 0, 0, 0, 0, 0, 0, 0] : List Nat).getD i 0)) := by
        unfold rowS; apply List.map_congr_left; intro i _; simp
      rw [← hrz] at hokz
      obtain ⟨LZ, HLZ⟩ : ∃ LZ, Hid (allL YS LL (rowS (A : Int) [0, 0, 0, 0, 0, 0, 0, 0, 0, 0]) = LZ) := ⟨_, Lib.hid rfl⟩
      rw [HLZ.out] at hokz
      have HOkz := Lib.hid hokz
      have HWi := Lib.hid (WipeH12 3 g YS LL 1 (B : Int) (C : Int) (K : Int) (A : Int) 0 w wr _ [boxP N 38 #[.int .u64 (v0 : Int), .int .u64 (v1 : Int), .int .u64 (v2 : Int), .int .u64 (v3 : Int), .int .u64 (v4 : Int), .int .u64 (v5 : Int), .int .u64 (v6 : Int), .int .u64 (v7 : Int), .int .u64 (v8 : Int), .int .u64 (v9 : Int)], boxP G 23 #[.int .i64 1, .int .i64 (B : Int), .int .i64 (C : Int)], rowP 35 1 (.slice ad Z cp) Z (YS.map wv), viewP g YS LZ, rowP 82 2 (.slice ad5 Q cp5) Q (wcells LL), rowP 82 2 (.slice ad6 Q cp6) Q (wcells LL), rowP 35 1 (.slice ad7 Z cp7) Z ((flatV YS LL).map wv)] hO.out rfl (by omega) Hin.out ⟨by omega, HAX.out⟩ HXm.out HWd.out (by rw [HOkz.out.1]; rfl) (by rw [HLZ.out]; rfl))
      have hO := hO.out
      obtain ⟨g0, g1, g2⟩ := GeoS.cells (show GeoS G 1 (B : Int) (C : Int) _ from Own.box hO 1 rfl)
      clear hO hokz hrz
      unfold gv at HWi
      go_wp2_with fail
      refine HWi.out.mono ?_
      rintro e w12 ⟨rfl, hO⟩
      clear g0 g1 g2 HWi
      obtain ⟨g0, g1, g2⟩ := GeoS.cells (show GeoS G 1 (B : Int) (C : Int) _ from Own.box hO 1 rfl)
      have HGn := Lib.hid (GetNo 3 g YS LZ 1 (B : Int) (C : Int) (K : Int) (A : Int) 0 0 0 0 0 0 0 0 0 0 w w12 _ hO rfl (by omega) Hin.out ⟨by omega, HAX.out⟩ HXm.out HWd.out (fun i hi => by
        have := HAX.out
        unfold gotI
        rw [if_pos ⟨by omega, by omega⟩, show ((A : Int) + (i : Int)).toNat = A + i from by omega, HOkz.out.2 (A + i), if_pos ⟨by omega, by show A + i < A + 10; omega⟩, Nat.add_sub_cancel_left]) Hz0.out)
      replace hO := Lib.hid hO
      unfold gv at HGn
      go_wp2_with fail
      refine HGn.out.mono ?_
      rintro e w13 ⟨rfl, hO⟩
      have hO := hO.quiet (World.grownBy_alloc w13 (.cells #[.int .u64 0, .int .u64 0, .int .u64 0, .int .u64 0, .int .u64 0, .int .u64 0, .int .u64 0, .int .u64 0, .int .u64 0, .int .u64 0] 38) none)
      clear g0 g1 g2 HGn
      obtain ⟨g0, g1, g2⟩ := GeoS.cells (show GeoS G 1 (B : Int) (C : Int) _ from Own.box hO 1 rfl)
      have hgw := Lib.hid hO.grown
      clear hO
      go_wp2_with fail
      refine (HRz.out _).mono ?_
      rintro e w14 ⟨rfl, hg⟩
      have hgw := Lib.hid (grown_trans hgw.out hg)
      clear hg g0 g1 g2
      go_wp2_with fail
      refine (works_any _).mono ?_
      rintro e w15 ⟨rfl, hg⟩
      go_wp2
      go_ret
      exact ⟨rfl, grown_trans hgw.out hg⟩

theorem walk (a0 a1 : Int) (td : Option Addr) (tl tc : Nat) (T : List Tur) (a3 : Int) (z0 z1 z2 z3 z4 z5 z6 z7 z8 z9 : Int) (w : World) (h0 : (Lit.int .u8 a0).wf = true) (h1 : (Lit.int .u8 a1).wf = true) (hT : TursIn w td tl T) (h3 : (Lit.int .u8 a3).wf = true) (k0 : (Lit.int .u64 z0).wf = true) (k1 : (Lit.int .u64 z1).wf = true) (k2 : (Lit.int .u64 z2).wf = true) (k3 : (Lit.int .u64 z3).wf = true) (k4 : (Lit.int .u64 z4).wf = true) (k5 : (Lit.int .u64 z5).wf = true) (k6 : (Lit.int .u64 z6).wf = true) (k7 : (Lit.int .u64 z7).wf = true) (k8 : (Lit.int .u64 z8).wf = true) (k9 : (Lit.int .u64 z9).wf = true) :
    Calls Try.prog 4 #[.int .u8 a0, .int .u8 a1, .slice td tl tc, .int .u8 a3, .agg #[.int .u64 z0, .int .u64 z1, .int .u64 z2, .int .u64 z3, .int .u64 z4, .int .u64 z5, .int .u64 z6, .int .u64 z7, .int .u64 z8, .int .u64 z9]] w (WorksIs w) := by
  have b0 := bounds_u8 h0
  have b1 := bounds_u8 h1
  have b3 := bounds_u8 h3
  obtain ⟨x, rfl⟩ := Int.eq_ofNat_of_zero_le b0.1
  obtain ⟨y, rfl⟩ := Int.eq_ofNat_of_zero_le b1.1
  obtain ⟨n, rfl⟩ := Int.eq_ofNat_of_zero_le b3.1
  have q0 := bounds_u64 k0
  obtain ⟨v0, rfl⟩ := Int.eq_ofNat_of_zero_le q0.1
  have q1 := bounds_u64 k1
  obtain ⟨v1, rfl⟩ := Int.eq_ofNat_of_zero_le q1.1
  have q2 := bounds_u64 k2
  obtain ⟨v2, rfl⟩ := Int.eq_ofNat_of_zero_le q2.1
  have q3 := bounds_u64 k3
  obtain ⟨v3, rfl⟩ := Int.eq_ofNat_of_zero_le q3.1
  have q4 := bounds_u64 k4
  obtain ⟨v4, rfl⟩ := Int.eq_ofNat_of_zero_le q4.1
  have q5 := bounds_u64 k5
  obtain ⟨v5, rfl⟩ := Int.eq_ofNat_of_zero_le q5.1
  have q6 := bounds_u64 k6
  obtain ⟨v6, rfl⟩ := Int.eq_ofNat_of_zero_le q6.1
  have q7 := bounds_u64 k7
  obtain ⟨v7, rfl⟩ := Int.eq_ofNat_of_zero_le q7.1
  have q8 := bounds_u64 k8
  obtain ⟨v8, rfl⟩ := Int.eq_ofNat_of_zero_le q8.1
  have q9 := bounds_u64 k9
  obtain ⟨v9, rfl⟩ := Int.eq_ofNat_of_zero_le q9.1
  have hv : ∀ q ∈ [v0, v1, v2, v3, v4, v5, v6, v7, v8, v9], q < 18446744073709551616 := by
    intro q hq
    simp only [List.mem_cons, List.not_mem_nil, or_false] at hq
    rcases hq with rfl | rfl | rfl | rfl | rfl | rfl | rfl | rfl | rfl | rfl <;> omega
  by_cases htl : 60 < tl
  · exact walk_far _ _ _ v0 v1 v2 v3 v4 v5 v6 v7 v8 v9 td tl tc w htl
  · cases hr : rightB 1 ((2 + x % 20 : Nat) : Int) ((2 + y % 60 : Nat) : Int) v0 v1 v2 v3 v4 v5 v6 v7 v8 v9 with
    | false => exact walk_no x y n v0 v1 v2 v3 v4 v5 v6 v7 v8 v9 td tl tc T w (by omega) (by omega) (by omega) hv hT htl hr
    | true => exact walk_yes x y n v0 v1 v2 v3 v4 v5 v6 v7 v8 v9 td tl tc T w (by omega) (by omega) (by omega) hv hT htl hr
end Go.Proofs.Ytmoddhfemejekaa.inodeBack
