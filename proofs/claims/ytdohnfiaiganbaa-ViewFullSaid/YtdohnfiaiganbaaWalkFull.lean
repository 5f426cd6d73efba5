/- ViewFull, walked. -/
import Derived.Test.YtdohnfiaiganbaaViewK
namespace Go.Proofs.Ytdohnfiaiganbaa.viewFull
open Go.RowKit Go.Grommet

theorem made_wv (n : Nat) : madeCells #[Value.int .u64 0] n = ((List.replicate n 0).map wv).toArray := by
  apply Array.toList_inj.1
  simp [wv, madeCells, Nat.mod_one, List.map_const']

def Z : List Nat := List.replicate 106 0
theorem Z_len : Z.length = 106 := by simp [Z]
theorem Z_get (i : Nat) : Z.getD i 0 = 0 := by
  unfold Z
  rw [List.getD_eq_getElem?_getD, List.getElem?_replicate]
  split <;> rfl
theorem Z_small : ∀ n ∈ Z, n < 18446744073709551616 := by
  intro n hn
  have := List.eq_of_mem_replicate hn
  omega

def fillL (A v k : Nat) : List (Nat × Nat) := (List.range k).map fun i => ((A + i) % 106, v)
theorem fillL_succ (A v k : Nat) : fillL A v (k + 1) = fillL A v k ++ [((A + k) % 106, v)] := by
  unfold fillL; rw [List.range_succ, List.map_append]; rfl
theorem fillL_length (A v k : Nat) : (fillL A v k).length = k := by simp [fillL]
theorem fill_none (A v k : Nat) (hk : k < 106) : fidx (fillL A v k) ((A + k) % 106) = none := by
  apply fidx_of_not
  intro p hp
  obtain ⟨i, hi, rfl⟩ := List.mem_map.1 hp
  have := List.mem_range.1 hi
  show (A + i) % 106 ≠ (A + k) % 106
  omega
theorem fill_put (A v k : Nat) (hk : k < 96) : putI Z (fillL A v k) (((A + k) % 106 : Nat) : Int) v = fillL A v (k + 1) ∧ putEI Z (fillL A v k) (((A + k) % 106 : Nat) : Int) = 0 := by
  have hin : 0 ≤ (((A + k) % 106 : Nat) : Int) ∧ (((A + k) % 106 : Nat) : Int) < (Z.length : Int) := by rw [Z_len]; omega
  have hn := fill_none A v k (by omega)
  unfold putI putEI
  rw [if_pos hin, if_pos hin, Int.toNat_natCast]
  unfold putL putE
  rw [hn]
  simp only
  rw [if_neg (by rw [fillL_length]; omega), if_neg (by rw [fillL_length]; omega), fillL_succ]
  exact ⟨rfl, rfl⟩
theorem full_put (A v u : Nat) : putI Z (fillL A v 96) (((A + 96) % 106 : Nat) : Int) u = fillL A v 96 ∧ putEI Z (fillL A v 96) (((A + 96) % 106 : Nat) : Int) = 5 ∧ gotI Z (fillL A v 96) (((A + 96) % 106 : Nat) : Int) = 0 := by
  have hin : 0 ≤ (((A + 96) % 106 : Nat) : Int) ∧ (((A + 96) % 106 : Nat) : Int) < (Z.length : Int) := by rw [Z_len]; omega
  have hn := fill_none A v 96 (by omega)
  unfold putI putEI gotI
  rw [if_pos hin, if_pos hin, if_pos hin, Int.toNat_natCast]
  unfold putL putE gotV
  rw [hn]
  simp only
  rw [if_pos (by rw [fillL_length]; omega), if_pos (by rw [fillL_length]; omega)]
  exact ⟨rfl, rfl, Z_get _⟩
theorem fill_first (A v : Nat) (hA : A < 106) : fidx (fillL A v 96) A = some 0 := by
  apply fidx_at
  · rw [fillL_length]; omega
  · show ((fillL A v 96).getD 0 (0, 0)).1 = A
    unfold fillL
    simp
    omega
  · intro j hj; omega
theorem first_put (A v u : Nat) (hA : A < 106) : putEI Z (fillL A v 96) (A : Int) = 0 ∧ gotI Z (putI Z (fillL A v 96) (A : Int) u) (A : Int) = u ∧ (putI Z (fillL A v 96) (A : Int) u).length = 96 := by
  have hin : 0 ≤ (A : Int) ∧ (A : Int) < (Z.length : Int) := by rw [Z_len]; omega
  have hf := fill_first A v hA
  refine ⟨?_, ?_, ?_⟩
  · unfold putEI; rw [if_pos hin, Int.toNat_natCast]; unfold putE; rw [hf]
  · unfold putI gotI
    rw [if_pos hin, if_pos hin, Int.toNat_natCast, got_put (.inr (by rw [hf]; simp)), if_pos rfl]
  · unfold putI
    rw [if_pos hin, Int.toNat_natCast]
    unfold putL
    rw [hf]
    simp [fillL_length]
theorem empty_put (B u : Nat) (hB : B < 106) : putI Z [] (B : Int) u = [(B, u)] ∧ putEI Z [] (B : Int) = 0 ∧ gotI Z [(B, u)] (B : Int) = u := by
  have hin : 0 ≤ (B : Int) ∧ (B : Int) < (Z.length : Int) := by rw [Z_len]; omega
  unfold putI putEI gotI
  rw [if_pos hin, if_pos hin, if_pos hin, Int.toNat_natCast]
  refine ⟨rfl, rfl, ?_⟩
  unfold gotV
  simp [fidx]

set_option maxRecDepth 100000 in
set_option maxHeartbeats 4000000 in
theorem walk_at (f v : Nat) (w : World) (hf : f < 256) (hv : v < 18446744073709551616) :
    Calls Try.prog 7 #[.int .u8 (f : Int), .int .u64 (v : Int)] w (WorksIs w) := by
  obtain ⟨i0, hi, hz0, hz1, hz2⟩ := info_parts Try.info29
  obtain ⟨A, HA⟩ : ∃ A : Nat, Hid (A = f % 106) := ⟨_, Lib.hid rfl⟩
  have hA : A < 106 := by rw [HA.out]; omega
  have t1 : (f : Int).tmod 106 = (A : Int) := by rw [HA.out, Int.tmod_eq_emod_of_nonneg (by omega)]; omega
  have t2 : (f : Int) % 106 = (A : Int) := by rw [HA.out]; omega
  have t3 : IntKind.i64.wrap (f : Int) = (f : Int) := IntWalk.i64_in _ ⟨by omega, by omega⟩
  obtain ⟨U, HU⟩ : ∃ U : Nat, Hid (U = (v + 1) % 18446744073709551616) := ⟨_, Lib.hid rfl⟩
  have hU : U < 18446744073709551616 := by rw [HU.out]; omega
  have t4 : IntKind.u64.wrap ((v : Int) + 1) = (U : Int) := by
    rw [HU.out]
    by_cases h : v + 1 < 18446744073709551616
    · rw [Nat.mod_eq_of_lt h, IntWalk.u64_in _ ⟨by omega, by omega⟩]; rfl
    · obtain rfl : v = 18446744073709551615 := by omega
      decide
  go_enter Try.func7, Try.ntmps7
  go_wp2_with (refine wpList_make_whole _ rfl _ _ 22 rfl 29 i0 (.int .u64 0) Try.underlying22 hi hz0 hz1 _ _ _ 106 rfl rfl rfl ?m1 ?m2 ?_)
  case m1 => rw [hz2]; omega
  case m2 => unfold maxLen; omega
  intro u1 hrow hg
  have hcells : u1.heap[w.heap.size]? = some (.cells (Z.map wv).toArray 29 (0, 0)) := by
    rw [hrow]
    try rw [show (Value.int .u64 0).cells = #[Value.int .u64 0] from rfl]
    rw [made_wv]
    rfl
  obtain ⟨q, hq⟩ : ∃ q, Hid (q = w.heap.size) := ⟨_, Lib.hid rfl⟩
  rw [← hq.out] at hcells
  rw [← hq.out]
  have hown : u1.ownsRow w.heap.size 29 1 (.slice (some ⟨q, 0, none⟩) 106 106) 106 (Z.map wv) :=
    ⟨by rw [List.length_map, Z_len], .inr ⟨q, 106, _, rfl, by rw [hq.out]; exact Nat.le_refl _, hcells, Nat.le_refl _, by unfold maxLen; omega, by rw [List.size_toArray, List.length_map, Z_len], by
      show List.take (106 * 1) (Z.map wv) = Z.map wv
      rw [List.take_of_length_le (by rw [List.length_map, Z_len]; omega)]⟩⟩
  have hO : Own w u1 [rowP 29 1 (.slice (some ⟨q, 0, none⟩) 106 106) 106 (Z.map wv)] := (Own.nil w).addRow hown hg
  clear hown hg hcells hrow hi hz0 hz1 hz2 i0
  obtain ⟨hwz, hnz, _⟩ := Own.words hO 0 rfl Z_small (by omega)
  have HN := Lib.hid (NewH _ 106 106 Z w u1 _ hO hwz (by omega) hnz)
  clear hwz hnz hO hq
  go_wp2_with fail
  refine HN.out.mono ?_
  rintro e u2 ⟨g, rfl, hO⟩
  clear HN
  have hO : Own w u2 [rowP 29 1 (.slice (some ⟨q, 0, none⟩) 106 106) 106 (Z.map wv), viewP g Z (fillL A v 0)] := hO
  replace hO := Lib.hid hO
  go_wp2_with fail
  go_loopw [8] (fun i wr => ∃ k : Nat, k ≤ 96 ∧ i = .int .i64 (k : Int) ∧ Hid (Own w wr [rowP 29 1 (.slice (some ⟨q, 0, none⟩) 106 106) 106 (Z.map wv), viewP g Z (fillL A v k)])) (fun i _ => 96 - (intOf i).toNat)
  case atStart => exact ⟨0, Nat.zero_le _, rfl, hO⟩
  case round =>
    clear hO
    obtain ⟨k, hk, rfl, hO⟩ := hrel
    have k0 : (0 : Int) ≤ (k : Int) := by omega
    have ka : IntKind.i64.wrap ((A : Int) + (k : Int)) = (A : Int) + (k : Int) := IntWalk.i64_in _ ⟨by omega, by omega⟩
    have k1 : ((A : Int) + (k : Int)).tmod 106 = (((A + k) % 106 : Nat) : Int) := by rw [Int.tmod_eq_emod_of_nonneg (by omega)]; omega
    have k2 : ((A : Int) + (k : Int)) % 106 = (((A + k) % 106 : Nat) : Int) := by omega
    by_cases hlt : k < 96
    · have hlt' : (k : Int) < 96 := by omega
      obtain ⟨f1, f2⟩ := fill_put A v k hlt
      have HP := Lib.hid (PutH 1 g Z (fillL A v k) (((A + k) % 106 : Nat) : Int) v 0 w wr _ _ hO.out rfl hv (by rw [f2]; rfl) (by rw [f1]))
      obtain ⟨B, HB⟩ : ∃ B : Nat, Hid (B = (A + k) % 106) := ⟨_, Lib.hid rfl⟩
      rw [← HB.out] at HP k1 k2
      clear hO f1 f2
      go_wp2_with fail
      refine HP.out.mono ?_
      rintro e u3 ⟨rfl, hO⟩
      clear HP
      have hO : Own w u3 [rowP 29 1 (.slice (some ⟨q, 0, none⟩) 106 106) 106 (Z.map wv), viewP g Z (fillL A v (k + 1))] := hO
      replace hO := Lib.hid hO
      clear k1 k2 ka
      go_wp2
      go_roundw
      case rel => exact ⟨k + 1, by omega, by go_num, hO⟩
      case measure => simp [intOf]; omega
    · obtain rfl : k = 96 := by omega
      clear k1 k2 ka
      have n1 : ((A : Int) + 96).tmod 106 = (((A + 96) % 106 : Nat) : Int) := by rw [Int.tmod_eq_emod_of_nonneg (by omega)]; omega
      have n2 : ((A : Int) + 96) % 106 = (((A + 96) % 106 : Nat) : Int) := by omega
      obtain ⟨f1, f2, f3⟩ := full_put A v 1
      obtain ⟨s1, s2, s3⟩ := first_put A v U hA
      have hB : (A + 96) % 106 < 106 := by omega
      obtain ⟨B, HB⟩ : ∃ B : Nat, Hid (B = (A + 96) % 106) := ⟨_, Lib.hid rfl⟩
      rw [← HB.out] at n1 n2 f1 f2 f3 hB
      obtain ⟨e1, e2, e3⟩ := empty_put B 1 hB
      obtain ⟨L, HL⟩ : ∃ L, Hid (L = fillL A v 96) := ⟨_, Lib.hid rfl⟩
      have hLl : Hid (L.length = 96) := Lib.hid (by rw [HL.out, fillL_length])
      rw [← HL.out] at f1 f2 f3 s1 s2 s3 hO
      obtain ⟨M, HM⟩ : ∃ M, Hid (M = putI Z L (A : Int) U) := ⟨_, Lib.hid rfl⟩
      rw [← HM.out] at s2 s3
      have Hf := Lib.hid (And.intro f1 (And.intro f2 f3))
      have Hs := Lib.hid (And.intro s1 (And.intro s2 s3))
      have He := Lib.hid (And.intro e1 (And.intro e2 e3))
      clear f1 f2 f3 s1 s2 s3 e1 e2 e3 HL
      have HV := Lib.hid (WritesH 1 g Z L w wr _ hO.out rfl)
      rw [hLl.out] at HV
      clear hO
      go_wp2_with fail
      refine HV.out.mono ?_
      rintro e u3 ⟨ad1, cp1, rfl, hO⟩
      clear HV
      have HP := Lib.hid (PutH 1 g Z L (B : Int) 1 5 w u3 _ _ hO rfl (by decide) (by rw [Hf.out.2.1]; rfl) (by rw [Hf.out.1]))
      clear hO
      go_wp2_with fail
      refine HP.out.mono ?_
      rintro e u4 ⟨rfl, hO⟩
      clear HP
      have hO : Own w u4 [rowP 29 1 (.slice (some ⟨q, 0, none⟩) 106 106) 106 (Z.map wv), viewP g Z L, rowP 44 2 (.slice ad1 96 cp1) 96 (wcells L)] := hO
      have HG := Lib.hid (GetH 1 g Z L (B : Int) w u4 _ hO rfl)
      rw [Hf.out.2.2] at HG
      replace hO := Lib.hid hO
      go_wp2_with fail
      refine HG.out.mono ?_
      rintro e u5 ⟨rfl, rfl⟩
      clear HG
      have HV := Lib.hid (WritesH 1 g Z L w u5 _ hO.out rfl)
      rw [hLl.out] at HV
      clear hO
      go_wp2_with fail
      refine HV.out.mono ?_
      rintro e u6 ⟨ad2, cp2, rfl, hO⟩
      clear HV
      have hO : Own w u6 [rowP 29 1 (.slice (some ⟨q, 0, none⟩) 106 106) 106 (Z.map wv), viewP g Z L, rowP 44 2 (.slice ad1 96 cp1) 96 (wcells L), rowP 44 2 (.slice ad2 96 cp2) 96 (wcells L)] := hO
      obtain ⟨p1, _⟩ := Own.pairs hO 2 rfl
      obtain ⟨p2, _⟩ := Own.pairs hO 3 rfl
      have HS := Lib.hid (SameW_any ad2 ad1 96 96 cp2 cp1 L L u6 p2 p1 hLl.out hLl.out (by omega))
      rw [decide_eq_true rfl] at HS
      replace hO := Lib.hid hO
      clear p1 p2
      go_wp2_with fail
      refine HS.out.mono ?_
      rintro e u7 ⟨rfl, hg7⟩
      clear HS
      have hO := hO.out.quiet hg7
      have HP := Lib.hid (PutH 1 g Z L (A : Int) U 0 w u7 _ _ hO rfl hU (by rw [Hs.out.1]; rfl) rfl)
      rw [← HM.out] at HP
      clear hO hg7
      go_wp2_with fail
      refine HP.out.mono ?_
      rintro e u8 ⟨rfl, hO⟩
      clear HP
      have hO : Own w u8 [rowP 29 1 (.slice (some ⟨q, 0, none⟩) 106 106) 106 (Z.map wv), viewP g Z M, rowP 44 2 (.slice ad1 96 cp1) 96 (wcells L), rowP 44 2 (.slice ad2 96 cp2) 96 (wcells L)] := hO
      have HG := Lib.hid (GetH 1 g Z M (A : Int) w u8 _ hO rfl)
      rw [Hs.out.2.1] at HG
      replace hO := Lib.hid hO
      go_wp2_with fail
      refine HG.out.mono ?_
      rintro e u9 ⟨rfl, rfl⟩
      clear HG
      have HV := Lib.hid (WritesH 1 g Z M w u9 _ hO.out rfl)
      rw [Hs.out.2.2] at HV
      clear hO
      go_wp2_with fail
      refine HV.out.mono ?_
      rintro e u10 ⟨ad3, cp3, rfl, hO⟩
      clear HV
      have HD := Lib.hid (DropH 1 g Z M w u10 _ _ hO rfl rfl)
      clear hO
      go_wp2_with fail
      refine HD.out.mono ?_
      rintro e u11 ⟨rfl, hO⟩
      clear HD
      have hO : Own w u11 ([rowP 29 1 (.slice (some ⟨q, 0, none⟩) 106 106) 106 (Z.map wv), viewP g Z []] ++ [rowP 44 2 (.slice ad1 96 cp1) 96 (wcells L), rowP 44 2 (.slice ad2 96 cp2) 96 (wcells L), rowP 44 2 (.slice ad3 96 cp3) 96 (wcells M)]) := hO
      have hO := hO.less
      have HV := Lib.hid (WritesH 1 g Z [] w u11 _ hO rfl)
      clear hO
      go_wp2_with fail
      refine HV.out.mono ?_
      rintro e u12 ⟨ad4, cp4, rfl, hO⟩
      clear HV
      have HF := Lib.hid (FlatH 1 g Z [] w u12 _ hO rfl)
      rw [Z_len, show flatV Z [] = Z from rfl] at HF
      clear hO
      go_wp2_with fail
      refine HF.out.mono ?_
      rintro e u13 ⟨ad5, cp5, rfl, hO⟩
      clear HF
      have hO : Own w u13 [rowP 29 1 (.slice (some ⟨q, 0, none⟩) 106 106) 106 (Z.map wv), viewP g Z [], rowP 44 2 (.slice ad4 0 cp4) 0 (wcells []), rowP 29 1 (.slice ad5 106 cp5) 106 (Z.map wv)] := hO
      obtain ⟨p1, _⟩ := Own.words hO 0 rfl Z_small (by omega)
      obtain ⟨p2, _⟩ := Own.words hO 3 rfl Z_small (by omega)
      have HS := Lib.hid (Same_any ad5 (some ⟨q, 0, none⟩) 106 106 cp5 106 Z Z u13 p2 p1)
      rw [decide_eq_true rfl] at HS
      replace hO := Lib.hid hO
      clear p1 p2
      go_wp2_with fail
      refine HS.out.mono ?_
      rintro e u14 ⟨rfl, hg14⟩
      clear HS
      have hO := hO.out.quiet hg14
      have HP := Lib.hid (PutH 1 g Z [] (B : Int) 1 0 w u14 _ _ hO rfl (by decide) (by rw [He.out.2.1]; rfl) (by rw [He.out.1]))
      clear hO hg14
      go_wp2_with fail
      refine HP.out.mono ?_
      rintro e u15 ⟨rfl, hO⟩
      clear HP
      have HG := Lib.hid (GetH 1 g Z [(B, 1)] (B : Int) w u15 _ hO rfl)
      rw [He.out.2.2] at HG
      have hg := hO.grown
      clear hO
      go_wp2_with fail
      refine HG.out.mono ?_
      rintro e u16 ⟨rfl, rfl⟩
      clear HG
      go_wp2_with fail
      refine (works_any _).mono ?_
      rintro e u17 ⟨rfl, hg7⟩
      go_wp2
      go_ret
      exact ⟨rfl, grown_trans hg hg7⟩

theorem walk (a0 a1 : Int) (w : World) (w0 : (Lit.int .u8 a0).wf = true) (w1 : (Lit.int .u64 a1).wf = true) : Calls Try.prog 7 #[.int .u8 a0, .int .u64 a1] w (WorksIs w) := by
  have b0 := bounds_u8 w0
  have b1 := bounds_u64 w1
  obtain ⟨f, rfl⟩ := Int.eq_ofNat_of_zero_le b0.1
  obtain ⟨v, rfl⟩ := Int.eq_ofNat_of_zero_le b1.1
  exact walk_at f v w (by omega) (by omega)
end Go.Proofs.Ytdohnfiaiganbaa.viewFull
