/- Texts of ours, packed. -/
import Derived.StillTailTactics
import Derived.Test.YtkalglcbmfhdfaaGreatPk24
import Derived.Test.YtkalglcbmfhdfaaGreatPk16
import Derived.Test.YtkalglcbmfhdfaaGreatPk19
section
/- The law's records, put into words. -/
namespace Go.Proofs.YtkalglcbmfhdfaaGreat
open Go.RowKit Go.Grommet

/-- One write more behind a row. -/
theorem wr_more {w0 w : World} {Qs : List Pr} (h : Grommet.Own w0 w Qs) (k : Nat) {ad : Option Addr} {n cap : Nat} {W : List (Int × Nat)} (hk : Qs[k]? = some (rowP 89 2 (.slice ad n cap) n (icells W))) (x : Int) (v : Nat) (ty : TypeId) (hn : n ≤ 1000000) :
    ∃ ad' cap' w2, (Builtin.append_ #[90, 90] ty #[.slice ad n cap, .slice (some ⟨w.heap.size, 0, none⟩) 1 1]).run Tryz.prog (w.alloc (.cells #[.int .i64 x, .int .u64 (v : Int)] 89)) = .ok (.slice ad' (n + 1) cap') w2 ∧ Grommet.Own w0 w2 (Qs.set k (rowP 89 2 (.slice ad' (n + 1) cap') (n + 1) (icells (W ++ [(x, v)])))) := by
  obtain ⟨i0, hi, hz0, hz1, hz2⟩ := info_parts Tryz.info89
  have hO1 := h.quiet (World.grownBy_alloc w (.cells #[.int .i64 x, .int .u64 (v : Int)] 89) none)
  have hrow := Own.row hO1 k hk
  have hnews : ∀ j u, (icells [(x, v)])[j]? = some u → (w.alloc (.cells #[.int .i64 x, .int .u64 (v : Int)] 89)).cell? ((⟨w.heap.size, 0, none⟩ : Addr).add j) = some u := (at_of_row (heap_alloc_new w (.cells #[.int .i64 x, .int .u64 (v : Int)] 89))).some
  obtain ⟨v', w', hr, h2, h3, h4⟩ := run_append_blk (P := Tryz.prog) (w.alloc (.cells #[.int .i64 x, .int .u64 (v : Int)] 89)) 0 90 ty 89 i0 (.agg #[.int .i64 0, .int .u64 0]) 2 16 Tryz.underlying90 hi hz0 hz1 hz2 rfl (by decide) (.slice ad n cap) n (icells W) hrow ⟨w.heap.size, 0, none⟩ 1 1 (icells [(x, v)]) rfl hnews (icells_oneCell _) (by unfold maxLen; omega) (by omega) (Nat.zero_le _)
  obtain ⟨ad', cap', rfl, _⟩ := row_slice h2
  refine ⟨ad', cap', w', hr, ?_⟩
  rw [icells_append]
  exact Own.append hO1 k hk h2 h3 h4
/-- The same words, but for areas. -/
def OutEq (A K : Nat) (xs ys : List Nat) : Prop := ys.length = K ∧ (∀ n ∈ ys, n < 18446744073709551616) ∧ ∀ i, i < 264 ∨ 264 + 208 * A ≤ i → ys.getD i 0 = xs.getD i 0
theorem OutEq.set {A K : Nat} {xs ys : List Nat} (h : OutEq A K xs ys) (i v : Nat) (hi : 264 ≤ i ∧ i < 264 + 208 * A) (hv : v < 18446744073709551616) : OutEq A K xs (ys.set i v) := by
  refine ⟨by rw [List.length_set]; exact h.1, fun n hn => ?_, fun k hk => ?_⟩
  · rcases List.mem_or_eq_of_mem_set hn with h' | h'
    · exact h.2.1 n h'
    · rw [h']; exact hv
  · rw [← h.2.2 k hk, List.getD_eq_getElem?_getD, List.getD_eq_getElem?_getD, List.getElem?_set_ne (by omega)]
theorem words_put {w0 w : World} {Ps : List Pr} {q K cp : Nat} {ys : List Nat} (h : Grommet.Own w0 w Ps) (k : Nat) (hk : Ps[k]? = some (rowP 45 1 (.slice (some ⟨q, 0, none⟩) K cp) K (ys.map wv))) (hl : ys.length = K) (i : Nat) (hi : i < K) :
    w.cell? ⟨q, i, none⟩ = some (.int .u64 (ys.getD i 0 : Int)) ∧ w.frozen? ⟨q, i, none⟩ = false ∧ ∀ v : Nat, Grommet.Own w0 (w.setCell ⟨q, i, none⟩ (.int .u64 (v : Int))) (Ps.set k (rowP 45 1 (.slice (some ⟨q, 0, none⟩) K cp) K ((ys.set i v).map wv))) := by
  have hix : i < ys.length := by omega
  obtain ⟨b, he, c1, f1, _⟩ := Own.cell h k hk i (wv (ys.getD i 0)) (by rw [List.getElem?_map, List.getElem?_eq_getElem hix, List.getD_eq_getElem?_getD, List.getElem?_eq_getElem hix]; rfl)
  cases he
  refine ⟨c1, f1, fun v => ?_⟩
  have := h.store k hk i (wv v)
  rw [← List.map_set] at this
  exact this
/-- Writes that may be. -/
def PosW (M : List (Int × Nat)) : Prop := ∀ p ∈ M, 0 ≤ p.1 ∧ p.1 ≤ 9223372036854775807 ∧ p.2 < 18446744073709551616
theorem PosW.snoc {M : List (Int × Nat)} (h : PosW M) (a v : Nat) (ha : a ≤ 9223372036854775807) (hv : v < 18446744073709551616) : PosW (M ++ [((a : Int), v)]) := by
  intro p hp
  rcases List.mem_append.1 hp with hp | hp
  · exact h p hp
  · obtain rfl := List.mem_singleton.1 hp
    exact ⟨by show (0 : Int) ≤ (a : Int); omega, by show (a : Int) ≤ _; omega, hv⟩
theorem PosW.neg {M : List (Int × Nat)} (h : PosW M) : negB M = false := by
  unfold negB
  rw [List.any_eq_false]
  intro p hp
  have := (h p hp).1
  simp; omega
def QLs (Ps : List Pr) (m q K cp : Nat) (ys : List Nat) (R : List Pr) : List Pr := Ps.set m (rowP 45 1 (.slice (some ⟨q, 0, none⟩) K cp) K (ys.map wv)) ++ R

theorem QLs.two (Ps : List Pr) (m q K cp : Nat) (ys : List Nat) (B C : Pr) : QLs Ps m q K cp ys [B, C] = QLs Ps m q K cp ys [B] ++ [C] := by
  unfold QLs; rw [List.append_assoc]; rfl
/-- What a round reads. -/
def SAr (X g o j : Nat) (A I B : Int) (W8 : Nat) (xm xn : Int) (nn : Bool) (w : World) : Prop := GeoQ X A I B w ∧ w.cell? ⟨g, o + j * 5, none⟩ = some (.int .u8 (W8 : Int)) ∧ w.cell? ⟨g, o + j * 5 + 2, none⟩ = some (.int .u64 xm) ∧ w.cell? ⟨g, o + j * 5 + 3, none⟩ = some (.int .u64 xn) ∧ w.cell? ⟨g, o + j * 5 + 4, none⟩ = some (.bool nn)

set_option maxRecDepth 100000 in
set_option maxHeartbeats 8000000 in
theorem putAreas (m A I B K q cp : Nat) (xs : List Nat) (td : Option Addr) (tl tc : Nat) (T : List Ara) (w0 w : World) (Ps : List Pr) (h : Grommet.Own w0 w Ps) (hm : Ps[m]? = some (rowP 45 1 (.slice (some ⟨q, 0, none⟩) K cp) K (xs.map wv))) (hxl : xs.length = K) (hxs : ∀ n ∈ xs, n < 18446744073709551616) (hmay : mayB (A : Int) (I : Int) (B : Int) = true) (hK : 280 + 208 * A + 16 * I + 8 * B = K) (hT : ArasIn w0 td tl T) (htl : tl ≤ 8) :
    Calls Tryz.prog 18 #[gv (A : Int) (I : Int) (B : Int), .slice (some ⟨q, 0, none⟩) K cp, .slice td tl tc] w fun e w' => e = .returned (.tuple #[]) ∧ ∃ ys, OutEq A K xs ys ∧ Grommet.Own w0 w' (QLs Ps m q K cp ys []) := by
  have hml := (List.getElem?_eq_some_iff.1 hm).1
  have hmb := mayB_yes hmay
  have hKb : 280 ≤ K ∧ K ≤ 100000 := by omega
  obtain ⟨X, hX⟩ : ∃ X, w.heap.size = X := ⟨_, rfl⟩
  obtain ⟨u1, hu1⟩ : ∃ u, w.alloc (.cells #[.int .i64 (A : Int), .int .i64 (I : Int), .int .i64 (B : Int)] 23) = u := ⟨_, rfl⟩
  have hO1 : Grommet.Own w0 u1 (QLs Ps m q K cp xs [boxP X 23 #[.int .i64 (A : Int), .int .i64 (I : Int), .int .i64 (B : Int)]]) := by
    unfold QLs
    rw [set_selfC hm, ← hu1, ← hX]
    exact h.addBox _ _
  have hgetM : ∀ ys R, (QLs Ps m q K cp ys R)[m]? = some (rowP 45 1 (.slice (some ⟨q, 0, none⟩) K cp) K (ys.map wv)) := fun ys R => by
    unfold QLs
    rw [List.getElem?_append_left (by simpa using hml), List.getElem?_set_self hml]
  have hsetM : ∀ ys zs R, (QLs Ps m q K cp ys R).set m (rowP 45 1 (.slice (some ⟨q, 0, none⟩) K cp) K (zs.map wv)) = QLs Ps m q K cp zs R := fun ys zs R => by
    unfold QLs
    rw [List.set_append_left _ _ (by simpa using hml), List.set_set]
  have hgetB : ∀ ys B' R, (QLs Ps m q K cp ys (B' :: R))[Ps.length]? = some B' := fun ys B' R => by
    unfold QLs
    rw [List.getElem?_append_right (by simp), List.length_set, Nat.sub_self]; rfl
  have hgetC : ∀ ys B' C' R, (QLs Ps m q K cp ys (B' :: C' :: R))[Ps.length + 1]? = some C' := fun ys B' C' R => by
    unfold QLs
    rw [List.getElem?_append_right (by simp), List.length_set, show Ps.length + 1 - Ps.length = 1 from by omega]; rfl
  have hsetC : ∀ ys B' C' D', (QLs Ps m q K cp ys [B', C']).set (Ps.length + 1) D' = QLs Ps m q K cp ys [B', D'] := fun ys B' C' D' => by
    unfold QLs
    rw [List.set_append_right _ _ (by simp), List.length_set, show Ps.length + 1 - Ps.length = 1 from by omega]; rfl
  have HT := Lib.hid hT
  have HgetM := Lib.hid hgetM
  have HsetM := Lib.hid hsetM
  have HgetB := Lib.hid hgetB
  have HgetC := Lib.hid hgetC
  have HsetC := Lib.hid hsetC
  have HE0 : Hid (OutEq A K xs xs) := Lib.hid ⟨hxl, hxs, fun _ _ => rfl⟩
  have Hmay := Lib.hid hmay
  have HK := Lib.hid hK
  have HO1 := Lib.hid hO1
  generalize hBX : boxP X 23 #[.int .i64 (A : Int), .int .i64 (I : Int), .int .i64 (B : Int)] = BX at HO1
  have HBX := Lib.hid hBX
  unfold gv
  clear h hm hxl hxs hmay hK hT hO1 hgetM hsetM hgetB hgetC hsetC hml hmb hBX
  go_enter Tryz.func18, Tryz.ntmps18
  go_wp2_with fail
  go_loopw [6] (fun i wr => ∃ (j : Nat) (ys : List Nat), j ≤ tl ∧ i = .int .i64 (j : Int) ∧ Hid (OutEq A K xs ys) ∧ Hid (Grommet.Own w0 wr (QLs Ps m q K cp ys [BX]))) (fun i _ => tl - (intOf i).toNat)
  case atStart => exact ⟨0, xs, Nat.zero_le _, rfl, HE0, HO1⟩
  case round =>
    clear HO1 HE0 hu1 hX
    obtain ⟨j, ys, hj, rfl, HE, hO⟩ := hrel
    have j0 : (0 : Int) ≤ (j : Int) := by omega
    by_cases hlt : j < tl
    · have hlt' : (j : Int) < (tl : Int) := by omega
      obtain ⟨x, hx⟩ : ∃ x, T[j]? = some x := ⟨T[j]'(by rw [HT.out.1]; exact hlt), List.getElem?_eq_getElem _⟩
      have Hx := Lib.hid hx
      obtain ⟨⟨g, o, htd, x0, x1, x2, x3, x4⟩, hW⟩ := (HT.out.grown hO.out.grown).2.2 j x hx
      subst htd
      have hok := HT.out.2.1 x (List.mem_of_getElem? hx)
      have b0 := bounds_u8 hok.w
      obtain ⟨xw, pa, pl, pc, ps, xm, xn, nn⟩ := x
      dsimp only at x0 x1 x2 x3 x4 hW b0 hok
      obtain ⟨W8, rfl⟩ := Int.eq_ofNat_of_zero_le b0.1
      have HW := Lib.hid ((HT.out).2.2 j _ hx).2
      dsimp only at HW
      have wj : IntKind.i64.wrap ((j : Int) + 1) = (j : Int) + 1 := IntWalk.i64_in _ ⟨by omega, by omega⟩
      have Hok := Lib.hid hok
      have hz0 : Hid (Grommet.Own w0 wr (QLs Ps m q K cp ys [BX, rowP 89 2 (.slice none 0 0) 0 (icells [])])) := Lib.hid (by
        have := hO.out.add (P := rowP 89 2 (.slice none 0 0) 0 (icells [])) (F := fun _ => False) ⟨World.ownsRow_nil _ _ _ _, ⟨fun i hi => (by cases hi), fun i hi => False.elim hi⟩⟩ (fun i hi => False.elim hi) (World.grownBy.refl _ _)
        unfold QLs at this ⊢
        rw [List.append_assoc] at this
        exact this)
      clear hO hx hW hok x0 x1 x2 x3 x4
      go_wp2_with fail
      go_loopw [7, 8] (fun lv k wr => ∃ (n : Nat) (M : List (Int × Nat)) (ad1 : Option Addr) (cap1 : Nat), n ≤ pl ∧ n ≤ 20 ∧ k = .int .i64 (n : Int) ∧ lv = .slice ad1 n cap1 ∧ Hid (M.length = n ∧ PosW M) ∧ Hid (Grommet.Own w0 wr (QLs Ps m q K cp ys [BX, rowP 89 2 (.slice ad1 n cap1) n (icells M)]))) (fun _ k _ => 20 - (intOf k).toNat)
      case atStart => exact ⟨0, [], none, 0, Nat.zero_le _, Nat.zero_le _, rfl, rfl, Lib.hid ⟨rfl, fun p hp => by cases hp⟩, hz0⟩
      case round =>
        clear hz0
        obtain ⟨n, M, ad1, cap1, hn, hn20, rfl, rfl, HM, hO⟩ := hrel
        have n0 : (0 : Int) ≤ (n : Int) := by omega
        obtain ⟨⟨g2, o2, he, x0, x1, x2, x3, x4⟩, hW⟩ := (HT.out.grown hO.out.grown).2.2 j _ Hx.out
        cases he
        dsimp only at x0 x1 x2 x3 x4 hW
        by_cases hk : n < pl ∧ n < 20
        · have l1 : (n : Int) < (pl : Int) := by omega
          have l2 : (n : Int) < 20 := by omega
          have hnp : n < ps.length := by rw [hW.1]; exact hk.1
          obtain ⟨y, hy⟩ : ∃ y, ps[n]? = some y := ⟨_, List.getElem?_eq_getElem hnp⟩
          obtain ⟨g3, o3, hpa, y0, y1⟩ := hW.2.2 n y hy
          subst hpa
          have hyk := hW.2.1 y (List.mem_of_getElem? hy)
          obtain ⟨ad, vv⟩ := y
          obtain ⟨hk1, hk2⟩ : (Lit.int .i64 ad).wf = true ∧ (Lit.int .u64 vv).wf = true := hyk
          dsimp only at y0 y1
          have b1 := bounds_u64 hk2
          have b2 : (-9223372036854775808 : Int) ≤ ad ∧ ad ≤ 9223372036854775807 := by
            have := hk1
            simp only [Lit.wf, Bool.and_eq_true, decide_eq_true_eq] at this
            exact ⟨this.1, this.2⟩
          obtain ⟨V, rfl⟩ := Int.eq_ofNat_of_zero_le b1.1
          have wn : IntKind.i64.wrap ((n : Int) + 1) = (n : Int) + 1 := IntWalk.i64_in _ ⟨by omega, by omega⟩
          clear hW hk1 hk2 hnp hy HT
          obtain ⟨mx, hmx⟩ : ∃ mx : Nat, max ad 0 = (mx : Int) := Int.eq_ofNat_of_zero_le (by omega)
          obtain ⟨r, hrm⟩ : ∃ r, mx % K = r := ⟨_, rfl⟩
          have hr2 : r < K := by rw [← hrm]; exact Nat.mod_lt _ (by omega)
          have hr : (mx : Int) % (K : Int) = (r : Int) := by rw [← hrm]; omega
          have hr3 : Int.tmod (mx : Int) (K : Int) = (r : Int) := by rw [Int.tmod_eq_emod_of_nonneg (by omega)]; exact hr
          have zb : ((K : Int) == 0) = false := by rw [beq_eq_false_iff_ne]; omega
          have zc : ¬ (K : Int) = 0 := by omega
          have zn : ¬ K = 0 := by omega
          have wr0 : IntKind.i64.wrap (r : Int) = (r : Int) := IntWalk.i64_in _ ⟨by omega, by omega⟩
          obtain ⟨wa, hwa⟩ : ∃ wa, wr.alloc (.cells #[.int .i64 ad, .int .u64 (V : Int)] 89) = wa := ⟨_, rfl⟩
          have hga : wr.grownBy wa none := by rw [← hwa]; exact World.grownBy_alloc wr _ none
          have hba : wa.heap[wr.heap.size]? = some (.cells #[.int .i64 ad, .int .u64 (V : Int)] 89 (0, 0)) := by rw [← hwa]; exact heap_alloc_new wr _
          have z0 : wa.cell? ⟨wr.heap.size, 0, none⟩ = some (.int .i64 ad) := by simp [World.cell?, hba]
          have z1 : wa.cell? ⟨wr.heap.size, 1, none⟩ = some (.int .u64 (V : Int)) := by simp [World.cell?, hba]
          obtain ⟨ad2, cap2, w2, hrun, hO2⟩ := wr_more (hO.out.quiet hga) (Ps.length + 1) (HgetC.out _ _ _ _) (r : Int) V 90 (by omega)
          rw [HsetC.out] at hO2
          have hO2 := Lib.hid hO2
          have HM2 : Hid ((M ++ [((r : Int), V)]).length = n + 1 ∧ PosW (M ++ [((r : Int), V)])) := Lib.hid ⟨by rw [List.length_append, HM.out.1]; rfl, HM.out.2.snoc r V (by omega) (by omega)⟩
          clear hrm hr2 b1 b2 b0 hga hba
          clear hO HM HgetM HsetM HgetB HgetC HsetC HE Hmay HBX HW Hok Hx
          go_upto_region 10 with fail
          try rw [hwa]
          clear hwa
          go_wp2_with (at_builtin; refine wpList_append_run rfl _ _ _ rfl _ _ _ rfl rfl hrun ?_)
          go_roundw
          case rel => exact ⟨n + 1, _, ad2, cap2, by omega, by omega, by go_num, rfl, HM2, hO2⟩
          case measure => simp [intOf]; omega
        · have Hend : (¬ (n : Int) < (pl : Int)) ∨ ((n : Int) < (pl : Int) ∧ ¬ (n : Int) < 20) := by omega
          obtain ⟨hat, _⟩ := Own.pairs hO.out (Ps.length + 1) (HgetC.out _ _ _ _)
          obtain ⟨XR, hXR⟩ : ∃ XR, recR M = XR := ⟨_, rfl⟩
          obtain ⟨Z, hZ⟩ : ∃ Z, 2 + 2 * n = Z := ⟨_, rfl⟩
          have hXl : XR.length = Z := by rw [← hXR, recR_length, HM.out.1, hZ]
          have hXs : ∀ v ∈ XR, v < 18446744073709551616 := by
            rw [← hXR]
            exact recR_small (M := M) (fun p hp => ⟨by have := HM.out.2 p hp; omega, (HM.out.2 p hp).2.2⟩) (by rw [HM.out.1]; omega)
          have HWd0 : Calls Tryz.prog 60 #[.slice ad1 n cap1] wr fun e w' => ∃ ad2 cp2, e = .returned (.tuple #[.slice ad2 Z cp2, .int .i64 0]) ∧ Grommet.Own w0 w' (QLs Ps m q K cp ys [BX, rowP 45 1 (.slice ad2 Z cp2) Z (XR.map wv)]) := by
            refine (RefWords_few wr.heap.size ad1 n cap1 M wr hat HM.out.1 (by omega) (fun p hp => ⟨by have := HM.out.2 p hp; omega, (HM.out.2 p hp).2.2⟩) (Nat.le_refl _)).mono ?_
            rintro e w' (⟨hneg, _⟩ | ⟨_, ad2, cp2, rfl, hrow, hg⟩)
            · rw [HM.out.2.neg] at hneg; cases hneg
            · have hO' := hO.out
              rw [QLs.two] at hO'
              rw [hXR, hXl] at hrow
              refine ⟨ad2, cp2, by rw [hXR, hXl], ?_⟩
              rw [QLs.two]
              exact hO'.less.addRow hrow hg
          have HWd := Lib.hid HWd0
          obtain ⟨c, hc⟩ : ∃ c, W8 % A = c := ⟨_, rfl⟩
          have hA1 := mayB_yes Hmay.out
          have hcA : c < A := by rw [← hc]; exact Nat.mod_lt _ (by omega)
          obtain ⟨a0, ha0⟩ : ∃ a0, 264 + 208 * c = a0 := ⟨_, rfl⟩
          have HAt := Lib.hid (fun wx => AreaAt_any (A : Int) (I : Int) (B : Int) (c : Int) wx)
          rw [show areaV (A : Int) (I : Int) (B : Int) (c : Int) = (a0 : Int) from by unfold areaV; rw [if_pos ⟨Hmay.out, by omega, by omega⟩]; omega] at HAt
          unfold gv at HAt
          have Hk := Lib.hid HK.out
          have hKe := HK.out
          have k1 : IntKind.i64.wrap (W8 : Int) = (W8 : Int) := IntWalk.i64_in _ ⟨by omega, by omega⟩
          have k2 : (W8 : Int) % (A : Int) = (c : Int) := by rw [← hc]; omega
          have k3 : Int.tmod (W8 : Int) (A : Int) = (c : Int) := by rw [Int.tmod_eq_emod_of_nonneg (by omega)]; exact k2
          have k4 : ¬ (A : Int) = 0 := by omega
          have k5 : ((A : Int) == 0) = false := by rw [beq_eq_false_iff_ne]; omega
          have k6 : ¬ A = 0 := by omega
          have k7 : IntKind.i64.wrap (c : Int) = (c : Int) := IntWalk.i64_in _ ⟨by omega, by omega⟩
          have k8 : ¬ (a0 : Int) < 0 := by omega
          obtain ⟨a1, ha1⟩ : ∃ a1, a0 + 208 = a1 := ⟨_, rfl⟩
          have k9 : IntKind.i64.wrap ((a0 : Int) + 208) = (a1 : Int) := by rw [IntWalk.i64_in _ ⟨by omega, by omega⟩]; omega
          have k10 : ¬ (K : Int) < (a1 : Int) := by omega
          have HSr := Lib.hid (fun wx zs R (hO : Grommet.Own w0 wx (QLs Ps m q K cp zs (BX :: R))) => show SAr X g o j (A : Int) (I : Int) (B : Int) W8 xm xn nn wx by
            obtain ⟨⟨g2, o2, he, x0, x1, x2, x3, x4⟩, hW⟩ := (HT.out.grown hO.grown).2.2 j _ Hx.out
            cases he
            have hb := HgetB.out zs BX R
            rw [← HBX.out] at hb hO
            exact ⟨hO.box _ hb, x0, x2, x3, x4⟩)
          have hZb : Z ≤ 42 ∧ 2 ≤ Z := by omega
          have ha0b : 264 ≤ a0 ∧ a0 + 208 ≤ 264 + 208 * A ∧ 264 + 208 * A + 16 ≤ K := by omega
          clear hO HM hat hXR HWd0 x0 x2 x3 x4 hW hc hcA hA1 ha0 ha1 hKe hZ
          rcases Hend with hl1 | ⟨hl1, hl2⟩
          · as_aux_lemma =>
            go_wp2_with fail
            refine HWd.out.mono ?_
            rintro e w2 ⟨ad2, cp2, rfl, hO2⟩
            have hOr := Lib.hid (hO2.quiet (grown_drew (World.grownBy.refl w2 none)))
            have hz0 := Lib.hid (HSr.out _ _ _ hOr.out)
            clear HWd hO2 x1
            go_wp2_with fail
            refine wp_region_held_drew (S := fun w' => SAr X g o j (A : Int) (I : Int) (B : Int) W8 xm xn nn w') (by kernel_rfl) (hz0.out) (fun hS => ?_)
            refine wpAnyH_take (i := 0) (oi := { dst := some 61, op := Op.load 23 (Operand.tmp 3), type := 23, pos := "law.go:68", after := #[], guard := none }) (v := ?vpa18r12o0) rfl (by kernel_rfl) (by kernel_rfl) (by kernel_rfl) (fun _ _ _ h => h) (Or.inl ⟨by rfl, ?hpa18r12o0⟩) hS ?_
            case hpa18r12o0 => (intro wx hx; obtain ⟨hg0, y0, y2, y3, y4⟩ := hx; obtain ⟨f0, f1, f2⟩ := GeoQ.cells hg0; go_simp; (try with_reducible rfl))
            try simp only [Act.put, List.setIfInBounds_toArray, List.set_cons_zero, List.set_cons_succ]
            refine wpAnyH_take (i := 1) (oi := { dst := some 62, op := Op.move (Operand.tmp 2), type := 25, pos := "law.go:68", after := #[], guard := none }) (v := ?vpa18r12o1) rfl (by kernel_rfl) (by kernel_rfl) (by kernel_rfl) (fun _ _ _ h => h) (Or.inl ⟨by rfl, ?hpa18r12o1⟩) hS ?_
            case hpa18r12o1 => (intro wx hx; skip; go_simp; (try with_reducible rfl))
            try simp only [Act.put, List.setIfInBounds_toArray, List.set_cons_zero, List.set_cons_succ]
            refine wpAnyH_take (i := 2) (oi := { dst := some 63, op := Op.move (Operand.tmp 6), type := 3, pos := "law.go:68", after := #[], guard := none }) (v := ?vpa18r12o2) rfl (by kernel_rfl) (by kernel_rfl) (by kernel_rfl) (fun _ _ _ h => h) (Or.inl ⟨by rfl, ?hpa18r12o2⟩) hS ?_
            case hpa18r12o2 => (intro wx hx; skip; go_simp; (try with_reducible rfl))
            try simp only [Act.put, List.setIfInBounds_toArray, List.set_cons_zero, List.set_cons_succ]
            refine wpAnyH_take (i := 3) (oi := { dst := some 64, op := Op.indexAddr 25 (Operand.tmp 62) (Operand.tmp 63), type := 0, pos := "law.go:68", after := #[{ on := 1, ground := Ground.data }, { on := 2, ground := Ground.data }], guard := none }) (v := ?vpa18r12o3) rfl (by kernel_rfl) (by kernel_rfl) (by kernel_rfl) (fun _ _ _ h => h) (Or.inl ⟨by rfl, ?hpa18r12o3⟩) hS ?_
            case hpa18r12o3 => (intro wx hx; skip; go_simp; (try with_reducible rfl))
            try simp only [Act.put, List.setIfInBounds_toArray, List.set_cons_zero, List.set_cons_succ]
            refine wpAnyH_take (i := 4) (oi := { dst := some 65, op := Op.fieldAddr 114 (Operand.tmp 64) 0, type := 0, pos := "law.go:68", after := #[{ on := 3, ground := Ground.data }], guard := none }) (v := ?vpa18r12o4) rfl (by kernel_rfl) (by kernel_rfl) (by kernel_rfl) (fun _ _ _ h => h) (Or.inl ⟨by rfl, ?hpa18r12o4⟩) hS ?_
            case hpa18r12o4 => (intro wx hx; skip; go_simp; (try with_reducible rfl))
            try simp only [Act.put, List.setIfInBounds_toArray, List.set_cons_zero, List.set_cons_succ]
            refine wpAnyH_take (i := 5) (oi := { dst := some 66, op := Op.load 5 (Operand.tmp 65), type := 5, pos := "law.go:68", after := #[{ on := 4, ground := Ground.data }], guard := none }) (v := ?vpa18r12o5) rfl (by kernel_rfl) (by kernel_rfl) (by kernel_rfl) (fun _ _ _ h => h) (Or.inl ⟨by rfl, ?hpa18r12o5⟩) hS ?_
            case hpa18r12o5 => (intro wx hx; obtain ⟨hg0, y0, y2, y3, y4⟩ := hx; obtain ⟨f0, f1, f2⟩ := GeoQ.cells hg0; go_simp; (try with_reducible rfl))
            try simp only [Act.put, List.setIfInBounds_toArray, List.set_cons_zero, List.set_cons_succ]
            refine wpAnyH_take (i := 6) (oi := { dst := some 67, op := Op.convert 5 3 (Operand.tmp 66), type := 3, pos := "law.go:68", after := #[{ on := 5, ground := Ground.data }], guard := none }) (v := ?vpa18r12o6) rfl (by kernel_rfl) (by kernel_rfl) (by kernel_rfl) (fun _ _ _ h => h) (Or.inl ⟨by rfl, ?hpa18r12o6⟩) hS ?_
            case hpa18r12o6 => (intro wx hx; obtain ⟨hg0, y0, y2, y3, y4⟩ := hx; obtain ⟨f0, f1, f2⟩ := GeoQ.cells hg0; go_simp; (try with_reducible rfl))
            try simp only [Act.put, List.setIfInBounds_toArray, List.set_cons_zero, List.set_cons_succ]
            refine wpAnyH_take (i := 7) (oi := { dst := some 68, op := Op.fieldAddr 23 (Operand.tmp 3) 0, type := 0, pos := "law.go:68", after := #[], guard := none }) (v := ?vpa18r12o7) rfl (by kernel_rfl) (by kernel_rfl) (by kernel_rfl) (fun _ _ _ h => h) (Or.inl ⟨by rfl, ?hpa18r12o7⟩) hS ?_
            case hpa18r12o7 => (intro wx hx; skip; go_simp; (try with_reducible rfl))
            try simp only [Act.put, List.setIfInBounds_toArray, List.set_cons_zero, List.set_cons_succ]
            refine wpAnyH_take (i := 8) (oi := { dst := some 69, op := Op.load 3 (Operand.tmp 68), type := 3, pos := "law.go:68", after := #[{ on := 7, ground := Ground.data }], guard := none }) (v := ?vpa18r12o8) rfl (by kernel_rfl) (by kernel_rfl) (by kernel_rfl) (fun _ _ _ h => h) (Or.inl ⟨by rfl, ?hpa18r12o8⟩) hS ?_
            case hpa18r12o8 => (intro wx hx; obtain ⟨hg0, y0, y2, y3, y4⟩ := hx; obtain ⟨f0, f1, f2⟩ := GeoQ.cells hg0; go_simp; (try with_reducible rfl))
            try simp only [Act.put, List.setIfInBounds_toArray, List.set_cons_zero, List.set_cons_succ]
            refine wpAnyH_take (i := 9) (oi := { dst := some 70, op := Op.binOp BinOp.rem 3 (Operand.tmp 67) (Operand.tmp 69) 3, type := 3, pos := "law.go:68", after := #[{ on := 6, ground := Ground.data }, { on := 8, ground := Ground.data }], guard := none }) (v := ?vpa18r12o9) rfl (by kernel_rfl) (by kernel_rfl) (by kernel_rfl) (fun _ _ _ h => h) (Or.inl ⟨by rfl, ?hpa18r12o9⟩) hS ?_
            case hpa18r12o9 => (intro wx hx; skip; go_simp; (try with_reducible rfl))
            try simp only [Act.put, List.setIfInBounds_toArray, List.set_cons_zero, List.set_cons_succ]
            refine wpAnyH_ready (rs := [10]) (by kernel_rfl) (by simp) ?_
            refine AllReadyH.cons (o := { dst := some 71, op := Op.call { callee := Callee.value (Operand.func 40), args := #[Operand.tmp 61, Operand.tmp 70], argTypes := #[23, 3] }, type := 3, pos := "law.go:68", after := #[{ on := 0, ground := Ground.data }, { on := 9, ground := Ground.data }], guard := none }) rfl (fun K hK => ?_) AllReadyH.nil
            go_simp
            refine (HAt.out _).mono ?_
            rintro e v1 ⟨rfl, hn⟩
            have hOn := Lib.hid (hOr.out.quiet hn)
            clear hOr hn
            have hOr := hOn
            clear hOn
            refine hK.out _ _ ?hspa18r12o10 (fun hS => ?_)
            case hspa18r12o10 => (exact HSr.out _ _ _ hOr.out)
            clear hK K
            try simp only [Act.put, List.setIfInBounds_toArray, List.set_cons_zero, List.set_cons_succ]
            refine wpAnyH_take (i := 11) (oi := { dst := some 13, op := Op.assign (Operand.tmp 71), type := 3, pos := "law.go:68", after := #[{ on := 10, ground := Ground.data }, { on := 10, ground := Ground.chain }, { on := 0, ground := Ground.phase }, { on := 1, ground := Ground.phase }, { on := 2, ground := Ground.phase }, { on := 3, ground := Ground.phase }, { on := 4, ground := Ground.phase }, { on := 5, ground := Ground.phase }, { on := 6, ground := Ground.phase }, { on := 7, ground := Ground.phase }, { on := 8, ground := Ground.phase }, { on := 9, ground := Ground.phase }, { on := 10, ground := Ground.phase }], guard := none }) (v := ?vpa18r12o11) rfl (by kernel_rfl) (by kernel_rfl) (by kernel_rfl) (fun _ _ _ h => h) (Or.inl ⟨by rfl, ?hpa18r12o11⟩) hS ?_
            case hpa18r12o11 => (intro wx hx; skip; go_simp; (try with_reducible rfl))
            try simp only [Act.put, List.setIfInBounds_toArray, List.set_cons_zero, List.set_cons_succ]
            refine wpAnyH_done (by kernel_rfl) ?_ _
            have HMk := Lib.hid (fun wx (hO : Grommet.Own w0 wx (QLs Ps m q K cp ys [BX, rowP 45 1 (.slice ad2 Z cp2) Z (XR.map wv)])) => RefMark_any ad2 Z cp2 XR wx (Own.words hO (Ps.length + 1) (HgetC.out _ _ _ _) hXs (by omega)).1)
            obtain ⟨mk, hmk⟩ : ∃ mk, markV XR = mk := ⟨_, rfl⟩
            rw [hmk] at HMk
            obtain ⟨v, hv, hvb⟩ : ∃ v : Nat, IntKind.u64.wrap ((mk : Int) + xm) = (v : Int) ∧ v < 18446744073709551616 := by
              refine ⟨((((mk : Int) + xm) % 18446744073709551616)).toNat, ?_, ?_⟩
              · rw [IntKind.wrap_u64]; omega
              · omega
            have a0K : a0 < K := by omega
            have a00 : (0 : Int) ≤ (a0 : Int) := by omega
            have a0k : (a0 : Int) < (K : Int) := by omega
            have HSt := Lib.hid (fun wx zs R (hz : zs.length = K) (hO : Grommet.Own w0 wx (QLs Ps m q K cp zs R)) => words_put hO m (HgetM.out zs R) hz a0 a0K)
            have HE1 : Hid (OutEq A K xs (ys.set a0 v)) := Lib.hid (HE.out.set a0 v (by omega) hvb)
            have hOr2 := Lib.hid (hOr.out.quiet (grown_drew (World.grownBy.refl v1 none)))
            have hz1 := Lib.hid (HSr.out _ _ _ hOr2.out)
            clear hOr hS hz0 hmk HAt k1 k2 k3 k4 k5 k6 k7
            have hOr := hOr2
            clear hOr2
            go_wp2_with fail
            refine wp_region_held_drew (S := fun w' => SAr X g o j (A : Int) (I : Int) (B : Int) W8 xm xn nn w') (by kernel_rfl) (hz1.out) (fun hS => ?_)
            refine wpAnyH_take (i := 0) (oi := { dst := some 85, op := Op.move (Operand.tmp 1), type := 42, pos := "law.go:72", after := #[], guard := none }) (v := ?vpb18r14o0) rfl (by kernel_rfl) (by kernel_rfl) (by kernel_rfl) (fun _ _ _ h => h) (Or.inl ⟨by rfl, ?hpb18r14o0⟩) hS ?_
            case hpb18r14o0 => (intro wx hx; skip; go_simp; (try with_reducible rfl))
            try simp only [Act.put, List.setIfInBounds_toArray, List.set_cons_zero, List.set_cons_succ]
            refine wpAnyH_take (i := 1) (oi := { dst := some 86, op := Op.move (Operand.tmp 13), type := 3, pos := "law.go:72", after := #[], guard := none }) (v := ?vpb18r14o1) rfl (by kernel_rfl) (by kernel_rfl) (by kernel_rfl) (fun _ _ _ h => h) (Or.inl ⟨by rfl, ?hpb18r14o1⟩) hS ?_
            case hpb18r14o1 => (intro wx hx; skip; go_simp; (try with_reducible rfl))
            try simp only [Act.put, List.setIfInBounds_toArray, List.set_cons_zero, List.set_cons_succ]
            refine wpAnyH_take (i := 2) (oi := { dst := some 87, op := Op.move (Operand.tmp 11), type := 42, pos := "law.go:72", after := #[], guard := none }) (v := ?vpb18r14o2) rfl (by kernel_rfl) (by kernel_rfl) (by kernel_rfl) (fun _ _ _ h => h) (Or.inl ⟨by rfl, ?hpb18r14o2⟩) hS ?_
            case hpb18r14o2 => (intro wx hx; skip; go_simp; (try with_reducible rfl))
            try simp only [Act.put, List.setIfInBounds_toArray, List.set_cons_zero, List.set_cons_succ]
            refine wpAnyH_take (i := 4) (oi := { dst := some 89, op := Op.move (Operand.tmp 2), type := 25, pos := "law.go:72", after := #[], guard := none }) (v := ?vpb18r14o4) rfl (by kernel_rfl) (by kernel_rfl) (by kernel_rfl) (fun _ _ _ h => h) (Or.inl ⟨by rfl, ?hpb18r14o4⟩) hS ?_
            case hpb18r14o4 => (intro wx hx; skip; go_simp; (try with_reducible rfl))
            try simp only [Act.put, List.setIfInBounds_toArray, List.set_cons_zero, List.set_cons_succ]
            refine wpAnyH_take (i := 5) (oi := { dst := some 90, op := Op.move (Operand.tmp 6), type := 3, pos := "law.go:72", after := #[], guard := none }) (v := ?vpb18r14o5) rfl (by kernel_rfl) (by kernel_rfl) (by kernel_rfl) (fun _ _ _ h => h) (Or.inl ⟨by rfl, ?hpb18r14o5⟩) hS ?_
            case hpb18r14o5 => (intro wx hx; skip; go_simp; (try with_reducible rfl))
            try simp only [Act.put, List.setIfInBounds_toArray, List.set_cons_zero, List.set_cons_succ]
            refine wpAnyH_take (i := 6) (oi := { dst := some 91, op := Op.indexAddr 25 (Operand.tmp 89) (Operand.tmp 90), type := 0, pos := "law.go:72", after := #[{ on := 4, ground := Ground.data }, { on := 5, ground := Ground.data }], guard := none }) (v := ?vpb18r14o6) rfl (by kernel_rfl) (by kernel_rfl) (by kernel_rfl) (fun _ _ _ h => h) (Or.inl ⟨by rfl, ?hpb18r14o6⟩) hS ?_
            case hpb18r14o6 => (intro wx hx; skip; go_simp; (try with_reducible rfl))
            try simp only [Act.put, List.setIfInBounds_toArray, List.set_cons_zero, List.set_cons_succ]
            refine wpAnyH_take (i := 7) (oi := { dst := some 92, op := Op.fieldAddr 114 (Operand.tmp 91) 2, type := 0, pos := "law.go:72", after := #[{ on := 6, ground := Ground.data }], guard := none }) (v := ?vpb18r14o7) rfl (by kernel_rfl) (by kernel_rfl) (by kernel_rfl) (fun _ _ _ h => h) (Or.inl ⟨by rfl, ?hpb18r14o7⟩) hS ?_
            case hpb18r14o7 => (intro wx hx; skip; go_simp; (try with_reducible rfl))
            try simp only [Act.put, List.setIfInBounds_toArray, List.set_cons_zero, List.set_cons_succ]
            refine wpAnyH_take (i := 8) (oi := { dst := some 93, op := Op.load 45 (Operand.tmp 92), type := 45, pos := "law.go:72", after := #[{ on := 7, ground := Ground.data }], guard := none }) (v := ?vpb18r14o8) rfl (by kernel_rfl) (by kernel_rfl) (by kernel_rfl) (fun _ _ _ h => h) (Or.inl ⟨by rfl, ?hpb18r14o8⟩) hS ?_
            case hpb18r14o8 => (intro wx hx; obtain ⟨hg0, y0, y2, y3, y4⟩ := hx; go_simp; (try with_reducible rfl))
            try simp only [Act.put, List.setIfInBounds_toArray, List.set_cons_zero, List.set_cons_succ]
            refine wpAnyH_ready (rs := [3]) (by kernel_rfl) (by simp) ?_
            refine AllReadyH.cons (o := { dst := some 88, op := Op.call { callee := Callee.value (Operand.func 61), args := #[Operand.tmp 87], argTypes := #[42] }, type := 45, pos := "law.go:72", after := #[{ on := 2, ground := Ground.data }], guard := none }) rfl (fun K hK => ?_) AllReadyH.nil
            go_simp
            refine (HMk.out _ hOr.out).mono ?_
            rintro e v2 ⟨rfl, hn⟩
            have hOn := Lib.hid (hOr.out.quiet hn)
            clear hOr hn
            have hOr := hOn
            clear hOn
            refine hK.out _ _ ?hspb18r14o3 (fun hS => ?_)
            case hspb18r14o3 => (exact HSr.out _ _ _ hOr.out)
            clear hK K
            try simp only [Act.put, List.setIfInBounds_toArray, List.set_cons_zero, List.set_cons_succ]
            refine wpAnyH_take (i := 9) (oi := { dst := some 94, op := Op.binOp BinOp.add 45 (Operand.tmp 88) (Operand.tmp 93) 45, type := 45, pos := "law.go:72", after := #[{ on := 3, ground := Ground.data }, { on := 8, ground := Ground.data }], guard := none }) (v := ?vpb18r14o9) rfl (by kernel_rfl) (by kernel_rfl) (by kernel_rfl) (fun _ _ _ h => h) (Or.inl ⟨by rfl, ?hpb18r14o9⟩) hS ?_
            case hpb18r14o9 => (intro wx hx; skip; go_simp; (try with_reducible rfl))
            try simp only [Act.put, List.setIfInBounds_toArray, List.set_cons_zero, List.set_cons_succ]
            refine wpAnyH_take (i := 10) (oi := { dst := some 95, op := Op.indexAddr 42 (Operand.tmp 85) (Operand.tmp 86), type := 0, pos := "law.go:72", after := #[{ on := 0, ground := Ground.data }, { on := 1, ground := Ground.data }, { on := 0, ground := Ground.phase }, { on := 1, ground := Ground.phase }, { on := 2, ground := Ground.phase }, { on := 3, ground := Ground.phase }, { on := 4, ground := Ground.phase }, { on := 5, ground := Ground.phase }, { on := 6, ground := Ground.phase }, { on := 7, ground := Ground.phase }, { on := 8, ground := Ground.phase }, { on := 9, ground := Ground.phase }], guard := none }) (v := ?vpb18r14o10) rfl (by kernel_rfl) (by kernel_rfl) (by kernel_rfl) (fun _ _ _ h => h) (Or.inl ⟨by rfl, ?hpb18r14o10⟩) hS ?_
            case hpb18r14o10 => (intro wx hx; skip; go_simp; (try with_reducible rfl))
            try simp only [Act.put, List.setIfInBounds_toArray, List.set_cons_zero, List.set_cons_succ]
            refine wpAnyH_ready (rs := [11]) (by kernel_rfl) (by simp) ?_
            refine AllReadyH.cons (o := { dst := none, op := Op.store 45 (Operand.tmp 95) (Operand.tmp 94), type := 0, pos := "law.go:72", after := #[{ on := 10, ground := Ground.data }, { on := 9, ground := Ground.data }, { on := 3, ground := Ground.chain }, { on := 0, ground := Ground.phase }, { on := 1, ground := Ground.phase }, { on := 2, ground := Ground.phase }, { on := 3, ground := Ground.phase }, { on := 4, ground := Ground.phase }, { on := 5, ground := Ground.phase }, { on := 6, ground := Ground.phase }, { on := 7, ground := Ground.phase }, { on := 8, ground := Ground.phase }, { on := 9, ground := Ground.phase }], guard := none }) rfl (fun K hK => ?_) AllReadyH.nil
            obtain ⟨e1, e2, e3⟩ := HSt.out _ _ _ HE.out.1 hOr.out
            have hOz := Lib.hid (e3 v)
            rw [HsetM.out] at hOz
            clear hOr e3
            go_simp
            refine hK.out _ _ ?hsb (fun hS => ?_)
            case hsb => exact HSr.out _ _ _ hOz.out
            clear hK K
            try simp only [Act.put, List.setIfInBounds_toArray, List.set_cons_zero, List.set_cons_succ]
            refine wpAnyH_done (by kernel_rfl) ?_ _
            obtain ⟨wz, hwz⟩ : ∃ wz, v2.setCell ⟨q, a0, none⟩ (.int .u64 (v : Int)) = wz := ⟨_, rfl⟩
            rw [hwz] at hOz hS ⊢
            clear hwz hz1 HMk hv k8 k9 k10
            obtain ⟨ys1, hys1⟩ : ∃ ys1, ys.set a0 v = ys1 := ⟨_, rfl⟩
            rw [hys1] at hOz HE1
            obtain ⟨_, _, _, _, y4⟩ := hS
            obtain ⟨q2, he2, _, _, _⟩ := Own.cell hOz.out (Ps.length + 1) (HgetC.out _ _ _ _) 0 (wv (XR.getD 0 0)) (by rw [List.getElem?_map, List.getElem?_eq_getElem (by omega), List.getD_eq_getElem?_getD, List.getElem?_eq_getElem (by omega)]; rfl)
            subst he2
            obtain ⟨a8, ha8⟩ : ∃ a8, a0 + 8 = a8 := ⟨_, rfl⟩
            have w8 : IntKind.i64.wrap ((a0 : Int) + 8) = (a8 : Int) := by rw [IntWalk.i64_in _ ⟨by omega, by omega⟩]; omega
            cases nn with
            | false =>
              as_aux_lemma =>
                have HE2 := HE1
                have hO2 := hOz
                clear hOz HE1 HE hys1 hvb HSt
                have HSt := True.intro
                go_wp2_with fail
                go_loopw [14] (fun kk wr2 => ∃ (i : Nat) (zs : List Nat), i ≤ Z ∧ kk = .int .i64 (i : Int) ∧ Hid (OutEq A K xs zs) ∧ Hid (Grommet.Own w0 wr2 (QLs Ps m q K cp zs [BX, rowP 45 1 (.slice (some ⟨q2, 0, none⟩) Z cp2) Z (XR.map wv)]))) (fun kk _ => Z - (intOf kk).toNat)
                case atStart => exact ⟨0, _, Nat.zero_le _, rfl, HE2, hO2⟩
                case round =>
                  clear hO2 HE2
                  obtain ⟨i, zs, hi, rfl, HEz, hOx⟩ := hrel
                  have i0 : (0 : Int) ≤ (i : Int) := by omega
                  by_cases hiz : i < Z
                  · as_aux_lemma =>
                    have l9 : (i : Int) < (Z : Int) := by omega
                    have hiX : i < XR.length := by omega
                    obtain ⟨q3, he3, e4, _, _⟩ := Own.cell hOx.out (Ps.length + 1) (HgetC.out _ _ _ _) i (wv (XR.getD i 0)) (by rw [List.getElem?_map, List.getElem?_eq_getElem hiX, List.getD_eq_getElem?_getD, List.getElem?_eq_getElem hiX]; rfl)
                    cases he3
                    have hVs : XR.getD i 0 < 18446744073709551616 := by rw [List.getD_eq_getElem?_getD, List.getElem?_eq_getElem hiX]; exact hXs _ (by simp)
                    unfold wv at e4
                    obtain ⟨V, hV⟩ : ∃ V, XR.getD i 0 = V := ⟨_, rfl⟩
                    rw [hV] at e4 hVs
                    obtain ⟨t, ht⟩ : ∃ t, a8 + i = t := ⟨_, rfl⟩
                    have wt : IntKind.i64.wrap ((a8 : Int) + (i : Int)) = (t : Int) := by rw [IntWalk.i64_in _ ⟨by omega, by omega⟩]; omega
                    have t0 : (0 : Int) ≤ (t : Int) := by omega
                    have tK : (t : Int) < (K : Int) := by omega
                    have wi : IntKind.i64.wrap ((i : Int) + 1) = (i : Int) + 1 := IntWalk.i64_in _ ⟨by omega, by omega⟩
                    obtain ⟨e5, e6, e7⟩ := words_put hOx.out m (HgetM.out _ _) HEz.out.1 t (by omega)
                    have hOn := e7 V
                    rw [HsetM.out] at hOn
                    have hOn := Lib.hid hOn
                    have HEn : Hid (OutEq A K xs (zs.set t V)) := Lib.hid (HEz.out.set t V (by omega) hVs)
                    clear hOx HEz e7 ht hV hiX HSr HSt HgetM HsetM HgetB HgetC HsetC HT HW Hx Hok HBX
                    go_wp2
                    go_roundw
                    case rel => exact ⟨i + 1, _, by omega, by go_num, HEn, hOn⟩
                    case measure => simp [intOf]; omega
                  · as_aux_lemma =>
                    obtain rfl : Z = i := by omega
                    have l9 : ¬ (Z : Int) < (Z : Int) := by omega
                    obtain ⟨b1, hb1⟩ : ∃ b1, a8 + Z = b1 := ⟨_, rfl⟩
                    obtain ⟨b2, hb2⟩ : ∃ b2, b1 - 1 = b2 := ⟨_, rfl⟩
                    have wb1 : IntKind.i64.wrap ((a8 : Int) + (Z : Int)) = (b1 : Int) := by rw [IntWalk.i64_in _ ⟨by omega, by omega⟩]; omega
                    have wb2 : IntKind.i64.wrap ((b1 : Int) - 1) = (b2 : Int) := by rw [IntWalk.i64_in _ ⟨by omega, by omega⟩]; omega
                    have t0 : (0 : Int) ≤ (b2 : Int) := by omega
                    have tK : (b2 : Int) < (K : Int) := by omega
                    have hOd := hOx.out.quiet (grown_drew (World.grownBy.refl wr none))
                    have e5 := (words_put hOx.out m (HgetM.out _ _) HEz.out.1 b2 (by omega)).1
                    have e67 := (words_put hOd m (HgetM.out _ _) HEz.out.1 b2 (by omega)).2
                    obtain ⟨e6, e7⟩ := e67
                    obtain ⟨U, hU, hUb⟩ : ∃ v : Nat, IntKind.u64.wrap ((zs.getD b2 0 : Int) + xn) = (v : Int) ∧ v < 18446744073709551616 := by
                      refine ⟨((((zs.getD b2 0 : Nat) : Int) + xn) % 18446744073709551616).toNat, ?_, ?_⟩
                      · rw [IntKind.wrap_u64]; omega
                      · omega
                    have hOn := e7 U
                    rw [HsetM.out, QLs.two] at hOn
                    have hOn := Lib.hid hOn.less
                    have HEn : Hid (OutEq A K xs (zs.set b2 U)) := Lib.hid (HEz.out.set b2 U (by omega) hUb)
                    obtain ⟨_, _, _, y3, _⟩ := HSr.out wr _ _ hOx.out
                    generalize zs.getD b2 0 = V at e5 hU
                    clear hOx HEz e7 hb1 hb2 hOd HSr HSt HgetM HsetM HgetB HgetC HsetC HT HW Hx Hok HBX hXs hXl
                    go_wp2_with fail
                    go_still_tail 16, (by kernel_rfl)
                    change wpList _ _ _ _ _ wr.drew
                    go_wp2
                    go_roundw
                    case rel => exact ⟨j + 1, _, by omega, by go_num, HEn, hOn⟩
                    case measure => simp [intOf]; omega
            | true =>
              as_aux_lemma =>
                obtain ⟨e1, e2, e3⟩ := HSt.out _ _ _ HE1.out.1 hOz.out
                have hO2 := e3 0
                rw [HsetM.out] at hO2
                have hO2 := Lib.hid hO2
                have HE2 : Hid (OutEq A K xs (ys1.set a0 0)) := Lib.hid (HE1.out.set a0 0 (by omega) (by omega))
                clear hOz HE1 HE hys1 hvb e3
                go_wp2_with fail
                go_loopw [14] (fun kk wr2 => ∃ (i : Nat) (zs : List Nat), i ≤ Z ∧ kk = .int .i64 (i : Int) ∧ Hid (OutEq A K xs zs) ∧ Hid (Grommet.Own w0 wr2 (QLs Ps m q K cp zs [BX, rowP 45 1 (.slice (some ⟨q2, 0, none⟩) Z cp2) Z (XR.map wv)]))) (fun kk _ => Z - (intOf kk).toNat)
                case atStart => exact ⟨0, _, Nat.zero_le _, rfl, HE2, hO2⟩
                case round =>
                  clear hO2 HE2
                  obtain ⟨i, zs, hi, rfl, HEz, hOx⟩ := hrel
                  have i0 : (0 : Int) ≤ (i : Int) := by omega
                  by_cases hiz : i < Z
                  · as_aux_lemma =>
                    have l9 : (i : Int) < (Z : Int) := by omega
                    have hiX : i < XR.length := by omega
                    obtain ⟨q3, he3, e4, _, _⟩ := Own.cell hOx.out (Ps.length + 1) (HgetC.out _ _ _ _) i (wv (XR.getD i 0)) (by rw [List.getElem?_map, List.getElem?_eq_getElem hiX, List.getD_eq_getElem?_getD, List.getElem?_eq_getElem hiX]; rfl)
                    cases he3
                    have hVs : XR.getD i 0 < 18446744073709551616 := by rw [List.getD_eq_getElem?_getD, List.getElem?_eq_getElem hiX]; exact hXs _ (by simp)
                    unfold wv at e4
                    obtain ⟨V, hV⟩ : ∃ V, XR.getD i 0 = V := ⟨_, rfl⟩
                    rw [hV] at e4 hVs
                    obtain ⟨t, ht⟩ : ∃ t, a8 + i = t := ⟨_, rfl⟩
                    have wt : IntKind.i64.wrap ((a8 : Int) + (i : Int)) = (t : Int) := by rw [IntWalk.i64_in _ ⟨by omega, by omega⟩]; omega
                    have t0 : (0 : Int) ≤ (t : Int) := by omega
                    have tK : (t : Int) < (K : Int) := by omega
                    have wi : IntKind.i64.wrap ((i : Int) + 1) = (i : Int) + 1 := IntWalk.i64_in _ ⟨by omega, by omega⟩
                    obtain ⟨e5, e6, e7⟩ := words_put hOx.out m (HgetM.out _ _) HEz.out.1 t (by omega)
                    have hOn := e7 V
                    rw [HsetM.out] at hOn
                    have hOn := Lib.hid hOn
                    have HEn : Hid (OutEq A K xs (zs.set t V)) := Lib.hid (HEz.out.set t V (by omega) hVs)
                    clear hOx HEz e7 ht hV hiX HSr HSt HgetM HsetM HgetB HgetC HsetC HT HW Hx Hok HBX
                    go_wp2
                    go_roundw
                    case rel => exact ⟨i + 1, _, by omega, by go_num, HEn, hOn⟩
                    case measure => simp [intOf]; omega
                  · as_aux_lemma =>
                    obtain rfl : Z = i := by omega
                    have l9 : ¬ (Z : Int) < (Z : Int) := by omega
                    obtain ⟨b1, hb1⟩ : ∃ b1, a8 + Z = b1 := ⟨_, rfl⟩
                    obtain ⟨b2, hb2⟩ : ∃ b2, b1 - 1 = b2 := ⟨_, rfl⟩
                    have wb1 : IntKind.i64.wrap ((a8 : Int) + (Z : Int)) = (b1 : Int) := by rw [IntWalk.i64_in _ ⟨by omega, by omega⟩]; omega
                    have wb2 : IntKind.i64.wrap ((b1 : Int) - 1) = (b2 : Int) := by rw [IntWalk.i64_in _ ⟨by omega, by omega⟩]; omega
                    have t0 : (0 : Int) ≤ (b2 : Int) := by omega
                    have tK : (b2 : Int) < (K : Int) := by omega
                    have hOd := hOx.out.quiet (grown_drew (World.grownBy.refl wr none))
                    have e5 := (words_put hOx.out m (HgetM.out _ _) HEz.out.1 b2 (by omega)).1
                    have e67 := (words_put hOd m (HgetM.out _ _) HEz.out.1 b2 (by omega)).2
                    obtain ⟨e6, e7⟩ := e67
                    obtain ⟨U, hU, hUb⟩ : ∃ v : Nat, IntKind.u64.wrap ((zs.getD b2 0 : Int) + xn) = (v : Int) ∧ v < 18446744073709551616 := by
                      refine ⟨((((zs.getD b2 0 : Nat) : Int) + xn) % 18446744073709551616).toNat, ?_, ?_⟩
                      · rw [IntKind.wrap_u64]; omega
                      · omega
                    have hOn := e7 U
                    rw [HsetM.out, QLs.two] at hOn
                    have hOn := Lib.hid hOn.less
                    have HEn : Hid (OutEq A K xs (zs.set b2 U)) := Lib.hid (HEz.out.set b2 U (by omega) hUb)
                    obtain ⟨_, _, _, y3, _⟩ := HSr.out wr _ _ hOx.out
                    generalize zs.getD b2 0 = V at e5 hU
                    clear hOx HEz e7 hb1 hb2 hOd HSr HSt HgetM HsetM HgetB HgetC HsetC HT HW Hx Hok HBX hXs hXl
                    go_wp2_with fail
                    go_still_tail 16, (by kernel_rfl)
                    change wpList _ _ _ _ _ wr.drew
                    go_wp2
                    go_roundw
                    case rel => exact ⟨j + 1, _, by omega, by go_num, HEn, hOn⟩
                    case measure => simp [intOf]; omega
          · as_aux_lemma =>
            go_wp2_with fail
            refine HWd.out.mono ?_
            rintro e w2 ⟨ad2, cp2, rfl, hO2⟩
            have hOr := Lib.hid (hO2.quiet (grown_drew (World.grownBy.refl w2 none)))
            have hz0 := Lib.hid (HSr.out _ _ _ hOr.out)
            clear HWd hO2 x1
            go_wp2_with fail
            refine wp_region_held_drew (S := fun w' => SAr X g o j (A : Int) (I : Int) (B : Int) W8 xm xn nn w') (by kernel_rfl) (hz0.out) (fun hS => ?_)
            refine wpAnyH_take (i := 0) (oi := { dst := some 61, op := Op.load 23 (Operand.tmp 3), type := 23, pos := "law.go:68", after := #[], guard := none }) (v := ?vpc18r12o0) rfl (by kernel_rfl) (by kernel_rfl) (by kernel_rfl) (fun _ _ _ h => h) (Or.inl ⟨by rfl, ?hpc18r12o0⟩) hS ?_
            case hpc18r12o0 => (intro wx hx; obtain ⟨hg0, y0, y2, y3, y4⟩ := hx; obtain ⟨f0, f1, f2⟩ := GeoQ.cells hg0; go_simp; (try with_reducible rfl))
            try simp only [Act.put, List.setIfInBounds_toArray, List.set_cons_zero, List.set_cons_succ]
            refine wpAnyH_take (i := 1) (oi := { dst := some 62, op := Op.move (Operand.tmp 2), type := 25, pos := "law.go:68", after := #[], guard := none }) (v := ?vpc18r12o1) rfl (by kernel_rfl) (by kernel_rfl) (by kernel_rfl) (fun _ _ _ h => h) (Or.inl ⟨by rfl, ?hpc18r12o1⟩) hS ?_
            case hpc18r12o1 => (intro wx hx; skip; go_simp; (try with_reducible rfl))
            try simp only [Act.put, List.setIfInBounds_toArray, List.set_cons_zero, List.set_cons_succ]
            refine wpAnyH_take (i := 2) (oi := { dst := some 63, op := Op.move (Operand.tmp 6), type := 3, pos := "law.go:68", after := #[], guard := none }) (v := ?vpc18r12o2) rfl (by kernel_rfl) (by kernel_rfl) (by kernel_rfl) (fun _ _ _ h => h) (Or.inl ⟨by rfl, ?hpc18r12o2⟩) hS ?_
            case hpc18r12o2 => (intro wx hx; skip; go_simp; (try with_reducible rfl))
            try simp only [Act.put, List.setIfInBounds_toArray, List.set_cons_zero, List.set_cons_succ]
            refine wpAnyH_take (i := 3) (oi := { dst := some 64, op := Op.indexAddr 25 (Operand.tmp 62) (Operand.tmp 63), type := 0, pos := "law.go:68", after := #[{ on := 1, ground := Ground.data }, { on := 2, ground := Ground.data }], guard := none }) (v := ?vpc18r12o3) rfl (by kernel_rfl) (by kernel_rfl) (by kernel_rfl) (fun _ _ _ h => h) (Or.inl ⟨by rfl, ?hpc18r12o3⟩) hS ?_
            case hpc18r12o3 => (intro wx hx; skip; go_simp; (try with_reducible rfl))
            try simp only [Act.put, List.setIfInBounds_toArray, List.set_cons_zero, List.set_cons_succ]
            refine wpAnyH_take (i := 4) (oi := { dst := some 65, op := Op.fieldAddr 114 (Operand.tmp 64) 0, type := 0, pos := "law.go:68", after := #[{ on := 3, ground := Ground.data }], guard := none }) (v := ?vpc18r12o4) rfl (by kernel_rfl) (by kernel_rfl) (by kernel_rfl) (fun _ _ _ h => h) (Or.inl ⟨by rfl, ?hpc18r12o4⟩) hS ?_
            case hpc18r12o4 => (intro wx hx; skip; go_simp; (try with_reducible rfl))
            try simp only [Act.put, List.setIfInBounds_toArray, List.set_cons_zero, List.set_cons_succ]
            refine wpAnyH_take (i := 5) (oi := { dst := some 66, op := Op.load 5 (Operand.tmp 65), type := 5, pos := "law.go:68", after := #[{ on := 4, ground := Ground.data }], guard := none }) (v := ?vpc18r12o5) rfl (by kernel_rfl) (by kernel_rfl) (by kernel_rfl) (fun _ _ _ h => h) (Or.inl ⟨by rfl, ?hpc18r12o5⟩) hS ?_
            case hpc18r12o5 => (intro wx hx; obtain ⟨hg0, y0, y2, y3, y4⟩ := hx; obtain ⟨f0, f1, f2⟩ := GeoQ.cells hg0; go_simp; (try with_reducible rfl))
            try simp only [Act.put, List.setIfInBounds_toArray, List.set_cons_zero, List.set_cons_succ]
            refine wpAnyH_take (i := 6) (oi := { dst := some 67, op := Op.convert 5 3 (Operand.tmp 66), type := 3, pos := "law.go:68", after := #[{ on := 5, ground := Ground.data }], guard := none }) (v := ?vpc18r12o6) rfl (by kernel_rfl) (by kernel_rfl) (by kernel_rfl) (fun _ _ _ h => h) (Or.inl ⟨by rfl, ?hpc18r12o6⟩) hS ?_
            case hpc18r12o6 => (intro wx hx; obtain ⟨hg0, y0, y2, y3, y4⟩ := hx; obtain ⟨f0, f1, f2⟩ := GeoQ.cells hg0; go_simp; (try with_reducible rfl))
            try simp only [Act.put, List.setIfInBounds_toArray, List.set_cons_zero, List.set_cons_succ]
            refine wpAnyH_take (i := 7) (oi := { dst := some 68, op := Op.fieldAddr 23 (Operand.tmp 3) 0, type := 0, pos := "law.go:68", after := #[], guard := none }) (v := ?vpc18r12o7) rfl (by kernel_rfl) (by kernel_rfl) (by kernel_rfl) (fun _ _ _ h => h) (Or.inl ⟨by rfl, ?hpc18r12o7⟩) hS ?_
            case hpc18r12o7 => (intro wx hx; skip; go_simp; (try with_reducible rfl))
            try simp only [Act.put, List.setIfInBounds_toArray, List.set_cons_zero, List.set_cons_succ]
            refine wpAnyH_take (i := 8) (oi := { dst := some 69, op := Op.load 3 (Operand.tmp 68), type := 3, pos := "law.go:68", after := #[{ on := 7, ground := Ground.data }], guard := none }) (v := ?vpc18r12o8) rfl (by kernel_rfl) (by kernel_rfl) (by kernel_rfl) (fun _ _ _ h => h) (Or.inl ⟨by rfl, ?hpc18r12o8⟩) hS ?_
            case hpc18r12o8 => (intro wx hx; obtain ⟨hg0, y0, y2, y3, y4⟩ := hx; obtain ⟨f0, f1, f2⟩ := GeoQ.cells hg0; go_simp; (try with_reducible rfl))
            try simp only [Act.put, List.setIfInBounds_toArray, List.set_cons_zero, List.set_cons_succ]
            refine wpAnyH_take (i := 9) (oi := { dst := some 70, op := Op.binOp BinOp.rem 3 (Operand.tmp 67) (Operand.tmp 69) 3, type := 3, pos := "law.go:68", after := #[{ on := 6, ground := Ground.data }, { on := 8, ground := Ground.data }], guard := none }) (v := ?vpc18r12o9) rfl (by kernel_rfl) (by kernel_rfl) (by kernel_rfl) (fun _ _ _ h => h) (Or.inl ⟨by rfl, ?hpc18r12o9⟩) hS ?_
            case hpc18r12o9 => (intro wx hx; skip; go_simp; (try with_reducible rfl))
            try simp only [Act.put, List.setIfInBounds_toArray, List.set_cons_zero, List.set_cons_succ]
            refine wpAnyH_ready (rs := [10]) (by kernel_rfl) (by simp) ?_
            refine AllReadyH.cons (o := { dst := some 71, op := Op.call { callee := Callee.value (Operand.func 40), args := #[Operand.tmp 61, Operand.tmp 70], argTypes := #[23, 3] }, type := 3, pos := "law.go:68", after := #[{ on := 0, ground := Ground.data }, { on := 9, ground := Ground.data }], guard := none }) rfl (fun K hK => ?_) AllReadyH.nil
            go_simp
            refine (HAt.out _).mono ?_
            rintro e v1 ⟨rfl, hn⟩
            have hOn := Lib.hid (hOr.out.quiet hn)
            clear hOr hn
            have hOr := hOn
            clear hOn
            refine hK.out _ _ ?hspc18r12o10 (fun hS => ?_)
            case hspc18r12o10 => (exact HSr.out _ _ _ hOr.out)
            clear hK K
            try simp only [Act.put, List.setIfInBounds_toArray, List.set_cons_zero, List.set_cons_succ]
            refine wpAnyH_take (i := 11) (oi := { dst := some 13, op := Op.assign (Operand.tmp 71), type := 3, pos := "law.go:68", after := #[{ on := 10, ground := Ground.data }, { on := 10, ground := Ground.chain }, { on := 0, ground := Ground.phase }, { on := 1, ground := Ground.phase }, { on := 2, ground := Ground.phase }, { on := 3, ground := Ground.phase }, { on := 4, ground := Ground.phase }, { on := 5, ground := Ground.phase }, { on := 6, ground := Ground.phase }, { on := 7, ground := Ground.phase }, { on := 8, ground := Ground.phase }, { on := 9, ground := Ground.phase }, { on := 10, ground := Ground.phase }], guard := none }) (v := ?vpc18r12o11) rfl (by kernel_rfl) (by kernel_rfl) (by kernel_rfl) (fun _ _ _ h => h) (Or.inl ⟨by rfl, ?hpc18r12o11⟩) hS ?_
            case hpc18r12o11 => (intro wx hx; skip; go_simp; (try with_reducible rfl))
            try simp only [Act.put, List.setIfInBounds_toArray, List.set_cons_zero, List.set_cons_succ]
            refine wpAnyH_done (by kernel_rfl) ?_ _
            have HMk := Lib.hid (fun wx (hO : Grommet.Own w0 wx (QLs Ps m q K cp ys [BX, rowP 45 1 (.slice ad2 Z cp2) Z (XR.map wv)])) => RefMark_any ad2 Z cp2 XR wx (Own.words hO (Ps.length + 1) (HgetC.out _ _ _ _) hXs (by omega)).1)
            obtain ⟨mk, hmk⟩ : ∃ mk, markV XR = mk := ⟨_, rfl⟩
            rw [hmk] at HMk
            obtain ⟨v, hv, hvb⟩ : ∃ v : Nat, IntKind.u64.wrap ((mk : Int) + xm) = (v : Int) ∧ v < 18446744073709551616 := by
              refine ⟨((((mk : Int) + xm) % 18446744073709551616)).toNat, ?_, ?_⟩
              · rw [IntKind.wrap_u64]; omega
              · omega
            have a0K : a0 < K := by omega
            have a00 : (0 : Int) ≤ (a0 : Int) := by omega
            have a0k : (a0 : Int) < (K : Int) := by omega
            have HSt := Lib.hid (fun wx zs R (hz : zs.length = K) (hO : Grommet.Own w0 wx (QLs Ps m q K cp zs R)) => words_put hO m (HgetM.out zs R) hz a0 a0K)
            have HE1 : Hid (OutEq A K xs (ys.set a0 v)) := Lib.hid (HE.out.set a0 v (by omega) hvb)
            have hOr2 := Lib.hid (hOr.out.quiet (grown_drew (World.grownBy.refl v1 none)))
            have hz1 := Lib.hid (HSr.out _ _ _ hOr2.out)
            clear hOr hS hz0 hmk HAt k1 k2 k3 k4 k5 k6 k7
            have hOr := hOr2
            clear hOr2
            go_wp2_with fail
            refine wp_region_held_drew (S := fun w' => SAr X g o j (A : Int) (I : Int) (B : Int) W8 xm xn nn w') (by kernel_rfl) (hz1.out) (fun hS => ?_)
            refine wpAnyH_take (i := 0) (oi := { dst := some 85, op := Op.move (Operand.tmp 1), type := 42, pos := "law.go:72", after := #[], guard := none }) (v := ?vpd18r14o0) rfl (by kernel_rfl) (by kernel_rfl) (by kernel_rfl) (fun _ _ _ h => h) (Or.inl ⟨by rfl, ?hpd18r14o0⟩) hS ?_
            case hpd18r14o0 => (intro wx hx; skip; go_simp; (try with_reducible rfl))
            try simp only [Act.put, List.setIfInBounds_toArray, List.set_cons_zero, List.set_cons_succ]
            refine wpAnyH_take (i := 1) (oi := { dst := some 86, op := Op.move (Operand.tmp 13), type := 3, pos := "law.go:72", after := #[], guard := none }) (v := ?vpd18r14o1) rfl (by kernel_rfl) (by kernel_rfl) (by kernel_rfl) (fun _ _ _ h => h) (Or.inl ⟨by rfl, ?hpd18r14o1⟩) hS ?_
            case hpd18r14o1 => (intro wx hx; skip; go_simp; (try with_reducible rfl))
            try simp only [Act.put, List.setIfInBounds_toArray, List.set_cons_zero, List.set_cons_succ]
            refine wpAnyH_take (i := 2) (oi := { dst := some 87, op := Op.move (Operand.tmp 11), type := 42, pos := "law.go:72", after := #[], guard := none }) (v := ?vpd18r14o2) rfl (by kernel_rfl) (by kernel_rfl) (by kernel_rfl) (fun _ _ _ h => h) (Or.inl ⟨by rfl, ?hpd18r14o2⟩) hS ?_
            case hpd18r14o2 => (intro wx hx; skip; go_simp; (try with_reducible rfl))
            try simp only [Act.put, List.setIfInBounds_toArray, List.set_cons_zero, List.set_cons_succ]
            refine wpAnyH_take (i := 4) (oi := { dst := some 89, op := Op.move (Operand.tmp 2), type := 25, pos := "law.go:72", after := #[], guard := none }) (v := ?vpd18r14o4) rfl (by kernel_rfl) (by kernel_rfl) (by kernel_rfl) (fun _ _ _ h => h) (Or.inl ⟨by rfl, ?hpd18r14o4⟩) hS ?_
            case hpd18r14o4 => (intro wx hx; skip; go_simp; (try with_reducible rfl))
            try simp only [Act.put, List.setIfInBounds_toArray, List.set_cons_zero, List.set_cons_succ]
            refine wpAnyH_take (i := 5) (oi := { dst := some 90, op := Op.move (Operand.tmp 6), type := 3, pos := "law.go:72", after := #[], guard := none }) (v := ?vpd18r14o5) rfl (by kernel_rfl) (by kernel_rfl) (by kernel_rfl) (fun _ _ _ h => h) (Or.inl ⟨by rfl, ?hpd18r14o5⟩) hS ?_
            case hpd18r14o5 => (intro wx hx; skip; go_simp; (try with_reducible rfl))
            try simp only [Act.put, List.setIfInBounds_toArray, List.set_cons_zero, List.set_cons_succ]
            refine wpAnyH_take (i := 6) (oi := { dst := some 91, op := Op.indexAddr 25 (Operand.tmp 89) (Operand.tmp 90), type := 0, pos := "law.go:72", after := #[{ on := 4, ground := Ground.data }, { on := 5, ground := Ground.data }], guard := none }) (v := ?vpd18r14o6) rfl (by kernel_rfl) (by kernel_rfl) (by kernel_rfl) (fun _ _ _ h => h) (Or.inl ⟨by rfl, ?hpd18r14o6⟩) hS ?_
            case hpd18r14o6 => (intro wx hx; skip; go_simp; (try with_reducible rfl))
            try simp only [Act.put, List.setIfInBounds_toArray, List.set_cons_zero, List.set_cons_succ]
            refine wpAnyH_take (i := 7) (oi := { dst := some 92, op := Op.fieldAddr 114 (Operand.tmp 91) 2, type := 0, pos := "law.go:72", after := #[{ on := 6, ground := Ground.data }], guard := none }) (v := ?vpd18r14o7) rfl (by kernel_rfl) (by kernel_rfl) (by kernel_rfl) (fun _ _ _ h => h) (Or.inl ⟨by rfl, ?hpd18r14o7⟩) hS ?_
            case hpd18r14o7 => (intro wx hx; skip; go_simp; (try with_reducible rfl))
            try simp only [Act.put, List.setIfInBounds_toArray, List.set_cons_zero, List.set_cons_succ]
            refine wpAnyH_take (i := 8) (oi := { dst := some 93, op := Op.load 45 (Operand.tmp 92), type := 45, pos := "law.go:72", after := #[{ on := 7, ground := Ground.data }], guard := none }) (v := ?vpd18r14o8) rfl (by kernel_rfl) (by kernel_rfl) (by kernel_rfl) (fun _ _ _ h => h) (Or.inl ⟨by rfl, ?hpd18r14o8⟩) hS ?_
            case hpd18r14o8 => (intro wx hx; obtain ⟨hg0, y0, y2, y3, y4⟩ := hx; go_simp; (try with_reducible rfl))
            try simp only [Act.put, List.setIfInBounds_toArray, List.set_cons_zero, List.set_cons_succ]
            refine wpAnyH_ready (rs := [3]) (by kernel_rfl) (by simp) ?_
            refine AllReadyH.cons (o := { dst := some 88, op := Op.call { callee := Callee.value (Operand.func 61), args := #[Operand.tmp 87], argTypes := #[42] }, type := 45, pos := "law.go:72", after := #[{ on := 2, ground := Ground.data }], guard := none }) rfl (fun K hK => ?_) AllReadyH.nil
            go_simp
            refine (HMk.out _ hOr.out).mono ?_
            rintro e v2 ⟨rfl, hn⟩
            have hOn := Lib.hid (hOr.out.quiet hn)
            clear hOr hn
            have hOr := hOn
            clear hOn
            refine hK.out _ _ ?hspd18r14o3 (fun hS => ?_)
            case hspd18r14o3 => (exact HSr.out _ _ _ hOr.out)
            clear hK K
            try simp only [Act.put, List.setIfInBounds_toArray, List.set_cons_zero, List.set_cons_succ]
            refine wpAnyH_take (i := 9) (oi := { dst := some 94, op := Op.binOp BinOp.add 45 (Operand.tmp 88) (Operand.tmp 93) 45, type := 45, pos := "law.go:72", after := #[{ on := 3, ground := Ground.data }, { on := 8, ground := Ground.data }], guard := none }) (v := ?vpd18r14o9) rfl (by kernel_rfl) (by kernel_rfl) (by kernel_rfl) (fun _ _ _ h => h) (Or.inl ⟨by rfl, ?hpd18r14o9⟩) hS ?_
            case hpd18r14o9 => (intro wx hx; skip; go_simp; (try with_reducible rfl))
            try simp only [Act.put, List.setIfInBounds_toArray, List.set_cons_zero, List.set_cons_succ]
            refine wpAnyH_take (i := 10) (oi := { dst := some 95, op := Op.indexAddr 42 (Operand.tmp 85) (Operand.tmp 86), type := 0, pos := "law.go:72", after := #[{ on := 0, ground := Ground.data }, { on := 1, ground := Ground.data }, { on := 0, ground := Ground.phase }, { on := 1, ground := Ground.phase }, { on := 2, ground := Ground.phase }, { on := 3, ground := Ground.phase }, { on := 4, ground := Ground.phase }, { on := 5, ground := Ground.phase }, { on := 6, ground := Ground.phase }, { on := 7, ground := Ground.phase }, { on := 8, ground := Ground.phase }, { on := 9, ground := Ground.phase }], guard := none }) (v := ?vpd18r14o10) rfl (by kernel_rfl) (by kernel_rfl) (by kernel_rfl) (fun _ _ _ h => h) (Or.inl ⟨by rfl, ?hpd18r14o10⟩) hS ?_
            case hpd18r14o10 => (intro wx hx; skip; go_simp; (try with_reducible rfl))
            try simp only [Act.put, List.setIfInBounds_toArray, List.set_cons_zero, List.set_cons_succ]
            refine wpAnyH_ready (rs := [11]) (by kernel_rfl) (by simp) ?_
            refine AllReadyH.cons (o := { dst := none, op := Op.store 45 (Operand.tmp 95) (Operand.tmp 94), type := 0, pos := "law.go:72", after := #[{ on := 10, ground := Ground.data }, { on := 9, ground := Ground.data }, { on := 3, ground := Ground.chain }, { on := 0, ground := Ground.phase }, { on := 1, ground := Ground.phase }, { on := 2, ground := Ground.phase }, { on := 3, ground := Ground.phase }, { on := 4, ground := Ground.phase }, { on := 5, ground := Ground.phase }, { on := 6, ground := Ground.phase }, { on := 7, ground := Ground.phase }, { on := 8, ground := Ground.phase }, { on := 9, ground := Ground.phase }], guard := none }) rfl (fun K hK => ?_) AllReadyH.nil
            obtain ⟨e1, e2, e3⟩ := HSt.out _ _ _ HE.out.1 hOr.out
            have hOz := Lib.hid (e3 v)
            rw [HsetM.out] at hOz
            clear hOr e3
            go_simp
            refine hK.out _ _ ?hsb (fun hS => ?_)
            case hsb => exact HSr.out _ _ _ hOz.out
            clear hK K
            try simp only [Act.put, List.setIfInBounds_toArray, List.set_cons_zero, List.set_cons_succ]
            refine wpAnyH_done (by kernel_rfl) ?_ _
            obtain ⟨wz, hwz⟩ : ∃ wz, v2.setCell ⟨q, a0, none⟩ (.int .u64 (v : Int)) = wz := ⟨_, rfl⟩
            rw [hwz] at hOz hS ⊢
            clear hwz hz1 HMk hv k8 k9 k10
            obtain ⟨ys1, hys1⟩ : ∃ ys1, ys.set a0 v = ys1 := ⟨_, rfl⟩
            rw [hys1] at hOz HE1
            obtain ⟨_, _, _, _, y4⟩ := hS
            obtain ⟨q2, he2, _, _, _⟩ := Own.cell hOz.out (Ps.length + 1) (HgetC.out _ _ _ _) 0 (wv (XR.getD 0 0)) (by rw [List.getElem?_map, List.getElem?_eq_getElem (by omega), List.getD_eq_getElem?_getD, List.getElem?_eq_getElem (by omega)]; rfl)
            subst he2
            obtain ⟨a8, ha8⟩ : ∃ a8, a0 + 8 = a8 := ⟨_, rfl⟩
            have w8 : IntKind.i64.wrap ((a0 : Int) + 8) = (a8 : Int) := by rw [IntWalk.i64_in _ ⟨by omega, by omega⟩]; omega
            cases nn with
            | false =>
              as_aux_lemma =>
                have HE2 := HE1
                have hO2 := hOz
                clear hOz HE1 HE hys1 hvb HSt
                have HSt := True.intro
                go_wp2_with fail
                go_loopw [14] (fun kk wr2 => ∃ (i : Nat) (zs : List Nat), i ≤ Z ∧ kk = .int .i64 (i : Int) ∧ Hid (OutEq A K xs zs) ∧ Hid (Grommet.Own w0 wr2 (QLs Ps m q K cp zs [BX, rowP 45 1 (.slice (some ⟨q2, 0, none⟩) Z cp2) Z (XR.map wv)]))) (fun kk _ => Z - (intOf kk).toNat)
                case atStart => exact ⟨0, _, Nat.zero_le _, rfl, HE2, hO2⟩
                case round =>
                  clear hO2 HE2
                  obtain ⟨i, zs, hi, rfl, HEz, hOx⟩ := hrel
                  have i0 : (0 : Int) ≤ (i : Int) := by omega
                  by_cases hiz : i < Z
                  · as_aux_lemma =>
                    have l9 : (i : Int) < (Z : Int) := by omega
                    have hiX : i < XR.length := by omega
                    obtain ⟨q3, he3, e4, _, _⟩ := Own.cell hOx.out (Ps.length + 1) (HgetC.out _ _ _ _) i (wv (XR.getD i 0)) (by rw [List.getElem?_map, List.getElem?_eq_getElem hiX, List.getD_eq_getElem?_getD, List.getElem?_eq_getElem hiX]; rfl)
                    cases he3
                    have hVs : XR.getD i 0 < 18446744073709551616 := by rw [List.getD_eq_getElem?_getD, List.getElem?_eq_getElem hiX]; exact hXs _ (by simp)
                    unfold wv at e4
                    obtain ⟨V, hV⟩ : ∃ V, XR.getD i 0 = V := ⟨_, rfl⟩
                    rw [hV] at e4 hVs
                    obtain ⟨t, ht⟩ : ∃ t, a8 + i = t := ⟨_, rfl⟩
                    have wt : IntKind.i64.wrap ((a8 : Int) + (i : Int)) = (t : Int) := by rw [IntWalk.i64_in _ ⟨by omega, by omega⟩]; omega
                    have t0 : (0 : Int) ≤ (t : Int) := by omega
                    have tK : (t : Int) < (K : Int) := by omega
                    have wi : IntKind.i64.wrap ((i : Int) + 1) = (i : Int) + 1 := IntWalk.i64_in _ ⟨by omega, by omega⟩
                    obtain ⟨e5, e6, e7⟩ := words_put hOx.out m (HgetM.out _ _) HEz.out.1 t (by omega)
                    have hOn := e7 V
                    rw [HsetM.out] at hOn
                    have hOn := Lib.hid hOn
                    have HEn : Hid (OutEq A K xs (zs.set t V)) := Lib.hid (HEz.out.set t V (by omega) hVs)
                    clear hOx HEz e7 ht hV hiX HSr HSt HgetM HsetM HgetB HgetC HsetC HT HW Hx Hok HBX
                    go_wp2
                    go_roundw
                    case rel => exact ⟨i + 1, _, by omega, by go_num, HEn, hOn⟩
                    case measure => simp [intOf]; omega
                  · as_aux_lemma =>
                    obtain rfl : Z = i := by omega
                    have l9 : ¬ (Z : Int) < (Z : Int) := by omega
                    obtain ⟨b1, hb1⟩ : ∃ b1, a8 + Z = b1 := ⟨_, rfl⟩
                    obtain ⟨b2, hb2⟩ : ∃ b2, b1 - 1 = b2 := ⟨_, rfl⟩
                    have wb1 : IntKind.i64.wrap ((a8 : Int) + (Z : Int)) = (b1 : Int) := by rw [IntWalk.i64_in _ ⟨by omega, by omega⟩]; omega
                    have wb2 : IntKind.i64.wrap ((b1 : Int) - 1) = (b2 : Int) := by rw [IntWalk.i64_in _ ⟨by omega, by omega⟩]; omega
                    have t0 : (0 : Int) ≤ (b2 : Int) := by omega
                    have tK : (b2 : Int) < (K : Int) := by omega
                    have hOd := hOx.out.quiet (grown_drew (World.grownBy.refl wr none))
                    have e5 := (words_put hOx.out m (HgetM.out _ _) HEz.out.1 b2 (by omega)).1
                    have e67 := (words_put hOd m (HgetM.out _ _) HEz.out.1 b2 (by omega)).2
                    obtain ⟨e6, e7⟩ := e67
                    obtain ⟨U, hU, hUb⟩ : ∃ v : Nat, IntKind.u64.wrap ((zs.getD b2 0 : Int) + xn) = (v : Int) ∧ v < 18446744073709551616 := by
                      refine ⟨((((zs.getD b2 0 : Nat) : Int) + xn) % 18446744073709551616).toNat, ?_, ?_⟩
                      · rw [IntKind.wrap_u64]; omega
                      · omega
                    have hOn := e7 U
                    rw [HsetM.out, QLs.two] at hOn
                    have hOn := Lib.hid hOn.less
                    have HEn : Hid (OutEq A K xs (zs.set b2 U)) := Lib.hid (HEz.out.set b2 U (by omega) hUb)
                    obtain ⟨_, _, _, y3, _⟩ := HSr.out wr _ _ hOx.out
                    generalize zs.getD b2 0 = V at e5 hU
                    clear hOx HEz e7 hb1 hb2 hOd HSr HSt HgetM HsetM HgetB HgetC HsetC HT HW Hx Hok HBX hXs hXl
                    go_wp2_with fail
                    go_still_tail 16, (by kernel_rfl)
                    change wpList _ _ _ _ _ wr.drew
                    go_wp2
                    go_roundw
                    case rel => exact ⟨j + 1, _, by omega, by go_num, HEn, hOn⟩
                    case measure => simp [intOf]; omega
            | true =>
              as_aux_lemma =>
                obtain ⟨e1, e2, e3⟩ := HSt.out _ _ _ HE1.out.1 hOz.out
                have hO2 := e3 0
                rw [HsetM.out] at hO2
                have hO2 := Lib.hid hO2
                have HE2 : Hid (OutEq A K xs (ys1.set a0 0)) := Lib.hid (HE1.out.set a0 0 (by omega) (by omega))
                clear hOz HE1 HE hys1 hvb e3
                go_wp2_with fail
                go_loopw [14] (fun kk wr2 => ∃ (i : Nat) (zs : List Nat), i ≤ Z ∧ kk = .int .i64 (i : Int) ∧ Hid (OutEq A K xs zs) ∧ Hid (Grommet.Own w0 wr2 (QLs Ps m q K cp zs [BX, rowP 45 1 (.slice (some ⟨q2, 0, none⟩) Z cp2) Z (XR.map wv)]))) (fun kk _ => Z - (intOf kk).toNat)
                case atStart => exact ⟨0, _, Nat.zero_le _, rfl, HE2, hO2⟩
                case round =>
                  clear hO2 HE2
                  obtain ⟨i, zs, hi, rfl, HEz, hOx⟩ := hrel
                  have i0 : (0 : Int) ≤ (i : Int) := by omega
                  by_cases hiz : i < Z
                  · as_aux_lemma =>
                    have l9 : (i : Int) < (Z : Int) := by omega
                    have hiX : i < XR.length := by omega
                    obtain ⟨q3, he3, e4, _, _⟩ := Own.cell hOx.out (Ps.length + 1) (HgetC.out _ _ _ _) i (wv (XR.getD i 0)) (by rw [List.getElem?_map, List.getElem?_eq_getElem hiX, List.getD_eq_getElem?_getD, List.getElem?_eq_getElem hiX]; rfl)
                    cases he3
                    have hVs : XR.getD i 0 < 18446744073709551616 := by rw [List.getD_eq_getElem?_getD, List.getElem?_eq_getElem hiX]; exact hXs _ (by simp)
                    unfold wv at e4
                    obtain ⟨V, hV⟩ : ∃ V, XR.getD i 0 = V := ⟨_, rfl⟩
                    rw [hV] at e4 hVs
                    obtain ⟨t, ht⟩ : ∃ t, a8 + i = t := ⟨_, rfl⟩
                    have wt : IntKind.i64.wrap ((a8 : Int) + (i : Int)) = (t : Int) := by rw [IntWalk.i64_in _ ⟨by omega, by omega⟩]; omega
                    have t0 : (0 : Int) ≤ (t : Int) := by omega
                    have tK : (t : Int) < (K : Int) := by omega
                    have wi : IntKind.i64.wrap ((i : Int) + 1) = (i : Int) + 1 := IntWalk.i64_in _ ⟨by omega, by omega⟩
                    obtain ⟨e5, e6, e7⟩ := words_put hOx.out m (HgetM.out _ _) HEz.out.1 t (by omega)
                    have hOn := e7 V
                    rw [HsetM.out] at hOn
                    have hOn := Lib.hid hOn
                    have HEn : Hid (OutEq A K xs (zs.set t V)) := Lib.hid (HEz.out.set t V (by omega) hVs)
                    clear hOx HEz e7 ht hV hiX HSr HSt HgetM HsetM HgetB HgetC HsetC HT HW Hx Hok HBX
                    go_wp2
                    go_roundw
                    case rel => exact ⟨i + 1, _, by omega, by go_num, HEn, hOn⟩
                    case measure => simp [intOf]; omega
                  · as_aux_lemma =>
                    obtain rfl : Z = i := by omega
                    have l9 : ¬ (Z : Int) < (Z : Int) := by omega
                    obtain ⟨b1, hb1⟩ : ∃ b1, a8 + Z = b1 := ⟨_, rfl⟩
                    obtain ⟨b2, hb2⟩ : ∃ b2, b1 - 1 = b2 := ⟨_, rfl⟩
                    have wb1 : IntKind.i64.wrap ((a8 : Int) + (Z : Int)) = (b1 : Int) := by rw [IntWalk.i64_in _ ⟨by omega, by omega⟩]; omega
                    have wb2 : IntKind.i64.wrap ((b1 : Int) - 1) = (b2 : Int) := by rw [IntWalk.i64_in _ ⟨by omega, by omega⟩]; omega
                    have t0 : (0 : Int) ≤ (b2 : Int) := by omega
                    have tK : (b2 : Int) < (K : Int) := by omega
                    have hOd := hOx.out.quiet (grown_drew (World.grownBy.refl wr none))
                    have e5 := (words_put hOx.out m (HgetM.out _ _) HEz.out.1 b2 (by omega)).1
                    have e67 := (words_put hOd m (HgetM.out _ _) HEz.out.1 b2 (by omega)).2
                    obtain ⟨e6, e7⟩ := e67
                    obtain ⟨U, hU, hUb⟩ : ∃ v : Nat, IntKind.u64.wrap ((zs.getD b2 0 : Int) + xn) = (v : Int) ∧ v < 18446744073709551616 := by
                      refine ⟨((((zs.getD b2 0 : Nat) : Int) + xn) % 18446744073709551616).toNat, ?_, ?_⟩
                      · rw [IntKind.wrap_u64]; omega
                      · omega
                    have hOn := e7 U
                    rw [HsetM.out, QLs.two] at hOn
                    have hOn := Lib.hid hOn.less
                    have HEn : Hid (OutEq A K xs (zs.set b2 U)) := Lib.hid (HEz.out.set b2 U (by omega) hUb)
                    obtain ⟨_, _, _, y3, _⟩ := HSr.out wr _ _ hOx.out
                    generalize zs.getD b2 0 = V at e5 hU
                    clear hOx HEz e7 hb1 hb2 hOd HSr HSt HgetM HsetM HgetB HgetC HsetC HT HW Hx Hok HBX hXs hXl
                    go_wp2_with fail
                    go_still_tail 16, (by kernel_rfl)
                    change wpList _ _ _ _ _ wr.drew
                    go_wp2
                    go_roundw
                    case rel => exact ⟨j + 1, _, by omega, by go_num, HEn, hOn⟩
                    case measure => simp [intOf]; omega
    · as_aux_lemma =>
      obtain rfl : tl = j := by omega
      have hlt' : ¬ (tl : Int) < (tl : Int) := by omega
      have hO3 := hO.out
      have hO4 : Hid (Grommet.Own w0 wr (QLs Ps m q K cp ys [])) := Lib.hid (by
        have h2 : QLs Ps m q K cp ys [BX] = QLs Ps m q K cp ys [] ++ [BX] := by unfold QLs; rw [List.append_assoc]; rfl
        rw [h2] at hO3
        exact hO3.less)
      clear hO hO3
      go_wp2
      go_end0
      exact ⟨rfl, ys, HE.out, hO4.out⟩
end Go.Proofs.YtkalglcbmfhdfaaGreat
end
section
/- The law's image: a new device's words, some of which were turned. -/
namespace Go.Proofs.YtkalglcbmfhdfaaGreat
open Go.RowKit Go.Grommet

theorem own_skip {w0 w : World} {Ps Qs : List Pr} {B : Pr} (h : Grommet.Own w0 w (Ps ++ B :: Qs)) : Grommet.Own w0 w (Ps ++ Qs) := by
  obtain ⟨Fs, h1, h2, h3, h4⟩ := h
  obtain ⟨f, hf⟩ : ∃ f : Nat → Nat, ∀ j, f j = if j < Ps.length then j else j + 1 := ⟨fun j => if j < Ps.length then j else j + 1, fun _ => rfl⟩
  have hg : ∀ j, (Ps ++ Qs)[j]? = (Ps ++ B :: Qs)[f j]? := by
    intro j
    rw [hf]
    split
    · rename_i hj
      rw [List.getElem?_append_left hj, List.getElem?_append_left hj]
    · rename_i hj
      rw [List.getElem?_append_right (by omega), List.getElem?_append_right (by omega), show j + 1 - Ps.length = (j - Ps.length) + 1 from by omega, List.getElem?_cons_succ]
  have hl : ∀ j, j < (Ps ++ Qs).length → f j < (Ps ++ B :: Qs).length := by
    intro j hj
    rw [List.length_append] at hj
    rw [hf, List.length_append, List.length_cons]
    split <;> omega
  refine ⟨fun j => Fs (f j), fun k P hk => h1 (f k) P (by rw [← hg]; exact hk), fun j k hj hk hne => h2 (f j) (f k) (hl j hj) (hl k hk) (fun e => hne ?_), fun k hk => h3 (f k) (hl k hk), h4⟩
  rw [hf, hf] at e
  split at e <;> split at e <;> omega
theorem RFormatW (a b c N : Nat) (xs : List Nat) (w0 w : World) (Ps : List Pr) (h : Grommet.Own w0 w Ps) (hm : mayB (a : Int) (b : Int) (c : Int) = true) (hN : 280 + 208 * a + 16 * b + 8 * c = N) (hxs : fmtL a b c (264 + 208 * a) N = xs) :
    Calls Tryz.prog 54 #[.agg #[.int .i64 (a : Int), .int .i64 (b : Int), .int .i64 (c : Int)]] w fun e w' => ∃ q, e = .returned (.slice (some ⟨q, 0, none⟩) N N) ∧ Grommet.Own w0 w' (Ps ++ [rowP 45 1 (.slice (some ⟨q, 0, none⟩) N N) N (xs.map wv)]) := by
  subst hN
  have hl := length_fmtL a b c (264 + 208 * a) (280 + 208 * a + 16 * b + 8 * c)
  rw [hxs] at hl
  have hmN := mayB_yes hm
  refine (RFormat_any a b c w hm).mono ?_
  rintro e w' ⟨q, rfl, hrow, hq, hg⟩
  rw [hxs] at hrow ⊢
  rw [hl]
  refine ⟨q, rfl, h.addRow ⟨by simp [hl], .inr ⟨q, 280 + 208 * a + 16 * b + 8 * c, _, rfl, hq, hrow, Nat.le_refl _, by unfold maxLen; omega, by simp [hl], by rw [List.take_of_length_le (by simp [hl])]⟩⟩ hg⟩

set_option maxRecDepth 100000 in
set_option maxHeartbeats 4000000 in
theorem ImageW (a b c : Nat) (hm : mayB (a : Int) (b : Int) (c : Int) = true) (td : Option Addr) (tl tc : Nat) (T : List Tur) (w0 w : World) (Ps : List Pr) (h : Grommet.Own w0 w Ps) (hT : TursIn w0 td tl T) (htl : tl ≤ 1000000) :
    Calls Tryz.prog 41 #[gv (a : Int) (b : Int) (c : Int), .slice td tl tc, .int .u16 0] w fun e w' => ∃ (YS : List Nat) (ad : Option Addr) (cp : Nat), e = .returned (.slice ad (280 + 208 * a + 16 * b + 8 * c) cp) ∧ YS.length = 280 + 208 * a + 16 * b + 8 * c ∧ (∀ n ∈ YS, n < 18446744073709551616) ∧ Grommet.Own w0 w' (Ps ++ [rowP 45 1 (.slice ad (280 + 208 * a + 16 * b + 8 * c) cp) (280 + 208 * a + 16 * b + 8 * c) (YS.map wv)]) := by
  obtain ⟨Z, hZe⟩ : ∃ Z, Z = 280 + 208 * a + 16 * b + 8 * c := ⟨_, rfl⟩
  obtain ⟨XR, hXe⟩ : ∃ XR, fmtL a b c (264 + 208 * a) Z = XR := ⟨_, rfl⟩
  have hmb := mayB_yes hm
  have hXl : XR.length = Z := by rw [← hXe, length_fmtL]
  have hXs : ∀ n ∈ XR, n < 18446744073709551616 := by rw [← hXe]; exact fmtW_small a b c Z hm
  have hZ : Z ≤ 100000 := by omega
  have hF := fun wx Qs hO => RFormatW a b c Z XR w0 wx Qs hO hm hZe.symm hXe
  have hZ1 : 1 ≤ Z := by omega
  rw [← hZe]
  have HF := Lib.hid hF
  have HXl := Lib.hid hXl
  have HXs := Lib.hid hXs
  have Hh := Lib.hid h
  have HT := Lib.hid hT
  obtain ⟨P, HP⟩ : ∃ P, Hid (P = Ps.length) := ⟨_, Lib.hid rfl⟩
  clear hF hXl hXs h hm hZe hXe hmb
  unfold gv at HF ⊢
  go_enter Tryz.func41, Tryz.ntmps41
  go_wp2_with fail
  refine (HF.out _ _ (Hh.out.addBox 23 #[.int .i64 (a : Int), .int .i64 (b : Int), .int .i64 (c : Int)])).mono ?_
  rintro e w1 ⟨q, rfl, hO⟩
  rw [List.append_assoc] at hO
  replace hO : Grommet.Own w0 w1 (Ps ++ [boxP w.heap.size 23 #[.int .i64 (a : Int), .int .i64 (b : Int), .int .i64 (c : Int)], rowP 45 1 (.slice (some ⟨q, 0, none⟩) Z Z) Z (XR.map wv)]) := hO
  generalize boxP w.heap.size 23 #[.int .i64 (a : Int), .int .i64 (b : Int), .int .i64 (c : Int)] = BX at hO
  replace hO := Lib.hid hO
  have z0 : (0 : Int) < (Z : Int) := by omega
  have zb : ((Z : Int) == 0) = false := by rw [beq_eq_false_iff_ne]; omega
  have zc : ¬ (Z : Int) = 0 := by omega
  have zn : ¬ Z = 0 := by omega
  go_wp2_with fail
  go_loopw [8] (fun i wr => ∃ k : Nat, k ≤ tl ∧ i = .int .i64 (k : Int) ∧ ∃ YS : List Nat, Hid (YS.length = Z ∧ ∀ n ∈ YS, n < 18446744073709551616) ∧ Hid (Grommet.Own w0 wr (Ps ++ [BX, rowP 45 1 (.slice (some ⟨q, 0, none⟩) Z Z) Z (YS.map wv)]))) (fun i _ => tl - (intOf i).toNat)
  case atStart => exact ⟨0, Nat.zero_le _, rfl, XR, Lib.hid ⟨HXl.out, HXs.out⟩, hO⟩
  case round =>
    clear hO
    obtain ⟨k, hk, rfl, YS, HY, hO⟩ := hrel
    have k0 : (0 : Int) ≤ (k : Int) := by omega
    by_cases hlt : k < tl
    · have hlt' : (k : Int) < (tl : Int) := by omega
      obtain ⟨x, hx⟩ : ∃ x, T[k]? = some x := ⟨T[k]'(by rw [HT.out.1]; exact hlt), List.getElem?_eq_getElem _⟩
      obtain ⟨g, o, rfl, c0, c1⟩ := (HT.out.grown hO.out.grown).2.2 k x hx
      obtain ⟨ok1, ok2⟩ := HT.out.2.1 x (List.mem_of_getElem? hx)
      have b1 := bounds_u16 ok1
      have b2 := bounds_u64 ok2
      obtain ⟨at_, ww⟩ := x
      dsimp only at c0 c1 b1 b2
      obtain ⟨A, rfl⟩ := Int.eq_ofNat_of_zero_le b1.1
      obtain ⟨V, rfl⟩ := Int.eq_ofNat_of_zero_le b2.1
      obtain ⟨C, HC⟩ : ∃ C, Hid (C = A % Z) := ⟨_, Lib.hid rfl⟩
      have hC : C < Z := by rw [HC.out]; exact Nat.mod_lt _ (by omega)
      have eC : (A : Int).tmod (Z : Int) = (C : Int) := by rw [HC.out, Int.tmod_eq_emod_of_nonneg (by omega)]; omega
      have eC' : (A : Int) % (Z : Int) = (C : Int) := by rw [HC.out]; omega
      have eCZ : (C : Int) < (Z : Int) := by omega
      have eC0 : (0 : Int) ≤ (C : Int) := by omega
      have wa : IntKind.i64.wrap (A : Int) = (A : Int) := IntWalk.i64_in _ ⟨by omega, by omega⟩
      have hki := show (Ps ++ [BX, rowP 45 1 (.slice (some ⟨q, 0, none⟩) Z Z) Z (YS.map wv)])[P + 1]? = some (rowP 45 1 (.slice (some ⟨q, 0, none⟩) Z Z) Z (YS.map wv)) by rw [HP.out, List.getElem?_append_right (by omega), show Ps.length + 1 - Ps.length = 1 from by omega]; rfl
      obtain ⟨U, HU⟩ : ∃ U, Hid (U = YS.getD C 0) := ⟨_, Lib.hid rfl⟩
      obtain ⟨q', he, cK, fK, _⟩ := Own.cell hO.out (P + 1) hki C (wv U) (by rw [List.getElem?_map, List.getElem?_eq_getElem (by rw [HY.out.1]; omega), HU.out, List.getD_eq_getElem?_getD, List.getElem?_eq_getElem (by rw [HY.out.1]; omega)]; rfl)
      cases he
      unfold wv at cK
      have hO2 := (hO.out.quiet (grown_drew (World.grownBy.refl _ none))).store (P + 1) hki C (wv V)
      rw [← List.map_set, HP.out, List.set_append_right _ _ (by omega), show Ps.length + 1 - Ps.length = 1 from by omega] at hO2
      have HO2 : Hid (Grommet.Own w0 (wr.drew.setCell ⟨q, C, none⟩ (.int .u64 (V : Int))) (Ps ++ [BX, rowP 45 1 (.slice (some ⟨q, 0, none⟩) Z Z) Z ((YS.set C V).map wv)])) := Lib.hid hO2
      have HR : Hid ((YS.set C V).length = Z ∧ ∀ n ∈ YS.set C V, n < 18446744073709551616) := Lib.hid ⟨by rw [List.length_set]; exact HY.out.1, fun n hn => by
        rcases List.mem_or_eq_of_mem_set hn with h | h
        · exact HY.out.2 n h
        · rw [h]; omega⟩
      clear hO2 hO hki hx ok1 ok2 b1 b2
      go_wp2_with fail
      go_still_tail 16, (by kernel_rfl)
      change wpList _ _ _ _ _ wr.drew
      go_wp2
      go_roundw
      case rel => exact ⟨k + 1, by omega, by go_num, YS.set C V, HR, HO2⟩
      case measure => simp [intOf]; omega
    · have hlt' : ¬ (k : Int) < (tl : Int) := by omega
      have hhd : ∀ a, (some ⟨q, 0, none⟩ : Option Addr) = some a → a = ⟨a.block, 0, none⟩ := fun a ha => by cases ha; rfl
      have hr := Own.row hO.out (P + 1) (by rw [HP.out, List.getElem?_append_right (by omega), show Ps.length + 1 - Ps.length = 1 from by omega]; rfl)
      obtain ⟨_, _, _, _, _, hcap⟩ := row_slice hr
      have hsl := fun wx => slice_to (P := Tryz.prog) 42 45 Tryz.underlying42 1 Tryz.sizeOf45 (some ⟨q, 0, none⟩) Z Z Z (by omega) hhd wx
      have z1 : ¬ (Z : Int) ≤ 0 := by omega
      have z2 : (0 : Int) ≤ (Z : Int) := by omega
      have HOw : Hid (Grommet.Own w0 wr (Ps ++ [rowP 45 1 (.slice (some ⟨q, 0, none⟩) Z Z) Z (YS.map wv)])) := Lib.hid own_skip hO.out
      clear hr hhd hO
      go_wp2
      go_ret
      exact ⟨YS, _, _, rfl, HY.out.1, HY.out.2, HOw.out⟩
end Go.Proofs.YtkalglcbmfhdfaaGreat
end
section
/- A mount comes to its end. -/
namespace Go.Proofs.YtkalglcbmfhdfaaGreat
open Go.RowKit Go.Grommet

/-- What stands while a mount steps. -/
def endL (G q K q2 c2 d A I B : Nat) (ys os : List Nat) (ws : List PW) : List Pr :=
  [boxP G 23 #[.int .i64 (A : Int), .int .i64 (I : Int), .int .i64 (B : Int)], rowP 45 1 (.slice (some ⟨q, 0, none⟩) K K) K (ys.map wv), devP d ws, rowP 45 1 (.slice (some ⟨q2, 0, none⟩) K c2) K (os.map wv)]
def EndRun (G q K q2 c2 d A I B m N : Nat) (ys os : List Nat) (w0 : World) (i : Nat) (t R : Nat) (S : List (Nat × Cl)) (ws : List PW) (wr : World) : Prop :=
  t < A ∧ S ≠ [] ∧ ws.length = 8 * N ∧ doAll S ws = cleanL (turnsM (A : Int) (I : Int) (B : Int) ys (t + 1)) ∧ (∀ s ∈ S, s.2.ok (8 * N)) ∧ i + S.length + (N + 100) * (A - 1 - t) ≤ (N + 100) * A ∧
    ∃ Bs Pn, Grommet.Own w0 wr ((endL G q K q2 c2 d A I B ys os ws ++ [mntB m d A I B t (ptr R)]) ++ [runP R d (A : Int) (I : Int) (B : Int) (264 + 208 * t) Bs Pn S])
def EndDone (G q K q2 c2 d A I B m : Nat) (ys os : List Nat) (w0 wr : World) : Prop :=
  Grommet.Own w0 wr (endL G q K q2 c2 d A I B ys os (cleanL (turnsM (A : Int) (I : Int) (B : Int) ys A)) ++ [mntB m d A I B A nilV])

/-- Behind a turn: the next one, or the end. -/
theorem end_next {G q K q2 c2 d A I B m N : Nat} {ys os : List Nat} {w0 wr : World} {i s : Nat} (hm : mayB (A : Int) (I : Int) (B : Int) = true) (hK : 280 + 208 * A + 16 * I + 8 * B = K) (hN : K = 8 * N) (hl : ys.length = K) (hsm : ∀ n ∈ ys, n < 18446744073709551616) (hs : s ≤ A) (hi : i + (N + 100) * (A - s) ≤ (N + 100) * A)
    (h : (Grommet.Own w0 wr (endL G q K q2 c2 d A I B ys os (cleanL (turnsM (A : Int) (I : Int) (B : Int) ys s)) ++ [mntB m d A I B A nilV]) ∧ ∀ j, s ≤ j → j < A → (turnsM (A : Int) (I : Int) (B : Int) ys s).getD (264 + 208 * j) 0 = 0) ∨
      ∃ t R Bs Pn, s ≤ t ∧ t < A ∧ (∀ j, s ≤ j → j < t → (turnsM (A : Int) (I : Int) (B : Int) ys s).getD (264 + 208 * j) 0 = 0) ∧ (turnsM (A : Int) (I : Int) (B : Int) ys s).getD (264 + 208 * t) 0 ≠ 0 ∧ Grommet.Own w0 wr ((endL G q K q2 c2 d A I B ys os (cleanL (turnsM (A : Int) (I : Int) (B : Int) ys s)) ++ [mntB m d A I B t (ptr R)]) ++ [runP R d (A : Int) (I : Int) (B : Int) (264 + 208 * t) Bs Pn (resS N (264 + 208 * t) (A : Int) (I : Int) (B : Int) (turnsM (A : Int) (I : Int) (B : Int) ys s))])) :
    EndDone G q K q2 c2 d A I B m ys os w0 wr ∨ ∃ t R S ws, EndRun G q K q2 c2 d A I B m N ys os w0 i t R S ws wr := by
  rcases h with ⟨hO, hz⟩ | ⟨t, R, Bs, Pn, hst, htA, hz, h0, hO⟩
  · have e := turns_skip (A : Int) (I : Int) (B : Int) ys s (A - s) (fun j h1 h2 => hz j h1 (by omega))
    rw [show s + (A - s) = A from by omega] at e
    left
    unfold EndDone
    rw [e]
    exact hO
  · have e := turns_skip (A : Int) (I : Int) (B : Int) ys s (t - s) (fun j h1 h2 => hz j h1 (by omega))
    rw [show s + (t - s) = t from by omega] at e
    rw [← e] at hO h0
    have hlen := turnsM_len (A : Int) (I : Int) (B : Int) ys t
    have hrl := res_len (A : Int) (I : Int) (B : Int) (turnsM (A : Int) (I : Int) (B : Int) ys t) N (264 + 208 * t) (by omega)
    right
    refine ⟨t, R, _, _, htA, ?_, by rw [cleanL_len, hlen]; omega, res_all _ _ _ _ N t h0 (by rw [hlen]; omega), ?_, ?_, Bs, Pn, hO⟩
    · unfold resS
      split
      · unfold applyS markS; simp
      · unfold markS; simp
    · have := ok_res hm (turnsM (A : Int) (I : Int) (B : Int) ys t) N K t (by omega) (by rw [hlen]; exact hl) (by omega) htA (turnsM_small _ _ _ ys hsm t)
      rw [hN] at this
      exact this
    · have h1 : (N + 100) * (A - 1 - t) + (N + 100) ≤ (N + 100) * (A - s) := by
        rw [← Nat.mul_succ]
        exact Nat.mul_le_mul_left _ (by omega)
      omega

theorem end_step {G q K q2 c2 d A I B m N : Nat} {ys os : List Nat} {w0 w : World} {i t R : Nat} {S : List (Nat × Cl)} {ws : List PW} (hm : mayB (A : Int) (I : Int) (B : Int) = true) (hK : 280 + 208 * A + 16 * I + 8 * B = K) (hN : K = 8 * N) (hl : ys.length = K) (hsm : ∀ n ∈ ys, n < 18446744073709551616) (hKb : K ≤ 65536) (h : EndRun G q K q2 c2 d A I B m N ys os w0 i t R S ws w) :
    Calls Tryz.prog 25 #[ptr m] w fun e w' => (∃ p : Nat, e = .returned (.tuple #[.int .u8 (p : Int), .int .i64 0])) ∧ (EndDone G q K q2 c2 d A I B m ys os w0 w' ∨ ∃ t R S ws, EndRun G q K q2 c2 d A I B m N ys os w0 (i + 1) t R S ws w') := by
  obtain ⟨htA, hS, hwl, hdo, hok, hcnt, Bs, Pn, hO⟩ := h
  cases S with
  | nil => exact absurd rfl hS
  | cons s S =>
    obtain ⟨p, cl⟩ := s
    have hokc : cl.ok ws.length := by rw [hwl]; exact hok (p, cl) (List.mem_cons_self ..)
    have hdo2 : doAll S (cl.does ws) = cleanL (turnsM (A : Int) (I : Int) (B : Int) ys (t + 1)) := hdo
    have hdl := Cl.does_len cl ws
    rw [List.length_cons] at hcnt
    by_cases hS2 : S = []
    · subst hS2
      have hdo3 : cl.does ws = cleanL (turnsM (A : Int) (I : Int) (B : Int) ys (t + 1)) := hdo2
      have hseen : (cl.does ws).map (·.seen) = turnsM (A : Int) (I : Int) (B : Int) ys (t + 1) := by rw [hdo3]; exact cleanL_seen _
      refine (MStepEnd 4 5 2 m R d A I B t (264 + 208 * t) Bs Pn p cl ws N w0 w _ hO rfl rfl rfl (by decide) (by decide) (by decide) hwl hokc hdl (by omega) (by rw [hseen]; exact turnsM_small _ _ _ ys hsm _) hm (by omega) htA).mono ?_
      rintro e w' ⟨rfl, Pn2, _, hR⟩
      refine ⟨⟨p, rfl⟩, ?_⟩
      rw [hseen, hdo3] at hR
      have hC : (N + 100) * (A - (t + 1)) = (N + 100) * (A - 1 - t) := by rw [show A - (t + 1) = A - 1 - t from by omega]
      refine end_next hm hK hN hl hsm (s := t + 1) (by omega) (by rw [hC]; simp at hcnt; omega) ?_
      rcases hR with ⟨hO', hz⟩ | ⟨t', R', B3, P3, h1, h2, hz, h0, hO'⟩
      · left
        have hO2 : Grommet.Own w0 w' ((endL G q K q2 c2 d A I B ys os (cleanL (turnsM (A : Int) (I : Int) (B : Int) ys (t + 1))) ++ [mntB m d A I B A nilV]) ++ [runP R d (A : Int) (I : Int) (B : Int) (264 + 208 * t) Bs Pn2 []]) := hO'
        exact ⟨hO2.less, hz⟩
      · right
        have hO2 : Grommet.Own w0 w' ((endL G q K q2 c2 d A I B ys os (cleanL (turnsM (A : Int) (I : Int) (B : Int) ys (t + 1))) ++ [mntB m d A I B t' (ptr R')]) ++ runP R d (A : Int) (I : Int) (B : Int) (264 + 208 * t) Bs Pn2 [] :: [runP R' d (A : Int) (I : Int) (B : Int) (264 + 208 * t') B3 P3 (resS N (264 + 208 * t') (A : Int) (I : Int) (B : Int) (turnsM (A : Int) (I : Int) (B : Int) ys (t + 1)))]) := hO'
        exact ⟨t', R', B3, P3, h1, h2, hz, h0, own_skip hO2⟩
    · refine (MStepMid 4 5 2 m R d A I B t (264 + 208 * t) Bs Pn p cl S ws N w0 w _ hO rfl rfl rfl (by decide) (by decide) (by decide) hwl hokc hS2).mono ?_
      rintro e w' ⟨rfl, Pn2, hO'⟩
      exact ⟨⟨p, rfl⟩, .inr ⟨t, R, S, cl.does ws, htA, hS2, by rw [hdl]; exact hwl, hdo2, fun s hs => hok s (List.mem_cons_of_mem _ hs), by omega, Bs, Pn2, hO'⟩⟩
end Go.Proofs.YtkalglcbmfhdfaaGreat
end
section

end
