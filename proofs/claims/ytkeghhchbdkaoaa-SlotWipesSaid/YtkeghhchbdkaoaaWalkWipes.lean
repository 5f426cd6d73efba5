/- SlotWipes, walked. -/
import Derived.Test.YtkeghhchbdkaoaaWipeMath
import Derived.Test.YtkeghhchbdkaoaaSloI
namespace Go.Proofs.Ytkeghhchbdkaoaa.slotWipes
open Go.RowKit Go.Grommet

theorem cell_new (w : World) (cs : Array Value) (T : TypeId) (j : Nat) : (w.alloc (.cells cs T)).cell? ⟨w.heap.size, j, none⟩ = cs[j]? := by
  have h := heap_alloc_new w (.cells cs T)
  obtain ⟨Y, hY⟩ : ∃ Y, Y = w.heap.size := ⟨_, rfl⟩
  rw [← hY] at h ⊢
  simp [World.cell?, h]
/-- Flat, and that it makes memory alone. -/
theorem FlatG9 (k g : Nat) (xs : List Nat) (L : List (Nat × Nat)) (w0 w : World) (Ps : List Pr) (h : Own w0 w Ps) (hk : Ps[k]? = some (viewP g xs L)) :
    Calls Try.prog 32 #[.pointer (some ⟨g, 0, none⟩)] w fun e w' => ∃ ad cap, e = .returned (.slice ad xs.length cap) ∧ Own w0 w' (Ps ++ [rowP 36 1 (.slice ad xs.length cap) xs.length ((flatV xs L).map wv)]) := by
  obtain ⟨F, h1⟩ := h.get k hk
  refine (Flat_any g F xs L w h1 w.heap.size (Nat.le_refl _)).mono ?_
  rintro e w' ⟨ad, cap, he, hr, hg⟩
  rw [flatV_length] at he hr
  exact ⟨ad, cap, he, h.addRow hr hg⟩

set_option maxRecDepth 100000 in
set_option maxHeartbeats 1000000 in
theorem walk_far (a1 : Int) (td : Option Addr) (tl tc : Nat) (w : World) (h : 40 < tl) :
    Calls Try.prog 6 #[.slice td tl tc, .int .u8 a1] w (WorksIs w) := by
  have g1 : (40 : Int) < (tl : Int) := by omega
  go_enter Try.func6, Try.ntmps6
  go_wp2_with fail
  refine (works_any _).mono ?_
  rintro e w5 ⟨rfl, hg⟩
  go_wp2
  go_ret
  exact ⟨rfl, hg⟩

set_option maxRecDepth 100000 in
set_option maxHeartbeats 8000000 in
theorem walk_few (ix : Nat) (td : Option Addr) (tl tc : Nat) (T : List Tur) (w : World) (hi : ix < 256) (hT : TursIn w td tl T) (htl : ¬ 40 < tl) :
    Calls Try.prog 6 #[.slice td tl tc, .int .u8 (ix : Int)] w (WorksIs w) := by
  have gt : ¬ (40 : Int) < (tl : Int) := by omega
  have HS := Lib.hid (fun wx => show Calls Try.prog 11 #[.int .u8 0, .int .u8 0] wx fun e w' => e = .returned (.agg #[.int .i64 1, .int .i64 2, .int .i64 2]) ∧ wx.grownBy w' none from Small_any 0 0 (by omega) (by omega) wx)
  have HWh := Lib.hid (fun (j : Nat) wx => show Calls Try.prog 34 #[.agg #[.int .i64 1, .int .i64 2, .int .i64 2], .int .i64 (j : Int)] wx (RWhereIs (whereV 1 2 2 (j : Int)) wx) from RWhere_any 1 2 2 (j : Int) wx)
  obtain ⟨Z, hZe⟩ : ∃ Z, 280 + 208 * 1 + 16 * 2 + 8 * 2 = Z := ⟨_, rfl⟩
  have HZ : Hid (Z = 536) := Lib.hid hZe.symm
  have HIm := Lib.hid (fun wx Ps (h : Own w wx Ps) => ImageH 1 2 2 (by decide) td tl tc T w wx Ps h hT (by omega))
  rw [hZe] at HIm
  rw [show gv ((1 : Nat) : Int) ((2 : Nat) : Int) ((2 : Nat) : Int) = .agg #[.int .i64 1, .int .i64 2, .int .i64 2] from rfl] at HIm
  obtain ⟨a, Ha⟩ : ∃ a, Hid (a = ix % 4) := ⟨_, Lib.hid rfl⟩
  have ha4 : a < 4 := by rw [Ha.out]; omega
  have ea : (ix : Int) % 4 = (a : Int) := by rw [Ha.out]; omega
  obtain ⟨A, HA⟩ : ∃ A, Hid (A = 8 + 64 * a) := ⟨_, Lib.hid rfl⟩
  have HAZ : Hid (A + 64 ≤ Z) := Lib.hid (by rw [HA.out]; omega)
  have Hse : Hid (sessionV (a : Int) = (A : Int)) := Lib.hid (by unfold sessionV; rw [if_pos ⟨by omega, by omega⟩, HA.out]; omega)
  have hZ : Z ≤ 100000 := by omega
  clear hZe hT
  go_enter Try.func6, Try.ntmps6
  go_wp2_with fail
  refine (HS.out _).mono ?_
  rintro e w1 ⟨rfl, hg1⟩
  have hO := Lib.hid ((Own.nil w).quiet hg1)
  clear hg1
  go_wp2_with fail
  refine (HIm.out _ _ hO.out).mono ?_
  rintro e w2 ⟨YS, ad, cp, rfl, hYl, hYs, hO⟩
  have hO : Own w w2 [rowP 36 1 (.slice ad Z cp) Z (YS.map wv)] := hO
  obtain ⟨hW, hnil, _⟩ := Own.words hO 0 rfl hYs (by omega)
  obtain ⟨q, rfl⟩ : ∃ q, ad = some ⟨q, 0, none⟩ := by
    obtain ⟨q, he, _⟩ := Own.cell hO 0 rfl 0 (wv (YS.getD 0 0)) (by rw [List.getElem?_map, List.getElem?_eq_getElem (by rw [hYl, HZ.out]; omega), List.getD_eq_getElem?_getD, List.getElem?_eq_getElem (by rw [hYl, HZ.out]; omega)]; rfl)
    exact ⟨q, he⟩
  have HNew := Lib.hid (NewH (some ⟨q, 0, none⟩) Z cp YS w _ _ hO hW (by omega) hnil)
  have HYl := Lib.hid hYl
  clear hO hW hnil hYl hYs HIm
  go_wp2_with fail
  refine HNew.out.mono ?_
  rintro e w4 ⟨g, rfl, hO⟩
  have hO : Own w w4 [rowP 36 1 (.slice (some ⟨q, 0, none⟩) Z cp) Z (YS.map wv), viewP g YS []] := hO
  have HAX : Hid (0 ≤ (A : Int) ∧ (A : Int) + 64 ≤ (YS.length : Int)) := Lib.hid ⟨by omega, by rw [HYl.out]; have := HAZ.out; omega⟩
  obtain ⟨m1, m2, m3, m4⟩ := wipe_all ha4 (xs := YS) (by rw [HYl.out, HZ.out])
  have HWp := Lib.hid (WipeH 1 g YS [] (a : Int) (A : Int) w w4 _ hO rfl Hse.out HAX.out)
  obtain ⟨LL, HLe⟩ : ∃ LL, Hid (allL YS [] (wipeS (a : Int)) = LL) := ⟨_, Lib.hid rfl⟩
  rw [m1, HLe.out] at HWp
  rw [HLe.out] at m2 m3 m4
  have HLL := Lib.hid m2
  have HGot := Lib.hid m3
  have HSl := Lib.hid m4
  obtain ⟨Q, HQ⟩ : ∃ Q, Hid (Q = LL.length) := ⟨_, Lib.hid rfl⟩
  have hQ3 : ¬ (12 : Int) < (Q : Int) := by have := HLL.out; rw [HQ.out]; omega
  clear hO m1 m2 m3 m4 HNew
  go_wp2_with fail
  refine HWp.out.mono ?_
  rintro e w5 ⟨rfl, hO⟩
  have hO : Own w w5 [rowP 36 1 (.slice (some ⟨q, 0, none⟩) Z cp) Z (YS.map wv), viewP g YS LL] := hO
  have HFg := Lib.hid (FlatG9 1 g YS LL w _ _ hO rfl)
  rw [HYl.out] at HFg
  clear hO HWp
  go_wp2_with fail
  refine HFg.out.mono ?_
  rintro e w6 ⟨ad7, cp7, rfl, hO⟩
  have hO : Own w w6 [rowP 36 1 (.slice (some ⟨q, 0, none⟩) Z cp) Z (YS.map wv), viewP g YS LL, rowP 36 1 (.slice ad7 Z cp7) Z ((flatV YS LL).map wv)] := hO
  have HWl : Hid (Wl YS.length LL) := Lib.hid (Own.wl hO 1 rfl).1
  have HFlen : Hid ((flatV YS LL).length = Z) := Lib.hid (by rw [flatV_length]; exact HYl.out)
  have HGet : Hid (∀ j, j < Z → (flatV YS LL).getD j 0 = if mineB (a : Int) (j : Int) = true then 0 else YS.getD j 0) := Lib.hid (fun j hj => by
    rw [Go.Grommet.flat_get HWl.out j (by rw [HYl.out]; exact hj)]; exact HGot.out j (by rw [← HZ.out]; exact hj))
  have HWr := Lib.hid (WritesH 1 g YS LL w _ _ hO rfl)
  rw [← HQ.out] at HWr
  have eZ : ((Z : Int) != (Z : Int)) = false := by simp
  clear HFg hO
  go_wp2_with fail
  refine HWr.out.mono ?_
  rintro e w9 ⟨ad6, cp6, rfl, hO⟩
  have hO : Own w w9 [rowP 36 1 (.slice (some ⟨q, 0, none⟩) Z cp) Z (YS.map wv), viewP g YS LL, rowP 36 1 (.slice ad7 Z cp7) Z ((flatV YS LL).map wv)] := hO.less
  replace hO := Lib.hid hO
  clear HWr
  have HLd := Lib.hid (fun (k : Nat) wx (hk : k < 4) (hO : Own w wx [rowP 36 1 (.slice (some ⟨q, 0, none⟩) Z cp) Z (YS.map wv), viewP g YS LL, rowP 36 1 (.slice ad7 Z cp7) Z ((flatV YS LL).map wv)]) =>
    LoadZero 1 g YS LL (a : Int) (k : Int) (A : Int) (slotV (a : Int) (k : Int)) w wx _ hO rfl Hse.out HAX.out rfl (by have := slot_in ha4 hk; exact ⟨this.1, by omega⟩) (HSl.out k hk))
  have heq : ∀ wx : World, (binOp .neq 41 (.agg #[.int .i64 0, .int .u64 0, .int .u64 0, .string ⟨#[]⟩]) (.agg #[.int .i64 0, .int .u64 0, .int .u64 0, .string ⟨#[]⟩])).run Try.prog wx = .ok (.bool false) wx := fun _ => by kernel_rfl
  go_wp2_with fail
  go_loopw [9] (fun i wr => ∃ j : Nat, j ≤ 4 ∧ i = .int .i64 (j : Int) ∧ Hid (Own w wr [rowP 36 1 (.slice (some ⟨q, 0, none⟩) Z cp) Z (YS.map wv), viewP g YS LL, rowP 36 1 (.slice ad7 Z cp7) Z ((flatV YS LL).map wv)])) (fun i _ => 4 - (intOf i).toNat)
  case atStart => exact ⟨0, by omega, rfl, hO⟩
  case round =>
    clear hO
    obtain ⟨k, hk, rfl, hO⟩ := hrel
    have k0 : (0 : Int) ≤ (k : Int) := by omega
    by_cases hlt : k < 4
    · have hlt' : (k : Int) < 4 := by omega
      go_wp2_with fail
      refine (HLd.out k _ hlt hO.out).mono ?_
      rintro e w3 ⟨rfl, hO3⟩
      have z0 : (w3.alloc (.cells #[.int .i64 0, .int .u64 0, .int .u64 0, .string ⟨#[]⟩] 41)).cell? ⟨w3.heap.size, 0, none⟩ = some (.int .i64 0) := cell_new _ _ _ _
      have z1 : (w3.alloc (.cells #[.int .i64 0, .int .u64 0, .int .u64 0, .string ⟨#[]⟩] 41)).cell? ⟨w3.heap.size, 1, none⟩ = some (.int .u64 0) := cell_new _ _ _ _
      have z2 : (w3.alloc (.cells #[.int .i64 0, .int .u64 0, .int .u64 0, .string ⟨#[]⟩] 41)).cell? ⟨w3.heap.size, 2, none⟩ = some (.int .u64 0) := cell_new _ _ _ _
      have z3 : (w3.alloc (.cells #[.int .i64 0, .int .u64 0, .int .u64 0, .string ⟨#[]⟩] 41)).cell? ⟨w3.heap.size, 3, none⟩ = some (.string ⟨#[]⟩) := cell_new _ _ _ _
      have hO4 := Lib.hid (hO3.quiet (World.grownBy_alloc w3 (.cells #[.int .i64 0, .int .u64 0, .int .u64 0, .string ⟨#[]⟩] 41) none))
      clear hO hO3
      go_wp2
      go_roundw
      case rel => exact ⟨k + 1, by omega, by go_num, hO4⟩
      case measure => simp [intOf]; omega
    · have hlt' : ¬ (k : Int) < 4 := by omega
      clear HLd heq hlt
      go_wp2_with fail
      go_loopw [13] (fun i wr => ∃ j : Nat, j ≤ Z ∧ i = .int .i64 (j : Int) ∧ Hid (Own w wr [rowP 36 1 (.slice (some ⟨q, 0, none⟩) Z cp) Z (YS.map wv), viewP g YS LL, rowP 36 1 (.slice ad7 Z cp7) Z ((flatV YS LL).map wv)])) (fun i _ => Z - (intOf i).toNat)
      case atStart => exact ⟨0, Nat.zero_le _, rfl, hO⟩
      case round =>
        clear hO
        obtain ⟨j, hj, rfl, hO⟩ := hrel
        have j0 : (0 : Int) ≤ (j : Int) := by omega
        by_cases hlt : j < Z
        · have hlt' : (j : Int) < (Z : Int) := by omega
          go_wp2_with fail
          refine (HS.out _).mono ?_
          rintro e w3 ⟨rfl, hg⟩
          have hO3 := Lib.hid (hO.out.quiet hg)
          have HV := HWh.out j
          have hM := HGet.out j hlt
          unfold mineB at hM
          generalize whereV 1 2 2 (j : Int) = V at HV hM
          obtain ⟨v1, v2, v3, v4⟩ := V
          unfold RWhereIs at HV
          replace HV := Lib.hid HV
          replace hM : Hid ((flatV YS LL).getD j 0 = if (v2 == (a : Int) && (v1 == 3 && v4 == 0 || v1 == 4)) = true then 0 else YS.getD j 0) := Lib.hid hM
          clear hg hO
          go_wp2_with fail
          refine (HV.out _).mono ?_
          rintro e w4 ⟨rfl, hg⟩
          replace hO3 := Lib.hid (hO3.out.quiet hg)
          obtain ⟨q1, rfl, c1, _, _⟩ := Own.word hO3.out 2 rfl HFlen.out j hlt
          obtain ⟨q2, he2, c2, _, _⟩ := Own.word hO3.out 0 rfl HYl.out j hlt
          cases he2
          clear hg HV
          rw [hM.out] at c1
          clear hM
          generalize YS.getD j 0 = U at c1 c2
          have eU : ((U : Int) != (U : Int)) = false := by simp
          by_cases b1 : v2 = (a : Int)
          · have e1 : (v2 == (a : Int)) = true := by simpa using b1
            by_cases b2 : v1 = 3
            · have e2 : (v1 == 3) = true := by simpa using b2
              have e4 : (v1 == 4) = false := by rw [b2]; rfl
              by_cases b3 : v4 = 0
              · have e3 : (v4 == 0) = true := by simpa using b3
                rw [e1, e2, e3] at c1
                have c1 : w4.cell? ⟨q1, j, none⟩ = some (.int .u64 0) := c1
                subst b2 b3
                clear b1 e4
                go_wp2_with fail
                go_quiet (fail)
                go_wp2
                go_roundw
                case rel => exact ⟨j + 1, by omega, by go_num, Lib.hid (hO3.out.quiet (grown_drewN _ _ _))⟩
                case measure => simp [intOf]; omega
              · have e3 : (v4 == 0) = false := by simpa using b3
                rw [e1, e2, e3, e4] at c1
                have c1 : w4.cell? ⟨q1, j, none⟩ = some (.int .u64 (U : Int)) := c1
                subst b2
                clear b1
                go_wp2_with fail
                go_quiet (fail)
                go_wp2
                go_roundw
                case rel => exact ⟨j + 1, by omega, by go_num, Lib.hid (hO3.out.quiet (grown_drewN _ _ _))⟩
                case measure => simp [intOf]; omega
            · have e2 : (v1 == 3) = false := by simpa using b2
              by_cases b4 : v1 = 4
              · have e4 : (v1 == 4) = true := by simpa using b4
                rw [e1, e2, e4] at c1
                have c1 : w4.cell? ⟨q1, j, none⟩ = some (.int .u64 0) := c1
                clear b1 b2 b4
                go_wp2_with fail
                go_quiet (fail)
                go_wp2
                go_roundw
                case rel => exact ⟨j + 1, by omega, by go_num, Lib.hid (hO3.out.quiet (grown_drewN _ _ _))⟩
                case measure => simp [intOf]; omega
              · have e4 : (v1 == 4) = false := by simpa using b4
                rw [e1, e2, e4] at c1
                have c1 : w4.cell? ⟨q1, j, none⟩ = some (.int .u64 (U : Int)) := c1
                clear b1 b2 b4
                go_wp2_with fail
                go_quiet (fail)
                go_wp2
                go_roundw
                case rel => exact ⟨j + 1, by omega, by go_num, Lib.hid (hO3.out.quiet (grown_drewN _ _ _))⟩
                case measure => simp [intOf]; omega
          · have e1 : (v2 == (a : Int)) = false := by simpa using b1
            rw [e1] at c1
            have c1 : w4.cell? ⟨q1, j, none⟩ = some (.int .u64 (U : Int)) := c1
            clear b1
            go_wp2_with fail
            go_quiet (fail)
            go_wp2
            go_roundw
            case rel => exact ⟨j + 1, by omega, by go_num, Lib.hid (hO3.out.quiet (grown_drewN _ _ _))⟩
            case measure => simp [intOf]; omega
        · have hlt' : ¬ (j : Int) < (Z : Int) := by omega
          have hgw := Lib.hid hO.out.grown
          clear hO
          go_wp2_with fail
          refine (works_any _).mono ?_
          rintro e w15 ⟨rfl, hg⟩
          go_wp2
          go_ret
          exact ⟨rfl, grown_trans hgw.out hg⟩

theorem walk (td : Option Addr) (tl tc : Nat) (T : List Tur) (a1 : Int) (w : World) (hT : TursIn w td tl T) (h1 : (Lit.int .u8 a1).wf = true) :
    Calls Try.prog 6 #[.slice td tl tc, .int .u8 a1] w (WorksIs w) := by
  have b1 := bounds_u8 h1
  obtain ⟨ix, rfl⟩ := Int.eq_ofNat_of_zero_le b1.1
  by_cases htl : 40 < tl
  · exact walk_far _ td tl tc w htl
  · exact walk_few ix td tl tc T w (by omega) hT htl
end Go.Proofs.Ytkeghhchbdkaoaa.slotWipes
