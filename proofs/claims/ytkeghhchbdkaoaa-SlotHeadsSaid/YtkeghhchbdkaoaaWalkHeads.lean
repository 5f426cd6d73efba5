/- SlotHeads, walked. -/
import Derived.Test.YtkeghhchbdkaoaaSloE
import Derived.Test.YtkeghhchbdkaoaaSloI
namespace Go.Proofs.Ytkeghhchbdkaoaa.slotHeads
open Go.RowKit Go.Grommet

theorem getD_set_same (L : List Nat) (i x d : Nat) (h : i < L.length) : (L.set i x).getD i d = x := by simp [h]
/-- Flat, and that it makes memory alone. -/
theorem FlatG9 (k g : Nat) (xs : List Nat) (L : List (Nat × Nat)) (w0 w : World) (Ps : List Pr) (h : Own w0 w Ps) (hk : Ps[k]? = some (viewP g xs L)) :
    Calls Try.prog 32 #[.pointer (some ⟨g, 0, none⟩)] w fun e w' => ∃ ad cap, e = .returned (.slice ad xs.length cap) ∧ Own w0 w' (Ps ++ [rowP 36 1 (.slice ad xs.length cap) xs.length ((flatV xs L).map wv)]) ∧ w.grownBy w' none := by
  obtain ⟨F, h1⟩ := h.get k hk
  refine (Flat_any g F xs L w h1 w.heap.size (Nat.le_refl _)).mono ?_
  rintro e w' ⟨ad, cap, he, hr, hg⟩
  rw [flatV_length] at he hr
  exact ⟨ad, cap, he, h.addRow hr hg, hg⟩
set_option maxRecDepth 100000 in
theorem head_same (ob : Bool) (ge mk : Nat) (wx : World) : (binOp .eql 38 (.agg #[.bool ob, .int .u64 (ge : Int), .int .u64 (mk : Int)]) (.agg #[.bool ob, .int .u64 (ge : Int), .int .u64 (mk : Int)])).run Try.prog wx = .ok (.bool true) wx := by
  go_simp

set_option maxRecDepth 100000 in
set_option maxHeartbeats 1000000 in
theorem walk_far (a1 ge mk fs : Int) (ob : Bool) (td : Option Addr) (tl tc : Nat) (w : World) (h : 40 < tl) :
    Calls Try.prog 5 #[.slice td tl tc, .int .u8 a1, .agg #[.bool ob, .int .u64 ge, .int .u64 mk], .int .u64 fs] w (WorksIs w) := by
  have g1 : (40 : Int) < (tl : Int) := by omega
  go_enter Try.func5, Try.ntmps5
  go_wp2_with fail
  refine (works_any _).mono ?_
  rintro e w5 ⟨rfl, hg⟩
  go_wp2
  go_ret
  exact ⟨rfl, grown_trans (World.grownBy_alloc w _ none) hg⟩

set_option maxRecDepth 100000 in
set_option maxHeartbeats 8000000 in
theorem walk_true_few (ix ge mk fs : Nat) (td : Option Addr) (tl tc : Nat) (T : List Tur) (w : World) (hi : ix < 256) (hge : ge < 18446744073709551616) (hmk : mk < 18446744073709551616) (hfs : fs < 18446744073709551616) (hT : TursIn w td tl T) (htl : ¬ 40 < tl) (hf1 : fs ≤ 1) :
    Calls Try.prog 5 #[.slice td tl tc, .int .u8 (ix : Int), .agg #[.bool true, .int .u64 (ge : Int), .int .u64 (mk : Int)], .int .u64 (fs : Int)] w (WorksIs w) := by
  have gt : ¬ (40 : Int) < (tl : Int) := by omega
  have HS := Lib.hid (fun wx => show Calls Try.prog 11 #[.int .u8 0, .int .u8 0] wx fun e w' => e = .returned (.agg #[.int .i64 1, .int .i64 2, .int .i64 2]) ∧ wx.grownBy w' none from Small_any 0 0 (by omega) (by omega) wx)
  obtain ⟨Z, hZe⟩ : ∃ Z, 280 + 208 * 1 + 16 * 2 + 8 * 2 = Z := ⟨_, rfl⟩
  have HIm := Lib.hid (fun wx Ps (h : Own w wx Ps) => ImageH 1 2 2 (by decide) td tl tc T w wx Ps h hT (by omega))
  rw [hZe] at HIm
  rw [show gv ((1 : Nat) : Int) ((2 : Nat) : Int) ((2 : Nat) : Int) = .agg #[.int .i64 1, .int .i64 2, .int .i64 2] from rfl] at HIm
  obtain ⟨a, Ha⟩ : ∃ a, Hid (a = ix % 4) := ⟨_, Lib.hid rfl⟩
  have ha4 : a < 4 := by rw [Ha.out]; omega
  have ea : (ix : Int) % 4 = (a : Int) := by rw [Ha.out]; omega
  obtain ⟨A, HA⟩ : ∃ A, Hid (A = 8 + 64 * a) := ⟨_, Lib.hid rfl⟩
  have hA : A + 64 ≤ Z := by rw [HA.out]; omega
  have hse : sessionV (a : Int) = (A : Int) := by unfold sessionV; rw [if_pos ⟨by omega, by omega⟩, HA.out]; omega
  have HRS := Lib.hid (fun wx => RSessionAt_any (a : Int) wx)
  rw [hse] at HRS
  have Hse := Lib.hid hse
  have hZ : Z ≤ 100000 := by omega
  clear hse hZe hT
  go_enter Try.func5, Try.ntmps5
  go_wp2_with fail
  obtain ⟨X, HX⟩ : ∃ X, Hid (X = w.heap.size) := ⟨_, Lib.hid rfl⟩
  have hO : Own w (w.alloc (.cells #[.bool true, .int .u64 (ge : Int), .int .u64 (mk : Int)] 38)) [boxP X 38 #[.bool true, .int .u64 (ge : Int), .int .u64 (mk : Int)]] := by rw [HX.out]; exact (Own.nil w).addBox _ _
  rw [← HX.out]
  refine (HS.out _).mono ?_
  rintro e w1 ⟨rfl, hg1⟩
  have hO := Lib.hid (hO.quiet hg1)
  clear hg1 HS
  go_wp2_with fail
  refine (HIm.out _ _ hO.out).mono ?_
  rintro e w2 ⟨YT, ad, cp, rfl, hYl, hYs, hO⟩
  have hO : Own w w2 [boxP X 38 #[.bool true, .int .u64 (ge : Int), .int .u64 (mk : Int)], rowP 36 1 (.slice ad Z cp) Z (YT.map wv)] := hO
  obtain ⟨q, rfl, cK, fK, _⟩ := Own.cell hO 1 rfl A (wv (YT.getD A 0)) (by rw [List.getElem?_map, List.getElem?_eq_getElem (by rw [hYl]; omega), List.getD_eq_getElem?_getD, List.getElem?_eq_getElem (by rw [hYl]; omega)]; rfl)
  clear cK fK HIm
  replace hO := Lib.hid hO
  have HYT := Lib.hid (And.intro hYl hYs)
  clear hYl hYs
  go_wp2_with fail
  refine (HRS.out _).mono ?_
  rintro e w3 ⟨rfl, hg⟩
  have hO := hO.out.quiet hg
  obtain ⟨q', he, cK, fK, _⟩ := Own.cell hO 1 rfl A (wv (YT.getD A 0)) (by rw [List.getElem?_map, List.getElem?_eq_getElem (by rw [HYT.out.1]; omega), List.getD_eq_getElem?_getD, List.getElem?_eq_getElem (by rw [HYT.out.1]; omega)]; rfl)
  cases he
  unfold wv at cK
  generalize YT.getD A 0 = U0 at cK
  have hO2 := hO.store 1 rfl A (wv fs)
  rw [← List.map_set] at hO2
  obtain ⟨YS, HYS⟩ : ∃ YS, Hid (YT.set A fs = YS) := ⟨_, Lib.hid rfl⟩
  rw [HYS.out] at hO2
  have hO2 : Own w (w3.setCell ⟨q, A, none⟩ (.int .u64 (fs : Int))) [boxP X 38 #[.bool true, .int .u64 (ge : Int), .int .u64 (mk : Int)], rowP 36 1 (.slice (some ⟨q, 0, none⟩) Z cp) Z (YS.map wv)] := hO2
  have hYl : YS.length = Z := by rw [← HYS.out, List.length_set]; exact HYT.out.1
  have hYs : ∀ n ∈ YS, n < 18446744073709551616 := by
    rw [← HYS.out]
    intro n hn
    rcases List.mem_or_eq_of_mem_set hn with h | h
    · exact HYT.out.2 n h
    · rw [h]; exact hfs
  have HYl := Lib.hid hYl
  have HYA : Hid (YS.getD A 0 = fs) := Lib.hid (by rw [← HYS.out]; exact getD_set_same YT A fs 0 (by rw [HYT.out.1]; omega))
  obtain ⟨hW, hnil, _⟩ := Own.words hO2 1 rfl hYs (by omega)
  have HNew := Lib.hid (NewH (some ⟨q, 0, none⟩) Z cp YS w _ _ hO2 hW (by omega) hnil)
  clear hO hO2 hg hW hnil hYl hYs
  have eA : (A : Int) < (Z : Int) := by omega
  go_wp2_with fail
  refine HNew.out.mono ?_
  rintro e w4 ⟨g, rfl, hO⟩
  have hO : Own w w4 [boxP X 38 #[.bool true, .int .u64 (ge : Int), .int .u64 (mk : Int)], rowP 36 1 (.slice (some ⟨q, 0, none⟩) Z cp) Z (YS.map wv), viewP g YS []] := hO
  clear cK fK HNew
  have HAX : Hid (0 ≤ (A : Int) ∧ (A : Int) + 64 ≤ (YS.length : Int)) := Lib.hid ⟨by omega, by rw [HYl.out]; omega⟩
  have HXm : Hid (YS.length ≤ 1000000) := Lib.hid (by rw [HYl.out]; omega)
  have HG0 : Hid (gotI YS [] (A : Int) = fs) := Lib.hid (by unfold gotI; rw [if_pos ⟨by omega, by rw [HYl.out]; omega⟩, Int.toNat_natCast]; exact HYA.out)
  obtain ⟨o1, Ho1⟩ : ∃ o1, ((fs : Int) == 1) = o1 := ⟨_, rfl⟩
  obtain ⟨ge0, Hge0⟩ : ∃ v, gotI YS [] ((A : Int) + 1) = v := ⟨_, rfl⟩
  obtain ⟨mk0, Hmk0⟩ : ∃ v, gotI YS [] ((A : Int) + 2) = v := ⟨_, rfl⟩
  have HGt := Lib.hid (GetOk 2 g YS [] (a : Int) (A : Int) fs ge0 mk0 o1 w w4 _ hO rfl Hse.out HAX.out HXm.out HG0.out Ho1 hf1 Hge0 Hmk0)
  clear Ho1 Hge0 Hmk0
  have dl : decide ((fs : Int) ≤ 1) = true := by simp; omega
  have dl' : (fs : Int) ≤ 1 := by omega
  have hok := all_ok YS [1, ge, mk] [] A (by rw [HYl.out]; simp only [List.length_cons, List.length_nil]; omega) (by simp)
  have hrs : (List.range ([1, ge, mk] : List Nat).length).map (fun i => (((A + i : Nat) : Int), ([1, ge, mk] : List Nat).getD i 0)) = [((A : Int), 1), ((A : Int) + 1, ge), ((A : Int) + 2, mk)] := by
    simp [List.range, List.range.loop]
  rw [hrs] at hok
  obtain ⟨LL, HLe⟩ : ∃ LL, Hid (allL YS [] [((A : Int), 1), ((A : Int) + 1, ge), ((A : Int) + 2, mk)] = LL) := ⟨_, Lib.hid rfl⟩
  rw [HLe.out] at hok
  have HOk := Lib.hid hok
  have HLL : Hid (LL.length ≤ 3) := Lib.hid (by rw [← HLe.out]; have := allL_length YS [((A : Int), 1), ((A : Int) + 1, ge), ((A : Int) + 2, mk)] []; simpa using this)
  obtain ⟨Q, HQ⟩ : ∃ Q, Hid (Q = LL.length) := ⟨_, Lib.hid rfl⟩
  have hQ3 : (Q : Int) ≤ 3 := by have := HLL.out; rw [HQ.out]; omega
  have Hgot : Hid (∀ i, i < 3 → gotI YS LL ((A : Int) + ((i : Nat) : Int)) = [1, ge, mk].getD i 0) := Lib.hid (fun i hi => by
    have := HAX.out
    unfold gotI
    rw [if_pos ⟨by omega, by omega⟩, show ((A : Int) + (i : Int)).toNat = A + i from by omega, HOk.out.2 (A + i), if_pos ⟨by omega, by show A + i < A + 3; omega⟩, Nat.add_sub_cancel_left])
  have HOut : Hid (∀ j, (j < A ∨ A + 3 ≤ j) → gotV YS LL j = YS.getD j 0) := Lib.hid (fun j hj => by
    rw [HOk.out.2 j, if_neg (by show ¬ (A ≤ j ∧ j < A + 3); omega)]; rfl)
  have HP := Lib.hid (fun wx (hO : Own w wx [boxP X 38 #[.bool true, .int .u64 (ge : Int), .int .u64 (mk : Int)], rowP 36 1 (.slice (some ⟨q, 0, none⟩) Z cp) Z (YS.map wv), viewP g YS []]) => PutTrue 2 g YS [] (a : Int) (A : Int) ge mk w wx _ hO rfl Hse.out HAX.out HXm.out hge hmk)
  rw [HOk.out.1, HLe.out] at HP
  clear hok hrs hO HRS
  go_wp2_with fail
  refine HGt.out.mono ?_
  rintro e w5 ⟨rfl, hO⟩
  have hO := hO.quiet (World.grownBy_alloc w5 (.cells #[.bool o1, .int .u64 (ge0 : Int), .int .u64 (mk0 : Int)] 38) none)
  obtain ⟨x0, x1, x2⟩ := HeadS.cells (show HeadS X true ge mk _ from Own.box hO 0 rfl)
  replace hO := Lib.hid hO
  clear HGt
  go_wp2_with fail
  refine (HP.out _ hO.out).mono ?_
  rintro e w6 ⟨rfl, hO⟩
  have hO : Own w w6 [boxP X 38 #[.bool true, .int .u64 (ge : Int), .int .u64 (mk : Int)], rowP 36 1 (.slice (some ⟨q, 0, none⟩) Z cp) Z (YS.map wv), viewP g YS LL] := hO
  have HGt := Lib.hid (GetOk 2 g YS LL (a : Int) (A : Int) 1 ge mk true w w6 _ hO rfl Hse.out HAX.out HXm.out (by have := Hgot.out 0 (by decide); rw [show (A : Int) + ((0 : Nat) : Int) = (A : Int) from by simp] at this; exact this) (by decide) (by decide) (by exact Hgot.out 1 (by decide)) (by exact Hgot.out 2 (by decide)))
  clear x0 x1 x2 HP hO
  go_wp2_with fail
  refine HGt.out.mono ?_
  rintro e w7 ⟨rfl, hO⟩
  obtain ⟨Y, HY⟩ : ∃ Y, Hid (Y = w7.heap.size) := ⟨_, Lib.hid rfl⟩
  have hyb : (w7.alloc (.cells #[.bool true, .int .u64 (ge : Int), .int .u64 (mk : Int)] 38)).heap[Y]? = some (.cells #[.bool true, .int .u64 (ge : Int), .int .u64 (mk : Int)] 38 (0, 0)) := by rw [HY.out]; exact heap_alloc_new w7 _
  have hO := hO.quiet (World.grownBy_alloc w7 (.cells #[.bool true, .int .u64 (ge : Int), .int .u64 (mk : Int)] 38) none)
  have HFl := Lib.hid (FlatH 2 g YS LL w _ _ hO rfl)
  have HFg := Lib.hid (FlatG9 2 g YS LL w _ _ hO rfl)
  rw [HYl.out] at HFl HFg
  clear HGt hO HFl
  go_wp2_with fail
  rw [← HY.out]
  refine HFg.out.mono ?_
  rintro e w8 ⟨ad7, cp7, rfl, hO, hg8⟩
  have hO : Own w w8 [boxP X 38 #[.bool true, .int .u64 (ge : Int), .int .u64 (mk : Int)], rowP 36 1 (.slice (some ⟨q, 0, none⟩) Z cp) Z (YS.map wv), viewP g YS LL, rowP 36 1 (.slice ad7 Z cp7) Z ((flatV YS LL).map wv)] := hO
  have hyb := (hg8.block _ (lt_of_block hyb) (by simp)).trans hyb
  have HWl : Hid (Wl YS.length LL) := Lib.hid (Own.wl hO 2 rfl).1
  have HFlen : Hid ((flatV YS LL).length = Z) := Lib.hid (by rw [flatV_length]; exact HYl.out)
  have HGet : Hid (∀ j, j < Z → (j < A ∨ A + 3 ≤ j) → (flatV YS LL).getD j 0 = YS.getD j 0) := Lib.hid (fun j hj ho => by
    rw [Go.Grommet.flat_get HWl.out j (by rw [HYl.out]; exact hj)]; exact HOut.out j ho)
  replace hO := Lib.hid hO
  clear HFg hg8
  have eZ : ((Z : Int) == (Z : Int)) = true := by simp
  go_wp2_with fail
  go_loopw [18] (fun i wr => ∃ j : Nat, j ≤ Z ∧ i = .int .i64 (j : Int) ∧ wr.heap[Y]? = some (.cells #[.bool true, .int .u64 (ge : Int), .int .u64 (mk : Int)] 38 (0, 0)) ∧ Hid (Own w wr [boxP X 38 #[.bool true, .int .u64 (ge : Int), .int .u64 (mk : Int)], rowP 36 1 (.slice (some ⟨q, 0, none⟩) Z cp) Z (YS.map wv), viewP g YS LL, rowP 36 1 (.slice ad7 Z cp7) Z ((flatV YS LL).map wv)])) (fun i _ => Z - (intOf i).toNat)
  case atStart => exact ⟨0, Nat.zero_le _, rfl, hyb, hO⟩
  case round =>
    clear hO hyb
    obtain ⟨j, hj, rfl, hyb, hO⟩ := hrel
    have j0 : (0 : Int) ≤ (j : Int) := by omega
    have wA : IntKind.i64.wrap ((A : Int) + 3) = (A : Int) + 3 := IntWalk.i64_in _ ⟨by omega, by omega⟩
    by_cases hlt : j < Z
    · have hlt' : (j : Int) < (Z : Int) := by omega
      have HB2 := Lib.hid (fun n => (grown_drewN wr n none).block Y (lt_of_block hyb) (by simp) |>.trans hyb)
      obtain ⟨q1, rfl, c1, _, _⟩ := Own.word hO.out 3 rfl HFlen.out j hlt
      obtain ⟨q2, he2, c2, _, _⟩ := Own.word hO.out 1 rfl HYl.out j hlt
      cases he2
      clear hyb
      by_cases ho : j < A ∨ A + 3 ≤ j
      · rw [HGet.out j hlt ho] at c1
        generalize YS.getD j 0 = U at c1 c2
        have eU : ((U : Int) != (U : Int)) = false := by simp
        by_cases hA1 : j < A
        · have dA' : (j : Int) < (A : Int) := by omega
          clear ho
          go_wp2_with fail
          go_quiet (fail)
          go_wp2
          go_roundw
          case rel => exact ⟨j + 1, by omega, by go_num, HB2.out _, Lib.hid (hO.out.quiet (grown_drewN _ _ _))⟩
          case measure => simp [intOf]; omega
        · have dA' : ¬ (j : Int) < (A : Int) := by omega
          have dB' : (A : Int) + 3 ≤ (j : Int) := by omega
          have n2 : A + 3 ≤ j := by omega
          clear ho
          go_wp2_with fail
          go_quiet (fail)
          go_wp2
          go_roundw
          case rel => exact ⟨j + 1, by omega, by go_num, HB2.out _, Lib.hid (hO.out.quiet (grown_drewN _ _ _))⟩
          case measure => simp [intOf]; omega
      · generalize YS.getD j 0 = U at c2
        generalize (flatV YS LL).getD j 0 = U2 at c1
        have dA' : ¬ (j : Int) < (A : Int) := by omega
        have dB' : ¬ (A : Int) + 3 ≤ (j : Int) := by omega
        have n1 : ¬ j < A := by omega
        have n2 : ¬ A + 3 ≤ j := by omega
        have dA : decide ((j : Int) < (A : Int)) = false := by simp; omega
        have dB : decide ((A : Int) + 3 ≤ (j : Int)) = false := by simp; omega
        clear ho
        go_wp2_with fail
        go_quiet (fail)
        go_wp2
        go_roundw
        case rel => exact ⟨j + 1, by omega, by go_num, HB2.out _, Lib.hid (hO.out.quiet (grown_drewN _ _ _))⟩
        case measure => simp [intOf]; omega
    · have hlt' : ¬ (j : Int) < (Z : Int) := by omega
      obtain ⟨x0, x1, x2⟩ := HeadS.cells (show HeadS X true ge mk _ from Own.box hO.out 0 rfl)
      obtain ⟨y0, y1, y2⟩ := HeadS.cells (show HeadS Y true ge mk wr from hyb)
      have HWr := Lib.hid (WritesH 2 g YS LL w wr _ hO.out rfl)
      rw [← HQ.out] at HWr
      have heq : ∀ wx : World, (binOp .eql 38 (.agg #[.bool true, .int .u64 (ge : Int), .int .u64 (mk : Int)]) (.agg #[.bool true, .int .u64 (ge : Int), .int .u64 (mk : Int)])).run Try.prog wx = .ok (.bool true) wx := head_same true ge mk
      clear hyb hO
      go_wp2_with fail
      refine HWr.out.mono ?_
      rintro e w9 ⟨ad6, cp6, rfl, hO⟩
      have hgw := Lib.hid hO.grown
      clear hO HWr x0 x1 x2 y0 y1 y2
      go_wp2_with fail
      refine (works_any _).mono ?_
      rintro e w15 ⟨rfl, hg⟩
      go_wp2
      go_ret
      exact ⟨rfl, grown_trans hgw.out hg⟩

set_option maxRecDepth 100000 in
set_option maxHeartbeats 8000000 in
theorem walk_true_big (ix ge mk fs : Nat) (td : Option Addr) (tl tc : Nat) (T : List Tur) (w : World) (hi : ix < 256) (hge : ge < 18446744073709551616) (hmk : mk < 18446744073709551616) (hfs : fs < 18446744073709551616) (hT : TursIn w td tl T) (htl : ¬ 40 < tl) (hf1 : 1 < fs) :
    Calls Try.prog 5 #[.slice td tl tc, .int .u8 (ix : Int), .agg #[.bool true, .int .u64 (ge : Int), .int .u64 (mk : Int)], .int .u64 (fs : Int)] w (WorksIs w) := by
  have gt : ¬ (40 : Int) < (tl : Int) := by omega
  have HS := Lib.hid (fun wx => show Calls Try.prog 11 #[.int .u8 0, .int .u8 0] wx fun e w' => e = .returned (.agg #[.int .i64 1, .int .i64 2, .int .i64 2]) ∧ wx.grownBy w' none from Small_any 0 0 (by omega) (by omega) wx)
  obtain ⟨Z, hZe⟩ : ∃ Z, 280 + 208 * 1 + 16 * 2 + 8 * 2 = Z := ⟨_, rfl⟩
  have HIm := Lib.hid (fun wx Ps (h : Own w wx Ps) => ImageH 1 2 2 (by decide) td tl tc T w wx Ps h hT (by omega))
  rw [hZe] at HIm
  rw [show gv ((1 : Nat) : Int) ((2 : Nat) : Int) ((2 : Nat) : Int) = .agg #[.int .i64 1, .int .i64 2, .int .i64 2] from rfl] at HIm
  obtain ⟨a, Ha⟩ : ∃ a, Hid (a = ix % 4) := ⟨_, Lib.hid rfl⟩
  have ha4 : a < 4 := by rw [Ha.out]; omega
  have ea : (ix : Int) % 4 = (a : Int) := by rw [Ha.out]; omega
  obtain ⟨A, HA⟩ : ∃ A, Hid (A = 8 + 64 * a) := ⟨_, Lib.hid rfl⟩
  have hA : A + 64 ≤ Z := by rw [HA.out]; omega
  have hse : sessionV (a : Int) = (A : Int) := by unfold sessionV; rw [if_pos ⟨by omega, by omega⟩, HA.out]; omega
  have HRS := Lib.hid (fun wx => RSessionAt_any (a : Int) wx)
  rw [hse] at HRS
  have Hse := Lib.hid hse
  have hZ : Z ≤ 100000 := by omega
  clear hse hZe hT
  go_enter Try.func5, Try.ntmps5
  go_wp2_with fail
  obtain ⟨X, HX⟩ : ∃ X, Hid (X = w.heap.size) := ⟨_, Lib.hid rfl⟩
  have hO : Own w (w.alloc (.cells #[.bool true, .int .u64 (ge : Int), .int .u64 (mk : Int)] 38)) [boxP X 38 #[.bool true, .int .u64 (ge : Int), .int .u64 (mk : Int)]] := by rw [HX.out]; exact (Own.nil w).addBox _ _
  rw [← HX.out]
  refine (HS.out _).mono ?_
  rintro e w1 ⟨rfl, hg1⟩
  have hO := Lib.hid (hO.quiet hg1)
  clear hg1 HS
  go_wp2_with fail
  refine (HIm.out _ _ hO.out).mono ?_
  rintro e w2 ⟨YT, ad, cp, rfl, hYl, hYs, hO⟩
  have hO : Own w w2 [boxP X 38 #[.bool true, .int .u64 (ge : Int), .int .u64 (mk : Int)], rowP 36 1 (.slice ad Z cp) Z (YT.map wv)] := hO
  obtain ⟨q, rfl, cK, fK, _⟩ := Own.cell hO 1 rfl A (wv (YT.getD A 0)) (by rw [List.getElem?_map, List.getElem?_eq_getElem (by rw [hYl]; omega), List.getD_eq_getElem?_getD, List.getElem?_eq_getElem (by rw [hYl]; omega)]; rfl)
  clear cK fK HIm
  replace hO := Lib.hid hO
  have HYT := Lib.hid (And.intro hYl hYs)
  clear hYl hYs
  go_wp2_with fail
  refine (HRS.out _).mono ?_
  rintro e w3 ⟨rfl, hg⟩
  have hO := hO.out.quiet hg
  obtain ⟨q', he, cK, fK, _⟩ := Own.cell hO 1 rfl A (wv (YT.getD A 0)) (by rw [List.getElem?_map, List.getElem?_eq_getElem (by rw [HYT.out.1]; omega), List.getD_eq_getElem?_getD, List.getElem?_eq_getElem (by rw [HYT.out.1]; omega)]; rfl)
  cases he
  unfold wv at cK
  generalize YT.getD A 0 = U0 at cK
  have hO2 := hO.store 1 rfl A (wv fs)
  rw [← List.map_set] at hO2
  obtain ⟨YS, HYS⟩ : ∃ YS, Hid (YT.set A fs = YS) := ⟨_, Lib.hid rfl⟩
  rw [HYS.out] at hO2
  have hO2 : Own w (w3.setCell ⟨q, A, none⟩ (.int .u64 (fs : Int))) [boxP X 38 #[.bool true, .int .u64 (ge : Int), .int .u64 (mk : Int)], rowP 36 1 (.slice (some ⟨q, 0, none⟩) Z cp) Z (YS.map wv)] := hO2
  have hYl : YS.length = Z := by rw [← HYS.out, List.length_set]; exact HYT.out.1
  have hYs : ∀ n ∈ YS, n < 18446744073709551616 := by
    rw [← HYS.out]
    intro n hn
    rcases List.mem_or_eq_of_mem_set hn with h | h
    · exact HYT.out.2 n h
    · rw [h]; exact hfs
  have HYl := Lib.hid hYl
  have HYA : Hid (YS.getD A 0 = fs) := Lib.hid (by rw [← HYS.out]; exact getD_set_same YT A fs 0 (by rw [HYT.out.1]; omega))
  obtain ⟨hW, hnil, _⟩ := Own.words hO2 1 rfl hYs (by omega)
  have HNew := Lib.hid (NewH (some ⟨q, 0, none⟩) Z cp YS w _ _ hO2 hW (by omega) hnil)
  clear hO hO2 hg hW hnil hYl hYs
  have eA : (A : Int) < (Z : Int) := by omega
  go_wp2_with fail
  refine HNew.out.mono ?_
  rintro e w4 ⟨g, rfl, hO⟩
  have hO : Own w w4 [boxP X 38 #[.bool true, .int .u64 (ge : Int), .int .u64 (mk : Int)], rowP 36 1 (.slice (some ⟨q, 0, none⟩) Z cp) Z (YS.map wv), viewP g YS []] := hO
  clear cK fK HNew
  have HAX : Hid (0 ≤ (A : Int) ∧ (A : Int) + 64 ≤ (YS.length : Int)) := Lib.hid ⟨by omega, by rw [HYl.out]; omega⟩
  have HXm : Hid (YS.length ≤ 1000000) := Lib.hid (by rw [HYl.out]; omega)
  have HG0 : Hid (gotI YS [] (A : Int) = fs) := Lib.hid (by unfold gotI; rw [if_pos ⟨by omega, by rw [HYl.out]; omega⟩, Int.toNat_natCast]; exact HYA.out)
  have HGt := Lib.hid (GetBad 2 g YS [] (a : Int) (A : Int) fs w w4 _ hO rfl Hse.out HAX.out HXm.out HG0.out hf1)
  have dl : decide ((fs : Int) ≤ 1) = false := by simp; omega
  have dl' : ¬ (fs : Int) ≤ 1 := by omega
  have dn : ¬ fs ≤ 1 := by omega
  have hok := all_ok YS [1, ge, mk] [] A (by rw [HYl.out]; simp only [List.length_cons, List.length_nil]; omega) (by simp)
  have hrs : (List.range ([1, ge, mk] : List Nat).length).map (fun i => (((A + i : Nat) : Int), ([1, ge, mk] : List Nat).getD i 0)) = [((A : Int), 1), ((A : Int) + 1, ge), ((A : Int) + 2, mk)] := by
    simp [List.range, List.range.loop]
  rw [hrs] at hok
  obtain ⟨LL, HLe⟩ : ∃ LL, Hid (allL YS [] [((A : Int), 1), ((A : Int) + 1, ge), ((A : Int) + 2, mk)] = LL) := ⟨_, Lib.hid rfl⟩
  rw [HLe.out] at hok
  have HOk := Lib.hid hok
  have HLL : Hid (LL.length ≤ 3) := Lib.hid (by rw [← HLe.out]; have := allL_length YS [((A : Int), 1), ((A : Int) + 1, ge), ((A : Int) + 2, mk)] []; simpa using this)
  obtain ⟨Q, HQ⟩ : ∃ Q, Hid (Q = LL.length) := ⟨_, Lib.hid rfl⟩
  have hQ3 : (Q : Int) ≤ 3 := by have := HLL.out; rw [HQ.out]; omega
  have Hgot : Hid (∀ i, i < 3 → gotI YS LL ((A : Int) + ((i : Nat) : Int)) = [1, ge, mk].getD i 0) := Lib.hid (fun i hi => by
    have := HAX.out
    unfold gotI
    rw [if_pos ⟨by omega, by omega⟩, show ((A : Int) + (i : Int)).toNat = A + i from by omega, HOk.out.2 (A + i), if_pos ⟨by omega, by show A + i < A + 3; omega⟩, Nat.add_sub_cancel_left])
  have HOut : Hid (∀ j, (j < A ∨ A + 3 ≤ j) → gotV YS LL j = YS.getD j 0) := Lib.hid (fun j hj => by
    rw [HOk.out.2 j, if_neg (by show ¬ (A ≤ j ∧ j < A + 3); omega)]; rfl)
  have HP := Lib.hid (fun wx (hO : Own w wx [boxP X 38 #[.bool true, .int .u64 (ge : Int), .int .u64 (mk : Int)], rowP 36 1 (.slice (some ⟨q, 0, none⟩) Z cp) Z (YS.map wv), viewP g YS []]) => PutTrue 2 g YS [] (a : Int) (A : Int) ge mk w wx _ hO rfl Hse.out HAX.out HXm.out hge hmk)
  rw [HOk.out.1, HLe.out] at HP
  clear hok hrs hO HRS
  go_wp2_with fail
  refine HGt.out.mono ?_
  rintro e w5 ⟨rfl, hO⟩
  have hO := hO.quiet (World.grownBy_alloc w5 (.cells #[.bool false, .int .u64 0, .int .u64 0] 38) none)
  obtain ⟨x0, x1, x2⟩ := HeadS.cells (show HeadS X true ge mk _ from Own.box hO 0 rfl)
  replace hO := Lib.hid hO
  clear HGt
  go_wp2_with fail
  refine (HP.out _ hO.out).mono ?_
  rintro e w6 ⟨rfl, hO⟩
  have hO : Own w w6 [boxP X 38 #[.bool true, .int .u64 (ge : Int), .int .u64 (mk : Int)], rowP 36 1 (.slice (some ⟨q, 0, none⟩) Z cp) Z (YS.map wv), viewP g YS LL] := hO
  have HGt := Lib.hid (GetOk 2 g YS LL (a : Int) (A : Int) 1 ge mk true w w6 _ hO rfl Hse.out HAX.out HXm.out (by have := Hgot.out 0 (by decide); rw [show (A : Int) + ((0 : Nat) : Int) = (A : Int) from by simp] at this; exact this) (by decide) (by decide) (by exact Hgot.out 1 (by decide)) (by exact Hgot.out 2 (by decide)))
  clear x0 x1 x2 HP hO
  go_wp2_with fail
  refine HGt.out.mono ?_
  rintro e w7 ⟨rfl, hO⟩
  obtain ⟨Y, HY⟩ : ∃ Y, Hid (Y = w7.heap.size) := ⟨_, Lib.hid rfl⟩
  have hyb : (w7.alloc (.cells #[.bool true, .int .u64 (ge : Int), .int .u64 (mk : Int)] 38)).heap[Y]? = some (.cells #[.bool true, .int .u64 (ge : Int), .int .u64 (mk : Int)] 38 (0, 0)) := by rw [HY.out]; exact heap_alloc_new w7 _
  have hO := hO.quiet (World.grownBy_alloc w7 (.cells #[.bool true, .int .u64 (ge : Int), .int .u64 (mk : Int)] 38) none)
  have HFl := Lib.hid (FlatH 2 g YS LL w _ _ hO rfl)
  have HFg := Lib.hid (FlatG9 2 g YS LL w _ _ hO rfl)
  rw [HYl.out] at HFl HFg
  clear HGt hO HFl
  go_wp2_with fail
  rw [← HY.out]
  refine HFg.out.mono ?_
  rintro e w8 ⟨ad7, cp7, rfl, hO, hg8⟩
  have hO : Own w w8 [boxP X 38 #[.bool true, .int .u64 (ge : Int), .int .u64 (mk : Int)], rowP 36 1 (.slice (some ⟨q, 0, none⟩) Z cp) Z (YS.map wv), viewP g YS LL, rowP 36 1 (.slice ad7 Z cp7) Z ((flatV YS LL).map wv)] := hO
  have hyb := (hg8.block _ (lt_of_block hyb) (by simp)).trans hyb
  have HWl : Hid (Wl YS.length LL) := Lib.hid (Own.wl hO 2 rfl).1
  have HFlen : Hid ((flatV YS LL).length = Z) := Lib.hid (by rw [flatV_length]; exact HYl.out)
  have HGet : Hid (∀ j, j < Z → (j < A ∨ A + 3 ≤ j) → (flatV YS LL).getD j 0 = YS.getD j 0) := Lib.hid (fun j hj ho => by
    rw [Go.Grommet.flat_get HWl.out j (by rw [HYl.out]; exact hj)]; exact HOut.out j ho)
  replace hO := Lib.hid hO
  clear HFg hg8
  have eZ : ((Z : Int) == (Z : Int)) = true := by simp
  go_wp2_with fail
  go_loopw [18] (fun i wr => ∃ j : Nat, j ≤ Z ∧ i = .int .i64 (j : Int) ∧ wr.heap[Y]? = some (.cells #[.bool true, .int .u64 (ge : Int), .int .u64 (mk : Int)] 38 (0, 0)) ∧ Hid (Own w wr [boxP X 38 #[.bool true, .int .u64 (ge : Int), .int .u64 (mk : Int)], rowP 36 1 (.slice (some ⟨q, 0, none⟩) Z cp) Z (YS.map wv), viewP g YS LL, rowP 36 1 (.slice ad7 Z cp7) Z ((flatV YS LL).map wv)])) (fun i _ => Z - (intOf i).toNat)
  case atStart => exact ⟨0, Nat.zero_le _, rfl, hyb, hO⟩
  case round =>
    clear hO hyb
    obtain ⟨j, hj, rfl, hyb, hO⟩ := hrel
    have j0 : (0 : Int) ≤ (j : Int) := by omega
    have wA : IntKind.i64.wrap ((A : Int) + 3) = (A : Int) + 3 := IntWalk.i64_in _ ⟨by omega, by omega⟩
    by_cases hlt : j < Z
    · have hlt' : (j : Int) < (Z : Int) := by omega
      have HB2 := Lib.hid (fun n => (grown_drewN wr n none).block Y (lt_of_block hyb) (by simp) |>.trans hyb)
      obtain ⟨q1, rfl, c1, _, _⟩ := Own.word hO.out 3 rfl HFlen.out j hlt
      obtain ⟨q2, he2, c2, _, _⟩ := Own.word hO.out 1 rfl HYl.out j hlt
      cases he2
      clear hyb
      by_cases ho : j < A ∨ A + 3 ≤ j
      · rw [HGet.out j hlt ho] at c1
        generalize YS.getD j 0 = U at c1 c2
        have eU : ((U : Int) != (U : Int)) = false := by simp
        by_cases hA1 : j < A
        · have dA' : (j : Int) < (A : Int) := by omega
          clear ho
          go_wp2_with fail
          go_quiet (fail)
          go_wp2
          go_roundw
          case rel => exact ⟨j + 1, by omega, by go_num, HB2.out _, Lib.hid (hO.out.quiet (grown_drewN _ _ _))⟩
          case measure => simp [intOf]; omega
        · have dA' : ¬ (j : Int) < (A : Int) := by omega
          have dB' : (A : Int) + 3 ≤ (j : Int) := by omega
          have n2 : A + 3 ≤ j := by omega
          clear ho
          go_wp2_with fail
          go_quiet (fail)
          go_wp2
          go_roundw
          case rel => exact ⟨j + 1, by omega, by go_num, HB2.out _, Lib.hid (hO.out.quiet (grown_drewN _ _ _))⟩
          case measure => simp [intOf]; omega
      · generalize YS.getD j 0 = U at c2
        generalize (flatV YS LL).getD j 0 = U2 at c1
        have dA' : ¬ (j : Int) < (A : Int) := by omega
        have dB' : ¬ (A : Int) + 3 ≤ (j : Int) := by omega
        have n1 : ¬ j < A := by omega
        have n2 : ¬ A + 3 ≤ j := by omega
        have dA : decide ((j : Int) < (A : Int)) = false := by simp; omega
        have dB : decide ((A : Int) + 3 ≤ (j : Int)) = false := by simp; omega
        clear ho
        go_wp2_with fail
        go_quiet (fail)
        go_wp2
        go_roundw
        case rel => exact ⟨j + 1, by omega, by go_num, HB2.out _, Lib.hid (hO.out.quiet (grown_drewN _ _ _))⟩
        case measure => simp [intOf]; omega
    · have hlt' : ¬ (j : Int) < (Z : Int) := by omega
      obtain ⟨x0, x1, x2⟩ := HeadS.cells (show HeadS X true ge mk _ from Own.box hO.out 0 rfl)
      obtain ⟨y0, y1, y2⟩ := HeadS.cells (show HeadS Y true ge mk wr from hyb)
      have HWr := Lib.hid (WritesH 2 g YS LL w wr _ hO.out rfl)
      rw [← HQ.out] at HWr
      have heq : ∀ wx : World, (binOp .eql 38 (.agg #[.bool true, .int .u64 (ge : Int), .int .u64 (mk : Int)]) (.agg #[.bool true, .int .u64 (ge : Int), .int .u64 (mk : Int)])).run Try.prog wx = .ok (.bool true) wx := head_same true ge mk
      clear hyb hO
      go_wp2_with fail
      refine HWr.out.mono ?_
      rintro e w9 ⟨ad6, cp6, rfl, hO⟩
      have hgw := Lib.hid hO.grown
      clear hO HWr x0 x1 x2 y0 y1 y2
      go_wp2_with fail
      refine (works_any _).mono ?_
      rintro e w15 ⟨rfl, hg⟩
      go_wp2
      go_ret
      exact ⟨rfl, grown_trans hgw.out hg⟩

set_option maxRecDepth 100000 in
set_option maxHeartbeats 8000000 in
theorem walk_false_few (ix ge mk fs : Nat) (td : Option Addr) (tl tc : Nat) (T : List Tur) (w : World) (hi : ix < 256) (hge : ge < 18446744073709551616) (hmk : mk < 18446744073709551616) (hfs : fs < 18446744073709551616) (hT : TursIn w td tl T) (htl : ¬ 40 < tl) (hf1 : fs ≤ 1) :
    Calls Try.prog 5 #[.slice td tl tc, .int .u8 (ix : Int), .agg #[.bool false, .int .u64 (ge : Int), .int .u64 (mk : Int)], .int .u64 (fs : Int)] w (WorksIs w) := by
  have gt : ¬ (40 : Int) < (tl : Int) := by omega
  have HS := Lib.hid (fun wx => show Calls Try.prog 11 #[.int .u8 0, .int .u8 0] wx fun e w' => e = .returned (.agg #[.int .i64 1, .int .i64 2, .int .i64 2]) ∧ wx.grownBy w' none from Small_any 0 0 (by omega) (by omega) wx)
  obtain ⟨Z, hZe⟩ : ∃ Z, 280 + 208 * 1 + 16 * 2 + 8 * 2 = Z := ⟨_, rfl⟩
  have HIm := Lib.hid (fun wx Ps (h : Own w wx Ps) => ImageH 1 2 2 (by decide) td tl tc T w wx Ps h hT (by omega))
  rw [hZe] at HIm
  rw [show gv ((1 : Nat) : Int) ((2 : Nat) : Int) ((2 : Nat) : Int) = .agg #[.int .i64 1, .int .i64 2, .int .i64 2] from rfl] at HIm
  obtain ⟨a, Ha⟩ : ∃ a, Hid (a = ix % 4) := ⟨_, Lib.hid rfl⟩
  have ha4 : a < 4 := by rw [Ha.out]; omega
  have ea : (ix : Int) % 4 = (a : Int) := by rw [Ha.out]; omega
  obtain ⟨A, HA⟩ : ∃ A, Hid (A = 8 + 64 * a) := ⟨_, Lib.hid rfl⟩
  have hA : A + 64 ≤ Z := by rw [HA.out]; omega
  have hse : sessionV (a : Int) = (A : Int) := by unfold sessionV; rw [if_pos ⟨by omega, by omega⟩, HA.out]; omega
  have HRS := Lib.hid (fun wx => RSessionAt_any (a : Int) wx)
  rw [hse] at HRS
  have Hse := Lib.hid hse
  have hZ : Z ≤ 100000 := by omega
  clear hse hZe hT
  go_enter Try.func5, Try.ntmps5
  go_wp2_with fail
  obtain ⟨X, HX⟩ : ∃ X, Hid (X = w.heap.size) := ⟨_, Lib.hid rfl⟩
  have hO : Own w (w.alloc (.cells #[.bool false, .int .u64 (ge : Int), .int .u64 (mk : Int)] 38)) [boxP X 38 #[.bool false, .int .u64 (ge : Int), .int .u64 (mk : Int)]] := by rw [HX.out]; exact (Own.nil w).addBox _ _
  rw [← HX.out]
  refine (HS.out _).mono ?_
  rintro e w1 ⟨rfl, hg1⟩
  have hO := Lib.hid (hO.quiet hg1)
  clear hg1 HS
  go_wp2_with fail
  refine (HIm.out _ _ hO.out).mono ?_
  rintro e w2 ⟨YT, ad, cp, rfl, hYl, hYs, hO⟩
  have hO : Own w w2 [boxP X 38 #[.bool false, .int .u64 (ge : Int), .int .u64 (mk : Int)], rowP 36 1 (.slice ad Z cp) Z (YT.map wv)] := hO
  obtain ⟨q, rfl, cK, fK, _⟩ := Own.cell hO 1 rfl A (wv (YT.getD A 0)) (by rw [List.getElem?_map, List.getElem?_eq_getElem (by rw [hYl]; omega), List.getD_eq_getElem?_getD, List.getElem?_eq_getElem (by rw [hYl]; omega)]; rfl)
  clear cK fK HIm
  replace hO := Lib.hid hO
  have HYT := Lib.hid (And.intro hYl hYs)
  clear hYl hYs
  go_wp2_with fail
  refine (HRS.out _).mono ?_
  rintro e w3 ⟨rfl, hg⟩
  have hO := hO.out.quiet hg
  obtain ⟨q', he, cK, fK, _⟩ := Own.cell hO 1 rfl A (wv (YT.getD A 0)) (by rw [List.getElem?_map, List.getElem?_eq_getElem (by rw [HYT.out.1]; omega), List.getD_eq_getElem?_getD, List.getElem?_eq_getElem (by rw [HYT.out.1]; omega)]; rfl)
  cases he
  unfold wv at cK
  generalize YT.getD A 0 = U0 at cK
  have hO2 := hO.store 1 rfl A (wv fs)
  rw [← List.map_set] at hO2
  obtain ⟨YS, HYS⟩ : ∃ YS, Hid (YT.set A fs = YS) := ⟨_, Lib.hid rfl⟩
  rw [HYS.out] at hO2
  have hO2 : Own w (w3.setCell ⟨q, A, none⟩ (.int .u64 (fs : Int))) [boxP X 38 #[.bool false, .int .u64 (ge : Int), .int .u64 (mk : Int)], rowP 36 1 (.slice (some ⟨q, 0, none⟩) Z cp) Z (YS.map wv)] := hO2
  have hYl : YS.length = Z := by rw [← HYS.out, List.length_set]; exact HYT.out.1
  have hYs : ∀ n ∈ YS, n < 18446744073709551616 := by
    rw [← HYS.out]
    intro n hn
    rcases List.mem_or_eq_of_mem_set hn with h | h
    · exact HYT.out.2 n h
    · rw [h]; exact hfs
  have HYl := Lib.hid hYl
  have HYA : Hid (YS.getD A 0 = fs) := Lib.hid (by rw [← HYS.out]; exact getD_set_same YT A fs 0 (by rw [HYT.out.1]; omega))
  obtain ⟨hW, hnil, _⟩ := Own.words hO2 1 rfl hYs (by omega)
  have HNew := Lib.hid (NewH (some ⟨q, 0, none⟩) Z cp YS w _ _ hO2 hW (by omega) hnil)
  clear hO hO2 hg hW hnil hYl hYs
  have eA : (A : Int) < (Z : Int) := by omega
  go_wp2_with fail
  refine HNew.out.mono ?_
  rintro e w4 ⟨g, rfl, hO⟩
  have hO : Own w w4 [boxP X 38 #[.bool false, .int .u64 (ge : Int), .int .u64 (mk : Int)], rowP 36 1 (.slice (some ⟨q, 0, none⟩) Z cp) Z (YS.map wv), viewP g YS []] := hO
  clear cK fK HNew
  have HAX : Hid (0 ≤ (A : Int) ∧ (A : Int) + 64 ≤ (YS.length : Int)) := Lib.hid ⟨by omega, by rw [HYl.out]; omega⟩
  have HXm : Hid (YS.length ≤ 1000000) := Lib.hid (by rw [HYl.out]; omega)
  have HG0 : Hid (gotI YS [] (A : Int) = fs) := Lib.hid (by unfold gotI; rw [if_pos ⟨by omega, by rw [HYl.out]; omega⟩, Int.toNat_natCast]; exact HYA.out)
  obtain ⟨o1, Ho1⟩ : ∃ o1, ((fs : Int) == 1) = o1 := ⟨_, rfl⟩
  obtain ⟨ge0, Hge0⟩ : ∃ v, gotI YS [] ((A : Int) + 1) = v := ⟨_, rfl⟩
  obtain ⟨mk0, Hmk0⟩ : ∃ v, gotI YS [] ((A : Int) + 2) = v := ⟨_, rfl⟩
  have HGt := Lib.hid (GetOk 2 g YS [] (a : Int) (A : Int) fs ge0 mk0 o1 w w4 _ hO rfl Hse.out HAX.out HXm.out HG0.out Ho1 hf1 Hge0 Hmk0)
  clear Ho1 Hge0 Hmk0
  have dl : decide ((fs : Int) ≤ 1) = true := by simp; omega
  have dl' : (fs : Int) ≤ 1 := by omega
  have hok := all_ok YS [0, ge, mk] [] A (by rw [HYl.out]; simp only [List.length_cons, List.length_nil]; omega) (by simp)
  have hrs : (List.range ([0, ge, mk] : List Nat).length).map (fun i => (((A + i : Nat) : Int), ([0, ge, mk] : List Nat).getD i 0)) = [((A : Int), 0), ((A : Int) + 1, ge), ((A : Int) + 2, mk)] := by
    simp [List.range, List.range.loop]
  rw [hrs] at hok
  obtain ⟨LL, HLe⟩ : ∃ LL, Hid (allL YS [] [((A : Int), 0), ((A : Int) + 1, ge), ((A : Int) + 2, mk)] = LL) := ⟨_, Lib.hid rfl⟩
  rw [HLe.out] at hok
  have HOk := Lib.hid hok
  have HLL : Hid (LL.length ≤ 3) := Lib.hid (by rw [← HLe.out]; have := allL_length YS [((A : Int), 0), ((A : Int) + 1, ge), ((A : Int) + 2, mk)] []; simpa using this)
  obtain ⟨Q, HQ⟩ : ∃ Q, Hid (Q = LL.length) := ⟨_, Lib.hid rfl⟩
  have hQ3 : (Q : Int) ≤ 3 := by have := HLL.out; rw [HQ.out]; omega
  have Hgot : Hid (∀ i, i < 3 → gotI YS LL ((A : Int) + ((i : Nat) : Int)) = [0, ge, mk].getD i 0) := Lib.hid (fun i hi => by
    have := HAX.out
    unfold gotI
    rw [if_pos ⟨by omega, by omega⟩, show ((A : Int) + (i : Int)).toNat = A + i from by omega, HOk.out.2 (A + i), if_pos ⟨by omega, by show A + i < A + 3; omega⟩, Nat.add_sub_cancel_left])
  have HOut : Hid (∀ j, (j < A ∨ A + 3 ≤ j) → gotV YS LL j = YS.getD j 0) := Lib.hid (fun j hj => by
    rw [HOk.out.2 j, if_neg (by show ¬ (A ≤ j ∧ j < A + 3); omega)]; rfl)
  have HP := Lib.hid (fun wx (hO : Own w wx [boxP X 38 #[.bool false, .int .u64 (ge : Int), .int .u64 (mk : Int)], rowP 36 1 (.slice (some ⟨q, 0, none⟩) Z cp) Z (YS.map wv), viewP g YS []]) => PutFalse 2 g YS [] (a : Int) (A : Int) ge mk w wx _ hO rfl Hse.out HAX.out HXm.out hge hmk)
  rw [HOk.out.1, HLe.out] at HP
  clear hok hrs hO HRS
  go_wp2_with fail
  refine HGt.out.mono ?_
  rintro e w5 ⟨rfl, hO⟩
  have hO := hO.quiet (World.grownBy_alloc w5 (.cells #[.bool o1, .int .u64 (ge0 : Int), .int .u64 (mk0 : Int)] 38) none)
  obtain ⟨x0, x1, x2⟩ := HeadS.cells (show HeadS X false ge mk _ from Own.box hO 0 rfl)
  replace hO := Lib.hid hO
  clear HGt
  go_wp2_with fail
  refine (HP.out _ hO.out).mono ?_
  rintro e w6 ⟨rfl, hO⟩
  have hO : Own w w6 [boxP X 38 #[.bool false, .int .u64 (ge : Int), .int .u64 (mk : Int)], rowP 36 1 (.slice (some ⟨q, 0, none⟩) Z cp) Z (YS.map wv), viewP g YS LL] := hO
  have HGt := Lib.hid (GetOk 2 g YS LL (a : Int) (A : Int) 0 ge mk false w w6 _ hO rfl Hse.out HAX.out HXm.out (by have := Hgot.out 0 (by decide); rw [show (A : Int) + ((0 : Nat) : Int) = (A : Int) from by simp] at this; exact this) (by decide) (by decide) (by exact Hgot.out 1 (by decide)) (by exact Hgot.out 2 (by decide)))
  clear x0 x1 x2 HP hO
  go_wp2_with fail
  refine HGt.out.mono ?_
  rintro e w7 ⟨rfl, hO⟩
  obtain ⟨Y, HY⟩ : ∃ Y, Hid (Y = w7.heap.size) := ⟨_, Lib.hid rfl⟩
  have hyb : (w7.alloc (.cells #[.bool false, .int .u64 (ge : Int), .int .u64 (mk : Int)] 38)).heap[Y]? = some (.cells #[.bool false, .int .u64 (ge : Int), .int .u64 (mk : Int)] 38 (0, 0)) := by rw [HY.out]; exact heap_alloc_new w7 _
  have hO := hO.quiet (World.grownBy_alloc w7 (.cells #[.bool false, .int .u64 (ge : Int), .int .u64 (mk : Int)] 38) none)
  have HFl := Lib.hid (FlatH 2 g YS LL w _ _ hO rfl)
  have HFg := Lib.hid (FlatG9 2 g YS LL w _ _ hO rfl)
  rw [HYl.out] at HFl HFg
  clear HGt hO HFl
  go_wp2_with fail
  rw [← HY.out]
  refine HFg.out.mono ?_
  rintro e w8 ⟨ad7, cp7, rfl, hO, hg8⟩
  have hO : Own w w8 [boxP X 38 #[.bool false, .int .u64 (ge : Int), .int .u64 (mk : Int)], rowP 36 1 (.slice (some ⟨q, 0, none⟩) Z cp) Z (YS.map wv), viewP g YS LL, rowP 36 1 (.slice ad7 Z cp7) Z ((flatV YS LL).map wv)] := hO
  have hyb := (hg8.block _ (lt_of_block hyb) (by simp)).trans hyb
  have HWl : Hid (Wl YS.length LL) := Lib.hid (Own.wl hO 2 rfl).1
  have HFlen : Hid ((flatV YS LL).length = Z) := Lib.hid (by rw [flatV_length]; exact HYl.out)
  have HGet : Hid (∀ j, j < Z → (j < A ∨ A + 3 ≤ j) → (flatV YS LL).getD j 0 = YS.getD j 0) := Lib.hid (fun j hj ho => by
    rw [Go.Grommet.flat_get HWl.out j (by rw [HYl.out]; exact hj)]; exact HOut.out j ho)
  replace hO := Lib.hid hO
  clear HFg hg8
  have eZ : ((Z : Int) == (Z : Int)) = true := by simp
  go_wp2_with fail
  go_loopw [18] (fun i wr => ∃ j : Nat, j ≤ Z ∧ i = .int .i64 (j : Int) ∧ wr.heap[Y]? = some (.cells #[.bool false, .int .u64 (ge : Int), .int .u64 (mk : Int)] 38 (0, 0)) ∧ Hid (Own w wr [boxP X 38 #[.bool false, .int .u64 (ge : Int), .int .u64 (mk : Int)], rowP 36 1 (.slice (some ⟨q, 0, none⟩) Z cp) Z (YS.map wv), viewP g YS LL, rowP 36 1 (.slice ad7 Z cp7) Z ((flatV YS LL).map wv)])) (fun i _ => Z - (intOf i).toNat)
  case atStart => exact ⟨0, Nat.zero_le _, rfl, hyb, hO⟩
  case round =>
    clear hO hyb
    obtain ⟨j, hj, rfl, hyb, hO⟩ := hrel
    have j0 : (0 : Int) ≤ (j : Int) := by omega
    have wA : IntKind.i64.wrap ((A : Int) + 3) = (A : Int) + 3 := IntWalk.i64_in _ ⟨by omega, by omega⟩
    by_cases hlt : j < Z
    · have hlt' : (j : Int) < (Z : Int) := by omega
      have HB2 := Lib.hid (fun n => (grown_drewN wr n none).block Y (lt_of_block hyb) (by simp) |>.trans hyb)
      obtain ⟨q1, rfl, c1, _, _⟩ := Own.word hO.out 3 rfl HFlen.out j hlt
      obtain ⟨q2, he2, c2, _, _⟩ := Own.word hO.out 1 rfl HYl.out j hlt
      cases he2
      clear hyb
      by_cases ho : j < A ∨ A + 3 ≤ j
      · rw [HGet.out j hlt ho] at c1
        generalize YS.getD j 0 = U at c1 c2
        have eU : ((U : Int) != (U : Int)) = false := by simp
        by_cases hA1 : j < A
        · have dA' : (j : Int) < (A : Int) := by omega
          clear ho
          go_wp2_with fail
          go_quiet (fail)
          go_wp2
          go_roundw
          case rel => exact ⟨j + 1, by omega, by go_num, HB2.out _, Lib.hid (hO.out.quiet (grown_drewN _ _ _))⟩
          case measure => simp [intOf]; omega
        · have dA' : ¬ (j : Int) < (A : Int) := by omega
          have dB' : (A : Int) + 3 ≤ (j : Int) := by omega
          have n2 : A + 3 ≤ j := by omega
          clear ho
          go_wp2_with fail
          go_quiet (fail)
          go_wp2
          go_roundw
          case rel => exact ⟨j + 1, by omega, by go_num, HB2.out _, Lib.hid (hO.out.quiet (grown_drewN _ _ _))⟩
          case measure => simp [intOf]; omega
      · generalize YS.getD j 0 = U at c2
        generalize (flatV YS LL).getD j 0 = U2 at c1
        have dA' : ¬ (j : Int) < (A : Int) := by omega
        have dB' : ¬ (A : Int) + 3 ≤ (j : Int) := by omega
        have n1 : ¬ j < A := by omega
        have n2 : ¬ A + 3 ≤ j := by omega
        have dA : decide ((j : Int) < (A : Int)) = false := by simp; omega
        have dB : decide ((A : Int) + 3 ≤ (j : Int)) = false := by simp; omega
        clear ho
        go_wp2_with fail
        go_quiet (fail)
        go_wp2
        go_roundw
        case rel => exact ⟨j + 1, by omega, by go_num, HB2.out _, Lib.hid (hO.out.quiet (grown_drewN _ _ _))⟩
        case measure => simp [intOf]; omega
    · have hlt' : ¬ (j : Int) < (Z : Int) := by omega
      obtain ⟨x0, x1, x2⟩ := HeadS.cells (show HeadS X false ge mk _ from Own.box hO.out 0 rfl)
      obtain ⟨y0, y1, y2⟩ := HeadS.cells (show HeadS Y false ge mk wr from hyb)
      have HWr := Lib.hid (WritesH 2 g YS LL w wr _ hO.out rfl)
      rw [← HQ.out] at HWr
      have heq : ∀ wx : World, (binOp .eql 38 (.agg #[.bool false, .int .u64 (ge : Int), .int .u64 (mk : Int)]) (.agg #[.bool false, .int .u64 (ge : Int), .int .u64 (mk : Int)])).run Try.prog wx = .ok (.bool true) wx := head_same false ge mk
      clear hyb hO
      go_wp2_with fail
      refine HWr.out.mono ?_
      rintro e w9 ⟨ad6, cp6, rfl, hO⟩
      have hgw := Lib.hid hO.grown
      clear hO HWr x0 x1 x2 y0 y1 y2
      go_wp2_with fail
      refine (works_any _).mono ?_
      rintro e w15 ⟨rfl, hg⟩
      go_wp2
      go_ret
      exact ⟨rfl, grown_trans hgw.out hg⟩

set_option maxRecDepth 100000 in
set_option maxHeartbeats 8000000 in
theorem walk_false_big (ix ge mk fs : Nat) (td : Option Addr) (tl tc : Nat) (T : List Tur) (w : World) (hi : ix < 256) (hge : ge < 18446744073709551616) (hmk : mk < 18446744073709551616) (hfs : fs < 18446744073709551616) (hT : TursIn w td tl T) (htl : ¬ 40 < tl) (hf1 : 1 < fs) :
    Calls Try.prog 5 #[.slice td tl tc, .int .u8 (ix : Int), .agg #[.bool false, .int .u64 (ge : Int), .int .u64 (mk : Int)], .int .u64 (fs : Int)] w (WorksIs w) := by
  have gt : ¬ (40 : Int) < (tl : Int) := by omega
  have HS := Lib.hid (fun wx => show Calls Try.prog 11 #[.int .u8 0, .int .u8 0] wx fun e w' => e = .returned (.agg #[.int .i64 1, .int .i64 2, .int .i64 2]) ∧ wx.grownBy w' none from Small_any 0 0 (by omega) (by omega) wx)
  obtain ⟨Z, hZe⟩ : ∃ Z, 280 + 208 * 1 + 16 * 2 + 8 * 2 = Z := ⟨_, rfl⟩
  have HIm := Lib.hid (fun wx Ps (h : Own w wx Ps) => ImageH 1 2 2 (by decide) td tl tc T w wx Ps h hT (by omega))
  rw [hZe] at HIm
  rw [show gv ((1 : Nat) : Int) ((2 : Nat) : Int) ((2 : Nat) : Int) = .agg #[.int .i64 1, .int .i64 2, .int .i64 2] from rfl] at HIm
  obtain ⟨a, Ha⟩ : ∃ a, Hid (a = ix % 4) := ⟨_, Lib.hid rfl⟩
  have ha4 : a < 4 := by rw [Ha.out]; omega
  have ea : (ix : Int) % 4 = (a : Int) := by rw [Ha.out]; omega
  obtain ⟨A, HA⟩ : ∃ A, Hid (A = 8 + 64 * a) := ⟨_, Lib.hid rfl⟩
  have hA : A + 64 ≤ Z := by rw [HA.out]; omega
  have hse : sessionV (a : Int) = (A : Int) := by unfold sessionV; rw [if_pos ⟨by omega, by omega⟩, HA.out]; omega
  have HRS := Lib.hid (fun wx => RSessionAt_any (a : Int) wx)
  rw [hse] at HRS
  have Hse := Lib.hid hse
  have hZ : Z ≤ 100000 := by omega
  clear hse hZe hT
  go_enter Try.func5, Try.ntmps5
  go_wp2_with fail
  obtain ⟨X, HX⟩ : ∃ X, Hid (X = w.heap.size) := ⟨_, Lib.hid rfl⟩
  have hO : Own w (w.alloc (.cells #[.bool false, .int .u64 (ge : Int), .int .u64 (mk : Int)] 38)) [boxP X 38 #[.bool false, .int .u64 (ge : Int), .int .u64 (mk : Int)]] := by rw [HX.out]; exact (Own.nil w).addBox _ _
  rw [← HX.out]
  refine (HS.out _).mono ?_
  rintro e w1 ⟨rfl, hg1⟩
  have hO := Lib.hid (hO.quiet hg1)
  clear hg1 HS
  go_wp2_with fail
  refine (HIm.out _ _ hO.out).mono ?_
  rintro e w2 ⟨YT, ad, cp, rfl, hYl, hYs, hO⟩
  have hO : Own w w2 [boxP X 38 #[.bool false, .int .u64 (ge : Int), .int .u64 (mk : Int)], rowP 36 1 (.slice ad Z cp) Z (YT.map wv)] := hO
  obtain ⟨q, rfl, cK, fK, _⟩ := Own.cell hO 1 rfl A (wv (YT.getD A 0)) (by rw [List.getElem?_map, List.getElem?_eq_getElem (by rw [hYl]; omega), List.getD_eq_getElem?_getD, List.getElem?_eq_getElem (by rw [hYl]; omega)]; rfl)
  clear cK fK HIm
  replace hO := Lib.hid hO
  have HYT := Lib.hid (And.intro hYl hYs)
  clear hYl hYs
  go_wp2_with fail
  refine (HRS.out _).mono ?_
  rintro e w3 ⟨rfl, hg⟩
  have hO := hO.out.quiet hg
  obtain ⟨q', he, cK, fK, _⟩ := Own.cell hO 1 rfl A (wv (YT.getD A 0)) (by rw [List.getElem?_map, List.getElem?_eq_getElem (by rw [HYT.out.1]; omega), List.getD_eq_getElem?_getD, List.getElem?_eq_getElem (by rw [HYT.out.1]; omega)]; rfl)
  cases he
  unfold wv at cK
  generalize YT.getD A 0 = U0 at cK
  have hO2 := hO.store 1 rfl A (wv fs)
  rw [← List.map_set] at hO2
  obtain ⟨YS, HYS⟩ : ∃ YS, Hid (YT.set A fs = YS) := ⟨_, Lib.hid rfl⟩
  rw [HYS.out] at hO2
  have hO2 : Own w (w3.setCell ⟨q, A, none⟩ (.int .u64 (fs : Int))) [boxP X 38 #[.bool false, .int .u64 (ge : Int), .int .u64 (mk : Int)], rowP 36 1 (.slice (some ⟨q, 0, none⟩) Z cp) Z (YS.map wv)] := hO2
  have hYl : YS.length = Z := by rw [← HYS.out, List.length_set]; exact HYT.out.1
  have hYs : ∀ n ∈ YS, n < 18446744073709551616 := by
    rw [← HYS.out]
    intro n hn
    rcases List.mem_or_eq_of_mem_set hn with h | h
    · exact HYT.out.2 n h
    · rw [h]; exact hfs
  have HYl := Lib.hid hYl
  have HYA : Hid (YS.getD A 0 = fs) := Lib.hid (by rw [← HYS.out]; exact getD_set_same YT A fs 0 (by rw [HYT.out.1]; omega))
  obtain ⟨hW, hnil, _⟩ := Own.words hO2 1 rfl hYs (by omega)
  have HNew := Lib.hid (NewH (some ⟨q, 0, none⟩) Z cp YS w _ _ hO2 hW (by omega) hnil)
  clear hO hO2 hg hW hnil hYl hYs
  have eA : (A : Int) < (Z : Int) := by omega
  go_wp2_with fail
  refine HNew.out.mono ?_
  rintro e w4 ⟨g, rfl, hO⟩
  have hO : Own w w4 [boxP X 38 #[.bool false, .int .u64 (ge : Int), .int .u64 (mk : Int)], rowP 36 1 (.slice (some ⟨q, 0, none⟩) Z cp) Z (YS.map wv), viewP g YS []] := hO
  clear cK fK HNew
  have HAX : Hid (0 ≤ (A : Int) ∧ (A : Int) + 64 ≤ (YS.length : Int)) := Lib.hid ⟨by omega, by rw [HYl.out]; omega⟩
  have HXm : Hid (YS.length ≤ 1000000) := Lib.hid (by rw [HYl.out]; omega)
  have HG0 : Hid (gotI YS [] (A : Int) = fs) := Lib.hid (by unfold gotI; rw [if_pos ⟨by omega, by rw [HYl.out]; omega⟩, Int.toNat_natCast]; exact HYA.out)
  have HGt := Lib.hid (GetBad 2 g YS [] (a : Int) (A : Int) fs w w4 _ hO rfl Hse.out HAX.out HXm.out HG0.out hf1)
  have dl : decide ((fs : Int) ≤ 1) = false := by simp; omega
  have dl' : ¬ (fs : Int) ≤ 1 := by omega
  have dn : ¬ fs ≤ 1 := by omega
  have hok := all_ok YS [0, ge, mk] [] A (by rw [HYl.out]; simp only [List.length_cons, List.length_nil]; omega) (by simp)
  have hrs : (List.range ([0, ge, mk] : List Nat).length).map (fun i => (((A + i : Nat) : Int), ([0, ge, mk] : List Nat).getD i 0)) = [((A : Int), 0), ((A : Int) + 1, ge), ((A : Int) + 2, mk)] := by
    simp [List.range, List.range.loop]
  rw [hrs] at hok
  obtain ⟨LL, HLe⟩ : ∃ LL, Hid (allL YS [] [((A : Int), 0), ((A : Int) + 1, ge), ((A : Int) + 2, mk)] = LL) := ⟨_, Lib.hid rfl⟩
  rw [HLe.out] at hok
  have HOk := Lib.hid hok
  have HLL : Hid (LL.length ≤ 3) := Lib.hid (by rw [← HLe.out]; have := allL_length YS [((A : Int), 0), ((A : Int) + 1, ge), ((A : Int) + 2, mk)] []; simpa using this)
  obtain ⟨Q, HQ⟩ : ∃ Q, Hid (Q = LL.length) := ⟨_, Lib.hid rfl⟩
  have hQ3 : (Q : Int) ≤ 3 := by have := HLL.out; rw [HQ.out]; omega
  have Hgot : Hid (∀ i, i < 3 → gotI YS LL ((A : Int) + ((i : Nat) : Int)) = [0, ge, mk].getD i 0) := Lib.hid (fun i hi => by
    have := HAX.out
    unfold gotI
    rw [if_pos ⟨by omega, by omega⟩, show ((A : Int) + (i : Int)).toNat = A + i from by omega, HOk.out.2 (A + i), if_pos ⟨by omega, by show A + i < A + 3; omega⟩, Nat.add_sub_cancel_left])
  have HOut : Hid (∀ j, (j < A ∨ A + 3 ≤ j) → gotV YS LL j = YS.getD j 0) := Lib.hid (fun j hj => by
    rw [HOk.out.2 j, if_neg (by show ¬ (A ≤ j ∧ j < A + 3); omega)]; rfl)
  have HP := Lib.hid (fun wx (hO : Own w wx [boxP X 38 #[.bool false, .int .u64 (ge : Int), .int .u64 (mk : Int)], rowP 36 1 (.slice (some ⟨q, 0, none⟩) Z cp) Z (YS.map wv), viewP g YS []]) => PutFalse 2 g YS [] (a : Int) (A : Int) ge mk w wx _ hO rfl Hse.out HAX.out HXm.out hge hmk)
  rw [HOk.out.1, HLe.out] at HP
  clear hok hrs hO HRS
  go_wp2_with fail
  refine HGt.out.mono ?_
  rintro e w5 ⟨rfl, hO⟩
  have hO := hO.quiet (World.grownBy_alloc w5 (.cells #[.bool false, .int .u64 0, .int .u64 0] 38) none)
  obtain ⟨x0, x1, x2⟩ := HeadS.cells (show HeadS X false ge mk _ from Own.box hO 0 rfl)
  replace hO := Lib.hid hO
  clear HGt
  go_wp2_with fail
  refine (HP.out _ hO.out).mono ?_
  rintro e w6 ⟨rfl, hO⟩
  have hO : Own w w6 [boxP X 38 #[.bool false, .int .u64 (ge : Int), .int .u64 (mk : Int)], rowP 36 1 (.slice (some ⟨q, 0, none⟩) Z cp) Z (YS.map wv), viewP g YS LL] := hO
  have HGt := Lib.hid (GetOk 2 g YS LL (a : Int) (A : Int) 0 ge mk false w w6 _ hO rfl Hse.out HAX.out HXm.out (by have := Hgot.out 0 (by decide); rw [show (A : Int) + ((0 : Nat) : Int) = (A : Int) from by simp] at this; exact this) (by decide) (by decide) (by exact Hgot.out 1 (by decide)) (by exact Hgot.out 2 (by decide)))
  clear x0 x1 x2 HP hO
  go_wp2_with fail
  refine HGt.out.mono ?_
  rintro e w7 ⟨rfl, hO⟩
  obtain ⟨Y, HY⟩ : ∃ Y, Hid (Y = w7.heap.size) := ⟨_, Lib.hid rfl⟩
  have hyb : (w7.alloc (.cells #[.bool false, .int .u64 (ge : Int), .int .u64 (mk : Int)] 38)).heap[Y]? = some (.cells #[.bool false, .int .u64 (ge : Int), .int .u64 (mk : Int)] 38 (0, 0)) := by rw [HY.out]; exact heap_alloc_new w7 _
  have hO := hO.quiet (World.grownBy_alloc w7 (.cells #[.bool false, .int .u64 (ge : Int), .int .u64 (mk : Int)] 38) none)
  have HFl := Lib.hid (FlatH 2 g YS LL w _ _ hO rfl)
  have HFg := Lib.hid (FlatG9 2 g YS LL w _ _ hO rfl)
  rw [HYl.out] at HFl HFg
  clear HGt hO HFl
  go_wp2_with fail
  rw [← HY.out]
  refine HFg.out.mono ?_
  rintro e w8 ⟨ad7, cp7, rfl, hO, hg8⟩
  have hO : Own w w8 [boxP X 38 #[.bool false, .int .u64 (ge : Int), .int .u64 (mk : Int)], rowP 36 1 (.slice (some ⟨q, 0, none⟩) Z cp) Z (YS.map wv), viewP g YS LL, rowP 36 1 (.slice ad7 Z cp7) Z ((flatV YS LL).map wv)] := hO
  have hyb := (hg8.block _ (lt_of_block hyb) (by simp)).trans hyb
  have HWl : Hid (Wl YS.length LL) := Lib.hid (Own.wl hO 2 rfl).1
  have HFlen : Hid ((flatV YS LL).length = Z) := Lib.hid (by rw [flatV_length]; exact HYl.out)
  have HGet : Hid (∀ j, j < Z → (j < A ∨ A + 3 ≤ j) → (flatV YS LL).getD j 0 = YS.getD j 0) := Lib.hid (fun j hj ho => by
    rw [Go.Grommet.flat_get HWl.out j (by rw [HYl.out]; exact hj)]; exact HOut.out j ho)
  replace hO := Lib.hid hO
  clear HFg hg8
  have eZ : ((Z : Int) == (Z : Int)) = true := by simp
  go_wp2_with fail
  go_loopw [18] (fun i wr => ∃ j : Nat, j ≤ Z ∧ i = .int .i64 (j : Int) ∧ wr.heap[Y]? = some (.cells #[.bool false, .int .u64 (ge : Int), .int .u64 (mk : Int)] 38 (0, 0)) ∧ Hid (Own w wr [boxP X 38 #[.bool false, .int .u64 (ge : Int), .int .u64 (mk : Int)], rowP 36 1 (.slice (some ⟨q, 0, none⟩) Z cp) Z (YS.map wv), viewP g YS LL, rowP 36 1 (.slice ad7 Z cp7) Z ((flatV YS LL).map wv)])) (fun i _ => Z - (intOf i).toNat)
  case atStart => exact ⟨0, Nat.zero_le _, rfl, hyb, hO⟩
  case round =>
    clear hO hyb
    obtain ⟨j, hj, rfl, hyb, hO⟩ := hrel
    have j0 : (0 : Int) ≤ (j : Int) := by omega
    have wA : IntKind.i64.wrap ((A : Int) + 3) = (A : Int) + 3 := IntWalk.i64_in _ ⟨by omega, by omega⟩
    by_cases hlt : j < Z
    · have hlt' : (j : Int) < (Z : Int) := by omega
      have HB2 := Lib.hid (fun n => (grown_drewN wr n none).block Y (lt_of_block hyb) (by simp) |>.trans hyb)
      obtain ⟨q1, rfl, c1, _, _⟩ := Own.word hO.out 3 rfl HFlen.out j hlt
      obtain ⟨q2, he2, c2, _, _⟩ := Own.word hO.out 1 rfl HYl.out j hlt
      cases he2
      clear hyb
      by_cases ho : j < A ∨ A + 3 ≤ j
      · rw [HGet.out j hlt ho] at c1
        generalize YS.getD j 0 = U at c1 c2
        have eU : ((U : Int) != (U : Int)) = false := by simp
        by_cases hA1 : j < A
        · have dA' : (j : Int) < (A : Int) := by omega
          clear ho
          go_wp2_with fail
          go_quiet (fail)
          go_wp2
          go_roundw
          case rel => exact ⟨j + 1, by omega, by go_num, HB2.out _, Lib.hid (hO.out.quiet (grown_drewN _ _ _))⟩
          case measure => simp [intOf]; omega
        · have dA' : ¬ (j : Int) < (A : Int) := by omega
          have dB' : (A : Int) + 3 ≤ (j : Int) := by omega
          have n2 : A + 3 ≤ j := by omega
          clear ho
          go_wp2_with fail
          go_quiet (fail)
          go_wp2
          go_roundw
          case rel => exact ⟨j + 1, by omega, by go_num, HB2.out _, Lib.hid (hO.out.quiet (grown_drewN _ _ _))⟩
          case measure => simp [intOf]; omega
      · generalize YS.getD j 0 = U at c2
        generalize (flatV YS LL).getD j 0 = U2 at c1
        have dA' : ¬ (j : Int) < (A : Int) := by omega
        have dB' : ¬ (A : Int) + 3 ≤ (j : Int) := by omega
        have n1 : ¬ j < A := by omega
        have n2 : ¬ A + 3 ≤ j := by omega
        have dA : decide ((j : Int) < (A : Int)) = false := by simp; omega
        have dB : decide ((A : Int) + 3 ≤ (j : Int)) = false := by simp; omega
        clear ho
        go_wp2_with fail
        go_quiet (fail)
        go_wp2
        go_roundw
        case rel => exact ⟨j + 1, by omega, by go_num, HB2.out _, Lib.hid (hO.out.quiet (grown_drewN _ _ _))⟩
        case measure => simp [intOf]; omega
    · have hlt' : ¬ (j : Int) < (Z : Int) := by omega
      obtain ⟨x0, x1, x2⟩ := HeadS.cells (show HeadS X false ge mk _ from Own.box hO.out 0 rfl)
      obtain ⟨y0, y1, y2⟩ := HeadS.cells (show HeadS Y false ge mk wr from hyb)
      have HWr := Lib.hid (WritesH 2 g YS LL w wr _ hO.out rfl)
      rw [← HQ.out] at HWr
      have heq : ∀ wx : World, (binOp .eql 38 (.agg #[.bool false, .int .u64 (ge : Int), .int .u64 (mk : Int)]) (.agg #[.bool false, .int .u64 (ge : Int), .int .u64 (mk : Int)])).run Try.prog wx = .ok (.bool true) wx := head_same false ge mk
      clear hyb hO
      go_wp2_with fail
      refine HWr.out.mono ?_
      rintro e w9 ⟨ad6, cp6, rfl, hO⟩
      have hgw := Lib.hid hO.grown
      clear hO HWr x0 x1 x2 y0 y1 y2
      go_wp2_with fail
      refine (works_any _).mono ?_
      rintro e w15 ⟨rfl, hg⟩
      go_wp2
      go_ret
      exact ⟨rfl, grown_trans hgw.out hg⟩

theorem walk (td : Option Addr) (tl tc : Nat) (T : List Tur) (a1 : Int) (ob : Bool) (ge mk fs : Int) (w : World) (hT : TursIn w td tl T) (h1 : (Lit.int .u8 a1).wf = true) (h2 : (Lit.int .u64 ge).wf = true) (h3 : (Lit.int .u64 mk).wf = true) (h4 : (Lit.int .u64 fs).wf = true) :
    Calls Try.prog 5 #[.slice td tl tc, .int .u8 a1, .agg #[.bool ob, .int .u64 ge, .int .u64 mk], .int .u64 fs] w (WorksIs w) := by
  have b1 := bounds_u8 h1
  have b2 := bounds_u64 h2
  have b3 := bounds_u64 h3
  have b4 := bounds_u64 h4
  obtain ⟨ix, rfl⟩ := Int.eq_ofNat_of_zero_le b1.1
  obtain ⟨ge, rfl⟩ := Int.eq_ofNat_of_zero_le b2.1
  obtain ⟨mk, rfl⟩ := Int.eq_ofNat_of_zero_le b3.1
  obtain ⟨fs, rfl⟩ := Int.eq_ofNat_of_zero_le b4.1
  by_cases htl : 40 < tl
  · exact walk_far _ _ _ _ ob td tl tc w htl
  · cases ob with
    | true =>
      by_cases hf : fs ≤ 1
      · exact walk_true_few ix ge mk fs td tl tc T w (by omega) (by omega) (by omega) (by omega) hT htl hf
      · exact walk_true_big ix ge mk fs td tl tc T w (by omega) (by omega) (by omega) (by omega) hT htl (by omega)
    | false =>
      by_cases hf : fs ≤ 1
      · exact walk_false_few ix ge mk fs td tl tc T w (by omega) (by omega) (by omega) (by omega) hT htl hf
      · exact walk_false_big ix ge mk fs td tl tc T w (by omega) (by omega) (by omega) (by omega) hT htl (by omega)
end Go.Proofs.Ytkeghhchbdkaoaa.slotHeads
