/- AllocPlays, walked. -/
import Derived.Test.YtdblgnccjpjabaaDoorPlayK
import Derived.Deep.DeepCutAuto
import Derived.Deep.CutBlock
import Derived.Deep.RegionHeld
namespace Go.Proofs.YtdblgnccjpjabaaDoor.allocPlays
open Go.RowKit Go.Grommet

/-- The things of the law: two that never turn, the view, its twin, the alloc of the program, the document's. -/
def PS (R0 R1 RY : Pr) (g r a b c XI XB XA : Nat) (ys : List Nat) (L K : List (Nat × Nat)) (Qs : List Pr) : List Pr :=
  [R0, R1, viewP g ys L, refQ r ys K, RY, mapP XI g (264 + 208 * a) b, mapP XB g (272 + 208 * a) c, allocP XA g a b c XI XB] ++ Qs
def stC (d n : Int) (dr : Bool) : Array Value := #[.int .u8 d, .int .i64 n, .bool dr]
def PX (R0 R1 RY : Pr) (g r a b c XI XB XA : Nat) (ys : List Nat) (L K : List (Nat × Nat)) (Qs : List Pr) (Z : Nat) (cs : Array Value) : List Pr :=
  PS R0 R1 RY g r a b c XI XB XA ys L K Qs ++ [boxP Z 46 cs]
def S7 (Z : Nat) (d n : Int) (dr : Bool) (w : World) : Prop := w.heap[Z]? = some (.cells (stC d n dr) 46 (0, 0))
theorem S7.facts {Z : Nat} {d n : Int} {dr : Bool} {w : World} (h : S7 Z d n dr w) : w.cell? ⟨Z, 0, none⟩ = some (.int .u8 d) ∧ w.cell? ⟨Z, 1, none⟩ = some (.int .i64 n) ∧ w.cell? ⟨Z, 2, none⟩ = some (.bool dr) := by
  unfold S7 at h
  simp [World.cell?, h, stC]
def SR (r : Nat) (ad : Option Addr) (n cap : Nat) (w : World) : Prop := w.cell? ⟨r, 1, none⟩ = some (.slice ad n cap)
theorem SR.keep {r : Nat} {ad : Option Addr} {n cap : Nat} {w w' : World} (h : SR r ad n cap w) (hg : w.grownBy w' none) : SR r ad n cap w' := World.grownBy.cell hg h (by simp)
theorem app_far {A A' Qs Bs : List Pr} {k : Nat} {P : Pr} (hk : A.length ≤ k) (h : (A ++ Qs)[k]? = some P) (hA : A'.length = A.length) : ((A' ++ Qs) ++ Bs)[k]? = some P := by
  rw [List.getElem?_append_right hk] at h
  have hl := (List.getElem?_eq_some_iff.1 h).1
  rw [List.getElem?_append_left (by rw [List.length_append]; omega), List.getElem?_append_right (by omega), hA]
  exact h
theorem app_last (A : List Pr) (B : Pr) : (A ++ [B])[A.length]? = some B := by rw [List.getElem?_append_right (Nat.le_refl _), Nat.sub_self]; rfl
theorem app_last2 (A : List Pr) (B C : Pr) : ((A ++ [B]) ++ [C])[A.length]? = some B := by rw [List.getElem?_append_left (by simp)]; exact app_last A B
theorem px_box {R0 R1 RY : Pr} {g r a b c XI XB XA : Nat} {ys : List Nat} (L K : List (Nat × Nat)) (Qs : List Pr) (Z : Nat) {cs : Array Value} :
    (PX R0 R1 RY g r a b c XI XB XA ys L K Qs Z cs)[8 + Qs.length]? = some (boxP Z 46 cs) := by
  have := app_last (PS R0 R1 RY g r a b c XI XB XA ys L K Qs) (boxP Z 46 cs)
  rw [show (PS R0 R1 RY g r a b c XI XB XA ys L K Qs).length = 8 + Qs.length from by unfold PS; rw [List.length_append]; rfl] at this
  exact this
theorem words_take {w : World} {ad : Option Addr} {l n : Nat} {xs : List Nat} (h : Words w ad l xs) (hn : n ≤ l) : Words w ad n (xs.take n) := by
  refine ⟨by rw [List.length_take, h.len]; omega, fun m hm => h.small m (List.mem_of_mem_take hm), ?_, Nat.le_trans hn h.fits⟩
  intro j u hu
  refine h.at_ j u ?_
  rw [List.map_take, List.getElem?_take] at hu
  by_cases hj : j < n
  · rw [if_pos hj] at hu; exact hu
  · rw [if_neg hj] at hu; cases hu
theorem RFormatH (a b c N : Nat) (xs : List Nat) (w0 w : World) (Ps : List Pr) (h : Grommet.Own w0 w Ps) (hm : mayB (a : Int) (b : Int) (c : Int) = true) (hN : 280 + 208 * a + 16 * b + 8 * c = N) (hxs : fmtL a b c (264 + 208 * a) N = xs) :
    Calls Tryd.prog 9 #[.agg #[.int .i64 (a : Int), .int .i64 (b : Int), .int .i64 (c : Int)]] w fun e w' => ∃ q, e = .returned (.slice (some ⟨q, 0, none⟩) N N) ∧ Grommet.Own w0 w' (Ps ++ [rowP 31 1 (.slice (some ⟨q, 0, none⟩) N N) N (xs.map wv)]) := by
  subst hN
  have hl := length_fmtL a b c (264 + 208 * a) (280 + 208 * a + 16 * b + 8 * c)
  rw [hxs] at hl
  have hmN := mayN hm
  refine (RFormat_any a b c w hm).mono ?_
  rintro e w' ⟨q, rfl, hrow, hq, hg⟩
  rw [hxs] at hrow ⊢
  rw [hl]
  refine ⟨q, rfl, h.addRow ⟨by simp [hl], .inr ⟨q, 280 + 208 * a + 16 * b + 8 * c, _, rfl, hq, hrow, Nat.le_refl _, by unfold maxLen; omega, by simp [hl], by rw [List.take_of_length_le (by simp [hl])]⟩⟩ hg⟩

set_option maxRecDepth 100000 in
set_option maxHeartbeats 1000000 in
theorem walk_far (a b c : Int) (td : Option Addr) (tl tc : Nat) (D : Int) (sd : Option Addr) (sl sc : Nat) (w : World) (ht : Lib.TabIs Tryd.prog w "math/bits.deBruijn64tab" .u8 tab) (h : 20 < tl ∨ 200 < sl) :
    Calls Tryd.prog 3 #[gv a b c, .slice td tl tc, .int .u16 D, .slice sd sl sc] w (Go.Ev.WorksIs w) := by
  have HW := Lib.hid (works7_tab _ (tab_grown ht (World.grownBy_alloc w (.cells #[.int .i64 a, .int .i64 b, .int .i64 c] 23) none)))
  have HG := Lib.hid (World.grownBy_alloc w (.cells #[.int .i64 a, .int .i64 b, .int .i64 c] 23) none)
  clear ht
  unfold gv
  by_cases h1 : 20 < tl
  · have g1 : (20 : Int) < (tl : Int) := by omega
    clear h
    go_enter Tryd.func3, Tryd.ntmps3
    go_wp2_with fail
    refine HW.out.mono ?_
    rintro e w5 ⟨rfl, hg⟩
    go_wp2
    go_ret
    exact ⟨rfl, grown_trans HG.out hg⟩
  · have g1 : ¬ (20 : Int) < (tl : Int) := by omega
    have g2 : (200 : Int) < (sl : Int) := by omega
    clear h
    go_enter Tryd.func3, Tryd.ntmps3
    go_wp2_with fail
    refine HW.out.mono ?_
    rintro e w5 ⟨rfl, hg⟩
    go_wp2
    go_ret
    exact ⟨rfl, grown_trans HG.out hg⟩

set_option maxRecDepth 100000 in
set_option maxHeartbeats 8000000 in
theorem walk_may (a b c : Nat) (td : Option Addr) (tl tc : Nat) (T : List Trn) (D0 : Nat) (sd : Option Addr) (sl sc : Nat) (Y : List Alo) (w : World) (hm : mayB (a : Int) (b : Int) (c : Int) = true) (hD : D0 ≤ 65535) (htl : tl ≤ 20) (hsl : sl ≤ 200) (hT : TrnsIn w td tl T) (hY : AlosIn w sd sl Y)
    (ht : Lib.TabIs Tryd.prog w "math/bits.deBruijn64tab" .u8 tab) :
    Calls Tryd.prog 3 #[gv (a : Int) (b : Int) (c : Int), .slice td tl tc, .int .u16 (D0 : Int), .slice sd sl sc] w (Go.Ev.WorksIs w) := by
  have HTab := Lib.hid ht
  have HT := Lib.hid hT
  have HY := Lib.hid hY
  have g1 : ¬ (20 : Int) < (tl : Int) := by omega
  have g2 : ¬ (200 : Int) < (sl : Int) := by omega
  have wD : IntKind.i64.wrap (D0 : Int) = (D0 : Int) := IntWalk.i64_in _ ⟨by omega, by omega⟩
  obtain ⟨N, hN⟩ : ∃ N, 280 + 208 * a + 16 * b + 8 * c = N := ⟨_, rfl⟩
  have hmb := mayN hm
  have hsm := fmt_small a b c N hm
  obtain ⟨xs0, hxs⟩ : ∃ xs, fmtL a b c (264 + 208 * a) N = xs := ⟨_, rfl⟩
  rw [hxs] at hsm
  have hNl : N ≤ 10000 := by omega
  have hN0 : 500 ≤ N := by omega
  have HL0 : Hid (xs0.length = N ∧ ∀ n ∈ xs0, n < 18446744073709551616) := Lib.hid ⟨by rw [← hxs, length_fmtL], hsm⟩
  have Hm := Lib.hid hm
  have HN := Lib.hid hN
  clear ht hT hY hsm hmb
  unfold gv
  go_enter Tryd.func3, Tryd.ntmps3
  go_wp2_with fail
  have hO : Grommet.Own w (w.alloc (.cells (geoCs a b c) 23)) [boxP w.heap.size 23 (geoCs a b c)] := (Own.nil w).addBox _ _
  change Calls _ _ #[Value.agg #[.int .i64 (a : Int), .int .i64 (b : Int), .int .i64 (c : Int)]] (w.alloc (.cells (geoCs a b c) 23)) _
  generalize w.alloc (.cells (geoCs a b c) 23) = u0 at hO ⊢
  obtain ⟨G, hG⟩ : ∃ G, w.heap.size = G := ⟨_, rfl⟩
  rw [hG] at hO ⊢
  have HF := Lib.hid (RFormatH a b c N xs0 w u0 _ hO hm hN hxs)
  clear hG hO hxs hN hm
  refine HF.out.mono ?_
  rintro e u1 ⟨q, rfl, hO⟩
  have hO1 : Hid (Grommet.Own w u1 [boxP G 23 (geoCs a b c), rowP 31 1 (.slice (some ⟨q, 0, none⟩) N N) N (xs0.map wv)]) := Lib.hid hO
  clear HF hO
  have z0 : (0 : Int) < (N : Int) := by omega
  have zc : ¬ (N : Int) = 0 := by omega
  have zn : ¬ N = 0 := by omega
  have zb : ((N : Int) == 0) = false := by rw [beq_eq_false_iff_ne]; omega
  go_wp2_with fail
  go_loopw [10] (fun i wr => ∃ (k : Nat) (xs : List Nat), k ≤ tl ∧ i = .int .i64 (k : Int) ∧ Hid (xs.length = N ∧ ∀ n ∈ xs, n < 18446744073709551616) ∧ Hid (Grommet.Own w wr [boxP G 23 (geoCs a b c), rowP 31 1 (.slice (some ⟨q, 0, none⟩) N N) N (xs.map wv)])) (fun i _ => tl - (intOf i).toNat)
  case atStart => exact ⟨0, xs0, Nat.zero_le _, rfl, HL0, hO1⟩
  case round =>
    clear hO1 HL0
    obtain ⟨k, xs, hk, rfl, HL, hO⟩ := hrel
    have k0 : (0 : Int) ≤ (k : Int) := by omega
    by_cases hlt : k < tl
    · as_aux_lemma =>
      have hlt' : (k : Int) < (tl : Int) := by omega
      obtain ⟨x, hx⟩ : ∃ x, T[k]? = some x := ⟨T[k]'(by rw [HT.out.1]; exact hlt), List.getElem?_eq_getElem _⟩
      obtain ⟨tg, to', rfl, c0, c1⟩ := (HT.out.grown hO.out.grown).2.2 k x hx
      obtain ⟨ok1, ok2⟩ := HT.out.2.1 x (List.mem_of_getElem? hx)
      have b1 := bounds_u16 ok1
      have b2 := bounds_u64 ok2
      obtain ⟨at_, ww⟩ := x
      dsimp only at c0 c1 b1 b2
      obtain ⟨A, rfl⟩ := Int.eq_ofNat_of_zero_le b1.1
      obtain ⟨V, rfl⟩ := Int.eq_ofNat_of_zero_le b2.1
      obtain ⟨C, HC⟩ : ∃ C, Hid (C = A % N) := ⟨_, Lib.hid rfl⟩
      have hC : C < N := by rw [HC.out]; exact Nat.mod_lt _ (by omega)
      have eC : (A : Int).tmod (N : Int) = (C : Int) := by rw [HC.out, Int.tmod_eq_emod_of_nonneg (by omega)]; omega
      have eC' : (A : Int) % (N : Int) = (C : Int) := by rw [HC.out]; omega
      have eCZ : (C : Int) < (N : Int) := by omega
      have eC0 : (0 : Int) ≤ (C : Int) := by omega
      have wa : IntKind.i64.wrap (A : Int) = (A : Int) := IntWalk.i64_in _ ⟨by omega, by omega⟩
      obtain ⟨U, HU⟩ : ∃ U, Hid (U = xs.getD C 0) := ⟨_, Lib.hid rfl⟩
      obtain ⟨q', he, cK, fK, _⟩ := Own.cell hO.out 1 rfl C (wv U) (by rw [List.getElem?_map, List.getElem?_eq_getElem (by rw [HL.out.1]; omega), HU.out, List.getD_eq_getElem?_getD, List.getElem?_eq_getElem (by rw [HL.out.1]; omega)]; rfl)
      cases he
      unfold wv at cK
      have hO2 := (hO.out.quiet (grown_drew (World.grownBy.refl _ none))).store 1 rfl C (wv V)
      rw [← List.map_set] at hO2
      have HO2 : Hid (Grommet.Own w (wr.drew.setCell ⟨q, C, none⟩ (.int .u64 (V : Int))) [boxP G 23 (geoCs a b c), rowP 31 1 (.slice (some ⟨q, 0, none⟩) N N) N ((xs.set C V).map wv)]) := Lib.hid hO2
      have HR : Hid ((xs.set C V).length = N ∧ ∀ n ∈ xs.set C V, n < 18446744073709551616) := Lib.hid ⟨by rw [List.length_set]; exact HL.out.1, fun n hn => by
        rcases List.mem_or_eq_of_mem_set hn with h | h
        · exact HL.out.2 n h
        · rw [h]; omega⟩
      clear hO2 hO hx ok1 ok2 b1 b2
      go_wp2_with fail
      go_still_tail 16, (by kernel_rfl)
      change wpList _ _ _ _ _ wr.drew
      go_wp2
      go_roundw
      case rel => exact ⟨k + 1, xs.set C V, by omega, by go_num, HR, HO2⟩
      case measure => simp [intOf]; omega
    · have hlt' : ¬ (k : Int) < (tl : Int) := by omega
      clear hk hlt k0
      go_upto_region 8 with fail
      go_cut [9] (fun s wx => ∃ n : Nat, s = .slice (some ⟨q, 0, none⟩) n N ∧ n ≤ N ∧ Hid (Grommet.Own w wx [boxP G 23 (geoCs a b c), rowP 31 1 (.slice (some ⟨q, 0, none⟩) N N) N (xs.map wv)]))
      case first =>
        as_aux_lemma =>
        have hhd : ∀ a, (some ⟨q, 0, none⟩ : Option Addr) = some a → a = ⟨a.block, 0, none⟩ := fun a ha => by cases ha; rfl
        by_cases hmin : D0 ≤ N
        · obtain ⟨n, hn⟩ : ∃ n, N - D0 = n := ⟨_, rfl⟩
          have hle : (D0 : Int) ≤ (N : Int) := by omega
          have wn : IntKind.i64.wrap ((N : Int) - (D0 : Int)) = (n : Int) := by rw [IntWalk.i64_in _ ⟨by omega, by omega⟩]; omega
          have hsl := fun wx => slice_to (P := Tryd.prog) 28 31 Tryd.underlying28 1 Tryd.sizeOf31 (some ⟨q, 0, none⟩) N N n (by omega) hhd wx
          have hnN : n ≤ N := by omega
          clear hmin hn hhd
          go_wp2_with fail
          go_meet
          case rel => exact ⟨n, rfl, hnN, hO⟩
        · have hle : ¬ (D0 : Int) ≤ (N : Int) := by omega
          have wn : IntKind.i64.wrap ((N : Int) - (N : Int)) = ((0 : Nat) : Int) := by rw [IntWalk.i64_in _ ⟨by omega, by omega⟩]; omega
          have hsl := fun wx => slice_to (P := Tryd.prog) 28 31 Tryd.underlying28 1 Tryd.sizeOf31 (some ⟨q, 0, none⟩) N N 0 (by omega) hhd wx
          clear hmin hhd
          go_wp2_with fail
          go_meet
          case rel => exact ⟨0, rfl, Nat.zero_le _, hO⟩
      case rest =>
      obtain ⟨n, rfl, hnN, hO⟩ := hcut
      clear hlt' wD
      obtain ⟨hW, _, _⟩ := Own.words hO.out 1 rfl HL.out.2 (by omega)
      obtain ⟨ys, hys⟩ : ∃ ys, xs.take n = ys := ⟨_, rfl⟩
      have hyl : ys.length = n := by rw [← hys, List.length_take, HL.out.1]; omega
      have HV := Lib.hid (NewH (some ⟨q, 0, none⟩) n N ys w _ _ hO.out (by rw [← hys]; exact words_take hW hnN) (by omega) (fun e => by cases e))
      have Hys := Lib.hid hys
      clear hW hys
      go_wp2_with fail
      refine HV.out.mono ?_
      rintro e w1 ⟨g, rfl, hO1⟩
      have hO1 : Grommet.Own w w1 [boxP G 23 (geoCs a b c), rowP 31 1 (.slice (some ⟨q, 0, none⟩) N N) N (xs.map wv), viewP g ys []] := hO1
      obtain ⟨hW, _, _⟩ := Own.words hO1 1 rfl HL.out.2 (by omega)
      have HW2 := Lib.hid (RefNewQ (some ⟨q, 0, none⟩) n N ys w w1 _ hO1 (by rw [← Hys.out]; exact words_take hW hnN) (by omega) (fun e => by cases e))
      clear HV hO1 hW hO
      go_wp2_with fail
      refine HW2.out.mono ?_
      rintro e w2 ⟨r, rfl, hO2⟩
      have hO2 : Grommet.Own w w2 [boxP G 23 (geoCs a b c), rowP 31 1 (.slice (some ⟨q, 0, none⟩) N N) N (xs.map wv), viewP g ys [], refQ r ys []] := hO2
      clear HW2
      have hb1 := hO2.box 0 rfl
      have f0 : w2.cell? ⟨G, 0, none⟩ = some (.int .i64 (a : Int)) := by simp [World.cell?, hb1, geoCs]
      have f1 : w2.cell? ⟨G, 1, none⟩ = some (.int .i64 (b : Int)) := by simp [World.cell?, hb1, geoCs]
      have f2 : w2.cell? ⟨G, 2, none⟩ = some (.int .i64 (c : Int)) := by simp [World.cell?, hb1, geoCs]
      clear hb1
      by_cases hful : n < N
      · as_aux_lemma =>
        have HA := Lib.hid (ANewShort 2 g a b c ys [] w w2 _ hO2 rfl Hm.out (by rw [hyl]; have := HN.out; omega))
        clear hO2
        go_wp2_with fail
        refine HA.out.mono ?_
        rintro e w3 ⟨rfl, hO3⟩
        clear HA f0 f1 f2
        have hb1 := hO3.box 0 rfl
        have f0 : w3.cell? ⟨G, 0, none⟩ = some (.int .i64 (a : Int)) := by simp [World.cell?, hb1, geoCs]
        have f1 : w3.cell? ⟨G, 1, none⟩ = some (.int .i64 (b : Int)) := by simp [World.cell?, hb1, geoCs]
        have f2 : w3.cell? ⟨G, 2, none⟩ = some (.int .i64 (c : Int)) := by simp [World.cell?, hb1, geoCs]
        have HB := Lib.hid (RNewShort 3 r a b c ys [] w w3 _ hO3 rfl Hm.out (by rw [hyl]; have := HN.out; omega))
        have hg3 := Lib.hid hO3.grown
        clear hO3 hb1
        go_wp2_with fail
        refine HB.out.mono ?_
        rintro e w4 ⟨rfl, hg4⟩
        have HWk := Lib.hid (works7_tab w4 (tab_grown HTab.out (grown_trans hg3.out hg4)))
        have hg5 := Lib.hid (grown_trans hg3.out hg4)
        clear HB hg4 f0 f1 f2
        go_wp2_with fail
        refine HWk.out.mono ?_
        rintro e w5 ⟨rfl, hg6⟩
        have hfin := Lib.hid (grown_trans hg5.out hg6)
        clear hg6
        go_wp2
        go_ret
        exact ⟨rfl, hfin.out⟩
      · have HA := Lib.hid (ANewH 2 g a b c ys [] w w2 _ hO2 rfl Hm.out (by rw [hyl]; have := HN.out; omega) (by rw [hyl]; omega))
        clear hO2
        go_wp2_with fail
        refine HA.out.mono ?_
        rintro e w3 ⟨Yb, XI, XB, XA, rfl, hO3⟩
        clear HA f0 f1 f2
        have hO3 : Grommet.Own w w3 [boxP G 23 (geoCs a b c), rowP 31 1 (.slice (some ⟨q, 0, none⟩) N N) N (xs.map wv), viewP g ys [], refQ r ys [], boxP Yb 23 (geoCs a b c), mapP XI g (264 + 208 * a) b, mapP XB g (272 + 208 * a) c, allocP XA g a b c XI XB] := hO3
        have hb1 := hO3.box 0 rfl
        have f0 : w3.cell? ⟨G, 0, none⟩ = some (.int .i64 (a : Int)) := by simp [World.cell?, hb1, geoCs]
        have f1 : w3.cell? ⟨G, 1, none⟩ = some (.int .i64 (b : Int)) := by simp [World.cell?, hb1, geoCs]
        have f2 : w3.cell? ⟨G, 2, none⟩ = some (.int .i64 (c : Int)) := by simp [World.cell?, hb1, geoCs]
        generalize boxP G 23 (geoCs a b c) = R0 at hO3
        generalize rowP 31 1 (.slice (some ⟨q, 0, none⟩) N N) N (xs.map wv) = R1 at hO3
        generalize boxP Yb 23 (geoCs a b c) = RY at hO3
        have HB := Lib.hid (RNewYes 3 r a b c ys [] w w3 _ hO3 rfl Hm.out (by rw [hyl]; have := HN.out; omega))
        clear hO3 hb1
        go_wp2_with fail
        refine HB.out.mono ?_
        rintro e w4 ⟨XI2, XB2, XA2, kI, kB, kA, Qs, rfl, hO4, hkI, hkB, hkA, l1, l2, l3⟩
        have hO5 : Hid (Grommet.Own w w4 (PS R0 R1 RY g r a b c XI XB XA ys [] [] Qs)) := Lib.hid hO4
        have HAl := Lib.hid (fun (L K : List (Nat × Nat)) (Z : Nat) (cs : Array Value) => (⟨rfl, rfl, rfl, rfl, Hm.out, by rw [hyl]; have := HN.out; omega, by rw [hyl]; omega⟩ : AlcIs (PX R0 R1 RY g r a b c XI XB XA ys L K Qs Z cs) 2 5 6 7 g a b c XI XB XA ys L))
        have HRl := Lib.hid (fun (L K : List (Nat × Nat)) (Z : Nat) (cs : Array Value) => (⟨rfl, app_far l1 hkI rfl, app_far l2 hkB rfl, app_far l3 hkA rfl, Hm.out, by rw [hyl]; have := HN.out; omega, by rw [hyl]; omega⟩ : RAlcIs (PX R0 R1 RY g r a b c XI XB XA ys L K Qs Z cs) 3 kI kB kA r a b c XI2 XB2 XA2 ys K))
        have HkA : Hid (3 ≠ kA) := Lib.hid (by have : 8 ≤ kA := l3; omega)
        have Hyl : Hid (ys.length ≤ 10000) := Lib.hid (by rw [hyl]; omega)
        clear HB hO4 hkI hkB hkA l1 l2 l3 f0 f1 f2 hful
        go_wp2_with fail
        go_loopw [17] (fun i wr => ∃ (k : Nat) (L : List (Nat × Nat)), k ≤ sl ∧ i = .int .i64 (k : Int) ∧ Hid (Grommet.Own w wr (PS R0 R1 RY g r a b c XI XB XA ys L L Qs))) (fun i _ => sl - (intOf i).toNat)
        case atStart => exact ⟨0, [], Nat.zero_le _, rfl, hO5⟩
        case round =>
          clear hO5
          obtain ⟨k, L, hk, rfl, hO⟩ := hrel
          have k0 : (0 : Int) ≤ (k : Int) := by omega
          by_cases hlt : k < sl
          · as_aux_lemma =>
            have hlt' : (k : Int) < (sl : Int) := by omega
            obtain ⟨x, hx⟩ : ∃ x, Y[k]? = some x := ⟨Y[k]'(by rw [HY.out.1]; exact hlt), List.getElem?_eq_getElem _⟩
            obtain ⟨tg, to', rfl, d0, d1, d2⟩ := (HY.out.grown hO.out.grown).2.2 k x hx
            obtain ⟨ok0, ok1⟩ := HY.out.2.1 x (List.mem_of_getElem? hx)
            clear hx
            obtain ⟨xd, xn, dr⟩ := x
            dsimp only at d0 d1 d2 ok0 ok1
            have b0 := bounds_u8 ok0
            have b1 := bounds_i64 ok1
            obtain ⟨D, rfl⟩ := Int.eq_ofNat_of_zero_le b0.1
            obtain ⟨rr, Hr⟩ : ∃ r, Hid (r = D % 5) := ⟨_, Lib.hid rfl⟩
            have hr5 : rr < 5 := by rw [Hr.out]; omega
            have e5 : (D : Int) % 5 = (rr : Int) := by rw [Hr.out]; omega
            have e5' : Int.tmod (D : Int) 5 = (rr : Int) := by rw [Int.tmod_eq_emod_of_nonneg (by omega)]; exact e5
            have wr5 : IntKind.u8.wrap (rr : Int) = (rr : Int) := IntWalk.u8_in _ ⟨by omega, by omega⟩
            have hOx : Grommet.Own w (wr.alloc (.cells (stC (D : Int) xn dr) 46)) (PX R0 R1 RY g r a b c XI XB XA ys L L Qs wr.heap.size (stC (D : Int) xn dr)) := hO.out.addBox 46 (stC (D : Int) xn dr)
            have hOx := Lib.hid hOx
            clear ok0 ok1 b0 hO
            go_upto_region 21 with fail
            obtain ⟨w5, hw5⟩ : ∃ w5, wr.alloc (.cells (stC (D : Int) xn dr) 46) = w5 := ⟨_, rfl⟩
            obtain ⟨Z, hZ⟩ : ∃ Z, wr.heap.size = Z := ⟨_, rfl⟩
            rw [hw5, hZ] at hOx
            rw [hZ]
            change Code.wp _ _ _ _ (wr.alloc (.cells (stC (D : Int) xn dr) 46))
            rw [hw5]
            clear hw5 hZ d0 d1 d2
            obtain ⟨z0, z1, z2⟩ := S7.facts (show S7 Z D xn dr w5 from hOx.out.box _ (px_box _ _ _ _))
            go_upto_if 124 with fail
            go_cut [] (fun wx => ∃ L2 : List (Nat × Nat), Hid (Grommet.Own w wx (PX R0 R1 RY g r a b c XI XB XA ys L2 L2 Qs Z (stC (D : Int) xn dr))))
            case first =>
              as_aux_lemma =>
              cases dr with
              | false =>
                go_wp2_with fail
                go_meet
                case rel => exact ⟨L, hOx⟩
              | true =>
                have HD := Lib.hid (DropH 2 g ys L w _ _ _ hOx.out rfl rfl)
                clear z0 z1 z2
                go_wp2_with fail
                refine HD.out.mono ?_
                rintro e w6 ⟨rfl, hO6⟩
                have hO6 : Grommet.Own w w6 (PX R0 R1 RY g r a b c XI XB XA ys [] L Qs Z (stC (D : Int) xn true)) := hO6
                obtain ⟨ad7, cp7, e1, e2, _⟩ := refQ_obj hO6 3 rfl
                have hO7 : Hid (Grommet.Own w _ (PX R0 R1 RY g r a b c XI XB XA ys [] [] Qs Z (stC (D : Int) xn true))) := Lib.hid (refQ_nil hO6 3 rfl)
                clear HD hO6 hOx
                go_wp2_with fail
                go_meet
                case rel => exact ⟨[], hO7⟩
            case rest =>
            obtain ⟨L, hO8⟩ := hcut
            clear hOx z0 z1 z2
            obtain ⟨z0, z1, z2⟩ := S7.facts (show S7 Z D xn dr _ from hO8.out.box _ (px_box _ _ _ _))
            go_upto_block 4 with fail
            go_cut [19, 20, 21, 22, 23, 24, 25, 26, 27] (fun sv _ _ _ _ _ _ _ _ wx => ∃ L2 : List (Nat × Nat), sv = .bool true ∧ Hid (Grommet.Own w wx (PX R0 R1 RY g r a b c XI XB XA ys L2 L2 Qs Z (stC (D : Int) xn dr))))
            case first =>
              as_aux_lemma =>
              have hr : rr = 0 ∨ rr = 1 ∨ rr = 2 ∨ rr = 3 ∨ rr = 4 := by omega
              clear hr5
              rcases hr with hr | hr | hr | hr | hr
              · as_aux_lemma =>
                have HR := Lib.hid hr
                clear hr
                have q0 : ((rr : Int) == 0) = true := by rw [HR.out]; rfl
                obtain ⟨cI, bI, hcI⟩ := clrR_ex (mbit ys L (264 + 208 * a)) b
                obtain ⟨v, hv⟩ : ∃ v, tkV ys L (264 + 208 * a) b cI bI = v := ⟨_, rfl⟩
                obtain ⟨en, he⟩ : ∃ v, tkE ys L (264 + 208 * a) b cI bI = v := ⟨_, rfl⟩
                obtain ⟨L2, hL2⟩ : ∃ v, tkL ys L (264 + 208 * a) b cI bI = v := ⟨_, rfl⟩
                have HT1 := Lib.hid (TakeInodeGen 2 5 6 7 g a b c XI XB XA ys L cI bI w _ _ (PX R0 R1 RY g r a b c XI XB XA ys L2 L Qs Z (stC (D : Int) xn dr)) hO8.out (HAl.out _ _ _ _) HTab.out hcI v en hv he (by rw [hL2]; rfl))
                have HT2 := Lib.hid (fun wx (hO : Grommet.Own w wx (PX R0 R1 RY g r a b c XI XB XA ys L2 L Qs Z (stC (D : Int) xn dr))) => RTakeInodeQ 3 kI kB kA r a b c XI2 XB2 XA2 ys L cI bI w wx _ (PX R0 R1 RY g r a b c XI XB XA ys L2 L2 Qs Z (stC (D : Int) xn dr)) hO (HRl.out _ _ _ _) hcI v en hv he (by rw [hL2]; rfl))
                have qv : (v == v) = true := by simp
                have qe : (en == en) = true := by simp
                clear hcI hv he hL2
                go_wp2_with fail
                refine HT1.out.mono ?_
                rintro e w6 ⟨rfl, hO6⟩
                have HT3 := Lib.hid (HT2.out w6 hO6)
                clear HT1 HT2 hO6 hO8 z0 z1 z2
                go_wp2_with fail
                refine HT3.out.mono ?_
                rintro e w7 ⟨rfl, hO7⟩
                have hO9 := Lib.hid hO7
                clear HT3 hO7
                go_wp2_with fail
                go_meet
                case rel => exact ⟨L2, rfl, hO9⟩
              · have HR := Lib.hid hr
                clear hr
                have q0 : ((rr : Int) == 0) = false := by rw [HR.out]; rfl
                have q1 : ((rr : Int) == 1) = true := by rw [HR.out]; rfl
                obtain ⟨cB, bB, hcB⟩ := clrR_ex (mbit ys L (272 + 208 * a)) c
                have hcB2 := hcB
                rcases hcB2 with ⟨rfl, i, rfl, hi, _, _⟩ | ⟨rfl, rfl, _⟩
                · as_aux_lemma =>
                  obtain ⟨P, hP⟩ : ∃ P, 280 + 208 * a + 16 * b + 8 * i = P := ⟨_, rfl⟩
                  obtain ⟨⟨L2, E⟩, hS⟩ : ∃ p, zR ys P (setMI ys L (272 + 208 * a) c (i : Int) true) (setME ys L (272 + 208 * a) c (i : Int)) 8 = p := ⟨_, rfl⟩
                  obtain ⟨v, hv⟩ : ∃ v, (if E = 0 then (i : Int) else 0) = v := ⟨_, rfl⟩
                  have HT1 := Lib.hid (TakeBlockGen 2 5 6 7 g a b c XI XB XA i P ys L w _ _ hO8.out (HAl.out _ _ _ _) HTab.out hcB hi hP (by decide) E L2 v hS hv)
                  have HT2 := Lib.hid (fun wx (hO : Grommet.Own w wx (PX R0 R1 RY g r a b c XI XB XA ys L2 L Qs Z (stC (D : Int) xn dr))) => RTakeBlockYes 3 kI kB kA r a b c XI2 XB2 XA2 i P ys L w wx _ hO (HRl.out _ _ _ _) hcB hi hP HkA.out E L2 v hS hv)
                  have qv : (v == v) = true := by simp
                  have qe : ((E : Int) == (E : Int)) = true := by simp
                  clear hcB hv hS hP hi
                  go_wp2_with fail
                  refine HT1.out.mono ?_
                  rintro e w6 ⟨q9, rfl, hO6⟩
                  have HT3 := Lib.hid (HT2.out w6 (Own.less hO6))
                  clear HT1 HT2 hO6 hO8 z0 z1 z2
                  go_wp2_with fail
                  refine HT3.out.mono ?_
                  rintro e w7 ⟨rfl, hO7⟩
                  have hO9 := Lib.hid hO7
                  clear HT3 hO7
                  go_wp2_with fail
                  go_meet
                  case rel => exact ⟨L2, rfl, hO9⟩
                · as_aux_lemma =>
                  have HT1 := Lib.hid (TakeBlockNone 2 5 6 7 g a b c XI XB XA ys L w _ _ hO8.out (HAl.out _ _ _ _) HTab.out hcB)
                  have HT2 := Lib.hid (fun wx (hO : Grommet.Own w wx (PX R0 R1 RY g r a b c XI XB XA ys L L Qs Z (stC (D : Int) xn dr))) => RTakeBlockNone 3 kI kB kA r a b c XI2 XB2 XA2 ys L w wx _ hO (HRl.out _ _ _ _) hcB)
                  clear hcB
                  go_wp2_with fail
                  refine HT1.out.mono ?_
                  rintro e w6 ⟨rfl, hO6⟩
                  have HT3 := Lib.hid (HT2.out w6 hO6)
                  clear HT1 HT2 hO6 hO8 z0 z1 z2
                  go_wp2_with fail
                  refine HT3.out.mono ?_
                  rintro e w7 ⟨rfl, hO7⟩
                  have hO9 := Lib.hid hO7
                  clear HT3 hO7
                  go_wp2_with fail
                  go_meet
                  case rel => exact ⟨L, rfl, hO9⟩
              · as_aux_lemma =>
                have HR := Lib.hid hr
                clear hr
                have q0 : ((rr : Int) == 0) = false := by rw [HR.out]; rfl
                have q1 : ((rr : Int) == 1) = false := by rw [HR.out]; rfl
                have q2 : ((rr : Int) == 2) = true := by rw [HR.out]; rfl
                obtain ⟨en, he⟩ : ∃ en : Int, (giveE ys L (264 + 208 * a) b xn : Int) = en := ⟨_, rfl⟩
                obtain ⟨L2, hL2⟩ : ∃ L2, giveL ys L (264 + 208 * a) b xn = L2 := ⟨_, rfl⟩
                have HA := Lib.hid (fun wx (hO : Grommet.Own w wx (PX R0 R1 RY g r a b c XI XB XA ys L L Qs Z (stC (D : Int) xn dr))) => GiveInodeH 2 5 6 7 g a b c XI XB XA ys L xn en w wx _ (PX R0 R1 RY g r a b c XI XB XA ys L2 L Qs Z (stC (D : Int) xn dr)) hO (HAl.out _ _ _ _) he (by rw [hL2]; rfl))
                have HB := Lib.hid (fun wx (hO : Grommet.Own w wx (PX R0 R1 RY g r a b c XI XB XA ys L2 L Qs Z (stC (D : Int) xn dr))) => RGiveInodeQ 3 kI kB kA r a b c XI2 XB2 XA2 ys L xn en w wx _ (PX R0 R1 RY g r a b c XI XB XA ys L2 L2 Qs Z (stC (D : Int) xn dr)) hO (HRl.out _ _ _ _) he (by rw [hL2]; rfl))
                have hOr := Lib.hid (hO8.out.quiet (grown_drew (World.grownBy.refl _ none)))
                have hZ0 := Lib.hid (show S7 Z D xn dr _ from hOr.out.box _ (px_box _ _ _ _))
                have qe : (en == en) = true := by simp
                clear he hL2 hO8
                go_wp2_with fail
                refine wp_region_held_drew (S := fun w' => S7 Z D xn dr w') (by kernel_rfl) (hZ0.out) (fun hS => ?_)
                refine wpAnyH_take (i := 0) (oi := { dst := some 184, op := Op.move (Operand.tmp 13), type := 38, pos := "law.go:82", after := #[], guard := none }) (v := ?vtb3r36o0) rfl (by kernel_rfl) (by kernel_rfl) (by kernel_rfl) (fun _ _ _ h => h) (Or.inl ⟨by rfl, ?htb3r36o0⟩) hS ?_
                case htb3r36o0 => (intro wx hx; skip; go_simp; (try with_reducible rfl))
                try simp only [Act.put, List.setIfInBounds_toArray, List.set_cons_zero, List.set_cons_succ]
                refine wpAnyH_take (i := 1) (oi := { dst := some 185, op := Op.fieldAddr 46 (Operand.tmp 18) 1, type := 0, pos := "law.go:82", after := #[], guard := none }) (v := ?vtb3r36o1) rfl (by kernel_rfl) (by kernel_rfl) (by kernel_rfl) (fun _ _ _ h => h) (Or.inl ⟨by rfl, ?htb3r36o1⟩) hS ?_
                case htb3r36o1 => (intro wx hx; skip; go_simp; (try with_reducible rfl))
                try simp only [Act.put, List.setIfInBounds_toArray, List.set_cons_zero, List.set_cons_succ]
                refine wpAnyH_take (i := 2) (oi := { dst := some 186, op := Op.load 3 (Operand.tmp 185), type := 3, pos := "law.go:82", after := #[{ on := 1, ground := Ground.data }], guard := none }) (v := ?vtb3r36o2) rfl (by kernel_rfl) (by kernel_rfl) (by kernel_rfl) (fun _ _ _ h => h) (Or.inl ⟨by rfl, ?htb3r36o2⟩) hS ?_
                case htb3r36o2 => (intro wx hx; obtain ⟨x0, x1, x2⟩ := S7.facts hx; go_simp; (try with_reducible rfl))
                try simp only [Act.put, List.setIfInBounds_toArray, List.set_cons_zero, List.set_cons_succ]
                refine wpAnyH_take (i := 4) (oi := { dst := some 188, op := Op.move (Operand.tmp 15), type := 42, pos := "law.go:82", after := #[], guard := none }) (v := ?vtb3r36o4) rfl (by kernel_rfl) (by kernel_rfl) (by kernel_rfl) (fun _ _ _ h => h) (Or.inl ⟨by rfl, ?htb3r36o4⟩) hS ?_
                case htb3r36o4 => (intro wx hx; skip; go_simp; (try with_reducible rfl))
                try simp only [Act.put, List.setIfInBounds_toArray, List.set_cons_zero, List.set_cons_succ]
                refine wpAnyH_take (i := 5) (oi := { dst := some 189, op := Op.fieldAddr 46 (Operand.tmp 18) 1, type := 0, pos := "law.go:82", after := #[], guard := none }) (v := ?vtb3r36o5) rfl (by kernel_rfl) (by kernel_rfl) (by kernel_rfl) (fun _ _ _ h => h) (Or.inl ⟨by rfl, ?htb3r36o5⟩) hS ?_
                case htb3r36o5 => (intro wx hx; skip; go_simp; (try with_reducible rfl))
                try simp only [Act.put, List.setIfInBounds_toArray, List.set_cons_zero, List.set_cons_succ]
                refine wpAnyH_take (i := 6) (oi := { dst := some 190, op := Op.load 3 (Operand.tmp 189), type := 3, pos := "law.go:82", after := #[{ on := 5, ground := Ground.data }], guard := none }) (v := ?vtb3r36o6) rfl (by kernel_rfl) (by kernel_rfl) (by kernel_rfl) (fun _ _ _ h => h) (Or.inl ⟨by rfl, ?htb3r36o6⟩) hS ?_
                case htb3r36o6 => (intro wx hx; obtain ⟨x0, x1, x2⟩ := S7.facts hx; go_simp; (try with_reducible rfl))
                try simp only [Act.put, List.setIfInBounds_toArray, List.set_cons_zero, List.set_cons_succ]
                refine wpAnyH_ready (rs := [3]) (by kernel_rfl) (by simp) ?_
                refine AllReadyH.cons (o := { dst := some 187, op := Op.call { callee := Callee.value (Operand.func 19), args := #[Operand.tmp 184, Operand.tmp 186], argTypes := #[38, 3] }, type := 39, pos := "law.go:82", after := #[{ on := 0, ground := Ground.data }, { on := 2, ground := Ground.data }], guard := none }) rfl (fun K hK => ?_) AllReadyH.nil
                go_simp
                refine (HA.out _ hOr.out).mono ?_
                rintro e v1 ⟨rfl, hn⟩
                have hOn : Hid (Grommet.Own w v1 (PX R0 R1 RY g r a b c XI XB XA ys L2 L Qs Z (stC (D : Int) xn dr))) := Lib.hid hn
                clear hOr hn HA
                have hOr := hOn
                clear hOn
                refine hK.out _ _ ?hstb3r36o3 (fun hS => ?_)
                case hstb3r36o3 => (exact hOr.out.box _ (px_box _ _ _ _))
                clear hK K
                try simp only [Act.put, List.setIfInBounds_toArray, List.set_cons_zero, List.set_cons_succ]
                refine wpAnyH_ready (rs := [7]) (by kernel_rfl) (by simp) ?_
                refine AllReadyH.cons (o := { dst := some 191, op := Op.call { callee := Callee.value (Operand.func 20), args := #[Operand.tmp 188, Operand.tmp 190], argTypes := #[42, 3] }, type := 39, pos := "law.go:82", after := #[{ on := 4, ground := Ground.data }, { on := 6, ground := Ground.data }, { on := 3, ground := Ground.chain }], guard := none }) rfl (fun K hK => ?_) AllReadyH.nil
                go_simp
                refine (HB.out _ hOr.out).mono ?_
                rintro e v2 ⟨rfl, hn⟩
                have hOn : Hid (Grommet.Own w v2 (PX R0 R1 RY g r a b c XI XB XA ys L2 L2 Qs Z (stC (D : Int) xn dr))) := Lib.hid hn
                clear hOr hn HB
                have hOr := hOn
                clear hOn
                refine hK.out _ _ ?hstb3r36o7 (fun hS => ?_)
                case hstb3r36o7 => (exact hOr.out.box _ (px_box _ _ _ _))
                clear hK K
                try simp only [Act.put, List.setIfInBounds_toArray, List.set_cons_zero, List.set_cons_succ]
                refine wpAnyH_take (i := 8) (oi := { dst := some 192, op := Op.binOp BinOp.eql 39 (Operand.tmp 187) (Operand.tmp 191) 39, type := 4, pos := "law.go:82", after := #[{ on := 3, ground := Ground.data }, { on := 7, ground := Ground.data }], guard := none }) (v := ?vtb3r36o8) rfl (by kernel_rfl) (by kernel_rfl) (by kernel_rfl) (fun _ _ _ h => h) (Or.inl ⟨by rfl, ?htb3r36o8⟩) hS ?_
                case htb3r36o8 => (intro wx hx; skip; go_simp; (try with_reducible rfl))
                try simp only [Act.put, List.setIfInBounds_toArray, List.set_cons_zero, List.set_cons_succ]
                refine wpAnyH_take (i := 9) (oi := { dst := some 19, op := Op.assign (Operand.tmp 192), type := 4, pos := "law.go:82", after := #[{ on := 8, ground := Ground.data }, { on := 7, ground := Ground.chain }, { on := 0, ground := Ground.phase }, { on := 1, ground := Ground.phase }, { on := 2, ground := Ground.phase }, { on := 3, ground := Ground.phase }, { on := 4, ground := Ground.phase }, { on := 5, ground := Ground.phase }, { on := 6, ground := Ground.phase }, { on := 7, ground := Ground.phase }, { on := 8, ground := Ground.phase }], guard := none }) (v := ?vtb3r36o9) rfl (by kernel_rfl) (by kernel_rfl) (by kernel_rfl) (fun _ _ _ h => h) (Or.inl ⟨by rfl, ?htb3r36o9⟩) hS ?_
                case htb3r36o9 => (intro wx hx; skip; go_simp; (try with_reducible rfl))
                try simp only [Act.put, List.setIfInBounds_toArray, List.set_cons_zero, List.set_cons_succ]
                refine wpAnyH_done (by kernel_rfl) ?_ _
                go_wp2_with fail
                go_meet
                case rel => exact ⟨L2, rfl, hOr⟩
              · as_aux_lemma =>
                have HR := Lib.hid hr
                clear hr
                have q0 : ((rr : Int) == 0) = false := by rw [HR.out]; rfl
                have q1 : ((rr : Int) == 1) = false := by rw [HR.out]; rfl
                have q2 : ((rr : Int) == 2) = false := by rw [HR.out]; rfl
                have q3 : ((rr : Int) == 3) = true := by rw [HR.out]; rfl
                obtain ⟨en, he⟩ : ∃ en : Int, (giveE ys L (272 + 208 * a) c xn : Int) = en := ⟨_, rfl⟩
                obtain ⟨L2, hL2⟩ : ∃ L2, giveL ys L (272 + 208 * a) c xn = L2 := ⟨_, rfl⟩
                have HA := Lib.hid (fun wx (hO : Grommet.Own w wx (PX R0 R1 RY g r a b c XI XB XA ys L L Qs Z (stC (D : Int) xn dr))) => GiveBlockH 2 5 6 7 g a b c XI XB XA ys L xn en w wx _ (PX R0 R1 RY g r a b c XI XB XA ys L2 L Qs Z (stC (D : Int) xn dr)) hO (HAl.out _ _ _ _) he (by rw [hL2]; rfl))
                have HB := Lib.hid (fun wx (hO : Grommet.Own w wx (PX R0 R1 RY g r a b c XI XB XA ys L2 L Qs Z (stC (D : Int) xn dr))) => RGiveBlockQ 3 kI kB kA r a b c XI2 XB2 XA2 ys L xn en w wx _ (PX R0 R1 RY g r a b c XI XB XA ys L2 L2 Qs Z (stC (D : Int) xn dr)) hO (HRl.out _ _ _ _) he (by rw [hL2]; rfl))
                have hOr := Lib.hid (hO8.out.quiet (grown_drew (World.grownBy.refl _ none)))
                have hZ0 := Lib.hid (show S7 Z D xn dr _ from hOr.out.box _ (px_box _ _ _ _))
                have qe : (en == en) = true := by simp
                clear he hL2 hO8
                go_wp2_with fail
                refine wp_region_held_drew (S := fun w' => S7 Z D xn dr w') (by kernel_rfl) (hZ0.out) (fun hS => ?_)
                refine wpAnyH_take (i := 0) (oi := { dst := some 195, op := Op.move (Operand.tmp 13), type := 38, pos := "law.go:84", after := #[], guard := none }) (v := ?vtc3r38o0) rfl (by kernel_rfl) (by kernel_rfl) (by kernel_rfl) (fun _ _ _ h => h) (Or.inl ⟨by rfl, ?htc3r38o0⟩) hS ?_
                case htc3r38o0 => (intro wx hx; skip; go_simp; (try with_reducible rfl))
                try simp only [Act.put, List.setIfInBounds_toArray, List.set_cons_zero, List.set_cons_succ]
                refine wpAnyH_take (i := 1) (oi := { dst := some 196, op := Op.fieldAddr 46 (Operand.tmp 18) 1, type := 0, pos := "law.go:84", after := #[], guard := none }) (v := ?vtc3r38o1) rfl (by kernel_rfl) (by kernel_rfl) (by kernel_rfl) (fun _ _ _ h => h) (Or.inl ⟨by rfl, ?htc3r38o1⟩) hS ?_
                case htc3r38o1 => (intro wx hx; skip; go_simp; (try with_reducible rfl))
                try simp only [Act.put, List.setIfInBounds_toArray, List.set_cons_zero, List.set_cons_succ]
                refine wpAnyH_take (i := 2) (oi := { dst := some 197, op := Op.load 3 (Operand.tmp 196), type := 3, pos := "law.go:84", after := #[{ on := 1, ground := Ground.data }], guard := none }) (v := ?vtc3r38o2) rfl (by kernel_rfl) (by kernel_rfl) (by kernel_rfl) (fun _ _ _ h => h) (Or.inl ⟨by rfl, ?htc3r38o2⟩) hS ?_
                case htc3r38o2 => (intro wx hx; obtain ⟨x0, x1, x2⟩ := S7.facts hx; go_simp; (try with_reducible rfl))
                try simp only [Act.put, List.setIfInBounds_toArray, List.set_cons_zero, List.set_cons_succ]
                refine wpAnyH_take (i := 4) (oi := { dst := some 199, op := Op.move (Operand.tmp 15), type := 42, pos := "law.go:84", after := #[], guard := none }) (v := ?vtc3r38o4) rfl (by kernel_rfl) (by kernel_rfl) (by kernel_rfl) (fun _ _ _ h => h) (Or.inl ⟨by rfl, ?htc3r38o4⟩) hS ?_
                case htc3r38o4 => (intro wx hx; skip; go_simp; (try with_reducible rfl))
                try simp only [Act.put, List.setIfInBounds_toArray, List.set_cons_zero, List.set_cons_succ]
                refine wpAnyH_take (i := 5) (oi := { dst := some 200, op := Op.fieldAddr 46 (Operand.tmp 18) 1, type := 0, pos := "law.go:84", after := #[], guard := none }) (v := ?vtc3r38o5) rfl (by kernel_rfl) (by kernel_rfl) (by kernel_rfl) (fun _ _ _ h => h) (Or.inl ⟨by rfl, ?htc3r38o5⟩) hS ?_
                case htc3r38o5 => (intro wx hx; skip; go_simp; (try with_reducible rfl))
                try simp only [Act.put, List.setIfInBounds_toArray, List.set_cons_zero, List.set_cons_succ]
                refine wpAnyH_take (i := 6) (oi := { dst := some 201, op := Op.load 3 (Operand.tmp 200), type := 3, pos := "law.go:84", after := #[{ on := 5, ground := Ground.data }], guard := none }) (v := ?vtc3r38o6) rfl (by kernel_rfl) (by kernel_rfl) (by kernel_rfl) (fun _ _ _ h => h) (Or.inl ⟨by rfl, ?htc3r38o6⟩) hS ?_
                case htc3r38o6 => (intro wx hx; obtain ⟨x0, x1, x2⟩ := S7.facts hx; go_simp; (try with_reducible rfl))
                try simp only [Act.put, List.setIfInBounds_toArray, List.set_cons_zero, List.set_cons_succ]
                refine wpAnyH_ready (rs := [3]) (by kernel_rfl) (by simp) ?_
                refine AllReadyH.cons (o := { dst := some 198, op := Op.call { callee := Callee.value (Operand.func 21), args := #[Operand.tmp 195, Operand.tmp 197], argTypes := #[38, 3] }, type := 39, pos := "law.go:84", after := #[{ on := 0, ground := Ground.data }, { on := 2, ground := Ground.data }], guard := none }) rfl (fun K hK => ?_) AllReadyH.nil
                go_simp
                refine (HA.out _ hOr.out).mono ?_
                rintro e v1 ⟨rfl, hn⟩
                have hOn : Hid (Grommet.Own w v1 (PX R0 R1 RY g r a b c XI XB XA ys L2 L Qs Z (stC (D : Int) xn dr))) := Lib.hid hn
                clear hOr hn HA
                have hOr := hOn
                clear hOn
                refine hK.out _ _ ?hstc3r38o3 (fun hS => ?_)
                case hstc3r38o3 => (exact hOr.out.box _ (px_box _ _ _ _))
                clear hK K
                try simp only [Act.put, List.setIfInBounds_toArray, List.set_cons_zero, List.set_cons_succ]
                refine wpAnyH_ready (rs := [7]) (by kernel_rfl) (by simp) ?_
                refine AllReadyH.cons (o := { dst := some 202, op := Op.call { callee := Callee.value (Operand.func 22), args := #[Operand.tmp 199, Operand.tmp 201], argTypes := #[42, 3] }, type := 39, pos := "law.go:84", after := #[{ on := 4, ground := Ground.data }, { on := 6, ground := Ground.data }, { on := 3, ground := Ground.chain }], guard := none }) rfl (fun K hK => ?_) AllReadyH.nil
                go_simp
                refine (HB.out _ hOr.out).mono ?_
                rintro e v2 ⟨rfl, hn⟩
                have hOn : Hid (Grommet.Own w v2 (PX R0 R1 RY g r a b c XI XB XA ys L2 L2 Qs Z (stC (D : Int) xn dr))) := Lib.hid hn
                clear hOr hn HB
                have hOr := hOn
                clear hOn
                refine hK.out _ _ ?hstc3r38o7 (fun hS => ?_)
                case hstc3r38o7 => (exact hOr.out.box _ (px_box _ _ _ _))
                clear hK K
                try simp only [Act.put, List.setIfInBounds_toArray, List.set_cons_zero, List.set_cons_succ]
                refine wpAnyH_take (i := 8) (oi := { dst := some 203, op := Op.binOp BinOp.eql 39 (Operand.tmp 198) (Operand.tmp 202) 39, type := 4, pos := "law.go:84", after := #[{ on := 3, ground := Ground.data }, { on := 7, ground := Ground.data }], guard := none }) (v := ?vtc3r38o8) rfl (by kernel_rfl) (by kernel_rfl) (by kernel_rfl) (fun _ _ _ h => h) (Or.inl ⟨by rfl, ?htc3r38o8⟩) hS ?_
                case htc3r38o8 => (intro wx hx; skip; go_simp; (try with_reducible rfl))
                try simp only [Act.put, List.setIfInBounds_toArray, List.set_cons_zero, List.set_cons_succ]
                refine wpAnyH_take (i := 9) (oi := { dst := some 19, op := Op.assign (Operand.tmp 203), type := 4, pos := "law.go:84", after := #[{ on := 8, ground := Ground.data }, { on := 7, ground := Ground.chain }, { on := 0, ground := Ground.phase }, { on := 1, ground := Ground.phase }, { on := 2, ground := Ground.phase }, { on := 3, ground := Ground.phase }, { on := 4, ground := Ground.phase }, { on := 5, ground := Ground.phase }, { on := 6, ground := Ground.phase }, { on := 7, ground := Ground.phase }, { on := 8, ground := Ground.phase }], guard := none }) (v := ?vtc3r38o9) rfl (by kernel_rfl) (by kernel_rfl) (by kernel_rfl) (fun _ _ _ h => h) (Or.inl ⟨by rfl, ?htc3r38o9⟩) hS ?_
                case htc3r38o9 => (intro wx hx; skip; go_simp; (try with_reducible rfl))
                try simp only [Act.put, List.setIfInBounds_toArray, List.set_cons_zero, List.set_cons_succ]
                refine wpAnyH_done (by kernel_rfl) ?_ _
                go_wp2_with fail
                go_meet
                case rel => exact ⟨L2, rfl, hOr⟩
              · as_aux_lemma =>
                have HR := Lib.hid hr
                clear hr
                have q0 : ((rr : Int) == 0) = false := by rw [HR.out]; rfl
                have q1 : ((rr : Int) == 1) = false := by rw [HR.out]; rfl
                have q2 : ((rr : Int) == 2) = false := by rw [HR.out]; rfl
                have q3 : ((rr : Int) == 3) = false := by rw [HR.out]; rfl
                obtain ⟨v, hv⟩ : ∃ v, getM ys L (272 + 208 * a) c xn = v := ⟨_, rfl⟩
                have HA := Lib.hid (fun wx (hO : Grommet.Own w wx (PX R0 R1 RY g r a b c XI XB XA ys L L Qs Z (stC (D : Int) xn dr))) => UsedH 2 5 6 7 g a b c XI XB XA ys L xn v w wx _ hO (HAl.out _ _ _ _) hv)
                have HB := Lib.hid (fun wx (hO : Grommet.Own w wx (PX R0 R1 RY g r a b c XI XB XA ys L L Qs Z (stC (D : Int) xn dr))) => RUsedQ 3 kI kB kA r a b c XI2 XB2 XA2 ys L xn v w wx _ hO (HRl.out _ _ _ _) hv)
                have hOr := Lib.hid (hO8.out.quiet (grown_drew (World.grownBy.refl _ none)))
                have hZ0 := Lib.hid (show S7 Z D xn dr _ from hOr.out.box _ (px_box _ _ _ _))
                have qv : (v == v) = true := by simp
                clear hv hO8
                go_wp2_with fail
                refine wp_region_held_drew (S := fun w' => S7 Z D xn dr w') (by kernel_rfl) (hZ0.out) (fun hS => ?_)
                refine wpAnyH_take (i := 0) (oi := { dst := some 133, op := Op.move (Operand.tmp 13), type := 38, pos := "law.go:86", after := #[], guard := none }) (v := ?vta3r26o0) rfl (by kernel_rfl) (by kernel_rfl) (by kernel_rfl) (fun _ _ _ h => h) (Or.inl ⟨by rfl, ?hta3r26o0⟩) hS ?_
                case hta3r26o0 => (intro wx hx; skip; go_simp; (try with_reducible rfl))
                try simp only [Act.put, List.setIfInBounds_toArray, List.set_cons_zero, List.set_cons_succ]
                refine wpAnyH_take (i := 1) (oi := { dst := some 134, op := Op.fieldAddr 46 (Operand.tmp 18) 1, type := 0, pos := "law.go:86", after := #[], guard := none }) (v := ?vta3r26o1) rfl (by kernel_rfl) (by kernel_rfl) (by kernel_rfl) (fun _ _ _ h => h) (Or.inl ⟨by rfl, ?hta3r26o1⟩) hS ?_
                case hta3r26o1 => (intro wx hx; skip; go_simp; (try with_reducible rfl))
                try simp only [Act.put, List.setIfInBounds_toArray, List.set_cons_zero, List.set_cons_succ]
                refine wpAnyH_take (i := 2) (oi := { dst := some 135, op := Op.load 3 (Operand.tmp 134), type := 3, pos := "law.go:86", after := #[{ on := 1, ground := Ground.data }], guard := none }) (v := ?vta3r26o2) rfl (by kernel_rfl) (by kernel_rfl) (by kernel_rfl) (fun _ _ _ h => h) (Or.inl ⟨by rfl, ?hta3r26o2⟩) hS ?_
                case hta3r26o2 => (intro wx hx; obtain ⟨x0, x1, x2⟩ := S7.facts hx; go_simp; (try with_reducible rfl))
                try simp only [Act.put, List.setIfInBounds_toArray, List.set_cons_zero, List.set_cons_succ]
                refine wpAnyH_take (i := 4) (oi := { dst := some 137, op := Op.move (Operand.tmp 15), type := 42, pos := "law.go:86", after := #[], guard := none }) (v := ?vta3r26o4) rfl (by kernel_rfl) (by kernel_rfl) (by kernel_rfl) (fun _ _ _ h => h) (Or.inl ⟨by rfl, ?hta3r26o4⟩) hS ?_
                case hta3r26o4 => (intro wx hx; skip; go_simp; (try with_reducible rfl))
                try simp only [Act.put, List.setIfInBounds_toArray, List.set_cons_zero, List.set_cons_succ]
                refine wpAnyH_take (i := 5) (oi := { dst := some 138, op := Op.fieldAddr 46 (Operand.tmp 18) 1, type := 0, pos := "law.go:86", after := #[], guard := none }) (v := ?vta3r26o5) rfl (by kernel_rfl) (by kernel_rfl) (by kernel_rfl) (fun _ _ _ h => h) (Or.inl ⟨by rfl, ?hta3r26o5⟩) hS ?_
                case hta3r26o5 => (intro wx hx; skip; go_simp; (try with_reducible rfl))
                try simp only [Act.put, List.setIfInBounds_toArray, List.set_cons_zero, List.set_cons_succ]
                refine wpAnyH_take (i := 6) (oi := { dst := some 139, op := Op.load 3 (Operand.tmp 138), type := 3, pos := "law.go:86", after := #[{ on := 5, ground := Ground.data }], guard := none }) (v := ?vta3r26o6) rfl (by kernel_rfl) (by kernel_rfl) (by kernel_rfl) (fun _ _ _ h => h) (Or.inl ⟨by rfl, ?hta3r26o6⟩) hS ?_
                case hta3r26o6 => (intro wx hx; obtain ⟨x0, x1, x2⟩ := S7.facts hx; go_simp; (try with_reducible rfl))
                try simp only [Act.put, List.setIfInBounds_toArray, List.set_cons_zero, List.set_cons_succ]
                refine wpAnyH_ready (rs := [3]) (by kernel_rfl) (by simp) ?_
                refine AllReadyH.cons (o := { dst := some 136, op := Op.call { callee := Callee.value (Operand.func 23), args := #[Operand.tmp 133, Operand.tmp 135], argTypes := #[38, 3] }, type := 4, pos := "law.go:86", after := #[{ on := 0, ground := Ground.data }, { on := 2, ground := Ground.data }], guard := none }) rfl (fun K hK => ?_) AllReadyH.nil
                go_simp
                refine (HA.out _ hOr.out).mono ?_
                rintro e v1 ⟨rfl, hn⟩
                have hOn : Hid (Grommet.Own w v1 (PX R0 R1 RY g r a b c XI XB XA ys L L Qs Z (stC (D : Int) xn dr))) := Lib.hid hn
                clear hOr hn HA
                have hOr := hOn
                clear hOn
                refine hK.out _ _ ?hsta3r26o3 (fun hS => ?_)
                case hsta3r26o3 => (exact hOr.out.box _ (px_box _ _ _ _))
                clear hK K
                try simp only [Act.put, List.setIfInBounds_toArray, List.set_cons_zero, List.set_cons_succ]
                refine wpAnyH_ready (rs := [7]) (by kernel_rfl) (by simp) ?_
                refine AllReadyH.cons (o := { dst := some 140, op := Op.call { callee := Callee.value (Operand.func 24), args := #[Operand.tmp 137, Operand.tmp 139], argTypes := #[42, 3] }, type := 4, pos := "law.go:86", after := #[{ on := 4, ground := Ground.data }, { on := 6, ground := Ground.data }, { on := 3, ground := Ground.chain }], guard := none }) rfl (fun K hK => ?_) AllReadyH.nil
                go_simp
                refine (HB.out _ hOr.out).mono ?_
                rintro e v2 ⟨rfl, hn⟩
                have hOn : Hid (Grommet.Own w v2 (PX R0 R1 RY g r a b c XI XB XA ys L L Qs Z (stC (D : Int) xn dr))) := Lib.hid hn
                clear hOr hn HB
                have hOr := hOn
                clear hOn
                refine hK.out _ _ ?hsta3r26o7 (fun hS => ?_)
                case hsta3r26o7 => (exact hOr.out.box _ (px_box _ _ _ _))
                clear hK K
                try simp only [Act.put, List.setIfInBounds_toArray, List.set_cons_zero, List.set_cons_succ]
                refine wpAnyH_take (i := 8) (oi := { dst := some 141, op := Op.binOp BinOp.eql 4 (Operand.tmp 136) (Operand.tmp 140) 4, type := 4, pos := "law.go:86", after := #[{ on := 3, ground := Ground.data }, { on := 7, ground := Ground.data }], guard := none }) (v := ?vta3r26o8) rfl (by kernel_rfl) (by kernel_rfl) (by kernel_rfl) (fun _ _ _ h => h) (Or.inl ⟨by rfl, ?hta3r26o8⟩) hS ?_
                case hta3r26o8 => (intro wx hx; skip; go_simp; (try with_reducible rfl))
                try simp only [Act.put, List.setIfInBounds_toArray, List.set_cons_zero, List.set_cons_succ]
                refine wpAnyH_take (i := 9) (oi := { dst := some 19, op := Op.assign (Operand.tmp 141), type := 4, pos := "law.go:86", after := #[{ on := 8, ground := Ground.data }, { on := 7, ground := Ground.chain }, { on := 0, ground := Ground.phase }, { on := 1, ground := Ground.phase }, { on := 2, ground := Ground.phase }, { on := 3, ground := Ground.phase }, { on := 4, ground := Ground.phase }, { on := 5, ground := Ground.phase }, { on := 6, ground := Ground.phase }, { on := 7, ground := Ground.phase }, { on := 8, ground := Ground.phase }], guard := none }) (v := ?vta3r26o9) rfl (by kernel_rfl) (by kernel_rfl) (by kernel_rfl) (fun _ _ _ h => h) (Or.inl ⟨by rfl, ?hta3r26o9⟩) hS ?_
                case hta3r26o9 => (intro wx hx; skip; go_simp; (try with_reducible rfl))
                try simp only [Act.put, List.setIfInBounds_toArray, List.set_cons_zero, List.set_cons_succ]
                refine wpAnyH_done (by kernel_rfl) ?_ _
                go_wp2_with fail
                go_meet
                case rel => exact ⟨L, rfl, hOr⟩
            case rest =>
            obtain ⟨L2, rfl, hO9⟩ := hcut
            clear hO8 z0 z1 z2 e5 e5' wr5 hr5 Hr b1
            obtain ⟨p, hp⟩ : ∃ p : Int, (b : Int) - (cntF (mbit ys L2 (264 + 208 * a)) b : Int) = p := ⟨_, rfl⟩
            obtain ⟨p2, hp2⟩ : ∃ p : Int, (c : Int) - (cntF (mbit ys L2 (272 + 208 * a)) c : Int) = p := ⟨_, rfl⟩
            have HF1 := Lib.hid (FreeH 2 5 6 7 g a b c XI XB XA ys L2 p p2 w _ _ hO9.out (HAl.out _ _ _ _) hp hp2)
            have HF2 := Lib.hid (fun wx (hO : Grommet.Own w wx (PX R0 R1 RY g r a b c XI XB XA ys L2 L2 Qs Z (stC (D : Int) xn dr))) => RFreeQ 3 kI kB kA r a b c XI2 XB2 XA2 ys L2 p p2 w wx _ hO (HRl.out _ _ _ _) hp hp2)
            have q1 : (p != p) = false := by simp
            have q2 : (p2 != p2) = false := by simp
            clear hp hp2 hO9
            go_wp2_with fail
            refine HF1.out.mono ?_
            rintro e w6 ⟨rfl, hO6⟩
            have HF3 := Lib.hid (HF2.out w6 hO6)
            clear HF1 HF2 hO6
            go_wp2_with fail
            refine HF3.out.mono ?_
            rintro e w7 ⟨rfl, hO7⟩
            have hO10 : Hid (Grommet.Own w w7 (PS R0 R1 RY g r a b c XI XB XA ys L2 L2 Qs)) := Lib.hid (Own.less hO7)
            have wk : IntKind.i64.wrap ((k : Int) + 1) = (k : Int) + 1 := IntWalk.i64_in _ ⟨by omega, by omega⟩
            clear HF3 hO7
            go_wp2
            go_roundw
            case rel => exact ⟨k + 1, L2, by omega, by go_num, hO10⟩
            case measure => simp [intOf]; omega
          · as_aux_lemma =>
            have hlt' : ¬ (k : Int) < (sl : Int) := by omega
            obtain ⟨mL, hmL⟩ : ∃ mL, L.length = mL := ⟨_, rfl⟩
            obtain ⟨adl, cpl, hcl, _, hatl⟩ := refQ_obj hO.out 3 rfl
            have hwl := Own.wl hO.out 2 rfl
            have hmb : mL ≤ 96 := by rw [← hmL]; exact hwl.1.few
            have hfs := Lib.hid (flatV_small hwl.2.1 hwl.1.val)
            rw [hmL] at hcl
            have HmL := Lib.hid hmL
            have hR0 : SR r adl mL cpl wr := hcl
            have hR0 := Lib.hid hR0
            have hat9 := Lib.hid (hatl.grown (grown_drew (World.grownBy.refl wr none)) (by simp))
            have HW := Lib.hid (fun wx (h : Grommet.Own w wx (PS R0 R1 RY g r a b c XI XB XA ys L L Qs)) => WritesG 2 g ys L w wx _ h rfl)
            rw [hmL] at HW
            have HF := Lib.hid (fun (ad1 : Option Addr) (cp1 : Nat) wx (h : Grommet.Own w wx (PS R0 R1 RY g r a b c XI XB XA ys L L Qs ++ [rowP 104 2 (.slice ad1 mL cp1) mL (wcells L)])) => FlatG 2 g ys L w wx _ h rfl)
            rw [hyl] at HF
            have HG := Lib.hid (fun (ad1 ad2 : Option Addr) (cp1 cp2 : Nat) wx (h : Grommet.Own w wx ((PS R0 R1 RY g r a b c XI XB XA ys L L Qs ++ [rowP 104 2 (.slice ad1 mL cp1) mL (wcells L)]) ++ [rowP 31 1 (.slice ad2 n cp2) n ((flatV ys L).map wv)])) => RefFlatQ 3 r ys L w wx _ h rfl)
            rw [hyl] at HG
            have hOr := Lib.hid (hO.out.quiet (grown_drew (World.grownBy.refl wr none)))
            clear hO hwl hcl hatl hmL hlt hk
            go_wp2_with fail
            refine wp_region_held_drew (S := fun w' => SR r adl mL cpl w') (by kernel_rfl) (hR0.out) (fun hS => ?_)
            refine wpAnyH_take (i := 0) (oi := { dst := some 226, op := Op.move (Operand.tmp 11), type := 34, pos := "law.go:94", after := #[], guard := none }) (v := ?vtd3r43o0) rfl (by kernel_rfl) (by kernel_rfl) (by kernel_rfl) (fun _ _ _ h => h) (Or.inl ⟨by rfl, ?htd3r43o0⟩) hS ?_
            case htd3r43o0 => (intro wx hx; skip; go_simp; (try with_reducible rfl))
            try simp only [Act.put, List.setIfInBounds_toArray, List.set_cons_zero, List.set_cons_succ]
            refine wpAnyH_take (i := 2) (oi := { dst := some 228, op := Op.move (Operand.tmp 12), type := 36, pos := "law.go:94", after := #[], guard := none }) (v := ?vtd3r43o2) rfl (by kernel_rfl) (by kernel_rfl) (by kernel_rfl) (fun _ _ _ h => h) (Or.inl ⟨by rfl, ?htd3r43o2⟩) hS ?_
            case htd3r43o2 => (intro wx hx; skip; go_simp; (try with_reducible rfl))
            try simp only [Act.put, List.setIfInBounds_toArray, List.set_cons_zero, List.set_cons_succ]
            refine wpAnyH_take (i := 3) (oi := { dst := some 229, op := Op.nilCheck (Operand.tmp 228), type := 0, pos := "law.go:94", after := #[{ on := 2, ground := Ground.data }], guard := none }) (v := ?vtd3r43o3) rfl (by kernel_rfl) (by kernel_rfl) (by kernel_rfl) (fun _ _ _ h => h) (Or.inl ⟨by rfl, ?htd3r43o3⟩) hS ?_
            case htd3r43o3 => (intro wx hx; skip; go_simp; (try with_reducible rfl))
            try simp only [Act.put, List.setIfInBounds_toArray, List.set_cons_zero, List.set_cons_succ]
            refine wpAnyH_take (i := 4) (oi := { dst := some 230, op := Op.fieldAddr 49 (Operand.tmp 229) 1, type := 0, pos := "law.go:94", after := #[{ on := 3, ground := Ground.data }], guard := none }) (v := ?vtd3r43o4) rfl (by kernel_rfl) (by kernel_rfl) (by kernel_rfl) (fun _ _ _ h => h) (Or.inl ⟨by rfl, ?htd3r43o4⟩) hS ?_
            case htd3r43o4 => (intro wx hx; skip; go_simp; (try with_reducible rfl))
            try simp only [Act.put, List.setIfInBounds_toArray, List.set_cons_zero, List.set_cons_succ]
            refine wpAnyH_take (i := 5) (oi := { dst := some 231, op := Op.load 47 (Operand.tmp 230), type := 47, pos := "law.go:94", after := #[{ on := 4, ground := Ground.data }], guard := none }) (v := ?vtd3r43o5) rfl (by kernel_rfl) (by kernel_rfl) (by kernel_rfl) (fun _ _ _ h => h) (Or.inl ⟨by rfl, ?htd3r43o5⟩) hS ?_
            case htd3r43o5 => (intro wx hx; have x0 := hx; unfold SR at x0; go_simp; (try with_reducible rfl))
            try simp only [Act.put, List.setIfInBounds_toArray, List.set_cons_zero, List.set_cons_succ]
            refine wpAnyH_ready (rs := [1]) (by kernel_rfl) (by simp) ?_
            refine AllReadyH.cons (o := { dst := some 227, op := Op.call { callee := Callee.value (Operand.func 28), args := #[Operand.tmp 226], argTypes := #[34] }, type := 47, pos := "law.go:94", after := #[{ on := 0, ground := Ground.data }], guard := none }) rfl (fun K hK => ?_) AllReadyH.nil
            go_simp
            refine (HW.out _ hOr.out).mono ?_
            rintro e v1 ⟨ad1, cp1, rfl, hO1, hg1⟩
            have hS1 := SR.keep hS hg1
            have hA1 := hat9.out.grown hg1 (by simp)
            have hOn : Hid (Grommet.Own w v1 (PS R0 R1 RY g r a b c XI XB XA ys L L Qs ++ [rowP 104 2 (.slice ad1 mL cp1) mL (wcells L)])) := Lib.hid hO1
            obtain ⟨p7, _⟩ := Own.pairs hO1 _ (app_last _ _)
            have HS9 := Lib.hid (fun wx (hg : v1.grownBy wx none) => SameW_any ad1 adl mL mL cp1 cpl L L wx (p7.grown hg (by simp)) (hA1.grown hg (by simp)) HmL.out HmL.out (by omega))
            rw [decide_eq_true rfl] at HS9
            clear hOr hat9 hA1 hO1 hg1 p7 HW
            have hOr := hOn
            clear hOn
            refine hK.out _ _ ?hstd3r43o1 (fun hS => ?_)
            case hstd3r43o1 => (exact hS1)
            clear hK K
            try simp only [Act.put, List.setIfInBounds_toArray, List.set_cons_zero, List.set_cons_succ]
            refine wpAnyH_ready (rs := [6]) (by kernel_rfl) (by simp) ?_
            refine AllReadyH.cons (o := { dst := some 232, op := Op.call { callee := Callee.value (Operand.func 27), args := #[Operand.tmp 227, Operand.tmp 231], argTypes := #[47, 47] }, type := 4, pos := "law.go:94", after := #[{ on := 1, ground := Ground.data }, { on := 5, ground := Ground.data }, { on := 1, ground := Ground.chain }], guard := none }) rfl (fun K hK => ?_) AllReadyH.nil
            go_simp
            refine (HS9.out _ (World.grownBy.refl _ none)).mono ?_
            rintro e v2 ⟨rfl, hg2⟩
            have hS1 := SR.keep hS hg2
            have hOn := Lib.hid (hOr.out.quiet hg2)
            clear hOr hg2 HS9
            have hOr := hOn
            clear hOn
            refine hK.out _ _ ?hstd3r43o6 (fun hS => ?_)
            case hstd3r43o6 => (exact hS1)
            clear hK K
            try simp only [Act.put, List.setIfInBounds_toArray, List.set_cons_zero, List.set_cons_succ]
            refine wpAnyH_take (i := 7) (oi := { dst := some 233, op := Op.move (Operand.tmp 232), type := 4, pos := "law.go:94", after := #[{ on := 6, ground := Ground.data }, { on := 6, ground := Ground.chain }], guard := none }) (v := ?vtd3r43o7) rfl (by kernel_rfl) (by kernel_rfl) (by kernel_rfl) (fun _ _ _ h => h) (Or.inl ⟨by rfl, ?htd3r43o7⟩) hS ?_
            case htd3r43o7 => (intro wx hx; skip; go_simp; (try with_reducible rfl))
            try simp only [Act.put, List.setIfInBounds_toArray, List.set_cons_zero, List.set_cons_succ]
            refine wpAnyH_take (i := 8) (oi := { dst := some 234, op := Op.move (Operand.tmp 11), type := 34, pos := "law.go:94", after := #[{ on := 7, ground := Ground.guard }], guard := some (7, true) }) (v := ?vtd3r43o8) rfl (by kernel_rfl) (by kernel_rfl) (by kernel_rfl) (fun _ _ _ h => h) (Or.inl ⟨by rfl, ?htd3r43o8⟩) hS ?_
            case htd3r43o8 => (intro wx hx; skip; go_simp; (try with_reducible rfl))
            try simp only [Act.put, List.setIfInBounds_toArray, List.set_cons_zero, List.set_cons_succ]
            refine wpAnyH_take (i := 10) (oi := { dst := some 236, op := Op.move (Operand.tmp 12), type := 36, pos := "law.go:94", after := #[{ on := 7, ground := Ground.guard }], guard := some (7, true) }) (v := ?vtd3r43o10) rfl (by kernel_rfl) (by kernel_rfl) (by kernel_rfl) (fun _ _ _ h => h) (Or.inl ⟨by rfl, ?htd3r43o10⟩) hS ?_
            case htd3r43o10 => (intro wx hx; skip; go_simp; (try with_reducible rfl))
            try simp only [Act.put, List.setIfInBounds_toArray, List.set_cons_zero, List.set_cons_succ]
            refine wpAnyH_ready (rs := [9]) (by kernel_rfl) (by simp) ?_
            refine AllReadyH.cons (o := { dst := some 235, op := Op.call { callee := Callee.value (Operand.func 30), args := #[Operand.tmp 234], argTypes := #[34] }, type := 28, pos := "law.go:94", after := #[{ on := 8, ground := Ground.data }, { on := 7, ground := Ground.chain }, { on := 7, ground := Ground.guard }], guard := some (7, true) }) rfl (fun K hK => ?_) AllReadyH.nil
            go_simp
            refine (HF.out _ _ _ hOr.out).mono ?_
            rintro e v3 ⟨ad2, cp2, rfl, hO3, hg3⟩
            have hS1 := SR.keep hS hg3
            have hOn : Hid (Grommet.Own w v3 ((PS R0 R1 RY g r a b c XI XB XA ys L L Qs ++ [rowP 104 2 (.slice ad1 mL cp1) mL (wcells L)]) ++ [rowP 31 1 (.slice ad2 n cp2) n ((flatV ys L).map wv)])) := Lib.hid hO3
            clear hOr hO3 hg3 HF
            have hOr := hOn
            clear hOn
            refine hK.out _ _ ?hstd3r43o9 (fun hS => ?_)
            case hstd3r43o9 => (exact hS1)
            clear hK K
            try simp only [Act.put, List.setIfInBounds_toArray, List.set_cons_zero, List.set_cons_succ]
            refine wpAnyH_ready (rs := [11]) (by kernel_rfl) (by simp) ?_
            refine AllReadyH.cons (o := { dst := some 237, op := Op.call { callee := Callee.value (Operand.func 31), args := #[Operand.tmp 236], argTypes := #[36] }, type := 28, pos := "law.go:94", after := #[{ on := 10, ground := Ground.data }, { on := 9, ground := Ground.chain }, { on := 7, ground := Ground.guard }], guard := some (7, true) }) rfl (fun K hK => ?_) AllReadyH.nil
            go_simp
            refine (HG.out _ _ _ _ _ hOr.out).mono ?_
            rintro e v4 ⟨ad3, cp3, rfl, hO4, hg4⟩
            have hS1 := SR.keep hS hg4
            obtain ⟨p8, _, _⟩ := Own.words hO4 _ (app_last2 _ _ _) hfs.out (by omega)
            obtain ⟨p9, _, _⟩ := Own.words hO4 _ (app_last _ _) hfs.out (by omega)
            have HS8 := Lib.hid (Same_any ad2 ad3 n n cp2 cp3 _ _ v4 p8 p9)
            rw [decide_eq_true rfl] at HS8
            have hOn := Lib.hid hO4
            clear hOr hO4 hg4 p8 p9 HG
            have hOr := hOn
            clear hOn
            refine hK.out _ _ ?hstd3r43o11 (fun hS => ?_)
            case hstd3r43o11 => (exact hS1)
            clear hK K
            try simp only [Act.put, List.setIfInBounds_toArray, List.set_cons_zero, List.set_cons_succ]
            refine wpAnyH_ready (rs := [12]) (by kernel_rfl) (by simp) ?_
            refine AllReadyH.cons (o := { dst := some 238, op := Op.call { callee := Callee.value (Operand.func 29), args := #[Operand.tmp 235, Operand.tmp 237], argTypes := #[28, 28] }, type := 4, pos := "law.go:94", after := #[{ on := 9, ground := Ground.data }, { on := 11, ground := Ground.data }, { on := 11, ground := Ground.chain }, { on := 7, ground := Ground.guard }], guard := some (7, true) }) rfl (fun K hK => ?_) AllReadyH.nil
            go_simp
            refine HS8.out.mono ?_
            rintro e v5 ⟨rfl, hg5⟩
            have hS1 := SR.keep hS hg5
            have hOn := Lib.hid (hOr.out.quiet hg5)
            clear hOr hg5 HS8
            have hOr := hOn
            clear hOn
            have HWk := Lib.hid (works7_tab v5 (tab_grown HTab.out hOr.out.grown))
            refine hK.out _ _ ?hstd3r43o12 (fun hS => ?_)
            case hstd3r43o12 => (exact hS1)
            clear hK K
            try simp only [Act.put, List.setIfInBounds_toArray, List.set_cons_zero, List.set_cons_succ]
            refine wpAnyH_take (i := 13) (oi := { dst := some 239, op := Op.pick (Operand.tmp 233) (Operand.tmp 238) (Operand.const (Value.bool false)), type := 4, pos := "law.go:94", after := #[{ on := 7, ground := Ground.data }, { on := 12, ground := Ground.data }], guard := none }) (v := ?vtd3r43o13) rfl (by kernel_rfl) (by kernel_rfl) (by kernel_rfl) (fun _ _ _ h => h) (Or.inl ⟨by rfl, ?htd3r43o13⟩) hS ?_
            case htd3r43o13 => (intro wx hx; skip; go_simp; (try with_reducible rfl))
            try simp only [Act.put, List.setIfInBounds_toArray, List.set_cons_zero, List.set_cons_succ]
            refine wpAnyH_take (i := 14) (oi := { dst := some 240, op := Op.move (Operand.tmp 239), type := 4, pos := "law.go:94", after := #[{ on := 13, ground := Ground.data }, { on := 12, ground := Ground.chain }], guard := none }) (v := ?vtd3r43o14) rfl (by kernel_rfl) (by kernel_rfl) (by kernel_rfl) (fun _ _ _ h => h) (Or.inl ⟨by rfl, ?htd3r43o14⟩) hS ?_
            case htd3r43o14 => (intro wx hx; skip; go_simp; (try with_reducible rfl))
            try simp only [Act.put, List.setIfInBounds_toArray, List.set_cons_zero, List.set_cons_succ]
            refine wpAnyH_ready (rs := [15]) (by kernel_rfl) (by simp) ?_
            refine AllReadyH.cons (o := { dst := some 241, op := Op.call { callee := Callee.value (Operand.func 8), args := #[], argTypes := #[] }, type := 4, pos := "law.go:94", after := #[{ on := 14, ground := Ground.chain }, { on := 14, ground := Ground.guard }], guard := some (14, true) }) rfl (fun K hK => ?_) AllReadyH.nil
            go_simp
            refine HWk.out.mono ?_
            rintro e v6 ⟨rfl, hg6⟩
            have hS1 := SR.keep hS hg6
            have hfin := Lib.hid (grown_trans hOr.out.grown hg6)
            clear hOr hg6 HWk
            refine hK.out _ _ ?hstd3r43o15 (fun hS => ?_)
            case hstd3r43o15 => (exact hS1)
            clear hK K
            try simp only [Act.put, List.setIfInBounds_toArray, List.set_cons_zero, List.set_cons_succ]
            refine wpAnyH_take (i := 16) (oi := { dst := some 242, op := Op.pick (Operand.tmp 240) (Operand.tmp 241) (Operand.const (Value.bool false)), type := 4, pos := "law.go:94", after := #[{ on := 14, ground := Ground.data }, { on := 15, ground := Ground.data }], guard := none }) (v := ?vtd3r43o16) rfl (by kernel_rfl) (by kernel_rfl) (by kernel_rfl) (fun _ _ _ h => h) (Or.inl ⟨by rfl, ?htd3r43o16⟩) hS ?_
            case htd3r43o16 => (intro wx hx; skip; go_simp; (try with_reducible rfl))
            try simp only [Act.put, List.setIfInBounds_toArray, List.set_cons_zero, List.set_cons_succ]
            refine wpAnyH_take (i := 17) (oi := { dst := some 8, op := Op.assign (Operand.tmp 242), type := 4, pos := "law.go:94", after := #[{ on := 16, ground := Ground.data }, { on := 15, ground := Ground.chain }, { on := 0, ground := Ground.phase }, { on := 1, ground := Ground.phase }, { on := 2, ground := Ground.phase }, { on := 3, ground := Ground.phase }, { on := 4, ground := Ground.phase }, { on := 5, ground := Ground.phase }, { on := 6, ground := Ground.phase }, { on := 7, ground := Ground.phase }, { on := 8, ground := Ground.phase }, { on := 9, ground := Ground.phase }, { on := 10, ground := Ground.phase }, { on := 11, ground := Ground.phase }, { on := 12, ground := Ground.phase }, { on := 13, ground := Ground.phase }, { on := 14, ground := Ground.phase }, { on := 15, ground := Ground.phase }, { on := 16, ground := Ground.phase }], guard := none }) (v := ?vtd3r43o17) rfl (by kernel_rfl) (by kernel_rfl) (by kernel_rfl) (fun _ _ _ h => h) (Or.inl ⟨by rfl, ?htd3r43o17⟩) hS ?_
            case htd3r43o17 => (intro wx hx; skip; go_simp; (try with_reducible rfl))
            try simp only [Act.put, List.setIfInBounds_toArray, List.set_cons_zero, List.set_cons_succ]
            refine wpAnyH_done (by kernel_rfl) ?_ _
            go_wp2
            go_ret
            exact ⟨rfl, hfin.out⟩

set_option maxRecDepth 100000 in
set_option maxHeartbeats 8000000 in
theorem walk_not (a b c : Int) (td : Option Addr) (tl tc : Nat) (D0 : Nat) (sd : Option Addr) (sl sc : Nat) (w : World) (hm : mayB a b c = false) (hD : D0 ≤ 65535) (htl : tl ≤ 20) (hsl : sl ≤ 200)
    (ht : Lib.TabIs Tryd.prog w "math/bits.deBruijn64tab" .u8 tab) :
    Calls Tryd.prog 3 #[gv a b c, .slice td tl tc, .int .u16 (D0 : Int), .slice sd sl sc] w (Go.Ev.WorksIs w) := by
  have HTab := Lib.hid ht
  have g1 : ¬ (20 : Int) < (tl : Int) := by omega
  have g2 : ¬ (200 : Int) < (sl : Int) := by omega
  have wD : IntKind.i64.wrap (D0 : Int) = (D0 : Int) := IntWalk.i64_in _ ⟨by omega, by omega⟩
  have Hm := Lib.hid hm
  clear ht hm
  unfold gv
  go_enter Tryd.func3, Tryd.ntmps3
  go_wp2_with fail
  have hO : Grommet.Own w (w.alloc (.cells #[.int .i64 a, .int .i64 b, .int .i64 c] 23)) [boxP w.heap.size 23 #[.int .i64 a, .int .i64 b, .int .i64 c]] := (Own.nil w).addBox _ _
  change Calls _ _ #[Value.agg #[.int .i64 a, .int .i64 b, .int .i64 c]] (w.alloc (.cells #[.int .i64 a, .int .i64 b, .int .i64 c] 23)) _
  generalize w.alloc (.cells #[.int .i64 a, .int .i64 b, .int .i64 c] 23) = u0 at hO ⊢
  obtain ⟨G, hG⟩ : ∃ G, w.heap.size = G := ⟨_, rfl⟩
  rw [hG] at hO ⊢
  have HF := Lib.hid (RFormat_none a b c u0 Hm.out)
  unfold gv at HF
  have HO := Lib.hid hO
  clear hG hO
  refine HF.out.mono ?_
  rintro e u1 ⟨rfl, hg1⟩
  have hO1 := Lib.hid (HO.out.quiet hg1)
  clear HF HO hg1
  go_wp2_with fail
  go_loopw [10] (fun i wr => i = .int .i64 0 ∧ Hid (Grommet.Own w wr [boxP G 23 #[.int .i64 a, .int .i64 b, .int .i64 c]])) (fun _ _ => 0)
  case atStart => exact ⟨rfl, hO1⟩
  case round =>
    clear hO1
    obtain ⟨rfl, hO⟩ := hrel
    rcases Nat.eq_zero_or_pos tl with htz | htz
    · as_aux_lemma =>
      have hlt' : ¬ (0 : Int) < (tl : Int) := by omega
      clear htz
      go_upto_region 8 with fail
      go_cut [9] (fun s wx => s = .slice none 0 0 ∧ Hid (Grommet.Own w wx [boxP G 23 #[.int .i64 a, .int .i64 b, .int .i64 c]]))
      case first =>
        as_aux_lemma =>
        have hsl := fun wx => slice_to (P := Tryd.prog) 28 31 Tryd.underlying28 1 Tryd.sizeOf31 none 0 0 0 (by omega) (fun _ ha => by cases ha) wx
        by_cases hmin : D0 = 0
        · subst hmin
          go_wp2_with fail
          go_meet
          case rel => exact ⟨rfl, hO⟩
        · have hle : ¬ (D0 : Int) ≤ 0 := by omega
          clear hmin
          go_wp2_with fail
          go_meet
          case rel => exact ⟨rfl, hO⟩
      case rest =>
      obtain ⟨rfl, hO⟩ := hcut
      have HV := Lib.hid (NewH none 0 0 [] w _ _ hO.out ⟨rfl, (fun n hn => by cases hn), At.nil _ _, by omega⟩ (by omega) (fun _ => ⟨rfl, rfl⟩))
      clear hO
      go_wp2_with fail
      refine HV.out.mono ?_
      rintro e w1 ⟨g, rfl, hO1⟩
      have HW2 := Lib.hid (RefNewQ none 0 0 [] w w1 _ hO1 ⟨rfl, (fun n hn => by cases hn), At.nil _ _, by omega⟩ (by omega) (fun _ => ⟨rfl, rfl⟩))
      clear HV hO1
      go_wp2_with fail
      refine HW2.out.mono ?_
      rintro e w2 ⟨r, rfl, hO2⟩
      have hO2 : Grommet.Own w w2 [boxP G 23 #[.int .i64 a, .int .i64 b, .int .i64 c], viewP g [] [], refQ r [] []] := hO2
      clear HW2
      have hb1 := hO2.box 0 rfl
      have f0 : w2.cell? ⟨G, 0, none⟩ = some (.int .i64 a) := by simp [World.cell?, hb1]
      have f1 : w2.cell? ⟨G, 1, none⟩ = some (.int .i64 b) := by simp [World.cell?, hb1]
      have f2 : w2.cell? ⟨G, 2, none⟩ = some (.int .i64 c) := by simp [World.cell?, hb1]
      have HA := Lib.hid (ANewBad g a b c w2 Hm.out)
      unfold gv at HA
      have hO3 := Lib.hid hO2
      clear hb1 hO2
      go_wp2_with fail
      refine HA.out.mono ?_
      rintro e w3 ⟨rfl, hg3⟩
      have hO4 := hO3.out.quiet hg3
      clear HA f0 f1 f2 hO3
      have hb1 := hO4.box 0 rfl
      have f0 : w3.cell? ⟨G, 0, none⟩ = some (.int .i64 a) := by simp [World.cell?, hb1]
      have f1 : w3.cell? ⟨G, 1, none⟩ = some (.int .i64 b) := by simp [World.cell?, hb1]
      have f2 : w3.cell? ⟨G, 2, none⟩ = some (.int .i64 c) := by simp [World.cell?, hb1]
      have HB := Lib.hid (RNewBad r a b c w3 Hm.out)
      unfold gv at HB
      have hg4 := Lib.hid hO4.grown
      clear hb1 hO4
      go_wp2_with fail
      refine HB.out.mono ?_
      rintro e w4 ⟨rfl, hg5⟩
      have HWk := Lib.hid (works7_tab w4 (tab_grown HTab.out (grown_trans hg4.out hg5)))
      have hg6 := Lib.hid (grown_trans hg4.out hg5)
      clear HB hg5 f0 f1 f2
      go_wp2_with fail
      refine HWk.out.mono ?_
      rintro e w5 ⟨rfl, hg7⟩
      have hfin := Lib.hid (grown_trans hg6.out hg7)
      clear hg7
      go_wp2
      go_ret
      exact ⟨rfl, hfin.out⟩
    · as_aux_lemma =>
      have hlt' : (0 : Int) < (tl : Int) := by omega
      clear htz
      go_upto_region 8 with fail
      go_cut [9] (fun s wx => s = .slice none 0 0 ∧ Hid (Grommet.Own w wx [boxP G 23 #[.int .i64 a, .int .i64 b, .int .i64 c]]))
      case first =>
        as_aux_lemma =>
        have hsl := fun wx => slice_to (P := Tryd.prog) 28 31 Tryd.underlying28 1 Tryd.sizeOf31 none 0 0 0 (by omega) (fun _ ha => by cases ha) wx
        by_cases hmin : D0 = 0
        · subst hmin
          go_wp2_with fail
          go_meet
          case rel => exact ⟨rfl, hO⟩
        · have hle : ¬ (D0 : Int) ≤ 0 := by omega
          clear hmin
          go_wp2_with fail
          go_meet
          case rel => exact ⟨rfl, hO⟩
      case rest =>
      obtain ⟨rfl, hO⟩ := hcut
      have HV := Lib.hid (NewH none 0 0 [] w _ _ hO.out ⟨rfl, (fun n hn => by cases hn), At.nil _ _, by omega⟩ (by omega) (fun _ => ⟨rfl, rfl⟩))
      clear hO
      go_wp2_with fail
      refine HV.out.mono ?_
      rintro e w1 ⟨g, rfl, hO1⟩
      have HW2 := Lib.hid (RefNewQ none 0 0 [] w w1 _ hO1 ⟨rfl, (fun n hn => by cases hn), At.nil _ _, by omega⟩ (by omega) (fun _ => ⟨rfl, rfl⟩))
      clear HV hO1
      go_wp2_with fail
      refine HW2.out.mono ?_
      rintro e w2 ⟨r, rfl, hO2⟩
      have hO2 : Grommet.Own w w2 [boxP G 23 #[.int .i64 a, .int .i64 b, .int .i64 c], viewP g [] [], refQ r [] []] := hO2
      clear HW2
      have hb1 := hO2.box 0 rfl
      have f0 : w2.cell? ⟨G, 0, none⟩ = some (.int .i64 a) := by simp [World.cell?, hb1]
      have f1 : w2.cell? ⟨G, 1, none⟩ = some (.int .i64 b) := by simp [World.cell?, hb1]
      have f2 : w2.cell? ⟨G, 2, none⟩ = some (.int .i64 c) := by simp [World.cell?, hb1]
      have HA := Lib.hid (ANewBad g a b c w2 Hm.out)
      unfold gv at HA
      have hO3 := Lib.hid hO2
      clear hb1 hO2
      go_wp2_with fail
      refine HA.out.mono ?_
      rintro e w3 ⟨rfl, hg3⟩
      have hO4 := hO3.out.quiet hg3
      clear HA f0 f1 f2 hO3
      have hb1 := hO4.box 0 rfl
      have f0 : w3.cell? ⟨G, 0, none⟩ = some (.int .i64 a) := by simp [World.cell?, hb1]
      have f1 : w3.cell? ⟨G, 1, none⟩ = some (.int .i64 b) := by simp [World.cell?, hb1]
      have f2 : w3.cell? ⟨G, 2, none⟩ = some (.int .i64 c) := by simp [World.cell?, hb1]
      have HB := Lib.hid (RNewBad r a b c w3 Hm.out)
      unfold gv at HB
      have hg4 := Lib.hid hO4.grown
      clear hb1 hO4
      go_wp2_with fail
      refine HB.out.mono ?_
      rintro e w4 ⟨rfl, hg5⟩
      have HWk := Lib.hid (works7_tab w4 (tab_grown HTab.out (grown_trans hg4.out hg5)))
      have hg6 := Lib.hid (grown_trans hg4.out hg5)
      clear HB hg5 f0 f1 f2
      go_wp2_with fail
      refine HWk.out.mono ?_
      rintro e w5 ⟨rfl, hg7⟩
      have hfin := Lib.hid (grown_trans hg6.out hg7)
      clear hg7
      go_wp2
      go_ret
      exact ⟨rfl, hfin.out⟩

theorem walk (a b c : Int) (td : Option Addr) (tl tc : Nat) (T : List Trn) (D : Int) (sd : Option Addr) (sl sc : Nat) (Y : List Alo) (w : World) (_ : (Lit.int .i64 a).wf = true) (_ : (Lit.int .i64 b).wf = true) (_ : (Lit.int .i64 c).wf = true) (hT : TrnsIn w td tl T) (w2 : (Lit.int .u16 D).wf = true) (hY : AlosIn w sd sl Y)
    (ht : Lib.TabIs Tryd.prog w "math/bits.deBruijn64tab" .u8 tab) :
    Calls Tryd.prog 3 #[gv a b c, .slice td tl tc, .int .u16 D, .slice sd sl sc] w (Go.Ev.WorksIs w) := by
  have b2 := bounds_u16 w2
  obtain ⟨D, rfl⟩ := Int.eq_ofNat_of_zero_le b2.1
  by_cases h : 20 < tl ∨ 200 < sl
  · exact walk_far a b c td tl tc _ sd sl sc w ht h
  · cases hm : mayB a b c with
    | false => exact walk_not a b c td tl tc D sd sl sc w hm (by omega) (by omega) (by omega) ht
    | true =>
      have hb := mayB_yes hm
      obtain ⟨a, rfl⟩ := Int.eq_ofNat_of_zero_le (show 0 ≤ a by omega)
      obtain ⟨b, rfl⟩ := Int.eq_ofNat_of_zero_le (show 0 ≤ b by omega)
      obtain ⟨c, rfl⟩ := Int.eq_ofNat_of_zero_le (show 0 ≤ c by omega)
      exact walk_may a b c td tl tc T D sd sl sc Y w hm (by omega) (by omega) (by omega) hT hY ht
end Go.Proofs.YtdblgnccjpjabaaDoor.allocPlays

