/- Texts of ours, packed. -/
import Derived.StillTailTactics
import Derived.Test.YtkalglcbmfhdfaaGreatPk24
import Derived.Test.YtkalglcbmfhdfaaGreatPk16
import Derived.Test.YtkalglcbmfhdfaaGreatPk19
section
/- The law's image: a new device's words, some of which were turned. -/
namespace Go.Proofs.YtkalglcbmfhdfaaGreat
open Go.RowKit Go.Grommet

theorem own_skip {w0 w : World} {Ps Qs : List Pr} {B : Pr} (h : Grommet.Own w0 w (Ps ++ B :: Qs)) : Grommet.Own w0 w (Ps ++ Qs) := by
  obtain ⟨Fs, h1, h2, h3, h4⟩ := h
  obtain ⟨f, hf⟩ : ∃ f : Nat → Nat, ∀ j, f j = if j < Ps.length then j else j + 1 := ⟨fun j => if j < Ps.length then j else j + 1, fun _ => rfl⟩
  have hg : ∀ j, (Ps ++ Qs)[j]? = (Ps ++ B :: Qs)[f j]? := by
    intro j
    rw [hf]
    split
    · rename_i hj
      rw [List.getElem?_append_left hj, List.getElem?_append_left hj]
    · rename_i hj
      rw [List.getElem?_append_right (by omega), List.getElem?_append_right (by omega), show j + 1 - Ps.length = (j - Ps.length) + 1 from by omega, List.getElem?_cons_succ]
  have hl : ∀ j, j < (Ps ++ Qs).length → f j < (Ps ++ B :: Qs).length := by
    intro j hj
    rw [List.length_append] at hj
    rw [hf, List.length_append, List.length_cons]
    split <;> omega
  refine ⟨fun j => Fs (f j), fun k P hk => h1 (f k) P (by rw [← hg]; exact hk), fun j k hj hk hne => h2 (f j) (f k) (hl j hj) (hl k hk) (fun e => hne ?_), fun k hk => h3 (f k) (hl k hk), h4⟩
  rw [hf, hf] at e
  split at e <;> split at e <;> omega
theorem RFormatW (a b c N : Nat) (xs : List Nat) (w0 w : World) (Ps : List Pr) (h : Grommet.Own w0 w Ps) (hm : mayB (a : Int) (b : Int) (c : Int) = true) (hN : 280 + 208 * a + 16 * b + 8 * c = N) (hxs : fmtL a b c (264 + 208 * a) N = xs) :
    Calls Tryz.prog 54 #[.agg #[.int .i64 (a : Int), .int .i64 (b : Int), .int .i64 (c : Int)]] w fun e w' => ∃ q, e = .returned (.slice (some ⟨q, 0, none⟩) N N) ∧ Grommet.Own w0 w' (Ps ++ [rowP 45 1 (.slice (some ⟨q, 0, none⟩) N N) N (xs.map wv)]) := by
  subst hN
  have hl := length_fmtL a b c (264 + 208 * a) (280 + 208 * a + 16 * b + 8 * c)
  rw [hxs] at hl
  have hmN := mayB_yes hm
  refine (RFormat_any a b c w hm).mono ?_
  rintro e w' ⟨q, rfl, hrow, hq, hg⟩
  rw [hxs] at hrow ⊢
  rw [hl]
  refine ⟨q, rfl, h.addRow ⟨by simp [hl], .inr ⟨q, 280 + 208 * a + 16 * b + 8 * c, _, rfl, hq, hrow, Nat.le_refl _, by unfold maxLen; omega, by simp [hl], by rw [List.take_of_length_le (by simp [hl])]⟩⟩ hg⟩

set_option maxRecDepth 100000 in
set_option maxHeartbeats 4000000 in
theorem ImageW (a b c : Nat) (hm : mayB (a : Int) (b : Int) (c : Int) = true) (td : Option Addr) (tl tc : Nat) (T : List Tur) (w0 w : World) (Ps : List Pr) (h : Grommet.Own w0 w Ps) (hT : TursIn w0 td tl T) (htl : tl ≤ 1000000) :
    Calls Tryz.prog 41 #[gv (a : Int) (b : Int) (c : Int), .slice td tl tc, .int .u16 0] w fun e w' => ∃ (YS : List Nat) (ad : Option Addr) (cp : Nat), e = .returned (.slice ad (280 + 208 * a + 16 * b + 8 * c) cp) ∧ YS.length = 280 + 208 * a + 16 * b + 8 * c ∧ (∀ n ∈ YS, n < 18446744073709551616) ∧ Grommet.Own w0 w' (Ps ++ [rowP 45 1 (.slice ad (280 + 208 * a + 16 * b + 8 * c) cp) (280 + 208 * a + 16 * b + 8 * c) (YS.map wv)]) := by
  obtain ⟨Z, hZe⟩ : ∃ Z, Z = 280 + 208 * a + 16 * b + 8 * c := ⟨_, rfl⟩
  obtain ⟨XR, hXe⟩ : ∃ XR, fmtL a b c (264 + 208 * a) Z = XR := ⟨_, rfl⟩
  have hmb := mayB_yes hm
  have hXl : XR.length = Z := by rw [← hXe, length_fmtL]
  have hXs : ∀ n ∈ XR, n < 18446744073709551616 := by rw [← hXe]; exact fmtW_small a b c Z hm
  have hZ : Z ≤ 100000 := by omega
  have hF := fun wx Qs hO => RFormatW a b c Z XR w0 wx Qs hO hm hZe.symm hXe
  have hZ1 : 1 ≤ Z := by omega
  rw [← hZe]
  have HF := Lib.hid hF
  have HXl := Lib.hid hXl
  have HXs := Lib.hid hXs
  have Hh := Lib.hid h
  have HT := Lib.hid hT
  obtain ⟨P, HP⟩ : ∃ P, Hid (P = Ps.length) := ⟨_, Lib.hid rfl⟩
  clear hF hXl hXs h hm hZe hXe hmb
  unfold gv at HF ⊢
  go_enter Tryz.func41, Tryz.ntmps41
  go_wp2_with fail
  refine (HF.out _ _ (Hh.out.addBox 23 #[.int .i64 (a : Int), .int .i64 (b : Int), .int .i64 (c : Int)])).mono ?_
  rintro e w1 ⟨q, rfl, hO⟩
  rw [List.append_assoc] at hO
  replace hO : Grommet.Own w0 w1 (Ps ++ [boxP w.heap.size 23 #[.int .i64 (a : Int), .int .i64 (b : Int), .int .i64 (c : Int)], rowP 45 1 (.slice (some ⟨q, 0, none⟩) Z Z) Z (XR.map wv)]) := hO
  generalize boxP w.heap.size 23 #[.int .i64 (a : Int), .int .i64 (b : Int), .int .i64 (c : Int)] = BX at hO
  replace hO := Lib.hid hO
  have z0 : (0 : Int) < (Z : Int) := by omega
  have zb : ((Z : Int) == 0) = false := by rw [beq_eq_false_iff_ne]; omega
  have zc : ¬ (Z : Int) = 0 := by omega
  have zn : ¬ Z = 0 := by omega
  go_wp2_with fail
  go_loopw [8] (fun i wr => ∃ k : Nat, k ≤ tl ∧ i = .int .i64 (k : Int) ∧ ∃ YS : List Nat, Hid (YS.length = Z ∧ ∀ n ∈ YS, n < 18446744073709551616) ∧ Hid (Grommet.Own w0 wr (Ps ++ [BX, rowP 45 1 (.slice (some ⟨q, 0, none⟩) Z Z) Z (YS.map wv)]))) (fun i _ => tl - (intOf i).toNat)
  case atStart => exact ⟨0, Nat.zero_le _, rfl, XR, Lib.hid ⟨HXl.out, HXs.out⟩, hO⟩
  case round =>
    clear hO
    obtain ⟨k, hk, rfl, YS, HY, hO⟩ := hrel
    have k0 : (0 : Int) ≤ (k : Int) := by omega
    by_cases hlt : k < tl
    · have hlt' : (k : Int) < (tl : Int) := by omega
      obtain ⟨x, hx⟩ : ∃ x, T[k]? = some x := ⟨T[k]'(by rw [HT.out.1]; exact hlt), List.getElem?_eq_getElem _⟩
      obtain ⟨g, o, rfl, c0, c1⟩ := (HT.out.grown hO.out.grown).2.2 k x hx
      obtain ⟨ok1, ok2⟩ := HT.out.2.1 x (List.mem_of_getElem? hx)
      have b1 := bounds_u16 ok1
      have b2 := bounds_u64 ok2
      obtain ⟨at_, ww⟩ := x
      dsimp only at c0 c1 b1 b2
      obtain ⟨A, rfl⟩ := Int.eq_ofNat_of_zero_le b1.1
      obtain ⟨V, rfl⟩ := Int.eq_ofNat_of_zero_le b2.1
      obtain ⟨C, HC⟩ : ∃ C, Hid (C = A % Z) := ⟨_, Lib.hid rfl⟩
      have hC : C < Z := by rw [HC.out]; exact Nat.mod_lt _ (by omega)
      have eC : (A : Int).tmod (Z : Int) = (C : Int) := by rw [HC.out, Int.tmod_eq_emod_of_nonneg (by omega)]; omega
      have eC' : (A : Int) % (Z : Int) = (C : Int) := by rw [HC.out]; omega
      have eCZ : (C : Int) < (Z : Int) := by omega
      have eC0 : (0 : Int) ≤ (C : Int) := by omega
      have wa : IntKind.i64.wrap (A : Int) = (A : Int) := IntWalk.i64_in _ ⟨by omega, by omega⟩
      have hki := show (Ps ++ [BX, rowP 45 1 (.slice (some ⟨q, 0, none⟩) Z Z) Z (YS.map wv)])[P + 1]? = some (rowP 45 1 (.slice (some ⟨q, 0, none⟩) Z Z) Z (YS.map wv)) by rw [HP.out, List.getElem?_append_right (by omega), show Ps.length + 1 - Ps.length = 1 from by omega]; rfl
      obtain ⟨U, HU⟩ : ∃ U, Hid (U = YS.getD C 0) := ⟨_, Lib.hid rfl⟩
      obtain ⟨q', he, cK, fK, _⟩ := Own.cell hO.out (P + 1) hki C (wv U) (by rw [List.getElem?_map, List.getElem?_eq_getElem (by rw [HY.out.1]; omega), HU.out, List.getD_eq_getElem?_getD, List.getElem?_eq_getElem (by rw [HY.out.1]; omega)]; rfl)
      cases he
      unfold wv at cK
      have hO2 := (hO.out.quiet (grown_drew (World.grownBy.refl _ none))).store (P + 1) hki C (wv V)
      rw [← List.map_set, HP.out, List.set_append_right _ _ (by omega), show Ps.length + 1 - Ps.length = 1 from by omega] at hO2
      have HO2 : Hid (Grommet.Own w0 (wr.drew.setCell ⟨q, C, none⟩ (.int .u64 (V : Int))) (Ps ++ [BX, rowP 45 1 (.slice (some ⟨q, 0, none⟩) Z Z) Z ((YS.set C V).map wv)])) := Lib.hid hO2
      have HR : Hid ((YS.set C V).length = Z ∧ ∀ n ∈ YS.set C V, n < 18446744073709551616) := Lib.hid ⟨by rw [List.length_set]; exact HY.out.1, fun n hn => by
        rcases List.mem_or_eq_of_mem_set hn with h | h
        · exact HY.out.2 n h
        · rw [h]; omega⟩
      clear hO2 hO hki hx ok1 ok2 b1 b2
      go_wp2_with fail
      go_still_tail 16, (by kernel_rfl)
      change wpList _ _ _ _ _ wr.drew
      go_wp2
      go_roundw
      case rel => exact ⟨k + 1, by omega, by go_num, YS.set C V, HR, HO2⟩
      case measure => simp [intOf]; omega
    · have hlt' : ¬ (k : Int) < (tl : Int) := by omega
      have hhd : ∀ a, (some ⟨q, 0, none⟩ : Option Addr) = some a → a = ⟨a.block, 0, none⟩ := fun a ha => by cases ha; rfl
      have hr := Own.row hO.out (P + 1) (by rw [HP.out, List.getElem?_append_right (by omega), show Ps.length + 1 - Ps.length = 1 from by omega]; rfl)
      obtain ⟨_, _, _, _, _, hcap⟩ := row_slice hr
      have hsl := fun wx => slice_to (P := Tryz.prog) 42 45 Tryz.underlying42 1 Tryz.sizeOf45 (some ⟨q, 0, none⟩) Z Z Z (by omega) hhd wx
      have z1 : ¬ (Z : Int) ≤ 0 := by omega
      have z2 : (0 : Int) ≤ (Z : Int) := by omega
      have HOw : Hid (Grommet.Own w0 wr (Ps ++ [rowP 45 1 (.slice (some ⟨q, 0, none⟩) Z Z) Z (YS.map wv)])) := Lib.hid own_skip hO.out
      clear hr hhd hO
      go_wp2
      go_ret
      exact ⟨YS, _, _, rfl, HY.out.1, HY.out.2, HOw.out⟩
end Go.Proofs.YtkalglcbmfhdfaaGreat
end
section

end
