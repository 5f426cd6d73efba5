/- Texts of ours, packed. -/
import Derived.Test.YtmamgfjnphdecaaDoorPk28
import Derived.Test.YtmamgfjnphdecaaDoorPk22
import Derived.Test.YtmamgfjnphdecaaDoorPk18
section
/- What the laws of layer 13 share: a new device's words by the document. -/
namespace Go.Proofs.YtmamgfjnphdecaaDoor
open Go.RowKit Go.Grommet
set_option linter.unusedVariables false

theorem RFormatH (a b c N : Nat) (xs : List Nat) (w0 w : World) (Ps : List Pr) (h : Grommet.Own w0 w Ps) (hm : mayB (a : Int) (b : Int) (c : Int) = true) (hN : 280 + 208 * a + 16 * b + 8 * c = N) (hxs : fmtL a b c (264 + 208 * a) N = xs) :
    Calls Tryd.prog 9 #[gv (a : Int) (b : Int) (c : Int)] w fun e w' => ∃ q, e = .returned (.slice (some ⟨q, 0, none⟩) N N) ∧ Grommet.Own w0 w' (Ps ++ [rowP 47 1 (.slice (some ⟨q, 0, none⟩) N N) N (xs.map wv)]) := by
  subst hN
  have hl := length_fmtL a b c (264 + 208 * a) (280 + 208 * a + 16 * b + 8 * c)
  rw [hxs] at hl
  have hmN := mayN hm
  refine (RFormat_any a b c w hm).mono ?_
  rintro e w' ⟨q, rfl, hrow, hq, hg⟩
  rw [hxs] at hrow ⊢
  rw [hl]
  refine ⟨q, rfl, h.addRow ⟨by simp [hl], .inr ⟨q, 280 + 208 * a + 16 * b + 8 * c, _, rfl, hq, hrow, Nat.le_refl _, by unfold maxLen; omega, by simp [hl], by rw [List.take_of_length_le (by simp [hl])]⟩⟩ hg⟩
theorem fmt_small' (a b c N : Nat) (hm : mayB (a : Int) (b : Int) (c : Int) = true) : ∀ n ∈ fmtL a b c (264 + 208 * a) N, n < 18446744073709551616 := by
  have := mayN hm
  exact fmtL_lt a b c _ N (by omega) (by omega) (by omega)
theorem fmt_get' (a b c m N i : Nat) (h : i < N) : (fmtL a b c m N).getD i 0 = fmtAt a b c m i := by
  rw [List.getD_eq_getElem?_getD, get_fmtL _ _ _ _ _ _ h]; rfl
theorem fmt_472 (I B N a : Nat) (h : 480 ≤ a) (ha : a < N) : (fmtL 1 I B (264 + 208 * 1) N).getD a 0 = if a = 480 then 1 else if a = 504 then 2 else if a = 505 then 1 else 0 := by
  rw [fmt_get' _ _ _ _ _ _ ha]
  unfold fmtAt
  rw [if_neg (by omega), if_neg (by omega), if_neg (by omega), if_neg (by omega), if_neg (by omega)]
theorem set_getD (xs : List Nat) (i v a : Nat) (hi : i < xs.length) : (xs.set i v).getD a 0 = if a = i then v else xs.getD a 0 := by
  by_cases h : a = i
  · subst h; rw [if_pos rfl, List.getD_eq_getElem?_getD, List.getElem?_set_self hi]; rfl
  · rw [if_neg h, List.getD_eq_getElem?_getD, List.getElem?_set_ne (fun e => h e.symm), ← List.getD_eq_getElem?_getD]
theorem geoH {w0 w : World} {Ps : List Pr} {G a I B : Nat} (h : Grommet.Own w0 w Ps) (k : Nat) (hk : Ps[k]? = some (boxP G 25 (geoCs a I B))) : w.cell? ⟨G, 0, none⟩ = some (.int .i64 (a : Int)) ∧ w.cell? ⟨G, 1, none⟩ = some (.int .i64 (I : Int)) ∧ w.cell? ⟨G, 2, none⟩ = some (.int .i64 (B : Int)) := by
  have hx := h.box k hk
  simp [World.cell?, hx, geoCs]
/-- One inode of a new device. -/
theorem begun_one {I B N : Nat} {xs : List Nat} (hI : I = 2) (hB : 2 ≤ B) (h64 : B ≤ 61) (hN : 488 + 16 * I + 8 * B = N) (hx : fmtL 1 I B (264 + 208 * 1) N = xs) :
    Bst I B (fun n => n = 1) (gotV xs []) xs [] (fun _ _ => 0) ∧ cntB xs [] B = 1 ∧ Br (fun n => n = 1) (fun _ _ => 0) := by
  subst hI hx
  have hm : mayB ((1 : Nat) : Int) ((2 : Nat) : Int) (B : Int) = true := by unfold mayB; simp; omega
  have hl : (fmtL 1 2 B (264 + 208 * 1) N).length = N := length_fmtL _ _ _ _ _
  have g : ∀ a, 480 ≤ a → a < N → (fmtL 1 2 B (264 + 208 * 1) N).getD a 0 = if a = 480 then 1 else if a = 504 then 2 else if a = 505 then 1 else 0 := fun a h1 h2 => fmt_472 2 B N a h1 h2
  refine Bst.begun hm (by omega) (by rw [hl]; omega) (fmt_small' 1 2 B N hm) (fun n hn => by omega) (by rw [g _ (by omega) (by omega)]; rfl) (fun n hn a h1 h2 => ?_) (fun n hn => ?_)
  · rw [g _ (by omega) (by omega), if_neg (by omega), if_neg (by omega), if_neg (by omega)]
  · subst hn
    have e0 : (fmtL 1 2 B (264 + 208 * 1) N).getD (488 + 16 * 1) 0 = 2 := by rw [g _ (by omega) (by omega)]; rfl
    have e1 : (fmtL 1 2 B (264 + 208 * 1) N).getD (489 + 16 * 1) 0 = 1 := by rw [g _ (by omega) (by omega)]; rfl
    have e2 : (fmtL 1 2 B (264 + 208 * 1) N).getD (490 + 16 * 1) 0 = 0 := by rw [g _ (by omega) (by omega)]; rfl
    have e3 : (fmtL 1 2 B (264 + 208 * 1) N).getD (491 + 16 * 1) 0 = 0 := by rw [g _ (by omega) (by omega)]; rfl
    have e4 : (fmtL 1 2 B (264 + 208 * 1) N).getD (497 + 16 * 1) 0 = 0 := by rw [g _ (by omega) (by omega)]; rfl
    rw [e0, e1, e2, e3, e4]
    unfold rightB
    rw [decide_eq_true_eq]
    exact ⟨hm, by omega, by omega, by omega, by omega, by omega, by omega, fun _ => by first | rfl | omega, fun _ => by first | rfl | omega, by omega, by omega, by omega, by omega⟩
end Go.Proofs.YtmamgfjnphdecaaDoor
end
