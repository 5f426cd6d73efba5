/- The anchor of layer 7; a new device's words. -/
import Derived.Test.YtdblgnccjpjabaaDoorAlcB
import Derived.Test.YtdblgnccjpjabaaDoorCvX
-- OPTIONAL
namespace Go.Proofs.YtdblgnccjpjabaaDoor
open Go.RowKit Go.Grommet Go.Ev

def rows7 : List (Nat × List (List V × V)) := [
  (43, [([(.agg (.cons (.int .i64 1) (.cons (.int .i64 3) (.cons (.int .i64 4) .nil))))], (.bool true))]),
  (66, [([(.agg (.cons (.int .i64 1) (.cons (.int .i64 3) (.cons (.int .i64 4) .nil)))), (.int .u8 9), (.int .i64 1)], (.int .i64 544))]),
  (34, [([(.agg (.cons (.int .i64 1) (.cons (.int .i64 3) (.cons (.int .i64 4) .nil)))), (.int .i64 1)], (.int .i64 544))])]
theorem told7 : Go.Ev.Told Tryd.prog (tellC rows7) := told_table (by kernel_rfl) (told_none _) (n := 100000) (by kernel_rfl)
theorem works7_done : isTrueC ((evQ Tryd.prog (tabGl 0) (tellC rows7) 100000).call 8 [] (tabHp tab)) = true := by kernel_rfl
theorem works7_tab (w : World) (ht : Lib.TabIs Tryd.prog w "math/bits.deBruijn64tab" .u8 tab) : Calls Tryd.prog 8 #[] w (Go.Ev.WorksIs w) := evQ_true_tab (by kernel_rfl) told7 (by kernel_rfl) works7_done rfl gTab w ht

/-- Format, among the things of a call's own. -/
theorem FormatH (a b c N : Nat) (xs : List Nat) (w0 w : World) (Ps : List Pr) (h : Grommet.Own w0 w Ps) (hm : mayB (a : Int) (b : Int) (c : Int) = true) (hN : 280 + 208 * a + 16 * b + 8 * c = N) (hxs : fmtL a b c (264 + 208 * a) N = xs) :
    Calls Tryd.prog 32 #[.agg #[.int .i64 (a : Int), .int .i64 (b : Int), .int .i64 (c : Int)]] w fun e w' => ∃ q, e = .returned (.slice (some ⟨q, 0, none⟩) N N) ∧ Grommet.Own w0 w' (Ps ++ [rowP 31 1 (.slice (some ⟨q, 0, none⟩) N N) N (xs.map wv)]) := by
  subst hN
  have hl := length_fmtL a b c (264 + 208 * a) (280 + 208 * a + 16 * b + 8 * c)
  rw [hxs] at hl
  have hmN := mayN hm
  refine (Format_any a b c w hm).mono ?_
  rintro e w' ⟨q, rfl, hrow, hq, hg⟩
  rw [hxs] at hrow ⊢
  rw [hl]
  refine ⟨q, rfl, h.addRow ⟨by simp [hl], .inr ⟨q, 280 + 208 * a + 16 * b + 8 * c, _, rfl, hq, hrow, Nat.le_refl _, by unfold maxLen; omega, by simp [hl], by rw [List.take_of_length_le (by simp [hl])]⟩⟩ hg⟩
theorem fmt_small (a b c N : Nat) (hm : mayB (a : Int) (b : Int) (c : Int) = true) : ∀ n ∈ fmtL a b c (264 + 208 * a) N, n < 18446744073709551616 := by
  have := mayN hm
  exact fmtL_lt a b c _ N (by omega) (by omega) (by omega)
theorem fmt_get (a b c m N i : Nat) (h : i < N) : (fmtL a b c m N).getD i 0 = fmtAt a b c m i := by
  rw [List.getD_eq_getElem?_getD, get_fmtL _ _ _ _ _ _ h]; rfl
end Go.Proofs.YtdblgnccjpjabaaDoor
