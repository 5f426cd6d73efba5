/- The anchor of layer 8. -/
import Derived.Test.YtpdofdloclmbdaaGreatRecD
import Derived.Test.YtpdofdloclmbdaaGreatRecMath2
-- OPTIONAL
namespace Go.Proofs.YtpdofdloclmbdaaGreat
open Go.RowKit Go.Grommet

theorem negB_fine {M : List (Int × Nat)} (h : negB M = false) : ∀ p ∈ M, 0 ≤ p.1 := by
  unfold negB at h
  rw [List.any_eq_false] at h
  intro p hp
  have := h p hp
  simpa using this
theorem Words_yes (base : Nat) (bd : Option Addr) (m c : Nat) (M : List (Int × Nat)) (w : World) (hat : At w bd (icells M)) (hL : M.length = m) (hm : m ≤ 96) (hv : ∀ p ∈ M, p.1 ≤ 9223372036854775807 ∧ p.2 < 18446744073709551616) (hb : base ≤ w.heap.size) (hn : negB M = false) :
    Calls Tryz.prog 55 #[.slice bd m c] w (WordsYes base (recR M) w) := by
  refine (Words_few base bd m c M w hat hL hm hv hb).mono ?_
  rintro e w' (⟨h, _⟩ | ⟨_, h⟩)
  · rw [hn] at h; cases h
  · exact h
theorem Words_neg (bd : Option Addr) (m c : Nat) (M : List (Int × Nat)) (w : World) (hat : At w bd (icells M)) (hL : M.length = m) (hm : m ≤ 96) (hv : ∀ p ∈ M, p.1 ≤ 9223372036854775807 ∧ p.2 < 18446744073709551616) (hn : negB M = true) :
    Calls Tryz.prog 55 #[.slice bd m c] w (WordsNo 1 w) := by
  refine (Words_few 0 bd m c M w hat hL hm hv (Nat.zero_le _)).mono ?_
  rintro e w' (⟨_, h⟩ | ⟨h, _⟩)
  · exact h
  · rw [hn] at h; cases h
theorem Read_yes (base : Nat) (a b c : Int) (ad : Option Addr) (l cc : Nat) (xs : List Nat) (n : Nat) (M : List (Int × Nat)) (w : World) (hx : Words w ad l xs) (hlc : l ≤ cc) (hb : base ≤ w.heap.size) (hr : readB a b c xs = true) (hn : xs.getD 0 0 = n) (hM : writesR xs n = M) :
    Calls Tryz.prog 101 #[gv a b c, .slice ad l cc] w fun e w' => ∃ ad cap, e = .returned (.tuple #[.slice ad n cap, .int .i64 0]) ∧ w'.ownsRow base 92 2 (.slice ad n cap) n (icells M) ∧ w.grownBy w' none := by
  refine (Read_any base a b c ad l cc xs w hx hlc hb).mono ?_
  rintro e w' (⟨_, h⟩ | ⟨h, _⟩)
  · rw [hn, hM] at h; exact h
  · rw [hr] at h; cases h
theorem Read_no (a b c : Int) (ad : Option Addr) (l cc : Nat) (xs : List Nat) (w : World) (hx : Words w ad l xs) (hlc : l ≤ cc) (hr : readB a b c xs = false) :
    Calls Tryz.prog 101 #[gv a b c, .slice ad l cc] w fun e w' => e = .returned (.tuple #[.slice none 0 0, .int .i64 4]) ∧ w.grownBy w' none := by
  refine (Read_any 0 a b c ad l cc xs w hx hlc (Nat.zero_le _)).mono ?_
  rintro e w' (⟨h, _⟩ | ⟨_, h⟩)
  · rw [hr] at h; cases h
  · exact h

def WorksIs (w : World) (e : Ending) (w' : World) : Prop := e = .returned (.bool true) ∧ w.grownBy w' none

theorem fine_nil : Fine [] := ⟨by simp, by simp, by simp⟩

end Go.Proofs.YtpdofdloclmbdaaGreat
