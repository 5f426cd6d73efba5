/- The anchor of layer 8. -/
import Derived.Test.YthcaeepngdohfaaRecD
import Derived.Test.YthcaeepngdohfaaRecMath2
namespace Go.Proofs.Ythcaeepngdohfaa
open Go.RowKit Go.Grommet

theorem negB_fine {M : List (Int × Nat)} (h : negB M = false) : ∀ p ∈ M, 0 ≤ p.1 := by
  unfold negB at h
  rw [List.any_eq_false] at h
  intro p hp
  have := h p hp
  simpa using this
theorem Words_yes (base : Nat) (bd : Option Addr) (m c : Nat) (M : List (Int × Nat)) (w : World) (hat : At w bd (icells M)) (hL : M.length = m) (hm : m ≤ 96) (hv : ∀ p ∈ M, p.1 ≤ 9223372036854775807 ∧ p.2 < 18446744073709551616) (hb : base ≤ w.heap.size) (hn : negB M = false) :
    Calls Try.prog 9 #[.slice bd m c] w (WordsYes base (recR M) w) := by
  refine (Words_few base bd m c M w hat hL hm hv hb).mono ?_
  rintro e w' (⟨h, _⟩ | ⟨_, h⟩)
  · rw [hn] at h; cases h
  · exact h
theorem Words_neg (bd : Option Addr) (m c : Nat) (M : List (Int × Nat)) (w : World) (hat : At w bd (icells M)) (hL : M.length = m) (hm : m ≤ 96) (hv : ∀ p ∈ M, p.1 ≤ 9223372036854775807 ∧ p.2 < 18446744073709551616) (hn : negB M = true) :
    Calls Try.prog 9 #[.slice bd m c] w (WordsNo 1 w) := by
  refine (Words_few 0 bd m c M w hat hL hm hv (Nat.zero_le _)).mono ?_
  rintro e w' (⟨_, h⟩ | ⟨h, _⟩)
  · exact h
  · rw [hn] at h; cases h
theorem Read_yes (base : Nat) (a b c : Int) (ad : Option Addr) (l cc : Nat) (xs : List Nat) (n : Nat) (M : List (Int × Nat)) (w : World) (hx : Words w ad l xs) (hlc : l ≤ cc) (hb : base ≤ w.heap.size) (hr : readB a b c xs = true) (hn : xs.getD 0 0 = n) (hM : writesR xs n = M) :
    Calls Try.prog 14 #[gv a b c, .slice ad l cc] w fun e w' => ∃ ad cap, e = .returned (.tuple #[.slice ad n cap, .int .i64 0]) ∧ w'.ownsRow base 49 2 (.slice ad n cap) n (icells M) ∧ w.grownBy w' none := by
  refine (Read_any base a b c ad l cc xs w hx hlc hb).mono ?_
  rintro e w' (⟨_, h⟩ | ⟨h, _⟩)
  · rw [hn, hM] at h; exact h
  · rw [hr] at h; cases h
theorem Read_no (a b c : Int) (ad : Option Addr) (l cc : Nat) (xs : List Nat) (w : World) (hx : Words w ad l xs) (hlc : l ≤ cc) (hr : readB a b c xs = false) :
    Calls Try.prog 14 #[gv a b c, .slice ad l cc] w fun e w' => e = .returned (.tuple #[.slice none 0 0, .int .i64 4]) ∧ w.grownBy w' none := by
  refine (Read_any 0 a b c ad l cc xs w hx hlc (Nat.zero_le _)).mono ?_
  rintro e w' (⟨h, _⟩ | ⟨_, h⟩)
  · rw [hr] at h; cases h
  · exact h

def WorksIs (w : World) (e : Ending) (w' : World) : Prop := e = .returned (.bool true) ∧ w.grownBy w' none

theorem fine_nil : Fine [] := ⟨by simp, by simp, by simp⟩

set_option maxRecDepth 100000 in
set_option maxHeartbeats 4000000 in
theorem works_any (w : World) : Calls Try.prog 8 #[] w (WorksIs w) := by
  have hs := sumN_lt (bodyR [])
  obtain ⟨S, HS⟩ : ∃ S, Hid (S = sumN (bodyR [])) := ⟨_, Lib.hid rfl⟩
  have HL : Hid (recR [] = [0, S]) := Lib.hid (by unfold recR; rw [← HS.out]; rfl)
  rw [← HS.out] at hs
  have hsmall : ∀ n ∈ [0, S], n < 18446744073709551616 := by
    intro n hn
    rcases List.mem_cons.1 hn with h | h
    · rw [h]; exact Nat.lt_of_le_of_lt (Nat.zero_le S) hs
    · rw [List.mem_singleton.1 h]; exact hs
  have hr : readB 1 2 2 [0, S] = true := by
    have := read_back fine_nil [] 1 2 2
    rw [List.append_nil, HL.out] at this
    rw [this]
    decide
  have hr0 : readB 1 2 2 [] = false := rfl
  have hmk : markV [0, S] = (S * 65536 + 0 * 256 + 1) % 18446744073709551616 := by
    have := (recR_begins [] []).mark (by simp)
    rw [List.append_nil, HL.out, ← HS.out, List.length_nil] at this
    exact this
  have hmk0 : markV [] = 0 := by unfold markV; rw [if_neg (by unfold cutB; simp)]
  have Hsm := Lib.hid hsmall
  have Hr := Lib.hid hr
  have hgw := World.grownBy_alloc w (.cells #[.int .i64 1, .int .i64 2, .int .i64 2] 23) none
  have HO : Own w (w.alloc (.cells #[.int .i64 1, .int .i64 2, .int .i64 2] 23)) [boxP w.heap.size 23 #[.int .i64 1, .int .i64 2, .int .i64 2]] := (Own.nil w).addBox _ _
  replace HO := Lib.hid HO
  have HW := Lib.hid (fun wx => Words_yes wx.heap.size none 0 0 [] wx (At.nil _ _) rfl (by omega) (by simp) (Nat.le_refl _) rfl)
  rw [HL.out] at HW
  obtain ⟨T, HT⟩ : ∃ T : Nat, Hid (T = (S * 65536 + 0 * 256 + 1) % 18446744073709551616) := ⟨_, Lib.hid rfl⟩
  rw [← HT.out] at hmk
  have t1 : (T : Int) % 65536 = 1 := by rw [HT.out]; omega
  have t2 : (T : Int).tmod 65536 = 1 := by rw [Int.tmod_eq_emod_of_nonneg (by omega)]; exact t1
  have t3 : (0 : Int) ≤ (T : Int) := by omega
  have Hmk := Lib.hid hmk
  have Ht1 := Lib.hid t1
  have Ht2 := Lib.hid t2
  clear hs hsmall hr hgw hmk t1 t2
  go_enter Try.func8, Try.ntmps8
  go_wp2_with fail
  refine (HW.out _).mono ?_
  rintro e w1 ⟨ad1, cp1, rfl, hrow, hg1⟩
  clear HW
  replace HO := HO.out.quiet hg1
  obtain ⟨ad', cap', he, hat, hnil, hlc⟩ := row_slice hrow
  injection he with he1 _ he3
  subst he1 he3
  have hW1 : Words w1 ad1 2 [0, S] := ⟨rfl, Hsm.out, hat, by decide⟩
  have hlc2 : 2 ≤ cp1 := hlc
  obtain ⟨q, o, rfl⟩ := Words.lit hW1 (by decide)
  have hbx := Own.box HO 0 rfl
  have g0 : w1.cell? ⟨w.heap.size, 0, none⟩ = some (.int .i64 1) := by simp [World.cell?, hbx]
  have g1 : w1.cell? ⟨w.heap.size, 1, none⟩ = some (.int .i64 2) := by simp [World.cell?, hbx]
  have g2 : w1.cell? ⟨w.heap.size, 2, none⟩ = some (.int .i64 2) := by simp [World.cell?, hbx]
  have HR := Lib.hid (Read_yes w1.heap.size 1 2 2 (some ⟨q, o, none⟩) 2 cp1 [0, S] 0 [] w1 hW1 hlc2 (Nat.le_refl _) Hr.out rfl rfl)
  unfold gv at HR
  replace HO := Lib.hid HO
  replace hW1 := Lib.hid hW1
  clear hbx hrow hat hnil hlc hg1
  go_wp2_with fail
  refine HR.out.mono ?_
  rintro e w2 ⟨ad2, cp2, rfl, _, hg2⟩
  clear HR g0 g1 g2
  replace HO := HO.out.quiet hg2
  replace hW1 := hW1.out.keep hg2 (by simp)
  have hbx := Own.box HO 0 rfl
  have g0 : w2.cell? ⟨w.heap.size, 0, none⟩ = some (.int .i64 1) := by simp [World.cell?, hbx]
  have g1 : w2.cell? ⟨w.heap.size, 1, none⟩ = some (.int .i64 2) := by simp [World.cell?, hbx]
  have g2 : w2.cell? ⟨w.heap.size, 2, none⟩ = some (.int .i64 2) := by simp [World.cell?, hbx]
  have HR := Lib.hid (Read_no 1 2 2 none 0 0 [] w2 (Words.nil _) (Nat.le_refl _) hr0)
  unfold gv at HR
  replace HO := Lib.hid HO
  replace hW1 := Lib.hid hW1
  clear hbx hg2
  go_wp2_with fail
  refine HR.out.mono ?_
  rintro e w3 ⟨rfl, hg3⟩
  clear HR g0 g1 g2
  replace HO := HO.out.quiet hg3
  replace hW1 := hW1.out.keep hg3 (by simp)
  have HM := Lib.hid (Mark_any (some ⟨q, o, none⟩) 2 cp1 [0, S] w3 hW1 hlc2)
  rw [Hmk.out] at HM
  obtain ⟨q', o', he, c0⟩ := hW1.cell 0 (by decide)
  cases he
  rw [Nat.add_zero] at c0
  have hg := HO.grown
  clear hg3 HO hW1
  go_wp2_with fail
  refine HM.out.mono ?_
  rintro e w4 ⟨rfl, hg4⟩
  clear HM c0
  have hg := grown_trans hg hg4
  have HM := Lib.hid (Mark_any none 0 0 [] w4 (Words.nil _) (Nat.le_refl _))
  rw [hmk0] at HM
  have t1 := Ht1.out
  have t2 := Ht2.out
  clear hg4
  go_wp2_with fail
  refine HM.out.mono ?_
  rintro e w5 ⟨rfl, hg5⟩
  have hg := grown_trans hg hg5
  go_wp2
  go_ret
  exact ⟨rfl, hg⟩
end Go.Proofs.Ythcaeepngdohfaa
