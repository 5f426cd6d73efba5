/- OctetWords, walked. -/
import Derived.Test.YtingkjmbeloepaaOctX
import Derived.Test.YtingkjmbeloepaaWordsMath
import Derived.OpenShut
import Derived.Deep.RegionHeld3
namespace Go.Proofs.Ytingkjmbeloepaa
open Go.RowKit Go.Grommet

theorem unpackR_ok (ws : List Nat) (n : Int) (h0 : 0 ≤ n) (h1 : n ≤ 8 * (ws.length : Int)) : unpackR ws n = (unpackB ws n.toNat, 0) := if_neg (by intro h; rcases h with h | h <;> omega)
theorem unpackR_no (ws : List Nat) (n : Int) (h1 : 8 * (ws.length : Int) < n) : unpackR ws n = ([], 1) := if_pos (Or.inr h1)

theorem size_str (l : List UInt8) : (str l).size = l.length := rfl
theorem extract_str (l : List UInt8) (n : Nat) : bytesOf ((str l).extract 0 n) = l.take n := by
  simp [bytesOf, str]
theorem bytes_ext {a b : ByteArray} (h : bytesOf a = bytesOf b) : a = b := by rw [← str_bytesOf a, h, str_bytesOf]
theorem getElem_str (l : List UInt8) (i : Nat) (h : i < (str l).size) : (str l)[i] = l[i]'h := rfl

/-- What stands while the last statement runs. -/
def Held (w : World) (H : Nat) (ws : List Nat) (w' : World) : Prop := At w' (some ⟨H, 0, none⟩) (ws.map wv) ∧ w.grownBy w' none
theorem Held.drew {w w' : World} {H : Nat} {ws : List Nat} (h : Held w H ws w') : Held w H ws w'.drew := ⟨h.1, grown_drew h.2⟩
theorem Held.grown {w w' w'' : World} {H : Nat} {ws : List Nat} (h : Held w H ws w') (hg : w'.grownBy w'' none) : Held w H ws w'' := ⟨h.1.grown hg (by simp), grown_trans h.2 hg⟩

theorem Held.part {w w' : World} {H : Nat} {ws : List Nat} (h : Held w H ws w') (J : Nat) : At w' (some ⟨H, 0, none⟩) ((ws.take J).map wv) := by
  intro j u hu
  refine h.1 j u ?_
  rw [List.map_take, List.getElem?_take] at hu
  split at hu
  · exact hu
  · cases hu

/-- So many words in new memory. -/
def WordsAt (J : Nat) (ws : List Nat) (w : World) (e : Ending) (w' : World) : Prop :=
  e = .returned (.slice (some ⟨w.heap.size, 0, none⟩) J J) ∧ At w' (some ⟨w.heap.size, 0, none⟩) (ws.map wv) ∧ w.grownBy w' none

theorem wordsAt_of {w : World} {ws : List Nat} {J : Nat} (hJ : ws.length = J) (e : Ending) (w' : World) (h : WordsIs w ws e w') : WordsAt J ws w e w' := by
  obtain ⟨he, hW, hg⟩ := h
  subst hJ
  refine ⟨he, ?_, hg⟩
  obtain ⟨ad, cap, h1, ha, _⟩ := at_of_owns hW
  cases h1
  exact ha

namespace octetWords
set_option maxHeartbeats 400000 in
theorem walk_far (s : ByteArray) (n : Int) (w : World) (hs : 4096 < s.size) : Calls Try.prog 9 #[.string s, .int .u16 n] w (WorksIs w) := by
  have h1 : (4096 : Int) < (s.size : Int) := by omega
  go_enter Try.func9, Try.ntmps9
  go_wp2_with fail
  refine (works_any _).mono ?_
  rintro e w5 ⟨rfl, hg⟩
  go_wp2
  go_ret
  exact ⟨rfl, hg⟩

set_option maxHeartbeats 2000000 in
theorem walk_at (s : ByteArray) (n : Nat) (w : World) (hs : s.size ≤ 4096) (hn : n < 65536) : Calls Try.prog 9 #[.string s, .int .u16 (n : Int)] w (WorksIs w) := by
  have h1 : ¬ (4096 : Int) < (s.size : Int) := by omega
  obtain ⟨M, HM⟩ : ∃ M, Hid (M = (s.size + 7) / 8) := ⟨_, Lib.hid rfl⟩
  have hM1 : 8 * M ≤ s.size + 7 := by rw [HM.out]; omega
  have hM2 : s.size + 7 < 8 * M + 8 := by rw [HM.out]; omega
  have hp := Pack_any s w (by omega)
  rw [← HM.out] at hp
  have HP := Lib.hid hp
  clear hp
  have hbl := length_bytesOf s
  obtain ⟨A, HA⟩ : ∃ A, Hid (A = str (padTo (bytesOf s) (8 * M))) := ⟨_, Lib.hid rfl⟩
  have hAz : A.size = 8 * M := by rw [HA.out, size_str, length_padTo]
  have hAe : A.extract 0 s.size = s := bytes_ext (by rw [HA.out, extract_str, ← hbl]; exact pad_take _ _ (by omega))
  have hAe' : ((A.extract 0 s.size).toList == s.toList) = true := by rw [hAe]; simp
  have HAz := Lib.hid hAz
  have hA1 : 8 * M ≤ A.size := by omega
  have hA2 : A.size ≤ 8 * M := by omega
  have hAzero : ∀ i (h : i < A.size), s.size ≤ i → ((A[i].toNat : Int) != 0) = false := by
    intro i h hi
    have e : A[i] = 0 := by
      have h' : i < 8 * M := by omega
      have := pad_zero (bytesOf s) (8 * M) i (by omega) h'
      simp only [HA.out]
      exact this
    rw [e]; rfl
  have HZ := Lib.hid hAzero
  clear hAe hAz hAzero
  obtain ⟨K, HK⟩ : ∃ K, Hid (K = n % (s.size + 1)) := ⟨_, Lib.hid rfl⟩
  have hK : (n : Int) % ((s.size : Int) + 1) = (K : Int) := by rw [HK.out]; simp
  have hKs : K ≤ s.size := by rw [HK.out]; have := Nat.mod_lt n (show 0 < s.size + 1 by omega); omega
  obtain ⟨B, HB⟩ : ∃ B, Hid (B = str ((bytesOf s).take K)) := ⟨_, Lib.hid rfl⟩
  have hBe : s.extract 0 K = B := bytes_ext (by rw [HB.out]; rw [← str_bytesOf s, extract_str]; rfl)
  have hBe' : (B.toList == (s.extract 0 K).toList) = true := by rw [hBe]; simp
  clear hBe
  go_enter Try.func9, Try.ntmps9
  go_wp2_with fail
  refine HP.out.mono ?_
  rintro e w1 ⟨rfl, hW, hg⟩
  rw [length_words] at hW ⊢
  have hL : At w1 (some ⟨w.heap.size, 0, none⟩) ((words (bytesOf s) M).map wv) := by
    obtain ⟨ad, cap, he, ha, _⟩ := at_of_owns hW
    cases he
    exact ha
  clear hW HP
  have hu := Unpack_any (some ⟨w.heap.size, 0, none⟩) M M (words (bytesOf s) M) (8 * (M : Int)) w1 (length_words _ _) hL (by omega) (by omega)
  rw [unpackR_ok _ _ (by omega) (by rw [length_words]; omega), show (8 * (M : Int)).toNat = 8 * M from by omega, unpack_words _ _ _ (Nat.le_refl _), ← HA.out] at hu
  have HU := Lib.hid hu
  clear hu hbl
  go_wp2_with fail
  refine HU.out.mono ?_
  rintro e w2 ⟨rfl, hg2⟩
  have hL := hL.grown hg2 (by simp)
  have hg := grown_trans hg hg2
  clear hg2 HU
  go_wp2_with fail
  go_loop [8] (fun i => ∃ j : Nat, s.size ≤ j ∧ j ≤ 8 * M ∧ i = .int .i64 (j : Int)) (fun i => 8 * M - (intOf i).toNat)
  case atStart => exact ⟨s.size, Nat.le_refl _, by omega, rfl⟩
  case round =>
    obtain ⟨j, hj1, hj2, rfl⟩ := hrel
    by_cases hlt : j < 8 * M
    · have hjA : j < A.size := by omega
      have hz := HZ.out j hjA hj1
      have hlt' : (j : Int) < (A.size : Int) := by omega
      go_wp2
      go_round
      case rel => exact ⟨j + 1, by omega, by omega, by go_num⟩
      case measure => simp [intOf]; omega
    · have hge : ¬ (j : Int) < (A.size : Int) := by omega
      have hu := Unpack_any (some ⟨w.heap.size, 0, none⟩) M M (words (bytesOf s) M) (K : Int) w2 (length_words _ _) hL (by omega) (by omega)
      rw [unpackR_ok _ _ (by omega) (by rw [length_words]; omega), Int.toNat_natCast, unpack_words _ _ _ (by omega), pad_le _ _ (by rw [length_bytesOf]; exact hKs), ← HB.out] at hu
      have HU := Lib.hid hu
      clear hu
      go_wp2_with fail
      refine HU.out.mono ?_
      rintro e w3 ⟨rfl, hg2⟩
      have hL := hL.grown hg2 (by simp)
      have hg := grown_trans hg hg2
      clear hg2 HU
      have hu := Unpack_any (some ⟨w.heap.size, 0, none⟩) M M (words (bytesOf s) M) (8 * (M : Int) + 1) w3 (length_words _ _) hL (by omega) (by omega)
      rw [unpackR_no _ _ (by rw [length_words]; omega), str_nil] at hu
      have HU := Lib.hid hu
      clear hu
      go_wp2_with fail
      refine HU.out.mono ?_
      rintro e w4 ⟨rfl, hg2⟩
      have hL := hL.grown hg2 (by simp)
      have hg := grown_trans hg hg2
      clear hg2 HU
      go_wp2_with fail
      obtain ⟨J, HJ⟩ : ∃ J, Hid (J = K / 8) := ⟨_, Lib.hid rfl⟩
      have j1 : 8 * J ≤ K := by rw [HJ.out]; omega
      have j2 : K < 8 * J + 8 := by rw [HJ.out]; omega
      have jM : J ≤ M := by omega
      obtain ⟨R, HR⟩ : ∃ R, Hid (R = K % 8) := ⟨_, Lib.hid rfl⟩
      have jR : K = 8 * J + R := by rw [HR.out, HJ.out]; omega
      have jR8 : R < 8 := by rw [HR.out]; omega
      have e1 : (K : Int) / 8 = (J : Int) := by omega
      have e1t : (K : Int).tdiv 8 = (J : Int) := by rw [Int.tdiv_eq_ediv_of_nonneg (by omega)]; exact e1
      have e1w : IntKind.i64.wrap (J : Int) = (J : Int) := IntWalk.i64_in _ ⟨by omega, by omega⟩
      have e2 : (K : Int) % 8 = (R : Int) := by omega
      have e2t : (K : Int).tmod 8 = (R : Int) := by rw [Int.tmod_eq_emod_of_nonneg (by omega)]; exact e2
      have e2w : IntKind.i64.wrap (R : Int) = (R : Int) := IntWalk.i64_in _ ⟨by omega, by omega⟩
      have e3 : (K : Int) - (R : Int) = 8 * (J : Int) := by omega
      have e3w : IntKind.i64.wrap (8 * (J : Int)) = 8 * (J : Int) := IntWalk.i64_in _ ⟨by omega, by omega⟩
      have e4 : (8 * (J : Int)).toNat = 8 * J := by omega
      have b1 : (0 : Int) ≤ (K : Int) := by omega
      have b2 : (K : Int) ≤ (s.size : Int) := by omega
      have b3 : (0 : Int) ≤ 8 * (J : Int) := by omega
      have b4 : 8 * (J : Int) ≤ (s.size : Int) := by omega
      have b5 : (0 : Int) ≤ (J : Int) := by omega
      have b6 : (J : Int) ≤ (M : Int) := by omega
      have HjR := Lib.hid jR
      clear jR
      have hsz : (s.extract 0 (8 * J)).size = 8 * J := by rw [ByteArray.size_extract]; omega
      have hlen : ((words (bytesOf s) M).take J).length = J := by rw [List.length_take, length_words]; omega
      have hq : ∀ wx, Calls Try.prog 18 #[.string (s.extract 0 (8 * J))] wx (WordsAt J ((words (bytesOf s) M).take J) wx) := by
        intro wx
        refine Calls.mono ?_ (wordsAt_of hlen)
        have := Pack_any (s.extract 0 (8 * J)) wx (by omega)
        rw [hsz, show (8 * J + 7) / 8 = J from by omega, ← str_bytesOf s, extract_str, words_take _ M _ jM] at this
        rw [← str_bytesOf s]
        exact this
      have HQ := Lib.hid hq
      have HL := Lib.hid hlen
      clear hq hsz hlen
      have hS : Held w w.heap.size (words (bytesOf s) M) w4 := ⟨hL, hg⟩
      clear hL hg
      go_region_held3 (fun w' => Held w w.heap.size (words (bytesOf s) M) w')
        (first | exact Held.drew (by assumption) | assumption | exact Held.grown (by assumption) (by assumption) | (go_show; fail))
        (first
          | (go_at_call 18; refine (HQ.out _).mono ?_; rintro e w5 ⟨rfl, hW, hg5⟩)
          | (go_at_call 17; refine (words_same _ _ J _ _ ((words (bytesOf s) M).take J) _ HL.out (by assumption) (Held.part (by assumption) J) (by omega)).mono ?_; rintro e w6 ⟨rfl, hg6⟩)
          | (go_at_call 10; refine (works_any _).mono ?_; rintro e w7 ⟨rfl, hg7⟩))
      go_wp2
      go_ret
      have hfin : Held w w.heap.size (words (bytesOf s) M) w7 := by assumption
      exact ⟨rfl, hfin.2⟩

theorem walk (a0 : ByteArray) (a1 : Int) (w : World) (_w0 : a0.size ≤ maxLen) (w1 : (Lit.int .u16 a1).wf = true) : Calls Try.prog 9 #[.string a0, .int .u16 a1] w (WorksIs w) := by
  by_cases h : a0.size ≤ 4096
  · have b1 : 0 ≤ a1 ∧ a1 ≤ 65535 := bounds_u16 w1
    obtain ⟨n, rfl⟩ := Int.eq_ofNat_of_zero_le b1.1
    exact walk_at a0 n w h (by omega)
  · exact walk_far a0 a1 w (by omega)
end octetWords
end Go.Proofs.Ytingkjmbeloepaa
