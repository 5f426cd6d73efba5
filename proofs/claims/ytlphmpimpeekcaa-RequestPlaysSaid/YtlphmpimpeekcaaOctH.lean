/- numberThere where a number stands. -/
import Derived.Test.YtlphmpimpeekcaaOctG
namespace Go.Proofs.Ytlphmpimpeekcaa
open Go.RowKit Go.Grommet

theorem add_assoc_cast (a K : Nat) : a + (1 + K) = a + 1 + K := by omega

set_option maxHeartbeats 400000 in
theorem numberThere_zero (base g d : Nat) (all : List UInt8) (a : Nat) (t : Bool) (c : UInt8) (r : List UInt8) (w : World) (H : TapeIs w base g d all a t) (hd : all.drop a = c :: r) (hc : c.toNat = 0) :
    Calls Try.prog 41 #[.pointer (some ⟨g, 0, none⟩)] w (ThereYes (.int .u64 0) (a + 1) w base g d all t) := by
  obtain ⟨q1, q2, q3, q4⟩ := drop_cons all a c r hd
  have h1 := byteThere_yes base g d all a t w H q1
  rw [q2, hc] at h1
  have H1 := Lib.hid h1
  clear h1 q2 q3 hd hc
  go_enter Try.func41, Try.ntmps41
  go_wp2_with fail
  refine H1.out.mono ?_
  rintro e w1 ⟨rfl, hT, hg⟩
  have H2 := Lib.hid (piece_yes base g d all (a + 1) t 0 w1 hT (by omega) (by omega))
  go_wp2_with fail
  refine H2.out.mono ?_
  rintro e w2 ⟨ad, cp, rfl, hat, hlen, hn, hT2, hg2⟩
  have hg' := grown_trans hg hg2
  clear H1 H2 hg hg2 hT hat hlen hn
  go_wp2
  refine wp_loop_rounds 1 ?_
  rw [rounds_succ]
  go_wp2
  go_ret2
  exact ⟨rfl, hT2, hg'⟩

set_option maxHeartbeats 1000000 in
theorem numberThere_yes (base g d : Nat) (all : List UInt8) (a : Nat) (t : Bool) (c : UInt8) (r : List UInt8) (w : World) (H : TapeIs w base g d all a t) (hd : all.drop a = c :: r) (hc : c.toNat ≤ 8) (hl : c.toNat ≤ r.length)
    (h0 : c.toNat ≠ 0) (hz : r.getD (c.toNat - 1) 0 ≠ 0) :
    Calls Try.prog 41 #[.pointer (some ⟨g, 0, none⟩)] w (ThereYes (.int .u64 ((val (r.take c.toNat) : Nat) : Int)) (a + 1 + c.toNat) w base g d all t) := by
  obtain ⟨q1, q2, q3, q4⟩ := drop_cons all a c r hd
  have h1 := byteThere_yes base g d all a t w H q1
  rw [q2] at h1
  have H1 := Lib.hid h1
  clear h1 q2 hd
  generalize c.toNat = K at hc hl H1 h0 hz ⊢
  obtain ⟨m, rfl⟩ : ∃ m, K = m + 1 := ⟨K - 1, by omega⟩
  rw [Nat.add_sub_cancel] at hz
  have hc' : (m : Int) + 1 ≤ 8 := by omega
  have hc8 : ¬ (8 : Int) < (m : Int) + 1 := by omega
  have HQ := Lib.hid q3
  have hz' : ((((r.getD m 0).toNat : Nat) : Int) == 0) = false := by
    rw [beq_eq_false_iff_ne]
    intro h
    exact hz (UInt8.toNat_inj.1 (by simpa using h))
  have hG : ∀ j, j < m + 1 → ((r.take (m + 1)).map bv)[j]? = some (.int .u8 ((r.getD j 0).toNat : Int)) := by
    intro j hj
    have : j < r.length := by omega
    rw [List.map_take, List.getElem?_take, if_pos hj, List.getElem?_map, List.getElem?_eq_getElem this, List.getD_eq_getElem?_getD, List.getElem?_eq_getElem this]
    rfl
  have HG := Lib.hid hG
  have hV : ∀ k, k < m + 1 → val (r.take (k + 1)) = val (r.take k) + (r.getD k 0).toNat * 256 ^ k ∧ val (r.take k) < 256 ^ k := by
    intro k hk
    have hkl : k < r.length := by omega
    refine ⟨val_take_succ r k hkl, ?_⟩
    have := val_lt (r.take k)
    rwa [List.length_take, Nat.min_eq_left (by omega)] at this
  have HV := Lib.hid hV
  obtain ⟨f, hf⟩ : ∃ f : Nat → UInt8, f = fun j => r.getD j 0 := ⟨_, rfl⟩
  have hfj : ∀ j, r.getD j 0 = f j := fun j => by rw [hf]
  simp only [hfj] at hz'
  have HF := Lib.hid hfj
  clear hz h0 q3 hG hV hf hfj
  go_enter Try.func41, Try.ntmps41
  go_wp2_with fail
  refine H1.out.mono ?_
  rintro e w1 ⟨rfl, hT, hg⟩
  have H2 := Lib.hid (piece_yes base g d all (a + 1) t (m + 1) w1 hT (by omega) (by omega))
  go_wp2_with fail
  refine H2.out.mono ?_
  rintro e w2 ⟨ad, cp, rfl, hat, hlen, hn, hT2, hg2⟩
  have hg' := grown_trans hg hg2
  clear H1 H2 hg hg2 hT
  rw [HQ.out] at hat
  obtain ⟨q, o, rfl, _⟩ := hat 0 _ (HG.out 0 (by omega))
  have hcells : ∀ j, j < m + 1 → w2.cell? ⟨q, o + j, none⟩ = some (.int .u8 ((f j).toNat : Int)) := by
    intro j hj
    obtain ⟨q', o', he, hcell⟩ := hat j _ (HG.out j hj)
    rw [HF.out] at hcell
    cases he
    exact hcell
  have hlast := hcells m (by omega)
  have HC := Lib.hid hcells
  clear hat hn hlen hcells
  go_wp2_with fail
  go_loop [7, 44] (fun v i => ∃ k : Nat, k ≤ m + 1 ∧ i = .int .i64 k ∧ v = .int .u64 ((val (r.take k) : Nat) : Int)) (fun _ i => m + 1 - (intOf i).toNat)
  case atStart => exact ⟨0, Nat.zero_le _, rfl, rfl⟩
  case round =>
    obtain ⟨k, hk, rfl, rfl⟩ := hrel
    by_cases hlt : k < m + 1
    · have hlt' : (k : Int) < (m : Int) + 1 := by omega
      have hcell := HC.out k hlt
      have Hw := Lib.hid (inWord_any (f k) (k : Int) w2 (by omega) (by omega))
      obtain ⟨v1, v2⟩ := HV.out k hlt
      rw [HF.out] at v1
      have Ho := Lib.hid (or_word (val (r.take k)) (f k).toNat k v2 (f k).toNat_lt (by omega))
      have HV1 := Lib.hid v1
      clear v1 v2
      go_wp2_with fail
      refine (Hw.out).mono ?_
      rintro e w3 ⟨rfl, rfl⟩
      go_wp2
      go_round
      case rel => exact ⟨k + 1, by omega, by go_num, by rw [HV1.out]; exact congrArg (Value.int IntKind.u64) Ho.out⟩
      case measure => simp [intOf]; omega
    · obtain rfl : k = m + 1 := by omega
      go_wp2
      go_ret2
      exact ⟨rfl, hT2, hg'⟩
end Go.Proofs.Ytlphmpimpeekcaa
