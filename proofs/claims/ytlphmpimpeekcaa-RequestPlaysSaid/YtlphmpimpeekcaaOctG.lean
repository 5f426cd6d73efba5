/- numberThere: the number that stands there, or none. -/
import Derived.Test.YtlphmpimpeekcaaOctF
namespace Go.Proofs.Ytlphmpimpeekcaa
open Go.RowKit Go.Grommet

theorem drop_cons (all : List UInt8) (a : Nat) (c : UInt8) (r : List UInt8) (h : all.drop a = c :: r) : a < all.length ∧ all.getD a 0 = c ∧ all.drop (a + 1) = r ∧ r.length = all.length - (a + 1) := by
  have hlt : a < all.length := by
    rcases Nat.lt_or_ge a all.length with h' | h'
    · exact h'
    · rw [List.drop_eq_nil_of_le h'] at h; cases h
  rw [List.drop_eq_getElem_cons hlt] at h
  obtain ⟨h1, h2⟩ := List.cons.inj h
  refine ⟨hlt, ?_, h2, ?_⟩
  · rw [← h1]; simp [List.getD, hlt]
  · rw [← h2, List.length_drop]

set_option maxHeartbeats 400000 in
theorem numberThere_none (base g d : Nat) (all : List UInt8) (a : Nat) (t : Bool) (w : World) (H : TapeIs w base g d all a t) (hd : all.drop a = []) :
    Calls Try.prog 41 #[.pointer (some ⟨g, 0, none⟩)] w (ThereNo (.int .u64 0) w base g d all t) := by
  have H1 := Lib.hid (byteThere_no base g d all a t w H (by simpa using hd))
  go_enter Try.func41, Try.ntmps41
  go_wp2_with fail
  refine H1.out.mono ?_
  rintro e w1 ⟨a1, rfl, hT, hg⟩
  go_wp2
  go_ret2
  exact ⟨a1, rfl, hT, hg⟩

set_option maxHeartbeats 400000 in
theorem numberThere_wide (base g d : Nat) (all : List UInt8) (a : Nat) (t : Bool) (c : UInt8) (r : List UInt8) (w : World) (H : TapeIs w base g d all a t) (hd : all.drop a = c :: r) (hc : 8 < c.toNat) :
    Calls Try.prog 41 #[.pointer (some ⟨g, 0, none⟩)] w (ThereNo (.int .u64 0) w base g d all t) := by
  obtain ⟨q1, q2, q3, q4⟩ := drop_cons all a c r hd
  have h1 := byteThere_yes base g d all a t w H q1
  rw [q2] at h1
  have H1 := Lib.hid h1
  clear h1 q2 q3 q4 hd
  generalize c.toNat = K at hc H1
  have hc' : (8 : Int) < (K : Int) := by omega
  go_enter Try.func41, Try.ntmps41
  go_wp2_with fail
  refine H1.out.mono ?_
  rintro e w1 ⟨rfl, hT, hg⟩
  go_wp2
  go_ret2
  exact ⟨_, rfl, hT, hg⟩

set_option maxHeartbeats 400000 in
theorem numberThere_cut (base g d : Nat) (all : List UInt8) (a : Nat) (t : Bool) (c : UInt8) (r : List UInt8) (w : World) (H : TapeIs w base g d all a t) (hd : all.drop a = c :: r) (hc : c.toNat ≤ 8) (hl : r.length < c.toNat) :
    Calls Try.prog 41 #[.pointer (some ⟨g, 0, none⟩)] w (ThereNo (.int .u64 0) w base g d all t) := by
  obtain ⟨q1, q2, q3, q4⟩ := drop_cons all a c r hd
  have h1 := byteThere_yes base g d all a t w H q1
  rw [q2] at h1
  have H1 := Lib.hid h1
  clear h1 q2 q3 hd
  generalize c.toNat = K at hc hl H1
  have hc' : (K : Int) ≤ 8 := by omega
  go_enter Try.func41, Try.ntmps41
  go_wp2_with fail
  refine H1.out.mono ?_
  rintro e w1 ⟨rfl, hT, hg⟩
  have H2 := Lib.hid (piece_no base g d all (a + 1) t K w1 hT (by omega) (by omega))
  go_wp2_with fail
  refine H2.out.mono ?_
  rintro e w2 ⟨rfl, hT2, hg2⟩
  have hg' := grown_trans hg hg2
  clear H1 H2 hg hg2 hT
  go_wp2
  go_ret2
  exact ⟨_, rfl, hT2, hg'⟩

set_option maxHeartbeats 400000 in
theorem numberThere_nought (base g d : Nat) (all : List UInt8) (a : Nat) (t : Bool) (c : UInt8) (r : List UInt8) (w : World) (H : TapeIs w base g d all a t) (hd : all.drop a = c :: r) (hc : c.toNat ≤ 8) (hl : c.toNat ≤ r.length)
    (h0 : c.toNat ≠ 0) (hz : r.getD (c.toNat - 1) 0 = 0) :
    Calls Try.prog 41 #[.pointer (some ⟨g, 0, none⟩)] w (ThereNo (.int .u64 0) w base g d all t) := by
  obtain ⟨q1, q2, q3, q4⟩ := drop_cons all a c r hd
  have h1 := byteThere_yes base g d all a t w H q1
  rw [q2] at h1
  have H1 := Lib.hid h1
  clear h1 q2 hd
  generalize c.toNat = K at hc hl H1 h0 hz
  obtain ⟨m, rfl⟩ : ∃ m, K = m + 1 := ⟨K - 1, by omega⟩
  rw [Nat.add_sub_cancel] at hz
  have hc' : (m : Int) + 1 ≤ 8 := by omega
  have HQ := Lib.hid q3
  have HZ := Lib.hid hz
  clear h0 q3 hz
  go_enter Try.func41, Try.ntmps41
  go_wp2_with fail
  refine H1.out.mono ?_
  rintro e w1 ⟨rfl, hT, hg⟩
  have H2 := Lib.hid (piece_yes base g d all (a + 1) t (m + 1) w1 hT (by omega) (by omega))
  go_wp2_with fail
  refine H2.out.mono ?_
  rintro e w2 ⟨ad, cp, rfl, hat, hlen, hn, hT2, hg2⟩
  have hg' := grown_trans hg hg2
  clear H1 H2 hg hg2 hT
  rw [HQ.out] at hat hlen
  obtain ⟨q, o, rfl, hcell⟩ := hat m (bv 0) (by
    have : m < r.length := by omega
    rw [List.map_take, List.getElem?_take, if_pos (by omega), List.getElem?_map, List.getElem?_eq_getElem this]
    have h3 := HZ.out
    rw [List.getD_eq_getElem?_getD, List.getElem?_eq_getElem this] at h3
    simpa using congrArg (fun x => Option.some (bv x)) h3)
  have hcell' : w2.cell? ⟨q, o + m, none⟩ = some (.int .u8 0) := hcell
  have Hlen := Lib.hid hlen
  clear hat hn hcell hlen
  go_wp2
  go_ret2
  exact ⟨_, rfl, hT2, hg'⟩

end Go.Proofs.Ytlphmpimpeekcaa
