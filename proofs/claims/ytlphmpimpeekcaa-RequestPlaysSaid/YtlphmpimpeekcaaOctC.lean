/- putNumber: a number put behind bytes that have room for it. -/
import Derived.Test.YtlphmpimpeekcaaOctA
import Derived.Test.YtlphmpimpeekcaaOctB
import Derived.Test.YtlphmpimpeekcaaShelf
namespace Go.Proofs.Ytlphmpimpeekcaa
open Go.RowKit Go.Grommet

/-- The row g holds these bytes, and the slice over it ends behind them. -/
def RowIs (base g cap : Nat) (w : World) (bs : List UInt8) (e : Ending) (w' : World) : Prop :=
  e = .returned (.slice (some ⟨g, 0, none⟩) bs.length cap) ∧ w'.ownsRow base 5 1 (.slice (some ⟨g, 0, none⟩) bs.length cap) bs.length (bs.map bv) ∧ w.grownBy w' (some g)

theorem size_eq (n : Nat) (h : n < 2 ^ 64) : ((Lib.bitLen n : Int) + 8 - 1) / 8 = ((UInt8.ofNat (nb n)).toNat : Int) := by
  have := nb_le n h
  rw [UInt8.toNat_ofNat', show (2 : Nat) ^ 8 = 256 from rfl, Nat.mod_eq_of_lt (by omega)]
  unfold nb; omega

theorem Len64_any (n : Nat) (w : World) (hn : n < 2 ^ 64) : Calls Try.prog 59 #[.int .u64 (n : Int)] w fun e w' => e = .returned (.int .i64 (Lib.bitLen n)) ∧ w = w' :=
  (Try.bits_Len64 (n : Int) w (by omega) (by omega)).mono fun _ _ ⟨he, hw⟩ => ⟨he, hw.symm⟩

set_option maxHeartbeats 1000000 in
theorem putNumber_any (base g l cap : Nat) (bs : List UInt8) (n : Nat) (w : World) (hn : n < 2 ^ 64) (hl : bs.length = l)
    (hown : w.ownsRow base 5 1 (.slice (some ⟨g, 0, none⟩) l cap) l (bs.map bv)) (hroom : l + 9 ≤ cap) :
    Calls Try.prog 56 #[.slice (some ⟨g, 0, none⟩) l cap, .int .u64 (n : Int)] w (RowIs base g cap w (bs ++ num n)) := by
  obtain ⟨i0, hi, hz0, hz1, hz2⟩ := info_parts Try.info5
  have hbl := bitLen_le64 n hn
  have Hs := Lib.hid (size_eq n hn)
  have hlen := Len64_any n w hn
  have Hlen := Lib.hid hlen
  clear hlen
  go_enter Try.func56, Try.ntmps56
  go_wp2_with (first
    | (go_at_call 59; refine (Hlen.out).mono ?_; rintro e w' ⟨rfl, rfl⟩)
    | (at_builtin; refine wpList_append_fits _ rfl _ _ 25 rfl base 5 i0 1 Try.underlying25 hi hz1 g l cap (bs.map bv) rfl (hown.alloc _) ⟨w.heap.size, 0, none⟩ 1 1 [.int .u8 (((Lib.bitLen n : Int) + 8 - 1) / 8)] rfl rfl ?c1 ?c2 ?c3 ?_))
  case c1 => exact cell_one_new _ _ _
  case c2 => intro u hu; simp at hu; subst hu; rfl
  case c3 => omega
  intro w1 hown1 hg1
  have hown1' : w1.ownsRow base 5 1 (.slice (some ⟨g, 0, none⟩) (l + 1) cap) (l + 1) ((bs ++ UInt8.ofNat (nb n) :: les n 0).map bv) := by
    rw [Hs.out] at hown1
    simpa [les, bv] using hown1
  have hg1' : w.grownBy w1 (some g) := grown_trans (World.grownBy_alloc _ _ _) hg1
  clear hown1 hg1 hown
  go_wp2_with fail
  go_loopw [0, 18] (fun v i wr => ∃ k : Nat, k ≤ nb n ∧ i = .int .i64 k ∧ v = .slice (some ⟨g, 0, none⟩) (l + 1 + k) cap ∧
      wr.ownsRow base 5 1 (.slice (some ⟨g, 0, none⟩) (l + 1 + k) cap) (l + 1 + k) ((bs ++ UInt8.ofNat (nb n) :: les n k).map bv) ∧ w.grownBy wr (some g))
    (fun _ i _ => nb n - (intOf i).toNat)
  case atStart => exact ⟨0, Nat.zero_le _, rfl, rfl, hown1', hg1'⟩
  case round =>
    obtain ⟨k, hk, rfl, rfl, hown, hg⟩ := hrel
    clear hown1' hg1'
    have hnb := nb_le n hn
    have hnd : nb n = (Lib.bitLen n + 7) / 8 := rfl
    by_cases hlt : k < nb n
    · have hlt' : (k : Int) < ((Lib.bitLen n : Int) + 8 - 1) / 8 := by omega
      have Hb := Lib.hid (byteOf_any (n : Int) (k : Int) wr (by omega) (by omega) (by omega))
      have HD := Lib.hid hnd
      clear hnd
      go_wp2_with (first
        | (go_at_call 60; refine (Hb.out).mono ?_; rintro e w' ⟨rfl, rfl⟩)
        | (at_builtin; refine wpList_append_fits _ rfl _ _ 25 rfl base 5 i0 1 Try.underlying25 hi hz1 g (l + 1 + k) cap ((bs ++ UInt8.ofNat (nb n) :: les n k).map bv) rfl (hown.alloc _) ⟨wr.heap.size, 0, none⟩ 1 1 [.int .u8 ((byteAt n k).toNat : Int)] rfl rfl ?d1 ?d2 ?d3 ?_))
      case d1 => exact cell_one_new _ _ _
      case d2 => intro u hu; simp at hu; subst hu; rfl
      case d3 => omega
      intro w2 hown2 hg2
      have hg2' : w.grownBy w2 (some g) := grown_trans hg (grown_trans (World.grownBy_alloc _ _ _) hg2)
      clear hg2 hg hown
      go_wp2
      go_roundw
      case rel => exact ⟨k + 1, by omega, by go_num, rfl, by rw [les_succ]; simpa [Nat.add_assoc, bv] using hown2, hg2'⟩
      case measure => simp [intOf]; omega
    · obtain rfl : k = nb n := by omega
      have hlt' : ¬ (nb n : Int) < ((Lib.bitLen n : Int) + 8 - 1) / 8 := by omega
      have hend : RowIs base g cap w (bs ++ num n) (.returned (.slice (some ⟨g, 0, none⟩) (l + 1 + nb n) cap)) wr := by
        have e : (bs ++ num n).length = l + 1 + nb n := by simp [length_num, hl]; omega
        exact ⟨by rw [e], by rw [e]; exact hown, hg⟩
      clear hown hg
      have HD := Lib.hid hnd
      clear hnd
      go_wp2
      go_ret
      exact hend
end Go.Proofs.Ytlphmpimpeekcaa
