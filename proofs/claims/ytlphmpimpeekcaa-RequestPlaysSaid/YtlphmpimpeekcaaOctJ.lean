/- textThere: the text that stands there, if it is not above most. -/
import Derived.Test.YtlphmpimpeekcaaOctI
namespace Go.Proofs.Ytlphmpimpeekcaa
open Go.RowKit Go.Grommet

set_option maxHeartbeats 400000 in
theorem textThere_none (base g d : Nat) (all : List UInt8) (a : Nat) (t : Bool) (most : Int) (w : World) (H : TapeIs w base g d all a t) (hd : numAt (all.drop a) = none) :
    Calls Try.prog 44 #[.pointer (some ⟨g, 0, none⟩), .int .i64 most] w (ThereNo (.string ⟨#[]⟩) w base g d all t) := by
  have h1 := numberThere_any base g d all a t w H
  unfold NumberPost at h1
  rw [hd] at h1
  have H1 := Lib.hid h1
  clear h1 hd
  go_enter Try.func44, Try.ntmps44
  go_wp2_with fail
  refine H1.out.mono ?_
  rintro e w1 ⟨a1, rfl, hT, hg⟩
  go_wp2
  go_ret2
  exact ⟨a1, rfl, hT, hg⟩

set_option maxHeartbeats 400000 in
theorem textThere_neg (base g d : Nat) (all : List UInt8) (a : Nat) (t : Bool) (most : Int) (n k : Nat) (w : World) (H : TapeIs w base g d all a t) (hd : numAt (all.drop a) = some (n, k)) (hm : most < 0) :
    Calls Try.prog 44 #[.pointer (some ⟨g, 0, none⟩), .int .i64 most] w (ThereNo (.string ⟨#[]⟩) w base g d all t) := by
  have h1 := numberThere_any base g d all a t w H
  unfold NumberPost at h1
  rw [hd] at h1
  have H1 := Lib.hid h1
  clear h1 hd
  go_enter Try.func44, Try.ntmps44
  go_wp2_with fail
  refine H1.out.mono ?_
  rintro e w1 ⟨rfl, hT, hg⟩
  go_wp2
  go_ret2
  exact ⟨_, rfl, hT, hg⟩

set_option maxHeartbeats 400000 in
theorem textThere_long (base g d : Nat) (all : List UInt8) (a : Nat) (t : Bool) (most n k : Nat) (w : World) (H : TapeIs w base g d all a t) (hd : numAt (all.drop a) = some (n, k)) (hm : most < n) (hmm : most < 2 ^ 63) :
    Calls Try.prog 44 #[.pointer (some ⟨g, 0, none⟩), .int .i64 (most : Int)] w (ThereNo (.string ⟨#[]⟩) w base g d all t) := by
  have h1 := numberThere_any base g d all a t w H
  unfold NumberPost at h1
  rw [hd] at h1
  have H1 := Lib.hid h1
  clear h1 hd
  have i1 : ¬ (most : Int) < 0 := by omega
  have i2 : (most : Int) < (n : Int) := by omega
  go_enter Try.func44, Try.ntmps44
  go_wp2_with fail
  refine H1.out.mono ?_
  rintro e w1 ⟨rfl, hT, hg⟩
  go_wp2
  go_ret2
  exact ⟨_, rfl, hT, hg⟩

set_option maxHeartbeats 400000 in
theorem textThere_cut (base g d : Nat) (all : List UInt8) (a : Nat) (t : Bool) (most n k : Nat) (w : World) (H : TapeIs w base g d all a t) (hd : numAt (all.drop a) = some (n, k)) (hm : n ≤ most) (hmm : most < 2 ^ 63) (hl : all.length < a + k + n) :
    Calls Try.prog 44 #[.pointer (some ⟨g, 0, none⟩), .int .i64 (most : Int)] w (ThereNo (.string ⟨#[]⟩) w base g d all t) := by
  have h1 := numberThere_any base g d all a t w H
  unfold NumberPost at h1
  rw [hd] at h1
  have H1 := Lib.hid h1
  clear h1 hd
  have i1 : ¬ (most : Int) < 0 := by omega
  have i2 : ¬ (most : Int) < (n : Int) := by omega
  have hcv := fun w1 => Lib.run_convert_nil_bytes (P := Try.prog) w1 25 9 5 0 Try.underlying25 Try.underlying5 Try.underlying9
  go_enter Try.func44, Try.ntmps44
  go_wp2_with fail
  refine H1.out.mono ?_
  rintro e w1 ⟨rfl, hT, hg⟩
  have H2 := Lib.hid (piece_no base g d all (a + k) t n w1 hT (by omega) hl)
  go_wp2_with fail
  refine H2.out.mono ?_
  rintro e w2 ⟨rfl, hT2, hg2⟩
  have hg' := grown_trans hg hg2
  clear H1 H2 hg hg2 hT
  go_wp2
  go_ret2
  exact ⟨_, rfl, hT2, hg'⟩

set_option maxHeartbeats 400000 in
theorem textThere_yes (base g d : Nat) (all : List UInt8) (a : Nat) (t : Bool) (most n k : Nat) (w : World) (H : TapeIs w base g d all a t) (hd : numAt (all.drop a) = some (n, k)) (hm : n ≤ most) (hmm : most < 2 ^ 63) (hl : a + k + n ≤ all.length) :
    Calls Try.prog 44 #[.pointer (some ⟨g, 0, none⟩), .int .i64 (most : Int)] w (ThereYes (.string (str ((all.drop (a + k)).take n))) (a + k + n) w base g d all t) := by
  have h1 := numberThere_any base g d all a t w H
  unfold NumberPost at h1
  rw [hd] at h1
  have H1 := Lib.hid h1
  clear h1 hd
  have i1 : ¬ (most : Int) < 0 := by omega
  have i2 : ¬ (most : Int) < (n : Int) := by omega
  go_enter Try.func44, Try.ntmps44
  go_wp2_with fail
  refine H1.out.mono ?_
  rintro e w1 ⟨rfl, hT, hg⟩
  have H2 := Lib.hid (piece_yes base g d all (a + k) t n w1 hT (by omega) hl)
  go_wp2_with fail
  refine H2.out.mono ?_
  rintro e w2 ⟨ad, cp, rfl, hat, hlen, hn, hT2, hg2⟩
  have hg' := grown_trans hg hg2
  have hcv := conv_at (P := Try.prog) (w := w2) 25 9 5 Try.underlying25 Try.underlying5 Try.underlying9 (cap := cp) hat hlen hn
  clear H1 H2 hg hg2 hT hat hlen hn
  go_wp2
  go_ret2
  exact ⟨rfl, hT2, hg'⟩
end Go.Proofs.Ytlphmpimpeekcaa
