import Derived.Test.YtfljlmmiiccooaaGreatDoorPk5
import Derived.Test.YtfljlmmiiccooaaGreatDoorPk8
set_option maxRecDepth 100000
set_option maxHeartbeats 1000000
section
namespace Go.Proofs.YtfljlmmiiccooaaGreatDoor
open Go.RowKit Go.Grommet
def okName (s : ByteArray) : Bool :=
 decide ((1 : Int) ≤ (s.size : Int)) && (decide ((s.size : Int) ≤ 40) && (decide (Lib.indexByte s.data.toList (0 : Int).toNat.toUInt8 < 0) && (decide (Lib.indexByte s.data.toList (47 : Int).toNat.toUInt8 < 0) && (!(s.toList == [46]) && !(s.toList == [46, 46])))))
theorem EMay_any (s : ByteArray) (w : World) :
  Calls Tryz.prog 11 #[.string s] w fun e w' => e = .returned (.bool (okName s)) ∧ w' = w := by
 have H0 := Lib.hid (fun wx => Tryz.strings_IndexByte s 0 wx)
 have H1 := Lib.hid (fun wx => Tryz.strings_IndexByte s 47 wx)
 unfold okName
 generalize Lib.indexByte s.data.toList (0 : Int).toNat.toUInt8 = i0 at *
 generalize Lib.indexByte s.data.toList (47 : Int).toNat.toUInt8 = i1 at *
 by_cases h1 : (1 : Int) ≤ (s.size : Int)
 ·by_cases h2 : (s.size : Int) ≤ 40
  ·by_cases h3 : i0 < 0
   ·by_cases h4 : i1 < 0
    ·by_cases h5 : s.toList = [46]
     ·rw [decide_eq_true h1, decide_eq_true h2, decide_eq_true h3, decide_eq_true h4, show (s.toList == [46]) = true from by rw [h5]; rfl]
      go_enter Tryz.func11, Tryz.ntmps11
      go_wp2_with fail
      refine (H0.out _).mono ?_
      rintro e w1 ⟨rfl, rfl⟩
      go_wp2_with fail
      refine (H1.out _).mono ?_
      rintro e w2 ⟨rfl, rfl⟩
      go_wp2
      go_ret
      exact ⟨rfl, rfl⟩
     ·have e5 : Hid ((s.toList == [46]) = false) := Lib.hid (by simpa using h5)
      rw [decide_eq_true h1, decide_eq_true h2, decide_eq_true h3, decide_eq_true h4, e5.out]
      go_enter Tryz.func11, Tryz.ntmps11
      go_wp2_with fail
      refine (H0.out _).mono ?_
      rintro e w1 ⟨rfl, rfl⟩
      go_wp2_with fail
      refine (H1.out _).mono ?_
      rintro e w2 ⟨rfl, rfl⟩
      go_wp2
      go_ret
      exact ⟨by rw [e5.out]; rfl, rfl⟩
    ·rw [decide_eq_true h1, decide_eq_true h2, decide_eq_true h3, decide_eq_false h4]
     go_enter Tryz.func11, Tryz.ntmps11
     go_wp2_with fail
     refine (H0.out _).mono ?_
     rintro e w1 ⟨rfl, rfl⟩
     go_wp2_with fail
     refine (H1.out _).mono ?_
     rintro e w2 ⟨rfl, rfl⟩
     go_wp2
     go_ret
     exact ⟨rfl, rfl⟩
   ·rw [decide_eq_true h1, decide_eq_true h2, decide_eq_false h3]
    go_enter Tryz.func11, Tryz.ntmps11
    go_wp2_with fail
    refine (H0.out _).mono ?_
    rintro e w1 ⟨rfl, rfl⟩
    go_wp2
    go_ret
    exact ⟨rfl, rfl⟩
  ·rw [decide_eq_true h1, decide_eq_false h2]
   go_enter Tryz.func11, Tryz.ntmps11
   go_wp2
   go_ret
   exact ⟨rfl, rfl⟩
 ·rw [decide_eq_false h1]
  go_enter Tryz.func11, Tryz.ntmps11
  go_wp2
  go_ret
  exact ⟨rfl, rfl⟩
end Go.Proofs.YtfljlmmiiccooaaGreatDoor
end
