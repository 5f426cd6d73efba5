import Derived.Test.YtfljlmmiiccooaaGreatDoorPk16
import Derived.Test.YtfljlmmiiccooaaGreatDoorPk22
import Derived.Test.YtfljlmmiiccooaaGreatDoorPk18
set_option maxRecDepth 100000
set_option maxHeartbeats 1000000
section
namespace Go.Proofs.YtfljlmmiiccooaaGreatDoor
open Go.RowKit Go.Grommet
def nameW (s : ByteArray) : List Nat := words (bytesOf s) ((s.size + 7) / 8)
theorem Pack_words (s : ByteArray) (w : World) (hs : s.size ≤ 1048576) : Calls Tryz.prog 35 #[.string s] w fun e w' => ∃ ad l cap, e = .returned (.slice ad l cap) ∧ Words w' ad l (nameW s) ∧ w.grownBy w' none := by
 refine (Pack_any s w hs).mono ?_
 rintro e w' ⟨he, hW, hg⟩
 obtain ⟨ad, cap, h1, ha, _⟩ := at_of_owns hW
 cases h1
 refine ⟨_, _, _, he, ⟨rfl, ?_, ha, ?_⟩, hg⟩
 ·intro n hn
  obtain ⟨j, _, rfl⟩ := List.mem_map.1 hn
  exact word_lt _ _
 ·rw [length_words]; omega
def nmBegin (s : ByteArray) : Nat := if okName s = true then sumN (nameW s) % 12 else 0
theorem EBegin_any (s : ByteArray) (w : World) (hs : s.size ≤ 1048576) : Calls Tryz.prog 13 #[.string s] w fun e w' => e = .returned (.int .i64 (nmBegin s : Int)) ∧ w.grownBy w' none := by
 have HM := Lib.hid (EMay_any s w)
 have HP := Lib.hid (fun wx => Pack_words s wx hs)
 have HO := Lib.hid (fun ad l cap xs wx hx => Of_any ad l cap xs wx hx)
 unfold nmBegin
 cases hm : okName s with
 | false =>
  rw [hm] at HM
  rw [if_neg (by simp)]
  clear hm
  go_enter Tryz.func13, Tryz.ntmps13
  go_wp2_with fail
  refine HM.out.mono ?_
  rintro e w1 ⟨rfl, rfl⟩
  go_wp2
  go_ret
  exact ⟨rfl, World.grownBy.refl _ _⟩
 | true =>
  rw [hm] at HM
  rw [if_pos rfl]
  obtain ⟨V, hV⟩ : ∃ V, Hid (sumN (nameW s) = V) := ⟨_, Lib.hid rfl⟩
  rw [hV.out]
  clear hm
  go_enter Tryz.func13, Tryz.ntmps13
  go_wp2_with fail
  refine HM.out.mono ?_
  rintro e w1 ⟨rfl, rfl⟩
  go_wp2_with fail
  refine (HP.out _).mono ?_
  rintro e w2 ⟨ad, l, cap, rfl, hx, hg⟩
  have HO2 := Lib.hid (HO.out ad l cap _ w2 hx)
  unfold SNumMade at HO2
  rw [hV.out] at HO2
  have wV : IntKind.i64.wrap ((V : Int) % 12) = (V : Int) % 12 := IntWalk.i64_in _ ⟨by omega, by omega⟩
  clear hx HO HP
  go_wp2_with fail
  refine HO2.out.mono ?_
  rintro e w3 ⟨rfl, hg3⟩
  go_wp2
  go_ret
  exact ⟨by simp, grown_trans hg hg3⟩
end Go.Proofs.YtfljlmmiiccooaaGreatDoor
end
section
namespace Go.Proofs.YtfljlmmiiccooaaGreatDoor
open Go.RowKit Go.Grommet
end Go.Proofs.YtfljlmmiiccooaaGreatDoor
end
