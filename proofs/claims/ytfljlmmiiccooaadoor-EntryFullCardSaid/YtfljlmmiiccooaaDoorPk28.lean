import Derived.Test.YtfljlmmiiccooaaDoorPk16
import Derived.Test.YtfljlmmiiccooaaDoorPk22
import Derived.Test.YtfljlmmiiccooaaDoorPk18
set_option maxRecDepth 100000
set_option maxHeartbeats 1000000
section
namespace Go.Proofs.YtfljlmmiiccooaaDoor
open Go.RowKit Go.Grommet
def nameW (s : ByteArray) : List Nat := words (bytesOf s) ((s.size + 7) / 8)
theorem Pack_words (s : ByteArray) (w : World) (hs : s.size ≤ 1048576) : Calls Tryd.prog 10 #[.string s] w fun e w' => ∃ ad l cap, e = .returned (.slice ad l cap) ∧ Words w' ad l (nameW s) ∧ w.grownBy w' none := by
 refine (Pack_any s w hs).mono ?_
 rintro e w' ⟨he, hW, hg⟩
 obtain ⟨ad, cap, h1, ha, _⟩ := at_of_owns hW
 cases h1
 refine ⟨_, _, _, he, ⟨rfl, ?_, ha, ?_⟩, hg⟩
 ·intro n hn
  obtain ⟨j, _, rfl⟩ := List.mem_map.1 hn
  exact word_lt _ _
 ·rw [length_words]; omega
def nmBegin (s : ByteArray) : Nat := if okName s = true then sumN (nameW s) % 12 else 0
theorem EBegin_any (s : ByteArray) (w : World) (hs : s.size ≤ 1048576) : Calls Tryd.prog 8 #[.string s] w fun e w' => e = .returned (.int .i64 (nmBegin s : Int)) ∧ w.grownBy w' none := by
 have HM := Lib.hid (EMay_any s w)
 have HP := Lib.hid (fun wx => Pack_words s wx hs)
 have HO := Lib.hid (fun ad l cap xs wx hx => Of_any ad l cap xs wx hx)
 unfold nmBegin
 cases hm : okName s with
 | false =>
  rw [hm] at HM
  rw [if_neg (by simp)]
  clear hm
  go_enter Tryd.func8, Tryd.ntmps8
  go_wp2_with fail
  refine HM.out.mono ?_
  rintro e w1 ⟨rfl, rfl⟩
  go_wp2
  go_ret
  exact ⟨rfl, World.grownBy.refl _ _⟩
 | true =>
  rw [hm] at HM
  rw [if_pos rfl]
  obtain ⟨V, hV⟩ : ∃ V, Hid (sumN (nameW s) = V) := ⟨_, Lib.hid rfl⟩
  rw [hV.out]
  clear hm
  go_enter Tryd.func8, Tryd.ntmps8
  go_wp2_with fail
  refine HM.out.mono ?_
  rintro e w1 ⟨rfl, rfl⟩
  go_wp2_with fail
  refine (HP.out _).mono ?_
  rintro e w2 ⟨ad, l, cap, rfl, hx, hg⟩
  have HO2 := Lib.hid (HO.out ad l cap _ w2 hx)
  unfold SNumMade at HO2
  rw [hV.out] at HO2
  have wV : IntKind.i64.wrap ((V : Int) % 12) = (V : Int) % 12 := IntWalk.i64_in _ ⟨by omega, by omega⟩
  clear hx HO HP
  go_wp2_with fail
  refine HO2.out.mono ?_
  rintro e w3 ⟨rfl, hg3⟩
  go_wp2
  go_ret
  exact ⟨by simp, grown_trans hg hg3⟩
end Go.Proofs.YtfljlmmiiccooaaDoor
end
section
namespace Go.Proofs.YtfljlmmiiccooaaDoor
open Go.RowKit Go.Grommet
theorem index_lt {c : UInt8} : ∀ {l : List UInt8}, Lib.indexByte l c < 0 ↔ ∀ b ∈ l, b ≠ c
 | [] => ⟨(fun _ b hb => absurd hb (by simp)), (fun _ => by unfold Lib.indexByte; decide)⟩
 | x :: l => by
  have ih := index_lt (c := c) (l := l)
  have hge := Lib.indexByte_ge l c
  unfold Lib.indexByte
  by_cases hx : x = c
  ·subst hx
   simp
  ·have hx' : (x == c) = false := by simpa using hx
   rw [hx']
   simp only [Bool.false_eq_true, if_false]
   by_cases h1 : Lib.indexByte l c = -1
   ·have h1' : (Lib.indexByte l c == -1) = true := by simpa using h1
    rw [h1', if_pos rfl]
    constructor
    ·intro _ b hb
     rcases List.mem_cons.1 hb with rfl | hb
     ·exact hx
     ·exact ih.1 (by omega) b hb
    ·intro _; decide
   ·have h1' : (Lib.indexByte l c == -1) = false := by simpa using h1
    rw [h1', if_neg (by simp)]
    constructor
    ·intro h; omega
    ·intro h
     have := ih.2 (fun b hb => h b (List.mem_cons_of_mem _ hb))
     omega
def NoBad (s : ByteArray) (k : Nat) : Prop := s.size ≠ 0 ∧ s.size ≤ 40 ∧ (s.toList == [46]) = false ∧ (s.toList == [46, 46]) = false ∧ ∀ i, i < k → (bytesOf s).getD i 0 ≠ 0 ∧ (bytesOf s).getD i 0 ≠ 47
theorem noBad_may {s : ByteArray} (h : NoBad s s.size) : okName s = true := by
 obtain ⟨h1, h2, h3, h4, h5⟩ := h
 have hl : ∀ b ∈ s.data.toList, b ≠ 0 ∧ b ≠ 47 := by
  intro b hb
  obtain ⟨i, hi, rfl⟩ := List.getElem_of_mem hb
  have hi' : i < s.size := by have := length_bytesOf s; unfold bytesOf at this; omega
  have := h5 i hi'
  unfold bytesOf at this
  rw [List.getD_eq_getElem?_getD, List.getElem?_eq_getElem hi] at this
  exact this
 unfold okName
 simp only [Bool.and_eq_true, decide_eq_true_eq, Bool.not_eq_true']
 exact ⟨by omega, by omega, index_lt.2 (fun b hb => (hl b hb).1), index_lt.2 (fun b hb => (hl b hb).2), h3, h4⟩
end Go.Proofs.YtfljlmmiiccooaaDoor
end
