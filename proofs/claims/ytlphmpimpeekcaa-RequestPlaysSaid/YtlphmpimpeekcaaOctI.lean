/- numberThere, whatever stands there; next, and the methods Byte and Number. -/
import Derived.Test.YtlphmpimpeekcaaOctH
namespace Go.Proofs.Ytlphmpimpeekcaa
open Go.RowKit Go.Grommet

/-- What numberThere leaves: by the bytes that are left. -/
def NumberPost (w : World) (base g d : Nat) (all : List UInt8) (a : Nat) (t : Bool) (e : Ending) (w' : World) : Prop :=
  match numAt (all.drop a) with
  | none => ThereNo (.int .u64 0) w base g d all t e w'
  | some (n, k) => ThereYes (.int .u64 (n : Int)) (a + k) w base g d all t e w'

theorem numberThere_any (base g d : Nat) (all : List UInt8) (a : Nat) (t : Bool) (w : World) (H : TapeIs w base g d all a t) :
    Calls Try.prog 41 #[.pointer (some ⟨g, 0, none⟩)] w (NumberPost w base g d all a t) := by
  unfold NumberPost
  cases hd : all.drop a with
  | nil => exact numberThere_none base g d all a t w H hd
  | cons c r =>
    rw [numAt_cons]
    by_cases h1 : c.toNat ≤ 8
    · by_cases h2 : c.toNat ≤ r.length
      · by_cases h3 : c.toNat = 0
        · rw [if_pos ⟨h1, h2, Or.inl h3⟩, h3]
          exact numberThere_zero base g d all a t c r w H hd h3
        · by_cases h4 : r.getD (c.toNat - 1) 0 = 0
          · rw [if_neg (by intro h; rcases h.2.2 with h | h; exact h3 h; exact h h4)]
            exact numberThere_nought base g d all a t c r w H hd h1 h2 h3 h4
          · rw [if_pos ⟨h1, h2, Or.inr h4⟩]
            simp only [add_assoc_cast]
            exact numberThere_yes base g d all a t c r w H hd h1 h2 h3 h4
      · rw [if_neg (by intro h; exact h2 h.2.1)]
        exact numberThere_cut base g d all a t c r w H hd h1 (by omega)
    · rw [if_neg (by intro h; exact h1 h.1)]
      exact numberThere_wide base g d all a t c r w H hd (by omega)

/-- What a step of a tape leaves: a value, and the tape at a place, torn or not. -/
def StepIs (v : Value) (w : World) (base g d : Nat) (all : List UInt8) (a : Nat) (t : Bool) (e : Ending) (w' : World) : Prop :=
  e = .returned v ∧ TapeIs w' base g d all a t ∧ w.grownBy w' (some g)

set_option maxHeartbeats 400000 in
theorem next_byte_nil (F : Value) (w : World) : Calls Try.prog 45 #[.pointer none, F] w fun e w' => e = .returned (.int .u8 0) ∧ w = w' := by
  have H := Lib.hid (Torn_nil w)
  go_enter Try.func45, Try.ntmps45
  go_wp2_with fail
  refine H.out.mono ?_
  rintro e w1 ⟨rfl, rfl⟩
  go_wp2
  go_ret
  exact ⟨rfl, rfl⟩

set_option maxHeartbeats 400000 in
theorem next_byte_torn (base g d : Nat) (all : List UInt8) (a : Nat) (F : Value) (w : World) (H : TapeIs w base g d all a true) :
    Calls Try.prog 45 #[.pointer (some ⟨g, 0, none⟩), F] w (StepIs (.int .u8 0) w base g d all a true) := by
  have hr : StepIs (.int .u8 0) w base g d all a true (.returned (.int .u8 0)) w := ⟨rfl, H, World.grownBy.refl _ _⟩
  have H1 := Lib.hid (Torn_some g true w H.facts.2.2.1)
  clear H
  go_enter Try.func45, Try.ntmps45
  go_wp2_with fail
  refine H1.out.mono ?_
  rintro e w1 ⟨rfl, rfl⟩
  go_wp2
  go_ret
  exact hr

set_option maxHeartbeats 400000 in
theorem next_byte_no (base g d : Nat) (all : List UInt8) (a : Nat) (w : World) (H : TapeIs w base g d all a false) (HF : Hid (Calls Try.prog 46 #[.pointer (some ⟨g, 0, none⟩)] w (ThereNo (.int .u8 0) w base g d all false))) :
    Calls Try.prog 45 #[.pointer (some ⟨g, 0, none⟩), .func (Fn.func 46) #[] #[]] w (StepIs (.int .u8 0) w base g d all a true) := by
  obtain ⟨c0, c1, c2, f1, f2⟩ := H.facts
  have H1 := Lib.hid (Torn_some g false w c2)
  have hp := Lib.hid H.place
  clear c0 c2 f1 f2
  go_enter Try.func45, Try.ntmps45
  go_wp2_with fail
  refine H1.out.mono ?_
  rintro e w1 ⟨rfl, rfl⟩
  go_wp2_with fail
  refine HF.out.mono ?_
  rintro e w2 ⟨a', rfl, hT, hg⟩
  have hr : StepIs (.int .u8 0) w base g d all a true (.returned (.int .u8 0)) ((w2.setCell ⟨g, 1, none⟩ (.int .i64 (a : Int))).setCell ⟨g, 2, none⟩ (.bool true)) :=
    ⟨rfl, (hT.move a hp.out).tear, grown_trans hg (grown_trans (grown_setCell _ _ _) (grown_setCell _ _ _))⟩
  obtain ⟨_, e1, e2, f1, f2⟩ := hT.facts
  clear hT hg c1 H
  go_wp2
  go_ret
  exact hr

set_option maxHeartbeats 400000 in
theorem next_byte_yes (base g d : Nat) (all : List UInt8) (a a' : Nat) (v : Int) (w : World) (H : TapeIs w base g d all a false) (HF : Hid (Calls Try.prog 46 #[.pointer (some ⟨g, 0, none⟩)] w (ThereYes (.int .u8 v) a' w base g d all false))) :
    Calls Try.prog 45 #[.pointer (some ⟨g, 0, none⟩), .func (Fn.func 46) #[] #[]] w (StepIs (.int .u8 v) w base g d all a' false) := by
  obtain ⟨c0, c1, c2, f1, f2⟩ := H.facts
  have H1 := Lib.hid (Torn_some g false w c2)
  clear c0 c2 f1 f2
  go_enter Try.func45, Try.ntmps45
  go_wp2_with fail
  refine H1.out.mono ?_
  rintro e w1 ⟨rfl, rfl⟩
  go_wp2_with fail
  refine HF.out.mono ?_
  rintro e w2 ⟨rfl, hT, hg⟩
  have hr : StepIs (.int .u8 v) w base g d all a' false (.returned (.int .u8 v)) w2 := ⟨rfl, hT, hg⟩
  clear hT hg c1 H
  go_wp2
  go_ret
  exact hr

set_option maxHeartbeats 400000 in
theorem next_uint64_nil (F : Value) (w : World) : Calls Try.prog 40 #[.pointer none, F] w fun e w' => e = .returned (.int .u64 0) ∧ w = w' := by
  have H := Lib.hid (Torn_nil w)
  go_enter Try.func40, Try.ntmps40
  go_wp2_with fail
  refine H.out.mono ?_
  rintro e w1 ⟨rfl, rfl⟩
  go_wp2
  go_ret
  exact ⟨rfl, rfl⟩

set_option maxHeartbeats 400000 in
theorem next_uint64_torn (base g d : Nat) (all : List UInt8) (a : Nat) (F : Value) (w : World) (H : TapeIs w base g d all a true) :
    Calls Try.prog 40 #[.pointer (some ⟨g, 0, none⟩), F] w (StepIs (.int .u64 0) w base g d all a true) := by
  have hr : StepIs (.int .u64 0) w base g d all a true (.returned (.int .u64 0)) w := ⟨rfl, H, World.grownBy.refl _ _⟩
  have H1 := Lib.hid (Torn_some g true w H.facts.2.2.1)
  clear H
  go_enter Try.func40, Try.ntmps40
  go_wp2_with fail
  refine H1.out.mono ?_
  rintro e w1 ⟨rfl, rfl⟩
  go_wp2
  go_ret
  exact hr

set_option maxHeartbeats 400000 in
theorem next_uint64_no (base g d : Nat) (all : List UInt8) (a : Nat) (w : World) (H : TapeIs w base g d all a false) (HF : Hid (Calls Try.prog 41 #[.pointer (some ⟨g, 0, none⟩)] w (ThereNo (.int .u64 0) w base g d all false))) :
    Calls Try.prog 40 #[.pointer (some ⟨g, 0, none⟩), .func (Fn.func 41) #[] #[]] w (StepIs (.int .u64 0) w base g d all a true) := by
  obtain ⟨c0, c1, c2, f1, f2⟩ := H.facts
  have H1 := Lib.hid (Torn_some g false w c2)
  have hp := Lib.hid H.place
  clear c0 c2 f1 f2
  go_enter Try.func40, Try.ntmps40
  go_wp2_with fail
  refine H1.out.mono ?_
  rintro e w1 ⟨rfl, rfl⟩
  go_wp2_with fail
  refine HF.out.mono ?_
  rintro e w2 ⟨a', rfl, hT, hg⟩
  have hr : StepIs (.int .u64 0) w base g d all a true (.returned (.int .u64 0)) ((w2.setCell ⟨g, 1, none⟩ (.int .i64 (a : Int))).setCell ⟨g, 2, none⟩ (.bool true)) :=
    ⟨rfl, (hT.move a hp.out).tear, grown_trans hg (grown_trans (grown_setCell _ _ _) (grown_setCell _ _ _))⟩
  obtain ⟨_, e1, e2, f1, f2⟩ := hT.facts
  clear hT hg c1 H
  go_wp2
  go_ret
  exact hr

set_option maxHeartbeats 400000 in
theorem next_uint64_yes (base g d : Nat) (all : List UInt8) (a a' : Nat) (v : Int) (w : World) (H : TapeIs w base g d all a false) (HF : Hid (Calls Try.prog 41 #[.pointer (some ⟨g, 0, none⟩)] w (ThereYes (.int .u64 v) a' w base g d all false))) :
    Calls Try.prog 40 #[.pointer (some ⟨g, 0, none⟩), .func (Fn.func 41) #[] #[]] w (StepIs (.int .u64 v) w base g d all a' false) := by
  obtain ⟨c0, c1, c2, f1, f2⟩ := H.facts
  have H1 := Lib.hid (Torn_some g false w c2)
  clear c0 c2 f1 f2
  go_enter Try.func40, Try.ntmps40
  go_wp2_with fail
  refine H1.out.mono ?_
  rintro e w1 ⟨rfl, rfl⟩
  go_wp2_with fail
  refine HF.out.mono ?_
  rintro e w2 ⟨rfl, hT, hg⟩
  have hr : StepIs (.int .u64 v) w base g d all a' false (.returned (.int .u64 v)) w2 := ⟨rfl, hT, hg⟩
  clear hT hg c1 H
  go_wp2
  go_ret
  exact hr

end Go.Proofs.Ytlphmpimpeekcaa
