/- The closure of Text, next at strings, and the methods: Byte, Number, Text, End. -/
import Derived.Test.YtlphmpimpeekcaaOctJ
namespace Go.Proofs.Ytlphmpimpeekcaa
open Go.RowKit Go.Grommet

set_option maxHeartbeats 400000 in
theorem Text1_no (base g d q : Nat) (all : List UInt8) (t : Bool) (most : Int) (w : World) (hc : w.cell? ⟨q, 0, none⟩ = some (.int .i64 most))
    (HF : Hid (Calls Try.prog 44 #[.pointer (some ⟨g, 0, none⟩), .int .i64 most] w (ThereNo (.string ⟨#[]⟩) w base g d all t))) :
    Calls Try.prog 43 #[.pointer (some ⟨g, 0, none⟩), .pointer (some ⟨q, 0, none⟩)] w (ThereNo (.string ⟨#[]⟩) w base g d all t) := by
  go_enter Try.func43, Try.ntmps43
  go_wp2_with fail
  refine HF.out.mono ?_
  rintro e w1 ⟨a1, rfl, hT, hg⟩
  go_wp2
  go_ret2
  exact ⟨a1, rfl, hT, hg⟩

set_option maxHeartbeats 400000 in
theorem Text1_yes (base g d q a' : Nat) (all : List UInt8) (t : Bool) (s : ByteArray) (most : Int) (w : World) (hc : w.cell? ⟨q, 0, none⟩ = some (.int .i64 most))
    (HF : Hid (Calls Try.prog 44 #[.pointer (some ⟨g, 0, none⟩), .int .i64 most] w (ThereYes (.string s) a' w base g d all t))) :
    Calls Try.prog 43 #[.pointer (some ⟨g, 0, none⟩), .pointer (some ⟨q, 0, none⟩)] w (ThereYes (.string s) a' w base g d all t) := by
  go_enter Try.func43, Try.ntmps43
  go_wp2_with fail
  refine HF.out.mono ?_
  rintro e w1 ⟨rfl, hT, hg⟩
  go_wp2
  go_ret2
  exact ⟨rfl, hT, hg⟩

set_option maxHeartbeats 400000 in
theorem next_string_nil (F : Value) (w : World) : Calls Try.prog 42 #[.pointer none, F] w fun e w' => e = .returned (.string ⟨#[]⟩) ∧ w = w' := by
  have H := Lib.hid (Torn_nil w)
  go_enter Try.func42, Try.ntmps42
  go_wp2_with fail
  refine H.out.mono ?_
  rintro e w1 ⟨rfl, rfl⟩
  go_wp2
  go_ret
  exact ⟨rfl, rfl⟩

set_option maxHeartbeats 400000 in
theorem next_string_torn (base g d : Nat) (all : List UInt8) (a : Nat) (F : Value) (w : World) (H : TapeIs w base g d all a true) :
    Calls Try.prog 42 #[.pointer (some ⟨g, 0, none⟩), F] w (StepIs (.string ⟨#[]⟩) w base g d all a true) := by
  have hr : StepIs (.string ⟨#[]⟩) w base g d all a true (.returned (.string ⟨#[]⟩)) w := ⟨rfl, H, World.grownBy.refl _ _⟩
  have H1 := Lib.hid (Torn_some g true w H.facts.2.2.1)
  clear H
  go_enter Try.func42, Try.ntmps42
  go_wp2_with fail
  refine H1.out.mono ?_
  rintro e w1 ⟨rfl, rfl⟩
  go_wp2
  go_ret
  exact hr

set_option maxHeartbeats 400000 in
theorem next_string_no (base g d q : Nat) (all : List UInt8) (a : Nat) (w : World) (H : TapeIs w base g d all a false) (HF : Hid (Calls Try.prog 43 #[.pointer (some ⟨g, 0, none⟩), .pointer (some ⟨q, 0, none⟩)] w (ThereNo (.string ⟨#[]⟩) w base g d all false))) :
    Calls Try.prog 42 #[.pointer (some ⟨g, 0, none⟩), .func (Fn.func 43) #[] #[.pointer (some ⟨q, 0, none⟩)]] w (StepIs (.string ⟨#[]⟩) w base g d all a true) := by
  obtain ⟨c0, c1, c2, f1, f2⟩ := H.facts
  have H1 := Lib.hid (Torn_some g false w c2)
  have hp := Lib.hid H.place
  clear c0 c2 f1 f2
  go_enter Try.func42, Try.ntmps42
  go_wp2_with fail
  refine H1.out.mono ?_
  rintro e w1 ⟨rfl, rfl⟩
  go_wp2_with fail
  refine HF.out.mono ?_
  rintro e w2 ⟨a', rfl, hT, hg⟩
  have hr : StepIs (.string ⟨#[]⟩) w base g d all a true (.returned (.string ⟨#[]⟩)) ((w2.setCell ⟨g, 1, none⟩ (.int .i64 (a : Int))).setCell ⟨g, 2, none⟩ (.bool true)) :=
    ⟨rfl, (hT.move a hp.out).tear, grown_trans hg (grown_trans (grown_setCell _ _ _) (grown_setCell _ _ _))⟩
  obtain ⟨_, e1, e2, f1, f2⟩ := hT.facts
  clear hT hg c1 H
  go_wp2
  go_ret
  exact hr

set_option maxHeartbeats 400000 in
theorem next_string_yes (base g d q : Nat) (all : List UInt8) (a a' : Nat) (v : ByteArray) (w : World) (H : TapeIs w base g d all a false) (HF : Hid (Calls Try.prog 43 #[.pointer (some ⟨g, 0, none⟩), .pointer (some ⟨q, 0, none⟩)] w (ThereYes (.string v) a' w base g d all false))) :
    Calls Try.prog 42 #[.pointer (some ⟨g, 0, none⟩), .func (Fn.func 43) #[] #[.pointer (some ⟨q, 0, none⟩)]] w (StepIs (.string v) w base g d all a' false) := by
  obtain ⟨c0, c1, c2, f1, f2⟩ := H.facts
  have H1 := Lib.hid (Torn_some g false w c2)
  clear c0 c2 f1 f2
  go_enter Try.func42, Try.ntmps42
  go_wp2_with fail
  refine H1.out.mono ?_
  rintro e w1 ⟨rfl, rfl⟩
  go_wp2_with fail
  refine HF.out.mono ?_
  rintro e w2 ⟨rfl, hT, hg⟩
  have hr : StepIs (.string v) w base g d all a' false (.returned (.string v)) w2 := ⟨rfl, hT, hg⟩
  clear hT hg c1 H
  go_wp2
  go_ret
  exact hr

/-- What a method tells of no tape. -/
def NilIs (v : Value) (w : World) (e : Ending) (w' : World) : Prop := e = .returned v ∧ w.grownBy w' none

set_option maxHeartbeats 400000 in
theorem Byte_nil (w : World) : Calls Try.prog 24 #[.pointer none] w (NilIs (.int .u8 0) w) := by
  have H := Lib.hid (next_byte_nil (.func (Fn.func 46) #[] #[]) w)
  go_enter Try.func24, Try.ntmps24
  go_wp2_with fail
  refine H.out.mono ?_
  rintro e w1 ⟨rfl, rfl⟩
  go_wp2
  go_ret
  exact ⟨rfl, World.grownBy.refl _ _⟩

set_option maxHeartbeats 400000 in
theorem Byte_step (base g d : Nat) (all : List UInt8) (a : Nat) (t : Bool) (v : Int) (w : World) (H : Hid (Calls Try.prog 45 #[.pointer (some ⟨g, 0, none⟩), .func (Fn.func 46) #[] #[]] w (StepIs (.int .u8 v) w base g d all a t))) :
    Calls Try.prog 24 #[.pointer (some ⟨g, 0, none⟩)] w (StepIs (.int .u8 v) w base g d all a t) := by
  go_enter Try.func24, Try.ntmps24
  go_wp2_with fail
  refine H.out.mono ?_
  rintro e w1 ⟨rfl, hr⟩
  go_wp2
  go_ret
  exact ⟨rfl, hr⟩

set_option maxHeartbeats 400000 in
theorem Number_nil (w : World) : Calls Try.prog 21 #[.pointer none] w (NilIs (.int .u64 0) w) := by
  have H := Lib.hid (next_uint64_nil (.func (Fn.func 41) #[] #[]) w)
  go_enter Try.func21, Try.ntmps21
  go_wp2_with fail
  refine H.out.mono ?_
  rintro e w1 ⟨rfl, rfl⟩
  go_wp2
  go_ret
  exact ⟨rfl, World.grownBy.refl _ _⟩

set_option maxHeartbeats 400000 in
theorem Number_step (base g d : Nat) (all : List UInt8) (a : Nat) (t : Bool) (v : Int) (w : World) (H : Hid (Calls Try.prog 40 #[.pointer (some ⟨g, 0, none⟩), .func (Fn.func 41) #[] #[]] w (StepIs (.int .u64 v) w base g d all a t))) :
    Calls Try.prog 21 #[.pointer (some ⟨g, 0, none⟩)] w (StepIs (.int .u64 v) w base g d all a t) := by
  go_enter Try.func21, Try.ntmps21
  go_wp2_with fail
  refine H.out.mono ?_
  rintro e w1 ⟨rfl, hr⟩
  go_wp2
  go_ret
  exact ⟨rfl, hr⟩

set_option maxHeartbeats 400000 in
theorem Text_nil (most : Int) (w : World) : Calls Try.prog 23 #[.pointer none, .int .i64 most] w (NilIs (.string ⟨#[]⟩) w) := by
  have H := fun F w1 => next_string_nil F w1
  have H := Lib.hid H
  go_enter Try.func23, Try.ntmps23
  go_wp2_with fail
  refine (H.out _ _).mono ?_
  rintro e w1 ⟨rfl, rfl⟩
  go_wp2
  go_ret
  exact ⟨rfl, World.grownBy_alloc _ _ _⟩

set_option maxHeartbeats 400000 in
theorem Text_step (base g d : Nat) (all : List UInt8) (a : Nat) (t : Bool) (most : Int) (s : ByteArray) (w : World)
    (H : Hid (Calls Try.prog 42 #[.pointer (some ⟨g, 0, none⟩), .func (Fn.func 43) #[] #[.pointer (some ⟨w.heap.size, 0, none⟩)]] (w.alloc (.cells #[.int .i64 most] 3)) (StepIs (.string s) (w.alloc (.cells #[.int .i64 most] 3)) base g d all a t))) :
    Calls Try.prog 23 #[.pointer (some ⟨g, 0, none⟩), .int .i64 most] w (StepIs (.string s) w base g d all a t) := by
  go_enter Try.func23, Try.ntmps23
  go_wp2_with fail
  refine H.out.mono ?_
  rintro e w1 ⟨rfl, hT, hg⟩
  have hg' := grown_trans (World.grownBy_alloc _ _ _) hg
  clear hg H
  go_wp2
  go_ret
  exact ⟨rfl, hT, hg'⟩

theorem Torn_nil' (w : World) : Calls Try.prog 54 #[.pointer none] w fun e w' => e = .returned (.bool true) ∧ w' = w := (Torn_nil w).mono fun _ _ h => ⟨h.1, h.2.symm⟩
theorem Torn_some' (g : Nat) (t : Bool) (w : World) (hc : w.cell? ⟨g, 2, none⟩ = some (.bool t)) : Calls Try.prog 54 #[.pointer (some ⟨g, 0, none⟩)] w fun e w' => e = .returned (.bool t) ∧ w' = w :=
  (Torn_some g t w hc).mono fun _ _ h => ⟨h.1, h.2.symm⟩

set_option maxHeartbeats 400000 in
theorem End_nil (w : World) : Calls Try.prog 26 #[.pointer none] w (NilIs (.bool false) w) := by
  go_enter Try.func26, Try.ntmps26
  go_wp2_with fail
  go_quiet ((go_at_call 54; exact Calls.quiet_of_same (Torn_nil' _)))
  go_wp2
  go_ret
  exact ⟨rfl, grown_drewN _ _ _⟩

set_option maxHeartbeats 400000 in
theorem End_torn (base g d : Nat) (all : List UInt8) (a : Nat) (w : World) (H : TapeIs w base g d all a true) : Calls Try.prog 26 #[.pointer (some ⟨g, 0, none⟩)] w (StepIs (.bool false) w base g d all a true) := by
  have hc := H.facts.2.2.1
  have hr := fun n => H.keep (grown_drewN w n none) (by simp) (by simp)
  clear H
  go_enter Try.func26, Try.ntmps26
  go_wp2_with fail
  go_quiet ((go_at_call 54; exact Calls.quiet_of_same (Torn_some' g true _ (by simpa using hc))))
  go_wp2
  go_ret
  exact ⟨rfl, hr _, grown_drewN _ _ _⟩

set_option maxHeartbeats 400000 in
theorem End_whole (base g d : Nat) (all : List UInt8) (a : Nat) (w : World) (H : TapeIs w base g d all a false) : Calls Try.prog 26 #[.pointer (some ⟨g, 0, none⟩)] w (StepIs (.bool (decide (a = all.length))) w base g d all a false) := by
  obtain ⟨c0, c1, c2, f1, f2⟩ := H.facts
  have hr := Lib.hid (fun n => H.keep (grown_drewN w n none) (by simp) (by simp))
  have hs := H.small
  have hp := H.place
  clear H f1 f2
  go_enter Try.func26, Try.ntmps26
  go_wp2_with fail
  go_quiet ((go_at_call 54; exact Calls.quiet_of_same (Torn_some' g false _ (by simpa using c2))))
  go_wp2
  go_ret
  have e : ((a : Int) == (all.length : Int)) = decide (a = all.length) := by
    rw [Bool.eq_iff_iff]; simp only [beq_iff_eq, decide_eq_true_eq]; omega
  exact ⟨congrArg (fun b => Ending.returned (.bool b)) e, hr.out _, grown_drewN _ _ _⟩
end Go.Proofs.Ytlphmpimpeekcaa
