/- byteThere and numberThere. -/
import Derived.Test.YtlphmpimpeekcaaOctE
namespace Go.Proofs.Ytlphmpimpeekcaa
open Go.RowKit Go.Grommet

/-- Nothing was found: the zero value, and the tape somewhere. -/
def ThereNo (z : Value) (w : World) (base g d : Nat) (all : List UInt8) (t : Bool) (e : Ending) (w' : World) : Prop :=
  ∃ a', e = .returned (.tuple #[z, .bool false]) ∧ TapeIs w' base g d all a' t ∧ w.grownBy w' (some g)

/-- A value was found, and the tape stands at a. -/
def ThereYes (v : Value) (a : Nat) (w : World) (base g d : Nat) (all : List UInt8) (t : Bool) (e : Ending) (w' : World) : Prop :=
  e = .returned (.tuple #[v, .bool true]) ∧ TapeIs w' base g d all a t ∧ w.grownBy w' (some g)

set_option maxHeartbeats 400000 in
theorem byteThere_no (base g d : Nat) (all : List UInt8) (a : Nat) (t : Bool) (w : World) (H : TapeIs w base g d all a t) (hlt : all.length ≤ a) :
    Calls Try.prog 46 #[.pointer (some ⟨g, 0, none⟩)] w (ThereNo (.int .u8 0) w base g d all t) := by
  have H1 := Lib.hid (piece_no base g d all a t 1 w H (by decide) (by omega))
  go_enter Try.func46, Try.ntmps46
  go_wp2_with (go_at_call 57; refine H1.out.mono ?_; rintro e w1 ⟨rfl, hT, hg⟩)
  go_ret2
  exact ⟨a, rfl, hT, hg⟩

set_option maxHeartbeats 400000 in
theorem byteThere_yes (base g d : Nat) (all : List UInt8) (a : Nat) (t : Bool) (w : World) (H : TapeIs w base g d all a t) (hlt : a < all.length) :
    Calls Try.prog 46 #[.pointer (some ⟨g, 0, none⟩)] w (ThereYes (.int .u8 (((all.getD a 0).toNat : Nat) : Int)) (a + 1) w base g d all t) := by
  have H1 := Lib.hid (piece_yes base g d all a t 1 w H (by decide) (by omega))
  have hd : (all.drop a).take 1 = [all.getD a 0] := by
    rw [List.drop_eq_getElem_cons hlt, List.take_succ_cons, List.take_zero]
    simp [List.getD, hlt]
  generalize all.getD a 0 = c at hd ⊢
  have HD := Lib.hid hd
  clear hd
  go_enter Try.func46, Try.ntmps46
  go_wp2_with fail
  refine H1.out.mono ?_
  rintro e w1 ⟨ad, cp, rfl, hat, hl, hn, hT, hg⟩
  rw [HD.out] at hat
  obtain ⟨q, o, rfl, hc⟩ := hat 0 (bv c) rfl
  have hc' : w1.cell? ⟨q, o, none⟩ = some (.int .u8 (c.toNat : Int)) := hc
  clear hc hat hn hl H1
  go_wp2
  go_ret2
  exact ⟨rfl, hT, hg⟩
end Go.Proofs.Ytlphmpimpeekcaa
