import Derived.Test.YtfljlmmiiccooaaGreatDoorPk29
import Derived.Test.YtfljlmmiiccooaaGreatDoorPk7
import Derived.Test.YtfljlmmiiccooaaGreatDoorPk1
section
namespace Go.Proofs.YtfljlmmiiccooaaGreatDoor
open Go.RowKit Go.Grommet Go.Ev
theorem MCountH (k k2 X g a m : Nat) (xs : List Nat) (L : List (Nat × Nat)) (w0 w : World) (Ps : List Pr) (h : Grommet.Own w0 w Ps) (hk : Ps[k]? = some (viewP g xs L)) (hx : Ps[k2]? = some (mapP X g a m)) (hM : MapOk xs.length a m) (c : Nat) (hc : cntF (mbit xs L a) m = c) :
  Calls Tryz.prog 126 #[.pointer (some ⟨X, 0, none⟩)] w fun e w' => e = .returned (.int .i64 (c : Int)) ∧ w.grownBy w' none := by
 subst hc
 obtain ⟨F, hF⟩ := h.get k hk
 exact MCount_any w X g a m _ F xs L (h.box k2 hx) hF hM rfl
theorem MClearH (k k2 X g a m : Nat) (xs : List Nat) (L : List (Nat × Nat)) (w0 w : World) (Ps : List Pr) (h : Grommet.Own w0 w Ps) (hk : Ps[k]? = some (viewP g xs L)) (hx : Ps[k2]? = some (mapP X g a m)) (hM : MapOk xs.length a m)
  (htab : Lib.TabIs Tryz.prog w0 "math/bits.deBruijn64tab" .u8 tab) (c : Int) (b : Bool) (hc : ClrR (mbit xs L a) m c b) :
  Calls Tryz.prog 137 #[.pointer (some ⟨X, 0, none⟩)] w fun e w' => e = .returned (.tuple #[.int .i64 c, .bool b]) ∧ w.grownBy w' none := by
 obtain ⟨F, hF⟩ := h.get k hk
 refine (MClear_any w X g a m _ F xs L (h.box k2 hx) hF hM rfl (tab_grown htab h.grown)).mono ?_
 rintro e w' ⟨c', b', rfl, hr, hg⟩
 obtain ⟨rfl, rfl⟩ := hc.one hr
 exact ⟨rfl, hg⟩
theorem clrR_ex (f : Nat → Bool) : ∀ m, ∃ c b, ClrR f m c b
 | 0 => ⟨0, false, .inr ⟨rfl, rfl, fun _ h => by omega⟩⟩
 | m + 1 => by
  obtain ⟨c, b, h⟩ := clrR_ex f m
  rcases h with ⟨rfl, i, rfl, hi, hf, hl⟩ | ⟨rfl, rfl, hl⟩
  ·exact ⟨_, true, .inl ⟨rfl, i, rfl, by omega, hf, hl⟩⟩
  ·cases hf : f m with
   | false => exact ⟨_, true, .inl ⟨rfl, m, rfl, by omega, hf, hl⟩⟩
   | true => exact ⟨0, false, .inr ⟨rfl, rfl, fun j hj => by
     by_cases e : j = m
     ·subst e; exact hf
     ·exact hl j (by omega)⟩⟩
end Go.Proofs.YtfljlmmiiccooaaGreatDoor
end
