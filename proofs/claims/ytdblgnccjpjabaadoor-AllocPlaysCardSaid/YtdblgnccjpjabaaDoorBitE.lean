/- Package bitmap: Of. -/
import Derived.Test.YtdblgnccjpjabaaDoorBitD
-- OPTIONAL
namespace Go.Proofs.YtdblgnccjpjabaaDoor
open Go.RowKit Go.Grommet

theorem wordsOf_int (m : Int) (w : World) (h1 : 1 ≤ m) (h2 : m ≤ 9223372036854775807) : Calls Tryd.prog 68 #[.int .i64 m] w fun e w' => e = .returned (.int .i64 (((m.toNat - 1) / 64 + 1 : Nat) : Int)) ∧ w = w' := by
  obtain ⟨k, rfl⟩ := Int.eq_ofNat_of_zero_le (by omega : 0 ≤ m)
  exact wordsOf_any k w (by omega) (by omega)

set_option maxRecDepth 100000 in
set_option maxHeartbeats 1000000 in
theorem MOfH (k g a m : Nat) (xs : List Nat) (L : List (Nat × Nat)) (w0 w : World) (Ps : List Pr) (h : Own w0 w Ps) (hk : Ps[k]? = some (viewP g xs L)) (hM : MapOk xs.length a m) :
    Calls Tryd.prog 45 #[.pointer (some ⟨g, 0, none⟩), .int .i64 (a : Int), .int .i64 (m : Int)] w fun e w' => ∃ X, e = .returned (.tuple #[.pointer (some ⟨X, 0, none⟩), .int .i64 0]) ∧ Own w0 w' (Ps ++ [mapP X g a m]) ∧ w.heap.size ≤ X := by
  have HL := Lib.hid (LenH k g xs L w0 w Ps h hk)
  have hlt := hM.lt
  have h1 := hM.one
  have hf : a + ((m - 1) / 64 + 1) ≤ xs.length := by have := hM.fits; omega
  have hfw := hM.few
  have HW := Lib.hid (wordsOf_any m w h1 (by omega))
  have HO := Lib.hid (h.addBox 114 (mapCs g a m))
  unfold mapCs at HO
  generalize xs.length = n at *
  generalize (m - 1) / 64 + 1 = q at *
  have m1 : ¬ (m : Int) < 1 := by omega
  have a0 : ¬ (a : Int) < 0 := by omega
  have e1 : IntKind.i64.wrap ((n : Int) - (q : Int)) = (n : Int) - (q : Int) := IntWalk.i64_in _ ⟨by omega, by omega⟩
  have a1 : ¬ (n : Int) - (q : Int) < (a : Int) := by omega
  clear h hk hM hf hlt hfw
  go_enter Tryd.func45, Tryd.ntmps45
  go_wp2_with fail
  refine HL.out.mono ?_
  rintro e w1 ⟨rfl, rfl⟩
  go_wp2_with fail
  refine HW.out.mono ?_
  rintro e w2 ⟨rfl, rfl⟩
  go_wp2
  go_ret2
  exact ⟨_, rfl, HO.out, Nat.le_refl _⟩

set_option maxRecDepth 100000 in
set_option maxHeartbeats 1000000 in
theorem MOfNo (k g : Nat) (a m : Int) (xs : List Nat) (L : List (Nat × Nat)) (w0 w : World) (Ps : List Pr) (h : Own w0 w Ps) (hk : Ps[k]? = some (viewP g xs L)) (hm : m ≤ 9223372036854775807) (en : Int)
    (he : (m < 1 ∧ en = 1) ∨ (1 ≤ m ∧ (a < 0 ∨ (xs.length : Int) - (((m.toNat - 1) / 64 + 1 : Nat) : Int) < a) ∧ en = 8)) :
    Calls Tryd.prog 45 #[.pointer (some ⟨g, 0, none⟩), .int .i64 a, .int .i64 m] w fun e w' => e = .returned (.tuple #[.pointer none, .int .i64 en]) ∧ w' = w := by
  rcases he with ⟨h1, rfl⟩ | ⟨h1, h2, rfl⟩
  · clear h hk hm
    go_enter Tryd.func45, Tryd.ntmps45
    go_wp2
    go_ret2
    exact ⟨rfl, rfl⟩
  · have m1 : ¬ m < 1 := by omega
    by_cases a0 : a < 0
    · clear h hk hm h2
      go_enter Tryd.func45, Tryd.ntmps45
      go_wp2
      go_ret2
      exact ⟨rfl, rfl⟩
    · have HL := Lib.hid (LenH k g xs L w0 w Ps h hk)
      have HW := Lib.hid (wordsOf_int m w h1 hm)
      have hfit := (Own.wl h k hk).2.2
      have hq : (m.toNat - 1) / 64 + 1 ≤ 9223372036854775807 := by omega
      generalize xs.length = n at *
      generalize (m.toNat - 1) / 64 + 1 = q at *
      have e1 : IntKind.i64.wrap ((n : Int) - (q : Int)) = (n : Int) - (q : Int) := IntWalk.i64_in _ ⟨by omega, by omega⟩
      have a1 : (n : Int) - (q : Int) < a := by omega
      clear h hk hm h2 hfit hq
      go_enter Tryd.func45, Tryd.ntmps45
      go_wp2_with fail
      refine HL.out.mono ?_
      rintro e w1 ⟨rfl, rfl⟩
      go_wp2_with fail
      refine HW.out.mono ?_
      rintro e w2 ⟨rfl, rfl⟩
      go_wp2
      go_ret2
      exact ⟨rfl, rfl⟩
end Go.Proofs.YtdblgnccjpjabaaDoor
