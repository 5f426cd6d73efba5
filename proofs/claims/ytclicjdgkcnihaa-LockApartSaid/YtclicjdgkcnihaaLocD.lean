/- Package lock, a table in which nobody waits: Want. -/
import Derived.Test.YtclicjdgkcnihaaLocC
namespace Go.Proofs.Ytclicjdgkcnihaa
open Go.RowKit Go.Grommet

set_option maxRecDepth 100000 in
set_option maxHeartbeats 1000000 in
theorem WantNo (j X m a k : Nat) (f : Nat → Int) (w0 w : World) (Ps : List Pr) (h : Grommet.Own w0 w Ps) (hk : Ps[j]? = some (tabP X m f)) (ha : a < m) (h70 : k < 70) (hl : (k : Int) ≤ highV (heldL f a 70)) :
    Calls Try.prog 10 #[tptr X, .int .i64 (a : Int), .int .i64 (k : Int)] w fun e w' => e = .returned (.tuple #[.bool false, .int .i64 1]) ∧ Grommet.Own w0 w' Ps := by
  have HA := Lib.hid (has_yes w X m f (h.box j hk) a ha)
  have HH := Lib.hid (highestH j X m a f w0 w Ps h hk ha)
  have k0 : (0 : Int) ≤ (k : Int) := by omega
  have k1 : (k : Int) < 70 := by omega
  have k2 : ¬ (k : Int) < 0 := by omega
  have k3 : ¬ (70 : Int) ≤ (k : Int) := by omega
  obtain ⟨v, hv⟩ : ∃ v, highV (heldL f a 70) = v := ⟨_, rfl⟩
  rw [hv] at HH hl
  unfold tptr at HA HH ⊢
  clear h hk ha h70 hv
  go_enter Try.func10, Try.ntmps10
  go_wp2_with fail
  refine HA.out.mono ?_
  rintro e w1 ⟨rfl, rfl⟩
  clear HA
  go_wp2_with fail
  refine HH.out.mono ?_
  rintro e w2 ⟨rfl, hO⟩
  have hO := Lib.hid hO
  clear HH
  go_wp2
  go_ret2
  exact ⟨rfl, hO.out⟩

set_option maxRecDepth 100000 in
set_option maxHeartbeats 1000000 in
theorem WantYes (j X m a k : Nat) (f : Nat → Int) (w0 w : World) (Ps : List Pr) (h : Grommet.Own w0 w Ps) (hk : Ps[j]? = some (tabP X m f)) (ha : a < m) (h70 : k < 70) (hl : highV (heldL f a 70) < (k : Int)) (hf : f k = -1) :
    Calls Try.prog 10 #[tptr X, .int .i64 (a : Int), .int .i64 (k : Int)] w fun e w' => e = .returned (.tuple #[.bool true, .int .i64 0]) ∧ Grommet.Own w0 w' (Ps.set j (tabP X m (seth f k (a : Int)))) := by
  have HA := Lib.hid (has_yes w X m f (h.box j hk) a ha)
  have HH := Lib.hid (highestH j X m a f w0 w Ps h hk ha)
  have HW := Lib.hid (fun wx (hO : Grommet.Own w0 wx Ps) => Waits_no wx X m f (hO.box j hk) a ha)
  have HC := Lib.hid (fun wx (hO : Grommet.Own w0 wx Ps) => (show TabIs wx X m f from hO.box j hk).holder k h70)
  have HS := Lib.hid (fun wx (hO : Grommet.Own w0 wx Ps) => (show Grommet.Own w0 (wx.setCell ⟨X, 1 + k * 2, none⟩ (.int .i64 (a : Int))) (Ps.set j (tabP X m (seth f k (a : Int)))) by
    have := own_store_box hO j hk (1 + k * 2) (.int .i64 (a : Int)); rw [tabC_set m f k (a : Int) h70] at this; exact this))
  rw [hf] at HC
  have HF := Lib.hid (fun wx (hO : Grommet.Own w0 wx Ps) => (show wx.frozen? ⟨X, 1 + k * 2, none⟩ = false by have := hO.box j hk; simp [World.frozen?, this]))
  have k0 : (0 : Int) ≤ (k : Int) := by omega
  have k1 : (k : Int) < 70 := by omega
  have k2 : ¬ (k : Int) < 0 := by omega
  have k3 : ¬ (70 : Int) ≤ (k : Int) := by omega
  obtain ⟨v, hv⟩ : ∃ v, highV (heldL f a 70) = v := ⟨_, rfl⟩
  rw [hv] at HH hl
  have hl2 : ¬ (k : Int) ≤ v := by omega
  unfold tptr at HA HH HW ⊢
  clear h hk ha h70 hv hf
  go_enter Try.func10, Try.ntmps10
  go_wp2_with fail
  refine HA.out.mono ?_
  rintro e w1 ⟨rfl, rfl⟩
  clear HA
  go_wp2_with fail
  refine HH.out.mono ?_
  rintro e w2 ⟨rfl, hO⟩
  have HW2 := Lib.hid (HW.out w2 hO)
  have c1 := HC.out w2 hO
  have z1 := HF.out w2 hO
  have hS := Lib.hid (HS.out w2 hO)
  clear HH HW HC HF HS hO
  go_wp2_with fail
  refine HW2.out.mono ?_
  rintro e w3 ⟨rfl, rfl⟩
  clear HW2
  go_wp2
  go_ret2
  exact ⟨rfl, hS.out⟩
end Go.Proofs.Ytclicjdgkcnihaa
