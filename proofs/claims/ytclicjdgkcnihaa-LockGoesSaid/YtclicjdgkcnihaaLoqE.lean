/- Package lock: New. -/
import Derived.Test.YtclicjdgkcnihaaLoqB
import Derived.Deep.RegionHeld
import Derived.Deep.CutBlock
namespace Go.Proofs.Ytclicjdgkcnihaa
open Go.RowKit Go.Grommet

theorem tabC_congr (m : Nat) (f g : Nat → Int) (q : Nat → Value) (h : ∀ i, i < 70 → f i = g i) : tabC m f q = tabC m g q := by
  refine tabC_ext _ _ _ _ (tabC_size _ _ _) (fun j hj => ?_)
  rw [tabC_get _ _ _ _ hj]
  unfold tcell
  by_cases h0 : j = 0
  · rw [if_pos h0, if_pos h0]
  · rw [if_neg h0, if_neg h0]
    by_cases h1 : j % 2 = 1
    · rw [if_pos h1, if_pos h1, h _ (by omega)]
    · rw [if_neg h1, if_neg h1]
def nh (k : Nat) : Nat → Int := fun i => if i < k then -1 else 0
theorem nh_step (k : Nat) : seth (nh k) k (-1) = nh (k + 1) := by
  funext i
  unfold seth nh
  by_cases e : i = k
  · rw [if_pos e, if_pos (by omega)]
  · rw [if_neg e]
    by_cases h : i < k
    · rw [if_pos h, if_pos (by omega)]
    · rw [if_neg h, if_neg (by omega)]

def nilq : Nat → Value := fun _ => .slice none 0 0
theorem zeroT (w : World) : Sem.run Try.prog (zeroValue 49) w = .ok (.agg (tabC 0 (nh 0) nilq)) w := by kernel_rfl

set_option maxRecDepth 100000 in
set_option maxHeartbeats 1000000 in
theorem NewH (m : Nat) (hm1 : 1 ≤ m) (hm4 : m ≤ 4) (w0 w : World) (Ps : List Pr) (h : Grommet.Own w0 w Ps) :
    Calls Try.prog 8 #[.int .i64 (m : Int)] w fun e w' => ∃ X, e = .returned (.tuple #[.pointer (some ⟨X, 0, none⟩), .int .i64 0]) ∧ Grommet.Own w0 w' (Ps ++ [tabP X m (fun _ => -1) nilq]) := by
  have hO1 := Lib.hid (h.addBox 49 (tabC m (nh 0) nilq))
  obtain ⟨X, hX⟩ : ∃ X, w.heap.size = X := ⟨_, rfl⟩
  rw [hX] at hO1
  have m1 : ¬ (m : Int) < 1 := by omega
  have m2 : ¬ (4 : Int) < (m : Int) := by omega
  clear h hm1 hm4
  go_enter Try.func8, Try.ntmps8
  go_upto_region 4 with fail
  obtain ⟨Z, hZ0, hZ⟩ : ∃ Z, Z = tabC 0 (nh 0) nilq ∧ Sem.run Try.prog (zeroValue 49) w = .ok (.agg Z) w := ⟨_, rfl, zeroT w⟩
  have hne : ¬ Z = #[] := by intro e; have := congrArg Array.size e; rw [hZ0, tabC_size] at this; simp at this
  have hsz : Z.size = 141 := by rw [hZ0, tabC_size]
  rw [hZ]
  clear hZ
  go_upto_region 4 with fail
  generalize hW : World.alloc _ _ = W3
  have hO3 : Hid (Grommet.Own w0 W3 (Ps ++ [tabP X m (nh 0) nilq])) := Lib.hid (by rw [← hW]; exact hO1.out)
  clear hO1 hW hX hne hsz hZ0 Z
  go_wp2_with fail
  go_loopw [15] (fun i wr => ∃ k : Nat, k ≤ 70 ∧ i = .int .i64 (k : Int) ∧ Hid (Grommet.Own w0 wr (Ps ++ [tabP X m (nh k) nilq]))) (fun i _ => 70 - (intOf i).toNat)
  case atStart => exact ⟨0, Nat.zero_le _, rfl, hO3⟩
  case round =>
    clear hO3
    obtain ⟨k, hk, rfl, hO⟩ := hrel
    have k0 : (0 : Int) ≤ (k : Int) := by omega
    by_cases hlt : k < 70
    · have hlt' : (k : Int) < 70 := by omega
      have wk : IntKind.i64.wrap ((k : Int) + 1) = (k : Int) + 1 := IntWalk.i64_in _ ⟨by omega, by omega⟩
      have hb := hO.out.box Ps.length (lastP _ _)
      have z1 : wr.frozen? ⟨X, 1 + k * 2, none⟩ = false := by simp [World.frozen?, hb]
      have c1 := (show TabIs wr X m (nh k) nilq from hb).holder k hlt
      have hS := own_store_box hO.out Ps.length (lastP _ _) (1 + k * 2) (.int .i64 (-1))
      rw [tabC_set m (nh k) nilq k (-1) hlt, nh_step, set_lastP] at hS
      have hS := Lib.hid hS
      have Hk := Lib.hid hlt
      clear hb hO hlt hk
      go_wp2
      go_roundw
      case rel => exact ⟨k + 1, Hk.out, by go_num, hS⟩
      case measure => have := Hk.out; simp [intOf]; omega
    · obtain rfl : k = 70 := by omega
      have hO9 := hO.out
      unfold tabP at hO9
      rw [tabC_congr m (nh 70) (fun _ => -1) nilq (fun i hi => by unfold nh; rw [if_pos hi])] at hO9
      have hO9 := Lib.hid hO9
      clear hlt hk hO
      go_wp2
      go_ret2
      exact ⟨X, rfl, hO9.out⟩
end Go.Proofs.Ytclicjdgkcnihaa
