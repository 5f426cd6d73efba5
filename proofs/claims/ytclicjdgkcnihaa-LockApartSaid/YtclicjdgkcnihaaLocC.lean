/- Package lock, a table in which nobody waits: highest, Waits, Want. -/
import Derived.Test.YtclicjdgkcnihaaLocB
namespace Go.Proofs.Ytclicjdgkcnihaa
open Go.RowKit Go.Grommet

/-- The highest lock that a worker holds. -/
def highV (L : List Nat) : Int := if L = [] then -1 else ((L.getD (L.length - 1) 0 : Nat) : Int)
theorem highV_nil {L : List Nat} (h : L.length = 0) : highV L = -1 := by rw [List.eq_nil_of_length_eq_zero h]; rfl
theorem highV_some {L : List Nat} {p : Nat} (h : L.length = p + 1) : highV L = ((L.getD p 0 : Nat) : Int) := by
  unfold highV
  rw [if_neg (by intro e; rw [e] at h; simp at h), h]; rfl

theorem own_less_grown {w0 w : World} {Ps : List Pr} {P : Pr} (h : Grommet.Own w0 w (Ps ++ [P])) : Grommet.Own w0 w Ps := Own.less h

set_option maxRecDepth 100000 in
set_option maxHeartbeats 1000000 in
theorem highestH (j X m a : Nat) (f : Nat → Int) (w0 w : World) (Ps : List Pr) (h : Grommet.Own w0 w Ps) (hk : Ps[j]? = some (tabP X m f)) (ha : a < m) :
    Calls Try.prog 23 #[tptr X, .int .i64 (a : Int)] w fun e w' => e = .returned (.int .i64 (highV (heldL f a 70))) ∧ Grommet.Own w0 w' Ps := by
  have HH := Lib.hid (HeldH j X m a f w0 w Ps h hk ha)
  have hle := heldL_le f a 70
  obtain ⟨L, hL⟩ : ∃ L, heldL f a 70 = L := ⟨_, rfl⟩
  rw [hL] at HH hle ⊢
  unfold tptr at HH ⊢
  clear h hk ha hL
  rcases hn : L.length with _ | p
  · have hv := Lib.hid (highV_nil hn)
    rw [hn] at HH
    clear hn hle
    rw [hv.out]
    clear hv
    go_enter Try.func23, Try.ntmps23
    go_wp2_with fail
    refine HH.out.mono ?_
    rintro e w1 ⟨ad, cap, rfl, hO⟩
    clear HH
    have hO := Lib.hid hO
    go_wp2
    go_ret
    exact ⟨rfl, hO.out.less⟩
  · have hv := Lib.hid (highV_some hn)
    have hp : p < 70 := by omega
    have hcell : (L.map iv)[p]? = some (.int .i64 ((L.getD p 0 : Nat) : Int)) := by
      rw [List.getElem?_map, List.getElem?_eq_getElem (by omega), List.getD_eq_getElem?_getD, List.getElem?_eq_getElem (by omega)]; rfl
    have hcell := Lib.hid hcell
    rw [hn] at HH
    clear hn hle
    rw [hv.out]
    clear hv
    obtain ⟨v, hv⟩ : ∃ v, L.getD p 0 = v := ⟨_, rfl⟩
    rw [hv] at hcell ⊢
    clear hv
    obtain ⟨q, hq⟩ : ∃ q, p + 1 = q := ⟨_, rfl⟩
    rw [hq] at HH
    have e1 : ((q : Int) == 0) = false := by rw [beq_eq_false_iff_ne]; omega
    have e2 : IntKind.i64.wrap ((q : Int) - 1) = (p : Int) := by rw [IntWalk.i64_in _ ⟨by omega, by omega⟩]; omega
    have e3 : (p : Int) < (q : Int) := by omega
    have e4 : (0 : Int) ≤ (p : Int) := by omega
    have e5 : (q : Int) - 1 = (p : Int) := by omega
    have e6 : ¬ (q : Int) = 0 := by omega
    have e7 : IntKind.i64.wrap (p : Int) = (p : Int) := IntWalk.i64_in _ ⟨by omega, by omega⟩
    clear hp hq
    go_enter Try.func23, Try.ntmps23
    go_wp2_with fail
    refine HH.out.mono ?_
    rintro e w1 ⟨ad, cap, rfl, hO⟩
    obtain ⟨b, rfl, c1, _, _⟩ := Own.cell hO Ps.length (lastP _ _) p _ hcell.out
    have hO := Lib.hid hO
    clear HH hcell
    go_wp2
    go_ret
    exact ⟨rfl, hO.out.less⟩

set_option maxRecDepth 100000 in
set_option maxHeartbeats 1000000 in
theorem Waits_no (w : World) (X m : Nat) (f : Nat → Int) (h : TabIs w X m f) (a : Nat) (ha : a < m) : Calls Try.prog 12 #[tptr X, .int .i64 (a : Int)] w fun e w' => e = .returned (.tuple #[.int .i64 0, .bool false]) ∧ w' = w := by
  have HA := Lib.hid (has_yes w X m f h a ha)
  have HC := Lib.hid (Contains_nil w (a : Int))
  have HT := Lib.hid h
  unfold tptr at HA ⊢
  clear h ha
  go_enter Try.func12, Try.ntmps12
  go_wp2_with fail
  refine HA.out.mono ?_
  rintro e w1 ⟨rfl, rfl⟩
  clear HA
  go_wp2_with fail
  go_loopw [11] (fun i wr => ∃ k : Nat, k ≤ 70 ∧ i = .int .i64 (k : Int) ∧ wr = w1) (fun i _ => 70 - (intOf i).toNat)
  case atStart => exact ⟨0, Nat.zero_le _, rfl, rfl⟩
  case round =>
    obtain ⟨k, hk, rfl, rfl⟩ := hrel
    have k0 : (0 : Int) ≤ (k : Int) := by omega
    by_cases hlt : k < 70
    · have hlt' : (k : Int) < 70 := by omega
      have wk : IntKind.i64.wrap ((k : Int) + 1) = (k : Int) + 1 := IntWalk.i64_in _ ⟨by omega, by omega⟩
      have c1 := HT.out.queue k hlt
      have Hk := Lib.hid hlt
      clear hlt hk
      go_wp2_with fail
      refine HC.out.mono ?_
      rintro e w2 ⟨rfl, rfl⟩
      go_wp2
      go_roundw
      case rel => exact ⟨k + 1, Hk.out, by go_num, by first | rfl | trivial⟩
      case measure => have := Hk.out; simp [intOf]; omega
    · obtain rfl : k = 70 := by omega
      clear hlt hk HC HT
      go_wp2
      go_ret2
      exact ⟨rfl, rfl⟩
end Go.Proofs.Ytclicjdgkcnihaa
