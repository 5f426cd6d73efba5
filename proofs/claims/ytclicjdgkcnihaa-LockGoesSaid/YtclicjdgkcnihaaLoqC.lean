/- Package lock: highest, Waits. -/
import Derived.Test.YtclicjdgkcnihaaLoqB
namespace Go.Proofs.Ytclicjdgkcnihaa
open Go.RowKit Go.Grommet

/-- The highest lock that a worker holds. -/
def highV (L : List Nat) : Int := if L = [] then -1 else ((L.getD (L.length - 1) 0 : Nat) : Int)
theorem highV_nil {L : List Nat} (h : L.length = 0) : highV L = -1 := by rw [List.eq_nil_of_length_eq_zero h]; rfl
theorem highV_some {L : List Nat} {p : Nat} (h : L.length = p + 1) : highV L = ((L.getD p 0 : Nat) : Int) := by
  unfold highV
  rw [if_neg (by intro e; rw [e] at h; simp at h), h]; rfl

theorem own_less_grown {w0 w : World} {Ps : List Pr} {P : Pr} (h : Grommet.Own w0 w (Ps ++ [P])) : Grommet.Own w0 w Ps := Own.less h

set_option maxRecDepth 100000 in
set_option maxHeartbeats 1000000 in
theorem highestH (j X m a : Nat) (f : Nat → Int) (q : Nat → Value) (w0 w : World) (Ps : List Pr) (h : Grommet.Own w0 w Ps) (hk : Ps[j]? = some (tabP X m f q)) (ha : a < m) :
    Calls Try.prog 23 #[tptr X, .int .i64 (a : Int)] w fun e w' => e = .returned (.int .i64 (highV (heldL f a 70))) ∧ Grommet.Own w0 w' Ps := by
  have HH := Lib.hid (HeldH j X m a f q w0 w Ps h hk ha)
  have hle := heldL_le f a 70
  obtain ⟨L, hL⟩ : ∃ L, heldL f a 70 = L := ⟨_, rfl⟩
  rw [hL] at HH hle ⊢
  unfold tptr at HH ⊢
  clear h hk ha hL
  rcases hn : L.length with _ | p
  · have hv := Lib.hid (highV_nil hn)
    rw [hn] at HH
    clear hn hle
    rw [hv.out]
    clear hv
    go_enter Try.func23, Try.ntmps23
    go_wp2_with fail
    refine HH.out.mono ?_
    rintro e w1 ⟨ad, cap, rfl, hO⟩
    clear HH
    have hO := Lib.hid hO
    go_wp2
    go_ret
    exact ⟨rfl, hO.out.less⟩
  · have hv := Lib.hid (highV_some hn)
    have hp : p < 70 := by omega
    have hcell : (L.map iv)[p]? = some (.int .i64 ((L.getD p 0 : Nat) : Int)) := by
      rw [List.getElem?_map, List.getElem?_eq_getElem (by omega), List.getD_eq_getElem?_getD, List.getElem?_eq_getElem (by omega)]; rfl
    have hcell := Lib.hid hcell
    rw [hn] at HH
    clear hn hle
    rw [hv.out]
    clear hv
    obtain ⟨v, hv⟩ : ∃ v, L.getD p 0 = v := ⟨_, rfl⟩
    rw [hv] at hcell ⊢
    clear hv
    obtain ⟨q, hq⟩ : ∃ q, p + 1 = q := ⟨_, rfl⟩
    rw [hq] at HH
    have e1 : ((q : Int) == 0) = false := by rw [beq_eq_false_iff_ne]; omega
    have e2 : IntKind.i64.wrap ((q : Int) - 1) = (p : Int) := by rw [IntWalk.i64_in _ ⟨by omega, by omega⟩]; omega
    have e3 : (p : Int) < (q : Int) := by omega
    have e4 : (0 : Int) ≤ (p : Int) := by omega
    have e5 : (q : Int) - 1 = (p : Int) := by omega
    have e6 : ¬ (q : Int) = 0 := by omega
    have e7 : IntKind.i64.wrap (p : Int) = (p : Int) := IntWalk.i64_in _ ⟨by omega, by omega⟩
    clear hp hq
    go_enter Try.func23, Try.ntmps23
    go_wp2_with fail
    refine HH.out.mono ?_
    rintro e w1 ⟨ad, cap, rfl, hO⟩
    obtain ⟨b, rfl, c1, _, _⟩ := Own.cell hO Ps.length (lastP _ _) p _ hcell.out
    have hO := Lib.hid hO
    clear HH hcell
    go_wp2
    go_ret
    exact ⟨rfl, hO.out.less⟩

/-- For which lock a worker waits: the first one in whose queue it is. -/
def waitF (ql : Nat → List Nat) (a : Nat) : Option Nat := (List.range 70).find? fun k => decide (a ∈ ql k)
theorem find_range {p : Nat → Bool} {n k : Nat} (hk : k < n) (hp : p k = true) (hl : ∀ i, i < k → p i = false) : (List.range n).find? p = some k := by
  rw [List.find?_range_eq_some]
  exact ⟨hp, List.mem_range.2 hk, fun j hj => by rw [hl j hj]; rfl⟩
theorem waitF_some {ql : Nat → List Nat} {a k : Nat} (hk : k < 70) (hp : a ∈ ql k) (hl : ∀ i, i < k → a ∉ ql i) : waitF ql a = some k :=
  find_range hk (decide_eq_true hp) (fun i hi => decide_eq_false (hl i hi))
theorem waitF_none {ql : Nat → List Nat} {a : Nat} (hl : ∀ i, i < 70 → a ∉ ql i) : waitF ql a = none := by
  unfold waitF
  rw [List.find?_eq_none]
  intro x hx
  simpa using hl x (List.mem_range.1 hx)

set_option maxRecDepth 100000 in
set_option maxHeartbeats 1000000 in
theorem Waits_any (w : World) (X m : Nat) (f : Nat → Int) (q : Nat → Value) (ql : Nat → List Nat) (h : TabIs w X m f q) (hq : ∀ k, k < 70 → NumsAt w (q k) (ql k)) (hqn : ∀ k, k < 70 → (ql k).length ≤ 100000) (a : Nat) (ha : a < m) :
    Calls Try.prog 12 #[tptr X, .int .i64 (a : Int)] w fun e w' => e = .returned (.tuple #[.int .i64 (((waitF ql a).getD 0 : Nat) : Int), .bool (waitF ql a).isSome]) ∧ w' = w := by
  have HA := Lib.hid (has_yes w X m f q h a ha)
  have HC := Lib.hid (fun k hk => Contains_any w (q k) (ql k) a (hq k hk) (hqn k hk))
  have HT := Lib.hid h
  unfold tptr at HA ⊢
  clear h ha hq hqn
  go_enter Try.func12, Try.ntmps12
  go_wp2_with fail
  refine HA.out.mono ?_
  rintro e w1 ⟨rfl, rfl⟩
  clear HA
  go_wp2_with fail
  go_loopw [11] (fun i wr => ∃ k : Nat, k ≤ 70 ∧ i = .int .i64 (k : Int) ∧ Hid (∀ i, i < k → a ∉ ql i) ∧ wr = w1) (fun i _ => 70 - (intOf i).toNat)
  case atStart => exact ⟨0, Nat.zero_le _, rfl, Lib.hid (fun i hi => absurd hi (Nat.not_lt_zero i)), rfl⟩
  case round =>
    obtain ⟨k, hk, rfl, hI, rfl⟩ := hrel
    have k0 : (0 : Int) ≤ (k : Int) := by omega
    by_cases hlt : k < 70
    · have hlt' : (k : Int) < 70 := by omega
      have wk : IntKind.i64.wrap ((k : Int) + 1) = (k : Int) + 1 := IntWalk.i64_in _ ⟨by omega, by omega⟩
      have c1 := HT.out.queue k hlt
      have HCk := Lib.hid (HC.out k hlt)
      have Hk := Lib.hid hlt
      obtain ⟨v, hv⟩ : ∃ v, q k = v := ⟨_, rfl⟩
      rw [hv] at c1 HCk
      by_cases hin : a ∈ ql k
      · rw [decide_eq_true hin] at HCk
        have HW := Lib.hid (waitF_some hlt hin hI.out)
        clear hlt hk hin hv
        go_wp2_with fail
        refine HCk.out.mono ?_
        rintro e w2 ⟨rfl, rfl⟩
        go_wp2
        go_ret2
        exact ⟨by rw [HW.out]; rfl, rfl⟩
      · rw [decide_eq_false hin] at HCk
        have hI2 : Hid (∀ i, i < k + 1 → a ∉ ql i) := Lib.hid (fun i hi => by
          rcases Nat.lt_or_ge i k with h | h
          · exact hI.out i h
          · obtain rfl : i = k := by omega
            exact hin)
        clear hlt hk hin hv
        go_wp2_with fail
        refine HCk.out.mono ?_
        rintro e w2 ⟨rfl, rfl⟩
        go_wp2
        go_roundw
        case rel => exact ⟨k + 1, Hk.out, by go_num, hI2, by first | rfl | trivial⟩
        case measure => have := Hk.out; simp [intOf]; omega
    · obtain rfl : k = 70 := by omega
      have HW := Lib.hid (waitF_none hI.out)
      clear hlt hk HC HT
      go_wp2
      go_ret2
      exact ⟨by rw [HW.out]; rfl, rfl⟩
end Go.Proofs.Ytclicjdgkcnihaa
