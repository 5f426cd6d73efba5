/- Package lock, a table in which nobody waits: what Give calls: IndexFunc and DeleteFunc of nothing. -/
import Derived.Test.YtclicjdgkcnihaaLocB
import Derived.BigQuiet
import Derived.Deep.QuietTactic
namespace Go.Proofs.Ytclicjdgkcnihaa
open Go.RowKit Go.Grommet

theorem IndexFunc_nil (w : World) (fn : Value) : Calls Try.prog 26 #[.slice none 0 0, fn] w fun e w' => e = .returned (.int .i64 (-1)) ∧ w' = w := by
  go_enter Try.func26, Try.ntmps26
  go_wp2_with fail
  go_loopw [8] (fun s wr => s = .int .i64 0 ∧ wr = w) (fun s _ => 0)
  case atStart => exact ⟨rfl, rfl⟩
  case round =>
    obtain ⟨rfl, rfl⟩ := hrel
    go_wp2
    go_ret
    exact ⟨rfl, rfl⟩
theorem DeleteFunc_nil (w : World) (fn : Value) : Calls Try.prog 20 #[.slice none 0 0, fn] w fun e w' => e = .returned (.slice none 0 0) ∧ w' = w := by
  have HI := Lib.hid (IndexFunc_nil w fn)
  go_enter Try.func20, Try.ntmps20
  go_wp2_with fail
  refine HI.out.mono ?_
  rintro e w1 ⟨rfl, rfl⟩
  go_wp2
  go_ret
  exact ⟨rfl, rfl⟩

/-- What package reference says of two rows: are they the same? -/
theorem Same_yes (k l : Nat) (L : List Nat) (ad1 ad2 : Option Addr) (c1 c2 : Nat) (w0 w : World) (Ps : List Pr) (h : Grommet.Own w0 w Ps) (hl : L.length ≤ 100)
    (h1 : Ps[k]? = some (rowP 3 1 (.slice ad1 L.length c1) L.length (L.map iv))) (h2 : Ps[l]? = some (rowP 3 1 (.slice ad2 L.length c2) L.length (L.map iv))) :
    Calls Try.prog 16 #[.slice ad1 L.length c1, .slice ad2 L.length c2] w fun e w' => e = .returned (.bool true) ∧ Grommet.Own w0 w' Ps := by
  have HA := Lib.hid (fun (wx : World) (h : Grommet.Own w0 wx Ps) (i : Nat) (hi : i < L.length) => h.cell k h1 i (iv (L.getD i 0)) (by rw [List.getElem?_map, List.getElem?_eq_getElem hi, List.getD_eq_getElem?_getD, List.getElem?_eq_getElem hi]; rfl))
  have HB := Lib.hid (fun (wx : World) (h : Grommet.Own w0 wx Ps) (i : Nat) (hi : i < L.length) => h.cell l h2 i (iv (L.getD i 0)) (by rw [List.getElem?_map, List.getElem?_eq_getElem hi, List.getD_eq_getElem?_getD, List.getElem?_eq_getElem hi]; rfl))
  have HO := Lib.hid h
  clear h h1 h2
  obtain ⟨n, hn⟩ : ∃ n, L.length = n := ⟨_, rfl⟩
  rw [hn] at HA HB hl ⊢
  have q1 : ((n : Int) != (n : Int)) = false := by simp
  clear hn
  go_enter Try.func16, Try.ntmps16
  go_wp2_with fail
  go_loopw [5] (fun s wr => ∃ i : Nat, i ≤ n ∧ s = .int .i64 (i : Int) ∧ Hid (Grommet.Own w0 wr Ps)) (fun s _ => n - (intOf s).toNat)
  case atStart => exact ⟨0, Nat.zero_le _, rfl, HO⟩
  case round =>
    clear HO
    obtain ⟨i, hi, rfl, hO⟩ := hrel
    have i0 : (0 : Int) ≤ (i : Int) := by omega
    by_cases hlt : i < n
    · have hlt' : (i : Int) < (n : Int) := by omega
      have wk : IntKind.i64.wrap ((i : Int) + 1) = (i : Int) + 1 := IntWalk.i64_in _ ⟨by omega, by omega⟩
      have wi : IntKind.i64.wrap (i : Int) = (i : Int) := IntWalk.i64_in _ ⟨by omega, by omega⟩
      obtain ⟨b1, rfl, d1, _, _⟩ := HA.out wr hO.out i hlt
      obtain ⟨b2, rfl, d2, _, _⟩ := HB.out wr hO.out i hlt
      unfold iv at d1 d2
      have q2 : (((L.getD i 0 : Nat) : Int) != ((L.getD i 0 : Nat) : Int)) = false := by simp
      obtain ⟨v, hv⟩ : ∃ v, L.getD i 0 = v := ⟨_, rfl⟩
      rw [hv] at d1 d2 q2
      have Hk := Lib.hid hlt
      clear hlt hi HA HB hv
      go_wp2_with fail
      go_quiet (fail)
      go_wp2
      go_roundw
      case rel => exact ⟨i + 1, Hk.out, by go_num, Lib.hid (hO.out.quiet (grown_drewN _ _ _))⟩
      case measure => have := Hk.out; simp [intOf]; omega
    · obtain rfl : i = n := by omega
      clear hlt hi HA HB
      go_wp2
      go_ret
      exact ⟨rfl, hO.out⟩
end Go.Proofs.Ytclicjdgkcnihaa
