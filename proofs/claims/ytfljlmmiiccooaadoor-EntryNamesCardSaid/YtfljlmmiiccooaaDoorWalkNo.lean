/- EntryNames, walked: of a name that may not be. -/
import Derived.Test.YtfljlmmiiccooaaDoorWalkNames
namespace Go.Proofs.YtfljlmmiiccooaaDoor.entryNames
open Go.Ev Go.RowKit Go.Grommet

set_option maxRecDepth 100000 in
set_option maxHeartbeats 8000000 in
theorem walk_no (s : ByteArray) (at_ : Int) (z : Bool) (w : World) (ht : Lib.TabIs Tryd.prog w "math/bits.deBruijn64tab" .u8 tab) (h : ¬ 500 < s.size) (hm : mayN s = false) :
    Calls Tryd.prog 3 #[.string s, .int .u8 at_, .bool z] w (Go.Ev.WorksIs w) := by
  have HM := Lib.hid (May_any s w)
  rw [hm] at HM
  have HB := Lib.hid (Begin_any s w (by omega))
  have hb0 : beginN s = 0 := by unfold beginN; rw [hm]; rfl
  rw [hb0] at HB
  have HWk := Lib.hid (fun w' (hg : w.grownBy w' none) => works_tab w' (tab_grown ht hg))
  have Hend := Lib.hid (noBad_may (s := s))
  have Hm := Lib.hid hm
  have Hix := Lib.hid (fun k hk => byte_getD s k hk)
  obtain ⟨n, hn⟩ : ∃ n, s.size = n := ⟨_, rfl⟩
  have hN := Lib.hid hn
  have h' : ¬ (500 : Int) < (n : Int) := by omega
  clear ht hb0 hm h
  go_enter Tryd.func3, Tryd.ntmps3
  go_wp2_with fail
  refine HM.out.mono ?_
  rintro e w1 ⟨rfl, rfl⟩
  go_wp2_with fail
  refine HB.out.mono ?_
  rintro e w2 ⟨rfl, hg⟩
  replace hg := Lib.hid hg
  clear HM HB
  by_cases c1 : (n : Int) = 0
  · have c1' : n = 0 := by omega
    have c1d : ((n : Int) == 0) = true := by simpa using c1
    go_wp2_with fail
    go_loopw [7, 8] (fun b c wr => ∃ (k : Nat) (v : Bool), k ≤ n ∧ c = .int .i64 (k : Int) ∧ b = .bool v ∧ Hid (v = false → NoBad s k) ∧ World.grownBy w1 wr none) (fun _ c _ => n - (intOf c).toNat)
    case atStart => exact ⟨0, true, Nat.zero_le _, rfl, rfl, Lib.hid (fun h => by cases h), hg.out⟩
    case round =>
      clear hg
      obtain ⟨k, v, hk, rfl, rfl, hv, hg⟩ := hrel
      have k0 : (0 : Int) ≤ (k : Int) := by omega
      by_cases hlt : k < n
      · exact absurd hlt (by omega)
      · have hlt' : ¬ (k : Int) < (n : Int) := by omega
        have hd : decide ((k : Int) < (n : Int)) = false := by simpa using hlt
        cases v with
        | false =>
          have := Hend.out (by have := hv.out rfl; rwa [show k = s.size from by have := hN.out; omega] at this)
          rw [Hm.out] at this
          cases this
        | true =>
          have HW9 := Lib.hid (HWk.out wr hg)
          go_wp2_with fail
          refine HW9.out.mono ?_
          rintro e w9 ⟨rfl, hg9⟩
          go_wp2
          go_ret
          exact ⟨rfl, grown_trans hg hg9⟩
  · have c1' : ¬ n = 0 := by omega
    have c1d : ((n : Int) == 0) = false := by simpa using c1
    by_cases c2 : (40 : Int) < (n : Int)
    · have c2' : 40 < n := by omega
      go_wp2_with fail
      go_loopw [7, 8] (fun b c wr => ∃ (k : Nat) (v : Bool), k ≤ n ∧ c = .int .i64 (k : Int) ∧ b = .bool v ∧ Hid (v = false → NoBad s k) ∧ World.grownBy w1 wr none) (fun _ c _ => n - (intOf c).toNat)
      case atStart => exact ⟨0, true, Nat.zero_le _, rfl, rfl, Lib.hid (fun h => by cases h), hg.out⟩
      case round =>
        clear hg
        obtain ⟨k, v, hk, rfl, rfl, hv, hg⟩ := hrel
        have k0 : (0 : Int) ≤ (k : Int) := by omega
        by_cases hlt : k < n
        · have hlt' : (k : Int) < (n : Int) := by omega
          have hd : decide ((k : Int) < (n : Int)) = true := by simpa using hlt
          cases v with
          | true =>
            go_wp2
            go_roundw
            case rel => exact ⟨k + 1, true, by omega, by go_num, rfl, Lib.hid (fun h => by cases h), hg⟩
            case measure => simp [intOf]; omega
          | false =>
            obtain ⟨n1, n2, n3, n4, n5⟩ := hv.out rfl
            obtain ⟨x, hx⟩ : ∃ x, (Go.Grommet.bytesOf s).getD k 0 = x := ⟨_, rfl⟩
            have hix := Hix.out k (by rw [hN.out]; exact hlt)
            rw [hx] at hix
            have hstep : ((x.toNat : Int) == 0 || (x.toNat : Int) == 47) = false → NoBad s (k + 1) := fun h => ⟨n1, n2, n3, n4, fun i hi => by
              rcases Nat.lt_or_ge i k with h1 | h1
              · exact n5 i h1
              · obtain rfl : i = k := by omega
                rw [hx]
                exact ⟨fun e => by rw [e] at h; exact absurd h (by decide), fun e => by rw [e] at h; exact absurd h (by decide)⟩⟩
            replace hstep := Lib.hid hstep
            clear n1 n2 n3 n4 n5
            go_wp2
            all_goals first
              | exact ⟨⟨k + 1, true, by omega, by go_num, rfl, Lib.hid (fun h => by cases h), hg⟩, by simp [intOf]; omega⟩
              | exact ⟨⟨k + 1, _, by omega, by go_num, rfl, hstep, hg⟩, by simp [intOf]; omega⟩
        · have hlt' : ¬ (k : Int) < (n : Int) := by omega
          have hd : decide ((k : Int) < (n : Int)) = false := by simpa using hlt
          cases v with
          | false =>
            have := Hend.out (by have := hv.out rfl; rwa [show k = s.size from by have := hN.out; omega] at this)
            rw [Hm.out] at this
            cases this
          | true =>
            have HW9 := Lib.hid (HWk.out wr hg)
            go_wp2_with fail
            refine HW9.out.mono ?_
            rintro e w9 ⟨rfl, hg9⟩
            go_wp2
            go_ret
            exact ⟨rfl, grown_trans hg hg9⟩
    · have c2' : ¬ 40 < n := by omega
      by_cases c3 : s.toList = [46]
      · have c3d : (s.toList == [46]) = true := by simpa using c3
        go_wp2_with fail
        go_loopw [7, 8] (fun b c wr => ∃ (k : Nat) (v : Bool), k ≤ n ∧ c = .int .i64 (k : Int) ∧ b = .bool v ∧ Hid (v = false → NoBad s k) ∧ World.grownBy w1 wr none) (fun _ c _ => n - (intOf c).toNat)
        case atStart => exact ⟨0, true, Nat.zero_le _, rfl, rfl, Lib.hid (fun h => by cases h), hg.out⟩
        case round =>
          clear hg
          obtain ⟨k, v, hk, rfl, rfl, hv, hg⟩ := hrel
          have k0 : (0 : Int) ≤ (k : Int) := by omega
          by_cases hlt : k < n
          · have hlt' : (k : Int) < (n : Int) := by omega
            have hd : decide ((k : Int) < (n : Int)) = true := by simpa using hlt
            cases v with
            | true =>
              go_wp2
              go_roundw
              case rel => exact ⟨k + 1, true, by omega, by go_num, rfl, Lib.hid (fun h => by cases h), hg⟩
              case measure => simp [intOf]; omega
            | false =>
              obtain ⟨n1, n2, n3, n4, n5⟩ := hv.out rfl
              obtain ⟨x, hx⟩ : ∃ x, (Go.Grommet.bytesOf s).getD k 0 = x := ⟨_, rfl⟩
              have hix := Hix.out k (by rw [hN.out]; exact hlt)
              rw [hx] at hix
              have hstep : ((x.toNat : Int) == 0 || (x.toNat : Int) == 47) = false → NoBad s (k + 1) := fun h => ⟨n1, n2, n3, n4, fun i hi => by
                rcases Nat.lt_or_ge i k with h1 | h1
                · exact n5 i h1
                · obtain rfl : i = k := by omega
                  rw [hx]
                  exact ⟨fun e => by rw [e] at h; exact absurd h (by decide), fun e => by rw [e] at h; exact absurd h (by decide)⟩⟩
              replace hstep := Lib.hid hstep
              clear n1 n2 n3 n4 n5
              go_wp2
              all_goals first
                | exact ⟨⟨k + 1, true, by omega, by go_num, rfl, Lib.hid (fun h => by cases h), hg⟩, by simp [intOf]; omega⟩
                | exact ⟨⟨k + 1, _, by omega, by go_num, rfl, hstep, hg⟩, by simp [intOf]; omega⟩
          · have hlt' : ¬ (k : Int) < (n : Int) := by omega
            have hd : decide ((k : Int) < (n : Int)) = false := by simpa using hlt
            cases v with
            | false =>
              have := Hend.out (by have := hv.out rfl; rwa [show k = s.size from by have := hN.out; omega] at this)
              rw [Hm.out] at this
              cases this
            | true =>
              have HW9 := Lib.hid (HWk.out wr hg)
              go_wp2_with fail
              refine HW9.out.mono ?_
              rintro e w9 ⟨rfl, hg9⟩
              go_wp2
              go_ret
              exact ⟨rfl, grown_trans hg hg9⟩
      · have c3d : (s.toList == [46]) = false := by simpa using c3
        by_cases c4 : s.toList = [46, 46]
        · have c4d : (s.toList == [46, 46]) = true := by simpa using c4
          go_wp2_with fail
          go_loopw [7, 8] (fun b c wr => ∃ (k : Nat) (v : Bool), k ≤ n ∧ c = .int .i64 (k : Int) ∧ b = .bool v ∧ Hid (v = false → NoBad s k) ∧ World.grownBy w1 wr none) (fun _ c _ => n - (intOf c).toNat)
          case atStart => exact ⟨0, true, Nat.zero_le _, rfl, rfl, Lib.hid (fun h => by cases h), hg.out⟩
          case round =>
            clear hg
            obtain ⟨k, v, hk, rfl, rfl, hv, hg⟩ := hrel
            have k0 : (0 : Int) ≤ (k : Int) := by omega
            by_cases hlt : k < n
            · have hlt' : (k : Int) < (n : Int) := by omega
              have hd : decide ((k : Int) < (n : Int)) = true := by simpa using hlt
              cases v with
              | true =>
                go_wp2
                go_roundw
                case rel => exact ⟨k + 1, true, by omega, by go_num, rfl, Lib.hid (fun h => by cases h), hg⟩
                case measure => simp [intOf]; omega
              | false =>
                obtain ⟨n1, n2, n3, n4, n5⟩ := hv.out rfl
                obtain ⟨x, hx⟩ : ∃ x, (Go.Grommet.bytesOf s).getD k 0 = x := ⟨_, rfl⟩
                have hix := Hix.out k (by rw [hN.out]; exact hlt)
                rw [hx] at hix
                have hstep : ((x.toNat : Int) == 0 || (x.toNat : Int) == 47) = false → NoBad s (k + 1) := fun h => ⟨n1, n2, n3, n4, fun i hi => by
                  rcases Nat.lt_or_ge i k with h1 | h1
                  · exact n5 i h1
                  · obtain rfl : i = k := by omega
                    rw [hx]
                    exact ⟨fun e => by rw [e] at h; exact absurd h (by decide), fun e => by rw [e] at h; exact absurd h (by decide)⟩⟩
                replace hstep := Lib.hid hstep
                clear n1 n2 n3 n4 n5
                go_wp2
                all_goals first
                  | exact ⟨⟨k + 1, true, by omega, by go_num, rfl, Lib.hid (fun h => by cases h), hg⟩, by simp [intOf]; omega⟩
                  | exact ⟨⟨k + 1, _, by omega, by go_num, rfl, hstep, hg⟩, by simp [intOf]; omega⟩
            · have hlt' : ¬ (k : Int) < (n : Int) := by omega
              have hd : decide ((k : Int) < (n : Int)) = false := by simpa using hlt
              cases v with
              | false =>
                have := Hend.out (by have := hv.out rfl; rwa [show k = s.size from by have := hN.out; omega] at this)
                rw [Hm.out] at this
                cases this
              | true =>
                have HW9 := Lib.hid (HWk.out wr hg)
                go_wp2_with fail
                refine HW9.out.mono ?_
                rintro e w9 ⟨rfl, hg9⟩
                go_wp2
                go_ret
                exact ⟨rfl, grown_trans hg hg9⟩
        · have c4d : (s.toList == [46, 46]) = false := by simpa using c4
          go_wp2_with fail
          go_loopw [7, 8] (fun b c wr => ∃ (k : Nat) (v : Bool), k ≤ n ∧ c = .int .i64 (k : Int) ∧ b = .bool v ∧ Hid (v = false → NoBad s k) ∧ World.grownBy w1 wr none) (fun _ c _ => n - (intOf c).toNat)
          case atStart => exact ⟨0, _, Nat.zero_le _, rfl, rfl, Lib.hid (fun _ => ⟨by have := hN.out; omega, by have := hN.out; omega, by simpa using c3, by simpa using c4, fun i hi => by omega⟩), hg.out⟩
          case round =>
            clear hg
            obtain ⟨k, v, hk, rfl, rfl, hv, hg⟩ := hrel
            have k0 : (0 : Int) ≤ (k : Int) := by omega
            by_cases hlt : k < n
            · have hlt' : (k : Int) < (n : Int) := by omega
              have hd : decide ((k : Int) < (n : Int)) = true := by simpa using hlt
              cases v with
              | true =>
                go_wp2
                go_roundw
                case rel => exact ⟨k + 1, true, by omega, by go_num, rfl, Lib.hid (fun h => by cases h), hg⟩
                case measure => simp [intOf]; omega
              | false =>
                obtain ⟨n1, n2, n3, n4, n5⟩ := hv.out rfl
                obtain ⟨x, hx⟩ : ∃ x, (Go.Grommet.bytesOf s).getD k 0 = x := ⟨_, rfl⟩
                have hix := Hix.out k (by rw [hN.out]; exact hlt)
                rw [hx] at hix
                have hstep : ((x.toNat : Int) == 0 || (x.toNat : Int) == 47) = false → NoBad s (k + 1) := fun h => ⟨n1, n2, n3, n4, fun i hi => by
                  rcases Nat.lt_or_ge i k with h1 | h1
                  · exact n5 i h1
                  · obtain rfl : i = k := by omega
                    rw [hx]
                    exact ⟨fun e => by rw [e] at h; exact absurd h (by decide), fun e => by rw [e] at h; exact absurd h (by decide)⟩⟩
                replace hstep := Lib.hid hstep
                clear n1 n2 n3 n4 n5
                go_wp2
                all_goals first
                  | exact ⟨⟨k + 1, true, by omega, by go_num, rfl, Lib.hid (fun h => by cases h), hg⟩, by simp [intOf]; omega⟩
                  | exact ⟨⟨k + 1, _, by omega, by go_num, rfl, hstep, hg⟩, by simp [intOf]; omega⟩
            · have hlt' : ¬ (k : Int) < (n : Int) := by omega
              have hd : decide ((k : Int) < (n : Int)) = false := by simpa using hlt
              cases v with
              | false =>
                have := Hend.out (by have := hv.out rfl; rwa [show k = s.size from by have := hN.out; omega] at this)
                rw [Hm.out] at this
                cases this
              | true =>
                have HW9 := Lib.hid (HWk.out wr hg)
                go_wp2_with fail
                refine HW9.out.mono ?_
                rintro e w9 ⟨rfl, hg9⟩
                go_wp2
                go_ret
                exact ⟨rfl, grown_trans hg hg9⟩
end Go.Proofs.YtfljlmmiiccooaaDoor.entryNames
