/- OctetShort, walked. -/
import Derived.Test.YtingkjmbeloepaaOctW
import Derived.Test.YtingkjmbeloepaaShortMath
import Derived.OpenShut
namespace Go.Proofs.Ytingkjmbeloepaa
open Go.RowKit Go.Grommet

/-- A number that is put behind nothing. -/
def NumIs (n : Nat) (w : World) (e : Ending) (w' : World) : Prop :=
  ∃ q o cap, e = .returned (.slice (some ⟨q, o, none⟩) (nb n + 1) cap) ∧ At w' (some ⟨q, o, none⟩) ((num n).map bv) ∧ w.grownBy w' none

theorem Number_alone (n : Nat) (w : World) (hn : n < 2 ^ 64) : Calls Try.prog 11 #[.slice none 0 0, .int .u64 (n : Int)] w (NumIs n w) :=
  (Number_any none 0 0 [] n w hn rfl (At.nil _ _) (fun _ => ⟨rfl, rfl⟩) (by decide)).mono fun e w' ⟨ad, cap, he, hat, _, _, hg⟩ => by
    rw [List.nil_append] at he hat
    have hl : (num n).length = nb n + 1 := by rw [length_num]; omega
    obtain ⟨q, o, rfl, _⟩ := hat 0 (bv (UInt8.ofNat (nb n))) rfl
    rw [hl] at he
    exact ⟨q, o, cap, he, hat, hg⟩

theorem num_at {w : World} {q o n : Nat} (hn : n < 2 ^ 64) (h : At w (some ⟨q, o, none⟩) ((num n).map bv)) :
    w.cell? ⟨q, o, none⟩ = some (.int .u8 (nb n : Int)) ∧ ∀ i, i < nb n → w.cell? ⟨q, o + (i + 1), none⟩ = some (.int .u8 ((byteAt n i).toNat : Int)) := by
  constructor
  · obtain ⟨q', o', he, hc⟩ := h 0 (bv (UInt8.ofNat (nb n))) rfl
    cases he
    rw [Nat.add_zero] at hc
    rw [hc, bv, UInt8.toNat_ofNat', Nat.mod_eq_of_lt (by have := nb_le n hn; omega)]
  · intro i hi
    obtain ⟨q', o', he, hc⟩ := h (i + 1) (bv (byteAt n i)) (by simp [num, les, hi])
    cases he
    exact hc

namespace octetShort
set_option maxHeartbeats 2000000 in
theorem walk_at (n m : Nat) (hn : n < 2 ^ 64) (hm : m < 2 ^ 64) (w : World) : Calls Try.prog 7 #[.int .u64 (n : Int), .int .u64 (m : Int)] w (WorksIs w) := by
  have h8 := nb_le n hn
  go_enter Try.func7, Try.ntmps7
  go_wp2_with fail
  refine (Number_alone n _ hn).mono ?_
  rintro e w1 ⟨q, o, cap, rfl, hA, hg⟩
  go_wp2_with fail
  refine (Number_alone m _ hm).mono ?_
  rintro e w2 ⟨q', o', cap', rfl, _, hg2⟩
  have hA := hA.grown hg2 (by simp)
  have hg := grown_trans hg hg2
  obtain ⟨c0, cs⟩ := num_at hn hA
  have hdiv := div_top n hn
  have hmono := nb_mono n m hn hm
  have hlast := last_byte n hn
  have Hstep := Lib.hid (div_step n)
  have Hcs := Lib.hid cs
  generalize hK : nb n = K at *
  generalize hM : nb m = M at *
  clear hg2 hA cs hK hM
  have HD := Lib.hid hdiv
  have HM := Lib.hid hmono
  clear hdiv hmono
  cases K with
  | zero =>
    clear hlast
    go_wp2_with fail
    go_loop [7, 8] (fun v i => ∃ j : Nat, j ≤ 0 ∧ i = .int .i64 (j : Int) ∧ v = .int .u64 ((n / 256 ^ j : Nat) : Int)) (fun _ i => (intOf i).toNat)
    case atStart => exact ⟨0, Nat.le_refl _, by go_num, by rw [HD.out]; rfl⟩
    case round =>
      obtain ⟨j, hj, rfl, rfl⟩ := hrel
      cases j with
      | succ j =>
        have cj := Hcs.out j (by omega)
        have hst := Hstep.out j
        have hb := (byteAt n j).toNat_lt
        have hdl := Nat.div_le_self n (256 ^ j)
        generalize n / 256 ^ (j + 1) = V at hst
        generalize hU : n / 256 ^ j = U at hst hdl
        have h1 : (1 : Int) ≤ (j : Int) + 1 := by omega
        have hu3 : IntKind.u64.wrap ((byteAt n j).toNat : Int) = ((byteAt n j).toNat : Int) := IntWalk.u64_in _ ⟨by omega, by omega⟩
        have hu : IntKind.u64.wrap ((V : Int) * 256) = (V : Int) * 256 := IntWalk.u64_in _ ⟨by omega, by omega⟩
        have hu2 : IntKind.u64.wrap ((V : Int) * 256 + ((byteAt n j).toNat : Int)) = (V : Int) * 256 + ((byteAt n j).toNat : Int) := IntWalk.u64_in _ ⟨by omega, by omega⟩
        have HS : Hid ((V : Int) * 256 + ((byteAt n j).toNat : Int) = (U : Int)) := by show _ = _; omega
        have HU := Lib.hid hU
        clear hst hdl hb hU
        go_wp2
        go_round
        case rel => exact ⟨j, by omega, by go_num, by rw [HU.out]; exact congrArg (Value.int IntKind.u64) HS.out⟩
        case measure => simp [intOf]
      | zero =>
        rw [show n / 256 ^ 0 = n from by simp]
        by_cases hlt : n < m
        · have hlt' : (n : Int) < (m : Int) := by omega
          go_wp2_with fail
          refine (works_any _).mono ?_
          rintro e w5 ⟨rfl, hg2⟩
          have hg := grown_trans hg hg2
          clear hg2
          go_wp2
          go_ret
          exact ⟨rfl, hg⟩
        · have hle : ¬ (n : Int) < (m : Int) := by omega
          have hml := HM.out (by omega)
          go_wp2_with fail
          refine (works_any _).mono ?_
          rintro e w5 ⟨rfl, hg2⟩
          have hg := grown_trans hg hg2
          clear hg2
          go_wp2
          go_ret
          exact ⟨rfl, hg⟩
  | succ k =>
    have hl := hlast k rfl
    have ck := Hcs.out k (by omega)
    have hz : ((((byteAt n k).toNat : Nat) : Int) == 0) = false := by rw [beq_eq_false_iff_ne]; omega
    have d1 : decide ((k : Int) + 1 + 1 < 1) = false := by simp; omega
    have d2 : decide ((9 : Int) < (k : Int) + 1 + 1) = false := by simp; omega
    clear hlast
    go_wp2_with fail
    go_loop [7, 8] (fun v i => ∃ j : Nat, j ≤ (k + 1) ∧ i = .int .i64 (j : Int) ∧ v = .int .u64 ((n / 256 ^ j : Nat) : Int)) (fun _ i => (intOf i).toNat)
    case atStart => exact ⟨(k + 1), Nat.le_refl _, by go_num, by rw [HD.out]; rfl⟩
    case round =>
      obtain ⟨j, hj, rfl, rfl⟩ := hrel
      cases j with
      | succ j =>
        have cj := Hcs.out j (by omega)
        have hst := Hstep.out j
        have hb := (byteAt n j).toNat_lt
        have hdl := Nat.div_le_self n (256 ^ j)
        generalize n / 256 ^ (j + 1) = V at hst
        generalize hU : n / 256 ^ j = U at hst hdl
        have h1 : (1 : Int) ≤ (j : Int) + 1 := by omega
        have hu3 : IntKind.u64.wrap ((byteAt n j).toNat : Int) = ((byteAt n j).toNat : Int) := IntWalk.u64_in _ ⟨by omega, by omega⟩
        have hu : IntKind.u64.wrap ((V : Int) * 256) = (V : Int) * 256 := IntWalk.u64_in _ ⟨by omega, by omega⟩
        have hu2 : IntKind.u64.wrap ((V : Int) * 256 + ((byteAt n j).toNat : Int)) = (V : Int) * 256 + ((byteAt n j).toNat : Int) := IntWalk.u64_in _ ⟨by omega, by omega⟩
        have HS : Hid ((V : Int) * 256 + ((byteAt n j).toNat : Int) = (U : Int)) := by show _ = _; omega
        have HU := Lib.hid hU
        clear hst hdl hb hU
        go_wp2
        go_round
        case rel => exact ⟨j, by omega, by go_num, by rw [HU.out]; exact congrArg (Value.int IntKind.u64) HS.out⟩
        case measure => simp [intOf]
      | zero =>
        rw [show n / 256 ^ 0 = n from by simp]
        by_cases hlt : n < m
        · have hlt' : (n : Int) < (m : Int) := by omega
          go_wp2_with fail
          refine (works_any _).mono ?_
          rintro e w5 ⟨rfl, hg2⟩
          have hg := grown_trans hg hg2
          clear hg2
          go_wp2
          go_ret
          exact ⟨rfl, hg⟩
        · have hle : ¬ (n : Int) < (m : Int) := by omega
          have hml := HM.out (by omega)
          go_wp2_with fail
          refine (works_any _).mono ?_
          rintro e w5 ⟨rfl, hg2⟩
          have hg := grown_trans hg hg2
          clear hg2
          go_wp2
          go_ret
          exact ⟨rfl, hg⟩

theorem walk (a0 a1 : Int) (w : World) (w0 : (Lit.int .u64 a0).wf = true) (w1 : (Lit.int .u64 a1).wf = true) : Calls Try.prog 7 #[.int .u64 a0, .int .u64 a1] w (WorksIs w) := by
  have b0 := bounds_u64 w0
  have b1 := bounds_u64 w1
  obtain ⟨n, rfl⟩ := Int.eq_ofNat_of_zero_le b0.1
  obtain ⟨m, rfl⟩ := Int.eq_ofNat_of_zero_le b1.1
  exact walk_at n m (by omega) (by omega) w
end octetShort
end Go.Proofs.Ytingkjmbeloepaa
