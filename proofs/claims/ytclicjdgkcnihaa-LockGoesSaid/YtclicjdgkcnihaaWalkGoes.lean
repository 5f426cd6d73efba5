/- LockGoes, walked. -/
import Derived.Test.YtclicjdgkcnihaaSound
import Derived.Test.YtclicjdgkcnihaaSteps
import Derived.Test.YtclicjdgkcnihaaLoqE
import Derived.Test.YtclicjdgkcnihaaWorks
import Derived.Deep.DeepCutAuto
namespace Go.Proofs.Ytclicjdgkcnihaa.lockGoes
open Go.RowKit Go.Grommet
def WorksOk (w : World) (e : Ending) (w' : World) : Prop := e = .returned (.bool true) ∧ w.grownBy w' none

theorem walk_far (a0 : Option Addr) (n c0 : Nat) (g0 : Int) (w : World) (h : 200 < n) : Calls Try.prog 3 #[.int .u8 g0, .slice a0 n c0] w (WorksOk w) := by
  have g1 : (200 : Int) < (n : Int) := by omega
  go_enter Try.func3, Try.ntmps3
  go_wp2_with fail
  refine (works_ev _).mono ?_
  rintro e w5 ⟨rfl, hg⟩
  go_wp2
  go_ret
  exact ⟨rfl, hg⟩

set_option maxRecDepth 100000 in
set_option maxHeartbeats 8000000 in
theorem walk_few (a0 : Option Addr) (n c0 : Nat) (L : List Step) (g0 : Nat) (w : World) (hn : ¬ 200 < n) (hL : StepsIn w a0 n L) (hg : g0 < 256) :
    Calls Try.prog 3 #[.int .u8 (g0 : Int), .slice a0 n c0] w (WorksOk w) := by
  have gt : ¬ (200 : Int) < (n : Int) := by omega
  obtain ⟨m, HM⟩ : ∃ m, Hid (m = 1 + g0 % 4) := ⟨_, Lib.hid rfl⟩
  have Hm4 : Hid (1 ≤ m ∧ m ≤ 4) := Lib.hid (by rw [HM.out]; omega)
  have HN := Lib.hid (NewH m Hm4.out.1 Hm4.out.2 w w [] (Own.nil w))
  obtain ⟨r, hr⟩ : ∃ r, g0 % 4 = r := ⟨_, rfl⟩
  have eG : Int.tmod (g0 : Int) 4 = (r : Int) := by rw [Int.tmod_eq_emod_of_nonneg (by omega)]; omega
  have eG2 : (g0 : Int) % 4 = (r : Int) := by omega
  have wg : IntKind.i64.wrap (g0 : Int) = (g0 : Int) := IntWalk.i64_in _ ⟨by omega, by omega⟩
  have wr1 : IntKind.i64.wrap (r : Int) = (r : Int) := IntWalk.i64_in _ ⟨by omega, by omega⟩
  have er : (1 : Int) + (r : Int) = (m : Int) := by rw [HM.out, hr]; omega
  have wm : IntKind.i64.wrap (m : Int) = (m : Int) := IntWalk.i64_in _ ⟨by have := Hm4.out; omega, by have := Hm4.out; omega⟩
  have HL := Lib.hid hL
  clear hL hg hr
  go_enter Try.func3, Try.ntmps3
  go_wp2_with fail
  refine HN.out.mono ?_
  rintro e w1 ⟨X, rfl, hO⟩
  have hO1 := own_fresh (k := 0) hO
  have hO1 : Hid (Grommet.Own w w1 (TQ X m (fun _ => -1) nilq (fun _ => []) [qrowP (.slice none 0 0) []])) := Lib.hid (by rw [qlC_nil] at hO1; exact hO1)
  obtain ⟨Rs, hRs⟩ : ∃ Rs, [qrowP (.slice none 0 0) []] = Rs := ⟨_, rfl⟩
  rw [hRs] at hO1
  clear hO HN eG eG2 wg wr1 er hRs HM
  have m0 : (0 : Int) < (m : Int) := by have := Hm4.out.1; omega
  have m1 : ((m : Int) == 0) = false := by rw [beq_eq_false_iff_ne]; omega
  have m4 : (m : Int) ≤ 4 := by have := Hm4.out.2; omega
  have mne : ¬ (m : Int) = 0 := by omega
  have mne2 : ¬ m = 0 := by omega
  go_wp2_with fail
  go_loopw [8] (fun c wr => ∃ (i : Nat) (f : Nat → Int) (q : Nat → Value) (ql : Nat → List Nat), i ≤ n ∧ c = .int .i64 (i : Int) ∧ Hid (Inv m f ql) ∧ Hid (Grommet.Own w wr (TQ X m f q ql Rs))) (fun c _ => n - (intOf c).toNat)
  case atStart => exact ⟨0, _, _, _, Nat.zero_le _, rfl, Lib.hid (inv_new m), hO1⟩
  case round =>
    clear hO1
    obtain ⟨i, f, q, ql, hi, rfl, HI, hO⟩ := hrel
    have i0 : (0 : Int) ≤ (i : Int) := by omega
    by_cases hlt : i < n
    · have hlt' : (i : Int) < (n : Int) := by omega
      have wi : IntKind.i64.wrap ((i : Int) + 1) = (i : Int) + 1 := IntWalk.i64_in _ ⟨by omega, by omega⟩
      obtain ⟨x, hx⟩ : ∃ x, L[i]? = some x := ⟨_, List.getElem?_eq_getElem (by rw [HL.out.1]; exact hlt)⟩
      obtain ⟨g, o, rfl, c1, c2, c3⟩ := HL.out.2.2 i x hx
      have hxo := HL.out.2.1 x (List.mem_of_getElem? hx)
      have hgr := hO.out.grown
      have c1 := hgr.cell c1 (by simp)
      have c2 := hgr.cell c2 (by simp)
      have c3 := hgr.cell c3 (by simp)
      have HC3 := Lib.hid (show ∀ w', wr.grownBy w' none → w'.cell? _ = _ from fun w' hg => hg.cell c3 (by simp))
      obtain ⟨xg, xw, xl⟩ := x
      obtain ⟨p, hp⟩ : ∃ p : Nat, max xw 0 = (p : Int) := ⟨(max xw 0).toNat, by omega⟩
      have hp63 : (p : Int) ≤ 9223372036854775807 := by
        have hb := bounds_i64 hxo.1
        have h1 := hb.1
        have h2 := hb.2
        simp only at h1 h2
        omega
      obtain ⟨a, ha⟩ : ∃ a, p % m = a := ⟨_, rfl⟩
      have Ha : Hid (a < m) := Lib.hid (by rw [← ha]; exact Nat.mod_lt _ (by omega))
      have e1 : (p : Int) % (m : Int) = (a : Int) := by rw [← ha]; exact (Int.natCast_emod p m).symm
      have e2 : Int.tmod (p : Int) (m : Int) = (a : Int) := by rw [Int.tmod_eq_emod_of_nonneg (by omega)]; exact e1
      have wa : IntKind.i64.wrap (a : Int) = (a : Int) := IntWalk.i64_in _ ⟨by have := Ha.out; omega, by have := Ha.out; omega⟩
      have Hi := Lib.hid hlt
      clear hx hxo hgr hlt hi ha
      have HGv := Lib.hid (GiveInv X m a f q ql w wr Rs hO.out HI.out Ha.out Hm4.out.2)
      have HWt := Lib.hid (WantInv X m a xl f q ql w wr Rs hO.out HI.out Ha.out Hm4.out.2)
      unfold tptr at HGv HWt
      clear hO HI HC3
      go_upto_region 10 with fail
      go_cut [9] (fun s wx => s = .int .i64 (a : Int) ∧ wx = wr)
      case first =>
        by_cases hx0 : xw < 0
        · have hp0 : p = 0 := by omega
          have hp1 : (p : Int) = 0 := by omega
          have d0 : decide (xw < 0) = true := decide_eq_true hx0
          rw [hp1] at e1 e2
          clear hp hp0 hp63
          go_wp2_with fail
          go_meet
          case rel => exact ⟨rfl, rfl⟩
        · have hp1 : xw = (p : Int) := by omega
          subst hp1
          have d0 : decide ((p : Int) < 0) = false := decide_eq_false hx0
          clear hp
          go_wp2_with fail
          go_meet
          case rel => exact ⟨rfl, rfl⟩
      case rest =>
      obtain ⟨rfl, rfl⟩ := hcut
      clear e1 e2 c2 hp hp63
      cases xg with
      | true =>
        clear HWt c3
        go_wp2_with fail
        refine HGv.out.mono ?_
        rintro e w3 ⟨v3, q3, rfl, hI3, hO3⟩
        generalize (giveG f q3 ql a).f = f3 at hI3 hO3
        generalize (giveG f q3 ql a).ql = l3 at hI3 hO3
        generalize (giveG f q3 ql a).q = r3 at hO3
        have HI3 := Lib.hid hI3
        have HS3 := Lib.hid (Sound_any X m f3 r3 l3 w w3 Rs hO3 hI3 Hm4.out.2)
        unfold tptr at HS3
        clear hI3 hO3 HGv
        go_wp2_with fail
        refine HS3.out.mono ?_
        rintro e w4 ⟨rfl, hO4⟩
        have HO4 := Lib.hid hO4
        clear hO4 HS3
        go_wp2
        go_roundw
        case rel => exact ⟨i + 1, _, _, _, by have := Hi.out; omega, by go_num, HI3, HO4⟩
        case measure => have := Hi.out; simp [intOf]; omega
      | false =>
        clear HGv
        go_wp2_with fail
        refine HWt.out.mono ?_
        rintro e w3 ⟨v3, f3, r3, l3, rfl, hI3, hO3⟩
        have HI3 := Lib.hid hI3
        have HS3 := Lib.hid (Sound_any X m f3 r3 l3 w w3 Rs hO3 hI3 Hm4.out.2)
        unfold tptr at HS3
        clear hI3 hO3 HWt
        go_wp2_with fail
        refine HS3.out.mono ?_
        rintro e w4 ⟨rfl, hO4⟩
        have HO4 := Lib.hid hO4
        clear hO4 HS3
        go_wp2
        go_roundw
        case rel => exact ⟨i + 1, _, _, _, by have := Hi.out; omega, by go_num, HI3, HO4⟩
        case measure => have := Hi.out; simp [intOf]; omega
    · have hlt' : ¬ (i : Int) < (n : Int) := by omega
      clear hlt hi i0
      go_wp2_with fail
      go_loopw [10] (fun c wr => ∃ (k : Nat) (f : Nat → Int) (q : Nat → Value) (ql : Nat → List Nat), k ≤ m + 1 ∧ c = .int .i64 (k : Int) ∧ Hid (Inv m f ql) ∧ Hid (cnt m ql ≤ m - k) ∧ Hid (Grommet.Own w wr (TQ X m f q ql Rs))) (fun c _ => m + 1 - (intOf c).toNat)
      case atStart => exact ⟨0, f, q, ql, Nat.zero_le _, rfl, HI, Lib.hid (cnt_le m ql), hO⟩
      case round =>
        clear HI hO
        obtain ⟨k, f, q, ql, hk, rfl, HI, HC, hO⟩ := hrel
        have k0 : (0 : Int) ≤ (k : Int) := by omega
        by_cases hkm : k ≤ m
        · have hkm' : (k : Int) ≤ (m : Int) := by omega
          have wk : IntKind.i64.wrap ((k : Int) + 1) = (k : Int) + 1 := IntWalk.i64_in _ ⟨by omega, by omega⟩
          have HGo := Lib.hid (Going.start HI.out)
          have Hk := Lib.hid hkm
          obtain ⟨C, hC⟩ : ∃ C, cnt m ql = C := ⟨_, rfl⟩
          rw [hC] at HGo HC
          clear hkm hk hC
          go_wp2_with fail
          go_loopw [11] (fun c w3 => ∃ (b : Nat) (f : Nat → Int) (q : Nat → Value) (ql : Nat → List Nat), b ≤ m ∧ c = .int .i64 (b : Int) ∧ Hid (Inv m f ql) ∧ Hid (Going m b C f ql) ∧ Hid (Grommet.Own w w3 (TQ X m f q ql Rs))) (fun c _ => m - (intOf c).toNat)
          case atStart => exact ⟨0, f, q, ql, Nat.zero_le _, rfl, HI, HGo, hO⟩
          case round =>
            clear HI HGo hO
            obtain ⟨b, f, q, ql, hb, rfl, HI, HGo, hO⟩ := hrel
            have b0 : (0 : Int) ≤ (b : Int) := by omega
            by_cases hbm : b < m
            · have hbm' : (b : Int) < (m : Int) := by omega
              have wb : IntKind.i64.wrap ((b : Int) + 1) = (b : Int) + 1 := IntWalk.i64_in _ ⟨by omega, by omega⟩
              have HWb := Lib.hid (WaitsInv X m b f q ql w wr Rs hO.out HI.out hbm Hm4.out.2)
              unfold tptr at HWb
              have Hb := Lib.hid hbm
              obtain ⟨o, ho⟩ : ∃ o, waitF ql b = o := ⟨_, rfl⟩
              rw [ho] at HWb
              have Ho := Lib.hid ho
              clear hbm hb ho
              cases o with
              | none =>
                simp only [Option.isSome_none, Option.getD_none] at HWb
                have HGv := Lib.hid (GiveInv X m b f q ql w wr Rs hO.out HI.out Hb.out Hm4.out.2)
                unfold tptr at HGv
                clear hO
                go_wp2_with fail
                refine HWb.out.mono ?_
                rintro e w4 ⟨rfl, rfl⟩
                clear HWb
                go_wp2_with fail
                refine HGv.out.mono ?_
                rintro e w3 ⟨v3, q3, rfl, hI3, hO3⟩
                have hG3 := HGo.out.step HI.out q3 Ho.out
                generalize (giveG f q3 ql b).f = f3 at hI3 hO3 hG3
                generalize (giveG f q3 ql b).ql = l3 at hI3 hO3 hG3
                generalize (giveG f q3 ql b).q = r3 at hO3
                have HI3 := Lib.hid hI3
                have HG3 := Lib.hid hG3
                have HS3 := Lib.hid (Sound_any X m f3 r3 l3 w w3 Rs hO3 hI3 Hm4.out.2)
                unfold tptr at HS3
                clear hI3 hO3 HGv hG3 HGo HI
                go_wp2_with fail
                refine HS3.out.mono ?_
                rintro e w4 ⟨rfl, hO4⟩
                have HO4 := Lib.hid hO4
                clear hO4 HS3
                go_wp2
                go_roundw
                case rel => exact ⟨b + 1, _, _, _, by have := Hb.out; omega, by go_num, HI3, HG3, HO4⟩
                case measure => have := Hb.out; simp [intOf]; omega
              | some at_ =>
                simp only [Option.isSome_some, Option.getD_some] at HWb
                have HG3 := Lib.hid (HGo.out.skip (by rw [Ho.out]; simp))
                have HS3 := Lib.hid (Sound_any X m f q ql w wr Rs hO.out HI.out Hm4.out.2)
                unfold tptr at HS3
                clear hO HGo
                go_wp2_with fail
                refine HWb.out.mono ?_
                rintro e w4 ⟨rfl, rfl⟩
                clear HWb
                go_wp2_with fail
                refine HS3.out.mono ?_
                rintro e w5 ⟨rfl, hO4⟩
                have HO4 := Lib.hid hO4
                clear hO4 HS3
                go_wp2
                go_roundw
                case rel => exact ⟨b + 1, _, _, _, by have := Hb.out; omega, by go_num, HI, HG3, HO4⟩
                case measure => have := Hb.out; simp [intOf]; omega
            · have hbm' : ¬ (b : Int) < (m : Int) := by omega
              obtain rfl : b = m := by omega
              have HC2 := Lib.hid (show cnt b ql ≤ b - (k + 1) from by have h1 := HGo.out.done; have h2 := HC.out; omega)
              clear HGo hbm hb
              go_wp2
              go_roundw
              case rel => exact ⟨k + 1, f, q, ql, by have := Hk.out; omega, by go_num, HI, HC2, hO⟩
              case measure => have := Hk.out; simp [intOf]; omega
        · have hkm' : ¬ (k : Int) ≤ (m : Int) := by omega
          have HZ := Lib.hid (show cnt m ql = 0 from by have := HC.out; omega)
          clear HC hkm hk k0
          go_wp2_with fail
          go_loopw [14] (fun c w3 => ∃ b : Nat, b ≤ m ∧ c = .int .i64 (b : Int) ∧ w3 = wr) (fun c _ => m - (intOf c).toNat)
          case atStart => exact ⟨0, Nat.zero_le _, rfl, rfl⟩
          case round =>
            obtain ⟨b, hb, rfl, rfl⟩ := hrel
            have b0 : (0 : Int) ≤ (b : Int) := by omega
            by_cases hbm : b < m
            · have hbm' : (b : Int) < (m : Int) := by omega
              have wb : IntKind.i64.wrap ((b : Int) + 1) = (b : Int) + 1 := IntWalk.i64_in _ ⟨by omega, by omega⟩
              have HWb := Lib.hid (WaitsInv X m b f q ql w wr Rs hO.out HI.out hbm Hm4.out.2)
              unfold tptr at HWb
              rw [cnt_zero HZ.out hbm] at HWb
              simp only [Option.isSome_none, Option.getD_none] at HWb
              have Hb := Lib.hid hbm
              clear hbm hb
              go_wp2_with fail
              refine HWb.out.mono ?_
              rintro e w4 ⟨rfl, rfl⟩
              clear HWb
              go_wp2
              go_roundw
              case rel => exact ⟨b + 1, by have := Hb.out; omega, by go_num, by first | rfl | trivial⟩
              case measure => have := Hb.out; simp [intOf]; omega
            · have hbm' : ¬ (b : Int) < (m : Int) := by omega
              have HG := Lib.hid hO.out.grown
              clear hO HI HZ hbm hb
              go_wp2_with fail
              refine (works_ev _).mono ?_
              rintro e w5 ⟨rfl, hg5⟩
              go_wp2
              go_ret
              exact ⟨rfl, grown_trans HG.out hg5⟩

theorem walk (g0 : Int) (a0 : Option Addr) (n c0 : Nat) (L : List Step) (w : World) (h1 : (Lit.int .u8 g0).wf = true) (hL : StepsIn w a0 n L) :
    Calls Try.prog 3 #[.int .u8 g0, .slice a0 n c0] w (WorksOk w) := by
  have b1 := bounds_u8 h1
  obtain ⟨ix, rfl⟩ := Int.eq_ofNat_of_zero_le b1.1
  by_cases hfar : 200 < n
  · exact walk_far _ _ _ _ w hfar
  · exact walk_few a0 n c0 L ix w hfar hL (by omega)
end Go.Proofs.Ytclicjdgkcnihaa.lockGoes
