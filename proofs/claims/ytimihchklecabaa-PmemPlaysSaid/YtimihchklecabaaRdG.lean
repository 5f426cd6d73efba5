/- The document's loss of power. -/
import Derived.Test.YtimihchklecabaaRdB
import Derived.BigQuiet
import Derived.Deep.QuietTactic
import Derived.StillTailTactics
import Derived.Deep.DeepCutAuto
-- OPTIONAL
namespace Go.Proofs.Ytimihchklecabaa
open Go.RowKit Go.Grommet Go.Shelf

set_option maxRecDepth 100000 in
set_option maxHeartbeats 8000000 in
theorem RCrash_ok (kd kr d g n : Nat) (rs : List RW) (hpos : 0 < n) (pa : Option Addr) (pl pc : Nat) (ps : List Nat) (w0 w : World) (Ps : List Pr) (h : Grommet.Own w0 w Ps) (hD : RD Ps kd kr d g n rs) (hat : ∀ wx, w0.grownBy wx none → At wx pa (ps.map u8v)) (hpl : ps.length = pl) (hps : ∀ p ∈ ps, p < 256) :
    Calls Try.prog 23 #[ptr d, .slice pa pl pc] w fun e w' => e = .returned (.tuple #[]) ∧ Grommet.Own w0 w' (Ps.set kr (rowR g n (rcrash rs ps n))) := by
  have HD := Lib.hid hD
  have HA := Lib.hid hat
  have HPl := Lib.hid hpl
  have HPs := Lib.hid hps
  have hf := hD.few
  have hne := hD.apart h hpos
  have hne' : g ≠ d := fun e => hne e.symm
  have hkl := Lib.hid (List.getElem?_eq_some_iff.1 hD.row).1
  have h0 : Hid (Grommet.Own w0 w (Ps.set kr (rowR g n (rcrash rs ps 0)))) := Lib.hid (by
    show Grommet.Own w0 w (Ps.set kr (rowR g n rs))
    have : Ps.set kr (rowR g n rs) = Ps := by
      apply List.ext_getElem?
      intro x
      by_cases hx : x = kr
      · subst hx; rw [List.getElem?_set_self hkl.out, hD.row]
      · rw [List.getElem?_set_ne (fun e => hx e.symm)]
    rw [this]; exact h)
  unfold ptr
  clear h hD hat hpl hps
  go_enter Try.func23, Try.ntmps23
  go_wp2_with fail
  go_loopw [5, 4] (fun s c wr => ∃ t : Nat, t ≤ n ∧ s = .int .i64 (t : Int) ∧ c = .int .i64 (looseR (rs.take t) : Int) ∧ Hid (Grommet.Own w0 wr (Ps.set kr (rowR g n (rcrash rs ps t))))) (fun s _ _ => n - (intOf s).toNat)
  case atStart => exact ⟨0, Nat.zero_le _, rfl, rfl, h0⟩
  case round =>
    clear h0
    obtain ⟨t, htn', rfl, rfl, hO⟩ := hrel
    have HD2 : Hid (RD (Ps.set kr (rowR g n (rcrash rs ps t))) kd kr d g n (rcrash rs ps t)) := Lib.hid (HD.out.set (by rw [rcrash_len]; exact HD.out.len) (rcrash_small rs ps HD.out.small t))
    have c0 := HD2.out.dev hO.out
    have t0 : (0 : Int) ≤ (t : Int) := by omega
    obtain ⟨q, hq⟩ : ∃ q, looseR (rs.take t) = q := ⟨_, rfl⟩
    have hql : q ≤ n := by
      have h1 := looseR_le (rs.take t)
      rw [List.length_take] at h1
      omega
    have q0 : (0 : Int) ≤ (q : Int) := by omega
    rw [hq]
    by_cases hlt : t < n
    · have hlt' : (t : Int) < (n : Int) := by omega
      have htn : t < rs.length := by rw [HD.out.len]; omega
      have wt : IntKind.i64.wrap ((t : Int) + 1) = (t : Int) + 1 := IntWalk.i64_in _ ⟨by omega, by omega⟩
      have wq : IntKind.i64.wrap ((q : Int) + 1) = (q : Int) + 1 := IntWalk.i64_in _ ⟨by omega, by omega⟩
      obtain ⟨r, hr⟩ : ∃ r, rs[t]? = some r := ⟨rs[t], List.getElem?_eq_getElem htn⟩
      have hn1 : (rcrash rs ps t)[t]? = some r := by rw [rcrash_get, if_neg (Nat.lt_irrefl _)]; exact hr
      have hnx : looseR (rs.take (t + 1)) = q + (if r.loose then 1 else 0) := by
        rw [List.take_succ_eq_append_getElem htn, looseR_snoc, hq, (List.getElem?_eq_some_iff.1 hr).2]
      obtain ⟨f0, f1, f2, f3, f4, f5⟩ := HD2.out.get hO.out hn1
      have hX := hO.out.quiet (World.grownBy_alloc wr (.cells #[.int .u64 (r.sure : Int), .int .u64 (r.seen : Int), .bool r.loose, .bool r.flushed, .int .u64 (r.value : Int), .bool r.again] 71) none)
      have hZ := heap_alloc_new wr (.cells #[.int .u64 (r.sure : Int), .int .u64 (r.seen : Int), .bool r.loose, .bool r.flushed, .int .u64 (r.value : Int), .bool r.again] 71)
      have hV : lostV rs ps t r = if r.loose then r.left (ps.getD q 0) else r.sure := by unfold lostV; rw [hq]
      unfold RW.left at hV
      clear hq
      obtain ⟨u0, hu0⟩ : ∃ u, r.sure = u := ⟨_, rfl⟩
      obtain ⟨u1, hu1⟩ : ∃ u, r.seen = u := ⟨_, rfl⟩
      obtain ⟨u4, hu4⟩ : ∃ u, r.value = u := ⟨_, rfl⟩
      obtain ⟨b5, hb5⟩ : ∃ u, r.again = u := ⟨_, rfl⟩
      obtain ⟨b2, hb2⟩ : ∃ u, r.loose = u := ⟨_, rfl⟩
      obtain ⟨b3, hb3⟩ : ∃ u, r.flushed = u := ⟨_, rfl⟩
      rw [hu0] at f0 hX hV hZ
      rw [hu1] at f1 hX hV hZ
      rw [hu4] at f4 hX hV hZ
      rw [hb5] at f5 hX hZ
      rw [hb2] at f2 hX hV hZ hnx
      rw [hb3] at f3 hX hV hZ
      have HV := Lib.hid hV
      have Hnx := Lib.hid hnx
      have Hr := Lib.hid hr
      clear hu0 hu1 hu4 hb5 hb2 hb3 hV hnx hr
      go_upto_region 5 with fail
      obtain ⟨w5, hw5⟩ : ∃ w5, wr.alloc (.cells #[.int .u64 (u0 : Int), .int .u64 (u1 : Int), .bool b2, .bool b3, .int .u64 (u4 : Int), .bool b5] 71) = w5 := ⟨_, rfl⟩
      obtain ⟨Z, hz⟩ : ∃ Z, wr.heap.size = Z := ⟨_, rfl⟩
      rw [hw5] at hX hZ ⊢
      rw [hz] at hZ ⊢
      have hX := Lib.hid hX
      have hatw := HA.out w5 hX.out.grown
      clear c0 f0 f1 f2 f3 f4 f5 hw5 hz hO
      have y0 : w5.cell? ⟨Z, 0, none⟩ = some (.int .u64 (u0 : Int)) := by simp [World.cell?, hZ]
      have y1 : w5.cell? ⟨Z, 1, none⟩ = some (.int .u64 (u1 : Int)) := by simp [World.cell?, hZ]
      have y2 : w5.cell? ⟨Z, 2, none⟩ = some (.bool b2) := by simp [World.cell?, hZ]
      have y3 : w5.cell? ⟨Z, 3, none⟩ = some (.bool b3) := by simp [World.cell?, hZ]
      have y4 : w5.cell? ⟨Z, 4, none⟩ = some (.int .u64 (u4 : Int)) := by simp [World.cell?, hZ]
      clear hZ
      go_upto_if 28 with fail
      go_cut [7, 4, 8] (fun s7 s4 s8 wx => ∃ (_p : Value) (V : Nat), s7 = .int .u64 (V : Int) ∧ s4 = .int .i64 (looseR (rs.take (t + 1)) : Int) ∧ Hid (lostV rs ps t r = V) ∧ Hid (Grommet.Own w0 wx (Ps.set kr (rowR g n (rcrash rs ps t)))))
      case first =>
        cases b2 with
        | false =>
          go_wp2_with fail
          go_meet
          case rel => exact ⟨undef, u0, rfl, (by rw [Hnx.out]; rfl), Lib.hid (by rw [HV.out]; rfl), hX⟩
        | true =>
          by_cases hqp : q < pl
          · have hqp' : (q : Int) < (pl : Int) := by omega
            have hql2 : q < ps.length := by rw [HPl.out]; exact hqp
            obtain ⟨P, hP⟩ : ∃ P, ps.getD q 0 = P := ⟨_, rfl⟩
            have hP2 : P < 256 := by
              rw [← hP, List.getD_eq_getElem?_getD, List.getElem?_eq_getElem hql2]
              exact HPs.out _ (List.getElem_mem _)
            obtain ⟨pg, po, rfl, cp⟩ := hatw q (u8v P) (by rw [List.getElem?_map, List.getElem?_eq_getElem hql2, ← hP, List.getD_eq_getElem?_getD, List.getElem?_eq_getElem hql2]; rfl)
            unfold u8v at cp
            obtain ⟨k3, hk3⟩ : ∃ k, P % 3 = k := ⟨_, rfl⟩
            have e3 : (P : Int) % 3 = (k3 : Int) := by omega
            have e4 : Int.tmod (P : Int) 3 = (k3 : Int) := by rw [Int.tmod_eq_emod_of_nonneg (by omega)]; exact e3
            have w3 : IntKind.u8.wrap (k3 : Int) = (k3 : Int) := IntWalk.u8_in _ ⟨by omega, by omega⟩
            have HV2 : Hid (lostV rs ps t r = if k3 = 2 then u1 else if k3 = 1 ∧ b3 = true then u4 else u0) := Lib.hid (by rw [HV.out, hP, hk3]; rfl)
            have hk : k3 = 0 ∨ k3 = 1 ∨ k3 = 2 := by omega
            clear hatw hP HV hk3
            rcases hk with hk | hk | hk
            · subst hk
              go_wp2_with fail
              go_meet
              case rel => exact ⟨undef, u0, rfl, (by rw [Hnx.out]; go_num), Lib.hid (by rw [HV2.out]; rfl), hX⟩
            · subst hk
              cases b3 with
              | false =>
                have HV3 : Hid (lostV rs ps t r = u0) := Lib.hid (by rw [HV2.out]; rfl)
                clear HV2
                go_wp2_with fail
                go_meet
                case rel => exact ⟨undef, u0, rfl, (by rw [Hnx.out]; go_num), Lib.hid (HV3.out), hX⟩
              | true =>
                have HV3 : Hid (lostV rs ps t r = u4) := Lib.hid (by rw [HV2.out]; rfl)
                clear HV2
                go_wp2_with fail
                go_meet
                case rel => exact ⟨undef, u4, rfl, (by rw [Hnx.out]; go_num), Lib.hid (HV3.out), hX⟩
            · subst hk
              go_wp2_with fail
              go_meet
              case rel => exact ⟨undef, u1, rfl, (by rw [Hnx.out]; go_num), Lib.hid (by rw [HV2.out]; rfl), hX⟩
          · have hqp' : ¬ (q : Int) < (pl : Int) := by omega
            have HV2 : Hid (lostV rs ps t r = u0) := Lib.hid (by rw [HV.out, List.getD_eq_getElem?_getD, List.getElem?_eq_none (by rw [HPl.out]; omega)]; rfl)
            clear hatw HV
            go_wp2_with fail
            go_meet
            case rel => exact ⟨undef, u0, rfl, (by rw [Hnx.out]; go_num), Lib.hid (HV2.out), hX⟩
      case rest =>
      obtain ⟨_, V, rfl, rfl, HV9, hX9⟩ := hcut
      have c0 := HD2.out.dev hX9.out
      obtain ⟨f0, f1, f2, f3, f4, f5⟩ := HD2.out.get hX9.out hn1
      obtain ⟨z0, z1, z2, z3, z4, z5⟩ := HD2.out.free hX9.out hn1
      have HO3 := Lib.hid (crash_next hX9.out hkl.out Hr.out HV9.out)
      obtain ⟨q2, hq2⟩ : ∃ q, looseR (rs.take (t + 1)) = q := ⟨_, rfl⟩
      have Hq2 := Lib.hid hq2
      rw [hq2]
      clear hX hX9 hn1 HD2 HV9 hq2 y0 y1 y2 y3 y4 hatw HV Hnx
      go_wp2
      go_roundw
      case rel => exact ⟨t + 1, by omega, by go_num, by rw [Hq2.out], HO3⟩
      case measure => simp [intOf]; omega
    · have hlt' : ¬ (t : Int) < (n : Int) := by omega
      obtain rfl : t = n := by omega
      have hfin := Lib.hid hO.out
      clear hO HD2 hq
      go_wp2
      go_end0
      exact ⟨rfl, hfin.out⟩
end Go.Proofs.Ytimihchklecabaa
