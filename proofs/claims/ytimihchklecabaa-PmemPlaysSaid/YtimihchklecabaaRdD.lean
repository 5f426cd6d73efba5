/- The document's device: whole lines, and all of it. -/
import Derived.Test.YtimihchklecabaaRdB
import Derived.BigQuiet
import Derived.Deep.QuietTactic
import Derived.StillTailTactics
import Derived.Deep.DeepCutAuto
-- OPTIONAL
namespace Go.Proofs.Ytimihchklecabaa
open Go.RowKit Go.Grommet Go.Shelf

set_option maxHeartbeats 1000000 in
theorem REvict_no (kd kr d g n : Nat) (rs : List RW) (i : Int) (hb : decide (0 ≤ i ∧ i < ((n / 8 : Nat) : Int)) = false) (w0 w : World) (Ps : List Pr) (h : Grommet.Own w0 w Ps) (hD : RD Ps kd kr d g n rs) :
    Calls Try.prog 22 #[ptr d, .int .i64 i] w fun e w' => e = .returned (.int .i64 8) ∧ w' = w := by
  have HL := Lib.hid (Rline_any kd kr d g n rs i false hb w0 w Ps h hD)
  unfold ptr at HL ⊢
  clear h hD hb
  go_enter Try.func22, Try.ntmps22
  go_wp2_with fail
  refine HL.out.mono ?_
  rintro e w1 ⟨rfl, rfl⟩
  go_wp2
  go_ret
  exact ⟨rfl, rfl⟩
set_option maxRecDepth 100000 in
set_option maxHeartbeats 4000000 in
theorem REvict_ok (kd kr d g n : Nat) (rs : List RW) (i : Nat) (hi : i < n / 8) (w0 w : World) (Ps : List Pr) (h : Grommet.Own w0 w Ps) (hD : RD Ps kd kr d g n rs) :
    Calls Try.prog 22 #[ptr d, .int .i64 (i : Int)] w fun e w' => e = .returned (.int .i64 0) ∧ Grommet.Own w0 w' (Ps.set kr (rowR g n (rturn RW.evict (8 * i) 8 rs))) := by
  have HL := Lib.hid (Rline_any kd kr d g n rs (i : Int) true (by simp; omega) w0 w Ps h hD)
  have hne := hD.apart h (by omega)
  have hne' : g ≠ d := fun e => hne e.symm
  have HD := Lib.hid hD
  have hf := hD.few
  have hkl := Lib.hid (List.getElem?_eq_some_iff.1 hD.row).1
  obtain ⟨B, hB⟩ : ∃ B, 8 * i = B := ⟨_, rfl⟩
  obtain ⟨E, hE⟩ : ∃ E, B + 8 = E := ⟨_, rfl⟩
  have hEn : E ≤ n := by omega
  have e1 : 8 * (i : Int) = (B : Int) := by omega
  have w1' : IntKind.i64.wrap (8 * (i : Int)) = (B : Int) := by rw [IntWalk.i64_in _ ⟨by omega, by omega⟩]; omega
  have w2' : IntKind.i64.wrap ((B : Int) + 8) = (E : Int) := by rw [IntWalk.i64_in _ ⟨by omega, by omega⟩]; omega
  have wB : IntKind.i64.wrap (B : Int) = (B : Int) := IntWalk.i64_in _ ⟨by omega, by omega⟩
  have h0 : Hid (Grommet.Own w0 w (Ps.set kr (rowR g n (rturn RW.evict B 0 rs)))) := Lib.hid (by
    have : Ps.set kr (rowR g n rs) = Ps := by
      apply List.ext_getElem?
      intro x
      by_cases hx : x = kr
      · subst hx; rw [List.getElem?_set_self hkl.out, hD.row]
      · rw [List.getElem?_set_ne (fun e => hx e.symm)]
    show Grommet.Own w0 w (Ps.set kr (rowR g n rs))
    rw [this]; exact h)
  rw [hB]
  unfold ptr at HL ⊢
  clear h hD hi hB
  go_enter Try.func22, Try.ntmps22
  go_wp2_with fail
  refine HL.out.mono ?_
  rintro e w1 ⟨rfl, rfl⟩
  clear HL
  go_wp2_with fail
  go_loopw [5] (fun s wr => ∃ t m : Nat, Hid (B + m = t) ∧ m ≤ 8 ∧ s = .int .i64 (t : Int) ∧ Hid (Grommet.Own w0 wr (Ps.set kr (rowR g n (rturn RW.evict B m rs))))) (fun s _ => E - (intOf s).toNat)
  case atStart => exact ⟨B, 0, Lib.hid rfl, Nat.zero_le _, rfl, h0⟩
  case round =>
    clear h0
    obtain ⟨t, m, ht, hm, rfl, hO⟩ := hrel
    have HD2 : Hid (RD (Ps.set kr (rowR g n (rturn RW.evict B m rs))) kd kr d g n (rturn RW.evict B m rs)) := Lib.hid (HD.out.set (by rw [rturn_len]; exact HD.out.len) (rturn_small (fun c => revict_small) B rs HD.out.small m))
    have c0 := HD2.out.dev hO.out
    have t0 : (0 : Int) ≤ (t : Int) := by omega
    by_cases hlt : t < E
    · have hlt' : (t : Int) < (E : Int) := by omega
      have hm8 : m < 8 := by have := ht.out; omega
      have htn : t < rs.length := by rw [HD.out.len]; omega
      have tn : (t : Int) < (n : Int) := by have := HD.out.len; omega
      have wt : IntKind.i64.wrap ((t : Int) + 1) = (t : Int) + 1 := IntWalk.i64_in _ ⟨by omega, by omega⟩
      obtain ⟨r, hr⟩ : ∃ r, rs[t]? = some r := ⟨rs[t], List.getElem?_eq_getElem htn⟩
      obtain ⟨hn1, hn2⟩ := rturn_next (f := RW.evict) (a := B) (m := m) (by rw [ht.out]; exact hr)
      rw [ht.out] at hn1 hn2
      obtain ⟨f0, f1, f2, f3, f4, f5⟩ := HD2.out.get hO.out hn1
      obtain ⟨z0, z1, z2, z3, z4, z5⟩ := HD2.out.free hO.out hn1
      have hrow := HD2.out.row
      have hl1 := (List.getElem?_eq_some_iff.1 hn1).1
      have hkl1 := (List.getElem?_eq_some_iff.1 hrow).1
      cases hlo : r.loose with
      | true =>
        rw [hlo] at f2
        obtain ⟨u, hu⟩ : ∃ u, r.seen = u := ⟨_, rfl⟩
        have HO3 := Lib.hid (evict_next hO.out hkl.out hr ht.out hlo hu)
        rw [hu] at f1
        clear hO hrow hl1 hkl1 hn1 hn2 hr HD2 hlo hu
        go_wp2_with fail
        go_still_tail 23, (by kernel_rfl)
        change wpList _ _ _ _ _ wr.drew
        go_wp2
        go_roundw
        case rel => exact ⟨t + 1, m + 1, Lib.hid (by have := ht.out; omega), by omega, by go_num, HO3⟩
        case measure => simp [intOf]; omega
      | false =>
        rw [hlo] at f2
        have hfr : RW.evict r = r := by unfold RW.evict; rw [hlo]; rfl
        rw [hfr, set_sameR hn1] at hn2
        have HO2 : Hid (Grommet.Own w0 wr (Ps.set kr (rowR g n (rturn RW.evict B (m + 1) rs)))) := Lib.hid (by rw [hn2]; exact hO.out)
        clear hO hrow hl1 hkl1 hn1 hn2 hfr hr HD2
        go_wp2
        go_roundw
        case rel => exact ⟨t + 1, m + 1, Lib.hid (by have := ht.out; omega), by omega, by go_num, HO2⟩
        case measure => simp [intOf]; omega
    · as_aux_lemma =>
      have hlt' : ¬ (t : Int) < (E : Int) := by omega
      have hm8 : m = 8 := by have := ht.out; omega
      subst hm8
      have hfin := Lib.hid hO.out
      clear hO HD2
      go_wp2
      go_ret
      exact ⟨rfl, hfin.out⟩
end Go.Proofs.Ytimihchklecabaa
