/- The document's device: whole lines, and all of it. -/
import Derived.Test.YtimihchklecabaaRdB
import Derived.BigQuiet
import Derived.Deep.QuietTactic
import Derived.StillTailTactics
import Derived.Deep.DeepCutAuto
-- OPTIONAL
namespace Go.Proofs.Ytimihchklecabaa
open Go.RowKit Go.Grommet Go.Shelf

set_option maxRecDepth 100000 in
set_option maxHeartbeats 4000000 in
theorem RFence_ok (kd kr d g n : Nat) (rs : List RW) (hpos : 0 < n) (w0 w : World) (Ps : List Pr) (h : Grommet.Own w0 w Ps) (hD : RD Ps kd kr d g n rs) :
    Calls Try.prog 19 #[ptr d] w fun e w' => e = .returned (.tuple #[]) ∧ Grommet.Own w0 w' (Ps.set kr (rowR g n (rturn RW.fence 0 n rs))) := by
  have HD := Lib.hid hD
  have hf := hD.few
  have hn0 : 0 < n := hpos
  have hne := hD.apart h hn0
  have hne' : g ≠ d := fun e => hne e.symm
  have hkl := Lib.hid (List.getElem?_eq_some_iff.1 hD.row).1
  have hself : Ps.set kr (rowR g n rs) = Ps := by
    apply List.ext_getElem?
    intro x
    by_cases hx : x = kr
    · subst hx; rw [List.getElem?_set_self hkl.out, hD.row]
    · rw [List.getElem?_set_ne (fun e => hx e.symm)]
  have h0 : Hid (Grommet.Own w0 w (Ps.set kr (rowR g n (rturn RW.fence 0 0 rs)))) := Lib.hid (by show Grommet.Own w0 w (Ps.set kr (rowR g n rs)); rw [hself]; exact h)
  unfold ptr
  clear h hD hself
  go_enter Try.func19, Try.ntmps19
  go_wp2_with fail
  go_loopw [2] (fun s wr => ∃ t : Nat, t ≤ n ∧ s = .int .i64 (t : Int) ∧ Hid (Grommet.Own w0 wr (Ps.set kr (rowR g n (rturn RW.fence 0 t rs))))) (fun s _ => n - (intOf s).toNat)
  case atStart => exact ⟨0, Nat.zero_le _, rfl, h0⟩
  case round =>
    clear h0
    obtain ⟨t, htn', rfl, hO⟩ := hrel
    have HD2 : Hid (RD (Ps.set kr (rowR g n (rturn RW.fence 0 t rs))) kd kr d g n (rturn RW.fence 0 t rs)) := Lib.hid (HD.out.set (by rw [rturn_len]; exact HD.out.len) (rturn_small (fun c => rfence_small) 0 rs HD.out.small t))
    have c0 := HD2.out.dev hO.out
    have t0 : (0 : Int) ≤ (t : Int) := by omega
    by_cases hlt : t < n
    · have hlt' : (t : Int) < (n : Int) := by omega
      have htn : t < rs.length := by rw [HD.out.len]; omega
      have wt : IntKind.i64.wrap ((t : Int) + 1) = (t : Int) + 1 := IntWalk.i64_in _ ⟨by omega, by omega⟩
      obtain ⟨r, hr⟩ : ∃ r, rs[t]? = some r := ⟨rs[t], List.getElem?_eq_getElem htn⟩
      obtain ⟨hn1, hn2⟩ := rturn_next (f := RW.fence) (a := 0) (m := t) (by rw [Nat.zero_add]; exact hr)
      rw [Nat.zero_add] at hn1 hn2
      obtain ⟨f0, f1, f2, f3, f4, f5⟩ := HD2.out.get hO.out hn1
      obtain ⟨z0, z1, z2, z3, z4, z5⟩ := HD2.out.free hO.out hn1
      have hrow := HD2.out.row
      have hgs : g < wr.heap.size := World.block_lt_of_cell? _ _ f0
      have hds : d < wr.heap.size := World.block_lt_of_cell? _ _ c0
      have hX := hO.out.quiet (World.grownBy_alloc wr (.cells #[.int .u64 (r.sure : Int), .int .u64 (r.seen : Int), .bool r.loose, .bool r.flushed, .int .u64 (r.value : Int), .bool r.again] 71) none)
      obtain ⟨u1, hu1⟩ : ∃ u, r.seen = u := ⟨_, rfl⟩
      obtain ⟨u4, hu4⟩ : ∃ u, r.value = u := ⟨_, rfl⟩
      obtain ⟨b5, hb5⟩ : ∃ u, r.again = u := ⟨_, rfl⟩
      cases hlo : r.flushed with
      | true =>
        have HF2 := Lib.hid (fun w5 hx => fence_next (wr := w5) (Ps := Ps) (kr := kr) (g := g) (n := n) (w0 := w0) hx hkl.out hr hlo hu1 hu4 hb5)
        have hZ := heap_alloc_new wr (.cells #[.int .u64 (r.sure : Int), .int .u64 (r.seen : Int), .bool r.loose, .bool r.flushed, .int .u64 (r.value : Int), .bool r.again] 71)
        rw [hlo] at f3 hX hZ
        rw [hu1] at f1 hX hZ
        rw [hu4] at f4 hX hZ
        rw [hb5] at f5 hX hZ
        obtain ⟨u0, hu0⟩ : ∃ u, r.sure = u := ⟨_, rfl⟩
        obtain ⟨b2, hb2⟩ : ∃ u, r.loose = u := ⟨_, rfl⟩
        rw [hu0] at f0 hX hZ
        rw [hb2] at f2 hX hZ
        go_upto_region 5 with fail
        obtain ⟨w5, hw5⟩ : ∃ w5, wr.alloc (.cells #[.int .u64 (u0 : Int), .int .u64 (u1 : Int), .bool b2, .bool true, .int .u64 (u4 : Int), .bool b5] 71) = w5 := ⟨_, rfl⟩
        obtain ⟨Z, hz⟩ : ∃ Z, wr.heap.size = Z := ⟨_, rfl⟩
        rw [hw5] at hX hZ ⊢
        rw [hz] at hZ ⊢
        have HO3 := Lib.hid (HF2.out w5 hX)
        clear c0 f0 f1 f2 f3 f4 f5 z0 z1 z2 z3 z4 z5 hw5 hz HF2 hgs hds
        have c0 := HD2.out.dev hX
        obtain ⟨f0, f1, f2, f3, f4, f5⟩ := HD2.out.get hX hn1
        obtain ⟨z0, z1, z2, z3, z4, z5⟩ := HD2.out.free hX hn1
        have y1 : w5.cell? ⟨Z, 1, none⟩ = some (.int .u64 (u1 : Int)) := by simp [World.cell?, hZ]
        have y4 : w5.cell? ⟨Z, 4, none⟩ = some (.int .u64 (u4 : Int)) := by simp [World.cell?, hZ]
        have y5 : w5.cell? ⟨Z, 5, none⟩ = some (.bool b5) := by simp [World.cell?, hZ]
        clear hZ hX hO hrow hn1 hn2 hr HD2 hlo hu1 hu4 hb5 hu0 hb2
        go_wp2_with fail
        go_still_tail 15, (by kernel_rfl)
        change wpList _ _ _ _ _ w5.drew
        go_wp2
        go_roundw
        case rel => exact ⟨t + 1, by omega, by go_num, HO3⟩
        case measure => simp [intOf]; omega
      | false =>
        rw [hlo] at f3 hX
        have hfr : RW.fence r = r := by unfold RW.fence; rw [hlo]; rfl
        rw [hfr, set_sameR hn1] at hn2
        rw [← hn2] at hX
        have HO2 := Lib.hid hX
        generalize r.seen = u1 at f1 HO2
        generalize r.sure = u0 at f0 HO2
        generalize r.value = u4 at f4 HO2
        generalize r.loose = u2 at f2 HO2
        generalize r.again = u5 at f5 HO2
        clear hX hO hrow hn1 hn2 hfr hr HD2 hlo
        go_wp2
        go_roundw
        case rel => exact ⟨t + 1, by omega, by go_num, HO2⟩
        case measure => simp [intOf]; omega
    · have hlt' : ¬ (t : Int) < (n : Int) := by omega
      obtain rfl : t = n := by omega
      have hfin := Lib.hid hO.out
      clear hO HD2
      go_wp2
      go_end0
      exact ⟨rfl, hfin.out⟩
end Go.Proofs.Ytimihchklecabaa
