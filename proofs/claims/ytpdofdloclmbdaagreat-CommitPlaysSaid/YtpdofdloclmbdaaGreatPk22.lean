/- Texts of ours, packed. -/
import Derived.BigQuiet
import Derived.Deep.QuietTactic
import Derived.StillTailTactics
import Derived.Deep.DeepCutAuto
import Derived.Test.YtpdofdloclmbdaaGreatPk21
section
/- New devices; what is refused; few. -/
-- OPTIONAL
-- OPTIONAL
namespace Go.Proofs.YtpdofdloclmbdaaGreat
open Go.RowKit Go.Grommet Go.Shelf

theorem flatR_zero (n : Nat) : (madeCells #[Value.int .u64 0, .int .u64 0, .bool false, .bool false, .int .u64 0, .bool false] (n * 6)).toList = pm_flatR (List.replicate n RW.nought) := by
  apply List.ext_getElem?
  intro i
  by_cases hi : i < n * 6
  · have hw : (List.replicate n RW.nought)[i / 6]? = some RW.nought := by rw [List.getElem?_replicate, if_pos (by omega)]
    have h1 := flatR_get (List.replicate n RW.nought) (i / 6) (i % 6) RW.nought hw (Nat.mod_lt _ (by decide))
    rw [show i / 6 * 6 + i % 6 = i from by omega] at h1
    rw [h1, Array.getElem?_toList]
    have hm : i % 6 = 0 ∨ i % 6 = 1 ∨ i % 6 = 2 ∨ i % 6 = 3 ∨ i % 6 = 4 ∨ i % 6 = 5 := by omega
    simp only [madeCells, Array.getElem?_map, Array.getElem?_range, hi, if_true, Option.map_some]
    rcases hm with e | e | e | e | e | e <;> simp [e, RW.vs, RW.nought]
  · rw [List.getElem?_eq_none (by rw [Array.length_toList, size_madeCells]; omega), List.getElem?_eq_none (by rw [flatR_len, List.length_replicate]; omega)]
theorem wordsRT : Tryz.prog.underlying 100 = some (.slice 133) := Tryz.underlying100
theorem infoRW : (Tryz.prog.info? 133).map (fun i => (i.zero, i.size, i.bytes)) = some (some (.agg #[.int .u64 0, .int .u64 0, .bool false, .bool false, .int .u64 0, .bool false]), 6, 40) := by kernel_rfl

def NewR (n : Nat) (w0 : World) (Ps : List Pr) (e : Ending) (w' : World) : Prop := ∃ d g, e = .returned (.tuple #[ptr d, .int .i64 0]) ∧ Grommet.Own w0 w' (Ps ++ [rowR g n (List.replicate n RW.nought), boxR d g n])
set_option maxHeartbeats 1000000 in
theorem RNew_yes (n : Nat) (w0 w : World) (Ps : List Pr) (h : Grommet.Own w0 w Ps) (h8 : 8 ≤ n) (hm : n ≤ 65536) (hd : n % 8 = 0) :
    Calls Tryz.prog 47 #[.int .i64 (n : Int)] w (NewR n w0 Ps) := by
  obtain ⟨i0, hi0, hz0, hz1, hz2⟩ := info_parts infoRW
  have hmk : ∀ w', (Instr.makeSlice 100 (.int .i64 (n : Int)) (.int .i64 (n : Int))).run Tryz.prog w' = .ok (.slice (some ⟨w'.heap.size, 0, none⟩) n n) (w'.alloc (.cells (pm_flatR (List.replicate n RW.nought)).toArray 133)) := by
    intro w'
    have := run_make (P := Tryz.prog) w' 100 133 i0 _ wordsRT hi0 hz0 .i64 .i64 n n (by omega) (Int.le_refl _) (by rw [hz2]; omega) (by omega)
    rw [hz1] at this
    rw [this]
    have hc : (madeCells (Value.cells (.agg #[.int .u64 0, .int .u64 0, .bool false, .bool false, .int .u64 0, .bool false])) ((n : Int).toNat * 6)) = (pm_flatR (List.replicate n RW.nought)).toArray := by
      apply Array.toList_inj.1
      rw [← flatR_zero n]
      rfl
    rw [hc]
    rfl
  have hrem : Int.tmod (n : Int) 8 = 0 := by rw [Int.tmod_eq_emod_of_nonneg (by omega)]; omega
  have hrem2 : (n : Int) % 8 = 0 := by omega
  have l1 : ¬ (n : Int) < 8 := by omega
  have l2 : ¬ (65536 : Int) < (n : Int) := by omega
  have l3 : (8 : Int) ≤ (n : Int) := by omega
  have l4 : (n : Int) ≤ 65536 := by omega
  have hw0 : IntKind.i64.wrap 0 = 0 := by decide
  have hfin : Hid (Grommet.Own w0 ((w.alloc (.cells (pm_flatR (List.replicate n RW.nought)).toArray 133)).alloc (.cells #[.slice (some ⟨w.heap.size, 0, none⟩) n n] 102)) (Ps ++ [rowR w.heap.size n (List.replicate n RW.nought), boxR (w.heap.size + 1) w.heap.size n])) := Lib.hid (by
    have r1 := heap_alloc_new w (.cells (pm_flatR (List.replicate n RW.nought)).toArray 133)
    have hl : (pm_flatR (List.replicate n RW.nought)).length = 6 * n := by rw [flatR_len, List.length_replicate]
    have hrow : (w.alloc (.cells (pm_flatR (List.replicate n RW.nought)).toArray 133)).ownsRow w.heap.size 133 6 (.slice (some ⟨w.heap.size, 0, none⟩) n n) n (pm_flatR (List.replicate n RW.nought)) :=
      ⟨by rw [hl, Nat.mul_comm], .inr ⟨w.heap.size, n, _, rfl, Nat.le_refl _, r1, Nat.le_refl _, by unfold maxLen; omega, by simp [hl, Nat.mul_comm], by rw [List.take_of_length_le (by simp [hl]; omega)]⟩⟩
    have h1 := h.addRow hrow (World.grownBy_alloc _ _ none)
    have h2 := h1.addBox 102 #[.slice (some ⟨w.heap.size, 0, none⟩) n n]
    rw [List.append_assoc] at h2
    rw [show (w.alloc (.cells (pm_flatR (List.replicate n RW.nought)).toArray 133)).heap.size = w.heap.size + 1 by simp] at h2
    exact h2)
  clear h hd h8 hm
  go_enter Tryz.func47, Tryz.ntmps47
  go_wp2
  go_ret2
  exact ⟨_, _, rfl, hfin.out⟩
set_option maxHeartbeats 1000000 in
theorem PEvict_no (w : World) (d g : Nat) (ws : List PW) (h : DevIs w d g ws) (a : Int) (hE : hasE a (ws.length / 8) = 8) :
    Calls Tryz.prog 19 #[ptr d, .int .i64 a] w fun e w' => e = .returned (.int .i64 8) ∧ w' = w := by
  have HW := Lib.hid (lines_any w d g ws h)
  have HH := Lib.hid (has_any w d a (ws.length / 8))
  rw [hE] at HH
  unfold ptr at HW HH ⊢
  clear h hE
  go_enter Tryz.func19, Tryz.ntmps19
  go_wp2_with fail
  refine HW.out.mono ?_
  rintro e w1 ⟨rfl, rfl⟩
  go_wp2_with fail
  refine HH.out.mono ?_
  rintro e w1 ⟨rfl, rfl⟩
  go_wp2
  go_ret
  exact ⟨rfl, rfl⟩

end Go.Proofs.YtpdofdloclmbdaaGreat
end
section
/- The document's device: whole lines, and all of it. -/
-- OPTIONAL
-- OPTIONAL
namespace Go.Proofs.YtpdofdloclmbdaaGreat
open Go.RowKit Go.Grommet Go.Shelf

set_option maxHeartbeats 1000000 in
theorem REvict_no (kd kr d g n : Nat) (rs : List RW) (i : Int) (hb : decide (0 ≤ i ∧ i < ((n / 8 : Nat) : Int)) = false) (w0 w : World) (Ps : List Pr) (h : Grommet.Own w0 w Ps) (hD : RD Ps kd kr d g n rs) :
    Calls Tryz.prog 20 #[ptr d, .int .i64 i] w fun e w' => e = .returned (.int .i64 8) ∧ w' = w := by
  have HL := Lib.hid (Rline_any kd kr d g n rs i false hb w0 w Ps h hD)
  unfold ptr at HL ⊢
  clear h hD hb
  go_enter Tryz.func20, Tryz.ntmps20
  go_wp2_with fail
  refine HL.out.mono ?_
  rintro e w1 ⟨rfl, rfl⟩
  go_wp2
  go_ret
  exact ⟨rfl, rfl⟩
set_option maxRecDepth 100000 in
set_option maxHeartbeats 4000000 in
theorem REvict_ok (kd kr d g n : Nat) (rs : List RW) (i : Nat) (hi : i < n / 8) (w0 w : World) (Ps : List Pr) (h : Grommet.Own w0 w Ps) (hD : RD Ps kd kr d g n rs) :
    Calls Tryz.prog 20 #[ptr d, .int .i64 (i : Int)] w fun e w' => e = .returned (.int .i64 0) ∧ Grommet.Own w0 w' (Ps.set kr (rowR g n (rturn RW.evict (8 * i) 8 rs))) := by
  have HL := Lib.hid (Rline_any kd kr d g n rs (i : Int) true (by simp; omega) w0 w Ps h hD)
  have hne := hD.apart h (by omega)
  have hne' : g ≠ d := fun e => hne e.symm
  have HD := Lib.hid hD
  have hf := hD.few
  have hkl := Lib.hid (List.getElem?_eq_some_iff.1 hD.row).1
  obtain ⟨B, hB⟩ : ∃ B, 8 * i = B := ⟨_, rfl⟩
  obtain ⟨E, hE⟩ : ∃ E, B + 8 = E := ⟨_, rfl⟩
  have hEn : E ≤ n := by omega
  have e1 : 8 * (i : Int) = (B : Int) := by omega
  have w1' : IntKind.i64.wrap (8 * (i : Int)) = (B : Int) := by rw [IntWalk.i64_in _ ⟨by omega, by omega⟩]; omega
  have w2' : IntKind.i64.wrap ((B : Int) + 8) = (E : Int) := by rw [IntWalk.i64_in _ ⟨by omega, by omega⟩]; omega
  have wB : IntKind.i64.wrap (B : Int) = (B : Int) := IntWalk.i64_in _ ⟨by omega, by omega⟩
  have h0 : Hid (Grommet.Own w0 w (Ps.set kr (rowR g n (rturn RW.evict B 0 rs)))) := Lib.hid (by
    have : Ps.set kr (rowR g n rs) = Ps := by
      apply List.ext_getElem?
      intro x
      by_cases hx : x = kr
      · subst hx; rw [List.getElem?_set_self hkl.out, hD.row]
      · rw [List.getElem?_set_ne (fun e => hx e.symm)]
    show Grommet.Own w0 w (Ps.set kr (rowR g n rs))
    rw [this]; exact h)
  rw [hB]
  unfold ptr at HL ⊢
  clear h hD hi hB
  go_enter Tryz.func20, Tryz.ntmps20
  go_wp2_with fail
  refine HL.out.mono ?_
  rintro e w1 ⟨rfl, rfl⟩
  clear HL
  go_wp2_with fail
  go_loopw [5] (fun s wr => ∃ t m : Nat, Hid (B + m = t) ∧ m ≤ 8 ∧ s = .int .i64 (t : Int) ∧ Hid (Grommet.Own w0 wr (Ps.set kr (rowR g n (rturn RW.evict B m rs))))) (fun s _ => E - (intOf s).toNat)
  case atStart => exact ⟨B, 0, Lib.hid rfl, Nat.zero_le _, rfl, h0⟩
  case round =>
    clear h0
    obtain ⟨t, m, ht, hm, rfl, hO⟩ := hrel
    have HD2 : Hid (RD (Ps.set kr (rowR g n (rturn RW.evict B m rs))) kd kr d g n (rturn RW.evict B m rs)) := Lib.hid (HD.out.set (by rw [rturn_len]; exact HD.out.len) (rturn_small (fun c => revict_small) B rs HD.out.small m))
    have c0 := HD2.out.dev hO.out
    have t0 : (0 : Int) ≤ (t : Int) := by omega
    by_cases hlt : t < E
    · have hlt' : (t : Int) < (E : Int) := by omega
      have hm8 : m < 8 := by have := ht.out; omega
      have htn : t < rs.length := by rw [HD.out.len]; omega
      have tn : (t : Int) < (n : Int) := by have := HD.out.len; omega
      have wt : IntKind.i64.wrap ((t : Int) + 1) = (t : Int) + 1 := IntWalk.i64_in _ ⟨by omega, by omega⟩
      obtain ⟨r, hr⟩ : ∃ r, rs[t]? = some r := ⟨rs[t], List.getElem?_eq_getElem htn⟩
      obtain ⟨hn1, hn2⟩ := rturn_next (f := RW.evict) (a := B) (m := m) (by rw [ht.out]; exact hr)
      rw [ht.out] at hn1 hn2
      obtain ⟨f0, f1, f2, f3, f4, f5⟩ := HD2.out.get hO.out hn1
      obtain ⟨z0, z1, z2, z3, z4, z5⟩ := HD2.out.free hO.out hn1
      have hrow := HD2.out.row
      have hl1 := (List.getElem?_eq_some_iff.1 hn1).1
      have hkl1 := (List.getElem?_eq_some_iff.1 hrow).1
      cases hlo : r.loose with
      | true =>
        rw [hlo] at f2
        obtain ⟨u, hu⟩ : ∃ u, r.seen = u := ⟨_, rfl⟩
        have HO3 := Lib.hid (evict_next hO.out hkl.out hr ht.out hlo hu)
        rw [hu] at f1
        clear hO hrow hl1 hkl1 hn1 hn2 hr HD2 hlo hu
        go_wp2_with fail
        go_still_tail 23, (by kernel_rfl)
        change wpList _ _ _ _ _ wr.drew
        go_wp2
        go_roundw
        case rel => exact ⟨t + 1, m + 1, Lib.hid (by have := ht.out; omega), by omega, by go_num, HO3⟩
        case measure => simp [intOf]; omega
      | false =>
        rw [hlo] at f2
        have hfr : RW.evict r = r := by unfold RW.evict; rw [hlo]; rfl
        rw [hfr, set_sameR hn1] at hn2
        have HO2 : Hid (Grommet.Own w0 wr (Ps.set kr (rowR g n (rturn RW.evict B (m + 1) rs)))) := Lib.hid (by rw [hn2]; exact hO.out)
        clear hO hrow hl1 hkl1 hn1 hn2 hfr hr HD2
        go_wp2
        go_roundw
        case rel => exact ⟨t + 1, m + 1, Lib.hid (by have := ht.out; omega), by omega, by go_num, HO2⟩
        case measure => simp [intOf]; omega
    · as_aux_lemma =>
      have hlt' : ¬ (t : Int) < (E : Int) := by omega
      have hm8 : m = 8 := by have := ht.out; omega
      subst hm8
      have hfin := Lib.hid hO.out
      clear hO HD2
      go_wp2
      go_ret
      exact ⟨rfl, hfin.out⟩
end Go.Proofs.YtpdofdloclmbdaaGreat
end
section
/- The document's device: whole lines, and all of it. -/
-- OPTIONAL
-- OPTIONAL
namespace Go.Proofs.YtpdofdloclmbdaaGreat
open Go.RowKit Go.Grommet Go.Shelf

set_option maxRecDepth 100000 in
set_option maxHeartbeats 4000000 in
theorem RFlush_ok (kd kr d g n : Nat) (rs : List RW) (i : Nat) (hi : i < n / 8) (w0 w : World) (Ps : List Pr) (h : Grommet.Own w0 w Ps) (hD : RD Ps kd kr d g n rs) :
    Calls Tryz.prog 76 #[ptr d, .int .i64 (i : Int)] w fun e w' => e = .returned (.int .i64 0) ∧ Grommet.Own w0 w' (Ps.set kr (rowR g n (rturn RW.flush (8 * i) 8 rs))) := by
  have HL := Lib.hid (Rline_any kd kr d g n rs (i : Int) true (by simp; omega) w0 w Ps h hD)
  have hne := hD.apart h (by omega)
  have hne' : g ≠ d := fun e => hne e.symm
  have HD := Lib.hid hD
  have hf := hD.few
  have hkl := Lib.hid (List.getElem?_eq_some_iff.1 hD.row).1
  obtain ⟨B, hB⟩ : ∃ B, 8 * i = B := ⟨_, rfl⟩
  obtain ⟨E, hE⟩ : ∃ E, B + 8 = E := ⟨_, rfl⟩
  have hEn : E ≤ n := by omega
  have e1 : 8 * (i : Int) = (B : Int) := by omega
  have w1' : IntKind.i64.wrap (8 * (i : Int)) = (B : Int) := by rw [IntWalk.i64_in _ ⟨by omega, by omega⟩]; omega
  have w2' : IntKind.i64.wrap ((B : Int) + 8) = (E : Int) := by rw [IntWalk.i64_in _ ⟨by omega, by omega⟩]; omega
  have wB : IntKind.i64.wrap (B : Int) = (B : Int) := IntWalk.i64_in _ ⟨by omega, by omega⟩
  have h0 : Hid (Grommet.Own w0 w (Ps.set kr (rowR g n (rturn RW.flush B 0 rs)))) := Lib.hid (by
    have : Ps.set kr (rowR g n rs) = Ps := by
      apply List.ext_getElem?
      intro x
      by_cases hx : x = kr
      · subst hx; rw [List.getElem?_set_self hkl.out, hD.row]
      · rw [List.getElem?_set_ne (fun e => hx e.symm)]
    show Grommet.Own w0 w (Ps.set kr (rowR g n rs))
    rw [this]; exact h)
  rw [hB]
  unfold ptr at HL ⊢
  clear h hD hi hB
  go_enter Tryz.func76, Tryz.ntmps76
  go_wp2_with fail
  refine HL.out.mono ?_
  rintro e w1 ⟨rfl, rfl⟩
  clear HL
  go_wp2_with fail
  go_loopw [5] (fun s wr => ∃ t m : Nat, Hid (B + m = t) ∧ m ≤ 8 ∧ s = .int .i64 (t : Int) ∧ Hid (Grommet.Own w0 wr (Ps.set kr (rowR g n (rturn RW.flush B m rs))))) (fun s _ => E - (intOf s).toNat)
  case atStart => exact ⟨B, 0, Lib.hid rfl, Nat.zero_le _, rfl, h0⟩
  case round =>
    clear h0
    obtain ⟨t, m, ht, hm, rfl, hO⟩ := hrel
    have HD2 : Hid (RD (Ps.set kr (rowR g n (rturn RW.flush B m rs))) kd kr d g n (rturn RW.flush B m rs)) := Lib.hid (HD.out.set (by rw [rturn_len]; exact HD.out.len) (rturn_small (fun c => rflush_small) B rs HD.out.small m))
    have c0 := HD2.out.dev hO.out
    have t0 : (0 : Int) ≤ (t : Int) := by omega
    by_cases hlt : t < E
    · have hlt' : (t : Int) < (E : Int) := by omega
      have hm8 : m < 8 := by have := ht.out; omega
      have htn : t < rs.length := by rw [HD.out.len]; omega
      have tn : (t : Int) < (n : Int) := by have := HD.out.len; omega
      have wt : IntKind.i64.wrap ((t : Int) + 1) = (t : Int) + 1 := IntWalk.i64_in _ ⟨by omega, by omega⟩
      obtain ⟨r, hr⟩ : ∃ r, rs[t]? = some r := ⟨rs[t], List.getElem?_eq_getElem htn⟩
      obtain ⟨hn1, hn2⟩ := rturn_next (f := RW.flush) (a := B) (m := m) (by rw [ht.out]; exact hr)
      rw [ht.out] at hn1 hn2
      obtain ⟨f0, f1, f2, f3, f4, f5⟩ := HD2.out.get hO.out hn1
      obtain ⟨z0, z1, z2, z3, z4, z5⟩ := HD2.out.free hO.out hn1
      have hrow := HD2.out.row
      have hl1 := (List.getElem?_eq_some_iff.1 hn1).1
      have hkl1 := (List.getElem?_eq_some_iff.1 hrow).1
      cases hlo : r.loose with
      | true =>
        rw [hlo] at f2
        obtain ⟨hO8, hr8⟩ := flush_one hO.out hkl.out hr ht.out
        obtain ⟨u, hu⟩ : ∃ u, r.seen = u := ⟨_, rfl⟩
        have HF2 := Lib.hid (fun w8 hx => flush_two (w8 := w8) (Ps := Ps) (kr := kr) (g := g) (n := n) (w0 := w0) hx hkl.out hr ht.out hlo hu)
        have HD8 := HD.out.set (rs' := (rturn RW.flush B m rs).set t { r with flushed := true }) (by rw [List.length_set, rturn_len]; exact HD.out.len) (fun c hc => by
          rcases List.mem_or_eq_of_mem_set hc with e | e
          · exact rturn_small (fun c => rflush_small) B rs HD.out.small m c e
          · rw [e]; exact HD.out.small r (List.mem_of_getElem? hr))
        go_upto_region 8 with fail
        obtain ⟨w8, hw8⟩ : ∃ w8, wr.setCell ⟨g, t * 6 + 3, none⟩ (.bool true) = w8 := ⟨_, rfl⟩
        rw [hw8] at hO8 ⊢
        have HO3 := Lib.hid (HF2.out w8 hO8)
        clear c0 f0 f1 f2 f3 f4 f5 z0 z1 z2 z3 z4 z5 hw8 HF2
        have c0 := HD8.dev hO8
        obtain ⟨f0, f1, f2, f3, f4, f5⟩ := HD8.get hO8 hr8
        obtain ⟨z0, z1, z2, z3, z4, z5⟩ := HD8.free hO8 hr8
        rw [hu] at f1
        clear hO8 hr8 HD8 hO hrow hl1 hkl1 hn1 hn2 hr HD2 hlo hu f0 f2 f3
        go_wp2_with fail
        go_still_tail 15, (by kernel_rfl)
        change wpList _ _ _ _ _ w8.drew
        go_wp2
        go_roundw
        case rel => exact ⟨t + 1, m + 1, Lib.hid (by have := ht.out; omega), by omega, by go_num, HO3⟩
        case measure => simp [intOf]; omega
      | false =>
        rw [hlo] at f2
        have hfr : RW.flush r = r := by unfold RW.flush; rw [hlo]; rfl
        rw [hfr, set_sameR hn1] at hn2
        have HO2 : Hid (Grommet.Own w0 wr (Ps.set kr (rowR g n (rturn RW.flush B (m + 1) rs)))) := Lib.hid (by rw [hn2]; exact hO.out)
        clear hO hrow hl1 hkl1 hn1 hn2 hfr hr HD2
        go_wp2
        go_roundw
        case rel => exact ⟨t + 1, m + 1, Lib.hid (by have := ht.out; omega), by omega, by go_num, HO2⟩
        case measure => simp [intOf]; omega
    · as_aux_lemma =>
      have hlt' : ¬ (t : Int) < (E : Int) := by omega
      have hm8 : m = 8 := by have := ht.out; omega
      subst hm8
      have hfin := Lib.hid hO.out
      clear hO HD2
      go_wp2
      go_ret
      exact ⟨rfl, hfin.out⟩
end Go.Proofs.YtpdofdloclmbdaaGreat
end
section
/- The document's device: whole lines, and all of it. -/
-- OPTIONAL
-- OPTIONAL
namespace Go.Proofs.YtpdofdloclmbdaaGreat
open Go.RowKit Go.Grommet Go.Shelf

set_option maxRecDepth 100000 in
set_option maxHeartbeats 4000000 in
theorem RFence_ok (kd kr d g n : Nat) (rs : List RW) (hpos : 0 < n) (w0 w : World) (Ps : List Pr) (h : Grommet.Own w0 w Ps) (hD : RD Ps kd kr d g n rs) :
    Calls Tryz.prog 77 #[ptr d] w fun e w' => e = .returned (.tuple #[]) ∧ Grommet.Own w0 w' (Ps.set kr (rowR g n (rturn RW.fence 0 n rs))) := by
  have HD := Lib.hid hD
  have hf := hD.few
  have hn0 : 0 < n := hpos
  have hne := hD.apart h hn0
  have hne' : g ≠ d := fun e => hne e.symm
  have hkl := Lib.hid (List.getElem?_eq_some_iff.1 hD.row).1
  have hself : Ps.set kr (rowR g n rs) = Ps := by
    apply List.ext_getElem?
    intro x
    by_cases hx : x = kr
    · subst hx; rw [List.getElem?_set_self hkl.out, hD.row]
    · rw [List.getElem?_set_ne (fun e => hx e.symm)]
  have h0 : Hid (Grommet.Own w0 w (Ps.set kr (rowR g n (rturn RW.fence 0 0 rs)))) := Lib.hid (by show Grommet.Own w0 w (Ps.set kr (rowR g n rs)); rw [hself]; exact h)
  unfold ptr
  clear h hD hself
  go_enter Tryz.func77, Tryz.ntmps77
  go_wp2_with fail
  go_loopw [2] (fun s wr => ∃ t : Nat, t ≤ n ∧ s = .int .i64 (t : Int) ∧ Hid (Grommet.Own w0 wr (Ps.set kr (rowR g n (rturn RW.fence 0 t rs))))) (fun s _ => n - (intOf s).toNat)
  case atStart => exact ⟨0, Nat.zero_le _, rfl, h0⟩
  case round =>
    clear h0
    obtain ⟨t, htn', rfl, hO⟩ := hrel
    have HD2 : Hid (RD (Ps.set kr (rowR g n (rturn RW.fence 0 t rs))) kd kr d g n (rturn RW.fence 0 t rs)) := Lib.hid (HD.out.set (by rw [rturn_len]; exact HD.out.len) (rturn_small (fun c => rfence_small) 0 rs HD.out.small t))
    have c0 := HD2.out.dev hO.out
    have t0 : (0 : Int) ≤ (t : Int) := by omega
    by_cases hlt : t < n
    · have hlt' : (t : Int) < (n : Int) := by omega
      have htn : t < rs.length := by rw [HD.out.len]; omega
      have wt : IntKind.i64.wrap ((t : Int) + 1) = (t : Int) + 1 := IntWalk.i64_in _ ⟨by omega, by omega⟩
      obtain ⟨r, hr⟩ : ∃ r, rs[t]? = some r := ⟨rs[t], List.getElem?_eq_getElem htn⟩
      obtain ⟨hn1, hn2⟩ := rturn_next (f := RW.fence) (a := 0) (m := t) (by rw [Nat.zero_add]; exact hr)
      rw [Nat.zero_add] at hn1 hn2
      obtain ⟨f0, f1, f2, f3, f4, f5⟩ := HD2.out.get hO.out hn1
      obtain ⟨z0, z1, z2, z3, z4, z5⟩ := HD2.out.free hO.out hn1
      have hrow := HD2.out.row
      have hgs : g < wr.heap.size := World.block_lt_of_cell? _ _ f0
      have hds : d < wr.heap.size := World.block_lt_of_cell? _ _ c0
      have hX := hO.out.quiet (World.grownBy_alloc wr (.cells #[.int .u64 (r.sure : Int), .int .u64 (r.seen : Int), .bool r.loose, .bool r.flushed, .int .u64 (r.value : Int), .bool r.again] 133) none)
      obtain ⟨u1, hu1⟩ : ∃ u, r.seen = u := ⟨_, rfl⟩
      obtain ⟨u4, hu4⟩ : ∃ u, r.value = u := ⟨_, rfl⟩
      obtain ⟨b5, hb5⟩ : ∃ u, r.again = u := ⟨_, rfl⟩
      cases hlo : r.flushed with
      | true =>
        have HF2 := Lib.hid (fun w5 hx => fence_next (wr := w5) (Ps := Ps) (kr := kr) (g := g) (n := n) (w0 := w0) hx hkl.out hr hlo hu1 hu4 hb5)
        have hZ := heap_alloc_new wr (.cells #[.int .u64 (r.sure : Int), .int .u64 (r.seen : Int), .bool r.loose, .bool r.flushed, .int .u64 (r.value : Int), .bool r.again] 133)
        rw [hlo] at f3 hX hZ
        rw [hu1] at f1 hX hZ
        rw [hu4] at f4 hX hZ
        rw [hb5] at f5 hX hZ
        obtain ⟨u0, hu0⟩ : ∃ u, r.sure = u := ⟨_, rfl⟩
        obtain ⟨b2, hb2⟩ : ∃ u, r.loose = u := ⟨_, rfl⟩
        rw [hu0] at f0 hX hZ
        rw [hb2] at f2 hX hZ
        go_upto_region 5 with fail
        obtain ⟨w5, hw5⟩ : ∃ w5, wr.alloc (.cells #[.int .u64 (u0 : Int), .int .u64 (u1 : Int), .bool b2, .bool true, .int .u64 (u4 : Int), .bool b5] 133) = w5 := ⟨_, rfl⟩
        obtain ⟨Z, hz⟩ : ∃ Z, wr.heap.size = Z := ⟨_, rfl⟩
        rw [hw5] at hX hZ ⊢
        rw [hz] at hZ ⊢
        have HO3 := Lib.hid (HF2.out w5 hX)
        clear c0 f0 f1 f2 f3 f4 f5 z0 z1 z2 z3 z4 z5 hw5 hz HF2 hgs hds
        have c0 := HD2.out.dev hX
        obtain ⟨f0, f1, f2, f3, f4, f5⟩ := HD2.out.get hX hn1
        obtain ⟨z0, z1, z2, z3, z4, z5⟩ := HD2.out.free hX hn1
        have y1 : w5.cell? ⟨Z, 1, none⟩ = some (.int .u64 (u1 : Int)) := by simp [World.cell?, hZ]
        have y4 : w5.cell? ⟨Z, 4, none⟩ = some (.int .u64 (u4 : Int)) := by simp [World.cell?, hZ]
        have y5 : w5.cell? ⟨Z, 5, none⟩ = some (.bool b5) := by simp [World.cell?, hZ]
        clear hZ hX hO hrow hn1 hn2 hr HD2 hlo hu1 hu4 hb5 hu0 hb2
        go_wp2_with fail
        go_still_tail 15, (by kernel_rfl)
        change wpList _ _ _ _ _ w5.drew
        go_wp2
        go_roundw
        case rel => exact ⟨t + 1, by omega, by go_num, HO3⟩
        case measure => simp [intOf]; omega
      | false =>
        rw [hlo] at f3 hX
        have hfr : RW.fence r = r := by unfold RW.fence; rw [hlo]; rfl
        rw [hfr, set_sameR hn1] at hn2
        rw [← hn2] at hX
        have HO2 := Lib.hid hX
        generalize r.seen = u1 at f1 HO2
        generalize r.sure = u0 at f0 HO2
        generalize r.value = u4 at f4 HO2
        generalize r.loose = u2 at f2 HO2
        generalize r.again = u5 at f5 HO2
        clear hX hO hrow hn1 hn2 hfr hr HD2 hlo
        go_wp2
        go_roundw
        case rel => exact ⟨t + 1, by omega, by go_num, HO2⟩
        case measure => simp [intOf]; omega
    · have hlt' : ¬ (t : Int) < (n : Int) := by omega
      obtain rfl : t = n := by omega
      have hfin := Lib.hid hO.out
      clear hO HD2
      go_wp2
      go_end0
      exact ⟨rfl, hfin.out⟩
end Go.Proofs.YtpdofdloclmbdaaGreat
end
section
/- The document's device: what is sure, what is seen. -/
-- OPTIONAL
-- OPTIONAL
namespace Go.Proofs.YtpdofdloclmbdaaGreat
open Go.RowKit Go.Grommet Go.Shelf

theorem app64P {w : World} {ops : Array Oper} {rest : List Oper} {o : Oper} {a : Act} {Q : Exit → Act → World → Prop} (hgd : o.guard = none) (s x : Operand)
    (ho : o.op = .call { callee := .builtin .append, args := #[s, x], argTypes := #[33, 33] })
    (base : Nat) (v : Value) (n : Nat) (xs : List Nat) (hs : a.eval s = v) (hown : w.ownsRow base 44 1 v n (xs.map wv))
    (ad : Addr) (m c : Nat) (ys : List Nat) (hx : a.eval x = .slice (some ad) m c) (hl : ys.length = m) (hw : At w (some ad) (ys.map wv))
    (hb : n + m ≤ 1099511627776) (hbase : base ≤ w.heap.size)
    (h : ∀ ad' cap' w', w'.ownsRow base 44 1 (.slice ad' (n + m) cap') (n + m) ((xs ++ ys).map wv) → w.grownBy w' v.ownBlock → wpList Tryz.prog ops Q rest (a.put o.dst (.slice ad' (n + m) cap')) w') : wpList Tryz.prog ops Q (o :: rest) a w := by
  obtain ⟨i0, hi, hz0, hz1, hz2⟩ := info_parts info64
  refine wpList_append_blk w hgd s x 33 ho base 44 i0 (.int .u64 0) 1 8 Tryz.underlying33 hi hz0 hz1 hz2 rfl (by decide) v n (xs.map wv) hs hown ad m c (ys.map wv) hx (by rw [List.length_map, hl, Nat.mul_one]) hw.some (wv_oneCell ys) (by unfold maxLen; omega) (by omega) hbase ?_
  intro ad' cap' w' ho' hg _
  exact h ad' cap' w' (by rw [List.map_append]; exact ho') hg

/-- One thing of each of the first words. -/
def colS (f : RW → Nat) (rs : List RW) (t : Nat) : List Nat := (rs.take t).map f
theorem colS_all (f : RW → Nat) (rs : List RW) (t : Nat) (h : rs.length ≤ t) : colS f rs t = rs.map f := by unfold colS; rw [List.take_of_length_le h]
theorem colS_snoc (f : RW → Nat) (rs : List RW) (t : Nat) (r : RW) (hr : rs[t]? = some r) : colS f rs t ++ [f r] = colS f rs (t + 1) := by
  have hl := (List.getElem?_eq_some_iff.1 hr).1
  unfold colS
  rw [List.take_succ_eq_append_getElem hl, List.map_append, (List.getElem?_eq_some_iff.1 hr).2]; rfl

set_option maxRecDepth 100000 in
set_option maxHeartbeats 4000000 in
theorem RSure_any (kd kr d g n : Nat) (rs : List RW) (w0 w : World) (Ps : List Pr) (h : Grommet.Own w0 w Ps) (hD : RD Ps kd kr d g n rs) :
    Calls Tryz.prog 32 #[ptr d] w fun e w' => ∃ ad cp, e = .returned (.slice ad n cp) ∧ Grommet.Own w0 w' (Ps ++ [rowP 44 1 (.slice ad n cp) n ((colS (·.sure) rs n).map wv)]) := by
  have HD := Lib.hid hD
  have hf := hD.few
  have HO := Lib.hid h
  have h0 : Hid (w.ownsRow w.heap.size 44 1 (.slice none 0 0) 0 ((colS (·.sure) rs 0).map wv)) := Lib.hid (World.ownsRow_nil _ _ _ _)
  unfold ptr
  clear h hD
  go_enter Tryz.func32, Tryz.ntmps32
  go_wp2_with fail
  go_loopw [4, 3] (fun s c wr => ∃ (t : Nat) (ad : Option Addr) (cp : Nat), t ≤ n ∧ s = .int .i64 (t : Int) ∧ c = .slice ad t cp ∧ Hid (wr.ownsRow w.heap.size 44 1 (.slice ad t cp) t ((colS (·.sure) rs t).map wv)) ∧ Hid (w.grownBy wr none)) (fun s _ _ => n - (intOf s).toNat)
  case atStart => exact ⟨0, none, 0, Nat.zero_le _, rfl, rfl, h0, Lib.hid (World.grownBy.refl _ _)⟩
  case round =>
    clear h0
    obtain ⟨t, ad, cp, htn', rfl, rfl, hrow, hg⟩ := hrel
    have hO := HO.out.quiet hg.out
    have c0 := HD.out.dev hO
    have t0 : (0 : Int) ≤ (t : Int) := by omega
    by_cases hlt : t < n
    · have hlt' : (t : Int) < (n : Int) := by omega
      have htn : t < rs.length := by rw [HD.out.len]; omega
      have wt : IntKind.i64.wrap ((t : Int) + 1) = (t : Int) + 1 := IntWalk.i64_in _ ⟨by omega, by omega⟩
      obtain ⟨r, hr⟩ : ∃ r, rs[t]? = some r := ⟨rs[t], List.getElem?_eq_getElem htn⟩
      obtain ⟨f0, f1, _⟩ := HD.out.get hO hr
      obtain ⟨u, hu⟩ : ∃ u, r.sure = u := ⟨_, rfl⟩
      rw [hu] at f0
      have Hnx : Hid (colS (·.sure) rs t ++ [u] = colS (·.sure) rs (t + 1)) := Lib.hid (by rw [← hu]; exact colS_snoc (·.sure) rs t r hr)
      obtain ⟨xs, hxs⟩ : ∃ xs, colS (·.sure) rs t = xs := ⟨_, rfl⟩
      rw [hxs] at hrow Hnx
      clear hxs
      have hbl := hrow.out.lt
      clear hr hu hO f1
      go_wp2_with (at_builtin; refine app64P rfl _ _ rfl w.heap.size _ t xs rfl (hrow.out.alloc _) ⟨wr.heap.size, 0, none⟩ 1 1 [u] rfl rfl (at_of_row (heap_alloc_new wr _)) ?a2 ?a3 ?_)
      case a2 => omega
      case a3 => have := hg.out.size; simp; omega
      intro ad2 cp2 w2 hrow2 hg2
      have hrow2 : w2.ownsRow w.heap.size 44 1 (.slice ad2 (t + 1) cp2) (t + 1) ((colS (·.sure) rs (t + 1)).map wv) := by rw [← Hnx.out]; simpa using hrow2
      have Hrow2 := Lib.hid hrow2
      have Hg2 := Lib.hid (grown_new hg.out (grown_trans (World.grownBy_alloc wr _ _) hg2) (fun i hi => (hbl i hi).1))
      clear hrow hrow2 hg hg2 hbl
      go_wp2
      go_roundw
      case rel => exact ⟨t + 1, ad2, cp2, by omega, by go_num, rfl, Hrow2, Hg2⟩
      case measure => simp [intOf]; omega
    · have hlt' : ¬ (t : Int) < (n : Int) := by omega
      obtain rfl : t = n := by omega
      have hr2 := hrow.out
      have hfin := Lib.hid (HO.out.addRow hr2 hg.out)
      clear hrow hr2 hO
      go_wp2
      go_ret
      exact ⟨ad, cp, rfl, hfin.out⟩

set_option maxRecDepth 100000 in
set_option maxHeartbeats 4000000 in
theorem RSeen_any (kd kr d g n : Nat) (rs : List RW) (w0 w : World) (Ps : List Pr) (h : Grommet.Own w0 w Ps) (hD : RD Ps kd kr d g n rs) :
    Calls Tryz.prog 31 #[ptr d] w fun e w' => ∃ ad cp, e = .returned (.slice ad n cp) ∧ Grommet.Own w0 w' (Ps ++ [rowP 44 1 (.slice ad n cp) n ((colS (·.seen) rs n).map wv)]) := by
  have HD := Lib.hid hD
  have hf := hD.few
  have HO := Lib.hid h
  have h0 : Hid (w.ownsRow w.heap.size 44 1 (.slice none 0 0) 0 ((colS (·.seen) rs 0).map wv)) := Lib.hid (World.ownsRow_nil _ _ _ _)
  unfold ptr
  clear h hD
  go_enter Tryz.func31, Tryz.ntmps31
  go_wp2_with fail
  go_loopw [4, 3] (fun s c wr => ∃ (t : Nat) (ad : Option Addr) (cp : Nat), t ≤ n ∧ s = .int .i64 (t : Int) ∧ c = .slice ad t cp ∧ Hid (wr.ownsRow w.heap.size 44 1 (.slice ad t cp) t ((colS (·.seen) rs t).map wv)) ∧ Hid (w.grownBy wr none)) (fun s _ _ => n - (intOf s).toNat)
  case atStart => exact ⟨0, none, 0, Nat.zero_le _, rfl, rfl, h0, Lib.hid (World.grownBy.refl _ _)⟩
  case round =>
    clear h0
    obtain ⟨t, ad, cp, htn', rfl, rfl, hrow, hg⟩ := hrel
    have hO := HO.out.quiet hg.out
    have c0 := HD.out.dev hO
    have t0 : (0 : Int) ≤ (t : Int) := by omega
    by_cases hlt : t < n
    · have hlt' : (t : Int) < (n : Int) := by omega
      have htn : t < rs.length := by rw [HD.out.len]; omega
      have wt : IntKind.i64.wrap ((t : Int) + 1) = (t : Int) + 1 := IntWalk.i64_in _ ⟨by omega, by omega⟩
      obtain ⟨r, hr⟩ : ∃ r, rs[t]? = some r := ⟨rs[t], List.getElem?_eq_getElem htn⟩
      obtain ⟨f0, f1, _⟩ := HD.out.get hO hr
      obtain ⟨u, hu⟩ : ∃ u, r.seen = u := ⟨_, rfl⟩
      rw [hu] at f1
      have Hnx : Hid (colS (·.seen) rs t ++ [u] = colS (·.seen) rs (t + 1)) := Lib.hid (by rw [← hu]; exact colS_snoc (·.seen) rs t r hr)
      obtain ⟨xs, hxs⟩ : ∃ xs, colS (·.seen) rs t = xs := ⟨_, rfl⟩
      rw [hxs] at hrow Hnx
      clear hxs
      have hbl := hrow.out.lt
      clear hr hu hO f0
      go_wp2_with (at_builtin; refine app64P rfl _ _ rfl w.heap.size _ t xs rfl (hrow.out.alloc _) ⟨wr.heap.size, 0, none⟩ 1 1 [u] rfl rfl (at_of_row (heap_alloc_new wr _)) ?a2 ?a3 ?_)
      case a2 => omega
      case a3 => have := hg.out.size; simp; omega
      intro ad2 cp2 w2 hrow2 hg2
      have hrow2 : w2.ownsRow w.heap.size 44 1 (.slice ad2 (t + 1) cp2) (t + 1) ((colS (·.seen) rs (t + 1)).map wv) := by rw [← Hnx.out]; simpa using hrow2
      have Hrow2 := Lib.hid hrow2
      have Hg2 := Lib.hid (grown_new hg.out (grown_trans (World.grownBy_alloc wr _ _) hg2) (fun i hi => (hbl i hi).1))
      clear hrow hrow2 hg hg2 hbl
      go_wp2
      go_roundw
      case rel => exact ⟨t + 1, ad2, cp2, by omega, by go_num, rfl, Hrow2, Hg2⟩
      case measure => simp [intOf]; omega
    · have hlt' : ¬ (t : Int) < (n : Int) := by omega
      obtain rfl : t = n := by omega
      have hr2 := hrow.out
      have hfin := Lib.hid (HO.out.addRow hr2 hg.out)
      clear hrow hr2 hO
      go_wp2
      go_ret
      exact ⟨ad, cp, rfl, hfin.out⟩
end Go.Proofs.YtpdofdloclmbdaaGreat
end
section
/- The document's loss of power. -/
-- OPTIONAL
-- OPTIONAL
namespace Go.Proofs.YtpdofdloclmbdaaGreat
open Go.RowKit Go.Grommet Go.Shelf

set_option maxRecDepth 100000 in
set_option maxHeartbeats 8000000 in
theorem RCrash_ok (kd kr d g n : Nat) (rs : List RW) (hpos : 0 < n) (pa : Option Addr) (pl pc : Nat) (ps : List Nat) (w0 w : World) (Ps : List Pr) (h : Grommet.Own w0 w Ps) (hD : RD Ps kd kr d g n rs) (hat : ∀ wx, w0.grownBy wx none → At wx pa (ps.map u8v)) (hpl : ps.length = pl) (hps : ∀ p ∈ ps, p < 256) :
    Calls Tryz.prog 22 #[ptr d, .slice pa pl pc] w fun e w' => e = .returned (.tuple #[]) ∧ Grommet.Own w0 w' (Ps.set kr (rowR g n (rcrash rs ps n))) := by
  have HD := Lib.hid hD
  have HA := Lib.hid hat
  have HPl := Lib.hid hpl
  have HPs := Lib.hid hps
  have hf := hD.few
  have hne := hD.apart h hpos
  have hne' : g ≠ d := fun e => hne e.symm
  have hkl := Lib.hid (List.getElem?_eq_some_iff.1 hD.row).1
  have h0 : Hid (Grommet.Own w0 w (Ps.set kr (rowR g n (rcrash rs ps 0)))) := Lib.hid (by
    show Grommet.Own w0 w (Ps.set kr (rowR g n rs))
    have : Ps.set kr (rowR g n rs) = Ps := by
      apply List.ext_getElem?
      intro x
      by_cases hx : x = kr
      · subst hx; rw [List.getElem?_set_self hkl.out, hD.row]
      · rw [List.getElem?_set_ne (fun e => hx e.symm)]
    rw [this]; exact h)
  unfold ptr
  clear h hD hat hpl hps
  go_enter Tryz.func22, Tryz.ntmps22
  go_wp2_with fail
  go_loopw [5, 4] (fun s c wr => ∃ t : Nat, t ≤ n ∧ s = .int .i64 (t : Int) ∧ c = .int .i64 (looseR (rs.take t) : Int) ∧ Hid (Grommet.Own w0 wr (Ps.set kr (rowR g n (rcrash rs ps t))))) (fun s _ _ => n - (intOf s).toNat)
  case atStart => exact ⟨0, Nat.zero_le _, rfl, rfl, h0⟩
  case round =>
    clear h0
    obtain ⟨t, htn', rfl, rfl, hO⟩ := hrel
    have HD2 : Hid (RD (Ps.set kr (rowR g n (rcrash rs ps t))) kd kr d g n (rcrash rs ps t)) := Lib.hid (HD.out.set (by rw [rcrash_len]; exact HD.out.len) (rcrash_small rs ps HD.out.small t))
    have c0 := HD2.out.dev hO.out
    have t0 : (0 : Int) ≤ (t : Int) := by omega
    obtain ⟨q, hq⟩ : ∃ q, looseR (rs.take t) = q := ⟨_, rfl⟩
    have hql : q ≤ n := by
      have h1 := looseR_le (rs.take t)
      rw [List.length_take] at h1
      omega
    have q0 : (0 : Int) ≤ (q : Int) := by omega
    rw [hq]
    by_cases hlt : t < n
    · have hlt' : (t : Int) < (n : Int) := by omega
      have htn : t < rs.length := by rw [HD.out.len]; omega
      have wt : IntKind.i64.wrap ((t : Int) + 1) = (t : Int) + 1 := IntWalk.i64_in _ ⟨by omega, by omega⟩
      have wq : IntKind.i64.wrap ((q : Int) + 1) = (q : Int) + 1 := IntWalk.i64_in _ ⟨by omega, by omega⟩
      obtain ⟨r, hr⟩ : ∃ r, rs[t]? = some r := ⟨rs[t], List.getElem?_eq_getElem htn⟩
      have hn1 : (rcrash rs ps t)[t]? = some r := by rw [rcrash_get, if_neg (Nat.lt_irrefl _)]; exact hr
      have hnx : looseR (rs.take (t + 1)) = q + (if r.loose then 1 else 0) := by
        rw [List.take_succ_eq_append_getElem htn, looseR_snoc, hq, (List.getElem?_eq_some_iff.1 hr).2]
      obtain ⟨f0, f1, f2, f3, f4, f5⟩ := HD2.out.get hO.out hn1
      have hX := hO.out.quiet (World.grownBy_alloc wr (.cells #[.int .u64 (r.sure : Int), .int .u64 (r.seen : Int), .bool r.loose, .bool r.flushed, .int .u64 (r.value : Int), .bool r.again] 133) none)
      have hZ := heap_alloc_new wr (.cells #[.int .u64 (r.sure : Int), .int .u64 (r.seen : Int), .bool r.loose, .bool r.flushed, .int .u64 (r.value : Int), .bool r.again] 133)
      have hV : lostV rs ps t r = if r.loose then r.left (ps.getD q 0) else r.sure := by unfold lostV; rw [hq]
      unfold RW.left at hV
      clear hq
      obtain ⟨u0, hu0⟩ : ∃ u, r.sure = u := ⟨_, rfl⟩
      obtain ⟨u1, hu1⟩ : ∃ u, r.seen = u := ⟨_, rfl⟩
      obtain ⟨u4, hu4⟩ : ∃ u, r.value = u := ⟨_, rfl⟩
      obtain ⟨b5, hb5⟩ : ∃ u, r.again = u := ⟨_, rfl⟩
      obtain ⟨b2, hb2⟩ : ∃ u, r.loose = u := ⟨_, rfl⟩
      obtain ⟨b3, hb3⟩ : ∃ u, r.flushed = u := ⟨_, rfl⟩
      rw [hu0] at f0 hX hV hZ
      rw [hu1] at f1 hX hV hZ
      rw [hu4] at f4 hX hV hZ
      rw [hb5] at f5 hX hZ
      rw [hb2] at f2 hX hV hZ hnx
      rw [hb3] at f3 hX hV hZ
      have HV := Lib.hid hV
      have Hnx := Lib.hid hnx
      have Hr := Lib.hid hr
      clear hu0 hu1 hu4 hb5 hb2 hb3 hV hnx hr
      go_upto_region 5 with fail
      obtain ⟨w5, hw5⟩ : ∃ w5, wr.alloc (.cells #[.int .u64 (u0 : Int), .int .u64 (u1 : Int), .bool b2, .bool b3, .int .u64 (u4 : Int), .bool b5] 133) = w5 := ⟨_, rfl⟩
      obtain ⟨Z, hz⟩ : ∃ Z, wr.heap.size = Z := ⟨_, rfl⟩
      rw [hw5] at hX hZ ⊢
      rw [hz] at hZ ⊢
      have hX := Lib.hid hX
      have hatw := HA.out w5 hX.out.grown
      clear c0 f0 f1 f2 f3 f4 f5 hw5 hz hO
      have y0 : w5.cell? ⟨Z, 0, none⟩ = some (.int .u64 (u0 : Int)) := by simp [World.cell?, hZ]
      have y1 : w5.cell? ⟨Z, 1, none⟩ = some (.int .u64 (u1 : Int)) := by simp [World.cell?, hZ]
      have y2 : w5.cell? ⟨Z, 2, none⟩ = some (.bool b2) := by simp [World.cell?, hZ]
      have y3 : w5.cell? ⟨Z, 3, none⟩ = some (.bool b3) := by simp [World.cell?, hZ]
      have y4 : w5.cell? ⟨Z, 4, none⟩ = some (.int .u64 (u4 : Int)) := by simp [World.cell?, hZ]
      clear hZ
      go_upto_if 28 with fail
      go_cut [7, 4, 8] (fun s7 s4 s8 wx => ∃ (_p : Value) (V : Nat), s7 = .int .u64 (V : Int) ∧ s4 = .int .i64 (looseR (rs.take (t + 1)) : Int) ∧ Hid (lostV rs ps t r = V) ∧ Hid (Grommet.Own w0 wx (Ps.set kr (rowR g n (rcrash rs ps t)))))
      case first =>
        cases b2 with
        | false =>
          go_wp2_with fail
          go_meet
          case rel => exact ⟨undef, u0, rfl, (by rw [Hnx.out]; rfl), Lib.hid (by rw [HV.out]; rfl), hX⟩
        | true =>
          by_cases hqp : q < pl
          · have hqp' : (q : Int) < (pl : Int) := by omega
            have hql2 : q < ps.length := by rw [HPl.out]; exact hqp
            obtain ⟨P, hP⟩ : ∃ P, ps.getD q 0 = P := ⟨_, rfl⟩
            have hP2 : P < 256 := by
              rw [← hP, List.getD_eq_getElem?_getD, List.getElem?_eq_getElem hql2]
              exact HPs.out _ (List.getElem_mem _)
            obtain ⟨pg, po, rfl, cp⟩ := hatw q (u8v P) (by rw [List.getElem?_map, List.getElem?_eq_getElem hql2, ← hP, List.getD_eq_getElem?_getD, List.getElem?_eq_getElem hql2]; rfl)
            unfold u8v at cp
            obtain ⟨k3, hk3⟩ : ∃ k, P % 3 = k := ⟨_, rfl⟩
            have e3 : (P : Int) % 3 = (k3 : Int) := by omega
            have e4 : Int.tmod (P : Int) 3 = (k3 : Int) := by rw [Int.tmod_eq_emod_of_nonneg (by omega)]; exact e3
            have w3 : IntKind.u8.wrap (k3 : Int) = (k3 : Int) := IntWalk.u8_in _ ⟨by omega, by omega⟩
            have HV2 : Hid (lostV rs ps t r = if k3 = 2 then u1 else if k3 = 1 ∧ b3 = true then u4 else u0) := Lib.hid (by rw [HV.out, hP, hk3]; rfl)
            have hk : k3 = 0 ∨ k3 = 1 ∨ k3 = 2 := by omega
            clear hatw hP HV hk3
            rcases hk with hk | hk | hk
            · subst hk
              go_wp2_with fail
              go_meet
              case rel => exact ⟨undef, u0, rfl, (by rw [Hnx.out]; go_num), Lib.hid (by rw [HV2.out]; rfl), hX⟩
            · subst hk
              cases b3 with
              | false =>
                have HV3 : Hid (lostV rs ps t r = u0) := Lib.hid (by rw [HV2.out]; rfl)
                clear HV2
                go_wp2_with fail
                go_meet
                case rel => exact ⟨undef, u0, rfl, (by rw [Hnx.out]; go_num), Lib.hid (HV3.out), hX⟩
              | true =>
                have HV3 : Hid (lostV rs ps t r = u4) := Lib.hid (by rw [HV2.out]; rfl)
                clear HV2
                go_wp2_with fail
                go_meet
                case rel => exact ⟨undef, u4, rfl, (by rw [Hnx.out]; go_num), Lib.hid (HV3.out), hX⟩
            · subst hk
              go_wp2_with fail
              go_meet
              case rel => exact ⟨undef, u1, rfl, (by rw [Hnx.out]; go_num), Lib.hid (by rw [HV2.out]; rfl), hX⟩
          · have hqp' : ¬ (q : Int) < (pl : Int) := by omega
            have HV2 : Hid (lostV rs ps t r = u0) := Lib.hid (by rw [HV.out, List.getD_eq_getElem?_getD, List.getElem?_eq_none (by rw [HPl.out]; omega)]; rfl)
            clear hatw HV
            go_wp2_with fail
            go_meet
            case rel => exact ⟨undef, u0, rfl, (by rw [Hnx.out]; go_num), Lib.hid (HV2.out), hX⟩
      case rest =>
      obtain ⟨_, V, rfl, rfl, HV9, hX9⟩ := hcut
      have c0 := HD2.out.dev hX9.out
      obtain ⟨f0, f1, f2, f3, f4, f5⟩ := HD2.out.get hX9.out hn1
      obtain ⟨z0, z1, z2, z3, z4, z5⟩ := HD2.out.free hX9.out hn1
      have HO3 := Lib.hid (crash_next hX9.out hkl.out Hr.out HV9.out)
      obtain ⟨q2, hq2⟩ : ∃ q, looseR (rs.take (t + 1)) = q := ⟨_, rfl⟩
      have Hq2 := Lib.hid hq2
      rw [hq2]
      clear hX hX9 hn1 HD2 HV9 hq2 y0 y1 y2 y3 y4 hatw HV Hnx
      go_wp2
      go_roundw
      case rel => exact ⟨t + 1, by omega, by go_num, by rw [Hq2.out], HO3⟩
      case measure => simp [intOf]; omega
    · have hlt' : ¬ (t : Int) < (n : Int) := by omega
      obtain rfl : t = n := by omega
      have hfin := Lib.hid hO.out
      clear hO HD2 hq
      go_wp2
      go_end0
      exact ⟨rfl, hfin.out⟩
end Go.Proofs.YtpdofdloclmbdaaGreat
end
