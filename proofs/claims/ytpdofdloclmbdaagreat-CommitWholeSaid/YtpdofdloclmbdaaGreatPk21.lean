/- Texts of ours, packed. -/
import Derived.BigQuiet
import Derived.Deep.QuietTactic
import Derived.StillTailTactics
import Derived.Deep.DeepCutAuto
import Derived.Test.YtpdofdloclmbdaaGreatPk20
section
/- New devices; what is refused; few. -/
-- OPTIONAL
-- OPTIONAL
namespace Go.Proofs.YtpdofdloclmbdaaGreat
open Go.RowKit Go.Grommet Go.Shelf

theorem flatR_zero (n : Nat) : (madeCells #[Value.int .u64 0, .int .u64 0, .bool false, .bool false, .int .u64 0, .bool false] (n * 6)).toList = pm_flatR (List.replicate n RW.nought) := by
  apply List.ext_getElem?
  intro i
  by_cases hi : i < n * 6
  · have hw : (List.replicate n RW.nought)[i / 6]? = some RW.nought := by rw [List.getElem?_replicate, if_pos (by omega)]
    have h1 := flatR_get (List.replicate n RW.nought) (i / 6) (i % 6) RW.nought hw (Nat.mod_lt _ (by decide))
    rw [show i / 6 * 6 + i % 6 = i from by omega] at h1
    rw [h1, Array.getElem?_toList]
    have hm : i % 6 = 0 ∨ i % 6 = 1 ∨ i % 6 = 2 ∨ i % 6 = 3 ∨ i % 6 = 4 ∨ i % 6 = 5 := by omega
    simp only [madeCells, Array.getElem?_map, Array.getElem?_range, hi, if_true, Option.map_some]
    rcases hm with e | e | e | e | e | e <;> simp [e, RW.vs, RW.nought]
  · rw [List.getElem?_eq_none (by rw [Array.length_toList, size_madeCells]; omega), List.getElem?_eq_none (by rw [flatR_len, List.length_replicate]; omega)]
theorem wordsRT : Tryz.prog.underlying 100 = some (.slice 133) := Tryz.underlying100
theorem infoRW : (Tryz.prog.info? 133).map (fun i => (i.zero, i.size, i.bytes)) = some (some (.agg #[.int .u64 0, .int .u64 0, .bool false, .bool false, .int .u64 0, .bool false]), 6, 40) := by kernel_rfl

def NewR (n : Nat) (w0 : World) (Ps : List Pr) (e : Ending) (w' : World) : Prop := ∃ d g, e = .returned (.tuple #[ptr d, .int .i64 0]) ∧ Grommet.Own w0 w' (Ps ++ [rowR g n (List.replicate n RW.nought), boxR d g n])
set_option maxHeartbeats 1000000 in
theorem RNew_yes (n : Nat) (w0 w : World) (Ps : List Pr) (h : Grommet.Own w0 w Ps) (h8 : 8 ≤ n) (hm : n ≤ 65536) (hd : n % 8 = 0) :
    Calls Tryz.prog 47 #[.int .i64 (n : Int)] w (NewR n w0 Ps) := by
  obtain ⟨i0, hi0, hz0, hz1, hz2⟩ := info_parts infoRW
  have hmk : ∀ w', (Instr.makeSlice 100 (.int .i64 (n : Int)) (.int .i64 (n : Int))).run Tryz.prog w' = .ok (.slice (some ⟨w'.heap.size, 0, none⟩) n n) (w'.alloc (.cells (pm_flatR (List.replicate n RW.nought)).toArray 133)) := by
    intro w'
    have := run_make (P := Tryz.prog) w' 100 133 i0 _ wordsRT hi0 hz0 .i64 .i64 n n (by omega) (Int.le_refl _) (by rw [hz2]; omega) (by omega)
    rw [hz1] at this
    rw [this]
    have hc : (madeCells (Value.cells (.agg #[.int .u64 0, .int .u64 0, .bool false, .bool false, .int .u64 0, .bool false])) ((n : Int).toNat * 6)) = (pm_flatR (List.replicate n RW.nought)).toArray := by
      apply Array.toList_inj.1
      rw [← flatR_zero n]
      rfl
    rw [hc]
    rfl
  have hrem : Int.tmod (n : Int) 8 = 0 := by rw [Int.tmod_eq_emod_of_nonneg (by omega)]; omega
  have hrem2 : (n : Int) % 8 = 0 := by omega
  have l1 : ¬ (n : Int) < 8 := by omega
  have l2 : ¬ (65536 : Int) < (n : Int) := by omega
  have l3 : (8 : Int) ≤ (n : Int) := by omega
  have l4 : (n : Int) ≤ 65536 := by omega
  have hw0 : IntKind.i64.wrap 0 = 0 := by decide
  have hfin : Hid (Grommet.Own w0 ((w.alloc (.cells (pm_flatR (List.replicate n RW.nought)).toArray 133)).alloc (.cells #[.slice (some ⟨w.heap.size, 0, none⟩) n n] 102)) (Ps ++ [rowR w.heap.size n (List.replicate n RW.nought), boxR (w.heap.size + 1) w.heap.size n])) := Lib.hid (by
    have r1 := heap_alloc_new w (.cells (pm_flatR (List.replicate n RW.nought)).toArray 133)
    have hl : (pm_flatR (List.replicate n RW.nought)).length = 6 * n := by rw [flatR_len, List.length_replicate]
    have hrow : (w.alloc (.cells (pm_flatR (List.replicate n RW.nought)).toArray 133)).ownsRow w.heap.size 133 6 (.slice (some ⟨w.heap.size, 0, none⟩) n n) n (pm_flatR (List.replicate n RW.nought)) :=
      ⟨by rw [hl, Nat.mul_comm], .inr ⟨w.heap.size, n, _, rfl, Nat.le_refl _, r1, Nat.le_refl _, by unfold maxLen; omega, by simp [hl, Nat.mul_comm], by rw [List.take_of_length_le (by simp [hl]; omega)]⟩⟩
    have h1 := h.addRow hrow (World.grownBy_alloc _ _ none)
    have h2 := h1.addBox 102 #[.slice (some ⟨w.heap.size, 0, none⟩) n n]
    rw [List.append_assoc] at h2
    rw [show (w.alloc (.cells (pm_flatR (List.replicate n RW.nought)).toArray 133)).heap.size = w.heap.size + 1 by simp] at h2
    exact h2)
  clear h hd h8 hm
  go_enter Tryz.func47, Tryz.ntmps47
  go_wp2
  go_ret2
  exact ⟨_, _, rfl, hfin.out⟩
end Go.Proofs.YtpdofdloclmbdaaGreat
end
section
/- The document's device: whole lines, and all of it. -/
-- OPTIONAL
-- OPTIONAL
namespace Go.Proofs.YtpdofdloclmbdaaGreat
open Go.RowKit Go.Grommet Go.Shelf

set_option maxRecDepth 100000 in
set_option maxHeartbeats 4000000 in
theorem REvict_ok (kd kr d g n : Nat) (rs : List RW) (i : Nat) (hi : i < n / 8) (w0 w : World) (Ps : List Pr) (h : Grommet.Own w0 w Ps) (hD : RD Ps kd kr d g n rs) :
    Calls Tryz.prog 20 #[ptr d, .int .i64 (i : Int)] w fun e w' => e = .returned (.int .i64 0) ∧ Grommet.Own w0 w' (Ps.set kr (rowR g n (rturn RW.evict (8 * i) 8 rs))) := by
  have HL := Lib.hid (Rline_any kd kr d g n rs (i : Int) true (by simp; omega) w0 w Ps h hD)
  have hne := hD.apart h (by omega)
  have hne' : g ≠ d := fun e => hne e.symm
  have HD := Lib.hid hD
  have hf := hD.few
  have hkl := Lib.hid (List.getElem?_eq_some_iff.1 hD.row).1
  obtain ⟨B, hB⟩ : ∃ B, 8 * i = B := ⟨_, rfl⟩
  obtain ⟨E, hE⟩ : ∃ E, B + 8 = E := ⟨_, rfl⟩
  have hEn : E ≤ n := by omega
  have e1 : 8 * (i : Int) = (B : Int) := by omega
  have w1' : IntKind.i64.wrap (8 * (i : Int)) = (B : Int) := by rw [IntWalk.i64_in _ ⟨by omega, by omega⟩]; omega
  have w2' : IntKind.i64.wrap ((B : Int) + 8) = (E : Int) := by rw [IntWalk.i64_in _ ⟨by omega, by omega⟩]; omega
  have wB : IntKind.i64.wrap (B : Int) = (B : Int) := IntWalk.i64_in _ ⟨by omega, by omega⟩
  have h0 : Hid (Grommet.Own w0 w (Ps.set kr (rowR g n (rturn RW.evict B 0 rs)))) := Lib.hid (by
    have : Ps.set kr (rowR g n rs) = Ps := by
      apply List.ext_getElem?
      intro x
      by_cases hx : x = kr
      · subst hx; rw [List.getElem?_set_self hkl.out, hD.row]
      · rw [List.getElem?_set_ne (fun e => hx e.symm)]
    show Grommet.Own w0 w (Ps.set kr (rowR g n rs))
    rw [this]; exact h)
  rw [hB]
  unfold ptr at HL ⊢
  clear h hD hi hB
  go_enter Tryz.func20, Tryz.ntmps20
  go_wp2_with fail
  refine HL.out.mono ?_
  rintro e w1 ⟨rfl, rfl⟩
  clear HL
  go_wp2_with fail
  go_loopw [5] (fun s wr => ∃ t m : Nat, Hid (B + m = t) ∧ m ≤ 8 ∧ s = .int .i64 (t : Int) ∧ Hid (Grommet.Own w0 wr (Ps.set kr (rowR g n (rturn RW.evict B m rs))))) (fun s _ => E - (intOf s).toNat)
  case atStart => exact ⟨B, 0, Lib.hid rfl, Nat.zero_le _, rfl, h0⟩
  case round =>
    clear h0
    obtain ⟨t, m, ht, hm, rfl, hO⟩ := hrel
    have HD2 : Hid (RD (Ps.set kr (rowR g n (rturn RW.evict B m rs))) kd kr d g n (rturn RW.evict B m rs)) := Lib.hid (HD.out.set (by rw [rturn_len]; exact HD.out.len) (rturn_small (fun c => revict_small) B rs HD.out.small m))
    have c0 := HD2.out.dev hO.out
    have t0 : (0 : Int) ≤ (t : Int) := by omega
    by_cases hlt : t < E
    · have hlt' : (t : Int) < (E : Int) := by omega
      have hm8 : m < 8 := by have := ht.out; omega
      have htn : t < rs.length := by rw [HD.out.len]; omega
      have tn : (t : Int) < (n : Int) := by have := HD.out.len; omega
      have wt : IntKind.i64.wrap ((t : Int) + 1) = (t : Int) + 1 := IntWalk.i64_in _ ⟨by omega, by omega⟩
      obtain ⟨r, hr⟩ : ∃ r, rs[t]? = some r := ⟨rs[t], List.getElem?_eq_getElem htn⟩
      obtain ⟨hn1, hn2⟩ := rturn_next (f := RW.evict) (a := B) (m := m) (by rw [ht.out]; exact hr)
      rw [ht.out] at hn1 hn2
      obtain ⟨f0, f1, f2, f3, f4, f5⟩ := HD2.out.get hO.out hn1
      obtain ⟨z0, z1, z2, z3, z4, z5⟩ := HD2.out.free hO.out hn1
      have hrow := HD2.out.row
      have hl1 := (List.getElem?_eq_some_iff.1 hn1).1
      have hkl1 := (List.getElem?_eq_some_iff.1 hrow).1
      cases hlo : r.loose with
      | true =>
        rw [hlo] at f2
        obtain ⟨u, hu⟩ : ∃ u, r.seen = u := ⟨_, rfl⟩
        have HO3 := Lib.hid (evict_next hO.out hkl.out hr ht.out hlo hu)
        rw [hu] at f1
        clear hO hrow hl1 hkl1 hn1 hn2 hr HD2 hlo hu
        go_wp2_with fail
        go_still_tail 23, (by kernel_rfl)
        change wpList _ _ _ _ _ wr.drew
        go_wp2
        go_roundw
        case rel => exact ⟨t + 1, m + 1, Lib.hid (by have := ht.out; omega), by omega, by go_num, HO3⟩
        case measure => simp [intOf]; omega
      | false =>
        rw [hlo] at f2
        have hfr : RW.evict r = r := by unfold RW.evict; rw [hlo]; rfl
        rw [hfr, set_sameR hn1] at hn2
        have HO2 : Hid (Grommet.Own w0 wr (Ps.set kr (rowR g n (rturn RW.evict B (m + 1) rs)))) := Lib.hid (by rw [hn2]; exact hO.out)
        clear hO hrow hl1 hkl1 hn1 hn2 hfr hr HD2
        go_wp2
        go_roundw
        case rel => exact ⟨t + 1, m + 1, Lib.hid (by have := ht.out; omega), by omega, by go_num, HO2⟩
        case measure => simp [intOf]; omega
    · as_aux_lemma =>
      have hlt' : ¬ (t : Int) < (E : Int) := by omega
      have hm8 : m = 8 := by have := ht.out; omega
      subst hm8
      have hfin := Lib.hid hO.out
      clear hO HD2
      go_wp2
      go_ret
      exact ⟨rfl, hfin.out⟩
end Go.Proofs.YtpdofdloclmbdaaGreat
end
