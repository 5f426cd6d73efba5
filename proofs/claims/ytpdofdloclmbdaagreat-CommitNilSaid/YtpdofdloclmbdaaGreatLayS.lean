/- To what a word belongs: the document's own answer, walked. -/
import Derived.Test.YtpdofdloclmbdaaGreatLayR
import Derived.Test.YtpdofdloclmbdaaGreatWhereMath
-- OPTIONAL
namespace Go.Proofs.YtpdofdloclmbdaaGreat
open Go.RowKit Go.Grommet

theorem words_pos {a b c : Int} (h : mayB a b c = true) : wordsV a b c = 280 + 208 * a + 16 * b + 8 * c := by unfold wordsV; rw [if_pos h]
def RWhereIs (v : Int × Int × Int × Int) (w : World) (e : Ending) (w' : World) : Prop := e = .returned (.tuple #[.int .i64 v.1, .int .i64 v.2.1, .int .i64 v.2.2.1, .int .i64 v.2.2.2]) ∧ w.grownBy w' none

set_option maxHeartbeats 2000000 in
theorem RWhere_zero (a b c x : Int) (w : World) (h : ¬ (mayB a b c = true) ∨ x < 0 ∨ 280 + 208 * a + 16 * b + 8 * c ≤ x) : Calls Tryz.prog 99 #[gv a b c, .int .i64 x] w (RWhereIs (0, 0, 0, 0) w) := by
  have H1 := Lib.hid (fun wx => RMay_any a b c wx)
  have H2 := Lib.hid (fun wx => RWords_any a b c wx)
  unfold gv at H1 H2 ⊢
  have hb : (w.alloc (.cells #[.int .i64 a, .int .i64 b, .int .i64 c] 28)).heap[w.heap.size]? = some (.cells #[.int .i64 a, .int .i64 b, .int .i64 c] 28 (0, 0)) := heap_alloc_new w _
  have hg := World.grownBy_alloc w (.cells #[.int .i64 a, .int .i64 b, .int .i64 c] 28) none
  by_cases hm : mayB a b c = true
  · rw [hm] at H1
    rw [words_pos hm] at H2
    obtain ⟨q1, q2, q3, q4, q5, q6⟩ := mayB_yes hm
    by_cases h0 : x < 0
    · clear h hm
      go_enter Tryz.func99, Tryz.ntmps99
      go_wp2_with fail
      refine (H1.out _).mono ?_
      rintro e w1 ⟨rfl, hgx⟩
      have hb := (hgx.block _ (lt_of_block hb) (by simp)).trans hb
      have hg := grown_trans hg hgx
      clear hgx
      have f0 : w1.cell? ⟨w.heap.size, 0, none⟩ = some (.int .i64 a) := by simp [World.cell?, hb]
      have f1 : w1.cell? ⟨w.heap.size, 1, none⟩ = some (.int .i64 b) := by simp [World.cell?, hb]
      have f2 : w1.cell? ⟨w.heap.size, 2, none⟩ = some (.int .i64 c) := by simp [World.cell?, hb]
      go_wp2
      exact bodyPost_ret (v := .tuple #[.int .i64 0, .int .i64 0, .int .i64 0, .int .i64 0]) (by simp [results, Tryz.results99, go_sem]) rfl ⟨rfl, hg⟩
    · have h1 : 280 + 208 * a + 16 * b + 8 * c ≤ x := by
        rcases h with h | h | h
        · exact absurd hm h
        · omega
        · exact h
      have h0' : ¬ x < 0 := h0
      generalize 280 + 208 * a + 16 * b + 8 * c = T at H2 h1
      clear h hm h0
      go_enter Tryz.func99, Tryz.ntmps99
      go_wp2_with fail
      refine (H1.out _).mono ?_
      rintro e w1 ⟨rfl, hgx⟩
      have hb := (hgx.block _ (lt_of_block hb) (by simp)).trans hb
      have hg := grown_trans hg hgx
      clear hgx
      have f0 : w1.cell? ⟨w.heap.size, 0, none⟩ = some (.int .i64 a) := by simp [World.cell?, hb]
      have f1 : w1.cell? ⟨w.heap.size, 1, none⟩ = some (.int .i64 b) := by simp [World.cell?, hb]
      have f2 : w1.cell? ⟨w.heap.size, 2, none⟩ = some (.int .i64 c) := by simp [World.cell?, hb]
      go_wp2_with fail
      refine (H2.out _).mono ?_
      rintro e w2 ⟨rfl, hgx⟩
      have hb := (hgx.block _ (lt_of_block hb) (by simp)).trans hb
      have hg := grown_trans hg hgx
      clear hgx f0 f1 f2
      have f0 : w2.cell? ⟨w.heap.size, 0, none⟩ = some (.int .i64 a) := by simp [World.cell?, hb]
      have f1 : w2.cell? ⟨w.heap.size, 1, none⟩ = some (.int .i64 b) := by simp [World.cell?, hb]
      have f2 : w2.cell? ⟨w.heap.size, 2, none⟩ = some (.int .i64 c) := by simp [World.cell?, hb]
      go_wp2
      exact bodyPost_ret (v := .tuple #[.int .i64 0, .int .i64 0, .int .i64 0, .int .i64 0]) (by simp [results, Tryz.results99, go_sem]) rfl ⟨rfl, hg⟩
  · have hm' : mayB a b c = false := by simpa using hm
    rw [hm'] at H1
    clear h hm hm'
    go_enter Tryz.func99, Tryz.ntmps99
    go_wp2_with fail
    refine (H1.out _).mono ?_
    rintro e w1 ⟨rfl, hgx⟩
    have hb := (hgx.block _ (lt_of_block hb) (by simp)).trans hb
    have hg := grown_trans hg hgx
    clear hgx
    have f0 : w1.cell? ⟨w.heap.size, 0, none⟩ = some (.int .i64 a) := by simp [World.cell?, hb]
    have f1 : w1.cell? ⟨w.heap.size, 1, none⟩ = some (.int .i64 b) := by simp [World.cell?, hb]
    have f2 : w1.cell? ⟨w.heap.size, 2, none⟩ = some (.int .i64 c) := by simp [World.cell?, hb]
    go_wp2
    exact bodyPost_ret (v := .tuple #[.int .i64 0, .int .i64 0, .int .i64 0, .int .i64 0]) (by simp [results, Tryz.results99, go_sem]) rfl ⟨rfl, hg⟩

set_option maxRecDepth 100000 in
set_option maxHeartbeats 16000000 in
theorem RWhere_at (a b c x : Int) (w : World) (hm : mayB a b c = true) (hx0 : 0 ≤ x) (hx1 : x < 280 + 208 * a + 16 * b + 8 * c) : Calls Tryz.prog 99 #[gv a b c, .int .i64 x] w (RWhereIs (whereV a b c x) w) := by
  have H1 := Lib.hid (fun wx => RMay_any a b c wx)
  have H2 := Lib.hid (fun wx => RWords_any a b c wx)
  rw [hm] at H1
  rw [words_pos hm] at H2
  obtain ⟨q1, q2, q3, q4, q5, q6⟩ := mayB_yes hm
  have A1 : Hid (∀ i : Int, 0 ≤ i ∧ i < 4 → ∀ wx, Calls Tryz.prog 120 #[.int .i64 i] wx (IntIs (8 + 64 * i) wx)) := fun i hi wx => by
    have := RSessionAt_any i wx; unfold sessionV at this; rwa [if_pos hi] at this
  have A2 : Hid (∀ i k : Int, 0 ≤ i ∧ i < 4 → 0 ≤ k ∧ k < 4 → ∀ wx, Calls Tryz.prog 118 #[.int .i64 i, .int .i64 k] wx (IntIs (16 + 64 * i + 12 * k) wx)) := fun i k hi hk wx => by
    have := RSlotAt_any i k wx; unfold slotV at this; rwa [if_pos ⟨hi, hk⟩] at this
  have A3 : Hid (∀ i k : Int, 0 ≤ i ∧ i < 4 → 0 ≤ k ∧ k < 4 → ∀ wx, Calls Tryz.prog 119 #[.int .i64 i, .int .i64 k] wx (IntIs (64 + 64 * i + 2 * k) wx)) := fun i k hi hk wx => by
    have := RDescriptorAt_any i k wx; unfold descV at this; rwa [if_pos ⟨hi, hk⟩] at this
  have A4 : Hid (∀ i : Int, 0 ≤ i ∧ i < a → ∀ wx, Calls Tryz.prog 53 #[.agg #[.int .i64 a, .int .i64 b, .int .i64 c], .int .i64 i] wx (IntIs (264 + 208 * i) wx)) := fun i hi wx => by
    have := RAreaAt_any a b c i wx; unfold areaV gv at this; rwa [if_pos ⟨hm, hi⟩] at this
  have A5 := Lib.hid (fun wx => RInodeMapAt_any a b c wx)
  have A7 := Lib.hid (fun wx => RInodeAt_any a b c 0 wx)
  have A8 := Lib.hid (fun wx => RBlockAt_any a b c 0 wx)
  rw [show imapV a b c = 264 + 208 * a from by unfold imapV; rw [if_pos hm]] at A5
  rw [show inodeV a b c 0 = 280 + 208 * a from by unfold inodeV; rw [if_pos ⟨hm, by omega, by omega⟩]; omega] at A7
  rw [show blockV a b c 0 = 280 + 208 * a + 16 * b from by unfold blockV; rw [if_pos ⟨hm, by omega, by omega⟩]; omega] at A8
  unfold gv at H1 H2 A5 A7 A8 ⊢
  have Hm := Lib.hid hm
  have hxt : ¬ 280 + 208 * a + 16 * b + 8 * c ≤ x := by omega
  have hx0' : ¬ x < 0 := by omega
  clear hm
  have hb : (w.alloc (.cells #[.int .i64 a, .int .i64 b, .int .i64 c] 28)).heap[w.heap.size]? = some (.cells #[.int .i64 a, .int .i64 b, .int .i64 c] 28 (0, 0)) := heap_alloc_new w _
  have hg := World.grownBy_alloc w (.cells #[.int .i64 a, .int .i64 b, .int .i64 c] 28) none
  by_cases h8 : x < 8
  · have hv := wh_super Hm.out hx0 h8
    rw [hv]
    clear hv
    go_enter Tryz.func99, Tryz.ntmps99
    go_wp2_with fail
    refine (H1.out _).mono ?_
    rintro e w1 ⟨rfl, hgx⟩
    have hb := (hgx.block _ (lt_of_block hb) (by simp)).trans hb
    have hg := grown_trans hg hgx
    clear hgx
    have f0 : w1.cell? ⟨w.heap.size, 0, none⟩ = some (.int .i64 a) := by simp [World.cell?, hb]
    have f1 : w1.cell? ⟨w.heap.size, 1, none⟩ = some (.int .i64 b) := by simp [World.cell?, hb]
    have f2 : w1.cell? ⟨w.heap.size, 2, none⟩ = some (.int .i64 c) := by simp [World.cell?, hb]
    go_wp2_with fail
    refine (H2.out _).mono ?_
    rintro e w2 ⟨rfl, hgx⟩
    have hb := (hgx.block _ (lt_of_block hb) (by simp)).trans hb
    have hg := grown_trans hg hgx
    clear hgx f0 f1 f2
    have f0 : w2.cell? ⟨w.heap.size, 0, none⟩ = some (.int .i64 a) := by simp [World.cell?, hb]
    have f1 : w2.cell? ⟨w.heap.size, 1, none⟩ = some (.int .i64 b) := by simp [World.cell?, hb]
    have f2 : w2.cell? ⟨w.heap.size, 2, none⟩ = some (.int .i64 c) := by simp [World.cell?, hb]
    go_wp2
    exact bodyPost_ret (v := .tuple #[.int .i64 1, .int .i64 0, .int .i64 0, .int .i64 x]) (by simp [results, Tryz.results99, go_sem]) rfl ⟨rfl, hg⟩
  have h8' : 8 ≤ x := by omega
  go_enter Tryz.func99, Tryz.ntmps99
  go_wp2_with fail
  refine (H1.out _).mono ?_
  rintro e w1 ⟨rfl, hgx⟩
  have hb := (hgx.block _ (lt_of_block hb) (by simp)).trans hb
  have hg := grown_trans hg hgx
  clear hgx
  have f0 : w1.cell? ⟨w.heap.size, 0, none⟩ = some (.int .i64 a) := by simp [World.cell?, hb]
  have f1 : w1.cell? ⟨w.heap.size, 1, none⟩ = some (.int .i64 b) := by simp [World.cell?, hb]
  have f2 : w1.cell? ⟨w.heap.size, 2, none⟩ = some (.int .i64 c) := by simp [World.cell?, hb]
  go_wp2_with fail
  refine (H2.out _).mono ?_
  rintro e w2 ⟨rfl, hgx⟩
  have hb := (hgx.block _ (lt_of_block hb) (by simp)).trans hb
  have hg := grown_trans hg hgx
  clear hgx f0 f1 f2
  go_wp2_with fail
  go_loopw [8] (fun i wr => ∃ k : Nat, k ≤ 4 ∧ i = .int .i64 (k : Int) ∧ 8 + 64 * (k : Int) ≤ x ∧ wr.heap[w.heap.size]? = some (.cells #[.int .i64 a, .int .i64 b, .int .i64 c] 28 (0, 0)) ∧ w.grownBy wr none) (fun i _ => 4 - (intOf i).toNat)
  case atStart => exact ⟨0, by omega, rfl, by omega, hb, hg⟩
  case round =>
    clear hb hg
    obtain ⟨i, hi, rfl, hix, hb, hg⟩ := hrel
    have i0 : (0 : Int) ≤ (i : Int) := by omega
    by_cases hi4 : i < 4
    · have hi4' : (i : Int) < 4 := by omega
      go_wp2_with fail
      go_loopw [9, 10] (fun kk _ wr => ∃ k : Nat, k ≤ 4 ∧ kk = .int .i64 (k : Int) ∧ (x < 16 + 64 * (i : Int) ∨ 16 + 64 * (i : Int) + 12 * (k : Int) ≤ x) ∧ wr.heap[w.heap.size]? = some (.cells #[.int .i64 a, .int .i64 b, .int .i64 c] 28 (0, 0)) ∧ w.grownBy wr none) (fun kk _ _ => 4 - (intOf kk).toNat)
      case atStart => exact ⟨0, by omega, rfl, by omega, hb, hg⟩
      case round =>
        clear hb hg
        obtain ⟨k, hk, rfl, hkx, hb, hg⟩ := hrel
        have k0 : (0 : Int) ≤ (k : Int) := by omega
        by_cases hk4 : k < 4
        · have hk4' : (k : Int) < 4 := by omega
          have hw : IntKind.i64.wrap (x - (16 + 64 * (i : Int) + 12 * (k : Int))) = x - (16 + 64 * (i : Int) + 12 * (k : Int)) := IntWalk.i64_in _ ⟨by omega, by omega⟩
          have B := Lib.hid (A2.out i k ⟨i0, hi4'⟩ ⟨k0, hk4'⟩)
          by_cases hin : 16 + 64 * (i : Int) + 12 * (k : Int) ≤ x
          · by_cases hin2 : x < 16 + 64 * (i : Int) + 12 * (k : Int) + 12
            · have hv := wh_slot Hm.out i k ⟨i0, hi4'⟩ ⟨k0, hk4'⟩ hin hin2
              have HV := Lib.hid hv
              generalize 16 + 64 * (i : Int) + 12 * (k : Int) = s at hw B hin hin2 HV
              have t0 : 0 ≤ x - s := by omega
              have t1 : x - s < 12 := by omega
              clear hv hkx
              go_wp2_with fail
              refine (B.out _).mono ?_
              rintro e w3 ⟨rfl, hgx⟩
              have hg := grown_trans hg hgx
              go_wp2
              rw [HV.out]
              exact bodyPost_ret (v := .tuple #[.int .i64 3, .int .i64 (i : Int), .int .i64 (k : Int), .int .i64 (x - s)]) (by simp [results, Tryz.results99, go_sem]) rfl ⟨rfl, hg⟩
            · have hnew : x < 16 + 64 * (i : Int) ∨ 16 + 64 * (i : Int) + 12 * ((k + 1 : Nat) : Int) ≤ x := by omega
              have HN := Lib.hid hnew
              generalize 16 + 64 * (i : Int) + 12 * (k : Int) = s at hw B hin hin2
              have t0 : 0 ≤ x - s := by omega
              have t1 : decide (x - s < 12) = false := by simp; omega
              clear hnew hkx
              go_wp2_with fail
              refine (B.out _).mono ?_
              rintro e w3 ⟨rfl, hgx⟩
              have hb := (hgx.block _ (lt_of_block hb) (by simp)).trans hb
              have hg := grown_trans hg hgx
              clear hgx
              go_wp2
              go_roundw
              case rel => exact ⟨k + 1, by omega, by go_num, HN.out, hb, hg⟩
              case measure => simp [intOf]; omega
          · have hnew : x < 16 + 64 * (i : Int) ∨ 16 + 64 * (i : Int) + 12 * ((k + 1 : Nat) : Int) ≤ x := by omega
            have HN := Lib.hid hnew
            generalize 16 + 64 * (i : Int) + 12 * (k : Int) = s at hw B hin
            have t0 : decide (0 ≤ x - s) = false := by simp; omega
            clear hnew hkx
            go_wp2_with fail
            refine (B.out _).mono ?_
            rintro e w3 ⟨rfl, hgx⟩
            have hb := (hgx.block _ (lt_of_block hb) (by simp)).trans hb
            have hg := grown_trans hg hgx
            clear hgx
            go_wp2
            go_roundw
            case rel => exact ⟨k + 1, by omega, by go_num, HN.out, hb, hg⟩
            case measure => simp [intOf]; omega
        · have hk4' : ¬ (k : Int) < 4 := by omega
          have HKx := Lib.hid (show x < 16 + 64 * (i : Int) ∨ 64 + 64 * (i : Int) ≤ x by omega)
          clear hk hkx
          go_wp2_with fail
          go_loopw [11, 12] (fun kk _ wr => ∃ k : Nat, k ≤ 4 ∧ kk = .int .i64 (k : Int) ∧ (x < 64 + 64 * (i : Int) ∨ 64 + 64 * (i : Int) + 2 * (k : Int) ≤ x) ∧ wr.heap[w.heap.size]? = some (.cells #[.int .i64 a, .int .i64 b, .int .i64 c] 28 (0, 0)) ∧ w.grownBy wr none) (fun kk _ _ => 4 - (intOf kk).toNat)
          case atStart => exact ⟨0, by omega, rfl, by omega, hb, hg⟩
          case round =>
            clear hb hg
            obtain ⟨l, hl, rfl, hlx, hb, hg⟩ := hrel
            have l0 : (0 : Int) ≤ (l : Int) := by omega
            by_cases hl4 : l < 4
            · have hl4' : (l : Int) < 4 := by omega
              have hw : IntKind.i64.wrap (x - (64 + 64 * (i : Int) + 2 * (l : Int))) = x - (64 + 64 * (i : Int) + 2 * (l : Int)) := IntWalk.i64_in _ ⟨by omega, by omega⟩
              have B := Lib.hid (A3.out i l ⟨i0, hi4'⟩ ⟨l0, hl4'⟩)
              by_cases hin : 64 + 64 * (i : Int) + 2 * (l : Int) ≤ x
              · by_cases hin2 : x < 64 + 64 * (i : Int) + 2 * (l : Int) + 2
                · have hv := wh_desc Hm.out i l ⟨i0, hi4'⟩ ⟨l0, hl4'⟩ hin hin2
                  have HV := Lib.hid hv
                  generalize 64 + 64 * (i : Int) + 2 * (l : Int) = s at hw B hin hin2 HV
                  have t0 : 0 ≤ x - s := by omega
                  have t1 : x - s < 2 := by omega
                  clear hv hlx
                  go_wp2_with fail
                  refine (B.out _).mono ?_
                  rintro e w3 ⟨rfl, hgx⟩
                  have hg := grown_trans hg hgx
                  go_wp2
                  rw [HV.out]
                  exact bodyPost_ret (v := .tuple #[.int .i64 4, .int .i64 (i : Int), .int .i64 (l : Int), .int .i64 (x - s)]) (by simp [results, Tryz.results99, go_sem]) rfl ⟨rfl, hg⟩
                · have hnew : x < 64 + 64 * (i : Int) ∨ 64 + 64 * (i : Int) + 2 * ((l + 1 : Nat) : Int) ≤ x := by omega
                  have HN := Lib.hid hnew
                  generalize 64 + 64 * (i : Int) + 2 * (l : Int) = s at hw B hin hin2
                  have t0 : 0 ≤ x - s := by omega
                  have t1 : decide (x - s < 2) = false := by simp; omega
                  clear hnew hlx
                  go_wp2_with fail
                  refine (B.out _).mono ?_
                  rintro e w3 ⟨rfl, hgx⟩
                  have hb := (hgx.block _ (lt_of_block hb) (by simp)).trans hb
                  have hg := grown_trans hg hgx
                  clear hgx
                  go_wp2
                  go_roundw
                  case rel => exact ⟨l + 1, by omega, by go_num, HN.out, hb, hg⟩
                  case measure => simp [intOf]; omega
              · have hnew : x < 64 + 64 * (i : Int) ∨ 64 + 64 * (i : Int) + 2 * ((l + 1 : Nat) : Int) ≤ x := by omega
                have HN := Lib.hid hnew
                generalize 64 + 64 * (i : Int) + 2 * (l : Int) = s at hw B hin
                have t0 : decide (0 ≤ x - s) = false := by simp; omega
                clear hnew hlx
                go_wp2_with fail
                refine (B.out _).mono ?_
                rintro e w3 ⟨rfl, hgx⟩
                have hb := (hgx.block _ (lt_of_block hb) (by simp)).trans hb
                have hg := grown_trans hg hgx
                clear hgx
                go_wp2
                go_roundw
                case rel => exact ⟨l + 1, by omega, by go_num, HN.out, hb, hg⟩
                case measure => simp [intOf]; omega
            · have hl4' : ¬ (l : Int) < 4 := by omega
              have hor : x < 16 + 64 * (i : Int) ∨ 72 + 64 * (i : Int) ≤ x := by have := HKx.out; omega
              have hw : IntKind.i64.wrap (x - (8 + 64 * (i : Int))) = x - (8 + 64 * (i : Int)) := IntWalk.i64_in _ ⟨by omega, by omega⟩
              have B := Lib.hid (A1.out i ⟨i0, hi4'⟩)
              clear hl hlx
              by_cases hin : x < 16 + 64 * (i : Int)
              · have hv := wh_head Hm.out i ⟨i0, hi4'⟩ hix hin
                have HV := Lib.hid hv
                have t0 : 0 ≤ x - (8 + 64 * (i : Int)) := by omega
                have t1 : x - (8 + 64 * (i : Int)) < 64 := by omega
                generalize 8 + 64 * (i : Int) = s at hw B HV t0 t1 hix
                clear hv hor
                go_wp2_with fail
                refine (B.out _).mono ?_
                rintro e w3 ⟨rfl, hgx⟩
                have hg := grown_trans hg hgx
                go_wp2
                rw [HV.out]
                exact bodyPost_ret (v := .tuple #[.int .i64 2, .int .i64 (i : Int), .int .i64 0, .int .i64 (x - s)]) (by simp [results, Tryz.results99, go_sem]) rfl ⟨rfl, hg⟩
              · have HN := Lib.hid (show 8 + 64 * ((i + 1 : Nat) : Int) ≤ x by omega)
                have t0 : 0 ≤ x - (8 + 64 * (i : Int)) := by omega
                have t1 : decide (x - (8 + 64 * (i : Int)) < 64) = false := by simp; omega
                generalize 8 + 64 * (i : Int) = s at hw B t0 t1 hix
                clear hor hin
                go_wp2_with fail
                refine (B.out _).mono ?_
                rintro e w3 ⟨rfl, hgx⟩
                have hb := (hgx.block _ (lt_of_block hb) (by simp)).trans hb
                have hg := grown_trans hg hgx
                clear hgx
                go_wp2
                go_roundw
                case rel => exact ⟨i + 1, by omega, by go_num, HN.out, hb, hg⟩
                case measure => simp [intOf]; omega
    · have hi4' : ¬ (i : Int) < 4 := by omega
      have h264 : 264 ≤ x := by omega
      clear hi hix
      have f0 : wr.cell? ⟨w.heap.size, 0, none⟩ = some (.int .i64 a) := by simp [World.cell?, hb]
      have f1 : wr.cell? ⟨w.heap.size, 1, none⟩ = some (.int .i64 b) := by simp [World.cell?, hb]
      have f2 : wr.cell? ⟨w.heap.size, 2, none⟩ = some (.int .i64 c) := by simp [World.cell?, hb]
      go_wp2_with fail
      go_loopw [14, 15] (fun kk _ wr => ∃ k : Nat, (k : Int) ≤ a ∧ kk = .int .i64 (k : Int) ∧ 264 + 208 * (k : Int) ≤ x ∧ wr.heap[w.heap.size]? = some (.cells #[.int .i64 a, .int .i64 b, .int .i64 c] 28 (0, 0)) ∧ w.grownBy wr none) (fun kk _ _ => a.toNat - (intOf kk).toNat)
      case atStart => exact ⟨0, by omega, rfl, by omega, hb, hg⟩
      case round =>
        clear hb hg f0 f1 f2
        obtain ⟨k, hk, rfl, hkx, hb, hg⟩ := hrel
        have k0 : (0 : Int) ≤ (k : Int) := by omega
        have f0 : wr.cell? ⟨w.heap.size, 0, none⟩ = some (.int .i64 a) := by simp [World.cell?, hb]
        have f1 : wr.cell? ⟨w.heap.size, 1, none⟩ = some (.int .i64 b) := by simp [World.cell?, hb]
        have f2 : wr.cell? ⟨w.heap.size, 2, none⟩ = some (.int .i64 c) := by simp [World.cell?, hb]
        by_cases hka : (k : Int) < a
        · have hw : IntKind.i64.wrap (x - (264 + 208 * (k : Int))) = x - (264 + 208 * (k : Int)) := IntWalk.i64_in _ ⟨by omega, by omega⟩
          have B := Lib.hid (A4.out k ⟨k0, hka⟩)
          by_cases hin : x < 264 + 208 * (k : Int) + 208
          · have hv := wh_area Hm.out k ⟨k0, hka⟩ hkx hin
            have HV := Lib.hid hv
            have t0 : 0 ≤ x - (264 + 208 * (k : Int)) := by omega
            have t1 : x - (264 + 208 * (k : Int)) < 208 := by omega
            generalize 264 + 208 * (k : Int) = s at hw B HV t0 t1 hkx
            clear hv hin
            go_wp2_with fail
            refine (B.out _).mono ?_
            rintro e w3 ⟨rfl, hgx⟩
            have hg := grown_trans hg hgx
            go_wp2
            rw [HV.out]
            exact bodyPost_ret (v := .tuple #[.int .i64 5, .int .i64 (k : Int), .int .i64 0, .int .i64 (x - s)]) (by simp [results, Tryz.results99, go_sem]) rfl ⟨rfl, hg⟩
          · have HN := Lib.hid (show 264 + 208 * ((k + 1 : Nat) : Int) ≤ x by omega)
            have t0 : 0 ≤ x - (264 + 208 * (k : Int)) := by omega
            have t1 : decide (x - (264 + 208 * (k : Int)) < 208) = false := by simp; omega
            generalize 264 + 208 * (k : Int) = s at hw B t0 t1 hkx
            clear hin
            go_wp2_with fail
            refine (B.out _).mono ?_
            rintro e w3 ⟨rfl, hgx⟩
            have hb := (hgx.block _ (lt_of_block hb) (by simp)).trans hb
            have hg := grown_trans hg hgx
            clear hgx f0 f1 f2
            go_wp2
            go_roundw
            case rel => exact ⟨k + 1, by omega, by go_num, HN.out, hb, hg⟩
            case measure => simp [intOf]; omega
        · have hax : 264 + 208 * a ≤ x := by omega
          have hw : IntKind.i64.wrap (x - (264 + 208 * a)) = x - (264 + 208 * a) := IntWalk.i64_in _ ⟨by omega, by omega⟩
          clear hk hkx
          by_cases h6 : x < 272 + 208 * a
          · have hv := wh_imap Hm.out hax h6
            have HV := Lib.hid hv
            have t1 : x - (264 + 208 * a) < 8 := by omega
            generalize 264 + 208 * a = s at hw A5 HV t1 hax
            clear hv
            go_wp2_with fail
            refine (A5.out _).mono ?_
            rintro e w3 ⟨rfl, hgx⟩
            have hb := (hgx.block _ (lt_of_block hb) (by simp)).trans hb
            have hg := grown_trans hg hgx
            clear hgx f0 f1 f2
            go_wp2
            rw [HV.out]
            exact bodyPost_ret (v := .tuple #[.int .i64 6, .int .i64 0, .int .i64 0, .int .i64 (x - s)]) (by simp [results, Tryz.results99, go_sem]) rfl ⟨rfl, hg⟩
          by_cases h7 : x < 280 + 208 * a
          · have hv := wh_bmap Hm.out (by omega) h7
            have HV := Lib.hid hv
            have t0 : ¬ x - (264 + 208 * a) < 8 := by omega
            have t1 : x - (264 + 208 * a) < 16 := by omega
            have hw2 : IntKind.i64.wrap (x - (264 + 208 * a) - 8) = x - (264 + 208 * a) - 8 := IntWalk.i64_in _ ⟨by omega, by omega⟩
            generalize 264 + 208 * a = s at hw hw2 A5 HV t0 t1 hax
            clear hv
            go_wp2_with fail
            refine (A5.out _).mono ?_
            rintro e w3 ⟨rfl, hgx⟩
            have hb := (hgx.block _ (lt_of_block hb) (by simp)).trans hb
            have hg := grown_trans hg hgx
            clear hgx f0 f1 f2
            go_wp2
            rw [HV.out]
            exact bodyPost_ret (v := .tuple #[.int .i64 7, .int .i64 0, .int .i64 0, .int .i64 (x - s - 8)]) (by simp [results, Tryz.results99, go_sem]) rfl ⟨rfl, hg⟩
          have u0 : ¬ x - (264 + 208 * a) < 8 := by omega
          have u1 : ¬ x - (264 + 208 * a) < 16 := by omega
          have hw3 : IntKind.i64.wrap (x - (280 + 208 * a)) = x - (280 + 208 * a) := IntWalk.i64_in _ ⟨by omega, by omega⟩
          have hw4 : IntKind.i64.wrap (16 * b) = 16 * b := IntWalk.i64_in _ ⟨by omega, by omega⟩
          have u2 : 0 ≤ x - (280 + 208 * a) := by omega
          by_cases h9 : x < 280 + 208 * a + 16 * b
          · have hv := wh_inode Hm.out (by omega) h9
            have HV := Lib.hid hv
            have t1 : x - (280 + 208 * a) < 16 * b := by omega
            have t2 : x - (280 + 208 * a) ≤ 2000 := by omega
            generalize 264 + 208 * a = s at hw A5 u0 u1
            generalize 280 + 208 * a = r at hw3 A7 HV t1 t2 u2
            clear hv hax h6 h7 h9 hx1 hxt
            go_wp2_with fail
            refine (A5.out _).mono ?_
            rintro e w3 ⟨rfl, hgx⟩
            have hb := (hgx.block _ (lt_of_block hb) (by simp)).trans hb
            have hg := grown_trans hg hgx
            clear hgx f0 f1 f2
            have f0 : w3.cell? ⟨w.heap.size, 0, none⟩ = some (.int .i64 a) := by simp [World.cell?, hb]
            have f1 : w3.cell? ⟨w.heap.size, 1, none⟩ = some (.int .i64 b) := by simp [World.cell?, hb]
            have f2 : w3.cell? ⟨w.heap.size, 2, none⟩ = some (.int .i64 c) := by simp [World.cell?, hb]
            go_wp2_with fail
            refine (A7.out _).mono ?_
            rintro e w4 ⟨rfl, hgx⟩
            have hb := (hgx.block _ (lt_of_block hb) (by simp)).trans hb
            have hg := grown_trans hg hgx
            clear hgx f0 f1 f2
            have f0 : w4.cell? ⟨w.heap.size, 0, none⟩ = some (.int .i64 a) := by simp [World.cell?, hb]
            have f1 : w4.cell? ⟨w.heap.size, 1, none⟩ = some (.int .i64 b) := by simp [World.cell?, hb]
            have f2 : w4.cell? ⟨w.heap.size, 2, none⟩ = some (.int .i64 c) := by simp [World.cell?, hb]
            go_wp2
            rw [HV.out]
            exact bodyPost_ret (v := .tuple #[.int .i64 8, .int .i64 ((x - r) / 16), .int .i64 0, .int .i64 ((x - r) % 16)]) (by simp [results, Tryz.results99, go_sem]) rfl ⟨rfl, hg⟩
          · have hv := wh_block Hm.out (by omega) hx1
            have HV := Lib.hid hv
            have t1 : ¬ x - (280 + 208 * a) < 16 * b := by omega
            have hw5 : IntKind.i64.wrap (x - (280 + 208 * a + 16 * b)) = x - (280 + 208 * a + 16 * b) := IntWalk.i64_in _ ⟨by omega, by omega⟩
            have t2 : 0 ≤ x - (280 + 208 * a + 16 * b) := by omega
            have t3 : x - (280 + 208 * a + 16 * b) ≤ 5000 := by omega
            generalize 264 + 208 * a = s at hw A5 u0 u1
            generalize 280 + 208 * a + 16 * b = v at hw5 A8 HV t2 t3
            generalize 280 + 208 * a = r at hw3 A7 t1 u2
            clear hv hax h6 h7 h9 hx1 hxt
            go_wp2_with fail
            refine (A5.out _).mono ?_
            rintro e w3 ⟨rfl, hgx⟩
            have hb := (hgx.block _ (lt_of_block hb) (by simp)).trans hb
            have hg := grown_trans hg hgx
            clear hgx f0 f1 f2
            have f0 : w3.cell? ⟨w.heap.size, 0, none⟩ = some (.int .i64 a) := by simp [World.cell?, hb]
            have f1 : w3.cell? ⟨w.heap.size, 1, none⟩ = some (.int .i64 b) := by simp [World.cell?, hb]
            have f2 : w3.cell? ⟨w.heap.size, 2, none⟩ = some (.int .i64 c) := by simp [World.cell?, hb]
            go_wp2_with fail
            refine (A7.out _).mono ?_
            rintro e w4 ⟨rfl, hgx⟩
            have hb := (hgx.block _ (lt_of_block hb) (by simp)).trans hb
            have hg := grown_trans hg hgx
            clear hgx f0 f1 f2
            have f0 : w4.cell? ⟨w.heap.size, 0, none⟩ = some (.int .i64 a) := by simp [World.cell?, hb]
            have f1 : w4.cell? ⟨w.heap.size, 1, none⟩ = some (.int .i64 b) := by simp [World.cell?, hb]
            have f2 : w4.cell? ⟨w.heap.size, 2, none⟩ = some (.int .i64 c) := by simp [World.cell?, hb]
            go_wp2_with fail
            refine (A8.out _).mono ?_
            rintro e w5 ⟨rfl, hgx⟩
            have hb := (hgx.block _ (lt_of_block hb) (by simp)).trans hb
            have hg := grown_trans hg hgx
            clear hgx f0 f1 f2
            have f0 : w5.cell? ⟨w.heap.size, 0, none⟩ = some (.int .i64 a) := by simp [World.cell?, hb]
            have f1 : w5.cell? ⟨w.heap.size, 1, none⟩ = some (.int .i64 b) := by simp [World.cell?, hb]
            have f2 : w5.cell? ⟨w.heap.size, 2, none⟩ = some (.int .i64 c) := by simp [World.cell?, hb]
            go_wp2
            rw [HV.out]
            exact bodyPost_ret (v := .tuple #[.int .i64 9, .int .i64 ((x - v) / 8), .int .i64 0, .int .i64 ((x - v) % 8)]) (by simp [results, Tryz.results99, go_sem]) rfl ⟨rfl, hg⟩

theorem RWhere_any (a b c x : Int) (w : World) : Calls Tryz.prog 99 #[gv a b c, .int .i64 x] w (RWhereIs (whereV a b c x) w) := by
  by_cases h : ¬ (mayB a b c = true) ∨ x < 0 ∨ 280 + 208 * a + 16 * b + 8 * c ≤ x
  · rw [wh_zero h]; exact RWhere_zero a b c x w h
  · have hm : mayB a b c = true := by
      by_cases hm : mayB a b c = true
      · exact hm
      · exact absurd (Or.inl hm) h
    have h0 : 0 ≤ x := by
      by_cases h0 : x < 0
      · exact absurd (Or.inr (Or.inl h0)) h
      · omega
    have h1 : x < 280 + 208 * a + 16 * b + 8 * c := by
      by_cases h1 : 280 + 208 * a + 16 * b + 8 * c ≤ x
      · exact absurd (Or.inr (Or.inr h1)) h
      · omega
    exact RWhere_at a b c x w hm h0 h1
end Go.Proofs.YtpdofdloclmbdaaGreat
