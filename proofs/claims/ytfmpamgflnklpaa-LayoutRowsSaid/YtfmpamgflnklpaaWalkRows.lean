/- LayoutRows, walked. -/
import Derived.Test.YtfmpamgflnklpaaSmall
namespace Go.Proofs.Ytfmpamgflnklpaa.layoutRows
open Go.RowKit Go.Grommet

set_option maxRecDepth 100000 in
set_option maxHeartbeats 16000000 in
theorem walk_at (x y z : Nat) (hx : x < 65536) (hy : y < 65536) (hz : z < 65536) (w : World) : Calls Try.prog 7 #[.int .u16 (x : Int), .int .u16 (y : Int), .int .u16 (z : Int)] w (WorksIs w) := by
  have HS := Lib.hid (fun wx => small_any x y z hx hy hz wx)
  have h := small_may x y z
  unfold gv at HS
  obtain ⟨a, Ha⟩ : ∃ a : Nat, a = 1 + x % 4 := ⟨_, rfl⟩
  obtain ⟨b, Hb⟩ : ∃ b : Nat, b = 2 + y % 63 := ⟨_, rfl⟩
  obtain ⟨c, Hc⟩ : ∃ c : Nat, c = 2 + z % 511 := ⟨_, rfl⟩
  rw [← Ha, ← Hb, ← Hc] at HS h
  clear Ha Hb Hc
  obtain ⟨q1, q2, q3, q4, q5, q6⟩ := mayB_yes h
  have A1 : Hid (∀ i : Nat, i < 4 → ∀ wx, Calls Try.prog 14 #[.int .i64 (i : Int)] wx (IntIs (8 + 64 * (i : Int)) wx)) := fun i hi wx => by
    have := SessionAt_any i wx; unfold sessionV at this; rwa [if_pos (by omega)] at this
  have A2 : Hid (∀ i k : Nat, i < 4 → k < 4 → ∀ wx, Calls Try.prog 16 #[.int .i64 (i : Int), .int .i64 (k : Int)] wx (IntIs (16 + 64 * (i : Int) + 12 * (k : Int)) wx)) := fun i k hi hk wx => by
    have := SlotAt_any i k wx; unfold slotV at this; rwa [if_pos (by omega)] at this
  have A3 : Hid (∀ i k : Nat, i < 4 → k < 4 → ∀ wx, Calls Try.prog 18 #[.int .i64 (i : Int), .int .i64 (k : Int)] wx (IntIs (64 + 64 * (i : Int) + 2 * (k : Int)) wx)) := fun i k hi hk wx => by
    have := DescriptorAt_any i k wx; unfold descV at this; rwa [if_pos (by omega)] at this
  have A4 : Hid (∀ i : Nat, i < a → ∀ wx, Calls Try.prog 20 #[.agg #[.int .i64 (a : Int), .int .i64 (b : Int), .int .i64 (c : Int)], .int .i64 (i : Int)] wx (IntIs (264 + 208 * (i : Int)) wx)) := fun i hi wx => by
    have := AreaAt_any a b c i wx; unfold areaV gv at this; rwa [if_pos ⟨h, by omega, by omega⟩] at this
  have A5 := Lib.hid (fun wx => InodeMapAt_any a b c wx)
  have A6 := Lib.hid (fun wx => BlockMapAt_any a b c wx)
  have A7 : Hid (∀ i : Nat, i < b → ∀ wx, Calls Try.prog 26 #[.agg #[.int .i64 (a : Int), .int .i64 (b : Int), .int .i64 (c : Int)], .int .i64 (i : Int)] wx (IntIs (280 + 208 * (a : Int) + 16 * (i : Int)) wx)) := fun i hi wx => by
    have := InodeAt_any a b c i wx; unfold inodeV gv at this; rwa [if_pos ⟨h, by omega, by omega⟩] at this
  have A8 : Hid (∀ i : Nat, i < c → ∀ wx, Calls Try.prog 28 #[.agg #[.int .i64 (a : Int), .int .i64 (b : Int), .int .i64 (c : Int)], .int .i64 (i : Int)] wx (IntIs (280 + 208 * (a : Int) + 16 * (b : Int) + 8 * (i : Int)) wx)) := fun i hi wx => by
    have := BlockAt_any a b c i wx; unfold blockV gv at this; rwa [if_pos ⟨h, by omega, by omega⟩] at this
  have A9 := Lib.hid (fun wx => Words_any a b c wx)
  rw [show imapV a b c = 264 + 208 * (a : Int) from by unfold imapV; rw [if_pos h]] at A5
  rw [show bmapV a b c = 272 + 208 * (a : Int) from by unfold bmapV; rw [if_pos h]] at A6
  rw [words_pos h] at A9
  unfold gv at A5 A6 A9
  clear h hx hy hz
  go_enter Try.func7, Try.ntmps7
  go_wp2_with fail
  refine (HS.out _).mono ?_
  rintro e w1 ⟨rfl, hg⟩
  have hb : (w1.alloc (.cells #[.int .i64 (a : Int), .int .i64 (b : Int), .int .i64 (c : Int)] 23)).heap[w1.heap.size]? = some (.cells #[.int .i64 (a : Int), .int .i64 (b : Int), .int .i64 (c : Int)] 23 (0, 0)) := heap_alloc_new w1 _
  have hg := grown_trans hg (World.grownBy_alloc w1 (.cells #[.int .i64 (a : Int), .int .i64 (b : Int), .int .i64 (c : Int)] 23) none)
  obtain ⟨G, HG⟩ : ∃ G, Hid (G = w1.heap.size) := ⟨_, Lib.hid rfl⟩
  rw [← HG.out] at hb
  go_wp2_with fail
  rw [← HG.out]
  obtain ⟨W, HW⟩ : ∃ W, W = w1.alloc (.cells #[.int .i64 (a : Int), .int .i64 (b : Int), .int .i64 (c : Int)] 23) := ⟨_, rfl⟩
  rw [← HW] at hb hg ⊢
  clear HW HG HS
  go_loopw [8, 9] (fun at_ i wr => ∃ k : Nat, k ≤ 4 ∧ i = .int .i64 (k : Int) ∧ at_ = .int .i64 (8 + 64 * (k : Int)) ∧ wr.heap[G]? = some (.cells #[.int .i64 (a : Int), .int .i64 (b : Int), .int .i64 (c : Int)] 23 (0, 0)) ∧ w.grownBy wr none) (fun _ i _ => 4 - (intOf i).toNat)
  case atStart => exact ⟨0, by omega, rfl, rfl, hb, hg⟩
  case round =>
    clear hb hg
    obtain ⟨i, hi, rfl, rfl, hb, hg⟩ := hrel
    have i0 : (0 : Int) ≤ (i : Int) := by omega
    by_cases hi4 : i < 4
    · have hi4' : (i : Int) < 4 := by omega
      have B1 := Lib.hid (A1.out i hi4)
      have B2 := Lib.hid (fun k hk => A2.out i k hi4 hk)
      have B3 := Lib.hid (fun k hk => A3.out i k hi4 hk)
      go_wp2_with fail
      refine (B1.out _).mono ?_
      rintro e w2 ⟨rfl, hgx⟩
      have hb := (hgx.block _ (lt_of_block hb) (by simp)).trans hb
      have hg := grown_trans hg hgx
      clear hgx
      go_wp2_with fail
      go_loopw [8, 10] (fun at_ kk wr => ∃ k : Nat, k ≤ 4 ∧ kk = .int .i64 (k : Int) ∧ at_ = .int .i64 (16 + 64 * (i : Int) + 12 * (k : Int)) ∧ wr.heap[G]? = some (.cells #[.int .i64 (a : Int), .int .i64 (b : Int), .int .i64 (c : Int)] 23 (0, 0)) ∧ w.grownBy wr none) (fun _ i _ => 4 - (intOf i).toNat)
      case atStart => exact ⟨0, by omega, rfl, congrArg (Value.int .i64) (by omega), hb, hg⟩
      case round =>
        clear hb hg
        obtain ⟨k, hk, rfl, rfl, hb, hg⟩ := hrel
        have k0 : (0 : Int) ≤ (k : Int) := by omega
        by_cases hk4 : k < 4
        · have hk4' : (k : Int) < 4 := by omega
          go_wp2_with fail
          refine (B2.out k hk4 _).mono ?_
          rintro e w3 ⟨rfl, hgx⟩
          have hb := (hgx.block _ (lt_of_block hb) (by simp)).trans hb
          have hg := grown_trans hg hgx
          clear hgx
          go_wp2
          go_roundw
          case rel => exact ⟨k + 1, by omega, by go_num, congrArg (Value.int .i64) (by omega), hb, hg⟩
          case measure => simp [intOf]; omega
        · have hk4' : ¬ (k : Int) < 4 := by omega
          have HK := Lib.hid (show k = 4 by omega)
          clear hk
          go_wp2_with fail
          obtain ⟨wo, rfl⟩ : ∃ wo : World, wo = wr := ⟨_, rfl⟩
          go_loopw [8, 11] (fun at_ kk wr => ∃ k : Nat, k ≤ 4 ∧ kk = .int .i64 (k : Int) ∧ at_ = .int .i64 (64 + 64 * (i : Int) + 2 * (k : Int)) ∧ wr.heap[G]? = some (.cells #[.int .i64 (a : Int), .int .i64 (b : Int), .int .i64 (c : Int)] 23 (0, 0)) ∧ w.grownBy wr none) (fun _ i _ => 4 - (intOf i).toNat)
          case atStart => exact ⟨0, by omega, rfl, congrArg (Value.int .i64) (by have := HK.out; omega), hb, hg⟩
          case round =>
            clear hb hg
            obtain ⟨l, hl, rfl, rfl, hb, hg⟩ := hrel
            have l0 : (0 : Int) ≤ (l : Int) := by omega
            by_cases hl4 : l < 4
            · have hl4' : (l : Int) < 4 := by omega
              go_wp2_with fail
              refine (B3.out l hl4 _).mono ?_
              rintro e w3 ⟨rfl, hgx⟩
              have hb := (hgx.block _ (lt_of_block hb) (by simp)).trans hb
              have hg := grown_trans hg hgx
              clear hgx
              go_wp2
              go_roundw
              case rel => exact ⟨l + 1, by omega, by go_num, congrArg (Value.int .i64) (by omega), hb, hg⟩
              case measure => simp [intOf]; omega
            · have hl4' : ¬ (l : Int) < 4 := by omega
              have HL := Lib.hid (show l = 4 by omega)
              clear hl
              go_wp2
              go_roundw
              case rel => exact ⟨i + 1, by omega, by go_num, congrArg (Value.int .i64) (by have := HL.out; omega), hb, hg⟩
              case measure => simp [intOf]; omega
    · have hi4' : ¬ (i : Int) < 4 := by omega
      have HI4 := Lib.hid (show i = 4 by omega)
      clear hi
      have f0 : wr.cell? ⟨G, 0, none⟩ = some (.int .i64 a) := by simp [World.cell?, hb]
      have f1 : wr.cell? ⟨G, 1, none⟩ = some (.int .i64 b) := by simp [World.cell?, hb]
      have f2 : wr.cell? ⟨G, 2, none⟩ = some (.int .i64 c) := by simp [World.cell?, hb]
      go_wp2_with fail
      go_loopw [8, 12] (fun at_ kk wr => ∃ k : Nat, k ≤ a ∧ kk = .int .i64 (k : Int) ∧ at_ = .int .i64 (264 + 208 * (k : Int)) ∧ wr.heap[G]? = some (.cells #[.int .i64 (a : Int), .int .i64 (b : Int), .int .i64 (c : Int)] 23 (0, 0)) ∧ w.grownBy wr none) (fun _ i _ => a - (intOf i).toNat)
      case atStart => exact ⟨0, by omega, rfl, congrArg (Value.int .i64) (by have := HI4.out; omega), hb, hg⟩
      case round =>
        clear hb hg f0 f1 f2
        obtain ⟨k, hk, rfl, rfl, hb, hg⟩ := hrel
        have k0 : (0 : Int) ≤ (k : Int) := by omega
        have f0 : wr.cell? ⟨G, 0, none⟩ = some (.int .i64 a) := by simp [World.cell?, hb]
        have f1 : wr.cell? ⟨G, 1, none⟩ = some (.int .i64 b) := by simp [World.cell?, hb]
        have f2 : wr.cell? ⟨G, 2, none⟩ = some (.int .i64 c) := by simp [World.cell?, hb]
        by_cases hka : k < a
        · have hka' : (k : Int) < (a : Int) := by omega
          go_wp2_with fail
          refine (A4.out k hka _).mono ?_
          rintro e w4 ⟨rfl, hgx⟩
          have hb := (hgx.block _ (lt_of_block hb) (by simp)).trans hb
          have hg := grown_trans hg hgx
          clear hgx
          go_wp2
          go_roundw
          case rel => exact ⟨k + 1, by omega, by go_num, congrArg (Value.int .i64) (by omega), hb, hg⟩
          case measure => simp [intOf]; omega
        · have hka' : ¬ (k : Int) < (a : Int) := by omega
          have HK := Lib.hid (show (k : Int) = (a : Int) by omega)
          have hkb : (k : Int) ≤ 4 := by omega
          have he1 : ((264 + 208 * (a : Int)) != (264 + 208 * (k : Int))) = false := by simp; have := HK.out; omega
          have he2 : ((272 + 208 * (a : Int)) != (264 + 208 * (k : Int) + 8)) = false := by simp; have := HK.out; omega
          clear hk
          go_wp2_with fail
          refine (A5.out _).mono ?_
          rintro e w5 ⟨rfl, hgx⟩
          have hb := (hgx.block _ (lt_of_block hb) (by simp)).trans hb
          have hg := grown_trans hg hgx
          clear hgx f0 f1 f2
          have f0 : w5.cell? ⟨G, 0, none⟩ = some (.int .i64 a) := by simp [World.cell?, hb]
          have f1 : w5.cell? ⟨G, 1, none⟩ = some (.int .i64 b) := by simp [World.cell?, hb]
          have f2 : w5.cell? ⟨G, 2, none⟩ = some (.int .i64 c) := by simp [World.cell?, hb]
          go_wp2_with fail
          refine (A6.out _).mono ?_
          rintro e w6 ⟨rfl, hgx⟩
          have hb := (hgx.block _ (lt_of_block hb) (by simp)).trans hb
          have hg := grown_trans hg hgx
          clear hgx f0 f1 f2
          have f0 : w6.cell? ⟨G, 0, none⟩ = some (.int .i64 a) := by simp [World.cell?, hb]
          have f1 : w6.cell? ⟨G, 1, none⟩ = some (.int .i64 b) := by simp [World.cell?, hb]
          have f2 : w6.cell? ⟨G, 2, none⟩ = some (.int .i64 c) := by simp [World.cell?, hb]
          go_wp2_with fail
          go_loopw [8, 13] (fun at_ kk wr => ∃ l : Nat, l ≤ b ∧ kk = .int .i64 (l : Int) ∧ at_ = .int .i64 (280 + 208 * (a : Int) + 16 * (l : Int)) ∧ wr.heap[G]? = some (.cells #[.int .i64 (a : Int), .int .i64 (b : Int), .int .i64 (c : Int)] 23 (0, 0)) ∧ w.grownBy wr none) (fun _ i _ => b - (intOf i).toNat)
          case atStart => exact ⟨0, by omega, rfl, congrArg (Value.int .i64) (by have := HK.out; omega), hb, hg⟩
          case round =>
            clear hb hg f0 f1 f2
            obtain ⟨l, hl, rfl, rfl, hb, hg⟩ := hrel
            have l0 : (0 : Int) ≤ (l : Int) := by omega
            have f0 : wr.cell? ⟨G, 0, none⟩ = some (.int .i64 a) := by simp [World.cell?, hb]
            have f1 : wr.cell? ⟨G, 1, none⟩ = some (.int .i64 b) := by simp [World.cell?, hb]
            have f2 : wr.cell? ⟨G, 2, none⟩ = some (.int .i64 c) := by simp [World.cell?, hb]
            by_cases hlb : l < b
            · have hlb' : (l : Int) < (b : Int) := by omega
              go_wp2_with fail
              refine (A7.out l hlb _).mono ?_
              rintro e w4 ⟨rfl, hgx⟩
              have hb := (hgx.block _ (lt_of_block hb) (by simp)).trans hb
              have hg := grown_trans hg hgx
              clear hgx
              go_wp2
              go_roundw
              case rel => exact ⟨l + 1, by omega, by go_num, congrArg (Value.int .i64) (by omega), hb, hg⟩
              case measure => simp [intOf]; omega
            · have hlb' : ¬ (l : Int) < (b : Int) := by omega
              have HL := Lib.hid (show (l : Int) = (b : Int) by omega)
              have hlbb : (l : Int) ≤ 64 := by omega
              clear hl
              go_wp2_with fail
              go_loopw [8, 14] (fun at_ kk wr => ∃ l : Nat, l ≤ c ∧ kk = .int .i64 (l : Int) ∧ at_ = .int .i64 (280 + 208 * (a : Int) + 16 * (b : Int) + 8 * (l : Int)) ∧ wr.heap[G]? = some (.cells #[.int .i64 (a : Int), .int .i64 (b : Int), .int .i64 (c : Int)] 23 (0, 0)) ∧ w.grownBy wr none) (fun _ i _ => c - (intOf i).toNat)
              case atStart => exact ⟨0, by omega, rfl, congrArg (Value.int .i64) (by have := HL.out; omega), hb, hg⟩
              case round =>
                clear hb hg f0 f1 f2
                obtain ⟨m, hm, rfl, rfl, hb, hg⟩ := hrel
                have m0 : (0 : Int) ≤ (m : Int) := by omega
                have f0 : wr.cell? ⟨G, 0, none⟩ = some (.int .i64 a) := by simp [World.cell?, hb]
                have f1 : wr.cell? ⟨G, 1, none⟩ = some (.int .i64 b) := by simp [World.cell?, hb]
                have f2 : wr.cell? ⟨G, 2, none⟩ = some (.int .i64 c) := by simp [World.cell?, hb]
                by_cases hmc : m < c
                · have hmc' : (m : Int) < (c : Int) := by omega
                  go_wp2_with fail
                  refine (A8.out m hmc _).mono ?_
                  rintro e w4 ⟨rfl, hgx⟩
                  have hb := (hgx.block _ (lt_of_block hb) (by simp)).trans hb
                  have hg := grown_trans hg hgx
                  clear hgx
                  go_wp2
                  go_roundw
                  case rel => exact ⟨m + 1, by omega, by go_num, congrArg (Value.int .i64) (by omega), hb, hg⟩
                  case measure => simp [intOf]; omega
                · have hmc' : ¬ (m : Int) < (c : Int) := by omega
                  have HM := Lib.hid (show (m : Int) = (c : Int) by omega)
                  have hmb : (m : Int) ≤ 512 := by omega
                  have he3 : ((280 + 208 * (a : Int) + 16 * (b : Int) + 8 * (c : Int)) == (280 + 208 * (a : Int) + 16 * (b : Int) + 8 * (m : Int))) = true := by simp; have := HM.out; omega
                  clear hm
                  go_wp2_with fail
                  refine (A9.out _).mono ?_
                  rintro e w9 ⟨rfl, hgx⟩
                  have hg := grown_trans hg hgx
                  clear hgx
                  go_wp2_with fail
                  refine (works_any _).mono ?_
                  rintro e wz ⟨rfl, hgx⟩
                  have hg := grown_trans hg hgx
                  go_wp2
                  go_ret
                  exact ⟨rfl, hg⟩

theorem walk (x y z : Int) (w : World) (wx : (Lit.int .u16 x).wf = true) (wy : (Lit.int .u16 y).wf = true) (wz : (Lit.int .u16 z).wf = true) : Calls Try.prog 7 #[.int .u16 x, .int .u16 y, .int .u16 z] w (WorksIs w) := by
  have bx := bounds_u16 wx
  have by_ := bounds_u16 wy
  have bz := bounds_u16 wz
  obtain ⟨x, rfl⟩ := Int.eq_ofNat_of_zero_le bx.1
  obtain ⟨y, rfl⟩ := Int.eq_ofNat_of_zero_le by_.1
  obtain ⟨z, rfl⟩ := Int.eq_ofNat_of_zero_le bz.1
  exact walk_at x y z (by omega) (by omega) (by omega) w
end Go.Proofs.Ytfmpamgflnklpaa.layoutRows
