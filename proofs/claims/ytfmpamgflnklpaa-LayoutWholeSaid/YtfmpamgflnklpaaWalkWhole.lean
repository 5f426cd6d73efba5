/- LayoutWhole, walked. -/
import Derived.Test.YtfmpamgflnklpaaLayO
import Derived.Test.YtfmpamgflnklpaaWhereMath
namespace Go.Proofs.Ytfmpamgflnklpaa.layoutWhole
open Go.RowKit Go.Grommet

theorem getD_fmtL (a b c m N i : Nat) (h : i < N) : (fmtL a b c m N).getD i 0 = fmtAt a b c m i := by
  rw [List.getD_eq_getElem?_getD, get_fmtL _ _ _ _ _ _ h]; rfl
theorem of_fmt (a b c m N : Nat) (h : mayB (a : Int) (b : Int) (c : Int) = true) (hN : N = 280 + 208 * a + 16 * b + 8 * c) : ofV (fmtL a b c m N) = some ((a : Int), (b : Int), (c : Int)) := by
  have h1 := getD_fmtL a b c m N 1 (by omega)
  have h2 := getD_fmtL a b c m N 2 (by omega)
  have h3 := getD_fmtL a b c m N 3 (by omega)
  have h0 := getD_fmtL a b c m N 0 (by omega)
  unfold ofV
  rw [h0, h1, h2, h3, length_fmtL]
  have e0 : fmtAt a b c m 0 = 32762617960297063 := rfl
  have e1 : fmtAt a b c m 1 = a := rfl
  have e2 : fmtAt a b c m 2 = b := rfl
  have e3 : fmtAt a b c m 3 = c := rfl
  rw [e0, e1, e2, e3]
  exact if_pos ⟨by omega, rfl, h, by rw [words_pos h]; omega⟩

set_option maxRecDepth 100000 in
set_option maxHeartbeats 32000000 in
theorem walk_at (x0 y0 z0 : Nat) (hx : x0 < 65536) (hy : y0 < 65536) (hz : z0 < 65536) (w : World) : Calls Try.prog 6 #[.int .u16 (x0 : Int), .int .u16 (y0 : Int), .int .u16 (z0 : Int)] w (WorksIs w) := by
  have h : mayB ((1 + x0 % 4 : Nat) : Int) ((2 + y0 % 63 : Nat) : Int) ((2 + z0 % 511 : Nat) : Int) = true := by
    unfold mayB; rw [decide_eq_true_eq]; omega
  obtain ⟨a, Ha⟩ : ∃ a : Nat, a = 1 + x0 % 4 := ⟨_, rfl⟩
  obtain ⟨b, Hb⟩ : ∃ b : Nat, b = 2 + y0 % 63 := ⟨_, rfl⟩
  obtain ⟨c, Hc⟩ : ∃ c : Nat, c = 2 + z0 % 511 := ⟨_, rfl⟩
  rw [← Ha, ← Hb, ← Hc] at h
  have e1 : (x0 : Int) % 4 = ((x0 % 4 : Nat) : Int) := by omega
  have e2 : (y0 : Int) % 63 = ((y0 % 63 : Nat) : Int) := by omega
  have e3 : (z0 : Int) % 511 = ((z0 % 511 : Nat) : Int) := by omega
  have b1 : x0 % 4 < 4 := by omega
  have b2 : y0 % 63 < 63 := by omega
  have b3 : z0 % 511 < 511 := by omega
  generalize x0 % 4 = X at e1 b1 Ha
  generalize y0 % 63 = Y at e2 b2 Hb
  generalize z0 % 511 = Z at e3 b3 Hc
  have HE := Lib.hid (And.intro (show 1 + (X : Int) = (a : Int) by omega) (And.intro (show 2 + (Y : Int) = (b : Int) by omega) (show 2 + (Z : Int) = (c : Int) by omega)))
  clear Ha Hb Hc
  obtain ⟨q1, q2, q3, q4, q5, q6⟩ := mayB_yes h
  have A0 := Lib.hid (fun (x : Int) (hx : x ≤ 9223372036854775807) wx => Where_any a b c x wx hx)
  have A1 : Hid (∀ i : Int, 0 ≤ i ∧ i < 4 → ∀ wx, Calls Try.prog 14 #[.int .i64 i] wx (IntIs (8 + 64 * i) wx)) := fun i hi wx => by
    have := SessionAt_any i wx; unfold sessionV at this; rwa [if_pos hi] at this
  have A2 : Hid (∀ i k : Int, 0 ≤ i ∧ i < 4 → 0 ≤ k ∧ k < 4 → ∀ wx, Calls Try.prog 16 #[.int .i64 i, .int .i64 k] wx (IntIs (16 + 64 * i + 12 * k) wx)) := fun i k hi hk wx => by
    have := SlotAt_any i k wx; unfold slotV at this; rwa [if_pos ⟨hi, hk⟩] at this
  have A3 : Hid (∀ i k : Int, 0 ≤ i ∧ i < 4 → 0 ≤ k ∧ k < 4 → ∀ wx, Calls Try.prog 18 #[.int .i64 i, .int .i64 k] wx (IntIs (64 + 64 * i + 2 * k) wx)) := fun i k hi hk wx => by
    have := DescriptorAt_any i k wx; unfold descV at this; rwa [if_pos ⟨hi, hk⟩] at this
  have A4 : Hid (∀ i : Int, 0 ≤ i ∧ i < a → ∀ wx, Calls Try.prog 20 #[.agg #[.int .i64 (a : Int), .int .i64 (b : Int), .int .i64 (c : Int)], .int .i64 i] wx (IntIs (264 + 208 * i) wx)) := fun i hi wx => by
    have := AreaAt_any a b c i wx; unfold areaV gv at this; rwa [if_pos ⟨h, hi⟩] at this
  have A5 := Lib.hid (fun wx => InodeMapAt_any a b c wx)
  have A6 := Lib.hid (fun wx => BlockMapAt_any a b c wx)
  have A7 : Hid (∀ i : Int, 0 ≤ i ∧ i < b → ∀ wx, Calls Try.prog 26 #[.agg #[.int .i64 (a : Int), .int .i64 (b : Int), .int .i64 (c : Int)], .int .i64 i] wx (IntIs (280 + 208 * (a : Int) + 16 * i) wx)) := fun i hi wx => by
    have := InodeAt_any a b c i wx; unfold inodeV gv at this; rwa [if_pos ⟨h, hi⟩] at this
  have A8 : Hid (∀ i : Int, 0 ≤ i ∧ i < c → ∀ wx, Calls Try.prog 28 #[.agg #[.int .i64 (a : Int), .int .i64 (b : Int), .int .i64 (c : Int)], .int .i64 i] wx (IntIs (280 + 208 * (a : Int) + 16 * (b : Int) + 8 * i) wx)) := fun i hi wx => by
    have := BlockAt_any a b c i wx; unfold blockV gv at this; rwa [if_pos ⟨h, hi⟩] at this
  have A9 := Lib.hid (fun wx => Words_any a b c wx)
  rw [show imapV a b c = 264 + 208 * (a : Int) from by unfold imapV; rw [if_pos h]] at A5
  rw [show bmapV a b c = 272 + 208 * (a : Int) from by unfold bmapV; rw [if_pos h]] at A6
  rw [words_pos h] at A9
  have HF := Lib.hid (fun wx => Format_any a b c wx h)
  have HO := Lib.hid (of_fmt a b c (264 + 208 * a) (280 + 208 * a + 16 * b + 8 * c) h rfl)
  have Hlt := Lib.hid (fmtL_lt a b c (264 + 208 * a) (280 + 208 * a + 16 * b + 8 * c) (by omega) (by omega) (by omega))
  have HLn : Hid ((fmtL a b c (264 + 208 * a) (280 + 208 * a + 16 * b + 8 * c)).length ≤ 10000) := by show _ ≤ _; rw [length_fmtL]; omega
  generalize fmtL a b c (264 + 208 * a) (280 + 208 * a + 16 * b + 8 * c) = xs at HF HO Hlt HLn
  obtain ⟨T, HT⟩ : ∃ T : Int, Hid (T = 280 + 208 * (a : Int) + 16 * (b : Int) + 8 * (c : Int)) := ⟨_, Lib.hid rfl⟩
  rw [← HT.out] at A9
  have t1 : T ≤ 65536 := by rw [HT.out]; omega
  have t2 : 8 ≤ T := by rw [HT.out]; omega
  have t3 : T.tmod 8 = 0 := by rw [Int.tmod_eq_emod_of_nonneg (by omega), HT.out]; omega
  have t4 : T % 8 = 0 := by rw [HT.out]; omega
  have Hm := Lib.hid h
  unfold gv at A0 A5 A6 A9 HF
  clear h
  have hb : (w.alloc (.cells #[.int .i64 (a : Int), .int .i64 (b : Int), .int .i64 (c : Int)] 23)).heap[w.heap.size]? = some (.cells #[.int .i64 (a : Int), .int .i64 (b : Int), .int .i64 (c : Int)] 23 (0, 0)) := heap_alloc_new w _
  have hg := World.grownBy_alloc w (.cells #[.int .i64 (a : Int), .int .i64 (b : Int), .int .i64 (c : Int)] 23) none
  obtain ⟨G, HG⟩ : ∃ G, Hid (G = w.heap.size) := ⟨_, Lib.hid rfl⟩
  rw [← HG.out] at hb
  go_enter Try.func6, Try.ntmps6
  go_wp2_with fail
  rw [HE.out.1, HE.out.2.1, HE.out.2.2, ← HG.out]
  clear e1 e2 e3 b1 b2 b3 hx hy hz HE
  refine (A9.out _).mono ?_
  rintro e w1 ⟨rfl, hgx⟩
  have hb := (hgx.block _ (lt_of_block hb) (by simp)).trans hb
  have hg := grown_trans hg hgx
  clear hgx HG
  go_wp2_with fail
  go_loopw [9, 14] (fun i _ wr => ∃ k : Nat, (k : Int) ≤ T ∧ i = .int .i64 (k : Int) ∧ wr.heap[G]? = some (.cells #[.int .i64 (a : Int), .int .i64 (b : Int), .int .i64 (c : Int)] 23 (0, 0)) ∧ w.grownBy wr none) (fun i _ _ => T.toNat - (intOf i).toNat)
  case atStart => exact ⟨0, by omega, rfl, hb, hg⟩
  case round =>
    clear hb hg
    obtain ⟨k, hk, rfl, hb, hg⟩ := hrel
    have k0 : (0 : Int) ≤ (k : Int) := by omega
    by_cases hkT : (k : Int) < T
    · obtain ⟨x, hxk⟩ : ∃ x : Int, x = (k : Int) := ⟨_, rfl⟩
      have HT1 := HT.out
      have HWh := fun wx => A0.out x (by omega) wx
      rw [← hxk] at k0 hkT ⊢
      have HXK := Lib.hid hxk
      by_cases hc0 : x < 8
      · have hv := wh_super Hm.out k0 hc0
        rw [hv] at HWh
        unfold WhereIs at HWh
        have HWH := Lib.hid HWh
        have hw : IntKind.i64.wrap (0 + x) = x := (by rw [Int.zero_add]; exact IntWalk.i64_in _ ⟨by omega, by omega⟩)
        clear hv HWh HT1 hxk
        have f0 : wr.cell? ⟨G, 0, none⟩ = some (.int .i64 a) := by simp [World.cell?, hb]
        have f1 : wr.cell? ⟨G, 1, none⟩ = some (.int .i64 b) := by simp [World.cell?, hb]
        have f2 : wr.cell? ⟨G, 2, none⟩ = some (.int .i64 c) := by simp [World.cell?, hb]
        go_wp2_with fail
        refine (HWH.out _).mono ?_
        rintro e w2 ⟨rfl, hgx⟩
        have hb := (hgx.block _ (lt_of_block hb) (by simp)).trans hb
        have hg := grown_trans hg hgx
        clear hgx f0 f1 f2
        go_wp2
        rw [HXK.out]
        go_roundw
        case rel => exact ⟨k + 1, by have := HXK.out; omega, by go_num, hb, hg⟩
        case measure => simp [intOf]; have := HXK.out; omega
      have hc8 : 8 ≤ x := by omega
      clear hc0
      by_cases hc1 : x < 264
      · obtain ⟨i, hi0, hi4, hlo, hhi⟩ : ∃ i, 0 ≤ i ∧ i < 4 ∧ 8 + 64 * i ≤ x ∧ x < 72 + 64 * i := ⟨(x - 8) / 64, by omega, by omega, by omega, by omega⟩
        by_cases hh : x < 16 + 64 * i
        · skip
          have hv := wh_head Hm.out i ⟨hi0, hi4⟩ hlo hh
          rw [hv] at HWh
          unfold WhereIs at HWh
          have HWH := Lib.hid HWh
          have HP := Lib.hid (A1.out i ⟨hi0, hi4⟩)
          have r0 : 0 ≤ 8 + 64 * i := by omega
          have r1 : 8 + 64 * i ≤ x := by omega
          have r3 : 8 + 64 * i ≤ 10000 := by omega
          have r4 : x ≤ 10000 := by omega
          obtain ⟨s, hs⟩ : ∃ s, s = 8 + 64 * i := ⟨_, rfl⟩
          rw [← hs] at HWH HP r0 r1 r3
          have r2 : 0 ≤ x - s := by omega
          have hw : IntKind.i64.wrap (s + (x - s)) = x := (by rw [show s + (x - s) = x from by omega]; exact IntWalk.i64_in _ ⟨by omega, by omega⟩)
          have hq : s + (x - s) = x := by omega
          clear hv HWh hs HT1 hxk hlo hhi hh hc1 hc8
          have f0 : wr.cell? ⟨G, 0, none⟩ = some (.int .i64 a) := by simp [World.cell?, hb]
          have f1 : wr.cell? ⟨G, 1, none⟩ = some (.int .i64 b) := by simp [World.cell?, hb]
          have f2 : wr.cell? ⟨G, 2, none⟩ = some (.int .i64 c) := by simp [World.cell?, hb]
          go_wp2_with fail
          refine (HWH.out _).mono ?_
          rintro e w2 ⟨rfl, hgx⟩
          have hb := (hgx.block _ (lt_of_block hb) (by simp)).trans hb
          have hg := grown_trans hg hgx
          clear hgx f0 f1 f2
          have f0 : w2.cell? ⟨G, 0, none⟩ = some (.int .i64 a) := by simp [World.cell?, hb]
          have f1 : w2.cell? ⟨G, 1, none⟩ = some (.int .i64 b) := by simp [World.cell?, hb]
          have f2 : w2.cell? ⟨G, 2, none⟩ = some (.int .i64 c) := by simp [World.cell?, hb]
          go_wp2_with fail
          refine (HP.out _).mono ?_
          rintro e w3 ⟨rfl, hgx⟩
          have hb := (hgx.block _ (lt_of_block hb) (by simp)).trans hb
          have hg := grown_trans hg hgx
          clear hgx f0 f1 f2
          go_wp2
          rw [HXK.out]
          go_roundw
          case rel => exact ⟨k + 1, by have := HXK.out; omega, by go_num, hb, hg⟩
          case measure => simp [intOf]; have := HXK.out; omega
        by_cases hh2 : x < 64 + 64 * i
        · obtain ⟨j, hj0, hj4, hjl, hjh⟩ : ∃ j, 0 ≤ j ∧ j < 4 ∧ 16 + 64 * i + 12 * j ≤ x ∧ x < 16 + 64 * i + 12 * j + 12 := ⟨(x - 16 - 64 * i) / 12, by omega, by omega, by omega, by omega⟩
          have hv := wh_slot Hm.out i j ⟨hi0, hi4⟩ ⟨hj0, hj4⟩ hjl hjh
          rw [hv] at HWh
          unfold WhereIs at HWh
          have HWH := Lib.hid HWh
          have HP := Lib.hid (A2.out i j ⟨hi0, hi4⟩ ⟨hj0, hj4⟩)
          have r0 : 0 ≤ 16 + 64 * i + 12 * j := by omega
          have r1 : 16 + 64 * i + 12 * j ≤ x := by omega
          have r3 : 16 + 64 * i + 12 * j ≤ 10000 := by omega
          have r4 : x ≤ 10000 := by omega
          obtain ⟨s, hs⟩ : ∃ s, s = 16 + 64 * i + 12 * j := ⟨_, rfl⟩
          rw [← hs] at HWH HP r0 r1 r3
          have r2 : 0 ≤ x - s := by omega
          have hw : IntKind.i64.wrap (s + (x - s)) = x := (by rw [show s + (x - s) = x from by omega]; exact IntWalk.i64_in _ ⟨by omega, by omega⟩)
          have hq : s + (x - s) = x := by omega
          clear hv HWh hs HT1 hxk hlo hhi hh hh2 hc1 hc8 hjl hjh
          have f0 : wr.cell? ⟨G, 0, none⟩ = some (.int .i64 a) := by simp [World.cell?, hb]
          have f1 : wr.cell? ⟨G, 1, none⟩ = some (.int .i64 b) := by simp [World.cell?, hb]
          have f2 : wr.cell? ⟨G, 2, none⟩ = some (.int .i64 c) := by simp [World.cell?, hb]
          go_wp2_with fail
          refine (HWH.out _).mono ?_
          rintro e w2 ⟨rfl, hgx⟩
          have hb := (hgx.block _ (lt_of_block hb) (by simp)).trans hb
          have hg := grown_trans hg hgx
          clear hgx f0 f1 f2
          have f0 : w2.cell? ⟨G, 0, none⟩ = some (.int .i64 a) := by simp [World.cell?, hb]
          have f1 : w2.cell? ⟨G, 1, none⟩ = some (.int .i64 b) := by simp [World.cell?, hb]
          have f2 : w2.cell? ⟨G, 2, none⟩ = some (.int .i64 c) := by simp [World.cell?, hb]
          go_wp2_with fail
          refine (HP.out _).mono ?_
          rintro e w3 ⟨rfl, hgx⟩
          have hb := (hgx.block _ (lt_of_block hb) (by simp)).trans hb
          have hg := grown_trans hg hgx
          clear hgx f0 f1 f2
          go_wp2
          rw [HXK.out]
          go_roundw
          case rel => exact ⟨k + 1, by have := HXK.out; omega, by go_num, hb, hg⟩
          case measure => simp [intOf]; have := HXK.out; omega
        obtain ⟨j, hj0, hj4, hjl, hjh⟩ : ∃ j, 0 ≤ j ∧ j < 4 ∧ 64 + 64 * i + 2 * j ≤ x ∧ x < 64 + 64 * i + 2 * j + 2 := ⟨(x - 64 - 64 * i) / 2, by omega, by omega, by omega, by omega⟩
        have hv := wh_desc Hm.out i j ⟨hi0, hi4⟩ ⟨hj0, hj4⟩ hjl hjh
        rw [hv] at HWh
        unfold WhereIs at HWh
        have HWH := Lib.hid HWh
        have HP := Lib.hid (A3.out i j ⟨hi0, hi4⟩ ⟨hj0, hj4⟩)
        have r0 : 0 ≤ 64 + 64 * i + 2 * j := by omega
        have r1 : 64 + 64 * i + 2 * j ≤ x := by omega
        have r3 : 64 + 64 * i + 2 * j ≤ 10000 := by omega
        have r4 : x ≤ 10000 := by omega
        obtain ⟨s, hs⟩ : ∃ s, s = 64 + 64 * i + 2 * j := ⟨_, rfl⟩
        rw [← hs] at HWH HP r0 r1 r3
        have r2 : 0 ≤ x - s := by omega
        have hw : IntKind.i64.wrap (s + (x - s)) = x := (by rw [show s + (x - s) = x from by omega]; exact IntWalk.i64_in _ ⟨by omega, by omega⟩)
        have hq : s + (x - s) = x := by omega
        clear hv HWh hs HT1 hxk hlo hhi hh hh2 hc1 hc8 hjl hjh
        have f0 : wr.cell? ⟨G, 0, none⟩ = some (.int .i64 a) := by simp [World.cell?, hb]
        have f1 : wr.cell? ⟨G, 1, none⟩ = some (.int .i64 b) := by simp [World.cell?, hb]
        have f2 : wr.cell? ⟨G, 2, none⟩ = some (.int .i64 c) := by simp [World.cell?, hb]
        go_wp2_with fail
        refine (HWH.out _).mono ?_
        rintro e w2 ⟨rfl, hgx⟩
        have hb := (hgx.block _ (lt_of_block hb) (by simp)).trans hb
        have hg := grown_trans hg hgx
        clear hgx f0 f1 f2
        have f0 : w2.cell? ⟨G, 0, none⟩ = some (.int .i64 a) := by simp [World.cell?, hb]
        have f1 : w2.cell? ⟨G, 1, none⟩ = some (.int .i64 b) := by simp [World.cell?, hb]
        have f2 : w2.cell? ⟨G, 2, none⟩ = some (.int .i64 c) := by simp [World.cell?, hb]
        go_wp2_with fail
        refine (HP.out _).mono ?_
        rintro e w3 ⟨rfl, hgx⟩
        have hb := (hgx.block _ (lt_of_block hb) (by simp)).trans hb
        have hg := grown_trans hg hgx
        clear hgx f0 f1 f2
        go_wp2
        rw [HXK.out]
        go_roundw
        case rel => exact ⟨k + 1, by have := HXK.out; omega, by go_num, hb, hg⟩
        case measure => simp [intOf]; have := HXK.out; omega
      by_cases hc2 : x < 264 + 208 * (a : Int)
      · obtain ⟨i, hi0, hi4, hlo, hhi⟩ : ∃ i, 0 ≤ i ∧ i < (a : Int) ∧ 264 + 208 * i ≤ x ∧ x < 264 + 208 * i + 208 := ⟨(x - 264) / 208, by omega, by omega, by omega, by omega⟩
        have hv := wh_area Hm.out i ⟨hi0, hi4⟩ hlo hhi
        rw [hv] at HWh
        unfold WhereIs at HWh
        have HWH := Lib.hid HWh
        have HP := Lib.hid (A4.out i ⟨hi0, hi4⟩)
        have r0 : 0 ≤ 264 + 208 * i := by omega
        have r1 : 264 + 208 * i ≤ x := by omega
        have r3 : 264 + 208 * i ≤ 10000 := by omega
        have r4 : x ≤ 10000 := by omega
        obtain ⟨s, hs⟩ : ∃ s, s = 264 + 208 * i := ⟨_, rfl⟩
        rw [← hs] at HWH HP r0 r1 r3
        have r2 : 0 ≤ x - s := by omega
        have hw : IntKind.i64.wrap (s + (x - s)) = x := (by rw [show s + (x - s) = x from by omega]; exact IntWalk.i64_in _ ⟨by omega, by omega⟩)
        have hq : s + (x - s) = x := by omega
        clear hv HWh hs HT1 hxk hlo hhi hc1 hc8 hc2
        have f0 : wr.cell? ⟨G, 0, none⟩ = some (.int .i64 a) := by simp [World.cell?, hb]
        have f1 : wr.cell? ⟨G, 1, none⟩ = some (.int .i64 b) := by simp [World.cell?, hb]
        have f2 : wr.cell? ⟨G, 2, none⟩ = some (.int .i64 c) := by simp [World.cell?, hb]
        go_wp2_with fail
        refine (HWH.out _).mono ?_
        rintro e w2 ⟨rfl, hgx⟩
        have hb := (hgx.block _ (lt_of_block hb) (by simp)).trans hb
        have hg := grown_trans hg hgx
        clear hgx f0 f1 f2
        have f0 : w2.cell? ⟨G, 0, none⟩ = some (.int .i64 a) := by simp [World.cell?, hb]
        have f1 : w2.cell? ⟨G, 1, none⟩ = some (.int .i64 b) := by simp [World.cell?, hb]
        have f2 : w2.cell? ⟨G, 2, none⟩ = some (.int .i64 c) := by simp [World.cell?, hb]
        go_wp2_with fail
        refine (HP.out _).mono ?_
        rintro e w3 ⟨rfl, hgx⟩
        have hb := (hgx.block _ (lt_of_block hb) (by simp)).trans hb
        have hg := grown_trans hg hgx
        clear hgx f0 f1 f2
        go_wp2
        rw [HXK.out]
        go_roundw
        case rel => exact ⟨k + 1, by have := HXK.out; omega, by go_num, hb, hg⟩
        case measure => simp [intOf]; have := HXK.out; omega
      by_cases hc3 : x < 272 + 208 * (a : Int)
      · skip
        have hv := wh_imap Hm.out (by omega) hc3
        rw [hv] at HWh
        unfold WhereIs at HWh
        have HWH := Lib.hid HWh
        have HP := Lib.hid (A5.out)
        have r0 : 0 ≤ 264 + 208 * (a : Int) := by omega
        have r1 : 264 + 208 * (a : Int) ≤ x := by omega
        have r3 : 264 + 208 * (a : Int) ≤ 10000 := by omega
        have r4 : x ≤ 10000 := by omega
        obtain ⟨s, hs⟩ : ∃ s, s = 264 + 208 * (a : Int) := ⟨_, rfl⟩
        rw [← hs] at HWH HP r0 r1 r3
        have r2 : 0 ≤ x - s := by omega
        have hw : IntKind.i64.wrap (s + (x - s)) = x := (by rw [show s + (x - s) = x from by omega]; exact IntWalk.i64_in _ ⟨by omega, by omega⟩)
        have hq : s + (x - s) = x := by omega
        clear hv HWh hs HT1 hxk hc1 hc8 hc2 hc3
        have f0 : wr.cell? ⟨G, 0, none⟩ = some (.int .i64 a) := by simp [World.cell?, hb]
        have f1 : wr.cell? ⟨G, 1, none⟩ = some (.int .i64 b) := by simp [World.cell?, hb]
        have f2 : wr.cell? ⟨G, 2, none⟩ = some (.int .i64 c) := by simp [World.cell?, hb]
        go_wp2_with fail
        refine (HWH.out _).mono ?_
        rintro e w2 ⟨rfl, hgx⟩
        have hb := (hgx.block _ (lt_of_block hb) (by simp)).trans hb
        have hg := grown_trans hg hgx
        clear hgx f0 f1 f2
        have f0 : w2.cell? ⟨G, 0, none⟩ = some (.int .i64 a) := by simp [World.cell?, hb]
        have f1 : w2.cell? ⟨G, 1, none⟩ = some (.int .i64 b) := by simp [World.cell?, hb]
        have f2 : w2.cell? ⟨G, 2, none⟩ = some (.int .i64 c) := by simp [World.cell?, hb]
        go_wp2_with fail
        refine (HP.out _).mono ?_
        rintro e w3 ⟨rfl, hgx⟩
        have hb := (hgx.block _ (lt_of_block hb) (by simp)).trans hb
        have hg := grown_trans hg hgx
        clear hgx f0 f1 f2
        go_wp2
        rw [HXK.out]
        go_roundw
        case rel => exact ⟨k + 1, by have := HXK.out; omega, by go_num, hb, hg⟩
        case measure => simp [intOf]; have := HXK.out; omega
      by_cases hc4 : x < 280 + 208 * (a : Int)
      · have hv0 := wh_bmap Hm.out (x := x) (by omega) hc4
        rw [show x - (264 + 208 * (a : Int)) - 8 = x - (272 + 208 * (a : Int)) from by omega] at hv0
        have hv := hv0
        rw [hv] at HWh
        unfold WhereIs at HWh
        have HWH := Lib.hid HWh
        have HP := Lib.hid (A6.out)
        have r0 : 0 ≤ 272 + 208 * (a : Int) := by omega
        have r1 : 272 + 208 * (a : Int) ≤ x := by omega
        have r3 : 272 + 208 * (a : Int) ≤ 10000 := by omega
        have r4 : x ≤ 10000 := by omega
        obtain ⟨s, hs⟩ : ∃ s, s = 272 + 208 * (a : Int) := ⟨_, rfl⟩
        rw [← hs] at HWH HP r0 r1 r3
        have r2 : 0 ≤ x - s := by omega
        have hw : IntKind.i64.wrap (s + (x - s)) = x := (by rw [show s + (x - s) = x from by omega]; exact IntWalk.i64_in _ ⟨by omega, by omega⟩)
        have hq : s + (x - s) = x := by omega
        clear hv HWh hs hv0 HT1 hxk hc1 hc8 hc2 hc3 hc4
        have f0 : wr.cell? ⟨G, 0, none⟩ = some (.int .i64 a) := by simp [World.cell?, hb]
        have f1 : wr.cell? ⟨G, 1, none⟩ = some (.int .i64 b) := by simp [World.cell?, hb]
        have f2 : wr.cell? ⟨G, 2, none⟩ = some (.int .i64 c) := by simp [World.cell?, hb]
        go_wp2_with fail
        refine (HWH.out _).mono ?_
        rintro e w2 ⟨rfl, hgx⟩
        have hb := (hgx.block _ (lt_of_block hb) (by simp)).trans hb
        have hg := grown_trans hg hgx
        clear hgx f0 f1 f2
        have f0 : w2.cell? ⟨G, 0, none⟩ = some (.int .i64 a) := by simp [World.cell?, hb]
        have f1 : w2.cell? ⟨G, 1, none⟩ = some (.int .i64 b) := by simp [World.cell?, hb]
        have f2 : w2.cell? ⟨G, 2, none⟩ = some (.int .i64 c) := by simp [World.cell?, hb]
        go_wp2_with fail
        refine (HP.out _).mono ?_
        rintro e w3 ⟨rfl, hgx⟩
        have hb := (hgx.block _ (lt_of_block hb) (by simp)).trans hb
        have hg := grown_trans hg hgx
        clear hgx f0 f1 f2
        go_wp2
        rw [HXK.out]
        go_roundw
        case rel => exact ⟨k + 1, by have := HXK.out; omega, by go_num, hb, hg⟩
        case measure => simp [intOf]; have := HXK.out; omega
      by_cases hc5 : x < 280 + 208 * (a : Int) + 16 * (b : Int)
      · obtain ⟨i, hi0, hi4, hlo, hhi, hq1, hq2⟩ : ∃ i, 0 ≤ i ∧ i < (b : Int) ∧ 280 + 208 * (a : Int) + 16 * i ≤ x ∧ x < 280 + 208 * (a : Int) + 16 * i + 16 ∧ (x - (280 + 208 * (a : Int))) / 16 = i ∧ (x - (280 + 208 * (a : Int))) % 16 = x - (280 + 208 * (a : Int) + 16 * i) := ⟨(x - (280 + 208 * (a : Int))) / 16, by omega, by omega, by omega, by omega, rfl, by omega⟩
        have hv0 := wh_inode Hm.out (x := x) (by omega) hc5
        rw [hq1, hq2] at hv0
        have hv := hv0
        rw [hv] at HWh
        unfold WhereIs at HWh
        have HWH := Lib.hid HWh
        have HP := Lib.hid (A7.out i ⟨hi0, hi4⟩)
        have r0 : 0 ≤ 280 + 208 * (a : Int) + 16 * i := by omega
        have r1 : 280 + 208 * (a : Int) + 16 * i ≤ x := by omega
        have r3 : 280 + 208 * (a : Int) + 16 * i ≤ 10000 := by omega
        have r4 : x ≤ 10000 := by omega
        obtain ⟨s, hs⟩ : ∃ s, s = 280 + 208 * (a : Int) + 16 * i := ⟨_, rfl⟩
        rw [← hs] at HWH HP r0 r1 r3
        have r2 : 0 ≤ x - s := by omega
        have hw : IntKind.i64.wrap (s + (x - s)) = x := (by rw [show s + (x - s) = x from by omega]; exact IntWalk.i64_in _ ⟨by omega, by omega⟩)
        have hq : s + (x - s) = x := by omega
        clear hv HWh hs hv0 HT1 hxk hc1 hc8 hc2 hc3 hc4 hc5 hlo hhi hq1 hq2
        have f0 : wr.cell? ⟨G, 0, none⟩ = some (.int .i64 a) := by simp [World.cell?, hb]
        have f1 : wr.cell? ⟨G, 1, none⟩ = some (.int .i64 b) := by simp [World.cell?, hb]
        have f2 : wr.cell? ⟨G, 2, none⟩ = some (.int .i64 c) := by simp [World.cell?, hb]
        go_wp2_with fail
        refine (HWH.out _).mono ?_
        rintro e w2 ⟨rfl, hgx⟩
        have hb := (hgx.block _ (lt_of_block hb) (by simp)).trans hb
        have hg := grown_trans hg hgx
        clear hgx f0 f1 f2
        have f0 : w2.cell? ⟨G, 0, none⟩ = some (.int .i64 a) := by simp [World.cell?, hb]
        have f1 : w2.cell? ⟨G, 1, none⟩ = some (.int .i64 b) := by simp [World.cell?, hb]
        have f2 : w2.cell? ⟨G, 2, none⟩ = some (.int .i64 c) := by simp [World.cell?, hb]
        go_wp2_with fail
        refine (HP.out _).mono ?_
        rintro e w3 ⟨rfl, hgx⟩
        have hb := (hgx.block _ (lt_of_block hb) (by simp)).trans hb
        have hg := grown_trans hg hgx
        clear hgx f0 f1 f2
        go_wp2
        rw [HXK.out]
        go_roundw
        case rel => exact ⟨k + 1, by have := HXK.out; omega, by go_num, hb, hg⟩
        case measure => simp [intOf]; have := HXK.out; omega
      obtain ⟨i, hi0, hi4, hlo, hhi, hq1, hq2⟩ : ∃ i, 0 ≤ i ∧ i < (c : Int) ∧ 280 + 208 * (a : Int) + 16 * (b : Int) + 8 * i ≤ x ∧ x < 280 + 208 * (a : Int) + 16 * (b : Int) + 8 * i + 8 ∧ (x - (280 + 208 * (a : Int) + 16 * (b : Int))) / 8 = i ∧ (x - (280 + 208 * (a : Int) + 16 * (b : Int))) % 8 = x - (280 + 208 * (a : Int) + 16 * (b : Int) + 8 * i) := ⟨(x - (280 + 208 * (a : Int) + 16 * (b : Int))) / 8, by omega, by omega, by omega, by omega, rfl, by omega⟩
      have hv0 := wh_block Hm.out (x := x) (by omega) (by omega)
      rw [hq1, hq2] at hv0
      have hv := hv0
      rw [hv] at HWh
      unfold WhereIs at HWh
      have HWH := Lib.hid HWh
      have HP := Lib.hid (A8.out i ⟨hi0, hi4⟩)
      have r0 : 0 ≤ 280 + 208 * (a : Int) + 16 * (b : Int) + 8 * i := by omega
      have r1 : 280 + 208 * (a : Int) + 16 * (b : Int) + 8 * i ≤ x := by omega
      have r3 : 280 + 208 * (a : Int) + 16 * (b : Int) + 8 * i ≤ 10000 := by omega
      have r4 : x ≤ 10000 := by omega
      obtain ⟨s, hs⟩ : ∃ s, s = 280 + 208 * (a : Int) + 16 * (b : Int) + 8 * i := ⟨_, rfl⟩
      rw [← hs] at HWH HP r0 r1 r3
      have r2 : 0 ≤ x - s := by omega
      have hw : IntKind.i64.wrap (s + (x - s)) = x := (by rw [show s + (x - s) = x from by omega]; exact IntWalk.i64_in _ ⟨by omega, by omega⟩)
      have hq : s + (x - s) = x := by omega
      clear hv HWh hs hv0 HT1 hxk hc1 hc8 hc2 hc3 hc4 hc5 hlo hhi hq1 hq2
      have f0 : wr.cell? ⟨G, 0, none⟩ = some (.int .i64 a) := by simp [World.cell?, hb]
      have f1 : wr.cell? ⟨G, 1, none⟩ = some (.int .i64 b) := by simp [World.cell?, hb]
      have f2 : wr.cell? ⟨G, 2, none⟩ = some (.int .i64 c) := by simp [World.cell?, hb]
      go_wp2_with fail
      refine (HWH.out _).mono ?_
      rintro e w2 ⟨rfl, hgx⟩
      have hb := (hgx.block _ (lt_of_block hb) (by simp)).trans hb
      have hg := grown_trans hg hgx
      clear hgx f0 f1 f2
      have f0 : w2.cell? ⟨G, 0, none⟩ = some (.int .i64 a) := by simp [World.cell?, hb]
      have f1 : w2.cell? ⟨G, 1, none⟩ = some (.int .i64 b) := by simp [World.cell?, hb]
      have f2 : w2.cell? ⟨G, 2, none⟩ = some (.int .i64 c) := by simp [World.cell?, hb]
      go_wp2_with fail
      refine (HP.out _).mono ?_
      rintro e w3 ⟨rfl, hgx⟩
      have hb := (hgx.block _ (lt_of_block hb) (by simp)).trans hb
      have hg := grown_trans hg hgx
      clear hgx f0 f1 f2
      go_wp2
      rw [HXK.out]
      go_roundw
      case rel => exact ⟨k + 1, by have := HXK.out; omega, by go_num, hb, hg⟩
      case measure => simp [intOf]; have := HXK.out; omega
    · have hkT' : ¬ (k : Int) < T := by omega
      have HKT := Lib.hid (show (k : Int) = T by omega)
      have hz : whereV (a : Int) (b : Int) (c : Int) T = (0, 0, 0, 0) := wh_zero (Or.inr (Or.inr (by rw [HT.out]; omega)))
      have HWh := fun wx => A0.out T (by omega) wx
      rw [hz] at HWh
      unfold WhereIs at HWh
      have HWH := Lib.hid HWh
      clear HWh hz hk hkT
      have f0 : wr.cell? ⟨G, 0, none⟩ = some (.int .i64 a) := by simp [World.cell?, hb]
      have f1 : wr.cell? ⟨G, 1, none⟩ = some (.int .i64 b) := by simp [World.cell?, hb]
      have f2 : wr.cell? ⟨G, 2, none⟩ = some (.int .i64 c) := by simp [World.cell?, hb]
      go_wp2_with fail
      refine (HWH.out _).mono ?_
      rintro e w2 ⟨rfl, hgx⟩
      have hb := (hgx.block _ (lt_of_block hb) (by simp)).trans hb
      have hg := grown_trans hg hgx
      clear hgx f0 f1 f2
      have f0 : w2.cell? ⟨G, 0, none⟩ = some (.int .i64 a) := by simp [World.cell?, hb]
      have f1 : w2.cell? ⟨G, 1, none⟩ = some (.int .i64 b) := by simp [World.cell?, hb]
      have f2 : w2.cell? ⟨G, 2, none⟩ = some (.int .i64 c) := by simp [World.cell?, hb]
      go_wp2_with fail
      refine (HF.out _).mono ?_
      rintro e w3 ⟨g, rfl, hrow, hgl, hgx⟩
      have hb := (hgx.block _ (lt_of_block hb) (by simp)).trans hb
      have hg := grown_trans hg hgx
      have hW := row_words hrow Hlt.out (by have := HLn.out; omega)
      have hof := Of_any (some ⟨g, 0, none⟩) _ xs.length _ w3 hW
      rw [HO.out] at hof
      unfold OfIs gv at hof
      dsimp only at hof
      have HOf := Lib.hid hof
      have hxl := HLn.out
      clear hgx hof hW hrow hgl f0 f1 f2
      generalize xs.length = L at HOf hxl
      go_wp2_with fail
      refine HOf.out.mono ?_
      rintro e w4 ⟨rfl, hgx⟩
      have hb := (hgx.block _ (lt_of_block hb) (by simp)).trans hb
      have hg := grown_trans hg hgx
      clear hgx HOf
      have hb := ((World.grownBy_alloc w4 (.cells #[.int .i64 (a : Int), .int .i64 (b : Int), .int .i64 (c : Int)] 23) none).block _ (lt_of_block hb) (by simp)).trans hb
      have f0 : (w4.alloc (.cells #[.int .i64 (a : Int), .int .i64 (b : Int), .int .i64 (c : Int)] 23)).cell? ⟨G, 0, none⟩ = some (.int .i64 a) := by simp [World.cell?, hb]
      have f1 : (w4.alloc (.cells #[.int .i64 (a : Int), .int .i64 (b : Int), .int .i64 (c : Int)] 23)).cell? ⟨G, 1, none⟩ = some (.int .i64 b) := by simp [World.cell?, hb]
      have f2 : (w4.alloc (.cells #[.int .i64 (a : Int), .int .i64 (b : Int), .int .i64 (c : Int)] 23)).cell? ⟨G, 2, none⟩ = some (.int .i64 c) := by simp [World.cell?, hb]
      go_wp2_with fail
      refine (works_any _).mono ?_
      rintro e wz ⟨rfl, hgx⟩
      have hg := grown_trans (grown_trans hg (World.grownBy_alloc w4 _ none)) hgx
      go_wp2
      go_ret
      exact ⟨rfl, hg⟩

theorem walk (x y z : Int) (w : World) (wx : (Lit.int .u16 x).wf = true) (wy : (Lit.int .u16 y).wf = true) (wz : (Lit.int .u16 z).wf = true) : Calls Try.prog 6 #[.int .u16 x, .int .u16 y, .int .u16 z] w (WorksIs w) := by
  have bx := bounds_u16 wx
  have by_ := bounds_u16 wy
  have bz := bounds_u16 wz
  obtain ⟨x, rfl⟩ := Int.eq_ofNat_of_zero_le bx.1
  obtain ⟨y, rfl⟩ := Int.eq_ofNat_of_zero_le by_.1
  obtain ⟨z, rfl⟩ := Int.eq_ofNat_of_zero_le bz.1
  exact walk_at x y z (by omega) (by omega) (by omega) w
end Go.Proofs.Ytfmpamgflnklpaa.layoutWhole
