/- BitmapTwo, walked. -/
import Derived.Test.YtjjdggdbohjjnaaDoorTwoMath
namespace Go.Proofs.YtjjdggdbohjjnaaDoor.bitmapTwo
open Go.RowKit Go.Grommet

set_option maxRecDepth 100000 in
set_option maxHeartbeats 1000000 in
theorem walk_far (a0 : Option Addr) (l0 c0 : Nat) (a1 : Int) (w : World) (ht : Lib.TabIs Tryd.prog w "math/bits.deBruijn64tab" .u8 tab) (h : 100 < l0) :
    Calls Tryd.prog 7 #[.slice a0 l0 c0, .int .u8 a1] w (Go.Ev.WorksIs w) := by
  have HW := Lib.hid (works_tab w ht)
  clear ht
  have g1 : (100 : Int) < (l0 : Int) := by omega
  go_enter Tryd.func7, Tryd.ntmps7
  go_wp2_with fail
  refine HW.out.mono ?_
  rintro e w5 ⟨rfl, hg⟩
  go_wp2
  go_ret
  exact ⟨rfl, hg⟩

def xs4 : List Nat := [0, 0, 0, 0]
theorem made4 : List.take (4 * 1) (madeCells (Value.int .u64 0).cells 4).toList = xs4.map wv := by
  show List.take (4 * 1) (madeCells #[Value.int .u64 0] 4).toList = _
  rw [toList_madeCells_one]; rfl
theorem xs4_small : ∀ n ∈ xs4, n < 18446744073709551616 := by decide
theorem xs4_zero (n : Nat) : xs4.getD n 0 = 0 := by
  unfold xs4
  match n with
  | 0 => rfl
  | 1 => rfl
  | 2 => rfl
  | 3 => rfl
  | n + 4 => rfl
theorem okA : MapOk xs4.length 0 128 := ⟨by decide, by decide, by decide⟩
theorem okB : MapOk xs4.length 2 128 := ⟨by decide, by decide, by decide⟩
theorem okC {n : Nat} (h1 : 1 ≤ n) (h2 : n ≤ 128) : MapOk xs4.length 0 n := ⟨h1, by show _ ≤ 4; omega, by decide⟩

structure Bel (L : List (Nat × Nat)) : Prop where
  below : ∀ p ∈ L, p.1 < 2
theorem Bel.two {L : List (Nat × Nat)} (h : Bel L) (j : Nat) : mbit xs4 L 2 j = false := by
  unfold mbit
  rw [got_beyond h.below _ (by omega), xs4_zero, Nat.zero_testBit]

set_option maxRecDepth 100000 in
set_option maxHeartbeats 4000000 in
theorem walk_at (a0 : Option Addr) (l0 c0 : Nat) (zs : List Int) (S : Nat) (w : World) (hz : zs.length = l0) (hat : At w a0 (zs.map (Value.int .u16))) (hzs : ∀ z ∈ zs, 0 ≤ z ∧ z ≤ 65535) (hS : S ≤ 255) (h1 : l0 ≤ 100)
    (ht : Lib.TabIs Tryd.prog w "math/bits.deBruijn64tab" .u8 tab) :
    Calls Tryd.prog 7 #[.slice a0 l0 c0, .int .u8 (S : Int)] w (Go.Ev.WorksIs w) := by
  have HT := Lib.hid ht
  have HZ := Lib.hid hz
  have g1 : ¬ (100 : Int) < (l0 : Int) := by omega
  obtain ⟨n, hn⟩ : ∃ n, 1 + S % 128 = n := ⟨_, rfl⟩
  have hn1 : 1 ≤ n := by omega
  have hn2 : n ≤ 128 := by omega
  have eS : IntKind.i64.wrap (S : Int) = (S : Int) := IntWalk.i64_in _ ⟨by omega, by omega⟩
  have e3 : IntKind.i64.wrap (1 + (S : Int) % 128) = (n : Int) := by rw [IntWalk.i64_in _ ⟨by omega, by omega⟩]; omega
  have e3' : 1 + (S : Int) % 128 = (n : Int) := by omega
  clear hn hz ht
  obtain ⟨i0, hi0, hz0, hz1, hz2⟩ : ∃ i, Tryd.prog.info? 51 = some i ∧ i.zero = some (.int .u64 0) ∧ i.size = 1 ∧ i.bytes = 8 := by
    have h := Tryd.info51
    cases hq : Tryd.prog.info? 51 with
    | none => rw [hq] at h; cases h
    | some i =>
      rw [hq] at h
      simp only [Option.map_some, Option.some.injEq, Prod.mk.injEq] at h
      exact ⟨i, rfl, h.1, h.2.1, h.2.2⟩
  go_enter Tryd.func7, Tryd.ntmps7
  go_wp2_with (refine wpList_make_whole _ rfl _ _ 22 rfl 51 i0 (.int .u64 0) Tryd.underlying22 hi0 hz0 hz1 _ _ _ 4 rfl rfl rfl ?m1 ?m2 ?_)

  case m2 => unfold maxLen; omega
  intro w1 hrow1 hg1
  have hO : Grommet.Own w w1 [rowP 51 1 (.slice (some ⟨w.heap.size, 0, none⟩) 4 4) 4 (xs4.map wv)] := (Own.nil w).addRow ⟨by simp [xs4], .inr ⟨w.heap.size, 4, _, rfl, Nat.le_refl _, hrow1, Nat.le_refl _, by unfold maxLen; omega, by rw [size_madeCells], made4⟩⟩ hg1
  obtain ⟨qk, hqk⟩ : ∃ q, w.heap.size = q := ⟨_, rfl⟩
  rw [hqk] at hO ⊢
  clear hqk hrow1 hg1 hi0 hz0 hz1 hz2
  have hx := (Own.words hO 0 rfl xs4_small (by omega)).1
  have HN := Lib.hid (NewH (some ⟨qk, 0, none⟩) 4 4 xs4 w w1 _ hO hx (by omega) (by simp))
  clear hO hx
  go_wp2_with fail
  refine HN.out.mono ?_
  rintro e u1 ⟨g, rfl, hO⟩
  clear HN
  have HOf := Lib.hid (MOfH 1 g 0 128 xs4 [] w u1 _ hO rfl okA)
  rw [show ((0 : Nat) : Int) = 0 from rfl, show ((128 : Nat) : Int) = 128 from rfl] at HOf
  clear hO
  go_wp2_with fail
  refine HOf.out.mono ?_
  rintro e u2 ⟨X1, rfl, hO, _⟩
  clear HOf
  have HOf := Lib.hid (MOfH 1 g 2 128 xs4 [] w u2 _ hO rfl okB)
  rw [show ((2 : Nat) : Int) = 2 from rfl, show ((128 : Nat) : Int) = 128 from rfl] at HOf
  clear hO
  go_wp2_with fail
  refine HOf.out.mono ?_
  rintro e u3 ⟨X2, rfl, hO, _⟩
  clear HOf
  have HOf := Lib.hid (MOfH 1 g 0 n xs4 [] w u3 _ hO rfl (okC hn1 hn2))
  rw [show ((0 : Nat) : Int) = 0 from rfl] at HOf
  clear hO
  go_wp2_with fail
  refine HOf.out.mono ?_
  rintro e u4 ⟨X3, rfl, hO, _⟩
  clear HOf eS e3 e3'
  have hO : Grommet.Own w u4 [rowP 51 1 (.slice (some ⟨qk, 0, none⟩) 4 4) 4 (xs4.map wv), viewP g xs4 [], mapP X1 g 0 128, mapP X2 g 2 128, mapP X3 g 0 n] := hO
  replace hO := Lib.hid hO
  go_wp2_with fail
  go_loopw [13] (fun i wr => ∃ (j : Nat) (L : List (Nat × Nat)), j ≤ l0 ∧ i = .int .i64 (j : Int) ∧ Hid (Bel L) ∧ Hid (Grommet.Own w wr [rowP 51 1 (.slice (some ⟨qk, 0, none⟩) 4 4) 4 (xs4.map wv), viewP g xs4 L, mapP X1 g 0 128, mapP X2 g 2 128, mapP X3 g 0 n])) (fun i _ => l0 - (intOf i).toNat)
  case atStart => exact ⟨0, [], Nat.zero_le _, rfl, Lib.hid ⟨by simp⟩, hO⟩
  case round =>
    clear hO
    obtain ⟨j, L, hj, rfl, hB, hO⟩ := hrel
    have j0 : (0 : Int) ≤ (j : Int) := by omega
    have hW := (Own.wl hO.out 1 rfl).1
    have hll : L.length ≤ 2 := few_below hW hB.out.below
    by_cases hlt : j < l0
    · have hlt' : (j : Int) < (l0 : Int) := by omega
      obtain ⟨z, hzj⟩ : ∃ z, zs[j]? = some z := ⟨_, List.getElem?_eq_getElem (by rw [HZ.out]; exact hlt)⟩
      have hb := hzs z (List.mem_of_getElem? hzj)
      obtain ⟨b0, o0, rfl, d0⟩ := (hat.grown hO.out.grown (by simp)) j (.int .u16 z) (by rw [List.getElem?_map, hzj]; rfl)
      obtain ⟨Z, rfl⟩ := Int.eq_ofNat_of_zero_le hb.1
      have hZ : Z ≤ 65535 := by omega
      obtain ⟨k, hk⟩ : ∃ k, Z % 128 = k := ⟨_, rfl⟩
      have hk1 : k < 128 := by omega
      have ek : (Z : Int) % 128 = (k : Int) := by omega
      have eZ : IntKind.i64.wrap (Z : Int) = (Z : Int) := IntWalk.i64_in _ ⟨by omega, by omega⟩
      have Hek := Lib.hid ek
      clear ek hb hzj hzs
      obtain ⟨is, his⟩ : ∃ is : Bool, decide (0 < Z % 3) = is := ⟨_, rfl⟩
      obtain ⟨L', hL'⟩ : ∃ L', setMI xs4 L 0 128 (k : Int) is = L' := ⟨_, rfl⟩
      have hB' : Bel L' := ⟨by rw [← hL']; exact setMI_below hB.out.below (fun i hi => by omega)⟩
      have hbit := mbit_set (xs := xs4) (L := L) (a := 0) (m := 128) (i := k) (is := is) (.inl (by omega)) (fun n => gotV_small xs4_small hW.val n) hk1 (by show _ < 4; omega) k
      rw [hL', if_pos rfl] at hbit
      have hin : inB (k : Int) ((128 : Nat) : Int) = true := by unfold inB; simp; omega
      have hse : (setME xs4 L 0 128 (k : Int) : Int) = 0 := by
        unfold setME putEI putE
        rw [hin, Int.toNat_natCast]
        simp only [if_true]
        rw [if_pos (by show _ ∧ _ < ((4 : Nat) : Int); omega), Int.toNat_natCast]
        split
        · rfl
        · rw [if_neg (by omega)]; rfl
      have HS := Lib.hid (MSetH 1 2 X1 g 0 128 xs4 L (k : Int) is 0 w wr _ _ hO.out rfl rfl okA hse (by rw [hL']))
      have hga : getM xs4 L' 0 128 (k : Int) = is := by unfold getM; rw [hin, Int.toNat_natCast, hbit]; rfl
      have hgc : getM xs4 L' 0 n (k : Int) = (decide (k < n) && is) := by
        unfold getM inB; rw [Int.toNat_natCast, hbit]; by_cases h : k < n <;> simp [h]
      have hcb : cntF (mbit xs4 L' 2) 128 = 0 := by rw [cntF_congr (g := fun _ => false) 128 (fun i _ => hB'.two i), cntF_none]
      replace hB' := Lib.hid hB'
      clear hO hin hbit hse hW hll
      rw [← Hek.out] at HS
      have wj : IntKind.i64.wrap ((j : Int) + 1) = (j : Int) + 1 := IntWalk.i64_in _ ⟨by omega, by omega⟩
      have hk' := Lib.hid hk
      have hL'' := Lib.hid hL'
      clear hk hL'
      by_cases h3 : 0 < Z % 3
      · have t3 : (0 : Int) < (Z : Int) % 3 := by omega
        have t4 : decide ((0 : Int) < (Z : Int) % 3) = true := by simpa using t3
        obtain rfl : true = is := by rw [← his]; simp; omega
        clear his h3
        by_cases hkn : k < n
        · have hgc' : getM xs4 L' 0 n (k : Int) = true := by rw [hgc]; simp [hkn]
          have n1 : (Z : Int) % 128 < (n : Int) := by rw [Hek.out]; omega
          have n2 : decide ((Z : Int) % 128 < (n : Int)) = true := by simpa using n1
          clear hgc
          go_wp2_with fail
          refine HS.out.mono ?_
          rintro e v1 ⟨rfl, hO⟩
          clear HS
          have HG3 := Lib.hid (MGetH 1 4 X3 g 0 n xs4 L' (k : Int) w v1 _ hO rfl rfl (okC hn1 hn2) true hgc')
          rw [← Hek.out] at HG3
          replace hO := Lib.hid hO
          go_wp2_with fail
          refine HG3.out.mono ?_
          rintro e v2 ⟨rfl, hg2⟩
          clear HG3
          have hO2 := hO.out.quiet hg2
          have HG1 := Lib.hid (MGetH 1 2 X1 g 0 128 xs4 L' (k : Int) w v2 _ hO2 rfl rfl okA true hga)
          rw [← Hek.out] at HG1
          clear hO hg2
          replace hO2 := Lib.hid hO2
          go_wp2_with fail
          refine HG1.out.mono ?_
          rintro e v3 ⟨rfl, hg3⟩
          clear HG1
          have hO3 := hO2.out.quiet hg3
          clear hO2 hg3
          have HC := Lib.hid (MCountH 1 3 X2 g 2 128 xs4 L' w v3 _ hO3 rfl rfl okB 0 hcb)
          rw [show ((0 : Nat) : Int) = 0 from rfl] at HC
          replace hO3 := Lib.hid hO3
          go_wp2_with fail
          refine HC.out.mono ?_
          rintro e v4 ⟨rfl, hg4⟩
          clear HC
          have hO4 := Lib.hid (hO3.out.quiet hg4)
          clear hO3 hg4
          go_wp2
          go_roundw
          case rel => exact ⟨j + 1, L', by omega, by go_num, hB', hO4⟩
          case measure => simp [intOf]; omega
        · have hgc' : getM xs4 L' 0 n (k : Int) = false := by rw [hgc]; simp [hkn]
          have n1 : ¬ (Z : Int) % 128 < (n : Int) := by rw [Hek.out]; omega
          have n2 : decide ((Z : Int) % 128 < (n : Int)) = false := by simpa using n1
          clear hgc
          go_wp2_with fail
          refine HS.out.mono ?_
          rintro e v1 ⟨rfl, hO⟩
          clear HS
          have HG3 := Lib.hid (MGetH 1 4 X3 g 0 n xs4 L' (k : Int) w v1 _ hO rfl rfl (okC hn1 hn2) false hgc')
          rw [← Hek.out] at HG3
          replace hO := Lib.hid hO
          go_wp2_with fail
          refine HG3.out.mono ?_
          rintro e v2 ⟨rfl, hg2⟩
          clear HG3
          have hO2 := hO.out.quiet hg2
          have hO3 := hO2
          clear hO hg2 hO2
          have HC := Lib.hid (MCountH 1 3 X2 g 2 128 xs4 L' w v2 _ hO3 rfl rfl okB 0 hcb)
          rw [show ((0 : Nat) : Int) = 0 from rfl] at HC
          replace hO3 := Lib.hid hO3
          go_wp2_with fail
          refine HC.out.mono ?_
          rintro e v4 ⟨rfl, hg4⟩
          clear HC
          have hO4 := Lib.hid (hO3.out.quiet hg4)
          clear hO3 hg4
          go_wp2
          go_roundw
          case rel => exact ⟨j + 1, L', by omega, by go_num, hB', hO4⟩
          case measure => simp [intOf]; omega
      · have t3 : ¬ (0 : Int) < (Z : Int) % 3 := by omega
        have t4 : decide ((0 : Int) < (Z : Int) % 3) = false := by simpa using t3
        obtain rfl : false = is := by rw [← his]; simp; omega
        clear his h3
        by_cases hkn : k < n
        · have hgc' : getM xs4 L' 0 n (k : Int) = false := by rw [hgc]; simp [hkn]
          have n1 : (Z : Int) % 128 < (n : Int) := by rw [Hek.out]; omega
          have n2 : decide ((Z : Int) % 128 < (n : Int)) = true := by simpa using n1
          clear hgc
          go_wp2_with fail
          refine HS.out.mono ?_
          rintro e v1 ⟨rfl, hO⟩
          clear HS
          have HG3 := Lib.hid (MGetH 1 4 X3 g 0 n xs4 L' (k : Int) w v1 _ hO rfl rfl (okC hn1 hn2) false hgc')
          rw [← Hek.out] at HG3
          replace hO := Lib.hid hO
          go_wp2_with fail
          refine HG3.out.mono ?_
          rintro e v2 ⟨rfl, hg2⟩
          clear HG3
          have hO2 := hO.out.quiet hg2
          have HG1 := Lib.hid (MGetH 1 2 X1 g 0 128 xs4 L' (k : Int) w v2 _ hO2 rfl rfl okA false hga)
          rw [← Hek.out] at HG1
          clear hO hg2
          replace hO2 := Lib.hid hO2
          go_wp2_with fail
          refine HG1.out.mono ?_
          rintro e v3 ⟨rfl, hg3⟩
          clear HG1
          have hO3 := hO2.out.quiet hg3
          clear hO2 hg3
          have HC := Lib.hid (MCountH 1 3 X2 g 2 128 xs4 L' w v3 _ hO3 rfl rfl okB 0 hcb)
          rw [show ((0 : Nat) : Int) = 0 from rfl] at HC
          replace hO3 := Lib.hid hO3
          go_wp2_with fail
          refine HC.out.mono ?_
          rintro e v4 ⟨rfl, hg4⟩
          clear HC
          have hO4 := Lib.hid (hO3.out.quiet hg4)
          clear hO3 hg4
          go_wp2
          go_roundw
          case rel => exact ⟨j + 1, L', by omega, by go_num, hB', hO4⟩
          case measure => simp [intOf]; omega
        · have hgc' : getM xs4 L' 0 n (k : Int) = false := by rw [hgc]; simp [hkn]
          have n1 : ¬ (Z : Int) % 128 < (n : Int) := by rw [Hek.out]; omega
          have n2 : decide ((Z : Int) % 128 < (n : Int)) = false := by simpa using n1
          clear hgc
          go_wp2_with fail
          refine HS.out.mono ?_
          rintro e v1 ⟨rfl, hO⟩
          clear HS
          have HG3 := Lib.hid (MGetH 1 4 X3 g 0 n xs4 L' (k : Int) w v1 _ hO rfl rfl (okC hn1 hn2) false hgc')
          rw [← Hek.out] at HG3
          replace hO := Lib.hid hO
          go_wp2_with fail
          refine HG3.out.mono ?_
          rintro e v2 ⟨rfl, hg2⟩
          clear HG3
          have hO2 := hO.out.quiet hg2
          have hO3 := hO2
          clear hO hg2 hO2
          have HC := Lib.hid (MCountH 1 3 X2 g 2 128 xs4 L' w v2 _ hO3 rfl rfl okB 0 hcb)
          rw [show ((0 : Nat) : Int) = 0 from rfl] at HC
          replace hO3 := Lib.hid hO3
          go_wp2_with fail
          refine HC.out.mono ?_
          rintro e v4 ⟨rfl, hg4⟩
          clear HC
          have hO4 := Lib.hid (hO3.out.quiet hg4)
          clear hO3 hg4
          go_wp2
          go_roundw
          case rel => exact ⟨j + 1, L', by omega, by go_num, hB', hO4⟩
          case measure => simp [intOf]; omega
    · have hlt' : ¬ (j : Int) < (l0 : Int) := by omega
      have hB0 : ClrR (mbit xs4 L 2) 128 0 true := .inl ⟨rfl, 0, rfl, by decide, hB.out.two 0, fun i hi => by omega⟩
      obtain ⟨p, so, hp⟩ := clrR_ex (mbit xs4 L 0) n
      obtain ⟨q, too, hq⟩ := clrR_ex (mbit xs4 L 0) 128
      obtain ⟨hs1, hs2⟩ := clr_shorter hn2 hp hq
      have HC := Lib.hid (MClearH 1 3 X2 g 2 128 xs4 L w wr _ hO.out rfl rfl okB HT.out 0 true hB0)
      have hg2z : gotI xs4 L 2 = 0 := by unfold gotI; rw [if_pos (by decide)]; rw [got_beyond hB.out.below _ (by decide), xs4_zero]
      have hg3z : gotI xs4 L 3 = 0 := by unfold gotI; rw [if_pos (by decide)]; rw [got_beyond hB.out.below _ (by decide), xs4_zero]
      clear hW hll
      go_wp2_with fail
      refine HC.out.mono ?_
      rintro e v1 ⟨rfl, hg1⟩
      clear HC
      have hO1 := hO.out.quiet hg1
      have HC := Lib.hid (MClearH 1 4 X3 g 0 n xs4 L w v1 _ hO1 rfl rfl (okC hn1 hn2) HT.out p so hp)
      clear hO hg1
      replace hO1 := Lib.hid hO1
      go_wp2_with fail
      refine HC.out.mono ?_
      rintro e v2 ⟨rfl, hg2⟩
      clear HC
      have hO2 := hO1.out.quiet hg2
      have HC := Lib.hid (MClearH 1 2 X1 g 0 128 xs4 L w v2 _ hO2 rfl rfl okA HT.out q too hq)
      clear hO1 hg2
      replace hO2 := Lib.hid hO2
      go_wp2_with fail
      refine HC.out.mono ?_
      rintro e v3 ⟨rfl, hg3⟩
      clear HC
      have hO3 := hO2.out.quiet hg3
      have HG2 := Lib.hid (GetH 1 g xs4 L 2 w v3 _ hO3 rfl)
      have HG3 := Lib.hid (GetH 1 g xs4 L 3 w v3 _ hO3 rfl)
      rw [hg2z] at HG2
      rw [hg3z] at HG3
      rw [show ((0 : Nat) : Int) = 0 from rfl] at HG2 HG3
      have hgr := Lib.hid hO3.grown
      have HWk := Lib.hid (works_tab v3 (tab_grown HT.out hgr.out))
      clear hO2 hg3 hO3 hg2z hg3z hp hq hB0 hB
      cases too with
      | false =>
        obtain rfl : so = false := by simpa using hs1
        clear hs1 hs2
        go_wp2_with fail
        refine HG2.out.mono ?_
        rintro e v4 ⟨rfl, rfl⟩
        go_wp2_with fail
        refine HG3.out.mono ?_
        rintro e v4 ⟨rfl, rfl⟩
        go_wp2_with fail
        refine HWk.out.mono ?_
        rintro e v5 ⟨rfl, hg5⟩
        have hfin := Lib.hid (grown_trans hgr.out hg5)
        clear hg5
        go_wp2
        go_ret
        exact ⟨rfl, hfin.out⟩
      | true =>
        by_cases hqn : q < (n : Int)
        · obtain rfl : so = true := by rw [hs1]; simpa using hqn
          obtain rfl := hs2 rfl
          have n2 : decide (p < (n : Int)) = true := by simpa using hqn
          clear hs1 hs2
          go_wp2_with fail
          refine HG2.out.mono ?_
          rintro e v4 ⟨rfl, rfl⟩
          go_wp2_with fail
          refine HG3.out.mono ?_
          rintro e v4 ⟨rfl, rfl⟩
          go_wp2_with fail
          refine HWk.out.mono ?_
          rintro e v5 ⟨rfl, hg5⟩
          have hfin := Lib.hid (grown_trans hgr.out hg5)
          clear hg5
          go_wp2
          go_ret
          exact ⟨rfl, hfin.out⟩
        · obtain rfl : so = false := by rw [hs1]; simp; omega
          have n2 : decide (q < (n : Int)) = false := by simpa using hqn
          clear hs1 hs2
          go_wp2_with fail
          refine HG2.out.mono ?_
          rintro e v4 ⟨rfl, rfl⟩
          go_wp2_with fail
          refine HG3.out.mono ?_
          rintro e v4 ⟨rfl, rfl⟩
          go_wp2_with fail
          refine HWk.out.mono ?_
          rintro e v5 ⟨rfl, hg5⟩
          have hfin := Lib.hid (grown_trans hgr.out hg5)
          clear hg5
          go_wp2
          go_ret
          exact ⟨rfl, hfin.out⟩

theorem walk (a0 : Option Addr) (l0 c0 : Nat) (z0 : List Int) (a1 : Int) (w : World) (w0 : RowIn .u16 w a0 l0 c0 z0) (w1 : (Lit.int .u8 a1).wf = true) (ht : Lib.TabIs Tryd.prog w "math/bits.deBruijn64tab" .u8 tab) :
    Calls Tryd.prog 7 #[.slice a0 l0 c0, .int .u8 a1] w (Go.Ev.WorksIs w) := by
  obtain ⟨hl, hat, hwf⟩ := w0.at
  have b1 := bounds_u8 w1
  obtain ⟨S, rfl⟩ := Int.eq_ofNat_of_zero_le b1.1
  by_cases h : 100 < l0
  · exact walk_far a0 l0 c0 S w ht h
  · exact walk_at a0 l0 c0 _ S w hl hat (fun z hz => bounds_u16 (hwf z hz)) (by omega) (by omega) ht
end Go.Proofs.YtjjdggdbohjjnaaDoor.bitmapTwo
