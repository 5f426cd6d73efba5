/- BitmapFills, walked. -/
import Derived.Test.YtjjdggdbohjjnaaDoorFillMath
namespace Go.Proofs.YtjjdggdbohjjnaaDoor.bitmapFills
open Go.RowKit Go.Grommet

set_option maxRecDepth 100000 in
set_option maxHeartbeats 1000000 in
theorem walk_far (a0 : Option Addr) (l0 c0 : Nat) (a1 a2 : Int) (w : World) (ht : Lib.TabIs Tryd.prog w "math/bits.deBruijn64tab" .u8 tab) (h : 50 < l0 ∨ l0 = 0) :
    Calls Tryd.prog 4 #[.slice a0 l0 c0, .int .u8 a1, .int .u8 a2] w (Go.Ev.WorksIs w) := by
  have HW := Lib.hid (works_tab w ht)
  clear ht
  rcases h with h | rfl
  · have g1 : (50 : Int) < (l0 : Int) := by omega
    have g2 : decide ((50 : Int) < (l0 : Int)) = true := by simpa using g1
    have g3 : decide (50 < l0) = true := by simpa using h
    go_enter Tryd.func4, Tryd.ntmps4
    go_wp2_with fail
    refine HW.out.mono ?_
    rintro e w5 ⟨rfl, hg⟩
    go_wp2
    go_ret
    exact ⟨rfl, hg⟩
  · go_enter Tryd.func4, Tryd.ntmps4
    go_wp2_with fail
    refine HW.out.mono ?_
    rintro e w5 ⟨rfl, hg⟩
    go_wp2
    go_ret
    exact ⟨rfl, hg⟩

set_option maxRecDepth 100000 in
set_option maxHeartbeats 4000000 in
theorem walk_at (a0 : Option Addr) (l0 c0 : Nat) (xs : List Nat) (A B : Nat) (w : World) (hx : Words w a0 l0 xs) (hnil : a0 = none → l0 = 0 ∧ c0 = 0) (hA : A ≤ 255) (hB : B ≤ 255) (h1 : 1 ≤ l0) (h2 : l0 ≤ 50)
    (ht : Lib.TabIs Tryd.prog w "math/bits.deBruijn64tab" .u8 tab) :
    Calls Tryd.prog 4 #[.slice a0 l0 c0, .int .u8 (A : Int), .int .u8 (B : Int)] w (Go.Ev.WorksIs w) := by
  have HT := Lib.hid ht
  have HX := Lib.hid hx.len
  have hsmall : ∀ n ∈ xs, n < 18446744073709551616 := hx.small
  have g2 : decide ((50 : Int) < (l0 : Int)) = false := by simp; omega
  have g3 : ((l0 : Int) == 0) = false := by simp; omega
  have g4 : decide (50 < l0) = false := by simp; omega
  obtain ⟨fr, hfr⟩ : ∃ r, A % l0 = r := ⟨_, rfl⟩
  have hfr1 : fr < l0 := by rw [← hfr]; exact Nat.mod_lt _ (by omega)
  obtain ⟨d, hd⟩ : ∃ d, l0 - fr = d := ⟨_, rfl⟩
  obtain ⟨W, hW⟩ : ∃ W, 64 * d = W := ⟨_, rfl⟩
  have hW0 : 64 ≤ W := by omega
  obtain ⟨r, hr⟩ : ∃ r, B % W = r := ⟨_, rfl⟩
  have hr1 : r < W := by rw [← hr]; exact Nat.mod_lt _ (by omega)
  obtain ⟨n, hn⟩ : ∃ n, 1 + r = n := ⟨_, rfl⟩
  obtain ⟨Z, hZ⟩ : ∃ Z, 64 * l0 = Z := ⟨_, rfl⟩
  obtain ⟨Y, hY⟩ : ∃ Y, 64 * fr = Y := ⟨_, rfl⟩
  have hM : MapOk xs.length fr n := ⟨by omega, by rw [HX.out]; omega, by rw [HX.out]; omega⟩
  have eA : IntKind.i64.wrap (A : Int) = (A : Int) := IntWalk.i64_in _ ⟨by omega, by omega⟩
  have eB : IntKind.i64.wrap (B : Int) = (B : Int) := IntWalk.i64_in _ ⟨by omega, by omega⟩
  have e1 : (A : Int) % (l0 : Int) = (fr : Int) := by rw [← hfr]; simp
  have e2 : IntKind.i64.wrap ((l0 : Int) - (fr : Int)) = (d : Int) := by rw [IntWalk.i64_in _ ⟨by omega, by omega⟩]; omega
  have e2' : (l0 : Int) - (fr : Int) = (d : Int) := by omega
  have e3 : IntKind.i64.wrap (64 * (d : Int)) = (W : Int) := by rw [IntWalk.i64_in _ ⟨by omega, by omega⟩]; omega
  have e3' : 64 * (d : Int) = (W : Int) := by omega
  have e4 : (B : Int) % (W : Int) = (r : Int) := by rw [← hr]; simp
  have e5 : IntKind.i64.wrap (1 + (r : Int)) = (n : Int) := by rw [IntWalk.i64_in _ ⟨by omega, by omega⟩]; omega
  have e5' : 1 + (r : Int) = (n : Int) := by omega
  have e6 := Lib.hid (show IntKind.i64.wrap (64 * (l0 : Int)) = (Z : Int) by rw [IntWalk.i64_in _ ⟨by omega, by omega⟩]; omega)
  have e6' := Lib.hid (show 64 * (l0 : Int) = (Z : Int) by omega)
  have e7 := Lib.hid (show IntKind.i64.wrap (64 * (fr : Int)) = (Y : Int) by rw [IntWalk.i64_in _ ⟨by omega, by omega⟩]; omega)
  have e7' := Lib.hid (show 64 * (fr : Int) = (Y : Int) by omega)
  have n1 : ¬ (l0 : Int) = 0 := by omega
  have n2 : ¬ (W : Int) = 0 := by omega
  have n3 : (0 : Int) < (l0 : Int) := by omega
  have n4 : (0 : Int) < (W : Int) := by omega
  have n5 : (0 : Int) ≤ (fr : Int) := by omega
  have HN := Lib.hid (NewH a0 l0 c0 xs w w [] (Own.nil w) hx (by omega) hnil)
  have hnZ : Y + n ≤ Z := by omega
  have hn1 : 1 ≤ n := by omega
  have hZ' := Lib.hid hZ
  have hY' := Lib.hid hY
  have hZl : Z ≤ 3200 := by omega
  clear hfr hd hr hn ht hZ hY hW
  go_enter Tryd.func4, Tryd.ntmps4
  go_wp2_with fail
  simp only [e1, e4]
  refine HN.out.mono ?_
  rintro e u1 ⟨g, rfl, hO⟩
  clear HN e1 e2 e2' e3 e3' e4 e5 e5' n1 n2 n3 n4 eA eB
  have HOf := Lib.hid (MOfH 0 g fr n xs [] w u1 _ hO rfl hM)
  clear hO
  go_wp2_with fail
  refine HOf.out.mono ?_
  rintro e u2 ⟨X, rfl, hO, _⟩
  clear HOf
  have hO : Grommet.Own w u2 [viewP g xs [], mapP X g fr n] := hO
  replace hO := Lib.hid hO
  have hV := fun L (hW : Wl xs.length L) (m : Nat) => gotV_small (L := L) hsmall hW.val m
  go_wp2_with fail
  go_loopw [12, 13] (fun la i wr => ∃ (z : Int) (t j : Nat) (L : List (Nat × Nat)), la = .int .i64 z ∧ i = .int .i64 (j : Int) ∧ Hid (z + 1 = (t : Int)) ∧ j ≤ t ∧ t ≤ n ∧ Hid (Fil xs fr t L) ∧ Hid (Grommet.Own w wr [viewP g xs L, mapP X g fr n])) (fun _ i _ => n + 1 - (intOf i).toNat)
  case atStart => exact ⟨-1, 0, 0, [], rfl, rfl, Lib.hid rfl, Nat.le_refl _, Nat.zero_le _, Lib.hid (Fil.nil xs fr), hO⟩
  case round =>
    clear hO
    obtain ⟨z, t, j, L, rfl, rfl, hz, hjt, htn, hF, hO⟩ := hrel
    have j0 : (0 : Int) ≤ (j : Int) := by omega
    have jn : (j : Int) ≤ (n : Int) := by omega
    obtain ⟨hW, _, _⟩ := Own.wl hO.out 0 rfl
    have hll : L.length ≤ 50 := by
      have := few_below (b := xs.length) hW hW.at_
      rw [HX.out] at this; omega
    obtain ⟨c, b, hc⟩ := clrR_ex (mbit xs L fr) n
    have HC := Lib.hid (MClearH 0 1 X g fr n xs L w wr _ hO.out rfl rfl hM HT.out c b hc)
    rcases hc with ⟨rfl, k, rfl, hkn, hf, hl⟩ | ⟨rfl, rfl, hl⟩
    · have htk : t ≤ k := by
        rcases Nat.lt_or_ge k t with e | e
        · rw [hF.out.bit, if_pos e] at hf; cases hf
        · exact e
      have ho : ∀ i, t ≤ i → i < k → mbit xs [] fr i = true := fun i h1 h2 => by
        have := hl i h2
        rwa [hF.out.bit, if_neg (by omega)] at this
      have hok : mbit xs [] fr k = false := by rwa [hF.out.bit, if_neg (by omega)] at hf
      have hkl : fr + k / 64 < l0 := by have := hZ'.out; have := hY'.out; omega
      obtain ⟨L', hL'⟩ : ∃ L', setMI xs L fr n (k : Int) true = L' := ⟨_, rfl⟩
      have hF' := hF.out.set (n := n) (k := k) (.inl (by omega)) (hV L hW) hkn (by rw [HX.out]; exact hkl) htk ho
      rw [hL'] at hF'
      replace hF' := Lib.hid hF'
      have hin : inB (k : Int) (n : Int) = true := by unfold inB; simp; omega
      have hse : (setME xs L fr n (k : Int) : Int) = 0 := by
        unfold setME putEI putE
        rw [hin, Int.toNat_natCast]
        simp only [if_true]
        rw [if_pos (by rw [HX.out]; omega), Int.toNat_natCast]
        split
        · rfl
        · rw [if_neg (by omega)]; rfl
      obtain ⟨q, rr, D, E, hq, hrr, f1, f2, f3, f4, f5, f6, f7, _⟩ := bit_facts _ k false ((mbit_orig xs fr k).symm.trans hok)
      rw [hq] at hkl f5
      obtain ⟨Q, hQ⟩ : ∃ Q, fr + q = Q := ⟨_, rfl⟩
      rw [hQ] at hkl f5
      have s1 : IntKind.i64.wrap ((fr : Int) + (q : Int)) = (Q : Int) := by rw [IntWalk.i64_in _ ⟨by omega, by omega⟩]; omega
      have s2 : (fr : Int) + (q : Int) = (Q : Int) := by omega
      have q0 : (Q : Int) < (l0 : Int) := by omega
      have q1 : (0 : Int) ≤ (Q : Int) := by omega
      have q2 : (0 : Int) ≤ (q : Int) := by omega
      have r0 : (0 : Int) ≤ (rr : Int) := by omega
      have t1 : ¬ (k : Int) ≤ z := by have := hz.out; omega
      have t2 : ¬ (n : Int) ≤ (k : Int) := by omega
      have t1' : decide ((k : Int) ≤ z) = false := by simpa using t1
      have t2' : decide ((n : Int) ≤ (k : Int)) = false := by simpa using t2
      have t3 : ((j : Int) == (n : Int)) = false := by simp; omega
      obtain ⟨V, hVe⟩ : ∃ V, xs.getD Q 0 = V := ⟨_, rfl⟩
      rw [hVe] at f5
      have hVe := Lib.hid hVe
      have hq := Lib.hid hq
      have hrr := Lib.hid hrr
      have hQ := Lib.hid hQ
      have hL' := Lib.hid hL'
      clear hl hf hok hin hll
      go_wp2_with fail
      refine HC.out.mono ?_
      rintro e v1 ⟨rfl, hg1⟩
      clear HC
      have hO1 : Grommet.Own w v1 [viewP g xs L, mapP X g fr n] := hO.out.quiet hg1
      obtain ⟨b0, o0, rfl, d0⟩ := (hx.keep hO1.grown (by simp)).cell Q hkl
      rw [hVe.out] at d0
      have HS := Lib.hid (MSetH 0 1 X g fr n xs L (k : Int) true 0 w v1 _ _ hO1 rfl rfl hM hse (by rw [hL'.out]))
      clear hO hg1 hO1 hse hW
      go_wp2_with fail
      refine HS.out.mono ?_
      rintro e v2 ⟨rfl, hO2⟩
      replace hO2 : Grommet.Own w v2 [viewP g xs L', mapP X g fr n] := hO2
      replace hO2 := Lib.hid hO2
      clear HS d0 f1 f2 f3 f4 f5 f6 f7 s1 s2 t1 t2 t1' t2'
      have z1 : IntKind.i64.wrap (z + 1) = (t : Int) := by rw [hz.out]; exact IntWalk.i64_in _ ⟨by omega, by omega⟩
      have wj : IntKind.i64.wrap ((j : Int) + 1) = (j : Int) + 1 := IntWalk.i64_in _ ⟨by omega, by omega⟩
      go_wp2_with fail
      try simp only [hz.out]
      clear z1
      go_loop [16] (fun s => ∃ i : Nat, t ≤ i ∧ i ≤ k ∧ s = .int .i64 (i : Int)) (fun s => k - (intOf s).toNat)
      case atStart => exact ⟨t, Nat.le_refl _, htk, rfl⟩
      case round =>
        obtain ⟨i, hi1, hi2, rfl⟩ := hrel
        have i0 : (0 : Int) ≤ (i : Int) := by omega
        by_cases hik : i < k
        · have hik' : (i : Int) < (k : Int) := by omega
          have hil : fr + i / 64 < l0 := by have := hQ.out; have := hq.out; omega
          obtain ⟨q', rr', D, E, hq', hrr', f1, f2, f3, f4, f5, f6, f7, hE⟩ := bit_facts _ i true ((mbit_orig xs fr i).symm.trans (ho i hi1 hik))
          rw [hq'] at hil f5
          obtain ⟨Q', hQ'⟩ : ∃ Q, fr + q' = Q := ⟨_, rfl⟩
          rw [hQ'] at hil f5
          have s1 : IntKind.i64.wrap ((fr : Int) + (q' : Int)) = (Q' : Int) := by rw [IntWalk.i64_in _ ⟨by omega, by omega⟩]; omega
          have s2 : (fr : Int) + (q' : Int) = (Q' : Int) := by omega
          have q0 : (Q' : Int) < (l0 : Int) := by omega
          have q1 : (0 : Int) ≤ (Q' : Int) := by omega
          have q2 : (0 : Int) ≤ (q' : Int) := by omega
          have r0 : (0 : Int) ≤ (rr' : Int) := by omega
          have wi : IntKind.i64.wrap ((i : Int) + 1) = (i : Int) + 1 := IntWalk.i64_in _ ⟨by omega, by omega⟩
          obtain ⟨_, _, hbo, d0⟩ := (hx.keep hO2.out.grown (by simp)).cell Q' hil
          cases hbo
          obtain ⟨V', hVe'⟩ : ∃ V, xs.getD Q' 0 = V := ⟨_, rfl⟩
          rw [hVe'] at d0 f5
          have f8 : ((E : Int) == 0) = false := by
            have : E = 1 := by simp at f7; omega
            subst this; rfl
          have hq' := Lib.hid hq'
          have hrr' := Lib.hid hrr'
          have hQ' := Lib.hid hQ'
          have hVe' := Lib.hid hVe'
          clear f7 hE ho
          go_wp2
          go_round
          case rel => exact ⟨i + 1, by omega, by omega, by go_num⟩
          case measure => simp [intOf]; omega
        · obtain rfl : i = k := by omega
          have hik' : ¬ (i : Int) < (i : Int) := by omega
          go_wp2
          go_roundw
          case rel => exact ⟨i, i + 1, j + 1, L', rfl, by go_num, Lib.hid rfl, by omega, by omega, hF', hO2⟩
          case measure => simp [intOf]; omega
    · have hend := Lib.hid (fun i => hF.out.done htn hl i)
      have hcn : cntF (mbit xs L fr) n = n := by
        rw [cntF_congr (g := fun _ => true) n hl]
        have : ∀ m, cntF (fun _ => true) m = m := fun m => by
          induction m with
          | zero => rfl
          | succ m ih => show cntF (fun _ => true) m + 1 = _; rw [ih]
        exact this n
      clear hl hll
      go_wp2_with fail
      refine HC.out.mono ?_
      rintro e v1 ⟨rfl, hg1⟩
      clear HC
      have hO1 : Grommet.Own w v1 [viewP g xs L, mapP X g fr n] := hO.out.quiet hg1
      have HFl := Lib.hid (FlatH 0 g xs L w v1 _ hO1 rfl)
      rw [HX.out] at HFl
      clear hO hg1 hO1
      go_wp2_with fail
      refine HFl.out.mono ?_
      rintro e v2 ⟨ad, cp, rfl, hO2⟩
      clear HFl
      have HCt := Lib.hid (MCountH 0 1 X g fr n xs L w v2 _ hO2 rfl rfl hM n hcn)
      replace hO2 := Lib.hid hO2
      go_wp2_with fail
      refine HCt.out.mono ?_
      rintro e v3 ⟨rfl, hg3⟩
      clear HCt
      have hO3 : Grommet.Own w v3 [viewP g xs L, mapP X g fr n, rowP 51 1 (.slice ad l0 cp) l0 ((flatV xs L).map wv)] := hO2.out.quiet hg3
      clear hO2 hg3
      replace hO3 := Lib.hid hO3
      go_wp2_with fail
      go_loopw [18] (fun s wx => ∃ i : Nat, i ≤ Z ∧ s = .int .i64 (i : Int) ∧ wx = v3) (fun s _ => Z - (intOf s).toNat)
      case atStart => exact ⟨0, Nat.zero_le _, rfl, rfl⟩
      case round =>
        obtain ⟨i, hi, rfl, rfl⟩ := hrel
        have a1 := e6.out
        have a2 := e6'.out
        have a3 := e7.out
        have a4 := e7'.out
        have i0 : (0 : Int) ≤ (i : Int) := by omega
        by_cases hlt : i < Z
        · have hlt' : (i : Int) < (Z : Int) := by omega
          have hil : i / 64 < l0 := by have := hZ'.out; omega
          have hb := hend.out i
          rw [← flat_get hW _ (by rw [HX.out]; exact hil), hY'.out] at hb
          obtain ⟨q, rr, D, E, hq, hrr, f1, f2, f3, f4, f5, f6, f7, hE⟩ := bit_facts _ i _ hb
          obtain ⟨b', hb'⟩ : ∃ b', (xs.getD (i / 64) 0).testBit (i % 64) = b' := ⟨_, rfl⟩
          obtain ⟨_, _, D', E', rfl, rfl, _, _, _, _, h5, h6, h7, hE'⟩ := bit_facts _ i b' hb'
          rw [hb'] at f7
          rw [hq] at hil f5 h5
          rw [hrr] at h5
          obtain ⟨bx, rfl, d1, _, hcp⟩ := Own.word hO3.out 2 rfl (by rw [flatV_length]; exact HX.out) q hil
          obtain ⟨b0, o0, rfl, d0⟩ := (hx.keep hO3.out.grown (by simp)).cell q hil
          obtain ⟨V, hVe⟩ : ∃ V, xs.getD q 0 = V := ⟨_, rfl⟩
          obtain ⟨U, hUe⟩ : ∃ U, (flatV xs L).getD q 0 = U := ⟨_, rfl⟩
          rw [hVe] at d0 h5
          rw [hUe] at d1 f5
          have q0 : (q : Int) < (l0 : Int) := by omega
          have q1 : (0 : Int) ≤ (q : Int) := by omega
          have r0 : (0 : Int) ≤ (rr : Int) := by omega
          have wi : IntKind.i64.wrap ((i : Int) + 1) = (i : Int) + 1 := IntWalk.i64_in _ ⟨by omega, by omega⟩
          have wy : IntKind.i64.wrap ((Y : Int) + (n : Int)) = (Y : Int) + (n : Int) := IntWalk.i64_in _ ⟨by omega, by omega⟩
          have hq := Lib.hid hq
          have hrr := Lib.hid hrr
          have hVe := Lib.hid hVe
          have hUe := Lib.hid hUe
          clear hb hb'
          by_cases hm : Y ≤ i ∧ i < Y + n
          · rw [if_pos hm] at f7
            have hE1 : E = 1 := by simp at f7; omega
            subst hE1
            obtain ⟨hm1, hm2⟩ := hm
            have m1 : (Y : Int) ≤ (i : Int) := by omega
            have m2 : (i : Int) < (Y : Int) + (n : Int) := by omega
            have m1' : decide ((Y : Int) ≤ (i : Int)) = true := by simpa using m1
            have m2' : decide ((i : Int) < (Y : Int) + (n : Int)) = true := by simpa using m2
            have x1 : (((1 : Nat) : Int) != 1) = false := rfl
            clear f7 h7 hE hE'
            go_wp2
            go_roundw
            case rel => exact ⟨i + 1, by omega, by go_num, trivial⟩
            case measure => simp [intOf]; omega
          · rw [if_neg hm] at f7
            have hEE : E = E' := by
              have e1 : E ≤ 1 := hE
              cases b' <;> simp at f7 h7 <;> omega
            subst hEE
            have x1 : ((E : Int) != (E : Int)) = false := by simp
            clear f7 h7 hE hE'
            by_cases hm1 : Y ≤ i
            · have m1 : (Y : Int) ≤ (i : Int) := by omega
              have m2 : ¬ (i : Int) < (Y : Int) + (n : Int) := by omega
              have m1' : decide ((Y : Int) ≤ (i : Int)) = true := by simpa using m1
              have m2' : decide ((i : Int) < (Y : Int) + (n : Int)) = false := by simpa using m2
              clear hm hm1
              go_wp2
              go_roundw
              case rel => exact ⟨i + 1, by omega, by go_num, trivial⟩
              case measure => simp [intOf]; omega
            · have m1 : ¬ (Y : Int) ≤ (i : Int) := by omega
              have m1' : decide ((Y : Int) ≤ (i : Int)) = false := by simpa using m1
              clear hm hm1
              go_wp2
              go_roundw
              case rel => exact ⟨i + 1, by omega, by go_num, trivial⟩
              case measure => simp [intOf]; omega
        · have hlt' : ¬ (i : Int) < (Z : Int) := by omega
          have hg := Lib.hid hO3.out.grown
          rename_i wx
          have HWk := Lib.hid (fun v => works_tab v)
          have HTg := Lib.hid (tab_grown HT.out hg.out)
          go_wp2_with fail
          refine (HWk.out _ HTg.out).mono ?_
          rintro e w5 ⟨rfl, hg5⟩
          have hfin := Lib.hid (grown_trans hg.out hg5)
          clear hg5
          go_wp2
          go_ret
          exact ⟨rfl, hfin.out⟩

theorem walk (a0 : Option Addr) (l0 c0 : Nat) (z0 : List Int) (a1 a2 : Int) (w : World) (w0 : RowIn .u64 w a0 l0 c0 z0) (w1 : (Lit.int .u8 a1).wf = true) (w2 : (Lit.int .u8 a2).wf = true) (ht : Lib.TabIs Tryd.prog w "math/bits.deBruijn64tab" .u8 tab) :
    Calls Tryd.prog 4 #[.slice a0 l0 c0, .int .u8 a1, .int .u8 a2] w (Go.Ev.WorksIs w) := by
  obtain ⟨xs, hx⟩ := rowIn_words w0
  have b1 := bounds_u8 w1
  have b2 := bounds_u8 w2
  obtain ⟨A, rfl⟩ := Int.eq_ofNat_of_zero_le b1.1
  obtain ⟨B, rfl⟩ := Int.eq_ofNat_of_zero_le b2.1
  by_cases h : 50 < l0 ∨ l0 = 0
  · exact walk_far a0 l0 c0 A B w ht h
  · exact walk_at a0 l0 c0 xs A B w hx (fun e => w0.nil e) (by omega) (by omega) (by omega) (by omega) ht
end Go.Proofs.YtjjdggdbohjjnaaDoor.bitmapFills
