/- BitmapOne, walked. -/
import Derived.Test.YtjjdggdbohjjnaaDoorBitI
namespace Go.Proofs.YtjjdggdbohjjnaaDoor.bitmapOne
open Go.RowKit Go.Grommet

set_option maxRecDepth 100000 in
set_option maxHeartbeats 1000000 in
theorem walk_far (a0 : Option Addr) (l0 c0 : Nat) (a1 a2 : Int) (b : Bool) (w : World) (ht : Lib.TabIs Tryd.prog w "math/bits.deBruijn64tab" .u8 tab) (h : 50 < l0 ∨ l0 = 0) :
    Calls Tryd.prog 6 #[.slice a0 l0 c0, .int .u16 a1, .int .u16 a2, .bool b] w (Go.Ev.WorksIs w) := by
  have HW := Lib.hid (works_tab w ht)
  clear ht
  rcases h with h | rfl
  · have g1 : (50 : Int) < (l0 : Int) := by omega
    have g2 : decide ((50 : Int) < (l0 : Int)) = true := by simpa using g1
    have g3 : decide (50 < l0) = true := by simpa using h
    go_enter Tryd.func6, Tryd.ntmps6
    go_wp2_with fail
    refine HW.out.mono ?_
    rintro e w5 ⟨rfl, hg⟩
    go_wp2
    go_ret
    exact ⟨rfl, hg⟩
  · go_enter Tryd.func6, Tryd.ntmps6
    go_wp2_with fail
    refine HW.out.mono ?_
    rintro e w5 ⟨rfl, hg⟩
    go_wp2
    go_ret
    exact ⟨rfl, hg⟩

/-- What a loop's test of a bit asks. -/
theorem bit_facts (V j : Nat) (b : Bool) (hb : V.testBit (j % 64) = b) : ∃ q r D E : Nat, j / 64 = q ∧ j % 64 = r ∧ (j : Int) / 64 = (q : Int) ∧ (j : Int) % 64 = (r : Int) ∧ IntKind.u64.wrap (r : Int) = (r : Int) ∧ (r : Int) ≤ 64 ∧ (V : Int) / 2 ^ r = (D : Int) ∧ (D : Int) % 2 = (E : Int) ∧ ((E : Int) == 1) = b ∧ E ≤ 1 := by
  refine ⟨j / 64, j % 64, V / 2 ^ (j % 64), V / 2 ^ (j % 64) % 2, rfl, rfl, by omega, by omega, IntWalk.u64_in _ ⟨by omega, by omega⟩, by omega, ?_, by omega, ?_, by omega⟩
  · simp
  · rw [div_bit, hb]; cases b <;> rfl

set_option maxRecDepth 100000 in
set_option maxHeartbeats 4000000 in
theorem walk_at (a0 : Option Addr) (l0 c0 : Nat) (xs : List Nat) (A B : Nat) (is : Bool) (w : World) (hx : Words w a0 l0 xs) (hnil : a0 = none → l0 = 0 ∧ c0 = 0) (hA : A ≤ 65535) (hB : B ≤ 65535) (h1 : 1 ≤ l0) (h2 : l0 ≤ 50)
    (ht : Lib.TabIs Tryd.prog w "math/bits.deBruijn64tab" .u8 tab) :
    Calls Tryd.prog 6 #[.slice a0 l0 c0, .int .u16 (A : Int), .int .u16 (B : Int), .bool is] w (Go.Ev.WorksIs w) := by
  have HT := Lib.hid ht
  have HX := Lib.hid hx.len
  have g2 : decide ((50 : Int) < (l0 : Int)) = false := by simp; omega
  have g3 : ((l0 : Int) == 0) = false := by simp; omega
  have g4 : decide (50 < l0) = false := by simp; omega
  obtain ⟨W, hW⟩ : ∃ W, 64 * l0 = W := ⟨_, rfl⟩
  obtain ⟨r, hr⟩ : ∃ r, A % W = r := ⟨_, rfl⟩
  obtain ⟨M, hMe⟩ : ∃ M, 1 + r = M := ⟨_, rfl⟩
  obtain ⟨k, hke⟩ : ∃ k, B % M = k := ⟨_, rfl⟩
  have hW0 : 64 ≤ W := by omega
  have hW1 : W ≤ 3200 := by omega
  have hr1 : r < W := by rw [← hr]; exact Nat.mod_lt _ (by omega)
  have hk1 : k < M := by rw [← hke]; exact Nat.mod_lt _ (by omega)
  have hM : MapOk xs.length 0 M := ⟨by omega, by rw [HX.out]; omega, by rw [HX.out]; omega⟩
  have eA : IntKind.i64.wrap (A : Int) = (A : Int) := IntWalk.i64_in _ ⟨by omega, by omega⟩
  have eB : IntKind.i64.wrap (B : Int) = (B : Int) := IntWalk.i64_in _ ⟨by omega, by omega⟩
  have e1 : IntKind.i64.wrap (64 * (l0 : Int)) = (W : Int) := by rw [IntWalk.i64_in _ ⟨by omega, by omega⟩]; omega
  have e1' : 64 * (l0 : Int) = (W : Int) := by omega
  have e2 : (A : Int) % (W : Int) = (r : Int) := by rw [← hr]; simp
  have e3 : IntKind.i64.wrap (1 + (r : Int)) = (M : Int) := by rw [IntWalk.i64_in _ ⟨by omega, by omega⟩]; omega
  have e3' : 1 + (r : Int) = (M : Int) := by omega
  have e4 : (B : Int) % (M : Int) = (k : Int) := by rw [← hke]; simp
  have n1 : ¬ (W : Int) = 0 := by omega
  have n2 : ¬ (M : Int) = 0 := by omega
  have n3 : (0 : Int) < (W : Int) := by omega
  have n4 : (0 : Int) < (M : Int) := by omega
  have HE1 := Lib.hid e1
  have HE2 := Lib.hid e1'
  have HN := Lib.hid (NewH a0 l0 c0 xs w w [] (Own.nil w) hx (by omega) hnil)
  have HKW := Lib.hid hke
  have hM64 : M ≤ 64 * l0 := by omega
  have HWe := Lib.hid hW
  clear hke hr hMe hW
  go_enter Tryd.func6, Tryd.ntmps6
  go_wp2_with fail
  simp only [e2, e4]
  refine HN.out.mono ?_
  rintro e u1 ⟨g, rfl, hO⟩
  clear HN e1 e1' e2 e3 e3' e4 n1 n2 n3 n4 eA eB
  have HOf := Lib.hid (MOfH 0 g 0 M xs [] w u1 _ hO rfl hM)
  rw [show ((0 : Nat) : Int) = 0 from rfl] at HOf
  clear hO
  go_wp2_with fail
  refine HOf.out.mono ?_
  rintro e u2 ⟨X, rfl, hO, _⟩
  clear HOf
  obtain ⟨C, hC⟩ : ∃ C, cntF (mbit xs [] 0) M = C := ⟨_, rfl⟩
  have hCM : C ≤ M := by rw [← hC]; exact cntF_le _ _
  have HC := Lib.hid (MCountH 0 1 X g 0 M xs [] w u2 _ hO rfl rfl hM C hC)
  replace hO := Lib.hid hO
  go_wp2_with fail
  refine HC.out.mono ?_
  rintro e u3 ⟨rfl, hg3⟩
  clear HC
  have hO3 := hO.out.quiet hg3
  clear hO hg3
  have hin : inB (k : Int) M = true := by unfold inB; simp; omega
  obtain ⟨had, hhad⟩ : ∃ b, mbit xs [] 0 k = b := ⟨_, rfl⟩
  have HG := Lib.hid (MGetH 0 1 X g 0 M xs [] (k : Int) w u3 _ hO3 rfl rfl hM had (by unfold getM; rw [hin, Int.toNat_natCast, hhad]; rfl))
  replace hO3 := Lib.hid hO3
  go_wp2_with fail
  refine HG.out.mono ?_
  rintro e u4 ⟨rfl, hg4⟩
  clear HG
  have hO4 := hO3.out.quiet hg4
  clear hO3 hg4
  have hkq : k / 64 < l0 := by omega
  have hmb : (xs.getD (k / 64) 0).testBit (k % 64) = had := by
    rw [← hhad]; unfold mbit gotV
    rw [Nat.zero_add]; rfl
  obtain ⟨q, rr, D, E, hq, hrr, f1, f2, f3, f4, f5, f6, f7, _⟩ := bit_facts _ k had hmb
  rw [hq] at hkq f5
  obtain ⟨b0, o0, rfl, d0⟩ := (hx.keep hO4.grown (by simp)).cell q hkq
  obtain ⟨V, hV⟩ : ∃ V, xs.getD q 0 = V := ⟨_, rfl⟩
  rw [hV] at d0 f5
  obtain ⟨L, hL⟩ : ∃ L, setMI xs [] 0 M (k : Int) is = L := ⟨_, rfl⟩
  have hsmall : ∀ n ∈ xs, n < 18446744073709551616 := hx.small
  have hset := fun j => mbit_set (xs := xs) (L := []) (a := 0) (m := M) (i := k) (is := is) (.inl (by simp)) (fun n => gotV_small hsmall (by simp) n) hk1 (by rw [HX.out]; omega) j
  rw [hL] at hset
  have hse : (setME xs [] 0 M (k : Int) : Int) = 0 := by
    unfold setME putEI putE
    rw [hin, Int.toNat_natCast]
    simp only [if_true]
    rw [if_pos (by rw [HX.out]; omega)]
    rfl
  have HS := Lib.hid (MSetH 0 1 X g 0 M xs [] (k : Int) is 0 w u4 _ _ hO4 rfl rfl hM hse (by rw [hL]))
  clear hO4
  have q0 : (q : Int) < (l0 : Int) := by omega
  have q1 : (0 : Int) ≤ (q : Int) := by omega
  have r0 : (0 : Int) ≤ (rr : Int) := by omega
  have hcnt : cntF (mbit xs L 0) M + had.toNat = C + is.toNat := by
    rw [← hC, ← hhad]
    have := cntF_turn (f := mbit xs [] 0) (g := mbit xs L 0) (k := k) (fun i hi => by rw [hset, if_neg hi]) M hk1
    rw [this, hset k, if_pos rfl]
  obtain ⟨C2, hC2⟩ : ∃ C2, cntF (mbit xs L 0) M = C2 := ⟨_, rfl⟩
  rw [hC2] at hcnt
  replace hset := Lib.hid hset
  replace hC2 := Lib.hid hC2
  replace hL := Lib.hid hL
  replace hhad := Lib.hid hhad
  replace hC := Lib.hid hC
  replace hV := Lib.hid hV
  have hq := Lib.hid hq
  have hrr := Lib.hid hrr
  go_wp2_with fail
  refine HS.out.mono ?_
  rintro e u5 ⟨rfl, hO5⟩
  clear HS d0 f1 f2 f3 f4 f5 f6 f7
  have hGL : getM xs L 0 M (k : Int) = is := by unfold getM; rw [hin, Int.toNat_natCast, hset.out, if_pos rfl]; rfl
  have HG := Lib.hid (MGetH 0 1 X g 0 M xs L (k : Int) w u5 _ hO5 rfl rfl hM is hGL)
  replace hO5 := Lib.hid hO5
  clear hGL
  go_wp2_with fail
  refine HG.out.mono ?_
  rintro e u6 ⟨rfl, hg6⟩
  clear HG
  have hO6 : Grommet.Own w u6 [viewP g xs L, mapP X g 0 M] := hO5.out.quiet hg6
  clear hO5 hg6
  have hsw := (Own.wl hO6 0 rfl)
  have hfit := hsw.1
  have HF := Lib.hid (FlatH 0 g xs L w u6 _ hO6 rfl)
  rw [HX.out] at HF
  clear hsw
  replace hO6 := Lib.hid hO6
  have hCi : ((C : Int) + 1 ≤ 100000) ∧ (0 : Int) ≤ (C : Int) := by omega
  have w1 : IntKind.i64.wrap ((C : Int) + 1) = (C : Int) + 1 := IntWalk.i64_in _ ⟨by omega, by omega⟩
  have w2 : IntKind.i64.wrap ((C : Int) - 1) = (C : Int) - 1 := IntWalk.i64_in _ ⟨by omega, by omega⟩
  have hcnt2 : (C2 : Int) = if is && !had then (C : Int) + 1 else if !is && had then (C : Int) - 1 else (C : Int) := by
    cases is <;> cases had <;> simp at hcnt ⊢ <;> omega
  have hcnt2 := Lib.hid hcnt2
  clear hcnt
  have hIS : Hid (∃ is0 : Bool, is0 = is) := Lib.hid ⟨is, rfl⟩
  have hset' : Hid (∀ j, mbit xs L 0 j = if j = k then is else mbit xs [] 0 j) := hset
  clear hset
  cases is <;> cases had
  all_goals
    have hz := hcnt2.out
    try simp only [Bool.not_true] at hz
    try simp only [Bool.not_false] at hz
    try simp only [Bool.and_true] at hz
    try simp only [Bool.and_false] at hz
    try simp only [Bool.false_eq_true] at hz
    try simp only [if_true] at hz
    try simp only [if_false] at hz
    replace hz := Lib.hid hz
    go_wp2_with fail
    refine HF.out.mono ?_
    rintro e u7 ⟨ad, cp, rfl, hO7⟩
    clear HF
    have HC2 := Lib.hid (MCountH 0 1 X g 0 M xs L w u7 _ hO7 rfl rfl hM C2 hC2.out)
    rw [hz.out] at HC2
    replace hO7 := Lib.hid hO7
    go_wp2_with fail
    refine HC2.out.mono ?_
    rintro e u8 ⟨rfl, hg8⟩
    clear HC2 w1 w2
    have hO8 : Grommet.Own w u8 [viewP g xs L, mapP X g 0 M, rowP 51 1 (.slice ad l0 cp) l0 ((flatV xs L).map wv)] := hO7.out.quiet hg8
    clear hO7 hg8
    replace hO8 := Lib.hid hO8
    go_wp2_with fail
    go_loopw [17] (fun i wr => ∃ j : Nat, j ≤ W ∧ i = .int .i64 (j : Int) ∧ Hid (Grommet.Own w wr [viewP g xs L, mapP X g 0 M, rowP 51 1 (.slice ad l0 cp) l0 ((flatV xs L).map wv)])) (fun i _ => W - (intOf i).toNat)
    case atStart => exact ⟨0, Nat.zero_le _, rfl, hO8⟩
    case round =>
      clear hO8
      obtain ⟨j, hj, rfl, hO⟩ := hrel
      have e1 := HE1.out
      have e1' := HE2.out
      have j0 : (0 : Int) ≤ (j : Int) := by omega
      by_cases hlt : j < W
      · have hlt' : (j : Int) < (W : Int) := by omega
        have hWv := HWe.out
        have hql : j / 64 < l0 := by omega
        obtain ⟨b, hb⟩ : ∃ b, mbit xs L 0 j = b := ⟨_, rfl⟩
        have hU : ((flatV xs L).getD (j / 64) 0).testBit (j % 64) = b := by
          rw [← hb, flat_get hfit _ (by rw [HX.out]; exact hql)]; unfold mbit; rw [Nat.zero_add]
        obtain ⟨b', hb'⟩ : ∃ b', mbit xs [] 0 j = b' := ⟨_, rfl⟩
        have hV' : (xs.getD (j / 64) 0).testBit (j % 64) = b' := by
          rw [← hb']; unfold mbit gotV; rw [Nat.zero_add]; rfl
        have hbb := hset'.out j
        rw [hb, hb'] at hbb
        obtain ⟨q, rr, D, E, hq, hrr, f1, f2, f3, f4, f5, f6, f7, _⟩ := bit_facts _ j b hU
        obtain ⟨_, _, D', E', rfl, rfl, _, _, _, _, h5, h6, h7, _⟩ := bit_facts _ j b' hV'
        rw [hq] at hql f5 h5
        rw [hrr] at h5
        obtain ⟨bx, rfl, d1, _, hcp⟩ := Own.word hO.out 2 rfl (by rw [flatV_length]; exact HX.out) q hql
        obtain ⟨_, _, hbo, d0⟩ := (hx.keep hO.out.grown (by simp)).cell q hql
        cases hbo
        obtain ⟨V, hV⟩ : ∃ V, xs.getD q 0 = V := ⟨_, rfl⟩
        obtain ⟨U, hUe⟩ : ∃ U, (flatV xs L).getD q 0 = U := ⟨_, rfl⟩
        rw [hV] at d0 h5
        rw [hUe] at d1 f5
        have q0 : (q : Int) < (l0 : Int) := by omega
        have q1 : (0 : Int) ≤ (q : Int) := by omega
        have r0 : (0 : Int) ≤ (rr : Int) := by omega
        have wj : IntKind.i64.wrap ((j : Int) + 1) = (j : Int) + 1 := IntWalk.i64_in _ ⟨by omega, by omega⟩
        obtain ⟨c, hc⟩ : ∃ c, (decide (j < M) && b) = c := ⟨_, rfl⟩
        have HG := Lib.hid (MGetH 0 1 X g 0 M xs L (j : Int) w wr _ hO.out rfl rfl hM c (by
          unfold getM inB; rw [Int.toNat_natCast, hb, ← hc]
          by_cases h : j < M <;> simp [h]))
        replace hq := Lib.hid hq
        replace hrr := Lib.hid hrr
        replace hV := Lib.hid hV
        replace hUe := Lib.hid hUe
        clear hU hV' hb hb' hWv
        by_cases hjk : j = k
        · rw [if_pos hjk] at hbb
          have x1 : ((j : Int) == (k : Int)) = true := by simp; omega
          have x2 : ((j : Int) < (M : Int)) := by omega
          have x3 : decide ((j : Int) < (M : Int)) = true := by simpa using x2
          subst hbb
          have hc' : decide (j < M) = true := by simp; omega
          rw [hc'] at hc
          simp only [Bool.true_and] at hc
          subst hc
          clear hjk hc'
          cases b' <;> go_wp2_with fail
          all_goals
            refine HG.out.mono ?_
            rintro e w5 ⟨rfl, hg5⟩
            have hON := Lib.hid (hO.out.quiet hg5)
            clear HG hg5
            go_wp2
            go_roundw
            case rel => exact ⟨j + 1, by omega, by go_num, hON⟩
            case measure => simp [intOf]; omega
        · rw [if_neg hjk] at hbb
          have x1 : ((j : Int) == (k : Int)) = false := by simp; omega
          subst hbb
          by_cases hjM : j < M
          · have x2 : ((j : Int) < (M : Int)) := by omega
            have x3 : decide ((j : Int) < (M : Int)) = true := by simpa using x2
            have hc' : decide (j < M) = true := by simpa using hjM
            rw [hc'] at hc
            simp only [Bool.true_and] at hc
            subst hc
            clear hjk hc'
            cases b <;> go_wp2_with fail
            all_goals
              refine HG.out.mono ?_
              rintro e w5 ⟨rfl, hg5⟩
              have hON := Lib.hid (hO.out.quiet hg5)
              clear HG hg5
              go_wp2
              go_roundw
              case rel => exact ⟨j + 1, by omega, by go_num, hON⟩
              case measure => simp [intOf]; omega
          · have x2 : ¬ ((j : Int) < (M : Int)) := by omega
            have x3 : decide ((j : Int) < (M : Int)) = false := by simpa using x2
            have hc' : decide (j < M) = false := by simpa using hjM
            rw [hc'] at hc
            simp only [Bool.false_and] at hc
            subst hc
            clear hjk hc'
            cases b <;> go_wp2_with fail
            all_goals
              refine HG.out.mono ?_
              rintro e w5 ⟨rfl, hg5⟩
              have hON := Lib.hid (hO.out.quiet hg5)
              clear HG hg5
              go_wp2
              go_roundw
              case rel => exact ⟨j + 1, by omega, by go_num, hON⟩
              case measure => simp [intOf]; omega
      · have hlt' : ¬ (j : Int) < (W : Int) := by omega
        have hg := Lib.hid hO.out.grown
        have HWk := Lib.hid (works_tab wr (tab_grown HT.out hg.out))
        go_wp2_with fail
        refine HWk.out.mono ?_
        rintro e w5 ⟨rfl, hg5⟩
        have hfin := Lib.hid (grown_trans hg.out hg5)
        clear hg5
        go_wp2
        go_ret
        exact ⟨rfl, hfin.out⟩

theorem walk (a0 : Option Addr) (l0 c0 : Nat) (z0 : List Int) (a1 a2 : Int) (a3 : Bool) (w : World) (w0 : RowIn .u64 w a0 l0 c0 z0) (w1 : (Lit.int .u16 a1).wf = true) (w2 : (Lit.int .u16 a2).wf = true) (ht : Lib.TabIs Tryd.prog w "math/bits.deBruijn64tab" .u8 tab) :
    Calls Tryd.prog 6 #[.slice a0 l0 c0, .int .u16 a1, .int .u16 a2, .bool a3] w (Go.Ev.WorksIs w) := by
  obtain ⟨xs, hx⟩ := rowIn_words w0
  have b1 := bounds_u16 w1
  have b2 := bounds_u16 w2
  obtain ⟨A, rfl⟩ := Int.eq_ofNat_of_zero_le b1.1
  obtain ⟨B, rfl⟩ := Int.eq_ofNat_of_zero_le b2.1
  by_cases h : 50 < l0 ∨ l0 = 0
  · exact walk_far a0 l0 c0 A B a3 w ht h
  · exact walk_at a0 l0 c0 xs A B a3 w hx (fun e => w0.nil e) (by omega) (by omega) (by omega) (by omega) ht
end Go.Proofs.YtjjdggdbohjjnaaDoor.bitmapOne
