/- ClassOpens, walked. -/
import Derived.Test.YtdpkpphjpihhkaaOpMath
import Derived.Test.YtdpkpphjpihhkaaSloI
import Derived.Deep.DeepCutAuto
namespace Go.Proofs.Ytdpkpphjpihhkaa.classOpens
open Go.RowKit Go.Grommet

def WorksOk (w : World) (e : Ending) (w' : World) : Prop := e = .returned (.bool true) ∧ w.grownBy w' none
theorem works11 (w : World) : Calls Try.prog 8 #[] w (WorksOk w) := (works_ev w).mono fun _ _ h => h

set_option maxRecDepth 100000 in
set_option maxHeartbeats 1000000 in
theorem walk_far (a1 : Int) (td : Option Addr) (tl tc : Nat) (gd : Option Addr) (gl gc : Nat) (w : World) (h : 40 < tl ∨ 40 < gl) :
    Calls Try.prog 5 #[.slice td tl tc, .int .u8 a1, .slice gd gl gc] w (WorksOk w) := by
  by_cases h0 : 40 < tl
  · have g1 : (40 : Int) < (tl : Int) := by omega
    go_enter Try.func5, Try.ntmps5
    go_wp2_with fail
    refine (works11 _).mono ?_
    rintro e w5 ⟨rfl, hg⟩
    go_wp2
    go_ret
    exact ⟨rfl, hg⟩
  · have g1 : ¬ (40 : Int) < (tl : Int) := by omega
    have g2 : (40 : Int) < (gl : Int) := by omega
    go_enter Try.func5, Try.ntmps5
    go_wp2_with fail
    refine (works11 _).mono ?_
    rintro e w5 ⟨rfl, hg⟩
    go_wp2
    go_ret
    exact ⟨rfl, hg⟩

theorem getD_set9 (L : List Nat) (i j x : Nat) (h : i < L.length) : (L.set i x).getD j 0 = if i = j then x else L.getD j 0 := by
  by_cases e : i = j
  · subst e; rw [if_pos rfl]; simp [h]
  · rw [if_neg e]; simp [List.getD_eq_getElem?_getD, List.getElem?_set_ne e]

set_option maxRecDepth 100000 in
set_option maxHeartbeats 8000000 in
theorem walk_few (ix : Nat) (td : Option Addr) (tl tc : Nat) (T : List Tur) (gd : Option Addr) (gl gc : Nat) (bs : List UInt8) (w : World) (hi : ix < 256) (hT : TursIn w td tl T) (htl : ¬ 40 < tl) (hgl : ¬ 40 < gl) (hbl : bs.length = gl) (hB : At w gd (bs.map bv)) :
    Calls Try.prog 5 #[.slice td tl tc, .int .u8 (ix : Int), .slice gd gl gc] w (WorksOk w) := by
  have gt : ¬ (40 : Int) < (tl : Int) := by omega
  have gt2 : ¬ (40 : Int) < (gl : Int) := by omega
  have HS := Lib.hid (fun wx => show Calls Try.prog 10 #[.int .u8 0, .int .u8 0] wx fun e w' => e = .returned (.agg #[.int .i64 1, .int .i64 2, .int .i64 2]) ∧ wx.grownBy w' none from Small_any 0 0 (by omega) (by omega) wx)
  have HIm := Lib.hid (fun wx Ps (h : Own w wx Ps) => ImageH 1 2 2 (by decide) td tl tc T w wx Ps h hT (by omega))
  rw [show 280 + 208 * 1 + 16 * 2 + 8 * 2 = 536 from rfl] at HIm
  rw [show gv ((1 : Nat) : Int) ((2 : Nat) : Int) ((2 : Nat) : Int) = .agg #[.int .i64 1, .int .i64 2, .int .i64 2] from rfl] at HIm
  obtain ⟨a, Ha⟩ : ∃ a, Hid (a = ix % 4) := ⟨_, Lib.hid rfl⟩
  have ha4 : a < 4 := by rw [Ha.out]; omega
  have ea : (ix : Int) % 4 = (a : Int) := by rw [Ha.out]; omega
  have ea2 : Int.tmod (ix : Int) 4 = (a : Int) := by rw [Int.tmod_eq_emod_of_nonneg (by omega)]; exact ea
  have wix : IntKind.i64.wrap (ix : Int) = (ix : Int) := IntWalk.i64_in _ ⟨by omega, by omega⟩
  have wa : IntKind.i64.wrap (a : Int) = (a : Int) := IntWalk.i64_in _ ⟨by omega, by omega⟩
  obtain ⟨A, HA⟩ : ∃ A, Hid (A = 8 + 64 * a) := ⟨_, Lib.hid rfl⟩
  have HA64 : Hid (A + 64 ≤ 536) := Lib.hid (by rw [HA.out]; omega)
  have hse := sess_at ha4 HA.out
  have HRS := Lib.hid (fun wx => RSessionAt_any (a : Int) wx)
  rw [hse] at HRS
  have Ha4 := Lib.hid ha4
  have Hbl := Lib.hid hbl
  have HB := Lib.hid hB
  clear hse hT hbl hB ha4
  go_enter Try.func5, Try.ntmps5
  go_wp2_with fail
  refine (HS.out _).mono ?_
  rintro e w1 ⟨rfl, hg1⟩
  have hO := Lib.hid ((Own.nil w).quiet hg1)
  clear hg1
  go_wp2_with fail
  refine (HIm.out _ _ hO.out).mono ?_
  rintro e w2 ⟨YS, ad, cp, rfl, hYl, hYs, hO⟩
  replace hO : Own w w2 [rowP 36 1 (.slice ad 536 cp) 536 (YS.map wv)] := hO
  obtain ⟨q, rfl⟩ : ∃ q, ad = some ⟨q, 0, none⟩ := by
    obtain ⟨q, he, _⟩ := Own.cell hO 0 rfl 0 (wv (YS.getD 0 0)) (by rw [List.getElem?_map, List.getElem?_eq_getElem (by rw [hYl]; omega), List.getD_eq_getElem?_getD, List.getElem?_eq_getElem (by rw [hYl]; omega)]; rfl)
    exact ⟨q, he⟩
  have HY0 : Hid (YS.length = 536 ∧ (∀ n ∈ YS, n < 18446744073709551616) ∧ ∀ j, j < 0 → YS.getD (A + j) 0 = 0) := Lib.hid ⟨hYl, hYs, fun j hj => by omega⟩
  replace hO := Lib.hid hO
  clear hYl hYs HIm HS
  go_wp2_with fail
  refine (HRS.out _).mono ?_
  rintro e w3 ⟨rfl, hg3⟩
  have hO3 := Lib.hid (hO.out.quiet hg3)
  clear hO hg3 HRS
  go_wp2_with fail
  go_loopw [10] (fun i wr => ∃ k : Nat, k ≤ 64 ∧ i = .int .i64 (k : Int) ∧ ∃ YS : List Nat, Hid (YS.length = 536 ∧ (∀ n ∈ YS, n < 18446744073709551616) ∧ ∀ j, j < k → YS.getD (A + j) 0 = 0) ∧ Hid (Own w wr [rowP 36 1 (.slice (some ⟨q, 0, none⟩) 536 cp) 536 (YS.map wv)])) (fun i _ => 64 - (intOf i).toNat)
  case atStart => exact ⟨0, Nat.zero_le _, rfl, YS, HY0, hO3⟩
  case round =>
    clear hO3 HY0
    obtain ⟨k, hk, rfl, YS, HY, hO⟩ := hrel
    have k0 : (0 : Int) ≤ (k : Int) := by omega
    by_cases hlt : k < 64
    · as_aux_lemma =>
      have hlt' : (k : Int) < 64 := by omega
      obtain ⟨C, HC⟩ : ∃ C, Hid (C = A + k) := ⟨_, Lib.hid rfl⟩
      have hC : C < 536 := by rw [HC.out]; have := HA64.out; omega
      have eC : (A : Int) + (k : Int) = (C : Int) := by rw [HC.out]; omega
      have wC : IntKind.i64.wrap (C : Int) = (C : Int) := IntWalk.i64_in _ ⟨by omega, by omega⟩
      have eCZ : (C : Int) < 536 := by omega
      have eC0 : (0 : Int) ≤ (C : Int) := by omega
      obtain ⟨U, HU⟩ : ∃ U, Hid (U = YS.getD C 0) := ⟨_, Lib.hid rfl⟩
      obtain ⟨q', he, cK, fK, _⟩ := Own.cell hO.out 0 rfl C (wv U) (by rw [List.getElem?_map, List.getElem?_eq_getElem (by rw [HY.out.1]; omega), HU.out, List.getD_eq_getElem?_getD, List.getElem?_eq_getElem (by rw [HY.out.1]; omega)]; rfl)
      cases he
      unfold wv at cK
      have hO2 := hO.out.store 0 rfl C (wv 0)
      rw [← List.map_set] at hO2
      have HO2 : Hid (Own w (wr.setCell ⟨q, C, none⟩ (.int .u64 0)) [rowP 36 1 (.slice (some ⟨q, 0, none⟩) 536 cp) 536 ((YS.set C 0).map wv)]) := Lib.hid hO2
      have HR : Hid ((YS.set C 0).length = 536 ∧ (∀ n ∈ YS.set C 0, n < 18446744073709551616) ∧ ∀ j, j < k + 1 → (YS.set C 0).getD (A + j) 0 = 0) := Lib.hid ⟨by rw [List.length_set]; exact HY.out.1, fun n hn => by
        rcases List.mem_or_eq_of_mem_set hn with h | h
        · exact HY.out.2.1 n h
        · rw [h]; decide, fun j hj => by
        rw [getD_set9 _ _ _ _ (by rw [HY.out.1]; omega)]
        by_cases e : C = A + j
        · rw [if_pos e]
        · rw [if_neg e]; exact HY.out.2.2 j (by have := HC.out; omega)⟩
      clear hO2 hO
      go_wp2
      go_roundw
      case rel => exact ⟨k + 1, by omega, by go_num, YS.set C 0, HR, HO2⟩
      case measure => simp [intOf]; omega
    · have hlt' : ¬ (k : Int) < 64 := by omega
      have HSs : Hid (Sess YS A (oB false) 0) := Lib.hid ⟨HY.out.1, HY.out.2.1, HY.out.2.2 0 (by omega), HY.out.2.2 1 (by omega), fun j h1 h2 => by have := HY.out.2.2 (j - A) (by omega); rwa [show A + (j - A) = j from by omega] at this⟩
      clear HY hlt
      go_wp2_with fail
      go_loopw [8, 11, 12, 13] (fun fl gn op i wr => ∃ (k G : Nat) (ob : Bool) (q cp : Nat) (ys : List Nat), k ≤ gl ∧ i = .int .i64 (k : Int) ∧ fl = .slice (some ⟨q, 0, none⟩) 536 cp ∧ gn = .int .u64 (G : Int) ∧ op = .bool ob ∧ Hid (G ≤ 6) ∧ Hid (Sess ys A (oB ob) G) ∧ Hid (Own w wr [rowP 36 1 (.slice (some ⟨q, 0, none⟩) 536 cp) 536 (ys.map wv)])) (fun _ _ _ i _ => gl - (intOf i).toNat)
      case atStart => exact ⟨0, 0, false, q, cp, YS, Nat.zero_le _, rfl, rfl, rfl, rfl, Lib.hid (by decide), HSs, hO⟩
      case round =>
        clear hO HSs hlt' k0 hk
        obtain ⟨k, G, ob, q, cp, ys, hk, rfl, rfl, rfl, rfl, HG, Hs, hO⟩ := hrel
        have k0 : (0 : Int) ≤ (k : Int) := by omega
        by_cases hlt : k < gl
        · have hlt' : (k : Int) < (gl : Int) := by omega
          have hb : (bs.map bv)[k]? = some (.int .u8 ((bs.getD k 0).toNat : Int)) := by
            rw [List.getElem?_map, List.getElem?_eq_getElem (by rw [Hbl.out]; exact hlt), List.getD_eq_getElem?_getD, List.getElem?_eq_getElem (by rw [Hbl.out]; exact hlt)]; rfl
          obtain ⟨g2, o2, hgd, hcell⟩ := HB.out k _ hb
          subst hgd
          have hn256 : (bs.getD k 0).toNat < 256 := (bs.getD k 0).toNat_lt
          generalize (bs.getD k 0).toNat = n at hcell hn256
          obtain ⟨hW, hnil, _⟩ := Own.words hO.out 0 rfl Hs.out.small (by decide)
          have HNew := Lib.hid (NewH (some ⟨q, 0, none⟩) 536 cp ys w _ _ hO.out hW (by decide) hnil)
          obtain ⟨h, Hh⟩ : ∃ h, Hid (h = n / 2) := ⟨_, Lib.hid rfl⟩
          have hh : h < 128 := by rw [Hh.out]; omega
          have e1 : (n : Int) / 2 = (h : Int) := by rw [Hh.out]; omega
          have e1' : Int.tdiv (n : Int) 2 = (h : Int) := by rw [Int.tdiv_eq_ediv_of_nonneg (by omega)]; exact e1
          have wh1 : IntKind.u8.wrap (h : Int) = (h : Int) := IntWalk.u8_in _ ⟨by omega, by omega⟩
          have wh2 : IntKind.u64.wrap (h : Int) = (h : Int) := IntWalk.u64_in _ ⟨by omega, by omega⟩
          obtain ⟨r, Hr⟩ : ∃ r, Hid (r = h % 6) := ⟨_, Lib.hid rfl⟩
          have hr6 : r < 6 := by rw [Hr.out]; omega
          have e2 : (h : Int) % 6 = (r : Int) := by rw [Hr.out]; omega
          have e2' : Int.tmod (h : Int) 6 = (r : Int) := by rw [Int.tmod_eq_emod_of_nonneg (by omega)]; exact e2
          have wr2 : IntKind.u64.wrap (r : Int) = (r : Int) := IntWalk.u64_in _ ⟨by omega, by omega⟩
          obtain ⟨gg, Hge⟩ : ∃ gg, Hid (gg = 1 + r) := ⟨_, Lib.hid rfl⟩
          have Hgg : Hid (1 ≤ gg ∧ gg ≤ 6) := Lib.hid (by rw [Hge.out]; omega)
          have e3 : IntKind.u64.wrap (1 + (r : Int)) = (gg : Int) := by rw [IntWalk.u64_in _ ⟨by omega, by omega⟩, Hge.out]; omega
          obtain ⟨p, Hp⟩ : ∃ p, Hid (p = n % 2) := ⟨_, Lib.hid rfl⟩
          have hp2 : p < 2 := by rw [Hp.out]; omega
          have e4 : (n : Int) % 2 = (p : Int) := by rw [Hp.out]; omega
          have e4' : Int.tmod (n : Int) 2 = (p : Int) := by rw [Int.tmod_eq_emod_of_nonneg (by omega)]; exact e4
          have wp1 : IntKind.u8.wrap (p : Int) = (p : Int) := IntWalk.u8_in _ ⟨by omega, by omega⟩
          obtain ⟨pb, hpb⟩ : ∃ pb, ((p : Int) == 0) = pb := ⟨_, rfl⟩
          have Hlt := Lib.hid hlt
          have Hcell := Lib.hid hcell
          clear hb hW hnil hO hcell hn256 hlt hk
          go_wp2_with fail
          refine HNew.out.mono ?_
          rintro e w4 ⟨g, rfl, hO4⟩
          replace hO4 : Hid (Own w w4 [rowP 36 1 (.slice (some ⟨q, 0, none⟩) 536 cp) 536 (ys.map wv), viewP g ys []]) := Lib.hid hO4
          have hc4 := hO4.out.grown.cell Hcell.out (by simp)
          clear HNew
          go_upto_if 75 with fail
          clear hc4 e1 e1' wh1 wh2 e2 e2' wr2 e3 e4 e4' wp1 hpb hp2 hr6 hh
          go_cut [11, 12, 16, 17, 18, 19, 20, 21, 22, 23] (fun gn op wt _ _ _ _ _ _ _ wx => ∃ (G' : Nat) (ob' : Bool) (c : Nat) (L : List (Nat × Nat)), gn = .int .u64 (G' : Int) ∧ op = .bool ob' ∧ wt = .int .u8 (c : Int) ∧ c ≤ 3 ∧ Hid (G' ≤ 6) ∧ Hid (c = 0 ∨ L = []) ∧ Hid (After ys L A (oB ob') G') ∧ Hid (Own w wx [rowP 36 1 (.slice (some ⟨q, 0, none⟩) 536 cp) 536 (ys.map wv), viewP g ys L]))
          case first =>
            cases pb with
            | true =>
              by_cases d1 : gg = G
              · have q1 : ((gg : Int) == (G : Int)) = true := by rw [d1]; simp
                have q2 : (gg : Int) ≤ (G : Int) := by omega
                cases ob with
                | true =>
                  as_aux_lemma =>
                    have hc : openR true G gg = 1 := by unfold openR; rw [if_pos ⟨rfl, d1⟩]
                    have HC := Lib.hid (OpenOld 1 g ys a A G gg true Ha4.out HA.out Hs.out Hgg.out.1 Hgg.out.2 1 hc (by decide) w w4 _ hO4.out rfl)
                    clear hc d1
                    go_wp2_with fail
                    refine HC.out.mono ?_
                    rintro e w5 ⟨rfl, hO5⟩
                    have HOf := Lib.hid (OfOpen 1 g ys [] a A G Ha4.out HA.out Hs.out.len Hs.out.after w w5 _ hO5 rfl)
                    clear HC hO5
                    go_wp2_with fail
                    refine HOf.out.mono ?_
                    rintro e w6 ⟨⟨ra, rb, dd, rfl⟩, hO6⟩
                    have hO7 := Lib.hid (hO6.quiet (World.grownBy_alloc w6 (.cells #[.int .i64 0, .int .u64 (ra : Int), .int .u64 (rb : Int), .string dd] 39) none))
                    clear hO6 HOf
                    go_wp2_with fail
                    go_meet
                    case rel => exact ⟨G, true, 1, [], rfl, rfl, rfl, by decide, HG, Lib.hid (.inr rfl), Lib.hid Hs.out.after, hO7⟩
                | false =>
                  as_aux_lemma =>
                    have hc : openR false G gg = 2 := by unfold openR; rw [if_neg (by simp), if_pos (by omega)]
                    have HC := Lib.hid (OpenOld 1 g ys a A G gg false Ha4.out HA.out Hs.out Hgg.out.1 Hgg.out.2 2 hc (by decide) w w4 _ hO4.out rfl)
                    clear hc d1
                    go_wp2_with fail
                    refine HC.out.mono ?_
                    rintro e w5 ⟨rfl, hO5⟩
                    have HOf := Lib.hid (OfClose 1 g ys [] a A G Ha4.out HA.out Hs.out.len Hs.out.after w w5 _ hO5 rfl G)
                    clear HC hO5
                    go_wp2_with fail
                    refine HOf.out.mono ?_
                    rintro e w6 ⟨rfl, hO6⟩
                    have hO7 := Lib.hid (hO6.quiet (World.grownBy_alloc w6 (.cells #[.int .i64 0, .int .u64 0, .int .u64 0, .string ⟨#[]⟩] 39) none))
                    clear hO6 HOf
                    go_wp2_with fail
                    go_meet
                    case rel => exact ⟨G, false, 2, [], rfl, rfl, rfl, by decide, HG, Lib.hid (.inr rfl), Lib.hid Hs.out.after, hO7⟩
              · have q1 : ((gg : Int) == (G : Int)) = false := by rw [beq_eq_false_iff_ne]; omega
                by_cases d2 : gg ≤ G
                · have q2 : (gg : Int) ≤ (G : Int) := by omega
                  cases ob with
                  | true =>
                    as_aux_lemma =>
                      have hc : openR true G gg = 2 := by unfold openR; rw [if_neg (fun h => d1 h.2), if_pos d2]
                      have HC := Lib.hid (OpenOld 1 g ys a A G gg true Ha4.out HA.out Hs.out Hgg.out.1 Hgg.out.2 2 hc (by decide) w w4 _ hO4.out rfl)
                      clear hc d1 d2
                      go_wp2_with fail
                      refine HC.out.mono ?_
                      rintro e w5 ⟨rfl, hO5⟩
                      have HOf := Lib.hid (OfOpen 1 g ys [] a A G Ha4.out HA.out Hs.out.len Hs.out.after w w5 _ hO5 rfl)
                      clear HC hO5
                      go_wp2_with fail
                      refine HOf.out.mono ?_
                      rintro e w6 ⟨⟨ra, rb, dd, rfl⟩, hO6⟩
                      have hO7 := Lib.hid (hO6.quiet (World.grownBy_alloc w6 (.cells #[.int .i64 0, .int .u64 (ra : Int), .int .u64 (rb : Int), .string dd] 39) none))
                      clear hO6 HOf
                      go_wp2_with fail
                      go_meet
                      case rel => exact ⟨G, true, 2, [], rfl, rfl, rfl, by decide, HG, Lib.hid (.inr rfl), Lib.hid Hs.out.after, hO7⟩
                  | false =>
                    as_aux_lemma =>
                      have hc : openR false G gg = 2 := by unfold openR; rw [if_neg (by simp), if_pos d2]
                      have HC := Lib.hid (OpenOld 1 g ys a A G gg false Ha4.out HA.out Hs.out Hgg.out.1 Hgg.out.2 2 hc (by decide) w w4 _ hO4.out rfl)
                      clear hc d1 d2
                      go_wp2_with fail
                      refine HC.out.mono ?_
                      rintro e w5 ⟨rfl, hO5⟩
                      have HOf := Lib.hid (OfClose 1 g ys [] a A G Ha4.out HA.out Hs.out.len Hs.out.after w w5 _ hO5 rfl G)
                      clear HC hO5
                      go_wp2_with fail
                      refine HOf.out.mono ?_
                      rintro e w6 ⟨rfl, hO6⟩
                      have hO7 := Lib.hid (hO6.quiet (World.grownBy_alloc w6 (.cells #[.int .i64 0, .int .u64 0, .int .u64 0, .string ⟨#[]⟩] 39) none))
                      clear hO6 HOf
                      go_wp2_with fail
                      go_meet
                      case rel => exact ⟨G, false, 2, [], rfl, rfl, rfl, by decide, HG, Lib.hid (.inr rfl), Lib.hid Hs.out.after, hO7⟩
                · have q2 : ¬ (gg : Int) ≤ (G : Int) := by omega
                  have q4 : IntKind.u64.wrap ((G : Int) + 1) = (G : Int) + 1 := IntWalk.u64_in _ ⟨by omega, by have := HG.out; omega⟩
                  cases ob with
                  | true =>
                    as_aux_lemma =>
                      have hc : openR true G gg = 3 := by unfold openR; rw [if_neg (fun h => d1 h.2), if_neg d2, if_pos (.inl rfl)]
                      have HC := Lib.hid (OpenOld 1 g ys a A G gg true Ha4.out HA.out Hs.out Hgg.out.1 Hgg.out.2 3 hc (by decide) w w4 _ hO4.out rfl)
                      clear hc d1 d2
                      go_wp2_with fail
                      refine HC.out.mono ?_
                      rintro e w5 ⟨rfl, hO5⟩
                      have HOf := Lib.hid (OfOpen 1 g ys [] a A G Ha4.out HA.out Hs.out.len Hs.out.after w w5 _ hO5 rfl)
                      clear HC hO5
                      go_wp2_with fail
                      refine HOf.out.mono ?_
                      rintro e w6 ⟨⟨ra, rb, dd, rfl⟩, hO6⟩
                      have hO7 := Lib.hid (hO6.quiet (World.grownBy_alloc w6 (.cells #[.int .i64 0, .int .u64 (ra : Int), .int .u64 (rb : Int), .string dd] 39) none))
                      clear hO6 HOf
                      go_wp2_with fail
                      go_meet
                      case rel => exact ⟨G, true, 3, [], rfl, rfl, rfl, by decide, HG, Lib.hid (.inr rfl), Lib.hid Hs.out.after, hO7⟩
                  | false =>
                    by_cases d3 : gg = G + 1
                    · have q3 : ((gg : Int) == (G : Int) + 1) = true := by rw [d3]; simp
                      as_aux_lemma =>
                        have hc : openR false G gg = 0 := by unfold openR; rw [if_neg (by simp), if_neg (by omega), if_neg (by simp; omega)]
                        have HC := Lib.hid (OpenNew 1 g ys a A G gg false Ha4.out HA.out Hs.out Hgg.out.1 Hgg.out.2 hc w w4 _ hO4.out rfl)
                        clear hc d1 d2 d3
                        go_wp2_with fail
                        refine HC.out.mono ?_
                        rintro e w5 ⟨L, rfl, hO5, HAf⟩
                        have hO5 : Own w w5 [rowP 36 1 (.slice (some ⟨q, 0, none⟩) 536 cp) 536 (ys.map wv), viewP g ys L] := hO5
                        have HOf := Lib.hid (OfOpen 1 g ys L a A gg Ha4.out HA.out Hs.out.len HAf.out w w5 _ hO5 rfl)
                        clear HC hO5
                        go_wp2_with fail
                        refine HOf.out.mono ?_
                        rintro e w6 ⟨⟨ra, rb, dd, rfl⟩, hO6⟩
                        have hO7 := Lib.hid (hO6.quiet (World.grownBy_alloc w6 (.cells #[.int .i64 0, .int .u64 (ra : Int), .int .u64 (rb : Int), .string dd] 39) none))
                        clear hO6 HOf
                        go_wp2_with fail
                        go_meet
                        case rel => exact ⟨gg, true, 0, L, rfl, rfl, rfl, by decide, Lib.hid Hgg.out.2, Lib.hid (.inl rfl), HAf, hO7⟩
                    · have q3 : ((gg : Int) == (G : Int) + 1) = false := by rw [beq_eq_false_iff_ne]; omega
                      as_aux_lemma =>
                        have hc : openR false G gg = 3 := by unfold openR; rw [if_neg (by simp), if_neg d2, if_pos (.inr (by omega))]
                        have HC := Lib.hid (OpenOld 1 g ys a A G gg false Ha4.out HA.out Hs.out Hgg.out.1 Hgg.out.2 3 hc (by decide) w w4 _ hO4.out rfl)
                        clear hc d1 d2 d3
                        go_wp2_with fail
                        refine HC.out.mono ?_
                        rintro e w5 ⟨rfl, hO5⟩
                        have HOf := Lib.hid (OfClose 1 g ys [] a A G Ha4.out HA.out Hs.out.len Hs.out.after w w5 _ hO5 rfl G)
                        clear HC hO5
                        go_wp2_with fail
                        refine HOf.out.mono ?_
                        rintro e w6 ⟨rfl, hO6⟩
                        have hO7 := Lib.hid (hO6.quiet (World.grownBy_alloc w6 (.cells #[.int .i64 0, .int .u64 0, .int .u64 0, .string ⟨#[]⟩] 39) none))
                        clear hO6 HOf
                        go_wp2_with fail
                        go_meet
                        case rel => exact ⟨G, false, 3, [], rfl, rfl, rfl, by decide, HG, Lib.hid (.inr rfl), Lib.hid Hs.out.after, hO7⟩
            | false =>
              by_cases d1 : gg < G
              · have q1 : (gg : Int) < (G : Int) := by omega
                as_aux_lemma =>
                  have hc : closeR ob G gg = 2 := by unfold closeR; rw [if_pos d1]
                  have HC := Lib.hid (CloseOld 1 g ys a A G gg ob Ha4.out HA.out Hs.out Hgg.out.1 Hgg.out.2 HG.out 2 hc (by decide) w w4 _ hO4.out rfl)
                  clear hc d1
                  go_wp2_with fail
                  refine HC.out.mono ?_
                  rintro e w5 ⟨rfl, hO5⟩
                  have hO7 := Lib.hid hO5
                  clear HC hO5
                  go_wp2_with fail
                  go_meet
                  case rel => exact ⟨G, ob, 2, [], rfl, rfl, rfl, by decide, HG, Lib.hid (.inr rfl), Lib.hid Hs.out.after, hO7⟩
              · have q1 : ¬ (gg : Int) < (G : Int) := by omega
                by_cases d2 : gg = G
                · have q2 : ((gg : Int) == (G : Int)) = true := by rw [d2]; simp
                  cases ob with
                  | true =>
                    as_aux_lemma =>
                      have hc : closeR true G gg = 0 := by unfold closeR; rw [if_neg (by omega), if_neg (by omega), if_pos rfl]
                      have HC := Lib.hid (CloseNew 1 g ys a A G gg Ha4.out HA.out Hs.out Hgg.out.1 Hgg.out.2 HG.out hc w w4 _ hO4.out rfl)
                      clear hc d1 d2
                      go_wp2_with fail
                      refine HC.out.mono ?_
                      rintro e w5 ⟨L, rfl, hO5, HAf⟩
                      have hO7 : Hid (Own w w5 [rowP 36 1 (.slice (some ⟨q, 0, none⟩) 536 cp) 536 (ys.map wv), viewP g ys L]) := Lib.hid hO5
                      clear HC hO5
                      go_wp2_with fail
                      go_meet
                      case rel => exact ⟨G, false, 0, L, rfl, rfl, rfl, by decide, HG, Lib.hid (.inl rfl), HAf, hO7⟩
                  | false =>
                    as_aux_lemma =>
                      have hc : closeR false G gg = 1 := by unfold closeR; rw [if_neg d1, if_neg (by omega), if_neg (by simp)]
                      have HC := Lib.hid (CloseOld 1 g ys a A G gg false Ha4.out HA.out Hs.out Hgg.out.1 Hgg.out.2 HG.out 1 hc (by decide) w w4 _ hO4.out rfl)
                      clear hc d1 d2
                      go_wp2_with fail
                      refine HC.out.mono ?_
                      rintro e w5 ⟨rfl, hO5⟩
                      have hO7 := Lib.hid hO5
                      clear HC hO5
                      go_wp2_with fail
                      go_meet
                      case rel => exact ⟨G, false, 1, [], rfl, rfl, rfl, by decide, HG, Lib.hid (.inr rfl), Lib.hid Hs.out.after, hO7⟩
                · have q2 : ((gg : Int) == (G : Int)) = false := by rw [beq_eq_false_iff_ne]; omega
                  as_aux_lemma =>
                    have hc : closeR ob G gg = 3 := by unfold closeR; rw [if_neg d1, if_pos (by omega)]
                    have HC := Lib.hid (CloseOld 1 g ys a A G gg ob Ha4.out HA.out Hs.out Hgg.out.1 Hgg.out.2 HG.out 3 hc (by decide) w w4 _ hO4.out rfl)
                    clear hc d1 d2
                    go_wp2_with fail
                    refine HC.out.mono ?_
                    rintro e w5 ⟨rfl, hO5⟩
                    have hO7 := Lib.hid hO5
                    clear HC hO5
                    go_wp2_with fail
                    go_meet
                    case rel => exact ⟨G, ob, 3, [], rfl, rfl, rfl, by decide, HG, Lib.hid (.inr rfl), Lib.hid Hs.out.after, hO7⟩
          case rest =>
          obtain ⟨G', ob', c, L, rfl, rfl, rfl, hc3, HG', HcL, HAf, hO5⟩ := hcut
          clear hO4 hc3
          go_upto_region 45 with fail
          go_cut [165] (fun s wx => s = .bool false ∧ Hid (Own w wx [rowP 36 1 (.slice (some ⟨q, 0, none⟩) 536 cp) 536 (ys.map wv), viewP g ys L]))
          case first =>
            by_cases c0 : c = 0
            · as_aux_lemma =>
              have q5 : ((c : Int) != 0) = false := by rw [c0]; rfl
              clear c0
              go_wp2_with fail
              go_meet
              case rel => exact ⟨rfl, hO5⟩
            · as_aux_lemma =>
              have q5 : ((c : Int) != 0) = true := by simp; omega
              have hL : L = [] := HcL.out.resolve_left c0
              have HWr := Lib.hid (WritesH 1 g ys L w _ _ hO5.out rfl)
              rw [hL] at HWr
              have HL := Lib.hid hL
              clear c0 hL
              go_wp2_with fail
              refine HWr.out.mono ?_
              rintro e w9 ⟨ad6, cp6, rfl, hO⟩
              have hO6 : Hid (Own w w9 [rowP 36 1 (.slice (some ⟨q, 0, none⟩) 536 cp) 536 (ys.map wv), viewP g ys L]) := Lib.hid (by rw [HL.out]; exact hO.less)
              clear HWr hO
              go_wp2_with fail
              go_meet
              case rel => exact ⟨rfl, hO6⟩
          case rest =>
          obtain ⟨rfl, hO6⟩ := hcut
          clear hO5 HcL
          have HFg := Lib.hid (FlatH 1 g ys L w _ _ hO6.out rfl)
          rw [Hs.out.len] at HFg
          have HWl : Hid (Wl ys.length L) := Lib.hid (Own.wl hO6.out 1 rfl).1
          have HSz : Hid (Sess (flatV ys L) A (oB ob') G') := Lib.hid (HAf.out.sess Hs.out.len Hs.out.small HWl.out HA64.out)
          have HGet : Hid (∀ j, j < 536 → (j < A ∨ A + 64 ≤ j) → (flatV ys L).getD j 0 = ys.getD j 0) := Lib.hid (fun j hj ho => HAf.out.rest Hs.out.len HWl.out j hj ho)
          generalize flatV ys L = zs at HFg HSz HGet
          clear HWl HAf hO6
          go_wp2_with fail
          refine HFg.out.mono ?_
          rintro e w8 ⟨ad7, cp7, rfl, hO⟩
          have hO : Own w w8 [rowP 36 1 (.slice (some ⟨q, 0, none⟩) 536 cp) 536 (ys.map wv), viewP g ys L, rowP 36 1 (.slice ad7 536 cp7) 536 (zs.map wv)] := hO
          obtain ⟨q7, rfl⟩ : ∃ q7, ad7 = some ⟨q7, 0, none⟩ := by
            obtain ⟨b, he, _⟩ := Own.word hO 2 rfl HSz.out.len 0 (by decide)
            exact ⟨b, he⟩
          replace hO := Lib.hid hO
          have wA : IntKind.i64.wrap ((A : Int) + 64) = (A : Int) + 64 := IntWalk.i64_in _ ⟨by omega, by have := HA64.out; omega⟩
          clear HFg
          go_wp2_with fail
          go_loopw [25] (fun i wr => ∃ j : Nat, j ≤ 536 ∧ i = .int .i64 (j : Int) ∧ Hid (Own w wr [rowP 36 1 (.slice (some ⟨q, 0, none⟩) 536 cp) 536 (ys.map wv), viewP g ys L, rowP 36 1 (.slice (some ⟨q7, 0, none⟩) 536 cp7) 536 (zs.map wv)])) (fun i _ => 536 - (intOf i).toNat)
          case atStart => exact ⟨0, Nat.zero_le _, rfl, hO⟩
          case round =>
            clear hO
            obtain ⟨j, hj, rfl, hO⟩ := hrel
            have j0 : (0 : Int) ≤ (j : Int) := by omega
            by_cases hlj : j < 536
            · have hlj' : (j : Int) < 536 := by omega
              obtain ⟨q1', he1, c1, _, _⟩ := Own.word hO.out 2 rfl HSz.out.len j hlj
              cases he1
              obtain ⟨q2', he2, c2, _, _⟩ := Own.word hO.out 0 rfl Hs.out.len j hlj
              cases he2
              by_cases ho : j < A ∨ A + 64 ≤ j
              · rw [HGet.out j hlj ho] at c1
                generalize ys.getD j 0 = U at c1 c2
                have eU : ((U : Int) != (U : Int)) = false := by simp
                by_cases hA1 : j < A
                · as_aux_lemma =>
                  have dA' : (j : Int) < (A : Int) := by omega
                  clear ho
                  go_wp2_with fail
                  go_quiet (fail)
                  go_wp2
                  go_roundw
                  case rel => exact ⟨j + 1, by omega, by go_num, Lib.hid (hO.out.quiet (grown_drewN _ _ _))⟩
                  case measure => simp [intOf]; omega
                · as_aux_lemma =>
                  have dA' : ¬ (j : Int) < (A : Int) := by omega
                  have dB' : (A : Int) + 64 ≤ (j : Int) := by omega
                  have n2 : A + 64 ≤ j := by omega
                  clear ho
                  go_wp2_with fail
                  go_quiet (fail)
                  go_wp2
                  go_roundw
                  case rel => exact ⟨j + 1, by omega, by go_num, Lib.hid (hO.out.quiet (grown_drewN _ _ _))⟩
                  case measure => simp [intOf]; omega
              · as_aux_lemma =>
                generalize ys.getD j 0 = U at c2
                generalize zs.getD j 0 = U2 at c1
                have dA' : ¬ (j : Int) < (A : Int) := by omega
                have dB' : ¬ (A : Int) + 64 ≤ (j : Int) := by omega
                have n1 : ¬ j < A := by omega
                have n2 : ¬ A + 64 ≤ j := by omega
                have dA : decide ((j : Int) < (A : Int)) = false := by simp; omega
                have dB : decide ((A : Int) + 64 ≤ (j : Int)) = false := by simp; omega
                clear ho
                go_wp2_with fail
                go_quiet (fail)
                go_wp2
                go_roundw
                case rel => exact ⟨j + 1, by omega, by go_num, Lib.hid (hO.out.quiet (grown_drewN _ _ _))⟩
                case measure => simp [intOf]; omega
            · as_aux_lemma =>
              have hlj' : ¬ (j : Int) < 536 := by omega
              have Hz : Hid (Own w wr [rowP 36 1 (.slice (some ⟨q7, 0, none⟩) 536 cp7) 536 (zs.map wv)]) := Lib.hid (own_back (Qs := [_, _]) hO.out)
              clear hO
              go_wp2
              go_roundw
              case rel => exact ⟨k + 1, G', ob', q7, cp7, zs, Hlt.out, by go_num, rfl, rfl, rfl, HG', HSz, Hz⟩
              case measure => have := Hlt.out; simp [intOf]; omega
        · as_aux_lemma =>
          have hlt' : ¬ (k : Int) < (gl : Int) := by omega
          have hgw := Lib.hid hO.out.grown
          clear hO
          go_wp2_with fail
          refine (works11 _).mono ?_
          rintro e w15 ⟨rfl, hg⟩
          go_wp2
          go_ret
          exact ⟨rfl, grown_trans hgw.out hg⟩

theorem walk (td : Option Addr) (tl tc : Nat) (T : List Tur) (a1 : Int) (gd : Option Addr) (gl gc : Nat) (zs : List Int) (w : World) (hT : TursIn w td tl T) (h1 : (Lit.int .u8 a1).wf = true) (hB : RowIn .u8 w gd gl gc zs) :
    Calls Try.prog 5 #[.slice td tl tc, .int .u8 a1, .slice gd gl gc] w (WorksOk w) := by
  have b1 := bounds_u8 h1
  obtain ⟨ix, rfl⟩ := Int.eq_ofNat_of_zero_le b1.1
  obtain ⟨bs, hbl, hat⟩ := hB.bytes
  by_cases hfar : 40 < tl ∨ 40 < gl
  · exact walk_far _ _ _ _ _ _ _ w hfar
  · exact walk_few ix td tl tc T gd gl gc bs w (by omega) hT (fun h => hfar (.inl h)) (fun h => hfar (.inr h)) hbl hat
end Go.Proofs.Ytdpkpphjpihhkaa.classOpens
