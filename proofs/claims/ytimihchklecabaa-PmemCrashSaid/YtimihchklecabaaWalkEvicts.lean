/- PmemEvicts, walked. -/
import Derived.Test.YtimihchklecabaaFill
import Derived.Test.YtimihchklecabaaEvMath
namespace Go.Proofs.Ytimihchklecabaa.pmemEvicts
open Go.RowKit Go.Grommet Go.Shelf

def WorksIs (w : World) (e : Ending) (w' : World) : Prop := e = .returned (.bool true) ∧ w.grownBy w' none
theorem works_any (w : World) : Calls Try.prog 10 #[] w (WorksIs w) := (works_ev w).mono fun _ _ h => h

theorem EvictNo (k d : Nat) (ws : List PW) (w0 w : World) (Ps : List Pr) (h : Grommet.Own w0 w Ps) (hk : Ps[k]? = some (devP d ws)) (a : Int) (hE : hasE a (ws.length / 8) = 8) :
    Calls Try.prog 21 #[ptr d, .int .i64 a] w fun e w' => e = .returned (.int .i64 8) ∧ w' = w := by
  obtain ⟨g, hD, _, _, _⟩ := dev_does h hk
  have HW := Lib.hid (lines_any w d g ws hD)
  have HH := Lib.hid (has_any w d a (ws.length / 8))
  rw [hE] at HH
  unfold ptr at HW HH ⊢
  generalize ws.length / 8 = n at HW HH
  clear h hk hE hD
  go_enter Try.func21, Try.ntmps21
  go_wp2_with fail
  refine HW.out.mono ?_
  rintro e w1 ⟨rfl, rfl⟩
  go_wp2_with fail
  refine HH.out.mono ?_
  rintro e w1 ⟨rfl, rfl⟩
  go_wp2
  go_ret
  exact ⟨rfl, rfl⟩

theorem fill_fairs : ∀ (L : List Put3) (ws : List PW), Fairs ws → Fairs (fillR ws L)
  | [], _, h => h
  | x :: L, ws, h => by
    show Fairs (fillR (putR ws x) L)
    refine fill_fairs L _ ?_
    unfold putR
    split
    · exact h.turn (fun _ => PW.flush_fair)
    · exact h.modify (fun c _ => PW.store_fair c _)
theorem zero_fairs : Fairs zero16 := fun k c hc => by
  rw [List.eq_of_mem_replicate (List.mem_of_getElem? hc)]; exact PW.nought_fair
def smalls (ws : List PW) : Prop := ∀ c ∈ ws, c.Small
theorem own_smalls {w0 w : World} {Ps : List Pr} {k d : Nat} {ws : List PW} (h : Grommet.Own w0 w Ps) (hk : Ps[k]? = some (devP d ws)) : smalls ws := by
  obtain ⟨g, hD, _⟩ := dev_does h hk
  exact hD.small
theorem seen_small {ws : List PW} (h : smalls ws) : ∀ n ∈ ws.map (·.seen), n < 18446744073709551616 := by
  intro n hn; obtain ⟨c, hc, rfl⟩ := List.mem_map.1 hn; exact (h c hc).2.1
theorem sure_small {ws : List PW} (h : smalls ws) : ∀ n ∈ ws.map (·.sure), n < 18446744073709551616 := by
  intro n hn; obtain ⟨c, hc, rfl⟩ := List.mem_map.1 hn; exact (h c hc).1
theorem shown_small {a m : Nat} {ws : List PW} (h : smalls ws) : smalls (turnFrom PW.shown a m ws) := by
  intro c hc
  obtain ⟨k, hk⟩ := List.getElem?_of_mem hc
  rw [turnFrom_get] at hk
  split at hk
  · cases hw : ws[k]? with
    | none => rw [hw] at hk; cases hk
    | some c0 => rw [hw] at hk; cases hk; have := h c0 (List.mem_of_getElem? hw); exact ⟨this.2.1, this.2.1, this.2.2⟩
  · exact h c (List.mem_of_getElem? hk)

set_option maxRecDepth 100000 in
set_option maxHeartbeats 4000000 in
theorem walk_0 (td : Option Addr) (n tc : Nat) (L : List Put3) (w : World) (hT : PutsIn w td n L) (hn : n ≤ 60) :
    Calls Try.prog 7 #[.slice td n tc, .bool false] w (WorksIs w) := by
  have n0 : ¬ (60 : Int) < (n : Int) := by omega
  have HF := Lib.hid (filledH td n tc L w w [] (Grommet.Own.nil w) hT hn)
  have hfair := Lib.hid (fill_fairs L zero16 zero_fairs)
  have hlen := Lib.hid (show (fillR zero16 L).length = 16 by rw [fillR_len, zero16_len])
  unfold ptr at HF
  generalize fillR zero16 L = ws at HF hfair hlen
  clear hT
  go_enter Try.func7, Try.ntmps7
  go_wp2_with fail
  refine HF.out.mono ?_
  rintro e w1 ⟨d, rfl, hO⟩
  clear HF
  have hO : Grommet.Own w w1 [devP d ws] := hO
  have hsm := Lib.hid (own_smalls hO (k := 0) rfl)
  have HS := Lib.hid (SeenH 0 d ws w w1 _ hO rfl 2 hlen.out)
  rw [hlen.out] at HS
  unfold ptr at HS
  clear hO
  go_wp2_with fail
  refine HS.out.mono ?_
  rintro e w2 ⟨ad, cap, rfl, hO⟩
  clear HS
  have hO : Grommet.Own w w2 [devP d ws, rowP 32 1 (.slice ad 16 cap) 16 ((ws.map (·.seen)).map wv)] := hO
  have HS := Lib.hid (SureH 0 d ws w w2 _ hO rfl 2 hlen.out)
  rw [hlen.out] at HS
  unfold ptr at HS
  clear hO
  go_wp2_with fail
  refine HS.out.mono ?_
  rintro e w3 ⟨ad2, cap2, rfl, hO⟩
  clear HS
  have hO : Grommet.Own w w3 [devP d ws, rowP 32 1 (.slice ad 16 cap) 16 ((ws.map (·.seen)).map wv), rowP 32 1 (.slice ad2 16 cap2) 16 (((turnFrom PW.shown (8 * 0) 0 ws).map (·.sure)).map wv)] := hO
  obtain ⟨q2, rfl, _, _, _⟩ := hO.cell 2 rfl 0 (wv (((ws.map (·.sure)).getD 0 0))) (by
    show ((ws.map (·.sure)).map wv)[0]? = _
    rw [List.getElem?_map, List.getD_eq_getElem?_getD, List.getElem?_eq_getElem (by rw [List.length_map, hlen.out]; decide)]; rfl)
  replace hO := Lib.hid hO
  go_wp2_with fail
  go_loopw [10] (fun i wr => ∃ j : Nat, j ≤ 8 ∧ i = .int .i64 ((8 * 0 : Int) + (j : Int)) ∧ Hid (Grommet.Own w wr [devP d ws, rowP 32 1 (.slice ad 16 cap) 16 ((ws.map (·.seen)).map wv), rowP 32 1 (.slice (some ⟨q2, 0, none⟩) 16 cap2) 16 (((turnFrom PW.shown (8 * 0) j ws).map (·.sure)).map wv)])) (fun i _ => 16 - (intOf i).toNat)
  case atStart => exact ⟨0, by decide, by first | rfl | simp, hO⟩
  case round =>
    clear hO
    obtain ⟨j, hj, rfl, hR⟩ := hrel
    have hO := hR.out
    by_cases hlt : j < 8
    · obtain ⟨P, hP⟩ : ∃ P : Nat, 8 * 0 + j = P := ⟨_, rfl⟩
      have hPi : ((8 * 0 : Int) + (j : Int)) = (P : Int) := by omega
      obtain ⟨c, hc⟩ : ∃ c, ws[8 * 0 + j]? = some c := ⟨_, List.getElem?_eq_getElem (by rw [hlen.out]; omega)⟩
      have hc' := hc
      rw [hP] at hc'
      obtain ⟨q, rfl, hcell, _, _⟩ := hO.cell 1 rfl P (wv c.seen) (by rw [List.getElem?_map, List.getElem?_map, hc']; rfl)
      obtain ⟨_, hq2, hcell2, hfree, _⟩ := hO.cell 2 rfl P (wv (((turnFrom PW.shown (8 * 0) j ws).map (·.sure)).getD P 0)) (by
        rw [List.getElem?_map, List.getD_eq_getElem?_getD, List.getElem?_eq_getElem (by rw [List.length_map, turnFrom_len, hlen.out]; omega)]; rfl)
      cases hq2
      have hst := hO.store 2 rfl P (wv c.seen)
      have hnext : ((((turnFrom PW.shown (8 * 0) j ws).map (·.sure)).map wv).set P (wv c.seen)) = ((turnFrom PW.shown (8 * 0) (j + 1) ws).map (·.sure)).map wv := by
        rw [shown_succ (8 * 0) j ws c hc, hP, List.map_set]
      rw [hnext] at hst
      have hst : Grommet.Own w _ [devP d ws, rowP 32 1 (.slice (some ⟨q, 0, none⟩) 16 cap) 16 ((ws.map (·.seen)).map wv), rowP 32 1 (.slice (some ⟨q2, 0, none⟩) 16 cap2) 16 (((turnFrom PW.shown (8 * 0) (j + 1) ws).map (·.sure)).map wv)] := hst
      replace hst := Lib.hid hst
      unfold wv at hcell hcell2 hst
      have p1 : (0 : Int) ≤ (P : Int) := by omega
      have p2 : (P : Int) < 16 := by omega
      have p3 : (P : Int) < 8 := by omega
      have wP : IntKind.i64.wrap ((P : Int) + 1) = (P : Int) + 1 := IntWalk.i64_in _ ⟨by omega, by omega⟩
      have HPn := Lib.hid (show (P : Int) + 1 = (8 * 0 : Int) + ((j + 1 : Nat) : Int) by omega)
      have HPm := Lib.hid (show P < 16 by omega)
      have Hj := Lib.hid hlt
      rw [hPi]
      clear hO hR hnext hc hc' hP hPi hlt hj
      go_wp2_with fail
      go_roundw
      case rel => exact ⟨j + 1, Hj.out, by rw [← HPn.out], hst⟩
      case measure => have := HPm.out; simp [intOf]; omega
    · obtain rfl : j = 8 := by omega
      have hOe : Grommet.Own w wr [devP d ws, rowP 32 1 (.slice ad 16 cap) 16 ((ws.map (·.seen)).map wv), rowP 32 1 (.slice (some ⟨q2, 0, none⟩) 16 cap2) 16 (((turnFrom PW.evict (8 * 0) 8 ws).map (·.sure)).map wv)] := by
        rw [evict_line_sure (8 * 0) ws hfair.out]; exact hO
      replace hOe := Lib.hid hOe
      obtain ⟨ev, hev⟩ : ∃ ev, turnFrom PW.evict (8 * 0) 8 ws = ev := ⟨_, rfl⟩
      have hev1 := Lib.hid (show ev.length = 16 by rw [← hev, turnFrom_len, hlen.out])
      have hev2 := Lib.hid (show turnFrom PW.evict (8 * 0) 8 ev = ev by rw [← hev]; exact evict_line_twice _ _)
      have hev3 := Lib.hid (show looseOf ev ≤ 8 by rw [← hev]; exact evict_line_loose (8 * 0) ws hlen.out (by decide))
      have hev4 := Lib.hid (show ev.map (·.seen) = ws.map (·.seen) by rw [← hev]; exact evict_line_seen _ _)
      rw [hev] at hOe
      have hev0 := Lib.hid hev
      obtain ⟨D0, hD0⟩ : ∃ D0, Hid (D0 = ws) := ⟨_, Lib.hid rfl⟩
      clear hO hR hlt hj hev
      go_wp2_with fail
      go_loopw [11] (fun i wr => ∃ j : Nat, j ≤ 2 ∧ i = .int .i64 (j : Int) ∧ Hid (∃ dv, turnFrom PW.evict (8 * 0) 8 dv = ev ∧ dv.length = 16 ∧ (j = 2 → dv = ev) ∧ Grommet.Own w wr [devP d dv, rowP 32 1 (.slice ad 16 cap) 16 ((ws.map (·.seen)).map wv), rowP 32 1 (.slice (some ⟨q2, 0, none⟩) 16 cap2) 16 ((ev.map (·.sure)).map wv)])) (fun i _ => 2 - (intOf i).toNat)
      case atStart => exact ⟨0, by decide, rfl, Lib.hid ⟨ws, hev0.out, hlen.out, (fun h => by cases h), hOe.out⟩⟩
      case round =>
        clear hOe hev0
        obtain ⟨j, hj, rfl, hR⟩ := hrel
        obtain ⟨dv, hd1, hd2, hd3, hO⟩ := hR.out
        by_cases hlt : j < 2
        · have hlt' : (j : Int) < 2 := by omega
          have wj : IntKind.i64.wrap ((j : Int) + 1) = (j : Int) + 1 := IntWalk.i64_in _ ⟨by omega, by omega⟩
          have HE := Lib.hid (EvictH 0 d dv w wr _ hO rfl 0 (by rw [hd2]; decide))
          rw [hd1] at HE
          unfold ptr at HE
          clear hO hR hd1 hd2 hd3
          go_wp2_with fail
          refine HE.out.mono ?_
          rintro e w4 ⟨rfl, hO⟩
          clear HE
          have hO : Grommet.Own w w4 [devP d ev, rowP 32 1 (.slice ad 16 cap) 16 ((ws.map (·.seen)).map wv), rowP 32 1 (.slice (some ⟨q2, 0, none⟩) 16 cap2) 16 ((ev.map (·.sure)).map wv)] := hO
          have hsm2 := Lib.hid (own_smalls hO (k := 0) rfl)
          have HS := Lib.hid (SureH 0 d ev w w4 _ hO rfl 2 hev1.out)
          rw [hev1.out] at HS
          unfold ptr at HS
          clear hO
          go_wp2_with fail
          refine HS.out.mono ?_
          rintro e w5 ⟨ad3, cap3, rfl, hO⟩
          clear HS
          have hO : Grommet.Own w w5 [devP d ev, rowP 32 1 (.slice ad 16 cap) 16 ((ws.map (·.seen)).map wv), rowP 32 1 (.slice (some ⟨q2, 0, none⟩) 16 cap2) 16 ((ev.map (·.sure)).map wv), rowP 32 1 (.slice ad3 16 cap3) 16 ((ev.map (·.sure)).map wv)] := hO
          have HQ := Lib.hid (Same_any _ _ 16 16 cap3 cap2 _ _ w5 (devs_words hO 3 rfl (sure_small hsm2.out) (by decide)).1 (devs_words hO 2 rfl (sure_small hsm2.out) (by decide)).1)
          rw [decide_eq_true rfl] at HQ
          replace hO := Lib.hid hO
          go_wp2_with fail
          refine HQ.out.mono ?_
          rintro e w6 ⟨rfl, hg⟩
          clear HQ
          have hO6 : Grommet.Own w w6 [devP d ev, rowP 32 1 (.slice ad 16 cap) 16 ((ws.map (·.seen)).map wv), rowP 32 1 (.slice (some ⟨q2, 0, none⟩) 16 cap2) 16 ((ev.map (·.sure)).map wv)] := Grommet.Own.less (Qs := [_]) (hO.out.quiet hg)
          have HS := Lib.hid (SeenH 0 d ev w w6 _ hO6 rfl 2 hev1.out)
          rw [hev1.out, hev4.out] at HS
          unfold ptr at HS
          clear hO hO6 hg
          go_wp2_with fail
          refine HS.out.mono ?_
          rintro e w7 ⟨ad4, cap4, rfl, hO⟩
          clear HS
          have hO : Grommet.Own w w7 [devP d ev, rowP 32 1 (.slice ad 16 cap) 16 ((ws.map (·.seen)).map wv), rowP 32 1 (.slice (some ⟨q2, 0, none⟩) 16 cap2) 16 ((ev.map (·.sure)).map wv), rowP 32 1 (.slice ad4 16 cap4) 16 ((ws.map (·.seen)).map wv)] := hO
          have HQ := Lib.hid (Same_any _ _ 16 16 cap4 cap _ _ w7 (devs_words hO 3 rfl (seen_small hsm.out) (by decide)).1 (devs_words hO 1 rfl (seen_small hsm.out) (by decide)).1)
          rw [decide_eq_true rfl] at HQ
          replace hO := Lib.hid hO
          go_wp2_with fail
          refine HQ.out.mono ?_
          rintro e w8 ⟨rfl, hg⟩
          clear HQ
          have hO8 := Lib.hid (show Grommet.Own w w8 [devP d ev, rowP 32 1 (.slice ad 16 cap) 16 ((ws.map (·.seen)).map wv), rowP 32 1 (.slice (some ⟨q2, 0, none⟩) 16 cap2) 16 ((ev.map (·.sure)).map wv)] from Grommet.Own.less (Qs := [_]) (hO.out.quiet hg))
          have Hj := Lib.hid hlt
          clear hO hg hlt hj
          go_wp2
          go_roundw
          case rel => exact ⟨j + 1, Hj.out, by go_num, Lib.hid ⟨ev, hev2.out, hev1.out, (fun _ => rfl), hO8.out⟩⟩
          case measure => have := Hj.out; simp [intOf]; omega
        · obtain rfl : j = 2 := by omega
          obtain rfl := hd3 rfl
          have HL := Lib.hid (LooseH 0 d dv w wr _ hO rfl 2 hd2)
          unfold ptr at HL
          obtain ⟨lo, hlo⟩ : ∃ lo, looseOf dv = lo := ⟨_, rfl⟩
          have hlo8 := hev3.out
          rw [hlo] at HL hlo8
          have hlo8' : (lo : Int) ≤ 8 := by omega
          clear hO hR hlt hj
          go_wp2_with fail
          refine HL.out.mono ?_
          rintro e w4 ⟨rfl, hO⟩
          clear HL
          have HE := Lib.hid (EvictNo 0 d dv w w4 _ hO rfl 2 (by rw [hd2]; decide))
          have HE2 := Lib.hid (EvictNo 0 d dv w w4 _ hO rfl (-1) (by rw [hd2]; decide))
          have hg := Lib.hid hO.grown
          unfold ptr at HE HE2
          clear hO hlo hlo8
          go_wp2_with fail
          refine HE.out.mono ?_
          rintro e w5 ⟨rfl, rfl⟩
          go_wp2_with fail
          refine HE2.out.mono ?_
          rintro e w5 ⟨rfl, rfl⟩
          go_wp2_with fail
          refine (works_any _).mono ?_
          rintro e w6 ⟨rfl, hg6⟩
          have hfin := Lib.hid (grown_trans hg.out hg6)
          clear hg hg6 HE HE2
          go_wp2
          go_ret
          exact ⟨rfl, hfin.out⟩

set_option maxRecDepth 100000 in
set_option maxHeartbeats 4000000 in
theorem walk_1 (td : Option Addr) (n tc : Nat) (L : List Put3) (w : World) (hT : PutsIn w td n L) (hn : n ≤ 60) :
    Calls Try.prog 7 #[.slice td n tc, .bool true] w (WorksIs w) := by
  have n0 : ¬ (60 : Int) < (n : Int) := by omega
  have HF := Lib.hid (filledH td n tc L w w [] (Grommet.Own.nil w) hT hn)
  have hfair := Lib.hid (fill_fairs L zero16 zero_fairs)
  have hlen := Lib.hid (show (fillR zero16 L).length = 16 by rw [fillR_len, zero16_len])
  unfold ptr at HF
  generalize fillR zero16 L = ws at HF hfair hlen
  clear hT
  go_enter Try.func7, Try.ntmps7
  go_wp2_with fail
  refine HF.out.mono ?_
  rintro e w1 ⟨d, rfl, hO⟩
  clear HF
  have hO : Grommet.Own w w1 [devP d ws] := hO
  have hsm := Lib.hid (own_smalls hO (k := 0) rfl)
  have HS := Lib.hid (SeenH 0 d ws w w1 _ hO rfl 2 hlen.out)
  rw [hlen.out] at HS
  unfold ptr at HS
  clear hO
  go_wp2_with fail
  refine HS.out.mono ?_
  rintro e w2 ⟨ad, cap, rfl, hO⟩
  clear HS
  have hO : Grommet.Own w w2 [devP d ws, rowP 32 1 (.slice ad 16 cap) 16 ((ws.map (·.seen)).map wv)] := hO
  have HS := Lib.hid (SureH 0 d ws w w2 _ hO rfl 2 hlen.out)
  rw [hlen.out] at HS
  unfold ptr at HS
  clear hO
  go_wp2_with fail
  refine HS.out.mono ?_
  rintro e w3 ⟨ad2, cap2, rfl, hO⟩
  clear HS
  have hO : Grommet.Own w w3 [devP d ws, rowP 32 1 (.slice ad 16 cap) 16 ((ws.map (·.seen)).map wv), rowP 32 1 (.slice ad2 16 cap2) 16 (((turnFrom PW.shown (8 * 1) 0 ws).map (·.sure)).map wv)] := hO
  obtain ⟨q2, rfl, _, _, _⟩ := hO.cell 2 rfl 0 (wv (((ws.map (·.sure)).getD 0 0))) (by
    show ((ws.map (·.sure)).map wv)[0]? = _
    rw [List.getElem?_map, List.getD_eq_getElem?_getD, List.getElem?_eq_getElem (by rw [List.length_map, hlen.out]; decide)]; rfl)
  replace hO := Lib.hid hO
  go_wp2_with fail
  go_loopw [10] (fun i wr => ∃ j : Nat, j ≤ 8 ∧ i = .int .i64 ((8 * 1 : Int) + (j : Int)) ∧ Hid (Grommet.Own w wr [devP d ws, rowP 32 1 (.slice ad 16 cap) 16 ((ws.map (·.seen)).map wv), rowP 32 1 (.slice (some ⟨q2, 0, none⟩) 16 cap2) 16 (((turnFrom PW.shown (8 * 1) j ws).map (·.sure)).map wv)])) (fun i _ => 16 - (intOf i).toNat)
  case atStart => exact ⟨0, by decide, by first | rfl | simp, hO⟩
  case round =>
    clear hO
    obtain ⟨j, hj, rfl, hR⟩ := hrel
    have hO := hR.out
    by_cases hlt : j < 8
    · obtain ⟨P, hP⟩ : ∃ P : Nat, 8 * 1 + j = P := ⟨_, rfl⟩
      have hPi : ((8 * 1 : Int) + (j : Int)) = (P : Int) := by omega
      obtain ⟨c, hc⟩ : ∃ c, ws[8 * 1 + j]? = some c := ⟨_, List.getElem?_eq_getElem (by rw [hlen.out]; omega)⟩
      have hc' := hc
      rw [hP] at hc'
      obtain ⟨q, rfl, hcell, _, _⟩ := hO.cell 1 rfl P (wv c.seen) (by rw [List.getElem?_map, List.getElem?_map, hc']; rfl)
      obtain ⟨_, hq2, hcell2, hfree, _⟩ := hO.cell 2 rfl P (wv (((turnFrom PW.shown (8 * 1) j ws).map (·.sure)).getD P 0)) (by
        rw [List.getElem?_map, List.getD_eq_getElem?_getD, List.getElem?_eq_getElem (by rw [List.length_map, turnFrom_len, hlen.out]; omega)]; rfl)
      cases hq2
      have hst := hO.store 2 rfl P (wv c.seen)
      have hnext : ((((turnFrom PW.shown (8 * 1) j ws).map (·.sure)).map wv).set P (wv c.seen)) = ((turnFrom PW.shown (8 * 1) (j + 1) ws).map (·.sure)).map wv := by
        rw [shown_succ (8 * 1) j ws c hc, hP, List.map_set]
      rw [hnext] at hst
      have hst : Grommet.Own w _ [devP d ws, rowP 32 1 (.slice (some ⟨q, 0, none⟩) 16 cap) 16 ((ws.map (·.seen)).map wv), rowP 32 1 (.slice (some ⟨q2, 0, none⟩) 16 cap2) 16 (((turnFrom PW.shown (8 * 1) (j + 1) ws).map (·.sure)).map wv)] := hst
      replace hst := Lib.hid hst
      unfold wv at hcell hcell2 hst
      have p1 : (0 : Int) ≤ (P : Int) := by omega
      have p2 : (P : Int) < 16 := by omega
      have p3 : (P : Int) < 16 := by omega
      have wP : IntKind.i64.wrap ((P : Int) + 1) = (P : Int) + 1 := IntWalk.i64_in _ ⟨by omega, by omega⟩
      have HPn := Lib.hid (show (P : Int) + 1 = (8 * 1 : Int) + ((j + 1 : Nat) : Int) by omega)
      have HPm := Lib.hid (show P < 16 by omega)
      have Hj := Lib.hid hlt
      rw [hPi]
      clear hO hR hnext hc hc' hP hPi hlt hj
      go_wp2_with fail
      go_roundw
      case rel => exact ⟨j + 1, Hj.out, by rw [← HPn.out], hst⟩
      case measure => have := HPm.out; simp [intOf]; omega
    · obtain rfl : j = 8 := by omega
      have hOe : Grommet.Own w wr [devP d ws, rowP 32 1 (.slice ad 16 cap) 16 ((ws.map (·.seen)).map wv), rowP 32 1 (.slice (some ⟨q2, 0, none⟩) 16 cap2) 16 (((turnFrom PW.evict (8 * 1) 8 ws).map (·.sure)).map wv)] := by
        rw [evict_line_sure (8 * 1) ws hfair.out]; exact hO
      replace hOe := Lib.hid hOe
      obtain ⟨ev, hev⟩ : ∃ ev, turnFrom PW.evict (8 * 1) 8 ws = ev := ⟨_, rfl⟩
      have hev1 := Lib.hid (show ev.length = 16 by rw [← hev, turnFrom_len, hlen.out])
      have hev2 := Lib.hid (show turnFrom PW.evict (8 * 1) 8 ev = ev by rw [← hev]; exact evict_line_twice _ _)
      have hev3 := Lib.hid (show looseOf ev ≤ 8 by rw [← hev]; exact evict_line_loose (8 * 1) ws hlen.out (by decide))
      have hev4 := Lib.hid (show ev.map (·.seen) = ws.map (·.seen) by rw [← hev]; exact evict_line_seen _ _)
      rw [hev] at hOe
      have hev0 := Lib.hid hev
      obtain ⟨D0, hD0⟩ : ∃ D0, Hid (D0 = ws) := ⟨_, Lib.hid rfl⟩
      clear hO hR hlt hj hev
      go_wp2_with fail
      go_loopw [11] (fun i wr => ∃ j : Nat, j ≤ 2 ∧ i = .int .i64 (j : Int) ∧ Hid (∃ dv, turnFrom PW.evict (8 * 1) 8 dv = ev ∧ dv.length = 16 ∧ (j = 2 → dv = ev) ∧ Grommet.Own w wr [devP d dv, rowP 32 1 (.slice ad 16 cap) 16 ((ws.map (·.seen)).map wv), rowP 32 1 (.slice (some ⟨q2, 0, none⟩) 16 cap2) 16 ((ev.map (·.sure)).map wv)])) (fun i _ => 2 - (intOf i).toNat)
      case atStart => exact ⟨0, by decide, rfl, Lib.hid ⟨ws, hev0.out, hlen.out, (fun h => by cases h), hOe.out⟩⟩
      case round =>
        clear hOe hev0
        obtain ⟨j, hj, rfl, hR⟩ := hrel
        obtain ⟨dv, hd1, hd2, hd3, hO⟩ := hR.out
        by_cases hlt : j < 2
        · have hlt' : (j : Int) < 2 := by omega
          have wj : IntKind.i64.wrap ((j : Int) + 1) = (j : Int) + 1 := IntWalk.i64_in _ ⟨by omega, by omega⟩
          have HE := Lib.hid (EvictH 0 d dv w wr _ hO rfl 1 (by rw [hd2]; decide))
          rw [hd1] at HE
          unfold ptr at HE
          clear hO hR hd1 hd2 hd3
          go_wp2_with fail
          refine HE.out.mono ?_
          rintro e w4 ⟨rfl, hO⟩
          clear HE
          have hO : Grommet.Own w w4 [devP d ev, rowP 32 1 (.slice ad 16 cap) 16 ((ws.map (·.seen)).map wv), rowP 32 1 (.slice (some ⟨q2, 0, none⟩) 16 cap2) 16 ((ev.map (·.sure)).map wv)] := hO
          have hsm2 := Lib.hid (own_smalls hO (k := 0) rfl)
          have HS := Lib.hid (SureH 0 d ev w w4 _ hO rfl 2 hev1.out)
          rw [hev1.out] at HS
          unfold ptr at HS
          clear hO
          go_wp2_with fail
          refine HS.out.mono ?_
          rintro e w5 ⟨ad3, cap3, rfl, hO⟩
          clear HS
          have hO : Grommet.Own w w5 [devP d ev, rowP 32 1 (.slice ad 16 cap) 16 ((ws.map (·.seen)).map wv), rowP 32 1 (.slice (some ⟨q2, 0, none⟩) 16 cap2) 16 ((ev.map (·.sure)).map wv), rowP 32 1 (.slice ad3 16 cap3) 16 ((ev.map (·.sure)).map wv)] := hO
          have HQ := Lib.hid (Same_any _ _ 16 16 cap3 cap2 _ _ w5 (devs_words hO 3 rfl (sure_small hsm2.out) (by decide)).1 (devs_words hO 2 rfl (sure_small hsm2.out) (by decide)).1)
          rw [decide_eq_true rfl] at HQ
          replace hO := Lib.hid hO
          go_wp2_with fail
          refine HQ.out.mono ?_
          rintro e w6 ⟨rfl, hg⟩
          clear HQ
          have hO6 : Grommet.Own w w6 [devP d ev, rowP 32 1 (.slice ad 16 cap) 16 ((ws.map (·.seen)).map wv), rowP 32 1 (.slice (some ⟨q2, 0, none⟩) 16 cap2) 16 ((ev.map (·.sure)).map wv)] := Grommet.Own.less (Qs := [_]) (hO.out.quiet hg)
          have HS := Lib.hid (SeenH 0 d ev w w6 _ hO6 rfl 2 hev1.out)
          rw [hev1.out, hev4.out] at HS
          unfold ptr at HS
          clear hO hO6 hg
          go_wp2_with fail
          refine HS.out.mono ?_
          rintro e w7 ⟨ad4, cap4, rfl, hO⟩
          clear HS
          have hO : Grommet.Own w w7 [devP d ev, rowP 32 1 (.slice ad 16 cap) 16 ((ws.map (·.seen)).map wv), rowP 32 1 (.slice (some ⟨q2, 0, none⟩) 16 cap2) 16 ((ev.map (·.sure)).map wv), rowP 32 1 (.slice ad4 16 cap4) 16 ((ws.map (·.seen)).map wv)] := hO
          have HQ := Lib.hid (Same_any _ _ 16 16 cap4 cap _ _ w7 (devs_words hO 3 rfl (seen_small hsm.out) (by decide)).1 (devs_words hO 1 rfl (seen_small hsm.out) (by decide)).1)
          rw [decide_eq_true rfl] at HQ
          replace hO := Lib.hid hO
          go_wp2_with fail
          refine HQ.out.mono ?_
          rintro e w8 ⟨rfl, hg⟩
          clear HQ
          have hO8 := Lib.hid (show Grommet.Own w w8 [devP d ev, rowP 32 1 (.slice ad 16 cap) 16 ((ws.map (·.seen)).map wv), rowP 32 1 (.slice (some ⟨q2, 0, none⟩) 16 cap2) 16 ((ev.map (·.sure)).map wv)] from Grommet.Own.less (Qs := [_]) (hO.out.quiet hg))
          have Hj := Lib.hid hlt
          clear hO hg hlt hj
          go_wp2
          go_roundw
          case rel => exact ⟨j + 1, Hj.out, by go_num, Lib.hid ⟨ev, hev2.out, hev1.out, (fun _ => rfl), hO8.out⟩⟩
          case measure => have := Hj.out; simp [intOf]; omega
        · obtain rfl : j = 2 := by omega
          obtain rfl := hd3 rfl
          have HL := Lib.hid (LooseH 0 d dv w wr _ hO rfl 2 hd2)
          unfold ptr at HL
          obtain ⟨lo, hlo⟩ : ∃ lo, looseOf dv = lo := ⟨_, rfl⟩
          have hlo8 := hev3.out
          rw [hlo] at HL hlo8
          have hlo8' : (lo : Int) ≤ 8 := by omega
          clear hO hR hlt hj
          go_wp2_with fail
          refine HL.out.mono ?_
          rintro e w4 ⟨rfl, hO⟩
          clear HL
          have HE := Lib.hid (EvictNo 0 d dv w w4 _ hO rfl 2 (by rw [hd2]; decide))
          have HE2 := Lib.hid (EvictNo 0 d dv w w4 _ hO rfl (-1) (by rw [hd2]; decide))
          have hg := Lib.hid hO.grown
          unfold ptr at HE HE2
          clear hO hlo hlo8
          go_wp2_with fail
          refine HE.out.mono ?_
          rintro e w5 ⟨rfl, rfl⟩
          go_wp2_with fail
          refine HE2.out.mono ?_
          rintro e w5 ⟨rfl, rfl⟩
          go_wp2_with fail
          refine (works_any _).mono ?_
          rintro e w6 ⟨rfl, hg6⟩
          have hfin := Lib.hid (grown_trans hg.out hg6)
          clear hg hg6 HE HE2
          go_wp2
          go_ret
          exact ⟨rfl, hfin.out⟩

set_option maxRecDepth 100000 in
theorem walk_far (td : Option Addr) (n tc : Nat) (b : Bool) (w : World) (hn : 60 < n) :
    Calls Try.prog 7 #[.slice td n tc, .bool b] w (WorksIs w) := by
  have n0 : (60 : Int) < (n : Int) := by omega
  go_enter Try.func7, Try.ntmps7
  go_wp2_with fail
  refine (works_any _).mono ?_
  rintro e w6 ⟨rfl, hg6⟩
  go_wp2
  go_ret
  exact ⟨rfl, hg6⟩
theorem walk (td : Option Addr) (n tc : Nat) (L : List Put3) (b : Bool) (w : World) (hT : PutsIn w td n L) :
    Calls Try.prog 7 #[.slice td n tc, .bool b] w (WorksIs w) := by
  by_cases hn : 60 < n
  · exact walk_far td n tc b w hn
  · cases b with
    | false => exact walk_0 td n tc L w hT (by omega)
    | true => exact walk_1 td n tc L w hT (by omega)
end Go.Proofs.Ytimihchklecabaa.pmemEvicts
