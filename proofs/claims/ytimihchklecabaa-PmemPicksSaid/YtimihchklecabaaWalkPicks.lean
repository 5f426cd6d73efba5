/- PmemPicks, walked. -/
import Derived.Test.YtimihchklecabaaWalkEvicts
import Derived.Test.YtimihchklecabaaPkMath
import Derived.OwnWalk
namespace Go.Proofs.Ytimihchklecabaa.pmemPicks
open Go.RowKit Go.Grommet Go.Shelf Go.Proofs.Ytimihchklecabaa.pmemEvicts

theorem info8 : (Try.prog.info? 5).map (fun i => (i.zero, i.size, i.bytes)) = some (some (.int .u8 0), 1, 1) := by kernel_rfl
theorem own_append {w0 w w' : World} {Ps : List Pr} (h : Grommet.Own w0 w Ps) (k : Nat) {e sz n n' : Nat} {v v' : Value} {xs ys : List Value} (hk : Ps[k]? = some (rowP e sz v n xs)) (hr : w'.ownsRow 0 e sz v' n' ys) (hg : w.grownBy w' v.ownBlock)
    (hnew : ∀ g, v'.ownBlock = some g → v.ownBlock = some g ∨ w.heap.size ≤ g) : Grommet.Own w0 w' (Ps.set k (rowP e sz v' n' ys)) := by
  obtain ⟨F, h1, h2⟩ := h.take k hk
  refine h2 _ _ ⟨fun i => F i ∨ w.heap.size ≤ i ∧ i < w'.heap.size, ⟨hr, fun i hi => ?_, fun i hi => ?_⟩, fun i hi => hi.imp id (fun x => x.1), Turn.of hg (fun i e => h1.2.1 i e)⟩
  · rcases hnew i hi with e | e
    · exact .inl (h1.2.1 i e)
    · exact .inr ⟨e, row_old hr i hi⟩
  · rcases hi with hi | hi
    · exact Nat.lt_of_lt_of_le (h1.2.2 i hi) hg.size
    · exact hi.2
theorem small8 (m : Nat) : ∀ p ∈ List.replicate m 2, p < 256 := fun p hp => by rw [List.eq_of_mem_replicate hp]; decide

set_option maxRecDepth 100000 in
set_option maxHeartbeats 4000000 in
theorem walk_false (td : Option Addr) (n tc : Nat) (L : List Put3) (w : World) (hT : PutsIn w td n L) (hn : n ≤ 60) :
    Calls Try.prog 8 #[.slice td n tc, .bool false] w (WorksIs w) := by
  have n0 : ¬ (60 : Int) < (n : Int) := by omega
  have HF := Lib.hid (filledH td n tc L w w [] (Grommet.Own.nil w) hT hn)
  have HF2 := Lib.hid (fun d w1 (hO : Grommet.Own w w1 [devP d (fillR zero16 L)]) => filledH td n tc L w w1 _ hO hT hn)
  have hfair := Lib.hid (fill_fairs L zero16 zero_fairs)
  have hlen := Lib.hid (show (fillR zero16 L).length = 16 by rw [fillR_len, zero16_len])
  unfold ptr at HF HF2
  generalize fillR zero16 L = ws at HF HF2 hfair hlen
  clear hT
  go_enter Try.func8, Try.ntmps8
  go_wp2_with fail
  refine HF.out.mono ?_
  rintro e w1 ⟨d, rfl, hO⟩
  clear HF
  have hO : Grommet.Own w w1 [devP d ws] := hO
  have HF := Lib.hid (HF2.out d w1 hO)
  clear hO HF2
  go_wp2_with fail
  refine HF.out.mono ?_
  rintro e w2 ⟨o, rfl, hO⟩
  clear HF
  have hO : Grommet.Own w w2 [devP d ws, devP o ws] := hO
  have hsm := Lib.hid (own_smalls hO (k := 0) rfl)
  have HS := Lib.hid (SeenH 1 o ws w w2 _ hO rfl 2 hlen.out)
  rw [hlen.out] at HS
  unfold ptr at HS
  clear hO
  go_wp2_with fail
  refine HS.out.mono ?_
  rintro e w3 ⟨ad, cap, rfl, hO⟩
  clear HS
  have hO : Grommet.Own w w3 [devP d ws, devP o ws, rowP 32 1 (.slice ad 16 cap) 16 ((ws.map (·.seen)).map wv)] := hO
  have HS := Lib.hid (SureH 1 o ws w w3 _ hO rfl 2 hlen.out)
  rw [hlen.out] at HS
  unfold ptr at HS
  clear hO
  go_wp2_with fail
  refine HS.out.mono ?_
  rintro e w4 ⟨ad2, cap2, rfl, hO⟩
  clear HS
  have hO : Grommet.Own w w4 [devP d ws, devP o ws, rowP 32 1 (.slice ad 16 cap) 16 ((ws.map (·.seen)).map wv), rowP 32 1 (.slice ad2 16 cap2) 16 ((ws.map (·.sure)).map wv)] := hO
  obtain ⟨cv, hcv⟩ : ∃ cv, crash ws [] = cv := ⟨_, rfl⟩
  obtain ⟨m1, m2, m3⟩ := crash_none ws hfair.out
  have ml : (crash ws []).length = 16 := by rw [crash_len, hlen.out]
  rw [hcv] at m1 m2 m3 ml
  have M1 := Lib.hid m1
  have M2 := Lib.hid m2
  have M3 := Lib.hid m3
  have ML := Lib.hid ml
  have HC := Lib.hid (CrashOldH 0 d ws w w4 _ hO rfl 2 hlen.out none 0 [] (At.nil _ _) (fun _ => rfl) (by decide) (fun a ha => by cases ha) (fun p hp => by simp at hp) (by decide))
  rw [hcv] at HC
  unfold ptr at HC
  clear m1 m2 m3 ml hcv hO
  go_wp2_with fail
  refine HC.out.mono ?_
  rintro e w6 ⟨rfl, hO⟩
  clear HC
  have hO : Grommet.Own w w6 [devP d cv, devP o ws, rowP 32 1 (.slice ad 16 cap) 16 ((ws.map (·.seen)).map wv), rowP 32 1 (.slice ad2 16 cap2) 16 ((ws.map (·.sure)).map wv)] := hO
  have HS := Lib.hid (SureH 0 d cv w w6 _ hO rfl 2 ML.out)
  rw [ML.out, M1.out] at HS
  unfold ptr at HS
  clear hO
  go_wp2_with fail
  refine HS.out.mono ?_
  rintro e w7 ⟨ad6, cap6, rfl, hO⟩
  clear HS
  have hO : Grommet.Own w w7 [devP d cv, devP o ws, rowP 32 1 (.slice ad 16 cap) 16 ((ws.map (·.seen)).map wv), rowP 32 1 (.slice ad2 16 cap2) 16 ((ws.map (·.sure)).map wv), rowP 32 1 (.slice ad6 16 cap6) 16 ((ws.map (·.sure)).map wv)] := hO
  have HQ := Lib.hid (Same_any _ _ 16 16 cap6 cap2 _ _ w7 (devs_words hO 4 rfl (sure_small hsm.out) (by decide)).1 (devs_words hO 3 rfl (sure_small hsm.out) (by decide)).1)
  rw [decide_eq_true rfl] at HQ
  replace hO := Lib.hid hO
  go_wp2_with fail
  refine HQ.out.mono ?_
  rintro e w8 ⟨rfl, hg⟩
  clear HQ
  have hO8 : Grommet.Own w w8 [devP d cv, devP o ws, rowP 32 1 (.slice ad 16 cap) 16 ((ws.map (·.seen)).map wv), rowP 32 1 (.slice ad2 16 cap2) 16 ((ws.map (·.sure)).map wv)] := Grommet.Own.less (Qs := [_]) (hO.out.quiet hg)
  have HS := Lib.hid (SeenH 0 d cv w w8 _ hO8 rfl 2 ML.out)
  rw [ML.out, M2.out] at HS
  unfold ptr at HS
  clear hO hO8 hg
  go_wp2_with fail
  refine HS.out.mono ?_
  rintro e w9 ⟨ad7, cap7, rfl, hO⟩
  clear HS
  have hO : Grommet.Own w w9 [devP d cv, devP o ws, rowP 32 1 (.slice ad 16 cap) 16 ((ws.map (·.seen)).map wv), rowP 32 1 (.slice ad2 16 cap2) 16 ((ws.map (·.sure)).map wv), rowP 32 1 (.slice ad7 16 cap7) 16 ((ws.map (·.sure)).map wv)] := hO
  have HQ := Lib.hid (Same_any _ _ 16 16 cap7 cap2 _ _ w9 (devs_words hO 4 rfl (sure_small hsm.out) (by decide)).1 (devs_words hO 3 rfl (sure_small hsm.out) (by decide)).1)
  rw [decide_eq_true rfl] at HQ
  replace hO := Lib.hid hO
  go_wp2_with fail
  refine HQ.out.mono ?_
  rintro e w10 ⟨rfl, hg⟩
  clear HQ
  have hO10 : Grommet.Own w w10 [devP d cv, devP o ws, rowP 32 1 (.slice ad 16 cap) 16 ((ws.map (·.seen)).map wv), rowP 32 1 (.slice ad2 16 cap2) 16 ((ws.map (·.sure)).map wv)] := Grommet.Own.less (Qs := [_]) (hO.out.quiet hg)
  have HL := Lib.hid (LooseH 0 d cv w w10 _ hO10 rfl 2 ML.out)
  rw [M3.out] at HL
  unfold ptr at HL
  clear hO hO10 hg
  go_wp2_with fail
  refine HL.out.mono ?_
  rintro e w11 ⟨rfl, hO⟩
  clear HL
  have HS := Lib.hid (SeenH 1 o ws w w11 _ hO rfl 2 hlen.out)
  rw [hlen.out] at HS
  unfold ptr at HS
  clear hO
  go_wp2_with fail
  refine HS.out.mono ?_
  rintro e w12 ⟨ad8, cap8, rfl, hO⟩
  clear HS
  have hO : Grommet.Own w w12 [devP d cv, devP o ws, rowP 32 1 (.slice ad 16 cap) 16 ((ws.map (·.seen)).map wv), rowP 32 1 (.slice ad2 16 cap2) 16 ((ws.map (·.sure)).map wv), rowP 32 1 (.slice ad8 16 cap8) 16 ((ws.map (·.seen)).map wv)] := hO
  have HQ := Lib.hid (Same_any _ _ 16 16 cap8 cap _ _ w12 (devs_words hO 4 rfl (seen_small hsm.out) (by decide)).1 (devs_words hO 2 rfl (seen_small hsm.out) (by decide)).1)
  rw [decide_eq_true rfl] at HQ
  replace hO := Lib.hid hO
  go_wp2_with fail
  refine HQ.out.mono ?_
  rintro e w13 ⟨rfl, hg⟩
  clear HQ
  have hO13 : Grommet.Own w w13 [devP d cv, devP o ws, rowP 32 1 (.slice ad 16 cap) 16 ((ws.map (·.seen)).map wv), rowP 32 1 (.slice ad2 16 cap2) 16 ((ws.map (·.sure)).map wv)] := Grommet.Own.less (Qs := [_]) (hO.out.quiet hg)
  have HS := Lib.hid (SureH 1 o ws w w13 _ hO13 rfl 2 hlen.out)
  rw [hlen.out] at HS
  unfold ptr at HS
  clear hO hO13 hg
  go_wp2_with fail
  refine HS.out.mono ?_
  rintro e w14 ⟨ad9, cap9, rfl, hO⟩
  clear HS
  have hO : Grommet.Own w w14 [devP d cv, devP o ws, rowP 32 1 (.slice ad 16 cap) 16 ((ws.map (·.seen)).map wv), rowP 32 1 (.slice ad2 16 cap2) 16 ((ws.map (·.sure)).map wv), rowP 32 1 (.slice ad9 16 cap9) 16 ((ws.map (·.sure)).map wv)] := hO
  have HQ := Lib.hid (Same_any _ _ 16 16 cap9 cap2 _ _ w14 (devs_words hO 4 rfl (sure_small hsm.out) (by decide)).1 (devs_words hO 3 rfl (sure_small hsm.out) (by decide)).1)
  rw [decide_eq_true rfl] at HQ
  have hO := Lib.hid hO.grown
  go_wp2_with fail
  refine HQ.out.mono ?_
  rintro e w15 ⟨rfl, hg⟩
  clear HQ
  have hgo := Lib.hid (grown_trans hO.out hg)
  clear hO hg
  go_wp2_with fail
  refine (works_any _).mono ?_
  rintro e w16 ⟨rfl, hg16⟩
  have hfin := Lib.hid (grown_trans hgo.out hg16)
  clear hgo hg16
  go_wp2
  go_ret
  exact ⟨rfl, hfin.out⟩

set_option maxRecDepth 100000 in
set_option maxHeartbeats 4000000 in
theorem walk_true (td : Option Addr) (n tc : Nat) (L : List Put3) (w : World) (hT : PutsIn w td n L) (hn : n ≤ 60) :
    Calls Try.prog 8 #[.slice td n tc, .bool true] w (WorksIs w) := by
  have n0 : ¬ (60 : Int) < (n : Int) := by omega
  have HF := Lib.hid (filledH td n tc L w w [] (Grommet.Own.nil w) hT hn)
  have HF2 := Lib.hid (fun d w1 (hO : Grommet.Own w w1 [devP d (fillR zero16 L)]) => filledH td n tc L w w1 _ hO hT hn)
  have hfair := Lib.hid (fill_fairs L zero16 zero_fairs)
  have hlen := Lib.hid (show (fillR zero16 L).length = 16 by rw [fillR_len, zero16_len])
  unfold ptr at HF HF2
  generalize fillR zero16 L = ws at HF HF2 hfair hlen
  clear hT
  go_enter Try.func8, Try.ntmps8
  go_wp2_with fail
  refine HF.out.mono ?_
  rintro e w1 ⟨d, rfl, hO⟩
  clear HF
  have hO : Grommet.Own w w1 [devP d ws] := hO
  have HF := Lib.hid (HF2.out d w1 hO)
  clear hO HF2
  go_wp2_with fail
  refine HF.out.mono ?_
  rintro e w2 ⟨o, rfl, hO⟩
  clear HF
  have hO : Grommet.Own w w2 [devP d ws, devP o ws] := hO
  have hsm := Lib.hid (own_smalls hO (k := 0) rfl)
  have HS := Lib.hid (SeenH 1 o ws w w2 _ hO rfl 2 hlen.out)
  rw [hlen.out] at HS
  unfold ptr at HS
  clear hO
  go_wp2_with fail
  refine HS.out.mono ?_
  rintro e w3 ⟨ad, cap, rfl, hO⟩
  clear HS
  have hO : Grommet.Own w w3 [devP d ws, devP o ws, rowP 32 1 (.slice ad 16 cap) 16 ((ws.map (·.seen)).map wv)] := hO
  have HS := Lib.hid (SureH 1 o ws w w3 _ hO rfl 2 hlen.out)
  rw [hlen.out] at HS
  unfold ptr at HS
  clear hO
  go_wp2_with fail
  refine HS.out.mono ?_
  rintro e w4 ⟨ad2, cap2, rfl, hO⟩
  clear HS
  have hO : Grommet.Own w w4 [devP d ws, devP o ws, rowP 32 1 (.slice ad 16 cap) 16 ((ws.map (·.seen)).map wv), rowP 32 1 (.slice ad2 16 cap2) 16 ((ws.map (·.sure)).map wv)] := hO
  obtain ⟨i0, hi0, hz0, hz1, hz2⟩ := info_parts info8
  have hO : Grommet.Own w w4 ([devP d ws, devP o ws, rowP 32 1 (.slice ad 16 cap) 16 ((ws.map (·.seen)).map wv), rowP 32 1 (.slice ad2 16 cap2) 16 ((ws.map (·.sure)).map wv)] ++ [rowP 5 1 (.slice none 0 0) 0 []]) := hO.addRow (World.ownsRow_nil _ _ _ _) (World.grownBy.refl _ _)
  have hO : Grommet.Own w w4 [devP d ws, devP o ws, rowP 32 1 (.slice ad 16 cap) 16 ((ws.map (·.seen)).map wv), rowP 32 1 (.slice ad2 16 cap2) 16 ((ws.map (·.sure)).map wv), rowP 5 1 (.slice none 0 0) 0 ((List.replicate 0 2).map u8v)] := hO
  replace hO := Lib.hid hO
  go_wp2_with fail
  go_loopw [12, 13] (fun p i wr => ∃ (j : Nat) (adp : Option Addr) (cp : Nat), j ≤ 16 ∧ i = .int .i64 (j : Int) ∧ p = .slice adp j cp ∧ Hid (Grommet.Own w wr [devP d ws, devP o ws, rowP 32 1 (.slice ad 16 cap) 16 ((ws.map (·.seen)).map wv), rowP 32 1 (.slice ad2 16 cap2) 16 ((ws.map (·.sure)).map wv), rowP 5 1 (.slice adp j cp) j ((List.replicate j 2).map u8v)])) (fun _ i _ => 16 - (intOf i).toNat)
  case atStart => exact ⟨0, none, 0, by decide, rfl, rfl, hO⟩
  case round =>
    clear hO
    obtain ⟨j, adp, cp, hj, rfl, rfl, hR⟩ := hrel
    have j0 : (0 : Int) ≤ (j : Int) := by omega
    by_cases hlt : j < 16
    · have hlt' : (j : Int) < 16 := by omega
      have wj : IntKind.i64.wrap ((j : Int) + 1) = (j : Int) + 1 := IntWalk.i64_in _ ⟨by omega, by omega⟩
      have hrow := Grommet.Own.row hR.out 4 rfl
      have Hj := Lib.hid hlt
      have hsnoc := Lib.hid (show (List.replicate j 2).map u8v ++ [.int .u8 2] = (List.replicate (j + 1) 2).map u8v by
        rw [List.replicate_succ', List.map_append]; rfl)
      go_wp2_with (at_builtin; refine wpList_append_blk _ rfl _ _ 33 rfl 0 5 i0 (.int .u8 0) 1 1 Try.underlying33 hi0 hz0 hz1 hz2 rfl (by decide) _ j ((List.replicate j 2).map u8v) rfl (World.ownsRow.alloc hrow _) ⟨wr.heap.size, 0, none⟩ 1 1 [.int .u8 2] rfl rfl (at_of_row (heap_alloc_new wr _)).some ?a1 ?a2 ?a3 (Nat.zero_le _) ?_)
      case a1 => simp [Value.oneCell']
      case a2 => unfold maxLen; omega
      case a3 => omega
      intro ad5 cap5 w5 hrow5 hg5 hnew5
      have hrow5 : w5.ownsRow 0 5 1 (.slice ad5 (j + 1) cap5) (j + 1) ((List.replicate (j + 1) 2).map u8v) := by rw [← hsnoc.out]; simpa using hrow5
      have hO5 := Lib.hid (own_append (Grommet.Own.quiet hR.out (World.grownBy_alloc wr (.cells #[.int .u8 2] 5) none)) 4 rfl hrow5 hg5 (fun g hg => by have := hnew5 g hg; rw [World.size_alloc]; exact this))
      clear hrow hrow5 hg5 hnew5 hR hlt hj
      go_wp2
      go_roundw
      case rel => exact ⟨j + 1, ad5, cap5, Hj.out, by go_num, rfl, hO5⟩
      case measure => have := Hj.out; simp [intOf]; omega
    · obtain rfl : j = 16 := by omega
      have hO := hR.out
      obtain ⟨cv, hcv⟩ : ∃ cv, crash ws (List.replicate 16 2) = cv := ⟨_, rfl⟩
      obtain ⟨m1, m2, m3⟩ := crash_all ws 16 (by rw [hlen.out]; decide) hfair.out
      have ml : (crash ws (List.replicate 16 2)).length = 16 := by rw [crash_len, hlen.out]
      rw [hcv] at m1 m2 m3 ml
      have M1 := Lib.hid m1
      have M2 := Lib.hid m2
      have M3 := Lib.hid m3
      have ML := Lib.hid ml
      have HC := Lib.hid (CrashRowH 0 d 4 ws w wr _ hO rfl 2 hlen.out adp cp (List.replicate 16 2) rfl (by decide) (small8 16) (by decide))
      rw [hcv] at HC
      have HC : Hid (Calls Try.prog 24 #[ptr d, .slice adp 16 cp] wr fun e w' => e = .returned (.int .i64 0) ∧ Grommet.Own w w' [devP d cv, devP o ws, rowP 32 1 (.slice ad 16 cap) 16 ((ws.map (·.seen)).map wv), rowP 32 1 (.slice ad2 16 cap2) 16 ((ws.map (·.sure)).map wv), rowP 5 1 (.slice adp 16 cp) 16 ((List.replicate 16 2).map u8v)]) := HC
      unfold ptr at HC
      clear m1 m2 m3 ml hcv hO hR hlt hj
      go_wp2_with fail
      refine HC.out.mono ?_
      rintro e w6 ⟨rfl, hO⟩
      clear HC
      have hO : Grommet.Own w w6 [devP d cv, devP o ws, rowP 32 1 (.slice ad 16 cap) 16 ((ws.map (·.seen)).map wv), rowP 32 1 (.slice ad2 16 cap2) 16 ((ws.map (·.sure)).map wv)] := Grommet.Own.less (Qs := [_]) hO
      have HS := Lib.hid (SureH 0 d cv w w6 _ hO rfl 2 ML.out)
      rw [ML.out, M1.out] at HS
      unfold ptr at HS
      clear hO
      go_wp2_with fail
      refine HS.out.mono ?_
      rintro e w7 ⟨ad6, cap6, rfl, hO⟩
      clear HS
      have hO : Grommet.Own w w7 [devP d cv, devP o ws, rowP 32 1 (.slice ad 16 cap) 16 ((ws.map (·.seen)).map wv), rowP 32 1 (.slice ad2 16 cap2) 16 ((ws.map (·.sure)).map wv), rowP 32 1 (.slice ad6 16 cap6) 16 ((ws.map (·.seen)).map wv)] := hO
      have HQ := Lib.hid (Same_any _ _ 16 16 cap6 cap _ _ w7 (devs_words hO 4 rfl (seen_small hsm.out) (by decide)).1 (devs_words hO 2 rfl (seen_small hsm.out) (by decide)).1)
      rw [decide_eq_true rfl] at HQ
      replace hO := Lib.hid hO
      go_wp2_with fail
      refine HQ.out.mono ?_
      rintro e w8 ⟨rfl, hg⟩
      clear HQ
      have hO8 : Grommet.Own w w8 [devP d cv, devP o ws, rowP 32 1 (.slice ad 16 cap) 16 ((ws.map (·.seen)).map wv), rowP 32 1 (.slice ad2 16 cap2) 16 ((ws.map (·.sure)).map wv)] := Grommet.Own.less (Qs := [_]) (hO.out.quiet hg)
      have HS := Lib.hid (SeenH 0 d cv w w8 _ hO8 rfl 2 ML.out)
      rw [ML.out, M2.out] at HS
      unfold ptr at HS
      clear hO hO8 hg
      go_wp2_with fail
      refine HS.out.mono ?_
      rintro e w9 ⟨ad7, cap7, rfl, hO⟩
      clear HS
      have hO : Grommet.Own w w9 [devP d cv, devP o ws, rowP 32 1 (.slice ad 16 cap) 16 ((ws.map (·.seen)).map wv), rowP 32 1 (.slice ad2 16 cap2) 16 ((ws.map (·.sure)).map wv), rowP 32 1 (.slice ad7 16 cap7) 16 ((ws.map (·.seen)).map wv)] := hO
      have HQ := Lib.hid (Same_any _ _ 16 16 cap7 cap _ _ w9 (devs_words hO 4 rfl (seen_small hsm.out) (by decide)).1 (devs_words hO 2 rfl (seen_small hsm.out) (by decide)).1)
      rw [decide_eq_true rfl] at HQ
      replace hO := Lib.hid hO
      go_wp2_with fail
      refine HQ.out.mono ?_
      rintro e w10 ⟨rfl, hg⟩
      clear HQ
      have hO10 : Grommet.Own w w10 [devP d cv, devP o ws, rowP 32 1 (.slice ad 16 cap) 16 ((ws.map (·.seen)).map wv), rowP 32 1 (.slice ad2 16 cap2) 16 ((ws.map (·.sure)).map wv)] := Grommet.Own.less (Qs := [_]) (hO.out.quiet hg)
      have HL := Lib.hid (LooseH 0 d cv w w10 _ hO10 rfl 2 ML.out)
      rw [M3.out] at HL
      unfold ptr at HL
      clear hO hO10 hg
      go_wp2_with fail
      refine HL.out.mono ?_
      rintro e w11 ⟨rfl, hO⟩
      clear HL
      have HS := Lib.hid (SeenH 1 o ws w w11 _ hO rfl 2 hlen.out)
      rw [hlen.out] at HS
      unfold ptr at HS
      clear hO
      go_wp2_with fail
      refine HS.out.mono ?_
      rintro e w12 ⟨ad8, cap8, rfl, hO⟩
      clear HS
      have hO : Grommet.Own w w12 [devP d cv, devP o ws, rowP 32 1 (.slice ad 16 cap) 16 ((ws.map (·.seen)).map wv), rowP 32 1 (.slice ad2 16 cap2) 16 ((ws.map (·.sure)).map wv), rowP 32 1 (.slice ad8 16 cap8) 16 ((ws.map (·.seen)).map wv)] := hO
      have HQ := Lib.hid (Same_any _ _ 16 16 cap8 cap _ _ w12 (devs_words hO 4 rfl (seen_small hsm.out) (by decide)).1 (devs_words hO 2 rfl (seen_small hsm.out) (by decide)).1)
      rw [decide_eq_true rfl] at HQ
      replace hO := Lib.hid hO
      go_wp2_with fail
      refine HQ.out.mono ?_
      rintro e w13 ⟨rfl, hg⟩
      clear HQ
      have hO13 : Grommet.Own w w13 [devP d cv, devP o ws, rowP 32 1 (.slice ad 16 cap) 16 ((ws.map (·.seen)).map wv), rowP 32 1 (.slice ad2 16 cap2) 16 ((ws.map (·.sure)).map wv)] := Grommet.Own.less (Qs := [_]) (hO.out.quiet hg)
      have HS := Lib.hid (SureH 1 o ws w w13 _ hO13 rfl 2 hlen.out)
      rw [hlen.out] at HS
      unfold ptr at HS
      clear hO hO13 hg
      go_wp2_with fail
      refine HS.out.mono ?_
      rintro e w14 ⟨ad9, cap9, rfl, hO⟩
      clear HS
      have hO : Grommet.Own w w14 [devP d cv, devP o ws, rowP 32 1 (.slice ad 16 cap) 16 ((ws.map (·.seen)).map wv), rowP 32 1 (.slice ad2 16 cap2) 16 ((ws.map (·.sure)).map wv), rowP 32 1 (.slice ad9 16 cap9) 16 ((ws.map (·.sure)).map wv)] := hO
      have HQ := Lib.hid (Same_any _ _ 16 16 cap9 cap2 _ _ w14 (devs_words hO 4 rfl (sure_small hsm.out) (by decide)).1 (devs_words hO 3 rfl (sure_small hsm.out) (by decide)).1)
      rw [decide_eq_true rfl] at HQ
      have hO := Lib.hid hO.grown
      go_wp2_with fail
      refine HQ.out.mono ?_
      rintro e w15 ⟨rfl, hg⟩
      clear HQ
      have hgo := Lib.hid (grown_trans hO.out hg)
      clear hO hg
      go_wp2_with fail
      refine (works_any _).mono ?_
      rintro e w16 ⟨rfl, hg16⟩
      have hfin := Lib.hid (grown_trans hgo.out hg16)
      clear hgo hg16
      go_wp2
      go_ret
      exact ⟨rfl, hfin.out⟩

set_option maxRecDepth 100000 in
theorem walk_far (td : Option Addr) (n tc : Nat) (b : Bool) (w : World) (hn : 60 < n) :
    Calls Try.prog 8 #[.slice td n tc, .bool b] w (WorksIs w) := by
  have n0 : (60 : Int) < (n : Int) := by omega
  go_enter Try.func8, Try.ntmps8
  go_wp2_with fail
  refine (works_any _).mono ?_
  rintro e w6 ⟨rfl, hg6⟩
  go_wp2
  go_ret
  exact ⟨rfl, hg6⟩
theorem walk (td : Option Addr) (n tc : Nat) (L : List Put3) (b : Bool) (w : World) (hT : PutsIn w td n L) :
    Calls Try.prog 8 #[.slice td n tc, .bool b] w (WorksIs w) := by
  by_cases hn : 60 < n
  · exact walk_far td n tc b w hn
  · cases b with
    | false => exact walk_false td n tc L w hT (by omega)
    | true => exact walk_true td n tc L w hT (by omega)
end Go.Proofs.Ytimihchklecabaa.pmemPicks
