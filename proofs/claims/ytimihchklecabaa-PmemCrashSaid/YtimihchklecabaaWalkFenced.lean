/- PmemFenced, walked. -/
import Derived.Test.YtimihchklecabaaWalkEvicts
import Derived.Test.YtimihchklecabaaFeMath
import Derived.OwnWalk
import Derived.Laws.OwnMore
namespace Go.Proofs.Ytimihchklecabaa.pmemFenced
open Go.RowKit Go.Grommet Go.Shelf Go.Proofs.Ytimihchklecabaa.pmemEvicts

def trR (ts : List PW) (x : Put3) : List PW := if x.fl then turnFrom PW.t1 (8 * (x.pl.toNat % 16 / 8)) 8 ts else ts.modify (x.pl.toNat % 16) (PW.t2 x.vv.toNat)
def trackR (ts : List PW) (L : List Put3) : List PW := L.foldl trR ts
theorem trackR_snoc (L : List Put3) (ts : List PW) (x : Put3) : trackR ts (L ++ [x]) = trR (trackR ts L) x := by unfold trackR; rw [List.foldl_append]; rfl
theorem trR_len (ts : List PW) (x : Put3) : (trR ts x).length = ts.length := by
  unfold trR; split
  · exact turnFrom_len _ _ _ _
  · exact List.length_modify _ _ _
theorem trackR_len : ∀ (L : List Put3) (ts : List PW), (trackR ts L).length = ts.length
  | [], _ => rfl
  | x :: L, ts => by show (trackR (trR ts x) L).length = _; rw [trackR_len L, trR_len]
theorem track_rels : ∀ (L : List Put3) (ws ts : List PW), Rels ws ts → Rels (fillR ws L) (trackR ts L)
  | [], _, _, h => h
  | x :: L, ws, ts, h => by
    show Rels (fillR (putR ws x) L) (trackR (trR ts x) L)
    refine track_rels L _ _ ?_
    unfold putR trR
    split
    · exact h.turn (fun _ _ r => r.flush)
    · exact h.modify (fun _ _ r => r.store _)
theorem zero_rels : Rels zero16 zero16 := ⟨rfl, fun k c t hc ht => by
  rw [List.eq_of_mem_replicate (List.mem_of_getElem? hc), List.eq_of_mem_replicate (List.mem_of_getElem? ht)]; exact Rel.zero⟩
def bw (c : PW) : Value := .bool c.again
theorem track_small : ∀ (L : List Put3) (ts : List PW), (∀ x ∈ L, x.Ok) → smalls ts → smalls (trackR ts L)
  | [], _, _, h => h
  | x :: L, ts, hL, h => by
    refine track_small L (trR ts x) (fun y hy => hL y (List.mem_cons_of_mem _ hy)) ?_
    have hx := bounds_u64 (hL x List.mem_cons_self).2
    intro c hc
    obtain ⟨k, hk⟩ := List.getElem?_of_mem hc
    unfold trR at hk
    split at hk
    · rw [turnFrom_get] at hk
      split at hk
      · cases hw : ts[k]? with
        | none => rw [hw] at hk; cases hk
        | some c0 => rw [hw] at hk; cases hk; have := h c0 (List.mem_of_getElem? hw); exact ⟨this.1, this.2.1, this.2.1⟩
      · exact h c (List.mem_of_getElem? hk)
    · rw [List.getElem?_modify] at hk
      cases hw : ts[k]? with
      | none => rw [hw] at hk; cases hk
      | some c0 =>
        have h0 := h c0 (List.mem_of_getElem? hw)
        rw [hw] at hk
        by_cases e : x.pl.toNat % 16 = k
        · simp [e] at hk; rw [← hk]; exact ⟨h0.1, by show x.vv.toNat < _; omega, h0.2.2⟩
        · simp [e] at hk; rw [← hk]; exact h0
theorem zero_smalls : smalls zero16 := fun c hc => by rw [List.eq_of_mem_replicate hc]; exact PW.nought_small

theorem made16k : List.take (16 * 1) (madeCells #[Value.int .u64 0] 16).toList = (zero16.map (·.kept)).map wv := by
  rw [toList_madeCells_one]; rfl
theorem made16s : List.take (16 * 1) (madeCells #[Value.int .u64 0] 16).toList = (zero16.map (·.seen)).map wv := by
  rw [toList_madeCells_one]; rfl

set_option maxRecDepth 100000 in
set_option maxHeartbeats 4000000 in
theorem walk_near (td : Option Addr) (n tc : Nat) (L : List Put3) (w : World) (hT : PutsIn w td n L) (hn : n ≤ 60) :
    Calls Try.prog 6 #[.slice td n tc] w (WorksIs w) := by
  obtain ⟨i0, hi0, hz0, hz1, hz2⟩ := info_parts info64
  have n0 : ¬ (60 : Int) < (n : Int) := by omega
  have HF := Lib.hid (filledH td n tc L w w [] (Grommet.Own.nil w) hT hn)
  have hlen := Lib.hid (show (fillR zero16 L).length = 16 by rw [fillR_len, zero16_len])
  have hrel := Lib.hid (track_rels L zero16 zero16 zero_rels)
  have hrf := Lib.hid hrel.out.fence
  have HT := Lib.hid hT
  unfold ptr at HF
  generalize fillR zero16 L = ws at HF hlen hrel hrf
  have hlen2 := Lib.hid (show (ws.map PW.fence).length = 16 by rw [List.length_map, hlen.out])
  clear hT hrel
  go_enter Try.func6, Try.ntmps6
  go_wp2_with fail
  refine HF.out.mono ?_
  rintro e w1 ⟨d, rfl, hO⟩
  clear HF
  have hO : Grommet.Own w w1 [devP d ws] := hO
  have HE := Lib.hid (FenceH 0 d ws w w1 _ hO rfl 2 hlen.out)
  unfold ptr at HE
  clear hO
  go_wp2_with fail
  refine HE.out.mono ?_
  rintro e w2 ⟨rfl, hO⟩
  clear HE
  have hO : Grommet.Own w w2 [devP d (ws.map PW.fence)] := hO
  generalize ws.map PW.fence = fw at hO hrf hlen2
  clear hlen
  go_wp2_with (refine wpList_make_whole _ rfl _ _ 44 rfl 32 i0 (.int .u64 0) Try.underlying44 hi0 hz0 hz1 _ _ _ 16 rfl rfl rfl ?m1 ?m2 ?_)
  case m1 => rw [hz2]; omega
  case m2 => unfold maxLen; omega
  intro w3 hrow3 hg3
  have hO3 : Grommet.Own w w3 [devP d fw, rowP 32 1 (.slice (some ⟨w2.heap.size, 0, none⟩) 16 16) 16 ((zero16.map (·.kept)).map wv)] := hO.addRow ⟨by simp [zero16], .inr ⟨w2.heap.size, 16, _, rfl, Nat.le_refl _, hrow3, Nat.le_refl _, by unfold maxLen; omega, by rw [size_madeCells], made16k⟩⟩ hg3
  obtain ⟨qk, hqk⟩ : ∃ q, w2.heap.size = q := ⟨_, rfl⟩
  rw [hqk] at hO3 ⊢
  clear hqk hrow3 hg3 hO
  go_wp2_with (refine wpList_make_whole _ rfl _ _ 44 rfl 32 i0 (.int .u64 0) Try.underlying44 hi0 hz0 hz1 _ _ _ 16 rfl rfl rfl ?p1 ?p2 ?_)
  case p1 => rw [hz2]; omega
  case p2 => unfold maxLen; omega
  intro w4 hrow4 hg4
  have hO4 : Grommet.Own w w4 [devP d fw, rowP 32 1 (.slice (some ⟨qk, 0, none⟩) 16 16) 16 ((zero16.map (·.kept)).map wv), rowP 32 1 (.slice (some ⟨w3.heap.size, 0, none⟩) 16 16) 16 ((zero16.map (·.seen)).map wv)] := hO3.addRow ⟨by simp [zero16], .inr ⟨w3.heap.size, 16, _, rfl, Nat.le_refl _, hrow4, Nat.le_refl _, by unfold maxLen; omega, by rw [size_madeCells], made16s⟩⟩ hg4
  obtain ⟨qs, hqs⟩ : ∃ q, w3.heap.size = q := ⟨_, rfl⟩
  rw [hqs] at hO4 ⊢
  clear hqs hrow4 hg4 hO3
  have hO5 := hO4.addBox 56 ((zero16.map bw).toArray)
  obtain ⟨X, hX⟩ : ∃ q, w4.heap.size = q := ⟨_, rfl⟩
  rw [hX] at hO5
  replace hO5 := Lib.hid hO5
  clear hO4 hi0 hz0 hz1 hz2
  go_wp2_with fail
  have hO5 : Hid (Grommet.Own w _ [devP d fw, rowP 32 1 (.slice (some ⟨qk, 0, none⟩) 16 16) 16 (((trackR zero16 (L.take 0)).map (·.kept)).map wv), rowP 32 1 (.slice (some ⟨qs, 0, none⟩) 16 16) 16 (((trackR zero16 (L.take 0)).map (·.seen)).map wv), boxP X 56 ((trackR zero16 (L.take 0)).map bw).toArray]) := hO5
  go_loopw [8] (fun i wr => ∃ j : Nat, j ≤ n ∧ i = .int .i64 (j : Int) ∧ Hid (Grommet.Own w wr [devP d fw, rowP 32 1 (.slice (some ⟨qk, 0, none⟩) 16 16) 16 (((trackR zero16 (L.take j)).map (·.kept)).map wv), rowP 32 1 (.slice (some ⟨qs, 0, none⟩) 16 16) 16 (((trackR zero16 (L.take j)).map (·.seen)).map wv), boxP X 56 ((trackR zero16 (L.take j)).map bw).toArray])) (fun i _ => n - (intOf i).toNat)
  case atStart => exact ⟨0, Nat.zero_le _, rfl, hO5⟩
  case round =>
    clear hO5
    obtain ⟨j, hj, rfl, hR⟩ := hrel
    have j0 : (0 : Int) ≤ (j : Int) := by omega
    have hLl := HT.out.1
    by_cases hlt : j < n
    · have hlt' : (j : Int) < (n : Int) := by omega
      obtain ⟨x, hx⟩ : ∃ x, L[j]? = some x := ⟨_, List.getElem?_eq_getElem (by omega)⟩
      obtain ⟨q, o, rfl, c0, c1, c2⟩ := HT.out.2.2 j x hx
      have hO := hR.out
      have hg := hO.grown
      replace c0 := hg.cell c0 (by simp)
      replace c1 := hg.cell c1 (by simp)
      replace c2 := hg.cell c2 (by simp)
      have hok := HT.out.2.1 x (List.mem_of_getElem? hx)
      obtain ⟨a, v, -, e2, hv64, e4, e5, ha16, e7, e8⟩ := put_nums x hok
      rw [e2] at c1
      have hnext : trackR zero16 (L.take (j + 1)) = trR (trackR zero16 (L.take j)) x := by
        rw [← trackR_snoc]; congr 1; rw [List.take_add_one, hx]; rfl
      have hTl : (trackR zero16 (L.take j)).length = 16 := by rw [trackR_len, zero16_len]
      obtain ⟨TS, hTS⟩ : ∃ TS, trackR zero16 (L.take j) = TS := ⟨_, rfl⟩
      rw [hTS] at hO hnext hTl
      have wa : IntKind.u8.wrap (a : Int) = (a : Int) := IntWalk.u8_in _ ⟨by omega, by omega⟩
      have wa2 : IntKind.i64.wrap (a : Int) = (a : Int) := IntWalk.i64_in _ ⟨by omega, by omega⟩
      have wj : IntKind.i64.wrap ((j : Int) + 1) = (j : Int) + 1 := IntWalk.i64_in _ ⟨by omega, by omega⟩
      have a0 : (0 : Int) ≤ (a : Int) := by omega
      have a1 : (a : Int) < 16 := by omega
      have Hj := Lib.hid hlt
      cases hf : x.fl with
      | false =>
        rw [hf] at c2
        have htr : trR TS x = TS.modify a (PW.t2 v) := by unfold trR; rw [if_neg (by rw [hf]; decide), ← e4, ← e5]
        rw [htr] at hnext
        obtain ⟨t, ht⟩ : ∃ t, TS[a]? = some t := ⟨_, List.getElem?_eq_getElem (by omega)⟩
        obtain ⟨_, hq1, cs, zs, _⟩ := hO.cell 2 rfl a (wv t.seen) (by rw [List.getElem?_map, List.getElem?_map, ht]; rfl)
        cases hq1
        have hO1 := hO.store 2 rfl a (wv v)
        have hO1 : Grommet.Own w (wr.setCell ⟨qs, a, none⟩ (wv v)) [devP d fw, rowP 32 1 (.slice (some ⟨qk, 0, none⟩) 16 16) 16 ((TS.map (·.kept)).map wv), rowP 32 1 (.slice (some ⟨qs, 0, none⟩) 16 16) 16 (((TS.map (·.seen)).map wv).set a (wv v)), boxP X 56 (TS.map bw).toArray] := hO1
        have hbx := Grommet.Own.box hO1 3 rfl
        have cX : (wr.setCell ⟨qs, a, none⟩ (wv v)).cell? ⟨X, a, none⟩ = some (bw t) := row_cell hbx _ _ (by rw [List.getElem?_map, ht]; rfl)
        have zX : (wr.setCell ⟨qs, a, none⟩ (wv v)).frozen? ⟨X, a, none⟩ = false := row_free hbx a
        have hO2 := own_boxset hO1 3 rfl a (.bool true)
        have f1 : ((TS.modify a (PW.t2 v)).map (·.kept)).map wv = (TS.map (·.kept)).map wv := by rw [map_same_of (f := PW.t2 v) (·.kept) (fun c => rfl)]
        have f2 : ((TS.modify a (PW.t2 v)).map (·.seen)).map wv = ((TS.map (·.seen)).map wv).set a (wv v) := by rw [map_set_of (·.seen) ht, List.map_set]; rfl
        have f3 : (TS.modify a (PW.t2 v)).map bw = (TS.map bw).set a (.bool true) := by rw [map_set_of bw ht]; rfl
        have hO2 : Grommet.Own w ((wr.setCell ⟨qs, a, none⟩ (wv v)).setCell ⟨X, a, none⟩ (.bool true)) [devP d fw, rowP 32 1 (.slice (some ⟨qk, 0, none⟩) 16 16) 16 (((trackR zero16 (L.take (j + 1))).map (·.kept)).map wv), rowP 32 1 (.slice (some ⟨qs, 0, none⟩) 16 16) 16 (((trackR zero16 (L.take (j + 1))).map (·.seen)).map wv), boxP X 56 ((trackR zero16 (L.take (j + 1))).map bw).toArray] := by
          rw [hnext, f1, f2, f3]; exact hO2
        replace hO2 := Lib.hid hO2
        unfold wv at cs cX zX hO2
        unfold bw at cX
        clear f1 f2 f3 hO1 hbx htr hnext hO hR hTS hok e2 e4 e5 hx hg hv64 hLl hlt hj hTl ht
        go_wp2
        go_roundw
        case rel => exact ⟨j + 1, Hj.out, by go_num, hO2⟩
        case measure => have := Hj.out; simp [intOf]; omega
      | true =>
        rw [hf] at c2
        have htr : trR TS x = turnFrom PW.t1 (8 * (a / 8)) 8 TS := by unfold trR; rw [if_pos hf, ← e4]
        rw [htr] at hnext
        have wq : Int.tdiv (a : Int) 8 = ((a / 8 : Nat) : Int) := by rw [Int.tdiv_eq_ediv_of_nonneg (by omega)]; omega
        have wq2 : (a : Int) / 8 = ((a / 8 : Nat) : Int) := by omega
        obtain ⟨A, hA⟩ : ∃ A, a / 8 = A := ⟨_, rfl⟩
        rw [hA] at wq wq2 hnext
        have hA1 : A ≤ 1 := by omega
        have wq3 : IntKind.i64.wrap (A : Int) = (A : Int) := IntWalk.i64_in _ ⟨by omega, by omega⟩
        have wq4 : IntKind.i64.wrap ((A : Int) * 8) = (A : Int) * 8 := IntWalk.i64_in _ ⟨by omega, by omega⟩
        have wq5 : IntKind.i64.wrap ((A : Int) * 8 + 8) = (A : Int) * 8 + 8 := IntWalk.i64_in _ ⟨by omega, by omega⟩
        have hO0 := Lib.hid (show Grommet.Own w wr [devP d fw, rowP 32 1 (.slice (some ⟨qk, 0, none⟩) 16 16) 16 (((turnFrom PW.t1 (8 * A) 0 TS).map (·.kept)).map wv), rowP 32 1 (.slice (some ⟨qs, 0, none⟩) 16 16) 16 (((turnFrom PW.t1 (8 * A) 0 TS).map (·.seen)).map wv), boxP X 56 ((turnFrom PW.t1 (8 * A) 0 TS).map bw).toArray] from hO)
        have Hn := Lib.hid hnext
        have HTl := Lib.hid hTl
        have HA1 := Lib.hid hA1
        clear htr hnext hO hR hTS hok e2 e4 e5 hx hg hv64 hLl hlt hj hTl c1 hA hA1
        go_wp2_with fail
        go_loopw [10] (fun i wr => ∃ m : Nat, m ≤ 8 ∧ i = .int .i64 ((A : Int) * 8 + (m : Int)) ∧ Hid (Grommet.Own w wr [devP d fw, rowP 32 1 (.slice (some ⟨qk, 0, none⟩) 16 16) 16 (((turnFrom PW.t1 (8 * A) m TS).map (·.kept)).map wv), rowP 32 1 (.slice (some ⟨qs, 0, none⟩) 16 16) 16 (((turnFrom PW.t1 (8 * A) m TS).map (·.seen)).map wv), boxP X 56 ((turnFrom PW.t1 (8 * A) m TS).map bw).toArray])) (fun i _ => A * 8 + 8 - (intOf i).toNat)
        case atStart => exact ⟨0, by decide, by simp, hO0⟩
        case round =>
          clear hO0
          obtain ⟨m, hm, rfl, hR⟩ := hrel
          have hO := hR.out
          have hA1 := HA1.out
          by_cases hlt : m < 8
          · obtain ⟨P, hP⟩ : ∃ P : Nat, 8 * A + m = P := ⟨_, rfl⟩
            have hPi : ((A : Int) * 8 + (m : Int)) = (P : Int) := by omega
            obtain ⟨t, ht⟩ : ∃ t, (turnFrom PW.t1 (8 * A) m TS)[P]? = some t := ⟨_, List.getElem?_eq_getElem (by rw [turnFrom_len, HTl.out]; omega)⟩
            have hsucc := turnFrom_succ PW.t1 (8 * A) m TS
            rw [hP] at hsucc
            obtain ⟨TM, hTM⟩ : ∃ TM, turnFrom PW.t1 (8 * A) m TS = TM := ⟨_, rfl⟩
            rw [hTM] at hsucc hO ht
            obtain ⟨_, hq1, cs, _, _⟩ := hO.cell 2 rfl P (wv t.seen) (by rw [List.getElem?_map, List.getElem?_map, ht]; rfl)
            cases hq1
            obtain ⟨_, hq1, ck, zk, _⟩ := hO.cell 1 rfl P (wv t.kept) (by rw [List.getElem?_map, List.getElem?_map, ht]; rfl)
            cases hq1
            have hO1 := hO.store 1 rfl P (wv t.seen)
            have hO1 : Grommet.Own w (wr.setCell ⟨qk, P, none⟩ (wv t.seen)) [devP d fw, rowP 32 1 (.slice (some ⟨qk, 0, none⟩) 16 16) 16 (((TM.map (·.kept)).map wv).set P (wv t.seen)), rowP 32 1 (.slice (some ⟨qs, 0, none⟩) 16 16) 16 ((TM.map (·.seen)).map wv), boxP X 56 (TM.map bw).toArray] := hO1
            have hbx := Grommet.Own.box hO1 3 rfl
            have cX : (wr.setCell ⟨qk, P, none⟩ (wv t.seen)).cell? ⟨X, P, none⟩ = some (bw t) := row_cell hbx _ _ (by rw [List.getElem?_map, ht]; rfl)
            have zX : (wr.setCell ⟨qk, P, none⟩ (wv t.seen)).frozen? ⟨X, P, none⟩ = false := row_free hbx P
            have hO2 := own_boxset hO1 3 rfl P (.bool false)
            have f1 : ((TM.modify P PW.t1).map (·.kept)).map wv = ((TM.map (·.kept)).map wv).set P (wv t.seen) := by rw [map_set_of (·.kept) ht, List.map_set]; rfl
            have f2 : ((TM.modify P PW.t1).map (·.seen)).map wv = (TM.map (·.seen)).map wv := by rw [map_same_of (f := PW.t1) (·.seen) (fun c => rfl)]
            have f3 : (TM.modify P PW.t1).map bw = (TM.map bw).set P (.bool false) := by rw [map_set_of bw ht]; rfl
            have hO2 : Grommet.Own w ((wr.setCell ⟨qk, P, none⟩ (wv t.seen)).setCell ⟨X, P, none⟩ (.bool false)) [devP d fw, rowP 32 1 (.slice (some ⟨qk, 0, none⟩) 16 16) 16 (((turnFrom PW.t1 (8 * A) (m + 1) TS).map (·.kept)).map wv), rowP 32 1 (.slice (some ⟨qs, 0, none⟩) 16 16) 16 (((turnFrom PW.t1 (8 * A) (m + 1) TS).map (·.seen)).map wv), boxP X 56 ((turnFrom PW.t1 (8 * A) (m + 1) TS).map bw).toArray] := by
              rw [hsucc, f1, f2, f3]; exact hO2
            replace hO2 := Lib.hid hO2
            have p1 : (0 : Int) ≤ (P : Int) := by omega
            have p2 : (P : Int) < 16 := by omega
            have p3 : (P : Int) < (A : Int) * 8 + 8 := by omega
            have wP : IntKind.i64.wrap ((P : Int) + 1) = (P : Int) + 1 := IntWalk.i64_in _ ⟨by omega, by omega⟩
            have HPn := Lib.hid (show (P : Int) + 1 = (A : Int) * 8 + ((m + 1 : Nat) : Int) by omega)
            have HPm := Lib.hid (show P < A * 8 + 8 by omega)
            have Hm := Lib.hid hlt
            rw [hPi]
            unfold wv at cs ck cX zX hO2
            unfold bw at cX
            clear f1 f2 f3 hO1 hbx hO hR hsucc hTM ht hP hPi hlt hm hA1
            go_wp2_with fail
            go_roundw
            case rel => exact ⟨m + 1, Hm.out, by rw [← HPn.out], hO2⟩
            case measure => have := HPm.out; simp [intOf]; omega
          · obtain rfl : m = 8 := by omega
            rw [← Hn.out] at hO
            replace hO := Lib.hid hO
            have p3 : ¬ ((A : Int) * 8 + ((8 : Nat) : Int) < (A : Int) * 8 + 8) := by omega
            have p4 : (A : Int) * 8 + ((8 : Nat) : Int) = (A : Int) * 8 + 8 := by omega
            rw [p4]
            have p5 : ¬ ((A : Int) * 8 + 8 < (A : Int) * 8 + 8) := by omega
            clear hR hlt hm hA1 p3 p4
            go_wp2
            go_roundw
            case rel => exact ⟨j + 1, Hj.out, by go_num, hO⟩
            case measure => have := Hj.out; simp [intOf]; omega
    · obtain rfl : j = n := by omega
      have hlt' : ¬ (j : Int) < (j : Int) := by omega
      have hall : L.take j = L := List.take_of_length_le (by omega)
      rw [hall] at hR
      have hTl := Lib.hid (show (trackR zero16 L).length = 16 by rw [trackR_len, zero16_len])
      have hTsm := Lib.hid (track_small L zero16 (fun x hx => HT.out.2.1 x hx) zero_smalls)
      have hO := Lib.hid hR.out
      generalize trackR zero16 L = ts at hO hrf hTl hTsm
      clear hR hall hLl hlt hj HT
      go_wp2_with fail
      go_loopw [12, 11] (fun i l wr => ∃ k : Nat, k ≤ 16 ∧ i = .int .i64 (k : Int) ∧ (∃ lo : Nat, l = .int .i64 (lo : Int) ∧ Hid (lo = ((ts.take k).filter (·.again)).length) ∧ lo ≤ k) ∧ Hid (Grommet.Own w wr [devP d fw, rowP 32 1 (.slice (some ⟨qk, 0, none⟩) 16 16) 16 (((ts).map (·.kept)).map wv), rowP 32 1 (.slice (some ⟨qs, 0, none⟩) 16 16) 16 (((ts).map (·.seen)).map wv), boxP X 56 ((ts).map bw).toArray])) (fun i _ _ => 16 - (intOf i).toNat)
      case atStart => exact ⟨0, by decide, rfl, ⟨0, rfl, Lib.hid rfl, Nat.le_refl _⟩, hO⟩
      case round =>
        clear hO
        obtain ⟨k, hk, rfl, ⟨lo, rfl, hlo, hlok⟩, hR⟩ := hrel
        have k0 : (0 : Int) ≤ (k : Int) := by omega
        by_cases hlt : k < 16
        · have hlt' : (k : Int) < 16 := by omega
          obtain ⟨t, ht⟩ : ∃ t, ts[k]? = some t := ⟨_, List.getElem?_eq_getElem (by rw [hTl.out]; omega)⟩
          have cX : wr.cell? ⟨X, k, none⟩ = some (bw t) := row_cell (Grommet.Own.box hR.out 3 rfl) _ _ (by rw [List.getElem?_map, ht]; rfl)
          have hsucc := filter_take_succ ts k t ht
          rw [← hlo.out] at hsucc
          have wk : IntKind.i64.wrap ((k : Int) + 1) = (k : Int) + 1 := IntWalk.i64_in _ ⟨by omega, by omega⟩
          have wl : IntKind.i64.wrap ((lo : Int) + 1) = (lo : Int) + 1 := IntWalk.i64_in _ ⟨by omega, by omega⟩
          have Hk := Lib.hid hlt
          have Hlk := Lib.hid hlok
          unfold bw at cX
          cases ha : t.again with
          | true =>
            rw [ha] at cX hsucc
            have hs := Lib.hid (show lo + 1 = ((ts.take (k + 1)).filter (·.again)).length from hsucc.symm)
            clear hsucc ht hlo hlok hlt hk
            go_wp2
            go_roundw
            case rel => exact ⟨k + 1, Hk.out, by go_num, ⟨lo + 1, by go_num, hs, Nat.succ_le_succ Hlk.out⟩, hR⟩
            case measure => have := Hk.out; simp [intOf]; omega
          | false =>
            rw [ha] at cX hsucc
            have hs := Lib.hid (show lo = ((ts.take (k + 1)).filter (·.again)).length from hsucc.symm)
            clear hsucc ht hlo hlok hlt hk
            go_wp2
            go_roundw
            case rel => exact ⟨k + 1, Hk.out, by go_num, ⟨lo, rfl, hs, Nat.le_succ_of_le Hlk.out⟩, hR⟩
            case measure => have := Hk.out; simp [intOf]; omega
        · obtain rfl : k = 16 := by omega
          have hO := hR.out
          have hlo2 := hlo.out
          rw [List.take_of_length_le (by rw [hTl.out]; decide), ← hrf.out.2.2.1] at hlo2
          have HL := Lib.hid (LooseH 0 d fw w wr _ hO rfl 2 hlen2.out)
          rw [← hlo2] at HL
          unfold ptr at HL
          have hfair := Lib.hid hrf.out.2.2.2
          have hks : ∀ n ∈ ts.map (·.kept), n < 18446744073709551616 := by
            intro n hn; obtain ⟨c, hc, rfl⟩ := List.mem_map.1 hn; exact (hTsm.out c hc).2.2
          have hKS := Lib.hid hks
          have hSS := Lib.hid (seen_small hTsm.out)
          have hr1 := Lib.hid hrf.out.1
          have hr2 := Lib.hid hrf.out.2.1
          clear hO hR hlo hlo2 hlok hlt hk hks
          go_wp2_with fail
          refine HL.out.mono ?_
          rintro e w6 ⟨rfl, hO⟩
          clear HL
          have HS := Lib.hid (SeenH 0 d fw w w6 _ hO rfl 2 hlen2.out)
          rw [hlen2.out, hr2.out] at HS
          unfold ptr at HS
          clear hO
          go_wp2_with fail
          refine HS.out.mono ?_
          rintro e w7 ⟨ad6, cap6, rfl, hO⟩
          clear HS
          have hO : Grommet.Own w w7 [devP d fw, rowP 32 1 (.slice (some ⟨qk, 0, none⟩) 16 16) 16 ((ts.map (·.kept)).map wv), rowP 32 1 (.slice (some ⟨qs, 0, none⟩) 16 16) 16 ((ts.map (·.seen)).map wv), boxP X 56 (ts.map bw).toArray, rowP 32 1 (.slice ad6 16 cap6) 16 ((ts.map (·.seen)).map wv)] := hO
          have HQ := Lib.hid (Same_any _ _ 16 16 cap6 16 _ _ w7 (devs_words hO 4 rfl hSS.out (by decide)).1 (devs_words hO 2 rfl hSS.out (by decide)).1)
          rw [decide_eq_true rfl] at HQ
          replace hO := Lib.hid hO
          go_wp2_with fail
          refine HQ.out.mono ?_
          rintro e w8 ⟨rfl, hg⟩
          clear HQ
          have hO' : Grommet.Own w w8 [devP d fw, rowP 32 1 (.slice (some ⟨qk, 0, none⟩) 16 16) 16 ((ts.map (·.kept)).map wv), rowP 32 1 (.slice (some ⟨qs, 0, none⟩) 16 16) 16 ((ts.map (·.seen)).map wv), boxP X 56 (ts.map bw).toArray] := Grommet.Own.less (Qs := [_]) (hO.out.quiet hg)
          clear hO hg
          have hO := hO'
          clear hO'
          have HS := Lib.hid (SureH 0 d fw w w8 _ hO rfl 2 hlen2.out)
          rw [hlen2.out, hr1.out] at HS
          unfold ptr at HS
          clear hO
          go_wp2_with fail
          refine HS.out.mono ?_
          rintro e w9 ⟨ad8, cap8, rfl, hO⟩
          clear HS
          have hO : Grommet.Own w w9 [devP d fw, rowP 32 1 (.slice (some ⟨qk, 0, none⟩) 16 16) 16 ((ts.map (·.kept)).map wv), rowP 32 1 (.slice (some ⟨qs, 0, none⟩) 16 16) 16 ((ts.map (·.seen)).map wv), boxP X 56 (ts.map bw).toArray, rowP 32 1 (.slice ad8 16 cap8) 16 ((ts.map (·.kept)).map wv)] := hO
          have HQ := Lib.hid (Same_any _ _ 16 16 cap8 16 _ _ w9 (devs_words hO 4 rfl hKS.out (by decide)).1 (devs_words hO 1 rfl hKS.out (by decide)).1)
          rw [decide_eq_true rfl] at HQ
          replace hO := Lib.hid hO
          go_wp2_with fail
          refine HQ.out.mono ?_
          rintro e w10 ⟨rfl, hg⟩
          clear HQ
          have hO' : Grommet.Own w w10 [devP d fw, rowP 32 1 (.slice (some ⟨qk, 0, none⟩) 16 16) 16 ((ts.map (·.kept)).map wv), rowP 32 1 (.slice (some ⟨qs, 0, none⟩) 16 16) 16 ((ts.map (·.seen)).map wv), boxP X 56 (ts.map bw).toArray] := Grommet.Own.less (Qs := [_]) (hO.out.quiet hg)
          clear hO hg
          have hO := hO'
          clear hO'
          obtain ⟨cv, hcv⟩ : ∃ cv, crash fw [] = cv := ⟨_, rfl⟩
          obtain ⟨m1, m2, m3⟩ := crash_none fw hfair.out
          have ml : (crash fw []).length = 16 := by rw [crash_len, hlen2.out]
          rw [hcv] at m1 m2 m3 ml
          rw [hr1.out] at m1 m2
          have M1 := Lib.hid m1
          have M2 := Lib.hid m2
          have M3 := Lib.hid m3
          have ML := Lib.hid ml
          have HC := Lib.hid (CrashOldH 0 d fw w w10 _ hO rfl 2 hlen2.out none 0 [] (At.nil _ _) (fun _ => rfl) (by decide) (fun _ a ha => by cases ha) (fun p hp => by simp at hp) (by decide))
          rw [hcv] at HC
          unfold ptr at HC
          clear m1 m2 m3 ml hcv hO
          go_wp2_with fail
          refine HC.out.mono ?_
          rintro e w11 ⟨rfl, hO⟩
          clear HC
          have hO : Grommet.Own w w11 [devP d cv, rowP 32 1 (.slice (some ⟨qk, 0, none⟩) 16 16) 16 ((ts.map (·.kept)).map wv), rowP 32 1 (.slice (some ⟨qs, 0, none⟩) 16 16) 16 ((ts.map (·.seen)).map wv), boxP X 56 (ts.map bw).toArray] := hO
          have HS := Lib.hid (SeenH 0 d cv w w11 _ hO rfl 2 ML.out)
          rw [ML.out, M2.out] at HS
          unfold ptr at HS
          clear hO
          go_wp2_with fail
          refine HS.out.mono ?_
          rintro e w12 ⟨ad11, cap11, rfl, hO⟩
          clear HS
          have hO : Grommet.Own w w12 [devP d cv, rowP 32 1 (.slice (some ⟨qk, 0, none⟩) 16 16) 16 ((ts.map (·.kept)).map wv), rowP 32 1 (.slice (some ⟨qs, 0, none⟩) 16 16) 16 ((ts.map (·.seen)).map wv), boxP X 56 (ts.map bw).toArray, rowP 32 1 (.slice ad11 16 cap11) 16 ((ts.map (·.kept)).map wv)] := hO
          have HQ := Lib.hid (Same_any _ _ 16 16 cap11 16 _ _ w12 (devs_words hO 4 rfl hKS.out (by decide)).1 (devs_words hO 1 rfl hKS.out (by decide)).1)
          rw [decide_eq_true rfl] at HQ
          replace hO := Lib.hid hO
          go_wp2_with fail
          refine HQ.out.mono ?_
          rintro e w13 ⟨rfl, hg⟩
          clear HQ
          have hO' : Grommet.Own w w13 [devP d cv, rowP 32 1 (.slice (some ⟨qk, 0, none⟩) 16 16) 16 ((ts.map (·.kept)).map wv), rowP 32 1 (.slice (some ⟨qs, 0, none⟩) 16 16) 16 ((ts.map (·.seen)).map wv), boxP X 56 (ts.map bw).toArray] := Grommet.Own.less (Qs := [_]) (hO.out.quiet hg)
          clear hO hg
          have hO := hO'
          clear hO'
          have HS := Lib.hid (SureH 0 d cv w w13 _ hO rfl 2 ML.out)
          rw [ML.out, M1.out] at HS
          unfold ptr at HS
          clear hO
          go_wp2_with fail
          refine HS.out.mono ?_
          rintro e w14 ⟨ad13, cap13, rfl, hO⟩
          clear HS
          have hO : Grommet.Own w w14 [devP d cv, rowP 32 1 (.slice (some ⟨qk, 0, none⟩) 16 16) 16 ((ts.map (·.kept)).map wv), rowP 32 1 (.slice (some ⟨qs, 0, none⟩) 16 16) 16 ((ts.map (·.seen)).map wv), boxP X 56 (ts.map bw).toArray, rowP 32 1 (.slice ad13 16 cap13) 16 ((ts.map (·.kept)).map wv)] := hO
          have HQ := Lib.hid (Same_any _ _ 16 16 cap13 16 _ _ w14 (devs_words hO 4 rfl hKS.out (by decide)).1 (devs_words hO 1 rfl hKS.out (by decide)).1)
          rw [decide_eq_true rfl] at HQ
          replace hO := Lib.hid hO
          go_wp2_with fail
          refine HQ.out.mono ?_
          rintro e w15 ⟨rfl, hg⟩
          clear HQ
          have hO' : Grommet.Own w w15 [devP d cv, rowP 32 1 (.slice (some ⟨qk, 0, none⟩) 16 16) 16 ((ts.map (·.kept)).map wv), rowP 32 1 (.slice (some ⟨qs, 0, none⟩) 16 16) 16 ((ts.map (·.seen)).map wv), boxP X 56 (ts.map bw).toArray] := Grommet.Own.less (Qs := [_]) (hO.out.quiet hg)
          clear hO hg
          have hO := hO'
          clear hO'
          have HL := Lib.hid (LooseH 0 d cv w w15 _ hO rfl 2 ML.out)
          rw [M3.out] at HL
          unfold ptr at HL
          clear hO
          go_wp2_with fail
          refine HL.out.mono ?_
          rintro e w16 ⟨rfl, hO⟩
          clear HL
          have hgo := Lib.hid hO.grown
          clear hO
          go_wp2_with fail
          refine (works_any _).mono ?_
          rintro e w17 ⟨rfl, hg16⟩
          have hfin := Lib.hid (grown_trans hgo.out hg16)
          clear hgo hg16
          go_wp2
          go_ret
          exact ⟨rfl, hfin.out⟩

set_option maxRecDepth 100000 in
theorem walk_far (td : Option Addr) (n tc : Nat) (w : World) (hn : 60 < n) :
    Calls Try.prog 6 #[.slice td n tc] w (WorksIs w) := by
  have n0 : (60 : Int) < (n : Int) := by omega
  go_enter Try.func6, Try.ntmps6
  go_wp2_with fail
  refine (works_any _).mono ?_
  rintro e w6 ⟨rfl, hg6⟩
  go_wp2
  go_ret
  exact ⟨rfl, hg6⟩
theorem walk (td : Option Addr) (n tc : Nat) (L : List Put3) (w : World) (hT : PutsIn w td n L) :
    Calls Try.prog 6 #[.slice td n tc] w (WorksIs w) := by
  by_cases hn : 60 < n
  · exact walk_far td n tc w hn
  · exact walk_near td n tc L w hT (by omega)
end Go.Proofs.Ytimihchklecabaa.pmemFenced
