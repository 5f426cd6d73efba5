/- OctetPuts, walked. -/
import Derived.Test.YtingkjmbeloepaaRefC
import Derived.Test.YtingkjmbeloepaaBase3
import Derived.Test.YtingkjmbeloepaaBase4
import Derived.Deep.RegionWith
import Derived.Deep.RegionHeld
import Derived.Deep.DrawnRows
namespace Go.Proofs.Ytingkjmbeloepaa.octetPuts
open Go.RowKit Go.Grommet
attribute [local go_sem ↓] Go.wp_at_zero Go.wp_at_succ

set_option maxHeartbeats 400000 in
theorem walk_far (a0 : Option Addr) (len0 cap0 : Nat) (n : Int) (s : ByteArray) (a3 : Option Addr) (len3 cap3 : Nat) (k : Int) (w : World) (h0 : len0 ≤ 140737488351232) (h2 : s.size ≤ 140737488351232) (h3 : len3 ≤ 140737488351232)
    (hfar : 4096 < len0 + s.size + len3) :
    Calls Try.prog 3 #[.slice a0 len0 cap0, .int .u64 n, .string s, .slice a3 len3 cap3, .int .i64 k] w (WorksIs w) := by
  have h1 : (4096 : Int) < (len0 : Int) + (s.size : Int) + (len3 : Int) := by omega
  go_enter Try.func3, Try.ntmps3
  go_wp2_with fail
  refine (works_any _).mono ?_
  rintro e w5 ⟨rfl, hg⟩
  go_wp2
  go_ret
  exact ⟨rfl, hg⟩

theorem made_row (bs : List UInt8) : ((madeCells #[Value.int .u8 0] (bs.length + 16)).toList.take 0 ++ bs.map bv ++ (madeCells #[Value.int .u8 0] (bs.length + 16)).toList.drop (0 + bs.length)) = (bs ++ List.replicate 16 0).map bv := by
  have e : (madeCells #[Value.int .u8 0] (bs.length + 16)).toList = List.replicate (bs.length + 16) (Value.int .u8 0) := by
    simp [madeCells, Nat.mod_one, List.map_const']
  rw [e]
  simp [bv]

/-- What stands while the last statement runs: both texts that octet made, the bytes that came in. -/
def HP (w : World) (adx : Option Addr) (capx : Nat) (X : List UInt8) (ady : Option Addr) (capy : Nat) (Y : List UInt8) (a0 : Option Addr) (bs : List UInt8) (w' : World) : Prop :=
  At w' adx (X.map bv) ∧ (adx = none → X.length = 0 ∧ capx = 0) ∧ At w' ady (Y.map bv) ∧ (ady = none → Y.length = 0 ∧ capy = 0) ∧ At w' a0 (bs.map bv) ∧ w.grownBy w' none

theorem HP.drew {w w' : World} {adx : Option Addr} {capx : Nat} {X : List UInt8} {ady : Option Addr} {capy : Nat} {Y : List UInt8} {a0 : Option Addr} {bs : List UInt8} (h : HP w adx capx X ady capy Y a0 bs w') : HP w adx capx X ady capy Y a0 bs w'.drew :=
  ⟨h.1, h.2.1, h.2.2.1, h.2.2.2.1, h.2.2.2.2.1, grown_drew h.2.2.2.2.2⟩
theorem HP.grown {w w' w'' : World} {adx : Option Addr} {capx : Nat} {X : List UInt8} {ady : Option Addr} {capy : Nat} {Y : List UInt8} {a0 : Option Addr} {bs : List UInt8} (h : HP w adx capx X ady capy Y a0 bs w') (hg : w'.grownBy w'' none) : HP w adx capx X ady capy Y a0 bs w'' :=
  ⟨h.1.grown hg (by simp), h.2.1, h.2.2.1.grown hg (by simp), h.2.2.2.1, h.2.2.2.2.1.grown hg (by simp), grown_trans h.2.2.2.2.2 hg⟩
theorem HP.at0 (w : World) (adx : Option Addr) (capx : Nat) (X : List UInt8) (ady : Option Addr) (capy : Nat) (Y : List UInt8) (a0 : Option Addr) (bs : List UInt8) (w' : World) (h : HP w adx capx X ady capy Y a0 bs w') : At w' a0 (bs.map bv) := h.2.2.2.2.1
theorem HP.all {w w' : World} {adx : Option Addr} {capx : Nat} {X : List UInt8} {ady : Option Addr} {capy : Nat} {Y : List UInt8} {a0 : Option Addr} {bs : List UInt8} (h : HP w adx capx X ady capy Y a0 bs w') :
    HP w adx capx X ady capy Y a0 bs w' ∧ (convert 22 9 (.slice adx X.length capx)).run Try.prog w' = .ok (.string (str X)) w' ∧ (convert 22 9 (.slice ady Y.length capy)).run Try.prog w' = .ok (.string (str Y)) w' :=
  ⟨h, conv_at _ _ 5 Try.underlying22 Try.underlying5 Try.underlying9 h.1 rfl (fun e => (h.2.1 e).1), conv_at _ _ 5 Try.underlying22 Try.underlying5 Try.underlying9 h.2.2.1 rfl (fun e => (h.2.2.2.1 e).1)⟩

theorem HP.again {w w' w'' : World} {adx : Option Addr} {capx : Nat} {X : List UInt8} {ady : Option Addr} {capy : Nat} {Y : List UInt8} {a0 : Option Addr} {bs : List UInt8} {p : Prop} (h : HP w adx capx X ady capy Y a0 bs w' ∧ p) (hg : w'.grownBy w'' none) :
    HP w adx capx X ady capy Y a0 bs w'' ∧ (convert 22 9 (.slice adx X.length capx)).run Try.prog w'' = .ok (.string (str X)) w'' ∧ (convert 22 9 (.slice ady Y.length capy)).run Try.prog w'' = .ok (.string (str Y)) w'' := (h.1.grown hg).all

/-- So many words, somewhere new. -/
def WordsNew (M : Nat) (ws : List Nat) (w : World) (e : Ending) (w' : World) : Prop :=
  ∃ ad cap, e = .returned (.slice ad M cap) ∧ At w' ad (ws.map wv) ∧ w.grownBy w' none
theorem wordsNew_of {w : World} {ws : List Nat} {M : Nat} (hM : ws.length = M) (e : Ending) (w' : World) (h : WordsIs w ws e w') : WordsNew M ws w e w' := by
  obtain ⟨he, hW, hg⟩ := h
  subst hM
  obtain ⟨ad, cap, h1, ha, _⟩ := at_of_owns hW
  cases h1
  exact ⟨_, _, he, ha, hg⟩

set_option maxHeartbeats 60000000 in
theorem walk_at (a0 : Option Addr) (len0 cap0 : Nat) (bs : List UInt8) (n : Nat) (s : ByteArray) (a3 : Option Addr) (len3 cap3 : Nat) (ws : List Nat) (k : Int) (w : World) (hn : n < 2 ^ 64) (hk : k < 9223372036854775808)
    (hl0 : bs.length = len0) (hat0 : At w a0 (bs.map bv)) (hnil0 : a0 = none → len0 = 0 ∧ cap0 = 0) (hl3 : ws.length = len3) (hat3 : At w a3 (ws.map wv)) (hnear : len0 + s.size + len3 ≤ 4096) :
    Calls Try.prog 3 #[.slice a0 len0 cap0, .int .u64 (n : Int), .string s, .slice a3 len3 cap3, .int .i64 k] w (WorksIs w) := by
  obtain ⟨i0, hi, hz0, hz1, hz2⟩ := info_parts Try.info5
  have h1 : ¬ (4096 : Int) < (len0 : Int) + (s.size : Int) + (len3 : Int) := by omega
  have Hat0 := Lib.hid hat0
  have Hat3 := Lib.hid hat3
  have Hl0 := Lib.hid hl0
  have Hl3 := Lib.hid hl3
  have Hnil0 := Lib.hid hnil0
  clear hat0 hat3 hl0 hl3 hnil0
  go_enter Try.func3, Try.ntmps3
  go_wp2_with (at_make; refine wpList_make_row _ rfl _ _ 22 rfl 5 i0 (.int .u8 0) Try.underlying22 hi hz0 hz1 _ _ _ (len0 + 16) rfl rfl ?m1 ?m2 ?m3 ?_)
  case m2 => omega
  case m3 => unfold maxLen; omega
  intro w1 hrow hg1
  have hrow' : w1.heap[w.heap.size]? = some (.cells (madeCells #[Value.int .u8 0] (bs.length + 16)).toList.toArray 5 (0, 0)) := by
    rw [Hl0.out]; simpa using hrow
  have hml : (madeCells #[Value.int .u8 0] (bs.length + 16)).toList.length = len0 + 16 := by rw [Array.length_toList, size_madeCells, Hl0.out]
  have hat1 := Hat0.out.grown hg1 (by simp)
  clear hrow
  go_wp2_with (at_builtin; refine wpList_append_row _ rfl _ _ 22 rfl 5 i0 Try.underlying22 hi hz1 w.heap.size 0 (len0 + 16) _ rfl hrow' hml ?c1 a0 len0 cap0 (bs.map bv) rfl ?c2 hat1 Hnil0.out ?c3 ?c4 ?_)
  case c1 => unfold maxLen; omega
  case c2 => rw [List.length_map]; exact Hl0.out
  case c3 => exact bv_oneCell bs
  case c4 => omega
  intro w2 hrow2 hg2
  have hrow3 : w2.heap[w.heap.size]? = some (.cells ((bs ++ List.replicate 16 0).map bv).toArray 5 (0, 0)) := by
    rw [← made_row, Hl0.out]
    have e := Hl0.out
    simp only [e] at hrow2
    simpa using hrow2
  have hO := at_of_row hrow3
  have hg := grown_new hg1 hg2 (by intro g e; cases e; exact Nat.le_refl _)
  clear hrow' hml hat1 hrow2 hg1 hg2 hrow3
  rw [List.map_append] at hO
  have hOb := at_prefix hO
  have HN := Lib.hid (Number_any _ len0 (len0 + 16) bs n w2 hn Hl0.out hOb (by simp) (by omega))
  generalize hXe : bs ++ num n = X at HN
  have HXe := Lib.hid hXe
  clear hXe
  go_wp2_with fail
  refine HN.out.mono ?_
  rintro e w3 ⟨adx, capx, rfl, hX, hnx, hcx, hg3⟩
  have hO := hO.grown hg3 (by simp)
  have hOb := at_prefix hO
  have hg := grown_trans hg hg3
  clear HN hg3
  have HN := Lib.hid (Text_any _ len0 (len0 + 16) bs s w3 Hl0.out hOb (by simp) (by omega))
  generalize hYe : bs ++ num s.size ++ bytesOf s = Y at HN
  have HYe := Lib.hid hYe
  clear hYe
  go_wp2_with fail
  refine HN.out.mono ?_
  rintro e w4 ⟨ady, capy, rfl, hY, hny, hcy, hg4⟩
  have hO := hO.grown hg4 (by simp)
  have hX := hX.grown hg4 (by simp)
  have hg := grown_trans hg hg4
  clear HN hg4 hOb
  have Hnx := Lib.hid hnx
  have Hny := Lib.hid hny
  clear hnx hny hcx hcy
  go_wp2_with fail
  go_loopw [15] (fun i wr => ∃ j : Nat, j ≤ len0 + 16 ∧ i = .int .i64 (j : Int) ∧ w4.grownBy wr none) (fun i _ => len0 + 16 - (intOf i).toNat)
  case atStart => exact ⟨0, Nat.zero_le _, rfl, World.grownBy.refl _ _⟩
  case round =>
    obtain ⟨j, hj, rfl, hgr⟩ := hrel
    by_cases hlt : j < len0 + 16
    · have hlt' : (j : Int) < (len0 : Int) + 16 := by omega
      have b0 : (0 : Int) ≤ (j : Int) := by omega
      have hO' := hO.grown hgr (by simp)
      by_cases hb : j < len0
      · have hb' : (j : Int) < (len0 : Int) := by omega
        have hb2 : decide ((len0 : Int) ≤ (j : Int)) = false := by simp; omega
        have hb3 : decide (len0 ≤ j) = false := by simp; omega
        have hb4 : decide (j < len0) = true := by simp; omega
        have hbd : j < bs.length := by rw [Hl0.out]; exact hb
        have hv : (bs.map bv)[j]? = some (.int .u8 ((bs.getD j 0).toNat : Int)) := by
          rw [List.getElem?_map, List.getElem?_eq_getElem hbd, List.getD_eq_getElem?_getD, List.getElem?_eq_getElem hbd]; rfl
        obtain ⟨q, o, he, hc⟩ := (at_prefix hO') j _ hv
        cases he
        rw [Nat.zero_add] at hc
        obtain ⟨q, o, rfl, hc2⟩ := ((Hat0.out.grown hg (by simp)).grown hgr (by simp)) j _ hv
        generalize bs.getD j 0 = c at hc hc2
        clear hv hO'
        go_wp2_with fail
        go_quiet (fail)
        go_wp2
        go_roundw
        case rel => exact ⟨j + 1, by omega, by go_num, grown_trans hgr (grown_drewN _ _ _)⟩
        case measure => simp [intOf]; omega
      · have hb' : decide ((j : Int) < (len0 : Int)) = false := by simp; omega
        have hb3 : decide (j < len0) = false := by simp; omega
        have hb4 : decide (len0 ≤ j) = true := by simp; omega
        have hb2 : (len0 : Int) ≤ (j : Int) := by omega
        have hv : (bs.map bv ++ (List.replicate 16 0).map bv)[j]? = some (.int .u8 0) := by
          have e : (bs.map bv).length ≤ j := by rw [List.length_map, Hl0.out]; omega
          rw [List.getElem?_append_right e, List.length_map, Hl0.out, List.getElem?_map, List.getElem?_replicate, if_pos (by omega)]
          rfl
        obtain ⟨q, o, he, hc⟩ := hO' j _ hv
        cases he
        rw [Nat.zero_add] at hc
        clear hv hO'
        go_wp2_with fail
        go_quiet (fail)
        go_wp2
        go_roundw
        case rel => exact ⟨j + 1, by omega, by go_num, grown_trans hgr (grown_drewN _ _ _)⟩
        case measure => simp [intOf]; omega
    · have hlt' : ¬ (j : Int) < (len0 : Int) + 16 := by omega
      have hX := hX.grown hgr (by simp)
      have hY := hY.grown hgr (by simp)
      have hg := grown_trans hg hgr
      have HU := Lib.hid (Unpack_any a3 len3 cap3 ws k wr Hl3.out (Hat3.out.grown hg (by simp)) hk (by omega))
      generalize hUe : str (unpackR ws k).1 = U at HU
      generalize hce : (unpackR ws k).2 = c at HU
      go_wp2_with fail
      refine HU.out.mono ?_
      rintro e w5 ⟨rfl, hg5⟩
      have hX := hX.grown hg5 (by simp)
      have hY := hY.grown hg5 (by simp)
      have hg := grown_trans hg hg5
      have hu := RUnpack_any a3 len3 cap3 ws k w5 Hl3.out (Hat3.out.grown hg (by simp)) (by omega)
      rw [hUe, hce] at hu
      have HU := Lib.hid hu
      clear hu hUe hce hg5
      go_wp2_with fail
      refine HU.out.mono ?_
      rintro e w6 ⟨rfl, hg6⟩
      have hX := hX.grown hg6 (by simp)
      have hY := hY.grown hg6 (by simp)
      have hg := grown_trans hg hg6
      clear hg6 HU
      have hS : HP w adx capx X ady capy Y a0 bs w6 := ⟨hX, Hnx.out, hY, Hny.out, Hat0.out.grown hg (by simp), hg⟩
      clear hX hY hg
      have hs1 : s.size ≤ 4096 := by omega
      have hl1 : len0 ≤ 4096 := by omega
      obtain ⟨M, HM⟩ : ∃ M, Hid (M = (s.size + 7) / 8) := ⟨_, Lib.hid rfl⟩
      have hMs : M ≤ 4096 := by rw [HM.out]; omega
      obtain ⟨Z, HZ⟩ : ∃ Z, Hid (Z = words (bytesOf s) M) := ⟨_, Lib.hid rfl⟩
      have HZl : Hid (Z.length = M) := by show _ = _; rw [HZ.out, length_words]
      have HRN : Hid (∀ wx, At wx a0 (bs.map bv) → Calls Try.prog 15 #[.slice a0 len0 cap0, .int .u64 (n : Int)] wx (MadeIs wx X)) := by
        intro wx ha
        rw [← HXe.out]
        exact RNumber_any a0 len0 cap0 bs n wx hn Hl0.out ha Hnil0.out (by omega)
      have HRT : Hid (∀ wx, At wx a0 (bs.map bv) → Calls Try.prog 16 #[.slice a0 len0 cap0, .string s] wx (MadeIs wx Y)) := by
        intro wx ha
        rw [← HYe.out]
        exact RText_any a0 len0 cap0 bs s wx Hl0.out ha Hnil0.out (by omega) (by omega)
      have HPk : Hid (∀ wx, Calls Try.prog 18 #[.string s] wx (WordsNew M Z wx)) := by
        intro wx
        have h := Pack_any s wx (by omega)
        rw [← HM.out, ← HZ.out] at h
        exact h.mono (wordsNew_of HZl.out)
      have HRP : Hid (∀ wx, Calls Try.prog 19 #[.string s] wx (WordsNew M Z wx)) := by
        intro wx
        have h := RPack_any s wx (by omega)
        rw [← HM.out, ← HZ.out] at h
        exact h
      go_wp2_with fail
      obtain ⟨hP, hcx, hcy⟩ := HP.all (HP.drew hS)
      clear hS HXe HYe Hnx Hny Hat0 Hat3 Hl0 Hl3 Hnil0 HM HZ hi hz0 hz1 hz2 h1 hnear hs1 hl1 hO hn hk hgr hlt' hj hlt
      go_region_held (fun w' => HP w adx capx X ady capy Y a0 bs w' ∧ (convert 22 9 (.slice adx X.length capx)).run Try.prog w' = .ok (.string (str X)) w' ∧ (convert 22 9 (.slice ady Y.length capy)).run Try.prog w' = .ok (.string (str Y)) w') ((apply HP.all; assumption)) (first | (go_at_call 15; refine (HRN.out _ (HP.at0 w adx capx X ady capy Y a0 bs _ (by assumption))).mono ?_; rintro e wA ⟨adA, capA, rfl, hA, hnA, _, hgA⟩; have hcvA := conv_at (P := Try.prog) 22 9 5 Try.underlying22 Try.underlying5 Try.underlying9 (cap := capA) hA rfl (fun e => (hnA e).1); obtain ⟨hP, hcx, hcy⟩ := HP.all (HP.grown (show HP w adx capx X ady capy Y a0 bs _ by assumption) hgA)) | (go_at_call 16; refine (HRT.out _ (HP.at0 w adx capx X ady capy Y a0 bs _ (by assumption))).mono ?_; rintro e wB ⟨adB, capB, rfl, hB, hnB, _, hgB⟩; have hcvB := conv_at (P := Try.prog) 22 9 5 Try.underlying22 Try.underlying5 Try.underlying9 (cap := capB) hB rfl (fun e => (hnB e).1); obtain ⟨hP, hcx, hcy⟩ := HP.all (HP.grown (show HP w adx capx X ady capy Y a0 bs _ by assumption) hgB)) | (go_at_call 18; refine (HPk.out _).mono ?_; rintro e wC ⟨adC, capC, rfl, hC, hgC⟩; obtain ⟨hP, hcx, hcy⟩ := HP.all (HP.grown (show HP w adx capx X ady capy Y a0 bs _ by assumption) hgC)) | (go_at_call 19; refine (HRP.out _).mono ?_; rintro e wD ⟨adD, capD, rfl, hD, hgD⟩; obtain ⟨hP, hcx, hcy⟩ := HP.all (HP.grown (show HP w adx capx X ady capy Y a0 bs _ by assumption) hgD)) | (go_at_call 17; refine (words_same _ _ M _ _ Z _ HZl.out (by first | assumption | exact At.grown (by assumption) (by assumption) (by simp)) (by first | assumption | exact At.grown (by assumption) (by assumption) (by simp)) (by omega)).mono ?_; rintro e wE ⟨rfl, hgE⟩; obtain ⟨hP, hcx, hcy⟩ := HP.all (HP.grown (show HP w adx capx X ady capy Y a0 bs _ by assumption) hgE)) | (go_at_call 10; refine (works_any _).mono ?_; rintro e wF ⟨rfl, hgF⟩; obtain ⟨hP, hcx, hcy⟩ := HP.all (HP.grown (show HP w adx capx X ady capy Y a0 bs _ by assumption) hgF)))
      all_goals
        go_wp2
        go_ret
        refine ⟨rfl, ?_⟩
        have hfin : HP w adx capx X ady capy Y a0 bs wF := by assumption
        exact hfin.2.2.2.2.2

theorem walk (a0 : Option Addr) (len0 cap0 : Nat) (z0 : List Int) (a1 : Int) (a2 : ByteArray) (a3 : Option Addr) (len3 cap3 : Nat) (z3 : List Int) (a4 : Int) (w : World)
    (w0 : RowIn .u8 w a0 len0 cap0 z0) (w1 : (Lit.int .u64 a1).wf = true) (w2 : a2.size ≤ 140737488351232) (w3 : RowIn .u64 w a3 len3 cap3 z3) (w4 : (Lit.int .i64 a4).wf = true) :
    Calls Try.prog 3 #[.slice a0 len0 cap0, .int .u64 a1, .string a2, .slice a3 len3 cap3, .int .i64 a4] w (WorksIs w) := by
  have hb := bounds_u64 w1
  obtain ⟨n, rfl⟩ := Int.eq_ofNat_of_zero_le hb.1
  have hk := bounds_i64 w4
  obtain ⟨bs, hl0, hat0⟩ := w0.bytes
  obtain ⟨ws, hl3, _, hat3⟩ := w3.nats
  by_cases h : len0 + a2.size + len3 ≤ 4096
  · exact walk_at a0 len0 cap0 bs n a2 a3 len3 cap3 ws a4 w (by omega) (by omega) hl0 hat0 (fun e => w0.nil e) hl3 hat3 h
  · exact walk_far a0 len0 cap0 n a2 a3 len3 cap3 a4 w w0.small w2 w3.small (by omega)
end Go.Proofs.Ytingkjmbeloepaa.octetPuts
