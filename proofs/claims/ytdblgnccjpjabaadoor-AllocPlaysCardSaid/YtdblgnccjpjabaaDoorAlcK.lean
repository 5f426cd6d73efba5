/- AlcB, AlcC, AlcD, AlcE, AlcW, AlcT, AlcU in one. -/
import Derived.Test.YtdblgnccjpjabaaDoorAlcA
import Derived.Test.YtdblgnccjpjabaaDoorCvX
import Derived.Test.YtdblgnccjpjabaaDoorTwoMath
-- OPTIONAL
section
/- Package alloc: give, Free; what is taken where nothing is free. -/
namespace Go.Proofs.YtdblgnccjpjabaaDoor
open Go.RowKit Go.Grommet

/-- An alloc among the things of a call's own. -/
structure AlcIs (Ps : List Pr) (kv kI kB kA g a b c XI XB XA : Nat) (xs : List Nat) (L : List (Nat × Nat)) : Prop where
  view : Ps[kv]? = some (viewP g xs L)
  mi : Ps[kI]? = some (mapP XI g (264 + 208 * a) b)
  mb : Ps[kB]? = some (mapP XB g (272 + 208 * a) c)
  al : Ps[kA]? = some (allocP XA g a b c XI XB)
  may : mayB (a : Int) (b : Int) (c : Int) = true
  fits : 280 + 208 * a + 16 * b + 8 * c ≤ xs.length
  few : xs.length ≤ 1000000
theorem AlcIs.okI {Ps : List Pr} {kv kI kB kA g a b c XI XB XA : Nat} {xs : List Nat} {L : List (Nat × Nat)} (h : AlcIs Ps kv kI kB kA g a b c XI XB XA xs L) : MapOk xs.length (264 + 208 * a) b := mapI_ok h.may h.fits h.few
theorem AlcIs.okB {Ps : List Pr} {kv kI kB kA g a b c XI XB XA : Nat} {xs : List Nat} {L : List (Nat × Nat)} (h : AlcIs Ps kv kI kB kA g a b c XI XB XA xs L) : MapOk xs.length (272 + 208 * a) c := mapB_ok h.may h.fits h.few

structure AS (XA g a b c XI XB : Nat) (w0 : World) (Ps : List Pr) (w : World) : Prop where
  box : w.heap[XA]? = some (.cells #[.pointer (some ⟨g, 0, none⟩), .int .i64 (a : Int), .int .i64 (b : Int), .int .i64 (c : Int), .pointer (some ⟨XI, 0, none⟩), .pointer (some ⟨XB, 0, none⟩)] 88 (0, 0))
  own : Grommet.Own w0 w Ps
theorem AS.cells {XA g a b c XI XB : Nat} {w0 : World} {Ps : List Pr} {w : World} (h : AS XA g a b c XI XB w0 Ps w) : w.cell? ⟨XA, 0, none⟩ = some (.pointer (some ⟨g, 0, none⟩)) ∧ w.cell? ⟨XA, 1, none⟩ = some (.int .i64 (a : Int)) ∧ w.cell? ⟨XA, 2, none⟩ = some (.int .i64 (b : Int)) ∧ w.cell? ⟨XA, 3, none⟩ = some (.int .i64 (c : Int)) ∧ w.cell? ⟨XA, 4, none⟩ = some (.pointer (some ⟨XI, 0, none⟩)) ∧ w.cell? ⟨XA, 5, none⟩ = some (.pointer (some ⟨XB, 0, none⟩)) := by
  simp [World.cell?, h.box]
theorem AS.all {XA g a b c XI XB : Nat} {w0 : World} {Ps : List Pr} {w : World} (h : AS XA g a b c XI XB w0 Ps w) : AS XA g a b c XI XB w0 Ps w ∧ w.cell? ⟨XA, 0, none⟩ = some (.pointer (some ⟨g, 0, none⟩)) ∧ w.cell? ⟨XA, 1, none⟩ = some (.int .i64 (a : Int)) ∧ w.cell? ⟨XA, 2, none⟩ = some (.int .i64 (b : Int)) ∧ w.cell? ⟨XA, 3, none⟩ = some (.int .i64 (c : Int)) ∧ w.cell? ⟨XA, 4, none⟩ = some (.pointer (some ⟨XI, 0, none⟩)) ∧ w.cell? ⟨XA, 5, none⟩ = some (.pointer (some ⟨XB, 0, none⟩)) := ⟨h, h.cells⟩
theorem AS.grown {XA g a b c XI XB : Nat} {w0 : World} {Ps : List Pr} {w w' : World} (h : AS XA g a b c XI XB w0 Ps w) (hg : w.grownBy w' none) : AS XA g a b c XI XB w0 Ps w' :=
  ⟨(hg.block _ (Array.getElem?_eq_some_iff.1 h.box).1 (by simp)).trans h.box, h.own.quiet hg⟩
theorem AS.drew {XA g a b c XI XB : Nat} {w0 : World} {Ps : List Pr} {w : World} (h : AS XA g a b c XI XB w0 Ps w) : AS XA g a b c XI XB w0 Ps w.drew := h.grown (grown_drew (World.grownBy.refl _ _))
theorem AS.of {XA g a b c XI XB kA : Nat} {w0 : World} {Ps : List Pr} {w : World} (h : Grommet.Own w0 w Ps) (hk : Ps[kA]? = some (allocP XA g a b c XI XB)) : AS XA g a b c XI XB w0 Ps w := ⟨h.box kA hk, h⟩

def giveE (xs : List Nat) (L : List (Nat × Nat)) (A m : Nat) (n : Int) : Nat :=
  if n < 1 ∨ (m : Int) ≤ n then 1 else if mbit xs L A n.toNat then setME xs L A m n else 3
def giveL (xs : List Nat) (L : List (Nat × Nat)) (A m : Nat) (n : Int) : List (Nat × Nat) :=
  if n < 1 ∨ (m : Int) ≤ n then L else if mbit xs L A n.toNat then setMI xs L A m n false else L

set_option maxRecDepth 100000 in
set_option maxHeartbeats 1000000 in
theorem give_H (k k2 X g A m : Nat) (xs : List Nat) (L : List (Nat × Nat)) (n : Int) (en : Int) (w0 w : World) (Ps Qs : List Pr) (h : Grommet.Own w0 w Ps) (hk : Ps[k]? = some (viewP g xs L)) (hx : Ps[k2]? = some (mapP X g A m)) (hM : MapOk xs.length A m)
    (he : (giveE xs L A m n : Int) = en) (hQ : Ps.set k (viewP g xs (giveL xs L A m n)) = Qs) :
    Calls Tryd.prog 55 #[.pointer (some ⟨X, 0, none⟩), .int .i64 n, .int .i64 (m : Int)] w fun e w' => e = .returned (.int .i64 en) ∧ Grommet.Own w0 w' Qs := by
  have hQs : Ps.set k (viewP g xs L) = Ps := by
    apply List.ext_getElem?
    intro i
    by_cases hi : i = k
    · subst hi; rw [List.getElem?_set_self (List.getElem?_eq_some_iff.1 hk).1, hk]
    · rw [List.getElem?_set_ne (fun e => hi e.symm)]
  have hml := hM.lt
  by_cases h1 : n < 1
  · unfold giveE at he; unfold giveL at hQ
    rw [if_pos (.inl h1)] at he hQ
    rw [hQs] at hQ
    subst he hQ
    have HO := Lib.hid h
    clear h hk hx hM hQs hml
    go_enter Tryd.func55, Tryd.ntmps55
    go_wp2
    go_ret
    exact ⟨rfl, HO.out⟩
  · by_cases h2 : (m : Int) ≤ n
    · unfold giveE at he; unfold giveL at hQ
      rw [if_pos (.inr h2)] at he hQ
      rw [hQs] at hQ
      subst he hQ
      have HO := Lib.hid h
      clear h hk hx hM hQs hml
      go_enter Tryd.func55, Tryd.ntmps55
      go_wp2
      go_ret
      exact ⟨rfl, HO.out⟩
    · unfold giveE at he; unfold giveL at hQ
      rw [if_neg (by omega)] at he hQ
      have hin : inB n m = true := by unfold inB; simp; omega
      cases hb : mbit xs L A n.toNat with
      | false =>
        rw [hb] at he hQ
        simp only [Bool.false_eq_true, if_false] at he hQ
        rw [hQs] at hQ
        subst he hQ
        have HG := Lib.hid (MGetH k k2 X g A m xs L n w0 w Ps h hk hx hM false (by unfold getM; rw [hin, hb]; rfl))
        have HO := Lib.hid h
        clear h hk hx hM hQs hml hb hin
        go_enter Tryd.func55, Tryd.ntmps55
        go_wp2_with fail
        refine HG.out.mono ?_
        rintro e w1 ⟨rfl, hg⟩
        have HO1 := Lib.hid (HO.out.quiet hg)
        clear hg
        go_wp2
        go_ret
        exact ⟨rfl, HO1.out⟩
      | true =>
        rw [hb] at he hQ
        simp only [if_true] at he hQ
        have HG := Lib.hid (MGetH k k2 X g A m xs L n w0 w Ps h hk hx hM true (by unfold getM; rw [hin, hb]; rfl))
        have HS := Lib.hid (fun wx hO => MSetH k k2 X g A m xs L n false en w0 wx Ps Qs hO hk hx hM he hQ)
        have HO := Lib.hid h
        clear h hk hx hM hQs hml hb hin he hQ
        go_enter Tryd.func55, Tryd.ntmps55
        go_wp2_with fail
        refine HG.out.mono ?_
        rintro e w1 ⟨rfl, hg⟩
        have HO1 := Lib.hid (HO.out.quiet hg)
        clear hg
        go_wp2_with fail
        refine (HS.out _ HO1.out).mono ?_
        rintro e w2 ⟨rfl, hO2⟩
        go_wp2
        go_ret
        exact ⟨rfl, hO2⟩

set_option maxRecDepth 100000 in
set_option maxHeartbeats 1000000 in
theorem GiveInodeH (kv kI kB kA g a b c XI XB XA : Nat) (xs : List Nat) (L : List (Nat × Nat)) (n : Int) (en : Int) (w0 w : World) (Ps Qs : List Pr) (h : Grommet.Own w0 w Ps) (hA : AlcIs Ps kv kI kB kA g a b c XI XB XA xs L)
    (he : (giveE xs L (264 + 208 * a) b n : Int) = en) (hQ : Ps.set kv (viewP g xs (giveL xs L (264 + 208 * a) b n)) = Qs) :
    Calls Tryd.prog 19 #[.pointer (some ⟨XA, 0, none⟩), .int .i64 n] w fun e w' => e = .returned (.int .i64 en) ∧ Grommet.Own w0 w' Qs := by
  obtain ⟨c0, c1, c2, c3, c4, c5⟩ := (AS.of h hA.al).cells
  have HG := Lib.hid (give_H kv kI XI g (264 + 208 * a) b xs L n en w0 w.drew Ps Qs (h.quiet (grown_drew (World.grownBy.refl _ _))) hA.view hA.mi hA.okI he hQ)
  clear h hA he hQ
  go_enter Tryd.func19, Tryd.ntmps19
  go_wp2_with fail
  go_still_tail 10, (by kernel_rfl)
  change wpList _ _ _ _ _ w.drew
  go_wp2_with fail
  refine HG.out.mono ?_
  rintro e w2 ⟨rfl, hO2⟩
  go_wp2
  go_ret
  exact ⟨rfl, hO2⟩
set_option maxRecDepth 100000 in
set_option maxHeartbeats 1000000 in
theorem GiveBlockH (kv kI kB kA g a b c XI XB XA : Nat) (xs : List Nat) (L : List (Nat × Nat)) (n : Int) (en : Int) (w0 w : World) (Ps Qs : List Pr) (h : Grommet.Own w0 w Ps) (hA : AlcIs Ps kv kI kB kA g a b c XI XB XA xs L)
    (he : (giveE xs L (272 + 208 * a) c n : Int) = en) (hQ : Ps.set kv (viewP g xs (giveL xs L (272 + 208 * a) c n)) = Qs) :
    Calls Tryd.prog 21 #[.pointer (some ⟨XA, 0, none⟩), .int .i64 n] w fun e w' => e = .returned (.int .i64 en) ∧ Grommet.Own w0 w' Qs := by
  obtain ⟨c0, c1, c2, c3, c4, c5⟩ := (AS.of h hA.al).cells
  have HG := Lib.hid (give_H kv kB XB g (272 + 208 * a) c xs L n en w0 w.drew Ps Qs (h.quiet (grown_drew (World.grownBy.refl _ _))) hA.view hA.mb hA.okB he hQ)
  clear h hA he hQ
  go_enter Tryd.func21, Tryd.ntmps21
  go_wp2_with fail
  go_still_tail 10, (by kernel_rfl)
  change wpList _ _ _ _ _ w.drew
  go_wp2_with fail
  refine HG.out.mono ?_
  rintro e w2 ⟨rfl, hO2⟩
  go_wp2
  go_ret
  exact ⟨rfl, hO2⟩

set_option maxRecDepth 100000 in
set_option maxHeartbeats 1000000 in
theorem FreeH (kv kI kB kA g a b c XI XB XA : Nat) (xs : List Nat) (L : List (Nat × Nat)) (p q : Int) (w0 w : World) (Ps : List Pr) (h : Grommet.Own w0 w Ps) (hA : AlcIs Ps kv kI kB kA g a b c XI XB XA xs L)
    (hp : (b : Int) - (cntF (mbit xs L (264 + 208 * a)) b : Int) = p) (hq : (c : Int) - (cntF (mbit xs L (272 + 208 * a)) c : Int) = q) :
    Calls Tryd.prog 25 #[.pointer (some ⟨XA, 0, none⟩)] w fun e w' => e = .returned (.tuple #[.int .i64 p, .int .i64 q]) ∧ Grommet.Own w0 w' Ps := by
  have hmN := mayN hA.may
  have h1 := cntF_le (mbit xs L (264 + 208 * a)) b
  have h2 := cntF_le (mbit xs L (272 + 208 * a)) c
  obtain ⟨C, eC⟩ : ∃ C, cntF (mbit xs L (264 + 208 * a)) b = C := ⟨_, rfl⟩
  obtain ⟨D, eD⟩ : ∃ C, cntF (mbit xs L (272 + 208 * a)) c = C := ⟨_, rfl⟩
  have HC := Lib.hid (fun wx hO => MCountH kv kI XI g (264 + 208 * a) b xs L w0 wx Ps hO hA.view hA.mi hA.okI C eC)
  have HD := Lib.hid (fun wx hO => MCountH kv kB XB g (272 + 208 * a) c xs L w0 wx Ps hO hA.view hA.mb hA.okB D eD)
  rw [eC] at hp h1
  rw [eD] at hq h2
  have w1 : IntKind.i64.wrap ((b : Int) - (C : Int)) = p := by rw [IntWalk.i64_in _ ⟨by omega, by omega⟩]; exact hp
  have w2 : IntKind.i64.wrap ((c : Int) - (D : Int)) = q := by rw [IntWalk.i64_in _ ⟨by omega, by omega⟩]; exact hq
  have w3 : IntKind.i64.wrap p = p := IntWalk.i64_in _ ⟨by omega, by omega⟩
  have w4 : IntKind.i64.wrap q = q := IntWalk.i64_in _ ⟨by omega, by omega⟩
  have hS := AS.of h hA.al
  clear h hA eC eD h1 h2 hmN
  go_enter Tryd.func25, Tryd.ntmps25
  go_wp2_with fail
  obtain ⟨hP, c0, c1, c2, c3, c4, c5⟩ := AS.all (AS.drew hS)
  clear hS
  go_region_held (fun w' => AS XA g a b c XI XB w0 Ps w' ∧ w'.cell? ⟨XA, 0, none⟩ = some (.pointer (some ⟨g, 0, none⟩)) ∧ w'.cell? ⟨XA, 1, none⟩ = some (.int .i64 (a : Int)) ∧ w'.cell? ⟨XA, 2, none⟩ = some (.int .i64 (b : Int)) ∧ w'.cell? ⟨XA, 3, none⟩ = some (.int .i64 (c : Int)) ∧ w'.cell? ⟨XA, 4, none⟩ = some (.pointer (some ⟨XI, 0, none⟩)) ∧ w'.cell? ⟨XA, 5, none⟩ = some (.pointer (some ⟨XB, 0, none⟩))) ((apply AS.all; assumption)) (first | (go_at_call_of 59 (Value.pointer (some ⟨XI, 0, none⟩)); refine (HC.out _ (AS.own (show AS XA g a b c XI XB w0 Ps _ by assumption))).mono ?_; rintro e wA ⟨rfl, hgA⟩; obtain ⟨hP, c0, c1, c2, c3, c4, c5⟩ := AS.all (AS.grown (show AS XA g a b c XI XB w0 Ps _ by assumption) hgA)) | (go_at_call_of 59 (Value.pointer (some ⟨XB, 0, none⟩)); refine (HD.out _ (AS.own (show AS XA g a b c XI XB w0 Ps _ by assumption))).mono ?_; rintro e wB ⟨rfl, hgB⟩; obtain ⟨hP, c0, c1, c2, c3, c4, c5⟩ := AS.all (AS.grown (show AS XA g a b c XI XB w0 Ps _ by assumption) hgB)))
  all_goals
    have hfin := Lib.hid (AS.own hP)
    clear hP c0 c1 c2 c3 c4 c5 HC HD
    go_wp2
    go_ret2
    exact ⟨rfl, hfin.out⟩

set_option maxRecDepth 100000 in
set_option maxHeartbeats 1000000 in
theorem take_none (k k2 X XA g A m : Nat) (ad : Option Addr) (l cp : Nat) (xs : List Nat) (L : List (Nat × Nat)) (w0 w : World) (Ps : List Pr) (h : Grommet.Own w0 w Ps) (hk : Ps[k]? = some (viewP g xs L)) (hx : Ps[k2]? = some (mapP X g A m)) (hM : MapOk xs.length A m)
    (htab : Lib.TabIs Tryd.prog w0 "math/bits.deBruijn64tab" .u8 tab) (hc : ClrR (mbit xs L A) m 0 false) :
    Calls Tryd.prog 48 #[.pointer (some ⟨XA, 0, none⟩), .pointer (some ⟨X, 0, none⟩), .slice ad l cp] w fun e w' => e = .returned (.tuple #[.int .i64 0, .int .i64 7]) ∧ w.grownBy w' none := by
  have HC := Lib.hid (MClearH k k2 X g A m xs L w0 w Ps h hk hx hM htab 0 false hc)
  clear h hk hx hM htab hc
  go_enter Tryd.func48, Tryd.ntmps48
  go_wp2_with fail
  refine HC.out.mono ?_
  rintro e w1 ⟨rfl, hg⟩
  go_wp2
  go_ret2
  exact ⟨rfl, hg⟩

set_option maxRecDepth 100000 in
set_option maxHeartbeats 1000000 in
theorem TakeInodeNone (kv kI kB kA g a b c XI XB XA : Nat) (xs : List Nat) (L : List (Nat × Nat)) (w0 w : World) (Ps : List Pr) (h : Grommet.Own w0 w Ps) (hA : AlcIs Ps kv kI kB kA g a b c XI XB XA xs L)
    (htab : Lib.TabIs Tryd.prog w0 "math/bits.deBruijn64tab" .u8 tab) (hc : ClrR (mbit xs L (264 + 208 * a)) b 0 false) :
    Calls Tryd.prog 15 #[.pointer (some ⟨XA, 0, none⟩)] w fun e w' => e = .returned (.tuple #[.int .i64 0, .int .i64 7]) ∧ Grommet.Own w0 w' Ps := by
  obtain ⟨c0, c1, c2, c3, c4, c5⟩ := (AS.of h hA.al).cells
  have HT := Lib.hid (take_none kv kI XI XA g (264 + 208 * a) b none 0 0 xs L w0 w Ps h hA.view hA.mi hA.okI htab hc)
  have HO := Lib.hid h
  clear h hA htab hc
  go_enter Tryd.func15, Tryd.ntmps15
  go_wp2_with fail
  refine HT.out.mono ?_
  rintro e w1 ⟨rfl, hg⟩
  have HO1 := Lib.hid (HO.out.quiet hg)
  clear hg
  go_wp2
  go_ret2
  exact ⟨rfl, HO1.out⟩
end Go.Proofs.YtdblgnccjpjabaaDoor
end
section
/- Package alloc: words, take, TakeBlock. -/
namespace Go.Proofs.YtdblgnccjpjabaaDoor
open Go.RowKit Go.Grommet

/-- The numbers of a block's words, as far as they are laid. -/
def rowW (P i : Nat) : List Value := (List.range 8).map fun j => if j < i then .int .i64 ((P + j : Nat) : Int) else .int .i64 0
theorem rowW_get (P i j : Nat) (h : j < 8) : (rowW P i)[j]? = some (if j < i then .int .i64 ((P + j : Nat) : Int) else .int .i64 0) := by
  unfold rowW; rw [List.getElem?_map, List.getElem?_range h]; rfl
theorem rowW_set (P i : Nat) (h : i < 8) : (rowW P i).set i (.int .i64 ((P + i : Nat) : Int)) = rowW P (i + 1) := by
  apply List.ext_getElem?
  intro j
  by_cases hj : j < 8
  · rw [rowW_get _ _ _ hj]
    by_cases e : i = j
    · subst e
      rw [List.getElem?_set_self (by unfold rowW; simp; exact h), if_pos (by omega)]
    · rw [List.getElem?_set_ne e, rowW_get _ _ _ hj]
      by_cases e2 : j < i
      · rw [if_pos e2, if_pos (by omega)]
      · rw [if_neg e2, if_neg (by omega)]
  · rw [List.getElem?_eq_none (by unfold rowW; simp; omega), List.getElem?_eq_none (by unfold rowW; simp; omega)]
theorem made_rowW (P : Nat) : List.take (8 * 1) (madeCells #[Value.int .i64 0] 8).toList = rowW P 0 := by
  rw [toList_madeCells_one]; rfl

theorem infoInt : (Tryd.prog.info? 3).map (fun i => (i.zero, i.size, i.bytes)) = some (some (.int .i64 0), 1, 8) := by kernel_rfl

set_option maxRecDepth 100000 in
set_option maxHeartbeats 1000000 in
theorem words_H (kv kI kB kA g a b c XI XB XA n P : Nat) (xs : List Nat) (L : List (Nat × Nat)) (w0 w : World) (Ps : List Pr) (h : Grommet.Own w0 w Ps) (hA : AlcIs Ps kv kI kB kA g a b c XI XB XA xs L) (hn : n < c) (hP : 280 + 208 * a + 16 * b + 8 * n = P) :
    Calls Tryd.prog 52 #[.pointer (some ⟨XA, 0, none⟩), .int .i64 (n : Int)] w fun e w' => ∃ q, e = .returned (.slice (some ⟨q, 0, none⟩) 8 8) ∧ Grommet.Own w0 w' (Ps ++ [rowP 3 1 (.slice (some ⟨q, 0, none⟩) 8 8) 8 (rowW P 8)]) := by
  have hmN := mayN hA.may
  have HB := Lib.hid (fun wx => BlockAt_any (a : Int) (b : Int) (c : Int) (n : Int) wx)
  rw [show blockV (a : Int) (b : Int) (c : Int) (n : Int) = (P : Int) from by unfold blockV; rw [if_pos ⟨hA.may, by omega, by omega⟩]; omega] at HB
  unfold gv at HB
  have hPl : P ≤ 10000 := by omega
  obtain ⟨i0, hi0, hz0, hz1, hz2⟩ := info_parts infoInt
  have hal := Lib.hid hA.al
  have HO := Lib.hid h
  clear h hA hmN hP
  go_enter Tryd.func52, Tryd.ntmps52
  go_wp2_with (refine wpList_make_whole _ rfl _ _ 98 rfl 3 i0 (.int .i64 0) Tryd.underlying98 hi0 hz0 hz1 _ _ _ 8 rfl rfl rfl ?m1 ?m2 ?_)
  case m1 => rw [hz2]; omega
  case m2 => unfold maxLen; omega
  intro w1 hrow1 hg1
  have hO1 : Grommet.Own w0 w1 (Ps ++ [rowP 3 1 (.slice (some ⟨w.heap.size, 0, none⟩) 8 8) 8 (rowW P 0)]) := HO.out.addRow ⟨by simp [rowW], .inr ⟨w.heap.size, 8, _, rfl, Nat.le_refl _, hrow1, Nat.le_refl _, by unfold maxLen; omega, by rw [size_madeCells], made_rowW P⟩⟩ hg1
  obtain ⟨q, hq⟩ : ∃ q, w.heap.size = q := ⟨_, rfl⟩
  rw [hq] at hO1 ⊢
  clear hq hrow1 hg1 hi0 hz0 hz1 hz2 HO
  have hO1 := Lib.hid hO1
  go_wp2_with fail
  go_loopw [10] (fun s wr => ∃ i : Nat, i ≤ 8 ∧ s = .int .i64 (i : Int) ∧ Hid (Grommet.Own w0 wr (Ps ++ [rowP 3 1 (.slice (some ⟨q, 0, none⟩) 8 8) 8 (rowW P i)]))) (fun s _ => 8 - (intOf s).toNat)
  case atStart => exact ⟨0, Nat.zero_le _, rfl, hO1⟩
  case round =>
    clear hO1
    obtain ⟨i, hi, rfl, hO⟩ := hrel
    have i0 : (0 : Int) ≤ (i : Int) := by omega
    by_cases hlt : i < 8
    · have hlt' : (i : Int) < 8 := by omega
      have hal2 : (Ps ++ [rowP 3 1 (.slice (some ⟨q, 0, none⟩) 8 8) 8 (rowW P i)])[kA]? = some (allocP XA g a b c XI XB) := by rw [List.getElem?_append_left (List.getElem?_eq_some_iff.1 hal.out).1]; exact hal.out
      obtain ⟨c0, c1, c2, c3, c4, c5⟩ := (AS.of hO.out hal2).cells
      have wi : IntKind.i64.wrap ((i : Int) + 1) = (i : Int) + 1 := IntWalk.i64_in _ ⟨by omega, by omega⟩
      have wp : IntKind.i64.wrap ((P : Int) + (i : Int)) = ((P + i : Nat) : Int) := by rw [IntWalk.i64_in _ ⟨by omega, by omega⟩]; omega
      have wp2 : (P : Int) + (i : Int) = ((P + i : Nat) : Int) := by omega
      clear hal2
      go_wp2_with fail
      refine (HB.out _).mono ?_
      rintro e w3 ⟨rfl, hg3⟩
      have hO3 := hO.out.quiet hg3
      have hk3 : (Ps ++ [rowP 3 1 (.slice (some ⟨q, 0, none⟩) 8 8) 8 (rowW P i)])[Ps.length]? = some (rowP 3 1 (.slice (some ⟨q, 0, none⟩) 8 8) 8 (rowW P i)) := by simp
      obtain ⟨q', hq', d0, z0, _⟩ := Own.cell hO3 Ps.length hk3 i _ (rowW_get P i i hlt)
      cases hq'
      have hS := hO3.store Ps.length hk3 i (.int .i64 ((P + i : Nat) : Int))
      rw [rowW_set P i hlt] at hS
      have hS' : Hid (Grommet.Own w0 (w3.setCell ⟨q, i, none⟩ (.int .i64 ((P + i : Nat) : Int))) (Ps ++ [rowP 3 1 (.slice (some ⟨q, 0, none⟩) 8 8) 8 (rowW P (i + 1))])) := Lib.hid (by simpa using hS)
      obtain ⟨T, eT⟩ : ∃ T, P + i = T := ⟨_, rfl⟩
      rw [eT] at wp wp2 hS'
      clear hO hO3 hk3 hg3 hS c0 c1 c2 c3 c4 c5
      go_wp2
      go_roundw
      case rel => exact ⟨i + 1, by omega, by go_num, hS'⟩
      case measure => simp [intOf]; omega
    · obtain rfl : i = 8 := by omega
      go_wp2
      go_ret
      exact ⟨q, rfl, hO.out⟩
end Go.Proofs.YtdblgnccjpjabaaDoor
end
section
/- Package alloc: what is taken. -/
namespace Go.Proofs.YtdblgnccjpjabaaDoor
open Go.RowKit Go.Grommet

theorem set_same_at {Ps : List Pr} {k : Nat} {Q : Pr} (R : Pr) (j : Nat) (hj : Ps[j]? = some Q) (h : k ≠ j) : (Ps.set k R)[j]? = some Q := by rw [List.getElem?_set_ne h]; exact hj
theorem set_at {Ps : List Pr} {k : Nat} {Q : Pr} (R : Pr) (hk : Ps[k]? = some Q) : (Ps.set k R)[k]? = some R := List.getElem?_set_self (List.getElem?_eq_some_iff.1 hk).1
theorem set_set {Ps : List Pr} (k : Nat) (R S : Pr) : (Ps.set k R).set k S = Ps.set k S := by rw [List.set_set]

/-- So many of these words are 0. -/
def zeroL (xs : List Nat) (P : Nat) (L : List (Nat × Nat)) : Nat → List (Nat × Nat)
  | 0 => L
  | i + 1 => putI xs (zeroL xs P L i) ((P + i : Nat) : Int) 0
theorem zeroL_length (xs : List Nat) (P : Nat) (L : List (Nat × Nat)) : ∀ i, (zeroL xs P L i).length ≤ L.length + i
  | 0 => Nat.le_refl _
  | i + 1 => by have := zeroL_length xs P L i; have := putI_length xs (zeroL xs P L i) ((P + i : Nat) : Int) 0; show (putI _ _ _ _).length ≤ _; omega
theorem putE_ok {xs : List Nat} {L : List (Nat × Nat)} {a : Nat} (hl : L.length < 96) (ha : a < xs.length) : putEI xs L (a : Int) = 0 := by
  unfold putEI putE
  rw [if_pos (by omega), Int.toNat_natCast]
  split
  · rfl
  · rw [if_neg (by omega)]
theorem setM_ok {xs : List Nat} {L : List (Nat × Nat)} {A m k : Nat} (hl : L.length < 96) (hk : k < m) (ha : A + k / 64 < xs.length) : setME xs L A m (k : Int) = 0 := by
  unfold setME
  rw [show inB (k : Int) m = true from by unfold inB; simp; omega, if_pos rfl, Int.toNat_natCast]
  exact putE_ok hl ha

set_option maxRecDepth 100000 in
set_option maxHeartbeats 1000000 in
theorem take_some (k k2 kr X XA kA g A m c P q a b c' XI XB : Nat) (xs : List Nat) (L : List (Nat × Nat)) (w0 w : World) (Ps : List Pr) (h : Grommet.Own w0 w Ps) (hk : Ps[k]? = some (viewP g xs L)) (hx : Ps[k2]? = some (mapP X g A m)) (hal : Ps[kA]? = some (allocP XA g a b c' XI XB)) (hM : MapOk xs.length A m)
    (hr : Ps[kr]? = some (rowP 3 1 (.slice (some ⟨q, 0, none⟩) 8 8) 8 (rowW P 8))) (h2 : k ≠ kr) (h3 : k ≠ kA) (hl : L.length ≤ 80) (hP : P + 8 ≤ xs.length)
    (htab : Lib.TabIs Tryd.prog w0 "math/bits.deBruijn64tab" .u8 tab) (hc : ClrR (mbit xs L A) m (c : Int) true) (hcm : c < m) :
    Calls Tryd.prog 48 #[.pointer (some ⟨XA, 0, none⟩), .pointer (some ⟨X, 0, none⟩), .slice (some ⟨q, 0, none⟩) 8 8] w fun e w' => e = .returned (.tuple #[.int .i64 (c : Int), .int .i64 0]) ∧ Grommet.Own w0 w' (Ps.set k (viewP g xs (zeroL xs P (setMI xs L A m (c : Int) true) 8))) := by
  have hf := hM.fits
  have hfw := hM.few
  have HC := Lib.hid (MClearH k k2 X g A m xs L w0 w Ps h hk hx hM htab (c : Int) true hc)
  have hse : (setME xs L A m (c : Int) : Int) = 0 := by rw [setM_ok (by omega) hcm (by omega)]; rfl
  have HS := Lib.hid (fun wx hO => MSetH k k2 X g A m xs L (c : Int) true 0 w0 wx Ps _ hO hk hx hM hse rfl)
  obtain ⟨M, hMe⟩ : ∃ M, setMI xs L A m (c : Int) true = M := ⟨_, rfl⟩
  have hMl : M.length ≤ 81 := by
    rw [← hMe]; unfold setMI
    split
    · have := putI_length xs L ((A + (c : Int).toNat / 64 : Nat) : Int) (setB (gotV xs L (A + (c : Int).toNat / 64)) ((c : Int).toNat % 64) true); omega
    · omega
  rw [hMe] at HS ⊢
  have HO := Lib.hid h
  have Hk := Lib.hid hk
  have Hr := Lib.hid hr
  have Hal := Lib.hid hal
  have Hxl := Lib.hid (show P + 8 ≤ xs.length from hP)
  have hPl : P ≤ 1000000 := by omega
  clear h hk hx hM htab hc hse hMe hf hr hal hP hfw hcm
  go_enter Tryd.func48, Tryd.ntmps48
  go_wp2_with fail
  refine HC.out.mono ?_
  rintro e w1 ⟨rfl, hg⟩
  clear HC
  have hO1 := Lib.hid (HO.out.quiet hg)
  clear HO hg
  go_wp2_with fail
  refine (HS.out _ hO1.out).mono ?_
  rintro e w2 ⟨rfl, hO2⟩
  clear HS hO1
  have hO2 : Hid (Grommet.Own w0 w2 (Ps.set k (viewP g xs (zeroL xs P M 0)))) := Lib.hid hO2
  go_wp2_with fail
  go_loopw [29] (fun s wr => ∃ i : Nat, i ≤ 8 ∧ s = .int .i64 (i : Int) ∧ Hid (Grommet.Own w0 wr (Ps.set k (viewP g xs (zeroL xs P M i))))) (fun s _ => 8 - (intOf s).toNat)
  case atStart => exact ⟨0, Nat.zero_le _, rfl, hO2⟩
  case round =>
    clear hO2
    obtain ⟨i, hi, rfl, hO⟩ := hrel
    have i0 : (0 : Int) ≤ (i : Int) := by omega
    by_cases hlt : i < 8
    · have hlt' : (i : Int) < 8 := by omega
      obtain ⟨_, hq', d0, _, _⟩ := Own.cell hO.out kr (set_same_at _ kr Hr.out h2) i _ (rowW_get P 8 i hlt)
      cases hq'
      rw [if_pos hlt] at d0
      obtain ⟨c0, c1, c2, c3, c4, c5⟩ := (AS.of hO.out (set_same_at _ kA Hal.out h3)).cells
      have hzl := zeroL_length xs P M i
      have HPt := Lib.hid (PutH k g xs (zeroL xs P M i) ((P + i : Nat) : Int) 0 0 w0 wr _ _ hO.out (set_at _ Hk.out) (by decide) (by rw [putE_ok (by omega) (by have := Hxl.out; omega)]; rfl) rfl)
      rw [set_set] at HPt
      change Hid (Calls _ _ _ _ (fun e w' => _ ∧ Grommet.Own w0 w' (Ps.set k (viewP g xs (zeroL xs P M (i + 1)))))) at HPt
      rw [show ((0 : Nat) : Int) = 0 from rfl] at HPt
      have wi : IntKind.i64.wrap ((i : Int) + 1) = (i : Int) + 1 := IntWalk.i64_in _ ⟨by omega, by omega⟩
      obtain ⟨T, eT⟩ : ∃ T, P + i = T := ⟨_, rfl⟩
      rw [eT] at d0 HPt
      clear hO hzl eT
      go_wp2_with fail
      refine HPt.out.mono ?_
      rintro e w3 ⟨rfl, hO3⟩
      clear HPt d0 c0 c1 c2 c3 c4 c5
      have hO3 := Lib.hid hO3
      go_wp2
      go_roundw
      case rel => exact ⟨i + 1, by omega, by go_num, hO3⟩
      case measure => simp [intOf]; omega
    · obtain rfl : i = 8 := by omega
      go_wp2
      go_ret2
      exact ⟨rfl, hO.out⟩
end Go.Proofs.YtdblgnccjpjabaaDoor
end
section
/- Package alloc: TakeBlock. -/
namespace Go.Proofs.YtdblgnccjpjabaaDoor
open Go.RowKit Go.Grommet

structure AB (XA g a b c XI XB : Nat) (w : World) : Prop where
  box : w.heap[XA]? = some (.cells #[.pointer (some ⟨g, 0, none⟩), .int .i64 (a : Int), .int .i64 (b : Int), .int .i64 (c : Int), .pointer (some ⟨XI, 0, none⟩), .pointer (some ⟨XB, 0, none⟩)] 88 (0, 0))
theorem AB.all {XA g a b c XI XB : Nat} {w : World} (h : AB XA g a b c XI XB w) : AB XA g a b c XI XB w ∧ w.cell? ⟨XA, 0, none⟩ = some (.pointer (some ⟨g, 0, none⟩)) ∧ w.cell? ⟨XA, 4, none⟩ = some (.pointer (some ⟨XI, 0, none⟩)) ∧ w.cell? ⟨XA, 5, none⟩ = some (.pointer (some ⟨XB, 0, none⟩)) :=
  ⟨h, by simp [World.cell?, h.box], by simp [World.cell?, h.box], by simp [World.cell?, h.box]⟩
theorem AB.drew {XA g a b c XI XB : Nat} {w : World} (h : AB XA g a b c XI XB w) : AB XA g a b c XI XB w.drew := ⟨h.box⟩
theorem AB.of {XA g a b c XI XB kA : Nat} {w0 : World} {Ps : List Pr} {w : World} (h : Grommet.Own w0 w Ps) (hk : Ps[kA]? = some (allocP XA g a b c XI XB)) : AB XA g a b c XI XB w := ⟨h.box kA hk⟩

theorem more_at {Ps : List Pr} {k : Nat} {Q : Pr} (R : Pr) (h : Ps[k]? = some Q) : (Ps ++ [R])[k]? = some Q := by rw [List.getElem?_append_left (List.getElem?_eq_some_iff.1 h).1]; exact h
theorem set_more {Ps : List Pr} {k : Nat} {Q : Pr} (R S : Pr) (h : Ps[k]? = some Q) : (Ps ++ [R]).set k S = Ps.set k S ++ [R] := by
  rw [List.set_append_left _ _ (List.getElem?_eq_some_iff.1 h).1]

set_option maxRecDepth 100000 in
set_option maxHeartbeats 1000000 in
theorem TakeBlockYes (kv kI kB kA g a b c XI XB XA n P : Nat) (xs : List Nat) (L : List (Nat × Nat)) (w0 w : World) (Ps : List Pr) (h : Grommet.Own w0 w Ps) (hA : AlcIs Ps kv kI kB kA g a b c XI XB XA xs L)
    (htab : Lib.TabIs Tryd.prog w0 "math/bits.deBruijn64tab" .u8 tab) (hc : ClrR (mbit xs L (272 + 208 * a)) c (n : Int) true) (hn : n < c) (hP : 280 + 208 * a + 16 * b + 8 * n = P) (hl : L.length ≤ 80) (h3 : kv ≠ kA) :
    Calls Tryd.prog 17 #[.pointer (some ⟨XA, 0, none⟩)] w fun e w' => ∃ q, e = .returned (.tuple #[.int .i64 (n : Int), .int .i64 0]) ∧ Grommet.Own w0 w' (Ps.set kv (viewP g xs (zeroL xs P (setMI xs L (272 + 208 * a) c (n : Int) true) 8)) ++ [rowP 3 1 (.slice (some ⟨q, 0, none⟩) 8 8) 8 (rowW P 8)]) := by
  have hmN := mayN hA.may
  have hfits := hA.fits
  have HC := Lib.hid (MClearH kv kB XB g (272 + 208 * a) c xs L w0 w Ps h hA.view hA.mb hA.okB htab (n : Int) true hc)
  have HW := Lib.hid (fun wx hO => words_H kv kI kB kA g a b c XI XB XA n P xs L w0 wx Ps hO hA hn hP)
  have HT := Lib.hid (fun q wx hO => take_some kv kB Ps.length XB XA kA g (272 + 208 * a) c n P q a b c XI XB xs L w0 wx (Ps ++ [rowP 3 1 (.slice (some ⟨q, 0, none⟩) 8 8) 8 (rowW P 8)]) hO (more_at _ hA.view) (more_at _ hA.mb) (more_at _ hA.al) hA.okB (by simp) (by have := (List.getElem?_eq_some_iff.1 hA.view).1; omega) h3 hl (by omega) htab hc hn)
  have Hv := Lib.hid hA.view
  have Hal := Lib.hid hA.al
  have HO := Lib.hid h
  obtain ⟨L', eL⟩ : ∃ L', zeroL xs P (setMI xs L (272 + 208 * a) c (n : Int) true) 8 = L' := ⟨_, rfl⟩
  rw [eL] at HT ⊢
  obtain ⟨c0, c1, c2, c3, c4, c5⟩ := (AS.of h hA.al).cells
  have Hne := Lib.hid h3
  clear h hA htab hc hP hl hmN hfits eL c0 c1 c2 c3 c4 h3
  go_enter Tryd.func17, Tryd.ntmps17
  go_wp2_with fail
  refine HC.out.mono ?_
  rintro e w1 ⟨rfl, hg⟩
  have hO1 := HO.out.quiet (grown_drew hg)
  have HW1 := Lib.hid (HW.out _ hO1)
  clear HC HO hg c5 HW
  go_wp2_with fail
  obtain ⟨hB, k0, k4, k5⟩ := AB.all (AB.of hO1 Hal.out)
  clear hO1
  go_region_held (fun w' => AB XA g a b c XI XB w' ∧ w'.cell? ⟨XA, 0, none⟩ = some (.pointer (some ⟨g, 0, none⟩)) ∧ w'.cell? ⟨XA, 4, none⟩ = some (.pointer (some ⟨XI, 0, none⟩)) ∧ w'.cell? ⟨XA, 5, none⟩ = some (.pointer (some ⟨XB, 0, none⟩))) ((apply AB.all; assumption)) (first | (go_at_call 52; refine HW1.out.mono ?_; rintro e w3 ⟨q, rfl, hO3⟩; obtain ⟨hB, k0, k4, k5⟩ := AB.all (AB.of hO3 (more_at _ Hal.out))) | (go_at_call 48; refine (HT.out _ _ hO3).mono ?_; rintro e w4 ⟨rfl, hO4⟩; obtain ⟨hB, k0, k4, k5⟩ := AB.all (AB.of hO4 (set_same_at _ _ (more_at _ Hal.out) Hne.out))))
  clear hB k0 k4 k5 HW1 HT hO3
  rw [set_more _ _ Hv.out] at hO4
  have hO4 := Lib.hid hO4
  go_wp2
  go_ret2
  exact ⟨q, rfl, hO4.out⟩

set_option maxRecDepth 100000 in
set_option maxHeartbeats 1000000 in
theorem TakeBlockNone (kv kI kB kA g a b c XI XB XA : Nat) (xs : List Nat) (L : List (Nat × Nat)) (w0 w : World) (Ps : List Pr) (h : Grommet.Own w0 w Ps) (hA : AlcIs Ps kv kI kB kA g a b c XI XB XA xs L)
    (htab : Lib.TabIs Tryd.prog w0 "math/bits.deBruijn64tab" .u8 tab) (hc : ClrR (mbit xs L (272 + 208 * a)) c 0 false) :
    Calls Tryd.prog 17 #[.pointer (some ⟨XA, 0, none⟩)] w fun e w' => e = .returned (.tuple #[.int .i64 0, .int .i64 7]) ∧ Grommet.Own w0 w' Ps := by
  have hmN := mayN hA.may
  have HC := Lib.hid (MClearH kv kB XB g (272 + 208 * a) c xs L w0 w Ps h hA.view hA.mb hA.okB htab 0 false hc)
  have HW := Lib.hid (fun wx hO => words_H kv kI kB kA g a b c XI XB XA 0 (280 + 208 * a + 16 * b + 8 * 0) xs L w0 wx Ps hO hA (by omega) rfl)
  rw [show ((0 : Nat) : Int) = 0 from rfl] at HW
  have HT := Lib.hid (fun q wx hO => take_none kv kB XB XA g (272 + 208 * a) c (some ⟨q, 0, none⟩) 8 8 xs L w0 wx (Ps ++ [rowP 3 1 (.slice (some ⟨q, 0, none⟩) 8 8) 8 (rowW (280 + 208 * a + 16 * b + 8 * 0) 8)]) hO (more_at _ hA.view) (more_at _ hA.mb) hA.okB htab hc)
  have Hal := Lib.hid hA.al
  have HO := Lib.hid h
  obtain ⟨c0, c1, c2, c3, c4, c5⟩ := (AS.of h hA.al).cells
  clear h hA htab hc hmN c0 c1 c2 c3 c4
  go_enter Tryd.func17, Tryd.ntmps17
  go_wp2_with fail
  refine HC.out.mono ?_
  rintro e w1 ⟨rfl, hg⟩
  have hO1 := HO.out.quiet (grown_drew hg)
  have HW1 := Lib.hid (HW.out _ hO1)
  clear HC HO hg c5 HW
  go_wp2_with fail
  obtain ⟨hB, k0, k4, k5⟩ := AB.all (AB.of hO1 Hal.out)
  clear hO1
  go_region_held (fun w' => AB XA g a b c XI XB w' ∧ w'.cell? ⟨XA, 0, none⟩ = some (.pointer (some ⟨g, 0, none⟩)) ∧ w'.cell? ⟨XA, 4, none⟩ = some (.pointer (some ⟨XI, 0, none⟩)) ∧ w'.cell? ⟨XA, 5, none⟩ = some (.pointer (some ⟨XB, 0, none⟩))) ((apply AB.all; assumption)) (first | (go_at_call 52; refine HW1.out.mono ?_; rintro e w3 ⟨q, rfl, hO3⟩; obtain ⟨hB, k0, k4, k5⟩ := AB.all (AB.of hO3 (more_at _ Hal.out))) | (go_at_call 48; refine (HT.out _ _ hO3).mono ?_; rintro e w4 ⟨rfl, hg4⟩; have hO4 := hO3.quiet hg4; obtain ⟨hB, k0, k4, k5⟩ := AB.all (AB.of hO4 (more_at _ Hal.out))))
  clear hB k0 k4 k5 HW1 HT hO3
  have hO4 := Lib.hid (Own.less hO4)
  go_wp2
  go_ret2
  exact ⟨rfl, hO4.out⟩
end Go.Proofs.YtdblgnccjpjabaaDoor
end
section
/- The anchor of layer 7; a new device's words. -/
namespace Go.Proofs.YtdblgnccjpjabaaDoor
open Go.RowKit Go.Grommet Go.Ev

def rows7 : List (Nat × List (List V × V)) := [
  (43, [([(.agg (.cons (.int .i64 1) (.cons (.int .i64 3) (.cons (.int .i64 4) .nil))))], (.bool true))]),
  (66, [([(.agg (.cons (.int .i64 1) (.cons (.int .i64 3) (.cons (.int .i64 4) .nil)))), (.int .u8 9), (.int .i64 1)], (.int .i64 544))]),
  (34, [([(.agg (.cons (.int .i64 1) (.cons (.int .i64 3) (.cons (.int .i64 4) .nil)))), (.int .i64 1)], (.int .i64 544))])]
theorem told7 : Go.Ev.Told Tryd.prog (tellC rows7) := told_table (by kernel_rfl) (told_none _) (n := 100000) (by kernel_rfl)
theorem works7_done : isTrueC ((evQ Tryd.prog (tabGl 0) (tellC rows7) 100000).call 8 [] (tabHp tab)) = true := by kernel_rfl
theorem works7_tab (w : World) (ht : Lib.TabIs Tryd.prog w "math/bits.deBruijn64tab" .u8 tab) : Calls Tryd.prog 8 #[] w (Go.Ev.WorksIs w) := evQ_true_tab (by kernel_rfl) told7 (by kernel_rfl) works7_done rfl gTab w ht

/-- Format, among the things of a call's own. -/
theorem FormatH (a b c N : Nat) (xs : List Nat) (w0 w : World) (Ps : List Pr) (h : Grommet.Own w0 w Ps) (hm : mayB (a : Int) (b : Int) (c : Int) = true) (hN : 280 + 208 * a + 16 * b + 8 * c = N) (hxs : fmtL a b c (264 + 208 * a) N = xs) :
    Calls Tryd.prog 32 #[.agg #[.int .i64 (a : Int), .int .i64 (b : Int), .int .i64 (c : Int)]] w fun e w' => ∃ q, e = .returned (.slice (some ⟨q, 0, none⟩) N N) ∧ Grommet.Own w0 w' (Ps ++ [rowP 31 1 (.slice (some ⟨q, 0, none⟩) N N) N (xs.map wv)]) := by
  subst hN
  have hl := length_fmtL a b c (264 + 208 * a) (280 + 208 * a + 16 * b + 8 * c)
  rw [hxs] at hl
  have hmN := mayN hm
  refine (Format_any a b c w hm).mono ?_
  rintro e w' ⟨q, rfl, hrow, hq, hg⟩
  rw [hxs] at hrow ⊢
  rw [hl]
  refine ⟨q, rfl, h.addRow ⟨by simp [hl], .inr ⟨q, 280 + 208 * a + 16 * b + 8 * c, _, rfl, hq, hrow, Nat.le_refl _, by unfold maxLen; omega, by simp [hl], by rw [List.take_of_length_le (by simp [hl])]⟩⟩ hg⟩
theorem fmt_small (a b c N : Nat) (hm : mayB (a : Int) (b : Int) (c : Int) = true) : ∀ n ∈ fmtL a b c (264 + 208 * a) N, n < 18446744073709551616 := by
  have := mayN hm
  exact fmtL_lt a b c _ N (by omega) (by omega) (by omega)
theorem fmt_get (a b c m N i : Nat) (h : i < N) : (fmtL a b c m N).getD i 0 = fmtAt a b c m i := by
  rw [List.getD_eq_getElem?_getD, get_fmtL _ _ _ _ _ _ h]; rfl
end Go.Proofs.YtdblgnccjpjabaaDoor
end
section
/- AllocLeast: a block is taken of words, given back to words. -/
namespace Go.Proofs.YtdblgnccjpjabaaDoor.allocLeast
open Go.RowKit Go.Grommet

/-- Words of a device of one worker, two inodes, B blocks; which blocks are used. -/
structure Dev (B : Nat) (xs : List Nat) (us : Nat → Bool) : Prop where
  len : xs.length = 520 + 8 * B
  bits : ∀ i, i < B → mbit xs [] (272 + 208 * 1) i = us i
/-- What a call hands back: words, a number, an error, true. -/
def TkIs (N : Nat) (ys : List Nat) (k en : Int) (w : World) (e : Ending) (w' : World) : Prop :=
  ∃ ad cp, e = .returned (.tuple #[.slice ad N cp, .int .i64 k, .int .i64 en, .bool true]) ∧ Words w' ad N ys ∧ (ad = none → N = 0 ∧ cp = 0) ∧ w.grownBy w' none
def GvIs (N : Nat) (ys : List Nat) (en : Int) (w : World) (e : Ending) (w' : World) : Prop :=
  ∃ ad cp, e = .returned (.tuple #[.slice ad N cp, .int .i64 en, .bool true]) ∧ Words w' ad N ys ∧ (ad = none → N = 0 ∧ cp = 0) ∧ w.grownBy w' none

theorem zero_other (xs : List Nat) (P p : Nat) (L : List (Nat × Nat)) (hp : p < P) : ∀ i, L.length + i ≤ 95 → gotV xs (zeroL xs P L i) p = gotV xs L p
  | 0, _ => rfl
  | i + 1, h => by
    have hz := zeroL_length xs P L i
    show gotV xs (putI xs (zeroL xs P L i) ((P + i : Nat) : Int) 0) p = _
    unfold putI
    split
    · rw [Int.toNat_natCast, got_put (.inl (by omega)), if_neg (by omega), zero_other xs P p L hp i (by omega)]
    · exact zero_other xs P p L hp i (by omega)
theorem set_length {xs : List Nat} {L : List (Nat × Nat)} {A m : Nat} {i : Int} {is : Bool} : (setMI xs L A m i is).length ≤ L.length + 1 := by
  unfold setMI
  split
  · exact putI_length _ _ _ _
  · omega
/-- The words behind a block was taken. -/
theorem Dev.take {B : Nat} {xs : List Nat} {us : Nat → Bool} (h : Dev B xs us) (hB : B ≤ 31) (hs : ∀ n ∈ xs, n < 18446744073709551616) (k P : Nat) (hk : k < B) (hP : 520 + 8 * k = P)
    (hW : Wl xs.length (zeroL xs P (setMI xs [] (272 + 208 * 1) B (k : Int) true) 8)) : Dev B (flatV xs (zeroL xs P (setMI xs [] (272 + 208 * 1) B (k : Int) true) 8)) (fun i => if i = k then true else us i) := by
  refine ⟨(flatV_length _ _).trans h.len, fun i hi => ?_⟩
  have e1 : mbit (flatV xs (zeroL xs P (setMI xs [] (272 + 208 * 1) B (k : Int) true) 8)) [] (272 + 208 * 1) i = mbit xs (setMI xs [] (272 + 208 * 1) B (k : Int) true) (272 + 208 * 1) i := by
    unfold mbit
    rw [show gotV (flatV xs (zeroL xs P (setMI xs [] (272 + 208 * 1) B (k : Int) true) 8)) [] (272 + 208 * 1 + i / 64) = (flatV xs (zeroL xs P (setMI xs [] (272 + 208 * 1) B (k : Int) true) 8)).getD (272 + 208 * 1 + i / 64) 0 from rfl, Go.Grommet.flat_get hW _ (by rw [h.len]; omega)]
    rw [zero_other xs P _ _ (by omega) 8 (by have := set_length (xs := xs) (L := []) (A := 272 + 208 * 1) (m := B) (i := (k : Int)) (is := true); simp only [List.length_nil] at this; omega)]
  rw [e1, mbit_set (.inl (by simp)) (fun n => gotV_small hs (by simp) n) hk (by rw [h.len]; omega)]
  split
  · rfl
  · exact h.bits i hi
theorem Dev.give {B : Nat} {xs : List Nat} {us : Nat → Bool} (h : Dev B xs us) (hs : ∀ n ∈ xs, n < 18446744073709551616) (k : Nat) (hk : k < B)
    (hW : Wl xs.length (setMI xs [] (272 + 208 * 1) B (k : Int) false)) : Dev B (flatV xs (setMI xs [] (272 + 208 * 1) B (k : Int) false)) (fun i => if i = k then false else us i) := by
  refine ⟨(flatV_length _ _).trans h.len, fun i hi => ?_⟩
  have e1 : mbit (flatV xs (setMI xs [] (272 + 208 * 1) B (k : Int) false)) [] (272 + 208 * 1) i = mbit xs (setMI xs [] (272 + 208 * 1) B (k : Int) false) (272 + 208 * 1) i := by
    unfold mbit
    rw [show gotV (flatV xs (setMI xs [] (272 + 208 * 1) B (k : Int) false)) [] (272 + 208 * 1 + i / 64) = (flatV xs (setMI xs [] (272 + 208 * 1) B (k : Int) false)).getD (272 + 208 * 1 + i / 64) 0 from rfl, Go.Grommet.flat_get hW _ (by rw [h.len]; omega)]
  rw [e1, mbit_set (.inl (by simp)) (fun n => gotV_small hs (by simp) n) hk (by rw [h.len]; omega)]
  split
  · rfl
  · exact h.bits i hi
theorem ClrR.same {f g : Nat → Bool} {m : Nat} {c : Int} {b : Bool} (h : ClrR f m c b) (e : ∀ i, i < m → g i = f i) : ClrR g m c b := by
  rcases h with ⟨rfl, i, rfl, hi, hf, hl⟩ | ⟨rfl, rfl, hl⟩
  · exact .inl ⟨rfl, i, rfl, hi, (e i hi).trans hf, fun j hj => (e j (by omega)).trans (hl j hj)⟩
  · exact .inr ⟨rfl, rfl, fun j hj => (e j hj).trans (hl j hj)⟩

def Ps6 (G g B Y XI XB XA : Nat) (xs : List Nat) (L : List (Nat × Nat)) : List Pr := [boxP G 23 (geoCs 1 2 B), viewP g xs L, boxP Y 23 (geoCs 1 2 B), mapP XI g (264 + 208 * 1) 2, mapP XB g (272 + 208 * 1) B, allocP XA g 1 2 B XI XB]
theorem ps6_alc (G g B Y XI XB XA N : Nat) (xs : List Nat) (L : List (Nat × Nat)) (h1 : 2 ≤ B) (h2 : B ≤ 31) (hN : 520 + 8 * B = N) (hx : xs.length = N) : AlcIs (Ps6 G g B Y XI XB XA xs L) 1 3 4 5 g 1 2 B XI XB XA xs L :=
  ⟨rfl, rfl, rfl, rfl, by unfold mayB; simp; omega, by omega, by omega⟩

set_option maxRecDepth 100000 in
set_option maxHeartbeats 1000000 in
theorem taken_H (B N : Nat) (ad : Option Addr) (cp : Nat) (xs : List Nat) (L : List (Nat × Nat)) (k en : Int) (w : World) (hx : Words w ad N xs) (hnil : ad = none → N = 0 ∧ cp = 0) (h1 : 2 ≤ B) (h2 : B ≤ 31) (hN : 520 + 8 * B = N)
    (HT : ∀ G g Y XI XB XA wx, Grommet.Own w wx (Ps6 G g B Y XI XB XA xs []) → Calls Tryd.prog 17 #[.pointer (some ⟨XA, 0, none⟩)] wx fun e w' => e = .returned (.tuple #[.int .i64 k, .int .i64 en]) ∧ ∃ Qs, Grommet.Own w w' (Ps6 G g B Y XI XB XA xs L ++ Qs)) :
    Calls Tryd.prog 35 #[.slice ad N cp, .agg #[.int .i64 1, .int .i64 2, .int .i64 (B : Int)]] w fun e w' => TkIs N (flatV xs L) k en w e w' ∧ Wl xs.length L := by
  have HX := Lib.hid hx.len
  have hO := (Own.nil w).addBox 23 (geoCs 1 2 B)
  have HN := Lib.hid (NewH ad N cp xs w _ _ hO (hx.keep hO.grown (by simp)) (by omega) hnil)
  have HTk := Lib.hid HT
  have HA := Lib.hid (fun g wx hO => ANewH (w0 := w) (w := wx) 1 g 1 2 B xs [] [boxP w.heap.size 23 (geoCs 1 2 B), viewP g xs []] hO rfl (by unfold mayB; simp; omega) (by rw [HX.out]; omega) (by rw [HX.out]; omega))
  rw [show ((1 : Nat) : Int) = 1 from rfl, show ((2 : Nat) : Int) = 2 from rfl] at HA
  clear HT hx hnil hO
  unfold geoCs at HN
  go_enter Tryd.func35, Tryd.ntmps35
  go_wp2_with fail
  refine HN.out.mono ?_
  rintro e u1 ⟨g, rfl, hO⟩
  clear HN
  have hO : Grommet.Own w u1 [boxP w.heap.size 23 (geoCs 1 2 B), viewP g xs []] := hO
  obtain ⟨G, hG⟩ : ∃ G, w.heap.size = G := ⟨_, rfl⟩
  rw [hG] at hO HA
  have hbx := hO.box 0 rfl
  have f0 : u1.cell? ⟨G, 0, none⟩ = some (.int .i64 1) := by simp [World.cell?, hbx, geoCs]
  have f1 : u1.cell? ⟨G, 1, none⟩ = some (.int .i64 2) := by simp [World.cell?, hbx, geoCs]
  have f2 : u1.cell? ⟨G, 2, none⟩ = some (.int .i64 (B : Int)) := by simp [World.cell?, hbx, geoCs]
  have HA1 := Lib.hid (HA.out g u1 hO)
  clear hbx HA hO
  try rw [hG]
  go_wp2_with fail
  refine HA1.out.mono ?_
  rintro e u2 ⟨Y, XI, XB, XA, rfl, hO⟩
  clear HA1 f0 f1 f2
  have hO : Grommet.Own w u2 (Ps6 G g B Y XI XB XA xs []) := hO
  have HT1 := Lib.hid (HTk.out G g Y XI XB XA u2 hO)
  clear hO HTk
  go_wp2_with fail
  refine HT1.out.mono ?_
  rintro e u3 ⟨rfl, Qs, hO⟩
  clear HT1
  have hw := Own.wl hO 1 rfl
  have HF := Lib.hid (FlatH 1 g xs L w u3 _ hO rfl)
  rw [HX.out] at HF
  clear hO
  go_wp2_with fail
  refine HF.out.mono ?_
  rintro e u4 ⟨ad', cp', rfl, hO⟩
  clear HF
  have hs : ∀ n ∈ flatV xs L, n < 18446744073709551616 := flatV_small hw.2.1 hw.1.val
  obtain ⟨hw4, hnil4, _⟩ := Own.words (ad := ad') (n := N) (cap := cp') (ys := flatV xs L) hO (Ps6 G g B Y XI XB XA xs L ++ Qs).length (by simp) hs (by omega)
  have hfin := Lib.hid (show TkIs N (flatV xs L) k en w (.returned (.tuple #[.slice ad' N cp', .int .i64 k, .int .i64 en, .bool true])) u4 ∧ Wl xs.length L from ⟨⟨ad', cp', rfl, hw4, hnil4, hO.grown⟩, hw.1⟩)
  clear hO hw hs hw4 hnil4
  go_wp2
  exact bodyPost_ret (v := .tuple #[.slice ad' N cp', .int .i64 k, .int .i64 en, .bool true]) (by simp [results, Tryd.results35, go_sem]) rfl hfin.out

set_option maxRecDepth 100000 in
set_option maxHeartbeats 1000000 in
theorem given_H (B N : Nat) (ad : Option Addr) (cp : Nat) (xs : List Nat) (L : List (Nat × Nat)) (n en : Int) (w : World) (hx : Words w ad N xs) (hnil : ad = none → N = 0 ∧ cp = 0) (h1 : 2 ≤ B) (h2 : B ≤ 31) (hN : 520 + 8 * B = N)
    (he : (giveE xs [] (272 + 208 * 1) B n : Int) = en) (hL : giveL xs [] (272 + 208 * 1) B n = L) :
    Calls Tryd.prog 36 #[.slice ad N cp, .agg #[.int .i64 1, .int .i64 2, .int .i64 (B : Int)], .int .i64 n] w fun e w' => GvIs N (flatV xs L) en w e w' ∧ Wl xs.length L := by
  have HX := Lib.hid hx.len
  have hO := (Own.nil w).addBox 23 (geoCs 1 2 B)
  have HN := Lib.hid (NewH ad N cp xs w _ _ hO (hx.keep hO.grown (by simp)) (by omega) hnil)
  have HA := Lib.hid (fun g wx hO => ANewH (w0 := w) (w := wx) 1 g 1 2 B xs [] [boxP w.heap.size 23 (geoCs 1 2 B), viewP g xs []] hO rfl (by unfold mayB; simp; omega) (by rw [HX.out]; omega) (by rw [HX.out]; omega))
  rw [show ((1 : Nat) : Int) = 1 from rfl, show ((2 : Nat) : Int) = 2 from rfl] at HA
  have HTk := Lib.hid (fun G g Y XI XB XA wx hO => GiveBlockH (w0 := w) (w := wx) 1 3 4 5 g 1 2 B XI XB XA xs [] n en _ _ hO (ps6_alc G g B Y XI XB XA N xs [] h1 h2 hN hx.len) he rfl)
  rw [hL] at HTk
  clear he hL hx hnil hO
  unfold geoCs at HN
  go_enter Tryd.func36, Tryd.ntmps36
  go_wp2_with fail
  refine HN.out.mono ?_
  rintro e u1 ⟨g, rfl, hO⟩
  clear HN
  have hO : Grommet.Own w u1 [boxP w.heap.size 23 (geoCs 1 2 B), viewP g xs []] := hO
  obtain ⟨G, hG⟩ : ∃ G, w.heap.size = G := ⟨_, rfl⟩
  rw [hG] at hO HA
  have hbx := hO.box 0 rfl
  have f0 : u1.cell? ⟨G, 0, none⟩ = some (.int .i64 1) := by simp [World.cell?, hbx, geoCs]
  have f1 : u1.cell? ⟨G, 1, none⟩ = some (.int .i64 2) := by simp [World.cell?, hbx, geoCs]
  have f2 : u1.cell? ⟨G, 2, none⟩ = some (.int .i64 (B : Int)) := by simp [World.cell?, hbx, geoCs]
  have HA1 := Lib.hid (HA.out g u1 hO)
  clear hbx HA hO
  try rw [hG]
  go_wp2_with fail
  refine HA1.out.mono ?_
  rintro e u2 ⟨Y, XI, XB, XA, rfl, hO⟩
  clear HA1 f0 f1 f2
  have HT1 := Lib.hid (HTk.out G g Y XI XB XA u2 hO)
  clear hO HTk
  go_wp2_with fail
  refine HT1.out.mono ?_
  rintro e u3 ⟨rfl, hO⟩
  clear HT1
  have hO : Grommet.Own w u3 (Ps6 G g B Y XI XB XA xs L) := hO
  have hw := Own.wl hO 1 rfl
  have HF := Lib.hid (FlatH 1 g xs L w u3 _ hO rfl)
  rw [HX.out] at HF
  clear hO
  go_wp2_with fail
  refine HF.out.mono ?_
  rintro e u4 ⟨ad', cp', rfl, hO⟩
  clear HF
  have hs : ∀ n ∈ flatV xs L, n < 18446744073709551616 := flatV_small hw.2.1 hw.1.val
  obtain ⟨hw4, hnil4, _⟩ := Own.words hO 6 rfl hs (by omega)
  have hfin := Lib.hid (show GvIs N (flatV xs L) en w (.returned (.tuple #[.slice ad' N cp', .int .i64 en, .bool true])) u4 ∧ Wl xs.length L from ⟨⟨ad', cp', rfl, hw4, hnil4, hO.grown⟩, hw.1⟩)
  clear hO hw hs hw4 hnil4
  go_wp2
  exact bodyPost_ret (v := .tuple #[.slice ad' N cp', .int .i64 en, .bool true]) (by simp [results, Tryd.results36, go_sem]) rfl hfin.out
end Go.Proofs.YtdblgnccjpjabaaDoor.allocLeast
end
section
/- AllocLeast: taken, given, by what is used. -/
namespace Go.Proofs.YtdblgnccjpjabaaDoor.allocLeast
open Go.RowKit Go.Grommet

def TkD (B N : Nat) (us : Nat → Bool) (k en : Int) (w : World) (e : Ending) (w' : World) : Prop :=
  ∃ ad cp ys, e = .returned (.tuple #[.slice ad N cp, .int .i64 k, .int .i64 en, .bool true]) ∧ Words w' ad N ys ∧ (ad = none → N = 0 ∧ cp = 0) ∧ Dev B ys us ∧ w.grownBy w' none
def GvD (B N : Nat) (us : Nat → Bool) (en : Int) (w : World) (e : Ending) (w' : World) : Prop :=
  ∃ ad cp ys, e = .returned (.tuple #[.slice ad N cp, .int .i64 en, .bool true]) ∧ Words w' ad N ys ∧ (ad = none → N = 0 ∧ cp = 0) ∧ Dev B ys us ∧ w.grownBy w' none
theorem Dev.same {B : Nat} {xs : List Nat} {us vs : Nat → Bool} (h : Dev B xs us) (e : ∀ i, i < B → vs i = us i) : Dev B xs vs := ⟨h.len, fun i hi => (h.bits i hi).trans (e i hi).symm⟩

theorem taken_some (B N k : Nat) (ad : Option Addr) (cp : Nat) (xs : List Nat) (us vs : Nat → Bool) (w : World) (hx : Words w ad N xs) (hnil : ad = none → N = 0 ∧ cp = 0) (h1 : 2 ≤ B) (h2 : B ≤ 31) (hN : 520 + 8 * B = N) (hD : Dev B xs us)
    (ht : Lib.TabIs Tryd.prog w "math/bits.deBruijn64tab" .u8 tab) (hk : k < B) (hf : us k = false) (hlt : ∀ j, j < k → us j = true) (hv : ∀ i, i < B → vs i = if i = k then true else us i) :
    Calls Tryd.prog 35 #[.slice ad N cp, .agg #[.int .i64 1, .int .i64 2, .int .i64 (B : Int)]] w (TkD B N vs (k : Int) 0 w) := by
  have hc : ClrR (mbit xs [] (272 + 208 * 1)) B (k : Int) true := .inl ⟨rfl, k, rfl, hk, (hD.bits k hk).trans hf, fun j hj => (hD.bits j (by omega)).trans (hlt j hj)⟩
  refine (taken_H B N ad cp xs (zeroL xs (520 + 8 * k) (setMI xs [] (272 + 208 * 1) B (k : Int) true) 8) (k : Int) 0 w hx hnil h1 h2 hN ?_).mono ?_
  · intro G g Y XI XB XA wx hO
    refine (TakeBlockYes 1 3 4 5 g 1 2 B XI XB XA k (520 + 8 * k) xs [] w wx _ hO (ps6_alc G g B Y XI XB XA N xs [] h1 h2 hN hx.len) ht hc hk (by omega) (by simp) (by omega)).mono ?_
    rintro e w' ⟨q, rfl, hO'⟩
    exact ⟨rfl, _, hO'⟩
  · rintro e w' ⟨⟨ad', cp', rfl, hw, hn, hg⟩, hW⟩
    exact ⟨ad', cp', _, rfl, hw, hn, (hD.take h2 hx.small k _ hk rfl hW).same hv, hg⟩
theorem taken_none (B N : Nat) (ad : Option Addr) (cp : Nat) (xs : List Nat) (us : Nat → Bool) (w : World) (hx : Words w ad N xs) (hnil : ad = none → N = 0 ∧ cp = 0) (h1 : 2 ≤ B) (h2 : B ≤ 31) (hN : 520 + 8 * B = N) (hD : Dev B xs us)
    (ht : Lib.TabIs Tryd.prog w "math/bits.deBruijn64tab" .u8 tab) (hf : ∀ i, i < B → us i = true) :
    Calls Tryd.prog 35 #[.slice ad N cp, .agg #[.int .i64 1, .int .i64 2, .int .i64 (B : Int)]] w (TkD B N us 0 7 w) := by
  have hc : ClrR (mbit xs [] (272 + 208 * 1)) B 0 false := .inr ⟨rfl, rfl, fun j hj => (hD.bits j hj).trans (hf j hj)⟩
  refine (taken_H B N ad cp xs [] 0 7 w hx hnil h1 h2 hN ?_).mono ?_
  · intro G g Y XI XB XA wx hO
    refine (TakeBlockNone 1 3 4 5 g 1 2 B XI XB XA xs [] w wx _ hO (ps6_alc G g B Y XI XB XA N xs [] h1 h2 hN hx.len) ht hc).mono ?_
    rintro e w' ⟨rfl, hO'⟩
    exact ⟨rfl, [], by simpa using hO'⟩
  · rintro e w' ⟨⟨ad', cp', rfl, hw, hn, hg⟩, hW⟩
    exact ⟨ad', cp', _, rfl, hw, hn, hD, hg⟩
theorem given_used (B N k : Nat) (ad : Option Addr) (cp : Nat) (xs : List Nat) (us vs : Nat → Bool) (w : World) (hx : Words w ad N xs) (hnil : ad = none → N = 0 ∧ cp = 0) (h1 : 2 ≤ B) (h2 : B ≤ 31) (hN : 520 + 8 * B = N) (hD : Dev B xs us)
    (hk0 : 1 ≤ k) (hk : k < B) (hf : us k = true) (hv : ∀ i, i < B → vs i = if i = k then false else us i) :
    Calls Tryd.prog 36 #[.slice ad N cp, .agg #[.int .i64 1, .int .i64 2, .int .i64 (B : Int)], .int .i64 (k : Int)] w (GvD B N vs 0 w) := by
  have hb : mbit xs [] (272 + 208 * 1) (k : Int).toNat = true := by rw [Int.toNat_natCast]; exact (hD.bits k hk).trans hf
  have hr : ¬ ((k : Int) < 1 ∨ (B : Int) ≤ (k : Int)) := by omega
  have e1 : (giveE xs [] (272 + 208 * 1) B (k : Int) : Int) = 0 := by
    unfold giveE; rw [if_neg hr, hb, if_pos rfl, setM_ok (by simp) hk (by rw [hD.len]; omega)]; rfl
  have e2 : giveL xs [] (272 + 208 * 1) B (k : Int) = setMI xs [] (272 + 208 * 1) B (k : Int) false := by
    unfold giveL; rw [if_neg hr, hb, if_pos rfl]
  refine (given_H B N ad cp xs _ (k : Int) 0 w hx hnil h1 h2 hN e1 e2).mono ?_
  rintro e w' ⟨⟨ad', cp', rfl, hw, hn, hg⟩, hW⟩
  exact ⟨ad', cp', _, rfl, hw, hn, (hD.give hx.small k hk hW).same hv, hg⟩
theorem given_free (B N k : Nat) (ad : Option Addr) (cp : Nat) (xs : List Nat) (us : Nat → Bool) (w : World) (hx : Words w ad N xs) (hnil : ad = none → N = 0 ∧ cp = 0) (h1 : 2 ≤ B) (h2 : B ≤ 31) (hN : 520 + 8 * B = N) (hD : Dev B xs us)
    (hk0 : 1 ≤ k) (hk : k < B) (hf : us k = false) :
    Calls Tryd.prog 36 #[.slice ad N cp, .agg #[.int .i64 1, .int .i64 2, .int .i64 (B : Int)], .int .i64 (k : Int)] w (GvD B N us 3 w) := by
  have hb : mbit xs [] (272 + 208 * 1) (k : Int).toNat = false := by rw [Int.toNat_natCast]; exact (hD.bits k hk).trans hf
  have hr : ¬ ((k : Int) < 1 ∨ (B : Int) ≤ (k : Int)) := by omega
  have e1 : (giveE xs [] (272 + 208 * 1) B (k : Int) : Int) = 3 := by
    unfold giveE; rw [if_neg hr, hb, if_neg (by decide)]; rfl
  have e2 : giveL xs [] (272 + 208 * 1) B (k : Int) = [] := by
    unfold giveL; rw [if_neg hr, hb, if_neg (by decide)]
  refine (given_H B N ad cp xs _ (k : Int) 3 w hx hnil h1 h2 hN e1 e2).mono ?_
  rintro e w' ⟨⟨ad', cp', rfl, hw, hn, hg⟩, hW⟩
  exact ⟨ad', cp', _, rfl, hw, hn, hD, hg⟩

/-- Words do not stand where bools stand. -/
theorem words_apart {w : World} {ad : Option Addr} {l : Nat} {xs : List Nat} {H : Nat} {bs : List Bool} {T : TypeId} (h : Words w ad l xs) (hl : 0 < l) (hH : w.heap[H]? = some (.cells (bs.map Value.bool).toArray T (0, 0))) : ∀ a, ad = some a → xs ≠ [] → some a.block ≠ some H := by
  intro a ha _ e
  cases e
  obtain ⟨g, o, rfl, hc⟩ := h.cell 0 hl
  cases ha
  simp [World.cell?, hH] at hc
/-- The blocks that a law's own variables are. -/
structure Bx (G H B : Nat) (fl : List Bool) (w : World) : Prop where
  g : w.heap[G]? = some (.cells (geoCs 1 2 B) 23 (0, 0))
  h : w.heap[H]? = some (.cells (fl.map Value.bool).toArray 70 (0, 0))
theorem Bx.grown {G H B : Nat} {fl : List Bool} {w w' : World} (h : Bx G H B fl w) (hg : w.grownBy w' none) : Bx G H B fl w' :=
  ⟨(hg.block _ (Array.getElem?_eq_some_iff.1 h.g).1 (by simp)).trans h.g, (hg.block _ (Array.getElem?_eq_some_iff.1 h.h).1 (by simp)).trans h.h⟩
theorem Bx.cells {G H B : Nat} {fl : List Bool} {w : World} (h : Bx G H B fl w) : w.cell? ⟨G, 0, none⟩ = some (.int .i64 1) ∧ w.cell? ⟨G, 1, none⟩ = some (.int .i64 2) ∧ w.cell? ⟨G, 2, none⟩ = some (.int .i64 (B : Int)) := by
  simp [World.cell?, h.g, geoCs]
theorem Bx.at {G H B : Nat} {fl : List Bool} {w : World} (h : Bx G H B fl w) (i : Nat) (hi : i < fl.length) : w.cell? ⟨H, i, none⟩ = some (.bool (fl.getD i false)) ∧ w.frozen? ⟨H, i, none⟩ = false := by
  simp [World.cell?, World.frozen?, h.h, hi]
theorem Bx.set {G H B : Nat} {fl : List Bool} {w : World} (h : Bx G H B fl w) (hne : G ≠ H) (i : Nat) (b : Bool) : Bx G H B (fl.set i b) (w.setCell ⟨H, i, none⟩ (.bool b)) := by
  refine ⟨((grown_setCell w ⟨H, i, none⟩ (.bool b)).block G (Array.getElem?_eq_some_iff.1 h.g).1 (by simpa using hne)).trans h.g, ?_⟩
  have := row_set h.h i (.bool b)
  rw [this, List.map_set]
end Go.Proofs.YtdblgnccjpjabaaDoor.allocLeast
end
