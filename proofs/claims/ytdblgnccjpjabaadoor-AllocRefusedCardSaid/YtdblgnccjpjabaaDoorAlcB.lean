/- Package alloc: give, Free; what is taken where nothing is free. -/
import Derived.Test.YtdblgnccjpjabaaDoorAlcA
-- OPTIONAL
namespace Go.Proofs.YtdblgnccjpjabaaDoor
open Go.RowKit Go.Grommet

/-- An alloc among the things of a call's own. -/
structure AlcIs (Ps : List Pr) (kv kI kB kA g a b c XI XB XA : Nat) (xs : List Nat) (L : List (Nat × Nat)) : Prop where
  view : Ps[kv]? = some (viewP g xs L)
  mi : Ps[kI]? = some (mapP XI g (264 + 208 * a) b)
  mb : Ps[kB]? = some (mapP XB g (272 + 208 * a) c)
  al : Ps[kA]? = some (allocP XA g a b c XI XB)
  may : mayB (a : Int) (b : Int) (c : Int) = true
  fits : 280 + 208 * a + 16 * b + 8 * c ≤ xs.length
  few : xs.length ≤ 1000000
theorem AlcIs.okI {Ps : List Pr} {kv kI kB kA g a b c XI XB XA : Nat} {xs : List Nat} {L : List (Nat × Nat)} (h : AlcIs Ps kv kI kB kA g a b c XI XB XA xs L) : MapOk xs.length (264 + 208 * a) b := mapI_ok h.may h.fits h.few
theorem AlcIs.okB {Ps : List Pr} {kv kI kB kA g a b c XI XB XA : Nat} {xs : List Nat} {L : List (Nat × Nat)} (h : AlcIs Ps kv kI kB kA g a b c XI XB XA xs L) : MapOk xs.length (272 + 208 * a) c := mapB_ok h.may h.fits h.few

structure AS (XA g a b c XI XB : Nat) (w0 : World) (Ps : List Pr) (w : World) : Prop where
  box : w.heap[XA]? = some (.cells #[.pointer (some ⟨g, 0, none⟩), .int .i64 (a : Int), .int .i64 (b : Int), .int .i64 (c : Int), .pointer (some ⟨XI, 0, none⟩), .pointer (some ⟨XB, 0, none⟩)] 88 (0, 0))
  own : Grommet.Own w0 w Ps
theorem AS.cells {XA g a b c XI XB : Nat} {w0 : World} {Ps : List Pr} {w : World} (h : AS XA g a b c XI XB w0 Ps w) : w.cell? ⟨XA, 0, none⟩ = some (.pointer (some ⟨g, 0, none⟩)) ∧ w.cell? ⟨XA, 1, none⟩ = some (.int .i64 (a : Int)) ∧ w.cell? ⟨XA, 2, none⟩ = some (.int .i64 (b : Int)) ∧ w.cell? ⟨XA, 3, none⟩ = some (.int .i64 (c : Int)) ∧ w.cell? ⟨XA, 4, none⟩ = some (.pointer (some ⟨XI, 0, none⟩)) ∧ w.cell? ⟨XA, 5, none⟩ = some (.pointer (some ⟨XB, 0, none⟩)) := by
  simp [World.cell?, h.box]
theorem AS.all {XA g a b c XI XB : Nat} {w0 : World} {Ps : List Pr} {w : World} (h : AS XA g a b c XI XB w0 Ps w) : AS XA g a b c XI XB w0 Ps w ∧ w.cell? ⟨XA, 0, none⟩ = some (.pointer (some ⟨g, 0, none⟩)) ∧ w.cell? ⟨XA, 1, none⟩ = some (.int .i64 (a : Int)) ∧ w.cell? ⟨XA, 2, none⟩ = some (.int .i64 (b : Int)) ∧ w.cell? ⟨XA, 3, none⟩ = some (.int .i64 (c : Int)) ∧ w.cell? ⟨XA, 4, none⟩ = some (.pointer (some ⟨XI, 0, none⟩)) ∧ w.cell? ⟨XA, 5, none⟩ = some (.pointer (some ⟨XB, 0, none⟩)) := ⟨h, h.cells⟩
theorem AS.grown {XA g a b c XI XB : Nat} {w0 : World} {Ps : List Pr} {w w' : World} (h : AS XA g a b c XI XB w0 Ps w) (hg : w.grownBy w' none) : AS XA g a b c XI XB w0 Ps w' :=
  ⟨(hg.block _ (Array.getElem?_eq_some_iff.1 h.box).1 (by simp)).trans h.box, h.own.quiet hg⟩
theorem AS.drew {XA g a b c XI XB : Nat} {w0 : World} {Ps : List Pr} {w : World} (h : AS XA g a b c XI XB w0 Ps w) : AS XA g a b c XI XB w0 Ps w.drew := h.grown (grown_drew (World.grownBy.refl _ _))
theorem AS.of {XA g a b c XI XB kA : Nat} {w0 : World} {Ps : List Pr} {w : World} (h : Grommet.Own w0 w Ps) (hk : Ps[kA]? = some (allocP XA g a b c XI XB)) : AS XA g a b c XI XB w0 Ps w := ⟨h.box kA hk, h⟩

def giveE (xs : List Nat) (L : List (Nat × Nat)) (A m : Nat) (n : Int) : Nat :=
  if n < 1 ∨ (m : Int) ≤ n then 1 else if mbit xs L A n.toNat then setME xs L A m n else 3
def giveL (xs : List Nat) (L : List (Nat × Nat)) (A m : Nat) (n : Int) : List (Nat × Nat) :=
  if n < 1 ∨ (m : Int) ≤ n then L else if mbit xs L A n.toNat then setMI xs L A m n false else L

set_option maxRecDepth 100000 in
set_option maxHeartbeats 1000000 in
theorem give_H (k k2 X g A m : Nat) (xs : List Nat) (L : List (Nat × Nat)) (n : Int) (en : Int) (w0 w : World) (Ps Qs : List Pr) (h : Grommet.Own w0 w Ps) (hk : Ps[k]? = some (viewP g xs L)) (hx : Ps[k2]? = some (mapP X g A m)) (hM : MapOk xs.length A m)
    (he : (giveE xs L A m n : Int) = en) (hQ : Ps.set k (viewP g xs (giveL xs L A m n)) = Qs) :
    Calls Tryd.prog 55 #[.pointer (some ⟨X, 0, none⟩), .int .i64 n, .int .i64 (m : Int)] w fun e w' => e = .returned (.int .i64 en) ∧ Grommet.Own w0 w' Qs := by
  have hQs : Ps.set k (viewP g xs L) = Ps := by
    apply List.ext_getElem?
    intro i
    by_cases hi : i = k
    · subst hi; rw [List.getElem?_set_self (List.getElem?_eq_some_iff.1 hk).1, hk]
    · rw [List.getElem?_set_ne (fun e => hi e.symm)]
  have hml := hM.lt
  by_cases h1 : n < 1
  · unfold giveE at he; unfold giveL at hQ
    rw [if_pos (.inl h1)] at he hQ
    rw [hQs] at hQ
    subst he hQ
    have HO := Lib.hid h
    clear h hk hx hM hQs hml
    go_enter Tryd.func55, Tryd.ntmps55
    go_wp2
    go_ret
    exact ⟨rfl, HO.out⟩
  · by_cases h2 : (m : Int) ≤ n
    · unfold giveE at he; unfold giveL at hQ
      rw [if_pos (.inr h2)] at he hQ
      rw [hQs] at hQ
      subst he hQ
      have HO := Lib.hid h
      clear h hk hx hM hQs hml
      go_enter Tryd.func55, Tryd.ntmps55
      go_wp2
      go_ret
      exact ⟨rfl, HO.out⟩
    · unfold giveE at he; unfold giveL at hQ
      rw [if_neg (by omega)] at he hQ
      have hin : inB n m = true := by unfold inB; simp; omega
      cases hb : mbit xs L A n.toNat with
      | false =>
        rw [hb] at he hQ
        simp only [Bool.false_eq_true, if_false] at he hQ
        rw [hQs] at hQ
        subst he hQ
        have HG := Lib.hid (MGetH k k2 X g A m xs L n w0 w Ps h hk hx hM false (by unfold getM; rw [hin, hb]; rfl))
        have HO := Lib.hid h
        clear h hk hx hM hQs hml hb hin
        go_enter Tryd.func55, Tryd.ntmps55
        go_wp2_with fail
        refine HG.out.mono ?_
        rintro e w1 ⟨rfl, hg⟩
        have HO1 := Lib.hid (HO.out.quiet hg)
        clear hg
        go_wp2
        go_ret
        exact ⟨rfl, HO1.out⟩
      | true =>
        rw [hb] at he hQ
        simp only [if_true] at he hQ
        have HG := Lib.hid (MGetH k k2 X g A m xs L n w0 w Ps h hk hx hM true (by unfold getM; rw [hin, hb]; rfl))
        have HS := Lib.hid (fun wx hO => MSetH k k2 X g A m xs L n false en w0 wx Ps Qs hO hk hx hM he hQ)
        have HO := Lib.hid h
        clear h hk hx hM hQs hml hb hin he hQ
        go_enter Tryd.func55, Tryd.ntmps55
        go_wp2_with fail
        refine HG.out.mono ?_
        rintro e w1 ⟨rfl, hg⟩
        have HO1 := Lib.hid (HO.out.quiet hg)
        clear hg
        go_wp2_with fail
        refine (HS.out _ HO1.out).mono ?_
        rintro e w2 ⟨rfl, hO2⟩
        go_wp2
        go_ret
        exact ⟨rfl, hO2⟩

set_option maxRecDepth 100000 in
set_option maxHeartbeats 1000000 in
theorem GiveInodeH (kv kI kB kA g a b c XI XB XA : Nat) (xs : List Nat) (L : List (Nat × Nat)) (n : Int) (en : Int) (w0 w : World) (Ps Qs : List Pr) (h : Grommet.Own w0 w Ps) (hA : AlcIs Ps kv kI kB kA g a b c XI XB XA xs L)
    (he : (giveE xs L (264 + 208 * a) b n : Int) = en) (hQ : Ps.set kv (viewP g xs (giveL xs L (264 + 208 * a) b n)) = Qs) :
    Calls Tryd.prog 19 #[.pointer (some ⟨XA, 0, none⟩), .int .i64 n] w fun e w' => e = .returned (.int .i64 en) ∧ Grommet.Own w0 w' Qs := by
  obtain ⟨c0, c1, c2, c3, c4, c5⟩ := (AS.of h hA.al).cells
  have HG := Lib.hid (give_H kv kI XI g (264 + 208 * a) b xs L n en w0 w.drew Ps Qs (h.quiet (grown_drew (World.grownBy.refl _ _))) hA.view hA.mi hA.okI he hQ)
  clear h hA he hQ
  go_enter Tryd.func19, Tryd.ntmps19
  go_wp2_with fail
  go_still_tail 10, (by kernel_rfl)
  change wpList _ _ _ _ _ w.drew
  go_wp2_with fail
  refine HG.out.mono ?_
  rintro e w2 ⟨rfl, hO2⟩
  go_wp2
  go_ret
  exact ⟨rfl, hO2⟩
set_option maxRecDepth 100000 in
set_option maxHeartbeats 1000000 in
theorem GiveBlockH (kv kI kB kA g a b c XI XB XA : Nat) (xs : List Nat) (L : List (Nat × Nat)) (n : Int) (en : Int) (w0 w : World) (Ps Qs : List Pr) (h : Grommet.Own w0 w Ps) (hA : AlcIs Ps kv kI kB kA g a b c XI XB XA xs L)
    (he : (giveE xs L (272 + 208 * a) c n : Int) = en) (hQ : Ps.set kv (viewP g xs (giveL xs L (272 + 208 * a) c n)) = Qs) :
    Calls Tryd.prog 21 #[.pointer (some ⟨XA, 0, none⟩), .int .i64 n] w fun e w' => e = .returned (.int .i64 en) ∧ Grommet.Own w0 w' Qs := by
  obtain ⟨c0, c1, c2, c3, c4, c5⟩ := (AS.of h hA.al).cells
  have HG := Lib.hid (give_H kv kB XB g (272 + 208 * a) c xs L n en w0 w.drew Ps Qs (h.quiet (grown_drew (World.grownBy.refl _ _))) hA.view hA.mb hA.okB he hQ)
  clear h hA he hQ
  go_enter Tryd.func21, Tryd.ntmps21
  go_wp2_with fail
  go_still_tail 10, (by kernel_rfl)
  change wpList _ _ _ _ _ w.drew
  go_wp2_with fail
  refine HG.out.mono ?_
  rintro e w2 ⟨rfl, hO2⟩
  go_wp2
  go_ret
  exact ⟨rfl, hO2⟩

set_option maxRecDepth 100000 in
set_option maxHeartbeats 1000000 in
theorem FreeH (kv kI kB kA g a b c XI XB XA : Nat) (xs : List Nat) (L : List (Nat × Nat)) (p q : Int) (w0 w : World) (Ps : List Pr) (h : Grommet.Own w0 w Ps) (hA : AlcIs Ps kv kI kB kA g a b c XI XB XA xs L)
    (hp : (b : Int) - (cntF (mbit xs L (264 + 208 * a)) b : Int) = p) (hq : (c : Int) - (cntF (mbit xs L (272 + 208 * a)) c : Int) = q) :
    Calls Tryd.prog 25 #[.pointer (some ⟨XA, 0, none⟩)] w fun e w' => e = .returned (.tuple #[.int .i64 p, .int .i64 q]) ∧ Grommet.Own w0 w' Ps := by
  have hmN := mayN hA.may
  have h1 := cntF_le (mbit xs L (264 + 208 * a)) b
  have h2 := cntF_le (mbit xs L (272 + 208 * a)) c
  obtain ⟨C, eC⟩ : ∃ C, cntF (mbit xs L (264 + 208 * a)) b = C := ⟨_, rfl⟩
  obtain ⟨D, eD⟩ : ∃ C, cntF (mbit xs L (272 + 208 * a)) c = C := ⟨_, rfl⟩
  have HC := Lib.hid (fun wx hO => MCountH kv kI XI g (264 + 208 * a) b xs L w0 wx Ps hO hA.view hA.mi hA.okI C eC)
  have HD := Lib.hid (fun wx hO => MCountH kv kB XB g (272 + 208 * a) c xs L w0 wx Ps hO hA.view hA.mb hA.okB D eD)
  rw [eC] at hp h1
  rw [eD] at hq h2
  have w1 : IntKind.i64.wrap ((b : Int) - (C : Int)) = p := by rw [IntWalk.i64_in _ ⟨by omega, by omega⟩]; exact hp
  have w2 : IntKind.i64.wrap ((c : Int) - (D : Int)) = q := by rw [IntWalk.i64_in _ ⟨by omega, by omega⟩]; exact hq
  have w3 : IntKind.i64.wrap p = p := IntWalk.i64_in _ ⟨by omega, by omega⟩
  have w4 : IntKind.i64.wrap q = q := IntWalk.i64_in _ ⟨by omega, by omega⟩
  have hS := AS.of h hA.al
  clear h hA eC eD h1 h2 hmN
  go_enter Tryd.func25, Tryd.ntmps25
  go_wp2_with fail
  obtain ⟨hP, c0, c1, c2, c3, c4, c5⟩ := AS.all (AS.drew hS)
  clear hS
  go_region_held (fun w' => AS XA g a b c XI XB w0 Ps w' ∧ w'.cell? ⟨XA, 0, none⟩ = some (.pointer (some ⟨g, 0, none⟩)) ∧ w'.cell? ⟨XA, 1, none⟩ = some (.int .i64 (a : Int)) ∧ w'.cell? ⟨XA, 2, none⟩ = some (.int .i64 (b : Int)) ∧ w'.cell? ⟨XA, 3, none⟩ = some (.int .i64 (c : Int)) ∧ w'.cell? ⟨XA, 4, none⟩ = some (.pointer (some ⟨XI, 0, none⟩)) ∧ w'.cell? ⟨XA, 5, none⟩ = some (.pointer (some ⟨XB, 0, none⟩))) ((apply AS.all; assumption)) (first | (go_at_call_of 59 (Value.pointer (some ⟨XI, 0, none⟩)); refine (HC.out _ (AS.own (show AS XA g a b c XI XB w0 Ps _ by assumption))).mono ?_; rintro e wA ⟨rfl, hgA⟩; obtain ⟨hP, c0, c1, c2, c3, c4, c5⟩ := AS.all (AS.grown (show AS XA g a b c XI XB w0 Ps _ by assumption) hgA)) | (go_at_call_of 59 (Value.pointer (some ⟨XB, 0, none⟩)); refine (HD.out _ (AS.own (show AS XA g a b c XI XB w0 Ps _ by assumption))).mono ?_; rintro e wB ⟨rfl, hgB⟩; obtain ⟨hP, c0, c1, c2, c3, c4, c5⟩ := AS.all (AS.grown (show AS XA g a b c XI XB w0 Ps _ by assumption) hgB)))
  all_goals
    have hfin := Lib.hid (AS.own hP)
    clear hP c0 c1 c2 c3 c4 c5 HC HD
    go_wp2
    go_ret2
    exact ⟨rfl, hfin.out⟩

set_option maxRecDepth 100000 in
set_option maxHeartbeats 1000000 in
theorem take_none (k k2 X XA g A m : Nat) (ad : Option Addr) (l cp : Nat) (xs : List Nat) (L : List (Nat × Nat)) (w0 w : World) (Ps : List Pr) (h : Grommet.Own w0 w Ps) (hk : Ps[k]? = some (viewP g xs L)) (hx : Ps[k2]? = some (mapP X g A m)) (hM : MapOk xs.length A m)
    (htab : Lib.TabIs Tryd.prog w0 "math/bits.deBruijn64tab" .u8 tab) (hc : ClrR (mbit xs L A) m 0 false) :
    Calls Tryd.prog 48 #[.pointer (some ⟨XA, 0, none⟩), .pointer (some ⟨X, 0, none⟩), .slice ad l cp] w fun e w' => e = .returned (.tuple #[.int .i64 0, .int .i64 7]) ∧ w.grownBy w' none := by
  have HC := Lib.hid (MClearH k k2 X g A m xs L w0 w Ps h hk hx hM htab 0 false hc)
  clear h hk hx hM htab hc
  go_enter Tryd.func48, Tryd.ntmps48
  go_wp2_with fail
  refine HC.out.mono ?_
  rintro e w1 ⟨rfl, hg⟩
  go_wp2
  go_ret2
  exact ⟨rfl, hg⟩

set_option maxRecDepth 100000 in
set_option maxHeartbeats 1000000 in
theorem TakeInodeNone (kv kI kB kA g a b c XI XB XA : Nat) (xs : List Nat) (L : List (Nat × Nat)) (w0 w : World) (Ps : List Pr) (h : Grommet.Own w0 w Ps) (hA : AlcIs Ps kv kI kB kA g a b c XI XB XA xs L)
    (htab : Lib.TabIs Tryd.prog w0 "math/bits.deBruijn64tab" .u8 tab) (hc : ClrR (mbit xs L (264 + 208 * a)) b 0 false) :
    Calls Tryd.prog 15 #[.pointer (some ⟨XA, 0, none⟩)] w fun e w' => e = .returned (.tuple #[.int .i64 0, .int .i64 7]) ∧ Grommet.Own w0 w' Ps := by
  obtain ⟨c0, c1, c2, c3, c4, c5⟩ := (AS.of h hA.al).cells
  have HT := Lib.hid (take_none kv kI XI XA g (264 + 208 * a) b none 0 0 xs L w0 w Ps h hA.view hA.mi hA.okI htab hc)
  have HO := Lib.hid h
  clear h hA htab hc
  go_enter Tryd.func15, Tryd.ntmps15
  go_wp2_with fail
  refine HT.out.mono ?_
  rintro e w1 ⟨rfl, hg⟩
  have HO1 := Lib.hid (HO.out.quiet hg)
  clear hg
  go_wp2
  go_ret2
  exact ⟨rfl, HO1.out⟩
end Go.Proofs.YtdblgnccjpjabaaDoor
