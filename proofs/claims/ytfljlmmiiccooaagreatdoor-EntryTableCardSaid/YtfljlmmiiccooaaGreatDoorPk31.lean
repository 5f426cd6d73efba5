import Derived.Deep.RegionHeld
import Derived.OwnWalk
import Derived.Test.YtfljlmmiiccooaaGreatDoorPk30
import Derived.Test.YtfljlmmiiccooaaGreatDoorPk23
import Derived.Test.YtfljlmmiiccooaaGreatDoorPk26
set_option maxRecDepth 100000
set_option maxHeartbeats 1000000
section
namespace Go.Proofs.YtfljlmmiiccooaaGreatDoor
open Go.RowKit Go.Grommet
def geoCs (a b c : Nat) : Array Value := #[.int .i64 (a : Int), .int .i64 (b : Int), .int .i64 (c : Int)]
structure GS (Y a b c : Nat) (w0 : World) (Ps : List Pr) (w : World) : Prop where
 box : w.heap[Y]? = some (.cells (geoCs a b c) 23 (0, 0))
 own : Grommet.Own w0 w Ps
theorem GS.all {Y a b c : Nat} {w0 : World} {Ps : List Pr} {w : World} (h : GS Y a b c w0 Ps w) : GS Y a b c w0 Ps w ∧ w.cell? ⟨Y, 0, none⟩ = some (.int .i64 (a : Int)) ∧ w.cell? ⟨Y, 1, none⟩ = some (.int .i64 (b : Int)) ∧ w.cell? ⟨Y, 2, none⟩ = some (.int .i64 (c : Int)) :=
 ⟨h, by simp [World.cell?, h.box, geoCs], by simp [World.cell?, h.box, geoCs], by simp [World.cell?, h.box, geoCs]⟩
theorem GS.grown {Y a b c : Nat} {w0 : World} {Ps : List Pr} {w w' : World} (h : GS Y a b c w0 Ps w) (hg : w.grownBy w' none) : GS Y a b c w0 Ps w' :=
 ⟨(hg.block _ (Array.getElem?_eq_some_iff.1 h.box).1 (by simp)).trans h.box, h.own.quiet hg⟩
theorem GS.drew {Y a b c : Nat} {w0 : World} {Ps : List Pr} {w : World} (h : GS Y a b c w0 Ps w) : GS Y a b c w0 Ps w.drew := h.grown (grown_drew (World.grownBy.refl _ _))
theorem GS.of {Y a b c : Nat} {w0 : World} {Ps : List Pr} {w : World} (h : Grommet.Own w0 w Ps) (j : Nat) (hj : Ps[j]? = some (boxP Y 23 (geoCs a b c))) : GS Y a b c w0 Ps w := ⟨h.box j hj, h⟩
def allocP (XA g a b c XI XB : Nat) : Pr := boxP XA 185 #[.pointer (some ⟨g, 0, none⟩), .int .i64 (a : Int), .int .i64 (b : Int), .int .i64 (c : Int), .pointer (some ⟨XI, 0, none⟩), .pointer (some ⟨XB, 0, none⟩)]
theorem mayN {a b c : Nat} (h : mayB (a : Int) (b : Int) (c : Int) = true) : 1 ≤ a ∧ a ≤ 4 ∧ 2 ≤ b ∧ b ≤ 64 ∧ 2 ≤ c ∧ c ≤ 512 := by have := mayB_yes h; omega
theorem mapI_ok {n a b c : Nat} (h : mayB (a : Int) (b : Int) (c : Int) = true) (hn : 280 + 208 * a + 16 * b + 8 * c ≤ n) (hx : n ≤ 1000000) : MapOk n (264 + 208 * a) b := by
 have := mayN h; exact ⟨by omega, by omega, hx⟩
theorem mapB_ok {n a b c : Nat} (h : mayB (a : Int) (b : Int) (c : Int) = true) (hn : 280 + 208 * a + 16 * b + 8 * c ≤ n) (hx : n ≤ 1000000) : MapOk n (272 + 208 * a) c := by
 have := mayN h; exact ⟨by omega, by omega, hx⟩
theorem ANewH (k g a b c : Nat) (xs : List Nat) (L : List (Nat × Nat)) (w0 w : World) (Ps : List Pr) (h : Grommet.Own w0 w Ps) (hk : Ps[k]? = some (viewP g xs L)) (hm : mayB (a : Int) (b : Int) (c : Int) = true) (hn : 280 + 208 * a + 16 * b + 8 * c ≤ xs.length) (hx : xs.length ≤ 1000000) :
  Calls Tryz.prog 92 #[.pointer (some ⟨g, 0, none⟩), .agg #[.int .i64 (a : Int), .int .i64 (b : Int), .int .i64 (c : Int)]] w fun e w' => ∃ Y XI XB XA, e = .returned (.tuple #[.pointer (some ⟨XA, 0, none⟩), .int .i64 0]) ∧
   Grommet.Own w0 w' (Ps ++ [boxP Y 23 (geoCs a b c), mapP XI g (264 + 208 * a) b, mapP XB g (272 + 208 * a) c, allocP XA g a b c XI XB]) := by
 have hmN := mayN hm
 have hO1 := h.addBox 23 (geoCs a b c)
 have hG1 := GS.of (Y := w.heap.size) (a := a) (b := b) (c := c) hO1 Ps.length (by simp)
 have hk1 : (Ps ++ [boxP w.heap.size 23 (geoCs a b c)])[k]? = some (viewP g xs L) := by
  rw [List.getElem?_append_left (List.getElem?_eq_some_iff.1 hk).1]; exact hk
 have HL := Lib.hid (fun wx hO => LenH k g xs L w0 wx _ hO hk1)
 have HM := Lib.hid (fun wx => May_any (a : Int) (b : Int) (c : Int) wx)
 have HWd := Lib.hid (fun wx => Words_any (a : Int) (b : Int) (c : Int) wx)
 have HIm := Lib.hid (fun wx => InodeMapAt_any (a : Int) (b : Int) (c : Int) wx)
 have HBm := Lib.hid (fun wx => BlockMapAt_any (a : Int) (b : Int) (c : Int) wx)
 rw [hm] at HM
 rw [show wordsV (a : Int) (b : Int) (c : Int) = ((280 + 208 * a + 16 * b + 8 * c : Nat) : Int) from by rw [words_pos hm]; omega] at HWd
 rw [show imapV (a : Int) (b : Int) (c : Int) = ((264 + 208 * a : Nat) : Int) from by unfold imapV; rw [if_pos hm]; omega] at HIm
 rw [show bmapV (a : Int) (b : Int) (c : Int) = ((272 + 208 * a : Nat) : Int) from by unfold bmapV; rw [if_pos hm]; omega] at HBm
 unfold gv at HM HWd HIm HBm
 have kI := mapI_ok hm hn hx
 have kB := mapB_ok hm hn hx
 have hlt : ¬ (xs.length : Int) < ((280 + 208 * a + 16 * b + 8 * c : Nat) : Int) := by omega
 obtain ⟨Y, eY⟩ : ∃ Y, w.heap.size = Y := ⟨_, rfl⟩
 rw [eY] at hO1 hG1 hk1 HL
 obtain ⟨Ps1, eP⟩ : ∃ Ps1, Ps ++ [boxP Y 23 (geoCs a b c)] = Ps1 := ⟨_, rfl⟩
 have hPl : Ps1[Ps.length]? = some (boxP Y 23 (geoCs a b c)) := by rw [← eP]; simp
 rw [eP] at hO1 hG1 hk1 HL
 have HP := Lib.hid hPl
 have HPe := Lib.hid eP
 have hG1 := Lib.hid hG1
 obtain ⟨N, eN⟩ : ∃ N, 280 + 208 * a + 16 * b + 8 * c = N := ⟨_, rfl⟩
 obtain ⟨MI, eMI⟩ : ∃ N, 264 + 208 * a = N := ⟨_, rfl⟩
 obtain ⟨MB, eMB⟩ : ∃ N, 272 + 208 * a = N := ⟨_, rfl⟩
 rw [eN] at HWd hlt
 rw [eMI] at HIm kI
 rw [eMB] at HBm kB
 have HMI := Lib.hid eMI
 have HMB := Lib.hid eMB
 have Hk1 := Lib.hid hk1
 have HkI := Lib.hid kI
 have HkB := Lib.hid kB
 unfold geoCs at hG1
 clear h hk hm hn hx hmN hO1 hk1 hPl eP eN eMI eMB kI kB
 generalize xs.length = n at HL hlt
 go_enter Tryz.func92, Tryz.ntmps92
 go_wp2_with fail
 refine (HM.out _).mono ?_
 rintro e w1 ⟨rfl, hg1⟩
 have hG2 : GS Y a b c w0 Ps1 w1 := GS.grown hG1.out hg1
 clear hG1 hg1
 go_wp2_with fail
 obtain ⟨hP, k0, k1, k2⟩ := GS.all (GS.drew hG2)
 clear hG2
 go_region_held (fun w' => GS Y a b c w0 Ps1 w' ∧ w'.cell? ⟨Y, 0, none⟩ = some (.int .i64 (a : Int)) ∧ w'.cell? ⟨Y, 1, none⟩ = some (.int .i64 (b : Int)) ∧ w'.cell? ⟨Y, 2, none⟩ = some (.int .i64 (c : Int))) ((apply GS.all; assumption)) (first | (go_at_call 87; refine (HL.out _ (GS.own (show GS Y a b c w0 Ps1 _ by assumption))).mono ?_; rintro e wA ⟨rfl, rfl⟩) | (go_at_call 31; refine (HWd.out _).mono ?_; rintro e wB ⟨rfl, hgB⟩; obtain ⟨hP, k0, k1, k2⟩ := GS.all (GS.grown (show GS Y a b c w0 Ps1 _ by assumption) hgB)))
 clear k0 k1 k2 HL HM HWd
 replace hP : GS Y a b c w0 Ps1 wB := hP
 have hN1 := Lib.hid hP
 clear hP
 go_wp2_with fail
 obtain ⟨hP, k0, k1, k2⟩ := GS.all (GS.drew hN1.out)
 clear hN1
 go_region_held (fun w' => GS Y a b c w0 Ps1 w' ∧ w'.cell? ⟨Y, 0, none⟩ = some (.int .i64 (a : Int)) ∧ w'.cell? ⟨Y, 1, none⟩ = some (.int .i64 (b : Int)) ∧ w'.cell? ⟨Y, 2, none⟩ = some (.int .i64 (c : Int))) ((apply GS.all; assumption)) (first | (go_at_call 119; refine (HIm.out _).mono ?_; rintro e wC ⟨rfl, hgC⟩; obtain ⟨hP, k0, k1, k2⟩ := GS.all (GS.grown (show GS Y a b c w0 Ps1 _ by assumption) hgC)) | (go_at_call 118; refine (MOfH k g MI b xs L w0 _ Ps1 (GS.own (show GS Y a b c w0 Ps1 _ by assumption)) Hk1.out HkI.out).mono ?_; rintro e wD ⟨XI, rfl, hOI, _⟩; obtain ⟨hP, k0, k1, k2⟩ := GS.all (GS.of (Y := Y) (a := a) (b := b) (c := c) (Own.less hOI) Ps.length HP.out)))
 clear k0 k1 k2 HIm
 have hbx : wD.heap[Y]? = some (.cells (geoCs a b c) 23 (0, 0)) := hP.box
 have hN1 : Hid (GS Y a b c w0 (Ps1 ++ [mapP XI g MI b]) wD) := Lib.hid ⟨hbx, hOI⟩
 have Hk2 : Hid ((Ps1 ++ [mapP XI g MI b])[k]? = some (viewP g xs L)) := Lib.hid (by rw [List.getElem?_append_left (List.getElem?_eq_some_iff.1 Hk1.out).1]; exact Hk1.out)
 have HP2 : Hid ((Ps1 ++ [mapP XI g MI b])[Ps.length]? = some (boxP Y 23 (geoCs a b c))) := Lib.hid (by rw [List.getElem?_append_left (List.getElem?_eq_some_iff.1 HP.out).1]; exact HP.out)
 obtain ⟨Ps2, eP2⟩ : ∃ Ps2, Ps1 ++ [mapP XI g MI b] = Ps2 := ⟨_, rfl⟩
 rw [eP2] at hN1 Hk2 HP2
 have HPe2 := Lib.hid eP2
 clear hP hOI hbx eP2
 go_wp2_with fail
 obtain ⟨hP, k0, k1, k2⟩ := GS.all (GS.drew hN1.out)
 clear hN1
 go_region_held (fun w' => GS Y a b c w0 Ps2 w' ∧ w'.cell? ⟨Y, 0, none⟩ = some (.int .i64 (a : Int)) ∧ w'.cell? ⟨Y, 1, none⟩ = some (.int .i64 (b : Int)) ∧ w'.cell? ⟨Y, 2, none⟩ = some (.int .i64 (c : Int))) ((apply GS.all; assumption)) (first | (go_at_call 120; refine (HBm.out _).mono ?_; rintro e wC ⟨rfl, hgC⟩; obtain ⟨hP, k0, k1, k2⟩ := GS.all (GS.grown (show GS Y a b c w0 Ps2 _ by assumption) hgC)) | (go_at_call 118; refine (MOfH k g MB c xs L w0 _ Ps2 (GS.own (show GS Y a b c w0 Ps2 _ by assumption)) Hk2.out HkB.out).mono ?_; rintro e wE ⟨XB, rfl, hOI, _⟩; obtain ⟨hP, k0, k1, k2⟩ := GS.all (GS.of (Y := Y) (a := a) (b := b) (c := c) (Own.less hOI) Ps.length HP2.out)))
 have hfin := Lib.hid (hOI.addBox 185 #[.pointer (some ⟨g, 0, none⟩), .int .i64 (a : Int), .int .i64 (b : Int), .int .i64 (c : Int), .pointer (some ⟨XI, 0, none⟩), .pointer (some ⟨XB, 0, none⟩)])
 clear hP hOI HBm
 go_wp2
 go_ret2
 refine ⟨Y, XI, XB, _, rfl, ?_⟩
 have := hfin.out
 rw [← HPe2.out, ← HPe.out] at this
 rw [← HMI.out, ← HMB.out] at this
 simpa [allocP] using this
end Go.Proofs.YtfljlmmiiccooaaGreatDoor
end
section
namespace Go.Proofs.YtfljlmmiiccooaaGreatDoor
open Go.RowKit Go.Grommet
structure AlcIs (Ps : List Pr) (kv kI kB kA g a b c XI XB XA : Nat) (xs : List Nat) (L : List (Nat × Nat)) : Prop where
 view : Ps[kv]? = some (viewP g xs L)
 mi : Ps[kI]? = some (mapP XI g (264 + 208 * a) b)
 mb : Ps[kB]? = some (mapP XB g (272 + 208 * a) c)
 al : Ps[kA]? = some (allocP XA g a b c XI XB)
 may : mayB (a : Int) (b : Int) (c : Int) = true
 fits : 280 + 208 * a + 16 * b + 8 * c ≤ xs.length
 few : xs.length ≤ 1000000
theorem AlcIs.okI {Ps : List Pr} {kv kI kB kA g a b c XI XB XA : Nat} {xs : List Nat} {L : List (Nat × Nat)} (h : AlcIs Ps kv kI kB kA g a b c XI XB XA xs L) : MapOk xs.length (264 + 208 * a) b := mapI_ok h.may h.fits h.few
theorem AlcIs.okB {Ps : List Pr} {kv kI kB kA g a b c XI XB XA : Nat} {xs : List Nat} {L : List (Nat × Nat)} (h : AlcIs Ps kv kI kB kA g a b c XI XB XA xs L) : MapOk xs.length (272 + 208 * a) c := mapB_ok h.may h.fits h.few
structure AS (XA g a b c XI XB : Nat) (w0 : World) (Ps : List Pr) (w : World) : Prop where
 box : w.heap[XA]? = some (.cells #[.pointer (some ⟨g, 0, none⟩), .int .i64 (a : Int), .int .i64 (b : Int), .int .i64 (c : Int), .pointer (some ⟨XI, 0, none⟩), .pointer (some ⟨XB, 0, none⟩)] 185 (0, 0))
 own : Grommet.Own w0 w Ps
theorem AS.cells {XA g a b c XI XB : Nat} {w0 : World} {Ps : List Pr} {w : World} (h : AS XA g a b c XI XB w0 Ps w) : w.cell? ⟨XA, 0, none⟩ = some (.pointer (some ⟨g, 0, none⟩)) ∧ w.cell? ⟨XA, 1, none⟩ = some (.int .i64 (a : Int)) ∧ w.cell? ⟨XA, 2, none⟩ = some (.int .i64 (b : Int)) ∧ w.cell? ⟨XA, 3, none⟩ = some (.int .i64 (c : Int)) ∧ w.cell? ⟨XA, 4, none⟩ = some (.pointer (some ⟨XI, 0, none⟩)) ∧ w.cell? ⟨XA, 5, none⟩ = some (.pointer (some ⟨XB, 0, none⟩)) := by
 simp [World.cell?, h.box]
theorem AS.all {XA g a b c XI XB : Nat} {w0 : World} {Ps : List Pr} {w : World} (h : AS XA g a b c XI XB w0 Ps w) : AS XA g a b c XI XB w0 Ps w ∧ w.cell? ⟨XA, 0, none⟩ = some (.pointer (some ⟨g, 0, none⟩)) ∧ w.cell? ⟨XA, 1, none⟩ = some (.int .i64 (a : Int)) ∧ w.cell? ⟨XA, 2, none⟩ = some (.int .i64 (b : Int)) ∧ w.cell? ⟨XA, 3, none⟩ = some (.int .i64 (c : Int)) ∧ w.cell? ⟨XA, 4, none⟩ = some (.pointer (some ⟨XI, 0, none⟩)) ∧ w.cell? ⟨XA, 5, none⟩ = some (.pointer (some ⟨XB, 0, none⟩)) := ⟨h, h.cells⟩
theorem AS.grown {XA g a b c XI XB : Nat} {w0 : World} {Ps : List Pr} {w w' : World} (h : AS XA g a b c XI XB w0 Ps w) (hg : w.grownBy w' none) : AS XA g a b c XI XB w0 Ps w' :=
 ⟨(hg.block _ (Array.getElem?_eq_some_iff.1 h.box).1 (by simp)).trans h.box, h.own.quiet hg⟩
theorem AS.drew {XA g a b c XI XB : Nat} {w0 : World} {Ps : List Pr} {w : World} (h : AS XA g a b c XI XB w0 Ps w) : AS XA g a b c XI XB w0 Ps w.drew := h.grown (grown_drew (World.grownBy.refl _ _))
theorem AS.of {XA g a b c XI XB kA : Nat} {w0 : World} {Ps : List Pr} {w : World} (h : Grommet.Own w0 w Ps) (hk : Ps[kA]? = some (allocP XA g a b c XI XB)) : AS XA g a b c XI XB w0 Ps w := ⟨h.box kA hk, h⟩
def giveE (xs : List Nat) (L : List (Nat × Nat)) (A m : Nat) (n : Int) : Nat :=
 if n < 1 ∨ (m : Int) ≤ n then 1 else if mbit xs L A n.toNat then setME xs L A m n else 3
def giveL (xs : List Nat) (L : List (Nat × Nat)) (A m : Nat) (n : Int) : List (Nat × Nat) :=
 if n < 1 ∨ (m : Int) ≤ n then L else if mbit xs L A n.toNat then setMI xs L A m n false else L
theorem give_H (k k2 X g A m : Nat) (xs : List Nat) (L : List (Nat × Nat)) (n : Int) (en : Int) (w0 w : World) (Ps Qs : List Pr) (h : Grommet.Own w0 w Ps) (hk : Ps[k]? = some (viewP g xs L)) (hx : Ps[k2]? = some (mapP X g A m)) (hM : MapOk xs.length A m)
  (he : (giveE xs L A m n : Int) = en) (hQ : Ps.set k (viewP g xs (giveL xs L A m n)) = Qs) :
  Calls Tryz.prog 131 #[.pointer (some ⟨X, 0, none⟩), .int .i64 n, .int .i64 (m : Int)] w fun e w' => e = .returned (.int .i64 en) ∧ Grommet.Own w0 w' Qs := by
 have hQs : Ps.set k (viewP g xs L) = Ps := by
  apply List.ext_getElem?
  intro i
  by_cases hi : i = k
  ·subst hi; rw [List.getElem?_set_self (List.getElem?_eq_some_iff.1 hk).1, hk]
  ·rw [List.getElem?_set_ne (fun e => hi e.symm)]
 have hml := hM.lt
 by_cases h1 : n < 1
 ·unfold giveE at he; unfold giveL at hQ
  rw [if_pos (.inl h1)] at he hQ
  rw [hQs] at hQ
  subst he hQ
  have HO := Lib.hid h
  clear h hk hx hM hQs hml
  go_enter Tryz.func131, Tryz.ntmps131
  go_wp2
  go_ret
  exact ⟨rfl, HO.out⟩
 ·by_cases h2 : (m : Int) ≤ n
  ·unfold giveE at he; unfold giveL at hQ
   rw [if_pos (.inr h2)] at he hQ
   rw [hQs] at hQ
   subst he hQ
   have HO := Lib.hid h
   clear h hk hx hM hQs hml
   go_enter Tryz.func131, Tryz.ntmps131
   go_wp2
   go_ret
   exact ⟨rfl, HO.out⟩
  ·unfold giveE at he; unfold giveL at hQ
   rw [if_neg (by omega)] at he hQ
   have hin : inB n m = true := by unfold inB; simp; omega
   cases hb : mbit xs L A n.toNat with
   | false =>
    rw [hb] at he hQ
    simp only [Bool.false_eq_true, if_false] at he hQ
    rw [hQs] at hQ
    subst he hQ
    have HG := Lib.hid (MGetH k k2 X g A m xs L n w0 w Ps h hk hx hM false (by unfold getM; rw [hin, hb]; rfl))
    have HO := Lib.hid h
    clear h hk hx hM hQs hml hb hin
    go_enter Tryz.func131, Tryz.ntmps131
    go_wp2_with fail
    refine HG.out.mono ?_
    rintro e w1 ⟨rfl, hg⟩
    have HO1 := Lib.hid (HO.out.quiet hg)
    clear hg
    go_wp2
    go_ret
    exact ⟨rfl, HO1.out⟩
   | true =>
    rw [hb] at he hQ
    simp only [if_true] at he hQ
    have HG := Lib.hid (MGetH k k2 X g A m xs L n w0 w Ps h hk hx hM true (by unfold getM; rw [hin, hb]; rfl))
    have HS := Lib.hid (fun wx hO => MSetH k k2 X g A m xs L n false en w0 wx Ps Qs hO hk hx hM he hQ)
    have HO := Lib.hid h
    clear h hk hx hM hQs hml hb hin he hQ
    go_enter Tryz.func131, Tryz.ntmps131
    go_wp2_with fail
    refine HG.out.mono ?_
    rintro e w1 ⟨rfl, hg⟩
    have HO1 := Lib.hid (HO.out.quiet hg)
    clear hg
    go_wp2_with fail
    refine (HS.out _ HO1.out).mono ?_
    rintro e w2 ⟨rfl, hO2⟩
    go_wp2
    go_ret
    exact ⟨rfl, hO2⟩
theorem GiveBlockH (kv kI kB kA g a b c XI XB XA : Nat) (xs : List Nat) (L : List (Nat × Nat)) (n : Int) (en : Int) (w0 w : World) (Ps Qs : List Pr) (h : Grommet.Own w0 w Ps) (hA : AlcIs Ps kv kI kB kA g a b c XI XB XA xs L)
  (he : (giveE xs L (272 + 208 * a) c n : Int) = en) (hQ : Ps.set kv (viewP g xs (giveL xs L (272 + 208 * a) c n)) = Qs) :
  Calls Tryz.prog 121 #[.pointer (some ⟨XA, 0, none⟩), .int .i64 n] w fun e w' => e = .returned (.int .i64 en) ∧ Grommet.Own w0 w' Qs := by
 obtain ⟨c0, c1, c2, c3, c4, c5⟩ := (AS.of h hA.al).cells
 have HG := Lib.hid (give_H kv kB XB g (272 + 208 * a) c xs L n en w0 w.drew Ps Qs (h.quiet (grown_drew (World.grownBy.refl _ _))) hA.view hA.mb hA.okB he hQ)
 clear h hA he hQ
 go_enter Tryz.func121, Tryz.ntmps121
 go_wp2_with fail
 go_still_tail 10, (by kernel_rfl)
 change wpList _ _ _ _ _ w.drew
 go_wp2_with fail
 refine HG.out.mono ?_
 rintro e w2 ⟨rfl, hO2⟩
 go_wp2
 go_ret
 exact ⟨rfl, hO2⟩
theorem FreeH (kv kI kB kA g a b c XI XB XA : Nat) (xs : List Nat) (L : List (Nat × Nat)) (p q : Int) (w0 w : World) (Ps : List Pr) (h : Grommet.Own w0 w Ps) (hA : AlcIs Ps kv kI kB kA g a b c XI XB XA xs L)
  (hp : (b : Int) - (cntF (mbit xs L (264 + 208 * a)) b : Int) = p) (hq : (c : Int) - (cntF (mbit xs L (272 + 208 * a)) c : Int) = q) :
  Calls Tryz.prog 108 #[.pointer (some ⟨XA, 0, none⟩)] w fun e w' => e = .returned (.tuple #[.int .i64 p, .int .i64 q]) ∧ Grommet.Own w0 w' Ps := by
 have hmN := mayN hA.may
 have h1 := cntF_le (mbit xs L (264 + 208 * a)) b
 have h2 := cntF_le (mbit xs L (272 + 208 * a)) c
 obtain ⟨C, eC⟩ : ∃ C, cntF (mbit xs L (264 + 208 * a)) b = C := ⟨_, rfl⟩
 obtain ⟨D, eD⟩ : ∃ C, cntF (mbit xs L (272 + 208 * a)) c = C := ⟨_, rfl⟩
 have HC := Lib.hid (fun wx hO => MCountH kv kI XI g (264 + 208 * a) b xs L w0 wx Ps hO hA.view hA.mi hA.okI C eC)
 have HD := Lib.hid (fun wx hO => MCountH kv kB XB g (272 + 208 * a) c xs L w0 wx Ps hO hA.view hA.mb hA.okB D eD)
 rw [eC] at hp h1
 rw [eD] at hq h2
 have w1 : IntKind.i64.wrap ((b : Int) - (C : Int)) = p := by rw [IntWalk.i64_in _ ⟨by omega, by omega⟩]; exact hp
 have w2 : IntKind.i64.wrap ((c : Int) - (D : Int)) = q := by rw [IntWalk.i64_in _ ⟨by omega, by omega⟩]; exact hq
 have w3 : IntKind.i64.wrap p = p := IntWalk.i64_in _ ⟨by omega, by omega⟩
 have w4 : IntKind.i64.wrap q = q := IntWalk.i64_in _ ⟨by omega, by omega⟩
 have hS := AS.of h hA.al
 clear h hA eC eD h1 h2 hmN
 go_enter Tryz.func108, Tryz.ntmps108
 go_wp2_with fail
 obtain ⟨hP, c0, c1, c2, c3, c4, c5⟩ := AS.all (AS.drew hS)
 clear hS
 go_region_held (fun w' => AS XA g a b c XI XB w0 Ps w' ∧ w'.cell? ⟨XA, 0, none⟩ = some (.pointer (some ⟨g, 0, none⟩)) ∧ w'.cell? ⟨XA, 1, none⟩ = some (.int .i64 (a : Int)) ∧ w'.cell? ⟨XA, 2, none⟩ = some (.int .i64 (b : Int)) ∧ w'.cell? ⟨XA, 3, none⟩ = some (.int .i64 (c : Int)) ∧ w'.cell? ⟨XA, 4, none⟩ = some (.pointer (some ⟨XI, 0, none⟩)) ∧ w'.cell? ⟨XA, 5, none⟩ = some (.pointer (some ⟨XB, 0, none⟩))) ((apply AS.all; assumption)) (first | (go_at_call_of 126 (Value.pointer (some ⟨XI, 0, none⟩)); refine (HC.out _ (AS.own (show AS XA g a b c XI XB w0 Ps _ by assumption))).mono ?_; rintro e wA ⟨rfl, hgA⟩; obtain ⟨hP, c0, c1, c2, c3, c4, c5⟩ := AS.all (AS.grown (show AS XA g a b c XI XB w0 Ps _ by assumption) hgA)) | (go_at_call_of 126 (Value.pointer (some ⟨XB, 0, none⟩)); refine (HD.out _ (AS.own (show AS XA g a b c XI XB w0 Ps _ by assumption))).mono ?_; rintro e wB ⟨rfl, hgB⟩; obtain ⟨hP, c0, c1, c2, c3, c4, c5⟩ := AS.all (AS.grown (show AS XA g a b c XI XB w0 Ps _ by assumption) hgB)))
 all_goals
  have hfin := Lib.hid (AS.own hP)
  clear hP c0 c1 c2 c3 c4 c5 HC HD
  go_wp2
  go_ret2
  exact ⟨rfl, hfin.out⟩
end Go.Proofs.YtfljlmmiiccooaaGreatDoor
end
section
namespace Go.Proofs.YtfljlmmiiccooaaGreatDoor
open Go.RowKit Go.Grommet
def rowW (P i : Nat) : List Value := (List.range 8).map fun j => if j < i then .int .i64 ((P + j : Nat) : Int) else .int .i64 0
theorem rowW_get (P i j : Nat) (h : j < 8) : (rowW P i)[j]? = some (if j < i then .int .i64 ((P + j : Nat) : Int) else .int .i64 0) := by
 unfold rowW; rw [List.getElem?_map, List.getElem?_range h]; rfl
theorem rowW_set (P i : Nat) (h : i < 8) : (rowW P i).set i (.int .i64 ((P + i : Nat) : Int)) = rowW P (i + 1) := by
 apply List.ext_getElem?
 intro j
 by_cases hj : j < 8
 ·rw [rowW_get _ _ _ hj]
  by_cases e : i = j
  ·subst e
   rw [List.getElem?_set_self (by unfold rowW; simp; exact h), if_pos (by omega)]
  ·rw [List.getElem?_set_ne e, rowW_get _ _ _ hj]
   by_cases e2 : j < i
   ·rw [if_pos e2, if_pos (by omega)]
   ·rw [if_neg e2, if_neg (by omega)]
 ·rw [List.getElem?_eq_none (by unfold rowW; simp; omega), List.getElem?_eq_none (by unfold rowW; simp; omega)]
theorem made_rowW (P : Nat) : List.take (8 * 1) (madeCells #[Value.int .i64 0] 8).toList = rowW P 0 := by
 rw [toList_madeCells_one]; rfl
theorem infoInt : (Tryz.prog.info? 3).map (fun i => (i.zero, i.size, i.bytes)) = some (some (.int .i64 0), 1, 8) := by kernel_rfl
theorem words_H (kv kI kB kA g a b c XI XB XA n P : Nat) (xs : List Nat) (L : List (Nat × Nat)) (w0 w : World) (Ps : List Pr) (h : Grommet.Own w0 w Ps) (hA : AlcIs Ps kv kI kB kA g a b c XI XB XA xs L) (hn : n < c) (hP : 280 + 208 * a + 16 * b + 8 * n = P) :
  Calls Tryz.prog 139 #[.pointer (some ⟨XA, 0, none⟩), .int .i64 (n : Int)] w fun e w' => ∃ q, e = .returned (.slice (some ⟨q, 0, none⟩) 8 8) ∧ Grommet.Own w0 w' (Ps ++ [rowP 3 1 (.slice (some ⟨q, 0, none⟩) 8 8) 8 (rowW P 8)]) := by
 have hmN := mayN hA.may
 have HB := Lib.hid (fun wx => BlockAt_any (a : Int) (b : Int) (c : Int) (n : Int) wx)
 rw [show blockV (a : Int) (b : Int) (c : Int) (n : Int) = (P : Int) from by unfold blockV; rw [if_pos ⟨hA.may, by omega, by omega⟩]; omega] at HB
 unfold gv at HB
 have hPl : P ≤ 10000 := by omega
 obtain ⟨i0, hi0, hz0, hz1, hz2⟩ := info_parts infoInt
 have hal := Lib.hid hA.al
 have HO := Lib.hid h
 clear h hA hmN hP
 go_enter Tryz.func139, Tryz.ntmps139
 go_wp2_with (refine wpList_make_whole _ rfl _ _ 68 rfl 3 i0 (.int .i64 0) Tryz.underlying68 hi0 hz0 hz1 _ _ _ 8 rfl rfl rfl ?m1 ?m2 ?_)
 case m1 => rw [hz2]; omega
 case m2 => unfold maxLen; omega
 intro w1 hrow1 hg1
 have hO1 : Grommet.Own w0 w1 (Ps ++ [rowP 3 1 (.slice (some ⟨w.heap.size, 0, none⟩) 8 8) 8 (rowW P 0)]) := HO.out.addRow ⟨by simp [rowW], .inr ⟨w.heap.size, 8, _, rfl, Nat.le_refl _, hrow1, Nat.le_refl _, by unfold maxLen; omega, by rw [size_madeCells], made_rowW P⟩⟩ hg1
 obtain ⟨q, hq⟩ : ∃ q, w.heap.size = q := ⟨_, rfl⟩
 rw [hq] at hO1 ⊢
 clear hq hrow1 hg1 hi0 hz0 hz1 hz2 HO
 have hO1 := Lib.hid hO1
 go_wp2_with fail
 go_loopw [10] (fun s wr => ∃ i : Nat, i ≤ 8 ∧ s = .int .i64 (i : Int) ∧ Hid (Grommet.Own w0 wr (Ps ++ [rowP 3 1 (.slice (some ⟨q, 0, none⟩) 8 8) 8 (rowW P i)]))) (fun s _ => 8 - (intOf s).toNat)
 case atStart => exact ⟨0, Nat.zero_le _, rfl, hO1⟩
 case round =>
  clear hO1
  obtain ⟨i, hi, rfl, hO⟩ := hrel
  have i0 : (0 : Int) ≤ (i : Int) := by omega
  by_cases hlt : i < 8
  ·have hlt' : (i : Int) < 8 := by omega
   have hal2 : (Ps ++ [rowP 3 1 (.slice (some ⟨q, 0, none⟩) 8 8) 8 (rowW P i)])[kA]? = some (allocP XA g a b c XI XB) := by rw [List.getElem?_append_left (List.getElem?_eq_some_iff.1 hal.out).1]; exact hal.out
   obtain ⟨c0, c1, c2, c3, c4, c5⟩ := (AS.of hO.out hal2).cells
   have wi : IntKind.i64.wrap ((i : Int) + 1) = (i : Int) + 1 := IntWalk.i64_in _ ⟨by omega, by omega⟩
   have wp : IntKind.i64.wrap ((P : Int) + (i : Int)) = ((P + i : Nat) : Int) := by rw [IntWalk.i64_in _ ⟨by omega, by omega⟩]; omega
   have wp2 : (P : Int) + (i : Int) = ((P + i : Nat) : Int) := by omega
   clear hal2
   go_wp2_with fail
   refine (HB.out _).mono ?_
   rintro e w3 ⟨rfl, hg3⟩
   have hO3 := hO.out.quiet hg3
   have hk3 : (Ps ++ [rowP 3 1 (.slice (some ⟨q, 0, none⟩) 8 8) 8 (rowW P i)])[Ps.length]? = some (rowP 3 1 (.slice (some ⟨q, 0, none⟩) 8 8) 8 (rowW P i)) := by simp
   obtain ⟨q', hq', d0, z0, _⟩ := Own.cell hO3 Ps.length hk3 i _ (rowW_get P i i hlt)
   cases hq'
   have hS := hO3.store Ps.length hk3 i (.int .i64 ((P + i : Nat) : Int))
   rw [rowW_set P i hlt] at hS
   have hS' : Hid (Grommet.Own w0 (w3.setCell ⟨q, i, none⟩ (.int .i64 ((P + i : Nat) : Int))) (Ps ++ [rowP 3 1 (.slice (some ⟨q, 0, none⟩) 8 8) 8 (rowW P (i + 1))])) := Lib.hid (by simpa using hS)
   obtain ⟨T, eT⟩ : ∃ T, P + i = T := ⟨_, rfl⟩
   rw [eT] at wp wp2 hS'
   clear hO hO3 hk3 hg3 hS c0 c1 c2 c3 c4 c5
   go_wp2
   go_roundw
   case rel => exact ⟨i + 1, by omega, by go_num, hS'⟩
   case measure => simp [intOf]; omega
  ·obtain rfl : i = 8 := by omega
   go_wp2
   go_ret
   exact ⟨q, rfl, hO.out⟩
end Go.Proofs.YtfljlmmiiccooaaGreatDoor
end
section
namespace Go.Proofs.YtfljlmmiiccooaaGreatDoor
open Go.RowKit Go.Grommet
theorem set_same_at {Ps : List Pr} {k : Nat} {Q : Pr} (R : Pr) (j : Nat) (hj : Ps[j]? = some Q) (h : k ≠ j) : (Ps.set k R)[j]? = some Q := by rw [List.getElem?_set_ne h]; exact hj
theorem set_at {Ps : List Pr} {k : Nat} {Q : Pr} (R : Pr) (hk : Ps[k]? = some Q) : (Ps.set k R)[k]? = some R := List.getElem?_set_self (List.getElem?_eq_some_iff.1 hk).1
theorem set_set {Ps : List Pr} (k : Nat) (R S : Pr) : (Ps.set k R).set k S = Ps.set k S := by rw [List.set_set]
def zeroL (xs : List Nat) (P : Nat) (L : List (Nat × Nat)) : Nat → List (Nat × Nat)
 | 0 => L
 | i + 1 => putI xs (zeroL xs P L i) ((P + i : Nat) : Int) 0
theorem zeroL_length (xs : List Nat) (P : Nat) (L : List (Nat × Nat)) : ∀ i, (zeroL xs P L i).length ≤ L.length + i
 | 0 => Nat.le_refl _
 | i + 1 => by have := zeroL_length xs P L i; have := putI_length xs (zeroL xs P L i) ((P + i : Nat) : Int) 0; show (putI _ _ _ _).length ≤ _; omega
theorem putE_ok {xs : List Nat} {L : List (Nat × Nat)} {a : Nat} (hl : L.length < 96) (ha : a < xs.length) : putEI xs L (a : Int) = 0 := by
 unfold putEI putE
 rw [if_pos (by omega), Int.toNat_natCast]
 split
 ·rfl
 ·rw [if_neg (by omega)]
theorem setM_ok {xs : List Nat} {L : List (Nat × Nat)} {A m k : Nat} (hl : L.length < 96) (hk : k < m) (ha : A + k / 64 < xs.length) : setME xs L A m (k : Int) = 0 := by
 unfold setME
 rw [show inB (k : Int) m = true from by unfold inB; simp; omega, if_pos rfl, Int.toNat_natCast]
 exact putE_ok hl ha
theorem take_some (k k2 kr X XA kA g A m c P q a b c' XI XB : Nat) (xs : List Nat) (L : List (Nat × Nat)) (w0 w : World) (Ps : List Pr) (h : Grommet.Own w0 w Ps) (hk : Ps[k]? = some (viewP g xs L)) (hx : Ps[k2]? = some (mapP X g A m)) (hal : Ps[kA]? = some (allocP XA g a b c' XI XB)) (hM : MapOk xs.length A m)
  (hr : Ps[kr]? = some (rowP 3 1 (.slice (some ⟨q, 0, none⟩) 8 8) 8 (rowW P 8))) (h2 : k ≠ kr) (h3 : k ≠ kA) (hl : L.length ≤ 80) (hP : P + 8 ≤ xs.length)
  (htab : Lib.TabIs Tryz.prog w0 "math/bits.deBruijn64tab" .u8 tab) (hc : ClrR (mbit xs L A) m (c : Int) true) (hcm : c < m) :
  Calls Tryz.prog 138 #[.pointer (some ⟨XA, 0, none⟩), .pointer (some ⟨X, 0, none⟩), .slice (some ⟨q, 0, none⟩) 8 8] w fun e w' => e = .returned (.tuple #[.int .i64 (c : Int), .int .i64 0]) ∧ Grommet.Own w0 w' (Ps.set k (viewP g xs (zeroL xs P (setMI xs L A m (c : Int) true) 8))) := by
 have hf := hM.fits
 have hfw := hM.few
 have HC := Lib.hid (MClearH k k2 X g A m xs L w0 w Ps h hk hx hM htab (c : Int) true hc)
 have hse : (setME xs L A m (c : Int) : Int) = 0 := by rw [setM_ok (by omega) hcm (by omega)]; rfl
 have HS := Lib.hid (fun wx hO => MSetH k k2 X g A m xs L (c : Int) true 0 w0 wx Ps _ hO hk hx hM hse rfl)
 obtain ⟨M, hMe⟩ : ∃ M, setMI xs L A m (c : Int) true = M := ⟨_, rfl⟩
 have hMl : M.length ≤ 81 := by
  rw [← hMe]; unfold setMI
  split
  ·have := putI_length xs L ((A + (c : Int).toNat / 64 : Nat) : Int) (setB (gotV xs L (A + (c : Int).toNat / 64)) ((c : Int).toNat % 64) true); omega
  ·omega
 rw [hMe] at HS ⊢
 have HO := Lib.hid h
 have Hk := Lib.hid hk
 have Hr := Lib.hid hr
 have Hal := Lib.hid hal
 have Hxl := Lib.hid (show P + 8 ≤ xs.length from hP)
 have hPl : P ≤ 1000000 := by omega
 clear h hk hx hM htab hc hse hMe hf hr hal hP hfw hcm
 go_enter Tryz.func138, Tryz.ntmps138
 go_wp2_with fail
 refine HC.out.mono ?_
 rintro e w1 ⟨rfl, hg⟩
 clear HC
 have hO1 := Lib.hid (HO.out.quiet hg)
 clear HO hg
 go_wp2_with fail
 refine (HS.out _ hO1.out).mono ?_
 rintro e w2 ⟨rfl, hO2⟩
 clear HS hO1
 have hO2 : Hid (Grommet.Own w0 w2 (Ps.set k (viewP g xs (zeroL xs P M 0)))) := Lib.hid hO2
 go_wp2_with fail
 go_loopw [29] (fun s wr => ∃ i : Nat, i ≤ 8 ∧ s = .int .i64 (i : Int) ∧ Hid (Grommet.Own w0 wr (Ps.set k (viewP g xs (zeroL xs P M i))))) (fun s _ => 8 - (intOf s).toNat)
 case atStart => exact ⟨0, Nat.zero_le _, rfl, hO2⟩
 case round =>
  clear hO2
  obtain ⟨i, hi, rfl, hO⟩ := hrel
  have i0 : (0 : Int) ≤ (i : Int) := by omega
  by_cases hlt : i < 8
  ·have hlt' : (i : Int) < 8 := by omega
   obtain ⟨_, hq', d0, _, _⟩ := Own.cell hO.out kr (set_same_at _ kr Hr.out h2) i _ (rowW_get P 8 i hlt)
   cases hq'
   rw [if_pos hlt] at d0
   obtain ⟨c0, c1, c2, c3, c4, c5⟩ := (AS.of hO.out (set_same_at _ kA Hal.out h3)).cells
   have hzl := zeroL_length xs P M i
   have HPt := Lib.hid (PutH k g xs (zeroL xs P M i) ((P + i : Nat) : Int) 0 0 w0 wr _ _ hO.out (set_at _ Hk.out) (by decide) (by rw [putE_ok (by omega) (by have := Hxl.out; omega)]; rfl) rfl)
   rw [set_set] at HPt
   change Hid (Calls _ _ _ _ (fun e w' => _ ∧ Grommet.Own w0 w' (Ps.set k (viewP g xs (zeroL xs P M (i + 1)))))) at HPt
   rw [show ((0 : Nat) : Int) = 0 from rfl] at HPt
   have wi : IntKind.i64.wrap ((i : Int) + 1) = (i : Int) + 1 := IntWalk.i64_in _ ⟨by omega, by omega⟩
   obtain ⟨T, eT⟩ : ∃ T, P + i = T := ⟨_, rfl⟩
   rw [eT] at d0 HPt
   clear hO hzl eT
   go_wp2_with fail
   refine HPt.out.mono ?_
   rintro e w3 ⟨rfl, hO3⟩
   clear HPt d0 c0 c1 c2 c3 c4 c5
   have hO3 := Lib.hid hO3
   go_wp2
   go_roundw
   case rel => exact ⟨i + 1, by omega, by go_num, hO3⟩
   case measure => simp [intOf]; omega
  ·obtain rfl : i = 8 := by omega
   go_wp2
   go_ret2
   exact ⟨rfl, hO.out⟩
end Go.Proofs.YtfljlmmiiccooaaGreatDoor
end
section
namespace Go.Proofs.YtfljlmmiiccooaaGreatDoor
open Go.RowKit Go.Grommet
structure AB (XA g a b c XI XB : Nat) (w : World) : Prop where
 box : w.heap[XA]? = some (.cells #[.pointer (some ⟨g, 0, none⟩), .int .i64 (a : Int), .int .i64 (b : Int), .int .i64 (c : Int), .pointer (some ⟨XI, 0, none⟩), .pointer (some ⟨XB, 0, none⟩)] 185 (0, 0))
theorem AB.all {XA g a b c XI XB : Nat} {w : World} (h : AB XA g a b c XI XB w) : AB XA g a b c XI XB w ∧ w.cell? ⟨XA, 0, none⟩ = some (.pointer (some ⟨g, 0, none⟩)) ∧ w.cell? ⟨XA, 4, none⟩ = some (.pointer (some ⟨XI, 0, none⟩)) ∧ w.cell? ⟨XA, 5, none⟩ = some (.pointer (some ⟨XB, 0, none⟩)) :=
 ⟨h, by simp [World.cell?, h.box], by simp [World.cell?, h.box], by simp [World.cell?, h.box]⟩
theorem AB.drew {XA g a b c XI XB : Nat} {w : World} (h : AB XA g a b c XI XB w) : AB XA g a b c XI XB w.drew := ⟨h.box⟩
theorem AB.of {XA g a b c XI XB kA : Nat} {w0 : World} {Ps : List Pr} {w : World} (h : Grommet.Own w0 w Ps) (hk : Ps[kA]? = some (allocP XA g a b c XI XB)) : AB XA g a b c XI XB w := ⟨h.box kA hk⟩
theorem more_at {Ps : List Pr} {k : Nat} {Q : Pr} (R : Pr) (h : Ps[k]? = some Q) : (Ps ++ [R])[k]? = some Q := by rw [List.getElem?_append_left (List.getElem?_eq_some_iff.1 h).1]; exact h
theorem set_more {Ps : List Pr} {k : Nat} {Q : Pr} (R S : Pr) (h : Ps[k]? = some Q) : (Ps ++ [R]).set k S = Ps.set k S ++ [R] := by
 rw [List.set_append_left _ _ (List.getElem?_eq_some_iff.1 h).1]
theorem TakeBlockYes (kv kI kB kA g a b c XI XB XA n P : Nat) (xs : List Nat) (L : List (Nat × Nat)) (w0 w : World) (Ps : List Pr) (h : Grommet.Own w0 w Ps) (hA : AlcIs Ps kv kI kB kA g a b c XI XB XA xs L)
  (htab : Lib.TabIs Tryz.prog w0 "math/bits.deBruijn64tab" .u8 tab) (hc : ClrR (mbit xs L (272 + 208 * a)) c (n : Int) true) (hn : n < c) (hP : 280 + 208 * a + 16 * b + 8 * n = P) (hl : L.length ≤ 80) (h3 : kv ≠ kA) :
  Calls Tryz.prog 127 #[.pointer (some ⟨XA, 0, none⟩)] w fun e w' => ∃ q, e = .returned (.tuple #[.int .i64 (n : Int), .int .i64 0]) ∧ Grommet.Own w0 w' (Ps.set kv (viewP g xs (zeroL xs P (setMI xs L (272 + 208 * a) c (n : Int) true) 8)) ++ [rowP 3 1 (.slice (some ⟨q, 0, none⟩) 8 8) 8 (rowW P 8)]) := by
 have hmN := mayN hA.may
 have hfits := hA.fits
 have HC := Lib.hid (MClearH kv kB XB g (272 + 208 * a) c xs L w0 w Ps h hA.view hA.mb hA.okB htab (n : Int) true hc)
 have HW := Lib.hid (fun wx hO => words_H kv kI kB kA g a b c XI XB XA n P xs L w0 wx Ps hO hA hn hP)
 have HT := Lib.hid (fun q wx hO => take_some kv kB Ps.length XB XA kA g (272 + 208 * a) c n P q a b c XI XB xs L w0 wx (Ps ++ [rowP 3 1 (.slice (some ⟨q, 0, none⟩) 8 8) 8 (rowW P 8)]) hO (more_at _ hA.view) (more_at _ hA.mb) (more_at _ hA.al) hA.okB (by simp) (by have := (List.getElem?_eq_some_iff.1 hA.view).1; omega) h3 hl (by omega) htab hc hn)
 have Hv := Lib.hid hA.view
 have Hal := Lib.hid hA.al
 have HO := Lib.hid h
 obtain ⟨L', eL⟩ : ∃ L', zeroL xs P (setMI xs L (272 + 208 * a) c (n : Int) true) 8 = L' := ⟨_, rfl⟩
 rw [eL] at HT ⊢
 obtain ⟨c0, c1, c2, c3, c4, c5⟩ := (AS.of h hA.al).cells
 have Hne := Lib.hid h3
 clear h hA htab hc hP hl hmN hfits eL c0 c1 c2 c3 c4 h3
 go_enter Tryz.func127, Tryz.ntmps127
 go_wp2_with fail
 refine HC.out.mono ?_
 rintro e w1 ⟨rfl, hg⟩
 have hO1 := HO.out.quiet (grown_drew hg)
 have HW1 := Lib.hid (HW.out _ hO1)
 clear HC HO hg c5 HW
 go_wp2_with fail
 obtain ⟨hB, k0, k4, k5⟩ := AB.all (AB.of hO1 Hal.out)
 clear hO1
 go_region_held (fun w' => AB XA g a b c XI XB w' ∧ w'.cell? ⟨XA, 0, none⟩ = some (.pointer (some ⟨g, 0, none⟩)) ∧ w'.cell? ⟨XA, 4, none⟩ = some (.pointer (some ⟨XI, 0, none⟩)) ∧ w'.cell? ⟨XA, 5, none⟩ = some (.pointer (some ⟨XB, 0, none⟩))) ((apply AB.all; assumption)) (first | (go_at_call 139; refine HW1.out.mono ?_; rintro e w3 ⟨q, rfl, hO3⟩; obtain ⟨hB, k0, k4, k5⟩ := AB.all (AB.of hO3 (more_at _ Hal.out))) | (go_at_call 138; refine (HT.out _ _ hO3).mono ?_; rintro e w4 ⟨rfl, hO4⟩; obtain ⟨hB, k0, k4, k5⟩ := AB.all (AB.of hO4 (set_same_at _ _ (more_at _ Hal.out) Hne.out))))
 clear hB k0 k4 k5 HW1 HT hO3
 rw [set_more _ _ Hv.out] at hO4
 have hO4 := Lib.hid hO4
 go_wp2
 go_ret2
 exact ⟨q, rfl, hO4.out⟩
end Go.Proofs.YtfljlmmiiccooaaGreatDoor
end
section
namespace Go.Proofs.YtfljlmmiiccooaaGreatDoor
open Go.RowKit Go.Grommet
def bmC (g a b c n : Nat) : Array Value := #[.pointer (some ⟨g, 0, none⟩), .int .i64 (a : Int), .int .i64 (b : Int), .int .i64 (c : Int), .int .i64 (n : Int)]
def bmP (XM g a b c n : Nat) : Pr := boxP XM 161 (bmC g a b c n)
structure BM (XM g a b c n : Nat) (w : World) : Prop where
 box : w.heap[XM]? = some (.cells #[.pointer (some ⟨g, 0, none⟩), .int .i64 (a : Int), .int .i64 (b : Int), .int .i64 (c : Int), .int .i64 (n : Int)] 161 (0, 0))
theorem BM.cells {XM g a b c n : Nat} {w : World} (h : BM XM g a b c n w) : w.cell? ⟨XM, 0, none⟩ = some (.pointer (some ⟨g, 0, none⟩)) ∧ w.cell? ⟨XM, 1, none⟩ = some (.int .i64 (a : Int)) ∧ w.cell? ⟨XM, 2, none⟩ = some (.int .i64 (b : Int)) ∧ w.cell? ⟨XM, 3, none⟩ = some (.int .i64 (c : Int)) ∧ w.cell? ⟨XM, 4, none⟩ = some (.int .i64 (n : Int)) := by
 simp [World.cell?, h.box]
theorem BM.grown {XM g a b c n : Nat} {w w' : World} (h : BM XM g a b c n w) (hg : w.grownBy w' none) : BM XM g a b c n w' :=
 ⟨(hg.block _ (Array.getElem?_eq_some_iff.1 h.box).1 (by simp)).trans h.box⟩
theorem BM.drew {XM g a b c n : Nat} {w : World} (h : BM XM g a b c n w) : BM XM g a b c n w.drew := h.grown (grown_drew (World.grownBy.refl _ _))
theorem BM.of {XM g a b c n k : Nat} {w0 w : World} {Ps : List Pr} (h : Grommet.Own w0 w Ps) (hk : Ps[k]? = some (bmP XM g a b c n)) : BM XM g a b c n w := ⟨h.box k hk⟩
theorem bmOwn (XM g a b c n A : Nat) (k : Int) (w : World) (h : BM XM g a b c n w) (hA : inodeV (a : Int) (b : Int) (c : Int) (n : Int) = (A : Int)) (hAl : A ≤ 1000000) (hk : 0 ≤ k ∧ k ≤ 1000) :
  Calls Tryz.prog 95 #[.pointer (some ⟨XM, 0, none⟩), .int .i64 k] w fun e w' => e = .returned (.int .i64 ((A : Int) + k)) ∧ w.grownBy w' none := by
 have HI := Lib.hid (fun wx => InodeAt_any (a : Int) (b : Int) (c : Int) (n : Int) wx)
 rw [hA] at HI
 have wk : IntKind.i64.wrap ((A : Int) + k) = (A : Int) + k := IntWalk.i64_in _ ⟨by omega, by omega⟩
 unfold gv at HI
 have hS0 := Lib.hid (And.intro h.drew (grown_drew (World.grownBy.refl w none)))
 clear h hA hAl hk
 go_enter Tryz.func95, Tryz.ntmps95
 go_wp2_with fail
 refine wp_region_held_drew (S := fun w' => BM XM g a b c n w' ∧ w.grownBy w' none) (by kernel_rfl) (hS0.out) (fun hS => ?_)
 refine wpAnyH_take (i := 0) (oi := ⟨some 5, .move (.tmp 0), 82, "blocks.go:59", #[], none⟩) (v := ?vow95r1o0) rfl (by kernel_rfl) (by kernel_rfl) (by kernel_rfl) (fun _ _ _ h => h) (Or.inl ⟨by rfl, ?how95r1o0⟩) hS ?_
 case how95r1o0 => (intro wx hx; skip; go_simp; (try with_reducible rfl))
 try simp only [Act.put, List.setIfInBounds_toArray, List.set_cons_zero, List.set_cons_succ]
 refine wpAnyH_take (i := 1) (oi := ⟨some 6, .nilCheck (.tmp 5), 0, "blocks.go:59", #[⟨0, .data⟩], none⟩) (v := ?vow95r1o1) rfl (by kernel_rfl) (by kernel_rfl) (by kernel_rfl) (fun _ _ _ h => h) (Or.inl ⟨by rfl, ?how95r1o1⟩) hS ?_
 case how95r1o1 => (intro wx hx; skip; go_simp; (try with_reducible rfl))
 try simp only [Act.put, List.setIfInBounds_toArray, List.set_cons_zero, List.set_cons_succ]
 refine wpAnyH_take (i := 2) (oi := ⟨some 7, .fieldAddr 161 (.tmp 6) 1, 0, "blocks.go:59", #[⟨1, .data⟩], none⟩) (v := ?vow95r1o2) rfl (by kernel_rfl) (by kernel_rfl) (by kernel_rfl) (fun _ _ _ h => h) (Or.inl ⟨by rfl, ?how95r1o2⟩) hS ?_
 case how95r1o2 => (intro wx hx; skip; go_simp; (try with_reducible rfl))
 try simp only [Act.put, List.setIfInBounds_toArray, List.set_cons_zero, List.set_cons_succ]
 refine wpAnyH_take (i := 3) (oi := ⟨some 8, .load 23 (.tmp 7), 23, "blocks.go:59", #[⟨2, .data⟩], none⟩) (v := ?vow95r1o3) rfl (by kernel_rfl) (by kernel_rfl) (by kernel_rfl) (fun _ _ _ h => h) (Or.inl ⟨by rfl, ?how95r1o3⟩) hS ?_
 case how95r1o3 => (intro wx hx; obtain ⟨c0, c1, c2, c3, c4⟩ := BM.cells hx.1; go_simp; (try with_reducible rfl))
 try simp only [Act.put, List.setIfInBounds_toArray, List.set_cons_zero, List.set_cons_succ]
 refine wpAnyH_take (i := 4) (oi := ⟨some 9, .move (.tmp 0), 82, "blocks.go:59", #[], none⟩) (v := ?vow95r1o4) rfl (by kernel_rfl) (by kernel_rfl) (by kernel_rfl) (fun _ _ _ h => h) (Or.inl ⟨by rfl, ?how95r1o4⟩) hS ?_
 case how95r1o4 => (intro wx hx; skip; go_simp; (try with_reducible rfl))
 try simp only [Act.put, List.setIfInBounds_toArray, List.set_cons_zero, List.set_cons_succ]
 refine wpAnyH_take (i := 5) (oi := ⟨some 10, .nilCheck (.tmp 9), 0, "blocks.go:59", #[⟨4, .data⟩], none⟩) (v := ?vow95r1o5) rfl (by kernel_rfl) (by kernel_rfl) (by kernel_rfl) (fun _ _ _ h => h) (Or.inl ⟨by rfl, ?how95r1o5⟩) hS ?_
 case how95r1o5 => (intro wx hx; skip; go_simp; (try with_reducible rfl))
 try simp only [Act.put, List.setIfInBounds_toArray, List.set_cons_zero, List.set_cons_succ]
 refine wpAnyH_take (i := 6) (oi := ⟨some 11, .fieldAddr 161 (.tmp 10) 2, 0, "blocks.go:59", #[⟨5, .data⟩], none⟩) (v := ?vow95r1o6) rfl (by kernel_rfl) (by kernel_rfl) (by kernel_rfl) (fun _ _ _ h => h) (Or.inl ⟨by rfl, ?how95r1o6⟩) hS ?_
 case how95r1o6 => (intro wx hx; skip; go_simp; (try with_reducible rfl))
 try simp only [Act.put, List.setIfInBounds_toArray, List.set_cons_zero, List.set_cons_succ]
 refine wpAnyH_take (i := 7) (oi := ⟨some 12, .load 3 (.tmp 11), 3, "blocks.go:59", #[⟨6, .data⟩], none⟩) (v := ?vow95r1o7) rfl (by kernel_rfl) (by kernel_rfl) (by kernel_rfl) (fun _ _ _ h => h) (Or.inl ⟨by rfl, ?how95r1o7⟩) hS ?_
 case how95r1o7 => (intro wx hx; obtain ⟨c0, c1, c2, c3, c4⟩ := BM.cells hx.1; go_simp; (try with_reducible rfl))
 try simp only [Act.put, List.setIfInBounds_toArray, List.set_cons_zero, List.set_cons_succ]
 refine wpAnyH_take (i := 9) (oi := ⟨some 14, .move (.tmp 1), 3, "blocks.go:59", #[], none⟩) (v := ?vow95r1o9) rfl (by kernel_rfl) (by kernel_rfl) (by kernel_rfl) (fun _ _ _ h => h) (Or.inl ⟨by rfl, ?how95r1o9⟩) hS ?_
 case how95r1o9 => (intro wx hx; skip; go_simp; (try with_reducible rfl))
 try simp only [Act.put, List.setIfInBounds_toArray, List.set_cons_zero, List.set_cons_succ]
 refine wpAnyH_ready (rs := [8]) (by kernel_rfl) (by simp) ?_
 refine AllReadyH.cons (o := ⟨some 13, .call { callee := Callee.value (Operand.func 103), args := #[.tmp 8, .tmp 12], argTypes := #[23, 3] }, 3, "blocks.go:59", #[⟨3, .data⟩, ⟨7, .data⟩], none⟩) rfl (fun K hK => ?_) AllReadyH.nil
 go_simp
 refine (HI.out _).mono ?_
 rintro e wA ⟨rfl, hgA⟩
 have hS1 : BM XM g a b c n wA ∧ w.grownBy wA none := ⟨hS.1.grown hgA, grown_trans hS.2 hgA⟩
 refine hK.out _ _ ?hsow95r1o8 (fun hS => ?_)
 case hsow95r1o8 => (exact hS1)
 clear hK K
 try simp only [Act.put, List.setIfInBounds_toArray, List.set_cons_zero, List.set_cons_succ]
 refine wpAnyH_take (i := 10) (oi := ⟨some 15, .binOp BinOp.add 3 (.tmp 13) (.tmp 14) 3, 3, "blocks.go:59", #[⟨8, .data⟩, ⟨9, .data⟩], none⟩) (v := ?vow95r1o10) rfl (by kernel_rfl) (by kernel_rfl) (by kernel_rfl) (fun _ _ _ h => h) (Or.inl ⟨by rfl, ?how95r1o10⟩) hS ?_
 case how95r1o10 => (intro wx hx; skip; go_simp; (try with_reducible rfl))
 try simp only [Act.put, List.setIfInBounds_toArray, List.set_cons_zero, List.set_cons_succ]
 refine wpAnyH_take (i := 11) (oi := ⟨some 4, .assign (.tmp 15), 3, "blocks.go:59", #[⟨10, .data⟩, ⟨8, .chain⟩, ⟨0, .phase⟩, ⟨1, .phase⟩, ⟨2, .phase⟩, ⟨3, .phase⟩, ⟨4, .phase⟩, ⟨5, .phase⟩, ⟨6, .phase⟩, ⟨7, .phase⟩, ⟨8, .phase⟩, ⟨9, .phase⟩, ⟨10, .phase⟩], none⟩) (v := ?vow95r1o11) rfl (by kernel_rfl) (by kernel_rfl) (by kernel_rfl) (fun _ _ _ h => h) (Or.inl ⟨by rfl, ?how95r1o11⟩) hS ?_
 case how95r1o11 => (intro wx hx; skip; go_simp; (try with_reducible rfl))
 try simp only [Act.put, List.setIfInBounds_toArray, List.set_cons_zero, List.set_cons_succ]
 refine wpAnyH_done (by kernel_rfl) ?_ _
 have hgE := Lib.hid hS.2
 clear hS hS0
 go_wp2
 go_ret
 exact ⟨rfl, hgE.out⟩
theorem bmDirect (XM g a b c n A : Nat) (k : Int) (f0 f1 f2 f3 f4 f5 f6 f7 f8 f9 : Nat) (w : World) (h : BM XM g a b c n w) (hA : inodeV (a : Int) (b : Int) (c : Int) (n : Int) = (A : Int)) (hAl : A ≤ 1000000) (hk : 0 ≤ k ∧ k ≤ 900) :
  Calls Tryz.prog 115 #[.pointer (some ⟨XM, 0, none⟩), nv f0 f1 f2 f3 f4 f5 f6 f7 f8 f9, .int .i64 k] w fun e w' => e = .returned (.int .i64 ((A : Int) + (4 + k))) ∧ w.grownBy w' none := by
 have HW := Lib.hid (fun wx hB => bmOwn XM g a b c n A (4 + k) wx hB hA hAl ⟨by omega, by omega⟩)
 have wk : IntKind.i64.wrap (4 + k) = 4 + k := IntWalk.i64_in _ ⟨by omega, by omega⟩
 obtain ⟨K, hK⟩ : ∃ K, (4 : Int) + k = K := ⟨_, rfl⟩
 rw [hK] at HW wk ⊢
 unfold nv
 have hB := Lib.hid (h.grown (World.grownBy_alloc w (.cells #[.int .u64 (f0 : Int), .int .u64 (f1 : Int), .int .u64 (f2 : Int), .int .u64 (f3 : Int), .int .u64 (f4 : Int), .int .u64 (f5 : Int), .int .u64 (f6 : Int), .int .u64 (f7 : Int), .int .u64 (f8 : Int), .int .u64 (f9 : Int)] 133) none))
 have hg0 := Lib.hid (World.grownBy_alloc w (.cells #[.int .u64 (f0 : Int), .int .u64 (f1 : Int), .int .u64 (f2 : Int), .int .u64 (f3 : Int), .int .u64 (f4 : Int), .int .u64 (f5 : Int), .int .u64 (f6 : Int), .int .u64 (f7 : Int), .int .u64 (f8 : Int), .int .u64 (f9 : Int)] 133) none)
 clear h hA hAl hk
 go_enter Tryz.func115, Tryz.ntmps115
 go_wp2_with fail
 refine (HW.out _ hB.out).mono ?_
 rintro e w1 ⟨rfl, hg1⟩
 have hgE := Lib.hid (grown_trans hg0.out hg1)
 clear hg1 HW hB hg0
 go_wp2
 go_ret
 exact ⟨rfl, hgE.out⟩
def NodeAt (N f0 f1 f2 f3 f4 f5 f6 f7 f8 f9 : Nat) (w : World) : Prop := w.heap[N]? = some (.cells #[.int .u64 (f0 : Int), .int .u64 (f1 : Int), .int .u64 (f2 : Int), .int .u64 (f3 : Int), .int .u64 (f4 : Int), .int .u64 (f5 : Int), .int .u64 (f6 : Int), .int .u64 (f7 : Int), .int .u64 (f8 : Int), .int .u64 (f9 : Int)] 133 (0, 0))
theorem NodeAt.chain {N f0 f1 f2 f3 f4 f5 f6 f7 f8 f9 : Nat} {w : World} (h : NodeAt N f0 f1 f2 f3 f4 f5 f6 f7 f8 f9 w) : w.cell? ⟨N, 8, none⟩ = some (.int .u64 (f8 : Int)) := by
 unfold NodeAt at h
 simp [World.cell?, h]
theorem NodeAt.keep {N f0 f1 f2 f3 f4 f5 f6 f7 f8 f9 : Nat} {w w' : World} (h : NodeAt N f0 f1 f2 f3 f4 f5 f6 f7 f8 f9 w) (hg : w.grownBy w' none) : NodeAt N f0 f1 f2 f3 f4 f5 f6 f7 f8 f9 w' := (hg.block _ (Array.getElem?_eq_some_iff.1 h).1 (by simp)).trans h
theorem bmChained0 (XM : Nat) (k : Int) (f0 f1 f2 f3 f4 f5 f6 f7 f9 : Nat) (w : World) :
  Calls Tryz.prog 111 #[.pointer (some ⟨XM, 0, none⟩), nv f0 f1 f2 f3 f4 f5 f6 f7 0 f9, .int .i64 k] w fun e w' => e = .returned (.int .i64 (-1)) ∧ w.grownBy w' none := by
 have hN0 : NodeAt w.heap.size f0 f1 f2 f3 f4 f5 f6 f7 0 f9 (w.alloc (.cells #[.int .u64 (f0 : Int), .int .u64 (f1 : Int), .int .u64 (f2 : Int), .int .u64 (f3 : Int), .int .u64 (f4 : Int), .int .u64 (f5 : Int), .int .u64 (f6 : Int), .int .u64 (f7 : Int), .int .u64 ((0 : Nat) : Int), .int .u64 (f9 : Int)] 133)) := heap_alloc_new w _
 have c0 := hN0.chain
 have hg0 := Lib.hid (World.grownBy_alloc w (.cells #[.int .u64 (f0 : Int), .int .u64 (f1 : Int), .int .u64 (f2 : Int), .int .u64 (f3 : Int), .int .u64 (f4 : Int), .int .u64 (f5 : Int), .int .u64 (f6 : Int), .int .u64 (f7 : Int), .int .u64 ((0 : Nat) : Int), .int .u64 (f9 : Int)] 133) none)
 unfold nv
 have z0 : ((0 : Nat) : Int) = 0 := rfl
 rw [z0] at c0 hg0 ⊢
 clear hN0
 go_enter Tryz.func111, Tryz.ntmps111
 go_wp2
 go_ret
 exact ⟨rfl, hg0.out⟩
theorem bmChained (XM g a b c n P : Nat) (k : Int) (f0 f1 f2 f3 f4 f5 f6 f7 f8 f9 : Nat) (w : World) (h : BM XM g a b c n w) (hf : f8 ≠ 0) (hfl : f8 < 18446744073709551616) (hP : blockV (a : Int) (b : Int) (c : Int) (f8 : Int) = (P : Int)) (hPl : P ≤ 1000000) (hfs : f8 ≤ 1000000) (hk : 0 ≤ k ∧ k ≤ 900) :
  Calls Tryz.prog 111 #[.pointer (some ⟨XM, 0, none⟩), nv f0 f1 f2 f3 f4 f5 f6 f7 f8 f9, .int .i64 k] w fun e w' => e = .returned (.int .i64 ((P : Int) + k - 4)) ∧ w.grownBy w' none := by
 have HI := Lib.hid (fun wx => BlockAt_any (a : Int) (b : Int) (c : Int) (f8 : Int) wx)
 rw [hP] at HI
 unfold gv at HI
 have w1 : IntKind.i64.wrap ((P : Int) + k) = (P : Int) + k := IntWalk.i64_in _ ⟨by omega, by omega⟩
 have w2 : IntKind.i64.wrap ((P : Int) + k - 4) = (P : Int) + k - 4 := IntWalk.i64_in _ ⟨by omega, by omega⟩
 have w3 : IntKind.i64.wrap (f8 : Int) = (f8 : Int) := IntWalk.i64_in _ ⟨by omega, by omega⟩
 have e3 : ((f8 : Int) == 0) = false := by simpa using hf
 have w4 : ¬ (f8 : Int) = 0 := by omega
 obtain ⟨N, hN⟩ : ∃ N, w.heap.size = N := ⟨_, rfl⟩
 have hN0 : NodeAt N f0 f1 f2 f3 f4 f5 f6 f7 f8 f9 (w.alloc (.cells #[.int .u64 (f0 : Int), .int .u64 (f1 : Int), .int .u64 (f2 : Int), .int .u64 (f3 : Int), .int .u64 (f4 : Int), .int .u64 (f5 : Int), .int .u64 (f6 : Int), .int .u64 (f7 : Int), .int .u64 (f8 : Int), .int .u64 (f9 : Int)] 133)) := by rw [← hN]; exact heap_alloc_new w _
 have hg0 := World.grownBy_alloc w (.cells #[.int .u64 (f0 : Int), .int .u64 (f1 : Int), .int .u64 (f2 : Int), .int .u64 (f3 : Int), .int .u64 (f4 : Int), .int .u64 (f5 : Int), .int .u64 (f6 : Int), .int .u64 (f7 : Int), .int .u64 (f8 : Int), .int .u64 (f9 : Int)] 133) none
 have hB := h.grown hg0
 obtain ⟨wb, hwb⟩ : ∃ wb, w.alloc (.cells #[.int .u64 (f0 : Int), .int .u64 (f1 : Int), .int .u64 (f2 : Int), .int .u64 (f3 : Int), .int .u64 (f4 : Int), .int .u64 (f5 : Int), .int .u64 (f6 : Int), .int .u64 (f7 : Int), .int .u64 (f8 : Int), .int .u64 (f9 : Int)] 133) = wb := ⟨_, rfl⟩
 rw [hwb] at hN0 hg0 hB
 have c0 := hN0.chain
 have hS0 := Lib.hid (And.intro hB.drew (And.intro (hN0.keep (grown_drew (World.grownBy.refl wb none))) (grown_drew hg0)))
 unfold nv
 clear h hf hfl hP hPl hfs hk hB hg0 hN0
 go_enter Tryz.func111, Tryz.ntmps111
 go_wp2_with fail
 try rw [hwb]
 try rw [hN]
 go_wp2_with fail
 refine wp_region_held_drew (S := fun w' => BM XM g a b c n w' ∧ NodeAt N f0 f1 f2 f3 f4 f5 f6 f7 f8 f9 w' ∧ w.grownBy w' none) (by kernel_rfl) (hS0.out) (fun hS => ?_)
 refine wpAnyH_take (i := 0) (oi := ⟨some 10, .move (.tmp 0), 82, "blocks.go:54", #[], none⟩) (v := ?vch111r3o0) rfl (by kernel_rfl) (by kernel_rfl) (by kernel_rfl) (fun _ _ _ h => h) (Or.inl ⟨by rfl, ?hch111r3o0⟩) hS ?_
 case hch111r3o0 => (intro wx hx; skip; go_simp; (try with_reducible rfl))
 try simp only [Act.put, List.setIfInBounds_toArray, List.set_cons_zero, List.set_cons_succ]
 refine wpAnyH_take (i := 1) (oi := ⟨some 11, .nilCheck (.tmp 10), 0, "blocks.go:54", #[⟨0, .data⟩], none⟩) (v := ?vch111r3o1) rfl (by kernel_rfl) (by kernel_rfl) (by kernel_rfl) (fun _ _ _ h => h) (Or.inl ⟨by rfl, ?hch111r3o1⟩) hS ?_
 case hch111r3o1 => (intro wx hx; skip; go_simp; (try with_reducible rfl))
 try simp only [Act.put, List.setIfInBounds_toArray, List.set_cons_zero, List.set_cons_succ]
 refine wpAnyH_take (i := 2) (oi := ⟨some 12, .fieldAddr 161 (.tmp 11) 1, 0, "blocks.go:54", #[⟨1, .data⟩], none⟩) (v := ?vch111r3o2) rfl (by kernel_rfl) (by kernel_rfl) (by kernel_rfl) (fun _ _ _ h => h) (Or.inl ⟨by rfl, ?hch111r3o2⟩) hS ?_
 case hch111r3o2 => (intro wx hx; skip; go_simp; (try with_reducible rfl))
 try simp only [Act.put, List.setIfInBounds_toArray, List.set_cons_zero, List.set_cons_succ]
 refine wpAnyH_take (i := 3) (oi := ⟨some 13, .load 23 (.tmp 12), 23, "blocks.go:54", #[⟨2, .data⟩], none⟩) (v := ?vch111r3o3) rfl (by kernel_rfl) (by kernel_rfl) (by kernel_rfl) (fun _ _ _ h => h) (Or.inl ⟨by rfl, ?hch111r3o3⟩) hS ?_
 case hch111r3o3 => (intro wx hx; obtain ⟨c0, c1, c2, c3, c4⟩ := BM.cells hx.1; have c5 := NodeAt.chain hx.2.1; go_simp; (try with_reducible rfl))
 try simp only [Act.put, List.setIfInBounds_toArray, List.set_cons_zero, List.set_cons_succ]
 refine wpAnyH_take (i := 4) (oi := ⟨some 14, .fieldAddr 133 (.tmp 4) 5, 0, "blocks.go:54", #[], none⟩) (v := ?vch111r3o4) rfl (by kernel_rfl) (by kernel_rfl) (by kernel_rfl) (fun _ _ _ h => h) (Or.inl ⟨by rfl, ?hch111r3o4⟩) hS ?_
 case hch111r3o4 => (intro wx hx; skip; go_simp; (try with_reducible rfl))
 try simp only [Act.put, List.setIfInBounds_toArray, List.set_cons_zero, List.set_cons_succ]
 refine wpAnyH_take (i := 5) (oi := ⟨some 15, .load 72 (.tmp 14), 72, "blocks.go:54", #[⟨4, .data⟩], none⟩) (v := ?vch111r3o5) rfl (by kernel_rfl) (by kernel_rfl) (by kernel_rfl) (fun _ _ _ h => h) (Or.inl ⟨by rfl, ?hch111r3o5⟩) hS ?_
 case hch111r3o5 => (intro wx hx; obtain ⟨c0, c1, c2, c3, c4⟩ := BM.cells hx.1; have c5 := NodeAt.chain hx.2.1; go_simp; (try with_reducible rfl))
 try simp only [Act.put, List.setIfInBounds_toArray, List.set_cons_zero, List.set_cons_succ]
 refine wpAnyH_take (i := 6) (oi := ⟨some 16, .convert 72 3 (.tmp 15), 3, "blocks.go:54", #[⟨5, .data⟩], none⟩) (v := ?vch111r3o6) rfl (by kernel_rfl) (by kernel_rfl) (by kernel_rfl) (fun _ _ _ h => h) (Or.inl ⟨by rfl, ?hch111r3o6⟩) hS ?_
 case hch111r3o6 => (intro wx hx; obtain ⟨c0, c1, c2, c3, c4⟩ := BM.cells hx.1; have c5 := NodeAt.chain hx.2.1; go_simp; (try with_reducible rfl))
 try simp only [Act.put, List.setIfInBounds_toArray, List.set_cons_zero, List.set_cons_succ]
 refine wpAnyH_take (i := 8) (oi := ⟨some 18, .move (.tmp 2), 3, "blocks.go:54", #[], none⟩) (v := ?vch111r3o8) rfl (by kernel_rfl) (by kernel_rfl) (by kernel_rfl) (fun _ _ _ h => h) (Or.inl ⟨by rfl, ?hch111r3o8⟩) hS ?_
 case hch111r3o8 => (intro wx hx; skip; go_simp; (try with_reducible rfl))
 try simp only [Act.put, List.setIfInBounds_toArray, List.set_cons_zero, List.set_cons_succ]
 refine wpAnyH_ready (rs := [7]) (by kernel_rfl) (by simp) ?_
 refine AllReadyH.cons (o := ⟨some 17, .call { callee := Callee.value (Operand.func 54), args := #[.tmp 13, .tmp 16], argTypes := #[23, 3] }, 3, "blocks.go:54", #[⟨3, .data⟩, ⟨6, .data⟩], none⟩) rfl (fun K hK => ?_) AllReadyH.nil
 go_simp
 refine (HI.out _).mono ?_
 rintro e wA ⟨rfl, hgA⟩
 have hS1 : BM XM g a b c n wA ∧ NodeAt N f0 f1 f2 f3 f4 f5 f6 f7 f8 f9 wA ∧ w.grownBy wA none := ⟨hS.1.grown hgA, hS.2.1.keep hgA, grown_trans hS.2.2 hgA⟩
 refine hK.out _ _ ?hsch111r3o7 (fun hS => ?_)
 case hsch111r3o7 => (exact hS1)
 clear hK K
 try simp only [Act.put, List.setIfInBounds_toArray, List.set_cons_zero, List.set_cons_succ]
 refine wpAnyH_take (i := 9) (oi := ⟨some 19, .binOp BinOp.add 3 (.tmp 17) (.tmp 18) 3, 3, "blocks.go:54", #[⟨7, .data⟩, ⟨8, .data⟩], none⟩) (v := ?vch111r3o9) rfl (by kernel_rfl) (by kernel_rfl) (by kernel_rfl) (fun _ _ _ h => h) (Or.inl ⟨by rfl, ?hch111r3o9⟩) hS ?_
 case hch111r3o9 => (intro wx hx; skip; go_simp; (try with_reducible rfl))
 try simp only [Act.put, List.setIfInBounds_toArray, List.set_cons_zero, List.set_cons_succ]
 refine wpAnyH_take (i := 10) (oi := ⟨some 20, .binOp BinOp.sub 3 (.tmp 19) (Operand.const (Value.int IntKind.i64 4)) 3, 3, "blocks.go:54", #[⟨9, .data⟩], none⟩) (v := ?vch111r3o10) rfl (by kernel_rfl) (by kernel_rfl) (by kernel_rfl) (fun _ _ _ h => h) (Or.inl ⟨by rfl, ?hch111r3o10⟩) hS ?_
 case hch111r3o10 => (intro wx hx; skip; go_simp; (try with_reducible rfl))
 try simp only [Act.put, List.setIfInBounds_toArray, List.set_cons_zero, List.set_cons_succ]
 refine wpAnyH_take (i := 11) (oi := ⟨some 6, .assign (.tmp 20), 3, "blocks.go:54", #[⟨10, .data⟩, ⟨7, .chain⟩, ⟨0, .phase⟩, ⟨1, .phase⟩, ⟨2, .phase⟩, ⟨3, .phase⟩, ⟨4, .phase⟩, ⟨5, .phase⟩, ⟨6, .phase⟩, ⟨7, .phase⟩, ⟨8, .phase⟩, ⟨9, .phase⟩, ⟨10, .phase⟩], none⟩) (v := ?vch111r3o11) rfl (by kernel_rfl) (by kernel_rfl) (by kernel_rfl) (fun _ _ _ h => h) (Or.inl ⟨by rfl, ?hch111r3o11⟩) hS ?_
 case hch111r3o11 => (intro wx hx; skip; go_simp; (try with_reducible rfl))
 try simp only [Act.put, List.setIfInBounds_toArray, List.set_cons_zero, List.set_cons_succ]
 refine wpAnyH_done (by kernel_rfl) ?_ _
 have hgE := Lib.hid hS.2.2
 clear hS hS0
 go_wp2
 go_ret
 exact ⟨rfl, hgE.out⟩
end Go.Proofs.YtfljlmmiiccooaaGreatDoor
end
section
namespace Go.Proofs.YtfljlmmiiccooaaGreatDoor
open Go.RowKit Go.Grommet
set_option linter.unusedVariables false
theorem node_zero {w0 w : World} {Ps : List Pr} {N : Nat} (h : Grommet.Own w0 w (Ps ++ [boxP N 133 #[.int .u64 0, .int .u64 0, .int .u64 0, .int .u64 0, .int .u64 0, .int .u64 0, .int .u64 0, .int .u64 0, .int .u64 0, .int .u64 0]])) : (w.cell? ⟨N, 0, none⟩ = some (.int .u64 0) ∧ w.cell? ⟨N, 1, none⟩ = some (.int .u64 0) ∧ w.cell? ⟨N, 2, none⟩ = some (.int .u64 0) ∧ w.cell? ⟨N, 3, none⟩ = some (.int .u64 0) ∧ w.cell? ⟨N, 4, none⟩ = some (.int .u64 0) ∧ w.cell? ⟨N, 5, none⟩ = some (.int .u64 0) ∧ w.cell? ⟨N, 6, none⟩ = some (.int .u64 0) ∧ w.cell? ⟨N, 7, none⟩ = some (.int .u64 0) ∧ w.cell? ⟨N, 8, none⟩ = some (.int .u64 0) ∧ w.cell? ⟨N, 9, none⟩ = some (.int .u64 0)) ∧ w.frozen? ⟨N, 0, none⟩ = false ∧ w.frozen? ⟨N, 1, none⟩ = false ∧ w.frozen? ⟨N, 2, none⟩ = false ∧ w.frozen? ⟨N, 3, none⟩ = false ∧ w.frozen? ⟨N, 4, none⟩ = false ∧ w.frozen? ⟨N, 5, none⟩ = false ∧ w.frozen? ⟨N, 6, none⟩ = false ∧ w.frozen? ⟨N, 7, none⟩ = false ∧ w.frozen? ⟨N, 8, none⟩ = false ∧ w.frozen? ⟨N, 9, none⟩ = false := by
 have hb := h.box Ps.length (by rw [List.getElem?_append_right (Nat.le_refl _), Nat.sub_self]; rfl)
 refine ⟨⟨?_, ?_, ?_, ?_, ?_, ?_, ?_, ?_, ?_, ?_⟩, ?_, ?_, ?_, ?_, ?_, ?_, ?_, ?_, ?_, ?_⟩ <;> simp [World.cell?, World.frozen?, hb]
theorem node_have {w0 w : World} {Ps : List Pr} {N f0 f1 f2 f3 f4 f5 f6 f7 f8 f9 : Nat} (h : Grommet.Own w0 w (Ps ++ [boxP N 133 #[.int .u64 (f0 : Int), .int .u64 (f1 : Int), .int .u64 (f2 : Int), .int .u64 (f3 : Int), .int .u64 (f4 : Int), .int .u64 (f5 : Int), .int .u64 (f6 : Int), .int .u64 (f7 : Int), .int .u64 (f8 : Int), .int .u64 (f9 : Int)]])) : w.cell? ⟨N, 0, none⟩ = some (.int .u64 (f0 : Int)) ∧ w.cell? ⟨N, 1, none⟩ = some (.int .u64 (f1 : Int)) ∧ w.cell? ⟨N, 2, none⟩ = some (.int .u64 (f2 : Int)) ∧ w.cell? ⟨N, 3, none⟩ = some (.int .u64 (f3 : Int)) ∧ w.cell? ⟨N, 4, none⟩ = some (.int .u64 (f4 : Int)) ∧ w.cell? ⟨N, 5, none⟩ = some (.int .u64 (f5 : Int)) ∧ w.cell? ⟨N, 6, none⟩ = some (.int .u64 (f6 : Int)) ∧ w.cell? ⟨N, 7, none⟩ = some (.int .u64 (f7 : Int)) ∧ w.cell? ⟨N, 8, none⟩ = some (.int .u64 (f8 : Int)) ∧ w.cell? ⟨N, 9, none⟩ = some (.int .u64 (f9 : Int)) := by
 have hb := h.box Ps.length (by rw [List.getElem?_append_right (Nat.le_refl _), Nat.sub_self]; rfl)
 refine ⟨?_, ?_, ?_, ?_, ?_, ?_, ?_, ?_, ?_, ?_⟩ <;> simp [World.cell?, hb]
theorem put_last {w0 w : World} {Ps : List Pr} {N : Nat} {T : TypeId} {cs : Array Value} (h : Grommet.Own w0 w (Ps ++ [boxP N T cs])) (o : Nat) (u : Value) : Grommet.Own w0 (w.setCell ⟨N, o, none⟩ u) (Ps ++ [boxP N T (cs.setIfInBounds o u)]) := by
 have := h.putBox Ps.length (by rw [List.getElem?_append_right (Nat.le_refl _), Nat.sub_self]; rfl) o u
 rwa [List.set_append_right _ _ (Nat.le_refl _), Nat.sub_self] at this
theorem node_stored {w0 w : World} {Ps : List Pr} {N : Nat} (f0 f1 f2 f3 f4 f5 f6 f7 f8 f9 : Nat) (h : Grommet.Own w0 w (Ps ++ [boxP N 133 #[.int .u64 0, .int .u64 0, .int .u64 0, .int .u64 0, .int .u64 0, .int .u64 0, .int .u64 0, .int .u64 0, .int .u64 0, .int .u64 0]])) : ∃ wn, ((((((((((w.setCell ⟨N, 0, none⟩ (.int .u64 (f0 : Int))).setCell ⟨N, 1, none⟩ (.int .u64 (f1 : Int))).setCell ⟨N, 2, none⟩ (.int .u64 (f2 : Int))).setCell ⟨N, 3, none⟩ (.int .u64 (f3 : Int))).setCell ⟨N, 4, none⟩ (.int .u64 (f4 : Int))).setCell ⟨N, 5, none⟩ (.int .u64 (f5 : Int))).setCell ⟨N, 6, none⟩ (.int .u64 (f6 : Int))).setCell ⟨N, 7, none⟩ (.int .u64 (f7 : Int))).setCell ⟨N, 8, none⟩ (.int .u64 (f8 : Int))).setCell ⟨N, 9, none⟩ (.int .u64 (f9 : Int))) = wn ∧ Grommet.Own w0 wn (Ps ++ [boxP N 133 #[.int .u64 (f0 : Int), .int .u64 (f1 : Int), .int .u64 (f2 : Int), .int .u64 (f3 : Int), .int .u64 (f4 : Int), .int .u64 (f5 : Int), .int .u64 (f6 : Int), .int .u64 (f7 : Int), .int .u64 (f8 : Int), .int .u64 (f9 : Int)]]) := by
 have h1 := put_last h 0 (.int .u64 (f0 : Int))
 have h2 := put_last h1 1 (.int .u64 (f1 : Int))
 have h3 := put_last h2 2 (.int .u64 (f2 : Int))
 have h4 := put_last h3 3 (.int .u64 (f3 : Int))
 have h5 := put_last h4 4 (.int .u64 (f4 : Int))
 have h6 := put_last h5 5 (.int .u64 (f5 : Int))
 have h7 := put_last h6 6 (.int .u64 (f6 : Int))
 have h8 := put_last h7 7 (.int .u64 (f7 : Int))
 have h9 := put_last h8 8 (.int .u64 (f8 : Int))
 have h10 := put_last h9 9 (.int .u64 (f9 : Int))
 simp only [List.setIfInBounds_toArray, List.set_cons_zero, List.set_cons_succ] at h10
 exact ⟨_, rfl, h10⟩
end Go.Proofs.YtfljlmmiiccooaaGreatDoor
end
section
namespace Go.Proofs.YtfljlmmiiccooaaGreatDoor
open Go.RowKit Go.Grommet
set_option linter.unusedVariables false
theorem bmLook_direct (kv km XM g a b c n : Nat) (k : Int) (f0 f1 f2 f3 f4 f5 f6 f7 f8 f9 : Nat) (xs : List Nat) (L : List (Nat × Nat)) (w0 w : World) (Ps : List Pr) (h : Grommet.Own w0 w Ps) (hv : Ps[kv]? = some (viewP g xs L)) (hm : Ps[km]? = some (bmP XM g a b c n)) (A V : Nat) (hA : inodeV (a : Int) (b : Int) (c : Int) (n : Int) = (A : Int)) (hAl : A ≤ 1000000) (hk : 0 ≤ k ∧ k < 4) (hV : gotI xs L ((A : Int) + (4 + k)) = V) (hc : c ≤ 1000000) (hVc : V < c) (HG : ∀ wx Qs, Grommet.Own w0 wx (Ps ++ Qs) → Calls Tryz.prog 73 #[.pointer (some ⟨g, 0, none⟩), gv (a : Int) (b : Int) (c : Int), .int .i64 (n : Int)] wx fun e w' => e = .returned (.tuple #[nv f0 f1 f2 f3 f4 f5 f6 f7 f8 f9, .int .i64 0]) ∧ Grommet.Own w0 w' (Ps ++ Qs)) :
  Calls Tryz.prog 86 #[.pointer (some ⟨XM, 0, none⟩), .int .i64 k] w fun e w' => e = .returned (.tuple #[.int .i64 ((A : Int) + (4 + k)), .int .i64 (V : Int), .int .i64 0]) ∧ Grommet.Own w0 w' Ps := by
 have HB := Lib.hid (show ∀ wx Qs, Grommet.Own w0 wx (Ps ++ Qs) → BM XM g a b c n wx from fun wx Qs hO => BM.of (k := km) hO (by rw [List.getElem?_append_left (List.getElem?_eq_some_iff.1 hm).1]; exact hm))
 have HG := Lib.hid HG
 have hS0 := Lib.hid (BM.of h hm).drew
 have hOr := Lib.hid (show Grommet.Own w0 w.drew (Ps ++ []) by rw [List.append_nil]; exact h.quiet (grown_drew (World.grownBy.refl _ _)))
 have k1 : ¬ k < 0 := by omega
 have k2 : ¬ 12 ≤ k := by omega
 have k3 : ¬ 4 ≤ k := by omega
 have HV := Lib.hid (show ∀ wx Qs, Grommet.Own w0 wx (Ps ++ Qs) → Calls Tryz.prog 88 #[.pointer (some ⟨g, 0, none⟩), .int .i64 ((A : Int) + (4 + k))] wx fun e w' => e = .returned (.int .u64 (V : Int)) ∧ w' = wx from fun wx Qs hO => by rw [← hV]; exact GetH kv g xs L ((A : Int) + (4 + k)) w0 wx _ hO (by rw [List.getElem?_append_left (List.getElem?_eq_some_iff.1 hv).1]; exact hv))
 have wc : IntKind.u64.wrap (c : Int) = (c : Int) := IntWalk.u64_in _ ⟨by omega, by omega⟩
 have wv : IntKind.i64.wrap (V : Int) = (V : Int) := IntWalk.i64_in _ ⟨by omega, by omega⟩
 have HD := Lib.hid (fun wx (hB : BM XM g a b c n wx) => bmDirect XM g a b c n A k f0 f1 f2 f3 f4 f5 f6 f7 f8 f9 wx hB hA hAl ⟨by omega, by omega⟩)
 have n1 : ((A : Int) + (4 + k) == -1) = false := by simp <;> omega
 have n2 : ¬ (A : Int) + (4 + k) = -1 := by omega
 have v1 : ¬ (c : Int) ≤ (V : Int) := by omega
 obtain ⟨T, hT⟩ : ∃ T, (A : Int) + (4 + k) = T := ⟨_, rfl⟩
 rw [hT] at HV HD n1 n2 ⊢
 clear hT h hv hm hA hAl hk hV hc hVc
 unfold nv gv at *
 go_enter Tryz.func86, Tryz.ntmps86
 go_wp2_with fail
 refine wp_region_held_drew (S := fun w' => BM XM g a b c n w') (by kernel_rfl) (hS0.out) (fun hS => ?_)
 refine wpAnyH_take (i := 0) (oi := ⟨some 21, .move (.tmp 0), 82, "blocks.go:70", #[], none⟩) (v := ?vbmLook_direct86r5o0) rfl (by kernel_rfl) (by kernel_rfl) (by kernel_rfl) (fun _ _ _ h => h) (Or.inl ⟨by rfl, ?hbmLook_direct86r5o0⟩) hS ?_
 case hbmLook_direct86r5o0 => (intro wx hx; skip; go_simp; (try with_reducible rfl))
 try simp only [Act.put, List.setIfInBounds_toArray, List.set_cons_zero, List.set_cons_succ]
 refine wpAnyH_take (i := 1) (oi := ⟨some 22, .nilCheck (.tmp 21), 0, "blocks.go:70", #[⟨0, .data⟩], none⟩) (v := ?vbmLook_direct86r5o1) rfl (by kernel_rfl) (by kernel_rfl) (by kernel_rfl) (fun _ _ _ h => h) (Or.inl ⟨by rfl, ?hbmLook_direct86r5o1⟩) hS ?_
 case hbmLook_direct86r5o1 => (intro wx hx; skip; go_simp; (try with_reducible rfl))
 try simp only [Act.put, List.setIfInBounds_toArray, List.set_cons_zero, List.set_cons_succ]
 refine wpAnyH_take (i := 2) (oi := ⟨some 23, .fieldAddr 161 (.tmp 22) 0, 0, "blocks.go:70", #[⟨1, .data⟩], none⟩) (v := ?vbmLook_direct86r5o2) rfl (by kernel_rfl) (by kernel_rfl) (by kernel_rfl) (fun _ _ _ h => h) (Or.inl ⟨by rfl, ?hbmLook_direct86r5o2⟩) hS ?_
 case hbmLook_direct86r5o2 => (intro wx hx; skip; go_simp; (try with_reducible rfl))
 try simp only [Act.put, List.setIfInBounds_toArray, List.set_cons_zero, List.set_cons_succ]
 refine wpAnyH_take (i := 3) (oi := ⟨some 24, .load 32 (.tmp 23), 32, "blocks.go:70", #[⟨2, .data⟩], none⟩) (v := ?vbmLook_direct86r5o3) rfl (by kernel_rfl) (by kernel_rfl) (by kernel_rfl) (fun _ _ _ h => h) (Or.inl ⟨by rfl, ?hbmLook_direct86r5o3⟩) hS ?_
 case hbmLook_direct86r5o3 => (intro wx hx; obtain ⟨c0, c1, c2, c3, c4⟩ := BM.cells hx; go_simp; (try with_reducible rfl))
 try simp only [Act.put, List.setIfInBounds_toArray, List.set_cons_zero, List.set_cons_succ]
 refine wpAnyH_take (i := 4) (oi := ⟨some 25, .move (.tmp 0), 82, "blocks.go:70", #[], none⟩) (v := ?vbmLook_direct86r5o4) rfl (by kernel_rfl) (by kernel_rfl) (by kernel_rfl) (fun _ _ _ h => h) (Or.inl ⟨by rfl, ?hbmLook_direct86r5o4⟩) hS ?_
 case hbmLook_direct86r5o4 => (intro wx hx; skip; go_simp; (try with_reducible rfl))
 try simp only [Act.put, List.setIfInBounds_toArray, List.set_cons_zero, List.set_cons_succ]
 refine wpAnyH_take (i := 5) (oi := ⟨some 26, .nilCheck (.tmp 25), 0, "blocks.go:70", #[⟨4, .data⟩], none⟩) (v := ?vbmLook_direct86r5o5) rfl (by kernel_rfl) (by kernel_rfl) (by kernel_rfl) (fun _ _ _ h => h) (Or.inl ⟨by rfl, ?hbmLook_direct86r5o5⟩) hS ?_
 case hbmLook_direct86r5o5 => (intro wx hx; skip; go_simp; (try with_reducible rfl))
 try simp only [Act.put, List.setIfInBounds_toArray, List.set_cons_zero, List.set_cons_succ]
 refine wpAnyH_take (i := 6) (oi := ⟨some 27, .fieldAddr 161 (.tmp 26) 1, 0, "blocks.go:70", #[⟨5, .data⟩], none⟩) (v := ?vbmLook_direct86r5o6) rfl (by kernel_rfl) (by kernel_rfl) (by kernel_rfl) (fun _ _ _ h => h) (Or.inl ⟨by rfl, ?hbmLook_direct86r5o6⟩) hS ?_
 case hbmLook_direct86r5o6 => (intro wx hx; skip; go_simp; (try with_reducible rfl))
 try simp only [Act.put, List.setIfInBounds_toArray, List.set_cons_zero, List.set_cons_succ]
 refine wpAnyH_take (i := 7) (oi := ⟨some 28, .load 23 (.tmp 27), 23, "blocks.go:70", #[⟨6, .data⟩], none⟩) (v := ?vbmLook_direct86r5o7) rfl (by kernel_rfl) (by kernel_rfl) (by kernel_rfl) (fun _ _ _ h => h) (Or.inl ⟨by rfl, ?hbmLook_direct86r5o7⟩) hS ?_
 case hbmLook_direct86r5o7 => (intro wx hx; obtain ⟨c0, c1, c2, c3, c4⟩ := BM.cells hx; go_simp; (try with_reducible rfl))
 try simp only [Act.put, List.setIfInBounds_toArray, List.set_cons_zero, List.set_cons_succ]
 refine wpAnyH_take (i := 8) (oi := ⟨some 29, .move (.tmp 0), 82, "blocks.go:70", #[], none⟩) (v := ?vbmLook_direct86r5o8) rfl (by kernel_rfl) (by kernel_rfl) (by kernel_rfl) (fun _ _ _ h => h) (Or.inl ⟨by rfl, ?hbmLook_direct86r5o8⟩) hS ?_
 case hbmLook_direct86r5o8 => (intro wx hx; skip; go_simp; (try with_reducible rfl))
 try simp only [Act.put, List.setIfInBounds_toArray, List.set_cons_zero, List.set_cons_succ]
 refine wpAnyH_take (i := 9) (oi := ⟨some 30, .nilCheck (.tmp 29), 0, "blocks.go:70", #[⟨8, .data⟩], none⟩) (v := ?vbmLook_direct86r5o9) rfl (by kernel_rfl) (by kernel_rfl) (by kernel_rfl) (fun _ _ _ h => h) (Or.inl ⟨by rfl, ?hbmLook_direct86r5o9⟩) hS ?_
 case hbmLook_direct86r5o9 => (intro wx hx; skip; go_simp; (try with_reducible rfl))
 try simp only [Act.put, List.setIfInBounds_toArray, List.set_cons_zero, List.set_cons_succ]
 refine wpAnyH_take (i := 10) (oi := ⟨some 31, .fieldAddr 161 (.tmp 30) 2, 0, "blocks.go:70", #[⟨9, .data⟩], none⟩) (v := ?vbmLook_direct86r5o10) rfl (by kernel_rfl) (by kernel_rfl) (by kernel_rfl) (fun _ _ _ h => h) (Or.inl ⟨by rfl, ?hbmLook_direct86r5o10⟩) hS ?_
 case hbmLook_direct86r5o10 => (intro wx hx; skip; go_simp; (try with_reducible rfl))
 try simp only [Act.put, List.setIfInBounds_toArray, List.set_cons_zero, List.set_cons_succ]
 refine wpAnyH_take (i := 11) (oi := ⟨some 32, .load 3 (.tmp 31), 3, "blocks.go:70", #[⟨10, .data⟩], none⟩) (v := ?vbmLook_direct86r5o11) rfl (by kernel_rfl) (by kernel_rfl) (by kernel_rfl) (fun _ _ _ h => h) (Or.inl ⟨by rfl, ?hbmLook_direct86r5o11⟩) hS ?_
 case hbmLook_direct86r5o11 => (intro wx hx; obtain ⟨c0, c1, c2, c3, c4⟩ := BM.cells hx; go_simp; (try with_reducible rfl))
 try simp only [Act.put, List.setIfInBounds_toArray, List.set_cons_zero, List.set_cons_succ]
 refine wpAnyH_ready (rs := [12, 16]) (by kernel_rfl) (by simp) ?_
 refine AllReadyH.cons (o := ⟨some 33, .call { callee := Callee.value (Operand.func 73), args := #[.tmp 24, .tmp 28, .tmp 32], argTypes := #[32, 23, 3] }, 134, "blocks.go:70", #[⟨3, .data⟩, ⟨7, .data⟩, ⟨11, .data⟩], none⟩) rfl (fun K hK => ?_) ?_
 ·
  go_simp
  refine (HG.out _ _ hOr.out).mono ?_
  rintro e wB ⟨rfl, hOB⟩
  have hS1 : BM XM g a b c n _ := HB.out _ _ hOB
  clear hOr
  have hOr := Lib.hid hOB
  clear hOB
  refine hK.out _ _ ?hsbmLook_directx186r5o12 (fun hS => ?_)
  case hsbmLook_directx186r5o12 => (exact hS1)
  clear hK K
  try simp only [Act.put, List.setIfInBounds_toArray, List.set_cons_zero, List.set_cons_succ]
  refine wpAnyH_take (i := 13) (oi := ⟨some 20, .move (.tmp 33), 134, "blocks.go:70", #[⟨12, .data⟩], none⟩) (v := ?vbmLook_directx186r5o13) rfl (by kernel_rfl) (by kernel_rfl) (by kernel_rfl) (fun _ _ _ h => h) (Or.inl ⟨by rfl, ?hbmLook_directx186r5o13⟩) hS ?_
  case hbmLook_directx186r5o13 => (intro wx hx; skip; go_simp; (try with_reducible rfl))
  try simp only [Act.put, List.setIfInBounds_toArray, List.set_cons_zero, List.set_cons_succ]
  refine wpAnyH_take (i := 14) (oi := ⟨some 34, .extract (.tmp 20) 0, 133, "blocks.go:70", #[⟨13, .data⟩], none⟩) (v := ?vbmLook_directx186r5o14) rfl (by kernel_rfl) (by kernel_rfl) (by kernel_rfl) (fun _ _ _ h => h) (Or.inl ⟨by rfl, ?hbmLook_directx186r5o14⟩) hS ?_
  case hbmLook_directx186r5o14 => (intro wx hx; skip; go_simp; (try with_reducible rfl))
  try simp only [Act.put, List.setIfInBounds_toArray, List.set_cons_zero, List.set_cons_succ]
  refine wpAnyH_take (i := 15) (oi := ⟨some 35, .extract (.tmp 20) 1, 45, "blocks.go:70", #[⟨13, .data⟩, { on := 17, ground := Ground.gcOnly Departure.lateStores }], none⟩) (v := ?vbmLook_directx186r5o15) rfl (by kernel_rfl) (by kernel_rfl) (by kernel_rfl) (fun _ _ _ h => h) (Or.inl ⟨by rfl, ?hbmLook_directx186r5o15⟩) hS ?_
  case hbmLook_directx186r5o15 => (intro wx hx; skip; go_simp; (try with_reducible rfl))
  try simp only [Act.put, List.setIfInBounds_toArray, List.set_cons_zero, List.set_cons_succ]
  refine wpAnyH_ready (rs := [16]) (by kernel_rfl) (by simp) ?_
  refine AllReadyH.cons (o := ⟨some 7, .alloc 133, 0, "blocks.go:70", #[], none⟩) rfl (fun K hK => ?_) AllReadyH.nil
  go_simp
  have hS1 : BM XM g a b c n _ := hS.grown (World.grownBy_alloc _ (.cells #[.int .u64 0, .int .u64 0, .int .u64 0, .int .u64 0, .int .u64 0, .int .u64 0, .int .u64 0, .int .u64 0, .int .u64 0, .int .u64 0] 133) none)
  have hOn := hOr.out.addBox 133 #[.int .u64 0, .int .u64 0, .int .u64 0, .int .u64 0, .int .u64 0, .int .u64 0, .int .u64 0, .int .u64 0, .int .u64 0, .int .u64 0]
  rw [List.append_assoc, List.nil_append] at hOn
  clear hOr
  first | (obtain ⟨N, hN⟩ : ∃ N, wB.heap.size = N := ⟨_, rfl⟩; obtain ⟨wz, hwz⟩ : ∃ wz, wB.alloc (.cells #[.int .u64 0, .int .u64 0, .int .u64 0, .int .u64 0, .int .u64 0, .int .u64 0, .int .u64 0, .int .u64 0, .int .u64 0, .int .u64 0] 133) = wz := ⟨_, rfl⟩; rw [hN, hwz] at hOn; rw [hwz] at hS1; (try rw [hwz]); (first | rw [hN] | rw [show w.heap.size = N from hN])) | (obtain ⟨N, hN⟩ : ∃ N, w.heap.size = N := ⟨_, rfl⟩; obtain ⟨wz, hwz⟩ : ∃ wz, (w.alloc (.cells #[.int .u64 0, .int .u64 0, .int .u64 0, .int .u64 0, .int .u64 0, .int .u64 0, .int .u64 0, .int .u64 0, .int .u64 0, .int .u64 0] 133)).drew = wz := ⟨_, rfl⟩; rw [show w.drew.alloc (.cells #[.int .u64 0, .int .u64 0, .int .u64 0, .int .u64 0, .int .u64 0, .int .u64 0, .int .u64 0, .int .u64 0, .int .u64 0, .int .u64 0] 133) = wz from hwz] at hOn hS1; rw [show w.drew.heap.size = N from hN] at hOn; rw [hwz, hN])
  have hOr := Lib.hid hOn
  clear hOn hwz hN
  refine hK.out _ _ ?hsbmLook_directx186r5o16 (fun hS => ?_)
  case hsbmLook_directx186r5o16 => (exact hS1)
  clear hK K
  try simp only [Act.put, List.setIfInBounds_toArray, List.set_cons_zero, List.set_cons_succ]
  refine wpAnyH_ready (rs := [17]) (by kernel_rfl) (by simp) ?_
  refine AllReadyH.cons (o := ⟨none, .store 133 (.tmp 7) (.tmp 34), 0, "blocks.go:70", #[⟨16, .data⟩, ⟨14, .data⟩, ⟨12, .chain⟩, ⟨0, .phase⟩, ⟨1, .phase⟩, ⟨2, .phase⟩, ⟨3, .phase⟩, ⟨4, .phase⟩, ⟨5, .phase⟩, ⟨6, .phase⟩, ⟨7, .phase⟩, ⟨8, .phase⟩, ⟨9, .phase⟩, ⟨10, .phase⟩, ⟨11, .phase⟩, ⟨12, .phase⟩, ⟨13, .phase⟩, ⟨14, .phase⟩, { on := 15, ground := Ground.textOnly Departure.lateStores }, ⟨16, .phase⟩], none⟩) rfl (fun K hK => ?_) AllReadyH.nil
  obtain ⟨⟨z0, z1, z2, z3, z4, z5, z6, z7, z8, z9⟩, q0, q1, q2, q3, q4, q5, q6, q7, q8, q9⟩ := node_zero hOr.out
  go_simp
  obtain ⟨wn, hwn, hOx⟩ := node_stored f0 f1 f2 f3 f4 f5 f6 f7 f8 f9 hOr.out
  rw [hwn]
  have hOn := Lib.hid hOx
  clear hwn hOx
  refine hK.out _ _ ?hs17 (fun hS => ?_)
  case hs17 => exact HB.out _ _ hOn.out
  clear hK K hOr z0 z1 z2 z3 z4 z5 z6 z7 z8 z9 q0 q1 q2 q3 q4 q5 q6 q7 q8 q9
  have hOr := Lib.hid hOn.out
  clear hOn
  try simp only [Act.put, List.setIfInBounds_toArray, List.set_cons_zero, List.set_cons_succ]
  refine wpAnyH_take (i := 18) (oi := ⟨some 6, .assign (.tmp 35), 45, "blocks.go:70", #[⟨15, .data⟩, ⟨17, .chain⟩, ⟨0, .phase⟩, ⟨1, .phase⟩, ⟨2, .phase⟩, ⟨3, .phase⟩, ⟨4, .phase⟩, ⟨5, .phase⟩, ⟨6, .phase⟩, ⟨7, .phase⟩, ⟨8, .phase⟩, ⟨9, .phase⟩, ⟨10, .phase⟩, ⟨11, .phase⟩, ⟨12, .phase⟩, ⟨13, .phase⟩, ⟨14, .phase⟩, ⟨15, .phase⟩, ⟨16, .phase⟩, ⟨17, .phase⟩], none⟩) (v := ?vbmLook_directx186r5o18) rfl (by kernel_rfl) (by kernel_rfl) (by kernel_rfl) (fun _ _ _ h => h) (Or.inl ⟨by rfl, ?hbmLook_directx186r5o18⟩) hS ?_
  case hbmLook_directx186r5o18 => (intro wx hx; skip; go_simp; (try with_reducible rfl))
  try simp only [Act.put, List.setIfInBounds_toArray, List.set_cons_zero, List.set_cons_succ]
  refine wpAnyH_done (by kernel_rfl) ?_ _
  obtain ⟨z0, z1, z2, z3, z4, z5, z6, z7, z8, z9⟩ := node_have hOr.out
  obtain ⟨c0, c1, c2, c3, c4⟩ := BM.cells hS
  go_wp2_with fail
  refine (HD.out _ hS).mono ?_
  rintro e wC ⟨rfl, hgC⟩
  have hS2 := hS.grown hgC
  have hOn := Lib.hid (hOr.out.quiet hgC)
  clear hOr hgC hS z0 z1 z2 z3 z4 z5 z6 z7 z8 z9 c0 c1 c2 c3 c4
  obtain ⟨c0, c1, c2, c3, c4⟩ := BM.cells hS2
  go_wp2_with fail
  refine (HV.out _ _ (by simpa using hOn.out)).mono ?_
  rintro e wD ⟨rfl, rfl⟩
  go_wp2
  go_ret3
  exact ⟨rfl, hOn.out.less⟩
 refine AllReadyH.cons (o := ⟨some 7, .alloc 133, 0, "blocks.go:70", #[], none⟩) rfl (fun K hK => ?_) ?_
 ·
  go_simp
  have hS1 : BM XM g a b c n _ := hS.grown (World.grownBy_alloc _ (.cells #[.int .u64 0, .int .u64 0, .int .u64 0, .int .u64 0, .int .u64 0, .int .u64 0, .int .u64 0, .int .u64 0, .int .u64 0, .int .u64 0] 133) none)
  have hOn := hOr.out.addBox 133 #[.int .u64 0, .int .u64 0, .int .u64 0, .int .u64 0, .int .u64 0, .int .u64 0, .int .u64 0, .int .u64 0, .int .u64 0, .int .u64 0]
  rw [List.append_assoc, List.nil_append] at hOn
  clear hOr
  first | (obtain ⟨N, hN⟩ : ∃ N, wB.heap.size = N := ⟨_, rfl⟩; obtain ⟨wz, hwz⟩ : ∃ wz, wB.alloc (.cells #[.int .u64 0, .int .u64 0, .int .u64 0, .int .u64 0, .int .u64 0, .int .u64 0, .int .u64 0, .int .u64 0, .int .u64 0, .int .u64 0] 133) = wz := ⟨_, rfl⟩; rw [hN, hwz] at hOn; rw [hwz] at hS1; (try rw [hwz]); (first | rw [hN] | rw [show w.heap.size = N from hN])) | (obtain ⟨N, hN⟩ : ∃ N, w.heap.size = N := ⟨_, rfl⟩; obtain ⟨wz, hwz⟩ : ∃ wz, (w.alloc (.cells #[.int .u64 0, .int .u64 0, .int .u64 0, .int .u64 0, .int .u64 0, .int .u64 0, .int .u64 0, .int .u64 0, .int .u64 0, .int .u64 0] 133)).drew = wz := ⟨_, rfl⟩; rw [show w.drew.alloc (.cells #[.int .u64 0, .int .u64 0, .int .u64 0, .int .u64 0, .int .u64 0, .int .u64 0, .int .u64 0, .int .u64 0, .int .u64 0, .int .u64 0] 133) = wz from hwz] at hOn hS1; rw [show w.drew.heap.size = N from hN] at hOn; rw [hwz, hN])
  have hOr := Lib.hid hOn
  clear hOn hwz hN
  refine hK.out _ _ ?hsbmLook_directx386r5o16 (fun hS => ?_)
  case hsbmLook_directx386r5o16 => (exact hS1)
  clear hK K
  try simp only [Act.put, List.setIfInBounds_toArray, List.set_cons_zero, List.set_cons_succ]
  refine wpAnyH_ready (rs := [12]) (by kernel_rfl) (by simp) ?_
  refine AllReadyH.cons (o := ⟨some 33, .call { callee := Callee.value (Operand.func 73), args := #[.tmp 24, .tmp 28, .tmp 32], argTypes := #[32, 23, 3] }, 134, "blocks.go:70", #[⟨3, .data⟩, ⟨7, .data⟩, ⟨11, .data⟩], none⟩) rfl (fun K hK => ?_) AllReadyH.nil
  go_simp
  refine (HG.out _ _ hOr.out).mono ?_
  rintro e wB ⟨rfl, hOB⟩
  have hS1 : BM XM g a b c n _ := HB.out _ _ hOB
  clear hOr
  have hOr := Lib.hid hOB
  clear hOB
  refine hK.out _ _ ?hsbmLook_directx386r5o12 (fun hS => ?_)
  case hsbmLook_directx386r5o12 => (exact hS1)
  clear hK K
  try simp only [Act.put, List.setIfInBounds_toArray, List.set_cons_zero, List.set_cons_succ]
  refine wpAnyH_take (i := 13) (oi := ⟨some 20, .move (.tmp 33), 134, "blocks.go:70", #[⟨12, .data⟩], none⟩) (v := ?vbmLook_directx386r5o13) rfl (by kernel_rfl) (by kernel_rfl) (by kernel_rfl) (fun _ _ _ h => h) (Or.inl ⟨by rfl, ?hbmLook_directx386r5o13⟩) hS ?_
  case hbmLook_directx386r5o13 => (intro wx hx; skip; go_simp; (try with_reducible rfl))
  try simp only [Act.put, List.setIfInBounds_toArray, List.set_cons_zero, List.set_cons_succ]
  refine wpAnyH_take (i := 14) (oi := ⟨some 34, .extract (.tmp 20) 0, 133, "blocks.go:70", #[⟨13, .data⟩], none⟩) (v := ?vbmLook_directx386r5o14) rfl (by kernel_rfl) (by kernel_rfl) (by kernel_rfl) (fun _ _ _ h => h) (Or.inl ⟨by rfl, ?hbmLook_directx386r5o14⟩) hS ?_
  case hbmLook_directx386r5o14 => (intro wx hx; skip; go_simp; (try with_reducible rfl))
  try simp only [Act.put, List.setIfInBounds_toArray, List.set_cons_zero, List.set_cons_succ]
  refine wpAnyH_take (i := 15) (oi := ⟨some 35, .extract (.tmp 20) 1, 45, "blocks.go:70", #[⟨13, .data⟩, { on := 17, ground := Ground.gcOnly Departure.lateStores }], none⟩) (v := ?vbmLook_directx386r5o15) rfl (by kernel_rfl) (by kernel_rfl) (by kernel_rfl) (fun _ _ _ h => h) (Or.inl ⟨by rfl, ?hbmLook_directx386r5o15⟩) hS ?_
  case hbmLook_directx386r5o15 => (intro wx hx; skip; go_simp; (try with_reducible rfl))
  try simp only [Act.put, List.setIfInBounds_toArray, List.set_cons_zero, List.set_cons_succ]
  refine wpAnyH_ready (rs := [17]) (by kernel_rfl) (by simp) ?_
  refine AllReadyH.cons (o := ⟨none, .store 133 (.tmp 7) (.tmp 34), 0, "blocks.go:70", #[⟨16, .data⟩, ⟨14, .data⟩, ⟨12, .chain⟩, ⟨0, .phase⟩, ⟨1, .phase⟩, ⟨2, .phase⟩, ⟨3, .phase⟩, ⟨4, .phase⟩, ⟨5, .phase⟩, ⟨6, .phase⟩, ⟨7, .phase⟩, ⟨8, .phase⟩, ⟨9, .phase⟩, ⟨10, .phase⟩, ⟨11, .phase⟩, ⟨12, .phase⟩, ⟨13, .phase⟩, ⟨14, .phase⟩, { on := 15, ground := Ground.textOnly Departure.lateStores }, ⟨16, .phase⟩], none⟩) rfl (fun K hK => ?_) AllReadyH.nil
  obtain ⟨⟨z0, z1, z2, z3, z4, z5, z6, z7, z8, z9⟩, q0, q1, q2, q3, q4, q5, q6, q7, q8, q9⟩ := node_zero hOr.out
  go_simp
  obtain ⟨wn, hwn, hOx⟩ := node_stored f0 f1 f2 f3 f4 f5 f6 f7 f8 f9 hOr.out
  rw [hwn]
  have hOn := Lib.hid hOx
  clear hwn hOx
  refine hK.out _ _ ?hs17 (fun hS => ?_)
  case hs17 => exact HB.out _ _ hOn.out
  clear hK K hOr z0 z1 z2 z3 z4 z5 z6 z7 z8 z9 q0 q1 q2 q3 q4 q5 q6 q7 q8 q9
  have hOr := Lib.hid hOn.out
  clear hOn
  try simp only [Act.put, List.setIfInBounds_toArray, List.set_cons_zero, List.set_cons_succ]
  refine wpAnyH_take (i := 18) (oi := ⟨some 6, .assign (.tmp 35), 45, "blocks.go:70", #[⟨15, .data⟩, ⟨17, .chain⟩, ⟨0, .phase⟩, ⟨1, .phase⟩, ⟨2, .phase⟩, ⟨3, .phase⟩, ⟨4, .phase⟩, ⟨5, .phase⟩, ⟨6, .phase⟩, ⟨7, .phase⟩, ⟨8, .phase⟩, ⟨9, .phase⟩, ⟨10, .phase⟩, ⟨11, .phase⟩, ⟨12, .phase⟩, ⟨13, .phase⟩, ⟨14, .phase⟩, ⟨15, .phase⟩, ⟨16, .phase⟩, ⟨17, .phase⟩], none⟩) (v := ?vbmLook_directx386r5o18) rfl (by kernel_rfl) (by kernel_rfl) (by kernel_rfl) (fun _ _ _ h => h) (Or.inl ⟨by rfl, ?hbmLook_directx386r5o18⟩) hS ?_
  case hbmLook_directx386r5o18 => (intro wx hx; skip; go_simp; (try with_reducible rfl))
  try simp only [Act.put, List.setIfInBounds_toArray, List.set_cons_zero, List.set_cons_succ]
  refine wpAnyH_done (by kernel_rfl) ?_ _
  obtain ⟨z0, z1, z2, z3, z4, z5, z6, z7, z8, z9⟩ := node_have hOr.out
  obtain ⟨c0, c1, c2, c3, c4⟩ := BM.cells hS
  go_wp2_with fail
  refine (HD.out _ hS).mono ?_
  rintro e wC ⟨rfl, hgC⟩
  have hS2 := hS.grown hgC
  have hOn := Lib.hid (hOr.out.quiet hgC)
  clear hOr hgC hS z0 z1 z2 z3 z4 z5 z6 z7 z8 z9 c0 c1 c2 c3 c4
  obtain ⟨c0, c1, c2, c3, c4⟩ := BM.cells hS2
  go_wp2_with fail
  refine (HV.out _ _ (by simpa using hOn.out)).mono ?_
  rintro e wD ⟨rfl, rfl⟩
  go_wp2
  go_ret3
  exact ⟨rfl, hOn.out.less⟩
 exact AllReadyH.nil
end Go.Proofs.YtfljlmmiiccooaaGreatDoor
end
section
namespace Go.Proofs.YtfljlmmiiccooaaGreatDoor
open Go.RowKit Go.Grommet
set_option linter.unusedVariables false
theorem bmChainedNo (XM : Nat) (k : Int) (f0 f1 f2 f3 f4 f5 f6 f7 f8 f9 : Nat) (w : World) (h8 : f8 = 0) :
  Calls Tryz.prog 111 #[.pointer (some ⟨XM, 0, none⟩), nv f0 f1 f2 f3 f4 f5 f6 f7 f8 f9, .int .i64 k] w fun e w' => e = .returned (.int .i64 (-1)) ∧ w.grownBy w' none := by subst h8; exact bmChained0 XM k f0 f1 f2 f3 f4 f5 f6 f7 f9 w
theorem bmLook_none (kv km XM g a b c n : Nat) (k : Int) (f0 f1 f2 f3 f4 f5 f6 f7 f8 f9 : Nat) (xs : List Nat) (L : List (Nat × Nat)) (w0 w : World) (Ps : List Pr) (h : Grommet.Own w0 w Ps) (hv : Ps[kv]? = some (viewP g xs L)) (hm : Ps[km]? = some (bmP XM g a b c n)) (hk : 4 ≤ k ∧ k < 12) (h8 : f8 = 0)  (HG : ∀ wx Qs, Grommet.Own w0 wx (Ps ++ Qs) → Calls Tryz.prog 73 #[.pointer (some ⟨g, 0, none⟩), gv (a : Int) (b : Int) (c : Int), .int .i64 (n : Int)] wx fun e w' => e = .returned (.tuple #[nv f0 f1 f2 f3 f4 f5 f6 f7 f8 f9, .int .i64 0]) ∧ Grommet.Own w0 w' (Ps ++ Qs)) :
  Calls Tryz.prog 86 #[.pointer (some ⟨XM, 0, none⟩), .int .i64 k] w fun e w' => e = .returned (.tuple #[.int .i64 (-1), .int .i64 0, .int .i64 0]) ∧ Grommet.Own w0 w' Ps := by
 have HB := Lib.hid (show ∀ wx Qs, Grommet.Own w0 wx (Ps ++ Qs) → BM XM g a b c n wx from fun wx Qs hO => BM.of (k := km) hO (by rw [List.getElem?_append_left (List.getElem?_eq_some_iff.1 hm).1]; exact hm))
 have HG := Lib.hid HG
 have hS0 := Lib.hid (BM.of h hm).drew
 have hOr := Lib.hid (show Grommet.Own w0 w.drew (Ps ++ []) by rw [List.append_nil]; exact h.quiet (grown_drew (World.grownBy.refl _ _)))
 have k1 : ¬ k < 0 := by omega
 have k2 : ¬ 12 ≤ k := by omega
 have k3 : 4 ≤ k := by omega
 have HD := Lib.hid (fun wx (_ : BM XM g a b c n wx) => bmChainedNo XM k f0 f1 f2 f3 f4 f5 f6 f7 f8 f9 wx h8)
 clear h hv hm hk h8
 unfold nv gv at *
 go_enter Tryz.func86, Tryz.ntmps86
 go_wp2_with fail
 refine wp_region_held_drew (S := fun w' => BM XM g a b c n w') (by kernel_rfl) (hS0.out) (fun hS => ?_)
 refine wpAnyH_take (i := 0) (oi := ⟨some 21, .move (.tmp 0), 82, "blocks.go:70", #[], none⟩) (v := ?vbmLook_none86r5o0) rfl (by kernel_rfl) (by kernel_rfl) (by kernel_rfl) (fun _ _ _ h => h) (Or.inl ⟨by rfl, ?hbmLook_none86r5o0⟩) hS ?_
 case hbmLook_none86r5o0 => (intro wx hx; skip; go_simp; (try with_reducible rfl))
 try simp only [Act.put, List.setIfInBounds_toArray, List.set_cons_zero, List.set_cons_succ]
 refine wpAnyH_take (i := 1) (oi := ⟨some 22, .nilCheck (.tmp 21), 0, "blocks.go:70", #[⟨0, .data⟩], none⟩) (v := ?vbmLook_none86r5o1) rfl (by kernel_rfl) (by kernel_rfl) (by kernel_rfl) (fun _ _ _ h => h) (Or.inl ⟨by rfl, ?hbmLook_none86r5o1⟩) hS ?_
 case hbmLook_none86r5o1 => (intro wx hx; skip; go_simp; (try with_reducible rfl))
 try simp only [Act.put, List.setIfInBounds_toArray, List.set_cons_zero, List.set_cons_succ]
 refine wpAnyH_take (i := 2) (oi := ⟨some 23, .fieldAddr 161 (.tmp 22) 0, 0, "blocks.go:70", #[⟨1, .data⟩], none⟩) (v := ?vbmLook_none86r5o2) rfl (by kernel_rfl) (by kernel_rfl) (by kernel_rfl) (fun _ _ _ h => h) (Or.inl ⟨by rfl, ?hbmLook_none86r5o2⟩) hS ?_
 case hbmLook_none86r5o2 => (intro wx hx; skip; go_simp; (try with_reducible rfl))
 try simp only [Act.put, List.setIfInBounds_toArray, List.set_cons_zero, List.set_cons_succ]
 refine wpAnyH_take (i := 3) (oi := ⟨some 24, .load 32 (.tmp 23), 32, "blocks.go:70", #[⟨2, .data⟩], none⟩) (v := ?vbmLook_none86r5o3) rfl (by kernel_rfl) (by kernel_rfl) (by kernel_rfl) (fun _ _ _ h => h) (Or.inl ⟨by rfl, ?hbmLook_none86r5o3⟩) hS ?_
 case hbmLook_none86r5o3 => (intro wx hx; obtain ⟨c0, c1, c2, c3, c4⟩ := BM.cells hx; go_simp; (try with_reducible rfl))
 try simp only [Act.put, List.setIfInBounds_toArray, List.set_cons_zero, List.set_cons_succ]
 refine wpAnyH_take (i := 4) (oi := ⟨some 25, .move (.tmp 0), 82, "blocks.go:70", #[], none⟩) (v := ?vbmLook_none86r5o4) rfl (by kernel_rfl) (by kernel_rfl) (by kernel_rfl) (fun _ _ _ h => h) (Or.inl ⟨by rfl, ?hbmLook_none86r5o4⟩) hS ?_
 case hbmLook_none86r5o4 => (intro wx hx; skip; go_simp; (try with_reducible rfl))
 try simp only [Act.put, List.setIfInBounds_toArray, List.set_cons_zero, List.set_cons_succ]
 refine wpAnyH_take (i := 5) (oi := ⟨some 26, .nilCheck (.tmp 25), 0, "blocks.go:70", #[⟨4, .data⟩], none⟩) (v := ?vbmLook_none86r5o5) rfl (by kernel_rfl) (by kernel_rfl) (by kernel_rfl) (fun _ _ _ h => h) (Or.inl ⟨by rfl, ?hbmLook_none86r5o5⟩) hS ?_
 case hbmLook_none86r5o5 => (intro wx hx; skip; go_simp; (try with_reducible rfl))
 try simp only [Act.put, List.setIfInBounds_toArray, List.set_cons_zero, List.set_cons_succ]
 refine wpAnyH_take (i := 6) (oi := ⟨some 27, .fieldAddr 161 (.tmp 26) 1, 0, "blocks.go:70", #[⟨5, .data⟩], none⟩) (v := ?vbmLook_none86r5o6) rfl (by kernel_rfl) (by kernel_rfl) (by kernel_rfl) (fun _ _ _ h => h) (Or.inl ⟨by rfl, ?hbmLook_none86r5o6⟩) hS ?_
 case hbmLook_none86r5o6 => (intro wx hx; skip; go_simp; (try with_reducible rfl))
 try simp only [Act.put, List.setIfInBounds_toArray, List.set_cons_zero, List.set_cons_succ]
 refine wpAnyH_take (i := 7) (oi := ⟨some 28, .load 23 (.tmp 27), 23, "blocks.go:70", #[⟨6, .data⟩], none⟩) (v := ?vbmLook_none86r5o7) rfl (by kernel_rfl) (by kernel_rfl) (by kernel_rfl) (fun _ _ _ h => h) (Or.inl ⟨by rfl, ?hbmLook_none86r5o7⟩) hS ?_
 case hbmLook_none86r5o7 => (intro wx hx; obtain ⟨c0, c1, c2, c3, c4⟩ := BM.cells hx; go_simp; (try with_reducible rfl))
 try simp only [Act.put, List.setIfInBounds_toArray, List.set_cons_zero, List.set_cons_succ]
 refine wpAnyH_take (i := 8) (oi := ⟨some 29, .move (.tmp 0), 82, "blocks.go:70", #[], none⟩) (v := ?vbmLook_none86r5o8) rfl (by kernel_rfl) (by kernel_rfl) (by kernel_rfl) (fun _ _ _ h => h) (Or.inl ⟨by rfl, ?hbmLook_none86r5o8⟩) hS ?_
 case hbmLook_none86r5o8 => (intro wx hx; skip; go_simp; (try with_reducible rfl))
 try simp only [Act.put, List.setIfInBounds_toArray, List.set_cons_zero, List.set_cons_succ]
 refine wpAnyH_take (i := 9) (oi := ⟨some 30, .nilCheck (.tmp 29), 0, "blocks.go:70", #[⟨8, .data⟩], none⟩) (v := ?vbmLook_none86r5o9) rfl (by kernel_rfl) (by kernel_rfl) (by kernel_rfl) (fun _ _ _ h => h) (Or.inl ⟨by rfl, ?hbmLook_none86r5o9⟩) hS ?_
 case hbmLook_none86r5o9 => (intro wx hx; skip; go_simp; (try with_reducible rfl))
 try simp only [Act.put, List.setIfInBounds_toArray, List.set_cons_zero, List.set_cons_succ]
 refine wpAnyH_take (i := 10) (oi := ⟨some 31, .fieldAddr 161 (.tmp 30) 2, 0, "blocks.go:70", #[⟨9, .data⟩], none⟩) (v := ?vbmLook_none86r5o10) rfl (by kernel_rfl) (by kernel_rfl) (by kernel_rfl) (fun _ _ _ h => h) (Or.inl ⟨by rfl, ?hbmLook_none86r5o10⟩) hS ?_
 case hbmLook_none86r5o10 => (intro wx hx; skip; go_simp; (try with_reducible rfl))
 try simp only [Act.put, List.setIfInBounds_toArray, List.set_cons_zero, List.set_cons_succ]
 refine wpAnyH_take (i := 11) (oi := ⟨some 32, .load 3 (.tmp 31), 3, "blocks.go:70", #[⟨10, .data⟩], none⟩) (v := ?vbmLook_none86r5o11) rfl (by kernel_rfl) (by kernel_rfl) (by kernel_rfl) (fun _ _ _ h => h) (Or.inl ⟨by rfl, ?hbmLook_none86r5o11⟩) hS ?_
 case hbmLook_none86r5o11 => (intro wx hx; obtain ⟨c0, c1, c2, c3, c4⟩ := BM.cells hx; go_simp; (try with_reducible rfl))
 try simp only [Act.put, List.setIfInBounds_toArray, List.set_cons_zero, List.set_cons_succ]
 refine wpAnyH_ready (rs := [12, 16]) (by kernel_rfl) (by simp) ?_
 refine AllReadyH.cons (o := ⟨some 33, .call { callee := Callee.value (Operand.func 73), args := #[.tmp 24, .tmp 28, .tmp 32], argTypes := #[32, 23, 3] }, 134, "blocks.go:70", #[⟨3, .data⟩, ⟨7, .data⟩, ⟨11, .data⟩], none⟩) rfl (fun K hK => ?_) ?_
 ·
  go_simp
  refine (HG.out _ _ hOr.out).mono ?_
  rintro e wB ⟨rfl, hOB⟩
  have hS1 : BM XM g a b c n _ := HB.out _ _ hOB
  clear hOr
  have hOr := Lib.hid hOB
  clear hOB
  refine hK.out _ _ ?hsbmLook_nonex186r5o12 (fun hS => ?_)
  case hsbmLook_nonex186r5o12 => (exact hS1)
  clear hK K
  try simp only [Act.put, List.setIfInBounds_toArray, List.set_cons_zero, List.set_cons_succ]
  refine wpAnyH_take (i := 13) (oi := ⟨some 20, .move (.tmp 33), 134, "blocks.go:70", #[⟨12, .data⟩], none⟩) (v := ?vbmLook_nonex186r5o13) rfl (by kernel_rfl) (by kernel_rfl) (by kernel_rfl) (fun _ _ _ h => h) (Or.inl ⟨by rfl, ?hbmLook_nonex186r5o13⟩) hS ?_
  case hbmLook_nonex186r5o13 => (intro wx hx; skip; go_simp; (try with_reducible rfl))
  try simp only [Act.put, List.setIfInBounds_toArray, List.set_cons_zero, List.set_cons_succ]
  refine wpAnyH_take (i := 14) (oi := ⟨some 34, .extract (.tmp 20) 0, 133, "blocks.go:70", #[⟨13, .data⟩], none⟩) (v := ?vbmLook_nonex186r5o14) rfl (by kernel_rfl) (by kernel_rfl) (by kernel_rfl) (fun _ _ _ h => h) (Or.inl ⟨by rfl, ?hbmLook_nonex186r5o14⟩) hS ?_
  case hbmLook_nonex186r5o14 => (intro wx hx; skip; go_simp; (try with_reducible rfl))
  try simp only [Act.put, List.setIfInBounds_toArray, List.set_cons_zero, List.set_cons_succ]
  refine wpAnyH_take (i := 15) (oi := ⟨some 35, .extract (.tmp 20) 1, 45, "blocks.go:70", #[⟨13, .data⟩, { on := 17, ground := Ground.gcOnly Departure.lateStores }], none⟩) (v := ?vbmLook_nonex186r5o15) rfl (by kernel_rfl) (by kernel_rfl) (by kernel_rfl) (fun _ _ _ h => h) (Or.inl ⟨by rfl, ?hbmLook_nonex186r5o15⟩) hS ?_
  case hbmLook_nonex186r5o15 => (intro wx hx; skip; go_simp; (try with_reducible rfl))
  try simp only [Act.put, List.setIfInBounds_toArray, List.set_cons_zero, List.set_cons_succ]
  refine wpAnyH_ready (rs := [16]) (by kernel_rfl) (by simp) ?_
  refine AllReadyH.cons (o := ⟨some 7, .alloc 133, 0, "blocks.go:70", #[], none⟩) rfl (fun K hK => ?_) AllReadyH.nil
  go_simp
  have hS1 : BM XM g a b c n _ := hS.grown (World.grownBy_alloc _ (.cells #[.int .u64 0, .int .u64 0, .int .u64 0, .int .u64 0, .int .u64 0, .int .u64 0, .int .u64 0, .int .u64 0, .int .u64 0, .int .u64 0] 133) none)
  have hOn := hOr.out.addBox 133 #[.int .u64 0, .int .u64 0, .int .u64 0, .int .u64 0, .int .u64 0, .int .u64 0, .int .u64 0, .int .u64 0, .int .u64 0, .int .u64 0]
  rw [List.append_assoc, List.nil_append] at hOn
  clear hOr
  first | (obtain ⟨N, hN⟩ : ∃ N, wB.heap.size = N := ⟨_, rfl⟩; obtain ⟨wz, hwz⟩ : ∃ wz, wB.alloc (.cells #[.int .u64 0, .int .u64 0, .int .u64 0, .int .u64 0, .int .u64 0, .int .u64 0, .int .u64 0, .int .u64 0, .int .u64 0, .int .u64 0] 133) = wz := ⟨_, rfl⟩; rw [hN, hwz] at hOn; rw [hwz] at hS1; (try rw [hwz]); (first | rw [hN] | rw [show w.heap.size = N from hN])) | (obtain ⟨N, hN⟩ : ∃ N, w.heap.size = N := ⟨_, rfl⟩; obtain ⟨wz, hwz⟩ : ∃ wz, (w.alloc (.cells #[.int .u64 0, .int .u64 0, .int .u64 0, .int .u64 0, .int .u64 0, .int .u64 0, .int .u64 0, .int .u64 0, .int .u64 0, .int .u64 0] 133)).drew = wz := ⟨_, rfl⟩; rw [show w.drew.alloc (.cells #[.int .u64 0, .int .u64 0, .int .u64 0, .int .u64 0, .int .u64 0, .int .u64 0, .int .u64 0, .int .u64 0, .int .u64 0, .int .u64 0] 133) = wz from hwz] at hOn hS1; rw [show w.drew.heap.size = N from hN] at hOn; rw [hwz, hN])
  have hOr := Lib.hid hOn
  clear hOn hwz hN
  refine hK.out _ _ ?hsbmLook_nonex186r5o16 (fun hS => ?_)
  case hsbmLook_nonex186r5o16 => (exact hS1)
  clear hK K
  try simp only [Act.put, List.setIfInBounds_toArray, List.set_cons_zero, List.set_cons_succ]
  refine wpAnyH_ready (rs := [17]) (by kernel_rfl) (by simp) ?_
  refine AllReadyH.cons (o := ⟨none, .store 133 (.tmp 7) (.tmp 34), 0, "blocks.go:70", #[⟨16, .data⟩, ⟨14, .data⟩, ⟨12, .chain⟩, ⟨0, .phase⟩, ⟨1, .phase⟩, ⟨2, .phase⟩, ⟨3, .phase⟩, ⟨4, .phase⟩, ⟨5, .phase⟩, ⟨6, .phase⟩, ⟨7, .phase⟩, ⟨8, .phase⟩, ⟨9, .phase⟩, ⟨10, .phase⟩, ⟨11, .phase⟩, ⟨12, .phase⟩, ⟨13, .phase⟩, ⟨14, .phase⟩, { on := 15, ground := Ground.textOnly Departure.lateStores }, ⟨16, .phase⟩], none⟩) rfl (fun K hK => ?_) AllReadyH.nil
  obtain ⟨⟨z0, z1, z2, z3, z4, z5, z6, z7, z8, z9⟩, q0, q1, q2, q3, q4, q5, q6, q7, q8, q9⟩ := node_zero hOr.out
  go_simp
  obtain ⟨wn, hwn, hOx⟩ := node_stored f0 f1 f2 f3 f4 f5 f6 f7 f8 f9 hOr.out
  rw [hwn]
  have hOn := Lib.hid hOx
  clear hwn hOx
  refine hK.out _ _ ?hs17 (fun hS => ?_)
  case hs17 => exact HB.out _ _ hOn.out
  clear hK K hOr z0 z1 z2 z3 z4 z5 z6 z7 z8 z9 q0 q1 q2 q3 q4 q5 q6 q7 q8 q9
  have hOr := Lib.hid hOn.out
  clear hOn
  try simp only [Act.put, List.setIfInBounds_toArray, List.set_cons_zero, List.set_cons_succ]
  refine wpAnyH_take (i := 18) (oi := ⟨some 6, .assign (.tmp 35), 45, "blocks.go:70", #[⟨15, .data⟩, ⟨17, .chain⟩, ⟨0, .phase⟩, ⟨1, .phase⟩, ⟨2, .phase⟩, ⟨3, .phase⟩, ⟨4, .phase⟩, ⟨5, .phase⟩, ⟨6, .phase⟩, ⟨7, .phase⟩, ⟨8, .phase⟩, ⟨9, .phase⟩, ⟨10, .phase⟩, ⟨11, .phase⟩, ⟨12, .phase⟩, ⟨13, .phase⟩, ⟨14, .phase⟩, ⟨15, .phase⟩, ⟨16, .phase⟩, ⟨17, .phase⟩], none⟩) (v := ?vbmLook_nonex186r5o18) rfl (by kernel_rfl) (by kernel_rfl) (by kernel_rfl) (fun _ _ _ h => h) (Or.inl ⟨by rfl, ?hbmLook_nonex186r5o18⟩) hS ?_
  case hbmLook_nonex186r5o18 => (intro wx hx; skip; go_simp; (try with_reducible rfl))
  try simp only [Act.put, List.setIfInBounds_toArray, List.set_cons_zero, List.set_cons_succ]
  refine wpAnyH_done (by kernel_rfl) ?_ _
  obtain ⟨z0, z1, z2, z3, z4, z5, z6, z7, z8, z9⟩ := node_have hOr.out
  obtain ⟨c0, c1, c2, c3, c4⟩ := BM.cells hS
  go_wp2_with fail
  refine (HD.out _ hS).mono ?_
  rintro e wC ⟨rfl, hgC⟩
  have hS2 := hS.grown hgC
  have hOn := Lib.hid (hOr.out.quiet hgC)
  clear hOr hgC hS z0 z1 z2 z3 z4 z5 z6 z7 z8 z9 c0 c1 c2 c3 c4
  go_wp2
  go_ret3
  exact ⟨rfl, hOn.out.less⟩
 refine AllReadyH.cons (o := ⟨some 7, .alloc 133, 0, "blocks.go:70", #[], none⟩) rfl (fun K hK => ?_) ?_
 ·
  go_simp
  have hS1 : BM XM g a b c n _ := hS.grown (World.grownBy_alloc _ (.cells #[.int .u64 0, .int .u64 0, .int .u64 0, .int .u64 0, .int .u64 0, .int .u64 0, .int .u64 0, .int .u64 0, .int .u64 0, .int .u64 0] 133) none)
  have hOn := hOr.out.addBox 133 #[.int .u64 0, .int .u64 0, .int .u64 0, .int .u64 0, .int .u64 0, .int .u64 0, .int .u64 0, .int .u64 0, .int .u64 0, .int .u64 0]
  rw [List.append_assoc, List.nil_append] at hOn
  clear hOr
  first | (obtain ⟨N, hN⟩ : ∃ N, wB.heap.size = N := ⟨_, rfl⟩; obtain ⟨wz, hwz⟩ : ∃ wz, wB.alloc (.cells #[.int .u64 0, .int .u64 0, .int .u64 0, .int .u64 0, .int .u64 0, .int .u64 0, .int .u64 0, .int .u64 0, .int .u64 0, .int .u64 0] 133) = wz := ⟨_, rfl⟩; rw [hN, hwz] at hOn; rw [hwz] at hS1; (try rw [hwz]); (first | rw [hN] | rw [show w.heap.size = N from hN])) | (obtain ⟨N, hN⟩ : ∃ N, w.heap.size = N := ⟨_, rfl⟩; obtain ⟨wz, hwz⟩ : ∃ wz, (w.alloc (.cells #[.int .u64 0, .int .u64 0, .int .u64 0, .int .u64 0, .int .u64 0, .int .u64 0, .int .u64 0, .int .u64 0, .int .u64 0, .int .u64 0] 133)).drew = wz := ⟨_, rfl⟩; rw [show w.drew.alloc (.cells #[.int .u64 0, .int .u64 0, .int .u64 0, .int .u64 0, .int .u64 0, .int .u64 0, .int .u64 0, .int .u64 0, .int .u64 0, .int .u64 0] 133) = wz from hwz] at hOn hS1; rw [show w.drew.heap.size = N from hN] at hOn; rw [hwz, hN])
  have hOr := Lib.hid hOn
  clear hOn hwz hN
  refine hK.out _ _ ?hsbmLook_nonex386r5o16 (fun hS => ?_)
  case hsbmLook_nonex386r5o16 => (exact hS1)
  clear hK K
  try simp only [Act.put, List.setIfInBounds_toArray, List.set_cons_zero, List.set_cons_succ]
  refine wpAnyH_ready (rs := [12]) (by kernel_rfl) (by simp) ?_
  refine AllReadyH.cons (o := ⟨some 33, .call { callee := Callee.value (Operand.func 73), args := #[.tmp 24, .tmp 28, .tmp 32], argTypes := #[32, 23, 3] }, 134, "blocks.go:70", #[⟨3, .data⟩, ⟨7, .data⟩, ⟨11, .data⟩], none⟩) rfl (fun K hK => ?_) AllReadyH.nil
  go_simp
  refine (HG.out _ _ hOr.out).mono ?_
  rintro e wB ⟨rfl, hOB⟩
  have hS1 : BM XM g a b c n _ := HB.out _ _ hOB
  clear hOr
  have hOr := Lib.hid hOB
  clear hOB
  refine hK.out _ _ ?hsbmLook_nonex386r5o12 (fun hS => ?_)
  case hsbmLook_nonex386r5o12 => (exact hS1)
  clear hK K
  try simp only [Act.put, List.setIfInBounds_toArray, List.set_cons_zero, List.set_cons_succ]
  refine wpAnyH_take (i := 13) (oi := ⟨some 20, .move (.tmp 33), 134, "blocks.go:70", #[⟨12, .data⟩], none⟩) (v := ?vbmLook_nonex386r5o13) rfl (by kernel_rfl) (by kernel_rfl) (by kernel_rfl) (fun _ _ _ h => h) (Or.inl ⟨by rfl, ?hbmLook_nonex386r5o13⟩) hS ?_
  case hbmLook_nonex386r5o13 => (intro wx hx; skip; go_simp; (try with_reducible rfl))
  try simp only [Act.put, List.setIfInBounds_toArray, List.set_cons_zero, List.set_cons_succ]
  refine wpAnyH_take (i := 14) (oi := ⟨some 34, .extract (.tmp 20) 0, 133, "blocks.go:70", #[⟨13, .data⟩], none⟩) (v := ?vbmLook_nonex386r5o14) rfl (by kernel_rfl) (by kernel_rfl) (by kernel_rfl) (fun _ _ _ h => h) (Or.inl ⟨by rfl, ?hbmLook_nonex386r5o14⟩) hS ?_
  case hbmLook_nonex386r5o14 => (intro wx hx; skip; go_simp; (try with_reducible rfl))
  try simp only [Act.put, List.setIfInBounds_toArray, List.set_cons_zero, List.set_cons_succ]
  refine wpAnyH_take (i := 15) (oi := ⟨some 35, .extract (.tmp 20) 1, 45, "blocks.go:70", #[⟨13, .data⟩, { on := 17, ground := Ground.gcOnly Departure.lateStores }], none⟩) (v := ?vbmLook_nonex386r5o15) rfl (by kernel_rfl) (by kernel_rfl) (by kernel_rfl) (fun _ _ _ h => h) (Or.inl ⟨by rfl, ?hbmLook_nonex386r5o15⟩) hS ?_
  case hbmLook_nonex386r5o15 => (intro wx hx; skip; go_simp; (try with_reducible rfl))
  try simp only [Act.put, List.setIfInBounds_toArray, List.set_cons_zero, List.set_cons_succ]
  refine wpAnyH_ready (rs := [17]) (by kernel_rfl) (by simp) ?_
  refine AllReadyH.cons (o := ⟨none, .store 133 (.tmp 7) (.tmp 34), 0, "blocks.go:70", #[⟨16, .data⟩, ⟨14, .data⟩, ⟨12, .chain⟩, ⟨0, .phase⟩, ⟨1, .phase⟩, ⟨2, .phase⟩, ⟨3, .phase⟩, ⟨4, .phase⟩, ⟨5, .phase⟩, ⟨6, .phase⟩, ⟨7, .phase⟩, ⟨8, .phase⟩, ⟨9, .phase⟩, ⟨10, .phase⟩, ⟨11, .phase⟩, ⟨12, .phase⟩, ⟨13, .phase⟩, ⟨14, .phase⟩, { on := 15, ground := Ground.textOnly Departure.lateStores }, ⟨16, .phase⟩], none⟩) rfl (fun K hK => ?_) AllReadyH.nil
  obtain ⟨⟨z0, z1, z2, z3, z4, z5, z6, z7, z8, z9⟩, q0, q1, q2, q3, q4, q5, q6, q7, q8, q9⟩ := node_zero hOr.out
  go_simp
  obtain ⟨wn, hwn, hOx⟩ := node_stored f0 f1 f2 f3 f4 f5 f6 f7 f8 f9 hOr.out
  rw [hwn]
  have hOn := Lib.hid hOx
  clear hwn hOx
  refine hK.out _ _ ?hs17 (fun hS => ?_)
  case hs17 => exact HB.out _ _ hOn.out
  clear hK K hOr z0 z1 z2 z3 z4 z5 z6 z7 z8 z9 q0 q1 q2 q3 q4 q5 q6 q7 q8 q9
  have hOr := Lib.hid hOn.out
  clear hOn
  try simp only [Act.put, List.setIfInBounds_toArray, List.set_cons_zero, List.set_cons_succ]
  refine wpAnyH_take (i := 18) (oi := ⟨some 6, .assign (.tmp 35), 45, "blocks.go:70", #[⟨15, .data⟩, ⟨17, .chain⟩, ⟨0, .phase⟩, ⟨1, .phase⟩, ⟨2, .phase⟩, ⟨3, .phase⟩, ⟨4, .phase⟩, ⟨5, .phase⟩, ⟨6, .phase⟩, ⟨7, .phase⟩, ⟨8, .phase⟩, ⟨9, .phase⟩, ⟨10, .phase⟩, ⟨11, .phase⟩, ⟨12, .phase⟩, ⟨13, .phase⟩, ⟨14, .phase⟩, ⟨15, .phase⟩, ⟨16, .phase⟩, ⟨17, .phase⟩], none⟩) (v := ?vbmLook_nonex386r5o18) rfl (by kernel_rfl) (by kernel_rfl) (by kernel_rfl) (fun _ _ _ h => h) (Or.inl ⟨by rfl, ?hbmLook_nonex386r5o18⟩) hS ?_
  case hbmLook_nonex386r5o18 => (intro wx hx; skip; go_simp; (try with_reducible rfl))
  try simp only [Act.put, List.setIfInBounds_toArray, List.set_cons_zero, List.set_cons_succ]
  refine wpAnyH_done (by kernel_rfl) ?_ _
  obtain ⟨z0, z1, z2, z3, z4, z5, z6, z7, z8, z9⟩ := node_have hOr.out
  obtain ⟨c0, c1, c2, c3, c4⟩ := BM.cells hS
  go_wp2_with fail
  refine (HD.out _ hS).mono ?_
  rintro e wC ⟨rfl, hgC⟩
  have hS2 := hS.grown hgC
  have hOn := Lib.hid (hOr.out.quiet hgC)
  clear hOr hgC hS z0 z1 z2 z3 z4 z5 z6 z7 z8 z9 c0 c1 c2 c3 c4
  go_wp2
  go_ret3
  exact ⟨rfl, hOn.out.less⟩
 exact AllReadyH.nil
theorem bmLook_chain (kv km XM g a b c n : Nat) (k : Int) (f0 f1 f2 f3 f4 f5 f6 f7 f8 f9 : Nat) (xs : List Nat) (L : List (Nat × Nat)) (w0 w : World) (Ps : List Pr) (h : Grommet.Own w0 w Ps) (hv : Ps[kv]? = some (viewP g xs L)) (hm : Ps[km]? = some (bmP XM g a b c n)) (P V T : Nat) (hk : 4 ≤ k ∧ k < 12) (h8 : f8 ≠ 0) (h8l : f8 ≤ 1000000) (hP : blockV (a : Int) (b : Int) (c : Int) (f8 : Int) = (P : Int)) (hPl : P ≤ 1000000) (hT : (P : Int) + k - 4 = (T : Int)) (hV : gotI xs L (T : Int) = V) (hc : c ≤ 1000000) (hVc : V < c) (HG : ∀ wx Qs, Grommet.Own w0 wx (Ps ++ Qs) → Calls Tryz.prog 73 #[.pointer (some ⟨g, 0, none⟩), gv (a : Int) (b : Int) (c : Int), .int .i64 (n : Int)] wx fun e w' => e = .returned (.tuple #[nv f0 f1 f2 f3 f4 f5 f6 f7 f8 f9, .int .i64 0]) ∧ Grommet.Own w0 w' (Ps ++ Qs)) :
  Calls Tryz.prog 86 #[.pointer (some ⟨XM, 0, none⟩), .int .i64 k] w fun e w' => e = .returned (.tuple #[.int .i64 (T : Int), .int .i64 (V : Int), .int .i64 0]) ∧ Grommet.Own w0 w' Ps := by
 have HB := Lib.hid (show ∀ wx Qs, Grommet.Own w0 wx (Ps ++ Qs) → BM XM g a b c n wx from fun wx Qs hO => BM.of (k := km) hO (by rw [List.getElem?_append_left (List.getElem?_eq_some_iff.1 hm).1]; exact hm))
 have HG := Lib.hid HG
 have hS0 := Lib.hid (BM.of h hm).drew
 have hOr := Lib.hid (show Grommet.Own w0 w.drew (Ps ++ []) by rw [List.append_nil]; exact h.quiet (grown_drew (World.grownBy.refl _ _)))
 have k1 : ¬ k < 0 := by omega
 have k2 : ¬ 12 ≤ k := by omega
 have k3 : 4 ≤ k := by omega
 have HV := Lib.hid (show ∀ wx Qs, Grommet.Own w0 wx (Ps ++ Qs) → Calls Tryz.prog 88 #[.pointer (some ⟨g, 0, none⟩), .int .i64 (T : Int)] wx fun e w' => e = .returned (.int .u64 (V : Int)) ∧ w' = wx from fun wx Qs hO => by rw [← hV]; exact GetH kv g xs L (T : Int) w0 wx _ hO (by rw [List.getElem?_append_left (List.getElem?_eq_some_iff.1 hv).1]; exact hv))
 have wc : IntKind.u64.wrap (c : Int) = (c : Int) := IntWalk.u64_in _ ⟨by omega, by omega⟩
 have wv : IntKind.i64.wrap (V : Int) = (V : Int) := IntWalk.i64_in _ ⟨by omega, by omega⟩
 have HD := Lib.hid (fun wx (hB : BM XM g a b c n wx) => bmChained XM g a b c n P k f0 f1 f2 f3 f4 f5 f6 f7 f8 f9 wx hB h8 (by omega) hP hPl h8l ⟨by omega, by omega⟩)
 rw [hT] at HD
 have n1 : ((T : Int) == -1) = false := by simp <;> omega
 have n2 : ¬ (T : Int) = -1 := by omega
 have v1 : ¬ (c : Int) ≤ (V : Int) := by omega
 clear h hv hm hk h8 h8l hP hPl hT hV hc hVc
 unfold nv gv at *
 go_enter Tryz.func86, Tryz.ntmps86
 go_wp2_with fail
 refine wp_region_held_drew (S := fun w' => BM XM g a b c n w') (by kernel_rfl) (hS0.out) (fun hS => ?_)
 refine wpAnyH_take (i := 0) (oi := ⟨some 21, .move (.tmp 0), 82, "blocks.go:70", #[], none⟩) (v := ?vbmLook_chain86r5o0) rfl (by kernel_rfl) (by kernel_rfl) (by kernel_rfl) (fun _ _ _ h => h) (Or.inl ⟨by rfl, ?hbmLook_chain86r5o0⟩) hS ?_
 case hbmLook_chain86r5o0 => (intro wx hx; skip; go_simp; (try with_reducible rfl))
 try simp only [Act.put, List.setIfInBounds_toArray, List.set_cons_zero, List.set_cons_succ]
 refine wpAnyH_take (i := 1) (oi := ⟨some 22, .nilCheck (.tmp 21), 0, "blocks.go:70", #[⟨0, .data⟩], none⟩) (v := ?vbmLook_chain86r5o1) rfl (by kernel_rfl) (by kernel_rfl) (by kernel_rfl) (fun _ _ _ h => h) (Or.inl ⟨by rfl, ?hbmLook_chain86r5o1⟩) hS ?_
 case hbmLook_chain86r5o1 => (intro wx hx; skip; go_simp; (try with_reducible rfl))
 try simp only [Act.put, List.setIfInBounds_toArray, List.set_cons_zero, List.set_cons_succ]
 refine wpAnyH_take (i := 2) (oi := ⟨some 23, .fieldAddr 161 (.tmp 22) 0, 0, "blocks.go:70", #[⟨1, .data⟩], none⟩) (v := ?vbmLook_chain86r5o2) rfl (by kernel_rfl) (by kernel_rfl) (by kernel_rfl) (fun _ _ _ h => h) (Or.inl ⟨by rfl, ?hbmLook_chain86r5o2⟩) hS ?_
 case hbmLook_chain86r5o2 => (intro wx hx; skip; go_simp; (try with_reducible rfl))
 try simp only [Act.put, List.setIfInBounds_toArray, List.set_cons_zero, List.set_cons_succ]
 refine wpAnyH_take (i := 3) (oi := ⟨some 24, .load 32 (.tmp 23), 32, "blocks.go:70", #[⟨2, .data⟩], none⟩) (v := ?vbmLook_chain86r5o3) rfl (by kernel_rfl) (by kernel_rfl) (by kernel_rfl) (fun _ _ _ h => h) (Or.inl ⟨by rfl, ?hbmLook_chain86r5o3⟩) hS ?_
 case hbmLook_chain86r5o3 => (intro wx hx; obtain ⟨c0, c1, c2, c3, c4⟩ := BM.cells hx; go_simp; (try with_reducible rfl))
 try simp only [Act.put, List.setIfInBounds_toArray, List.set_cons_zero, List.set_cons_succ]
 refine wpAnyH_take (i := 4) (oi := ⟨some 25, .move (.tmp 0), 82, "blocks.go:70", #[], none⟩) (v := ?vbmLook_chain86r5o4) rfl (by kernel_rfl) (by kernel_rfl) (by kernel_rfl) (fun _ _ _ h => h) (Or.inl ⟨by rfl, ?hbmLook_chain86r5o4⟩) hS ?_
 case hbmLook_chain86r5o4 => (intro wx hx; skip; go_simp; (try with_reducible rfl))
 try simp only [Act.put, List.setIfInBounds_toArray, List.set_cons_zero, List.set_cons_succ]
 refine wpAnyH_take (i := 5) (oi := ⟨some 26, .nilCheck (.tmp 25), 0, "blocks.go:70", #[⟨4, .data⟩], none⟩) (v := ?vbmLook_chain86r5o5) rfl (by kernel_rfl) (by kernel_rfl) (by kernel_rfl) (fun _ _ _ h => h) (Or.inl ⟨by rfl, ?hbmLook_chain86r5o5⟩) hS ?_
 case hbmLook_chain86r5o5 => (intro wx hx; skip; go_simp; (try with_reducible rfl))
 try simp only [Act.put, List.setIfInBounds_toArray, List.set_cons_zero, List.set_cons_succ]
 refine wpAnyH_take (i := 6) (oi := ⟨some 27, .fieldAddr 161 (.tmp 26) 1, 0, "blocks.go:70", #[⟨5, .data⟩], none⟩) (v := ?vbmLook_chain86r5o6) rfl (by kernel_rfl) (by kernel_rfl) (by kernel_rfl) (fun _ _ _ h => h) (Or.inl ⟨by rfl, ?hbmLook_chain86r5o6⟩) hS ?_
 case hbmLook_chain86r5o6 => (intro wx hx; skip; go_simp; (try with_reducible rfl))
 try simp only [Act.put, List.setIfInBounds_toArray, List.set_cons_zero, List.set_cons_succ]
 refine wpAnyH_take (i := 7) (oi := ⟨some 28, .load 23 (.tmp 27), 23, "blocks.go:70", #[⟨6, .data⟩], none⟩) (v := ?vbmLook_chain86r5o7) rfl (by kernel_rfl) (by kernel_rfl) (by kernel_rfl) (fun _ _ _ h => h) (Or.inl ⟨by rfl, ?hbmLook_chain86r5o7⟩) hS ?_
 case hbmLook_chain86r5o7 => (intro wx hx; obtain ⟨c0, c1, c2, c3, c4⟩ := BM.cells hx; go_simp; (try with_reducible rfl))
 try simp only [Act.put, List.setIfInBounds_toArray, List.set_cons_zero, List.set_cons_succ]
 refine wpAnyH_take (i := 8) (oi := ⟨some 29, .move (.tmp 0), 82, "blocks.go:70", #[], none⟩) (v := ?vbmLook_chain86r5o8) rfl (by kernel_rfl) (by kernel_rfl) (by kernel_rfl) (fun _ _ _ h => h) (Or.inl ⟨by rfl, ?hbmLook_chain86r5o8⟩) hS ?_
 case hbmLook_chain86r5o8 => (intro wx hx; skip; go_simp; (try with_reducible rfl))
 try simp only [Act.put, List.setIfInBounds_toArray, List.set_cons_zero, List.set_cons_succ]
 refine wpAnyH_take (i := 9) (oi := ⟨some 30, .nilCheck (.tmp 29), 0, "blocks.go:70", #[⟨8, .data⟩], none⟩) (v := ?vbmLook_chain86r5o9) rfl (by kernel_rfl) (by kernel_rfl) (by kernel_rfl) (fun _ _ _ h => h) (Or.inl ⟨by rfl, ?hbmLook_chain86r5o9⟩) hS ?_
 case hbmLook_chain86r5o9 => (intro wx hx; skip; go_simp; (try with_reducible rfl))
 try simp only [Act.put, List.setIfInBounds_toArray, List.set_cons_zero, List.set_cons_succ]
 refine wpAnyH_take (i := 10) (oi := ⟨some 31, .fieldAddr 161 (.tmp 30) 2, 0, "blocks.go:70", #[⟨9, .data⟩], none⟩) (v := ?vbmLook_chain86r5o10) rfl (by kernel_rfl) (by kernel_rfl) (by kernel_rfl) (fun _ _ _ h => h) (Or.inl ⟨by rfl, ?hbmLook_chain86r5o10⟩) hS ?_
 case hbmLook_chain86r5o10 => (intro wx hx; skip; go_simp; (try with_reducible rfl))
 try simp only [Act.put, List.setIfInBounds_toArray, List.set_cons_zero, List.set_cons_succ]
 refine wpAnyH_take (i := 11) (oi := ⟨some 32, .load 3 (.tmp 31), 3, "blocks.go:70", #[⟨10, .data⟩], none⟩) (v := ?vbmLook_chain86r5o11) rfl (by kernel_rfl) (by kernel_rfl) (by kernel_rfl) (fun _ _ _ h => h) (Or.inl ⟨by rfl, ?hbmLook_chain86r5o11⟩) hS ?_
 case hbmLook_chain86r5o11 => (intro wx hx; obtain ⟨c0, c1, c2, c3, c4⟩ := BM.cells hx; go_simp; (try with_reducible rfl))
 try simp only [Act.put, List.setIfInBounds_toArray, List.set_cons_zero, List.set_cons_succ]
 refine wpAnyH_ready (rs := [12, 16]) (by kernel_rfl) (by simp) ?_
 refine AllReadyH.cons (o := ⟨some 33, .call { callee := Callee.value (Operand.func 73), args := #[.tmp 24, .tmp 28, .tmp 32], argTypes := #[32, 23, 3] }, 134, "blocks.go:70", #[⟨3, .data⟩, ⟨7, .data⟩, ⟨11, .data⟩], none⟩) rfl (fun K hK => ?_) ?_
 ·
  go_simp
  refine (HG.out _ _ hOr.out).mono ?_
  rintro e wB ⟨rfl, hOB⟩
  have hS1 : BM XM g a b c n _ := HB.out _ _ hOB
  clear hOr
  have hOr := Lib.hid hOB
  clear hOB
  refine hK.out _ _ ?hsbmLook_chainx186r5o12 (fun hS => ?_)
  case hsbmLook_chainx186r5o12 => (exact hS1)
  clear hK K
  try simp only [Act.put, List.setIfInBounds_toArray, List.set_cons_zero, List.set_cons_succ]
  refine wpAnyH_take (i := 13) (oi := ⟨some 20, .move (.tmp 33), 134, "blocks.go:70", #[⟨12, .data⟩], none⟩) (v := ?vbmLook_chainx186r5o13) rfl (by kernel_rfl) (by kernel_rfl) (by kernel_rfl) (fun _ _ _ h => h) (Or.inl ⟨by rfl, ?hbmLook_chainx186r5o13⟩) hS ?_
  case hbmLook_chainx186r5o13 => (intro wx hx; skip; go_simp; (try with_reducible rfl))
  try simp only [Act.put, List.setIfInBounds_toArray, List.set_cons_zero, List.set_cons_succ]
  refine wpAnyH_take (i := 14) (oi := ⟨some 34, .extract (.tmp 20) 0, 133, "blocks.go:70", #[⟨13, .data⟩], none⟩) (v := ?vbmLook_chainx186r5o14) rfl (by kernel_rfl) (by kernel_rfl) (by kernel_rfl) (fun _ _ _ h => h) (Or.inl ⟨by rfl, ?hbmLook_chainx186r5o14⟩) hS ?_
  case hbmLook_chainx186r5o14 => (intro wx hx; skip; go_simp; (try with_reducible rfl))
  try simp only [Act.put, List.setIfInBounds_toArray, List.set_cons_zero, List.set_cons_succ]
  refine wpAnyH_take (i := 15) (oi := ⟨some 35, .extract (.tmp 20) 1, 45, "blocks.go:70", #[⟨13, .data⟩, { on := 17, ground := Ground.gcOnly Departure.lateStores }], none⟩) (v := ?vbmLook_chainx186r5o15) rfl (by kernel_rfl) (by kernel_rfl) (by kernel_rfl) (fun _ _ _ h => h) (Or.inl ⟨by rfl, ?hbmLook_chainx186r5o15⟩) hS ?_
  case hbmLook_chainx186r5o15 => (intro wx hx; skip; go_simp; (try with_reducible rfl))
  try simp only [Act.put, List.setIfInBounds_toArray, List.set_cons_zero, List.set_cons_succ]
  refine wpAnyH_ready (rs := [16]) (by kernel_rfl) (by simp) ?_
  refine AllReadyH.cons (o := ⟨some 7, .alloc 133, 0, "blocks.go:70", #[], none⟩) rfl (fun K hK => ?_) AllReadyH.nil
  go_simp
  have hS1 : BM XM g a b c n _ := hS.grown (World.grownBy_alloc _ (.cells #[.int .u64 0, .int .u64 0, .int .u64 0, .int .u64 0, .int .u64 0, .int .u64 0, .int .u64 0, .int .u64 0, .int .u64 0, .int .u64 0] 133) none)
  have hOn := hOr.out.addBox 133 #[.int .u64 0, .int .u64 0, .int .u64 0, .int .u64 0, .int .u64 0, .int .u64 0, .int .u64 0, .int .u64 0, .int .u64 0, .int .u64 0]
  rw [List.append_assoc, List.nil_append] at hOn
  clear hOr
  first | (obtain ⟨N, hN⟩ : ∃ N, wB.heap.size = N := ⟨_, rfl⟩; obtain ⟨wz, hwz⟩ : ∃ wz, wB.alloc (.cells #[.int .u64 0, .int .u64 0, .int .u64 0, .int .u64 0, .int .u64 0, .int .u64 0, .int .u64 0, .int .u64 0, .int .u64 0, .int .u64 0] 133) = wz := ⟨_, rfl⟩; rw [hN, hwz] at hOn; rw [hwz] at hS1; (try rw [hwz]); (first | rw [hN] | rw [show w.heap.size = N from hN])) | (obtain ⟨N, hN⟩ : ∃ N, w.heap.size = N := ⟨_, rfl⟩; obtain ⟨wz, hwz⟩ : ∃ wz, (w.alloc (.cells #[.int .u64 0, .int .u64 0, .int .u64 0, .int .u64 0, .int .u64 0, .int .u64 0, .int .u64 0, .int .u64 0, .int .u64 0, .int .u64 0] 133)).drew = wz := ⟨_, rfl⟩; rw [show w.drew.alloc (.cells #[.int .u64 0, .int .u64 0, .int .u64 0, .int .u64 0, .int .u64 0, .int .u64 0, .int .u64 0, .int .u64 0, .int .u64 0, .int .u64 0] 133) = wz from hwz] at hOn hS1; rw [show w.drew.heap.size = N from hN] at hOn; rw [hwz, hN])
  have hOr := Lib.hid hOn
  clear hOn hwz hN
  refine hK.out _ _ ?hsbmLook_chainx186r5o16 (fun hS => ?_)
  case hsbmLook_chainx186r5o16 => (exact hS1)
  clear hK K
  try simp only [Act.put, List.setIfInBounds_toArray, List.set_cons_zero, List.set_cons_succ]
  refine wpAnyH_ready (rs := [17]) (by kernel_rfl) (by simp) ?_
  refine AllReadyH.cons (o := ⟨none, .store 133 (.tmp 7) (.tmp 34), 0, "blocks.go:70", #[⟨16, .data⟩, ⟨14, .data⟩, ⟨12, .chain⟩, ⟨0, .phase⟩, ⟨1, .phase⟩, ⟨2, .phase⟩, ⟨3, .phase⟩, ⟨4, .phase⟩, ⟨5, .phase⟩, ⟨6, .phase⟩, ⟨7, .phase⟩, ⟨8, .phase⟩, ⟨9, .phase⟩, ⟨10, .phase⟩, ⟨11, .phase⟩, ⟨12, .phase⟩, ⟨13, .phase⟩, ⟨14, .phase⟩, { on := 15, ground := Ground.textOnly Departure.lateStores }, ⟨16, .phase⟩], none⟩) rfl (fun K hK => ?_) AllReadyH.nil
  obtain ⟨⟨z0, z1, z2, z3, z4, z5, z6, z7, z8, z9⟩, q0, q1, q2, q3, q4, q5, q6, q7, q8, q9⟩ := node_zero hOr.out
  go_simp
  obtain ⟨wn, hwn, hOx⟩ := node_stored f0 f1 f2 f3 f4 f5 f6 f7 f8 f9 hOr.out
  rw [hwn]
  have hOn := Lib.hid hOx
  clear hwn hOx
  refine hK.out _ _ ?hs17 (fun hS => ?_)
  case hs17 => exact HB.out _ _ hOn.out
  clear hK K hOr z0 z1 z2 z3 z4 z5 z6 z7 z8 z9 q0 q1 q2 q3 q4 q5 q6 q7 q8 q9
  have hOr := Lib.hid hOn.out
  clear hOn
  try simp only [Act.put, List.setIfInBounds_toArray, List.set_cons_zero, List.set_cons_succ]
  refine wpAnyH_take (i := 18) (oi := ⟨some 6, .assign (.tmp 35), 45, "blocks.go:70", #[⟨15, .data⟩, ⟨17, .chain⟩, ⟨0, .phase⟩, ⟨1, .phase⟩, ⟨2, .phase⟩, ⟨3, .phase⟩, ⟨4, .phase⟩, ⟨5, .phase⟩, ⟨6, .phase⟩, ⟨7, .phase⟩, ⟨8, .phase⟩, ⟨9, .phase⟩, ⟨10, .phase⟩, ⟨11, .phase⟩, ⟨12, .phase⟩, ⟨13, .phase⟩, ⟨14, .phase⟩, ⟨15, .phase⟩, ⟨16, .phase⟩, ⟨17, .phase⟩], none⟩) (v := ?vbmLook_chainx186r5o18) rfl (by kernel_rfl) (by kernel_rfl) (by kernel_rfl) (fun _ _ _ h => h) (Or.inl ⟨by rfl, ?hbmLook_chainx186r5o18⟩) hS ?_
  case hbmLook_chainx186r5o18 => (intro wx hx; skip; go_simp; (try with_reducible rfl))
  try simp only [Act.put, List.setIfInBounds_toArray, List.set_cons_zero, List.set_cons_succ]
  refine wpAnyH_done (by kernel_rfl) ?_ _
  obtain ⟨z0, z1, z2, z3, z4, z5, z6, z7, z8, z9⟩ := node_have hOr.out
  obtain ⟨c0, c1, c2, c3, c4⟩ := BM.cells hS
  go_wp2_with fail
  refine (HD.out _ hS).mono ?_
  rintro e wC ⟨rfl, hgC⟩
  have hS2 := hS.grown hgC
  have hOn := Lib.hid (hOr.out.quiet hgC)
  clear hOr hgC hS z0 z1 z2 z3 z4 z5 z6 z7 z8 z9 c0 c1 c2 c3 c4
  obtain ⟨c0, c1, c2, c3, c4⟩ := BM.cells hS2
  go_wp2_with fail
  refine (HV.out _ _ (by simpa using hOn.out)).mono ?_
  rintro e wD ⟨rfl, rfl⟩
  go_wp2
  go_ret3
  exact ⟨rfl, hOn.out.less⟩
 refine AllReadyH.cons (o := ⟨some 7, .alloc 133, 0, "blocks.go:70", #[], none⟩) rfl (fun K hK => ?_) ?_
 ·
  go_simp
  have hS1 : BM XM g a b c n _ := hS.grown (World.grownBy_alloc _ (.cells #[.int .u64 0, .int .u64 0, .int .u64 0, .int .u64 0, .int .u64 0, .int .u64 0, .int .u64 0, .int .u64 0, .int .u64 0, .int .u64 0] 133) none)
  have hOn := hOr.out.addBox 133 #[.int .u64 0, .int .u64 0, .int .u64 0, .int .u64 0, .int .u64 0, .int .u64 0, .int .u64 0, .int .u64 0, .int .u64 0, .int .u64 0]
  rw [List.append_assoc, List.nil_append] at hOn
  clear hOr
  first | (obtain ⟨N, hN⟩ : ∃ N, wB.heap.size = N := ⟨_, rfl⟩; obtain ⟨wz, hwz⟩ : ∃ wz, wB.alloc (.cells #[.int .u64 0, .int .u64 0, .int .u64 0, .int .u64 0, .int .u64 0, .int .u64 0, .int .u64 0, .int .u64 0, .int .u64 0, .int .u64 0] 133) = wz := ⟨_, rfl⟩; rw [hN, hwz] at hOn; rw [hwz] at hS1; (try rw [hwz]); (first | rw [hN] | rw [show w.heap.size = N from hN])) | (obtain ⟨N, hN⟩ : ∃ N, w.heap.size = N := ⟨_, rfl⟩; obtain ⟨wz, hwz⟩ : ∃ wz, (w.alloc (.cells #[.int .u64 0, .int .u64 0, .int .u64 0, .int .u64 0, .int .u64 0, .int .u64 0, .int .u64 0, .int .u64 0, .int .u64 0, .int .u64 0] 133)).drew = wz := ⟨_, rfl⟩; rw [show w.drew.alloc (.cells #[.int .u64 0, .int .u64 0, .int .u64 0, .int .u64 0, .int .u64 0, .int .u64 0, .int .u64 0, .int .u64 0, .int .u64 0, .int .u64 0] 133) = wz from hwz] at hOn hS1; rw [show w.drew.heap.size = N from hN] at hOn; rw [hwz, hN])
  have hOr := Lib.hid hOn
  clear hOn hwz hN
  refine hK.out _ _ ?hsbmLook_chainx386r5o16 (fun hS => ?_)
  case hsbmLook_chainx386r5o16 => (exact hS1)
  clear hK K
  try simp only [Act.put, List.setIfInBounds_toArray, List.set_cons_zero, List.set_cons_succ]
  refine wpAnyH_ready (rs := [12]) (by kernel_rfl) (by simp) ?_
  refine AllReadyH.cons (o := ⟨some 33, .call { callee := Callee.value (Operand.func 73), args := #[.tmp 24, .tmp 28, .tmp 32], argTypes := #[32, 23, 3] }, 134, "blocks.go:70", #[⟨3, .data⟩, ⟨7, .data⟩, ⟨11, .data⟩], none⟩) rfl (fun K hK => ?_) AllReadyH.nil
  go_simp
  refine (HG.out _ _ hOr.out).mono ?_
  rintro e wB ⟨rfl, hOB⟩
  have hS1 : BM XM g a b c n _ := HB.out _ _ hOB
  clear hOr
  have hOr := Lib.hid hOB
  clear hOB
  refine hK.out _ _ ?hsbmLook_chainx386r5o12 (fun hS => ?_)
  case hsbmLook_chainx386r5o12 => (exact hS1)
  clear hK K
  try simp only [Act.put, List.setIfInBounds_toArray, List.set_cons_zero, List.set_cons_succ]
  refine wpAnyH_take (i := 13) (oi := ⟨some 20, .move (.tmp 33), 134, "blocks.go:70", #[⟨12, .data⟩], none⟩) (v := ?vbmLook_chainx386r5o13) rfl (by kernel_rfl) (by kernel_rfl) (by kernel_rfl) (fun _ _ _ h => h) (Or.inl ⟨by rfl, ?hbmLook_chainx386r5o13⟩) hS ?_
  case hbmLook_chainx386r5o13 => (intro wx hx; skip; go_simp; (try with_reducible rfl))
  try simp only [Act.put, List.setIfInBounds_toArray, List.set_cons_zero, List.set_cons_succ]
  refine wpAnyH_take (i := 14) (oi := ⟨some 34, .extract (.tmp 20) 0, 133, "blocks.go:70", #[⟨13, .data⟩], none⟩) (v := ?vbmLook_chainx386r5o14) rfl (by kernel_rfl) (by kernel_rfl) (by kernel_rfl) (fun _ _ _ h => h) (Or.inl ⟨by rfl, ?hbmLook_chainx386r5o14⟩) hS ?_
  case hbmLook_chainx386r5o14 => (intro wx hx; skip; go_simp; (try with_reducible rfl))
  try simp only [Act.put, List.setIfInBounds_toArray, List.set_cons_zero, List.set_cons_succ]
  refine wpAnyH_take (i := 15) (oi := ⟨some 35, .extract (.tmp 20) 1, 45, "blocks.go:70", #[⟨13, .data⟩, { on := 17, ground := Ground.gcOnly Departure.lateStores }], none⟩) (v := ?vbmLook_chainx386r5o15) rfl (by kernel_rfl) (by kernel_rfl) (by kernel_rfl) (fun _ _ _ h => h) (Or.inl ⟨by rfl, ?hbmLook_chainx386r5o15⟩) hS ?_
  case hbmLook_chainx386r5o15 => (intro wx hx; skip; go_simp; (try with_reducible rfl))
  try simp only [Act.put, List.setIfInBounds_toArray, List.set_cons_zero, List.set_cons_succ]
  refine wpAnyH_ready (rs := [17]) (by kernel_rfl) (by simp) ?_
  refine AllReadyH.cons (o := ⟨none, .store 133 (.tmp 7) (.tmp 34), 0, "blocks.go:70", #[⟨16, .data⟩, ⟨14, .data⟩, ⟨12, .chain⟩, ⟨0, .phase⟩, ⟨1, .phase⟩, ⟨2, .phase⟩, ⟨3, .phase⟩, ⟨4, .phase⟩, ⟨5, .phase⟩, ⟨6, .phase⟩, ⟨7, .phase⟩, ⟨8, .phase⟩, ⟨9, .phase⟩, ⟨10, .phase⟩, ⟨11, .phase⟩, ⟨12, .phase⟩, ⟨13, .phase⟩, ⟨14, .phase⟩, { on := 15, ground := Ground.textOnly Departure.lateStores }, ⟨16, .phase⟩], none⟩) rfl (fun K hK => ?_) AllReadyH.nil
  obtain ⟨⟨z0, z1, z2, z3, z4, z5, z6, z7, z8, z9⟩, q0, q1, q2, q3, q4, q5, q6, q7, q8, q9⟩ := node_zero hOr.out
  go_simp
  obtain ⟨wn, hwn, hOx⟩ := node_stored f0 f1 f2 f3 f4 f5 f6 f7 f8 f9 hOr.out
  rw [hwn]
  have hOn := Lib.hid hOx
  clear hwn hOx
  refine hK.out _ _ ?hs17 (fun hS => ?_)
  case hs17 => exact HB.out _ _ hOn.out
  clear hK K hOr z0 z1 z2 z3 z4 z5 z6 z7 z8 z9 q0 q1 q2 q3 q4 q5 q6 q7 q8 q9
  have hOr := Lib.hid hOn.out
  clear hOn
  try simp only [Act.put, List.setIfInBounds_toArray, List.set_cons_zero, List.set_cons_succ]
  refine wpAnyH_take (i := 18) (oi := ⟨some 6, .assign (.tmp 35), 45, "blocks.go:70", #[⟨15, .data⟩, ⟨17, .chain⟩, ⟨0, .phase⟩, ⟨1, .phase⟩, ⟨2, .phase⟩, ⟨3, .phase⟩, ⟨4, .phase⟩, ⟨5, .phase⟩, ⟨6, .phase⟩, ⟨7, .phase⟩, ⟨8, .phase⟩, ⟨9, .phase⟩, ⟨10, .phase⟩, ⟨11, .phase⟩, ⟨12, .phase⟩, ⟨13, .phase⟩, ⟨14, .phase⟩, ⟨15, .phase⟩, ⟨16, .phase⟩, ⟨17, .phase⟩], none⟩) (v := ?vbmLook_chainx386r5o18) rfl (by kernel_rfl) (by kernel_rfl) (by kernel_rfl) (fun _ _ _ h => h) (Or.inl ⟨by rfl, ?hbmLook_chainx386r5o18⟩) hS ?_
  case hbmLook_chainx386r5o18 => (intro wx hx; skip; go_simp; (try with_reducible rfl))
  try simp only [Act.put, List.setIfInBounds_toArray, List.set_cons_zero, List.set_cons_succ]
  refine wpAnyH_done (by kernel_rfl) ?_ _
  obtain ⟨z0, z1, z2, z3, z4, z5, z6, z7, z8, z9⟩ := node_have hOr.out
  obtain ⟨c0, c1, c2, c3, c4⟩ := BM.cells hS
  go_wp2_with fail
  refine (HD.out _ hS).mono ?_
  rintro e wC ⟨rfl, hgC⟩
  have hS2 := hS.grown hgC
  have hOn := Lib.hid (hOr.out.quiet hgC)
  clear hOr hgC hS z0 z1 z2 z3 z4 z5 z6 z7 z8 z9 c0 c1 c2 c3 c4
  obtain ⟨c0, c1, c2, c3, c4⟩ := BM.cells hS2
  go_wp2_with fail
  refine (HV.out _ _ (by simpa using hOn.out)).mono ?_
  rintro e wD ⟨rfl, rfl⟩
  go_wp2
  go_ret3
  exact ⟨rfl, hOn.out.less⟩
 exact AllReadyH.nil
end Go.Proofs.YtfljlmmiiccooaaGreatDoor
end
section
namespace Go.Grommet
theorem Own.skip {w0 w : World} {Ps Qs : List Pr} {B : Pr} (h : Own w0 w (Ps ++ B :: Qs)) : Own w0 w (Ps ++ Qs) := by
 obtain ⟨Fs, h1, h2, h3, h4⟩ := h
 obtain ⟨f, hf⟩ : ∃ f : Nat → Nat, ∀ j, f j = if j < Ps.length then j else j + 1 := ⟨fun j => if j < Ps.length then j else j + 1, fun _ => rfl⟩
 have hg : ∀ j, (Ps ++ Qs)[j]? = (Ps ++ B :: Qs)[f j]? := by
  intro j
  rw [hf]
  split
  ·rename_i hj
   rw [List.getElem?_append_left hj, List.getElem?_append_left hj]
  ·rename_i hj
   rw [List.getElem?_append_right (by omega), List.getElem?_append_right (by omega), show j + 1 - Ps.length = (j - Ps.length) + 1 from by omega, List.getElem?_cons_succ]
 have hl : ∀ j, j < (Ps ++ Qs).length → f j < (Ps ++ B :: Qs).length := by
  intro j hj
  rw [List.length_append] at hj
  rw [hf, List.length_append, List.length_cons]
  split <;> omega
 refine ⟨fun j => Fs (f j), fun k P hk => h1 (f k) P (by rw [← hg]; exact hk), fun j k hj hk hne => h2 (f j) (f k) (hl j hj) (hl k hk) (fun e => hne ?_), fun k hk => h3 (f k) (hl k hk), h4⟩
 rw [hf, hf] at e
 split at e <;> split at e <;> omega
end Go.Grommet
namespace Go.Proofs.YtfljlmmiiccooaaGreatDoor
open Go.RowKit Go.Grommet
set_option linter.unusedVariables false
def nodeF (xs : List Nat) (L : List (Nat × Nat)) (A i : Nat) : Nat := gotI xs L ((A : Int) + (i : Int))
structure NodeOk (xs : List Nat) (L : List (Nat × Nat)) (a b c n A : Nat) : Prop where
 may : mayB (a : Int) (b : Int) (c : Int) = true
 pos : 1 ≤ n
 below : n < b
 place : 280 + 208 * a + 16 * n = A
 fits : 280 + 208 * a + 16 * b + 8 * c ≤ xs.length
 few : xs.length ≤ 1000000
 right : rightB (a : Int) (b : Int) (c : Int) (nodeF xs L A 0) (nodeF xs L A 1) (nodeF xs L A 2) (nodeF xs L A 3) (nodeF xs L A 4) (nodeF xs L A 5) (nodeF xs L A 6) (nodeF xs L A 7) (nodeF xs L A 8) (nodeF xs L A 9) = true
theorem NodeOk.inode {xs : List Nat} {L : List (Nat × Nat)} {a b c n A : Nat} (h : NodeOk xs L a b c n A) : inodeV (a : Int) (b : Int) (c : Int) (n : Int) = (A : Int) := by
 have h1 := h.pos
 have h2 := h.below
 have h3 := h.place
 unfold inodeV
 rw [if_pos ⟨h.may, by omega, by omega⟩]
 omega
theorem get_ok0 (kv g a b c n A : Nat) (xs : List Nat) (L : List (Nat × Nat)) (w0 : World) (Ps : List Pr) (hv : Ps[kv]? = some (viewP g xs L)) (hN : NodeOk xs L a b c n A) : ∀ wx Qs, Grommet.Own w0 wx (Ps ++ Qs) → Calls Tryz.prog 73 #[.pointer (some ⟨g, 0, none⟩), gv (a : Int) (b : Int) (c : Int), .int .i64 (n : Int)] wx fun e w' => e = .returned (.tuple #[nv (nodeF xs L A 0) (nodeF xs L A 1) (nodeF xs L A 2) (nodeF xs L A 3) (nodeF xs L A 4) (nodeF xs L A 5) (nodeF xs L A 6) (nodeF xs L A 7) (nodeF xs L A 8) (nodeF xs L A 9), .int .i64 0]) ∧ Grommet.Own w0 w' (Ps ++ Qs) := by
 intro wx Qs hO
 have h1 := hN.pos
 have h2 := hN.below
 have h3 := hN.place
 have h4 := hN.fits
 exact GetYes kv g xs L a b c n A (nodeF xs L A 0) (nodeF xs L A 1) (nodeF xs L A 2) (nodeF xs L A 3) (nodeF xs L A 4) (nodeF xs L A 5) (nodeF xs L A 6) (nodeF xs L A 7) (nodeF xs L A 8) (nodeF xs L A 9) w0 wx (Ps ++ Qs) hO (by rw [List.getElem?_append_left (List.getElem?_eq_some_iff.1 hv).1]; exact hv) (by omega) hN.inode ⟨by omega, by have := mayN hN.may; omega⟩ hN.few (by rw [words_pos' hN.may]; omega)
  (fun i hi => by
   match i, hi with
   | 0, _ => rfl
   | 1, _ => rfl
   | 2, _ => rfl
   | 3, _ => rfl
   | 4, _ => rfl
   | 5, _ => rfl
   | 6, _ => rfl
   | 7, _ => rfl
   | 8, _ => rfl
   | 9, _ => rfl) hN.right
theorem get_ok (kv km XM g a b c n A : Nat) (xs : List Nat) (L : List (Nat × Nat)) (w0 : World) (Ps : List Pr) (hv : Ps[kv]? = some (viewP g xs L)) (hm : Ps[km]? = some (bmP XM g a b c n)) (hN : NodeOk xs L a b c n A) : ∀ wx Qs, Grommet.Own w0 wx (Ps ++ Qs) → Calls Tryz.prog 73 #[.pointer (some ⟨g, 0, none⟩), gv (a : Int) (b : Int) (c : Int), .int .i64 (n : Int)] wx fun e w' => e = .returned (.tuple #[nv (nodeF xs L A 0) (nodeF xs L A 1) (nodeF xs L A 2) (nodeF xs L A 3) (nodeF xs L A 4) (nodeF xs L A 5) (nodeF xs L A 6) (nodeF xs L A 7) (nodeF xs L A 8) (nodeF xs L A 9), .int .i64 0]) ∧ Grommet.Own w0 w' (Ps ++ Qs) := get_ok0 kv g a b c n A xs L w0 Ps hv hN
def LookC (XM : Nat) (k p v e : Int) (w0 : World) (Ps : List Pr) : Prop := ∀ w, Grommet.Own w0 w Ps → Calls Tryz.prog 86 #[.pointer (some ⟨XM, 0, none⟩), .int .i64 k] w fun e' w' => e' = .returned (.tuple #[.int .i64 p, .int .i64 v, .int .i64 e]) ∧ Grommet.Own w0 w' Ps
theorem look_dir (kv km XM g a b c n A : Nat) (xs : List Nat) (L : List (Nat × Nat)) (w0 : World) (Ps : List Pr) (hv : Ps[kv]? = some (viewP g xs L)) (hm : Ps[km]? = some (bmP XM g a b c n)) (hN : NodeOk xs L a b c n A) (k V : Nat) (hk : k < 4) (hV : nodeF xs L A (4 + k) = V) (hVc : V < c) : LookC XM k ((A + 4 + k : Nat) : Int) V 0 w0 Ps := by
 intro w h
 have hq := mayN hN.may
 have h3 := hN.place
 have h2 := hN.below
 have e : ((A + 4 + k : Nat) : Int) = (A : Int) + (4 + (k : Int)) := by omega
 rw [e]
 exact bmLook_direct kv km XM g a b c n k (nodeF xs L A 0) (nodeF xs L A 1) (nodeF xs L A 2) (nodeF xs L A 3) (nodeF xs L A 4) (nodeF xs L A 5) (nodeF xs L A 6) (nodeF xs L A 7) (nodeF xs L A 8) (nodeF xs L A 9) xs L w0 w Ps h hv hm A V hN.inode (by omega) ⟨by omega, by omega⟩ (by rw [← hV]; unfold nodeF; congr 1 <;> omega) (by omega) hVc (get_ok kv km XM g a b c n A xs L w0 Ps hv hm hN)
theorem look_none (kv km XM g a b c n A : Nat) (xs : List Nat) (L : List (Nat × Nat)) (w0 : World) (Ps : List Pr) (hv : Ps[kv]? = some (viewP g xs L)) (hm : Ps[km]? = some (bmP XM g a b c n)) (hN : NodeOk xs L a b c n A) (k : Nat) (hk : 4 ≤ k ∧ k < 12) (h8 : nodeF xs L A 8 = 0) : LookC XM k (-1) 0 0 w0 Ps := by
 intro w h
 exact bmLook_none kv km XM g a b c n k (nodeF xs L A 0) (nodeF xs L A 1) (nodeF xs L A 2) (nodeF xs L A 3) (nodeF xs L A 4) (nodeF xs L A 5) (nodeF xs L A 6) (nodeF xs L A 7) (nodeF xs L A 8) (nodeF xs L A 9) xs L w0 w Ps h hv hm ⟨by omega, by omega⟩ h8 (get_ok kv km XM g a b c n A xs L w0 Ps hv hm hN)
theorem look_chain (kv km XM g a b c n A : Nat) (xs : List Nat) (L : List (Nat × Nat)) (w0 : World) (Ps : List Pr) (hv : Ps[kv]? = some (viewP g xs L)) (hm : Ps[km]? = some (bmP XM g a b c n)) (hN : NodeOk xs L a b c n A) (k C T V : Nat) (hk : 4 ≤ k ∧ k < 12) (h8 : nodeF xs L A 8 = C) (hC : 1 ≤ C ∧ C < c) (hT : 280 + 208 * a + 16 * b + 8 * C + k = T + 4) (hV : gotI xs L (T : Int) = V) (hVc : V < c) : LookC XM k T V 0 w0 Ps := by
 intro w h
 have hq := mayN hN.may
 exact bmLook_chain kv km XM g a b c n k (nodeF xs L A 0) (nodeF xs L A 1) (nodeF xs L A 2) (nodeF xs L A 3) (nodeF xs L A 4) (nodeF xs L A 5) (nodeF xs L A 6) (nodeF xs L A 7) (nodeF xs L A 8) (nodeF xs L A 9) xs L w0 w Ps h hv hm (280 + 208 * a + 16 * b + 8 * C) V T ⟨by omega, by omega⟩ (by rw [h8]; omega) (by rw [h8]; omega) (by rw [h8]; unfold blockV; rw [if_pos ⟨hN.may, by omega, by omega⟩] <;> omega) (by omega) (by omega) hV (by omega) hVc (get_ok kv km XM g a b c n A xs L w0 Ps hv hm hN)
theorem bmAt (XM : Nat) (k p v e : Int) (w0 w : World) (Ps : List Pr) (h : Grommet.Own w0 w Ps) (hL : LookC XM k p v e w0 Ps) :
  Calls Tryz.prog 52 #[.pointer (some ⟨XM, 0, none⟩), .int .i64 k] w fun e' w' => e' = .returned (.tuple #[.int .i64 v, .int .i64 e]) ∧ Grommet.Own w0 w' Ps := by
 have HL := Lib.hid (hL w h)
 clear h hL
 go_enter Tryz.func52, Tryz.ntmps52
 go_wp2_with fail
 refine HL.out.mono ?_
 rintro e' w1 ⟨rfl, hO⟩
 have hO := Lib.hid hO
 clear HL
 go_wp2
 go_ret2
 exact ⟨rfl, hO.out⟩
def needV (p v e : Int) : Int := if e ≠ 0 ∨ v ≠ 0 then 0 else if p = -1 then 2 else 1
theorem bmNeed (XM : Nat) (k p v e r : Int) (w0 w : World) (Ps : List Pr) (h : Grommet.Own w0 w Ps) (hL : LookC XM k p v e w0 Ps) (hr : needV p v e = r) :
  Calls Tryz.prog 109 #[.pointer (some ⟨XM, 0, none⟩), .int .i64 k] w fun e' w' => e' = .returned (.int .i64 r) ∧ Grommet.Own w0 w' Ps := by
 have HL := Lib.hid (hL w h)
 clear h hL
 unfold needV at hr
 by_cases he : e = 0
 ·have e1 : (e != 0) = false := by simpa using he
  by_cases hv : v = 0
  ·have e2 : (v != 0) = false := by simpa using hv
   rw [if_neg (by omega)] at hr
   by_cases hp : p = -1
   ·rw [if_pos hp] at hr
    have e3 : (p == -1) = true := by simpa using hp
    clear he hv hp
    subst hr
    go_enter Tryz.func109, Tryz.ntmps109
    go_wp2_with fail
    refine HL.out.mono ?_
    rintro e' w1 ⟨rfl, hO⟩
    have hO := Lib.hid hO
    clear HL
    go_wp2
    go_ret
    exact ⟨rfl, hO.out⟩
   ·rw [if_neg hp] at hr
    have e3 : (p == -1) = false := by simpa using hp
    clear he hv hp
    subst hr
    go_enter Tryz.func109, Tryz.ntmps109
    go_wp2_with fail
    refine HL.out.mono ?_
    rintro e' w1 ⟨rfl, hO⟩
    have hO := Lib.hid hO
    clear HL
    go_wp2
    go_ret
    exact ⟨rfl, hO.out⟩
  ·have e2 : (v != 0) = true := by simpa using hv
   rw [if_pos (.inr hv)] at hr
   clear he hv
   subst hr
   go_enter Tryz.func109, Tryz.ntmps109
   go_wp2_with fail
   refine HL.out.mono ?_
   rintro e' w1 ⟨rfl, hO⟩
   have hO := Lib.hid hO
   clear HL
   go_wp2
   go_ret
   exact ⟨rfl, hO.out⟩
 ·have e1 : (e != 0) = true := by simpa using he
  rw [if_pos (.inl he)] at hr
  clear he
  subst hr
  go_enter Tryz.func109, Tryz.ntmps109
  go_wp2_with fail
  refine HL.out.mono ?_
  rintro e' w1 ⟨rfl, hO⟩
  have hO := Lib.hid hO
  clear HL
  go_wp2
  go_ret
  exact ⟨rfl, hO.out⟩
end Go.Proofs.YtfljlmmiiccooaaGreatDoor
end
section
namespace Go.Proofs.YtfljlmmiiccooaaGreatDoor
open Go.RowKit Go.Grommet
set_option linter.unusedVariables false
theorem bm_set_length {xs : List Nat} {L : List (Nat × Nat)} {A m : Nat} {i : Int} {is : Bool} : (setMI xs L A m i is).length ≤ L.length + 1 := by
 unfold setMI
 split
 ·exact putI_length _ _ _ _
 ·omega
theorem setE_fine {xs : List Nat} {L : List (Nat × Nat)} {a : Int} {v : Nat} (hl : L.length < 96) (ha : 0 ≤ a ∧ a < (xs.length : Int)) : setE xs L a v = 0 := by
 unfold setE
 rw [if_pos ha]
 split
 ·rfl
 ·unfold putE
  split
  ·rfl
  ·rw [if_neg (by omega)]
theorem bmTake (kv km kI kB kA g a b c XI XB XA XM n m P : Nat) (t : Int) (xs : List Nat) (L : List (Nat × Nat)) (w0 w : World) (Ps : List Pr) (h : Grommet.Own w0 w Ps) (hA : AlcIs Ps kv kI kB kA g a b c XI XB XA xs L) (hm : Ps[km]? = some (bmP XM g a b c n)) (hkm : kv ≠ km)
  (htab : Lib.TabIs Tryz.prog w0 "math/bits.deBruijn64tab" .u8 tab) (hc : ClrR (mbit xs L (272 + 208 * a)) c (m : Int) true) (hn : m < c) (h1 : 1 ≤ m) (hP : 280 + 208 * a + 16 * b + 8 * m = P) (hl : L.length ≤ 80) (h3 : kv ≠ kA) (ht : 0 ≤ t ∧ t < (xs.length : Int)) :
  Calls Tryz.prog 110 #[.pointer (some ⟨XM, 0, none⟩), .pointer (some ⟨XA, 0, none⟩), .int .i64 t] w fun e w' => e = .returned (.tuple #[.int .i64 (m : Int), .int .i64 0]) ∧ Grommet.Own w0 w' (Ps.set kv (viewP g xs (setL xs (zeroL xs P (setMI xs L (272 + 208 * a) c (m : Int) true) 8) t m))) := by
 have HT := Lib.hid (TakeBlockYes kv kI kB kA g a b c XI XB XA m P xs L w0 w Ps h hA htab hc hn hP hl h3)
 have hz := zeroL_length xs P (setMI xs L (272 + 208 * a) c (m : Int) true) 8
 have hz2 := bm_set_length (xs := xs) (L := L) (A := 272 + 208 * a) (m := c) (i := (m : Int)) (is := true)
 have hmN := mayN hA.may
 obtain ⟨M, eM⟩ : ∃ M, zeroL xs P (setMI xs L (272 + 208 * a) c (m : Int) true) 8 = M := ⟨_, rfl⟩
 rw [eM] at HT hz ⊢
 have hv := hA.view
 have HS := Lib.hid (fun wx Rs (hO : Grommet.Own w0 wx (Ps.set kv (viewP g xs M) ++ Rs)) => SetH kv g xs M t m 0 w0 wx _ _ hO (by rw [List.getElem?_append_left (by rw [List.length_set]; exact (List.getElem?_eq_some_iff.1 hv).1)]; exact set_at _ hv) (by omega) (by rw [setE_fine (by omega) ht]; rfl) rfl)
 have HB := Lib.hid (show ∀ wx Rs, Grommet.Own w0 wx (Ps.set kv (viewP g xs M) ++ Rs) → BM XM g a b c n wx from fun wx Rs hO => BM.of (k := km) hO (by rw [List.getElem?_append_left (by rw [List.length_set]; exact (List.getElem?_eq_some_iff.1 hm).1)]; exact set_same_at _ _ hm hkm))
 have HQ := Lib.hid (show ∀ wx Rs, Grommet.Own w0 wx ((Ps.set kv (viewP g xs M) ++ Rs).set kv (viewP g xs (setL xs M t m))) → Grommet.Own w0 wx (Ps.set kv (viewP g xs (setL xs M t m))) from fun wx Rs hO => by
  rw [List.set_append_left _ _ (by rw [List.length_set]; exact (List.getElem?_eq_some_iff.1 hv).1), List.set_set] at hO
  exact hO.less)
 have wm : IntKind.u64.wrap (m : Int) = (m : Int) := IntWalk.u64_in _ ⟨by omega, by omega⟩
 have e0 : ((m : Int) == 0) = false := by simp <;> omega
 have e1 : ¬ (m : Int) = 0 := by omega
 clear h hA hm hkm htab hc hn h1 hP hl h3 ht hz hz2 hmN eM hv
 go_enter Tryz.func110, Tryz.ntmps110
 go_wp2_with fail
 refine HT.out.mono ?_
 rintro e w1 ⟨q, rfl, hO1⟩
 obtain ⟨c0, c1, c2, c3, c4⟩ := (HB.out _ _ hO1).cells
 have hO1 := Lib.hid hO1
 clear HT
 go_wp2_with fail
 refine (HS.out _ _ hO1.out).mono ?_
 rintro e w2 ⟨rfl, hO2⟩
 have hOE := Lib.hid (HQ.out _ _ hO2)
 clear hO2 hO1 HS HB HQ c0 c1 c2 c3 c4
 go_wp2
 go_ret2
 exact ⟨rfl, hOE.out⟩
theorem bmGive (kv km kI kB kA g a b c XI XB XA XM n : Nat) (t m : Int) (xs : List Nat) (L : List (Nat × Nat)) (w0 w : World) (Ps : List Pr) (h : Grommet.Own w0 w Ps) (hA : AlcIs Ps kv kI kB kA g a b c XI XB XA xs L) (hm : Ps[km]? = some (bmP XM g a b c n)) (hkm : kv ≠ km)
  (he : giveE xs L (272 + 208 * a) c m = 0) (hl : (giveL xs L (272 + 208 * a) c m).length < 96) (ht : 0 ≤ t ∧ t < (xs.length : Int)) :
  Calls Tryz.prog 93 #[.pointer (some ⟨XM, 0, none⟩), .pointer (some ⟨XA, 0, none⟩), .int .i64 t, .int .i64 m] w fun e w' => e = .returned (.int .i64 0) ∧ Grommet.Own w0 w' (Ps.set kv (viewP g xs (setL xs (giveL xs L (272 + 208 * a) c m) t 0))) := by
 have HT := Lib.hid (GiveBlockH kv kI kB kA g a b c XI XB XA xs L m 0 w0 w Ps _ h hA (by rw [he]; rfl) rfl)
 obtain ⟨M, eM⟩ : ∃ M, giveL xs L (272 + 208 * a) c m = M := ⟨_, rfl⟩
 rw [eM] at HT hl ⊢
 have hv := hA.view
 have HS := Lib.hid (fun wx (hO : Grommet.Own w0 wx (Ps.set kv (viewP g xs M))) => SetH kv g xs M t 0 0 w0 wx _ _ hO (set_at _ hv) (by omega) (by rw [setE_fine hl ht]; rfl) rfl)
 rw [List.set_set] at HS
 have HB := Lib.hid (show ∀ wx, Grommet.Own w0 wx (Ps.set kv (viewP g xs M)) → BM XM g a b c n wx from fun wx hO => BM.of (k := km) hO (set_same_at _ _ hm hkm))
 have z0 : ((0 : Nat) : Int) = 0 := rfl
 rw [z0] at HS
 clear h hA hm hkm he hl ht eM hv z0
 go_enter Tryz.func93, Tryz.ntmps93
 go_wp2_with fail
 refine HT.out.mono ?_
 rintro e w1 ⟨rfl, hO1⟩
 obtain ⟨c0, c1, c2, c3, c4⟩ := (HB.out _ hO1).cells
 have hO1 := Lib.hid hO1
 clear HT
 go_wp2_with fail
 refine (HS.out _ hO1.out).mono ?_
 rintro e w2 ⟨rfl, hO2⟩
 have hOE := Lib.hid hO2
 clear hO2 hO1 HS HB c0 c1 c2 c3 c4
 go_wp2
 go_ret
 exact ⟨rfl, hOE.out⟩
end Go.Proofs.YtfljlmmiiccooaaGreatDoor
end
section
namespace Go.Proofs.YtfljlmmiiccooaaGreatDoor
open Go.RowKit Go.Grommet
set_option linter.unusedVariables false
theorem bmOf_get (g a b c n : Nat) (f0 f1 f2 f3 f4 f5 f6 f7 f8 f9 : Nat) (w0 w : World) (Ps : List Pr) (h : Grommet.Own w0 w Ps)
  (HG : ∀ wx Qs, Grommet.Own w0 wx (Ps ++ Qs) → Calls Tryz.prog 73 #[.pointer (some ⟨g, 0, none⟩), gv (a : Int) (b : Int) (c : Int), .int .i64 (n : Int)] wx fun e w' => e = .returned (.tuple #[nv f0 f1 f2 f3 f4 f5 f6 f7 f8 f9, .int .i64 0]) ∧ Grommet.Own w0 w' (Ps ++ Qs)) :
  Calls Tryz.prog 74 #[.pointer (some ⟨g, 0, none⟩), gv (a : Int) (b : Int) (c : Int), .int .i64 (n : Int)] w fun e w' => ∃ XM, e = .returned (.tuple #[.pointer (some ⟨XM, 0, none⟩), .int .i64 0]) ∧ Grommet.Own w0 w' (Ps ++ [bmP XM g a b c n]) := by
 have hO := h.addBox 23 #[.int .i64 (a : Int), .int .i64 (b : Int), .int .i64 (c : Int)]
 obtain ⟨G, hG⟩ : ∃ G, w.heap.size = G := ⟨_, rfl⟩
 obtain ⟨wg, hwg⟩ : ∃ wg, w.alloc (.cells #[.int .i64 (a : Int), .int .i64 (b : Int), .int .i64 (c : Int)] 23) = wg := ⟨_, rfl⟩
 rw [hG, hwg] at hO
 have hgs : GeoS G a b c wg := hO.box Ps.length (by rw [List.getElem?_append_right (Nat.le_refl _), Nat.sub_self]; rfl)
 obtain ⟨y0, y1, y2⟩ := hgs.cells
 have HG := Lib.hid (HG wg _ hO)
 unfold nv gv at *
 clear h hgs hO
 go_enter Tryz.func74, Tryz.ntmps74
 go_wp2_with fail
 try rw [hwg]
 try rw [hG]
 go_wp2_with fail
 refine HG.out.mono ?_
 rintro e w1 ⟨rfl, hO1⟩
 clear HG y0 y1 y2 hwg hG
 have hg1 : GeoS G a b c w1 := hO1.box Ps.length (by rw [List.getElem?_append_right (Nat.le_refl _), Nat.sub_self]; rfl)
 have hO2 := hO1.addBox 133 #[.int .u64 (f0 : Int), .int .u64 (f1 : Int), .int .u64 (f2 : Int), .int .u64 (f3 : Int), .int .u64 (f4 : Int), .int .u64 (f5 : Int), .int .u64 (f6 : Int), .int .u64 (f7 : Int), .int .u64 (f8 : Int), .int .u64 (f9 : Int)]
 obtain ⟨N, hN⟩ : ∃ N, w1.heap.size = N := ⟨_, rfl⟩
 obtain ⟨w2, hw2⟩ : ∃ w2, w1.alloc (.cells #[.int .u64 (f0 : Int), .int .u64 (f1 : Int), .int .u64 (f2 : Int), .int .u64 (f3 : Int), .int .u64 (f4 : Int), .int .u64 (f5 : Int), .int .u64 (f6 : Int), .int .u64 (f7 : Int), .int .u64 (f8 : Int), .int .u64 (f9 : Int)] 133) = w2 := ⟨_, rfl⟩
 rw [hN, hw2] at hO2
 obtain ⟨y0, y1, y2⟩ := (GeoS.keep hg1 (by rw [← hw2]; exact World.grownBy_alloc w1 _ none) : GeoS G a b c w2).cells
 have hO3 := hO2.addBox 161 (bmC g a b c n)
 rw [List.append_assoc, List.append_assoc] at hO3
 have hO4 := Lib.hid (Own.skip (Own.skip hO3))
 obtain ⟨X, hX⟩ : ∃ X, w2.heap.size = X := ⟨_, rfl⟩
 rw [hX] at hO4
 unfold bmC at hO4
 clear hO1 hO2 hO3 hg1
 go_wp2_with fail
 go_ret2
 exact ⟨X, rfl, hO4.out⟩
theorem bmOf (kv g a b c n A : Nat) (xs : List Nat) (L : List (Nat × Nat)) (w0 w : World) (Ps : List Pr) (h : Grommet.Own w0 w Ps) (hv : Ps[kv]? = some (viewP g xs L)) (hN : NodeOk xs L a b c n A) :
  Calls Tryz.prog 74 #[.pointer (some ⟨g, 0, none⟩), gv (a : Int) (b : Int) (c : Int), .int .i64 (n : Int)] w fun e w' => ∃ XM, e = .returned (.tuple #[.pointer (some ⟨XM, 0, none⟩), .int .i64 0]) ∧ Grommet.Own w0 w' (Ps ++ [bmP XM g a b c n]) :=
 bmOf_get g a b c n (nodeF xs L A 0) (nodeF xs L A 1) (nodeF xs L A 2) (nodeF xs L A 3) (nodeF xs L A 4) (nodeF xs L A 5) (nodeF xs L A 6) (nodeF xs L A 7) (nodeF xs L A 8) (nodeF xs L A 9) w0 w Ps h (get_ok0 kv g a b c n A xs L w0 Ps hv hN)
end Go.Proofs.YtfljlmmiiccooaaGreatDoor
end
section
namespace Go.Proofs.YtfljlmmiiccooaaGreatDoor
open Go.RowKit Go.Grommet
set_option linter.unusedVariables false
def alcPs (Y g a b c XI XB XA : Nat) : List Pr := [boxP Y 23 (geoCs a b c), mapP XI g (264 + 208 * a) b, mapP XB g (272 + 208 * a) c, allocP XA g a b c XI XB]
theorem app_at {Ps Qs : List Pr} (j : Nat) {Q : Pr} (h : Qs[j]? = some Q) : (Ps ++ Qs)[Ps.length + j]? = some Q := by
 rw [List.getElem?_append_right (by omega), show Ps.length + j - Ps.length = j from by omega]; exact h
theorem app_old {Ps Qs : List Pr} {k : Nat} {Q : Pr} (h : Ps[k]? = some Q) : (Ps ++ Qs)[k]? = some Q := by rw [List.getElem?_append_left (List.getElem?_eq_some_iff.1 h).1]; exact h
theorem alcIs_of {kv g a b c n A Y XI XB XA : Nat} {xs : List Nat} {L : List (Nat × Nat)} {Ps : List Pr} (hv : Ps[kv]? = some (viewP g xs L)) (hN : NodeOk xs L a b c n A) :
  AlcIs (Ps ++ alcPs Y g a b c XI XB XA) kv (Ps.length + 1) (Ps.length + 2) (Ps.length + 3) g a b c XI XB XA xs L :=
 ⟨app_old hv, app_at 1 rfl, app_at 2 rfl, app_at 3 rfl, hN.may, hN.fits, hN.few⟩
theorem bmTake_has (XM : Nat) (k p v : Int) (w0 w : World) (Ps : List Pr) (h : Grommet.Own w0 w Ps) (hL : LookC XM k p v 0 w0 Ps) (hv : v ≠ 0) :
  Calls Tryz.prog 81 #[.pointer (some ⟨XM, 0, none⟩), .int .i64 k] w fun e' w' => e' = .returned (.tuple #[.int .i64 v, .int .i64 0]) ∧ Grommet.Own w0 w' Ps := by
 have HL := Lib.hid (hL w h)
 have e1 : (v != 0) = true := by simpa using hv
 clear h hL hv
 go_enter Tryz.func81, Tryz.ntmps81
 go_wp2_with fail
 refine HL.out.mono ?_
 rintro e' w1 ⟨rfl, hO⟩
 have hO := Lib.hid hO
 clear HL
 go_wp2
 go_ret2
 exact ⟨rfl, hO.out⟩
theorem bmTake_space (kv km XM g a b c n A : Nat) (k p r q : Int) (xs : List Nat) (L : List (Nat × Nat)) (w0 w : World) (Ps : List Pr) (h : Grommet.Own w0 w Ps) (hv : Ps[kv]? = some (viewP g xs L)) (hm : Ps[km]? = some (bmP XM g a b c n)) (hN : NodeOk xs L a b c n A)
  (hL : ∀ Rs, LookC XM k p 0 0 w0 (Ps ++ Rs)) (hr : needV p 0 0 = r) (hq : (c : Int) - (cntF (mbit xs L (272 + 208 * a)) c : Int) = q) (hqr : q < r) :
  Calls Tryz.prog 81 #[.pointer (some ⟨XM, 0, none⟩), .int .i64 k] w fun e' w' => e' = .returned (.tuple #[.int .i64 0, .int .i64 7]) ∧ Grommet.Own w0 w' Ps := by
 have HL := Lib.hid (hL [] w (by rw [List.append_nil]; exact h))
 have HN := Lib.hid (fun wx Rs (hO : Grommet.Own w0 wx (Ps ++ Rs)) => bmNeed XM k p 0 0 r w0 wx (Ps ++ Rs) hO (hL Rs) hr)
 have HB := Lib.hid (show ∀ wx Rs, Grommet.Own w0 wx (Ps ++ Rs) → BM XM g a b c n wx from fun wx Rs hO => BM.of (k := km) hO (app_old hm))
 have HA := Lib.hid (fun wx (hO : Grommet.Own w0 wx (Ps ++ [])) => ANewH kv g a b c xs L w0 wx (Ps ++ []) hO (app_old hv) hN.may hN.fits hN.few)
 have HF := Lib.hid (fun wx Y XI XB XA (hO : Grommet.Own w0 wx (Ps ++ alcPs Y g a b c XI XB XA)) => FreeH kv _ _ _ g a b c XI XB XA xs L _ q w0 wx _ hO (alcIs_of hv hN) rfl hq)
 clear h hv hm hN hL hr hq
 go_enter Tryz.func81, Tryz.ntmps81
 go_wp2_with fail
 refine HL.out.mono ?_
 rintro e' w1 ⟨rfl, hO1⟩
 have hS0 := Lib.hid (HB.out _ _ hO1).drew
 have hOr := Lib.hid (hO1.quiet (grown_drew (World.grownBy.refl w1 none)))
 clear HL hO1
 go_wp2_with fail
 refine wp_region_held_drew (S := fun w' => BM XM g a b c n w') (by kernel_rfl) (hS0.out) (fun hS => ?_)
 refine wpAnyH_take (i := 0) (oi := ⟨some 30, .move (.tmp 0), 82, "blocks.go:113", #[], none⟩) (v := ?vts81r4o0) rfl (by kernel_rfl) (by kernel_rfl) (by kernel_rfl) (fun _ _ _ h => h) (Or.inl ⟨by rfl, ?hts81r4o0⟩) hS ?_
 case hts81r4o0 => (intro wx hx; skip; go_simp; (try with_reducible rfl))
 try simp only [Act.put, List.setIfInBounds_toArray, List.set_cons_zero, List.set_cons_succ]
 refine wpAnyH_take (i := 1) (oi := ⟨some 31, .nilCheck (.tmp 30), 0, "blocks.go:113", #[⟨0, .data⟩], none⟩) (v := ?vts81r4o1) rfl (by kernel_rfl) (by kernel_rfl) (by kernel_rfl) (fun _ _ _ h => h) (Or.inl ⟨by rfl, ?hts81r4o1⟩) hS ?_
 case hts81r4o1 => (intro wx hx; skip; go_simp; (try with_reducible rfl))
 try simp only [Act.put, List.setIfInBounds_toArray, List.set_cons_zero, List.set_cons_succ]
 refine wpAnyH_take (i := 2) (oi := ⟨some 32, .fieldAddr 161 (.tmp 31) 0, 0, "blocks.go:113", #[⟨1, .data⟩], none⟩) (v := ?vts81r4o2) rfl (by kernel_rfl) (by kernel_rfl) (by kernel_rfl) (fun _ _ _ h => h) (Or.inl ⟨by rfl, ?hts81r4o2⟩) hS ?_
 case hts81r4o2 => (intro wx hx; skip; go_simp; (try with_reducible rfl))
 try simp only [Act.put, List.setIfInBounds_toArray, List.set_cons_zero, List.set_cons_succ]
 refine wpAnyH_take (i := 3) (oi := ⟨some 33, .load 32 (.tmp 32), 32, "blocks.go:113", #[⟨2, .data⟩], none⟩) (v := ?vts81r4o3) rfl (by kernel_rfl) (by kernel_rfl) (by kernel_rfl) (fun _ _ _ h => h) (Or.inl ⟨by rfl, ?hts81r4o3⟩) hS ?_
 case hts81r4o3 => (intro wx hx; obtain ⟨c0, c1, c2, c3, c4⟩ := BM.cells hx; go_simp; (try with_reducible rfl))
 try simp only [Act.put, List.setIfInBounds_toArray, List.set_cons_zero, List.set_cons_succ]
 refine wpAnyH_take (i := 4) (oi := ⟨some 34, .move (.tmp 0), 82, "blocks.go:113", #[], none⟩) (v := ?vts81r4o4) rfl (by kernel_rfl) (by kernel_rfl) (by kernel_rfl) (fun _ _ _ h => h) (Or.inl ⟨by rfl, ?hts81r4o4⟩) hS ?_
 case hts81r4o4 => (intro wx hx; skip; go_simp; (try with_reducible rfl))
 try simp only [Act.put, List.setIfInBounds_toArray, List.set_cons_zero, List.set_cons_succ]
 refine wpAnyH_take (i := 5) (oi := ⟨some 35, .nilCheck (.tmp 34), 0, "blocks.go:113", #[⟨4, .data⟩], none⟩) (v := ?vts81r4o5) rfl (by kernel_rfl) (by kernel_rfl) (by kernel_rfl) (fun _ _ _ h => h) (Or.inl ⟨by rfl, ?hts81r4o5⟩) hS ?_
 case hts81r4o5 => (intro wx hx; skip; go_simp; (try with_reducible rfl))
 try simp only [Act.put, List.setIfInBounds_toArray, List.set_cons_zero, List.set_cons_succ]
 refine wpAnyH_take (i := 6) (oi := ⟨some 36, .fieldAddr 161 (.tmp 35) 1, 0, "blocks.go:113", #[⟨5, .data⟩], none⟩) (v := ?vts81r4o6) rfl (by kernel_rfl) (by kernel_rfl) (by kernel_rfl) (fun _ _ _ h => h) (Or.inl ⟨by rfl, ?hts81r4o6⟩) hS ?_
 case hts81r4o6 => (intro wx hx; skip; go_simp; (try with_reducible rfl))
 try simp only [Act.put, List.setIfInBounds_toArray, List.set_cons_zero, List.set_cons_succ]
 refine wpAnyH_take (i := 7) (oi := ⟨some 37, .load 23 (.tmp 36), 23, "blocks.go:113", #[⟨6, .data⟩], none⟩) (v := ?vts81r4o7) rfl (by kernel_rfl) (by kernel_rfl) (by kernel_rfl) (fun _ _ _ h => h) (Or.inl ⟨by rfl, ?hts81r4o7⟩) hS ?_
 case hts81r4o7 => (intro wx hx; obtain ⟨c0, c1, c2, c3, c4⟩ := BM.cells hx; go_simp; (try with_reducible rfl))
 try simp only [Act.put, List.setIfInBounds_toArray, List.set_cons_zero, List.set_cons_succ]
 refine wpAnyH_ready (rs := [8]) (by kernel_rfl) (by simp) ?_
 refine AllReadyH.cons (o := ⟨some 38, .call { callee := Callee.value (Operand.func 92), args := #[.tmp 33, .tmp 37], argTypes := #[32, 23] }, 158, "blocks.go:113", #[⟨3, .data⟩, ⟨7, .data⟩], none⟩) rfl (fun K hK => ?_) AllReadyH.nil
 go_simp
 refine (HA.out _ hOr.out).mono ?_
 rintro e wA ⟨Y, XI, XB, XA, rfl, hOA⟩
 rw [List.append_nil] at hOA
 have hS1 : BM XM g a b c n wA := HB.out _ _ hOA
 refine hK.out _ _ ?hsts81r4o8 (fun hS => ?_)
 case hsts81r4o8 => (exact hS1)
 clear hK K
 try simp only [Act.put, List.setIfInBounds_toArray, List.set_cons_zero, List.set_cons_succ]
 refine wpAnyH_take (i := 9) (oi := ⟨some 29, .move (.tmp 38), 158, "blocks.go:113", #[⟨8, .data⟩], none⟩) (v := ?vts81r4o9) rfl (by kernel_rfl) (by kernel_rfl) (by kernel_rfl) (fun _ _ _ h => h) (Or.inl ⟨by rfl, ?hts81r4o9⟩) hS ?_
 case hts81r4o9 => (intro wx hx; skip; go_simp; (try with_reducible rfl))
 try simp only [Act.put, List.setIfInBounds_toArray, List.set_cons_zero, List.set_cons_succ]
 refine wpAnyH_take (i := 10) (oi := ⟨some 39, .extract (.tmp 29) 0, 157, "blocks.go:113", #[⟨9, .data⟩], none⟩) (v := ?vts81r4o10) rfl (by kernel_rfl) (by kernel_rfl) (by kernel_rfl) (fun _ _ _ h => h) (Or.inl ⟨by rfl, ?hts81r4o10⟩) hS ?_
 case hts81r4o10 => (intro wx hx; skip; go_simp; (try with_reducible rfl))
 try simp only [Act.put, List.setIfInBounds_toArray, List.set_cons_zero, List.set_cons_succ]
 refine wpAnyH_take (i := 11) (oi := ⟨some 40, .extract (.tmp 29) 1, 45, "blocks.go:113", #[⟨9, .data⟩, { on := 12, ground := Ground.gcOnly Departure.lateStores }], none⟩) (v := ?vts81r4o11) rfl (by kernel_rfl) (by kernel_rfl) (by kernel_rfl) (fun _ _ _ h => h) (Or.inl ⟨by rfl, ?hts81r4o11⟩) hS ?_
 case hts81r4o11 => (intro wx hx; skip; go_simp; (try with_reducible rfl))
 try simp only [Act.put, List.setIfInBounds_toArray, List.set_cons_zero, List.set_cons_succ]
 refine wpAnyH_take (i := 12) (oi := ⟨some 9, .assign (.tmp 39), 157, "blocks.go:113", #[⟨10, .data⟩, ⟨8, .chain⟩, ⟨0, .phase⟩, ⟨1, .phase⟩, ⟨2, .phase⟩, ⟨3, .phase⟩, ⟨4, .phase⟩, ⟨5, .phase⟩, ⟨6, .phase⟩, ⟨7, .phase⟩, ⟨8, .phase⟩, ⟨9, .phase⟩, ⟨10, .phase⟩, { on := 11, ground := Ground.textOnly Departure.lateStores }], none⟩) (v := ?vts81r4o12) rfl (by kernel_rfl) (by kernel_rfl) (by kernel_rfl) (fun _ _ _ h => h) (Or.inl ⟨by rfl, ?hts81r4o12⟩) hS ?_
 case hts81r4o12 => (intro wx hx; skip; go_simp; (try with_reducible rfl))
 try simp only [Act.put, List.setIfInBounds_toArray, List.set_cons_zero, List.set_cons_succ]
 refine wpAnyH_take (i := 13) (oi := ⟨some 8, .assign (.tmp 40), 45, "blocks.go:113", #[⟨11, .data⟩, ⟨12, .chain⟩, ⟨0, .phase⟩, ⟨1, .phase⟩, ⟨2, .phase⟩, ⟨3, .phase⟩, ⟨4, .phase⟩, ⟨5, .phase⟩, ⟨6, .phase⟩, ⟨7, .phase⟩, ⟨8, .phase⟩, ⟨9, .phase⟩, ⟨10, .phase⟩, ⟨11, .phase⟩, ⟨12, .phase⟩], none⟩) (v := ?vts81r4o13) rfl (by kernel_rfl) (by kernel_rfl) (by kernel_rfl) (fun _ _ _ h => h) (Or.inl ⟨by rfl, ?hts81r4o13⟩) hS ?_
 case hts81r4o13 => (intro wx hx; skip; go_simp; (try with_reducible rfl))
 try simp only [Act.put, List.setIfInBounds_toArray, List.set_cons_zero, List.set_cons_succ]
 refine wpAnyH_done (by kernel_rfl) ?_ _
 have hOA := Lib.hid hOA
 clear hS hS0 hOr HA hS1
 go_wp2_with fail
 refine (HF.out _ _ _ _ _ hOA.out).mono ?_
 rintro e w2 ⟨rfl, hO2⟩
 clear hOA HF
 have hO2 := Lib.hid hO2
 go_wp2_with fail
 refine (HN.out _ _ hO2.out).mono ?_
 rintro e w3 ⟨rfl, hO3⟩
 have hOE := Lib.hid hO3.less
 clear hO2 hO3 HN HB
 go_wp2
 go_ret2
 exact ⟨rfl, hOE.out⟩
def takeL (xs : List Nat) (L : List (Nat × Nat)) (a b c m : Nat) (t : Int) : List (Nat × Nat) := setL xs (zeroL xs (280 + 208 * a + 16 * b + 8 * m) (setMI xs L (272 + 208 * a) c (m : Int) true) 8) t m
theorem bmTake_one (kv km XM g a b c n A m : Nat) (k t q : Int) (xs : List Nat) (L : List (Nat × Nat)) (w0 w : World) (Ps : List Pr) (h : Grommet.Own w0 w Ps) (hv : Ps[kv]? = some (viewP g xs L)) (hm : Ps[km]? = some (bmP XM g a b c n)) (hkm : kv ≠ km) (hN : NodeOk xs L a b c n A)
  (hL : ∀ Rs, LookC XM k t 0 0 w0 (Ps ++ Rs)) (ht : 0 ≤ t ∧ t < (xs.length : Int)) (hq : (c : Int) - (cntF (mbit xs L (272 + 208 * a)) c : Int) = q) (hqr : 1 ≤ q)
  (htab : Lib.TabIs Tryz.prog w0 "math/bits.deBruijn64tab" .u8 tab) (hc : ClrR (mbit xs L (272 + 208 * a)) c (m : Int) true) (hmc : m < c) (h1 : 1 ≤ m) (hl : L.length ≤ 80) :
  Calls Tryz.prog 81 #[.pointer (some ⟨XM, 0, none⟩), .int .i64 k] w fun e' w' => e' = .returned (.tuple #[.int .i64 (m : Int), .int .i64 0]) ∧ Grommet.Own w0 w' (Ps.set kv (viewP g xs (takeL xs L a b c m t))) := by
 have HL := Lib.hid (hL [] w (by rw [List.append_nil]; exact h))
 have HN := Lib.hid (fun wx Rs (hO : Grommet.Own w0 wx (Ps ++ Rs)) => bmNeed XM k t 0 0 1 w0 wx (Ps ++ Rs) hO (hL Rs) (by unfold needV; rw [if_neg (by omega), if_neg (by omega)]))
 have HB := Lib.hid (show ∀ wx Rs, Grommet.Own w0 wx (Ps ++ Rs) → BM XM g a b c n wx from fun wx Rs hO => BM.of (k := km) hO (app_old hm))
 have HA := Lib.hid (fun wx (hO : Grommet.Own w0 wx (Ps ++ [])) => ANewH kv g a b c xs L w0 wx (Ps ++ []) hO (app_old hv) hN.may hN.fits hN.few)
 have HF := Lib.hid (fun wx Y XI XB XA (hO : Grommet.Own w0 wx (Ps ++ alcPs Y g a b c XI XB XA)) => FreeH kv _ _ _ g a b c XI XB XA xs L _ q w0 wx _ hO (alcIs_of hv hN) rfl hq)
 have hkl := (List.getElem?_eq_some_iff.1 hv).1
 have HT := Lib.hid (fun wx Y XI XB XA (hO : Grommet.Own w0 wx (Ps ++ alcPs Y g a b c XI XB XA)) => bmTake kv km _ _ _ g a b c XI XB XA XM n m _ t xs L w0 wx _ hO (alcIs_of hv hN) (app_old hm) hkm htab hc hmc h1 rfl hl (by omega) ht)
 have HQ := Lib.hid (show ∀ wx Y XI XB XA Q, Grommet.Own w0 wx ((Ps ++ alcPs Y g a b c XI XB XA).set kv Q) → Grommet.Own w0 wx (Ps.set kv Q) from fun wx Y XI XB XA Q hO => by
  rw [List.set_append_left _ _ hkl] at hO
  exact hO.less)
 unfold takeL
 have n1 : (t == -1) = false := by simp <;> omega
 have n2 : ¬ t = -1 := by omega
 have q1 : ¬ q < 1 := by omega
 clear h hv hm hkm hN hL hq hqr htab hc hmc h1 hl hkl ht
 go_enter Tryz.func81, Tryz.ntmps81
 go_wp2_with fail
 refine HL.out.mono ?_
 rintro e' w1 ⟨rfl, hO1⟩
 have hS0 := Lib.hid (HB.out _ _ hO1).drew
 have hOr := Lib.hid (hO1.quiet (grown_drew (World.grownBy.refl w1 none)))
 clear HL hO1
 go_wp2_with fail
 refine wp_region_held_drew (S := fun w' => BM XM g a b c n w') (by kernel_rfl) (hS0.out) (fun hS => ?_)
 refine wpAnyH_take (i := 0) (oi := ⟨some 30, .move (.tmp 0), 82, "blocks.go:113", #[], none⟩) (v := ?vto81r4o0) rfl (by kernel_rfl) (by kernel_rfl) (by kernel_rfl) (fun _ _ _ h => h) (Or.inl ⟨by rfl, ?hto81r4o0⟩) hS ?_
 case hto81r4o0 => (intro wx hx; skip; go_simp; (try with_reducible rfl))
 try simp only [Act.put, List.setIfInBounds_toArray, List.set_cons_zero, List.set_cons_succ]
 refine wpAnyH_take (i := 1) (oi := ⟨some 31, .nilCheck (.tmp 30), 0, "blocks.go:113", #[⟨0, .data⟩], none⟩) (v := ?vto81r4o1) rfl (by kernel_rfl) (by kernel_rfl) (by kernel_rfl) (fun _ _ _ h => h) (Or.inl ⟨by rfl, ?hto81r4o1⟩) hS ?_
 case hto81r4o1 => (intro wx hx; skip; go_simp; (try with_reducible rfl))
 try simp only [Act.put, List.setIfInBounds_toArray, List.set_cons_zero, List.set_cons_succ]
 refine wpAnyH_take (i := 2) (oi := ⟨some 32, .fieldAddr 161 (.tmp 31) 0, 0, "blocks.go:113", #[⟨1, .data⟩], none⟩) (v := ?vto81r4o2) rfl (by kernel_rfl) (by kernel_rfl) (by kernel_rfl) (fun _ _ _ h => h) (Or.inl ⟨by rfl, ?hto81r4o2⟩) hS ?_
 case hto81r4o2 => (intro wx hx; skip; go_simp; (try with_reducible rfl))
 try simp only [Act.put, List.setIfInBounds_toArray, List.set_cons_zero, List.set_cons_succ]
 refine wpAnyH_take (i := 3) (oi := ⟨some 33, .load 32 (.tmp 32), 32, "blocks.go:113", #[⟨2, .data⟩], none⟩) (v := ?vto81r4o3) rfl (by kernel_rfl) (by kernel_rfl) (by kernel_rfl) (fun _ _ _ h => h) (Or.inl ⟨by rfl, ?hto81r4o3⟩) hS ?_
 case hto81r4o3 => (intro wx hx; obtain ⟨c0, c1, c2, c3, c4⟩ := BM.cells hx; go_simp; (try with_reducible rfl))
 try simp only [Act.put, List.setIfInBounds_toArray, List.set_cons_zero, List.set_cons_succ]
 refine wpAnyH_take (i := 4) (oi := ⟨some 34, .move (.tmp 0), 82, "blocks.go:113", #[], none⟩) (v := ?vto81r4o4) rfl (by kernel_rfl) (by kernel_rfl) (by kernel_rfl) (fun _ _ _ h => h) (Or.inl ⟨by rfl, ?hto81r4o4⟩) hS ?_
 case hto81r4o4 => (intro wx hx; skip; go_simp; (try with_reducible rfl))
 try simp only [Act.put, List.setIfInBounds_toArray, List.set_cons_zero, List.set_cons_succ]
 refine wpAnyH_take (i := 5) (oi := ⟨some 35, .nilCheck (.tmp 34), 0, "blocks.go:113", #[⟨4, .data⟩], none⟩) (v := ?vto81r4o5) rfl (by kernel_rfl) (by kernel_rfl) (by kernel_rfl) (fun _ _ _ h => h) (Or.inl ⟨by rfl, ?hto81r4o5⟩) hS ?_
 case hto81r4o5 => (intro wx hx; skip; go_simp; (try with_reducible rfl))
 try simp only [Act.put, List.setIfInBounds_toArray, List.set_cons_zero, List.set_cons_succ]
 refine wpAnyH_take (i := 6) (oi := ⟨some 36, .fieldAddr 161 (.tmp 35) 1, 0, "blocks.go:113", #[⟨5, .data⟩], none⟩) (v := ?vto81r4o6) rfl (by kernel_rfl) (by kernel_rfl) (by kernel_rfl) (fun _ _ _ h => h) (Or.inl ⟨by rfl, ?hto81r4o6⟩) hS ?_
 case hto81r4o6 => (intro wx hx; skip; go_simp; (try with_reducible rfl))
 try simp only [Act.put, List.setIfInBounds_toArray, List.set_cons_zero, List.set_cons_succ]
 refine wpAnyH_take (i := 7) (oi := ⟨some 37, .load 23 (.tmp 36), 23, "blocks.go:113", #[⟨6, .data⟩], none⟩) (v := ?vto81r4o7) rfl (by kernel_rfl) (by kernel_rfl) (by kernel_rfl) (fun _ _ _ h => h) (Or.inl ⟨by rfl, ?hto81r4o7⟩) hS ?_
 case hto81r4o7 => (intro wx hx; obtain ⟨c0, c1, c2, c3, c4⟩ := BM.cells hx; go_simp; (try with_reducible rfl))
 try simp only [Act.put, List.setIfInBounds_toArray, List.set_cons_zero, List.set_cons_succ]
 refine wpAnyH_ready (rs := [8]) (by kernel_rfl) (by simp) ?_
 refine AllReadyH.cons (o := ⟨some 38, .call { callee := Callee.value (Operand.func 92), args := #[.tmp 33, .tmp 37], argTypes := #[32, 23] }, 158, "blocks.go:113", #[⟨3, .data⟩, ⟨7, .data⟩], none⟩) rfl (fun K hK => ?_) AllReadyH.nil
 go_simp
 refine (HA.out _ hOr.out).mono ?_
 rintro e wA ⟨Y, XI, XB, XA, rfl, hOA⟩
 rw [List.append_nil] at hOA
 have hS1 : BM XM g a b c n wA := HB.out _ _ hOA
 refine hK.out _ _ ?hsto81r4o8 (fun hS => ?_)
 case hsto81r4o8 => (exact hS1)
 clear hK K
 try simp only [Act.put, List.setIfInBounds_toArray, List.set_cons_zero, List.set_cons_succ]
 refine wpAnyH_take (i := 9) (oi := ⟨some 29, .move (.tmp 38), 158, "blocks.go:113", #[⟨8, .data⟩], none⟩) (v := ?vto81r4o9) rfl (by kernel_rfl) (by kernel_rfl) (by kernel_rfl) (fun _ _ _ h => h) (Or.inl ⟨by rfl, ?hto81r4o9⟩) hS ?_
 case hto81r4o9 => (intro wx hx; skip; go_simp; (try with_reducible rfl))
 try simp only [Act.put, List.setIfInBounds_toArray, List.set_cons_zero, List.set_cons_succ]
 refine wpAnyH_take (i := 10) (oi := ⟨some 39, .extract (.tmp 29) 0, 157, "blocks.go:113", #[⟨9, .data⟩], none⟩) (v := ?vto81r4o10) rfl (by kernel_rfl) (by kernel_rfl) (by kernel_rfl) (fun _ _ _ h => h) (Or.inl ⟨by rfl, ?hto81r4o10⟩) hS ?_
 case hto81r4o10 => (intro wx hx; skip; go_simp; (try with_reducible rfl))
 try simp only [Act.put, List.setIfInBounds_toArray, List.set_cons_zero, List.set_cons_succ]
 refine wpAnyH_take (i := 11) (oi := ⟨some 40, .extract (.tmp 29) 1, 45, "blocks.go:113", #[⟨9, .data⟩, { on := 12, ground := Ground.gcOnly Departure.lateStores }], none⟩) (v := ?vto81r4o11) rfl (by kernel_rfl) (by kernel_rfl) (by kernel_rfl) (fun _ _ _ h => h) (Or.inl ⟨by rfl, ?hto81r4o11⟩) hS ?_
 case hto81r4o11 => (intro wx hx; skip; go_simp; (try with_reducible rfl))
 try simp only [Act.put, List.setIfInBounds_toArray, List.set_cons_zero, List.set_cons_succ]
 refine wpAnyH_take (i := 12) (oi := ⟨some 9, .assign (.tmp 39), 157, "blocks.go:113", #[⟨10, .data⟩, ⟨8, .chain⟩, ⟨0, .phase⟩, ⟨1, .phase⟩, ⟨2, .phase⟩, ⟨3, .phase⟩, ⟨4, .phase⟩, ⟨5, .phase⟩, ⟨6, .phase⟩, ⟨7, .phase⟩, ⟨8, .phase⟩, ⟨9, .phase⟩, ⟨10, .phase⟩, { on := 11, ground := Ground.textOnly Departure.lateStores }], none⟩) (v := ?vto81r4o12) rfl (by kernel_rfl) (by kernel_rfl) (by kernel_rfl) (fun _ _ _ h => h) (Or.inl ⟨by rfl, ?hto81r4o12⟩) hS ?_
 case hto81r4o12 => (intro wx hx; skip; go_simp; (try with_reducible rfl))
 try simp only [Act.put, List.setIfInBounds_toArray, List.set_cons_zero, List.set_cons_succ]
 refine wpAnyH_take (i := 13) (oi := ⟨some 8, .assign (.tmp 40), 45, "blocks.go:113", #[⟨11, .data⟩, ⟨12, .chain⟩, ⟨0, .phase⟩, ⟨1, .phase⟩, ⟨2, .phase⟩, ⟨3, .phase⟩, ⟨4, .phase⟩, ⟨5, .phase⟩, ⟨6, .phase⟩, ⟨7, .phase⟩, ⟨8, .phase⟩, ⟨9, .phase⟩, ⟨10, .phase⟩, ⟨11, .phase⟩, ⟨12, .phase⟩], none⟩) (v := ?vto81r4o13) rfl (by kernel_rfl) (by kernel_rfl) (by kernel_rfl) (fun _ _ _ h => h) (Or.inl ⟨by rfl, ?hto81r4o13⟩) hS ?_
 case hto81r4o13 => (intro wx hx; skip; go_simp; (try with_reducible rfl))
 try simp only [Act.put, List.setIfInBounds_toArray, List.set_cons_zero, List.set_cons_succ]
 refine wpAnyH_done (by kernel_rfl) ?_ _
 have hOA := Lib.hid hOA
 clear hS hS0 hOr HA hS1
 go_wp2_with fail
 refine (HF.out _ _ _ _ _ hOA.out).mono ?_
 rintro e w2 ⟨rfl, hO2⟩
 clear hOA HF
 have hO2 := Lib.hid hO2
 go_wp2_with fail
 refine (HN.out _ _ hO2.out).mono ?_
 rintro e w3 ⟨rfl, hO3⟩
 have hO3 := Lib.hid hO3
 clear hO2 HN HB
 go_wp2_with fail
 refine (HT.out _ _ _ _ _ hO3.out).mono ?_
 rintro e w4 ⟨rfl, hO4⟩
 have hOE := Lib.hid (HQ.out _ _ _ _ _ _ hO4)
 clear hO3 hO4 HT HQ
 go_wp2
 go_ret2
 exact ⟨rfl, hOE.out⟩
end Go.Proofs.YtfljlmmiiccooaaGreatDoor
end
section
namespace Go.Proofs.YtfljlmmiiccooaaGreatDoor
open Go.RowKit Go.Grommet
set_option linter.unusedVariables false
theorem setL_len (xs : List Nat) (L : List (Nat × Nat)) (t : Int) (v : Nat) : (setL xs L t v).length ≤ L.length + 1 := by
 unfold setL
 split
 ·split
  ·omega
  ·unfold putL
   split
   ·rw [List.length_set]; omega
   ·split
    ·omega
    ·simp
 ·omega
theorem takeL_len (xs : List Nat) (L : List (Nat × Nat)) (a b c m : Nat) (t : Int) : (takeL xs L a b c m t).length ≤ L.length + 10 := by
 unfold takeL
 have h1 := setL_len xs (zeroL xs (280 + 208 * a + 16 * b + 8 * m) (setMI xs L (272 + 208 * a) c (m : Int) true) 8) t m
 have h2 := zeroL_length xs (280 + 208 * a + 16 * b + 8 * m) (setMI xs L (272 + 208 * a) c (m : Int) true) 8
 have h3 := bm_set_length (xs := xs) (L := L) (A := 272 + 208 * a) (m := c) (i := (m : Int)) (is := true)
 omega
theorem alcIs_set {kv kI kB kA g a b c XI XB XA : Nat} {xs : List Nat} {L : List (Nat × Nat)} {Ps : List Pr} (M : List (Nat × Nat)) (h : AlcIs Ps kv kI kB kA g a b c XI XB XA xs L) (h1 : kv ≠ kI) (h2 : kv ≠ kB) (h3 : kv ≠ kA) :
  AlcIs (Ps.set kv (viewP g xs M)) kv kI kB kA g a b c XI XB XA xs M :=
 ⟨set_at _ h.view, set_same_at _ _ h.mi h1, set_same_at _ _ h.mb h2, set_same_at _ _ h.al h3, h.may, h.fits, h.few⟩
theorem bmTake_two (kv km XM g a b c n A m1 m2 t1 t2 : Nat) (k q : Int) (xs : List Nat) (L L1 : List (Nat × Nat)) (w0 w : World) (Ps : List Pr) (h : Grommet.Own w0 w Ps) (hv : Ps[kv]? = some (viewP g xs L)) (hm : Ps[km]? = some (bmP XM g a b c n)) (hkm : kv ≠ km) (hN : NodeOk xs L a b c n A)
  (hL : ∀ Rs, LookC XM k (-1) 0 0 w0 (Ps ++ Rs)) (hk : 4 ≤ k ∧ k < 12) (hq : (c : Int) - (cntF (mbit xs L (272 + 208 * a)) c : Int) = q) (hqr : 2 ≤ q)
  (htab : Lib.TabIs Tryz.prog w0 "math/bits.deBruijn64tab" .u8 tab) (hc : ClrR (mbit xs L (272 + 208 * a)) c (m1 : Int) true) (hmc : m1 < c) (h1 : 1 ≤ m1) (hl : L.length ≤ 70)
  (ht1 : A + 8 = t1) (hL1 : takeL xs L a b c m1 (t1 : Int) = L1) (hc2 : ClrR (mbit xs L1 (272 + 208 * a)) c (m2 : Int) true) (hmc2 : m2 < c) (h12 : 1 ≤ m2) (ht2 : ((280 + 208 * a + 16 * b + 8 * m1 : Nat) : Int) + k - 4 = (t2 : Int)) :
  Calls Tryz.prog 81 #[.pointer (some ⟨XM, 0, none⟩), .int .i64 k] w fun e' w' => e' = .returned (.tuple #[.int .i64 (m2 : Int), .int .i64 0]) ∧ Grommet.Own w0 w' (Ps.set kv (viewP g xs (takeL xs L1 a b c m2 (t2 : Int)))) := by
 have HL := Lib.hid (hL [] w (by rw [List.append_nil]; exact h))
 have HN := Lib.hid (fun wx Rs (hO : Grommet.Own w0 wx (Ps ++ Rs)) => bmNeed XM k (-1) 0 0 2 w0 wx (Ps ++ Rs) hO (hL Rs) (by decide))
 have HB := Lib.hid (show ∀ wx Rs, Grommet.Own w0 wx (Ps ++ Rs) → BM XM g a b c n wx from fun wx Rs hO => BM.of (k := km) hO (app_old hm))
 have HA := Lib.hid (fun wx (hO : Grommet.Own w0 wx (Ps ++ [])) => ANewH kv g a b c xs L w0 wx (Ps ++ []) hO (app_old hv) hN.may hN.fits hN.few)
 have HF := Lib.hid (fun wx Y XI XB XA (hO : Grommet.Own w0 wx (Ps ++ alcPs Y g a b c XI XB XA)) => FreeH kv _ _ _ g a b c XI XB XA xs L _ q w0 wx _ hO (alcIs_of hv hN) rfl hq)
 have hkl := (List.getElem?_eq_some_iff.1 hv).1
 have hq2 := mayN hN.may
 have hpl := hN.place
 have hbl := hN.below
 have hft := hN.fits
 have hT1l := takeL_len xs L a b c m1 (t1 : Int)
 rw [hL1] at hT1l
 have HT := Lib.hid (fun wx Y XI XB XA (hO : Grommet.Own w0 wx (Ps ++ alcPs Y g a b c XI XB XA)) => bmTake kv km _ _ _ g a b c XI XB XA XM n m1 _ (t1 : Int) xs L w0 wx _ hO (alcIs_of hv hN) (app_old hm) hkm htab hc hmc h1 rfl (by omega) (by omega) ⟨by omega, by omega⟩)
 have HT2 := Lib.hid (fun wx Y XI XB XA (hO : Grommet.Own w0 wx ((Ps ++ alcPs Y g a b c XI XB XA).set kv (viewP g xs L1))) => bmTake kv km _ _ _ g a b c XI XB XA XM n m2 _ (t2 : Int) xs L1 w0 wx _ hO (alcIs_set L1 (alcIs_of hv hN) (by omega) (by omega) (by omega)) (set_same_at _ _ (app_old hm) hkm) hkm htab hc2 hmc2 h12 rfl (by omega) (by omega) ⟨by omega, by omega⟩)
 simp only [List.set_set] at HT2
 have HB1 := Lib.hid (show ∀ wx Y XI XB XA, Grommet.Own w0 wx ((Ps ++ alcPs Y g a b c XI XB XA).set kv (viewP g xs L1)) → BM XM g a b c n wx from fun wx Y XI XB XA hO => BM.of (k := km) hO (set_same_at _ _ (app_old hm) hkm))
 have HQ := Lib.hid (show ∀ wx Y XI XB XA Q, Grommet.Own w0 wx ((Ps ++ alcPs Y g a b c XI XB XA).set kv Q) → Grommet.Own w0 wx (Ps.set kv Q) from fun wx Y XI XB XA Q hO => by
  rw [List.set_append_left _ _ hkl] at hO
  exact hO.less)
 have HW := Lib.hid (fun wx hB => bmOwn XM g a b c n A 8 wx hB hN.inode (by omega) ⟨by omega, by omega⟩)
 rw [show (A : Int) + 8 = (t1 : Int) from by omega] at HW
 have HC := Lib.hid (fun wx hB => bmChained XM g a b c n (280 + 208 * a + 16 * b + 8 * m1) k 0 0 0 0 0 0 0 0 m1 0 wx hB (by omega) (by omega) (by unfold blockV; rw [if_pos ⟨hN.may, by omega, by omega⟩] <;> omega) (by omega) (by omega) ⟨by omega, by omega⟩)
 rw [ht2] at HC
 have z0 : ((0 : Nat) : Int) = 0 := rfl
 unfold nv at HC
 rw [z0] at HC
 unfold takeL at hL1 ⊢
 rw [hL1] at HT
 have q1 : ¬ q < 2 := by omega
 have m0 : IntKind.u64.wrap (m1 : Int) = (m1 : Int) := IntWalk.u64_in _ ⟨by omega, by omega⟩
 clear h hv hm hkm hN hL hq hqr htab hc hmc h1 hl hkl hk hq2 hpl hbl hft hT1l ht1 hL1 hc2 hmc2 h12 ht2 z0
 go_enter Tryz.func81, Tryz.ntmps81
 go_wp2_with fail
 refine HL.out.mono ?_
 rintro e' w1 ⟨rfl, hO1⟩
 have hS0 := Lib.hid (HB.out _ _ hO1).drew
 have hOr := Lib.hid (hO1.quiet (grown_drew (World.grownBy.refl w1 none)))
 clear HL hO1
 go_wp2_with fail
 refine wp_region_held_drew (S := fun w' => BM XM g a b c n w') (by kernel_rfl) (hS0.out) (fun hS => ?_)
 refine wpAnyH_take (i := 0) (oi := ⟨some 30, .move (.tmp 0), 82, "blocks.go:113", #[], none⟩) (v := ?vtw81r4o0) rfl (by kernel_rfl) (by kernel_rfl) (by kernel_rfl) (fun _ _ _ h => h) (Or.inl ⟨by rfl, ?htw81r4o0⟩) hS ?_
 case htw81r4o0 => (intro wx hx; skip; go_simp; (try with_reducible rfl))
 try simp only [Act.put, List.setIfInBounds_toArray, List.set_cons_zero, List.set_cons_succ]
 refine wpAnyH_take (i := 1) (oi := ⟨some 31, .nilCheck (.tmp 30), 0, "blocks.go:113", #[⟨0, .data⟩], none⟩) (v := ?vtw81r4o1) rfl (by kernel_rfl) (by kernel_rfl) (by kernel_rfl) (fun _ _ _ h => h) (Or.inl ⟨by rfl, ?htw81r4o1⟩) hS ?_
 case htw81r4o1 => (intro wx hx; skip; go_simp; (try with_reducible rfl))
 try simp only [Act.put, List.setIfInBounds_toArray, List.set_cons_zero, List.set_cons_succ]
 refine wpAnyH_take (i := 2) (oi := ⟨some 32, .fieldAddr 161 (.tmp 31) 0, 0, "blocks.go:113", #[⟨1, .data⟩], none⟩) (v := ?vtw81r4o2) rfl (by kernel_rfl) (by kernel_rfl) (by kernel_rfl) (fun _ _ _ h => h) (Or.inl ⟨by rfl, ?htw81r4o2⟩) hS ?_
 case htw81r4o2 => (intro wx hx; skip; go_simp; (try with_reducible rfl))
 try simp only [Act.put, List.setIfInBounds_toArray, List.set_cons_zero, List.set_cons_succ]
 refine wpAnyH_take (i := 3) (oi := ⟨some 33, .load 32 (.tmp 32), 32, "blocks.go:113", #[⟨2, .data⟩], none⟩) (v := ?vtw81r4o3) rfl (by kernel_rfl) (by kernel_rfl) (by kernel_rfl) (fun _ _ _ h => h) (Or.inl ⟨by rfl, ?htw81r4o3⟩) hS ?_
 case htw81r4o3 => (intro wx hx; obtain ⟨c0, c1, c2, c3, c4⟩ := BM.cells hx; go_simp; (try with_reducible rfl))
 try simp only [Act.put, List.setIfInBounds_toArray, List.set_cons_zero, List.set_cons_succ]
 refine wpAnyH_take (i := 4) (oi := ⟨some 34, .move (.tmp 0), 82, "blocks.go:113", #[], none⟩) (v := ?vtw81r4o4) rfl (by kernel_rfl) (by kernel_rfl) (by kernel_rfl) (fun _ _ _ h => h) (Or.inl ⟨by rfl, ?htw81r4o4⟩) hS ?_
 case htw81r4o4 => (intro wx hx; skip; go_simp; (try with_reducible rfl))
 try simp only [Act.put, List.setIfInBounds_toArray, List.set_cons_zero, List.set_cons_succ]
 refine wpAnyH_take (i := 5) (oi := ⟨some 35, .nilCheck (.tmp 34), 0, "blocks.go:113", #[⟨4, .data⟩], none⟩) (v := ?vtw81r4o5) rfl (by kernel_rfl) (by kernel_rfl) (by kernel_rfl) (fun _ _ _ h => h) (Or.inl ⟨by rfl, ?htw81r4o5⟩) hS ?_
 case htw81r4o5 => (intro wx hx; skip; go_simp; (try with_reducible rfl))
 try simp only [Act.put, List.setIfInBounds_toArray, List.set_cons_zero, List.set_cons_succ]
 refine wpAnyH_take (i := 6) (oi := ⟨some 36, .fieldAddr 161 (.tmp 35) 1, 0, "blocks.go:113", #[⟨5, .data⟩], none⟩) (v := ?vtw81r4o6) rfl (by kernel_rfl) (by kernel_rfl) (by kernel_rfl) (fun _ _ _ h => h) (Or.inl ⟨by rfl, ?htw81r4o6⟩) hS ?_
 case htw81r4o6 => (intro wx hx; skip; go_simp; (try with_reducible rfl))
 try simp only [Act.put, List.setIfInBounds_toArray, List.set_cons_zero, List.set_cons_succ]
 refine wpAnyH_take (i := 7) (oi := ⟨some 37, .load 23 (.tmp 36), 23, "blocks.go:113", #[⟨6, .data⟩], none⟩) (v := ?vtw81r4o7) rfl (by kernel_rfl) (by kernel_rfl) (by kernel_rfl) (fun _ _ _ h => h) (Or.inl ⟨by rfl, ?htw81r4o7⟩) hS ?_
 case htw81r4o7 => (intro wx hx; obtain ⟨c0, c1, c2, c3, c4⟩ := BM.cells hx; go_simp; (try with_reducible rfl))
 try simp only [Act.put, List.setIfInBounds_toArray, List.set_cons_zero, List.set_cons_succ]
 refine wpAnyH_ready (rs := [8]) (by kernel_rfl) (by simp) ?_
 refine AllReadyH.cons (o := ⟨some 38, .call { callee := Callee.value (Operand.func 92), args := #[.tmp 33, .tmp 37], argTypes := #[32, 23] }, 158, "blocks.go:113", #[⟨3, .data⟩, ⟨7, .data⟩], none⟩) rfl (fun K hK => ?_) AllReadyH.nil
 go_simp
 refine (HA.out _ hOr.out).mono ?_
 rintro e wA ⟨Y, XI, XB, XA, rfl, hOA⟩
 rw [List.append_nil] at hOA
 have hS1 : BM XM g a b c n wA := HB.out _ _ hOA
 refine hK.out _ _ ?hstw81r4o8 (fun hS => ?_)
 case hstw81r4o8 => (exact hS1)
 clear hK K
 try simp only [Act.put, List.setIfInBounds_toArray, List.set_cons_zero, List.set_cons_succ]
 refine wpAnyH_take (i := 9) (oi := ⟨some 29, .move (.tmp 38), 158, "blocks.go:113", #[⟨8, .data⟩], none⟩) (v := ?vtw81r4o9) rfl (by kernel_rfl) (by kernel_rfl) (by kernel_rfl) (fun _ _ _ h => h) (Or.inl ⟨by rfl, ?htw81r4o9⟩) hS ?_
 case htw81r4o9 => (intro wx hx; skip; go_simp; (try with_reducible rfl))
 try simp only [Act.put, List.setIfInBounds_toArray, List.set_cons_zero, List.set_cons_succ]
 refine wpAnyH_take (i := 10) (oi := ⟨some 39, .extract (.tmp 29) 0, 157, "blocks.go:113", #[⟨9, .data⟩], none⟩) (v := ?vtw81r4o10) rfl (by kernel_rfl) (by kernel_rfl) (by kernel_rfl) (fun _ _ _ h => h) (Or.inl ⟨by rfl, ?htw81r4o10⟩) hS ?_
 case htw81r4o10 => (intro wx hx; skip; go_simp; (try with_reducible rfl))
 try simp only [Act.put, List.setIfInBounds_toArray, List.set_cons_zero, List.set_cons_succ]
 refine wpAnyH_take (i := 11) (oi := ⟨some 40, .extract (.tmp 29) 1, 45, "blocks.go:113", #[⟨9, .data⟩, { on := 12, ground := Ground.gcOnly Departure.lateStores }], none⟩) (v := ?vtw81r4o11) rfl (by kernel_rfl) (by kernel_rfl) (by kernel_rfl) (fun _ _ _ h => h) (Or.inl ⟨by rfl, ?htw81r4o11⟩) hS ?_
 case htw81r4o11 => (intro wx hx; skip; go_simp; (try with_reducible rfl))
 try simp only [Act.put, List.setIfInBounds_toArray, List.set_cons_zero, List.set_cons_succ]
 refine wpAnyH_take (i := 12) (oi := ⟨some 9, .assign (.tmp 39), 157, "blocks.go:113", #[⟨10, .data⟩, ⟨8, .chain⟩, ⟨0, .phase⟩, ⟨1, .phase⟩, ⟨2, .phase⟩, ⟨3, .phase⟩, ⟨4, .phase⟩, ⟨5, .phase⟩, ⟨6, .phase⟩, ⟨7, .phase⟩, ⟨8, .phase⟩, ⟨9, .phase⟩, ⟨10, .phase⟩, { on := 11, ground := Ground.textOnly Departure.lateStores }], none⟩) (v := ?vtw81r4o12) rfl (by kernel_rfl) (by kernel_rfl) (by kernel_rfl) (fun _ _ _ h => h) (Or.inl ⟨by rfl, ?htw81r4o12⟩) hS ?_
 case htw81r4o12 => (intro wx hx; skip; go_simp; (try with_reducible rfl))
 try simp only [Act.put, List.setIfInBounds_toArray, List.set_cons_zero, List.set_cons_succ]
 refine wpAnyH_take (i := 13) (oi := ⟨some 8, .assign (.tmp 40), 45, "blocks.go:113", #[⟨11, .data⟩, ⟨12, .chain⟩, ⟨0, .phase⟩, ⟨1, .phase⟩, ⟨2, .phase⟩, ⟨3, .phase⟩, ⟨4, .phase⟩, ⟨5, .phase⟩, ⟨6, .phase⟩, ⟨7, .phase⟩, ⟨8, .phase⟩, ⟨9, .phase⟩, ⟨10, .phase⟩, ⟨11, .phase⟩, ⟨12, .phase⟩], none⟩) (v := ?vtw81r4o13) rfl (by kernel_rfl) (by kernel_rfl) (by kernel_rfl) (fun _ _ _ h => h) (Or.inl ⟨by rfl, ?htw81r4o13⟩) hS ?_
 case htw81r4o13 => (intro wx hx; skip; go_simp; (try with_reducible rfl))
 try simp only [Act.put, List.setIfInBounds_toArray, List.set_cons_zero, List.set_cons_succ]
 refine wpAnyH_done (by kernel_rfl) ?_ _
 have hOA := Lib.hid hOA
 clear hS hS0 hOr HA hS1
 go_wp2_with fail
 refine (HF.out _ _ _ _ _ hOA.out).mono ?_
 rintro e w2 ⟨rfl, hO2⟩
 clear hOA HF
 have hO2 := Lib.hid hO2
 go_wp2_with fail
 refine (HN.out _ _ hO2.out).mono ?_
 rintro e w3 ⟨rfl, hO3⟩
 have hO3 := Lib.hid hO3
 clear hO2 HN
 go_wp2_with fail
 refine (HW.out _ (HB.out _ _ hO3.out)).mono ?_
 rintro e w3' ⟨rfl, hg3⟩
 have hO3' := Lib.hid (hO3.out.quiet hg3)
 clear hO3 hg3 HB HW
 go_wp2_with fail
 refine (HT.out _ _ _ _ _ hO3'.out).mono ?_
 rintro e w4 ⟨rfl, hO4⟩
 have hO4 := Lib.hid hO4
 clear hO3' HT
 go_wp2_with fail
 refine (HC.out _ (HB1.out _ _ _ _ _ hO4.out)).mono ?_
 rintro e w5 ⟨rfl, hg5⟩
 have hO5 := Lib.hid (hO4.out.quiet hg5)
 clear hO4 hg5 HC HB1
 go_wp2_with fail
 refine (HT2.out _ _ _ _ _ hO5.out).mono ?_
 rintro e w6 ⟨rfl, hO6⟩
 have hOE := Lib.hid (HQ.out _ _ _ _ _ _ hO6)
 clear hO5 hO6 HT2 HQ
 go_wp2
 go_ret2
 exact ⟨rfl, hOE.out⟩
end Go.Proofs.YtfljlmmiiccooaaGreatDoor
end
section
namespace Go.Proofs.YtfljlmmiiccooaaGreatDoor
open Go.RowKit Go.Grommet
set_option linter.unusedVariables false
def slotA (I n k C : Nat) : Nat := if k < 4 then 492 + 16 * n + k else if k = 12 then 496 + 16 * n else 488 + 16 * I + 8 * C + (k - 4)
def putP (P : Nat → Nat → Nat) (n k v : Nat) : Nat → Nat → Nat := fun i j => if i = n ∧ j = k then v else P i j
theorem putP_same (P : Nat → Nat → Nat) (n k v : Nat) : putP P n k v n k = v := by unfold putP; rw [if_pos ⟨rfl, rfl⟩]
theorem putP_ne (P : Nat → Nat → Nat) {n k i j : Nat} (v : Nat) (h : ¬ (i = n ∧ j = k)) : putP P n k v i j = P i j := by unfold putP; rw [if_neg h]
theorem putP_other (P : Nat → Nat → Nat) {n k i : Nat} (v : Nat) (h : i ≠ n) : putP P n k v i = P i := by funext j; exact putP_ne P v (fun e => h e.1)
structure Lk (I B : Nat) (ns : Nat → Prop) (f0 f : Nat → Nat) (P : Nat → Nat → Nat) : Prop where
 rg : ∀ n, ns n → 1 ≤ n ∧ n < I
 lt : ∀ n k, ns n → k ≤ 12 → P n k < B
 one : ∀ n n' k k', ns n → ns n' → k ≤ 12 → k' ≤ 12 → P n k ≠ 0 → P n k = P n' k' → n = n' ∧ k = k'
 ch0 : ∀ n k, ns n → P n 12 = 0 → 4 ≤ k → k < 12 → P n k = 0
 dir : ∀ n k, ns n → k < 4 → f (492 + 16 * n + k) = P n k
 chn : ∀ n, ns n → f (496 + 16 * n) = P n 12
 chd : ∀ n k, ns n → P n 12 ≠ 0 → 4 ≤ k → k < 12 → f (488 + 16 * I + 8 * P n 12 + (k - 4)) = P n k
 bit : ∀ m, m < 64 → ((f 480).testBit m = true ↔ m = 0 ∨ ∃ n k, ns n ∧ k ≤ 12 ∧ P n k = m)
 rest : ∀ a, a < 488 + 16 * I → a ≠ 480 → (∀ n, ns n → ¬ (492 + 16 * n ≤ a ∧ a ≤ 496 + 16 * n)) → f a = f0 a
theorem Lk.free {I B : Nat} {ns : Nat → Prop} {f0 f : Nat → Nat} {P : Nat → Nat → Nat} (h : Lk I B ns f0 f P) {m : Nat} (hm : m < 64) (hf : (f 480).testBit m = false) : m ≠ 0 ∧ ∀ n k, ns n → k ≤ 12 → P n k ≠ m := by
 have := h.bit m hm
 rw [hf] at this
 refine ⟨fun e => ?_, fun n k hn hk e => ?_⟩
 ·have := this.2 (.inl e); cases this
 ·have := this.2 (.inr ⟨n, k, hn, hk, e⟩); cases this
theorem Lk.put {I B : Nat} {ns : Nat → Prop} {f0 f f' : Nat → Nat} {P : Nat → Nat → Nat} (h : Lk I B ns f0 f P) (hs : f 480 < 18446744073709551616) {n k m t : Nat} (hn : ns n) (hk : k ≤ 12) (hm : m < B) (hB : B ≤ 64) (hfree : (f 480).testBit m = false) (h0 : P n k = 0) (hc : 4 ≤ k → k < 12 → P n 12 ≠ 0) (ht : slotA I n k (P n 12) = t)
  (hf' : ∀ a, f' a = if a = t then m else if 488 + 16 * I + 8 * m ≤ a ∧ a < 488 + 16 * I + 8 * m + 8 then 0 else if a = 480 then setB (f 480) m true else f a) : Lk I B ns f0 f' (putP P n k m) := by
 obtain ⟨m0, hne⟩ := h.free (by omega) hfree
 have hnI := h.rg n hn
 have hCB := h.lt n 12 hn (Nat.le_refl _)
 have htc : (k < 4 ∧ t = 492 + 16 * n + k) ∨ (k = 12 ∧ t = 496 + 16 * n) ∨ (4 ≤ k ∧ k < 12 ∧ t = 488 + 16 * I + 8 * P n 12 + (k - 4)) := by
  unfold slotA at ht
  split at ht
  ·omega
  ·split at ht <;> omega
 refine ⟨h.rg, fun i j hi hj => ?_, fun i i' j j' hi hi' hj hj' hnz he => ?_, fun i j hi hz h4 h12 => ?_, fun i j hi hj => ?_, fun i hi => ?_, fun i j hi hz h4 h12 => ?_, fun j hj => ?_, fun a ha h480 hno => ?_⟩
 ·by_cases e : i = n ∧ j = k
  ·rw [show putP P n k m i j = m from by unfold putP; rw [if_pos e]]; exact hm
  ·rw [putP_ne P m e]; exact h.lt i j hi hj
 ·by_cases e : i = n ∧ j = k
  ·by_cases e' : i' = n ∧ j' = k
   ·exact ⟨e.1.trans e'.1.symm, e.2.trans e'.2.symm⟩
   ·rw [show putP P n k m i j = m from by unfold putP; rw [if_pos e], putP_ne P m e'] at he
    exact absurd he.symm (hne i' j' hi' hj')
  ·rw [putP_ne P m e] at hnz he
   by_cases e' : i' = n ∧ j' = k
   ·rw [show putP P n k m i' j' = m from by unfold putP; rw [if_pos e']] at he
    exact absurd he (hne i j hi hj)
   ·rw [putP_ne P m e'] at he
    exact h.one i i' j j' hi hi' hj hj' hnz he
 ·by_cases e : i = n ∧ 12 = k
  ·rw [show putP P n k m i 12 = m from by unfold putP; rw [if_pos e]] at hz
   exact absurd hz m0
  ·rw [putP_ne P m e] at hz
   by_cases e' : i = n ∧ j = k
   ·exact absurd (by rw [← e'.1]; exact hz) (hc (by omega) (by omega))
   ·rw [putP_ne P m e']; exact h.ch0 i j hi hz h4 h12
 ·have hiI := h.rg i hi
  rw [hf']
  by_cases e : i = n ∧ j = k
  ·rw [if_pos (by obtain ⟨rfl, rfl⟩ := e; omega), show putP P n k m i j = m from by unfold putP; rw [if_pos e]]
  ·rw [if_neg (by omega), if_neg (by omega), if_neg (by omega), putP_ne P m e]; exact h.dir i j hi hj
 ·have hiI := h.rg i hi
  rw [hf']
  by_cases e : i = n ∧ 12 = k
  ·rw [if_pos (by obtain ⟨rfl, rfl⟩ := e; omega), show putP P n k m i 12 = m from by unfold putP; rw [if_pos e]]
  ·rw [if_neg (by omega), if_neg (by omega), if_neg (by omega), putP_ne P m e]; exact h.chn i hi
 ·have hiI := h.rg i hi
  rw [hf']
  by_cases e : i = n ∧ 12 = k
  ·have e2 : putP P n k m i 12 = m := by unfold putP; rw [if_pos e]
   rw [e2, putP_ne P m (by omega), if_neg (by omega), if_pos (by omega)]
   refine (h.ch0 i j hi ?_ h4 h12).symm
   rw [e.1, e.2]; exact h0
  ·have e1 : putP P n k m i 12 = P i 12 := putP_ne P m e
   rw [e1] at hz ⊢
   have hCm := hne i 12 hi (Nat.le_refl _)
   have hib := h.lt i 12 hi (Nat.le_refl _)
   by_cases e' : i = n ∧ j = k
   ·obtain ⟨rfl, rfl⟩ := e'
    rw [if_pos (by omega), putP_same]
   ·rw [putP_ne P m e']
    have hat : 488 + 16 * I + 8 * P i 12 + (j - 4) ≠ t := by
     rcases htc with ⟨_, rfl⟩ | ⟨_, rfl⟩ | ⟨k4, k12, rfl⟩
     ·omega
     ·omega
     ·intro ee
      have e3 : P i 12 = P n 12 := by omega
      have e4 := h.one i n 12 12 hi hn (Nat.le_refl _) (Nat.le_refl _) hz e3
      omega
    rw [if_neg hat, if_neg (by omega), if_neg (by omega)]
    exact h.chd i j hi hz h4 h12
 ·rw [hf', if_neg (by omega), if_neg (by omega), if_pos rfl, setB_bit true (by omega) hs]
  by_cases e : j = m
  ·rw [if_pos e]
   exact ⟨fun _ => .inr ⟨n, k, hn, hk, by rw [putP_same, e]⟩, fun _ => rfl⟩
  ·rw [if_neg e, h.bit j hj]
   constructor
   ·rintro (hz | ⟨i, q, hi, hq, rfl⟩)
    ·exact .inl hz
    ·by_cases e' : i = n ∧ q = k
     ·exact .inl (by rw [e'.1, e'.2]; exact h0)
     ·exact .inr ⟨i, q, hi, hq, putP_ne P m e'⟩
   ·rintro (hz | ⟨i, q, hi, hq, hp⟩)
    ·exact .inl hz
    ·by_cases e' : i = n ∧ q = k
     ·rw [show putP P n k m i q = m from by unfold putP; rw [if_pos e']] at hp
      exact absurd hp.symm e
     ·rw [putP_ne P m e'] at hp
      exact .inr ⟨i, q, hi, hq, hp⟩
 ·have := hno n hn
  rw [hf', if_neg (by omega), if_neg (by omega), if_neg h480]
  exact h.rest a ha h480 hno
theorem Lk.give {I B : Nat} {ns : Nat → Prop} {f0 f f' : Nat → Nat} {P : Nat → Nat → Nat} (h : Lk I B ns f0 f P) (hs : f 480 < 18446744073709551616) {n k m t : Nat} (hn : ns n) (hk : k ≤ 12) (hm : P n k = m) (m0 : m ≠ 0) (hB : B ≤ 64) (hb : k = 12 → ∀ j, 4 ≤ j → j < 12 → P n j = 0) (ht : slotA I n k (P n 12) = t)
  (hf' : ∀ a, f' a = if a = t then 0 else if a = 480 then setB (f 480) m false else f a) : Lk I B ns f0 f' (putP P n k 0) := by
 have hnI := h.rg n hn
 have hCB := h.lt n 12 hn (Nat.le_refl _)
 have hmB := h.lt n k hn hk
 have htc : (k < 4 ∧ t = 492 + 16 * n + k) ∨ (k = 12 ∧ t = 496 + 16 * n) ∨ (4 ≤ k ∧ k < 12 ∧ t = 488 + 16 * I + 8 * P n 12 + (k - 4)) := by
  unfold slotA at ht
  split at ht
  ·omega
  ·split at ht <;> omega
 refine ⟨h.rg, fun i j hi hj => ?_, fun i i' j j' hi hi' hj hj' hnz he => ?_, fun i j hi hz h4 h12 => ?_, fun i j hi hj => ?_, fun i hi => ?_, fun i j hi hz h4 h12 => ?_, fun j hj => ?_, fun a ha h480 hno => ?_⟩
 ·by_cases e : i = n ∧ j = k
  ·rw [show putP P n k 0 i j = 0 from by unfold putP; rw [if_pos e]]; omega
  ·rw [putP_ne P 0 e]; exact h.lt i j hi hj
 ·by_cases e : i = n ∧ j = k
  ·rw [show putP P n k 0 i j = 0 from by unfold putP; rw [if_pos e]] at hnz
   exact absurd rfl hnz
  ·rw [putP_ne P 0 e] at hnz he
   by_cases e' : i' = n ∧ j' = k
   ·rw [show putP P n k 0 i' j' = 0 from by unfold putP; rw [if_pos e']] at he
    exact absurd he hnz
   ·rw [putP_ne P 0 e'] at he
    exact h.one i i' j j' hi hi' hj hj' hnz he
 ·by_cases e' : i = n ∧ j = k
  ·unfold putP; rw [if_pos e']
  ·rw [putP_ne P 0 e']
   by_cases e : i = n ∧ 12 = k
   ·rw [e.1]; exact hb e.2.symm j h4 h12
   ·rw [putP_ne P 0 e] at hz
    exact h.ch0 i j hi hz h4 h12
 ·have hiI := h.rg i hi
  rw [hf']
  by_cases e : i = n ∧ j = k
  ·rw [if_pos (by obtain ⟨rfl, rfl⟩ := e; omega)]; unfold putP; rw [if_pos e]
  ·rw [if_neg (by omega), if_neg (by omega), putP_ne P 0 e]; exact h.dir i j hi hj
 ·have hiI := h.rg i hi
  rw [hf']
  by_cases e : i = n ∧ 12 = k
  ·rw [if_pos (by obtain ⟨rfl, rfl⟩ := e; omega)]; unfold putP; rw [if_pos e]
  ·rw [if_neg (by omega), if_neg (by omega), putP_ne P 0 e]; exact h.chn i hi
 ·have hiI := h.rg i hi
  rw [hf']
  by_cases e : i = n ∧ 12 = k
  ·rw [show putP P n k 0 i 12 = 0 from by unfold putP; rw [if_pos e]] at hz
   exact absurd rfl hz
  ·have e1 : putP P n k 0 i 12 = P i 12 := putP_ne P 0 e
   rw [e1] at hz ⊢
   have hib := h.lt i 12 hi (Nat.le_refl _)
   by_cases e' : i = n ∧ j = k
   ·obtain ⟨rfl, rfl⟩ := e'
    rw [if_pos (by omega), putP_same]
   ·rw [putP_ne P 0 e']
    have hat : 488 + 16 * I + 8 * P i 12 + (j - 4) ≠ t := by
     rcases htc with ⟨_, rfl⟩ | ⟨_, rfl⟩ | ⟨k4, k12, rfl⟩
     ·omega
     ·omega
     ·intro ee
      have e3 : P i 12 = P n 12 := by omega
      have e4 := h.one i n 12 12 hi hn (Nat.le_refl _) (Nat.le_refl _) hz e3
      omega
    rw [if_neg hat, if_neg (by omega)]
    exact h.chd i j hi hz h4 h12
 ·rw [hf', if_neg (by omega), if_pos rfl, setB_bit false (by omega) hs]
  by_cases e : j = m
  ·rw [if_pos e]
   constructor
   ·intro x; cases x
   ·rintro (hz | ⟨i, q, hi, hq, hp⟩)
    ·exact absurd (e.symm.trans hz) m0
    ·by_cases e' : i = n ∧ q = k
     ·rw [show putP P n k 0 i q = 0 from by unfold putP; rw [if_pos e']] at hp
      exact absurd (e.symm.trans hp.symm) m0
     ·rw [putP_ne P 0 e'] at hp
      have e5 : P i q = P n k := by rw [hp, hm, e]
      exact absurd (h.one i n q k hi hn hq hk (by rw [hp, e]; exact m0) e5) e'
  ·rw [if_neg e, h.bit j hj]
   constructor
   ·rintro (hz | ⟨i, q, hi, hq, rfl⟩)
    ·exact .inl hz
    ·by_cases e' : i = n ∧ q = k
     ·exact absurd (by rw [e'.1, e'.2]; exact hm) e
     ·exact .inr ⟨i, q, hi, hq, putP_ne P 0 e'⟩
   ·rintro (hz | ⟨i, q, hi, hq, hp⟩)
    ·exact .inl hz
    ·by_cases e' : i = n ∧ q = k
     ·rw [show putP P n k 0 i q = 0 from by unfold putP; rw [if_pos e']] at hp
      exact .inl hp.symm
     ·rw [putP_ne P 0 e'] at hp
      exact .inr ⟨i, q, hi, hq, hp⟩
 ·have := hno n hn
  rw [hf', if_neg (by omega), if_neg h480]
  exact h.rest a ha h480 hno
def dw (f : Nat → Nat) (I : Nat) (P : Nat → Nat → Nat) (i k j : Nat) : Nat := if P i k = 0 then 0 else f (488 + 16 * I + 8 * P i k + j)
theorem Lk.put_dw {I B : Nat} {ns : Nat → Prop} {f0 f f' : Nat → Nat} {P : Nat → Nat → Nat} (h : Lk I B ns f0 f P) {n k m t : Nat} (hn : ns n) (hk : k ≤ 12) (hm : m < B) (hB : B ≤ 64) (hfree : (f 480).testBit m = false) (h0 : P n k = 0) (hc : 4 ≤ k → k < 12 → P n 12 ≠ 0) (ht : slotA I n k (P n 12) = t)
  (hf' : ∀ a, f' a = if a = t then m else if 488 + 16 * I + 8 * m ≤ a ∧ a < 488 + 16 * I + 8 * m + 8 then 0 else if a = 480 then setB (f 480) m true else f a) (i q j : Nat) (hi : ns i) (hq : q < 12) (hj : j < 8) : dw f' I (putP P n k m) i q j = dw f I P i q j := by
 obtain ⟨m0, hne⟩ := h.free (by omega) hfree
 have hnI := h.rg n hn
 have htc : (k < 4 ∧ t = 492 + 16 * n + k) ∨ (k = 12 ∧ t = 496 + 16 * n) ∨ (4 ≤ k ∧ k < 12 ∧ t = 488 + 16 * I + 8 * P n 12 + (k - 4)) := by
  unfold slotA at ht
  split at ht
  ·omega
  ·split at ht <;> omega
 unfold dw
 by_cases e : i = n ∧ q = k
 ·have e1 : putP P n k m i q = m := by unfold putP; rw [if_pos e]
  rw [e1, if_neg m0, if_pos (by rw [e.1, e.2]; exact h0), hf']
  have hCm := hne n 12 hn (by omega)
  rw [if_neg (by omega), if_pos (by omega)]
 ·rw [putP_ne P m e]
  by_cases hz : P i q = 0
  ·rw [if_pos hz, if_pos hz]
  ·have hvm := hne i q hi (by omega)
   have hvC : P i q ≠ P n 12 := fun ee => by
    have := h.one i n q 12 hi hn (by omega) (Nat.le_refl _) hz ee
    omega
   rw [if_neg hz, if_neg hz, hf', if_neg (by omega), if_neg (by omega), if_neg (by omega)]
theorem Lk.give_dw {I B : Nat} {ns : Nat → Prop} {f0 f f' : Nat → Nat} {P : Nat → Nat → Nat} (h : Lk I B ns f0 f P) {n k m t : Nat} (hn : ns n) (hk : k ≤ 12) (ht : slotA I n k (P n 12) = t) (hc : 4 ≤ k → k < 12 → P n 12 ≠ 0)
  (hf' : ∀ a, f' a = if a = t then 0 else if a = 480 then setB (f 480) m false else f a) (i q j : Nat) (hi : ns i) (hq : q < 12) (hj : j < 8) (hz : putP P n k 0 i q ≠ 0) : dw f' I (putP P n k 0) i q j = dw f I P i q j := by
 have hnI := h.rg n hn
 have htc : (k < 4 ∧ t = 492 + 16 * n + k) ∨ (k = 12 ∧ t = 496 + 16 * n) ∨ (4 ≤ k ∧ k < 12 ∧ t = 488 + 16 * I + 8 * P n 12 + (k - 4)) := by
  unfold slotA at ht
  split at ht
  ·omega
  ·split at ht <;> omega
 unfold dw
 by_cases e : i = n ∧ q = k
 ·have e1 : putP P n k 0 i q = 0 := by unfold putP; rw [if_pos e]
  exact absurd e1 hz
 ·rw [putP_ne P 0 e] at hz ⊢
  have hvC : P i q ≠ P n 12 := fun ee => by
   have := h.one i n q 12 hi hn (by omega) (Nat.le_refl _) hz ee
   omega
  rw [if_neg hz, if_neg hz, hf', if_neg (by omega), if_neg (by omega)]
theorem got_zeroL {xs : List Nat} {P : Nat} {L : List (Nat × Nat)} (a : Nat) : ∀ i, L.length + i ≤ 96 → P + i ≤ xs.length → gotV xs (zeroL xs P L i) a = if P ≤ a ∧ a < P + i then 0 else gotV xs L a
 | 0, _, _ => by rw [if_neg (by omega)]; rfl
 | i + 1, h, hx => by
  have hz := zeroL_length xs P L i
  show gotV xs (putI xs (zeroL xs P L i) ((P + i : Nat) : Int) 0) a = _
  unfold putI
  rw [if_pos (by omega), Int.toNat_natCast, got_put (.inl (by omega)), got_zeroL a i (by omega) (by omega)]
  by_cases e : a = P + i
  ·rw [if_pos e, if_pos (by omega)]
  ·rw [if_neg e]
   by_cases e2 : P ≤ a ∧ a < P + i
   ·rw [if_pos e2, if_pos (by omega)]
   ·rw [if_neg e2, if_neg (by omega)]
theorem got_setM {xs : List Nat} {L : List (Nat × Nat)} {A m i : Nat} {is : Bool} (hl : L.length < 96) (hi : i < m) (ha : A + i / 64 < xs.length) (a : Nat) : gotV xs (setMI xs L A m (i : Int) is) a = if a = A + i / 64 then setB (gotV xs L (A + i / 64)) (i % 64) is else gotV xs L a := by
 have hin : inB (i : Int) m = true := by unfold inB; simp; omega
 unfold setMI putI
 rw [hin, if_pos rfl, Int.toNat_natCast, if_pos (by omega), Int.toNat_natCast, got_put (.inl hl)]
theorem wl_setL {xs : List Nat} {L : List (Nat × Nat)} (h : Wl xs.length L) (t v : Nat) (ht : t < xs.length) (hv : v < 18446744073709551616) : Wl xs.length (setL xs L (t : Int) v) := by
 unfold setL
 split
 ·split
  ·exact h
  ·rw [Int.toNat_natCast]; exact h.put ht hv
 ·exact h
theorem wl_putI {xs : List Nat} {L : List (Nat × Nat)} (h : Wl xs.length L) (t v : Nat) (hv : v < 18446744073709551616) : Wl xs.length (putI xs L (t : Int) v) := by
 unfold putI
 split
 ·rw [Int.toNat_natCast]; exact h.put (by omega) hv
 ·exact h
theorem wl_zeroL {xs : List Nat} {P : Nat} {L : List (Nat × Nat)} (h : Wl xs.length L) : ∀ i, Wl xs.length (zeroL xs P L i)
 | 0 => h
 | i + 1 => wl_putI (wl_zeroL h i) (P + i) 0 (by omega)
theorem wl_setM {xs : List Nat} {L : List (Nat × Nat)} (hx : ∀ n ∈ xs, n < 18446744073709551616) (h : Wl xs.length L) (A m i : Nat) (is : Bool) : Wl xs.length (setMI xs L A m (i : Int) is) := by
 unfold setMI
 split
 ·exact wl_putI h _ _ (setB_small is (Nat.mod_lt _ (by omega)) (gotV_small hx h.val _))
 ·exact h
theorem got_takeL {xs : List Nat} {L : List (Nat × Nat)} {I B m t : Nat} (hl : L.length ≤ 80) (hm : m < B) (hB : B ≤ 64) (hx : 488 + 16 * I + 8 * B ≤ xs.length) (ht : t < xs.length) (a : Nat) :
  gotV xs (takeL xs L 1 I B m (t : Int)) a = if a = t then m else if 488 + 16 * I + 8 * m ≤ a ∧ a < 488 + 16 * I + 8 * m + 8 then 0 else if a = 480 then setB (gotV xs L 480) m true else gotV xs L a := by
 unfold takeL
 have hz := zeroL_length xs (280 + 208 * 1 + 16 * I + 8 * m) (setMI xs L (272 + 208 * 1) B (m : Int) true) 8
 have hz2 := bm_set_length (xs := xs) (L := L) (A := 272 + 208 * 1) (m := B) (i := (m : Int)) (is := true)
 rw [setL_got ht (by omega), got_zeroL a 8 (by omega) (by omega), got_setM (by omega) hm (by omega), show 272 + 208 * 1 + m / 64 = 480 from by omega, Nat.mod_eq_of_lt (show m < 64 by omega)]
theorem wl_takeL {xs : List Nat} {L : List (Nat × Nat)} {I B m t : Nat} (hx : ∀ n ∈ xs, n < 18446744073709551616) (h : Wl xs.length L) (hm : m < 18446744073709551616) (ht : t < xs.length) : Wl xs.length (takeL xs L 1 I B m (t : Int)) := by
 unfold takeL
 exact wl_setL (wl_zeroL (wl_setM hx h _ _ _ _) _) _ _ ht hm
theorem mbit_480 {xs : List Nat} {L : List (Nat × Nat)} {m : Nat} (hm : m < 64) : mbit xs L (272 + 208 * 1) m = (gotV xs L 480).testBit m := by
 unfold mbit
 rw [show 272 + 208 * 1 + m / 64 = 480 from by omega, Nat.mod_eq_of_lt hm]
theorem giveL_yes {xs : List Nat} {L : List (Nat × Nat)} {B m : Nat} (h1 : 1 ≤ m) (hm : m < B) (hB : B ≤ 64) (hb : (gotV xs L 480).testBit m = true) : giveL xs L (272 + 208 * 1) B (m : Int) = setMI xs L (272 + 208 * 1) B (m : Int) false := by
 unfold giveL
 rw [if_neg (by omega), Int.toNat_natCast, mbit_480 (by omega), hb, if_pos rfl]
theorem giveE_yes {xs : List Nat} {L : List (Nat × Nat)} {B m : Nat} (h1 : 1 ≤ m) (hm : m < B) (hB : B ≤ 64) (hb : (gotV xs L 480).testBit m = true) (hl : L.length < 96) (hx : 481 ≤ xs.length) : giveE xs L (272 + 208 * 1) B (m : Int) = 0 := by
 unfold giveE
 rw [if_neg (by omega), Int.toNat_natCast, mbit_480 (by omega), hb, if_pos rfl, setM_ok hl hm (by omega)]
theorem got_giveBL {xs : List Nat} {L : List (Nat × Nat)} {B m t : Nat} (h1 : 1 ≤ m) (hm : m < B) (hB : B ≤ 64) (hb : (gotV xs L 480).testBit m = true) (hl : L.length ≤ 90) (hx : 481 ≤ xs.length) (ht : t < xs.length) (a : Nat) :
  gotV xs (setL xs (giveL xs L (272 + 208 * 1) B (m : Int)) (t : Int) 0) a = if a = t then 0 else if a = 480 then setB (gotV xs L 480) m false else gotV xs L a := by
 have hz2 := bm_set_length (xs := xs) (L := L) (A := 272 + 208 * 1) (m := B) (i := (m : Int)) (is := false)
 rw [giveL_yes h1 hm hB hb, setL_got ht (by omega), got_setM (by omega) hm (by omega), show 272 + 208 * 1 + m / 64 = 480 from by omega, Nat.mod_eq_of_lt (show m < 64 by omega)]
theorem len_giveBL {xs : List Nat} {L : List (Nat × Nat)} {B m t : Nat} : (giveL xs L (272 + 208 * 1) B (m : Int)).length ≤ L.length + 1 ∧ (setL xs (giveL xs L (272 + 208 * 1) B (m : Int)) (t : Int) 0).length ≤ L.length + 2 := by
 have h1 := setL_len xs (giveL xs L (272 + 208 * 1) B (m : Int)) (t : Int) 0
 have h2 : (giveL xs L (272 + 208 * 1) B (m : Int)).length ≤ L.length + 1 := by
  unfold giveL
  split
  ·omega
  ·split
   ·exact bm_set_length
   ·omega
 omega
theorem wl_giveBL {xs : List Nat} {L : List (Nat × Nat)} {B m t : Nat} (hx : ∀ n ∈ xs, n < 18446744073709551616) (h : Wl xs.length L) (ht : t < xs.length) : Wl xs.length (setL xs (giveL xs L (272 + 208 * 1) B (m : Int)) (t : Int) 0) := by
 refine wl_setL ?_ _ _ ht (by omega)
 unfold giveL
 split
 ·exact h
 ·split
  ·exact wl_setM hx h _ _ _ _
  ·exact h
def nzc (p : Nat → Nat) : Nat := cntF (fun j => p j != 0) 13
theorem nzc_put {P : Nat → Nat → Nat} {n k m : Nat} (hk : k ≤ 12) (h0 : P n k = 0) (hm : m ≠ 0) : nzc (putP P n k m n) = nzc (P n) + 1 := by
 have := cntF_turn (f := fun j => P n j != 0) (g := fun j => putP P n k m n j != 0) (k := k) (fun i hi => by rw [putP_ne P m (fun e => hi e.2)]) 13 (by omega)
 simp only [putP_same, h0] at this
 rw [show (m != 0) = true from by simpa using hm] at this
 unfold nzc
 simpa using this
theorem nzc_give {P : Nat → Nat → Nat} {n k : Nat} (hk : k ≤ 12) (h0 : P n k ≠ 0) : nzc (putP P n k 0 n) + 1 = nzc (P n) := by
 have := cntF_turn (f := fun j => P n j != 0) (g := fun j => putP P n k 0 n j != 0) (k := k) (fun i hi => by rw [putP_ne P 0 (fun e => hi e.2)]) 13 (by omega)
 simp only [putP_same] at this
 rw [show (P n k != 0) = true from by simpa using h0] at this
 unfold nzc
 simpa using this
end Go.Proofs.YtfljlmmiiccooaaGreatDoor
end
