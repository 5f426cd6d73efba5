/- Package alloc: New. -/
import Derived.Test.YtdblgnccjpjabaaDoorBitI
import Derived.Test.YtdblgnccjpjabaaDoorLayF
import Derived.Deep.RegionHeld
-- OPTIONAL
namespace Go.Proofs.YtdblgnccjpjabaaDoor
open Go.RowKit Go.Grommet

def geoCs (a b c : Nat) : Array Value := #[.int .i64 (a : Int), .int .i64 (b : Int), .int .i64 (c : Int)]
/-- What a region of New keeps: a geometry in a block, things of the call's own. -/
structure GS (Y a b c : Nat) (w0 : World) (Ps : List Pr) (w : World) : Prop where
  box : w.heap[Y]? = some (.cells (geoCs a b c) 23 (0, 0))
  own : Grommet.Own w0 w Ps
theorem GS.all {Y a b c : Nat} {w0 : World} {Ps : List Pr} {w : World} (h : GS Y a b c w0 Ps w) : GS Y a b c w0 Ps w ∧ w.cell? ⟨Y, 0, none⟩ = some (.int .i64 (a : Int)) ∧ w.cell? ⟨Y, 1, none⟩ = some (.int .i64 (b : Int)) ∧ w.cell? ⟨Y, 2, none⟩ = some (.int .i64 (c : Int)) :=
  ⟨h, by simp [World.cell?, h.box, geoCs], by simp [World.cell?, h.box, geoCs], by simp [World.cell?, h.box, geoCs]⟩
theorem GS.grown {Y a b c : Nat} {w0 : World} {Ps : List Pr} {w w' : World} (h : GS Y a b c w0 Ps w) (hg : w.grownBy w' none) : GS Y a b c w0 Ps w' :=
  ⟨(hg.block _ (Array.getElem?_eq_some_iff.1 h.box).1 (by simp)).trans h.box, h.own.quiet hg⟩
theorem GS.drew {Y a b c : Nat} {w0 : World} {Ps : List Pr} {w : World} (h : GS Y a b c w0 Ps w) : GS Y a b c w0 Ps w.drew := h.grown (grown_drew (World.grownBy.refl _ _))
theorem GS.of {Y a b c : Nat} {w0 : World} {Ps : List Pr} {w : World} (h : Grommet.Own w0 w Ps) (j : Nat) (hj : Ps[j]? = some (boxP Y 23 (geoCs a b c))) : GS Y a b c w0 Ps w := ⟨h.box j hj, h⟩

def allocP (XA g a b c XI XB : Nat) : Pr := boxP XA 88 #[.pointer (some ⟨g, 0, none⟩), .int .i64 (a : Int), .int .i64 (b : Int), .int .i64 (c : Int), .pointer (some ⟨XI, 0, none⟩), .pointer (some ⟨XB, 0, none⟩)]

theorem mayN {a b c : Nat} (h : mayB (a : Int) (b : Int) (c : Int) = true) : 1 ≤ a ∧ a ≤ 4 ∧ 2 ≤ b ∧ b ≤ 64 ∧ 2 ≤ c ∧ c ≤ 512 := by have := mayB_yes h; omega
theorem mapI_ok {n a b c : Nat} (h : mayB (a : Int) (b : Int) (c : Int) = true) (hn : 280 + 208 * a + 16 * b + 8 * c ≤ n) (hx : n ≤ 1000000) : MapOk n (264 + 208 * a) b := by
  have := mayN h; exact ⟨by omega, by omega, hx⟩
theorem mapB_ok {n a b c : Nat} (h : mayB (a : Int) (b : Int) (c : Int) = true) (hn : 280 + 208 * a + 16 * b + 8 * c ≤ n) (hx : n ≤ 1000000) : MapOk n (272 + 208 * a) c := by
  have := mayN h; exact ⟨by omega, by omega, hx⟩

set_option maxRecDepth 100000 in
set_option maxHeartbeats 1000000 in
theorem ANewH (k g a b c : Nat) (xs : List Nat) (L : List (Nat × Nat)) (w0 w : World) (Ps : List Pr) (h : Grommet.Own w0 w Ps) (hk : Ps[k]? = some (viewP g xs L)) (hm : mayB (a : Int) (b : Int) (c : Int) = true) (hn : 280 + 208 * a + 16 * b + 8 * c ≤ xs.length) (hx : xs.length ≤ 1000000) :
    Calls Tryd.prog 12 #[.pointer (some ⟨g, 0, none⟩), .agg #[.int .i64 (a : Int), .int .i64 (b : Int), .int .i64 (c : Int)]] w fun e w' => ∃ Y XI XB XA, e = .returned (.tuple #[.pointer (some ⟨XA, 0, none⟩), .int .i64 0]) ∧
      Grommet.Own w0 w' (Ps ++ [boxP Y 23 (geoCs a b c), mapP XI g (264 + 208 * a) b, mapP XB g (272 + 208 * a) c, allocP XA g a b c XI XB]) := by
  have hmN := mayN hm
  have hO1 := h.addBox 23 (geoCs a b c)
  have hG1 := GS.of (Y := w.heap.size) (a := a) (b := b) (c := c) hO1 Ps.length (by simp)
  have hk1 : (Ps ++ [boxP w.heap.size 23 (geoCs a b c)])[k]? = some (viewP g xs L) := by
    rw [List.getElem?_append_left (List.getElem?_eq_some_iff.1 hk).1]; exact hk
  have HL := Lib.hid (fun wx hO => LenH k g xs L w0 wx _ hO hk1)
  have HM := Lib.hid (fun wx => May_any (a : Int) (b : Int) (c : Int) wx)
  have HWd := Lib.hid (fun wx => Words_any (a : Int) (b : Int) (c : Int) wx)
  have HIm := Lib.hid (fun wx => InodeMapAt_any (a : Int) (b : Int) (c : Int) wx)
  have HBm := Lib.hid (fun wx => BlockMapAt_any (a : Int) (b : Int) (c : Int) wx)
  rw [hm] at HM
  rw [show wordsV (a : Int) (b : Int) (c : Int) = ((280 + 208 * a + 16 * b + 8 * c : Nat) : Int) from by rw [words_pos hm]; omega] at HWd
  rw [show imapV (a : Int) (b : Int) (c : Int) = ((264 + 208 * a : Nat) : Int) from by unfold imapV; rw [if_pos hm]; omega] at HIm
  rw [show bmapV (a : Int) (b : Int) (c : Int) = ((272 + 208 * a : Nat) : Int) from by unfold bmapV; rw [if_pos hm]; omega] at HBm
  unfold gv at HM HWd HIm HBm
  have kI := mapI_ok hm hn hx
  have kB := mapB_ok hm hn hx
  have hlt : ¬ (xs.length : Int) < ((280 + 208 * a + 16 * b + 8 * c : Nat) : Int) := by omega
  obtain ⟨Y, eY⟩ : ∃ Y, w.heap.size = Y := ⟨_, rfl⟩
  rw [eY] at hO1 hG1 hk1 HL
  obtain ⟨Ps1, eP⟩ : ∃ Ps1, Ps ++ [boxP Y 23 (geoCs a b c)] = Ps1 := ⟨_, rfl⟩
  have hPl : Ps1[Ps.length]? = some (boxP Y 23 (geoCs a b c)) := by rw [← eP]; simp
  rw [eP] at hO1 hG1 hk1 HL
  have HP := Lib.hid hPl
  have HPe := Lib.hid eP
  have hG1 := Lib.hid hG1
  obtain ⟨N, eN⟩ : ∃ N, 280 + 208 * a + 16 * b + 8 * c = N := ⟨_, rfl⟩
  obtain ⟨MI, eMI⟩ : ∃ N, 264 + 208 * a = N := ⟨_, rfl⟩
  obtain ⟨MB, eMB⟩ : ∃ N, 272 + 208 * a = N := ⟨_, rfl⟩
  rw [eN] at HWd hlt
  rw [eMI] at HIm kI
  rw [eMB] at HBm kB
  have HMI := Lib.hid eMI
  have HMB := Lib.hid eMB
  have Hk1 := Lib.hid hk1
  have HkI := Lib.hid kI
  have HkB := Lib.hid kB
  unfold geoCs at hG1
  clear h hk hm hn hx hmN hO1 hk1 hPl eP eN eMI eMB kI kB
  generalize xs.length = n at HL hlt
  go_enter Tryd.func12, Tryd.ntmps12
  go_wp2_with fail
  refine (HM.out _).mono ?_
  rintro e w1 ⟨rfl, hg1⟩
  have hG2 : GS Y a b c w0 Ps1 w1 := GS.grown hG1.out hg1
  clear hG1 hg1
  go_wp2_with fail
  obtain ⟨hP, k0, k1, k2⟩ := GS.all (GS.drew hG2)
  clear hG2
  go_region_held (fun w' => GS Y a b c w0 Ps1 w' ∧ w'.cell? ⟨Y, 0, none⟩ = some (.int .i64 (a : Int)) ∧ w'.cell? ⟨Y, 1, none⟩ = some (.int .i64 (b : Int)) ∧ w'.cell? ⟨Y, 2, none⟩ = some (.int .i64 (c : Int))) ((apply GS.all; assumption)) (first | (go_at_call 44; refine (HL.out _ (GS.own (show GS Y a b c w0 Ps1 _ by assumption))).mono ?_; rintro e wA ⟨rfl, rfl⟩) | (go_at_call 33; refine (HWd.out _).mono ?_; rintro e wB ⟨rfl, hgB⟩; obtain ⟨hP, k0, k1, k2⟩ := GS.all (GS.grown (show GS Y a b c w0 Ps1 _ by assumption) hgB)))
  clear k0 k1 k2 HL HM HWd
  replace hP : GS Y a b c w0 Ps1 wB := hP
  have hN1 := Lib.hid hP
  clear hP
  go_wp2_with fail
  obtain ⟨hP, k0, k1, k2⟩ := GS.all (GS.drew hN1.out)
  clear hN1
  go_region_held (fun w' => GS Y a b c w0 Ps1 w' ∧ w'.cell? ⟨Y, 0, none⟩ = some (.int .i64 (a : Int)) ∧ w'.cell? ⟨Y, 1, none⟩ = some (.int .i64 (b : Int)) ∧ w'.cell? ⟨Y, 2, none⟩ = some (.int .i64 (c : Int))) ((apply GS.all; assumption)) (first | (go_at_call 46; refine (HIm.out _).mono ?_; rintro e wC ⟨rfl, hgC⟩; obtain ⟨hP, k0, k1, k2⟩ := GS.all (GS.grown (show GS Y a b c w0 Ps1 _ by assumption) hgC)) | (go_at_call 45; refine (MOfH k g MI b xs L w0 _ Ps1 (GS.own (show GS Y a b c w0 Ps1 _ by assumption)) Hk1.out HkI.out).mono ?_; rintro e wD ⟨XI, rfl, hOI, _⟩; obtain ⟨hP, k0, k1, k2⟩ := GS.all (GS.of (Y := Y) (a := a) (b := b) (c := c) (Own.less hOI) Ps.length HP.out)))
  clear k0 k1 k2 HIm
  have hbx : wD.heap[Y]? = some (.cells (geoCs a b c) 23 (0, 0)) := hP.box
  have hN1 : Hid (GS Y a b c w0 (Ps1 ++ [mapP XI g MI b]) wD) := Lib.hid ⟨hbx, hOI⟩
  have Hk2 : Hid ((Ps1 ++ [mapP XI g MI b])[k]? = some (viewP g xs L)) := Lib.hid (by rw [List.getElem?_append_left (List.getElem?_eq_some_iff.1 Hk1.out).1]; exact Hk1.out)
  have HP2 : Hid ((Ps1 ++ [mapP XI g MI b])[Ps.length]? = some (boxP Y 23 (geoCs a b c))) := Lib.hid (by rw [List.getElem?_append_left (List.getElem?_eq_some_iff.1 HP.out).1]; exact HP.out)
  obtain ⟨Ps2, eP2⟩ : ∃ Ps2, Ps1 ++ [mapP XI g MI b] = Ps2 := ⟨_, rfl⟩
  rw [eP2] at hN1 Hk2 HP2
  have HPe2 := Lib.hid eP2
  clear hP hOI hbx eP2
  go_wp2_with fail
  obtain ⟨hP, k0, k1, k2⟩ := GS.all (GS.drew hN1.out)
  clear hN1
  go_region_held (fun w' => GS Y a b c w0 Ps2 w' ∧ w'.cell? ⟨Y, 0, none⟩ = some (.int .i64 (a : Int)) ∧ w'.cell? ⟨Y, 1, none⟩ = some (.int .i64 (b : Int)) ∧ w'.cell? ⟨Y, 2, none⟩ = some (.int .i64 (c : Int))) ((apply GS.all; assumption)) (first | (go_at_call 47; refine (HBm.out _).mono ?_; rintro e wC ⟨rfl, hgC⟩; obtain ⟨hP, k0, k1, k2⟩ := GS.all (GS.grown (show GS Y a b c w0 Ps2 _ by assumption) hgC)) | (go_at_call 45; refine (MOfH k g MB c xs L w0 _ Ps2 (GS.own (show GS Y a b c w0 Ps2 _ by assumption)) Hk2.out HkB.out).mono ?_; rintro e wE ⟨XB, rfl, hOI, _⟩; obtain ⟨hP, k0, k1, k2⟩ := GS.all (GS.of (Y := Y) (a := a) (b := b) (c := c) (Own.less hOI) Ps.length HP2.out)))
  have hfin := Lib.hid (hOI.addBox 88 #[.pointer (some ⟨g, 0, none⟩), .int .i64 (a : Int), .int .i64 (b : Int), .int .i64 (c : Int), .pointer (some ⟨XI, 0, none⟩), .pointer (some ⟨XB, 0, none⟩)])
  clear hP hOI HBm
  go_wp2
  go_ret2
  refine ⟨Y, XI, XB, _, rfl, ?_⟩
  have := hfin.out
  rw [← HPe2.out, ← HPe.out] at this
  rw [← HMI.out, ← HMB.out] at this
  simpa [allocP] using this
end Go.Proofs.YtdblgnccjpjabaaDoor
