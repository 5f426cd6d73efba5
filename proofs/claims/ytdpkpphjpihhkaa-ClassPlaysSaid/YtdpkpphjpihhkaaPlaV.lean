/- ClaQ, ClaK, ClaV in one. -/
import Derived.Test.YtdpkpphjpihhkaaPlaC
import Derived.Deep.CutBlock
import Derived.Deep.DeepCutAuto
import Derived.Deep.LoopGhost
import Derived.Test.YtdpkpphjpihhkaaClaO
section
/- Package class and the document's classes: Open, Close, case by case. -/
namespace Go.Proofs.Ytdpkpphjpihhkaa
open Go.RowKit Go.Grommet

set_option maxRecDepth 100000 in
set_option maxHeartbeats 4000000 in
theorem OpenPA (k g : Nat) (xs : List Nat) (L : List (Nat × Nat)) (i : Int) (ob : Bool) (ge mk en gen : Nat) (hG : GetC xs L i ob ge mk en) (hs : ¬ (1 ≤ gen ∧ gen ≤ 1099511627776)) (w0 w : World) (Ps : List Pr) (h : Own w0 w Ps) (hk : Ps[k]? = some (viewP g xs L)) :
    Calls Try.prog 18 #[.pointer (some ⟨g, 0, none⟩), .int .i64 i, .int .u64 (gen : Int)] w fun e w' => e = .returned (.tuple #[.int .u8 0, .int .i64 1]) ∧ Own w0 w' Ps := by
  have hkl := (List.getElem?_eq_some_iff.1 hk).1
  have Hk := Lib.hid (show ∀ Rs, (Ps ++ Rs)[k]? = some (viewP g xs L) from fun Rs => by rw [List.getElem?_append_left hkl]; exact hk)
  have Hkl := Lib.hid hkl
  have HG := Lib.hid (fun wx Rs (hO : Own w0 wx (Ps ++ Rs)) => hG k g w0 wx _ hO (Hk.out _))
  have HN := Lib.hid (fun wx => isNumber_any gen wx)
  rw [show numB gen = false by unfold numB; simp; omega] at HN
  have HH := Lib.hid (fun wx (hO : Own w0 wx Ps) => headN k g xs L i w0 wx _ hO hk)
  replace h := Lib.hid h
  clear hk hkl hG
  go_enter Try.func18, Try.ntmps18
  go_wp2_with fail
  refine (HN.out _).mono ?_
  rintro e w9 ⟨rfl, rfl⟩
  clear HN
  go_wp2_with fail
  refine (HH.out _ h.out).mono ?_
  rintro e w1 ⟨rfl, hO1⟩
  clear HH h
  go_upto_region 2 with fail
  obtain ⟨Y, hYs⟩ : ∃ Y, w1.heap.size = Y := ⟨_, rfl⟩
  have hO2 := hO1.addBox 87 #[.bool false, .int .u64 0, .int .u64 0]
  rw [hYs] at hO2
  obtain ⟨w2, hw2⟩ : ∃ w2, w1.alloc (.cells #[.bool false, .int .u64 0, .int .u64 0] 87) = w2 := ⟨_, rfl⟩
  rw [hw2] at hO2
  clear hO1
  change Code.wp _ _ _ _ (w1.alloc (.cells #[.bool false, .int .u64 0, .int .u64 0] 87))
  rw [hw2, hYs]
  clear hw2 hYs
  have hby : w2.heap[Y]? = some (.cells #[.bool false, .int .u64 0, .int .u64 0] 87 (0, 0)) := Own.box hO2 Ps.length (by rw [List.getElem?_append_right (Nat.le_refl _), Nat.sub_self]; rfl)
  have y0 : w2.cell? ⟨Y, 0, none⟩ = some (.bool false) := by simp [World.cell?, hby]
  have y1 : w2.cell? ⟨Y, 1, none⟩ = some (.int .u64 0) := by simp [World.cell?, hby]
  have y2 : w2.cell? ⟨Y, 2, none⟩ = some (.int .u64 0) := by simp [World.cell?, hby]
  clear hby
  replace hO2 := Lib.hid hO2
  clear HG
  go_wp2
  go_ret2
  exact ⟨rfl, hO2.out.less⟩

set_option maxRecDepth 100000 in
set_option maxHeartbeats 4000000 in
theorem OpenPB (k g : Nat) (xs : List Nat) (L : List (Nat × Nat)) (i : Int) (ob : Bool) (ge mk en gen : Nat) (hG : GetC xs L i ob ge mk en) (hs : 1 ≤ gen ∧ gen ≤ 1099511627776) (he : en ≠ 0) (w0 w : World) (Ps : List Pr) (h : Own w0 w Ps) (hk : Ps[k]? = some (viewP g xs L)) :
    Calls Try.prog 18 #[.pointer (some ⟨g, 0, none⟩), .int .i64 i, .int .u64 (gen : Int)] w fun e w' => e = .returned (.tuple #[.int .u8 0, .int .i64 (en : Int)]) ∧ Own w0 w' Ps := by
  have hkl := (List.getElem?_eq_some_iff.1 hk).1
  have Hk := Lib.hid (show ∀ Rs, (Ps ++ Rs)[k]? = some (viewP g xs L) from fun Rs => by rw [List.getElem?_append_left hkl]; exact hk)
  have Hkl := Lib.hid hkl
  have HG := Lib.hid (fun wx Rs (hO : Own w0 wx (Ps ++ Rs)) => hG k g w0 wx _ hO (Hk.out _))
  have HN := Lib.hid (fun wx => isNumber_any gen wx)
  have n1 : (1 : Int) ≤ (gen : Int) := by omega
  have n2 : (gen : Int) ≤ 1099511627776 := by omega
  have n3 : ¬ (gen : Int) < 1 := by omega
  have n4 : ¬ (1099511627776 : Int) < (gen : Int) := by omega
  rw [show numB gen = true by unfold numB; rw [decide_eq_true (by omega : 1 ≤ gen), decide_eq_true (by omega : gen ≤ 1099511627776)]; rfl] at HN
  have qe : ((en : Int) != 0) = true := by simp; omega
  have HH := Lib.hid (fun wx (hO : Own w0 wx Ps) => headT k g xs L i ob ge mk en hG w0 wx _ hO hk)
  replace h := Lib.hid h
  clear hk hkl hG
  go_enter Try.func18, Try.ntmps18
  go_wp2_with fail
  refine (HN.out _).mono ?_
  rintro e w9 ⟨rfl, rfl⟩
  clear HN
  go_wp2_with fail
  refine (HH.out _ h.out).mono ?_
  rintro e w1 ⟨rfl, hO1⟩
  clear HH h

  obtain ⟨Y, hYs⟩ : ∃ Y, w1.heap.size = Y := ⟨_, rfl⟩
  have hO2 := hO1.addBox 87 #[.bool ob, .int .u64 (ge : Int), .int .u64 (mk : Int)]
  rw [hYs] at hO2
  obtain ⟨w2, hw2⟩ : ∃ w2, w1.alloc (.cells #[.bool ob, .int .u64 (ge : Int), .int .u64 (mk : Int)] 87) = w2 := ⟨_, rfl⟩
  rw [hw2] at hO2
  clear hO1



  have hby : w2.heap[Y]? = some (.cells #[.bool ob, .int .u64 (ge : Int), .int .u64 (mk : Int)] 87 (0, 0)) := Own.box hO2 Ps.length (by rw [List.getElem?_append_right (Nat.le_refl _), Nat.sub_self]; rfl)
  have y0 : w2.cell? ⟨Y, 0, none⟩ = some (.bool ob) := by simp [World.cell?, hby]
  have y1 : w2.cell? ⟨Y, 1, none⟩ = some (.int .u64 (ge : Int)) := by simp [World.cell?, hby]
  have y2 : w2.cell? ⟨Y, 2, none⟩ = some (.int .u64 (mk : Int)) := by simp [World.cell?, hby]
  clear hby
  replace hO2 := Lib.hid hO2
  clear HG
  go_wp2
  go_ret2
  exact ⟨rfl, hO2.out.less⟩

set_option maxRecDepth 100000 in
set_option maxHeartbeats 4000000 in
theorem OpenPC (k g : Nat) (xs : List Nat) (L : List (Nat × Nat)) (i : Int) (ob : Bool) (ge mk en gen : Nat) (hG : GetC xs L i ob ge mk en) (hs : 1 ≤ gen ∧ gen ≤ 1099511627776) (he : en = 0) (hob : ob = true) (hge : ge = gen) (w0 w : World) (Ps : List Pr) (h : Own w0 w Ps) (hk : Ps[k]? = some (viewP g xs L)) :
    Calls Try.prog 18 #[.pointer (some ⟨g, 0, none⟩), .int .i64 i, .int .u64 (gen : Int)] w fun e w' => e = .returned (.tuple #[.int .u8 1, .int .i64 0]) ∧ Own w0 w' Ps := by
  have hkl := (List.getElem?_eq_some_iff.1 hk).1
  have Hk := Lib.hid (show ∀ Rs, (Ps ++ Rs)[k]? = some (viewP g xs L) from fun Rs => by rw [List.getElem?_append_left hkl]; exact hk)
  have Hkl := Lib.hid hkl
  have HG := Lib.hid (fun wx Rs (hO : Own w0 wx (Ps ++ Rs)) => hG k g w0 wx _ hO (Hk.out _))
  have HN := Lib.hid (fun wx => isNumber_any gen wx)
  have n1 : (1 : Int) ≤ (gen : Int) := by omega
  have n2 : (gen : Int) ≤ 1099511627776 := by omega
  have n3 : ¬ (gen : Int) < 1 := by omega
  have n4 : ¬ (1099511627776 : Int) < (gen : Int) := by omega
  rw [show numB gen = true by unfold numB; rw [decide_eq_true (by omega : 1 ≤ gen), decide_eq_true (by omega : gen ≤ 1099511627776)]; rfl] at HN
  have qe : ((en : Int) != 0) = false := by rw [he]; rfl
  subst hob
  subst hge
  have qg : ((ge : Int) == (ge : Int)) = true := by simp
  have HH := Lib.hid (fun wx (hO : Own w0 wx Ps) => headT k g xs L i true ge mk en hG w0 wx _ hO hk)
  replace h := Lib.hid h
  clear hk hkl hG
  go_enter Try.func18, Try.ntmps18
  go_wp2_with fail
  refine (HN.out _).mono ?_
  rintro e w9 ⟨rfl, rfl⟩
  clear HN
  go_wp2_with fail
  refine (HH.out _ h.out).mono ?_
  rintro e w1 ⟨rfl, hO1⟩
  clear HH h

  obtain ⟨Y, hYs⟩ : ∃ Y, w1.heap.size = Y := ⟨_, rfl⟩
  have hO2 := hO1.addBox 87 #[.bool true, .int .u64 (ge : Int), .int .u64 (mk : Int)]
  rw [hYs] at hO2
  obtain ⟨w2, hw2⟩ : ∃ w2, w1.alloc (.cells #[.bool true, .int .u64 (ge : Int), .int .u64 (mk : Int)] 87) = w2 := ⟨_, rfl⟩
  rw [hw2] at hO2
  clear hO1



  have hby : w2.heap[Y]? = some (.cells #[.bool true, .int .u64 (ge : Int), .int .u64 (mk : Int)] 87 (0, 0)) := Own.box hO2 Ps.length (by rw [List.getElem?_append_right (Nat.le_refl _), Nat.sub_self]; rfl)
  have y0 : w2.cell? ⟨Y, 0, none⟩ = some (.bool true) := by simp [World.cell?, hby]
  have y1 : w2.cell? ⟨Y, 1, none⟩ = some (.int .u64 (ge : Int)) := by simp [World.cell?, hby]
  have y2 : w2.cell? ⟨Y, 2, none⟩ = some (.int .u64 (mk : Int)) := by simp [World.cell?, hby]
  clear hby
  replace hO2 := Lib.hid hO2
  clear HG
  go_wp2
  go_ret2
  exact ⟨rfl, hO2.out.less⟩

set_option maxRecDepth 100000 in
set_option maxHeartbeats 4000000 in
theorem OpenPD1 (k g : Nat) (xs : List Nat) (L : List (Nat × Nat)) (i : Int) (ob : Bool) (ge mk en gen : Nat) (hG : GetC xs L i ob ge mk en) (hs : 1 ≤ gen ∧ gen ≤ 1099511627776) (he : en = 0) (hob : ob = false) (hl : gen ≤ ge) (w0 w : World) (Ps : List Pr) (h : Own w0 w Ps) (hk : Ps[k]? = some (viewP g xs L)) :
    Calls Try.prog 18 #[.pointer (some ⟨g, 0, none⟩), .int .i64 i, .int .u64 (gen : Int)] w fun e w' => e = .returned (.tuple #[.int .u8 2, .int .i64 0]) ∧ Own w0 w' Ps := by
  have hkl := (List.getElem?_eq_some_iff.1 hk).1
  have Hk := Lib.hid (show ∀ Rs, (Ps ++ Rs)[k]? = some (viewP g xs L) from fun Rs => by rw [List.getElem?_append_left hkl]; exact hk)
  have Hkl := Lib.hid hkl
  have HG := Lib.hid (fun wx Rs (hO : Own w0 wx (Ps ++ Rs)) => hG k g w0 wx _ hO (Hk.out _))
  have HN := Lib.hid (fun wx => isNumber_any gen wx)
  have n1 : (1 : Int) ≤ (gen : Int) := by omega
  have n2 : (gen : Int) ≤ 1099511627776 := by omega
  have n3 : ¬ (gen : Int) < 1 := by omega
  have n4 : ¬ (1099511627776 : Int) < (gen : Int) := by omega
  rw [show numB gen = true by unfold numB; rw [decide_eq_true (by omega : 1 ≤ gen), decide_eq_true (by omega : gen ≤ 1099511627776)]; rfl] at HN
  have qe : ((en : Int) != 0) = false := by rw [he]; rfl
  subst hob
  have l1 : (gen : Int) ≤ (ge : Int) := by omega
  have HH := Lib.hid (fun wx (hO : Own w0 wx Ps) => headT k g xs L i false ge mk en hG w0 wx _ hO hk)
  replace h := Lib.hid h
  clear hk hkl hG
  go_enter Try.func18, Try.ntmps18
  go_wp2_with fail
  refine (HN.out _).mono ?_
  rintro e w9 ⟨rfl, rfl⟩
  clear HN
  go_wp2_with fail
  refine (HH.out _ h.out).mono ?_
  rintro e w1 ⟨rfl, hO1⟩
  clear HH h

  obtain ⟨Y, hYs⟩ : ∃ Y, w1.heap.size = Y := ⟨_, rfl⟩
  have hO2 := hO1.addBox 87 #[.bool false, .int .u64 (ge : Int), .int .u64 (mk : Int)]
  rw [hYs] at hO2
  obtain ⟨w2, hw2⟩ : ∃ w2, w1.alloc (.cells #[.bool false, .int .u64 (ge : Int), .int .u64 (mk : Int)] 87) = w2 := ⟨_, rfl⟩
  rw [hw2] at hO2
  clear hO1



  have hby : w2.heap[Y]? = some (.cells #[.bool false, .int .u64 (ge : Int), .int .u64 (mk : Int)] 87 (0, 0)) := Own.box hO2 Ps.length (by rw [List.getElem?_append_right (Nat.le_refl _), Nat.sub_self]; rfl)
  have y0 : w2.cell? ⟨Y, 0, none⟩ = some (.bool false) := by simp [World.cell?, hby]
  have y1 : w2.cell? ⟨Y, 1, none⟩ = some (.int .u64 (ge : Int)) := by simp [World.cell?, hby]
  have y2 : w2.cell? ⟨Y, 2, none⟩ = some (.int .u64 (mk : Int)) := by simp [World.cell?, hby]
  clear hby
  replace hO2 := Lib.hid hO2
  clear HG
  go_wp2
  go_ret2
  exact ⟨rfl, hO2.out.less⟩

set_option maxRecDepth 100000 in
set_option maxHeartbeats 4000000 in
theorem OpenPD2 (k g : Nat) (xs : List Nat) (L : List (Nat × Nat)) (i : Int) (ob : Bool) (ge mk en gen : Nat) (hG : GetC xs L i ob ge mk en) (hs : 1 ≤ gen ∧ gen ≤ 1099511627776) (he : en = 0) (hob : ob = true) (hge : ge ≠ gen) (hl : gen ≤ ge) (w0 w : World) (Ps : List Pr) (h : Own w0 w Ps) (hk : Ps[k]? = some (viewP g xs L)) :
    Calls Try.prog 18 #[.pointer (some ⟨g, 0, none⟩), .int .i64 i, .int .u64 (gen : Int)] w fun e w' => e = .returned (.tuple #[.int .u8 2, .int .i64 0]) ∧ Own w0 w' Ps := by
  have hkl := (List.getElem?_eq_some_iff.1 hk).1
  have Hk := Lib.hid (show ∀ Rs, (Ps ++ Rs)[k]? = some (viewP g xs L) from fun Rs => by rw [List.getElem?_append_left hkl]; exact hk)
  have Hkl := Lib.hid hkl
  have HG := Lib.hid (fun wx Rs (hO : Own w0 wx (Ps ++ Rs)) => hG k g w0 wx _ hO (Hk.out _))
  have HN := Lib.hid (fun wx => isNumber_any gen wx)
  have n1 : (1 : Int) ≤ (gen : Int) := by omega
  have n2 : (gen : Int) ≤ 1099511627776 := by omega
  have n3 : ¬ (gen : Int) < 1 := by omega
  have n4 : ¬ (1099511627776 : Int) < (gen : Int) := by omega
  rw [show numB gen = true by unfold numB; rw [decide_eq_true (by omega : 1 ≤ gen), decide_eq_true (by omega : gen ≤ 1099511627776)]; rfl] at HN
  have qe : ((en : Int) != 0) = false := by rw [he]; rfl
  subst hob
  have qg : ((gen : Int) == (ge : Int)) = false := by simp; omega
  have l1 : (gen : Int) ≤ (ge : Int) := by omega
  have HH := Lib.hid (fun wx (hO : Own w0 wx Ps) => headT k g xs L i true ge mk en hG w0 wx _ hO hk)
  replace h := Lib.hid h
  clear hk hkl hG
  go_enter Try.func18, Try.ntmps18
  go_wp2_with fail
  refine (HN.out _).mono ?_
  rintro e w9 ⟨rfl, rfl⟩
  clear HN
  go_wp2_with fail
  refine (HH.out _ h.out).mono ?_
  rintro e w1 ⟨rfl, hO1⟩
  clear HH h

  obtain ⟨Y, hYs⟩ : ∃ Y, w1.heap.size = Y := ⟨_, rfl⟩
  have hO2 := hO1.addBox 87 #[.bool true, .int .u64 (ge : Int), .int .u64 (mk : Int)]
  rw [hYs] at hO2
  obtain ⟨w2, hw2⟩ : ∃ w2, w1.alloc (.cells #[.bool true, .int .u64 (ge : Int), .int .u64 (mk : Int)] 87) = w2 := ⟨_, rfl⟩
  rw [hw2] at hO2
  clear hO1



  have hby : w2.heap[Y]? = some (.cells #[.bool true, .int .u64 (ge : Int), .int .u64 (mk : Int)] 87 (0, 0)) := Own.box hO2 Ps.length (by rw [List.getElem?_append_right (Nat.le_refl _), Nat.sub_self]; rfl)
  have y0 : w2.cell? ⟨Y, 0, none⟩ = some (.bool true) := by simp [World.cell?, hby]
  have y1 : w2.cell? ⟨Y, 1, none⟩ = some (.int .u64 (ge : Int)) := by simp [World.cell?, hby]
  have y2 : w2.cell? ⟨Y, 2, none⟩ = some (.int .u64 (mk : Int)) := by simp [World.cell?, hby]
  clear hby
  replace hO2 := Lib.hid hO2
  clear HG
  go_wp2
  go_ret2
  exact ⟨rfl, hO2.out.less⟩

set_option maxRecDepth 100000 in
set_option maxHeartbeats 4000000 in
theorem OpenPE1 (k g : Nat) (xs : List Nat) (L : List (Nat × Nat)) (i : Int) (ob : Bool) (ge mk en gen : Nat) (hG : GetC xs L i ob ge mk en) (hs : 1 ≤ gen ∧ gen ≤ 1099511627776) (he : en = 0) (hob : ob = true) (hl : ge < gen) (w0 w : World) (Ps : List Pr) (h : Own w0 w Ps) (hk : Ps[k]? = some (viewP g xs L)) :
    Calls Try.prog 18 #[.pointer (some ⟨g, 0, none⟩), .int .i64 i, .int .u64 (gen : Int)] w fun e w' => e = .returned (.tuple #[.int .u8 3, .int .i64 0]) ∧ Own w0 w' Ps := by
  have hkl := (List.getElem?_eq_some_iff.1 hk).1
  have Hk := Lib.hid (show ∀ Rs, (Ps ++ Rs)[k]? = some (viewP g xs L) from fun Rs => by rw [List.getElem?_append_left hkl]; exact hk)
  have Hkl := Lib.hid hkl
  have HG := Lib.hid (fun wx Rs (hO : Own w0 wx (Ps ++ Rs)) => hG k g w0 wx _ hO (Hk.out _))
  have HN := Lib.hid (fun wx => isNumber_any gen wx)
  have n1 : (1 : Int) ≤ (gen : Int) := by omega
  have n2 : (gen : Int) ≤ 1099511627776 := by omega
  have n3 : ¬ (gen : Int) < 1 := by omega
  have n4 : ¬ (1099511627776 : Int) < (gen : Int) := by omega
  rw [show numB gen = true by unfold numB; rw [decide_eq_true (by omega : 1 ≤ gen), decide_eq_true (by omega : gen ≤ 1099511627776)]; rfl] at HN
  have qe : ((en : Int) != 0) = false := by rw [he]; rfl
  subst hob
  have qg : ((gen : Int) == (ge : Int)) = false := by simp; omega
  have l1 : ¬ (gen : Int) ≤ (ge : Int) := by omega
  have HH := Lib.hid (fun wx (hO : Own w0 wx Ps) => headT k g xs L i true ge mk en hG w0 wx _ hO hk)
  replace h := Lib.hid h
  clear hk hkl hG
  go_enter Try.func18, Try.ntmps18
  go_wp2_with fail
  refine (HN.out _).mono ?_
  rintro e w9 ⟨rfl, rfl⟩
  clear HN
  go_wp2_with fail
  refine (HH.out _ h.out).mono ?_
  rintro e w1 ⟨rfl, hO1⟩
  clear HH h

  obtain ⟨Y, hYs⟩ : ∃ Y, w1.heap.size = Y := ⟨_, rfl⟩
  have hO2 := hO1.addBox 87 #[.bool true, .int .u64 (ge : Int), .int .u64 (mk : Int)]
  rw [hYs] at hO2
  obtain ⟨w2, hw2⟩ : ∃ w2, w1.alloc (.cells #[.bool true, .int .u64 (ge : Int), .int .u64 (mk : Int)] 87) = w2 := ⟨_, rfl⟩
  rw [hw2] at hO2
  clear hO1



  have hby : w2.heap[Y]? = some (.cells #[.bool true, .int .u64 (ge : Int), .int .u64 (mk : Int)] 87 (0, 0)) := Own.box hO2 Ps.length (by rw [List.getElem?_append_right (Nat.le_refl _), Nat.sub_self]; rfl)
  have y0 : w2.cell? ⟨Y, 0, none⟩ = some (.bool true) := by simp [World.cell?, hby]
  have y1 : w2.cell? ⟨Y, 1, none⟩ = some (.int .u64 (ge : Int)) := by simp [World.cell?, hby]
  have y2 : w2.cell? ⟨Y, 2, none⟩ = some (.int .u64 (mk : Int)) := by simp [World.cell?, hby]
  clear hby
  replace hO2 := Lib.hid hO2
  clear HG
  go_wp2
  go_ret2
  exact ⟨rfl, hO2.out.less⟩

set_option maxRecDepth 100000 in
set_option maxHeartbeats 4000000 in
theorem OpenPE2 (k g : Nat) (xs : List Nat) (L : List (Nat × Nat)) (i : Int) (ob : Bool) (ge mk en gen : Nat) (hG : GetC xs L i ob ge mk en) (hs : 1 ≤ gen ∧ gen ≤ 1099511627776) (he : en = 0) (hob : ob = false) (hl : ge < gen) (hx : gen - ge ≠ 1) (w0 w : World) (Ps : List Pr) (h : Own w0 w Ps) (hk : Ps[k]? = some (viewP g xs L)) :
    Calls Try.prog 18 #[.pointer (some ⟨g, 0, none⟩), .int .i64 i, .int .u64 (gen : Int)] w fun e w' => e = .returned (.tuple #[.int .u8 3, .int .i64 0]) ∧ Own w0 w' Ps := by
  have hkl := (List.getElem?_eq_some_iff.1 hk).1
  have Hk := Lib.hid (show ∀ Rs, (Ps ++ Rs)[k]? = some (viewP g xs L) from fun Rs => by rw [List.getElem?_append_left hkl]; exact hk)
  have Hkl := Lib.hid hkl
  have HG := Lib.hid (fun wx Rs (hO : Own w0 wx (Ps ++ Rs)) => hG k g w0 wx _ hO (Hk.out _))
  have HN := Lib.hid (fun wx => isNumber_any gen wx)
  have n1 : (1 : Int) ≤ (gen : Int) := by omega
  have n2 : (gen : Int) ≤ 1099511627776 := by omega
  have n3 : ¬ (gen : Int) < 1 := by omega
  have n4 : ¬ (1099511627776 : Int) < (gen : Int) := by omega
  rw [show numB gen = true by unfold numB; rw [decide_eq_true (by omega : 1 ≤ gen), decide_eq_true (by omega : gen ≤ 1099511627776)]; rfl] at HN
  have qe : ((en : Int) != 0) = false := by rw [he]; rfl
  subst hob
  have l1 : ¬ (gen : Int) ≤ (ge : Int) := by omega
  obtain ⟨D, hD⟩ : ∃ D, gen - ge = D := ⟨_, rfl⟩
  have dE : (gen : Int) - (ge : Int) = (D : Int) := by omega
  have dW : IntKind.u64.wrap (D : Int) = (D : Int) := IntWalk.u64_in _ ⟨by omega, by omega⟩
  have l2 : ((D : Int) != 1) = true := by simp; omega
  have HH := Lib.hid (fun wx (hO : Own w0 wx Ps) => headT k g xs L i false ge mk en hG w0 wx _ hO hk)
  replace h := Lib.hid h
  clear hk hkl hG
  go_enter Try.func18, Try.ntmps18
  go_wp2_with fail
  refine (HN.out _).mono ?_
  rintro e w9 ⟨rfl, rfl⟩
  clear HN
  go_wp2_with fail
  refine (HH.out _ h.out).mono ?_
  rintro e w1 ⟨rfl, hO1⟩
  clear HH h

  obtain ⟨Y, hYs⟩ : ∃ Y, w1.heap.size = Y := ⟨_, rfl⟩
  have hO2 := hO1.addBox 87 #[.bool false, .int .u64 (ge : Int), .int .u64 (mk : Int)]
  rw [hYs] at hO2
  obtain ⟨w2, hw2⟩ : ∃ w2, w1.alloc (.cells #[.bool false, .int .u64 (ge : Int), .int .u64 (mk : Int)] 87) = w2 := ⟨_, rfl⟩
  rw [hw2] at hO2
  clear hO1



  have hby : w2.heap[Y]? = some (.cells #[.bool false, .int .u64 (ge : Int), .int .u64 (mk : Int)] 87 (0, 0)) := Own.box hO2 Ps.length (by rw [List.getElem?_append_right (Nat.le_refl _), Nat.sub_self]; rfl)
  have y0 : w2.cell? ⟨Y, 0, none⟩ = some (.bool false) := by simp [World.cell?, hby]
  have y1 : w2.cell? ⟨Y, 1, none⟩ = some (.int .u64 (ge : Int)) := by simp [World.cell?, hby]
  have y2 : w2.cell? ⟨Y, 2, none⟩ = some (.int .u64 (mk : Int)) := by simp [World.cell?, hby]
  clear hby
  replace hO2 := Lib.hid hO2
  clear HG
  go_wp2
  go_ret2
  exact ⟨rfl, hO2.out.less⟩

set_option maxRecDepth 100000 in
set_option maxHeartbeats 4000000 in
theorem OpenPF (k g : Nat) (xs : List Nat) (L : List (Nat × Nat)) (i : Int) (ob : Bool) (ge mk en gen : Nat) (en3 : Nat) (L2 : List (Nat × Nat)) (hG : GetC xs L i ob ge mk en) (hs : 1 ≤ gen ∧ gen ≤ 1099511627776) (he : en = 0) (hob : ob = false) (hl : ge < gen) (hx : gen - ge = 1) (h3 : en3 ≠ 0) (hP : PutC xs L L2 i true gen 0 en3) (w0 w : World) (Ps : List Pr) (h : Own w0 w Ps) (hk : Ps[k]? = some (viewP g xs L)) :
    Calls Try.prog 18 #[.pointer (some ⟨g, 0, none⟩), .int .i64 i, .int .u64 (gen : Int)] w fun e w' => e = .returned (.tuple #[.int .u8 0, .int .i64 (en3 : Int)]) ∧ Own w0 w' (Ps.set k (viewP g xs L2)) := by
  have hkl := (List.getElem?_eq_some_iff.1 hk).1
  have Hk := Lib.hid (show ∀ Rs, (Ps ++ Rs)[k]? = some (viewP g xs L) from fun Rs => by rw [List.getElem?_append_left hkl]; exact hk)
  have Hkl := Lib.hid hkl
  have HG := Lib.hid (fun wx Rs (hO : Own w0 wx (Ps ++ Rs)) => hG k g w0 wx _ hO (Hk.out _))
  have HN := Lib.hid (fun wx => isNumber_any gen wx)
  have n1 : (1 : Int) ≤ (gen : Int) := by omega
  have n2 : (gen : Int) ≤ 1099511627776 := by omega
  have n3 : ¬ (gen : Int) < 1 := by omega
  have n4 : ¬ (1099511627776 : Int) < (gen : Int) := by omega
  rw [show numB gen = true by unfold numB; rw [decide_eq_true (by omega : 1 ≤ gen), decide_eq_true (by omega : gen ≤ 1099511627776)]; rfl] at HN
  have qe : ((en : Int) != 0) = false := by rw [he]; rfl
  subst hob
  have l1 : ¬ (gen : Int) ≤ (ge : Int) := by omega
  have dE : (gen : Int) - (ge : Int) = 1 := by omega
  have q3 : ((en3 : Int) != 0) = true := by simp; omega
  have HH := Lib.hid (fun wx (hO : Own w0 wx Ps) => headT k g xs L i false ge mk en hG w0 wx _ hO hk)
  have HP := Lib.hid (fun wx Rs (hO : Own w0 wx (Ps ++ Rs)) => hP k g w0 wx _ hO (Hk.out _))
  rw [show ((0 : Nat) : Int) = 0 from rfl] at HP
  replace h := Lib.hid h
  clear hk hkl hG
  go_enter Try.func18, Try.ntmps18
  go_wp2_with fail
  refine (HN.out _).mono ?_
  rintro e w9 ⟨rfl, rfl⟩
  clear HN
  go_wp2_with fail
  refine (HH.out _ h.out).mono ?_
  rintro e w1 ⟨rfl, hO1⟩
  clear HH h

  obtain ⟨Y, hYs⟩ : ∃ Y, w1.heap.size = Y := ⟨_, rfl⟩
  have hO2 := hO1.addBox 87 #[.bool false, .int .u64 (ge : Int), .int .u64 (mk : Int)]
  rw [hYs] at hO2
  obtain ⟨w2, hw2⟩ : ∃ w2, w1.alloc (.cells #[.bool false, .int .u64 (ge : Int), .int .u64 (mk : Int)] 87) = w2 := ⟨_, rfl⟩
  rw [hw2] at hO2
  clear hO1



  have hby : w2.heap[Y]? = some (.cells #[.bool false, .int .u64 (ge : Int), .int .u64 (mk : Int)] 87 (0, 0)) := Own.box hO2 Ps.length (by rw [List.getElem?_append_right (Nat.le_refl _), Nat.sub_self]; rfl)
  have y0 : w2.cell? ⟨Y, 0, none⟩ = some (.bool false) := by simp [World.cell?, hby]
  have y1 : w2.cell? ⟨Y, 1, none⟩ = some (.int .u64 (ge : Int)) := by simp [World.cell?, hby]
  have y2 : w2.cell? ⟨Y, 2, none⟩ = some (.int .u64 (mk : Int)) := by simp [World.cell?, hby]
  clear hby
  have HP2 := Lib.hid (HP.out w2 _ hO2)
  rw [List.set_append_left _ _ Hkl.out] at HP2
  clear hO2 HG HP
  go_wp2_with fail
  try rw [hw2]
  refine HP2.out.mono ?_
  rintro e w3 ⟨rfl, hO3⟩
  replace hO3 := Lib.hid hO3
  go_wp2
  go_ret2
  exact ⟨rfl, hO3.out.less⟩

set_option maxRecDepth 100000 in
set_option maxHeartbeats 4000000 in
theorem OpenPG (k g : Nat) (xs : List Nat) (L : List (Nat × Nat)) (i : Int) (ob : Bool) (ge mk en gen : Nat) (en3 en4 : Nat) (L2 L3 : List (Nat × Nat)) (hG : GetC xs L i ob ge mk en) (hs : 1 ≤ gen ∧ gen ≤ 1099511627776) (he : en = 0) (hob : ob = false) (hl : ge < gen) (hx : gen - ge = 1) (h3 : en3 = 0) (hP : PutC xs L L2 i true gen 0 en3) (hW : WipeC xs L2 L3 i en4) (w0 w : World) (Ps : List Pr) (h : Own w0 w Ps) (hk : Ps[k]? = some (viewP g xs L)) :
    Calls Try.prog 18 #[.pointer (some ⟨g, 0, none⟩), .int .i64 i, .int .u64 (gen : Int)] w fun e w' => e = .returned (.tuple #[.int .u8 0, .int .i64 (en4 : Int)]) ∧ Own w0 w' (Ps.set k (viewP g xs L3)) := by
  have hkl := (List.getElem?_eq_some_iff.1 hk).1
  have Hk := Lib.hid (show ∀ Rs, (Ps ++ Rs)[k]? = some (viewP g xs L) from fun Rs => by rw [List.getElem?_append_left hkl]; exact hk)
  have Hkl := Lib.hid hkl
  have HG := Lib.hid (fun wx Rs (hO : Own w0 wx (Ps ++ Rs)) => hG k g w0 wx _ hO (Hk.out _))
  have HN := Lib.hid (fun wx => isNumber_any gen wx)
  have n1 : (1 : Int) ≤ (gen : Int) := by omega
  have n2 : (gen : Int) ≤ 1099511627776 := by omega
  have n3 : ¬ (gen : Int) < 1 := by omega
  have n4 : ¬ (1099511627776 : Int) < (gen : Int) := by omega
  rw [show numB gen = true by unfold numB; rw [decide_eq_true (by omega : 1 ≤ gen), decide_eq_true (by omega : gen ≤ 1099511627776)]; rfl] at HN
  have qe : ((en : Int) != 0) = false := by rw [he]; rfl
  subst hob
  have l1 : ¬ (gen : Int) ≤ (ge : Int) := by omega
  have dE : (gen : Int) - (ge : Int) = 1 := by omega
  have q3 : ((en3 : Int) != 0) = false := by rw [h3]; rfl
  have HH := Lib.hid (fun wx (hO : Own w0 wx Ps) => headT k g xs L i false ge mk en hG w0 wx _ hO hk)
  have HP := Lib.hid (fun wx Rs (hO : Own w0 wx (Ps ++ Rs)) => hP k g w0 wx _ hO (Hk.out _))
  rw [show ((0 : Nat) : Int) = 0 from rfl] at HP
  have HW := Lib.hid (fun wx (hO : Own w0 wx (Ps.set k (viewP g xs L2))) => hW k g w0 wx _ hO (List.getElem?_set_self hkl))
  simp only [List.set_set] at HW
  replace h := Lib.hid h
  clear hk hkl hG
  go_enter Try.func18, Try.ntmps18
  go_wp2_with fail
  refine (HN.out _).mono ?_
  rintro e w9 ⟨rfl, rfl⟩
  clear HN
  go_wp2_with fail
  refine (HH.out _ h.out).mono ?_
  rintro e w1 ⟨rfl, hO1⟩
  clear HH h

  obtain ⟨Y, hYs⟩ : ∃ Y, w1.heap.size = Y := ⟨_, rfl⟩
  have hO2 := hO1.addBox 87 #[.bool false, .int .u64 (ge : Int), .int .u64 (mk : Int)]
  rw [hYs] at hO2
  obtain ⟨w2, hw2⟩ : ∃ w2, w1.alloc (.cells #[.bool false, .int .u64 (ge : Int), .int .u64 (mk : Int)] 87) = w2 := ⟨_, rfl⟩
  rw [hw2] at hO2
  clear hO1



  have hby : w2.heap[Y]? = some (.cells #[.bool false, .int .u64 (ge : Int), .int .u64 (mk : Int)] 87 (0, 0)) := Own.box hO2 Ps.length (by rw [List.getElem?_append_right (Nat.le_refl _), Nat.sub_self]; rfl)
  have y0 : w2.cell? ⟨Y, 0, none⟩ = some (.bool false) := by simp [World.cell?, hby]
  have y1 : w2.cell? ⟨Y, 1, none⟩ = some (.int .u64 (ge : Int)) := by simp [World.cell?, hby]
  have y2 : w2.cell? ⟨Y, 2, none⟩ = some (.int .u64 (mk : Int)) := by simp [World.cell?, hby]
  clear hby
  have HP2 := Lib.hid (HP.out w2 _ hO2)
  rw [List.set_append_left _ _ Hkl.out] at HP2
  clear hO2 HG HP
  go_wp2_with fail
  try rw [hw2]
  refine HP2.out.mono ?_
  rintro e w3 ⟨rfl, hO3⟩
  have HW3 := Lib.hid (HW.out w3 hO3.less)
  clear hO3 HW
  go_wp2_with fail
  refine HW3.out.mono ?_
  rintro e w4 ⟨rfl, hO4⟩
  go_wp2
  go_ret2
  exact ⟨rfl, hO4⟩

set_option maxRecDepth 100000 in
set_option maxHeartbeats 4000000 in
theorem ClosePA (k g : Nat) (xs : List Nat) (L : List (Nat × Nat)) (i : Int) (ob : Bool) (ge mk en gen : Nat) (hG : GetC xs L i ob ge mk en) (hs : ¬ (1 ≤ gen ∧ gen ≤ 1099511627776)) (w0 w : World) (Ps : List Pr) (h : Own w0 w Ps) (hk : Ps[k]? = some (viewP g xs L)) :
    Calls Try.prog 20 #[.pointer (some ⟨g, 0, none⟩), .int .i64 i, .int .u64 (gen : Int)] w fun e w' => e = .returned (.tuple #[.int .u8 0, .int .i64 1]) ∧ Own w0 w' Ps := by
  have hkl := (List.getElem?_eq_some_iff.1 hk).1
  have Hk := Lib.hid (show ∀ Rs, (Ps ++ Rs)[k]? = some (viewP g xs L) from fun Rs => by rw [List.getElem?_append_left hkl]; exact hk)
  have Hkl := Lib.hid hkl
  have HG := Lib.hid (fun wx Rs (hO : Own w0 wx (Ps ++ Rs)) => hG k g w0 wx _ hO (Hk.out _))
  have HN := Lib.hid (fun wx => isNumber_any gen wx)
  rw [show numB gen = false by unfold numB; simp; omega] at HN
  have HH := Lib.hid (fun wx (hO : Own w0 wx Ps) => headN k g xs L i w0 wx _ hO hk)
  replace h := Lib.hid h
  clear hk hkl hG
  go_enter Try.func20, Try.ntmps20
  go_wp2_with fail
  refine (HN.out _).mono ?_
  rintro e w9 ⟨rfl, rfl⟩
  clear HN
  go_wp2_with fail
  refine (HH.out _ h.out).mono ?_
  rintro e w1 ⟨rfl, hO1⟩
  clear HH h
  go_upto_region 2 with fail
  obtain ⟨Y, hYs⟩ : ∃ Y, w1.heap.size = Y := ⟨_, rfl⟩
  have hO2 := hO1.addBox 87 #[.bool false, .int .u64 0, .int .u64 0]
  rw [hYs] at hO2
  obtain ⟨w2, hw2⟩ : ∃ w2, w1.alloc (.cells #[.bool false, .int .u64 0, .int .u64 0] 87) = w2 := ⟨_, rfl⟩
  rw [hw2] at hO2
  clear hO1
  change Code.wp _ _ _ _ (w1.alloc (.cells #[.bool false, .int .u64 0, .int .u64 0] 87))
  rw [hw2, hYs]
  clear hw2 hYs
  have hby : w2.heap[Y]? = some (.cells #[.bool false, .int .u64 0, .int .u64 0] 87 (0, 0)) := Own.box hO2 Ps.length (by rw [List.getElem?_append_right (Nat.le_refl _), Nat.sub_self]; rfl)
  have y0 : w2.cell? ⟨Y, 0, none⟩ = some (.bool false) := by simp [World.cell?, hby]
  have y1 : w2.cell? ⟨Y, 1, none⟩ = some (.int .u64 0) := by simp [World.cell?, hby]
  have y2 : w2.cell? ⟨Y, 2, none⟩ = some (.int .u64 0) := by simp [World.cell?, hby]
  clear hby
  replace hO2 := Lib.hid hO2
  clear HG
  go_wp2
  go_ret2
  exact ⟨rfl, hO2.out.less⟩

set_option maxRecDepth 100000 in
set_option maxHeartbeats 4000000 in
theorem ClosePB (k g : Nat) (xs : List Nat) (L : List (Nat × Nat)) (i : Int) (ob : Bool) (ge mk en gen : Nat) (hG : GetC xs L i ob ge mk en) (hs : 1 ≤ gen ∧ gen ≤ 1099511627776) (he : en ≠ 0) (w0 w : World) (Ps : List Pr) (h : Own w0 w Ps) (hk : Ps[k]? = some (viewP g xs L)) :
    Calls Try.prog 20 #[.pointer (some ⟨g, 0, none⟩), .int .i64 i, .int .u64 (gen : Int)] w fun e w' => e = .returned (.tuple #[.int .u8 0, .int .i64 (en : Int)]) ∧ Own w0 w' Ps := by
  have hkl := (List.getElem?_eq_some_iff.1 hk).1
  have Hk := Lib.hid (show ∀ Rs, (Ps ++ Rs)[k]? = some (viewP g xs L) from fun Rs => by rw [List.getElem?_append_left hkl]; exact hk)
  have Hkl := Lib.hid hkl
  have HG := Lib.hid (fun wx Rs (hO : Own w0 wx (Ps ++ Rs)) => hG k g w0 wx _ hO (Hk.out _))
  have HN := Lib.hid (fun wx => isNumber_any gen wx)
  have n1 : (1 : Int) ≤ (gen : Int) := by omega
  have n2 : (gen : Int) ≤ 1099511627776 := by omega
  have n3 : ¬ (gen : Int) < 1 := by omega
  have n4 : ¬ (1099511627776 : Int) < (gen : Int) := by omega
  rw [show numB gen = true by unfold numB; rw [decide_eq_true (by omega : 1 ≤ gen), decide_eq_true (by omega : gen ≤ 1099511627776)]; rfl] at HN
  have qe : ((en : Int) != 0) = true := by simp; omega
  have HH := Lib.hid (fun wx (hO : Own w0 wx Ps) => headT k g xs L i ob ge mk en hG w0 wx _ hO hk)
  replace h := Lib.hid h
  clear hk hkl hG
  go_enter Try.func20, Try.ntmps20
  go_wp2_with fail
  refine (HN.out _).mono ?_
  rintro e w9 ⟨rfl, rfl⟩
  clear HN
  go_wp2_with fail
  refine (HH.out _ h.out).mono ?_
  rintro e w1 ⟨rfl, hO1⟩
  clear HH h

  obtain ⟨Y, hYs⟩ : ∃ Y, w1.heap.size = Y := ⟨_, rfl⟩
  have hO2 := hO1.addBox 87 #[.bool ob, .int .u64 (ge : Int), .int .u64 (mk : Int)]
  rw [hYs] at hO2
  obtain ⟨w2, hw2⟩ : ∃ w2, w1.alloc (.cells #[.bool ob, .int .u64 (ge : Int), .int .u64 (mk : Int)] 87) = w2 := ⟨_, rfl⟩
  rw [hw2] at hO2
  clear hO1



  have hby : w2.heap[Y]? = some (.cells #[.bool ob, .int .u64 (ge : Int), .int .u64 (mk : Int)] 87 (0, 0)) := Own.box hO2 Ps.length (by rw [List.getElem?_append_right (Nat.le_refl _), Nat.sub_self]; rfl)
  have y0 : w2.cell? ⟨Y, 0, none⟩ = some (.bool ob) := by simp [World.cell?, hby]
  have y1 : w2.cell? ⟨Y, 1, none⟩ = some (.int .u64 (ge : Int)) := by simp [World.cell?, hby]
  have y2 : w2.cell? ⟨Y, 2, none⟩ = some (.int .u64 (mk : Int)) := by simp [World.cell?, hby]
  clear hby
  replace hO2 := Lib.hid hO2
  clear HG
  go_wp2
  go_ret2
  exact ⟨rfl, hO2.out.less⟩

set_option maxRecDepth 100000 in
set_option maxHeartbeats 4000000 in
theorem ClosePC (k g : Nat) (xs : List Nat) (L : List (Nat × Nat)) (i : Int) (ob : Bool) (ge mk en gen : Nat) (hG : GetC xs L i ob ge mk en) (hs : 1 ≤ gen ∧ gen ≤ 1099511627776) (he : en = 0) (hl : gen < ge) (w0 w : World) (Ps : List Pr) (h : Own w0 w Ps) (hk : Ps[k]? = some (viewP g xs L)) :
    Calls Try.prog 20 #[.pointer (some ⟨g, 0, none⟩), .int .i64 i, .int .u64 (gen : Int)] w fun e w' => e = .returned (.tuple #[.int .u8 2, .int .i64 0]) ∧ Own w0 w' Ps := by
  have hkl := (List.getElem?_eq_some_iff.1 hk).1
  have Hk := Lib.hid (show ∀ Rs, (Ps ++ Rs)[k]? = some (viewP g xs L) from fun Rs => by rw [List.getElem?_append_left hkl]; exact hk)
  have Hkl := Lib.hid hkl
  have HG := Lib.hid (fun wx Rs (hO : Own w0 wx (Ps ++ Rs)) => hG k g w0 wx _ hO (Hk.out _))
  have HN := Lib.hid (fun wx => isNumber_any gen wx)
  have n1 : (1 : Int) ≤ (gen : Int) := by omega
  have n2 : (gen : Int) ≤ 1099511627776 := by omega
  have n3 : ¬ (gen : Int) < 1 := by omega
  have n4 : ¬ (1099511627776 : Int) < (gen : Int) := by omega
  rw [show numB gen = true by unfold numB; rw [decide_eq_true (by omega : 1 ≤ gen), decide_eq_true (by omega : gen ≤ 1099511627776)]; rfl] at HN
  have qe : ((en : Int) != 0) = false := by rw [he]; rfl
  have l1 : (gen : Int) < (ge : Int) := by omega
  have HH := Lib.hid (fun wx (hO : Own w0 wx Ps) => headT k g xs L i ob ge mk en hG w0 wx _ hO hk)
  replace h := Lib.hid h
  clear hk hkl hG
  go_enter Try.func20, Try.ntmps20
  go_wp2_with fail
  refine (HN.out _).mono ?_
  rintro e w9 ⟨rfl, rfl⟩
  clear HN
  go_wp2_with fail
  refine (HH.out _ h.out).mono ?_
  rintro e w1 ⟨rfl, hO1⟩
  clear HH h

  obtain ⟨Y, hYs⟩ : ∃ Y, w1.heap.size = Y := ⟨_, rfl⟩
  have hO2 := hO1.addBox 87 #[.bool ob, .int .u64 (ge : Int), .int .u64 (mk : Int)]
  rw [hYs] at hO2
  obtain ⟨w2, hw2⟩ : ∃ w2, w1.alloc (.cells #[.bool ob, .int .u64 (ge : Int), .int .u64 (mk : Int)] 87) = w2 := ⟨_, rfl⟩
  rw [hw2] at hO2
  clear hO1



  have hby : w2.heap[Y]? = some (.cells #[.bool ob, .int .u64 (ge : Int), .int .u64 (mk : Int)] 87 (0, 0)) := Own.box hO2 Ps.length (by rw [List.getElem?_append_right (Nat.le_refl _), Nat.sub_self]; rfl)
  have y0 : w2.cell? ⟨Y, 0, none⟩ = some (.bool ob) := by simp [World.cell?, hby]
  have y1 : w2.cell? ⟨Y, 1, none⟩ = some (.int .u64 (ge : Int)) := by simp [World.cell?, hby]
  have y2 : w2.cell? ⟨Y, 2, none⟩ = some (.int .u64 (mk : Int)) := by simp [World.cell?, hby]
  clear hby
  replace hO2 := Lib.hid hO2
  clear HG
  go_wp2
  go_ret2
  exact ⟨rfl, hO2.out.less⟩

set_option maxRecDepth 100000 in
set_option maxHeartbeats 4000000 in
theorem ClosePD (k g : Nat) (xs : List Nat) (L : List (Nat × Nat)) (i : Int) (ob : Bool) (ge mk en gen : Nat) (hG : GetC xs L i ob ge mk en) (hs : 1 ≤ gen ∧ gen ≤ 1099511627776) (he : en = 0) (hl : ge < gen) (w0 w : World) (Ps : List Pr) (h : Own w0 w Ps) (hk : Ps[k]? = some (viewP g xs L)) :
    Calls Try.prog 20 #[.pointer (some ⟨g, 0, none⟩), .int .i64 i, .int .u64 (gen : Int)] w fun e w' => e = .returned (.tuple #[.int .u8 3, .int .i64 0]) ∧ Own w0 w' Ps := by
  have hkl := (List.getElem?_eq_some_iff.1 hk).1
  have Hk := Lib.hid (show ∀ Rs, (Ps ++ Rs)[k]? = some (viewP g xs L) from fun Rs => by rw [List.getElem?_append_left hkl]; exact hk)
  have Hkl := Lib.hid hkl
  have HG := Lib.hid (fun wx Rs (hO : Own w0 wx (Ps ++ Rs)) => hG k g w0 wx _ hO (Hk.out _))
  have HN := Lib.hid (fun wx => isNumber_any gen wx)
  have n1 : (1 : Int) ≤ (gen : Int) := by omega
  have n2 : (gen : Int) ≤ 1099511627776 := by omega
  have n3 : ¬ (gen : Int) < 1 := by omega
  have n4 : ¬ (1099511627776 : Int) < (gen : Int) := by omega
  rw [show numB gen = true by unfold numB; rw [decide_eq_true (by omega : 1 ≤ gen), decide_eq_true (by omega : gen ≤ 1099511627776)]; rfl] at HN
  have qe : ((en : Int) != 0) = false := by rw [he]; rfl
  have l1 : ¬ (gen : Int) < (ge : Int) := by omega
  have l2 : (ge : Int) < (gen : Int) := by omega
  have HH := Lib.hid (fun wx (hO : Own w0 wx Ps) => headT k g xs L i ob ge mk en hG w0 wx _ hO hk)
  replace h := Lib.hid h
  clear hk hkl hG
  go_enter Try.func20, Try.ntmps20
  go_wp2_with fail
  refine (HN.out _).mono ?_
  rintro e w9 ⟨rfl, rfl⟩
  clear HN
  go_wp2_with fail
  refine (HH.out _ h.out).mono ?_
  rintro e w1 ⟨rfl, hO1⟩
  clear HH h

  obtain ⟨Y, hYs⟩ : ∃ Y, w1.heap.size = Y := ⟨_, rfl⟩
  have hO2 := hO1.addBox 87 #[.bool ob, .int .u64 (ge : Int), .int .u64 (mk : Int)]
  rw [hYs] at hO2
  obtain ⟨w2, hw2⟩ : ∃ w2, w1.alloc (.cells #[.bool ob, .int .u64 (ge : Int), .int .u64 (mk : Int)] 87) = w2 := ⟨_, rfl⟩
  rw [hw2] at hO2
  clear hO1



  have hby : w2.heap[Y]? = some (.cells #[.bool ob, .int .u64 (ge : Int), .int .u64 (mk : Int)] 87 (0, 0)) := Own.box hO2 Ps.length (by rw [List.getElem?_append_right (Nat.le_refl _), Nat.sub_self]; rfl)
  have y0 : w2.cell? ⟨Y, 0, none⟩ = some (.bool ob) := by simp [World.cell?, hby]
  have y1 : w2.cell? ⟨Y, 1, none⟩ = some (.int .u64 (ge : Int)) := by simp [World.cell?, hby]
  have y2 : w2.cell? ⟨Y, 2, none⟩ = some (.int .u64 (mk : Int)) := by simp [World.cell?, hby]
  clear hby
  replace hO2 := Lib.hid hO2
  clear HG
  go_wp2
  go_ret2
  exact ⟨rfl, hO2.out.less⟩

set_option maxRecDepth 100000 in
set_option maxHeartbeats 4000000 in
theorem ClosePE (k g : Nat) (xs : List Nat) (L : List (Nat × Nat)) (i : Int) (ob : Bool) (ge mk en gen : Nat) (hG : GetC xs L i ob ge mk en) (hs : 1 ≤ gen ∧ gen ≤ 1099511627776) (he : en = 0) (hob : ob = false) (hl : ge = gen) (w0 w : World) (Ps : List Pr) (h : Own w0 w Ps) (hk : Ps[k]? = some (viewP g xs L)) :
    Calls Try.prog 20 #[.pointer (some ⟨g, 0, none⟩), .int .i64 i, .int .u64 (gen : Int)] w fun e w' => e = .returned (.tuple #[.int .u8 1, .int .i64 0]) ∧ Own w0 w' Ps := by
  have hkl := (List.getElem?_eq_some_iff.1 hk).1
  have Hk := Lib.hid (show ∀ Rs, (Ps ++ Rs)[k]? = some (viewP g xs L) from fun Rs => by rw [List.getElem?_append_left hkl]; exact hk)
  have Hkl := Lib.hid hkl
  have HG := Lib.hid (fun wx Rs (hO : Own w0 wx (Ps ++ Rs)) => hG k g w0 wx _ hO (Hk.out _))
  have HN := Lib.hid (fun wx => isNumber_any gen wx)
  have n1 : (1 : Int) ≤ (gen : Int) := by omega
  have n2 : (gen : Int) ≤ 1099511627776 := by omega
  have n3 : ¬ (gen : Int) < 1 := by omega
  have n4 : ¬ (1099511627776 : Int) < (gen : Int) := by omega
  rw [show numB gen = true by unfold numB; rw [decide_eq_true (by omega : 1 ≤ gen), decide_eq_true (by omega : gen ≤ 1099511627776)]; rfl] at HN
  have qe : ((en : Int) != 0) = false := by rw [he]; rfl
  subst hob
  subst hl
  have l1 : ¬ (ge : Int) < (ge : Int) := by omega
  have HH := Lib.hid (fun wx (hO : Own w0 wx Ps) => headT k g xs L i false ge mk en hG w0 wx _ hO hk)
  replace h := Lib.hid h
  clear hk hkl hG
  go_enter Try.func20, Try.ntmps20
  go_wp2_with fail
  refine (HN.out _).mono ?_
  rintro e w9 ⟨rfl, rfl⟩
  clear HN
  go_wp2_with fail
  refine (HH.out _ h.out).mono ?_
  rintro e w1 ⟨rfl, hO1⟩
  clear HH h

  obtain ⟨Y, hYs⟩ : ∃ Y, w1.heap.size = Y := ⟨_, rfl⟩
  have hO2 := hO1.addBox 87 #[.bool false, .int .u64 (ge : Int), .int .u64 (mk : Int)]
  rw [hYs] at hO2
  obtain ⟨w2, hw2⟩ : ∃ w2, w1.alloc (.cells #[.bool false, .int .u64 (ge : Int), .int .u64 (mk : Int)] 87) = w2 := ⟨_, rfl⟩
  rw [hw2] at hO2
  clear hO1



  have hby : w2.heap[Y]? = some (.cells #[.bool false, .int .u64 (ge : Int), .int .u64 (mk : Int)] 87 (0, 0)) := Own.box hO2 Ps.length (by rw [List.getElem?_append_right (Nat.le_refl _), Nat.sub_self]; rfl)
  have y0 : w2.cell? ⟨Y, 0, none⟩ = some (.bool false) := by simp [World.cell?, hby]
  have y1 : w2.cell? ⟨Y, 1, none⟩ = some (.int .u64 (ge : Int)) := by simp [World.cell?, hby]
  have y2 : w2.cell? ⟨Y, 2, none⟩ = some (.int .u64 (mk : Int)) := by simp [World.cell?, hby]
  clear hby
  replace hO2 := Lib.hid hO2
  clear HG
  go_wp2
  go_ret2
  exact ⟨rfl, hO2.out.less⟩

set_option maxRecDepth 100000 in
set_option maxHeartbeats 4000000 in
theorem ClosePF (k g : Nat) (xs : List Nat) (L : List (Nat × Nat)) (i : Int) (ob : Bool) (ge mk en gen : Nat) (en3 : Nat) (L2 : List (Nat × Nat)) (hG : GetC xs L i ob ge mk en) (hs : 1 ≤ gen ∧ gen ≤ 1099511627776) (he : en = 0) (hob : ob = true) (hl : ge = gen) (hP : PutC xs L L2 i false ge mk en3) (w0 w : World) (Ps : List Pr) (h : Own w0 w Ps) (hk : Ps[k]? = some (viewP g xs L)) :
    Calls Try.prog 20 #[.pointer (some ⟨g, 0, none⟩), .int .i64 i, .int .u64 (gen : Int)] w fun e w' => e = .returned (.tuple #[.int .u8 0, .int .i64 (en3 : Int)]) ∧ Own w0 w' (Ps.set k (viewP g xs L2)) := by
  have hkl := (List.getElem?_eq_some_iff.1 hk).1
  have Hk := Lib.hid (show ∀ Rs, (Ps ++ Rs)[k]? = some (viewP g xs L) from fun Rs => by rw [List.getElem?_append_left hkl]; exact hk)
  have Hkl := Lib.hid hkl
  have HG := Lib.hid (fun wx Rs (hO : Own w0 wx (Ps ++ Rs)) => hG k g w0 wx _ hO (Hk.out _))
  have HN := Lib.hid (fun wx => isNumber_any gen wx)
  have n1 : (1 : Int) ≤ (gen : Int) := by omega
  have n2 : (gen : Int) ≤ 1099511627776 := by omega
  have n3 : ¬ (gen : Int) < 1 := by omega
  have n4 : ¬ (1099511627776 : Int) < (gen : Int) := by omega
  rw [show numB gen = true by unfold numB; rw [decide_eq_true (by omega : 1 ≤ gen), decide_eq_true (by omega : gen ≤ 1099511627776)]; rfl] at HN
  have qe : ((en : Int) != 0) = false := by rw [he]; rfl
  subst hob
  subst hl
  have l1 : ¬ (ge : Int) < (ge : Int) := by omega
  have HH := Lib.hid (fun wx (hO : Own w0 wx Ps) => headT k g xs L i true ge mk en hG w0 wx _ hO hk)
  have HP := Lib.hid (fun wx Rs (hO : Own w0 wx (Ps ++ Rs)) => hP k g w0 wx _ hO (Hk.out _))
  replace h := Lib.hid h
  clear hk hkl hG
  go_enter Try.func20, Try.ntmps20
  go_wp2_with fail
  refine (HN.out _).mono ?_
  rintro e w9 ⟨rfl, rfl⟩
  clear HN
  go_wp2_with fail
  refine (HH.out _ h.out).mono ?_
  rintro e w1 ⟨rfl, hO1⟩
  clear HH h

  obtain ⟨Y, hYs⟩ : ∃ Y, w1.heap.size = Y := ⟨_, rfl⟩
  have hO2 := hO1.addBox 87 #[.bool true, .int .u64 (ge : Int), .int .u64 (mk : Int)]
  rw [hYs] at hO2
  obtain ⟨w2, hw2⟩ : ∃ w2, w1.alloc (.cells #[.bool true, .int .u64 (ge : Int), .int .u64 (mk : Int)] 87) = w2 := ⟨_, rfl⟩
  rw [hw2] at hO2
  clear hO1



  have hby : w2.heap[Y]? = some (.cells #[.bool true, .int .u64 (ge : Int), .int .u64 (mk : Int)] 87 (0, 0)) := Own.box hO2 Ps.length (by rw [List.getElem?_append_right (Nat.le_refl _), Nat.sub_self]; rfl)
  have y0 : w2.cell? ⟨Y, 0, none⟩ = some (.bool true) := by simp [World.cell?, hby]
  have y1 : w2.cell? ⟨Y, 1, none⟩ = some (.int .u64 (ge : Int)) := by simp [World.cell?, hby]
  have y2 : w2.cell? ⟨Y, 2, none⟩ = some (.int .u64 (mk : Int)) := by simp [World.cell?, hby]
  clear hby
  have yf : w2.frozen? ⟨Y, 0, none⟩ = false := by
    have hb : w2.heap[Y]? = some (.cells #[.bool true, .int .u64 (ge : Int), .int .u64 (mk : Int)] 87 (0, 0)) := Own.box hO2 Ps.length (by rw [List.getElem?_append_right (Nat.le_refl _), Nat.sub_self]; rfl)
    simp [World.frozen?, hb]
  have hO3 : Own w0 (w2.setCell ⟨Y, 0, none⟩ (.bool false)) (Ps ++ [boxP Y 87 #[.bool false, .int .u64 (ge : Int), .int .u64 (mk : Int)]]) := by
    have := hO2.putBox Ps.length (X := Y) (T := 87) (cs := #[.bool true, .int .u64 (ge : Int), .int .u64 (mk : Int)]) (by rw [List.getElem?_append_right (Nat.le_refl _), Nat.sub_self]; rfl) 0 (.bool false)
    rw [List.set_append_right _ _ (Nat.le_refl _), Nat.sub_self] at this
    exact this
  have HP2 := Lib.hid (HP.out _ _ hO3)
  rw [List.set_append_left _ _ Hkl.out] at HP2
  have hb3 : (w2.setCell ⟨Y, 0, none⟩ (.bool false)).heap[Y]? = some (.cells #[.bool false, .int .u64 (ge : Int), .int .u64 (mk : Int)] 87 (0, 0)) := Own.box hO3 Ps.length (by rw [List.getElem?_append_right (Nat.le_refl _), Nat.sub_self]; rfl)
  obtain ⟨w3, hw3⟩ : ∃ w3, w2.setCell ⟨Y, 0, none⟩ (.bool false) = w3 := ⟨_, rfl⟩
  rw [hw3] at HP2 hb3
  have x0 : w3.cell? ⟨Y, 0, none⟩ = some (.bool false) := by simp [World.cell?, hb3]
  have x1 : w3.cell? ⟨Y, 1, none⟩ = some (.int .u64 (ge : Int)) := by simp [World.cell?, hb3]
  have x2 : w3.cell? ⟨Y, 2, none⟩ = some (.int .u64 (mk : Int)) := by simp [World.cell?, hb3]
  clear hO2 hO3 HG HP hb3
  go_wp2_with fail
  try rw [hw3]
  refine HP2.out.mono ?_
  rintro e w4 ⟨rfl, hO4⟩
  replace hO4 := Lib.hid hO4
  go_wp2
  go_ret2
  exact ⟨rfl, hO4.out.less⟩

set_option maxRecDepth 100000 in
set_option maxHeartbeats 4000000 in
theorem OpenRA1 (k g : Nat) (xs : List Nat) (L : List (Nat × Nat)) (i : Int) (ob : Bool) (ge mk en gen : Nat) (hG : RGetC xs L i ob ge mk en) (hs : gen < 1) (w0 w : World) (Ps : List Pr) (h : Own w0 w Ps) (hk : Ps[k]? = some (refQ g xs L)) :
    Calls Try.prog 19 #[.pointer (some ⟨g, 0, none⟩), .int .i64 i, .int .u64 (gen : Int)] w fun e w' => e = .returned (.tuple #[.int .i64 0, .int .i64 1]) ∧ Own w0 w' Ps := by
  have hkl := (List.getElem?_eq_some_iff.1 hk).1
  have Hk := Lib.hid (show ∀ Rs, (Ps ++ Rs)[k]? = some (refQ g xs L) from fun Rs => by rw [List.getElem?_append_left hkl]; exact hk)
  have Hkl := Lib.hid hkl
  have HG := Lib.hid (fun wx Rs (hO : Own w0 wx (Ps ++ Rs)) => hG k g w0 wx _ hO (Hk.out _))
  have n3 : (gen : Int) < 1 := by omega
  replace h := Lib.hid h
  clear hk hkl hG
  go_enter Try.func19, Try.ntmps19
  go_wp2
  go_ret2
  exact ⟨rfl, h.out⟩

set_option maxRecDepth 100000 in
set_option maxHeartbeats 4000000 in
theorem OpenRA2 (k g : Nat) (xs : List Nat) (L : List (Nat × Nat)) (i : Int) (ob : Bool) (ge mk en gen : Nat) (hG : RGetC xs L i ob ge mk en) (hs : 1099511627776 < gen) (w0 w : World) (Ps : List Pr) (h : Own w0 w Ps) (hk : Ps[k]? = some (refQ g xs L)) :
    Calls Try.prog 19 #[.pointer (some ⟨g, 0, none⟩), .int .i64 i, .int .u64 (gen : Int)] w fun e w' => e = .returned (.tuple #[.int .i64 0, .int .i64 1]) ∧ Own w0 w' Ps := by
  have hkl := (List.getElem?_eq_some_iff.1 hk).1
  have Hk := Lib.hid (show ∀ Rs, (Ps ++ Rs)[k]? = some (refQ g xs L) from fun Rs => by rw [List.getElem?_append_left hkl]; exact hk)
  have Hkl := Lib.hid hkl
  have HG := Lib.hid (fun wx Rs (hO : Own w0 wx (Ps ++ Rs)) => hG k g w0 wx _ hO (Hk.out _))
  have n3 : ¬ (gen : Int) < 1 := by omega
  have n4 : (1099511627776 : Int) < (gen : Int) := by omega
  replace h := Lib.hid h
  clear hk hkl hG
  go_enter Try.func19, Try.ntmps19
  go_wp2
  go_ret2
  exact ⟨rfl, h.out⟩

set_option maxRecDepth 100000 in
set_option maxHeartbeats 4000000 in
theorem OpenRB (k g : Nat) (xs : List Nat) (L : List (Nat × Nat)) (i : Int) (ob : Bool) (ge mk en gen : Nat) (hG : RGetC xs L i ob ge mk en) (hs : 1 ≤ gen ∧ gen ≤ 1099511627776) (he : en ≠ 0) (w0 w : World) (Ps : List Pr) (h : Own w0 w Ps) (hk : Ps[k]? = some (refQ g xs L)) :
    Calls Try.prog 19 #[.pointer (some ⟨g, 0, none⟩), .int .i64 i, .int .u64 (gen : Int)] w fun e w' => e = .returned (.tuple #[.int .i64 0, .int .i64 (en : Int)]) ∧ Own w0 w' Ps := by
  have hkl := (List.getElem?_eq_some_iff.1 hk).1
  have Hk := Lib.hid (show ∀ Rs, (Ps ++ Rs)[k]? = some (refQ g xs L) from fun Rs => by rw [List.getElem?_append_left hkl]; exact hk)
  have Hkl := Lib.hid hkl
  have HG := Lib.hid (fun wx Rs (hO : Own w0 wx (Ps ++ Rs)) => hG k g w0 wx _ hO (Hk.out _))
  have n1 : (1 : Int) ≤ (gen : Int) := by omega
  have n2 : (gen : Int) ≤ 1099511627776 := by omega
  have n3 : ¬ (gen : Int) < 1 := by omega
  have n4 : ¬ (1099511627776 : Int) < (gen : Int) := by omega
  have qe : ((en : Int) != 0) = true := by simp; omega
  have HH := Lib.hid (fun wx (hO : Own w0 wx Ps) => hG k g w0 wx _ hO hk)
  replace h := Lib.hid h
  clear hk hkl hG
  go_enter Try.func19, Try.ntmps19
  go_wp2_with fail
  refine (HH.out _ h.out).mono ?_
  rintro e w1 ⟨rfl, hO1⟩
  clear HH h

  obtain ⟨Y, hYs⟩ : ∃ Y, w1.heap.size = Y := ⟨_, rfl⟩
  have hO2 := hO1.addBox 94 #[.bool ob, .int .u64 (ge : Int), .int .u64 (mk : Int)]
  rw [hYs] at hO2
  obtain ⟨w2, hw2⟩ : ∃ w2, w1.alloc (.cells #[.bool ob, .int .u64 (ge : Int), .int .u64 (mk : Int)] 94) = w2 := ⟨_, rfl⟩
  rw [hw2] at hO2
  clear hO1



  have hby : w2.heap[Y]? = some (.cells #[.bool ob, .int .u64 (ge : Int), .int .u64 (mk : Int)] 94 (0, 0)) := Own.box hO2 Ps.length (by rw [List.getElem?_append_right (Nat.le_refl _), Nat.sub_self]; rfl)
  have y0 : w2.cell? ⟨Y, 0, none⟩ = some (.bool ob) := by simp [World.cell?, hby]
  have y1 : w2.cell? ⟨Y, 1, none⟩ = some (.int .u64 (ge : Int)) := by simp [World.cell?, hby]
  have y2 : w2.cell? ⟨Y, 2, none⟩ = some (.int .u64 (mk : Int)) := by simp [World.cell?, hby]
  clear hby
  replace hO2 := Lib.hid hO2
  clear HG
  go_wp2
  go_ret2
  exact ⟨rfl, hO2.out.less⟩

set_option maxRecDepth 100000 in
set_option maxHeartbeats 4000000 in
theorem OpenRC (k g : Nat) (xs : List Nat) (L : List (Nat × Nat)) (i : Int) (ob : Bool) (ge mk en gen : Nat) (hG : RGetC xs L i ob ge mk en) (hs : 1 ≤ gen ∧ gen ≤ 1099511627776) (he : en = 0) (hob : ob = true) (hge : ge = gen) (w0 w : World) (Ps : List Pr) (h : Own w0 w Ps) (hk : Ps[k]? = some (refQ g xs L)) :
    Calls Try.prog 19 #[.pointer (some ⟨g, 0, none⟩), .int .i64 i, .int .u64 (gen : Int)] w fun e w' => e = .returned (.tuple #[.int .i64 1, .int .i64 0]) ∧ Own w0 w' Ps := by
  have hkl := (List.getElem?_eq_some_iff.1 hk).1
  have Hk := Lib.hid (show ∀ Rs, (Ps ++ Rs)[k]? = some (refQ g xs L) from fun Rs => by rw [List.getElem?_append_left hkl]; exact hk)
  have Hkl := Lib.hid hkl
  have HG := Lib.hid (fun wx Rs (hO : Own w0 wx (Ps ++ Rs)) => hG k g w0 wx _ hO (Hk.out _))
  have n1 : (1 : Int) ≤ (gen : Int) := by omega
  have n2 : (gen : Int) ≤ 1099511627776 := by omega
  have n3 : ¬ (gen : Int) < 1 := by omega
  have n4 : ¬ (1099511627776 : Int) < (gen : Int) := by omega
  have qe : ((en : Int) != 0) = false := by rw [he]; rfl
  subst hob
  subst hge
  have qg : ((ge : Int) == (ge : Int)) = true := by simp
  have HH := Lib.hid (fun wx (hO : Own w0 wx Ps) => hG k g w0 wx _ hO hk)
  replace h := Lib.hid h
  clear hk hkl hG
  go_enter Try.func19, Try.ntmps19
  go_wp2_with fail
  refine (HH.out _ h.out).mono ?_
  rintro e w1 ⟨rfl, hO1⟩
  clear HH h

  obtain ⟨Y, hYs⟩ : ∃ Y, w1.heap.size = Y := ⟨_, rfl⟩
  have hO2 := hO1.addBox 94 #[.bool true, .int .u64 (ge : Int), .int .u64 (mk : Int)]
  rw [hYs] at hO2
  obtain ⟨w2, hw2⟩ : ∃ w2, w1.alloc (.cells #[.bool true, .int .u64 (ge : Int), .int .u64 (mk : Int)] 94) = w2 := ⟨_, rfl⟩
  rw [hw2] at hO2
  clear hO1



  have hby : w2.heap[Y]? = some (.cells #[.bool true, .int .u64 (ge : Int), .int .u64 (mk : Int)] 94 (0, 0)) := Own.box hO2 Ps.length (by rw [List.getElem?_append_right (Nat.le_refl _), Nat.sub_self]; rfl)
  have y0 : w2.cell? ⟨Y, 0, none⟩ = some (.bool true) := by simp [World.cell?, hby]
  have y1 : w2.cell? ⟨Y, 1, none⟩ = some (.int .u64 (ge : Int)) := by simp [World.cell?, hby]
  have y2 : w2.cell? ⟨Y, 2, none⟩ = some (.int .u64 (mk : Int)) := by simp [World.cell?, hby]
  clear hby
  replace hO2 := Lib.hid hO2
  clear HG
  go_wp2
  go_ret2
  exact ⟨rfl, hO2.out.less⟩

set_option maxRecDepth 100000 in
set_option maxHeartbeats 4000000 in
theorem OpenRD1 (k g : Nat) (xs : List Nat) (L : List (Nat × Nat)) (i : Int) (ob : Bool) (ge mk en gen : Nat) (hG : RGetC xs L i ob ge mk en) (hs : 1 ≤ gen ∧ gen ≤ 1099511627776) (he : en = 0) (hob : ob = false) (hl : gen ≤ ge) (w0 w : World) (Ps : List Pr) (h : Own w0 w Ps) (hk : Ps[k]? = some (refQ g xs L)) :
    Calls Try.prog 19 #[.pointer (some ⟨g, 0, none⟩), .int .i64 i, .int .u64 (gen : Int)] w fun e w' => e = .returned (.tuple #[.int .i64 2, .int .i64 0]) ∧ Own w0 w' Ps := by
  have hkl := (List.getElem?_eq_some_iff.1 hk).1
  have Hk := Lib.hid (show ∀ Rs, (Ps ++ Rs)[k]? = some (refQ g xs L) from fun Rs => by rw [List.getElem?_append_left hkl]; exact hk)
  have Hkl := Lib.hid hkl
  have HG := Lib.hid (fun wx Rs (hO : Own w0 wx (Ps ++ Rs)) => hG k g w0 wx _ hO (Hk.out _))
  have n1 : (1 : Int) ≤ (gen : Int) := by omega
  have n2 : (gen : Int) ≤ 1099511627776 := by omega
  have n3 : ¬ (gen : Int) < 1 := by omega
  have n4 : ¬ (1099511627776 : Int) < (gen : Int) := by omega
  have qe : ((en : Int) != 0) = false := by rw [he]; rfl
  subst hob
  have l1 : (gen : Int) ≤ (ge : Int) := by omega
  have HH := Lib.hid (fun wx (hO : Own w0 wx Ps) => hG k g w0 wx _ hO hk)
  replace h := Lib.hid h
  clear hk hkl hG
  go_enter Try.func19, Try.ntmps19
  go_wp2_with fail
  refine (HH.out _ h.out).mono ?_
  rintro e w1 ⟨rfl, hO1⟩
  clear HH h

  obtain ⟨Y, hYs⟩ : ∃ Y, w1.heap.size = Y := ⟨_, rfl⟩
  have hO2 := hO1.addBox 94 #[.bool false, .int .u64 (ge : Int), .int .u64 (mk : Int)]
  rw [hYs] at hO2
  obtain ⟨w2, hw2⟩ : ∃ w2, w1.alloc (.cells #[.bool false, .int .u64 (ge : Int), .int .u64 (mk : Int)] 94) = w2 := ⟨_, rfl⟩
  rw [hw2] at hO2
  clear hO1



  have hby : w2.heap[Y]? = some (.cells #[.bool false, .int .u64 (ge : Int), .int .u64 (mk : Int)] 94 (0, 0)) := Own.box hO2 Ps.length (by rw [List.getElem?_append_right (Nat.le_refl _), Nat.sub_self]; rfl)
  have y0 : w2.cell? ⟨Y, 0, none⟩ = some (.bool false) := by simp [World.cell?, hby]
  have y1 : w2.cell? ⟨Y, 1, none⟩ = some (.int .u64 (ge : Int)) := by simp [World.cell?, hby]
  have y2 : w2.cell? ⟨Y, 2, none⟩ = some (.int .u64 (mk : Int)) := by simp [World.cell?, hby]
  clear hby
  replace hO2 := Lib.hid hO2
  clear HG
  go_wp2
  go_ret2
  exact ⟨rfl, hO2.out.less⟩

set_option maxRecDepth 100000 in
set_option maxHeartbeats 4000000 in
theorem OpenRD2 (k g : Nat) (xs : List Nat) (L : List (Nat × Nat)) (i : Int) (ob : Bool) (ge mk en gen : Nat) (hG : RGetC xs L i ob ge mk en) (hs : 1 ≤ gen ∧ gen ≤ 1099511627776) (he : en = 0) (hob : ob = true) (hge : ge ≠ gen) (hl : gen ≤ ge) (w0 w : World) (Ps : List Pr) (h : Own w0 w Ps) (hk : Ps[k]? = some (refQ g xs L)) :
    Calls Try.prog 19 #[.pointer (some ⟨g, 0, none⟩), .int .i64 i, .int .u64 (gen : Int)] w fun e w' => e = .returned (.tuple #[.int .i64 2, .int .i64 0]) ∧ Own w0 w' Ps := by
  have hkl := (List.getElem?_eq_some_iff.1 hk).1
  have Hk := Lib.hid (show ∀ Rs, (Ps ++ Rs)[k]? = some (refQ g xs L) from fun Rs => by rw [List.getElem?_append_left hkl]; exact hk)
  have Hkl := Lib.hid hkl
  have HG := Lib.hid (fun wx Rs (hO : Own w0 wx (Ps ++ Rs)) => hG k g w0 wx _ hO (Hk.out _))
  have n1 : (1 : Int) ≤ (gen : Int) := by omega
  have n2 : (gen : Int) ≤ 1099511627776 := by omega
  have n3 : ¬ (gen : Int) < 1 := by omega
  have n4 : ¬ (1099511627776 : Int) < (gen : Int) := by omega
  have qe : ((en : Int) != 0) = false := by rw [he]; rfl
  subst hob
  have qg : ((gen : Int) == (ge : Int)) = false := by simp; omega
  have l1 : (gen : Int) ≤ (ge : Int) := by omega
  have HH := Lib.hid (fun wx (hO : Own w0 wx Ps) => hG k g w0 wx _ hO hk)
  replace h := Lib.hid h
  clear hk hkl hG
  go_enter Try.func19, Try.ntmps19
  go_wp2_with fail
  refine (HH.out _ h.out).mono ?_
  rintro e w1 ⟨rfl, hO1⟩
  clear HH h

  obtain ⟨Y, hYs⟩ : ∃ Y, w1.heap.size = Y := ⟨_, rfl⟩
  have hO2 := hO1.addBox 94 #[.bool true, .int .u64 (ge : Int), .int .u64 (mk : Int)]
  rw [hYs] at hO2
  obtain ⟨w2, hw2⟩ : ∃ w2, w1.alloc (.cells #[.bool true, .int .u64 (ge : Int), .int .u64 (mk : Int)] 94) = w2 := ⟨_, rfl⟩
  rw [hw2] at hO2
  clear hO1



  have hby : w2.heap[Y]? = some (.cells #[.bool true, .int .u64 (ge : Int), .int .u64 (mk : Int)] 94 (0, 0)) := Own.box hO2 Ps.length (by rw [List.getElem?_append_right (Nat.le_refl _), Nat.sub_self]; rfl)
  have y0 : w2.cell? ⟨Y, 0, none⟩ = some (.bool true) := by simp [World.cell?, hby]
  have y1 : w2.cell? ⟨Y, 1, none⟩ = some (.int .u64 (ge : Int)) := by simp [World.cell?, hby]
  have y2 : w2.cell? ⟨Y, 2, none⟩ = some (.int .u64 (mk : Int)) := by simp [World.cell?, hby]
  clear hby
  replace hO2 := Lib.hid hO2
  clear HG
  go_wp2
  go_ret2
  exact ⟨rfl, hO2.out.less⟩

set_option maxRecDepth 100000 in
set_option maxHeartbeats 4000000 in
theorem OpenRE1 (k g : Nat) (xs : List Nat) (L : List (Nat × Nat)) (i : Int) (ob : Bool) (ge mk en gen : Nat) (hG : RGetC xs L i ob ge mk en) (hs : 1 ≤ gen ∧ gen ≤ 1099511627776) (he : en = 0) (hob : ob = true) (hl : ge < gen) (w0 w : World) (Ps : List Pr) (h : Own w0 w Ps) (hk : Ps[k]? = some (refQ g xs L)) :
    Calls Try.prog 19 #[.pointer (some ⟨g, 0, none⟩), .int .i64 i, .int .u64 (gen : Int)] w fun e w' => e = .returned (.tuple #[.int .i64 3, .int .i64 0]) ∧ Own w0 w' Ps := by
  have hkl := (List.getElem?_eq_some_iff.1 hk).1
  have Hk := Lib.hid (show ∀ Rs, (Ps ++ Rs)[k]? = some (refQ g xs L) from fun Rs => by rw [List.getElem?_append_left hkl]; exact hk)
  have Hkl := Lib.hid hkl
  have HG := Lib.hid (fun wx Rs (hO : Own w0 wx (Ps ++ Rs)) => hG k g w0 wx _ hO (Hk.out _))
  have n1 : (1 : Int) ≤ (gen : Int) := by omega
  have n2 : (gen : Int) ≤ 1099511627776 := by omega
  have n3 : ¬ (gen : Int) < 1 := by omega
  have n4 : ¬ (1099511627776 : Int) < (gen : Int) := by omega
  have qe : ((en : Int) != 0) = false := by rw [he]; rfl
  subst hob
  have qg : ((gen : Int) == (ge : Int)) = false := by simp; omega
  have l1 : ¬ (gen : Int) ≤ (ge : Int) := by omega
  have HH := Lib.hid (fun wx (hO : Own w0 wx Ps) => hG k g w0 wx _ hO hk)
  replace h := Lib.hid h
  clear hk hkl hG
  go_enter Try.func19, Try.ntmps19
  go_wp2_with fail
  refine (HH.out _ h.out).mono ?_
  rintro e w1 ⟨rfl, hO1⟩
  clear HH h

  obtain ⟨Y, hYs⟩ : ∃ Y, w1.heap.size = Y := ⟨_, rfl⟩
  have hO2 := hO1.addBox 94 #[.bool true, .int .u64 (ge : Int), .int .u64 (mk : Int)]
  rw [hYs] at hO2
  obtain ⟨w2, hw2⟩ : ∃ w2, w1.alloc (.cells #[.bool true, .int .u64 (ge : Int), .int .u64 (mk : Int)] 94) = w2 := ⟨_, rfl⟩
  rw [hw2] at hO2
  clear hO1



  have hby : w2.heap[Y]? = some (.cells #[.bool true, .int .u64 (ge : Int), .int .u64 (mk : Int)] 94 (0, 0)) := Own.box hO2 Ps.length (by rw [List.getElem?_append_right (Nat.le_refl _), Nat.sub_self]; rfl)
  have y0 : w2.cell? ⟨Y, 0, none⟩ = some (.bool true) := by simp [World.cell?, hby]
  have y1 : w2.cell? ⟨Y, 1, none⟩ = some (.int .u64 (ge : Int)) := by simp [World.cell?, hby]
  have y2 : w2.cell? ⟨Y, 2, none⟩ = some (.int .u64 (mk : Int)) := by simp [World.cell?, hby]
  clear hby
  replace hO2 := Lib.hid hO2
  clear HG
  go_wp2
  go_ret2
  exact ⟨rfl, hO2.out.less⟩

set_option maxRecDepth 100000 in
set_option maxHeartbeats 4000000 in
theorem OpenRE2 (k g : Nat) (xs : List Nat) (L : List (Nat × Nat)) (i : Int) (ob : Bool) (ge mk en gen : Nat) (hG : RGetC xs L i ob ge mk en) (hs : 1 ≤ gen ∧ gen ≤ 1099511627776) (he : en = 0) (hob : ob = false) (hl : ge < gen) (hx : gen - ge ≠ 1) (w0 w : World) (Ps : List Pr) (h : Own w0 w Ps) (hk : Ps[k]? = some (refQ g xs L)) :
    Calls Try.prog 19 #[.pointer (some ⟨g, 0, none⟩), .int .i64 i, .int .u64 (gen : Int)] w fun e w' => e = .returned (.tuple #[.int .i64 3, .int .i64 0]) ∧ Own w0 w' Ps := by
  have hkl := (List.getElem?_eq_some_iff.1 hk).1
  have Hk := Lib.hid (show ∀ Rs, (Ps ++ Rs)[k]? = some (refQ g xs L) from fun Rs => by rw [List.getElem?_append_left hkl]; exact hk)
  have Hkl := Lib.hid hkl
  have HG := Lib.hid (fun wx Rs (hO : Own w0 wx (Ps ++ Rs)) => hG k g w0 wx _ hO (Hk.out _))
  have n1 : (1 : Int) ≤ (gen : Int) := by omega
  have n2 : (gen : Int) ≤ 1099511627776 := by omega
  have n3 : ¬ (gen : Int) < 1 := by omega
  have n4 : ¬ (1099511627776 : Int) < (gen : Int) := by omega
  have qe : ((en : Int) != 0) = false := by rw [he]; rfl
  subst hob
  have l1 : ¬ (gen : Int) ≤ (ge : Int) := by omega
  obtain ⟨D, hD⟩ : ∃ D, gen - ge = D := ⟨_, rfl⟩
  have dE : (gen : Int) - (ge : Int) = (D : Int) := by omega
  have dW : IntKind.u64.wrap (D : Int) = (D : Int) := IntWalk.u64_in _ ⟨by omega, by omega⟩
  have l2 : ((D : Int) != 1) = true := by simp; omega
  have HH := Lib.hid (fun wx (hO : Own w0 wx Ps) => hG k g w0 wx _ hO hk)
  replace h := Lib.hid h
  clear hk hkl hG
  go_enter Try.func19, Try.ntmps19
  go_wp2_with fail
  refine (HH.out _ h.out).mono ?_
  rintro e w1 ⟨rfl, hO1⟩
  clear HH h

  obtain ⟨Y, hYs⟩ : ∃ Y, w1.heap.size = Y := ⟨_, rfl⟩
  have hO2 := hO1.addBox 94 #[.bool false, .int .u64 (ge : Int), .int .u64 (mk : Int)]
  rw [hYs] at hO2
  obtain ⟨w2, hw2⟩ : ∃ w2, w1.alloc (.cells #[.bool false, .int .u64 (ge : Int), .int .u64 (mk : Int)] 94) = w2 := ⟨_, rfl⟩
  rw [hw2] at hO2
  clear hO1



  have hby : w2.heap[Y]? = some (.cells #[.bool false, .int .u64 (ge : Int), .int .u64 (mk : Int)] 94 (0, 0)) := Own.box hO2 Ps.length (by rw [List.getElem?_append_right (Nat.le_refl _), Nat.sub_self]; rfl)
  have y0 : w2.cell? ⟨Y, 0, none⟩ = some (.bool false) := by simp [World.cell?, hby]
  have y1 : w2.cell? ⟨Y, 1, none⟩ = some (.int .u64 (ge : Int)) := by simp [World.cell?, hby]
  have y2 : w2.cell? ⟨Y, 2, none⟩ = some (.int .u64 (mk : Int)) := by simp [World.cell?, hby]
  clear hby
  replace hO2 := Lib.hid hO2
  clear HG
  go_wp2
  go_ret2
  exact ⟨rfl, hO2.out.less⟩

set_option maxRecDepth 100000 in
set_option maxHeartbeats 4000000 in
theorem OpenRF (k g : Nat) (xs : List Nat) (L : List (Nat × Nat)) (i : Int) (ob : Bool) (ge mk en gen : Nat) (en3 : Nat) (L2 : List (Nat × Nat)) (hG : RGetC xs L i ob ge mk en) (hs : 1 ≤ gen ∧ gen ≤ 1099511627776) (he : en = 0) (hob : ob = false) (hl : ge < gen) (hx : gen - ge = 1) (h3 : en3 ≠ 0) (hP : RPutC xs L L2 i true gen 0 en3) (w0 w : World) (Ps : List Pr) (h : Own w0 w Ps) (hk : Ps[k]? = some (refQ g xs L)) :
    Calls Try.prog 19 #[.pointer (some ⟨g, 0, none⟩), .int .i64 i, .int .u64 (gen : Int)] w fun e w' => e = .returned (.tuple #[.int .i64 0, .int .i64 (en3 : Int)]) ∧ Own w0 w' (Ps.set k (refQ g xs L2)) := by
  have hkl := (List.getElem?_eq_some_iff.1 hk).1
  have Hk := Lib.hid (show ∀ Rs, (Ps ++ Rs)[k]? = some (refQ g xs L) from fun Rs => by rw [List.getElem?_append_left hkl]; exact hk)
  have Hkl := Lib.hid hkl
  have HG := Lib.hid (fun wx Rs (hO : Own w0 wx (Ps ++ Rs)) => hG k g w0 wx _ hO (Hk.out _))
  have n1 : (1 : Int) ≤ (gen : Int) := by omega
  have n2 : (gen : Int) ≤ 1099511627776 := by omega
  have n3 : ¬ (gen : Int) < 1 := by omega
  have n4 : ¬ (1099511627776 : Int) < (gen : Int) := by omega
  have qe : ((en : Int) != 0) = false := by rw [he]; rfl
  subst hob
  have l1 : ¬ (gen : Int) ≤ (ge : Int) := by omega
  have dE : (gen : Int) - (ge : Int) = 1 := by omega
  have q3 : ((en3 : Int) != 0) = true := by simp; omega
  have HH := Lib.hid (fun wx (hO : Own w0 wx Ps) => hG k g w0 wx _ hO hk)
  have HP := Lib.hid (fun wx Rs (hO : Own w0 wx (Ps ++ Rs)) => hP k g w0 wx _ hO (Hk.out _))
  rw [show ((0 : Nat) : Int) = 0 from rfl] at HP
  replace h := Lib.hid h
  clear hk hkl hG
  go_enter Try.func19, Try.ntmps19
  go_wp2_with fail
  refine (HH.out _ h.out).mono ?_
  rintro e w1 ⟨rfl, hO1⟩
  clear HH h

  obtain ⟨Y, hYs⟩ : ∃ Y, w1.heap.size = Y := ⟨_, rfl⟩
  have hO2 := hO1.addBox 94 #[.bool false, .int .u64 (ge : Int), .int .u64 (mk : Int)]
  rw [hYs] at hO2
  obtain ⟨w2, hw2⟩ : ∃ w2, w1.alloc (.cells #[.bool false, .int .u64 (ge : Int), .int .u64 (mk : Int)] 94) = w2 := ⟨_, rfl⟩
  rw [hw2] at hO2
  clear hO1



  have hby : w2.heap[Y]? = some (.cells #[.bool false, .int .u64 (ge : Int), .int .u64 (mk : Int)] 94 (0, 0)) := Own.box hO2 Ps.length (by rw [List.getElem?_append_right (Nat.le_refl _), Nat.sub_self]; rfl)
  have y0 : w2.cell? ⟨Y, 0, none⟩ = some (.bool false) := by simp [World.cell?, hby]
  have y1 : w2.cell? ⟨Y, 1, none⟩ = some (.int .u64 (ge : Int)) := by simp [World.cell?, hby]
  have y2 : w2.cell? ⟨Y, 2, none⟩ = some (.int .u64 (mk : Int)) := by simp [World.cell?, hby]
  clear hby
  have HP2 := Lib.hid (HP.out w2 _ hO2)
  rw [List.set_append_left _ _ Hkl.out] at HP2
  clear hO2 HG HP
  go_wp2_with fail
  try rw [hw2]
  refine HP2.out.mono ?_
  rintro e w3 ⟨rfl, hO3⟩
  replace hO3 := Lib.hid hO3
  go_wp2
  go_ret2
  exact ⟨rfl, hO3.out.less⟩

set_option maxRecDepth 100000 in
set_option maxHeartbeats 4000000 in
theorem OpenRG (k g : Nat) (xs : List Nat) (L : List (Nat × Nat)) (i : Int) (ob : Bool) (ge mk en gen : Nat) (en3 en4 : Nat) (L2 L3 : List (Nat × Nat)) (hG : RGetC xs L i ob ge mk en) (hs : 1 ≤ gen ∧ gen ≤ 1099511627776) (he : en = 0) (hob : ob = false) (hl : ge < gen) (hx : gen - ge = 1) (h3 : en3 = 0) (hP : RPutC xs L L2 i true gen 0 en3) (hW : RWipeC xs L2 L3 i en4) (w0 w : World) (Ps : List Pr) (h : Own w0 w Ps) (hk : Ps[k]? = some (refQ g xs L)) :
    Calls Try.prog 19 #[.pointer (some ⟨g, 0, none⟩), .int .i64 i, .int .u64 (gen : Int)] w fun e w' => e = .returned (.tuple #[.int .i64 0, .int .i64 (en4 : Int)]) ∧ Own w0 w' (Ps.set k (refQ g xs L3)) := by
  have hkl := (List.getElem?_eq_some_iff.1 hk).1
  have Hk := Lib.hid (show ∀ Rs, (Ps ++ Rs)[k]? = some (refQ g xs L) from fun Rs => by rw [List.getElem?_append_left hkl]; exact hk)
  have Hkl := Lib.hid hkl
  have HG := Lib.hid (fun wx Rs (hO : Own w0 wx (Ps ++ Rs)) => hG k g w0 wx _ hO (Hk.out _))
  have n1 : (1 : Int) ≤ (gen : Int) := by omega
  have n2 : (gen : Int) ≤ 1099511627776 := by omega
  have n3 : ¬ (gen : Int) < 1 := by omega
  have n4 : ¬ (1099511627776 : Int) < (gen : Int) := by omega
  have qe : ((en : Int) != 0) = false := by rw [he]; rfl
  subst hob
  have l1 : ¬ (gen : Int) ≤ (ge : Int) := by omega
  have dE : (gen : Int) - (ge : Int) = 1 := by omega
  have q3 : ((en3 : Int) != 0) = false := by rw [h3]; rfl
  have HH := Lib.hid (fun wx (hO : Own w0 wx Ps) => hG k g w0 wx _ hO hk)
  have HP := Lib.hid (fun wx Rs (hO : Own w0 wx (Ps ++ Rs)) => hP k g w0 wx _ hO (Hk.out _))
  rw [show ((0 : Nat) : Int) = 0 from rfl] at HP
  have HW := Lib.hid (fun wx (hO : Own w0 wx (Ps.set k (refQ g xs L2))) => hW k g w0 wx _ hO (List.getElem?_set_self hkl))
  simp only [List.set_set] at HW
  replace h := Lib.hid h
  clear hk hkl hG
  go_enter Try.func19, Try.ntmps19
  go_wp2_with fail
  refine (HH.out _ h.out).mono ?_
  rintro e w1 ⟨rfl, hO1⟩
  clear HH h

  obtain ⟨Y, hYs⟩ : ∃ Y, w1.heap.size = Y := ⟨_, rfl⟩
  have hO2 := hO1.addBox 94 #[.bool false, .int .u64 (ge : Int), .int .u64 (mk : Int)]
  rw [hYs] at hO2
  obtain ⟨w2, hw2⟩ : ∃ w2, w1.alloc (.cells #[.bool false, .int .u64 (ge : Int), .int .u64 (mk : Int)] 94) = w2 := ⟨_, rfl⟩
  rw [hw2] at hO2
  clear hO1



  have hby : w2.heap[Y]? = some (.cells #[.bool false, .int .u64 (ge : Int), .int .u64 (mk : Int)] 94 (0, 0)) := Own.box hO2 Ps.length (by rw [List.getElem?_append_right (Nat.le_refl _), Nat.sub_self]; rfl)
  have y0 : w2.cell? ⟨Y, 0, none⟩ = some (.bool false) := by simp [World.cell?, hby]
  have y1 : w2.cell? ⟨Y, 1, none⟩ = some (.int .u64 (ge : Int)) := by simp [World.cell?, hby]
  have y2 : w2.cell? ⟨Y, 2, none⟩ = some (.int .u64 (mk : Int)) := by simp [World.cell?, hby]
  clear hby
  have HP2 := Lib.hid (HP.out w2 _ hO2)
  rw [List.set_append_left _ _ Hkl.out] at HP2
  clear hO2 HG HP
  go_wp2_with fail
  try rw [hw2]
  refine HP2.out.mono ?_
  rintro e w3 ⟨rfl, hO3⟩
  have HW3 := Lib.hid (HW.out w3 hO3.less)
  clear hO3 HW
  go_wp2_with fail
  refine HW3.out.mono ?_
  rintro e w4 ⟨rfl, hO4⟩
  go_wp2
  go_ret2
  exact ⟨rfl, hO4⟩

set_option maxRecDepth 100000 in
set_option maxHeartbeats 4000000 in
theorem CloseRA1 (k g : Nat) (xs : List Nat) (L : List (Nat × Nat)) (i : Int) (ob : Bool) (ge mk en gen : Nat) (hG : RGetC xs L i ob ge mk en) (hs : gen < 1) (w0 w : World) (Ps : List Pr) (h : Own w0 w Ps) (hk : Ps[k]? = some (refQ g xs L)) :
    Calls Try.prog 21 #[.pointer (some ⟨g, 0, none⟩), .int .i64 i, .int .u64 (gen : Int)] w fun e w' => e = .returned (.tuple #[.int .i64 0, .int .i64 1]) ∧ Own w0 w' Ps := by
  have hkl := (List.getElem?_eq_some_iff.1 hk).1
  have Hk := Lib.hid (show ∀ Rs, (Ps ++ Rs)[k]? = some (refQ g xs L) from fun Rs => by rw [List.getElem?_append_left hkl]; exact hk)
  have Hkl := Lib.hid hkl
  have HG := Lib.hid (fun wx Rs (hO : Own w0 wx (Ps ++ Rs)) => hG k g w0 wx _ hO (Hk.out _))
  have n3 : (gen : Int) < 1 := by omega
  replace h := Lib.hid h
  clear hk hkl hG
  go_enter Try.func21, Try.ntmps21
  go_wp2
  go_ret2
  exact ⟨rfl, h.out⟩

set_option maxRecDepth 100000 in
set_option maxHeartbeats 4000000 in
theorem CloseRA2 (k g : Nat) (xs : List Nat) (L : List (Nat × Nat)) (i : Int) (ob : Bool) (ge mk en gen : Nat) (hG : RGetC xs L i ob ge mk en) (hs : 1099511627776 < gen) (w0 w : World) (Ps : List Pr) (h : Own w0 w Ps) (hk : Ps[k]? = some (refQ g xs L)) :
    Calls Try.prog 21 #[.pointer (some ⟨g, 0, none⟩), .int .i64 i, .int .u64 (gen : Int)] w fun e w' => e = .returned (.tuple #[.int .i64 0, .int .i64 1]) ∧ Own w0 w' Ps := by
  have hkl := (List.getElem?_eq_some_iff.1 hk).1
  have Hk := Lib.hid (show ∀ Rs, (Ps ++ Rs)[k]? = some (refQ g xs L) from fun Rs => by rw [List.getElem?_append_left hkl]; exact hk)
  have Hkl := Lib.hid hkl
  have HG := Lib.hid (fun wx Rs (hO : Own w0 wx (Ps ++ Rs)) => hG k g w0 wx _ hO (Hk.out _))
  have n3 : ¬ (gen : Int) < 1 := by omega
  have n4 : (1099511627776 : Int) < (gen : Int) := by omega
  replace h := Lib.hid h
  clear hk hkl hG
  go_enter Try.func21, Try.ntmps21
  go_wp2
  go_ret2
  exact ⟨rfl, h.out⟩

set_option maxRecDepth 100000 in
set_option maxHeartbeats 4000000 in
theorem CloseRB (k g : Nat) (xs : List Nat) (L : List (Nat × Nat)) (i : Int) (ob : Bool) (ge mk en gen : Nat) (hG : RGetC xs L i ob ge mk en) (hs : 1 ≤ gen ∧ gen ≤ 1099511627776) (he : en ≠ 0) (w0 w : World) (Ps : List Pr) (h : Own w0 w Ps) (hk : Ps[k]? = some (refQ g xs L)) :
    Calls Try.prog 21 #[.pointer (some ⟨g, 0, none⟩), .int .i64 i, .int .u64 (gen : Int)] w fun e w' => e = .returned (.tuple #[.int .i64 0, .int .i64 (en : Int)]) ∧ Own w0 w' Ps := by
  have hkl := (List.getElem?_eq_some_iff.1 hk).1
  have Hk := Lib.hid (show ∀ Rs, (Ps ++ Rs)[k]? = some (refQ g xs L) from fun Rs => by rw [List.getElem?_append_left hkl]; exact hk)
  have Hkl := Lib.hid hkl
  have HG := Lib.hid (fun wx Rs (hO : Own w0 wx (Ps ++ Rs)) => hG k g w0 wx _ hO (Hk.out _))
  have n1 : (1 : Int) ≤ (gen : Int) := by omega
  have n2 : (gen : Int) ≤ 1099511627776 := by omega
  have n3 : ¬ (gen : Int) < 1 := by omega
  have n4 : ¬ (1099511627776 : Int) < (gen : Int) := by omega
  have qe : ((en : Int) != 0) = true := by simp; omega
  have HH := Lib.hid (fun wx (hO : Own w0 wx Ps) => hG k g w0 wx _ hO hk)
  replace h := Lib.hid h
  clear hk hkl hG
  go_enter Try.func21, Try.ntmps21
  go_wp2_with fail
  refine (HH.out _ h.out).mono ?_
  rintro e w1 ⟨rfl, hO1⟩
  clear HH h

  obtain ⟨Y, hYs⟩ : ∃ Y, w1.heap.size = Y := ⟨_, rfl⟩
  have hO2 := hO1.addBox 94 #[.bool ob, .int .u64 (ge : Int), .int .u64 (mk : Int)]
  rw [hYs] at hO2
  obtain ⟨w2, hw2⟩ : ∃ w2, w1.alloc (.cells #[.bool ob, .int .u64 (ge : Int), .int .u64 (mk : Int)] 94) = w2 := ⟨_, rfl⟩
  rw [hw2] at hO2
  clear hO1



  have hby : w2.heap[Y]? = some (.cells #[.bool ob, .int .u64 (ge : Int), .int .u64 (mk : Int)] 94 (0, 0)) := Own.box hO2 Ps.length (by rw [List.getElem?_append_right (Nat.le_refl _), Nat.sub_self]; rfl)
  have y0 : w2.cell? ⟨Y, 0, none⟩ = some (.bool ob) := by simp [World.cell?, hby]
  have y1 : w2.cell? ⟨Y, 1, none⟩ = some (.int .u64 (ge : Int)) := by simp [World.cell?, hby]
  have y2 : w2.cell? ⟨Y, 2, none⟩ = some (.int .u64 (mk : Int)) := by simp [World.cell?, hby]
  clear hby
  replace hO2 := Lib.hid hO2
  clear HG
  go_wp2
  go_ret2
  exact ⟨rfl, hO2.out.less⟩

set_option maxRecDepth 100000 in
set_option maxHeartbeats 4000000 in
theorem CloseRC (k g : Nat) (xs : List Nat) (L : List (Nat × Nat)) (i : Int) (ob : Bool) (ge mk en gen : Nat) (hG : RGetC xs L i ob ge mk en) (hs : 1 ≤ gen ∧ gen ≤ 1099511627776) (he : en = 0) (hl : gen < ge) (w0 w : World) (Ps : List Pr) (h : Own w0 w Ps) (hk : Ps[k]? = some (refQ g xs L)) :
    Calls Try.prog 21 #[.pointer (some ⟨g, 0, none⟩), .int .i64 i, .int .u64 (gen : Int)] w fun e w' => e = .returned (.tuple #[.int .i64 2, .int .i64 0]) ∧ Own w0 w' Ps := by
  have hkl := (List.getElem?_eq_some_iff.1 hk).1
  have Hk := Lib.hid (show ∀ Rs, (Ps ++ Rs)[k]? = some (refQ g xs L) from fun Rs => by rw [List.getElem?_append_left hkl]; exact hk)
  have Hkl := Lib.hid hkl
  have HG := Lib.hid (fun wx Rs (hO : Own w0 wx (Ps ++ Rs)) => hG k g w0 wx _ hO (Hk.out _))
  have n1 : (1 : Int) ≤ (gen : Int) := by omega
  have n2 : (gen : Int) ≤ 1099511627776 := by omega
  have n3 : ¬ (gen : Int) < 1 := by omega
  have n4 : ¬ (1099511627776 : Int) < (gen : Int) := by omega
  have qe : ((en : Int) != 0) = false := by rw [he]; rfl
  have l1 : (gen : Int) < (ge : Int) := by omega
  have HH := Lib.hid (fun wx (hO : Own w0 wx Ps) => hG k g w0 wx _ hO hk)
  replace h := Lib.hid h
  clear hk hkl hG
  go_enter Try.func21, Try.ntmps21
  go_wp2_with fail
  refine (HH.out _ h.out).mono ?_
  rintro e w1 ⟨rfl, hO1⟩
  clear HH h

  obtain ⟨Y, hYs⟩ : ∃ Y, w1.heap.size = Y := ⟨_, rfl⟩
  have hO2 := hO1.addBox 94 #[.bool ob, .int .u64 (ge : Int), .int .u64 (mk : Int)]
  rw [hYs] at hO2
  obtain ⟨w2, hw2⟩ : ∃ w2, w1.alloc (.cells #[.bool ob, .int .u64 (ge : Int), .int .u64 (mk : Int)] 94) = w2 := ⟨_, rfl⟩
  rw [hw2] at hO2
  clear hO1



  have hby : w2.heap[Y]? = some (.cells #[.bool ob, .int .u64 (ge : Int), .int .u64 (mk : Int)] 94 (0, 0)) := Own.box hO2 Ps.length (by rw [List.getElem?_append_right (Nat.le_refl _), Nat.sub_self]; rfl)
  have y0 : w2.cell? ⟨Y, 0, none⟩ = some (.bool ob) := by simp [World.cell?, hby]
  have y1 : w2.cell? ⟨Y, 1, none⟩ = some (.int .u64 (ge : Int)) := by simp [World.cell?, hby]
  have y2 : w2.cell? ⟨Y, 2, none⟩ = some (.int .u64 (mk : Int)) := by simp [World.cell?, hby]
  clear hby
  replace hO2 := Lib.hid hO2
  clear HG
  go_wp2
  go_ret2
  exact ⟨rfl, hO2.out.less⟩

set_option maxRecDepth 100000 in
set_option maxHeartbeats 4000000 in
theorem CloseRD (k g : Nat) (xs : List Nat) (L : List (Nat × Nat)) (i : Int) (ob : Bool) (ge mk en gen : Nat) (hG : RGetC xs L i ob ge mk en) (hs : 1 ≤ gen ∧ gen ≤ 1099511627776) (he : en = 0) (hl : ge < gen) (w0 w : World) (Ps : List Pr) (h : Own w0 w Ps) (hk : Ps[k]? = some (refQ g xs L)) :
    Calls Try.prog 21 #[.pointer (some ⟨g, 0, none⟩), .int .i64 i, .int .u64 (gen : Int)] w fun e w' => e = .returned (.tuple #[.int .i64 3, .int .i64 0]) ∧ Own w0 w' Ps := by
  have hkl := (List.getElem?_eq_some_iff.1 hk).1
  have Hk := Lib.hid (show ∀ Rs, (Ps ++ Rs)[k]? = some (refQ g xs L) from fun Rs => by rw [List.getElem?_append_left hkl]; exact hk)
  have Hkl := Lib.hid hkl
  have HG := Lib.hid (fun wx Rs (hO : Own w0 wx (Ps ++ Rs)) => hG k g w0 wx _ hO (Hk.out _))
  have n1 : (1 : Int) ≤ (gen : Int) := by omega
  have n2 : (gen : Int) ≤ 1099511627776 := by omega
  have n3 : ¬ (gen : Int) < 1 := by omega
  have n4 : ¬ (1099511627776 : Int) < (gen : Int) := by omega
  have qe : ((en : Int) != 0) = false := by rw [he]; rfl
  have l1 : ¬ (gen : Int) < (ge : Int) := by omega
  have l2 : (ge : Int) < (gen : Int) := by omega
  have HH := Lib.hid (fun wx (hO : Own w0 wx Ps) => hG k g w0 wx _ hO hk)
  replace h := Lib.hid h
  clear hk hkl hG
  go_enter Try.func21, Try.ntmps21
  go_wp2_with fail
  refine (HH.out _ h.out).mono ?_
  rintro e w1 ⟨rfl, hO1⟩
  clear HH h

  obtain ⟨Y, hYs⟩ : ∃ Y, w1.heap.size = Y := ⟨_, rfl⟩
  have hO2 := hO1.addBox 94 #[.bool ob, .int .u64 (ge : Int), .int .u64 (mk : Int)]
  rw [hYs] at hO2
  obtain ⟨w2, hw2⟩ : ∃ w2, w1.alloc (.cells #[.bool ob, .int .u64 (ge : Int), .int .u64 (mk : Int)] 94) = w2 := ⟨_, rfl⟩
  rw [hw2] at hO2
  clear hO1



  have hby : w2.heap[Y]? = some (.cells #[.bool ob, .int .u64 (ge : Int), .int .u64 (mk : Int)] 94 (0, 0)) := Own.box hO2 Ps.length (by rw [List.getElem?_append_right (Nat.le_refl _), Nat.sub_self]; rfl)
  have y0 : w2.cell? ⟨Y, 0, none⟩ = some (.bool ob) := by simp [World.cell?, hby]
  have y1 : w2.cell? ⟨Y, 1, none⟩ = some (.int .u64 (ge : Int)) := by simp [World.cell?, hby]
  have y2 : w2.cell? ⟨Y, 2, none⟩ = some (.int .u64 (mk : Int)) := by simp [World.cell?, hby]
  clear hby
  replace hO2 := Lib.hid hO2
  clear HG
  go_wp2
  go_ret2
  exact ⟨rfl, hO2.out.less⟩

set_option maxRecDepth 100000 in
set_option maxHeartbeats 4000000 in
theorem CloseRE (k g : Nat) (xs : List Nat) (L : List (Nat × Nat)) (i : Int) (ob : Bool) (ge mk en gen : Nat) (hG : RGetC xs L i ob ge mk en) (hs : 1 ≤ gen ∧ gen ≤ 1099511627776) (he : en = 0) (hob : ob = false) (hl : ge = gen) (w0 w : World) (Ps : List Pr) (h : Own w0 w Ps) (hk : Ps[k]? = some (refQ g xs L)) :
    Calls Try.prog 21 #[.pointer (some ⟨g, 0, none⟩), .int .i64 i, .int .u64 (gen : Int)] w fun e w' => e = .returned (.tuple #[.int .i64 1, .int .i64 0]) ∧ Own w0 w' Ps := by
  have hkl := (List.getElem?_eq_some_iff.1 hk).1
  have Hk := Lib.hid (show ∀ Rs, (Ps ++ Rs)[k]? = some (refQ g xs L) from fun Rs => by rw [List.getElem?_append_left hkl]; exact hk)
  have Hkl := Lib.hid hkl
  have HG := Lib.hid (fun wx Rs (hO : Own w0 wx (Ps ++ Rs)) => hG k g w0 wx _ hO (Hk.out _))
  have n1 : (1 : Int) ≤ (gen : Int) := by omega
  have n2 : (gen : Int) ≤ 1099511627776 := by omega
  have n3 : ¬ (gen : Int) < 1 := by omega
  have n4 : ¬ (1099511627776 : Int) < (gen : Int) := by omega
  have qe : ((en : Int) != 0) = false := by rw [he]; rfl
  subst hob
  subst hl
  have l1 : ¬ (ge : Int) < (ge : Int) := by omega
  have HH := Lib.hid (fun wx (hO : Own w0 wx Ps) => hG k g w0 wx _ hO hk)
  replace h := Lib.hid h
  clear hk hkl hG
  go_enter Try.func21, Try.ntmps21
  go_wp2_with fail
  refine (HH.out _ h.out).mono ?_
  rintro e w1 ⟨rfl, hO1⟩
  clear HH h

  obtain ⟨Y, hYs⟩ : ∃ Y, w1.heap.size = Y := ⟨_, rfl⟩
  have hO2 := hO1.addBox 94 #[.bool false, .int .u64 (ge : Int), .int .u64 (mk : Int)]
  rw [hYs] at hO2
  obtain ⟨w2, hw2⟩ : ∃ w2, w1.alloc (.cells #[.bool false, .int .u64 (ge : Int), .int .u64 (mk : Int)] 94) = w2 := ⟨_, rfl⟩
  rw [hw2] at hO2
  clear hO1



  have hby : w2.heap[Y]? = some (.cells #[.bool false, .int .u64 (ge : Int), .int .u64 (mk : Int)] 94 (0, 0)) := Own.box hO2 Ps.length (by rw [List.getElem?_append_right (Nat.le_refl _), Nat.sub_self]; rfl)
  have y0 : w2.cell? ⟨Y, 0, none⟩ = some (.bool false) := by simp [World.cell?, hby]
  have y1 : w2.cell? ⟨Y, 1, none⟩ = some (.int .u64 (ge : Int)) := by simp [World.cell?, hby]
  have y2 : w2.cell? ⟨Y, 2, none⟩ = some (.int .u64 (mk : Int)) := by simp [World.cell?, hby]
  clear hby
  replace hO2 := Lib.hid hO2
  clear HG
  go_wp2
  go_ret2
  exact ⟨rfl, hO2.out.less⟩

set_option maxRecDepth 100000 in
set_option maxHeartbeats 4000000 in
theorem CloseRF (k g : Nat) (xs : List Nat) (L : List (Nat × Nat)) (i : Int) (ob : Bool) (ge mk en gen : Nat) (en3 : Nat) (L2 : List (Nat × Nat)) (hG : RGetC xs L i ob ge mk en) (hs : 1 ≤ gen ∧ gen ≤ 1099511627776) (he : en = 0) (hob : ob = true) (hl : ge = gen) (hP : RPutC xs L L2 i false ge mk en3) (w0 w : World) (Ps : List Pr) (h : Own w0 w Ps) (hk : Ps[k]? = some (refQ g xs L)) :
    Calls Try.prog 21 #[.pointer (some ⟨g, 0, none⟩), .int .i64 i, .int .u64 (gen : Int)] w fun e w' => e = .returned (.tuple #[.int .i64 0, .int .i64 (en3 : Int)]) ∧ Own w0 w' (Ps.set k (refQ g xs L2)) := by
  have hkl := (List.getElem?_eq_some_iff.1 hk).1
  have Hk := Lib.hid (show ∀ Rs, (Ps ++ Rs)[k]? = some (refQ g xs L) from fun Rs => by rw [List.getElem?_append_left hkl]; exact hk)
  have Hkl := Lib.hid hkl
  have HG := Lib.hid (fun wx Rs (hO : Own w0 wx (Ps ++ Rs)) => hG k g w0 wx _ hO (Hk.out _))
  have n1 : (1 : Int) ≤ (gen : Int) := by omega
  have n2 : (gen : Int) ≤ 1099511627776 := by omega
  have n3 : ¬ (gen : Int) < 1 := by omega
  have n4 : ¬ (1099511627776 : Int) < (gen : Int) := by omega
  have qe : ((en : Int) != 0) = false := by rw [he]; rfl
  subst hob
  subst hl
  have l1 : ¬ (ge : Int) < (ge : Int) := by omega
  have HH := Lib.hid (fun wx (hO : Own w0 wx Ps) => hG k g w0 wx _ hO hk)
  have HP := Lib.hid (fun wx Rs (hO : Own w0 wx (Ps ++ Rs)) => hP k g w0 wx _ hO (Hk.out _))
  replace h := Lib.hid h
  clear hk hkl hG
  go_enter Try.func21, Try.ntmps21
  go_wp2_with fail
  refine (HH.out _ h.out).mono ?_
  rintro e w1 ⟨rfl, hO1⟩
  clear HH h

  obtain ⟨Y, hYs⟩ : ∃ Y, w1.heap.size = Y := ⟨_, rfl⟩
  have hO2 := hO1.addBox 94 #[.bool true, .int .u64 (ge : Int), .int .u64 (mk : Int)]
  rw [hYs] at hO2
  obtain ⟨w2, hw2⟩ : ∃ w2, w1.alloc (.cells #[.bool true, .int .u64 (ge : Int), .int .u64 (mk : Int)] 94) = w2 := ⟨_, rfl⟩
  rw [hw2] at hO2
  clear hO1



  have hby : w2.heap[Y]? = some (.cells #[.bool true, .int .u64 (ge : Int), .int .u64 (mk : Int)] 94 (0, 0)) := Own.box hO2 Ps.length (by rw [List.getElem?_append_right (Nat.le_refl _), Nat.sub_self]; rfl)
  have y0 : w2.cell? ⟨Y, 0, none⟩ = some (.bool true) := by simp [World.cell?, hby]
  have y1 : w2.cell? ⟨Y, 1, none⟩ = some (.int .u64 (ge : Int)) := by simp [World.cell?, hby]
  have y2 : w2.cell? ⟨Y, 2, none⟩ = some (.int .u64 (mk : Int)) := by simp [World.cell?, hby]
  clear hby
  have yf : w2.frozen? ⟨Y, 0, none⟩ = false := by
    have hb : w2.heap[Y]? = some (.cells #[.bool true, .int .u64 (ge : Int), .int .u64 (mk : Int)] 94 (0, 0)) := Own.box hO2 Ps.length (by rw [List.getElem?_append_right (Nat.le_refl _), Nat.sub_self]; rfl)
    simp [World.frozen?, hb]
  have hO3 : Own w0 (w2.setCell ⟨Y, 0, none⟩ (.bool false)) (Ps ++ [boxP Y 94 #[.bool false, .int .u64 (ge : Int), .int .u64 (mk : Int)]]) := by
    have := hO2.putBox Ps.length (X := Y) (T := 94) (cs := #[.bool true, .int .u64 (ge : Int), .int .u64 (mk : Int)]) (by rw [List.getElem?_append_right (Nat.le_refl _), Nat.sub_self]; rfl) 0 (.bool false)
    rw [List.set_append_right _ _ (Nat.le_refl _), Nat.sub_self] at this
    exact this
  have HP2 := Lib.hid (HP.out _ _ hO3)
  rw [List.set_append_left _ _ Hkl.out] at HP2
  have hb3 : (w2.setCell ⟨Y, 0, none⟩ (.bool false)).heap[Y]? = some (.cells #[.bool false, .int .u64 (ge : Int), .int .u64 (mk : Int)] 94 (0, 0)) := Own.box hO3 Ps.length (by rw [List.getElem?_append_right (Nat.le_refl _), Nat.sub_self]; rfl)
  obtain ⟨w3, hw3⟩ : ∃ w3, w2.setCell ⟨Y, 0, none⟩ (.bool false) = w3 := ⟨_, rfl⟩
  rw [hw3] at HP2 hb3
  have x0 : w3.cell? ⟨Y, 0, none⟩ = some (.bool false) := by simp [World.cell?, hb3]
  have x1 : w3.cell? ⟨Y, 1, none⟩ = some (.int .u64 (ge : Int)) := by simp [World.cell?, hb3]
  have x2 : w3.cell? ⟨Y, 2, none⟩ = some (.int .u64 (mk : Int)) := by simp [World.cell?, hb3]
  clear hO2 hO3 HG HP hb3
  go_wp2_with fail
  try rw [hw3]
  refine HP2.out.mono ?_
  rintro e w4 ⟨rfl, hO4⟩
  replace hO4 := Lib.hid hO4
  go_wp2
  go_ret2
  exact ⟨rfl, hO4.out.less⟩

end Go.Proofs.Ytdpkpphjpihhkaa
end
section
/- Package class and the document's classes: Ack. -/
namespace Go.Proofs.Ytdpkpphjpihhkaa
open Go.RowKit Go.Grommet

/-- How far a mark rises, or what error ends it. -/
def ackR (Q E : Nat → Nat) : Nat → Nat → Nat × Nat
  | 0, m => (m, 0)
  | f + 1, m => if E ((m + 1) % 4) ≠ 0 then (0, E ((m + 1) % 4)) else if Q ((m + 1) % 4) = m + 1 then ackR Q E f (m + 1) else (m, 0)
theorem ackR_le (Q E : Nat → Nat) : ∀ f m, (ackR Q E f m).1 ≤ m + f
  | 0, m => Nat.le_refl _
  | f + 1, m => by
    unfold ackR
    split
    · exact Nat.zero_le _
    · split
      · have := ackR_le Q E f (m + 1); omega
      · show m ≤ _; omega
/-- What Ack hands back. -/
def AckIs (M E en3 rm re : Nat) (L L2 : List (Nat × Nat)) : Prop := (E ≠ 0 → rm = 0 ∧ re = E ∧ L2 = L) ∧ (E = 0 → en3 ≠ 0 → rm = 0 ∧ re = en3) ∧ (E = 0 → en3 = 0 → rm = M ∧ re = 0)

set_option maxRecDepth 100000 in
set_option maxHeartbeats 4000000 in
theorem AckPA (k g : Nat) (xs : List Nat) (L : List (Nat × Nat)) (i : Int) (ob : Bool) (ge mk en gen tt : Nat) (hG : GetC xs L i ob ge mk en) (hs : 1099511627776 < tt) (w0 w : World) (Ps : List Pr) (h : Own w0 w Ps) (hk : Ps[k]? = some (viewP g xs L)) :
    Calls Try.prog 16 #[.pointer (some ⟨g, 0, none⟩), .int .i64 i, .int .u64 (gen : Int), .int .u64 (tt : Int)] w fun e w' => e = .returned (.tuple #[.int .u64 0, .int .i64 1]) ∧ Own w0 w' Ps := by
  have hkl := (List.getElem?_eq_some_iff.1 hk).1
  have Hk := Lib.hid (show ∀ Rs, (Ps ++ Rs)[k]? = some (viewP g xs L) from fun Rs => by rw [List.getElem?_append_left hkl]; exact hk)
  have Hkl := Lib.hid hkl
  have HG := Lib.hid (fun wx Rs (hO : Own w0 wx (Ps ++ Rs)) => hG k g w0 wx _ hO (Hk.out _))
  have n2 : ¬ (tt : Int) ≤ 1099511627776 := by omega
  have HH := Lib.hid (fun wx (hO : Own w0 wx Ps) => headN k g xs L i w0 wx _ hO hk)
  replace h := Lib.hid h
  clear hk hkl hG
  go_enter Try.func16, Try.ntmps16
  go_wp2_with fail
  refine (HH.out _ h.out).mono ?_
  rintro e w1 ⟨rfl, hO1⟩
  clear HH h
  go_upto_region 2 with fail
  obtain ⟨Y, hYs⟩ : ∃ Y, w1.heap.size = Y := ⟨_, rfl⟩
  have hO2 := hO1.addBox 87 #[.bool false, .int .u64 0, .int .u64 0]
  rw [hYs] at hO2
  obtain ⟨w2, hw2⟩ : ∃ w2, w1.alloc (.cells #[.bool false, .int .u64 0, .int .u64 0] 87) = w2 := ⟨_, rfl⟩
  rw [hw2] at hO2
  clear hO1
  change Code.wp _ _ _ _ (w1.alloc (.cells #[.bool false, .int .u64 0, .int .u64 0] 87))
  rw [hw2, hYs]
  clear hw2 hYs
  have hby : w2.heap[Y]? = some (.cells #[.bool false, .int .u64 0, .int .u64 0] 87 (0, 0)) := Own.box hO2 Ps.length (by rw [List.getElem?_append_right (Nat.le_refl _), Nat.sub_self]; rfl)
  have y0 : w2.cell? ⟨Y, 0, none⟩ = some (.bool false) := by simp [World.cell?, hby]
  have y1 : w2.cell? ⟨Y, 1, none⟩ = some (.int .u64 0) := by simp [World.cell?, hby]
  have y2 : w2.cell? ⟨Y, 2, none⟩ = some (.int .u64 0) := by simp [World.cell?, hby]
  clear hby
  replace hO2 := Lib.hid hO2
  clear HG
  go_wp2
  go_ret2
  exact ⟨rfl, hO2.out.less⟩

set_option maxRecDepth 100000 in
set_option maxHeartbeats 4000000 in
theorem AckPB (k g : Nat) (xs : List Nat) (L : List (Nat × Nat)) (i : Int) (ob : Bool) (ge mk en gen tt : Nat) (hG : GetC xs L i ob ge mk en) (hs : tt ≤ 1099511627776) (he : en ≠ 0) (w0 w : World) (Ps : List Pr) (h : Own w0 w Ps) (hk : Ps[k]? = some (viewP g xs L)) :
    Calls Try.prog 16 #[.pointer (some ⟨g, 0, none⟩), .int .i64 i, .int .u64 (gen : Int), .int .u64 (tt : Int)] w fun e w' => e = .returned (.tuple #[.int .u64 0, .int .i64 (en : Int)]) ∧ Own w0 w' Ps := by
  have hkl := (List.getElem?_eq_some_iff.1 hk).1
  have Hk := Lib.hid (show ∀ Rs, (Ps ++ Rs)[k]? = some (viewP g xs L) from fun Rs => by rw [List.getElem?_append_left hkl]; exact hk)
  have Hkl := Lib.hid hkl
  have HG := Lib.hid (fun wx Rs (hO : Own w0 wx (Ps ++ Rs)) => hG k g w0 wx _ hO (Hk.out _))
  have n2 : (tt : Int) ≤ 1099511627776 := by omega
  have n4 : ¬ (1099511627776 : Int) < (tt : Int) := by omega
  have qe : ((en : Int) != 0) = true := by simp; omega
  have HH := Lib.hid (fun wx (hO : Own w0 wx Ps) => headT k g xs L i ob ge mk en hG w0 wx _ hO hk)
  replace h := Lib.hid h
  clear hk hkl hG
  go_enter Try.func16, Try.ntmps16
  go_wp2_with fail
  refine (HH.out _ h.out).mono ?_
  rintro e w1 ⟨rfl, hO1⟩
  clear HH h

  obtain ⟨Y, hYs⟩ : ∃ Y, w1.heap.size = Y := ⟨_, rfl⟩
  have hO2 := hO1.addBox 87 #[.bool ob, .int .u64 (ge : Int), .int .u64 (mk : Int)]
  rw [hYs] at hO2
  obtain ⟨w2, hw2⟩ : ∃ w2, w1.alloc (.cells #[.bool ob, .int .u64 (ge : Int), .int .u64 (mk : Int)] 87) = w2 := ⟨_, rfl⟩
  rw [hw2] at hO2
  clear hO1



  have hby : w2.heap[Y]? = some (.cells #[.bool ob, .int .u64 (ge : Int), .int .u64 (mk : Int)] 87 (0, 0)) := Own.box hO2 Ps.length (by rw [List.getElem?_append_right (Nat.le_refl _), Nat.sub_self]; rfl)
  have y0 : w2.cell? ⟨Y, 0, none⟩ = some (.bool ob) := by simp [World.cell?, hby]
  have y1 : w2.cell? ⟨Y, 1, none⟩ = some (.int .u64 (ge : Int)) := by simp [World.cell?, hby]
  have y2 : w2.cell? ⟨Y, 2, none⟩ = some (.int .u64 (mk : Int)) := by simp [World.cell?, hby]
  clear hby
  replace hO2 := Lib.hid hO2
  clear HG
  go_wp2
  go_ret2
  exact ⟨rfl, hO2.out.less⟩

set_option maxRecDepth 100000 in
set_option maxHeartbeats 4000000 in
theorem AckPC1 (k g : Nat) (xs : List Nat) (L : List (Nat × Nat)) (i : Int) (ob : Bool) (ge mk en gen tt : Nat) (hG : GetC xs L i ob ge mk en) (hs : tt ≤ 1099511627776) (he : en = 0) (hob : ob = false) (w0 w : World) (Ps : List Pr) (h : Own w0 w Ps) (hk : Ps[k]? = some (viewP g xs L)) :
    Calls Try.prog 16 #[.pointer (some ⟨g, 0, none⟩), .int .i64 i, .int .u64 (gen : Int), .int .u64 (tt : Int)] w fun e w' => e = .returned (.tuple #[.int .u64 0, .int .i64 22]) ∧ Own w0 w' Ps := by
  have hkl := (List.getElem?_eq_some_iff.1 hk).1
  have Hk := Lib.hid (show ∀ Rs, (Ps ++ Rs)[k]? = some (viewP g xs L) from fun Rs => by rw [List.getElem?_append_left hkl]; exact hk)
  have Hkl := Lib.hid hkl
  have HG := Lib.hid (fun wx Rs (hO : Own w0 wx (Ps ++ Rs)) => hG k g w0 wx _ hO (Hk.out _))
  have n2 : (tt : Int) ≤ 1099511627776 := by omega
  have n4 : ¬ (1099511627776 : Int) < (tt : Int) := by omega
  have qe : ((en : Int) != 0) = false := by rw [he]; rfl
  subst hob
  have HH := Lib.hid (fun wx (hO : Own w0 wx Ps) => headT k g xs L i false ge mk en hG w0 wx _ hO hk)
  replace h := Lib.hid h
  clear hk hkl hG
  go_enter Try.func16, Try.ntmps16
  go_wp2_with fail
  refine (HH.out _ h.out).mono ?_
  rintro e w1 ⟨rfl, hO1⟩
  clear HH h

  obtain ⟨Y, hYs⟩ : ∃ Y, w1.heap.size = Y := ⟨_, rfl⟩
  have hO2 := hO1.addBox 87 #[.bool false, .int .u64 (ge : Int), .int .u64 (mk : Int)]
  rw [hYs] at hO2
  obtain ⟨w2, hw2⟩ : ∃ w2, w1.alloc (.cells #[.bool false, .int .u64 (ge : Int), .int .u64 (mk : Int)] 87) = w2 := ⟨_, rfl⟩
  rw [hw2] at hO2
  clear hO1



  have hby : w2.heap[Y]? = some (.cells #[.bool false, .int .u64 (ge : Int), .int .u64 (mk : Int)] 87 (0, 0)) := Own.box hO2 Ps.length (by rw [List.getElem?_append_right (Nat.le_refl _), Nat.sub_self]; rfl)
  have y0 : w2.cell? ⟨Y, 0, none⟩ = some (.bool false) := by simp [World.cell?, hby]
  have y1 : w2.cell? ⟨Y, 1, none⟩ = some (.int .u64 (ge : Int)) := by simp [World.cell?, hby]
  have y2 : w2.cell? ⟨Y, 2, none⟩ = some (.int .u64 (mk : Int)) := by simp [World.cell?, hby]
  clear hby
  replace hO2 := Lib.hid hO2
  clear HG
  go_wp2
  go_ret2
  exact ⟨rfl, hO2.out.less⟩

set_option maxRecDepth 100000 in
set_option maxHeartbeats 4000000 in
theorem AckPC2 (k g : Nat) (xs : List Nat) (L : List (Nat × Nat)) (i : Int) (ob : Bool) (ge mk en gen tt : Nat) (hG : GetC xs L i ob ge mk en) (hs : tt ≤ 1099511627776) (he : en = 0) (hob : ob = true) (hge : ge ≠ gen) (w0 w : World) (Ps : List Pr) (h : Own w0 w Ps) (hk : Ps[k]? = some (viewP g xs L)) :
    Calls Try.prog 16 #[.pointer (some ⟨g, 0, none⟩), .int .i64 i, .int .u64 (gen : Int), .int .u64 (tt : Int)] w fun e w' => e = .returned (.tuple #[.int .u64 0, .int .i64 22]) ∧ Own w0 w' Ps := by
  have hkl := (List.getElem?_eq_some_iff.1 hk).1
  have Hk := Lib.hid (show ∀ Rs, (Ps ++ Rs)[k]? = some (viewP g xs L) from fun Rs => by rw [List.getElem?_append_left hkl]; exact hk)
  have Hkl := Lib.hid hkl
  have HG := Lib.hid (fun wx Rs (hO : Own w0 wx (Ps ++ Rs)) => hG k g w0 wx _ hO (Hk.out _))
  have n2 : (tt : Int) ≤ 1099511627776 := by omega
  have n4 : ¬ (1099511627776 : Int) < (tt : Int) := by omega
  have qe : ((en : Int) != 0) = false := by rw [he]; rfl
  subst hob
  have qg : ((ge : Int) != (gen : Int)) = true := by simp; omega
  have HH := Lib.hid (fun wx (hO : Own w0 wx Ps) => headT k g xs L i true ge mk en hG w0 wx _ hO hk)
  replace h := Lib.hid h
  clear hk hkl hG
  go_enter Try.func16, Try.ntmps16
  go_wp2_with fail
  refine (HH.out _ h.out).mono ?_
  rintro e w1 ⟨rfl, hO1⟩
  clear HH h

  obtain ⟨Y, hYs⟩ : ∃ Y, w1.heap.size = Y := ⟨_, rfl⟩
  have hO2 := hO1.addBox 87 #[.bool true, .int .u64 (ge : Int), .int .u64 (mk : Int)]
  rw [hYs] at hO2
  obtain ⟨w2, hw2⟩ : ∃ w2, w1.alloc (.cells #[.bool true, .int .u64 (ge : Int), .int .u64 (mk : Int)] 87) = w2 := ⟨_, rfl⟩
  rw [hw2] at hO2
  clear hO1



  have hby : w2.heap[Y]? = some (.cells #[.bool true, .int .u64 (ge : Int), .int .u64 (mk : Int)] 87 (0, 0)) := Own.box hO2 Ps.length (by rw [List.getElem?_append_right (Nat.le_refl _), Nat.sub_self]; rfl)
  have y0 : w2.cell? ⟨Y, 0, none⟩ = some (.bool true) := by simp [World.cell?, hby]
  have y1 : w2.cell? ⟨Y, 1, none⟩ = some (.int .u64 (ge : Int)) := by simp [World.cell?, hby]
  have y2 : w2.cell? ⟨Y, 2, none⟩ = some (.int .u64 (mk : Int)) := by simp [World.cell?, hby]
  clear hby
  replace hO2 := Lib.hid hO2
  clear HG
  go_wp2
  go_ret2
  exact ⟨rfl, hO2.out.less⟩

set_option maxRecDepth 100000 in
set_option maxHeartbeats 4000000 in
theorem AckPD (k g : Nat) (xs : List Nat) (L : List (Nat × Nat)) (i : Int) (ob : Bool) (ge mk en gen tt : Nat) (Q E : Nat → Nat) (M Er en3 rm re : Nat) (L2 : List (Nat × Nat)) (hG : GetC xs L i ob ge mk en) (hs : tt ≤ 1099511627776) (he : en = 0) (hob : ob = true) (hge : ge = gen) (hLd : ∀ a, a < 4 → ∃ (le la lb : Nat) (ld : ByteArray), LoadC xs L i a (Q a) le la lb ld (E a)) (hR : ackR Q E (tt - mk) mk = (M, Er)) (hP : Er = 0 → PutC xs L L2 i true gen M en3) (hA : AckIs M Er en3 rm re L L2) (w0 w : World) (Ps : List Pr) (h : Own w0 w Ps) (hk : Ps[k]? = some (viewP g xs L)) :
    Calls Try.prog 16 #[.pointer (some ⟨g, 0, none⟩), .int .i64 i, .int .u64 (gen : Int), .int .u64 (tt : Int)] w fun e w' => e = .returned (.tuple #[.int .u64 (rm : Int), .int .i64 (re : Int)]) ∧ Own w0 w' (Ps.set k (viewP g xs L2)) := by
  have hkl := (List.getElem?_eq_some_iff.1 hk).1
  have Hk := Lib.hid (show ∀ Rs, (Ps ++ Rs)[k]? = some (viewP g xs L) from fun Rs => by rw [List.getElem?_append_left hkl]; exact hk)
  have Hkl := Lib.hid hkl
  have HG := Lib.hid (fun wx Rs (hO : Own w0 wx (Ps ++ Rs)) => hG k g w0 wx _ hO (Hk.out _))
  have n2 : (tt : Int) ≤ 1099511627776 := by omega
  have n4 : ¬ (1099511627776 : Int) < (tt : Int) := by omega
  have qe : ((en : Int) != 0) = false := by rw [he]; rfl
  subst hob hge
  have qg : ((ge : Int) != (ge : Int)) = false := by simp
  have HH := Lib.hid (fun wx (hO : Own w0 wx Ps) => headT k g xs L i true ge mk en hG w0 wx _ hO hk)
  have HR := Lib.hid hR
  have HA := Lib.hid hA
  have HPT := Lib.hid (fun (c : Er = 0) wx Rs (hO : Own w0 wx (Ps ++ Rs)) => hP c k g w0 wx _ hO (Hk.out _))
  have HL := Lib.hid (fun (a : Nat) (ha : a < 4) wx Rs (hO : Own w0 wx (Ps ++ Rs)) => show ∃ (le la lb : Nat) (ld : ByteArray), Calls Try.prog 37 #[.pointer (some ⟨g, 0, none⟩), .int .i64 i, .int .i64 (a : Int)] wx fun e w' => e = .returned (.tuple #[.int .u64 (Q a : Int), .agg #[.int .i64 (le : Int), .int .u64 (la : Int), .int .u64 (lb : Int), .string ld], .int .i64 (E a : Int)]) ∧ Own w0 w' (Ps ++ Rs) from by
    obtain ⟨le, la, lb, ld, hl⟩ := hLd a ha
    exact ⟨le, la, lb, ld, hl k g w0 wx _ hO (Hk.out _)⟩)
  have Hk0 := Lib.hid hk
  have Hto := Lib.hid hs
  have t1 : (tt : Int) ≤ 1099511627776 := by omega
  have HSl := Lib.hid (fun n wx => slotOf_any n wx)
  replace h := Lib.hid h
  clear hk hkl hG hLd hR hP hA hs
  go_enter Try.func16, Try.ntmps16
  go_wp2_with fail
  refine (HH.out _ h.out).mono ?_
  rintro e w1 ⟨rfl, hO1⟩
  clear HH h

  obtain ⟨Y, hYs⟩ : ∃ Y, w1.heap.size = Y := ⟨_, rfl⟩
  have hO2 := hO1.addBox 87 #[.bool true, .int .u64 (ge : Int), .int .u64 (mk : Int)]
  rw [hYs] at hO2
  obtain ⟨w2, hw2⟩ : ∃ w2, w1.alloc (.cells #[.bool true, .int .u64 (ge : Int), .int .u64 (mk : Int)] 87) = w2 := ⟨_, rfl⟩
  rw [hw2] at hO2
  clear hO1



  have hby : w2.heap[Y]? = some (.cells #[.bool true, .int .u64 (ge : Int), .int .u64 (mk : Int)] 87 (0, 0)) := Own.box hO2 Ps.length (by rw [List.getElem?_append_right (Nat.le_refl _), Nat.sub_self]; rfl)
  have y0 : w2.cell? ⟨Y, 0, none⟩ = some (.bool true) := by simp [World.cell?, hby]
  have y1 : w2.cell? ⟨Y, 1, none⟩ = some (.int .u64 (ge : Int)) := by simp [World.cell?, hby]
  have y2 : w2.cell? ⟨Y, 2, none⟩ = some (.int .u64 (mk : Int)) := by simp [World.cell?, hby]
  clear hby
  clear HG
  replace hO2 := Lib.hid hO2
  go_wp2_with fail
  try rw [hw2]
  go_loopg [] (tt - mk) (fun f wr => ∃ m : Nat, Hid (f = tt - m) ∧ Hid (ackR Q E f m = (M, Er)) ∧ Hid (Own w0 wr (Ps ++ [boxP Y 87 #[.bool true, .int .u64 (ge : Int), .int .u64 (m : Int)]])))
  case atStart => exact ⟨mk, Lib.hid rfl, HR, hO2⟩
  case round =>
    clear hO2 y0 y1 y2 hYs hw2
    obtain ⟨m, Hf, HM, hO⟩ := hrel
    have hb : wr.heap[Y]? = some (.cells #[.bool true, .int .u64 (ge : Int), .int .u64 (m : Int)] 87 (0, 0)) := Own.box hO.out Ps.length (by rw [List.getElem?_append_right (Nat.le_refl _), Nat.sub_self]; rfl)
    have y0 : wr.cell? ⟨Y, 0, none⟩ = some (.bool true) := by simp [World.cell?, hb]
    have y1 : wr.cell? ⟨Y, 1, none⟩ = some (.int .u64 (ge : Int)) := by simp [World.cell?, hb]
    have y2 : wr.cell? ⟨Y, 2, none⟩ = some (.int .u64 (m : Int)) := by simp [World.cell?, hb]
    by_cases hlt : m < tt
    · have l1 : (m : Int) < (tt : Int) := by omega
      obtain ⟨f, hf⟩ : ∃ f, tt - m = f + 1 := ⟨tt - m - 1, by omega⟩
      have hf2 : f = tt - (m + 1) := by omega
      obtain ⟨N, hN⟩ : ∃ N, m + 1 = N := ⟨_, rfl⟩
      have em : (m : Int) + 1 = (N : Int) := by omega
      have wN : IntKind.u64.wrap (N : Int) = (N : Int) := IntWalk.u64_in _ ⟨by omega, by have := Hto.out; omega⟩
      obtain ⟨b, hb4⟩ : ∃ b, N % 4 = b := ⟨_, rfl⟩
      have hb5 : b < 4 := by omega
      obtain ⟨le, la, lb, ld, hLm⟩ := HL.out b hb5 wr _ hO.out
      have HLm := Lib.hid (fun wx (hw : wx = wr) => hw ▸ hLm)
      obtain ⟨sv, hsv⟩ : ∃ sv, Q b = sv := ⟨_, rfl⟩
      obtain ⟨se, hse⟩ : ∃ se, E b = se := ⟨_, rfl⟩
      rw [hsv, hse] at hLm
      replace hLm := Lib.hid hLm
      have Hstep := Lib.hid (show (se ≠ 0 → M = 0 ∧ Er = se) ∧ (se = 0 → sv = N → ackR Q E f N = (M, Er)) ∧ (se = 0 → sv ≠ N → m = M ∧ Er = 0) by
        have e := HM.out
        rw [Hf.out, hf] at e
        unfold ackR at e
        rw [hN, hb4, hsv, hse] at e
        refine ⟨fun h => ?_, fun h h2 => ?_, fun h h2 => ?_⟩
        · rw [if_pos h] at e; injection e with e1 e2; exact ⟨e1.symm, e2.symm⟩
        · rw [if_neg (by omega), if_pos h2] at e; exact e
        · rw [if_neg (by omega), if_neg h2] at e; injection e with e1 e2; exact ⟨e1, e2.symm⟩)
      have Hfl := Lib.hid (show f = tt - N ∧ f < gk by have := Hf.out; omega)
      have HSm := Lib.hid (fun wx => HSl.out N wx)
      rw [hb4] at HSm
      clear hf hf2 hN hlt HM Hf hb hb4 hb5 HLm hsv hse hO
      go_wp2_with fail
      refine (HSm.out _).mono ?_
      rintro e w9 ⟨rfl, rfl⟩
      go_wp2_with fail
      refine hLm.out.mono ?_
      rintro e w3 ⟨rfl, hO3⟩
      clear hLm y0 y1 y2 HSm
      have hO4 := hO3.quiet (World.grownBy_alloc w3 (.cells #[.int .i64 (le : Int), .int .u64 (la : Int), .int .u64 (lb : Int), .string ld] 39) none)
      obtain ⟨w4, hw4⟩ : ∃ w4, w3.alloc (.cells #[.int .i64 (le : Int), .int .u64 (la : Int), .int .u64 (lb : Int), .string ld] 39) = w4 := ⟨_, rfl⟩
      rw [hw4] at hO4
      have HPk := Lib.hid (show (Ps ++ [boxP Y 87 #[.bool true, .int .u64 (ge : Int), .int .u64 (m : Int)]])[Ps.length]? = some (boxP Y 87 #[.bool true, .int .u64 (ge : Int), .int .u64 (m : Int)]) by rw [List.getElem?_append_right (Nat.le_refl _), Nat.sub_self]; rfl)
      have hb : w4.heap[Y]? = some (.cells #[.bool true, .int .u64 (ge : Int), .int .u64 (m : Int)] 87 (0, 0)) := Own.box hO4 Ps.length HPk.out
      have y0 : w4.cell? ⟨Y, 0, none⟩ = some (.bool true) := by simp [World.cell?, hb]
      have y1 : w4.cell? ⟨Y, 1, none⟩ = some (.int .u64 (ge : Int)) := by simp [World.cell?, hb]
      have y2 : w4.cell? ⟨Y, 2, none⟩ = some (.int .u64 (m : Int)) := by simp [World.cell?, hb]
      have yf : w4.frozen? ⟨Y, 2, none⟩ = false := by simp [World.frozen?, hb]
      clear hb hO3
      by_cases ce : se = 0
      · have qs : ((se : Int) != 0) = false := by rw [ce]; rfl
        by_cases c : sv = N
        · have qc : ((sv : Int) != (N : Int)) = false := by rw [c]; simp
          have HN := Lib.hid (Hstep.out.2.1 ce c)
          have hO5 : Hid (Own w0 (w4.setCell ⟨Y, 2, none⟩ (.int .u64 (N : Int))) (Ps ++ [boxP Y 87 #[.bool true, .int .u64 (ge : Int), .int .u64 (N : Int)]])) := Lib.hid (by
            have := hO4.putBox Ps.length HPk.out 2 (.int .u64 (N : Int))
            rw [List.set_append_right _ _ (Nat.le_refl _), Nat.sub_self] at this
            exact this)
          clear c ce hO4 Hstep
          go_wp2_with fail
          try rw [hw4]
          go_wp2
          go_roundg f
          case measure => exact Hfl.out.2
          case rel => exact ⟨N, Lib.hid Hfl.out.1, HN, hO5⟩
        · have qc : ((sv : Int) != (N : Int)) = true := by simp; omega
          obtain ⟨hmR, hE0⟩ := Hstep.out.2.2 ce c
          subst hmR
          have hO9 := hO4
          replace hE0 := hE0
          clear c ce hO4 Hstep
          have HPc := Lib.hid (HPT.out hE0 w4 _ hO9)
          rw [List.set_append_left _ _ Hkl.out] at HPc
          clear hO9 HPT HL
          go_wp2_with fail
          try rw [hw4]
          refine HPc.out.mono ?_
          rintro e w6 ⟨rfl, hO6⟩
          have hb : w6.heap[Y]? = some (.cells #[.bool true, .int .u64 (ge : Int), .int .u64 (m : Int)] 87 (0, 0)) := Own.box hO6 Ps.length (by rw [List.getElem?_append_right (by rw [List.length_set]; exact Nat.le_refl _), List.length_set, Nat.sub_self]; rfl)
          have x2 : w6.cell? ⟨Y, 2, none⟩ = some (.int .u64 (m : Int)) := by simp [World.cell?, hb]
          have hO7 := Lib.hid hO6.less
          clear hb hO6 HPc
          by_cases c3 : en3 = 0
          · have q3 : ((en3 : Int) != 0) = false := by rw [c3]; rfl
            obtain ⟨f1, f2⟩ := HA.out.2.2 hE0 c3
            subst f1 f2
            clear c3
            go_wp2
            exact bodyPost_ret (v := .tuple #[.int .u64 (rm : Int), .int .i64 0]) (by simp [results, Try.results16, go_sem]) rfl ⟨rfl, hO7.out⟩
          · have q3 : ((en3 : Int) != 0) = true := by simp; omega
            obtain ⟨f1, f2⟩ := HA.out.2.1 hE0 c3
            subst f1 f2
            clear c3
            go_wp2
            exact bodyPost_ret (v := .tuple #[.int .u64 0, .int .i64 (re : Int)]) (by simp [results, Try.results16, go_sem]) rfl ⟨rfl, hO7.out⟩
      · have qs : ((se : Int) != 0) = true := by simp; omega
        obtain ⟨g1, g2⟩ := Hstep.out.1 ce
        subst g2
        obtain ⟨f1, f2, f3⟩ := HA.out.1 ce
        have hO7 := Lib.hid (show Own w0 w4 (Ps.set k (viewP g xs L)) by rw [set_id Hk0.out]; exact hO4.less)
        rw [← f3] at hO7
        subst f1 f2
        clear ce hO4 Hstep
        go_wp2
        exact bodyPost_ret (v := .tuple #[.int .u64 0, .int .i64 (re : Int)]) (by simp [results, Try.results16, go_sem]) rfl ⟨rfl, hO7.out⟩
    · have l1 : ¬ (m : Int) < (tt : Int) := by omega
      obtain ⟨hmR, hE0⟩ : m = M ∧ Er = 0 := by
        have e := HM.out
        rw [Hf.out, show tt - m = 0 by omega] at e
        injection e with e1 e2
        exact ⟨e1, e2.symm⟩
      subst hmR
      have hO9 := hO.out
      clear hlt hO HM Hf hb
      have HPc := Lib.hid (HPT.out hE0 wr _ hO9)
      rw [List.set_append_left _ _ Hkl.out] at HPc
      clear hO9 HPT HL
      go_wp2_with fail
      skip
      refine HPc.out.mono ?_
      rintro e w6 ⟨rfl, hO6⟩
      have hb : w6.heap[Y]? = some (.cells #[.bool true, .int .u64 (ge : Int), .int .u64 (m : Int)] 87 (0, 0)) := Own.box hO6 Ps.length (by rw [List.getElem?_append_right (by rw [List.length_set]; exact Nat.le_refl _), List.length_set, Nat.sub_self]; rfl)
      have x2 : w6.cell? ⟨Y, 2, none⟩ = some (.int .u64 (m : Int)) := by simp [World.cell?, hb]
      have hO7 := Lib.hid hO6.less
      clear hb hO6 HPc
      by_cases c3 : en3 = 0
      · have q3 : ((en3 : Int) != 0) = false := by rw [c3]; rfl
        obtain ⟨f1, f2⟩ := HA.out.2.2 hE0 c3
        subst f1 f2
        clear c3
        go_wp2
        exact bodyPost_ret (v := .tuple #[.int .u64 (rm : Int), .int .i64 0]) (by simp [results, Try.results16, go_sem]) rfl ⟨rfl, hO7.out⟩
      · have q3 : ((en3 : Int) != 0) = true := by simp; omega
        obtain ⟨f1, f2⟩ := HA.out.2.1 hE0 c3
        subst f1 f2
        clear c3
        go_wp2
        exact bodyPost_ret (v := .tuple #[.int .u64 0, .int .i64 (re : Int)]) (by simp [results, Try.results16, go_sem]) rfl ⟨rfl, hO7.out⟩

set_option maxRecDepth 100000 in
set_option maxHeartbeats 4000000 in
theorem AckDA (k g : Nat) (xs : List Nat) (L : List (Nat × Nat)) (i : Int) (ob : Bool) (ge mk en gen tt : Nat) (hG : RGetC xs L i ob ge mk en) (hs : 1099511627776 < tt) (w0 w : World) (Ps : List Pr) (h : Own w0 w Ps) (hk : Ps[k]? = some (refQ g xs L)) :
    Calls Try.prog 17 #[.pointer (some ⟨g, 0, none⟩), .int .i64 i, .int .u64 (gen : Int), .int .u64 (tt : Int)] w fun e w' => e = .returned (.tuple #[.int .u64 0, .int .i64 1]) ∧ Own w0 w' Ps := by
  have hkl := (List.getElem?_eq_some_iff.1 hk).1
  have Hk := Lib.hid (show ∀ Rs, (Ps ++ Rs)[k]? = some (refQ g xs L) from fun Rs => by rw [List.getElem?_append_left hkl]; exact hk)
  have Hkl := Lib.hid hkl
  have HG := Lib.hid (fun wx Rs (hO : Own w0 wx (Ps ++ Rs)) => hG k g w0 wx _ hO (Hk.out _))
  have n4 : (1099511627776 : Int) < (tt : Int) := by omega
  replace h := Lib.hid h
  clear hk hkl hG
  go_enter Try.func17, Try.ntmps17
  go_wp2
  go_ret2
  exact ⟨rfl, h.out⟩

set_option maxRecDepth 100000 in
set_option maxHeartbeats 4000000 in
theorem AckDB (k g : Nat) (xs : List Nat) (L : List (Nat × Nat)) (i : Int) (ob : Bool) (ge mk en gen tt : Nat) (hG : RGetC xs L i ob ge mk en) (hs : tt ≤ 1099511627776) (he : en ≠ 0) (w0 w : World) (Ps : List Pr) (h : Own w0 w Ps) (hk : Ps[k]? = some (refQ g xs L)) :
    Calls Try.prog 17 #[.pointer (some ⟨g, 0, none⟩), .int .i64 i, .int .u64 (gen : Int), .int .u64 (tt : Int)] w fun e w' => e = .returned (.tuple #[.int .u64 0, .int .i64 (en : Int)]) ∧ Own w0 w' Ps := by
  have hkl := (List.getElem?_eq_some_iff.1 hk).1
  have Hk := Lib.hid (show ∀ Rs, (Ps ++ Rs)[k]? = some (refQ g xs L) from fun Rs => by rw [List.getElem?_append_left hkl]; exact hk)
  have Hkl := Lib.hid hkl
  have HG := Lib.hid (fun wx Rs (hO : Own w0 wx (Ps ++ Rs)) => hG k g w0 wx _ hO (Hk.out _))
  have n2 : (tt : Int) ≤ 1099511627776 := by omega
  have n4 : ¬ (1099511627776 : Int) < (tt : Int) := by omega
  have qe : ((en : Int) != 0) = true := by simp; omega
  have HH := Lib.hid (fun wx (hO : Own w0 wx Ps) => ROpened g gen en ge mk en ob i (.inr ⟨.inl he, rfl⟩) w0 wx _ (fun wx Rs hO => HG.out wx _ hO) hO)
  replace h := Lib.hid h
  clear hk hkl hG
  go_enter Try.func17, Try.ntmps17
  go_wp2_with fail
  refine (HH.out _ h.out).mono ?_
  rintro e w1 ⟨rfl, hO1⟩
  clear HH h

  obtain ⟨Y, hYs⟩ : ∃ Y, w1.heap.size = Y := ⟨_, rfl⟩
  have hO2 := hO1.addBox 94 #[.bool ob, .int .u64 (ge : Int), .int .u64 (mk : Int)]
  rw [hYs] at hO2
  obtain ⟨w2, hw2⟩ : ∃ w2, w1.alloc (.cells #[.bool ob, .int .u64 (ge : Int), .int .u64 (mk : Int)] 94) = w2 := ⟨_, rfl⟩
  rw [hw2] at hO2
  clear hO1



  have hby : w2.heap[Y]? = some (.cells #[.bool ob, .int .u64 (ge : Int), .int .u64 (mk : Int)] 94 (0, 0)) := Own.box hO2 Ps.length (by rw [List.getElem?_append_right (Nat.le_refl _), Nat.sub_self]; rfl)
  have y0 : w2.cell? ⟨Y, 0, none⟩ = some (.bool ob) := by simp [World.cell?, hby]
  have y1 : w2.cell? ⟨Y, 1, none⟩ = some (.int .u64 (ge : Int)) := by simp [World.cell?, hby]
  have y2 : w2.cell? ⟨Y, 2, none⟩ = some (.int .u64 (mk : Int)) := by simp [World.cell?, hby]
  clear hby
  replace hO2 := Lib.hid hO2
  clear HG
  go_wp2
  go_ret2
  exact ⟨rfl, hO2.out.less⟩

set_option maxRecDepth 100000 in
set_option maxHeartbeats 4000000 in
theorem AckDC1 (k g : Nat) (xs : List Nat) (L : List (Nat × Nat)) (i : Int) (ob : Bool) (ge mk en gen tt : Nat) (hG : RGetC xs L i ob ge mk en) (hs : tt ≤ 1099511627776) (he : en = 0) (hob : ob = false) (w0 w : World) (Ps : List Pr) (h : Own w0 w Ps) (hk : Ps[k]? = some (refQ g xs L)) :
    Calls Try.prog 17 #[.pointer (some ⟨g, 0, none⟩), .int .i64 i, .int .u64 (gen : Int), .int .u64 (tt : Int)] w fun e w' => e = .returned (.tuple #[.int .u64 0, .int .i64 22]) ∧ Own w0 w' Ps := by
  have hkl := (List.getElem?_eq_some_iff.1 hk).1
  have Hk := Lib.hid (show ∀ Rs, (Ps ++ Rs)[k]? = some (refQ g xs L) from fun Rs => by rw [List.getElem?_append_left hkl]; exact hk)
  have Hkl := Lib.hid hkl
  have HG := Lib.hid (fun wx Rs (hO : Own w0 wx (Ps ++ Rs)) => hG k g w0 wx _ hO (Hk.out _))
  have n2 : (tt : Int) ≤ 1099511627776 := by omega
  have n4 : ¬ (1099511627776 : Int) < (tt : Int) := by omega
  have qe : ((en : Int) != 0) = false := by rw [he]; rfl
  subst hob
  have HH := Lib.hid (fun wx (hO : Own w0 wx Ps) => ROpened g gen en ge mk 22 false i (.inl ⟨he, .inl rfl, rfl⟩) w0 wx _ (fun wx Rs hO => HG.out wx _ hO) hO)
  rw [show ((22 : Nat) : Int) = 22 from rfl] at HH
  replace h := Lib.hid h
  clear hk hkl hG
  go_enter Try.func17, Try.ntmps17
  go_wp2_with fail
  refine (HH.out _ h.out).mono ?_
  rintro e w1 ⟨rfl, hO1⟩
  clear HH h

  obtain ⟨Y, hYs⟩ : ∃ Y, w1.heap.size = Y := ⟨_, rfl⟩
  have hO2 := hO1.addBox 94 #[.bool false, .int .u64 (ge : Int), .int .u64 (mk : Int)]
  rw [hYs] at hO2
  obtain ⟨w2, hw2⟩ : ∃ w2, w1.alloc (.cells #[.bool false, .int .u64 (ge : Int), .int .u64 (mk : Int)] 94) = w2 := ⟨_, rfl⟩
  rw [hw2] at hO2
  clear hO1



  have hby : w2.heap[Y]? = some (.cells #[.bool false, .int .u64 (ge : Int), .int .u64 (mk : Int)] 94 (0, 0)) := Own.box hO2 Ps.length (by rw [List.getElem?_append_right (Nat.le_refl _), Nat.sub_self]; rfl)
  have y0 : w2.cell? ⟨Y, 0, none⟩ = some (.bool false) := by simp [World.cell?, hby]
  have y1 : w2.cell? ⟨Y, 1, none⟩ = some (.int .u64 (ge : Int)) := by simp [World.cell?, hby]
  have y2 : w2.cell? ⟨Y, 2, none⟩ = some (.int .u64 (mk : Int)) := by simp [World.cell?, hby]
  clear hby
  replace hO2 := Lib.hid hO2
  clear HG
  go_wp2
  go_ret2
  exact ⟨rfl, hO2.out.less⟩

set_option maxRecDepth 100000 in
set_option maxHeartbeats 4000000 in
theorem AckDC2 (k g : Nat) (xs : List Nat) (L : List (Nat × Nat)) (i : Int) (ob : Bool) (ge mk en gen tt : Nat) (hG : RGetC xs L i ob ge mk en) (hs : tt ≤ 1099511627776) (he : en = 0) (hob : ob = true) (hge : ge ≠ gen) (w0 w : World) (Ps : List Pr) (h : Own w0 w Ps) (hk : Ps[k]? = some (refQ g xs L)) :
    Calls Try.prog 17 #[.pointer (some ⟨g, 0, none⟩), .int .i64 i, .int .u64 (gen : Int), .int .u64 (tt : Int)] w fun e w' => e = .returned (.tuple #[.int .u64 0, .int .i64 22]) ∧ Own w0 w' Ps := by
  have hkl := (List.getElem?_eq_some_iff.1 hk).1
  have Hk := Lib.hid (show ∀ Rs, (Ps ++ Rs)[k]? = some (refQ g xs L) from fun Rs => by rw [List.getElem?_append_left hkl]; exact hk)
  have Hkl := Lib.hid hkl
  have HG := Lib.hid (fun wx Rs (hO : Own w0 wx (Ps ++ Rs)) => hG k g w0 wx _ hO (Hk.out _))
  have n2 : (tt : Int) ≤ 1099511627776 := by omega
  have n4 : ¬ (1099511627776 : Int) < (tt : Int) := by omega
  have qe : ((en : Int) != 0) = false := by rw [he]; rfl
  subst hob
  have qg : ((ge : Int) != (gen : Int)) = true := by simp; omega
  have HH := Lib.hid (fun wx (hO : Own w0 wx Ps) => ROpened g gen en ge mk 22 true i (.inl ⟨he, .inr hge, rfl⟩) w0 wx _ (fun wx Rs hO => HG.out wx _ hO) hO)
  rw [show ((22 : Nat) : Int) = 22 from rfl] at HH
  replace h := Lib.hid h
  clear hk hkl hG
  go_enter Try.func17, Try.ntmps17
  go_wp2_with fail
  refine (HH.out _ h.out).mono ?_
  rintro e w1 ⟨rfl, hO1⟩
  clear HH h

  obtain ⟨Y, hYs⟩ : ∃ Y, w1.heap.size = Y := ⟨_, rfl⟩
  have hO2 := hO1.addBox 94 #[.bool true, .int .u64 (ge : Int), .int .u64 (mk : Int)]
  rw [hYs] at hO2
  obtain ⟨w2, hw2⟩ : ∃ w2, w1.alloc (.cells #[.bool true, .int .u64 (ge : Int), .int .u64 (mk : Int)] 94) = w2 := ⟨_, rfl⟩
  rw [hw2] at hO2
  clear hO1



  have hby : w2.heap[Y]? = some (.cells #[.bool true, .int .u64 (ge : Int), .int .u64 (mk : Int)] 94 (0, 0)) := Own.box hO2 Ps.length (by rw [List.getElem?_append_right (Nat.le_refl _), Nat.sub_self]; rfl)
  have y0 : w2.cell? ⟨Y, 0, none⟩ = some (.bool true) := by simp [World.cell?, hby]
  have y1 : w2.cell? ⟨Y, 1, none⟩ = some (.int .u64 (ge : Int)) := by simp [World.cell?, hby]
  have y2 : w2.cell? ⟨Y, 2, none⟩ = some (.int .u64 (mk : Int)) := by simp [World.cell?, hby]
  clear hby
  replace hO2 := Lib.hid hO2
  clear HG
  go_wp2
  go_ret2
  exact ⟨rfl, hO2.out.less⟩

set_option maxRecDepth 100000 in
set_option maxHeartbeats 4000000 in
theorem AckDD (k g : Nat) (xs : List Nat) (L : List (Nat × Nat)) (i : Int) (ob : Bool) (ge mk en gen tt : Nat) (Q E : Nat → Nat) (M Er en3 rm re : Nat) (L2 : List (Nat × Nat)) (hG : RGetC xs L i ob ge mk en) (hs : tt ≤ 1099511627776) (he : en = 0) (hob : ob = true) (hge : ge = gen) (hLd : ∀ a, a < 4 → ∃ (le la lb : Nat) (ld : ByteArray), RLoadC xs L i a (Q a) le la lb ld (E a)) (hR : ackR Q E (tt - mk) mk = (M, Er)) (hP : Er = 0 → RPutC xs L L2 i true gen M en3) (hA : AckIs M Er en3 rm re L L2) (w0 w : World) (Ps : List Pr) (h : Own w0 w Ps) (hk : Ps[k]? = some (refQ g xs L)) :
    Calls Try.prog 17 #[.pointer (some ⟨g, 0, none⟩), .int .i64 i, .int .u64 (gen : Int), .int .u64 (tt : Int)] w fun e w' => e = .returned (.tuple #[.int .u64 (rm : Int), .int .i64 (re : Int)]) ∧ Own w0 w' (Ps.set k (refQ g xs L2)) := by
  have hkl := (List.getElem?_eq_some_iff.1 hk).1
  have Hk := Lib.hid (show ∀ Rs, (Ps ++ Rs)[k]? = some (refQ g xs L) from fun Rs => by rw [List.getElem?_append_left hkl]; exact hk)
  have Hkl := Lib.hid hkl
  have HG := Lib.hid (fun wx Rs (hO : Own w0 wx (Ps ++ Rs)) => hG k g w0 wx _ hO (Hk.out _))
  have n2 : (tt : Int) ≤ 1099511627776 := by omega
  have n4 : ¬ (1099511627776 : Int) < (tt : Int) := by omega
  have qe : ((en : Int) != 0) = false := by rw [he]; rfl
  subst hob hge
  have qg : ((ge : Int) != (ge : Int)) = false := by simp
  have HH := Lib.hid (fun wx (hO : Own w0 wx Ps) => ROpened g ge en ge mk en true i (.inr ⟨.inr ⟨rfl, rfl⟩, rfl⟩) w0 wx _ (fun wx Rs hO => HG.out wx _ hO) hO)
  have HR := Lib.hid hR
  have HA := Lib.hid hA
  have HPT := Lib.hid (fun (c : Er = 0) wx Rs (hO : Own w0 wx (Ps ++ Rs)) => hP c k g w0 wx _ hO (Hk.out _))
  have HL := Lib.hid (fun (a : Nat) (ha : a < 4) wx Rs (hO : Own w0 wx (Ps ++ Rs)) => show ∃ (le la lb : Nat) (ld : ByteArray), Calls Try.prog 40 #[.pointer (some ⟨g, 0, none⟩), .int .i64 i, .int .i64 (a : Int)] wx fun e w' => e = .returned (.tuple #[.int .u64 (Q a : Int), .agg #[.int .i64 (le : Int), .int .u64 (la : Int), .int .u64 (lb : Int), .string ld], .int .i64 (E a : Int)]) ∧ Own w0 w' (Ps ++ Rs) from by
    obtain ⟨le, la, lb, ld, hl⟩ := hLd a ha
    exact ⟨le, la, lb, ld, hl k g w0 wx _ hO (Hk.out _)⟩)
  have Hk0 := Lib.hid hk
  have Hto := Lib.hid hs
  have t1 : (tt : Int) ≤ 1099511627776 := by omega

  replace h := Lib.hid h
  clear hk hkl hG hLd hR hP hA hs
  go_enter Try.func17, Try.ntmps17
  go_wp2_with fail
  refine (HH.out _ h.out).mono ?_
  rintro e w1 ⟨rfl, hO1⟩
  clear HH h

  obtain ⟨Y, hYs⟩ : ∃ Y, w1.heap.size = Y := ⟨_, rfl⟩
  have hO2 := hO1.addBox 94 #[.bool true, .int .u64 (ge : Int), .int .u64 (mk : Int)]
  rw [hYs] at hO2
  obtain ⟨w2, hw2⟩ : ∃ w2, w1.alloc (.cells #[.bool true, .int .u64 (ge : Int), .int .u64 (mk : Int)] 94) = w2 := ⟨_, rfl⟩
  rw [hw2] at hO2
  clear hO1



  have hby : w2.heap[Y]? = some (.cells #[.bool true, .int .u64 (ge : Int), .int .u64 (mk : Int)] 94 (0, 0)) := Own.box hO2 Ps.length (by rw [List.getElem?_append_right (Nat.le_refl _), Nat.sub_self]; rfl)
  have y0 : w2.cell? ⟨Y, 0, none⟩ = some (.bool true) := by simp [World.cell?, hby]
  have y1 : w2.cell? ⟨Y, 1, none⟩ = some (.int .u64 (ge : Int)) := by simp [World.cell?, hby]
  have y2 : w2.cell? ⟨Y, 2, none⟩ = some (.int .u64 (mk : Int)) := by simp [World.cell?, hby]
  clear hby
  clear HG
  replace hO2 := Lib.hid hO2
  go_wp2_with fail
  try rw [hw2]
  go_loopg [] (tt - mk) (fun f wr => ∃ m : Nat, Hid (f = tt - m) ∧ Hid (ackR Q E f m = (M, Er)) ∧ Hid (Own w0 wr (Ps ++ [boxP Y 94 #[.bool true, .int .u64 (ge : Int), .int .u64 (m : Int)]])))
  case atStart => exact ⟨mk, Lib.hid rfl, HR, hO2⟩
  case round =>
    clear hO2 y0 y1 y2 hYs hw2
    obtain ⟨m, Hf, HM, hO⟩ := hrel
    have hb : wr.heap[Y]? = some (.cells #[.bool true, .int .u64 (ge : Int), .int .u64 (m : Int)] 94 (0, 0)) := Own.box hO.out Ps.length (by rw [List.getElem?_append_right (Nat.le_refl _), Nat.sub_self]; rfl)
    have y0 : wr.cell? ⟨Y, 0, none⟩ = some (.bool true) := by simp [World.cell?, hb]
    have y1 : wr.cell? ⟨Y, 1, none⟩ = some (.int .u64 (ge : Int)) := by simp [World.cell?, hb]
    have y2 : wr.cell? ⟨Y, 2, none⟩ = some (.int .u64 (m : Int)) := by simp [World.cell?, hb]
    by_cases hlt : m < tt
    · have l1 : (m : Int) < (tt : Int) := by omega
      obtain ⟨f, hf⟩ : ∃ f, tt - m = f + 1 := ⟨tt - m - 1, by omega⟩
      have hf2 : f = tt - (m + 1) := by omega
      obtain ⟨N, hN⟩ : ∃ N, m + 1 = N := ⟨_, rfl⟩
      have em : (m : Int) + 1 = (N : Int) := by omega
      have wN : IntKind.u64.wrap (N : Int) = (N : Int) := IntWalk.u64_in _ ⟨by omega, by have := Hto.out; omega⟩
      obtain ⟨b, hb4⟩ : ∃ b, N % 4 = b := ⟨_, rfl⟩
      have hb5 : b < 4 := by omega
      obtain ⟨le, la, lb, ld, hLm⟩ := HL.out b hb5 wr _ hO.out
      have HLm := Lib.hid (fun wx (hw : wx = wr) => hw ▸ hLm)
      obtain ⟨sv, hsv⟩ : ∃ sv, Q b = sv := ⟨_, rfl⟩
      obtain ⟨se, hse⟩ : ∃ se, E b = se := ⟨_, rfl⟩
      rw [hsv, hse] at hLm
      replace hLm := Lib.hid hLm
      have Hstep := Lib.hid (show (se ≠ 0 → M = 0 ∧ Er = se) ∧ (se = 0 → sv = N → ackR Q E f N = (M, Er)) ∧ (se = 0 → sv ≠ N → m = M ∧ Er = 0) by
        have e := HM.out
        rw [Hf.out, hf] at e
        unfold ackR at e
        rw [hN, hb4, hsv, hse] at e
        refine ⟨fun h => ?_, fun h h2 => ?_, fun h h2 => ?_⟩
        · rw [if_pos h] at e; injection e with e1 e2; exact ⟨e1.symm, e2.symm⟩
        · rw [if_neg (by omega), if_pos h2] at e; exact e
        · rw [if_neg (by omega), if_neg h2] at e; injection e with e1 e2; exact ⟨e1, e2.symm⟩)
      have Hfl := Lib.hid (show f = tt - N ∧ f < gk by have := Hf.out; omega)

      have a1 : (N : Int) % 4 = (b : Int) := by omega
      have a2 : Int.tmod (N : Int) 4 = (b : Int) := by rw [Int.tmod_eq_emod_of_nonneg (by omega)]; exact a1
      have a3 : IntKind.u64.wrap (b : Int) = (b : Int) := IntWalk.u64_in _ ⟨by omega, by omega⟩
      have a4 : IntKind.i64.wrap (b : Int) = (b : Int) := IntWalk.i64_in _ ⟨by omega, by omega⟩
      clear hf hf2 hN hlt HM Hf hb hb4 hb5 HLm hsv hse hO
      go_wp2_with fail
      refine hLm.out.mono ?_
      rintro e w3 ⟨rfl, hO3⟩
      clear hLm y0 y1 y2 a1 a2 a3 a4
      have hO4 := hO3.quiet (World.grownBy_alloc w3 (.cells #[.int .i64 (le : Int), .int .u64 (la : Int), .int .u64 (lb : Int), .string ld] 39) none)
      obtain ⟨w4, hw4⟩ : ∃ w4, w3.alloc (.cells #[.int .i64 (le : Int), .int .u64 (la : Int), .int .u64 (lb : Int), .string ld] 39) = w4 := ⟨_, rfl⟩
      rw [hw4] at hO4
      have HPk := Lib.hid (show (Ps ++ [boxP Y 94 #[.bool true, .int .u64 (ge : Int), .int .u64 (m : Int)]])[Ps.length]? = some (boxP Y 94 #[.bool true, .int .u64 (ge : Int), .int .u64 (m : Int)]) by rw [List.getElem?_append_right (Nat.le_refl _), Nat.sub_self]; rfl)
      have hb : w4.heap[Y]? = some (.cells #[.bool true, .int .u64 (ge : Int), .int .u64 (m : Int)] 94 (0, 0)) := Own.box hO4 Ps.length HPk.out
      have y0 : w4.cell? ⟨Y, 0, none⟩ = some (.bool true) := by simp [World.cell?, hb]
      have y1 : w4.cell? ⟨Y, 1, none⟩ = some (.int .u64 (ge : Int)) := by simp [World.cell?, hb]
      have y2 : w4.cell? ⟨Y, 2, none⟩ = some (.int .u64 (m : Int)) := by simp [World.cell?, hb]
      have yf : w4.frozen? ⟨Y, 2, none⟩ = false := by simp [World.frozen?, hb]
      clear hb hO3
      by_cases ce : se = 0
      · have qs : ((se : Int) != 0) = false := by rw [ce]; rfl
        by_cases c : sv = N
        · have qc : ((sv : Int) != (N : Int)) = false := by rw [c]; simp
          have HN := Lib.hid (Hstep.out.2.1 ce c)
          have hO5 : Hid (Own w0 (w4.setCell ⟨Y, 2, none⟩ (.int .u64 (N : Int))) (Ps ++ [boxP Y 94 #[.bool true, .int .u64 (ge : Int), .int .u64 (N : Int)]])) := Lib.hid (by
            have := hO4.putBox Ps.length HPk.out 2 (.int .u64 (N : Int))
            rw [List.set_append_right _ _ (Nat.le_refl _), Nat.sub_self] at this
            exact this)
          clear c ce hO4 Hstep
          go_wp2_with fail
          try rw [hw4]
          go_wp2
          go_roundg f
          case measure => exact Hfl.out.2
          case rel => exact ⟨N, Lib.hid Hfl.out.1, HN, hO5⟩
        · have qc : ((sv : Int) != (N : Int)) = true := by simp; omega
          obtain ⟨hmR, hE0⟩ := Hstep.out.2.2 ce c
          subst hmR
          have hO9 := hO4
          replace hE0 := hE0
          clear c ce hO4 Hstep
          have HPc := Lib.hid (HPT.out hE0 w4 _ hO9)
          rw [List.set_append_left _ _ Hkl.out] at HPc
          clear hO9 HPT HL
          go_wp2_with fail
          try rw [hw4]
          refine HPc.out.mono ?_
          rintro e w6 ⟨rfl, hO6⟩
          have hb : w6.heap[Y]? = some (.cells #[.bool true, .int .u64 (ge : Int), .int .u64 (m : Int)] 94 (0, 0)) := Own.box hO6 Ps.length (by rw [List.getElem?_append_right (by rw [List.length_set]; exact Nat.le_refl _), List.length_set, Nat.sub_self]; rfl)
          have x2 : w6.cell? ⟨Y, 2, none⟩ = some (.int .u64 (m : Int)) := by simp [World.cell?, hb]
          have hO7 := Lib.hid hO6.less
          clear hb hO6 HPc
          by_cases c3 : en3 = 0
          · have q3 : ((en3 : Int) != 0) = false := by rw [c3]; rfl
            obtain ⟨f1, f2⟩ := HA.out.2.2 hE0 c3
            subst f1 f2
            clear c3
            go_wp2
            exact bodyPost_ret (v := .tuple #[.int .u64 (rm : Int), .int .i64 0]) (by simp [results, Try.results17, go_sem]) rfl ⟨rfl, hO7.out⟩
          · have q3 : ((en3 : Int) != 0) = true := by simp; omega
            obtain ⟨f1, f2⟩ := HA.out.2.1 hE0 c3
            subst f1 f2
            clear c3
            go_wp2
            exact bodyPost_ret (v := .tuple #[.int .u64 0, .int .i64 (re : Int)]) (by simp [results, Try.results17, go_sem]) rfl ⟨rfl, hO7.out⟩
      · have qs : ((se : Int) != 0) = true := by simp; omega
        obtain ⟨g1, g2⟩ := Hstep.out.1 ce
        subst g2
        obtain ⟨f1, f2, f3⟩ := HA.out.1 ce
        have hO7 := Lib.hid (show Own w0 w4 (Ps.set k (refQ g xs L)) by rw [set_id Hk0.out]; exact hO4.less)
        rw [← f3] at hO7
        subst f1 f2
        clear ce hO4 Hstep
        go_wp2
        exact bodyPost_ret (v := .tuple #[.int .u64 0, .int .i64 (re : Int)]) (by simp [results, Try.results17, go_sem]) rfl ⟨rfl, hO7.out⟩
    · have l1 : ¬ (m : Int) < (tt : Int) := by omega
      obtain ⟨hmR, hE0⟩ : m = M ∧ Er = 0 := by
        have e := HM.out
        rw [Hf.out, show tt - m = 0 by omega] at e
        injection e with e1 e2
        exact ⟨e1, e2.symm⟩
      subst hmR
      have hO9 := hO.out
      clear hlt hO HM Hf hb
      have HPc := Lib.hid (HPT.out hE0 wr _ hO9)
      rw [List.set_append_left _ _ Hkl.out] at HPc
      clear hO9 HPT HL
      go_wp2_with fail
      skip
      refine HPc.out.mono ?_
      rintro e w6 ⟨rfl, hO6⟩
      have hb : w6.heap[Y]? = some (.cells #[.bool true, .int .u64 (ge : Int), .int .u64 (m : Int)] 94 (0, 0)) := Own.box hO6 Ps.length (by rw [List.getElem?_append_right (by rw [List.length_set]; exact Nat.le_refl _), List.length_set, Nat.sub_self]; rfl)
      have x2 : w6.cell? ⟨Y, 2, none⟩ = some (.int .u64 (m : Int)) := by simp [World.cell?, hb]
      have hO7 := Lib.hid hO6.less
      clear hb hO6 HPc
      by_cases c3 : en3 = 0
      · have q3 : ((en3 : Int) != 0) = false := by rw [c3]; rfl
        obtain ⟨f1, f2⟩ := HA.out.2.2 hE0 c3
        subst f1 f2
        clear c3
        go_wp2
        exact bodyPost_ret (v := .tuple #[.int .u64 (rm : Int), .int .i64 0]) (by simp [results, Try.results17, go_sem]) rfl ⟨rfl, hO7.out⟩
      · have q3 : ((en3 : Int) != 0) = true := by simp; omega
        obtain ⟨f1, f2⟩ := HA.out.2.1 hE0 c3
        subst f1 f2
        clear c3
        go_wp2
        exact bodyPost_ret (v := .tuple #[.int .u64 0, .int .i64 (re : Int)]) (by simp [results, Try.results17, go_sem]) rfl ⟨rfl, hO7.out⟩

end Go.Proofs.Ytdpkpphjpihhkaa
end
section
/- Of, Ack, Open, Close: the program's answers and the document's. -/
namespace Go.Proofs.Ytdpkpphjpihhkaa
open Go.RowKit Go.Grommet

theorem of_both (i : Int) (gen seq : Nat) (hseq : seq < 18446744073709551616) (xs : List Nat) (L : List (Nat × Nat)) (hxl : xs.length ≤ 1000000) (hg : ∀ a, gotI xs L a < 18446744073709551616) : ∃ (c pe pa pb : Nat) (pd : ByteArray) (er : Nat), c ≤ 3 ∧ (∀ (k g : Nat) (w0 w : World) (Ps : List Pr), Own w0 w Ps → Ps[k]? = some (viewP g xs L) → Calls Try.prog 14 #[.pointer (some ⟨g, 0, none⟩), .int .i64 i, .int .u64 (gen : Int), .int .u64 (seq : Int)] w fun e w' => e = .returned (.tuple #[.int .u8 (c : Int), .agg #[.int .i64 (pe : Int), .int .u64 (pa : Int), .int .u64 (pb : Int), .string pd], .int .i64 (er : Int)]) ∧ Own w0 w' Ps) ∧ (∀ (k g : Nat) (w0 w : World) (Ps : List Pr), Own w0 w Ps → Ps[k]? = some (refQ g xs L) → Calls Try.prog 15 #[.pointer (some ⟨g, 0, none⟩), .int .i64 i, .int .u64 (gen : Int), .int .u64 (seq : Int)] w fun e w' => e = .returned (.tuple #[.int .i64 (c : Int), .agg #[.int .i64 (pe : Int), .int .u64 (pa : Int), .int .u64 (pb : Int), .string pd], .int .i64 (er : Int)]) ∧ Own w0 w' Ps) := by
  obtain ⟨ob, ge, mk, en, HG, RG, hgb, hmb⟩ := get_nat i xs L hxl hg
  obtain ⟨lq, le, la, lb, ld, en2, HL, RL⟩ := load_nat i (seq % 4) xs L hg
  by_cases hs : 1 ≤ seq ∧ seq ≤ 1099511627776
  · by_cases he : en = 0
    · cases hob : ob with
      | false => subst hob; exact ⟨0, 0, 0, 0, ⟨#[]⟩, 22, by decide, fun k g w0 w Ps h hk => OfPC1 k g xs L i false ge mk en gen seq _ lq le la lb ld en2 HG HL rfl hs he rfl w0 w Ps h hk, fun k g w0 w Ps h hk => OfR_C1 k g xs L i false ge mk en gen seq _ lq le la lb ld en2 RG RL rfl hs he rfl w0 w Ps h hk⟩
      | true =>
        by_cases hge : ge = gen
        · by_cases hd : seq ≤ mk
          · exact ⟨2, 0, 0, 0, ⟨#[]⟩, 0, by decide, fun k g w0 w Ps h hk => OfPD k g xs L i ob ge mk en gen seq _ lq le la lb ld en2 HG HL rfl hs he hob hge hd w0 w Ps h hk, fun k g w0 w Ps h hk => OfR_D k g xs L i ob ge mk en gen seq _ lq le la lb ld en2 RG RL rfl hs he hob hge hd w0 w Ps h hk⟩
          · have hd2 : mk < seq := by omega
            by_cases hx : 4 < seq - mk
            · exact ⟨3, 0, 0, 0, ⟨#[]⟩, 0, by decide, fun k g w0 w Ps h hk => OfPE k g xs L i ob ge mk en gen seq _ lq le la lb ld en2 HG HL rfl hs he hob hge hd2 hx w0 w Ps h hk, fun k g w0 w Ps h hk => OfR_E k g xs L i ob ge mk en gen seq _ lq le la lb ld en2 RG RL rfl hs he hob hge hd2 hx w0 w Ps h hk⟩
            · by_cases h2 : en2 = 0
              · by_cases h3 : lq = seq
                · exact ⟨1, le, la, lb, ld, 0, by decide, fun k g w0 w Ps h hk => OfPG k g xs L i ob ge mk en gen seq _ lq le la lb ld en2 HG HL rfl hs he hob hge hd2 hx h2 h3 w0 w Ps h hk, fun k g w0 w Ps h hk => OfR_G k g xs L i ob ge mk en gen seq _ lq le la lb ld en2 RG RL rfl hs he hob hge hd2 hx h2 h3 w0 w Ps h hk⟩
                · exact ⟨0, 0, 0, 0, ⟨#[]⟩, 0, by decide, fun k g w0 w Ps h hk => OfPH k g xs L i ob ge mk en gen seq _ lq le la lb ld en2 HG HL rfl hs he hob hge hd2 hx h2 h3 w0 w Ps h hk, fun k g w0 w Ps h hk => OfR_H k g xs L i ob ge mk en gen seq _ lq le la lb ld en2 RG RL rfl hs he hob hge hd2 hx h2 h3 w0 w Ps h hk⟩
              · exact ⟨0, 0, 0, 0, ⟨#[]⟩, en2, by decide, fun k g w0 w Ps h hk => OfPF k g xs L i ob ge mk en gen seq _ lq le la lb ld en2 HG HL rfl hs he hob hge hd2 hx h2 w0 w Ps h hk, fun k g w0 w Ps h hk => OfR_F k g xs L i ob ge mk en gen seq _ lq le la lb ld en2 RG RL rfl hs he hob hge hd2 hx h2 w0 w Ps h hk⟩
        · exact ⟨0, 0, 0, 0, ⟨#[]⟩, 22, by decide, fun k g w0 w Ps h hk => OfPC2 k g xs L i ob ge mk en gen seq _ lq le la lb ld en2 HG HL rfl hs he hob hge w0 w Ps h hk, fun k g w0 w Ps h hk => OfR_C2 k g xs L i ob ge mk en gen seq _ lq le la lb ld en2 RG RL rfl hs he hob hge w0 w Ps h hk⟩
    · exact ⟨0, 0, 0, 0, ⟨#[]⟩, en, by decide, fun k g w0 w Ps h hk => OfPB k g xs L i ob ge mk en gen seq _ lq le la lb ld en2 HG HL rfl hs he w0 w Ps h hk, fun k g w0 w Ps h hk => OfR_B k g xs L i ob ge mk en gen seq _ lq le la lb ld en2 RG RL rfl hs he w0 w Ps h hk⟩
  · refine ⟨0, 0, 0, 0, ⟨#[]⟩, 1, by decide, fun k g w0 w Ps h hk => OfPA k g xs L i ob ge mk en gen seq _ lq le la lb ld en2 HG HL rfl hs w0 w Ps h hk, fun k g w0 w Ps h hk => ?_⟩
    by_cases hs1 : seq < 1
    · exact OfR_A1 k g xs L i ob ge mk en gen seq _ lq le la lb ld en2 RG RL rfl hs1 w0 w Ps h hk
    · exact OfR_A2 k g xs L i ob ge mk en gen seq _ lq le la lb ld en2 RG RL rfl (by omega) w0 w Ps h hk

theorem open_both (i : Int) (gen : Nat) (hgen : gen < 18446744073709551616) (xs : List Nat) (L : List (Nat × Nat)) (hxl : xs.length ≤ 1000000) (hg : ∀ a, gotI xs L a < 18446744073709551616) : ∃ (L2 : List (Nat × Nat)) (c er : Nat), c ≤ 3 ∧ (∀ (k g : Nat) (w0 w : World) (Ps : List Pr), Own w0 w Ps → Ps[k]? = some (viewP g xs L) → Calls Try.prog 18 #[.pointer (some ⟨g, 0, none⟩), .int .i64 i, .int .u64 (gen : Int)] w fun e w' => e = .returned (.tuple #[.int .u8 (c : Int), .int .i64 (er : Int)]) ∧ Own w0 w' (Ps.set k (viewP g xs L2))) ∧ (∀ (k g : Nat) (w0 w : World) (Ps : List Pr), Own w0 w Ps → Ps[k]? = some (refQ g xs L) → Calls Try.prog 19 #[.pointer (some ⟨g, 0, none⟩), .int .i64 i, .int .u64 (gen : Int)] w fun e w' => e = .returned (.tuple #[.int .i64 (c : Int), .int .i64 (er : Int)]) ∧ Own w0 w' (Ps.set k (refQ g xs L2))) := by
  obtain ⟨ob, ge, mk, en, HG, RG, hgb, hmb⟩ := get_nat i xs L hxl hg
  by_cases hs : 1 ≤ gen ∧ gen ≤ 1099511627776
  · by_cases he : en = 0
    · cases hob : ob with
      | true =>
        by_cases hge : ge = gen
        · exact ⟨L, 1, 0, by decide, fun k g w0 w Ps h hk => by rw [set_id hk]; exact OpenPC k g xs L i ob ge mk en gen HG hs he hob hge w0 w Ps h hk, fun k g w0 w Ps h hk => by rw [set_id hk]; exact OpenRC k g xs L i ob ge mk en gen RG hs he hob hge w0 w Ps h hk⟩
        · by_cases hl : gen ≤ ge
          · exact ⟨L, 2, 0, by decide, fun k g w0 w Ps h hk => by rw [set_id hk]; exact OpenPD2 k g xs L i ob ge mk en gen HG hs he hob hge hl w0 w Ps h hk, fun k g w0 w Ps h hk => by rw [set_id hk]; exact OpenRD2 k g xs L i ob ge mk en gen RG hs he hob hge hl w0 w Ps h hk⟩
          · exact ⟨L, 3, 0, by decide, fun k g w0 w Ps h hk => by rw [set_id hk]; exact OpenPE1 k g xs L i ob ge mk en gen HG hs he hob (by omega) w0 w Ps h hk, fun k g w0 w Ps h hk => by rw [set_id hk]; exact OpenRE1 k g xs L i ob ge mk en gen RG hs he hob (by omega) w0 w Ps h hk⟩
      | false =>
        by_cases hl : gen ≤ ge
        · exact ⟨L, 2, 0, by decide, fun k g w0 w Ps h hk => by rw [set_id hk]; exact OpenPD1 k g xs L i ob ge mk en gen HG hs he hob hl w0 w Ps h hk, fun k g w0 w Ps h hk => by rw [set_id hk]; exact OpenRD1 k g xs L i ob ge mk en gen RG hs he hob hl w0 w Ps h hk⟩
        · by_cases hx : gen - ge = 1
          · obtain ⟨L2, en3, HP, RP⟩ := put_nat i true gen 0 hgen (by decide) xs L hxl
            by_cases h3 : en3 = 0
            · obtain ⟨L3, en4, HW, RW⟩ := wipe_nat i xs L2
              exact ⟨L3, 0, en4, by decide, fun k g w0 w Ps h hk => OpenPG k g xs L i ob ge mk en gen en3 en4 L2 L3 HG hs he hob (by omega) hx h3 HP HW w0 w Ps h hk, fun k g w0 w Ps h hk => OpenRG k g xs L i ob ge mk en gen en3 en4 L2 L3 RG hs he hob (by omega) hx h3 RP RW w0 w Ps h hk⟩
            · exact ⟨L2, 0, en3, by decide, fun k g w0 w Ps h hk => OpenPF k g xs L i ob ge mk en gen en3 L2 HG hs he hob (by omega) hx h3 HP w0 w Ps h hk, fun k g w0 w Ps h hk => OpenRF k g xs L i ob ge mk en gen en3 L2 RG hs he hob (by omega) hx h3 RP w0 w Ps h hk⟩
          · exact ⟨L, 3, 0, by decide, fun k g w0 w Ps h hk => by rw [set_id hk]; exact OpenPE2 k g xs L i ob ge mk en gen HG hs he hob (by omega) hx w0 w Ps h hk, fun k g w0 w Ps h hk => by rw [set_id hk]; exact OpenRE2 k g xs L i ob ge mk en gen RG hs he hob (by omega) hx w0 w Ps h hk⟩
    · exact ⟨L, 0, en, by decide, fun k g w0 w Ps h hk => by rw [set_id hk]; exact OpenPB k g xs L i ob ge mk en gen HG hs he w0 w Ps h hk, fun k g w0 w Ps h hk => by rw [set_id hk]; exact OpenRB k g xs L i ob ge mk en gen RG hs he w0 w Ps h hk⟩
  · refine ⟨L, 0, 1, by decide, fun k g w0 w Ps h hk => by rw [set_id hk]; exact OpenPA k g xs L i ob ge mk en gen HG hs w0 w Ps h hk, fun k g w0 w Ps h hk => ?_⟩
    rw [set_id hk]
    by_cases hs1 : gen < 1
    · exact OpenRA1 k g xs L i ob ge mk en gen RG hs1 w0 w Ps h hk
    · exact OpenRA2 k g xs L i ob ge mk en gen RG (by omega) w0 w Ps h hk

theorem close_both (i : Int) (gen : Nat) (hgen : gen < 18446744073709551616) (xs : List Nat) (L : List (Nat × Nat)) (hxl : xs.length ≤ 1000000) (hg : ∀ a, gotI xs L a < 18446744073709551616) : ∃ (L2 : List (Nat × Nat)) (c er : Nat), c ≤ 3 ∧ (∀ (k g : Nat) (w0 w : World) (Ps : List Pr), Own w0 w Ps → Ps[k]? = some (viewP g xs L) → Calls Try.prog 20 #[.pointer (some ⟨g, 0, none⟩), .int .i64 i, .int .u64 (gen : Int)] w fun e w' => e = .returned (.tuple #[.int .u8 (c : Int), .int .i64 (er : Int)]) ∧ Own w0 w' (Ps.set k (viewP g xs L2))) ∧ (∀ (k g : Nat) (w0 w : World) (Ps : List Pr), Own w0 w Ps → Ps[k]? = some (refQ g xs L) → Calls Try.prog 21 #[.pointer (some ⟨g, 0, none⟩), .int .i64 i, .int .u64 (gen : Int)] w fun e w' => e = .returned (.tuple #[.int .i64 (c : Int), .int .i64 (er : Int)]) ∧ Own w0 w' (Ps.set k (refQ g xs L2))) := by
  obtain ⟨ob, ge, mk, en, HG, RG, hgb, hmb⟩ := get_nat i xs L hxl hg
  by_cases hs : 1 ≤ gen ∧ gen ≤ 1099511627776
  · by_cases he : en = 0
    · by_cases hl : gen < ge
      · exact ⟨L, 2, 0, by decide, fun k g w0 w Ps h hk => by rw [set_id hk]; exact ClosePC k g xs L i ob ge mk en gen HG hs he hl w0 w Ps h hk, fun k g w0 w Ps h hk => by rw [set_id hk]; exact CloseRC k g xs L i ob ge mk en gen RG hs he hl w0 w Ps h hk⟩
      · by_cases hl2 : ge < gen
        · exact ⟨L, 3, 0, by decide, fun k g w0 w Ps h hk => by rw [set_id hk]; exact ClosePD k g xs L i ob ge mk en gen HG hs he hl2 w0 w Ps h hk, fun k g w0 w Ps h hk => by rw [set_id hk]; exact CloseRD k g xs L i ob ge mk en gen RG hs he hl2 w0 w Ps h hk⟩
        · have hl3 : ge = gen := by omega
          cases hob : ob with
          | false => exact ⟨L, 1, 0, by decide, fun k g w0 w Ps h hk => by rw [set_id hk]; exact ClosePE k g xs L i ob ge mk en gen HG hs he hob hl3 w0 w Ps h hk, fun k g w0 w Ps h hk => by rw [set_id hk]; exact CloseRE k g xs L i ob ge mk en gen RG hs he hob hl3 w0 w Ps h hk⟩
          | true =>
            obtain ⟨L2, en3, HP, RP⟩ := put_nat i false ge mk hgb hmb xs L hxl
            exact ⟨L2, 0, en3, by decide, fun k g w0 w Ps h hk => ClosePF k g xs L i ob ge mk en gen en3 L2 HG hs he hob hl3 HP w0 w Ps h hk, fun k g w0 w Ps h hk => CloseRF k g xs L i ob ge mk en gen en3 L2 RG hs he hob hl3 RP w0 w Ps h hk⟩
    · exact ⟨L, 0, en, by decide, fun k g w0 w Ps h hk => by rw [set_id hk]; exact ClosePB k g xs L i ob ge mk en gen HG hs he w0 w Ps h hk, fun k g w0 w Ps h hk => by rw [set_id hk]; exact CloseRB k g xs L i ob ge mk en gen RG hs he w0 w Ps h hk⟩
  · refine ⟨L, 0, 1, by decide, fun k g w0 w Ps h hk => by rw [set_id hk]; exact ClosePA k g xs L i ob ge mk en gen HG hs w0 w Ps h hk, fun k g w0 w Ps h hk => ?_⟩
    rw [set_id hk]
    by_cases hs1 : gen < 1
    · exact CloseRA1 k g xs L i ob ge mk en gen RG hs1 w0 w Ps h hk
    · exact CloseRA2 k g xs L i ob ge mk en gen RG (by omega) w0 w Ps h hk

theorem ack_both (i : Int) (gen tt : Nat) (hgen : gen < 18446744073709551616) (xs : List Nat) (L : List (Nat × Nat)) (hxl : xs.length ≤ 1000000) (hg : ∀ a, gotI xs L a < 18446744073709551616) : ∃ (L2 : List (Nat × Nat)) (rm er : Nat), (∀ (k g : Nat) (w0 w : World) (Ps : List Pr), Own w0 w Ps → Ps[k]? = some (viewP g xs L) → Calls Try.prog 16 #[.pointer (some ⟨g, 0, none⟩), .int .i64 i, .int .u64 (gen : Int), .int .u64 (tt : Int)] w fun e w' => e = .returned (.tuple #[.int .u64 (rm : Int), .int .i64 (er : Int)]) ∧ Own w0 w' (Ps.set k (viewP g xs L2))) ∧ (∀ (k g : Nat) (w0 w : World) (Ps : List Pr), Own w0 w Ps → Ps[k]? = some (refQ g xs L) → Calls Try.prog 17 #[.pointer (some ⟨g, 0, none⟩), .int .i64 i, .int .u64 (gen : Int), .int .u64 (tt : Int)] w fun e w' => e = .returned (.tuple #[.int .u64 (rm : Int), .int .i64 (er : Int)]) ∧ Own w0 w' (Ps.set k (refQ g xs L2))) := by
  obtain ⟨ob, ge, mk, en, HG, RG, hgb, hmb⟩ := get_nat i xs L hxl hg
  by_cases hs : tt ≤ 1099511627776
  · by_cases he : en = 0
    · cases hob : ob with
      | false => subst hob; exact ⟨L, 0, 22, fun k g w0 w Ps h hk => by rw [set_id hk]; exact AckPC1 k g xs L i false ge mk en gen tt HG hs he rfl w0 w Ps h hk, fun k g w0 w Ps h hk => by rw [set_id hk]; exact AckDC1 k g xs L i false ge mk en gen tt RG hs he rfl w0 w Ps h hk⟩
      | true =>
        by_cases hge : ge = gen
        · obtain ⟨q0, a0, b0, c0, d0, f0, HL0, RL0⟩ := load_nat i 0 xs L hg
          obtain ⟨q1, a1, b1, c1, d1, f1, HL1, RL1⟩ := load_nat i 1 xs L hg
          obtain ⟨q2, a2, b2, c2, d2, f2, HL2, RL2⟩ := load_nat i 2 xs L hg
          obtain ⟨q3, a3, b3, c3, d3, f3, HL3, RL3⟩ := load_nat i 3 xs L hg
          obtain ⟨Q, hQ⟩ : ∃ Q : Nat → Nat, Q = fun a => [q0, q1, q2, q3].getD a 0 := ⟨_, rfl⟩
          obtain ⟨E, hE⟩ : ∃ E : Nat → Nat, E = fun a => [f0, f1, f2, f3].getD a 0 := ⟨_, rfl⟩
          have hLd : ∀ a, a < 4 → ∃ (le la lb : Nat) (ld : ByteArray), LoadC xs L i a (Q a) le la lb ld (E a) ∧ RLoadC xs L i a (Q a) le la lb ld (E a) := by
            subst hQ hE
            intro a ha
            match a, ha with
            | 0, _ => exact ⟨a0, b0, c0, d0, HL0, RL0⟩
            | 1, _ => exact ⟨a1, b1, c1, d1, HL1, RL1⟩
            | 2, _ => exact ⟨a2, b2, c2, d2, HL2, RL2⟩
            | 3, _ => exact ⟨a3, b3, c3, d3, HL3, RL3⟩
          have hP1 : ∀ a, a < 4 → ∃ (le la lb : Nat) (ld : ByteArray), LoadC xs L i a (Q a) le la lb ld (E a) := fun a ha => by obtain ⟨x1, x2, x3, x4, x5, _⟩ := hLd a ha; exact ⟨x1, x2, x3, x4, x5⟩
          have hP2 : ∀ a, a < 4 → ∃ (le la lb : Nat) (ld : ByteArray), RLoadC xs L i a (Q a) le la lb ld (E a) := fun a ha => by obtain ⟨x1, x2, x3, x4, _, x5⟩ := hLd a ha; exact ⟨x1, x2, x3, x4, x5⟩
          obtain ⟨⟨M, Er⟩, hR⟩ : ∃ p, ackR Q E (tt - mk) mk = p := ⟨_, rfl⟩
          have hMb : M < 18446744073709551616 := by
            have h9 := ackR_le Q E (tt - mk) mk
            rw [hR] at h9
            have h9 : M ≤ mk + (tt - mk) := h9
            omega
          by_cases hEr : Er = 0
          · obtain ⟨L2, en3, HP, RP⟩ := put_nat i true gen M hgen hMb xs L hxl
            by_cases h3 : en3 = 0
            · have hA : AckIs M Er en3 M 0 L L2 := ⟨fun c => absurd hEr c, fun _ c => absurd h3 c, fun _ _ => ⟨rfl, rfl⟩⟩
              exact ⟨L2, M, 0, fun k g w0 w Ps h hk => AckPD k g xs L i ob ge mk en gen tt Q E M Er en3 M 0 L2 HG hs he hob hge hP1 hR (fun _ => HP) hA w0 w Ps h hk, fun k g w0 w Ps h hk => AckDD k g xs L i ob ge mk en gen tt Q E M Er en3 M 0 L2 RG hs he hob hge hP2 hR (fun _ => RP) hA w0 w Ps h hk⟩
            · have hA : AckIs M Er en3 0 en3 L L2 := ⟨fun c => absurd hEr c, fun _ _ => ⟨rfl, rfl⟩, fun _ c => absurd c h3⟩
              exact ⟨L2, 0, en3, fun k g w0 w Ps h hk => AckPD k g xs L i ob ge mk en gen tt Q E M Er en3 0 en3 L2 HG hs he hob hge hP1 hR (fun _ => HP) hA w0 w Ps h hk, fun k g w0 w Ps h hk => AckDD k g xs L i ob ge mk en gen tt Q E M Er en3 0 en3 L2 RG hs he hob hge hP2 hR (fun _ => RP) hA w0 w Ps h hk⟩
          · have hA : AckIs M Er 0 0 Er L L := ⟨fun _ => ⟨rfl, rfl, rfl⟩, fun c => absurd c hEr, fun c => absurd c hEr⟩
            exact ⟨L, 0, Er, fun k g w0 w Ps h hk => AckPD k g xs L i ob ge mk en gen tt Q E M Er 0 0 Er L HG hs he hob hge hP1 hR (fun c => absurd c hEr) hA w0 w Ps h hk, fun k g w0 w Ps h hk => AckDD k g xs L i ob ge mk en gen tt Q E M Er 0 0 Er L RG hs he hob hge hP2 hR (fun c => absurd c hEr) hA w0 w Ps h hk⟩
        · exact ⟨L, 0, 22, fun k g w0 w Ps h hk => by rw [set_id hk]; exact AckPC2 k g xs L i ob ge mk en gen tt HG hs he hob hge w0 w Ps h hk, fun k g w0 w Ps h hk => by rw [set_id hk]; exact AckDC2 k g xs L i ob ge mk en gen tt RG hs he hob hge w0 w Ps h hk⟩
    · exact ⟨L, 0, en, fun k g w0 w Ps h hk => by rw [set_id hk]; exact AckPB k g xs L i ob ge mk en gen tt HG hs he w0 w Ps h hk, fun k g w0 w Ps h hk => by rw [set_id hk]; exact AckDB k g xs L i ob ge mk en gen tt RG hs he w0 w Ps h hk⟩
  · exact ⟨L, 0, 1, fun k g w0 w Ps h hk => by rw [set_id hk]; exact AckPA k g xs L i ob ge mk en gen tt HG (by omega) w0 w Ps h hk, fun k g w0 w Ps h hk => by rw [set_id hk]; exact AckDA k g xs L i ob ge mk en gen tt RG (by omega) w0 w Ps h hk⟩

end Go.Proofs.Ytdpkpphjpihhkaa
end
