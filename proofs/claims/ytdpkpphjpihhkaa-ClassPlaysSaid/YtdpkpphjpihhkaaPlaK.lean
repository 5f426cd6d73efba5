/- SloP, SloR, RefA, RefB, RefC, RefD, RefE, RefF, RefG, RefH, RefO, RefI, RefJ, SloX, SloY in one. -/
import Derived.Test.YtdpkpphjpihhkaaSloJ
import Derived.Test.YtdpkpphjpihhkaaSloK
import Derived.Test.YtdpkpphjpihhkaaViewI
import Derived.Test.YtdpkpphjpihhkaaSetMath
import Derived.Test.YtdpkpphjpihhkaaLayR
import Derived.Deep.RegionHeld3
import Derived.Deep.DrawnRows
import Derived.Test.YtdpkpphjpihhkaaSloO
import Derived.Deep.DeepCutAuto
import Derived.Deep.CutBlock
import Derived.Deep.RegionHeld
import Derived.Test.YtdpkpphjpihhkaaTurs
import Derived.StillTailTactics
import Derived.Test.YtdpkpphjpihhkaaSloI
section
/- Package slot: Load of a slot whose words are none's. -/
namespace Go.Proofs.Ytdpkpphjpihhkaa
open Go.RowKit Go.Grommet

set_option maxRecDepth 100000 in
set_option maxHeartbeats 4000000 in
theorem LoadBad (k g : Nat) (xs : List Nat) (L : List (Nat × Nat)) (i kk at_ sl : Int) (sq C : Nat) (w0 w : World) (Ps : List Pr) (h : Own w0 w Ps) (hk : Ps[k]? = some (viewP g xs L)) (hat : sessionV i = at_) (ha : 0 ≤ at_ ∧ at_ + 64 ≤ (xs.length : Int)) (hsl : slotV i kk = sl) (hs : 0 ≤ sl ∧ sl ≤ 1000) (hz : gotI xs L sl = sq) (hsq : 1 ≤ sq) (hC : gotI xs L (sl + 1) = C) (hC64 : C < 18446744073709551616) (hbad : 24 < C % 256 ∨ 64 < C / 256) :
    Calls Try.prog 37 #[.pointer (some ⟨g, 0, none⟩), .int .i64 i, .int .i64 kk] w fun e w' => e = .returned (.tuple #[.int .u64 0, .agg #[.int .i64 0, .int .u64 0, .int .u64 0, .string ⟨#[]⟩], .int .i64 4]) ∧ Own w0 w' Ps := by
  have hkl := (List.getElem?_eq_some_iff.1 hk).1
  obtain ⟨X, HX⟩ : ∃ X, Hid (X = w.heap.size) := ⟨_, Lib.hid rfl⟩
  have hO : Own w0 (w.alloc (.cells #[.int .i64 0, .int .u64 0, .int .u64 0, .string ⟨#[]⟩] 39)) (Ps ++ [boxP X 39 #[.int .i64 0, .int .u64 0, .int .u64 0, .string ⟨#[]⟩]]) := by rw [HX.out]; exact h.addBox _ _
  have Hk := Lib.hid (show ∀ Rs, (Ps ++ Rs)[k]? = some (viewP g xs L) from fun Rs => by rw [List.getElem?_append_left hkl]; exact hk)
  have HS := Lib.hid (fun wx => SlotAt_any i kk wx)
  rw [hsl] at HS
  have Hhas := Lib.hid (fun wx (hO : Own w0 wx (Ps ++ [boxP X 39 #[.int .i64 0, .int .u64 0, .int .u64 0, .string ⟨#[]⟩]])) => hasH k g xs L i at_ w0 wx _ hO (Hk.out _) hat ha)
  have HG0 := Lib.hid (fun wx (hO : Own w0 wx (Ps ++ [boxP X 39 #[.int .i64 0, .int .u64 0, .int .u64 0, .string ⟨#[]⟩]])) => GetH k g xs L sl w0 wx _ hO (Hk.out _))
  rw [hz] at HG0
  have HG1 := Lib.hid (fun wx (hO : Own w0 wx (Ps ++ [boxP X 39 #[.int .i64 0, .int .u64 0, .int .u64 0, .string ⟨#[]⟩]])) => GetH k g xs L (sl + 1) w0 wx _ hO (Hk.out _))
  rw [hC] at HG1
  have qs : ((sq : Int) == 0) = false := by rw [beq_eq_false_iff_ne]; omega
  obtain ⟨M, hM⟩ : ∃ M, C % 256 = M := ⟨_, rfl⟩
  obtain ⟨D, hD⟩ : ∃ D, C / 256 = D := ⟨_, rfl⟩
  have hDl : D < 18446744073709551616 := by omega
  have e1 : (C : Int) % 256 = (M : Int) := by omega
  have e1' : Int.tmod (C : Int) 256 = (M : Int) := by rw [Int.tmod_eq_emod_of_nonneg (by omega)]; exact e1
  have e2 : (C : Int) / 256 = (D : Int) := by omega
  have e2' : Int.tdiv (C : Int) 256 = (D : Int) := by rw [Int.tdiv_eq_ediv_of_nonneg (by omega)]; exact e2
  have wM : IntKind.u64.wrap (M : Int) = (M : Int) := IntWalk.u64_in _ ⟨by omega, by omega⟩
  have wD : IntKind.u64.wrap (D : Int) = (D : Int) := IntWalk.u64_in _ ⟨by omega, by omega⟩
  rw [hM, hD] at hbad
  have Hbad := Lib.hid hbad
  have w1s : IntKind.i64.wrap (sl + 1) = sl + 1 := IntWalk.i64_in _ ⟨by omega, by omega⟩
  have s0 : 0 ≤ sl := hs.1
  have d0 : decide (0 ≤ sl) = true := by simpa using s0
  have ws : IntKind.i64.wrap (sl + 0) = sl := by rw [Int.add_zero]; exact IntWalk.i64_in _ ⟨by omega, by omega⟩
  have ws' : IntKind.i64.wrap sl = sl := IntWalk.i64_in _ ⟨by omega, by omega⟩
  replace hO := Lib.hid hO
  clear h hk hkl hat hsl hz ha hs hsq hC hC64 hbad hM hD hDl
  go_enter Try.func37, Try.ntmps37
  go_wp2_with fail
  rw [← HX.out]
  refine (HS.out _).mono ?_
  rintro e w1 ⟨rfl, hg⟩
  have hO1 := Lib.hid (hO.out.quiet hg)
  clear hg hO
  go_wp2_with fail
  refine (Hhas.out _ hO1.out).mono ?_
  rintro e w2 ⟨rfl, hO2⟩
  replace hO2 := Lib.hid hO2
  clear Hhas hO1
  go_wp2_with fail
  refine (HG0.out _ hO2.out).mono ?_
  rintro e w5 ⟨rfl, rfl⟩
  go_wp2_with fail
  refine (HG1.out _ hO2.out).mono ?_
  rintro e wy ⟨rfl, hwy⟩
  first | rw [hwy] | rw [← hwy]
  go_wp2_with fail
  refine (HG1.out _ hO2.out).mono ?_
  rintro e wz ⟨rfl, hwz⟩
  first | rw [hwz] | rw [← hwz]
  clear hwy hwz
  have hz : w5.heap[X]? = some (.cells #[.int .i64 0, .int .u64 0, .int .u64 0, .string ⟨#[]⟩] 39 (0, 0)) := Own.box hO2.out Ps.length (by rw [List.getElem?_append_right (Nat.le_refl _), Nat.sub_self]; rfl)
  have Hq : Hid (∀ w6 : World, w5.grownBy w6 (some X) → Own w0 w6 Ps) := Lib.hid (fun w6 hg => hO2.out.forget hg)
  clear hO2 HG0 HG1
  have m0 : w5.cell? ⟨X, 0, none⟩ = some (.int .i64 0) := by simp [World.cell?, hz]
  have q0 : w5.frozen? ⟨X, 0, none⟩ = false := by simp [World.frozen?, hz]
  have m1 : w5.cell? ⟨X, 1, none⟩ = some (.int .u64 0) := by simp [World.cell?, hz]
  have q1 : w5.frozen? ⟨X, 1, none⟩ = false := by simp [World.frozen?, hz]
  have m2 : w5.cell? ⟨X, 2, none⟩ = some (.int .u64 0) := by simp [World.cell?, hz]
  have q2 : w5.frozen? ⟨X, 2, none⟩ = false := by simp [World.frozen?, hz]
  have m3 : w5.cell? ⟨X, 3, none⟩ = some (.string ⟨#[]⟩) := by simp [World.cell?, hz]
  have q3 : w5.frozen? ⟨X, 3, none⟩ = false := by simp [World.frozen?, hz]
  have hz1 := heap_setCell_at (o := 0) hz (.int .i64 0)
  have hz2 := heap_setCell_at (o := 1) hz1 (.int .u64 0)
  have hz3 := heap_setCell_at (o := 2) hz2 (.int .u64 0)
  have hz4 := heap_setCell_at (o := 3) hz3 (.string ⟨#[]⟩)
  have g1 : w5.grownBy ((((w5.setCell ⟨X, 0, none⟩ (.int .i64 0)).setCell ⟨X, 1, none⟩ (.int .u64 0)).setCell ⟨X, 2, none⟩ (.int .u64 0)).setCell ⟨X, 3, none⟩ (.string ⟨#[]⟩)) (some X) := (grown_trans (grown_trans (grown_trans (grown_setCell _ ⟨X, 0, none⟩ (.int .i64 0)) (grown_setCell _ ⟨X, 1, none⟩ (.int .u64 0))) (grown_setCell _ ⟨X, 2, none⟩ (.int .u64 0))) (grown_setCell _ ⟨X, 3, none⟩ (.string ⟨#[]⟩)))
  obtain ⟨W3, hW3⟩ : ∃ W3, W3 = ((((w5.setCell ⟨X, 0, none⟩ (.int .i64 0)).setCell ⟨X, 1, none⟩ (.int .u64 0)).setCell ⟨X, 2, none⟩ (.int .u64 0)).setCell ⟨X, 3, none⟩ (.string ⟨#[]⟩)) := ⟨_, rfl⟩
  clear hz1 hz2 hz3
  by_cases c : 24 < M
  · have cM : (24 : Int) < (M : Int) := by omega
    clear c
    go_wp2
    rw [← hW3] at hz4 g1 ⊢
    have Z0 : W3.cell? ⟨X, 0, none⟩ = some (.int .i64 0) := by simp [World.cell?, hz4]
    have Z1 : W3.cell? ⟨X, 1, none⟩ = some (.int .u64 0) := by simp [World.cell?, hz4]
    have Z2 : W3.cell? ⟨X, 2, none⟩ = some (.int .u64 0) := by simp [World.cell?, hz4]
    have Z3 : W3.cell? ⟨X, 3, none⟩ = some (.string ⟨#[]⟩) := by simp [World.cell?, hz4]
    exact bodyPost_ret (v := .tuple #[.int .u64 0, .agg #[.int .i64 0, .int .u64 0, .int .u64 0, .string ⟨#[]⟩], .int .i64 4]) (by simp [results, Try.results37, go_sem, Z0, Z1, Z2, Z3]) rfl ⟨rfl, Hq.out _ g1⟩
  · have cM : ¬ (24 : Int) < (M : Int) := by omega
    have cD : (64 : Int) < (D : Int) := by have := Hbad.out; omega
    clear c
    go_wp2
    rw [← hW3] at hz4 g1 ⊢
    have Z0 : W3.cell? ⟨X, 0, none⟩ = some (.int .i64 0) := by simp [World.cell?, hz4]
    have Z1 : W3.cell? ⟨X, 1, none⟩ = some (.int .u64 0) := by simp [World.cell?, hz4]
    have Z2 : W3.cell? ⟨X, 2, none⟩ = some (.int .u64 0) := by simp [World.cell?, hz4]
    have Z3 : W3.cell? ⟨X, 3, none⟩ = some (.string ⟨#[]⟩) := by simp [World.cell?, hz4]
    exact bodyPost_ret (v := .tuple #[.int .u64 0, .agg #[.int .i64 0, .int .u64 0, .int .u64 0, .string ⟨#[]⟩], .int .i64 4]) (by simp [results, Try.results37, go_sem, Z0, Z1, Z2, Z3]) rfl ⟨rfl, Hq.out _ g1⟩
end Go.Proofs.Ytdpkpphjpihhkaa
end
section
/- Package slot: has, whatever comes out; Get, Put, Load, Save, Wipe refused. -/
namespace Go.Proofs.Ytdpkpphjpihhkaa
open Go.RowKit Go.Grommet

def hasS (i : Int) (m : Bool) (len : Nat) : Int := if sessionV i < 0 ∨ m = false then 1 else if (len : Int) < sessionV i + 64 then 8 else 0
set_option maxRecDepth 100000 in
set_option maxHeartbeats 2000000 in
theorem hasQ (k g : Nat) (xs : List Nat) (L : List (Nat × Nat)) (i : Int) (m : Bool) (en : Int) (w0 w : World) (Ps : List Pr) (h : Own w0 w Ps) (hk : Ps[k]? = some (viewP g xs L)) (he : hasS i m xs.length = en) :
    Calls Try.prog 48 #[.pointer (some ⟨g, 0, none⟩), .int .i64 i, .bool m] w fun e w' => e = .returned (.int .i64 en) ∧ Own w0 w' Ps := by
  have hfit := (Own.wl h k hk).2.2
  have HS := Lib.hid (fun wx => SessionAt_any i wx)
  have HL := Lib.hid (fun wx (hO : Own w0 wx Ps) => LenH k g xs L w0 wx Ps hO hk)
  have hsb : sessionV i ≤ 1000 := by unfold sessionV; split <;> omega
  unfold hasS at he
  generalize sessionV i = at_ at *
  generalize xs.length = n at *
  replace h := Lib.hid h
  clear hk
  by_cases a0 : at_ < 0
  · rw [if_pos (.inl a0)] at he
    subst he
    have d0 : decide (at_ < 0) = true := by simpa using a0
    go_enter Try.func48, Try.ntmps48
    go_wp2_with fail
    refine (HS.out _).mono ?_
    rintro e w1 ⟨rfl, hg⟩
    have h1 := Lib.hid (h.out.quiet hg)
    clear hg h HS
    go_wp2
    go_ret
    exact ⟨rfl, h1.out⟩
  · have d0 : decide (at_ < 0) = false := by simpa using a0
    cases m with
    | false =>
      rw [if_pos (.inr rfl)] at he
      subst he
      go_enter Try.func48, Try.ntmps48
      go_wp2_with fail
      refine (HS.out _).mono ?_
      rintro e w1 ⟨rfl, hg⟩
      have h1 := Lib.hid (h.out.quiet hg)
      clear hg h HS
      go_wp2
      go_ret
      exact ⟨rfl, h1.out⟩
    | true =>
      rw [if_neg (by rintro (h | h); exact a0 h; cases h)] at he
      have wa : IntKind.i64.wrap (at_ + 64) = at_ + 64 := IntWalk.i64_in _ ⟨by omega, by omega⟩
      by_cases a1 : (n : Int) < at_ + 64
      · rw [if_pos a1] at he
        subst he
        go_enter Try.func48, Try.ntmps48
        go_wp2_with fail
        refine (HS.out _).mono ?_
        rintro e w1 ⟨rfl, hg⟩
        have h1 := Lib.hid (h.out.quiet hg)
        clear hg h HS
        go_wp2_with fail
        refine (HL.out _ h1.out).mono ?_
        rintro e w2 ⟨rfl, rfl⟩
        go_wp2
        go_ret
        exact ⟨rfl, h1.out⟩
      · rw [if_neg a1] at he
        subst he
        go_enter Try.func48, Try.ntmps48
        go_wp2_with fail
        refine (HS.out _).mono ?_
        rintro e w1 ⟨rfl, hg⟩
        have h1 := Lib.hid (h.out.quiet hg)
        clear hg h HS
        go_wp2_with fail
        refine (HL.out _ h1.out).mono ?_
        rintro e w2 ⟨rfl, rfl⟩
        go_wp2
        go_ret
        exact ⟨rfl, h1.out⟩

set_option maxRecDepth 100000 in
set_option maxHeartbeats 4000000 in
theorem GetE (k g : Nat) (xs : List Nat) (L : List (Nat × Nat)) (i en : Int) (w0 w : World) (Ps : List Pr) (h : Own w0 w Ps) (hk : Ps[k]? = some (viewP g xs L)) (he : hasS i true xs.length = en) (hne : en ≠ 0) :
    Calls Try.prog 65 #[.pointer (some ⟨g, 0, none⟩), .int .i64 i] w fun e w' => e = .returned (.tuple #[.agg #[.bool false, .int .u64 0, .int .u64 0], .int .i64 en]) ∧ Own w0 w' Ps := by
  have hkl := (List.getElem?_eq_some_iff.1 hk).1
  obtain ⟨X, HX⟩ : ∃ X, Hid (X = w.heap.size) := ⟨_, Lib.hid rfl⟩
  have hO : Own w0 (w.alloc (.cells #[.bool false, .int .u64 0, .int .u64 0] 87)) (Ps ++ [boxP X 87 #[.bool false, .int .u64 0, .int .u64 0]]) := by rw [HX.out]; exact h.addBox _ _
  have Hk := Lib.hid (show ∀ Rs, (Ps ++ Rs)[k]? = some (viewP g xs L) from fun Rs => by rw [List.getElem?_append_left hkl]; exact hk)
  have Hhas := Lib.hid (fun wx (hO : Own w0 wx (Ps ++ [boxP X 87 #[.bool false, .int .u64 0, .int .u64 0]])) => hasQ k g xs L i true en w0 wx _ hO (Hk.out _) he)
  have qn : (en != 0) = true := by simp; omega
  replace hO := Lib.hid hO
  clear h hk hkl he hne
  go_enter Try.func65, Try.ntmps65
  go_wp2_with fail
  rw [← HX.out]
  refine (Hhas.out _ hO.out).mono ?_
  rintro e w1 ⟨rfl, hO1⟩
  replace hO1 := Lib.hid hO1
  clear Hhas hO
  have hz : w1.heap[X]? = some (.cells #[.bool false, .int .u64 0, .int .u64 0] 87 (0, 0)) := Own.box hO1.out Ps.length (by rw [List.getElem?_append_right (Nat.le_refl _), Nat.sub_self]; rfl)
  have Hq : Hid (∀ w6 : World, w1.grownBy w6 (some X) → Own w0 w6 Ps) := Lib.hid (fun w6 hg => hO1.out.forget hg)
  clear hO1
  have m0 : w1.cell? ⟨X, 0, none⟩ = some (.bool false) := by simp [World.cell?, hz]
  have q0 : w1.frozen? ⟨X, 0, none⟩ = false := by simp [World.frozen?, hz]
  have m1 : w1.cell? ⟨X, 1, none⟩ = some (.int .u64 0) := by simp [World.cell?, hz]
  have q1 : w1.frozen? ⟨X, 1, none⟩ = false := by simp [World.frozen?, hz]
  have m2 : w1.cell? ⟨X, 2, none⟩ = some (.int .u64 0) := by simp [World.cell?, hz]
  have q2 : w1.frozen? ⟨X, 2, none⟩ = false := by simp [World.frozen?, hz]
  have hz1 := heap_setCell_at (o := 0) hz (.bool false)
  have hz2 := heap_setCell_at (o := 1) hz1 (.int .u64 0)
  have hz3 := heap_setCell_at (o := 2) hz2 (.int .u64 0)
  have g1 : w1.grownBy (((w1.setCell ⟨X, 0, none⟩ (.bool false)).setCell ⟨X, 1, none⟩ (.int .u64 0)).setCell ⟨X, 2, none⟩ (.int .u64 0)) (some X) := (grown_trans (grown_trans (grown_setCell _ ⟨X, 0, none⟩ (.bool false)) (grown_setCell _ ⟨X, 1, none⟩ (.int .u64 0))) (grown_setCell _ ⟨X, 2, none⟩ (.int .u64 0)))
  obtain ⟨W3, hW3⟩ : ∃ W3, W3 = (((w1.setCell ⟨X, 0, none⟩ (.bool false)).setCell ⟨X, 1, none⟩ (.int .u64 0)).setCell ⟨X, 2, none⟩ (.int .u64 0)) := ⟨_, rfl⟩
  clear hz1 hz2
  go_wp2
  rw [← hW3] at hz3 g1 ⊢
  have Z0 : W3.cell? ⟨X, 0, none⟩ = some (.bool false) := by simp [World.cell?, hz3]
  have Z1 : W3.cell? ⟨X, 1, none⟩ = some (.int .u64 0) := by simp [World.cell?, hz3]
  have Z2 : W3.cell? ⟨X, 2, none⟩ = some (.int .u64 0) := by simp [World.cell?, hz3]
  exact bodyPost_ret (v := .tuple #[.agg #[.bool false, .int .u64 0, .int .u64 0], .int .i64 en]) (by simp [results, Try.results65, go_sem, Z0, Z1, Z2]) rfl ⟨rfl, Hq.out _ g1⟩

set_option maxRecDepth 100000 in
set_option maxHeartbeats 4000000 in
theorem LoadE (k g : Nat) (xs : List Nat) (L : List (Nat × Nat)) (i kk en : Int) (m : Bool) (w0 w : World) (Ps : List Pr) (h : Own w0 w Ps) (hk : Ps[k]? = some (viewP g xs L)) (hm : decide (0 ≤ slotV i kk) = m) (he : hasS i m xs.length = en) (hne : en ≠ 0) :
    Calls Try.prog 37 #[.pointer (some ⟨g, 0, none⟩), .int .i64 i, .int .i64 kk] w fun e w' => e = .returned (.tuple #[.int .u64 0, .agg #[.int .i64 0, .int .u64 0, .int .u64 0, .string ⟨#[]⟩], .int .i64 en]) ∧ Own w0 w' Ps := by
  have hkl := (List.getElem?_eq_some_iff.1 hk).1
  obtain ⟨X, HX⟩ : ∃ X, Hid (X = w.heap.size) := ⟨_, Lib.hid rfl⟩
  have hO : Own w0 (w.alloc (.cells #[.int .i64 0, .int .u64 0, .int .u64 0, .string ⟨#[]⟩] 39)) (Ps ++ [boxP X 39 #[.int .i64 0, .int .u64 0, .int .u64 0, .string ⟨#[]⟩]]) := by rw [HX.out]; exact h.addBox _ _
  have Hk := Lib.hid (show ∀ Rs, (Ps ++ Rs)[k]? = some (viewP g xs L) from fun Rs => by rw [List.getElem?_append_left hkl]; exact hk)
  have HS := Lib.hid (fun wx => SlotAt_any i kk wx)
  have Hhas := Lib.hid (fun wx (hO : Own w0 wx (Ps ++ [boxP X 39 #[.int .i64 0, .int .u64 0, .int .u64 0, .string ⟨#[]⟩]])) => hasQ k g xs L i m en w0 wx _ hO (Hk.out _) he)
  have qn : (en != 0) = true := by simp; omega
  generalize slotV i kk = sl at *
  replace hO := Lib.hid hO
  clear h hk hkl he hne
  go_enter Try.func37, Try.ntmps37
  go_wp2_with fail
  rw [← HX.out]
  refine (HS.out _).mono ?_
  rintro e w1 ⟨rfl, hg⟩
  have hO1 := Lib.hid (hO.out.quiet hg)
  clear hg hO
  go_wp2_with fail
  refine (Hhas.out _ hO1.out).mono ?_
  rintro e w2 ⟨rfl, hO2⟩
  replace hO2 := Lib.hid hO2
  clear Hhas hO1
  have hz : w2.heap[X]? = some (.cells #[.int .i64 0, .int .u64 0, .int .u64 0, .string ⟨#[]⟩] 39 (0, 0)) := Own.box hO2.out Ps.length (by rw [List.getElem?_append_right (Nat.le_refl _), Nat.sub_self]; rfl)
  have Hq : Hid (∀ w6 : World, w2.grownBy w6 (some X) → Own w0 w6 Ps) := Lib.hid (fun w6 hg => hO2.out.forget hg)
  clear hO2
  have m0 : w2.cell? ⟨X, 0, none⟩ = some (.int .i64 0) := by simp [World.cell?, hz]
  have q0 : w2.frozen? ⟨X, 0, none⟩ = false := by simp [World.frozen?, hz]
  have m1 : w2.cell? ⟨X, 1, none⟩ = some (.int .u64 0) := by simp [World.cell?, hz]
  have q1 : w2.frozen? ⟨X, 1, none⟩ = false := by simp [World.frozen?, hz]
  have m2 : w2.cell? ⟨X, 2, none⟩ = some (.int .u64 0) := by simp [World.cell?, hz]
  have q2 : w2.frozen? ⟨X, 2, none⟩ = false := by simp [World.frozen?, hz]
  have m3 : w2.cell? ⟨X, 3, none⟩ = some (.string ⟨#[]⟩) := by simp [World.cell?, hz]
  have q3 : w2.frozen? ⟨X, 3, none⟩ = false := by simp [World.frozen?, hz]
  have hz1 := heap_setCell_at (o := 0) hz (.int .i64 0)
  have hz2 := heap_setCell_at (o := 1) hz1 (.int .u64 0)
  have hz3 := heap_setCell_at (o := 2) hz2 (.int .u64 0)
  have hz4 := heap_setCell_at (o := 3) hz3 (.string ⟨#[]⟩)
  have g1 : w2.grownBy ((((w2.setCell ⟨X, 0, none⟩ (.int .i64 0)).setCell ⟨X, 1, none⟩ (.int .u64 0)).setCell ⟨X, 2, none⟩ (.int .u64 0)).setCell ⟨X, 3, none⟩ (.string ⟨#[]⟩)) (some X) := (grown_trans (grown_trans (grown_trans (grown_setCell _ ⟨X, 0, none⟩ (.int .i64 0)) (grown_setCell _ ⟨X, 1, none⟩ (.int .u64 0))) (grown_setCell _ ⟨X, 2, none⟩ (.int .u64 0))) (grown_setCell _ ⟨X, 3, none⟩ (.string ⟨#[]⟩)))
  obtain ⟨W3, hW3⟩ : ∃ W3, W3 = ((((w2.setCell ⟨X, 0, none⟩ (.int .i64 0)).setCell ⟨X, 1, none⟩ (.int .u64 0)).setCell ⟨X, 2, none⟩ (.int .u64 0)).setCell ⟨X, 3, none⟩ (.string ⟨#[]⟩)) := ⟨_, rfl⟩
  clear hz1 hz2 hz3
  go_wp2
  rw [← hW3] at hz4 g1 ⊢
  have Z0 : W3.cell? ⟨X, 0, none⟩ = some (.int .i64 0) := by simp [World.cell?, hz4]
  have Z1 : W3.cell? ⟨X, 1, none⟩ = some (.int .u64 0) := by simp [World.cell?, hz4]
  have Z2 : W3.cell? ⟨X, 2, none⟩ = some (.int .u64 0) := by simp [World.cell?, hz4]
  have Z3 : W3.cell? ⟨X, 3, none⟩ = some (.string ⟨#[]⟩) := by simp [World.cell?, hz4]
  exact bodyPost_ret (v := .tuple #[.int .u64 0, .agg #[.int .i64 0, .int .u64 0, .int .u64 0, .string ⟨#[]⟩], .int .i64 en]) (by simp [results, Try.results37, go_sem, Z0, Z1, Z2, Z3]) rfl ⟨rfl, Hq.out _ g1⟩

set_option maxRecDepth 100000 in
set_option maxHeartbeats 2000000 in
theorem PutE (k g : Nat) (xs : List Nat) (L : List (Nat × Nat)) (i : Int) (ob : Bool) (ge mk en : Int) (w0 w : World) (Ps : List Pr) (h : Own w0 w Ps) (hk : Ps[k]? = some (viewP g xs L)) (he : hasS i true xs.length = en) (hne : en ≠ 0) :
    Calls Try.prog 41 #[.pointer (some ⟨g, 0, none⟩), .int .i64 i, .agg #[.bool ob, .int .u64 ge, .int .u64 mk]] w fun e w' => e = .returned (.int .i64 en) ∧ Own w0 w' Ps := by
  have hkl := (List.getElem?_eq_some_iff.1 hk).1
  obtain ⟨X, HX⟩ : ∃ X, Hid (X = w.heap.size) := ⟨_, Lib.hid rfl⟩
  have hO : Own w0 (w.alloc (.cells #[.bool ob, .int .u64 ge, .int .u64 mk] 87)) (Ps ++ [boxP X 87 #[.bool ob, .int .u64 ge, .int .u64 mk]]) := by rw [HX.out]; exact h.addBox _ _
  have Hk := Lib.hid (show ∀ Rs, (Ps ++ Rs)[k]? = some (viewP g xs L) from fun Rs => by rw [List.getElem?_append_left hkl]; exact hk)
  have Hhas := Lib.hid (fun wx (hO : Own w0 wx (Ps ++ [boxP X 87 #[.bool ob, .int .u64 ge, .int .u64 mk]])) => hasQ k g xs L i true en w0 wx _ hO (Hk.out _) he)
  have qn : (en != 0) = true := by simp; omega
  replace hO := Lib.hid hO
  clear h hk hkl he hne
  go_enter Try.func41, Try.ntmps41
  go_wp2_with fail
  rw [← HX.out]
  refine (Hhas.out _ hO.out).mono ?_
  rintro e w1 ⟨rfl, hO1⟩
  replace hO1 := Lib.hid hO1
  go_wp2
  go_ret
  exact ⟨rfl, hO1.out.less⟩

set_option maxRecDepth 100000 in
set_option maxHeartbeats 2000000 in
theorem WipeE (k g : Nat) (xs : List Nat) (L : List (Nat × Nat)) (i en : Int) (w0 w : World) (Ps : List Pr) (h : Own w0 w Ps) (hk : Ps[k]? = some (viewP g xs L)) (he : hasS i true xs.length = en) (hne : en ≠ 0) :
    Calls Try.prog 43 #[.pointer (some ⟨g, 0, none⟩), .int .i64 i] w fun e w' => e = .returned (.int .i64 en) ∧ Own w0 w' Ps := by
  have Hhas := Lib.hid (hasQ k g xs L i true en w0 w _ h hk he)
  have qn : (en != 0) = true := by simp; omega
  clear h hk he hne
  go_enter Try.func43, Try.ntmps43
  go_wp2_with fail
  refine Hhas.out.mono ?_
  rintro e w1 ⟨rfl, hO1⟩
  replace hO1 := Lib.hid hO1
  go_wp2
  go_ret
  exact ⟨rfl, hO1.out⟩

set_option maxRecDepth 100000 in
set_option maxHeartbeats 4000000 in
theorem SaveA (k g : Nat) (xs : List Nat) (L : List (Nat × Nat)) (i kk : Int) (sq : Nat) (er ra rb : Int) (d : ByteArray) (en : Int) (w0 w : World) (Ps : List Pr) (h : Own w0 w Ps) (hk : Ps[k]? = some (viewP g xs L)) (hs : slotV i kk < 0) (he : hasS i false xs.length = en) (hne : en ≠ 0) :
    Calls Try.prog 27 #[.pointer (some ⟨g, 0, none⟩), .int .i64 i, .int .i64 kk, .int .u64 (sq : Int), .agg #[.int .i64 er, .int .u64 ra, .int .u64 rb, .string d]] w fun e w' => e = .returned (.int .i64 en) ∧ Own w0 w' Ps := by
  have hkl := (List.getElem?_eq_some_iff.1 hk).1
  obtain ⟨X, HX⟩ : ∃ X, Hid (X = w.heap.size) := ⟨_, Lib.hid rfl⟩
  have hO : Own w0 (w.alloc (.cells #[.int .i64 er, .int .u64 ra, .int .u64 rb, .string d] 39)) (Ps ++ [boxP X 39 #[.int .i64 er, .int .u64 ra, .int .u64 rb, .string d]]) := by rw [HX.out]; exact h.addBox _ _
  have Hk := Lib.hid (show ∀ Rs, (Ps ++ Rs)[k]? = some (viewP g xs L) from fun Rs => by rw [List.getElem?_append_left hkl]; exact hk)
  have Hres := Lib.hid (fun wx Rs (hO : Own w0 wx (Ps ++ (boxP X 39 #[.int .i64 er, .int .u64 ra, .int .u64 rb, .string d] :: Rs))) => show ResS X er ra rb d wx from Own.box hO Ps.length (by rw [List.getElem?_append_right (Nat.le_refl _), Nat.sub_self]; rfl))
  have HS := Lib.hid (fun wx => SlotAt_any i kk wx)
  have Hhas := Lib.hid (fun wx (hO : Own w0 wx (Ps ++ [boxP X 39 #[.int .i64 er, .int .u64 ra, .int .u64 rb, .string d]])) => hasQ k g xs L i false en w0 wx _ hO (Hk.out _) he)
  have qn : (en != 0) = true := by simp; omega
  generalize slotV i kk = sl at *
  have d0 : decide (0 ≤ sl) = false := by simp; omega
  have d1 : ¬ 0 ≤ sl := by omega
  clear h hk hkl he hne hs
  replace hO := Lib.hid hO
  go_enter Try.func27, Try.ntmps27
  go_wp2_with fail
  rw [← HX.out]
  refine (HS.out _).mono ?_
  rintro e w1 ⟨rfl, hg⟩
  have hO1 := Lib.hid (hO.out.quiet hg)
  clear hg hO
  go_wp2_with fail
  refine (Hhas.out _ hO1.out).mono ?_
  rintro e w3 ⟨rfl, hO3⟩
  replace hO3 := Lib.hid hO3
  go_wp2
  go_ret
  exact ⟨rfl, hO3.out.less⟩

set_option maxRecDepth 100000 in
set_option maxHeartbeats 4000000 in
theorem SaveC (k g : Nat) (xs : List Nat) (L : List (Nat × Nat)) (i kk : Int) (sq : Nat) (er ra rb : Int) (d : ByteArray) (en : Int) (w0 w : World) (Ps : List Pr) (h : Own w0 w Ps) (hk : Ps[k]? = some (viewP g xs L)) (hs : 0 ≤ slotV i kk) (h1 : 1 ≤ sq) (h2 : sq ≤ 1099511627776) (hy : mayR er d.size = true) (he : hasS i true xs.length = en) (hne : en ≠ 0) :
    Calls Try.prog 27 #[.pointer (some ⟨g, 0, none⟩), .int .i64 i, .int .i64 kk, .int .u64 (sq : Int), .agg #[.int .i64 er, .int .u64 ra, .int .u64 rb, .string d]] w fun e w' => e = .returned (.int .i64 en) ∧ Own w0 w' Ps := by
  have hkl := (List.getElem?_eq_some_iff.1 hk).1
  obtain ⟨X, HX⟩ : ∃ X, Hid (X = w.heap.size) := ⟨_, Lib.hid rfl⟩
  have hO : Own w0 (w.alloc (.cells #[.int .i64 er, .int .u64 ra, .int .u64 rb, .string d] 39)) (Ps ++ [boxP X 39 #[.int .i64 er, .int .u64 ra, .int .u64 rb, .string d]]) := by rw [HX.out]; exact h.addBox _ _
  have Hk := Lib.hid (show ∀ Rs, (Ps ++ Rs)[k]? = some (viewP g xs L) from fun Rs => by rw [List.getElem?_append_left hkl]; exact hk)
  have Hres := Lib.hid (fun wx Rs (hO : Own w0 wx (Ps ++ (boxP X 39 #[.int .i64 er, .int .u64 ra, .int .u64 rb, .string d] :: Rs))) => show ResS X er ra rb d wx from Own.box hO Ps.length (by rw [List.getElem?_append_right (Nat.le_refl _), Nat.sub_self]; rfl))
  have HS := Lib.hid (fun wx => SlotAt_any i kk wx)
  have Hhas := Lib.hid (fun wx (hO : Own w0 wx (Ps ++ [boxP X 39 #[.int .i64 er, .int .u64 ra, .int .u64 rb, .string d]])) => hasQ k g xs L i true en w0 wx _ hO (Hk.out _) he)
  have qn : (en != 0) = true := by simp; omega
  generalize slotV i kk = sl at *
  have HM := Lib.hid (fun wx => slotMay_any er ra rb d wx)
  rw [hy] at HM
  have h1' : (1 : Int) ≤ (sq : Int) := by omega
  have h2' : (sq : Int) ≤ 1099511627776 := by omega
  clear h hk hkl he hne h1 h2 hy
  replace hO := Lib.hid hO
  go_enter Try.func27, Try.ntmps27
  go_wp2_with fail
  rw [← HX.out]
  refine (HS.out _).mono ?_
  rintro e w1 ⟨rfl, hg⟩
  have hO1 := Lib.hid (hO.out.quiet hg)
  clear hg hO
  obtain ⟨z0, z1, z2, z3⟩ := (Hres.out _ _ hO1.out).cells
  go_wp2_with fail
  refine (HM.out _).mono ?_
  rintro e w2 ⟨rfl, hg⟩
  have hO2 := Lib.hid (hO1.out.quiet hg)
  clear hg z0 z1 z2 z3 hO1
  have hO1 := hO2
  clear hO2
  go_wp2_with fail
  refine (Hhas.out _ hO1.out).mono ?_
  rintro e w3 ⟨rfl, hO3⟩
  replace hO3 := Lib.hid hO3
  go_wp2
  go_ret
  exact ⟨rfl, hO3.out.less⟩

end Go.Proofs.Ytdpkpphjpihhkaa
end
section
/- The reference of stage 10: a view of the document's, side by side with other things; Set. -/
namespace Go.Proofs.Ytdpkpphjpihhkaa
open Go.RowKit Go.Grommet

/-- The document's view, whatever its flag says. -/
def refQ (g : Nat) (xs : List Nat) (L : List (Nat × Nat)) : Pr where
  holds w F := ∃ b, RefIs w g F xs L b
  turn := fun h ht hn => by obtain ⟨b, h⟩ := h; exact ⟨b, h.turn ht hn⟩
  old := fun h => by obtain ⟨_, _, _, h⟩ := h; exact h.old
theorem RGetQ (k g : Nat) (xs : List Nat) (L : List (Nat × Nat)) (a : Int) (w0 w : World) (Ps : List Pr) (h : Own w0 w Ps) (hk : Ps[k]? = some (refQ g xs L)) :
    Calls Try.prog 68 #[.pointer (some ⟨g, 0, none⟩), .int .i64 a] w fun e w' => e = .returned (.int .u64 (gotI xs L a : Int)) ∧ w' = w := by
  obtain ⟨F, b, h1⟩ := h.get k hk
  refine (RefGet_any g F xs L b a w h1).mono ?_
  rintro e w' ⟨rfl, rfl⟩
  exact ⟨rfl, rfl⟩
theorem RPutQ (k g : Nat) (xs : List Nat) (L : List (Nat × Nat)) (a : Int) (v : Nat) (en : Int) (w0 w : World) (Ps Qs : List Pr) (h : Own w0 w Ps) (hk : Ps[k]? = some (refQ g xs L)) (hv : v < 18446744073709551616)
    (he : (putEI xs L a : Int) = en) (hQ : Ps.set k (refQ g xs (putI xs L a v)) = Qs) :
    Calls Try.prog 78 #[.pointer (some ⟨g, 0, none⟩), .int .i64 a, .int .u64 (v : Int)] w fun e w' => e = .returned (.int .i64 en) ∧ Own w0 w' Qs := by
  obtain ⟨F, ⟨b, h1⟩, h2⟩ := h.take k hk
  refine (RefPut_any g F xs L b a v w h1 hv).mono ?_
  rintro e w' ⟨rfl, F', hF', hd1, hd2⟩
  subst he
  subst hQ
  exact ⟨rfl, h2 w' _ ⟨F', ⟨_, hF'⟩, hd1, hd2⟩⟩
/-- What its cells hold. -/
theorem ref_cells {w0 w : World} {Ps : List Pr} (h : Own w0 w Ps) (k : Nat) {g : Nat} {xs : List Nat} {L : List (Nat × Nat)} (hk : Ps[k]? = some (refQ g xs L)) :
    (∃ ad cap, w.cell? ⟨g, 0, none⟩ = some (.slice ad xs.length cap)) ∧ (∃ ad cap, w.cell? ⟨g, 1, none⟩ = some (.slice ad L.length cap)) ∧ xs.length ≤ 549755813888 ∧ (∀ n ∈ xs, n < 18446744073709551616) ∧ Wl xs.length L := by
  obtain ⟨F, b, vi, vl, h1⟩ := h.get k hk
  obtain ⟨c0, c1, _⟩ := h1.cells
  obtain ⟨ad, cap, he, _⟩ := row_slice h1.words
  obtain ⟨ad', cap', he', _⟩ := row_slice h1.writes
  subst he he'
  exact ⟨⟨ad, cap, c0⟩, ⟨ad', cap', c1⟩, h1.fits, h1.small, h1.good⟩

set_option maxRecDepth 100000 in
set_option maxHeartbeats 1000000 in
theorem RSetQ (k g : Nat) (xs : List Nat) (L : List (Nat × Nat)) (a : Int) (v : Nat) (en : Int) (w0 w : World) (Ps Qs : List Pr) (h : Own w0 w Ps) (hk : Ps[k]? = some (refQ g xs L)) (hv : v < 18446744073709551616)
    (he : (setE xs L a v : Int) = en) (hQ : Ps.set k (refQ g xs (setL xs L a v)) = Qs) :
    Calls Try.prog 62 #[.pointer (some ⟨g, 0, none⟩), .int .i64 a, .int .u64 (v : Int)] w fun e w' => e = .returned (.int .i64 en) ∧ Own w0 w' Qs := by
  obtain ⟨⟨ad, cap, c0⟩, _, hfit, _, _⟩ := ref_cells h k hk
  have HG := Lib.hid (RGetQ k g xs L a w0 w Ps h hk)
  have hQs : Ps.set k (refQ g xs L) = Ps := by
    apply List.ext_getElem?
    intro i
    by_cases hi : i = k
    · subst hi; rw [List.getElem?_set_self (List.getElem?_eq_some_iff.1 hk).1, hk]
    · rw [List.getElem?_set_ne (fun e => hi e.symm)]
  by_cases hr : 0 ≤ a ∧ a < (xs.length : Int)
  · unfold setE at he
    unfold setL at hQ
    rw [if_pos hr] at he hQ
    have hgi : gotI xs L a = gotV xs L a.toNat := by unfold gotI; rw [if_pos hr]
    rw [hgi] at HG
    have a0 : ¬ a < 0 := by omega
    have a1 : ¬ (xs.length : Int) ≤ a := by omega
    by_cases hx : gotV xs L a.toNat = v
    · rw [if_pos hx] at he hQ
      rw [hx] at HG
      rw [hQs] at hQ
      subst he hQ
      have h := Lib.hid h
      generalize xs.length = n at *
      have e1 : ((v : Int) == (v : Int)) = true := by simp
      clear hx hgi hv hQs
      go_enter Try.func62, Try.ntmps62
      go_wp2_with fail
      refine HG.out.mono ?_
      rintro e w2 ⟨rfl, rfl⟩
      go_wp2
      go_ret
      exact ⟨rfl, h.out⟩
    · rw [if_neg hx] at he hQ
      have HP := Lib.hid (RPutQ k g xs L a v en w0 w Ps Qs h hk hv (by unfold putEI; rw [if_pos hr]; exact he) (by unfold putI; rw [if_pos hr]; exact hQ))
      generalize gotV xs L a.toNat = u at *
      generalize xs.length = n at *
      have e1 : ((u : Int) == (v : Int)) = false := by simp; omega
      clear hx hgi hv hQs he hQ h
      go_enter Try.func62, Try.ntmps62
      go_wp2_with fail
      refine HG.out.mono ?_
      rintro e w2 ⟨rfl, rfl⟩
      go_wp2_with fail
      refine HP.out.mono ?_
      rintro e w3 ⟨rfl, hO⟩
      go_wp2
      go_ret
      exact ⟨rfl, hO⟩
  · unfold setE at he
    unfold setL at hQ
    rw [if_neg hr] at he hQ
    rw [hQs] at hQ
    subst he hQ
    have h := Lib.hid h
    clear HG hQs hk
    by_cases a0 : a < 0
    · generalize xs.length = n at *
      clear hr hv
      go_enter Try.func62, Try.ntmps62
      go_wp2
      go_ret
      exact ⟨rfl, h.out⟩
    · have a1 : (xs.length : Int) ≤ a := by omega
      generalize xs.length = n at *
      clear hr hv
      go_enter Try.func62, Try.ntmps62
      go_wp2
      go_ret
      exact ⟨rfl, h.out⟩
end Go.Proofs.Ytdpkpphjpihhkaa
end
section
/- The reference of stage 10: All, May. -/
namespace Go.Proofs.Ytdpkpphjpihhkaa
open Go.RowKit Go.Grommet

def seqS (at_ : Int) : List Nat → List (Int × Nat)
  | [] => []
  | v :: t => (at_, v) :: seqS (at_ + 1) t
theorem all_cons (xs : List Nat) (L : List (Nat × Nat)) (p : Int) (v : Nat) (t : List (Int × Nat)) : (setE xs L p v = 0 → allE xs L ((p, v) :: t) = allE xs (setL xs L p v) t ∧ allL xs L ((p, v) :: t) = allL xs (setL xs L p v) t) ∧ (setE xs L p v ≠ 0 → allE xs L ((p, v) :: t) = setE xs L p v ∧ allL xs L ((p, v) :: t) = setL xs L p v) := by
  constructor
  · intro e
    exact ⟨by show (if setE xs L p v = 0 then _ else _) = _; rw [if_pos e], by show (if setE xs L p v = 0 then _ else _) = _; rw [if_pos e]⟩
  · intro e
    exact ⟨by show (if setE xs L p v = 0 then _ else _) = _; rw [if_neg e], by show (if setE xs L p v = 0 then _ else _) = _; rw [if_neg e]⟩

set_option maxRecDepth 100000 in
set_option maxHeartbeats 2000000 in
theorem RAllQ (k j g : Nat) (xs : List Nat) (L : List (Nat × Nat)) (at_ : Int) (ws : List Nat) (ad : Option Addr) (n cap : Nat) (hn : ws.length = n) (hnb : n ≤ 1000) (hat : -1000000 ≤ at_ ∧ at_ ≤ 1000000000) (w0 w : World) (Ps : List Pr) (h : Own w0 w Ps) (hk : Ps[k]? = some (refQ g xs L)) (hj : Ps[j]? = some (rowP 36 1 (.slice ad n cap) n (ws.map wv))) (hjk : j ≠ k) (hws : ∀ v ∈ ws, v < 18446744073709551616)
    (E : Nat) (LF : List (Nat × Nat)) (hE : allE xs L (seqS at_ ws) = E) (hLF : allL xs L (seqS at_ ws) = LF) :
    Calls Try.prog 61 #[.pointer (some ⟨g, 0, none⟩), .int .i64 at_, .slice ad n cap] w fun e w' => e = .returned (.int .i64 (E : Int)) ∧ Own w0 w' (Ps.set k (refQ g xs LF)) := by
  have hQs : Ps.set k (refQ g xs L) = Ps := by
    apply List.ext_getElem?
    intro i
    by_cases hi : i = k
    · subst hi; rw [List.getElem?_set_self (List.getElem?_eq_some_iff.1 hk).1, hk]
    · rw [List.getElem?_set_ne (fun e => hi e.symm)]
  have hkl := (List.getElem?_eq_some_iff.1 hk).1
  have h' : Own w0 w (Ps.set k (refQ g xs L)) := by rw [hQs]; exact h
  have hO := Lib.hid h'
  have HE := Lib.hid (show allE xs L (seqS (at_ + ((0 : Nat) : Int)) (ws.drop 0)) = E ∧ allL xs L (seqS (at_ + ((0 : Nat) : Int)) (ws.drop 0)) = LF by
    rw [show at_ + ((0 : Nat) : Int) = at_ by omega]; exact ⟨hE, hLF⟩)
  have Hn := Lib.hid hn
  have Hkl := Lib.hid hkl
  have Hj := Lib.hid hj
  have Hjk := Lib.hid hjk
  have Hws := Lib.hid hws
  clear hQs h' h hk hE hLF hn hkl hj hjk hws
  go_enter Try.func61, Try.ntmps61
  go_wp2_with fail
  go_loopw [7] (fun i wr => ∃ (c : Nat) (M : List (Nat × Nat)), c ≤ n ∧ i = .int .i64 (c : Int) ∧ Hid (allE xs M (seqS (at_ + (c : Int)) (ws.drop c)) = E ∧ allL xs M (seqS (at_ + (c : Int)) (ws.drop c)) = LF) ∧ Hid (Own w0 wr (Ps.set k (refQ g xs M)))) (fun i _ => n - (intOf i).toNat)
  case atStart => exact ⟨0, L, Nat.zero_le _, rfl, HE, hO⟩
  case round =>
    clear hO HE
    obtain ⟨c, M, hc, rfl, HE, hO⟩ := hrel
    have c0 : (0 : Int) ≤ (c : Int) := by omega
    by_cases hlt : c < n
    · have hlt' : (c : Int) < (n : Int) := by omega
      obtain ⟨A, hA⟩ : ∃ A, at_ + (c : Int) = A := ⟨_, rfl⟩
      have wA : IntKind.i64.wrap A = A := IntWalk.i64_in _ ⟨by omega, by omega⟩
      obtain ⟨v, hv⟩ : ∃ v, ws.getD c 0 = v := ⟨_, rfl⟩
      have hd : ws.drop c = v :: ws.drop (c + 1) := by
        rw [List.drop_eq_getElem_cons (by rw [Hn.out]; exact hlt), ← hv, List.getD_eq_getElem?_getD, List.getElem?_eq_getElem (by rw [Hn.out]; exact hlt)]; rfl
      obtain ⟨b, had, cK, _, _⟩ := Own.word hO.out j (by rw [List.getElem?_set_ne (fun e => Hjk.out e.symm)]; exact Hj.out) Hn.out c hlt
      subst had
      rw [hv] at cK
      have hv64 : v < 18446744073709551616 := Hws.out v (by rw [← hv, List.getD_eq_getElem?_getD, List.getElem?_eq_getElem (by rw [Hn.out]; exact hlt)]; exact List.getElem_mem _)
      have he := HE.out
      rw [hd, hA] at he
      obtain ⟨p1, p2⟩ := all_cons xs M A v (seqS (A + 1) (ws.drop (c + 1)))
      obtain ⟨en, hen⟩ : ∃ en, setE xs M A v = en := ⟨_, rfl⟩
      obtain ⟨M2, hM2⟩ : ∃ M2, setL xs M A v = M2 := ⟨_, rfl⟩
      have HS := Lib.hid (RSetQ k g xs M A v (en : Int) w0 wr _ (Ps.set k (refQ g xs M2)) hO.out (List.getElem?_set_self Hkl.out) hv64 (by rw [hen]) (by rw [List.set_set, hM2]))
      rw [hen, hM2] at p1 p2
      have he1 : allE xs M ((A, v) :: seqS (A + 1) (ws.drop (c + 1))) = E ∧ allL xs M ((A, v) :: seqS (A + 1) (ws.drop (c + 1))) = LF := he
      by_cases e0 : en = 0
      · have hnx := Lib.hid (show allE xs M2 (seqS (at_ + ((c + 1 : Nat) : Int)) (ws.drop (c + 1))) = E ∧ allL xs M2 (seqS (at_ + ((c + 1 : Nat) : Int)) (ws.drop (c + 1))) = LF by
          rw [show at_ + ((c + 1 : Nat) : Int) = A + 1 by omega, ← (p1 e0).1, ← (p1 e0).2]; exact he1)
        have q0 : ((en : Int) != 0) = false := by rw [e0]; rfl
        have Hlt := Lib.hid (show c + 1 ≤ n by omega)
        clear he he1 p1 p2 hen hM2 hd hv hv64 hO e0 HE hlt
        go_wp2_with fail
        refine HS.out.mono ?_
        rintro e w2 ⟨rfl, hO2⟩
        have hO2 := Lib.hid hO2
        clear HS
        go_wp2
        go_roundw
        case rel => exact ⟨c + 1, M2, Hlt.out, by go_num, hnx, hO2⟩
        case measure => have := Hlt.out; simp [intOf]; omega
      · have hfin : en = E ∧ M2 = LF := ⟨by rw [← (p2 e0).1]; exact he1.1, by rw [← (p2 e0).2]; exact he1.2⟩
        obtain ⟨f1, f2⟩ := hfin
        have q0 : ((en : Int) != 0) = true := by simp; omega
        clear he he1 p1 p2 hen hM2 hd hv hv64 hO e0 HE hlt
        subst f1 f2
        go_wp2_with fail
        refine HS.out.mono ?_
        rintro e w2 ⟨rfl, hO2⟩
        clear HS
        go_wp2
        go_ret
        exact ⟨rfl, hO2⟩
    · have hlt' : ¬ (c : Int) < (n : Int) := by omega
      have he := HE.out
      rw [List.drop_eq_nil_of_le (by rw [Hn.out]; omega)] at he
      obtain ⟨f1, f2⟩ := he
      have f1 : 0 = E := f1
      have f2 : M = LF := f2
      subst f1 f2
      clear HE hlt
      go_wp2
      go_ret
      exact ⟨rfl, hO.out⟩
end Go.Proofs.Ytdpkpphjpihhkaa
end
section
/- The reference of stage 10: is that session there? -/
namespace Go.Proofs.Ytdpkpphjpihhkaa
open Go.RowKit Go.Grommet

def thereV (n : Nat) (i k : Int) : Nat := if (0 ≤ i ∧ i < 4) ∧ 0 ≤ k ∧ k < 4 then (if (n : Int) < sessionV i + 64 then 8 else 0) else 1
set_option maxRecDepth 100000 in
set_option maxHeartbeats 2000000 in
theorem RThereQ (k g : Nat) (xs : List Nat) (L : List (Nat × Nat)) (i kk : Int) (w0 w : World) (Ps : List Pr) (h : Own w0 w Ps) (hk : Ps[k]? = some (refQ g xs L)) :
    Calls Try.prog 59 #[.pointer (some ⟨g, 0, none⟩), .int .i64 i, .int .i64 kk] w fun e w' => e = .returned (.int .i64 (thereV xs.length i kk : Int)) ∧ w.grownBy w' none := by
  obtain ⟨⟨ad, cap, c0⟩, _, hfit, _, _⟩ := ref_cells h k hk
  generalize xs.length = n at *
  clear h hk
  unfold thereV
  by_cases h0 : 0 ≤ i
  · by_cases h1 : i < 4
    · by_cases h2 : 0 ≤ kk
      · by_cases h3 : kk < 4
        · rw [if_pos ⟨⟨h0, h1⟩, h2, h3⟩]
          have HS := Lib.hid (fun wx => RSessionAt_any i wx)
          obtain ⟨A, hA⟩ : ∃ A, sessionV i = A := ⟨_, rfl⟩
          have hAb : 8 ≤ A ∧ A ≤ 200 := by rw [← hA]; unfold sessionV; rw [if_pos ⟨h0, h1⟩]; omega
          rw [hA] at HS ⊢
          have a0 : ¬ i < 0 := by omega
          have a1 : ¬ 4 ≤ i := by omega
          have a2 : ¬ kk < 0 := by omega
          have a3 : ¬ 4 ≤ kk := by omega
          have wA : IntKind.i64.wrap (A + 64) = A + 64 := IntWalk.i64_in _ ⟨by omega, by omega⟩
          obtain ⟨R, HR⟩ : ∃ R : Nat, Hid (R = if (n : Int) < A + 64 then 8 else 0) := ⟨_, Lib.hid rfl⟩
          rw [← HR.out]
          clear h0 h1 h2 h3 hA
          go_enter Try.func59, Try.ntmps59
          go_wp2_with fail
          refine wp_region_held_drew (S := fun w' => w'.cell? ⟨g, 0, none⟩ = some (.slice ad n cap) ∧ w.grownBy w' none) (by kernel_rfl) (⟨c0, grown_drew (World.grownBy.refl _ none)⟩) (fun hS => ?_)
          refine wpAnyH_take (i := 0) (oi := { dst := some 21, op := Op.move (Operand.tmp 0), type := 34, pos := "ref.go:55", after := #[], guard := none }) (v := ?vth59r3o0) rfl (by kernel_rfl) (by kernel_rfl) (by kernel_rfl) (fun _ _ _ h => h) (Or.inl ⟨by rfl, ?hth59r3o0⟩) hS ?_
          case hth59r3o0 => (intro wx hx; skip; go_simp; (try with_reducible rfl))
          try simp only [Act.put, List.setIfInBounds_toArray, List.set_cons_zero, List.set_cons_succ]
          refine wpAnyH_take (i := 1) (oi := { dst := some 22, op := Op.nilCheck (Operand.tmp 21), type := 0, pos := "ref.go:55", after := #[{ on := 0, ground := Ground.data }], guard := none }) (v := ?vth59r3o1) rfl (by kernel_rfl) (by kernel_rfl) (by kernel_rfl) (fun _ _ _ h => h) (Or.inl ⟨by rfl, ?hth59r3o1⟩) hS ?_
          case hth59r3o1 => (intro wx hx; skip; go_simp; (try with_reducible rfl))
          try simp only [Act.put, List.setIfInBounds_toArray, List.set_cons_zero, List.set_cons_succ]
          refine wpAnyH_take (i := 2) (oi := { dst := some 23, op := Op.fieldAddr 44 (Operand.tmp 22) 0, type := 0, pos := "ref.go:55", after := #[{ on := 1, ground := Ground.data }], guard := none }) (v := ?vth59r3o2) rfl (by kernel_rfl) (by kernel_rfl) (by kernel_rfl) (fun _ _ _ h => h) (Or.inl ⟨by rfl, ?hth59r3o2⟩) hS ?_
          case hth59r3o2 => (intro wx hx; skip; go_simp; (try with_reducible rfl))
          try simp only [Act.put, List.setIfInBounds_toArray, List.set_cons_zero, List.set_cons_succ]
          refine wpAnyH_take (i := 3) (oi := { dst := some 24, op := Op.load 27 (Operand.tmp 23), type := 27, pos := "ref.go:55", after := #[{ on := 2, ground := Ground.data }], guard := none }) (v := ?vth59r3o3) rfl (by kernel_rfl) (by kernel_rfl) (by kernel_rfl) (fun _ _ _ h => h) (Or.inl ⟨by rfl, ?hth59r3o3⟩) hS ?_
          case hth59r3o3 => (intro wx hx; have hx0 := hx.1; go_simp; (try with_reducible rfl))
          try simp only [Act.put, List.setIfInBounds_toArray, List.set_cons_zero, List.set_cons_succ]
          refine wpAnyH_take (i := 4) (oi := { dst := some 25, op := Op.call { callee := Callee.builtin Builtin.len, args := #[Operand.tmp 24], argTypes := #[27] }, type := 3, pos := "ref.go:55", after := #[{ on := 3, ground := Ground.data }], guard := none }) (v := ?vth59r3o4) rfl (by kernel_rfl) (by kernel_rfl) (by kernel_rfl) (fun _ _ _ h => h) (Or.inl ⟨by rfl, ?hth59r3o4⟩) hS ?_
          case hth59r3o4 => (intro wx hx; skip; go_simp; (try with_reducible rfl))
          try simp only [Act.put, List.setIfInBounds_toArray, List.set_cons_zero, List.set_cons_succ]
          refine wpAnyH_take (i := 5) (oi := { dst := some 26, op := Op.move (Operand.tmp 1), type := 3, pos := "ref.go:55", after := #[], guard := none }) (v := ?vth59r3o5) rfl (by kernel_rfl) (by kernel_rfl) (by kernel_rfl) (fun _ _ _ h => h) (Or.inl ⟨by rfl, ?hth59r3o5⟩) hS ?_
          case hth59r3o5 => (intro wx hx; skip; go_simp; (try with_reducible rfl))
          try simp only [Act.put, List.setIfInBounds_toArray, List.set_cons_zero, List.set_cons_succ]
          refine wpAnyH_ready (rs := [6]) (by kernel_rfl) (by simp) ?_
          refine AllReadyH.cons (o := { dst := some 27, op := Op.call { callee := Callee.value (Operand.func 29), args := #[Operand.tmp 26], argTypes := #[3] }, type := 3, pos := "ref.go:55", after := #[{ on := 5, ground := Ground.data }], guard := none }) rfl (fun K hK => ?_) AllReadyH.nil
          go_simp
          refine (HS.out _).mono ?_
          rintro e wB ⟨rfl, hgB⟩
          have hS1 : wB.cell? ⟨g, 0, none⟩ = some (.slice ad n cap) ∧ w.grownBy wB none := ⟨hgB.cell hS.1 (by simp), grown_trans hS.2 hgB⟩
          refine hK.out _ _ ?hsth59r3o6 (fun hS => ?_)
          case hsth59r3o6 => (exact hS1)
          clear hK K
          try simp only [Act.put, List.setIfInBounds_toArray, List.set_cons_zero, List.set_cons_succ]
          refine wpAnyH_take (i := 7) (oi := { dst := some 28, op := Op.binOp BinOp.add 3 (Operand.tmp 27) (Operand.const (Value.int IntKind.i64 64)) 3, type := 3, pos := "ref.go:55", after := #[{ on := 6, ground := Ground.data }], guard := none }) (v := ?vth59r3o7) rfl (by kernel_rfl) (by kernel_rfl) (by kernel_rfl) (fun _ _ _ h => h) (Or.inl ⟨by rfl, ?hth59r3o7⟩) hS ?_
          case hth59r3o7 => (intro wx hx; skip; go_simp; (try with_reducible rfl))
          try simp only [Act.put, List.setIfInBounds_toArray, List.set_cons_zero, List.set_cons_succ]
          refine wpAnyH_take (i := 8) (oi := { dst := some 29, op := Op.binOp BinOp.lss 3 (Operand.tmp 25) (Operand.tmp 28) 3, type := 4, pos := "ref.go:55", after := #[{ on := 4, ground := Ground.data }, { on := 7, ground := Ground.data }], guard := none }) (v := ?vth59r3o8) rfl (by kernel_rfl) (by kernel_rfl) (by kernel_rfl) (fun _ _ _ h => h) (Or.inl ⟨by rfl, ?hth59r3o8⟩) hS ?_
          case hth59r3o8 => (intro wx hx; skip; go_simp; (try with_reducible rfl))
          try simp only [Act.put, List.setIfInBounds_toArray, List.set_cons_zero, List.set_cons_succ]
          refine wpAnyH_done (by kernel_rfl) ?_ _
          have hgE := Lib.hid hS.2
          clear hS
          by_cases c : (n : Int) < A + 64
          · have hR : R = 8 := by rw [HR.out, if_pos c]
            subst hR
            go_wp2
            go_ret
            exact ⟨rfl, hgE.out⟩
          · have hR : R = 0 := by rw [HR.out, if_neg c]
            subst hR
            go_wp2
            go_ret
            exact ⟨rfl, hgE.out⟩
        · rw [if_neg (fun h => h3 h.2.2)]
          have a0 : ¬ i < 0 := by omega
          have a1 : ¬ 4 ≤ i := by omega
          have a2 : ¬ kk < 0 := by omega
          have a3 : 4 ≤ kk := by omega
          clear h0 h1 h2 h3
          go_enter Try.func59, Try.ntmps59
          go_wp2
          go_ret
          exact ⟨rfl, World.grownBy.refl _ none⟩
      · rw [if_neg (fun h => h2 h.2.1)]
        have a0 : ¬ i < 0 := by omega
        have a1 : ¬ 4 ≤ i := by omega
        have a2 : kk < 0 := by omega
        clear h0 h1 h2
        go_enter Try.func59, Try.ntmps59
        go_wp2
        go_ret
        exact ⟨rfl, World.grownBy.refl _ none⟩
    · rw [if_neg (fun h => h1 h.1.2)]
      have a0 : ¬ i < 0 := by omega
      have a1 : 4 ≤ i := by omega
      clear h0 h1
      go_enter Try.func59, Try.ntmps59
      go_wp2
      go_ret
      exact ⟨rfl, World.grownBy.refl _ none⟩
  · rw [if_neg (fun h => h0 h.1.1)]
    have a0 : i < 0 := by omega
    clear h0
    go_enter Try.func59, Try.ntmps59
    go_wp2
    go_ret
    exact ⟨rfl, World.grownBy.refl _ none⟩
end Go.Proofs.Ytdpkpphjpihhkaa
end
section
/- The reference of stage 10: Get of a head. -/
namespace Go.Proofs.Ytdpkpphjpihhkaa
open Go.RowKit Go.Grommet

set_option maxRecDepth 100000 in
set_option maxHeartbeats 2000000 in
theorem RHeadNo (k g : Nat) (xs : List Nat) (L : List (Nat × Nat)) (i : Int) (t : Nat) (ht : thereV xs.length i 0 = t) (hne : t ≠ 0) (w0 w : World) (Ps : List Pr) (h : Own w0 w Ps) (hk : Ps[k]? = some (refQ g xs L)) :
    Calls Try.prog 44 #[.pointer (some ⟨g, 0, none⟩), .int .i64 i] w fun e w' => e = .returned (.tuple #[.agg #[.bool false, .int .u64 0, .int .u64 0], .int .i64 (t : Int)]) ∧ Own w0 w' Ps := by
  have qt : ((t : Int) != 0) = true := by simp; omega
  have hkl := (List.getElem?_eq_some_iff.1 hk).1
  obtain ⟨X, HX⟩ : ∃ X, Hid (X = w.heap.size) := ⟨_, Lib.hid rfl⟩
  have hO : Own w0 (w.alloc (.cells #[.bool false, .int .u64 0, .int .u64 0] 94)) (Ps ++ [boxP X 94 #[.bool false, .int .u64 0, .int .u64 0]]) := by rw [HX.out]; exact h.addBox _ _
  have Hk := Lib.hid (show ∀ Rs, (Ps ++ Rs)[k]? = some (refQ g xs L) from fun Rs => by rw [List.getElem?_append_left hkl]; exact hk)
  have HT := Lib.hid (RThereQ k g xs L i 0 w0 _ _ hO (Hk.out _))
  rw [ht] at HT
  replace hO := Lib.hid hO
  clear h hk hkl ht
  clear hne
  go_enter Try.func44, Try.ntmps44
  go_wp2_with fail
  rw [← HX.out]
  refine HT.out.mono ?_
  rintro e w5 ⟨rfl, hg⟩
  have hO5 := hO.out.quiet hg
  clear HT hO hg
  have hz : w5.heap[X]? = some (.cells #[.bool false, .int .u64 0, .int .u64 0] 94 (0, 0)) := Own.box hO5 Ps.length (by rw [List.getElem?_append_right (Nat.le_refl _), Nat.sub_self]; rfl)
  have Hq : Hid (∀ w6 : World, w5.grownBy w6 (some X) → Own w0 w6 Ps) := Lib.hid (fun w6 hg => hO5.forget hg)
  have m0 : w5.cell? ⟨X, 0, none⟩ = some (.bool false) := by simp [World.cell?, hz]
  have q0 : w5.frozen? ⟨X, 0, none⟩ = false := by simp [World.frozen?, hz]
  have m1 : w5.cell? ⟨X, 1, none⟩ = some (.int .u64 0) := by simp [World.cell?, hz]
  have q1 : w5.frozen? ⟨X, 1, none⟩ = false := by simp [World.frozen?, hz]
  have m2 : w5.cell? ⟨X, 2, none⟩ = some (.int .u64 0) := by simp [World.cell?, hz]
  have q2 : w5.frozen? ⟨X, 2, none⟩ = false := by simp [World.frozen?, hz]
  have hz1 := heap_setCell_at (o := 0) hz (.bool false)
  have hz2 := heap_setCell_at (o := 1) hz1 (.int .u64 0)
  have hz3 := heap_setCell_at (o := 2) hz2 (.int .u64 0)
  have g1 : w5.grownBy (((w5.setCell ⟨X, 0, none⟩ (.bool false)).setCell ⟨X, 1, none⟩ (.int .u64 0)).setCell ⟨X, 2, none⟩ (.int .u64 0)) (some X) := grown_trans (grown_trans (grown_setCell _ ⟨X, 0, none⟩ _) (grown_setCell _ ⟨X, 1, none⟩ _)) (grown_setCell _ ⟨X, 2, none⟩ _)
  obtain ⟨W3, hW3⟩ : ∃ W3, W3 = (((w5.setCell ⟨X, 0, none⟩ (.bool false)).setCell ⟨X, 1, none⟩ (.int .u64 0)).setCell ⟨X, 2, none⟩ (.int .u64 0)) := ⟨_, rfl⟩
  clear hz1 hz2 hO5
  go_wp2_with fail
  rw [← hW3] at hz3 g1 ⊢
  have Z0 : W3.cell? ⟨X, 0, none⟩ = some (.bool false) := by simp [World.cell?, hz3]
  have Z1 : W3.cell? ⟨X, 1, none⟩ = some (.int .u64 0) := by simp [World.cell?, hz3]
  have Z2 : W3.cell? ⟨X, 2, none⟩ = some (.int .u64 0) := by simp [World.cell?, hz3]
  exact bodyPost_ret (v := .tuple #[.agg #[(.bool false), (.int .u64 0), (.int .u64 0)], .int .i64 (t : Int)]) (by simp [results, Try.results44, go_sem, Z0, Z1, Z2]) rfl ⟨rfl, Hq.out _ g1⟩

set_option maxRecDepth 100000 in
set_option maxHeartbeats 2000000 in
theorem RHeadBad (k g : Nat) (xs : List Nat) (L : List (Nat × Nat)) (i : Int) (A : Int) (o : Nat) (hat : sessionV i = A) (ht : thereV xs.length i 0 = 0) (ho : gotI xs L A = o) (hb : 1 < o) (w0 w : World) (Ps : List Pr) (h : Own w0 w Ps) (hk : Ps[k]? = some (refQ g xs L)) :
    Calls Try.prog 44 #[.pointer (some ⟨g, 0, none⟩), .int .i64 i] w fun e w' => e = .returned (.tuple #[.agg #[.bool false, .int .u64 0, .int .u64 0], .int .i64 4]) ∧ Own w0 w' Ps := by
  have HS := Lib.hid (fun wx => RSessionAt_any i wx)
  rw [hat] at HS
  have q : (1 : Int) < (o : Int) := by omega
  have hkl := (List.getElem?_eq_some_iff.1 hk).1
  obtain ⟨X, HX⟩ : ∃ X, Hid (X = w.heap.size) := ⟨_, Lib.hid rfl⟩
  have hO : Own w0 (w.alloc (.cells #[.bool false, .int .u64 0, .int .u64 0] 94)) (Ps ++ [boxP X 94 #[.bool false, .int .u64 0, .int .u64 0]]) := by rw [HX.out]; exact h.addBox _ _
  have Hk := Lib.hid (show ∀ Rs, (Ps ++ Rs)[k]? = some (refQ g xs L) from fun Rs => by rw [List.getElem?_append_left hkl]; exact hk)
  have HT := Lib.hid (RThereQ k g xs L i 0 w0 _ _ hO (Hk.out _))
  rw [ht] at HT
  replace hO := Lib.hid hO
  clear h hk hkl ht
  clear hat hb
  have Ho := Lib.hid ho
  clear ho
  go_enter Try.func44, Try.ntmps44
  go_wp2_with fail
  rw [← HX.out]
  refine HT.out.mono ?_
  rintro e w5 ⟨rfl, hg⟩
  have hO5 := hO.out.quiet hg
  clear HT hO hg
  go_wp2_with fail
  refine (HS.out _).mono ?_
  rintro e w6 ⟨rfl, hg⟩
  have hO6 := hO5.quiet hg
  clear hO5 hg HS
  have HG := Lib.hid (fun p => RGetQ k g xs L p w0 w6 _ hO6 (Hk.out _))
  go_wp2_with fail
  refine (HG.out _).mono ?_
  rintro e w7 ⟨rfl, rfl⟩
  rw [Ho.out]
  have hO5 := hO6
  have hz : w7.heap[X]? = some (.cells #[.bool false, .int .u64 0, .int .u64 0] 94 (0, 0)) := Own.box hO5 Ps.length (by rw [List.getElem?_append_right (Nat.le_refl _), Nat.sub_self]; rfl)
  have Hq : Hid (∀ w6 : World, w7.grownBy w6 (some X) → Own w0 w6 Ps) := Lib.hid (fun w6 hg => hO5.forget hg)
  have m0 : w7.cell? ⟨X, 0, none⟩ = some (.bool false) := by simp [World.cell?, hz]
  have q0 : w7.frozen? ⟨X, 0, none⟩ = false := by simp [World.frozen?, hz]
  have m1 : w7.cell? ⟨X, 1, none⟩ = some (.int .u64 0) := by simp [World.cell?, hz]
  have q1 : w7.frozen? ⟨X, 1, none⟩ = false := by simp [World.frozen?, hz]
  have m2 : w7.cell? ⟨X, 2, none⟩ = some (.int .u64 0) := by simp [World.cell?, hz]
  have q2 : w7.frozen? ⟨X, 2, none⟩ = false := by simp [World.frozen?, hz]
  have hz1 := heap_setCell_at (o := 0) hz (.bool false)
  have hz2 := heap_setCell_at (o := 1) hz1 (.int .u64 0)
  have hz3 := heap_setCell_at (o := 2) hz2 (.int .u64 0)
  have g1 : w7.grownBy (((w7.setCell ⟨X, 0, none⟩ (.bool false)).setCell ⟨X, 1, none⟩ (.int .u64 0)).setCell ⟨X, 2, none⟩ (.int .u64 0)) (some X) := grown_trans (grown_trans (grown_setCell _ ⟨X, 0, none⟩ _) (grown_setCell _ ⟨X, 1, none⟩ _)) (grown_setCell _ ⟨X, 2, none⟩ _)
  obtain ⟨W3, hW3⟩ : ∃ W3, W3 = (((w7.setCell ⟨X, 0, none⟩ (.bool false)).setCell ⟨X, 1, none⟩ (.int .u64 0)).setCell ⟨X, 2, none⟩ (.int .u64 0)) := ⟨_, rfl⟩
  clear hz1 hz2 hO5
  go_wp2_with fail
  rw [← hW3] at hz3 g1 ⊢
  have Z0 : W3.cell? ⟨X, 0, none⟩ = some (.bool false) := by simp [World.cell?, hz3]
  have Z1 : W3.cell? ⟨X, 1, none⟩ = some (.int .u64 0) := by simp [World.cell?, hz3]
  have Z2 : W3.cell? ⟨X, 2, none⟩ = some (.int .u64 0) := by simp [World.cell?, hz3]
  exact bodyPost_ret (v := .tuple #[.agg #[(.bool false), (.int .u64 0), (.int .u64 0)], .int .i64 4]) (by simp [results, Try.results44, go_sem, Z0, Z1, Z2]) rfl ⟨rfl, Hq.out _ g1⟩

set_option maxRecDepth 100000 in
set_option maxHeartbeats 2000000 in
theorem RHeadYes (k g : Nat) (xs : List Nat) (L : List (Nat × Nat)) (i : Int) (A : Int) (o ge mk : Nat) (ob : Bool) (hat : sessionV i = A) (hAb : 0 ≤ A ∧ A ≤ 1000) (ht : thereV xs.length i 0 = 0) (ho : gotI xs L A = o) (hob : ((o : Int) == 1) = ob) (hb : o ≤ 1) (hge : gotI xs L (A + 1) = ge) (hmk : gotI xs L (A + 2) = mk) (w0 w : World) (Ps : List Pr) (h : Own w0 w Ps) (hk : Ps[k]? = some (refQ g xs L)) :
    Calls Try.prog 44 #[.pointer (some ⟨g, 0, none⟩), .int .i64 i] w fun e w' => e = .returned (.tuple #[.agg #[.bool ob, .int .u64 (ge : Int), .int .u64 (mk : Int)], .int .i64 0]) ∧ Own w0 w' Ps := by
  have HS := Lib.hid (fun wx => RSessionAt_any i wx)
  rw [hat] at HS
  have q : ¬ (1 : Int) < (o : Int) := by omega
  have wA1 : IntKind.i64.wrap (A + 1) = A + 1 := IntWalk.i64_in _ ⟨by omega, by omega⟩
  have wA2 : IntKind.i64.wrap (A + 2) = A + 2 := IntWalk.i64_in _ ⟨by omega, by omega⟩
  have hkl := (List.getElem?_eq_some_iff.1 hk).1
  obtain ⟨X, HX⟩ : ∃ X, Hid (X = w.heap.size) := ⟨_, Lib.hid rfl⟩
  have hO : Own w0 (w.alloc (.cells #[.bool false, .int .u64 0, .int .u64 0] 94)) (Ps ++ [boxP X 94 #[.bool false, .int .u64 0, .int .u64 0]]) := by rw [HX.out]; exact h.addBox _ _
  have Hk := Lib.hid (show ∀ Rs, (Ps ++ Rs)[k]? = some (refQ g xs L) from fun Rs => by rw [List.getElem?_append_left hkl]; exact hk)
  have HT := Lib.hid (RThereQ k g xs L i 0 w0 _ _ hO (Hk.out _))
  rw [ht] at HT
  replace hO := Lib.hid hO
  clear h hk hkl ht
  clear hat hb
  have Ho := Lib.hid ho
  have Hge := Lib.hid hge
  have Hmk := Lib.hid hmk
  clear ho hge hmk
  go_enter Try.func44, Try.ntmps44
  go_wp2_with fail
  rw [← HX.out]
  refine HT.out.mono ?_
  rintro e w5 ⟨rfl, hg⟩
  have hO5 := hO.out.quiet hg
  clear HT hO hg
  go_wp2_with fail
  refine (HS.out _).mono ?_
  rintro e w6 ⟨rfl, hg⟩
  have hO6 := hO5.quiet hg
  clear hO5 hg HS
  have HG := Lib.hid (fun p => RGetQ k g xs L p w0 w6 _ hO6 (Hk.out _))
  go_wp2_with fail
  refine (HG.out _).mono ?_
  rintro e w7 ⟨rfl, rfl⟩
  rw [Ho.out]
  have hO5 := hO6
  have hz : w7.heap[X]? = some (.cells #[.bool false, .int .u64 0, .int .u64 0] 94 (0, 0)) := Own.box hO5 Ps.length (by rw [List.getElem?_append_right (Nat.le_refl _), Nat.sub_self]; rfl)
  have Hq : Hid (∀ w6 : World, w7.grownBy w6 (some X) → Own w0 w6 Ps) := Lib.hid (fun w6 hg => hO5.forget hg)
  have m0 : w7.cell? ⟨X, 0, none⟩ = some (.bool false) := by simp [World.cell?, hz]
  have q0 : w7.frozen? ⟨X, 0, none⟩ = false := by simp [World.frozen?, hz]
  have m1 : w7.cell? ⟨X, 1, none⟩ = some (.int .u64 0) := by simp [World.cell?, hz]
  have q1 : w7.frozen? ⟨X, 1, none⟩ = false := by simp [World.frozen?, hz]
  have m2 : w7.cell? ⟨X, 2, none⟩ = some (.int .u64 0) := by simp [World.cell?, hz]
  have q2 : w7.frozen? ⟨X, 2, none⟩ = false := by simp [World.frozen?, hz]
  have hz1 := heap_setCell_at (o := 0) hz (.bool ob)
  have hz2 := heap_setCell_at (o := 1) hz1 (.int .u64 (ge : Int))
  have hz3 := heap_setCell_at (o := 2) hz2 (.int .u64 (mk : Int))
  have g1 : w7.grownBy (((w7.setCell ⟨X, 0, none⟩ (.bool ob)).setCell ⟨X, 1, none⟩ (.int .u64 (ge : Int))).setCell ⟨X, 2, none⟩ (.int .u64 (mk : Int))) (some X) := grown_trans (grown_trans (grown_setCell _ ⟨X, 0, none⟩ _) (grown_setCell _ ⟨X, 1, none⟩ _)) (grown_setCell _ ⟨X, 2, none⟩ _)
  obtain ⟨W3, hW3⟩ : ∃ W3, W3 = (((w7.setCell ⟨X, 0, none⟩ (.bool ob)).setCell ⟨X, 1, none⟩ (.int .u64 (ge : Int))).setCell ⟨X, 2, none⟩ (.int .u64 (mk : Int))) := ⟨_, rfl⟩
  clear hz1 hz2 hO5
  go_wp2_with fail
  refine (HG.out _).mono ?_
  rintro e w8 ⟨rfl, hw8⟩
  rw [hw8, Ho.out]
  clear hw8
  go_wp2_with fail
  refine (HG.out _).mono ?_
  rintro e w8 ⟨rfl, hw8⟩
  rw [hw8, Hge.out]
  clear hw8
  go_wp2_with fail
  refine (HG.out _).mono ?_
  rintro e w8 ⟨rfl, hw8⟩
  rw [hw8, Hmk.out]
  clear hw8
  go_wp2_with fail
  rw [← hW3] at hz3 g1 ⊢
  have Z0 : W3.cell? ⟨X, 0, none⟩ = some (.bool ob) := by simp [World.cell?, hz3]
  have Z1 : W3.cell? ⟨X, 1, none⟩ = some (.int .u64 (ge : Int)) := by simp [World.cell?, hz3]
  have Z2 : W3.cell? ⟨X, 2, none⟩ = some (.int .u64 (mk : Int)) := by simp [World.cell?, hz3]
  exact bodyPost_ret (v := .tuple #[.agg #[(.bool ob), (.int .u64 (ge : Int)), (.int .u64 (mk : Int))], .int .i64 0]) (by simp [results, Try.results44, go_sem, Z0, Z1, Z2]) rfl ⟨rfl, Hq.out _ g1⟩

end Go.Proofs.Ytdpkpphjpihhkaa
end
section
/- The reference of stage 10: May. -/
namespace Go.Proofs.Ytdpkpphjpihhkaa
open Go.RowKit Go.Grommet

set_option maxRecDepth 100000 in
set_option maxHeartbeats 1000000 in
theorem RResMay_any (er ra rb : Int) (d : ByteArray) (w : World) : Calls Try.prog 58 #[.agg #[.int .i64 er, .int .u64 ra, .int .u64 rb, .string d]] w fun e w' => e = .returned (.bool (mayR er d.size)) ∧ w.grownBy w' none := by
  unfold mayR
  obtain ⟨n, hn⟩ : ∃ n, d.size = n := ⟨_, rfl⟩
  rw [hn]
  have hg := World.grownBy_alloc w (.cells #[.int .i64 er, .int .u64 ra, .int .u64 rb, .string d] 39) none
  have z0 : (w.alloc (.cells #[.int .i64 er, .int .u64 ra, .int .u64 rb, .string d] 39)).cell? ⟨w.heap.size, 0, none⟩ = some (.int .i64 er) := cell_new9 _ _ _ _
  have z3 : (w.alloc (.cells #[.int .i64 er, .int .u64 ra, .int .u64 rb, .string d] 39)).cell? ⟨w.heap.size, 3, none⟩ = some (.string d) := cell_new9 _ _ _ _
  by_cases h1 : 0 ≤ er
  · by_cases h2 : er ≤ 24
    · by_cases h3 : n ≤ 64
      · have h3' : (n : Int) ≤ 64 := by omega
        rw [show (decide (0 ≤ er) && decide (er ≤ 24) && decide (n ≤ 64)) = true from by rw [decide_eq_true h1, decide_eq_true h2, decide_eq_true h3]; rfl]
        go_enter Try.func58, Try.ntmps58
        go_wp2
        go_ret
        exact ⟨rfl, hg⟩
      · have h3' : ¬ (n : Int) ≤ 64 := by omega
        rw [show (decide (0 ≤ er) && decide (er ≤ 24) && decide (n ≤ 64)) = false from by rw [decide_eq_true h1, decide_eq_true h2, decide_eq_false h3]; rfl]
        go_enter Try.func58, Try.ntmps58
        go_wp2
        go_ret
        exact ⟨rfl, hg⟩
    · rw [show (decide (0 ≤ er) && decide (er ≤ 24) && decide (n ≤ 64)) = false from by rw [decide_eq_true h1, decide_eq_false h2]; rfl]
      go_enter Try.func58, Try.ntmps58
      go_wp2
      go_ret
      exact ⟨rfl, hg⟩
  · rw [show (decide (0 ≤ er) && decide (er ≤ 24) && decide (n ≤ 64)) = false from by rw [decide_eq_false h1]; rfl]
    go_enter Try.func58, Try.ntmps58
    go_wp2
    go_ret
    exact ⟨rfl, hg⟩


end Go.Proofs.Ytdpkpphjpihhkaa
end
section
/- The reference of stage 10: words in a row, as the program's steps tell them. -/
namespace Go.Proofs.Ytdpkpphjpihhkaa
open Go.RowKit Go.Grommet

theorem set_id {Ps : List Pr} {k : Nat} {P : Pr} (hk : Ps[k]? = some P) : Ps.set k P = Ps := by
  apply List.ext_getElem?
  intro i
  by_cases hi : i = k
  · subst hi; rw [List.getElem?_set_self (List.getElem?_eq_some_iff.1 hk).1, hk]
  · rw [List.getElem?_set_ne (fun e => hi e.symm)]
theorem there_has (i k : Int) (n : Nat) : (thereV n i k : Int) = hasS i (decide (0 ≤ slotV i k)) n := by
  unfold thereV hasS slotV sessionV
  by_cases h : (0 ≤ i ∧ i < 4) ∧ 0 ≤ k ∧ k < 4
  · have h1 := h.1
    rw [if_pos h, if_pos h1, if_pos h]
    have e : decide (0 ≤ 16 + 64 * i + 12 * k) = true := by simp; omega
    rw [e]
    by_cases c : (n : Int) < 8 + 64 * i + 64
    · rw [if_pos c, if_neg (by rintro (h | h); omega; cases h), if_pos c]; rfl
    · rw [if_neg c, if_neg (by rintro (h | h); omega; cases h), if_neg c]; rfl
  · rw [if_neg h, if_neg h]
    rw [if_pos (.inr (by decide))]; rfl
theorem slot_there {i k : Int} (h : 0 ≤ slotV i k) : (0 ≤ i ∧ i < 4) ∧ 0 ≤ k ∧ k < 4 := by
  unfold slotV at h
  split at h
  · rename_i h1; exact h1
  · omega
theorem head_has (i : Int) (n : Nat) : (thereV n i 0 : Int) = hasS i true n := by
  rw [there_has]
  by_cases h : 0 ≤ i ∧ i < 4
  · have e : decide (0 ≤ slotV i 0) = true := by unfold slotV; rw [if_pos (show (0 ≤ i ∧ i < 4) ∧ (0 : Int) ≤ 0 ∧ (0 : Int) < 4 from ⟨h, by omega⟩)]; simp; omega
    rw [e]
  · have e : sessionV i = -1 := by unfold sessionV; rw [if_neg h]
    unfold hasS
    rw [e, if_pos (.inl (by decide)), if_pos (.inl (by decide))]
theorem hasS_yes {i : Int} {m : Bool} {n : Nat} (h : hasS i m n = 0) : 0 ≤ sessionV i ∧ sessionV i ≤ 200 ∧ m = true ∧ sessionV i + 64 ≤ (n : Int) ∧ 0 ≤ i ∧ i < 4 := by
  unfold hasS at h
  split at h
  · cases h
  · rename_i h1
    split at h
    · cases h
    · rename_i h2
      have hm : m = true := by
        cases m with
        | true => rfl
        | false => exact absurd (.inr rfl) h1
      have h3 : ¬ sessionV i < 0 := fun c => h1 (.inl c)
      have h4 : sessionV i ≤ 200 ∧ (0 ≤ sessionV i → 0 ≤ i ∧ i < 4) := by unfold sessionV; split <;> omega
      exact ⟨by omega, h4.1, hm, by omega, (h4.2 (by omega)).1, (h4.2 (by omega)).2⟩

theorem seqS_snoc (v : Nat) : ∀ (A : List Nat) (p : Int), seqS p (A ++ [v]) = seqS p A ++ [(p + (A.length : Int), v)]
  | [], p => by show [(p, v)] = [(p + ((0 : Nat) : Int), v)]; rw [show p + ((0 : Nat) : Int) = p by omega]
  | a :: t, p => by
    show (p, a) :: seqS (p + 1) (t ++ [v]) = (p, a) :: (seqS (p + 1) t ++ [(p + ((t.length + 1 : Nat) : Int), v)])
    rw [seqS_snoc v t (p + 1), show p + 1 + (t.length : Int) = p + ((t.length + 1 : Nat) : Int) by omega]
theorem seqS_words (sl : Int) (ws : List Nat) : ∀ j, j ≤ ws.length → seqS (sl + 4) (ws.take j) = wordsT sl ws j
  | 0, _ => rfl
  | j + 1, hj => by
    rw [List.take_add_one, List.getElem?_eq_getElem (by omega)]
    show seqS (sl + 4) (ws.take j ++ [ws[j]]) = wordsT sl ws j ++ [(sl + 4 + (j : Int), ws.getD j 0)]
    rw [seqS_snoc, seqS_words sl ws j (by omega), List.length_take, Nat.min_eq_left (by omega), List.getD_eq_getElem?_getD, List.getElem?_eq_getElem (by omega)]
    rfl
theorem seqS_save (sl : Int) (C ra rb : Nat) (ws : List Nat) (J : Nat) (hJ : ws.length = J) : seqS (sl + 1) ([C, ra, rb] ++ ws) = [(sl + 1, C), (sl + 2, ra), (sl + 3, rb)] ++ wordsT sl ws J := by
  have h := seqS_words sl ws J (by omega)
  rw [List.take_of_length_le (by omega)] at h
  show (sl + 1, C) :: (sl + 1 + 1, ra) :: (sl + 1 + 1 + 1, rb) :: seqS (sl + 1 + 1 + 1 + 1) ws = _
  rw [show sl + 1 + 1 + 1 + 1 = sl + 4 by omega, h, show sl + 1 + 1 + 1 = sl + 3 by omega, show sl + 1 + 1 = sl + 2 by omega]
  rfl
theorem seqS_head (at_ : Int) (o ge mk : Nat) : seqS at_ [o, ge, mk] = [(at_, o), (at_ + 1, ge), (at_ + 2, mk)] := by
  show [(at_, o), (at_ + 1, ge), (at_ + 1 + 1, mk)] = _
  rw [show at_ + 1 + 1 = at_ + 2 by omega]
theorem all_app (xs : List Nat) (R : List (Int × Nat)) : ∀ (S : List (Int × Nat)) (L : List (Nat × Nat)), allE xs L S = 0 → allE xs L (S ++ R) = allE xs (allL xs L S) R ∧ allL xs L (S ++ R) = allL xs (allL xs L S) R
  | [], _, _ => ⟨rfl, rfl⟩
  | (a, v) :: t, L, h => by
    obtain ⟨p1, p2⟩ := all_cons xs L a v t
    obtain ⟨q1, q2⟩ := all_cons xs L a v (t ++ R)
    by_cases e : setE xs L a v = 0
    · have h' := h
      rw [(p1 e).1] at h'
      obtain ⟨r1, r2⟩ := all_app xs R t _ h'
      show allE xs L ((a, v) :: (t ++ R)) = _ ∧ allL xs L ((a, v) :: (t ++ R)) = _
      rw [(q1 e).1, (q1 e).2, (p1 e).2]
      exact ⟨r1, r2⟩
    · rw [(p2 e).1] at h
      exact absurd h e
theorem all_save (xs : List Nat) (L : List (Nat × Nat)) (sl : Int) (C ra rb : Nat) (ws : List Nat) (sq E1 : Nat) (M : List (Nat × Nat)) (h1 : allE xs L (seqS (sl + 1) ([C, ra, rb] ++ ws)) = E1) (h2 : allL xs L (seqS (sl + 1) ([C, ra, rb] ++ ws)) = M) :
    (E1 = 0 → allE xs L (saveS sl C ra rb ws sq) = setE xs M sl sq ∧ allL xs L (saveS sl C ra rb ws sq) = setL xs M sl sq) ∧ (E1 ≠ 0 → allE xs L (saveS sl C ra rb ws sq) = E1 ∧ allL xs L (saveS sl C ra rb ws sq) = M) := by
  have e : saveS sl C ra rb ws sq = seqS (sl + 1) ([C, ra, rb] ++ ws) ++ [(sl, sq)] := by
    rw [seqS_save sl C ra rb ws _ rfl, List.append_assoc]; rfl
  rw [e]
  subst h1 h2
  exact ⟨fun h => ⟨allE_snoc xs (sl, sq) _ L h, allL_snoc xs (sl, sq) _ L h⟩, fun h => all_more xs [(sl, sq)] _ L h⟩
theorem wipe_drop (i : Int) : ∀ j, j < 4 → (wipeS i).drop j = (slotV i (j : Int), 0) :: (wipeS i).drop (j + 1)
  | 0, _ => rfl
  | 1, _ => rfl
  | 2, _ => rfl
  | 3, _ => rfl
theorem wipe_drop2 (i : Int) : ∀ j, j < 4 → (wipeS i).drop (4 + 2 * j) = seqS (descV i (j : Int)) [0, 0] ++ (wipeS i).drop (4 + 2 * (j + 1))
  | 0, _ => rfl
  | 1, _ => rfl
  | 2, _ => rfl
  | 3, _ => rfl
theorem wipe_end (i : Int) : (wipeS i).drop 12 = [] := rfl
end Go.Proofs.Ytdpkpphjpihhkaa
end
section
/- The document's Put of a head. -/
namespace Go.Grommet
open Go.RowKit
/-- A new row of words. -/
theorem Own.newRow {w0 w : World} {Ps : List Pr} (h : Own w0 w Ps) {T : TypeId} {e : TypeId} {n : Nat} {xs : List Nat} {cs : Array Value} (hcs : cs = (xs.map wv).toArray) (hl : xs.length = n) (hn : n ≤ 100000) (hT : e = T) : Own w0 (w.alloc (.cells cs T)) (Ps ++ [rowP e 1 (.slice (some ⟨w.heap.size, 0, none⟩) n n) n (xs.map wv)]) := by
  subst hcs hl hT
  refine h.addRow ⟨by simp, .inr ⟨w.heap.size, xs.length, (xs.map wv).toArray, rfl, Nat.le_refl _, heap_alloc_new w _, Nat.le_refl _, by unfold maxLen; omega, by simp, by rw [Nat.mul_one]; exact List.take_of_length_le (by simp)⟩⟩ (World.grownBy_alloc w _ none)
end Go.Grommet
namespace Go.Proofs.Ytdpkpphjpihhkaa
open Go.RowKit Go.Grommet

def HeadR (X : Nat) (ob : Bool) (ge mk : Nat) (w : World) : Prop := w.heap[X]? = some (.cells #[.bool ob, .int .u64 (ge : Int), .int .u64 (mk : Int)] 94 (0, 0))
theorem HeadR.keep {X : Nat} {ob : Bool} {ge mk : Nat} {w w' : World} (h : HeadR X ob ge mk w) (hg : w.grownBy w' none) : HeadR X ob ge mk w' := (hg.block X (lt_of_block h) (by simp)).trans h
theorem HeadR.cells {X : Nat} {ob : Bool} {ge mk : Nat} {w : World} (h : HeadR X ob ge mk w) : w.cell? ⟨X, 0, none⟩ = some (.bool ob) ∧ w.cell? ⟨X, 1, none⟩ = some (.int .u64 (ge : Int)) ∧ w.cell? ⟨X, 2, none⟩ = some (.int .u64 (mk : Int)) := by
  unfold HeadR at h
  refine ⟨?_, ?_, ?_⟩ <;> simp [World.cell?, h]

set_option maxRecDepth 100000 in
set_option maxHeartbeats 2000000 in
theorem RPutHE (k g : Nat) (xs : List Nat) (L : List (Nat × Nat)) (i : Int) (ob : Bool) (ge mk : Nat) (t : Nat) (w0 w : World) (Ps : List Pr) (h : Own w0 w Ps) (hk : Ps[k]? = some (refQ g xs L)) (ht : thereV xs.length i 0 = t) (hne : t ≠ 0) :
    Calls Try.prog 42 #[.pointer (some ⟨g, 0, none⟩), .int .i64 i, .agg #[.bool ob, .int .u64 (ge : Int), .int .u64 (mk : Int)]] w fun e w' => e = .returned (.int .i64 (t : Int)) ∧ Own w0 w' Ps := by
  have hkl := (List.getElem?_eq_some_iff.1 hk).1
  obtain ⟨X, HX⟩ : ∃ X, Hid (X = w.heap.size) := ⟨_, Lib.hid rfl⟩
  have hO : Own w0 (w.alloc (.cells #[.bool ob, .int .u64 (ge : Int), .int .u64 (mk : Int)] 94)) (Ps ++ [boxP X 94 #[.bool ob, .int .u64 (ge : Int), .int .u64 (mk : Int)]]) := by rw [HX.out]; exact h.addBox _ _
  have Hk := Lib.hid (show ∀ Rs, (Ps ++ Rs)[k]? = some (refQ g xs L) from fun Rs => by rw [List.getElem?_append_left hkl]; exact hk)
  have Hhead := Lib.hid (fun wx Rs (hO : Own w0 wx (Ps ++ (boxP X 94 #[.bool ob, .int .u64 (ge : Int), .int .u64 (mk : Int)] :: Rs))) => show HeadR X ob ge mk wx from Own.box hO Ps.length (by rw [List.getElem?_append_right (Nat.le_refl _), Nat.sub_self]; rfl))
  have HT := Lib.hid (RThereQ k g xs L i 0 w0 _ _ hO (Hk.out _))
  rw [ht] at HT
  replace hO := Lib.hid hO
  have qt : ((t : Int) != 0) = true := by simp; omega
  clear h hk hkl ht hne
  go_enter Try.func42, Try.ntmps42
  go_wp2_with fail
  rw [← HX.out]
  refine HT.out.mono ?_
  rintro e w1 ⟨rfl, hg⟩
  have hO1 := Lib.hid (hO.out.quiet hg)
  go_wp2
  go_ret
  exact ⟨rfl, hO1.out.less⟩

set_option maxRecDepth 100000 in
set_option maxHeartbeats 2000000 in
theorem RPutT (k g : Nat) (xs : List Nat) (L : List (Nat × Nat)) (i : Int) (ge mk : Nat) (A : Int) (E : Nat) (w0 w : World) (Ps Qs : List Pr) (h : Own w0 w Ps) (hk : Ps[k]? = some (refQ g xs L)) (ht : thereV xs.length i 0 = 0) (hat : sessionV i = A) (hAb : 0 ≤ A ∧ A ≤ 1000) (hge : ge < 18446744073709551616) (hmk : mk < 18446744073709551616) (hE : allE xs L (seqS A [1, ge, mk]) = E) (hQ : Ps.set k (refQ g xs (allL xs L (seqS A [1, ge, mk]))) = Qs) :
    Calls Try.prog 42 #[.pointer (some ⟨g, 0, none⟩), .int .i64 i, .agg #[.bool true, .int .u64 (ge : Int), .int .u64 (mk : Int)]] w fun e w' => e = .returned (.int .i64 (E : Int)) ∧ Own w0 w' Qs := by
  have hkl := (List.getElem?_eq_some_iff.1 hk).1
  obtain ⟨X, HX⟩ : ∃ X, Hid (X = w.heap.size) := ⟨_, Lib.hid rfl⟩
  have hO : Own w0 (w.alloc (.cells #[.bool true, .int .u64 (ge : Int), .int .u64 (mk : Int)] 94)) (Ps ++ [boxP X 94 #[.bool true, .int .u64 (ge : Int), .int .u64 (mk : Int)]]) := by rw [HX.out]; exact h.addBox _ _
  have Hk := Lib.hid (show ∀ Rs, (Ps ++ Rs)[k]? = some (refQ g xs L) from fun Rs => by rw [List.getElem?_append_left hkl]; exact hk)
  have Hhead := Lib.hid (fun wx Rs (hO : Own w0 wx (Ps ++ (boxP X 94 #[.bool true, .int .u64 (ge : Int), .int .u64 (mk : Int)] :: Rs))) => show HeadR X true ge mk wx from Own.box hO Ps.length (by rw [List.getElem?_append_right (Nat.le_refl _), Nat.sub_self]; rfl))
  have HT := Lib.hid (RThereQ k g xs L i 0 w0 _ _ hO (Hk.out _))
  rw [ht, show ((0 : Nat) : Int) = 0 from rfl] at HT
  replace hO := Lib.hid hO
  have HS := Lib.hid (fun wx => RSessionAt_any i wx)
  rw [hat] at HS
  unfold IntIs at HS
  obtain ⟨LF, hLF⟩ : ∃ LF, allL xs L (seqS A [1, ge, mk]) = LF := ⟨_, rfl⟩
  rw [hLF] at hQ
  have HA := Lib.hid (fun (wx : World) (ad : Option Addr) (hO : Own w0 wx (Ps ++ [boxP X 94 #[.bool true, .int .u64 (ge : Int), .int .u64 (mk : Int)]] ++ [rowP 36 1 (.slice ad 3 3) 3 ([1, ge, mk].map wv)])) => RAllQ k (Ps.length + 1) g xs L A [1, ge, mk] ad 3 3 rfl (by decide) ⟨by omega, by omega⟩ w0 wx _ hO (by rw [List.append_assoc]; exact Hk.out _) (by rw [List.append_assoc, List.getElem?_append_right (by omega), show Ps.length + 1 - Ps.length = 1 from by omega]; rfl) (by omega) (by intro v hv; simp at hv; omega) E LF hE hLF)
  have HB := Lib.hid (fun (wx : World) (ad : Option Addr) (hO : Own w0 wx ((Ps ++ [boxP X 94 #[.bool true, .int .u64 (ge : Int), .int .u64 (mk : Int)]] ++ [rowP 36 1 (.slice ad 3 3) 3 ([1, ge, mk].map wv)]).set k (refQ g xs LF))) => show HeadR X true ge mk wx from Own.box hO Ps.length (by rw [List.getElem?_set_ne (by omega), List.append_assoc, List.getElem?_append_right (Nat.le_refl _), Nat.sub_self]; rfl))
  have HQ := Lib.hid (fun (wx : World) (ad : Option Addr) (hO : Own w0 wx ((Ps ++ [boxP X 94 #[.bool true, .int .u64 (ge : Int), .int .u64 (mk : Int)]] ++ [rowP 36 1 (.slice ad 3 3) 3 ([1, ge, mk].map wv)]).set k (refQ g xs LF))) => show Own w0 wx Qs by rw [List.append_assoc, List.set_append_left _ _ hkl, hQ] at hO; exact hO.less)
  clear h hk hkl ht hat hAb hge hmk hE hQ hLF
  go_enter Try.func42, Try.ntmps42
  go_wp2_with fail
  rw [← HX.out]
  refine HT.out.mono ?_
  rintro e w1 ⟨rfl, hg⟩
  have hO1 := Lib.hid (hO.out.quiet hg)
  obtain ⟨z0, z1, z2⟩ := (Hhead.out _ _ hO1.out).cells
  clear HT hO hg
  go_upto_region 7 with fail
  have hOr := Lib.hid (hO1.out.quiet (grown_drew (World.grownBy.refl _ none)))
  clear z0 z1 z2
  refine wp_region_held_drew (S := fun w' => HeadR X true ge mk w') (by kernel_rfl) ((Hhead.out _ _ hO1.out).keep (grown_drew (World.grownBy.refl _ none))) (fun hS => ?_)
  refine wpAnyH_take (i := 0) (oi := { dst := some 17, op := Op.move (Operand.tmp 0), type := 34, pos := "ref.go:84", after := #[], guard := none }) (v := ?vrp42r7o0) rfl (by kernel_rfl) (by kernel_rfl) (by kernel_rfl) (fun _ _ _ h => h) (Or.inl ⟨by rfl, ?hrp42r7o0⟩) hS ?_
  case hrp42r7o0 => (intro wx hx; skip; go_simp; (try with_reducible rfl))
  try simp only [Act.put, List.setIfInBounds_toArray, List.set_cons_zero, List.set_cons_succ]
  refine wpAnyH_take (i := 1) (oi := { dst := some 18, op := Op.move (Operand.tmp 1), type := 3, pos := "ref.go:84", after := #[], guard := none }) (v := ?vrp42r7o1) rfl (by kernel_rfl) (by kernel_rfl) (by kernel_rfl) (fun _ _ _ h => h) (Or.inl ⟨by rfl, ?hrp42r7o1⟩) hS ?_
  case hrp42r7o1 => (intro wx hx; skip; go_simp; (try with_reducible rfl))
  try simp only [Act.put, List.setIfInBounds_toArray, List.set_cons_zero, List.set_cons_succ]
  refine wpAnyH_take (i := 3) (oi := { dst := some 20, op := Op.move (Operand.tmp 8), type := 36, pos := "ref.go:84", after := #[], guard := none }) (v := ?vrp42r7o3) rfl (by kernel_rfl) (by kernel_rfl) (by kernel_rfl) (fun _ _ _ h => h) (Or.inl ⟨by rfl, ?hrp42r7o3⟩) hS ?_
  case hrp42r7o3 => (intro wx hx; skip; go_simp; (try with_reducible rfl))
  try simp only [Act.put, List.setIfInBounds_toArray, List.set_cons_zero, List.set_cons_succ]
  refine wpAnyH_take (i := 4) (oi := { dst := some 21, op := Op.fieldAddr 94 (Operand.tmp 5) 1, type := 0, pos := "ref.go:84", after := #[], guard := none }) (v := ?vrp42r7o4) rfl (by kernel_rfl) (by kernel_rfl) (by kernel_rfl) (fun _ _ _ h => h) (Or.inl ⟨by rfl, ?hrp42r7o4⟩) hS ?_
  case hrp42r7o4 => (intro wx hx; skip; go_simp; (try with_reducible rfl))
  try simp only [Act.put, List.setIfInBounds_toArray, List.set_cons_zero, List.set_cons_succ]
  refine wpAnyH_take (i := 5) (oi := { dst := some 22, op := Op.load 36 (Operand.tmp 21), type := 36, pos := "ref.go:84", after := #[{ on := 4, ground := Ground.data }], guard := none }) (v := ?vrp42r7o5) rfl (by kernel_rfl) (by kernel_rfl) (by kernel_rfl) (fun _ _ _ h => h) (Or.inl ⟨by rfl, ?hrp42r7o5⟩) hS ?_
  case hrp42r7o5 => (intro wx hx; obtain ⟨z0, z1, z2⟩ := HeadR.cells hx; go_simp; (try with_reducible rfl))
  try simp only [Act.put, List.setIfInBounds_toArray, List.set_cons_zero, List.set_cons_succ]
  refine wpAnyH_take (i := 6) (oi := { dst := some 23, op := Op.fieldAddr 94 (Operand.tmp 5) 2, type := 0, pos := "ref.go:84", after := #[], guard := none }) (v := ?vrp42r7o6) rfl (by kernel_rfl) (by kernel_rfl) (by kernel_rfl) (fun _ _ _ h => h) (Or.inl ⟨by rfl, ?hrp42r7o6⟩) hS ?_
  case hrp42r7o6 => (intro wx hx; skip; go_simp; (try with_reducible rfl))
  try simp only [Act.put, List.setIfInBounds_toArray, List.set_cons_zero, List.set_cons_succ]
  refine wpAnyH_take (i := 7) (oi := { dst := some 24, op := Op.load 36 (Operand.tmp 23), type := 36, pos := "ref.go:84", after := #[{ on := 6, ground := Ground.data }], guard := none }) (v := ?vrp42r7o7) rfl (by kernel_rfl) (by kernel_rfl) (by kernel_rfl) (fun _ _ _ h => h) (Or.inl ⟨by rfl, ?hrp42r7o7⟩) hS ?_
  case hrp42r7o7 => (intro wx hx; obtain ⟨z0, z1, z2⟩ := HeadR.cells hx; go_simp; (try with_reducible rfl))
  try simp only [Act.put, List.setIfInBounds_toArray, List.set_cons_zero, List.set_cons_succ]
  refine wpAnyH_ready (rs := [2, 8]) (by kernel_rfl) (by simp) ?_
  refine AllReadyH.cons (o := { dst := some 19, op := Op.call { callee := Callee.value (Operand.func 29), args := #[Operand.tmp 18], argTypes := #[3] }, type := 3, pos := "ref.go:84", after := #[{ on := 1, ground := Ground.data }], guard := none }) rfl (fun K hK => ?_) ?_
  ·
    go_simp
    refine (HS.out _).mono ?_
    rintro e wA ⟨rfl, hgA⟩
    have hS1 := hS.keep hgA
    have hOn := Lib.hid (hOr.out.quiet hgA)
    clear hOr hgA
    have hOr := hOn
    clear hOn
    refine hK.out _ _ ?hsrpx142r7o2 (fun hS => ?_)
    case hsrpx142r7o2 => (exact hS1)
    clear hK K
    try simp only [Act.put, List.setIfInBounds_toArray, List.set_cons_zero, List.set_cons_succ]
    refine wpAnyH_ready (rs := [8]) (by kernel_rfl) (by simp) ?_
    refine AllReadyH.cons (o := { dst := some 25, op := Op.buildSlice 27 3 #[(0, Operand.tmp 20), (1, Operand.tmp 22), (2, Operand.tmp 24)], type := 27, pos := "ref.go:84", after := #[{ on := 3, ground := Ground.data }, { on := 5, ground := Ground.data }, { on := 7, ground := Ground.data }], guard := none }) rfl (fun K hK => ?_) AllReadyH.nil
    go_simp
    have hS1 := hS.keep (World.grownBy_alloc _ (.cells #[.int .u64 1, .int .u64 (ge : Int), .int .u64 (mk : Int)] 36) none)
    have hOn := Lib.hid (hOr.out.newRow (cs := #[.int .u64 1, .int .u64 (ge : Int), .int .u64 (mk : Int)]) (T := 36) (e := 36) (n := 3) (xs := [1, ge, mk]) rfl (by simp) (by decide) rfl)
    clear hOr
    have hOr := hOn
    clear hOn
    refine hK.out _ _ ?hsrpx142r7o8 (fun hS => ?_)
    case hsrpx142r7o8 => (exact hS1)
    clear hK K
    try simp only [Act.put, List.setIfInBounds_toArray, List.set_cons_zero, List.set_cons_succ]
    refine wpAnyH_ready (rs := [9]) (by kernel_rfl) (by simp) ?_
    refine AllReadyH.cons (o := { dst := some 26, op := Op.call { callee := Callee.value (Operand.func 61), args := #[Operand.tmp 17, Operand.tmp 19, Operand.tmp 25], argTypes := #[34, 3, 27] }, type := 37, pos := "ref.go:84", after := #[{ on := 0, ground := Ground.data }, { on := 2, ground := Ground.data }, { on := 8, ground := Ground.data }, { on := 2, ground := Ground.chain }], guard := none }) rfl (fun K hK => ?_) AllReadyH.nil
    go_simp
    refine (HA.out _ _ hOr.out).mono ?_
    rintro e wB ⟨rfl, hOB⟩
    refine hK.out _ _ ?hsrpx142r7o9 (fun hS => ?_)
    case hsrpx142r7o9 => (exact HB.out _ _ hOB)
    clear hK K
    try simp only [Act.put, List.setIfInBounds_toArray, List.set_cons_zero, List.set_cons_succ]
    refine wpAnyH_take (i := 10) (oi := { dst := some 6, op := Op.assign (Operand.tmp 26), type := 37, pos := "ref.go:84", after := #[{ on := 9, ground := Ground.data }, { on := 9, ground := Ground.chain }, { on := 0, ground := Ground.phase }, { on := 1, ground := Ground.phase }, { on := 2, ground := Ground.phase }, { on := 3, ground := Ground.phase }, { on := 4, ground := Ground.phase }, { on := 5, ground := Ground.phase }, { on := 6, ground := Ground.phase }, { on := 7, ground := Ground.phase }, { on := 8, ground := Ground.phase }, { on := 9, ground := Ground.phase }], guard := none }) (v := ?vrpx142r7o10) rfl (by kernel_rfl) (by kernel_rfl) (by kernel_rfl) (fun _ _ _ h => h) (Or.inl ⟨by rfl, ?hrpx142r7o10⟩) hS ?_
    case hrpx142r7o10 => (intro wx hx; skip; go_simp; (try with_reducible rfl))
    try simp only [Act.put, List.setIfInBounds_toArray, List.set_cons_zero, List.set_cons_succ]
    refine wpAnyH_done (by kernel_rfl) ?_ _
    go_wp2
    go_ret
    exact ⟨rfl, HQ.out _ _ hOB⟩
  refine AllReadyH.cons (o := { dst := some 25, op := Op.buildSlice 27 3 #[(0, Operand.tmp 20), (1, Operand.tmp 22), (2, Operand.tmp 24)], type := 27, pos := "ref.go:84", after := #[{ on := 3, ground := Ground.data }, { on := 5, ground := Ground.data }, { on := 7, ground := Ground.data }], guard := none }) rfl (fun K hK => ?_) ?_
  ·
    go_simp
    have hS1 := hS.keep (World.grownBy_alloc _ (.cells #[.int .u64 1, .int .u64 (ge : Int), .int .u64 (mk : Int)] 36) none)
    have hOn := Lib.hid (hOr.out.newRow (cs := #[.int .u64 1, .int .u64 (ge : Int), .int .u64 (mk : Int)]) (T := 36) (e := 36) (n := 3) (xs := [1, ge, mk]) rfl (by simp) (by decide) rfl)
    clear hOr
    have hOr := hOn
    clear hOn
    refine hK.out _ _ ?hsrpx242r7o8 (fun hS => ?_)
    case hsrpx242r7o8 => (exact hS1)
    clear hK K
    try simp only [Act.put, List.setIfInBounds_toArray, List.set_cons_zero, List.set_cons_succ]
    refine wpAnyH_ready (rs := [2]) (by kernel_rfl) (by simp) ?_
    refine AllReadyH.cons (o := { dst := some 19, op := Op.call { callee := Callee.value (Operand.func 29), args := #[Operand.tmp 18], argTypes := #[3] }, type := 3, pos := "ref.go:84", after := #[{ on := 1, ground := Ground.data }], guard := none }) rfl (fun K hK => ?_) AllReadyH.nil
    go_simp
    refine (HS.out _).mono ?_
    rintro e wA ⟨rfl, hgA⟩
    have hS1 := hS.keep hgA
    have hOn := Lib.hid (hOr.out.quiet hgA)
    clear hOr hgA
    have hOr := hOn
    clear hOn
    refine hK.out _ _ ?hsrpx242r7o2 (fun hS => ?_)
    case hsrpx242r7o2 => (exact hS1)
    clear hK K
    try simp only [Act.put, List.setIfInBounds_toArray, List.set_cons_zero, List.set_cons_succ]
    refine wpAnyH_ready (rs := [9]) (by kernel_rfl) (by simp) ?_
    refine AllReadyH.cons (o := { dst := some 26, op := Op.call { callee := Callee.value (Operand.func 61), args := #[Operand.tmp 17, Operand.tmp 19, Operand.tmp 25], argTypes := #[34, 3, 27] }, type := 37, pos := "ref.go:84", after := #[{ on := 0, ground := Ground.data }, { on := 2, ground := Ground.data }, { on := 8, ground := Ground.data }, { on := 2, ground := Ground.chain }], guard := none }) rfl (fun K hK => ?_) AllReadyH.nil
    go_simp
    refine (HA.out _ _ hOr.out).mono ?_
    rintro e wB ⟨rfl, hOB⟩
    refine hK.out _ _ ?hsrpx242r7o9 (fun hS => ?_)
    case hsrpx242r7o9 => (exact HB.out _ _ hOB)
    clear hK K
    try simp only [Act.put, List.setIfInBounds_toArray, List.set_cons_zero, List.set_cons_succ]
    refine wpAnyH_take (i := 10) (oi := { dst := some 6, op := Op.assign (Operand.tmp 26), type := 37, pos := "ref.go:84", after := #[{ on := 9, ground := Ground.data }, { on := 9, ground := Ground.chain }, { on := 0, ground := Ground.phase }, { on := 1, ground := Ground.phase }, { on := 2, ground := Ground.phase }, { on := 3, ground := Ground.phase }, { on := 4, ground := Ground.phase }, { on := 5, ground := Ground.phase }, { on := 6, ground := Ground.phase }, { on := 7, ground := Ground.phase }, { on := 8, ground := Ground.phase }, { on := 9, ground := Ground.phase }], guard := none }) (v := ?vrpx242r7o10) rfl (by kernel_rfl) (by kernel_rfl) (by kernel_rfl) (fun _ _ _ h => h) (Or.inl ⟨by rfl, ?hrpx242r7o10⟩) hS ?_
    case hrpx242r7o10 => (intro wx hx; skip; go_simp; (try with_reducible rfl))
    try simp only [Act.put, List.setIfInBounds_toArray, List.set_cons_zero, List.set_cons_succ]
    refine wpAnyH_done (by kernel_rfl) ?_ _
    go_wp2
    go_ret
    exact ⟨rfl, HQ.out _ _ hOB⟩
  exact AllReadyH.nil

set_option maxRecDepth 100000 in
set_option maxHeartbeats 2000000 in
theorem RPutF (k g : Nat) (xs : List Nat) (L : List (Nat × Nat)) (i : Int) (ge mk : Nat) (A : Int) (E : Nat) (w0 w : World) (Ps Qs : List Pr) (h : Own w0 w Ps) (hk : Ps[k]? = some (refQ g xs L)) (ht : thereV xs.length i 0 = 0) (hat : sessionV i = A) (hAb : 0 ≤ A ∧ A ≤ 1000) (hge : ge < 18446744073709551616) (hmk : mk < 18446744073709551616) (hE : allE xs L (seqS A [0, ge, mk]) = E) (hQ : Ps.set k (refQ g xs (allL xs L (seqS A [0, ge, mk]))) = Qs) :
    Calls Try.prog 42 #[.pointer (some ⟨g, 0, none⟩), .int .i64 i, .agg #[.bool false, .int .u64 (ge : Int), .int .u64 (mk : Int)]] w fun e w' => e = .returned (.int .i64 (E : Int)) ∧ Own w0 w' Qs := by
  have hkl := (List.getElem?_eq_some_iff.1 hk).1
  obtain ⟨X, HX⟩ : ∃ X, Hid (X = w.heap.size) := ⟨_, Lib.hid rfl⟩
  have hO : Own w0 (w.alloc (.cells #[.bool false, .int .u64 (ge : Int), .int .u64 (mk : Int)] 94)) (Ps ++ [boxP X 94 #[.bool false, .int .u64 (ge : Int), .int .u64 (mk : Int)]]) := by rw [HX.out]; exact h.addBox _ _
  have Hk := Lib.hid (show ∀ Rs, (Ps ++ Rs)[k]? = some (refQ g xs L) from fun Rs => by rw [List.getElem?_append_left hkl]; exact hk)
  have Hhead := Lib.hid (fun wx Rs (hO : Own w0 wx (Ps ++ (boxP X 94 #[.bool false, .int .u64 (ge : Int), .int .u64 (mk : Int)] :: Rs))) => show HeadR X false ge mk wx from Own.box hO Ps.length (by rw [List.getElem?_append_right (Nat.le_refl _), Nat.sub_self]; rfl))
  have HT := Lib.hid (RThereQ k g xs L i 0 w0 _ _ hO (Hk.out _))
  rw [ht, show ((0 : Nat) : Int) = 0 from rfl] at HT
  replace hO := Lib.hid hO
  have HS := Lib.hid (fun wx => RSessionAt_any i wx)
  rw [hat] at HS
  unfold IntIs at HS
  obtain ⟨LF, hLF⟩ : ∃ LF, allL xs L (seqS A [0, ge, mk]) = LF := ⟨_, rfl⟩
  rw [hLF] at hQ
  have HA := Lib.hid (fun (wx : World) (ad : Option Addr) (hO : Own w0 wx (Ps ++ [boxP X 94 #[.bool false, .int .u64 (ge : Int), .int .u64 (mk : Int)]] ++ [rowP 36 1 (.slice ad 3 3) 3 ([0, ge, mk].map wv)])) => RAllQ k (Ps.length + 1) g xs L A [0, ge, mk] ad 3 3 rfl (by decide) ⟨by omega, by omega⟩ w0 wx _ hO (by rw [List.append_assoc]; exact Hk.out _) (by rw [List.append_assoc, List.getElem?_append_right (by omega), show Ps.length + 1 - Ps.length = 1 from by omega]; rfl) (by omega) (by intro v hv; simp at hv; omega) E LF hE hLF)
  have HB := Lib.hid (fun (wx : World) (ad : Option Addr) (hO : Own w0 wx ((Ps ++ [boxP X 94 #[.bool false, .int .u64 (ge : Int), .int .u64 (mk : Int)]] ++ [rowP 36 1 (.slice ad 3 3) 3 ([0, ge, mk].map wv)]).set k (refQ g xs LF))) => show HeadR X false ge mk wx from Own.box hO Ps.length (by rw [List.getElem?_set_ne (by omega), List.append_assoc, List.getElem?_append_right (Nat.le_refl _), Nat.sub_self]; rfl))
  have HQ := Lib.hid (fun (wx : World) (ad : Option Addr) (hO : Own w0 wx ((Ps ++ [boxP X 94 #[.bool false, .int .u64 (ge : Int), .int .u64 (mk : Int)]] ++ [rowP 36 1 (.slice ad 3 3) 3 ([0, ge, mk].map wv)]).set k (refQ g xs LF))) => show Own w0 wx Qs by rw [List.append_assoc, List.set_append_left _ _ hkl, hQ] at hO; exact hO.less)
  clear h hk hkl ht hat hAb hge hmk hE hQ hLF
  go_enter Try.func42, Try.ntmps42
  go_wp2_with fail
  rw [← HX.out]
  refine HT.out.mono ?_
  rintro e w1 ⟨rfl, hg⟩
  have hO1 := Lib.hid (hO.out.quiet hg)
  obtain ⟨z0, z1, z2⟩ := (Hhead.out _ _ hO1.out).cells
  clear HT hO hg
  go_upto_region 7 with fail
  have hOr := Lib.hid (hO1.out.quiet (grown_drew (World.grownBy.refl _ none)))
  clear z0 z1 z2
  refine wp_region_held_drew (S := fun w' => HeadR X false ge mk w') (by kernel_rfl) ((Hhead.out _ _ hO1.out).keep (grown_drew (World.grownBy.refl _ none))) (fun hS => ?_)
  refine wpAnyH_take (i := 0) (oi := { dst := some 17, op := Op.move (Operand.tmp 0), type := 34, pos := "ref.go:84", after := #[], guard := none }) (v := ?vrp42r7o0) rfl (by kernel_rfl) (by kernel_rfl) (by kernel_rfl) (fun _ _ _ h => h) (Or.inl ⟨by rfl, ?hrp42r7o0⟩) hS ?_
  case hrp42r7o0 => (intro wx hx; skip; go_simp; (try with_reducible rfl))
  try simp only [Act.put, List.setIfInBounds_toArray, List.set_cons_zero, List.set_cons_succ]
  refine wpAnyH_take (i := 1) (oi := { dst := some 18, op := Op.move (Operand.tmp 1), type := 3, pos := "ref.go:84", after := #[], guard := none }) (v := ?vrp42r7o1) rfl (by kernel_rfl) (by kernel_rfl) (by kernel_rfl) (fun _ _ _ h => h) (Or.inl ⟨by rfl, ?hrp42r7o1⟩) hS ?_
  case hrp42r7o1 => (intro wx hx; skip; go_simp; (try with_reducible rfl))
  try simp only [Act.put, List.setIfInBounds_toArray, List.set_cons_zero, List.set_cons_succ]
  refine wpAnyH_take (i := 3) (oi := { dst := some 20, op := Op.move (Operand.tmp 8), type := 36, pos := "ref.go:84", after := #[], guard := none }) (v := ?vrp42r7o3) rfl (by kernel_rfl) (by kernel_rfl) (by kernel_rfl) (fun _ _ _ h => h) (Or.inl ⟨by rfl, ?hrp42r7o3⟩) hS ?_
  case hrp42r7o3 => (intro wx hx; skip; go_simp; (try with_reducible rfl))
  try simp only [Act.put, List.setIfInBounds_toArray, List.set_cons_zero, List.set_cons_succ]
  refine wpAnyH_take (i := 4) (oi := { dst := some 21, op := Op.fieldAddr 94 (Operand.tmp 5) 1, type := 0, pos := "ref.go:84", after := #[], guard := none }) (v := ?vrp42r7o4) rfl (by kernel_rfl) (by kernel_rfl) (by kernel_rfl) (fun _ _ _ h => h) (Or.inl ⟨by rfl, ?hrp42r7o4⟩) hS ?_
  case hrp42r7o4 => (intro wx hx; skip; go_simp; (try with_reducible rfl))
  try simp only [Act.put, List.setIfInBounds_toArray, List.set_cons_zero, List.set_cons_succ]
  refine wpAnyH_take (i := 5) (oi := { dst := some 22, op := Op.load 36 (Operand.tmp 21), type := 36, pos := "ref.go:84", after := #[{ on := 4, ground := Ground.data }], guard := none }) (v := ?vrp42r7o5) rfl (by kernel_rfl) (by kernel_rfl) (by kernel_rfl) (fun _ _ _ h => h) (Or.inl ⟨by rfl, ?hrp42r7o5⟩) hS ?_
  case hrp42r7o5 => (intro wx hx; obtain ⟨z0, z1, z2⟩ := HeadR.cells hx; go_simp; (try with_reducible rfl))
  try simp only [Act.put, List.setIfInBounds_toArray, List.set_cons_zero, List.set_cons_succ]
  refine wpAnyH_take (i := 6) (oi := { dst := some 23, op := Op.fieldAddr 94 (Operand.tmp 5) 2, type := 0, pos := "ref.go:84", after := #[], guard := none }) (v := ?vrp42r7o6) rfl (by kernel_rfl) (by kernel_rfl) (by kernel_rfl) (fun _ _ _ h => h) (Or.inl ⟨by rfl, ?hrp42r7o6⟩) hS ?_
  case hrp42r7o6 => (intro wx hx; skip; go_simp; (try with_reducible rfl))
  try simp only [Act.put, List.setIfInBounds_toArray, List.set_cons_zero, List.set_cons_succ]
  refine wpAnyH_take (i := 7) (oi := { dst := some 24, op := Op.load 36 (Operand.tmp 23), type := 36, pos := "ref.go:84", after := #[{ on := 6, ground := Ground.data }], guard := none }) (v := ?vrp42r7o7) rfl (by kernel_rfl) (by kernel_rfl) (by kernel_rfl) (fun _ _ _ h => h) (Or.inl ⟨by rfl, ?hrp42r7o7⟩) hS ?_
  case hrp42r7o7 => (intro wx hx; obtain ⟨z0, z1, z2⟩ := HeadR.cells hx; go_simp; (try with_reducible rfl))
  try simp only [Act.put, List.setIfInBounds_toArray, List.set_cons_zero, List.set_cons_succ]
  refine wpAnyH_ready (rs := [2, 8]) (by kernel_rfl) (by simp) ?_
  refine AllReadyH.cons (o := { dst := some 19, op := Op.call { callee := Callee.value (Operand.func 29), args := #[Operand.tmp 18], argTypes := #[3] }, type := 3, pos := "ref.go:84", after := #[{ on := 1, ground := Ground.data }], guard := none }) rfl (fun K hK => ?_) ?_
  ·
    go_simp
    refine (HS.out _).mono ?_
    rintro e wA ⟨rfl, hgA⟩
    have hS1 := hS.keep hgA
    have hOn := Lib.hid (hOr.out.quiet hgA)
    clear hOr hgA
    have hOr := hOn
    clear hOn
    refine hK.out _ _ ?hsrpx142r7o2 (fun hS => ?_)
    case hsrpx142r7o2 => (exact hS1)
    clear hK K
    try simp only [Act.put, List.setIfInBounds_toArray, List.set_cons_zero, List.set_cons_succ]
    refine wpAnyH_ready (rs := [8]) (by kernel_rfl) (by simp) ?_
    refine AllReadyH.cons (o := { dst := some 25, op := Op.buildSlice 27 3 #[(0, Operand.tmp 20), (1, Operand.tmp 22), (2, Operand.tmp 24)], type := 27, pos := "ref.go:84", after := #[{ on := 3, ground := Ground.data }, { on := 5, ground := Ground.data }, { on := 7, ground := Ground.data }], guard := none }) rfl (fun K hK => ?_) AllReadyH.nil
    go_simp
    have hS1 := hS.keep (World.grownBy_alloc _ (.cells #[.int .u64 0, .int .u64 (ge : Int), .int .u64 (mk : Int)] 36) none)
    have hOn := Lib.hid (hOr.out.newRow (cs := #[.int .u64 0, .int .u64 (ge : Int), .int .u64 (mk : Int)]) (T := 36) (e := 36) (n := 3) (xs := [0, ge, mk]) rfl (by simp) (by decide) rfl)
    clear hOr
    have hOr := hOn
    clear hOn
    refine hK.out _ _ ?hsrpx142r7o8 (fun hS => ?_)
    case hsrpx142r7o8 => (exact hS1)
    clear hK K
    try simp only [Act.put, List.setIfInBounds_toArray, List.set_cons_zero, List.set_cons_succ]
    refine wpAnyH_ready (rs := [9]) (by kernel_rfl) (by simp) ?_
    refine AllReadyH.cons (o := { dst := some 26, op := Op.call { callee := Callee.value (Operand.func 61), args := #[Operand.tmp 17, Operand.tmp 19, Operand.tmp 25], argTypes := #[34, 3, 27] }, type := 37, pos := "ref.go:84", after := #[{ on := 0, ground := Ground.data }, { on := 2, ground := Ground.data }, { on := 8, ground := Ground.data }, { on := 2, ground := Ground.chain }], guard := none }) rfl (fun K hK => ?_) AllReadyH.nil
    go_simp
    refine (HA.out _ _ hOr.out).mono ?_
    rintro e wB ⟨rfl, hOB⟩
    refine hK.out _ _ ?hsrpx142r7o9 (fun hS => ?_)
    case hsrpx142r7o9 => (exact HB.out _ _ hOB)
    clear hK K
    try simp only [Act.put, List.setIfInBounds_toArray, List.set_cons_zero, List.set_cons_succ]
    refine wpAnyH_take (i := 10) (oi := { dst := some 6, op := Op.assign (Operand.tmp 26), type := 37, pos := "ref.go:84", after := #[{ on := 9, ground := Ground.data }, { on := 9, ground := Ground.chain }, { on := 0, ground := Ground.phase }, { on := 1, ground := Ground.phase }, { on := 2, ground := Ground.phase }, { on := 3, ground := Ground.phase }, { on := 4, ground := Ground.phase }, { on := 5, ground := Ground.phase }, { on := 6, ground := Ground.phase }, { on := 7, ground := Ground.phase }, { on := 8, ground := Ground.phase }, { on := 9, ground := Ground.phase }], guard := none }) (v := ?vrpx142r7o10) rfl (by kernel_rfl) (by kernel_rfl) (by kernel_rfl) (fun _ _ _ h => h) (Or.inl ⟨by rfl, ?hrpx142r7o10⟩) hS ?_
    case hrpx142r7o10 => (intro wx hx; skip; go_simp; (try with_reducible rfl))
    try simp only [Act.put, List.setIfInBounds_toArray, List.set_cons_zero, List.set_cons_succ]
    refine wpAnyH_done (by kernel_rfl) ?_ _
    go_wp2
    go_ret
    exact ⟨rfl, HQ.out _ _ hOB⟩
  refine AllReadyH.cons (o := { dst := some 25, op := Op.buildSlice 27 3 #[(0, Operand.tmp 20), (1, Operand.tmp 22), (2, Operand.tmp 24)], type := 27, pos := "ref.go:84", after := #[{ on := 3, ground := Ground.data }, { on := 5, ground := Ground.data }, { on := 7, ground := Ground.data }], guard := none }) rfl (fun K hK => ?_) ?_
  ·
    go_simp
    have hS1 := hS.keep (World.grownBy_alloc _ (.cells #[.int .u64 0, .int .u64 (ge : Int), .int .u64 (mk : Int)] 36) none)
    have hOn := Lib.hid (hOr.out.newRow (cs := #[.int .u64 0, .int .u64 (ge : Int), .int .u64 (mk : Int)]) (T := 36) (e := 36) (n := 3) (xs := [0, ge, mk]) rfl (by simp) (by decide) rfl)
    clear hOr
    have hOr := hOn
    clear hOn
    refine hK.out _ _ ?hsrpx242r7o8 (fun hS => ?_)
    case hsrpx242r7o8 => (exact hS1)
    clear hK K
    try simp only [Act.put, List.setIfInBounds_toArray, List.set_cons_zero, List.set_cons_succ]
    refine wpAnyH_ready (rs := [2]) (by kernel_rfl) (by simp) ?_
    refine AllReadyH.cons (o := { dst := some 19, op := Op.call { callee := Callee.value (Operand.func 29), args := #[Operand.tmp 18], argTypes := #[3] }, type := 3, pos := "ref.go:84", after := #[{ on := 1, ground := Ground.data }], guard := none }) rfl (fun K hK => ?_) AllReadyH.nil
    go_simp
    refine (HS.out _).mono ?_
    rintro e wA ⟨rfl, hgA⟩
    have hS1 := hS.keep hgA
    have hOn := Lib.hid (hOr.out.quiet hgA)
    clear hOr hgA
    have hOr := hOn
    clear hOn
    refine hK.out _ _ ?hsrpx242r7o2 (fun hS => ?_)
    case hsrpx242r7o2 => (exact hS1)
    clear hK K
    try simp only [Act.put, List.setIfInBounds_toArray, List.set_cons_zero, List.set_cons_succ]
    refine wpAnyH_ready (rs := [9]) (by kernel_rfl) (by simp) ?_
    refine AllReadyH.cons (o := { dst := some 26, op := Op.call { callee := Callee.value (Operand.func 61), args := #[Operand.tmp 17, Operand.tmp 19, Operand.tmp 25], argTypes := #[34, 3, 27] }, type := 37, pos := "ref.go:84", after := #[{ on := 0, ground := Ground.data }, { on := 2, ground := Ground.data }, { on := 8, ground := Ground.data }, { on := 2, ground := Ground.chain }], guard := none }) rfl (fun K hK => ?_) AllReadyH.nil
    go_simp
    refine (HA.out _ _ hOr.out).mono ?_
    rintro e wB ⟨rfl, hOB⟩
    refine hK.out _ _ ?hsrpx242r7o9 (fun hS => ?_)
    case hsrpx242r7o9 => (exact HB.out _ _ hOB)
    clear hK K
    try simp only [Act.put, List.setIfInBounds_toArray, List.set_cons_zero, List.set_cons_succ]
    refine wpAnyH_take (i := 10) (oi := { dst := some 6, op := Op.assign (Operand.tmp 26), type := 37, pos := "ref.go:84", after := #[{ on := 9, ground := Ground.data }, { on := 9, ground := Ground.chain }, { on := 0, ground := Ground.phase }, { on := 1, ground := Ground.phase }, { on := 2, ground := Ground.phase }, { on := 3, ground := Ground.phase }, { on := 4, ground := Ground.phase }, { on := 5, ground := Ground.phase }, { on := 6, ground := Ground.phase }, { on := 7, ground := Ground.phase }, { on := 8, ground := Ground.phase }, { on := 9, ground := Ground.phase }], guard := none }) (v := ?vrpx242r7o10) rfl (by kernel_rfl) (by kernel_rfl) (by kernel_rfl) (fun _ _ _ h => h) (Or.inl ⟨by rfl, ?hrpx242r7o10⟩) hS ?_
    case hrpx242r7o10 => (intro wx hx; skip; go_simp; (try with_reducible rfl))
    try simp only [Act.put, List.setIfInBounds_toArray, List.set_cons_zero, List.set_cons_succ]
    refine wpAnyH_done (by kernel_rfl) ?_ _
    go_wp2
    go_ret
    exact ⟨rfl, HQ.out _ _ hOB⟩
  exact AllReadyH.nil

end Go.Proofs.Ytdpkpphjpihhkaa
end
section
/- The document's Wipe. -/
namespace Go.Proofs.Ytdpkpphjpihhkaa
open Go.RowKit Go.Grommet

/-- What is left to be set, and what will come of it. -/
def StW (i : Int) (xs : List Nat) (E : Nat) (LF : List (Nat × Nat)) (p en : Nat) (M : List (Nat × Nat)) : Prop :=
  (en = 0 ∧ allE xs M ((wipeS i).drop p) = E ∧ allL xs M ((wipeS i).drop p) = LF) ∨ (en ≠ 0 ∧ en = E ∧ M = LF)
theorem StW.step1 {i : Int} {xs : List Nat} {E : Nat} {LF : List (Nat × Nat)} {j en : Nat} {M : List (Nat × Nat)} (h : StW i xs E LF j en M) (he : en = 0) (hj : j < 4) : StW i xs E LF (j + 1) (setE xs M (slotV i (j : Int)) 0) (setL xs M (slotV i (j : Int)) 0) := by
  rcases h with ⟨_, h1, h2⟩ | ⟨hn, _⟩
  · rw [wipe_drop i j hj] at h1 h2
    obtain ⟨p1, p2⟩ := all_cons xs M (slotV i (j : Int)) 0 ((wipeS i).drop (j + 1))
    by_cases e : setE xs M (slotV i (j : Int)) 0 = 0
    · exact .inl ⟨e, by rw [← (p1 e).1]; exact h1, by rw [← (p1 e).2]; exact h2⟩
    · exact .inr ⟨e, by rw [← (p2 e).1]; exact h1, by rw [← (p2 e).2]; exact h2⟩
  · exact absurd he hn
theorem StW.step2 {i : Int} {xs : List Nat} {E : Nat} {LF : List (Nat × Nat)} {j en : Nat} {M : List (Nat × Nat)} (h : StW i xs E LF (4 + 2 * j) en M) (he : en = 0) (hj : j < 4) : StW i xs E LF (4 + 2 * (j + 1)) (allE xs M (seqS (descV i (j : Int)) [0, 0])) (allL xs M (seqS (descV i (j : Int)) [0, 0])) := by
  rcases h with ⟨_, h1, h2⟩ | ⟨hn, _⟩
  · rw [wipe_drop2 i j hj] at h1 h2
    by_cases e : allE xs M (seqS (descV i (j : Int)) [0, 0]) = 0
    · obtain ⟨q1, q2⟩ := all_app xs ((wipeS i).drop (4 + 2 * (j + 1))) _ M e
      exact .inl ⟨e, by rw [← q1]; exact h1, by rw [← q2]; exact h2⟩
    · obtain ⟨q1, q2⟩ := all_more xs ((wipeS i).drop (4 + 2 * (j + 1))) _ M e
      exact .inr ⟨e, by rw [← q1]; exact h1, by rw [← q2]; exact h2⟩
  · exact absurd he hn
theorem StW.no {i : Int} {xs : List Nat} {E : Nat} {LF : List (Nat × Nat)} {p en : Nat} {M : List (Nat × Nat)} (h : StW i xs E LF p en M) (he : en ≠ 0) : en = E ∧ M = LF := by
  rcases h with ⟨h0, _⟩ | ⟨_, h1, h2⟩
  · exact absurd h0 he
  · exact ⟨h1, h2⟩
theorem StW.fin {i : Int} {xs : List Nat} {E : Nat} {LF : List (Nat × Nat)} {j en : Nat} {M : List (Nat × Nat)} (h : StW i xs E LF (4 + 2 * j) en M) (hj : j = 4) : en = E ∧ M = LF := by
  subst hj
  rcases h with ⟨h0, h1, h2⟩ | ⟨_, h1, h2⟩
  · have h1 : 0 = E := h1
    exact ⟨by omega, h2⟩
  · exact ⟨h1, h2⟩

set_option maxRecDepth 100000 in
set_option maxHeartbeats 4000000 in
theorem RWipeQ (k g : Nat) (xs : List Nat) (L : List (Nat × Nat)) (i : Int) (t E : Nat) (LF : List (Nat × Nat)) (w0 w : World) (Ps Qs : List Pr) (h : Own w0 w Ps) (hk : Ps[k]? = some (refQ g xs L)) (ht : thereV xs.length i 0 = t) (hst : StW i xs E LF 0 t L) (hQ : Ps.set k (refQ g xs LF) = Qs) :
    Calls Try.prog 45 #[.pointer (some ⟨g, 0, none⟩), .int .i64 i] w fun e w' => e = .returned (.int .i64 (E : Int)) ∧ Own w0 w' Qs := by
  subst hQ
  have hkl := (List.getElem?_eq_some_iff.1 hk).1
  have HT := Lib.hid (RThereQ k g xs L i 0 w0 w _ h hk)
  rw [ht] at HT
  have HS := Lib.hid (fun k wx => RSlotAt_any i k wx)
  have HD := Lib.hid (fun k wx => RDescriptorAt_any i k wx)
  have HDin := Lib.hid (fun k => descV_in i k)
  have hO : Own w0 w (Ps.set k (refQ g xs L)) := by rw [set_id hk]; exact h
  have H1 := Lib.hid (fun (M : List (Nat × Nat)) (a : Int) (wx : World) (hO : Own w0 wx (Ps.set k (refQ g xs M))) => show Calls Try.prog 62 #[.pointer (some ⟨g, 0, none⟩), .int .i64 a, .int .u64 0] wx fun e w' => e = .returned (.int .i64 (setE xs M a 0 : Int)) ∧ Own w0 w' (Ps.set k (refQ g xs (setL xs M a 0))) from
    RSetQ k g xs M a 0 _ w0 wx _ _ hO (List.getElem?_set_self hkl) (by omega) rfl (by rw [List.set_set]))
  have H2 := Lib.hid (fun (M : List (Nat × Nat)) (a : Int) (ha : -1000000 ≤ a ∧ a ≤ 1000000000) (wx : World) (hO : Own w0 wx (Ps.set k (refQ g xs M))) => show Calls Try.prog 61 #[.pointer (some ⟨g, 0, none⟩), .int .i64 a, .slice (some ⟨wx.heap.size, 0, none⟩) 2 2] (wx.alloc (.cells #[.int .u64 0, .int .u64 0] 36)) fun e w' => e = .returned (.int .i64 (allE xs M (seqS a [0, 0]) : Int)) ∧ Own w0 w' (Ps.set k (refQ g xs (allL xs M (seqS a [0, 0])))) from by
    have hN := hO.newRow (cs := #[.int .u64 0, .int .u64 0]) (T := 36) (e := 36) (n := 2) (xs := [0, 0]) rfl (by simp) (by decide) rfl
    have hkl' : k < (Ps.set k (refQ g xs M)).length := by rw [List.length_set]; exact hkl
    refine (RAllQ k Ps.length g xs M a [0, 0] _ 2 2 rfl (by decide) ha w0 _ _ hN (by rw [List.getElem?_append_left hkl']; exact List.getElem?_set_self hkl) (by rw [List.getElem?_append_right (by simp), List.length_set, Nat.sub_self]; rfl) (by omega) (by intro v hv; simp at hv; omega) _ _ rfl rfl).mono ?_
    rintro e w' ⟨he, hO'⟩
    rw [List.set_append_left _ _ hkl', List.set_set] at hO'
    exact ⟨he, hO'.less⟩)
  have Hst := Lib.hid hst
  replace hO := Lib.hid hO
  clear h hk hkl ht hst
  go_enter Try.func45, Try.ntmps45
  go_wp2_with fail
  refine HT.out.mono ?_
  rintro e w1 ⟨rfl, hg⟩
  have hO1 := Lib.hid (hO.out.quiet hg)
  clear HT hO hg
  go_wp2_with fail
  go_loopw [5, 6] (fun s c wr => ∃ (j en : Nat) (M : List (Nat × Nat)), j ≤ 4 ∧ c = .int .i64 (j : Int) ∧ s = .int .i64 (en : Int) ∧ Hid (StW i xs E LF j en M) ∧ Hid (Own w0 wr (Ps.set k (refQ g xs M)))) (fun _ c _ => 4 - (intOf c).toNat)
  case atStart => exact ⟨0, t, L, by omega, rfl, rfl, Hst, hO1⟩
  case round =>
    clear hO1 Hst
    obtain ⟨j, en, M, hj, rfl, rfl, Hst, hO⟩ := hrel
    have j0 : (0 : Int) ≤ (j : Int) := by omega
    by_cases hlt : j < 4
    · have hlt' : (j : Int) < 4 := by omega
      by_cases he : en = 0
      · have e0 : ((en : Int) == 0) = true := by rw [he]; rfl
        have hs := Lib.hid (Hst.out.step1 he hlt)
        have Hlt := Lib.hid hlt
        clear he hlt
        go_wp2_with fail
        refine (HS.out _ _).mono ?_
        rintro e w2 ⟨rfl, hg⟩
        have hO2 := Lib.hid (hO.out.quiet hg)
        generalize slotV i (j : Int) = sv at *
        have HX := Lib.hid (H1.out M sv w2 hO2.out)
        generalize setE xs M sv 0 = en2 at *
        generalize setL xs M sv 0 = M2 at *
        clear hg hO hO2 Hst
        go_wp2_with fail
        refine HX.out.mono ?_
        rintro e w3 ⟨rfl, hO3⟩
        replace hO3 := Lib.hid hO3
        clear HX
        go_wp2
        go_roundw
        case rel => exact ⟨j + 1, en2, M2, Hlt.out, by go_num, rfl, hs, hO3⟩
        case measure => have := Hlt.out; simp [intOf]; omega
      · have e0 : ((en : Int) == 0) = false := by rw [beq_eq_false_iff_ne]; omega
        obtain ⟨he1, rfl⟩ := Hst.out.no he
        replace he1 := Lib.hid he1
        clear he hlt Hst
        go_wp2_with fail
        go_loopw [5, 7] (fun s c wx => s = .int .i64 (en : Int) ∧ c = .int .i64 0 ∧ wx = wr) (fun _ _ _ => 0)
        case atStart => exact ⟨rfl, rfl, rfl⟩
        case round =>
          obtain ⟨rfl, rfl, rfl⟩ := hrel
          go_wp2
          go_ret
          exact ⟨by have h := he1.out; subst h; rfl, hO.out⟩
    · have hlt' : ¬ (j : Int) < 4 := by omega
      have hs4 : Hid (StW i xs E LF (4 + 2 * 0) en M) := Lib.hid (by have h := Hst.out; rw [show j = 4 + 2 * 0 by omega] at h; exact h)
      clear hlt hj j0 Hst
      go_wp2_with fail
      go_loopw [5, 7] (fun s c wr => ∃ (j en : Nat) (M : List (Nat × Nat)), j ≤ 4 ∧ c = .int .i64 (j : Int) ∧ s = .int .i64 (en : Int) ∧ Hid (StW i xs E LF (4 + 2 * j) en M) ∧ Hid (Own w0 wr (Ps.set k (refQ g xs M)))) (fun _ c _ => 4 - (intOf c).toNat)
      case atStart => exact ⟨0, en, M, by omega, rfl, rfl, hs4, hO⟩
      case round =>
        clear hO hs4
        obtain ⟨j, en, M, hj, rfl, rfl, Hst, hO⟩ := hrel
        have j0 : (0 : Int) ≤ (j : Int) := by omega
        by_cases hlt : j < 4
        · have hlt' : (j : Int) < 4 := by omega
          by_cases he : en = 0
          · have e0 : ((en : Int) == 0) = true := by rw [he]; rfl
            have hs := Lib.hid (Hst.out.step2 he hlt)
            have Hlt := Lib.hid hlt
            obtain ⟨y1, y2⟩ := HDin.out (j : Int)
            clear he hlt
            go_wp2_with fail
            refine (HD.out _ _).mono ?_
            rintro e w2 ⟨rfl, hg⟩
            have hO2 := Lib.hid (hO.out.quiet hg)
            generalize descV i (j : Int) = dv at *
            have HX := Lib.hid (H2.out M dv ⟨by omega, by omega⟩ w2 hO2.out)
            generalize allE xs M (seqS dv [0, 0]) = en2 at *
            generalize allL xs M (seqS dv [0, 0]) = M2 at *
            clear hg hO hO2 Hst y1 y2
            go_wp2_with fail
            refine HX.out.mono ?_
            rintro e w3 ⟨rfl, hO3⟩
            replace hO3 := Lib.hid hO3
            clear HX
            go_wp2
            go_roundw
            case rel => exact ⟨j + 1, en2, M2, Hlt.out, by go_num, rfl, hs, hO3⟩
            case measure => have := Hlt.out; simp [intOf]; omega
          · have e0 : ((en : Int) == 0) = false := by rw [beq_eq_false_iff_ne]; omega
            obtain ⟨rfl, rfl⟩ := Hst.out.no he
            clear he hlt Hst
            go_wp2
            go_ret
            exact ⟨rfl, hO.out⟩
        · have hlt' : ¬ (j : Int) < 4 := by omega
          obtain ⟨rfl, rfl⟩ := Hst.out.fin (by omega)
          clear hlt Hst
          go_wp2
          go_ret
          exact ⟨rfl, hO.out⟩
end Go.Proofs.Ytdpkpphjpihhkaa
end
section
/- The document's Unpack and Pack. -/
namespace Go.Proofs.Ytdpkpphjpihhkaa
open Go.RowKit Go.Grommet

theorem wv_at {w : World} {ad : Option Addr} {xs : List Nat} (h : At w ad (xs.map wv)) (k : Nat) (hk : k < xs.length) :
    ∃ q o, ad = some ⟨q, o, none⟩ ∧ w.cell? ⟨q, o + k, none⟩ = some (.int .u64 ((xs.getD k 0 : Nat) : Int)) := by
  obtain ⟨q, o, he, hc⟩ := h k (wv (xs.getD k 0)) (by simp [hk])
  exact ⟨q, o, he, hc⟩

theorem unpackB_succ (ws : List Nat) (k : Nat) : unpackB ws (k + 1) = unpackB ws k ++ [byteAt (ws.getD (k / 8) 0) (k % 8)] := by simp [unpackB, List.range_succ]

set_option maxRecDepth 100000 in
set_option maxHeartbeats 4000000 in
theorem RUnpack_yes (ad : Option Addr) (l cap : Nat) (ws : List Nat) (n : Nat) (w : World) (hl : ws.length = l) (hat : At w ad (ws.map wv)) (hn : n ≤ 8 * l) (hb : l ≤ 1048576) :
    Calls Try.prog 69 #[.slice ad l cap, .int .i64 (n : Int)] w (TextErr (str (unpackB ws n)) 0 w) := by
  obtain ⟨i0, hi, hz0, hz1, hz2⟩ := info_parts Try.info5
  have h1 : ¬ (n : Int) < 0 := by omega
  have h2 : ¬ 8 * (l : Int) < (n : Int) := by omega
  have d1 : decide ((n : Int) < 0) = false := by simp
  have d2 : decide (8 * (l : Int) < (n : Int)) = false := by simp; omega
  have Hat := Lib.hid hat
  have Hl := Lib.hid hl
  clear hat hl
  go_enter Try.func69, Try.ntmps69
  go_wp2_with fail
  go_loopw [6, 7] (fun s6 s7 wr => ∃ k adk capk, k ≤ n ∧ s7 = .int .i64 (k : Int) ∧ s6 = .slice adk k capk ∧
      wr.ownsRow w.heap.size 5 1 (.slice adk k capk) k ((unpackB ws k).map bv) ∧ w.grownBy wr none)
    (fun _ s7 _ => n - (intOf s7).toNat)
  case atStart => exact ⟨0, none, 0, Nat.zero_le _, rfl, rfl, World.ownsRow_nil _ _ _ _, World.grownBy.refl _ _⟩
  case round =>
    obtain ⟨k, adk, capk, hk, rfl, rfl, hown, hg⟩ := hrel
    by_cases hlt : k < n
    · have hlt' : (k : Int) < (n : Int) := by omega
      have hj : k / 8 < l := by omega
      obtain ⟨q, o, rfl, hcell⟩ := wv_at (Hat.out.grown hg (by simp)) (k / 8) (by rw [Hl.out]; exact hj)
      obtain ⟨V, HV⟩ : ∃ V, Hid (V = ws.getD (k / 8) 0) := ⟨_, Lib.hid rfl⟩
      rw [← HV.out] at hcell
      have b1 : (0 : Int) ≤ (k : Int) / 8 := by omega
      have b2 : (k : Int) / 8 < (l : Int) := by omega
      have b3 : (0 : Int) ≤ (k : Int) % 8 := by omega
      have b4 : (k : Int) % 8 ≤ 7 := by omega
      have hbt : (V : Int) / 2 ^ (8 * (k % 8)) % 256 = ((byteAt V (k % 8)).toNat : Int) := byteAt_int V (k % 8)
      go_wp2_with (at_builtin; refine wpList_append_at rfl _ _ 68 rfl w.heap.size 5 i0 (.int .u8 0) 1 Try.underlying68 hi hz0 hz1 hz2 rfl _ k ((unpackB ws k).map bv) rfl (hown.alloc _) (some ⟨wr.heap.size, 0, none⟩) 1 1 [Value.int .u8 ((byteAt V (k % 8)).toNat : Int)] rfl ?b2 ?b3 ?b4 ?b5 ?b6 ?b7 ?b8 ?_)
      case b2 => rfl
      case b3 => exact at_one _ _ _
      case b4 => simp
      case b5 => exact one_oneCell _ _
      case b6 => unfold maxLen; omega
      case b7 => omega
      case b8 => have := hg.size; simp; omega
      intro v2 w2 hown2 hg2
      have hg' := grown_new (grown_trans hg (World.grownBy_alloc wr _ none)) hg2 (fun g h => (hown.lt g h).1)
      obtain ⟨ad2, cap2, rfl, _⟩ := owns_slice hown2
      clear hown hg hg2 hbt hcell
      go_wp2
      go_roundw
      case rel => exact ⟨k + 1, ad2, cap2, by omega, by go_num, rfl, by rw [unpackB_succ, List.map_append, ← HV.out]; exact hown2, hg'⟩
      case measure => simp [intOf]; omega
    · obtain rfl : k = n := by omega
      have hcv := conv_at (P := Try.prog) (w := wr) 68 9 5 Try.underlying68 Try.underlying5 Try.underlying9 (ad := adk) (cap := capk) (l := k) (bs := unpackB ws k)
        (by obtain ⟨a, c, he, ha, _⟩ := at_of_owns hown; cases he; exact ha) (length_unpackB ws k) (by obtain ⟨a, c, he, _, ha, _⟩ := at_of_owns hown; cases he; exact fun e => (ha e).1)
      clear hown
      go_wp2
      go_ret2
      exact ⟨rfl, hg⟩

/-- What stands in out ahead of byte k: as many words as hold the first k bytes. -/
theorem words_more (bs : List UInt8) (k : Nat) (hk : k = bs.length) (h8 : k % 8 = 0) : words bs (k / 8 + 1) = words bs (k / 8) ++ [0] := by
  subst hk
  have e : word bs (bs.length / 8) = 0 := by
    unfold word
    rw [List.drop_eq_nil_of_le (by omega)]; rfl
  simp [words, List.range_succ, e]

set_option maxRecDepth 100000 in
set_option maxHeartbeats 4000000 in
theorem RPack_any (s : ByteArray) (w : World) (hs : s.size ≤ 1048576) :
    Calls Try.prog 60 #[.string s] w (fun e w' => ∃ ad cap, e = .returned (.slice ad ((s.size + 7) / 8) cap) ∧ At w' ad ((words (bytesOf s) ((s.size + 7) / 8)).map wv) ∧ (ad = none → (s.size + 7) / 8 = 0 ∧ cap = 0) ∧ w.grownBy w' none) := by
  obtain ⟨i0, hi, hz0, hz1, hz2⟩ := info_parts Try.info36
  go_enter Try.func60, Try.ntmps60
  go_wp2_with fail
  go_loopw [3, 4] (fun s3 s4 wr => ∃ k M adk capk, k ≤ s.size ∧ Hid (M = (k + 7) / 8) ∧ s4 = .int .i64 (k : Int) ∧ s3 = .slice adk M capk ∧
      wr.ownsRow w.heap.size 36 1 (.slice adk M capk) M ((words ((bytesOf s).take k) M).map wv) ∧ w.grownBy wr none)
    (fun _ s4 _ => s.size - (intOf s4).toNat)
  case atStart => exact ⟨0, 0, none, 0, Nat.zero_le _, rfl, rfl, rfl, World.ownsRow_nil _ _ _ _, World.grownBy.refl _ _⟩
  case round =>
    obtain ⟨k, M, adk, capk, hk, HM, rfl, rfl, hown, hg⟩ := hrel
    by_cases hlt : k < s.size
    · have hlt' : (k : Int) < (s.size : Int) := by omega
      have hM := HM.out
      by_cases h8 : k % 8 = 0
      · have h8' : (((k : Int) % 8) == 0) = true := by rw [beq_iff_eq]; omega
        obtain rfl : M = k / 8 := by omega
        clear hM
        go_wp2_with (at_builtin; refine wpList_append_at rfl _ _ 27 rfl w.heap.size 36 i0 (.int .u64 0) 8 Try.underlying27 hi hz0 hz1 hz2 rfl _ (k / 8) _ rfl (hown.alloc _) (some ⟨wr.heap.size, 0, none⟩) 1 1 [Value.int .u64 0] rfl ?b2 ?b3 ?b4 ?b5 ?b6 ?b7 ?b8 ?_)
        case b2 => rfl
        case b3 => exact at_one _ _ _
        case b4 => simp
        case b5 => exact one_oneCell _ _
        case b6 => unfold maxLen; omega
        case b7 => omega
        case b8 => have := hg.size; simp; omega
        intro v2 wx hown2 hg2
        have hg := grown_new (grown_trans hg (World.grownBy_alloc wr _ none)) hg2 (fun g h => (hown.lt g h).1)
        have hown : wx.ownsRow w.heap.size 36 1 v2 (k / 8 + 1) ((words ((bytesOf s).take k) (k / 8 + 1)).map wv) := by
          rw [words_more _ k (by rw [List.length_take, length_bytesOf]; omega) h8, List.map_append]
          exact hown2
        obtain ⟨adk, capk, rfl, _⟩ := owns_slice hown
        clear hown2 hg2
        obtain ⟨g, rfl⟩ : ∃ g, adk = some ⟨g, 0, none⟩ := by
          obtain ⟨_, h | ⟨g, cap, cur, hv, _⟩⟩ := hown
          · cases h.1
          · cases hv; exact ⟨g, rfl⟩
        have hlk : ((bytesOf s).take k).length = k := by rw [List.length_take, length_bytesOf]; omega
        have hcell : wx.cell? ⟨g, k / 8, none⟩ = some (.int .u64 ((word ((bytesOf s).take k) (k / 8) : Nat) : Int)) := by
          rw [hown.cellAt (k / 8) (by omega)]
          simp [words, wv]
        have hfr := hown.frozenAt (k / 8)
        have hmath := words_snoc ((bytesOf s).take k) k s[k] hlk.symm (k / 8 + 1) (by omega)
        rw [byte_getD s k hlt, ← take_snoc _ _ (by rw [length_bytesOf]; exact hlt), ← byte_getD s k hlt] at hmath
        have hpl := word_part_lt ((bytesOf s).take k) k hlk.symm
        have Hm := Lib.hid hmath
        have hc := s[k].toNat_lt
        obtain ⟨R, HR⟩ : ∃ R, Hid (R = k % 8) := ⟨_, Lib.hid rfl⟩
        have hR8 : R < 8 := by rw [HR.out]; omega
        obtain ⟨W, HW⟩ : ∃ W, Hid (W = word ((bytesOf s).take k) (k / 8)) := ⟨_, Lib.hid rfl⟩
        rw [← HW.out] at hcell hpl
        rw [← HR.out] at hpl
        obtain ⟨hwd, hwl⟩ := word_int s[k].toNat R hc (by omega)
        have hp8 : 256 ^ (R + 1) ≤ 256 ^ 8 := Nat.pow_le_pow_right (by decide) (by omega)
        have h64 : (256 : Nat) ^ 8 = 18446744073709551616 := by decide
        obtain ⟨Y, HY⟩ : ∃ Y, Hid (Y = s[k].toNat * 256 ^ R) := ⟨_, Lib.hid rfl⟩
        rw [← HY.out] at hwd hwl
        have hsum : W + Y < 18446744073709551616 := by
          have : Y + 256 ^ R ≤ 256 ^ (R + 1) := by
            rw [HY.out, Nat.pow_succ, ← Nat.succ_mul, Nat.mul_comm (256 ^ R)]
            exact Nat.mul_le_mul_right _ hc
          omega
        have b1 : (0 : Int) ≤ (k : Int) / 8 := by omega
        have b2 : (k : Int) / 8 < (k : Int) / 8 + 1 := by omega
        have a1 : IntKind.i64.wrap ((k : Int) / 8) = (k : Int) / 8 := IntWalk.i64_in _ ⟨by omega, by omega⟩
        have a3 : ((k : Int) / 8).toNat = k / 8 := by omega
        have a4 : (k : Int) % 8 = (R : Int) := by rw [HR.out]; omega
        have a5 : IntKind.i64.wrap (R : Int) = (R : Int) := IntWalk.i64_in _ ⟨by omega, by omega⟩
        have a6 : IntKind.i64.wrap (8 * (R : Int)) = 8 * (R : Int) := IntWalk.i64_in _ ⟨by omega, by omega⟩
        have a7 : IntKind.u64.wrap (8 * (R : Int)) = 8 * (R : Int) := IntWalk.u64_in _ ⟨by omega, by omega⟩
        have a8 : IntKind.u64.wrap (s[k].toNat : Int) = (s[k].toNat : Int) := IntWalk.u64_in _ ⟨by omega, by omega⟩
        have a9 : IntKind.u64.wrap ((W : Int) + (Y : Int)) = (W : Int) + (Y : Int) := IntWalk.u64_in _ ⟨by omega, by omega⟩
        have b3 : (0 : Int) ≤ 8 * (R : Int) := by omega
        clear hmath hwl hp8 h64 hlk
        go_wp2_with fail
        go_still_tail 18, (by kernel_rfl)
        go_wp2
        go_roundw
        case rel =>
          refine ⟨k + 1, k / 8 + 1, _, _, by omega, ?_, by go_num, rfl, ?_, ?_⟩
          · show _ = _; omega
          · have hst := (hown.stored (k / 8) (wv (word ((bytesOf s).take k) (k / 8) + s[k].toNat * 256 ^ (k % 8)))).1
            rw [← List.map_set, ← Hm.out, ← HW.out, ← HR.out, ← HY.out] at hst
            have hy0 : (s[k].toNat : Int) = (Y : Int) := by
              have hR0 : R = 0 := by rw [HR.out]; exact h8
              rw [HY.out, hR0, Nat.pow_zero, Nat.mul_one]
            rw [hy0, a9, ← Int.natCast_add]
            exact hst
          · exact grown_drew (grown_new hg (grown_setCell wx ⟨g, k / 8, none⟩ _) (by intro g' e; cases e; exact (hown.lt g rfl).1))
        case measure => first | omega | (simp [intOf]; omega)
      · have h8' : (((k : Int) % 8) == 0) = false := by rw [beq_eq_false_iff_ne]; omega
        obtain rfl : M = k / 8 + 1 := by omega
        obtain ⟨g, rfl⟩ : ∃ g, adk = some ⟨g, 0, none⟩ := by
          obtain ⟨_, h | ⟨g, cap, cur, hv, _⟩⟩ := hown
          · cases h.1
          · cases hv; exact ⟨g, rfl⟩
        obtain ⟨wx, rfl⟩ : ∃ wx : World, wx = wr := ⟨_, rfl⟩
        have hlk : ((bytesOf s).take k).length = k := by rw [List.length_take, length_bytesOf]; omega
        have hcell : wx.cell? ⟨g, k / 8, none⟩ = some (.int .u64 ((word ((bytesOf s).take k) (k / 8) : Nat) : Int)) := by
          rw [hown.cellAt (k / 8) (by omega)]
          simp [words, wv]
        have hfr := hown.frozenAt (k / 8)
        have hmath := words_snoc ((bytesOf s).take k) k s[k] hlk.symm (k / 8 + 1) (by omega)
        rw [byte_getD s k hlt, ← take_snoc _ _ (by rw [length_bytesOf]; exact hlt), ← byte_getD s k hlt] at hmath
        have hpl := word_part_lt ((bytesOf s).take k) k hlk.symm
        have Hm := Lib.hid hmath
        have hc := s[k].toNat_lt
        obtain ⟨R, HR⟩ : ∃ R, Hid (R = k % 8) := ⟨_, Lib.hid rfl⟩
        have hR8 : R < 8 := by rw [HR.out]; omega
        obtain ⟨W, HW⟩ : ∃ W, Hid (W = word ((bytesOf s).take k) (k / 8)) := ⟨_, Lib.hid rfl⟩
        rw [← HW.out] at hcell hpl
        rw [← HR.out] at hpl
        obtain ⟨hwd, hwl⟩ := word_int s[k].toNat R hc (by omega)
        have hp8 : 256 ^ (R + 1) ≤ 256 ^ 8 := Nat.pow_le_pow_right (by decide) (by omega)
        have h64 : (256 : Nat) ^ 8 = 18446744073709551616 := by decide
        obtain ⟨Y, HY⟩ : ∃ Y, Hid (Y = s[k].toNat * 256 ^ R) := ⟨_, Lib.hid rfl⟩
        rw [← HY.out] at hwd hwl
        have hsum : W + Y < 18446744073709551616 := by
          have : Y + 256 ^ R ≤ 256 ^ (R + 1) := by
            rw [HY.out, Nat.pow_succ, ← Nat.succ_mul, Nat.mul_comm (256 ^ R)]
            exact Nat.mul_le_mul_right _ hc
          omega
        have b1 : (0 : Int) ≤ (k : Int) / 8 := by omega
        have b2 : (k : Int) / 8 < (k : Int) / 8 + 1 := by omega
        have a1 : IntKind.i64.wrap ((k : Int) / 8) = (k : Int) / 8 := IntWalk.i64_in _ ⟨by omega, by omega⟩
        have a3 : ((k : Int) / 8).toNat = k / 8 := by omega
        have a4 : (k : Int) % 8 = (R : Int) := by rw [HR.out]; omega
        have a5 : IntKind.i64.wrap (R : Int) = (R : Int) := IntWalk.i64_in _ ⟨by omega, by omega⟩
        have a6 : IntKind.i64.wrap (8 * (R : Int)) = 8 * (R : Int) := IntWalk.i64_in _ ⟨by omega, by omega⟩
        have a7 : IntKind.u64.wrap (8 * (R : Int)) = 8 * (R : Int) := IntWalk.u64_in _ ⟨by omega, by omega⟩
        have a8 : IntKind.u64.wrap (s[k].toNat : Int) = (s[k].toNat : Int) := IntWalk.u64_in _ ⟨by omega, by omega⟩
        have a9 : IntKind.u64.wrap ((W : Int) + (Y : Int)) = (W : Int) + (Y : Int) := IntWalk.u64_in _ ⟨by omega, by omega⟩
        have b3 : (0 : Int) ≤ 8 * (R : Int) := by omega
        clear hmath hwl hp8 h64 hlk hM
        go_wp2_with fail
        go_still_tail 18, (by kernel_rfl)
        go_wp2
        go_roundw
        case rel =>
          refine ⟨k + 1, k / 8 + 1, _, _, by omega, ?_, by go_num, rfl, ?_, ?_⟩
          · show _ = _; omega
          · have hst := (hown.stored (k / 8) (wv (word ((bytesOf s).take k) (k / 8) + s[k].toNat * 256 ^ (k % 8)))).1
            rw [← List.map_set, ← Hm.out, ← HW.out, ← HR.out, ← HY.out] at hst
            have em : min (8 * (k % 8)) 64 = (8 * (R : Int)).toNat := by rw [← HR.out]; omega
            rw [em, hwd, a9, ← Int.natCast_add]
            exact hst
          · exact grown_drew (grown_new hg (grown_setCell wx ⟨g, k / 8, none⟩ _) (by intro g' e; cases e; exact (hown.lt g rfl).1))
        case measure => first | omega | (simp [intOf]; omega)
    · obtain rfl : k = s.size := by omega
      rw [List.take_of_length_le (by rw [length_bytesOf]; exact Nat.le_refl _)] at hown
      obtain ⟨ad, cap, he, ha, hnl, _⟩ := at_of_owns hown
      cases he
      rw [HM.out] at ha hnl ⊢
      have hr : ∃ ad cap, Ending.returned (.slice adk ((s.size + 7) / 8) capk) = .returned (.slice ad ((s.size + 7) / 8) cap) ∧ At wr ad ((words (bytesOf s) ((s.size + 7) / 8)).map wv) ∧ (ad = none → (s.size + 7) / 8 = 0 ∧ cap = 0) ∧ w.grownBy wr none := ⟨adk, capk, rfl, ha, hnl, hg⟩
      have HR := Lib.hid hr
      clear hr hown ha hnl HM
      go_wp2
      go_ret
      exact HR.out
end Go.Proofs.Ytdpkpphjpihhkaa
end
section
/- The document's Load. -/
namespace Go.Proofs.Ytdpkpphjpihhkaa
open Go.RowKit Go.Grommet

set_option maxRecDepth 100000 in
set_option maxHeartbeats 8000000 in
theorem RLoadE (k g : Nat) (xs : List Nat) (L : List (Nat × Nat)) (i kk : Int) (t : Nat) (w0 w : World) (Ps : List Pr) (h : Own w0 w Ps) (hk : Ps[k]? = some (refQ g xs L)) (ht : thereV xs.length i kk = t) (hne : t ≠ 0) :
    Calls Try.prog 40 #[.pointer (some ⟨g, 0, none⟩), .int .i64 i, .int .i64 kk] w fun e w' => e = .returned (.tuple #[.int .u64 0, .agg #[.int .i64 0, .int .u64 0, .int .u64 0, .string ⟨#[]⟩], .int .i64 (t : Int)]) ∧ Own w0 w' Ps := by
  have hkl := (List.getElem?_eq_some_iff.1 hk).1
  obtain ⟨X, HX⟩ : ∃ X, Hid (X = w.heap.size) := ⟨_, Lib.hid rfl⟩
  have hO : Own w0 (w.alloc (.cells #[.int .i64 0, .int .u64 0, .int .u64 0, .string ⟨#[]⟩] 39)) (Ps ++ [boxP X 39 #[.int .i64 0, .int .u64 0, .int .u64 0, .string ⟨#[]⟩]]) := by rw [HX.out]; exact h.addBox _ _
  have Hk := Lib.hid (show ∀ Rs, (Ps ++ Rs)[k]? = some (refQ g xs L) from fun Rs => by rw [List.getElem?_append_left hkl]; exact hk)
  have HT := Lib.hid (RThereQ k g xs L i kk w0 _ _ hO (Hk.out _))
  rw [ht] at HT
  have HS := Lib.hid (fun wx => RSlotAt_any i kk wx)
  have qt : ((t : Int) != 0) = true := by simp; omega
  replace hO := Lib.hid hO
  clear h hk hkl ht hne
  go_enter Try.func40, Try.ntmps40
  go_wp2_with fail
  rw [← HX.out]
  refine HT.out.mono ?_
  rintro e w1 ⟨rfl, hg⟩
  have hO1 := Lib.hid (hO.out.quiet hg)
  clear HT hO hg
  clear HS
  have hz : w1.heap[X]? = some (.cells #[.int .i64 0, .int .u64 0, .int .u64 0, .string ⟨#[]⟩] 39 (0, 0)) := Own.box hO1.out Ps.length (by rw [List.getElem?_append_right (Nat.le_refl _), Nat.sub_self]; rfl)
  have Hq : Hid (∀ w6 : World, w1.grownBy w6 (some X) → Own w0 w6 Ps) := Lib.hid (fun w6 hg => hO1.out.forget hg)
  have m0 : w1.cell? ⟨X, 0, none⟩ = some (.int .i64 0) := by simp [World.cell?, hz]
  have q0 : w1.frozen? ⟨X, 0, none⟩ = false := by simp [World.frozen?, hz]
  have m1 : w1.cell? ⟨X, 1, none⟩ = some (.int .u64 0) := by simp [World.cell?, hz]
  have q1 : w1.frozen? ⟨X, 1, none⟩ = false := by simp [World.frozen?, hz]
  have m2 : w1.cell? ⟨X, 2, none⟩ = some (.int .u64 0) := by simp [World.cell?, hz]
  have q2 : w1.frozen? ⟨X, 2, none⟩ = false := by simp [World.frozen?, hz]
  have m3 : w1.cell? ⟨X, 3, none⟩ = some (.string ⟨#[]⟩) := by simp [World.cell?, hz]
  have q3 : w1.frozen? ⟨X, 3, none⟩ = false := by simp [World.frozen?, hz]
  have hz1 := heap_setCell_at (o := 0) hz (.int .i64 0)
  have hz2 := heap_setCell_at (o := 1) hz1 (.int .u64 0)
  have hz3 := heap_setCell_at (o := 2) hz2 (.int .u64 0)
  have hz4 := heap_setCell_at (o := 3) hz3 (.string ⟨#[]⟩)
  have g1 : w1.grownBy ((((w1.setCell ⟨X, 0, none⟩ (.int .i64 0)).setCell ⟨X, 1, none⟩ (.int .u64 0)).setCell ⟨X, 2, none⟩ (.int .u64 0)).setCell ⟨X, 3, none⟩ (.string ⟨#[]⟩)) (some X) := (grown_trans (grown_trans (grown_trans (grown_setCell _ ⟨X, 0, none⟩ (.int .i64 0)) (grown_setCell _ ⟨X, 1, none⟩ (.int .u64 0))) (grown_setCell _ ⟨X, 2, none⟩ (.int .u64 0))) (grown_setCell _ ⟨X, 3, none⟩ (.string ⟨#[]⟩)))
  obtain ⟨W3, hW3⟩ : ∃ W3, W3 = ((((w1.setCell ⟨X, 0, none⟩ (.int .i64 0)).setCell ⟨X, 1, none⟩ (.int .u64 0)).setCell ⟨X, 2, none⟩ (.int .u64 0)).setCell ⟨X, 3, none⟩ (.string ⟨#[]⟩)) := ⟨_, rfl⟩
  clear hz1 hz2 hz3
  clear hO1
  go_wp2
  rw [← hW3] at hz4 g1 ⊢
  have Z0 : W3.cell? ⟨X, 0, none⟩ = some (.int .i64 0) := by simp [World.cell?, hz4]
  have Z1 : W3.cell? ⟨X, 1, none⟩ = some (.int .u64 0) := by simp [World.cell?, hz4]
  have Z2 : W3.cell? ⟨X, 2, none⟩ = some (.int .u64 0) := by simp [World.cell?, hz4]
  have Z3 : W3.cell? ⟨X, 3, none⟩ = some (.string ⟨#[]⟩) := by simp [World.cell?, hz4]
  exact bodyPost_ret (v := .tuple #[.int .u64 0, .agg #[.int .i64 0, .int .u64 0, .int .u64 0, .string ⟨#[]⟩], .int .i64 (t : Int)]) (by simp [results, Try.results40, go_sem, Z0, Z1, Z2, Z3]) rfl ⟨rfl, Hq.out _ g1⟩

set_option maxRecDepth 100000 in
set_option maxHeartbeats 8000000 in
theorem RLoadZero (k g : Nat) (xs : List Nat) (L : List (Nat × Nat)) (i kk : Int) (sl : Int) (w0 w : World) (Ps : List Pr) (h : Own w0 w Ps) (hk : Ps[k]? = some (refQ g xs L)) (ht : thereV xs.length i kk = 0) (hsl : slotV i kk = sl) (hz : gotI xs L sl = 0) :
    Calls Try.prog 40 #[.pointer (some ⟨g, 0, none⟩), .int .i64 i, .int .i64 kk] w fun e w' => e = .returned (.tuple #[.int .u64 0, .agg #[.int .i64 0, .int .u64 0, .int .u64 0, .string ⟨#[]⟩], .int .i64 0]) ∧ Own w0 w' Ps := by
  have hkl := (List.getElem?_eq_some_iff.1 hk).1
  obtain ⟨X, HX⟩ : ∃ X, Hid (X = w.heap.size) := ⟨_, Lib.hid rfl⟩
  have hO : Own w0 (w.alloc (.cells #[.int .i64 0, .int .u64 0, .int .u64 0, .string ⟨#[]⟩] 39)) (Ps ++ [boxP X 39 #[.int .i64 0, .int .u64 0, .int .u64 0, .string ⟨#[]⟩]]) := by rw [HX.out]; exact h.addBox _ _
  have Hk := Lib.hid (show ∀ Rs, (Ps ++ Rs)[k]? = some (refQ g xs L) from fun Rs => by rw [List.getElem?_append_left hkl]; exact hk)
  have HT := Lib.hid (RThereQ k g xs L i kk w0 _ _ hO (Hk.out _))
  rw [ht, show ((0 : Nat) : Int) = 0 from rfl] at HT
  have HS := Lib.hid (fun wx => RSlotAt_any i kk wx)
  rw [hsl] at HS
  have HG := Lib.hid (fun (p : Int) wx Rs (hO : Own w0 wx (Ps ++ Rs)) => RGetQ k g xs L p w0 wx _ hO (Hk.out _))
  have HG0 := Lib.hid (fun wx Rs hO => HG.out sl wx Rs hO)
  rw [hz] at HG0
  replace hO := Lib.hid hO
  clear h hk hkl ht hsl hz
  go_enter Try.func40, Try.ntmps40
  go_wp2_with fail
  rw [← HX.out]
  refine HT.out.mono ?_
  rintro e w1 ⟨rfl, hg⟩
  have hO1 := Lib.hid (hO.out.quiet hg)
  clear HT hO hg
  go_wp2_with fail
  refine (HS.out _).mono ?_
  rintro e w2 ⟨rfl, hg⟩
  have hO2 := Lib.hid (hO1.out.quiet hg)
  clear hg hO1 HS
  go_wp2_with fail
  refine (HG0.out _ _ hO2.out).mono ?_
  rintro e w3 ⟨rfl, rfl⟩
  have hz : w3.heap[X]? = some (.cells #[.int .i64 0, .int .u64 0, .int .u64 0, .string ⟨#[]⟩] 39 (0, 0)) := Own.box hO2.out Ps.length (by rw [List.getElem?_append_right (Nat.le_refl _), Nat.sub_self]; rfl)
  have Hq : Hid (∀ w6 : World, w3.grownBy w6 (some X) → Own w0 w6 Ps) := Lib.hid (fun w6 hg => hO2.out.forget hg)
  have m0 : w3.cell? ⟨X, 0, none⟩ = some (.int .i64 0) := by simp [World.cell?, hz]
  have q0 : w3.frozen? ⟨X, 0, none⟩ = false := by simp [World.frozen?, hz]
  have m1 : w3.cell? ⟨X, 1, none⟩ = some (.int .u64 0) := by simp [World.cell?, hz]
  have q1 : w3.frozen? ⟨X, 1, none⟩ = false := by simp [World.frozen?, hz]
  have m2 : w3.cell? ⟨X, 2, none⟩ = some (.int .u64 0) := by simp [World.cell?, hz]
  have q2 : w3.frozen? ⟨X, 2, none⟩ = false := by simp [World.frozen?, hz]
  have m3 : w3.cell? ⟨X, 3, none⟩ = some (.string ⟨#[]⟩) := by simp [World.cell?, hz]
  have q3 : w3.frozen? ⟨X, 3, none⟩ = false := by simp [World.frozen?, hz]
  have hz1 := heap_setCell_at (o := 0) hz (.int .i64 0)
  have hz2 := heap_setCell_at (o := 1) hz1 (.int .u64 0)
  have hz3 := heap_setCell_at (o := 2) hz2 (.int .u64 0)
  have hz4 := heap_setCell_at (o := 3) hz3 (.string ⟨#[]⟩)
  have g1 : w3.grownBy ((((w3.setCell ⟨X, 0, none⟩ (.int .i64 0)).setCell ⟨X, 1, none⟩ (.int .u64 0)).setCell ⟨X, 2, none⟩ (.int .u64 0)).setCell ⟨X, 3, none⟩ (.string ⟨#[]⟩)) (some X) := (grown_trans (grown_trans (grown_trans (grown_setCell _ ⟨X, 0, none⟩ (.int .i64 0)) (grown_setCell _ ⟨X, 1, none⟩ (.int .u64 0))) (grown_setCell _ ⟨X, 2, none⟩ (.int .u64 0))) (grown_setCell _ ⟨X, 3, none⟩ (.string ⟨#[]⟩)))
  obtain ⟨W3, hW3⟩ : ∃ W3, W3 = ((((w3.setCell ⟨X, 0, none⟩ (.int .i64 0)).setCell ⟨X, 1, none⟩ (.int .u64 0)).setCell ⟨X, 2, none⟩ (.int .u64 0)).setCell ⟨X, 3, none⟩ (.string ⟨#[]⟩)) := ⟨_, rfl⟩
  clear hz1 hz2 hz3
  clear hO2 HG0 HG
  go_wp2
  rw [← hW3] at hz4 g1 ⊢
  have Z0 : W3.cell? ⟨X, 0, none⟩ = some (.int .i64 0) := by simp [World.cell?, hz4]
  have Z1 : W3.cell? ⟨X, 1, none⟩ = some (.int .u64 0) := by simp [World.cell?, hz4]
  have Z2 : W3.cell? ⟨X, 2, none⟩ = some (.int .u64 0) := by simp [World.cell?, hz4]
  have Z3 : W3.cell? ⟨X, 3, none⟩ = some (.string ⟨#[]⟩) := by simp [World.cell?, hz4]
  exact bodyPost_ret (v := .tuple #[.int .u64 0, .agg #[.int .i64 0, .int .u64 0, .int .u64 0, .string ⟨#[]⟩], .int .i64 0]) (by simp [results, Try.results40, go_sem, Z0, Z1, Z2, Z3]) rfl ⟨rfl, Hq.out _ g1⟩

set_option maxRecDepth 100000 in
set_option maxHeartbeats 8000000 in
theorem RLoadBad (k g : Nat) (xs : List Nat) (L : List (Nat × Nat)) (i kk : Int) (sl : Int) (sq C : Nat) (w0 w : World) (Ps : List Pr) (h : Own w0 w Ps) (hk : Ps[k]? = some (refQ g xs L)) (ht : thereV xs.length i kk = 0) (hsl : slotV i kk = sl) (hs : 0 ≤ sl ∧ sl ≤ 1000) (hz : gotI xs L sl = sq) (hsq : 1 ≤ sq) (hC : gotI xs L (sl + 1) = C) (hC64 : C < 18446744073709551616) (hbad : 24 < C % 256 ∨ 64 < C / 256) :
    Calls Try.prog 40 #[.pointer (some ⟨g, 0, none⟩), .int .i64 i, .int .i64 kk] w fun e w' => e = .returned (.tuple #[.int .u64 0, .agg #[.int .i64 0, .int .u64 0, .int .u64 0, .string ⟨#[]⟩], .int .i64 4]) ∧ Own w0 w' Ps := by
  have hkl := (List.getElem?_eq_some_iff.1 hk).1
  obtain ⟨X, HX⟩ : ∃ X, Hid (X = w.heap.size) := ⟨_, Lib.hid rfl⟩
  have hO : Own w0 (w.alloc (.cells #[.int .i64 0, .int .u64 0, .int .u64 0, .string ⟨#[]⟩] 39)) (Ps ++ [boxP X 39 #[.int .i64 0, .int .u64 0, .int .u64 0, .string ⟨#[]⟩]]) := by rw [HX.out]; exact h.addBox _ _
  have Hk := Lib.hid (show ∀ Rs, (Ps ++ Rs)[k]? = some (refQ g xs L) from fun Rs => by rw [List.getElem?_append_left hkl]; exact hk)
  have HT := Lib.hid (RThereQ k g xs L i kk w0 _ _ hO (Hk.out _))
  rw [ht, show ((0 : Nat) : Int) = 0 from rfl] at HT
  have HS := Lib.hid (fun wx => RSlotAt_any i kk wx)
  rw [hsl] at HS
  have HG := Lib.hid (fun (p : Int) wx Rs (hO : Own w0 wx (Ps ++ Rs)) => RGetQ k g xs L p w0 wx _ hO (Hk.out _))
  have HG0 := Lib.hid (fun wx Rs hO => HG.out sl wx Rs hO)
  rw [hz] at HG0
  have qs : ((sq : Int) == 0) = false := by rw [beq_eq_false_iff_ne]; omega
  have HG1 := Lib.hid (fun wx Rs hO => HG.out (sl + 1) wx Rs hO)
  rw [hC] at HG1
  have w1s : IntKind.i64.wrap (sl + 1) = sl + 1 := IntWalk.i64_in _ ⟨by omega, by omega⟩
  obtain ⟨M, hM⟩ : ∃ M, C % 256 = M := ⟨_, rfl⟩
  obtain ⟨D, hD⟩ : ∃ D, C / 256 = D := ⟨_, rfl⟩
  have hDl : D < 18446744073709551616 := by omega
  have e1 : (C : Int) % 256 = (M : Int) := by omega
  have e1' : Int.tmod (C : Int) 256 = (M : Int) := by rw [Int.tmod_eq_emod_of_nonneg (by omega)]; exact e1
  have e2 : (C : Int) / 256 = (D : Int) := by omega
  have e2' : Int.tdiv (C : Int) 256 = (D : Int) := by rw [Int.tdiv_eq_ediv_of_nonneg (by omega)]; exact e2
  have wM : IntKind.u64.wrap (M : Int) = (M : Int) := IntWalk.u64_in _ ⟨by omega, by omega⟩
  have wD : IntKind.u64.wrap (D : Int) = (D : Int) := IntWalk.u64_in _ ⟨by omega, by omega⟩
  rw [hM, hD] at hbad
  have Hbad := Lib.hid hbad
  replace hO := Lib.hid hO
  clear h hk hkl ht hsl hz hs hsq hC hC64 hbad hM hD hDl
  go_enter Try.func40, Try.ntmps40
  go_wp2_with fail
  rw [← HX.out]
  refine HT.out.mono ?_
  rintro e w1 ⟨rfl, hg⟩
  have hO1 := Lib.hid (hO.out.quiet hg)
  clear HT hO hg
  go_wp2_with fail
  refine (HS.out _).mono ?_
  rintro e w2 ⟨rfl, hg⟩
  have hO2 := Lib.hid (hO1.out.quiet hg)
  clear hg hO1 HS
  go_wp2_with fail
  refine (HG0.out _ _ hO2.out).mono ?_
  rintro e w3 ⟨rfl, rfl⟩
  go_wp2_with fail
  refine (HG1.out _ _ hO2.out).mono ?_
  rintro e w4 ⟨rfl, hw4⟩
  first | rw [hw4] | rw [← hw4]
  clear hw4
  have hz : w3.heap[X]? = some (.cells #[.int .i64 0, .int .u64 0, .int .u64 0, .string ⟨#[]⟩] 39 (0, 0)) := Own.box hO2.out Ps.length (by rw [List.getElem?_append_right (Nat.le_refl _), Nat.sub_self]; rfl)
  have Hq : Hid (∀ w6 : World, w3.grownBy w6 (some X) → Own w0 w6 Ps) := Lib.hid (fun w6 hg => hO2.out.forget hg)
  have m0 : w3.cell? ⟨X, 0, none⟩ = some (.int .i64 0) := by simp [World.cell?, hz]
  have q0 : w3.frozen? ⟨X, 0, none⟩ = false := by simp [World.frozen?, hz]
  have m1 : w3.cell? ⟨X, 1, none⟩ = some (.int .u64 0) := by simp [World.cell?, hz]
  have q1 : w3.frozen? ⟨X, 1, none⟩ = false := by simp [World.frozen?, hz]
  have m2 : w3.cell? ⟨X, 2, none⟩ = some (.int .u64 0) := by simp [World.cell?, hz]
  have q2 : w3.frozen? ⟨X, 2, none⟩ = false := by simp [World.frozen?, hz]
  have m3 : w3.cell? ⟨X, 3, none⟩ = some (.string ⟨#[]⟩) := by simp [World.cell?, hz]
  have q3 : w3.frozen? ⟨X, 3, none⟩ = false := by simp [World.frozen?, hz]
  have hz1 := heap_setCell_at (o := 0) hz (.int .i64 0)
  have hz2 := heap_setCell_at (o := 1) hz1 (.int .u64 0)
  have hz3 := heap_setCell_at (o := 2) hz2 (.int .u64 0)
  have hz4 := heap_setCell_at (o := 3) hz3 (.string ⟨#[]⟩)
  have g1 : w3.grownBy ((((w3.setCell ⟨X, 0, none⟩ (.int .i64 0)).setCell ⟨X, 1, none⟩ (.int .u64 0)).setCell ⟨X, 2, none⟩ (.int .u64 0)).setCell ⟨X, 3, none⟩ (.string ⟨#[]⟩)) (some X) := (grown_trans (grown_trans (grown_trans (grown_setCell _ ⟨X, 0, none⟩ (.int .i64 0)) (grown_setCell _ ⟨X, 1, none⟩ (.int .u64 0))) (grown_setCell _ ⟨X, 2, none⟩ (.int .u64 0))) (grown_setCell _ ⟨X, 3, none⟩ (.string ⟨#[]⟩)))
  obtain ⟨W3, hW3⟩ : ∃ W3, W3 = ((((w3.setCell ⟨X, 0, none⟩ (.int .i64 0)).setCell ⟨X, 1, none⟩ (.int .u64 0)).setCell ⟨X, 2, none⟩ (.int .u64 0)).setCell ⟨X, 3, none⟩ (.string ⟨#[]⟩)) := ⟨_, rfl⟩
  clear hz1 hz2 hz3
  clear hO2 HG0 HG1 HG
  by_cases c : 24 < M
  · have cM : (24 : Int) < (M : Int) := by omega
    clear c
    go_wp2
    rw [← hW3] at hz4 g1 ⊢
    have Z0 : W3.cell? ⟨X, 0, none⟩ = some (.int .i64 0) := by simp [World.cell?, hz4]
    have Z1 : W3.cell? ⟨X, 1, none⟩ = some (.int .u64 0) := by simp [World.cell?, hz4]
    have Z2 : W3.cell? ⟨X, 2, none⟩ = some (.int .u64 0) := by simp [World.cell?, hz4]
    have Z3 : W3.cell? ⟨X, 3, none⟩ = some (.string ⟨#[]⟩) := by simp [World.cell?, hz4]
    exact bodyPost_ret (v := .tuple #[.int .u64 0, .agg #[.int .i64 0, .int .u64 0, .int .u64 0, .string ⟨#[]⟩], .int .i64 4]) (by simp [results, Try.results40, go_sem, Z0, Z1, Z2, Z3]) rfl ⟨rfl, Hq.out _ g1⟩
  · have cM : ¬ (24 : Int) < (M : Int) := by omega
    have cD : (64 : Int) < (D : Int) := by have := Hbad.out; omega
    clear c
    go_wp2
    rw [← hW3] at hz4 g1 ⊢
    have Z0 : W3.cell? ⟨X, 0, none⟩ = some (.int .i64 0) := by simp [World.cell?, hz4]
    have Z1 : W3.cell? ⟨X, 1, none⟩ = some (.int .u64 0) := by simp [World.cell?, hz4]
    have Z2 : W3.cell? ⟨X, 2, none⟩ = some (.int .u64 0) := by simp [World.cell?, hz4]
    have Z3 : W3.cell? ⟨X, 3, none⟩ = some (.string ⟨#[]⟩) := by simp [World.cell?, hz4]
    exact bodyPost_ret (v := .tuple #[.int .u64 0, .agg #[.int .i64 0, .int .u64 0, .int .u64 0, .string ⟨#[]⟩], .int .i64 4]) (by simp [results, Try.results40, go_sem, Z0, Z1, Z2, Z3]) rfl ⟨rfl, Hq.out _ g1⟩

set_option maxRecDepth 100000 in
set_option maxHeartbeats 8000000 in
theorem RLoadYes (k g : Nat) (xs : List Nat) (L : List (Nat × Nat)) (i kk : Int) (sl : Int) (sq C en D ra rb : Nat) (dd : ByteArray) (w0 w : World) (Ps : List Pr) (h : Own w0 w Ps) (hk : Ps[k]? = some (refQ g xs L)) (ht : thereV xs.length i kk = 0) (hsl : slotV i kk = sl) (hs : 0 ≤ sl ∧ sl ≤ 1000)
    (hz : gotI xs L sl = sq) (hsq : 1 ≤ sq) (hC : gotI xs L (sl + 1) = C) (hCe : en + 256 * D = C) (hen : en ≤ 24) (hD : D ≤ 64) (hra : gotI xs L (sl + 2) = ra) (hrb : gotI xs L (sl + 3) = rb) (hdd : str (unpackB (usT xs L sl 8) D) = dd) :
    Calls Try.prog 40 #[.pointer (some ⟨g, 0, none⟩), .int .i64 i, .int .i64 kk] w fun e w' => e = .returned (.tuple #[.int .u64 (sq : Int), .agg #[.int .i64 (en : Int), .int .u64 (ra : Int), .int .u64 (rb : Int), .string dd], .int .i64 0]) ∧ Own w0 w' Ps := by
  have hkl := (List.getElem?_eq_some_iff.1 hk).1
  obtain ⟨X, HX⟩ : ∃ X, Hid (X = w.heap.size) := ⟨_, Lib.hid rfl⟩
  have hO : Own w0 (w.alloc (.cells #[.int .i64 0, .int .u64 0, .int .u64 0, .string ⟨#[]⟩] 39)) (Ps ++ [boxP X 39 #[.int .i64 0, .int .u64 0, .int .u64 0, .string ⟨#[]⟩]]) := by rw [HX.out]; exact h.addBox _ _
  have Hk := Lib.hid (show ∀ Rs, (Ps ++ Rs)[k]? = some (refQ g xs L) from fun Rs => by rw [List.getElem?_append_left hkl]; exact hk)
  have HT := Lib.hid (RThereQ k g xs L i kk w0 _ _ hO (Hk.out _))
  rw [ht, show ((0 : Nat) : Int) = 0 from rfl] at HT
  have HS := Lib.hid (fun wx => RSlotAt_any i kk wx)
  rw [hsl] at HS
  have HG := Lib.hid (fun (p : Int) wx Rs (hO : Own w0 wx (Ps ++ Rs)) => RGetQ k g xs L p w0 wx _ hO (Hk.out _))
  have HG0 := Lib.hid (fun wx Rs hO => HG.out sl wx Rs hO)
  rw [hz] at HG0
  have qs : ((sq : Int) == 0) = false := by rw [beq_eq_false_iff_ne]; omega
  have HG1 := Lib.hid (fun wx Rs hO => HG.out (sl + 1) wx Rs hO)
  rw [hC] at HG1
  have w1s : IntKind.i64.wrap (sl + 1) = sl + 1 := IntWalk.i64_in _ ⟨by omega, by omega⟩
  have HG2 := Lib.hid (fun wx Rs hO => HG.out (sl + 2) wx Rs hO)
  rw [hra] at HG2
  have HG3 := Lib.hid (fun wx Rs hO => HG.out (sl + 3) wx Rs hO)
  rw [hrb] at HG3
  have HUs := Lib.hid (fun (j : Nat) => show usT xs L sl (j + 1) = usT xs L sl j ++ [gotI xs L (sl + ((4 + j : Nat) : Int))] from rfl)
  have HUn := Lib.hid (fun ad cap wx (hat : At wx ad ((usT xs L sl 8).map wv)) => show Calls Try.prog 69 #[.slice ad 8 cap, .int .i64 (D : Int)] wx (TextErr dd 0 wx) from by
    have := RUnpack_yes ad 8 cap (usT xs L sl 8) D wx (usT_length _ _ _ _) hat (by omega) (by omega)
    rw [hdd] at this
    exact this)
  unfold TextErr at HUn
  have s0 : 0 ≤ sl := hs.1
  have s1 : sl ≤ 1000 := hs.2
  have w2' : IntKind.i64.wrap (sl + 2) = sl + 2 := IntWalk.i64_in _ ⟨by omega, by omega⟩
  have w3' : IntKind.i64.wrap (sl + 3) = sl + 3 := IntWalk.i64_in _ ⟨by omega, by omega⟩
  have w4' : IntKind.i64.wrap (sl + 4) = sl + 4 := IntWalk.i64_in _ ⟨by omega, by omega⟩
  have c1 : (C : Int) % 256 = (en : Int) := by omega
  have c2 : (C : Int) / 256 = (D : Int) := by omega
  have c1' : Int.tmod (C : Int) 256 = (en : Int) := by rw [Int.tmod_eq_emod_of_nonneg (by omega)]; exact c1
  have c2' : Int.tdiv (C : Int) 256 = (D : Int) := by rw [Int.tdiv_eq_ediv_of_nonneg (by omega)]; exact c2
  have f1 : ¬ (24 : Int) < (en : Int) := by omega
  have f2 : ¬ (64 : Int) < (D : Int) := by omega
  have v1 : IntKind.i64.wrap (en : Int) = (en : Int) := IntWalk.i64_in _ ⟨by omega, by omega⟩
  have v2 : IntKind.i64.wrap (D : Int) = (D : Int) := IntWalk.i64_in _ ⟨by omega, by omega⟩
  have u1 : IntKind.u64.wrap (en : Int) = (en : Int) := IntWalk.u64_in _ ⟨by omega, by omega⟩
  have u2 : IntKind.u64.wrap (D : Int) = (D : Int) := IntWalk.u64_in _ ⟨by omega, by omega⟩
  replace hdd := Lib.hid hdd
  replace hO := Lib.hid hO
  clear h hk hkl ht hsl hz hs hsq hC hCe hen hD hra hrb
  go_enter Try.func40, Try.ntmps40
  go_wp2_with fail
  rw [← HX.out]
  refine HT.out.mono ?_
  rintro e w1 ⟨rfl, hg⟩
  have hO1 := Lib.hid (hO.out.quiet hg)
  clear HT hO hg
  go_wp2_with fail
  refine (HS.out _).mono ?_
  rintro e w2 ⟨rfl, hg⟩
  have hO2 := Lib.hid (hO1.out.quiet hg)
  clear hg hO1 HS
  go_wp2_with fail
  refine (HG0.out _ _ hO2.out).mono ?_
  rintro e w3 ⟨rfl, rfl⟩
  go_wp2_with fail
  refine (HG1.out _ _ hO2.out).mono ?_
  rintro e w4 ⟨rfl, hw4⟩
  first | rw [hw4] | rw [← hw4]
  clear hw4
  have hO3 : Hid (Own w0 w3 (Ps ++ [boxP X 39 #[.int .i64 0, .int .u64 0, .int .u64 0, .string ⟨#[]⟩], rowP 36 1 (.slice none 0 0) 0 ((usT xs L sl 0).map wv)])) := Lib.hid (by
    have := Own.addRow hO2.out (World.ownsRow_nil w3 w3.heap.size 36 1) (World.grownBy.refl _ none)
    rw [List.append_assoc] at this
    exact this)
  clear hO2 HG1
  go_wp2_with fail
  go_loopw [12, 13] (fun s c wr => ∃ (j : Nat) (ad : Option Addr) (cap : Nat), j ≤ 8 ∧ c = .int .i64 (j : Int) ∧ s = .slice ad j cap ∧ Hid (Own w0 wr (Ps ++ [boxP X 39 #[.int .i64 0, .int .u64 0, .int .u64 0, .string ⟨#[]⟩], rowP 36 1 (.slice ad j cap) j ((usT xs L sl j).map wv)]))) (fun _ c _ => 8 - (intOf c).toNat)
  case atStart => exact ⟨0, none, 0, by omega, rfl, rfl, hO3⟩
  case round =>
    clear hO3
    obtain ⟨j, ad, cap, hj, rfl, rfl, hO⟩ := hrel
    have m0 : (0 : Int) ≤ (j : Int) := by omega
    by_cases hlt : j < 8
    · have hlt' : (j : Int) < 8 := by omega
      have a5 : IntKind.i64.wrap (sl + 4 + (j : Int)) = sl + 4 + (j : Int) := IntWalk.i64_in _ ⟨by omega, by omega⟩
      have hX := Lib.hid (HG.out (sl + 4 + (j : Int)) wr _ hO.out)
      have hsn := Lib.hid (HUs.out j)
      rw [show sl + ((4 + j : Nat) : Int) = sl + 4 + (j : Int) by omega] at hsn
      generalize gotI xs L (sl + 4 + (j : Int)) = W at *
      go_wp2_with fail
      refine hX.out.mono ?_
      rintro e w6 ⟨rfl, rfl⟩
      clear hX
      have hrow : w6.ownsRow 0 36 1 (.slice ad j cap) j ((usT xs L sl j).map wv) := Own.row hO.out (Ps.length + 1) (by rw [List.getElem?_append_right (by omega), Nat.add_sub_cancel_left]; rfl)
      go_wp2_with (at_builtin; refine appU rfl _ _ rfl _ j (usT xs L sl j) rfl (World.ownsRow.alloc hrow _) ⟨w6.heap.size, 0, none⟩ 1 1 [W] rfl rfl (at_of_row (heap_alloc_new w6 _)) ?a2 ?_)
      case a2 => omega
      intro ad2 cap2 w7 hr7 hg7 hn7
      have hO7 := Own.append (hO.out.quiet (World.grownBy_alloc w6 _ none)) (Ps.length + 1) (by rw [List.getElem?_append_right (by omega), Nat.add_sub_cancel_left]; rfl) (ys := (usT xs L sl j ++ [W]).map wv) (by rw [List.map_append]; exact hr7) hg7 (fun y e => (hn7 y e).imp id (fun h => by rw [World.size_alloc]; exact h))
      rw [List.set_append_right _ _ (by omega), Nat.add_sub_cancel_left, ← hsn.out] at hO7
      have hO8 : Hid (Own w0 w7 (Ps ++ [boxP X 39 #[.int .i64 0, .int .u64 0, .int .u64 0, .string ⟨#[]⟩], rowP 36 1 (.slice ad2 (j + 1) cap2) (j + 1) ((usT xs L sl (j + 1)).map wv)])) := Lib.hid hO7
      clear hr7 hg7 hn7 hO hO7 hrow
      go_wp2
      go_roundw
      case rel => exact ⟨j + 1, ad2, cap2, by omega, by go_num, rfl, hO8⟩
      case measure => simp [intOf]; omega
    · have hlt' : ¬ (j : Int) < 8 := by omega
      have HJ : Hid (j = 8) := Lib.hid (by omega)
      have hrow : wr.ownsRow 0 36 1 (.slice ad j cap) j ((usT xs L sl j).map wv) := Own.row hO.out (Ps.length + 1) (by rw [List.getElem?_append_right (by omega), Nat.add_sub_cancel_left]; rfl)
      obtain ⟨ad', cap', he, hat, _, _⟩ := at_of_owns hrow
      cases he
      have hU : Hid (Calls Try.prog 69 #[.slice ad j cap, .int .i64 (D : Int)] wr fun e w' => e = .returned (.tuple #[.string dd, .int .i64 0]) ∧ wr.grownBy w' none) := Lib.hid (by
        rw [HJ.out] at hat ⊢
        exact HUn.out ad cap wr hat)
      clear hat hrow
      go_wp2_with fail
      refine hU.out.mono ?_
      rintro e w7 ⟨rfl, hg⟩
      replace hO := Lib.hid (hO.out.quiet hg)
      clear hg hU
      go_wp2_with fail
      refine (HG0.out _ _ hO.out).mono ?_
      rintro e w8 ⟨rfl, hw8⟩
      first | rw [hw8] | rw [← hw8]
      clear hw8
      go_wp2_with fail
      refine (HG2.out _ _ hO.out).mono ?_
      rintro e w9 ⟨rfl, hw9⟩
      first | rw [hw9] | rw [← hw9]
      clear hw9
      go_wp2_with fail
      refine (HG3.out _ _ hO.out).mono ?_
      rintro e w9 ⟨rfl, hw9⟩
      first | rw [hw9] | rw [← hw9]
      clear hw9
      have hz : w7.heap[X]? = some (.cells #[.int .i64 0, .int .u64 0, .int .u64 0, .string ⟨#[]⟩] 39 (0, 0)) := Own.box hO.out Ps.length (by rw [List.getElem?_append_right (Nat.le_refl _), Nat.sub_self]; rfl)
      have Hq : Hid (∀ w6 : World, w7.grownBy w6 (some X) → Own w0 w6 Ps) := Lib.hid (fun w6 hg => hO.out.forget hg)
      have m0 : w7.cell? ⟨X, 0, none⟩ = some (.int .i64 0) := by simp [World.cell?, hz]
      have q0 : w7.frozen? ⟨X, 0, none⟩ = false := by simp [World.frozen?, hz]
      have m1 : w7.cell? ⟨X, 1, none⟩ = some (.int .u64 0) := by simp [World.cell?, hz]
      have q1 : w7.frozen? ⟨X, 1, none⟩ = false := by simp [World.frozen?, hz]
      have m2 : w7.cell? ⟨X, 2, none⟩ = some (.int .u64 0) := by simp [World.cell?, hz]
      have q2 : w7.frozen? ⟨X, 2, none⟩ = false := by simp [World.frozen?, hz]
      have m3 : w7.cell? ⟨X, 3, none⟩ = some (.string ⟨#[]⟩) := by simp [World.cell?, hz]
      have q3 : w7.frozen? ⟨X, 3, none⟩ = false := by simp [World.frozen?, hz]
      have hz1 := heap_setCell_at (o := 0) hz (.int .i64 (en : Int))
      have hz2 := heap_setCell_at (o := 1) hz1 (.int .u64 (ra : Int))
      have hz3 := heap_setCell_at (o := 2) hz2 (.int .u64 (rb : Int))
      have hz4 := heap_setCell_at (o := 3) hz3 (.string dd)
      have g1 : w7.grownBy ((((w7.setCell ⟨X, 0, none⟩ (.int .i64 (en : Int))).setCell ⟨X, 1, none⟩ (.int .u64 (ra : Int))).setCell ⟨X, 2, none⟩ (.int .u64 (rb : Int))).setCell ⟨X, 3, none⟩ (.string dd)) (some X) := (grown_trans (grown_trans (grown_trans (grown_setCell _ ⟨X, 0, none⟩ (.int .i64 (en : Int))) (grown_setCell _ ⟨X, 1, none⟩ (.int .u64 (ra : Int)))) (grown_setCell _ ⟨X, 2, none⟩ (.int .u64 (rb : Int)))) (grown_setCell _ ⟨X, 3, none⟩ (.string dd)))
      obtain ⟨W3, hW3⟩ : ∃ W3, W3 = ((((w7.setCell ⟨X, 0, none⟩ (.int .i64 (en : Int))).setCell ⟨X, 1, none⟩ (.int .u64 (ra : Int))).setCell ⟨X, 2, none⟩ (.int .u64 (rb : Int))).setCell ⟨X, 3, none⟩ (.string dd)) := ⟨_, rfl⟩
      clear hz1 hz2 hz3
      clear hO HG0 HG2 HG3 HG
      go_wp2
      rw [← hW3] at hz4 g1 ⊢
      have Z0 : W3.cell? ⟨X, 0, none⟩ = some (.int .i64 (en : Int)) := by simp [World.cell?, hz4]
      have Z1 : W3.cell? ⟨X, 1, none⟩ = some (.int .u64 (ra : Int)) := by simp [World.cell?, hz4]
      have Z2 : W3.cell? ⟨X, 2, none⟩ = some (.int .u64 (rb : Int)) := by simp [World.cell?, hz4]
      have Z3 : W3.cell? ⟨X, 3, none⟩ = some (.string dd) := by simp [World.cell?, hz4]
      exact bodyPost_ret (v := .tuple #[.int .u64 (sq : Int), .agg #[.int .i64 (en : Int), .int .u64 (ra : Int), .int .u64 (rb : Int), .string dd], .int .i64 0]) (by simp [results, Try.results40, go_sem, Z0, Z1, Z2, Z3]) rfl ⟨rfl, Hq.out _ g1⟩

end Go.Proofs.Ytdpkpphjpihhkaa
end
section
/- The document's Save. -/
namespace Go.Proofs.Ytdpkpphjpihhkaa
open Go.RowKit Go.Grommet

/-- Words from anywhere, or none, behind a row of the call's own. -/
theorem appN {w : World} {ops : Array Oper} {rest : List Oper} {o : Oper} {a : Act} {Q : Exit → Act → World → Prop} (hgd : o.guard = none) (s x : Operand)
    (ho : o.op = .call { callee := .builtin .append, args := #[s, x], argTypes := #[27, 27] })
    (ad0 : Option Addr) (n cp0 : Nat) (L : List Nat) (hs : a.eval s = .slice ad0 n cp0) (hown : w.ownsRow 0 36 1 (.slice ad0 n cp0) n (L.map wv))
    (ad : Option Addr) (m c : Nat) (M : List Nat) (hx : a.eval x = .slice ad m c) (hl : M.length = m) (hw : At w ad (M.map wv)) (hnil : ad = none → m = 0 ∧ c = 0)
    (hb : n + m ≤ 1099511627776)
    (h : ∀ ad' cap' w', w'.ownsRow 0 36 1 (.slice ad' (n + m) cap') (n + m) ((L ++ M).map wv) → w.grownBy w' (Value.slice ad0 n cp0).ownBlock → (∀ g, (Value.slice ad' (n + m) cap').ownBlock = some g → (Value.slice ad0 n cp0).ownBlock = some g ∨ w.heap.size ≤ g) → wpList Try.prog ops Q rest (a.put o.dst (.slice ad' (n + m) cap')) w') : wpList Try.prog ops Q (o :: rest) a w := by
  cases ad with
  | none =>
    obtain ⟨rfl, rfl⟩ := hnil rfl
    obtain rfl := List.eq_nil_of_length_eq_zero hl
    obtain ⟨i0, hi, hz0, hz1, hz2⟩ := info_parts Try.info36
    refine wpList_append_own_none hgd s x 27 ho 0 36 i0 1 Try.underlying27 hi _ n (L.map wv) hs hown hx ?_
    exact h ad0 cp0 w (by simpa using hown) (World.grownBy.refl _ _) (fun g hg => .inl hg)
  | some ad => exact appU hgd s x ho _ n L hs hown ad m c M hx hl hw hb h

set_option maxRecDepth 100000 in
set_option maxHeartbeats 8000000 in
theorem RSaveArg (k g : Nat) (xs : List Nat) (L : List (Nat × Nat)) (i kk : Int) (er : Int) (sq ra rb : Nat) (d : ByteArray) (w0 w : World) (Ps : List Pr) (h : Own w0 w Ps) (hk : Ps[k]? = some (refQ g xs L)) (hb : ((0 ≤ i ∧ i < 4) ∧ 0 ≤ kk ∧ kk < 4) → (seqB sq && mayR er d.size) = false) :
    Calls Try.prog 32 #[.pointer (some ⟨g, 0, none⟩), .int .i64 i, .int .i64 kk, .int .u64 (sq : Int), .agg #[.int .i64 er, .int .u64 (ra : Int), .int .u64 (rb : Int), .string d]] w fun e w' => e = .returned (.int .i64 1) ∧ Own w0 w' Ps := by
  have hkl := (List.getElem?_eq_some_iff.1 hk).1
  obtain ⟨X, HX⟩ : ∃ X, Hid (X = w.heap.size) := ⟨_, Lib.hid rfl⟩
  have hO : Own w0 (w.alloc (.cells #[.int .i64 er, .int .u64 (ra : Int), .int .u64 (rb : Int), .string d] 39)) (Ps ++ [boxP X 39 #[.int .i64 er, .int .u64 (ra : Int), .int .u64 (rb : Int), .string d]]) := by rw [HX.out]; exact h.addBox _ _
  have Hk := Lib.hid (show ∀ Rs, (Ps ++ Rs)[k]? = some (refQ g xs L) from fun Rs => by rw [List.getElem?_append_left hkl]; exact hk)
  have Hres := Lib.hid (fun wx Rs (hO : Own w0 wx (Ps ++ (boxP X 39 #[.int .i64 er, .int .u64 (ra : Int), .int .u64 (rb : Int), .string d] :: Rs))) => show ResS X er (ra : Int) (rb : Int) d wx from Own.box hO Ps.length (by rw [List.getElem?_append_right (Nat.le_refl _), Nat.sub_self]; rfl))
  have HM := Lib.hid (fun wx => RResMay_any er (ra : Int) (rb : Int) d wx)
  replace hO := Lib.hid hO
  clear h hk hkl Hk
  by_cases c0 : i < 0
  · have a0 : i < 0 := by omega
    clear hb c0
    go_enter Try.func32, Try.ntmps32
    go_wp2
    go_ret
    exact ⟨rfl, hO.out.less⟩
  have a0 : ¬ i < 0 := by omega
  by_cases c1 : 4 ≤ i
  · have a1 : 4 ≤ i := by omega
    clear hb c1 c0
    go_enter Try.func32, Try.ntmps32
    go_wp2
    go_ret
    exact ⟨rfl, hO.out.less⟩
  have a1 : ¬ 4 ≤ i := by omega
  by_cases c2 : kk < 0
  · have a2 : kk < 0 := by omega
    clear hb c2 c0 c1
    go_enter Try.func32, Try.ntmps32
    go_wp2
    go_ret
    exact ⟨rfl, hO.out.less⟩
  have a2 : ¬ kk < 0 := by omega
  by_cases c3 : 4 ≤ kk
  · have a3 : 4 ≤ kk := by omega
    clear hb c3 c0 c1 c2
    go_enter Try.func32, Try.ntmps32
    go_wp2
    go_ret
    exact ⟨rfl, hO.out.less⟩
  have a3 : ¬ 4 ≤ kk := by omega
  by_cases c4 : sq < 1
  · have a4 : (sq : Int) < 1 := by omega
    clear hb c4 c0 c1 c2 c3
    go_enter Try.func32, Try.ntmps32
    go_wp2
    go_ret
    exact ⟨rfl, hO.out.less⟩
  have a4 : ¬ (sq : Int) < 1 := by omega
  by_cases c5 : 1099511627776 < sq
  · have a5 : (1099511627776 : Int) < (sq : Int) := by omega
    clear hb c5 c0 c1 c2 c3 c4
    go_enter Try.func32, Try.ntmps32
    go_wp2
    go_ret
    exact ⟨rfl, hO.out.less⟩
  have a5 : ¬ (1099511627776 : Int) < (sq : Int) := by omega
  have hm : mayR er d.size = false := by
    have h := hb ⟨⟨by omega, by omega⟩, by omega, by omega⟩
    have e : seqB sq = true := by unfold seqB; rw [decide_eq_true (by omega : 1 ≤ sq), decide_eq_true (by omega : sq ≤ 1099511627776)]; rfl
    rw [e] at h
    exact h
  rw [hm] at HM
  clear hb hm c0 c1 c2 c3 c4 c5
  obtain ⟨z0, z1, z2, z3⟩ := (Hres.out _ _ hO.out).cells
  go_enter Try.func32, Try.ntmps32
  go_wp2_with fail
  rw [← HX.out]
  refine (HM.out _).mono ?_
  rintro e w1 ⟨rfl, hg⟩
  have hO1 := Lib.hid (hO.out.quiet hg)
  go_wp2
  go_ret
  exact ⟨rfl, hO1.out.less⟩

set_option maxRecDepth 100000 in
set_option maxHeartbeats 8000000 in
theorem RSaveE (k g : Nat) (xs : List Nat) (L : List (Nat × Nat)) (i kk : Int) (er : Int) (t : Nat) (sq ra rb : Nat) (d : ByteArray) (w0 w : World) (Ps : List Pr) (h : Own w0 w Ps) (hk : Ps[k]? = some (refQ g xs L)) (hik : (0 ≤ i ∧ i < 4) ∧ 0 ≤ kk ∧ kk < 4) (hsq : 1 ≤ sq ∧ sq ≤ 1099511627776) (hm : mayR er d.size = true) (ht : thereV xs.length i kk = t) (hne : t ≠ 0) :
    Calls Try.prog 32 #[.pointer (some ⟨g, 0, none⟩), .int .i64 i, .int .i64 kk, .int .u64 (sq : Int), .agg #[.int .i64 er, .int .u64 (ra : Int), .int .u64 (rb : Int), .string d]] w fun e w' => e = .returned (.int .i64 (t : Int)) ∧ Own w0 w' Ps := by
  have hkl := (List.getElem?_eq_some_iff.1 hk).1
  obtain ⟨X, HX⟩ : ∃ X, Hid (X = w.heap.size) := ⟨_, Lib.hid rfl⟩
  have hO : Own w0 (w.alloc (.cells #[.int .i64 er, .int .u64 (ra : Int), .int .u64 (rb : Int), .string d] 39)) (Ps ++ [boxP X 39 #[.int .i64 er, .int .u64 (ra : Int), .int .u64 (rb : Int), .string d]]) := by rw [HX.out]; exact h.addBox _ _
  have Hk := Lib.hid (show ∀ Rs, (Ps ++ Rs)[k]? = some (refQ g xs L) from fun Rs => by rw [List.getElem?_append_left hkl]; exact hk)
  have Hres := Lib.hid (fun wx Rs (hO : Own w0 wx (Ps ++ (boxP X 39 #[.int .i64 er, .int .u64 (ra : Int), .int .u64 (rb : Int), .string d] :: Rs))) => show ResS X er (ra : Int) (rb : Int) d wx from Own.box hO Ps.length (by rw [List.getElem?_append_right (Nat.le_refl _), Nat.sub_self]; rfl))
  have HM := Lib.hid (fun wx => RResMay_any er (ra : Int) (rb : Int) d wx)
  have a0 : ¬ i < 0 := by omega
  have a1 : ¬ 4 ≤ i := by omega
  have a2 : ¬ kk < 0 := by omega
  have a3 : ¬ 4 ≤ kk := by omega
  have a4 : ¬ (sq : Int) < 1 := by omega
  have a5 : ¬ (1099511627776 : Int) < (sq : Int) := by omega
  rw [hm] at HM
  have HT := Lib.hid (fun wx (hO : Own w0 wx (Ps ++ [boxP X 39 #[.int .i64 er, .int .u64 (ra : Int), .int .u64 (rb : Int), .string d]])) => RThereQ k g xs L i kk w0 wx _ hO (Hk.out _))
  rw [ht] at HT
  have qt : ((t : Int) != 0) = true := by simp; omega
  replace hO := Lib.hid hO
  clear h hk hkl Hk hik hsq hm ht hne
  obtain ⟨z0, z1, z2, z3⟩ := (Hres.out _ _ hO.out).cells
  go_enter Try.func32, Try.ntmps32
  go_wp2_with fail
  rw [← HX.out]
  refine (HM.out _).mono ?_
  rintro e w1 ⟨rfl, hg⟩
  have hO1 := Lib.hid (hO.out.quiet hg)
  clear hO hg z0 z1 z2 z3 HM
  go_wp2_with fail
  refine (HT.out _ hO1.out).mono ?_
  rintro e w2 ⟨rfl, hg⟩
  have hO2 := Lib.hid (hO1.out.quiet hg)
  clear hO1 hg HT
  go_wp2
  go_ret
  exact ⟨rfl, hO2.out.less⟩

set_option maxRecDepth 100000 in
set_option maxHeartbeats 8000000 in
theorem RSaveYes (k g : Nat) (xs : List Nat) (L : List (Nat × Nat)) (i kk : Int) (en E : Nat) (LF : List (Nat × Nat)) (sl : Int) (sq ra rb : Nat) (d : ByteArray) (w0 w : World) (Ps Qs : List Pr) (h : Own w0 w Ps) (hk : Ps[k]? = some (refQ g xs L)) (hik : (0 ≤ i ∧ i < 4) ∧ 0 ≤ kk ∧ kk < 4) (hsq : 1 ≤ sq ∧ sq ≤ 1099511627776) (hen : en ≤ 24) (hd : d.size ≤ 64) (hra : ra < 18446744073709551616) (hrb : rb < 18446744073709551616) (ht : thereV xs.length i kk = 0) (hsl : slotV i kk = sl) (hs : 0 ≤ sl ∧ sl ≤ 1000)
    (hE : allE xs L (saveS sl (en + 256 * d.size) ra rb (words (bytesOf d) ((d.size + 7) / 8)) sq) = E) (hLF : allL xs L (saveS sl (en + 256 * d.size) ra rb (words (bytesOf d) ((d.size + 7) / 8)) sq) = LF) (hQ : Ps.set k (refQ g xs LF) = Qs) :
    Calls Try.prog 32 #[.pointer (some ⟨g, 0, none⟩), .int .i64 i, .int .i64 kk, .int .u64 (sq : Int), .agg #[.int .i64 (en : Int), .int .u64 (ra : Int), .int .u64 (rb : Int), .string d]] w fun e w' => e = .returned (.int .i64 (E : Int)) ∧ Own w0 w' Qs := by
  have hkl := (List.getElem?_eq_some_iff.1 hk).1
  obtain ⟨X, HX⟩ : ∃ X, Hid (X = w.heap.size) := ⟨_, Lib.hid rfl⟩
  have hO : Own w0 (w.alloc (.cells #[.int .i64 (en : Int), .int .u64 (ra : Int), .int .u64 (rb : Int), .string d] 39)) (Ps ++ [boxP X 39 #[.int .i64 (en : Int), .int .u64 (ra : Int), .int .u64 (rb : Int), .string d]]) := by rw [HX.out]; exact h.addBox _ _
  have Hk := Lib.hid (show ∀ Rs, (Ps ++ Rs)[k]? = some (refQ g xs L) from fun Rs => by rw [List.getElem?_append_left hkl]; exact hk)
  have Hres := Lib.hid (fun wx Rs (hO : Own w0 wx (Ps ++ (boxP X 39 #[.int .i64 (en : Int), .int .u64 (ra : Int), .int .u64 (rb : Int), .string d] :: Rs))) => show ResS X (en : Int) (ra : Int) (rb : Int) d wx from Own.box hO Ps.length (by rw [List.getElem?_append_right (Nat.le_refl _), Nat.sub_self]; rfl))
  have HM := Lib.hid (fun wx => RResMay_any (en : Int) (ra : Int) (rb : Int) d wx)
  have a0 : ¬ i < 0 := by omega
  have a1 : ¬ 4 ≤ i := by omega
  have a2 : ¬ kk < 0 := by omega
  have a3 : ¬ 4 ≤ kk := by omega
  have a4 : ¬ (sq : Int) < 1 := by omega
  have a5 : ¬ (1099511627776 : Int) < (sq : Int) := by omega
  have hm : mayR (en : Int) d.size = true := by
    unfold mayR
    rw [decide_eq_true (by omega : (0 : Int) ≤ (en : Int)), decide_eq_true (by omega : (en : Int) ≤ 24), decide_eq_true hd]; rfl
  rw [hm] at HM
  have HT := Lib.hid (fun wx (hO : Own w0 wx (Ps ++ [boxP X 39 #[.int .i64 (en : Int), .int .u64 (ra : Int), .int .u64 (rb : Int), .string d]])) => RThereQ k g xs L i kk w0 wx _ hO (Hk.out _))
  rw [ht, show ((0 : Nat) : Int) = 0 from rfl] at HT
  have HS := Lib.hid (fun wx => RSlotAt_any i kk wx)
  rw [hsl] at HS
  have HP := Lib.hid (fun wx => RPack_any d wx (by omega))
  obtain ⟨D, HD⟩ : ∃ D, Hid (d.size = D) := ⟨_, Lib.hid rfl⟩
  have eD : (d.size : Int) = (D : Int) := by rw [HD.out]
  rw [HD.out] at HP hd hE hLF
  obtain ⟨ws, Hws⟩ : ∃ ws, Hid (words (bytesOf d) ((D + 7) / 8) = ws) := ⟨_, Lib.hid rfl⟩
  rw [Hws.out] at HP hE hLF
  obtain ⟨J, HJ⟩ : ∃ J, Hid ((D + 7) / 8 = J) := ⟨_, Lib.hid rfl⟩
  rw [HJ.out] at HP
  have hJ : J ≤ 8 := by rw [← HJ.out]; omega
  have HJl : Hid (ws.length = J) := Lib.hid (by rw [← Hws.out, length_words, HJ.out])
  have Hwl : Hid (∀ n ∈ ws, n < 18446744073709551616) := Lib.hid (by
    rw [← Hws.out]
    intro n hn
    obtain ⟨j, _, rfl⟩ := List.mem_map.1 hn
    exact word_lt _ _)
  obtain ⟨C, HC⟩ : ∃ C, Hid (en + 256 * D = C) := ⟨_, Lib.hid rfl⟩
  rw [HC.out] at hE hLF
  have hC : C ≤ 100000 := by rw [← HC.out]; omega
  have e1 : IntKind.u64.wrap (en : Int) = (en : Int) := IntWalk.u64_in _ ⟨by omega, by omega⟩
  have e2 : IntKind.u64.wrap (D : Int) = (D : Int) := IntWalk.u64_in _ ⟨by omega, by omega⟩
  have e3 : IntKind.u64.wrap (256 * (D : Int)) = 256 * (D : Int) := IntWalk.u64_in _ ⟨by omega, by omega⟩
  have e4 : IntKind.u64.wrap ((en : Int) + 256 * (D : Int)) = (C : Int) := by rw [← HC.out]; exact (IntWalk.u64_in _ ⟨by omega, by omega⟩).trans (by omega)
  have w1s : IntKind.i64.wrap (sl + 1) = sl + 1 := IntWalk.i64_in _ ⟨by omega, by omega⟩
  obtain ⟨E1, hE1⟩ : ∃ E1, allE xs L (seqS (sl + 1) ([C, ra, rb] ++ ws)) = E1 := ⟨_, rfl⟩
  obtain ⟨M, hM⟩ : ∃ M, allL xs L (seqS (sl + 1) ([C, ra, rb] ++ ws)) = M := ⟨_, rfl⟩
  obtain ⟨p1, p2⟩ := all_save xs L sl C ra rb ws sq E1 M hE1 hM
  rw [hE, hLF] at p1 p2
  have Hp1 := Lib.hid p1
  have Hp2 := Lib.hid p2
  have HA := Lib.hid (fun (wx : World) (ad2 : Option Addr) (cap2 : Nat) (hO : Own w0 wx (Ps ++ [boxP X 39 #[.int .i64 (en : Int), .int .u64 (ra : Int), .int .u64 (rb : Int), .string d], rowP 36 1 (.slice ad2 (3 + J) cap2) (3 + J) (([C, ra, rb] ++ ws).map wv)])) => show Calls Try.prog 61 #[.pointer (some ⟨g, 0, none⟩), .int .i64 (sl + 1), .slice ad2 (3 + J) cap2] wx fun e w' => e = .returned (.int .i64 (E1 : Int)) ∧ Own w0 w' (Ps.set k (refQ g xs M)) from by
    refine (RAllQ k (Ps.length + 1) g xs L (sl + 1) ([C, ra, rb] ++ ws) ad2 (3 + J) cap2 (by rw [List.length_append, HJl.out]; rfl) (by omega) ⟨by omega, by omega⟩ w0 wx _ hO (Hk.out _) (by rw [List.getElem?_append_right (by omega), Nat.add_sub_cancel_left]; rfl) (by omega) (by
      intro v hv
      rcases List.mem_append.1 hv with hv | hv
      · simp at hv; omega
      · exact Hwl.out v hv) E1 M hE1 hM).mono ?_
    rintro e w' ⟨he, hO'⟩
    rw [List.set_append_left _ _ hkl] at hO'
    exact ⟨he, hO'.less⟩)
  have HZ := Lib.hid (fun (wx : World) (hO : Own w0 wx (Ps.set k (refQ g xs M))) => RSetQ k g xs M sl sq _ w0 wx _ (Ps.set k (refQ g xs (setL xs M sl sq))) hO (List.getElem?_set_self hkl) (by omega) rfl (by rw [List.set_set]))
  replace hO := Lib.hid hO
  clear h hk hkl Hk hik hsq hm ht hsl hs hE hLF hE1 hM p1 p2 hen hd
  obtain ⟨z0, z1, z2, z3⟩ := (Hres.out _ _ hO.out).cells
  go_enter Try.func32, Try.ntmps32
  go_wp2_with fail
  rw [← HX.out]
  refine (HM.out _).mono ?_
  rintro e w1 ⟨rfl, hg⟩
  have hO1 := Lib.hid (hO.out.quiet hg)
  clear hO hg z0 z1 z2 z3 HM
  go_wp2_with fail
  refine (HT.out _ hO1.out).mono ?_
  rintro e w2 ⟨rfl, hg⟩
  have hO2 := Lib.hid (hO1.out.quiet hg)
  clear hO1 hg HT
  go_wp2_with fail
  refine (HS.out _).mono ?_
  rintro e w3 ⟨rfl, hg⟩
  have hO3 := Lib.hid (hO2.out.quiet hg)
  clear hO2 hg HS
  obtain ⟨z0, z1, z2, z3⟩ := (Hres.out _ _ hO3.out).cells
  have hO4 := hO3.out.newRow (cs := #[.int .u64 (C : Int), .int .u64 (ra : Int), .int .u64 (rb : Int)]) (T := 36) (e := 36) (n := 3) (xs := [C, ra, rb]) rfl (by simp) (by decide) rfl
  rw [List.append_assoc] at hO4
  have hO4 : Own w0 _ (Ps ++ [boxP X 39 #[.int .i64 (en : Int), .int .u64 (ra : Int), .int .u64 (rb : Int), .string d], rowP 36 1 (.slice (some ⟨w3.heap.size, 0, none⟩) 3 3) 3 ([C, ra, rb].map wv)]) := hO4
  obtain ⟨y0, y1, y2, y3⟩ := (Hres.out _ _ hO4).cells
  replace hO4 := Lib.hid hO4
  clear hO3
  go_wp2_with fail
  refine (HP.out _).mono ?_
  rintro e w5 ⟨ad, cp, rfl, hat, hnil, hg⟩
  have hO5 := Lib.hid (hO4.out.quiet hg)
  obtain ⟨R, HR⟩ : ∃ R, Hid (w3.heap.size = R) := ⟨_, Lib.hid rfl⟩
  rw [HR.out] at hO5 ⊢
  clear hO4 hg z0 z1 z2 z3 y0 y1 y2 y3 HP
  go_wp2_with (at_builtin; refine appN rfl _ _ rfl _ 3 _ [C, ra, rb] rfl (Own.row hO5.out (Ps.length + 1) (by rw [List.getElem?_append_right (by omega), Nat.add_sub_cancel_left]; rfl)) ad J cp ws rfl HJl.out hat hnil ?a2 ?_)
  case a2 => omega
  intro ad2 cap2 w6 hr6 hg6 hn6
  have hO6 := Own.append hO5.out (Ps.length + 1) (by rw [List.getElem?_append_right (by omega), Nat.add_sub_cancel_left]; rfl) hr6 hg6 hn6
  rw [List.set_append_right _ _ (by omega), Nat.add_sub_cancel_left] at hO6
  have HX6 := Lib.hid (HA.out w6 ad2 cap2 hO6)
  clear hO5 hO6 hr6 hg6 hn6 HA hat hnil
  go_wp2_with fail
  refine HX6.out.mono ?_
  rintro e w7 ⟨rfl, hO7⟩
  replace hO7 := Lib.hid hO7
  clear HX6
  by_cases c : E1 = 0
  · have q0 : ((E1 : Int) != 0) = false := by rw [c]; rfl
    obtain ⟨f1, f2⟩ := Hp1.out c
    have HZ7 := Lib.hid (HZ.out w7 hO7.out)
    rw [← f1, ← f2] at HZ7
    clear c Hp1 Hp2 HZ f1 f2
    subst hQ
    go_wp2_with fail
    refine HZ7.out.mono ?_
    rintro e w8 ⟨rfl, hO8⟩
    go_wp2
    go_ret
    exact ⟨rfl, hO8⟩
  · have q0 : ((E1 : Int) != 0) = true := by simp; omega
    obtain ⟨f1, f2⟩ := Hp2.out c
    subst f1 f2 hQ
    clear c Hp1 Hp2 HZ
    go_wp2
    go_ret
    exact ⟨rfl, hO7.out⟩

end Go.Proofs.Ytdpkpphjpihhkaa
end
section
/- The law's image, any geometry, any cut; the view's Writes; the document's New. -/
namespace Go.Proofs.Ytdpkpphjpihhkaa
open Go.RowKit Go.Grommet

theorem WritesG (k g : Nat) (xs : List Nat) (L : List (Nat × Nat)) (w0 w : World) (Ps : List Pr) (h : Grommet.Own w0 w Ps) (hk : Ps[k]? = some (viewP g xs L)) :
    Calls Try.prog 24 #[.pointer (some ⟨g, 0, none⟩)] w fun e w' => ∃ ad cap, e = .returned (.slice ad L.length cap) ∧ Grommet.Own w0 w' (Ps ++ [rowP 79 2 (.slice ad L.length cap) L.length (wcells L)]) ∧ w.grownBy w' none := by
  obtain ⟨F, h1⟩ := h.get k hk
  refine (Writes_any g F xs L w h1 w.heap.size (Nat.le_refl _)).mono ?_
  rintro e w' ⟨ad, cap, he, hr, hg⟩
  exact ⟨ad, cap, he, h.addRow hr hg, hg⟩
theorem RefNewQ (ad : Option Addr) (l c : Nat) (xs : List Nat) (w0 w : World) (Ps : List Pr) (h : Grommet.Own w0 w Ps) (hx : Words w ad l xs) (hl : l ≤ 549755813888) (hnil : ad = none → l = 0 ∧ c = 0) :
    Calls Try.prog 12 #[.slice ad l c] w fun e w' => ∃ g, e = .returned (.pointer (some ⟨g, 0, none⟩)) ∧ Grommet.Own w0 w' (Ps ++ [refQ g xs []]) := by
  refine (RefNew_any ad l c xs w hx hl hnil).mono ?_
  rintro e w' ⟨g, F, he, hv, hF, hg⟩
  exact ⟨g, he, h.add (P := refQ g xs []) ⟨_, hv⟩ hF hg⟩
theorem refQ_nil {w0 w : World} {Ps : List Pr} (h : Grommet.Own w0 w Ps) (k : Nat) {r : Nat} {xs : List Nat} {L : List (Nat × Nat)} (hk : Ps[k]? = some (refQ r xs L)) :
    Grommet.Own w0 (w.setCell ⟨r, 1, none⟩ (.slice none 0 0)) (Ps.set k (refQ r xs [])) := by
  obtain ⟨F, ⟨b, vi, vl, h1⟩, h2⟩ := h.take k hk
  have hob : w.heap[r]? = some (.cells [vi, vl, .bool b].toArray 44 (0, 0)) := h1.obj
  have t0 : Turn (fun i => i = r) w (w.setCell ⟨r, 1, none⟩ (.slice none 0 0)) := Turn.of (grown_setCell _ _ _) (fun i e => by cases e; rfl)
  refine h2 _ (refQ r xs []) ⟨F, ⟨b, vi, .slice none 0 0, ⟨row_set hob 1 _, t0.row h1.words (fun i hi e => h1.apart.1 i hi e), World.ownsRow_nil _ _ _ _, h1.small, h1.fits, Wl.nil _, fun i hi => Nat.lt_of_lt_of_le (h1.old i hi) t0.size, h1.fg, h1.fw, fun i hi => by cases hi⟩⟩, fun i hi => .inl hi, t0.mono (fun i e => by subst e; exact .inl h1.fg)⟩
/-- What is written, as it stands in memory. -/
theorem refQ_obj {w0 w : World} {Ps : List Pr} (h : Grommet.Own w0 w Ps) (k : Nat) {r : Nat} {xs : List Nat} {L : List (Nat × Nat)} (hk : Ps[k]? = some (refQ r xs L)) :
    ∃ ad cap, w.cell? ⟨r, 1, none⟩ = some (.slice ad L.length cap) ∧ w.frozen? ⟨r, 1, none⟩ = false ∧ At w ad (wcells L) := by
  obtain ⟨F, b, vi, vl, h1⟩ := h.get k hk
  obtain ⟨ad, cap, rfl, hat, _⟩ := row_slice h1.writes
  have hob : w.heap[r]? = some (.cells [vi, .slice ad L.length cap, .bool b].toArray 44 (0, 0)) := h1.obj
  exact ⟨ad, cap, by simp [World.cell?, hob], by simp [World.frozen?, hob], hat⟩

theorem words_cut {w : World} {ad : Option Addr} {l n : Nat} {xs : List Nat} (h : Words w ad l xs) (hn : n ≤ l) : Words w ad n (xs.take n) := by
  refine ⟨by rw [List.length_take, h.len]; omega, fun x hx => h.small x (List.mem_of_mem_take hx), ?_, Nat.le_trans hn h.fits⟩
  intro j u hu
  refine h.at_ j u ?_
  rw [List.map_take, List.getElem?_take] at hu
  split at hu
  · exact hu
  · cases hu

set_option maxRecDepth 100000 in
set_option maxHeartbeats 4000000 in
theorem ImageNo (a b c : Int) (C : Nat) (hC : C < 65536) (hm : mayB a b c = false) (td : Option Addr) (tl tc : Nat) (w0 w : World) (Ps : List Pr) (h : Own w0 w Ps) :
    Calls Try.prog 9 #[gv a b c, .slice td tl tc, .int .u16 (C : Int)] w fun e w' => e = .returned (.slice none 0 0) ∧ Own w0 w' Ps := by
  have HF := Lib.hid (fun wx => RFormat_none a b c wx hm)
  have Hh := Lib.hid h
  have wC : IntKind.i64.wrap (C : Int) = (C : Int) := IntWalk.i64_in _ ⟨by omega, by omega⟩
  have hC0 : (0 : Int) ≤ (C : Int) := by omega
  clear h hm
  unfold gv at *
  go_enter Try.func9, Try.ntmps9
  go_wp2_with fail
  refine (HF.out _).mono ?_
  rintro e w1 ⟨rfl, hg⟩
  have hg1 := Lib.hid (grown_trans (World.grownBy_alloc w _ none) hg)
  clear hg
  have hsl := fun wx => slice_to (P := Try.prog) 27 36 Try.underlying27 1 Try.sizeOf36 none 0 0 0 (by omega) (fun a h => by cases h) wx
  go_wp2_with fail
  go_loopw [8] (fun i wr => i = .int .i64 0 ∧ wr = w1) (fun i _ => 0)
  case atStart => exact ⟨rfl, rfl⟩
  case round =>
    obtain ⟨rfl, rfl⟩ := hrel
    by_cases hc : (C : Int) ≤ 0
    · have hc2 : (C : Int) = 0 := by omega
      by_cases ht : (0 : Int) < (tl : Int)
      · go_wp2
        go_ret
        exact ⟨rfl, Hh.out.quiet hg1.out⟩
      · go_wp2
        go_ret
        exact ⟨rfl, Hh.out.quiet hg1.out⟩
    · by_cases ht : (0 : Int) < (tl : Int)
      · go_wp2
        go_ret
        exact ⟨rfl, Hh.out.quiet hg1.out⟩
      · go_wp2
        go_ret
        exact ⟨rfl, Hh.out.quiet hg1.out⟩

set_option maxRecDepth 100000 in
set_option maxHeartbeats 8000000 in
theorem ImageYes (a b c C : Nat) (hC : C < 65536) (hm : mayB (a : Int) (b : Int) (c : Int) = true) (td : Option Addr) (tl tc : Nat) (T : List Tur) (w0 w : World) (Ps : List Pr) (h : Own w0 w Ps) (hT : TursIn w0 td tl T) (htl : tl ≤ 1000000) :
    Calls Try.prog 9 #[gv (a : Int) (b : Int) (c : Int), .slice td tl tc, .int .u16 (C : Int)] w fun e w' => ∃ (XS : List Nat) (n : Nat) (ad : Option Addr) (cp : Nat), e = .returned (.slice ad n cp) ∧ Words w' ad n XS ∧ (ad = none → n = 0 ∧ cp = 0) ∧ n ≤ 100000 ∧ Own w0 w' Ps := by
  obtain ⟨XR, Z, hXl, hZe, hZ, hXs, hF⟩ := format_row a b c hm
  have hZ1 : 1 ≤ Z := by omega
  have HF := Lib.hid hF
  have HXl := Lib.hid hXl
  have HXs := Lib.hid hXs
  have Hh := Lib.hid h
  have HT := Lib.hid hT
  have HC := Lib.hid hC
  obtain ⟨P, HP⟩ : ∃ P, Hid (P = Ps.length) := ⟨_, Lib.hid rfl⟩
  clear hF hXl hXs h hm hZe
  unfold gv at HF ⊢
  go_enter Try.func9, Try.ntmps9
  go_wp2_with fail
  refine (HF.out _).mono ?_
  rintro e w1 ⟨ad, cp, rfl, hrow, hg1⟩
  have hO : Own w0 w1 (Ps ++ [boxP w.heap.size 30 #[.int .i64 (a : Int), .int .i64 (b : Int), .int .i64 (c : Int)], rowP 36 1 (.slice ad Z cp) Z (XR.map wv)]) := by
    have h := (Hh.out.addBox 30 #[.int .i64 (a : Int), .int .i64 (b : Int), .int .i64 (c : Int)]).addRow hrow hg1
    rw [List.append_assoc] at h
    exact h
  generalize boxP w.heap.size 30 #[.int .i64 (a : Int), .int .i64 (b : Int), .int .i64 (c : Int)] = BX at hO
  obtain ⟨q, rfl, _, _, _⟩ := Own.cell hO (Ps.length + 1) (by rw [List.getElem?_append_right (by omega), show Ps.length + 1 - Ps.length = 1 from by omega]; rfl) 0 (wv (XR.getD 0 0)) (by rw [List.getElem?_map, List.getElem?_eq_getElem (by rw [HXl.out]; omega), List.getD_eq_getElem?_getD, List.getElem?_eq_getElem (by rw [HXl.out]; omega)]; rfl)
  replace hO := Lib.hid hO
  clear hrow hg1
  have z0 : (0 : Int) < (Z : Int) := by omega
  have zb : ((Z : Int) == 0) = false := by rw [beq_eq_false_iff_ne]; omega
  have zc : ¬ (Z : Int) = 0 := by omega
  have zn : ¬ Z = 0 := by omega
  go_wp2_with fail
  go_loopw [8] (fun i wr => ∃ k : Nat, k ≤ tl ∧ i = .int .i64 (k : Int) ∧ ∃ YS : List Nat, Hid (YS.length = Z ∧ ∀ n ∈ YS, n < 18446744073709551616) ∧ Hid (Own w0 wr (Ps ++ [BX, rowP 36 1 (.slice (some ⟨q, 0, none⟩) Z cp) Z (YS.map wv)]))) (fun i _ => tl - (intOf i).toNat)
  case atStart => exact ⟨0, Nat.zero_le _, rfl, XR, Lib.hid ⟨HXl.out, HXs.out⟩, hO⟩
  case round =>
    clear hO
    obtain ⟨k, hk, rfl, YS, HY, hO⟩ := hrel
    have k0 : (0 : Int) ≤ (k : Int) := by omega
    by_cases hlt : k < tl
    · have hlt' : (k : Int) < (tl : Int) := by omega
      obtain ⟨x, hx⟩ : ∃ x, T[k]? = some x := ⟨T[k]'(by rw [HT.out.1]; exact hlt), List.getElem?_eq_getElem _⟩
      obtain ⟨g, o, rfl, c0, c1⟩ := (HT.out.grown hO.out.grown).2.2 k x hx
      obtain ⟨ok1, ok2⟩ := HT.out.2.1 x (List.mem_of_getElem? hx)
      have b1 := bounds_u16 ok1
      have b2 := bounds_u64 ok2
      obtain ⟨at_, ww⟩ := x
      dsimp only at c0 c1 b1 b2
      obtain ⟨A, rfl⟩ := Int.eq_ofNat_of_zero_le b1.1
      obtain ⟨V, rfl⟩ := Int.eq_ofNat_of_zero_le b2.1
      obtain ⟨C, HC⟩ : ∃ C, Hid (C = A % Z) := ⟨_, Lib.hid rfl⟩
      have hC : C < Z := by rw [HC.out]; exact Nat.mod_lt _ (by omega)
      have eC : (A : Int).tmod (Z : Int) = (C : Int) := by rw [HC.out, Int.tmod_eq_emod_of_nonneg (by omega)]; omega
      have eC' : (A : Int) % (Z : Int) = (C : Int) := by rw [HC.out]; omega
      have eCZ : (C : Int) < (Z : Int) := by omega
      have eC0 : (0 : Int) ≤ (C : Int) := by omega
      have wa : IntKind.i64.wrap (A : Int) = (A : Int) := IntWalk.i64_in _ ⟨by omega, by omega⟩
      have hki := show (Ps ++ [BX, rowP 36 1 (.slice (some ⟨q, 0, none⟩) Z cp) Z (YS.map wv)])[P + 1]? = some (rowP 36 1 (.slice (some ⟨q, 0, none⟩) Z cp) Z (YS.map wv)) by rw [HP.out, List.getElem?_append_right (by omega), show Ps.length + 1 - Ps.length = 1 from by omega]; rfl
      obtain ⟨U, HU⟩ : ∃ U, Hid (U = YS.getD C 0) := ⟨_, Lib.hid rfl⟩
      obtain ⟨q', he, cK, fK, _⟩ := Own.cell hO.out (P + 1) hki C (wv U) (by rw [List.getElem?_map, List.getElem?_eq_getElem (by rw [HY.out.1]; omega), HU.out, List.getD_eq_getElem?_getD, List.getElem?_eq_getElem (by rw [HY.out.1]; omega)]; rfl)
      cases he
      unfold wv at cK
      have hO2 := (hO.out.quiet (grown_drew (World.grownBy.refl _ none))).store (P + 1) hki C (wv V)
      rw [← List.map_set, HP.out, List.set_append_right _ _ (by omega), show Ps.length + 1 - Ps.length = 1 from by omega] at hO2
      have HO2 : Hid (Own w0 (wr.drew.setCell ⟨q, C, none⟩ (.int .u64 (V : Int))) (Ps ++ [BX, rowP 36 1 (.slice (some ⟨q, 0, none⟩) Z cp) Z ((YS.set C V).map wv)])) := Lib.hid hO2
      have HR : Hid ((YS.set C V).length = Z ∧ ∀ n ∈ YS.set C V, n < 18446744073709551616) := Lib.hid ⟨by rw [List.length_set]; exact HY.out.1, fun n hn => by
        rcases List.mem_or_eq_of_mem_set hn with h | h
        · exact HY.out.2 n h
        · rw [h]; omega⟩
      clear hO2 hO hki hx ok1 ok2 b1 b2
      go_wp2_with fail
      go_still_tail 16, (by kernel_rfl)
      change wpList _ _ _ _ _ wr.drew
      go_wp2
      go_roundw
      case rel => exact ⟨k + 1, by omega, by go_num, YS.set C V, HR, HO2⟩
      case measure => simp [intOf]; omega
    · have hlt' : ¬ (k : Int) < (tl : Int) := by omega
      have hki : (Ps ++ [BX, rowP 36 1 (.slice (some ⟨q, 0, none⟩) Z cp) Z (YS.map wv)])[P + 1]? = some (rowP 36 1 (.slice (some ⟨q, 0, none⟩) Z cp) Z (YS.map wv)) := by rw [HP.out, List.getElem?_append_right (by omega), show Ps.length + 1 - Ps.length = 1 from by omega]; rfl
      have hhd : ∀ a, (some ⟨q, 0, none⟩ : Option Addr) = some a → a = ⟨a.block, 0, none⟩ := fun a ha => by cases ha; rfl
      obtain ⟨hwd, _, hcap⟩ := Own.words hO.out (P + 1) hki HY.out.2 (by omega)
      obtain ⟨D, hD⟩ : ∃ D, Z - min C Z = D := ⟨_, rfl⟩
      have hsl := fun wx => slice_to (P := Try.prog) 27 36 Try.underlying27 1 Try.sizeOf36 (some ⟨q, 0, none⟩) Z cp D (by omega) hhd wx
      have hW2 := Lib.hid (words_cut hwd (show D ≤ Z by omega))
      have HOw : Hid (Own w0 wr Ps) := Lib.hid hO.out.less
      have hDz : D ≤ 100000 := by omega
      have hDl : D ≤ Z := by omega
      have wC : IntKind.i64.wrap (C : Int) = (C : Int) := by have := HC.out; exact IntWalk.i64_in _ ⟨by omega, by omega⟩
      clear hki hhd hO hwd hcap
      by_cases hcz : C < Z
      · have z1 : ¬ (Z : Int) ≤ (C : Int) := by omega
        have z2 : (C : Int) ≤ (Z : Int) := by omega
        have zs : (Z : Int) - (C : Int) = (D : Int) := by omega
        have wD : IntKind.i64.wrap (D : Int) = (D : Int) := IntWalk.i64_in _ ⟨by omega, by omega⟩
        clear hcz hD hDl hlt
        go_wp2
        go_ret
        exact ⟨_, D, _, _, rfl, hW2.out, (fun h => by cases h), hDz, HOw.out⟩
      · have hD0 : D = 0 := by omega
        subst hD0
        have z2 : (Z : Int) ≤ (C : Int) := by omega
        have zs : (Z : Int) - (Z : Int) = 0 := by omega
        by_cases hce : C = Z
        · have hce' : (C : Int) = (Z : Int) := by omega
          rw [hce']
          rw [hce'] at wC
          have z3 : (Z : Int) ≤ (Z : Int) := by omega
          clear hcz hD hDl hlt hce hce' z2
          go_wp2
          go_ret
          exact ⟨_, 0, _, _, rfl, hW2.out, (fun h => by cases h), hDz, HOw.out⟩
        · have z1 : ¬ (C : Int) ≤ (Z : Int) := by omega
          clear hcz hD hDl hlt hce
          go_wp2
          go_ret
          exact ⟨_, 0, _, _, rfl, hW2.out, (fun h => by cases h), hDz, HOw.out⟩

theorem ImageQ (a b c : Int) (C : Nat) (hC : C < 65536) (td : Option Addr) (tl tc : Nat) (T : List Tur) (w0 w : World) (Ps : List Pr) (h : Own w0 w Ps) (hT : TursIn w0 td tl T) (htl : tl ≤ 1000000) :
    Calls Try.prog 9 #[gv a b c, .slice td tl tc, .int .u16 (C : Int)] w fun e w' => ∃ (XS : List Nat) (n : Nat) (ad : Option Addr) (cp : Nat), e = .returned (.slice ad n cp) ∧ Words w' ad n XS ∧ (ad = none → n = 0 ∧ cp = 0) ∧ n ≤ 100000 ∧ Own w0 w' Ps := by
  cases hm : mayB a b c with
  | false =>
    refine (ImageNo a b c C hC hm td tl tc w0 w Ps h).mono ?_
    rintro e w' ⟨rfl, hO⟩
    exact ⟨[], 0, none, 0, rfl, Words.nil _, fun _ => ⟨rfl, rfl⟩, by omega, hO⟩
  | true =>
    have hq := mayB_yes hm
    obtain ⟨A, rfl⟩ := Int.eq_ofNat_of_zero_le (show 0 ≤ a by omega)
    obtain ⟨B, rfl⟩ := Int.eq_ofNat_of_zero_le (show 0 ≤ b by omega)
    obtain ⟨D, rfl⟩ := Int.eq_ofNat_of_zero_le (show 0 ≤ c by omega)
    exact ImageYes A B D C hC hm td tl tc T w0 w Ps h hT htl
end Go.Proofs.Ytdpkpphjpihhkaa
end
section
/- Get, Put, Load, Save, Wipe, Set, May: the program's answers and the document's. -/
namespace Go.Proofs.Ytdpkpphjpihhkaa
open Go.RowKit Go.Grommet

theorem gotI_lt {xs : List Nat} {L : List (Nat × Nat)} (hx : ∀ n ∈ xs, n < 18446744073709551616) (hL : Wl xs.length L) (a : Int) : gotI xs L a < 18446744073709551616 := by
  unfold gotI
  split
  · exact gotV_small hx hL.val _
  · decide
theorem there_zero {i k : Int} {n : Nat} (h : hasS i (decide (0 ≤ slotV i k)) n = 0) : thereV n i k = 0 := by
  have e := there_has i k n
  omega
theorem head_zero {i : Int} {n : Nat} (h : hasS i true n = 0) : thereV n i 0 = 0 := by
  have e := head_has i n
  omega
theorem there_ne {i k : Int} {n : Nat} (h : hasS i (decide (0 ≤ slotV i k)) n ≠ 0) : thereV n i k ≠ 0 := by
  have e := there_has i k n
  omega
theorem head_ne {i : Int} {n : Nat} (h : hasS i true n ≠ 0) : thereV n i 0 ≠ 0 := by
  have e := head_has i n
  omega

theorem get_both (i : Int) (xs : List Nat) (L : List (Nat × Nat)) (hxl : xs.length ≤ 1000000) : ∃ (ob : Bool) (ge mk : Nat) (en : Int), (∀ (k g : Nat) (w0 w : World) (Ps : List Pr), Own w0 w Ps → Ps[k]? = some (viewP g xs L) → Calls Try.prog 65 #[.pointer (some ⟨g, 0, none⟩), .int .i64 i] w fun e w' => e = .returned (.tuple #[.agg #[.bool ob, .int .u64 (ge : Int), .int .u64 (mk : Int)], .int .i64 en]) ∧ Own w0 w' Ps) ∧ (∀ (k g : Nat) (w0 w : World) (Ps : List Pr), Own w0 w Ps → Ps[k]? = some (refQ g xs L) → Calls Try.prog 44 #[.pointer (some ⟨g, 0, none⟩), .int .i64 i] w fun e w' => e = .returned (.tuple #[.agg #[.bool ob, .int .u64 (ge : Int), .int .u64 (mk : Int)], .int .i64 en]) ∧ Own w0 w' Ps) := by
  by_cases h0 : hasS i true xs.length = 0
  · obtain ⟨h1, h2, _, h3, _, _⟩ := hasS_yes h0
    by_cases c : 1 < gotI xs L (sessionV i)
    · exact ⟨false, 0, 0, 4, fun k g w0 w Ps h hk => GetBad k g xs L i _ _ w0 w Ps h hk rfl ⟨h1, h3⟩ hxl rfl c, fun k g w0 w Ps h hk => RHeadBad k g xs L i _ _ rfl (head_zero h0) rfl c w0 w Ps h hk⟩
    · exact ⟨_, _, _, 0, fun k g w0 w Ps h hk => GetOk k g xs L i _ _ _ _ _ w0 w Ps h hk rfl ⟨h1, h3⟩ hxl rfl rfl (by omega) rfl rfl, fun k g w0 w Ps h hk => RHeadYes k g xs L i _ _ _ _ _ rfl ⟨h1, by omega⟩ (head_zero h0) rfl rfl (by omega) rfl rfl w0 w Ps h hk⟩
  · exact ⟨false, 0, 0, _, fun k g w0 w Ps h hk => GetE k g xs L i _ w0 w Ps h hk (head_has i xs.length).symm (by have := head_ne h0; omega), fun k g w0 w Ps h hk => RHeadNo k g xs L i _ rfl (head_ne h0) w0 w Ps h hk⟩
theorem put_both (i : Int) (ob : Bool) (ge mk : Nat) (hge : ge < 18446744073709551616) (hmk : mk < 18446744073709551616) (xs : List Nat) (L : List (Nat × Nat)) (hxl : xs.length ≤ 1000000) : ∃ (L2 : List (Nat × Nat)) (en : Int), (∀ (k g : Nat) (w0 w : World) (Ps : List Pr), Own w0 w Ps → Ps[k]? = some (viewP g xs L) → Calls Try.prog 41 #[.pointer (some ⟨g, 0, none⟩), .int .i64 i, .agg #[.bool ob, .int .u64 (ge : Int), .int .u64 (mk : Int)]] w fun e w' => e = .returned (.int .i64 en) ∧ Own w0 w' (Ps.set k (viewP g xs L2))) ∧ (∀ (k g : Nat) (w0 w : World) (Ps : List Pr), Own w0 w Ps → Ps[k]? = some (refQ g xs L) → Calls Try.prog 42 #[.pointer (some ⟨g, 0, none⟩), .int .i64 i, .agg #[.bool ob, .int .u64 (ge : Int), .int .u64 (mk : Int)]] w fun e w' => e = .returned (.int .i64 en) ∧ Own w0 w' (Ps.set k (refQ g xs L2))) := by
  by_cases h0 : hasS i true xs.length = 0
  · obtain ⟨h1, h2, _, h3, _, _⟩ := hasS_yes h0
    cases ob with
    | true => exact ⟨_, _, fun k g w0 w Ps h hk => PutTrue k g xs L i _ ge mk w0 w Ps h hk rfl ⟨h1, h3⟩ hxl hge hmk, fun k g w0 w Ps h hk => RPutT k g xs L i ge mk _ _ w0 w Ps _ h hk (head_zero h0) rfl ⟨h1, by omega⟩ hge hmk (by rw [seqS_head]) (by rw [seqS_head])⟩
    | false => exact ⟨_, _, fun k g w0 w Ps h hk => PutFalse k g xs L i _ ge mk w0 w Ps h hk rfl ⟨h1, h3⟩ hxl hge hmk, fun k g w0 w Ps h hk => RPutF k g xs L i ge mk _ _ w0 w Ps _ h hk (head_zero h0) rfl ⟨h1, by omega⟩ hge hmk (by rw [seqS_head]) (by rw [seqS_head])⟩
  · exact ⟨L, _, fun k g w0 w Ps h hk => by rw [set_id hk]; exact PutE k g xs L i ob _ _ _ w0 w Ps h hk (head_has i xs.length).symm (by have := head_ne h0; omega), fun k g w0 w Ps h hk => by rw [set_id hk]; exact RPutHE k g xs L i ob ge mk _ w0 w Ps h hk rfl (head_ne h0)⟩
theorem wipe_both (i : Int) (xs : List Nat) (L : List (Nat × Nat)) : ∃ (L2 : List (Nat × Nat)) (en : Int), (∀ (k g : Nat) (w0 w : World) (Ps : List Pr), Own w0 w Ps → Ps[k]? = some (viewP g xs L) → Calls Try.prog 43 #[.pointer (some ⟨g, 0, none⟩), .int .i64 i] w fun e w' => e = .returned (.int .i64 en) ∧ Own w0 w' (Ps.set k (viewP g xs L2))) ∧ (∀ (k g : Nat) (w0 w : World) (Ps : List Pr), Own w0 w Ps → Ps[k]? = some (refQ g xs L) → Calls Try.prog 45 #[.pointer (some ⟨g, 0, none⟩), .int .i64 i] w fun e w' => e = .returned (.int .i64 en) ∧ Own w0 w' (Ps.set k (refQ g xs L2))) := by
  by_cases h0 : hasS i true xs.length = 0
  · obtain ⟨h1, h2, _, h3, _, _⟩ := hasS_yes h0
    exact ⟨_, _, fun k g w0 w Ps h hk => WipeH k g xs L i _ w0 w Ps h hk rfl ⟨h1, h3⟩, fun k g w0 w Ps h hk => RWipeQ k g xs L i 0 _ _ w0 w Ps _ h hk (head_zero h0) (.inl ⟨rfl, rfl, rfl⟩) rfl⟩
  · exact ⟨L, _, fun k g w0 w Ps h hk => by rw [set_id hk]; exact WipeE k g xs L i _ w0 w Ps h hk (head_has i xs.length).symm (by have := head_ne h0; omega), fun k g w0 w Ps h hk => RWipeQ k g xs L i _ _ _ w0 w Ps _ h hk rfl (.inr ⟨head_ne h0, rfl, rfl⟩) rfl⟩
theorem load_both (i kk : Int) (xs : List Nat) (L : List (Nat × Nat)) (hg : ∀ a, gotI xs L a < 18446744073709551616) : ∃ (sq er ra rb : Nat) (d : ByteArray) (en : Int), (∀ (k g : Nat) (w0 w : World) (Ps : List Pr), Own w0 w Ps → Ps[k]? = some (viewP g xs L) → Calls Try.prog 37 #[.pointer (some ⟨g, 0, none⟩), .int .i64 i, .int .i64 kk] w fun e w' => e = .returned (.tuple #[.int .u64 (sq : Int), .agg #[.int .i64 (er : Int), .int .u64 (ra : Int), .int .u64 (rb : Int), .string d], .int .i64 en]) ∧ Own w0 w' Ps) ∧ (∀ (k g : Nat) (w0 w : World) (Ps : List Pr), Own w0 w Ps → Ps[k]? = some (refQ g xs L) → Calls Try.prog 40 #[.pointer (some ⟨g, 0, none⟩), .int .i64 i, .int .i64 kk] w fun e w' => e = .returned (.tuple #[.int .u64 (sq : Int), .agg #[.int .i64 (er : Int), .int .u64 (ra : Int), .int .u64 (rb : Int), .string d], .int .i64 en]) ∧ Own w0 w' Ps) := by
  by_cases h0 : hasS i (decide (0 ≤ slotV i kk)) xs.length = 0
  · obtain ⟨h1, h2, hm, h3, _, _⟩ := hasS_yes h0
    have hs0 : 0 ≤ slotV i kk := by simpa using hm
    have hs1 : slotV i kk ≤ 1000 := by unfold slotV; split <;> omega
    by_cases c : gotI xs L (slotV i kk) = 0
    · exact ⟨0, 0, 0, 0, ⟨#[]⟩, 0, fun k g w0 w Ps h hk => LoadZero k g xs L i kk _ _ w0 w Ps h hk rfl ⟨h1, h3⟩ rfl ⟨hs0, hs1⟩ c, fun k g w0 w Ps h hk => RLoadZero k g xs L i kk _ w0 w Ps h hk (there_zero h0) rfl c⟩
    · by_cases cb : 24 < gotI xs L (slotV i kk + 1) % 256 ∨ 64 < gotI xs L (slotV i kk + 1) / 256
      · exact ⟨0, 0, 0, 0, ⟨#[]⟩, 4, fun k g w0 w Ps h hk => LoadBad k g xs L i kk _ _ _ _ w0 w Ps h hk rfl ⟨h1, h3⟩ rfl ⟨hs0, hs1⟩ rfl (by omega) rfl (hg _) cb, fun k g w0 w Ps h hk => RLoadBad k g xs L i kk _ _ _ w0 w Ps h hk (there_zero h0) rfl ⟨hs0, hs1⟩ rfl (by omega) rfl (hg _) cb⟩
      · exact ⟨_, gotI xs L (slotV i kk + 1) % 256, _, _, _, 0, fun k g w0 w Ps h hk => LoadYes k g xs L i kk _ _ _ _ _ (gotI xs L (slotV i kk + 1) / 256) _ _ _ w0 w Ps h hk rfl ⟨h1, h3⟩ rfl ⟨hs0, hs1⟩ rfl (by omega) rfl (by omega) (by omega) (by omega) rfl rfl rfl, fun k g w0 w Ps h hk => RLoadYes k g xs L i kk _ _ _ _ (gotI xs L (slotV i kk + 1) / 256) _ _ _ w0 w Ps h hk (there_zero h0) rfl ⟨hs0, hs1⟩ rfl (by omega) rfl (by omega) (by omega) (by omega) rfl rfl rfl⟩
  · exact ⟨0, 0, 0, 0, ⟨#[]⟩, _, fun k g w0 w Ps h hk => LoadE k g xs L i kk _ _ w0 w Ps h hk rfl (there_has i kk xs.length).symm (by have := there_ne h0; omega), fun k g w0 w Ps h hk => RLoadE k g xs L i kk _ w0 w Ps h hk rfl (there_ne h0)⟩
theorem save_both (i kk : Int) (sq ra rb : Nat) (er : Int) (d : ByteArray) (hra : ra < 18446744073709551616) (hrb : rb < 18446744073709551616) (xs : List Nat) (L : List (Nat × Nat)) : ∃ (L2 : List (Nat × Nat)) (en : Int), (∀ (k g : Nat) (w0 w : World) (Ps : List Pr), Own w0 w Ps → Ps[k]? = some (viewP g xs L) → Calls Try.prog 27 #[.pointer (some ⟨g, 0, none⟩), .int .i64 i, .int .i64 kk, .int .u64 (sq : Int), .agg #[.int .i64 er, .int .u64 (ra : Int), .int .u64 (rb : Int), .string d]] w fun e w' => e = .returned (.int .i64 en) ∧ Own w0 w' (Ps.set k (viewP g xs L2))) ∧ (∀ (k g : Nat) (w0 w : World) (Ps : List Pr), Own w0 w Ps → Ps[k]? = some (refQ g xs L) → Calls Try.prog 32 #[.pointer (some ⟨g, 0, none⟩), .int .i64 i, .int .i64 kk, .int .u64 (sq : Int), .agg #[.int .i64 er, .int .u64 (ra : Int), .int .u64 (rb : Int), .string d]] w fun e w' => e = .returned (.int .i64 en) ∧ Own w0 w' (Ps.set k (refQ g xs L2))) := by
  by_cases hs : slotV i kk < 0
  · have hn : ¬ ((0 ≤ i ∧ i < 4) ∧ 0 ≤ kk ∧ kk < 4) := by
      intro c
      unfold slotV at hs
      rw [if_pos c] at hs
      omega
    exact ⟨L, 1, fun k g w0 w Ps h hk => by rw [set_id hk]; exact SaveA k g xs L i kk sq er _ _ d _ w0 w Ps h hk hs (by unfold hasS; rw [if_pos (.inr rfl)]) (by decide), fun k g w0 w Ps h hk => by rw [set_id hk]; exact RSaveArg k g xs L i kk er sq ra rb d w0 w Ps h hk (fun c => absurd c hn)⟩
  · have hs0 : 0 ≤ slotV i kk := by omega
    have hs1 : slotV i kk ≤ 1000 := by unfold slotV; split <;> omega
    have hik := slot_there hs0
    have hat : 0 ≤ sessionV i := by unfold sessionV; rw [if_pos hik.1]; omega
    cases hb : (seqB sq && mayR er d.size) with
    | false =>
      refine ⟨L, 1, fun k g w0 w Ps h hk => ?_, fun k g w0 w Ps h hk => by rw [set_id hk]; exact RSaveArg k g xs L i kk er sq ra rb d w0 w Ps h hk (fun _ => hb)⟩
      rw [set_id hk]
      refine (SaveNo g i kk _ _ sq er _ _ d w rfl hat rfl hs0 hb).mono ?_
      rintro e w' ⟨he, hg⟩
      exact ⟨he, h.quiet hg⟩
    | true =>
      rw [Bool.and_eq_true] at hb
      obtain ⟨hq, hm⟩ := hb
      have hsq : 1 ≤ sq ∧ sq ≤ 1099511627776 := by unfold seqB at hq; simpa using hq
      have hmm : (0 ≤ er ∧ er ≤ 24) ∧ d.size ≤ 64 := by unfold mayR at hm; simpa using hm
      have hd0 : decide (0 ≤ slotV i kk) = true := by simpa using hs0
      by_cases h0 : hasS i true xs.length = 0
      · obtain ⟨h1, h2, _, h3, _, _⟩ := hasS_yes h0
        obtain ⟨en, rfl⟩ := Int.eq_ofNat_of_zero_le hmm.1.1
        exact ⟨_, _, fun k g w0 w Ps h hk => SaveYes k g xs L i kk _ _ sq en ra rb d w0 w Ps h hk rfl ⟨h1, h3⟩ rfl ⟨hs0, hs1⟩ hsq (by omega) hmm.2 hra hrb, fun k g w0 w Ps h hk => RSaveYes k g xs L i kk en _ _ _ sq ra rb d w0 w Ps _ h hk hik hsq (by omega) hmm.2 hra hrb (there_zero (by rw [hd0]; exact h0)) rfl ⟨hs0, hs1⟩ rfl rfl rfl⟩
      · have ht := there_has i kk xs.length
        rw [hd0] at ht
        exact ⟨L, _, fun k g w0 w Ps h hk => by rw [set_id hk]; exact SaveC k g xs L i kk sq er _ _ d _ w0 w Ps h hk hs0 hsq.1 hsq.2 hm ht.symm (by omega), fun k g w0 w Ps h hk => by rw [set_id hk]; exact RSaveE k g xs L i kk er _ sq ra rb d w0 w Ps h hk hik hsq hm rfl (by omega)⟩
theorem set_both (a : Int) (v : Nat) (hv : v < 18446744073709551616) (xs : List Nat) (L : List (Nat × Nat)) : ∃ (L2 : List (Nat × Nat)) (en : Int), (∀ (k g : Nat) (w0 w : World) (Ps : List Pr), Own w0 w Ps → Ps[k]? = some (viewP g xs L) → Calls Try.prog 75 #[.pointer (some ⟨g, 0, none⟩), .int .i64 a, .int .u64 (v : Int)] w fun e w' => e = .returned (.int .i64 en) ∧ Own w0 w' (Ps.set k (viewP g xs L2))) ∧ (∀ (k g : Nat) (w0 w : World) (Ps : List Pr), Own w0 w Ps → Ps[k]? = some (refQ g xs L) → Calls Try.prog 62 #[.pointer (some ⟨g, 0, none⟩), .int .i64 a, .int .u64 (v : Int)] w fun e w' => e = .returned (.int .i64 en) ∧ Own w0 w' (Ps.set k (refQ g xs L2))) :=
  ⟨_, _, fun k g w0 w Ps h hk => SetH k g xs L a v _ w0 w Ps _ h hk hv rfl rfl, fun k g w0 w Ps h hk => RSetQ k g xs L a v _ w0 w Ps _ h hk hv rfl rfl⟩
end Go.Proofs.Ytdpkpphjpihhkaa
end
