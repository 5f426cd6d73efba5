/- ClaC, OpMath, AckH, OfX, Steps, OnceA, OnceMath, OnceB in one. -/
import Derived.Test.YtdpkpphjpihhkaaClaB
import Derived.Test.YtdpkpphjpihhkaaSaveMath
import Derived.Deep.LoopGhost
import Derived.Test.YtdpkpphjpihhkaaRows
import Derived.Test.YtdpkpphjpihhkaaBase6
import Derived.ProofKit
import Derived.Deep.Slices
import Derived.Deep.Strs
import Derived.Test.YtdpkpphjpihhkaaWinMath
import Derived.Test.YtdpkpphjpihhkaaSaveMath2
section
/- Package class: sessions opened and closed. -/
namespace Go.Proofs.Ytdpkpphjpihhkaa
open Go.RowKit Go.Grommet

set_option maxHeartbeats 1000000 in
/-- The head of a session. -/
theorem headG (k g : Nat) (xs : List Nat) (L : List (Nat × Nat)) (i at_ : Int) (o ge mk : Nat) (ob : Bool) (w0 w : World) (Ps : List Pr) (h : Own w0 w Ps) (hk : Ps[k]? = some (viewP g xs L)) (hat : sessionV i = at_) (ha : 0 ≤ at_ ∧ at_ + 64 ≤ (xs.length : Int)) (hxl : xs.length ≤ 1000000) (ho : gotI xs L at_ = o) (hob : ((o : Int) == 1) = ob) (ho1 : o ≤ 1) (hge : gotI xs L (at_ + 1) = ge) (hmk : gotI xs L (at_ + 2) = mk) :
    Calls Try.prog 35 #[.pointer (some ⟨g, 0, none⟩), .int .i64 i, .bool true] w fun e w' => e = .returned (.tuple #[.agg #[.bool ob, .int .u64 (ge : Int), .int .u64 (mk : Int)], .int .i64 0]) ∧ Own w0 w' Ps := by
  have hkl := (List.getElem?_eq_some_iff.1 hk).1
  obtain ⟨X, HX⟩ : ∃ X, Hid (X = w.heap.size) := ⟨_, Lib.hid rfl⟩
  have hO : Own w0 (w.alloc (.cells #[.bool false, .int .u64 0, .int .u64 0] 87)) (Ps ++ [boxP X 87 #[.bool false, .int .u64 0, .int .u64 0]]) := by rw [HX.out]; exact h.addBox _ _
  have HG := Lib.hid (GetOk k g xs L i at_ o ge mk ob w0 _ _ hO (by rw [List.getElem?_append_left hkl]; exact hk) hat ha hxl ho hob ho1 hge hmk)
  clear hO h hk hkl hat ha hxl ho hob ho1 hge hmk
  go_enter Try.func35, Try.ntmps35
  go_wp2_with fail
  rw [← HX.out]
  refine HG.out.mono ?_
  rintro e w5 ⟨rfl, hO⟩
  clear HG
  have hz : w5.heap[X]? = some (.cells #[.bool false, .int .u64 0, .int .u64 0] 87 (0, 0)) := Own.box hO Ps.length (by rw [List.getElem?_append_right (Nat.le_refl _), Nat.sub_self]; rfl)
  have Hq : Hid (∀ w6 : World, w5.grownBy w6 (some X) → Own w0 w6 Ps) := Lib.hid (fun w6 hg => hO.forget hg)
  clear hO
  have m0 : w5.cell? ⟨X, 0, none⟩ = some (.bool false) := by simp [World.cell?, hz]
  have q0 : w5.frozen? ⟨X, 0, none⟩ = false := by simp [World.frozen?, hz]
  have m1 : w5.cell? ⟨X, 1, none⟩ = some (.int .u64 0) := by simp [World.cell?, hz]
  have q1 : w5.frozen? ⟨X, 1, none⟩ = false := by simp [World.frozen?, hz]
  have m2 : w5.cell? ⟨X, 2, none⟩ = some (.int .u64 0) := by simp [World.cell?, hz]
  have q2 : w5.frozen? ⟨X, 2, none⟩ = false := by simp [World.frozen?, hz]
  have hz1 := heap_setCell_at (o := 0) hz (.bool ob)
  have hz2 := heap_setCell_at (o := 1) hz1 (.int .u64 (ge : Int))
  have hz3 := heap_setCell_at (o := 2) hz2 (.int .u64 (mk : Int))
  have g1 : w5.grownBy (((w5.setCell ⟨X, 0, none⟩ (.bool ob)).setCell ⟨X, 1, none⟩ (.int .u64 (ge : Int))).setCell ⟨X, 2, none⟩ (.int .u64 (mk : Int))) (some X) := grown_trans (grown_trans (grown_setCell _ ⟨X, 0, none⟩ _) (grown_setCell _ ⟨X, 1, none⟩ _)) (grown_setCell _ ⟨X, 2, none⟩ _)
  obtain ⟨W3, hW3⟩ : ∃ W3, W3 = (((w5.setCell ⟨X, 0, none⟩ (.bool ob)).setCell ⟨X, 1, none⟩ (.int .u64 (ge : Int))).setCell ⟨X, 2, none⟩ (.int .u64 (mk : Int))) := ⟨_, rfl⟩
  clear hz1 hz2
  go_wp2
  rw [← hW3] at hz3 g1 ⊢
  have Z0 : W3.cell? ⟨X, 0, none⟩ = some (.bool ob) := by simp [World.cell?, hz3]
  have Z1 : W3.cell? ⟨X, 1, none⟩ = some (.int .u64 (ge : Int)) := by simp [World.cell?, hz3]
  have Z2 : W3.cell? ⟨X, 2, none⟩ = some (.int .u64 (mk : Int)) := by simp [World.cell?, hz3]
  exact bodyPost_ret (v := .tuple #[.agg #[.bool ob, .int .u64 (ge : Int), .int .u64 (mk : Int)], .int .i64 0]) (by simp [results, Try.results35, go_sem, Z0, Z1, Z2]) rfl ⟨rfl, Hq.out _ g1⟩

set_option maxRecDepth 100000 in
set_option maxHeartbeats 2000000 in
/-- A session that is not open. -/
theorem OfShut (k g : Nat) (xs : List Nat) (L : List (Nat × Nat)) (i at_ : Int) (ge mk seq : Nat) (w0 w : World) (Ps : List Pr) (h : Own w0 w Ps) (hk : Ps[k]? = some (viewP g xs L)) (hat : sessionV i = at_) (ha : 0 ≤ at_ ∧ at_ + 64 ≤ (xs.length : Int)) (hxl : xs.length ≤ 1000000) (ho : gotI xs L at_ = 0) (hge : gotI xs L (at_ + 1) = ge) (hmk : gotI xs L (at_ + 2) = mk) (hs1 : 1 ≤ seq) (hs2 : seq ≤ 1099511627776) (gen : Nat) :
    Calls Try.prog 14 #[.pointer (some ⟨g, 0, none⟩), .int .i64 i, .int .u64 (gen : Int), .int .u64 (seq : Int)] w fun e w' => e = .returned (.tuple #[.int .u8 0, .agg #[.int .i64 0, .int .u64 0, .int .u64 0, .string ⟨#[]⟩], .int .i64 22]) ∧ Own w0 w' Ps := by
  have hkl := (List.getElem?_eq_some_iff.1 hk).1
  obtain ⟨X, HX⟩ : ∃ X, Hid (X = w.heap.size) := ⟨_, Lib.hid rfl⟩
  have hO : Own w0 (w.alloc (.cells #[.int .i64 0, .int .u64 0, .int .u64 0, .string ⟨#[]⟩] 39)) (Ps ++ [boxP X 39 #[.int .i64 0, .int .u64 0, .int .u64 0, .string ⟨#[]⟩]]) := by rw [HX.out]; exact h.addBox _ _
  have hkk : ∀ Rs, (Ps ++ Rs)[k]? = some (viewP g xs L) := fun Rs => by rw [List.getElem?_append_left hkl]; exact hk
  have HH := Lib.hid (headG k g xs L i at_ 0 ge mk false w0 _ _ hO (hkk _) hat ha hxl ho rfl (by decide) hge hmk)
  have HI := Lib.hid (fun wx => isNumber_any seq wx)
  have hnb : numB seq = true := by unfold numB; rw [decide_eq_true hs1, decide_eq_true hs2]; rfl
  rw [hnb] at HI
  have Hkk := Lib.hid hkk
  clear hnb hO h hk hkl hkk hat ha hxl ho hge hmk
  go_enter Try.func14, Try.ntmps14
  go_wp2_with fail
  rw [← HX.out]
  refine (HI.out _).mono ?_
  rintro e w5 ⟨rfl, rfl⟩
  go_wp2_with fail
  refine HH.out.mono ?_
  rintro e w1 ⟨rfl, hO⟩
  clear HH HI
  have hO := hO.addBox 87 #[.bool false, .int .u64 (ge : Int), .int .u64 (mk : Int)]
  obtain ⟨Y, HY⟩ : ∃ Y, Hid (Y = w1.heap.size) := ⟨_, Lib.hid rfl⟩
  have hYs : w1.heap.size = Y := HY.out.symm
  rw [hYs] at hO
  rw [List.append_assoc] at hO
  have hO : Own w0 (w1.alloc (.cells #[.bool false, .int .u64 (ge : Int), .int .u64 (mk : Int)] 87)) (Ps ++ boxP X 39 #[.int .i64 0, .int .u64 0, .int .u64 0, .string ⟨#[]⟩] :: [boxP Y 87 #[.bool false, .int .u64 (ge : Int), .int .u64 (mk : Int)]]) := hO
  obtain ⟨w2, hw2⟩ : ∃ w2, w1.alloc (.cells #[.bool false, .int .u64 (ge : Int), .int .u64 (mk : Int)] 87) = w2 := ⟨_, rfl⟩
  rw [hw2] at hO
  have hy : w2.heap[Y]? = some (.cells #[.bool false, .int .u64 (ge : Int), .int .u64 (mk : Int)] 87 (0, 0)) := Own.box hO (Ps.length + 1) (by rw [List.getElem?_append_right (by omega), show Ps.length + 1 - Ps.length = 1 from by omega]; rfl)
  have y0 : w2.cell? ⟨Y, 0, none⟩ = some (.bool false) := by simp [World.cell?, hy]
  have y1 : w2.cell? ⟨Y, 1, none⟩ = some (.int .u64 (ge : Int)) := by simp [World.cell?, hy]
  have y2 : w2.cell? ⟨Y, 2, none⟩ = some (.int .u64 (mk : Int)) := by simp [World.cell?, hy]
  clear hy
  have hz : w2.heap[X]? = some (.cells #[.int .i64 0, .int .u64 0, .int .u64 0, .string ⟨#[]⟩] 39 (0, 0)) := Own.box hO Ps.length (by rw [List.getElem?_append_right (Nat.le_refl _), Nat.sub_self]; rfl)
  have Hq : Hid (∀ w6 : World, w2.grownBy w6 (some X) → Own w0 w6 Ps) := Lib.hid (fun w6 hg => Own.forget (Qs := [_]) hO hg)
  clear hO
  have m0 : w2.cell? ⟨X, 0, none⟩ = some (.int .i64 0) := by simp [World.cell?, hz]
  have q0 : w2.frozen? ⟨X, 0, none⟩ = false := by simp [World.frozen?, hz]
  have m1 : w2.cell? ⟨X, 1, none⟩ = some (.int .u64 0) := by simp [World.cell?, hz]
  have q1 : w2.frozen? ⟨X, 1, none⟩ = false := by simp [World.frozen?, hz]
  have m2 : w2.cell? ⟨X, 2, none⟩ = some (.int .u64 0) := by simp [World.cell?, hz]
  have q2 : w2.frozen? ⟨X, 2, none⟩ = false := by simp [World.frozen?, hz]
  have m3 : w2.cell? ⟨X, 3, none⟩ = some (.string ⟨#[]⟩) := by simp [World.cell?, hz]
  have q3 : w2.frozen? ⟨X, 3, none⟩ = false := by simp [World.frozen?, hz]
  have hz1 := heap_setCell_at (o := 0) hz (.int .i64 0)
  have hz2 := heap_setCell_at (o := 1) hz1 (.int .u64 0)
  have hz3 := heap_setCell_at (o := 2) hz2 (.int .u64 0)
  have hz4 := heap_setCell_at (o := 3) hz3 (.string ⟨#[]⟩)
  have g1 : w2.grownBy ((((w2.setCell ⟨X, 0, none⟩ (.int .i64 0)).setCell ⟨X, 1, none⟩ (.int .u64 0)).setCell ⟨X, 2, none⟩ (.int .u64 0)).setCell ⟨X, 3, none⟩ (.string ⟨#[]⟩)) (some X) := (grown_trans (grown_trans (grown_trans (grown_setCell _ ⟨X, 0, none⟩ (.int .i64 0)) (grown_setCell _ ⟨X, 1, none⟩ (.int .u64 0))) (grown_setCell _ ⟨X, 2, none⟩ (.int .u64 0))) (grown_setCell _ ⟨X, 3, none⟩ (.string ⟨#[]⟩)))
  obtain ⟨W3, hW3⟩ : ∃ W3, W3 = ((((w2.setCell ⟨X, 0, none⟩ (.int .i64 0)).setCell ⟨X, 1, none⟩ (.int .u64 0)).setCell ⟨X, 2, none⟩ (.int .u64 0)).setCell ⟨X, 3, none⟩ (.string ⟨#[]⟩)) := ⟨_, rfl⟩
  clear hz1 hz2 hz3
  go_wp2_with fail
  rw [← hW3] at hz4 g1 ⊢
  have Z0 : W3.cell? ⟨X, 0, none⟩ = some (.int .i64 0) := by simp [World.cell?, hz4]
  have Z1 : W3.cell? ⟨X, 1, none⟩ = some (.int .u64 0) := by simp [World.cell?, hz4]
  have Z2 : W3.cell? ⟨X, 2, none⟩ = some (.int .u64 0) := by simp [World.cell?, hz4]
  have Z3 : W3.cell? ⟨X, 3, none⟩ = some (.string ⟨#[]⟩) := by simp [World.cell?, hz4]
  exact bodyPost_ret (v := .tuple #[.int .u8 0, .agg #[(.int .i64 0), (.int .u64 0), (.int .u64 0), (.string ⟨#[]⟩)], .int .i64 22]) (by simp [results, Try.results14, go_sem, Z0, Z1, Z2, Z3]) rfl ⟨rfl, Hq.out _ g1⟩


theorem set_same_view {Ps : List Pr} {k : Nat} {P : Pr} (h : Ps[k]? = some P) : Ps.set k P = Ps := by
  apply List.ext_getElem?
  intro j
  by_cases e : k = j
  · subst e; rw [List.getElem?_set_self (List.getElem?_eq_some_iff.1 h).1, h]
  · rw [List.getElem?_set_ne e]
/-- What an Open tells. -/
def openR (ob : Bool) (ge gen : Nat) : Nat := if ob = true ∧ gen = ge then 1 else if gen ≤ ge then 2 else if ob = true ∨ gen - ge ≠ 1 then 3 else 0
def closeR (ob : Bool) (ge gen : Nat) : Nat := if gen < ge then 2 else if ge < gen then 3 else if ob = true then 0 else 1

set_option maxRecDepth 100000 in
set_option maxHeartbeats 4000000 in
theorem OpenH (k g : Nat) (xs : List Nat) (L : List (Nat × Nat)) (i at_ : Int) (o ge mk gen : Nat) (ob : Bool) (w0 w : World) (Ps : List Pr) (h : Own w0 w Ps) (hk : Ps[k]? = some (viewP g xs L)) (hat : sessionV i = at_) (ha : 0 ≤ at_ ∧ at_ + 64 ≤ (xs.length : Int)) (hxl : xs.length ≤ 1000000) (ho : gotI xs L at_ = o) (hob : ((o : Int) == 1) = ob) (ho1 : o ≤ 1) (hge : gotI xs L (at_ + 1) = ge) (hmk : gotI xs L (at_ + 2) = mk) (hs1 : 1 ≤ gen) (hs2 : gen ≤ 1099511627776) (hg64 : gen < 18446744073709551616) (L1 : List (Nat × Nat)) (hE : allE xs L [(at_, 1), (at_ + 1, gen), (at_ + 2, 0)] = 0) (hL1 : allL xs L [(at_, 1), (at_ + 1, gen), (at_ + 2, 0)] = L1) (hWE : allE xs L1 (wipeS i) = 0) (hWL : allL xs L1 (wipeS i) = L1) :
    Calls Try.prog 18 #[.pointer (some ⟨g, 0, none⟩), .int .i64 i, .int .u64 (gen : Int)] w fun e w' => e = .returned (.tuple #[.int .u8 (openR ob ge gen : Int), .int .i64 0]) ∧ Own w0 w' (Ps.set k (viewP g xs (if openR ob ge gen = 0 then L1 else L))) := by
  have hkl := (List.getElem?_eq_some_iff.1 hk).1
  have HH := Lib.hid (headG k g xs L i at_ o ge mk ob w0 _ _ h hk hat ha hxl ho hob ho1 hge hmk)
  have HI := Lib.hid (fun wx => isNumber_any gen wx)
  have hnb : numB gen = true := by unfold numB; rw [decide_eq_true hs1, decide_eq_true hs2]; rfl
  rw [hnb] at HI
  have HPT := Lib.hid (fun wx Qs (hO : Own w0 wx Qs) (hkq : Qs[k]? = some (viewP g xs L)) (u : Nat) (hu : u < 18446744073709551616) (m : Nat) (hm : m < 18446744073709551616) => PutTrue k g xs L i at_ u m w0 wx Qs hO hkq hat ha hxl hu hm)
  have HPF := Lib.hid (fun wx Qs (hO : Own w0 wx Qs) (hkq : Qs[k]? = some (viewP g xs L)) (u : Nat) (hu : u < 18446744073709551616) (m : Nat) (hm : m < 18446744073709551616) => PutFalse k g xs L i at_ u m w0 wx Qs hO hkq hat ha hxl hu hm)
  have HWp := Lib.hid (fun wx Qs M (hO : Own w0 wx Qs) (hkq : Qs[k]? = some (viewP g xs M)) => WipeH k g xs M i at_ w0 wx Qs hO hkq hat ha)
  have Hk := Lib.hid hk
  have Hkl := Lib.hid hkl
  have HEs := Lib.hid (And.intro hE (And.intro hL1 (And.intro hWE hWL)))
  have Hg64 := Lib.hid hg64
  clear hnb h hk hkl hat ha hxl ho hob ho1 hge hmk hE hL1 hWE hWL hg64 HPF
  obtain ⟨c, hc⟩ : ∃ c, openR ob ge gen = c := ⟨_, rfl⟩
  rw [hc]
  obtain ⟨M, hM⟩ : ∃ M, (if c = 0 then L1 else L) = M := ⟨_, rfl⟩
  rw [hM]
  have HC := Lib.hid hc
  have HM := Lib.hid (show (c = 0 → M = L1) ∧ (c ≠ 0 → M = L) from ⟨fun e => by rw [← hM, if_pos e], fun e => by rw [← hM, if_neg e]⟩)
  clear hc hM
  go_enter Try.func18, Try.ntmps18
  go_wp2_with fail
  refine (HI.out _).mono ?_
  rintro e w5 ⟨rfl, rfl⟩
  go_wp2_with fail
  refine HH.out.mono ?_
  rintro e w1 ⟨rfl, hO1⟩
  clear HH HI
  have hO := hO1.addBox 87 #[.bool ob, .int .u64 (ge : Int), .int .u64 (mk : Int)]
  obtain ⟨Y, HY⟩ : ∃ Y, Hid (Y = w1.heap.size) := ⟨_, Lib.hid rfl⟩
  have hYs : w1.heap.size = Y := HY.out.symm
  rw [hYs] at hO
  obtain ⟨w2, hw2⟩ : ∃ w2, w1.alloc (.cells #[.bool ob, .int .u64 (ge : Int), .int .u64 (mk : Int)] 87) = w2 := ⟨_, rfl⟩
  rw [hw2] at hO
  have hy : w2.heap[Y]? = some (.cells #[.bool ob, .int .u64 (ge : Int), .int .u64 (mk : Int)] 87 (0, 0)) := Own.box hO Ps.length (by rw [List.getElem?_append_right (Nat.le_refl _), Nat.sub_self]; rfl)
  have y0 : w2.cell? ⟨Y, 0, none⟩ = some (.bool ob) := by simp [World.cell?, hy]
  have y1 : w2.cell? ⟨Y, 1, none⟩ = some (.int .u64 (ge : Int)) := by simp [World.cell?, hy]
  have y2 : w2.cell? ⟨Y, 2, none⟩ = some (.int .u64 (mk : Int)) := by simp [World.cell?, hy]
  have yz : w2.frozen? ⟨Y, 0, none⟩ = false := by simp [World.frozen?, hy]
  have hOP := Lib.hid (show Own w0 w2 Ps from hO.less)
  by_cases c1 : ob = true ∧ gen = ge
  · obtain ⟨rfl, rfl⟩ := c1
    have HR := Lib.hid (show c = 1 by rw [← HC.out]; unfold openR; rw [if_pos ⟨rfl, rfl⟩])
    have HL := Lib.hid (HM.out.2 (by rw [HR.out]; decide))
    have q1 : ((gen : Int) == (gen : Int)) = true := by simp
    clear hO hs1 hs2
    go_wp2
    exact bodyPost_ret (v := .tuple #[.int .u8 1, .int .i64 0]) (by simp [results, Try.results18, go_sem]) rfl ⟨by rw [HR.out]; rfl, by rw [HL.out, set_same_view Hk.out]; exact hOP.out⟩
  · by_cases c2 : gen ≤ ge
    · have HR := Lib.hid (show c = 2 by rw [← HC.out]; unfold openR; rw [if_neg c1, if_pos c2])
      have HL := Lib.hid (HM.out.2 (by rw [HR.out]; decide))
      have q2 : (gen : Int) ≤ (ge : Int) := by omega
      clear hO hs1 hs2
      cases ob with
      | true =>
        have q1 : ((gen : Int) == (ge : Int)) = false := by rw [beq_eq_false_iff_ne]; intro e; exact c1 ⟨rfl, by omega⟩
        clear c1 c2
        go_wp2
        exact bodyPost_ret (v := .tuple #[.int .u8 2, .int .i64 0]) (by simp [results, Try.results18, go_sem]) rfl ⟨by rw [HR.out]; rfl, by rw [HL.out, set_same_view Hk.out]; exact hOP.out⟩
      | false =>
        clear c1 c2
        go_wp2
        exact bodyPost_ret (v := .tuple #[.int .u8 2, .int .i64 0]) (by simp [results, Try.results18, go_sem]) rfl ⟨by rw [HR.out]; rfl, by rw [HL.out, set_same_view Hk.out]; exact hOP.out⟩
    · have q2 : ¬ (gen : Int) ≤ (ge : Int) := by omega
      obtain ⟨D, hD⟩ : ∃ D, gen - ge = D := ⟨_, rfl⟩
      have wd : IntKind.u64.wrap ((gen : Int) - (ge : Int)) = (D : Int) := by rw [IntWalk.u64_in _ ⟨by omega, by omega⟩]; omega
      have q1 : ((gen : Int) == (ge : Int)) = false := by rw [beq_eq_false_iff_ne]; omega
      cases ob with
      | true =>
        have HR := Lib.hid (show c = 3 by rw [← HC.out]; unfold openR; rw [if_neg c1, if_neg c2, if_pos (.inl rfl)])
        have HL := Lib.hid (HM.out.2 (by rw [HR.out]; decide))
        clear hO hs1 hs2 c1 c2 hD
        go_wp2
        exact bodyPost_ret (v := .tuple #[.int .u8 3, .int .i64 0]) (by simp [results, Try.results18, go_sem]) rfl ⟨by rw [HR.out]; rfl, by rw [HL.out, set_same_view Hk.out]; exact hOP.out⟩
      | false =>
        by_cases c3 : D = 1
        · have HR := Lib.hid (show c = 0 by rw [← HC.out]; unfold openR; rw [if_neg c1, if_neg c2, if_neg (by rw [hD]; simp [c3])])
          have HL := Lib.hid (HM.out.1 HR.out)
          have q3 : ((D : Int) != 1) = false := by rw [c3]; rfl
          have HP := Lib.hid (HPT.out w2 Ps hOP.out Hk.out gen Hg64.out 0 (by decide))
          rw [HEs.out.1, HEs.out.2.1] at HP
          have HW := Lib.hid (fun wx (hOx : Own w0 wx (Ps.set k (viewP g xs L1))) => HWp.out wx _ L1 hOx (List.getElem?_set_self Hkl.out))
          rw [HEs.out.2.2.1, HEs.out.2.2.2, List.set_set] at HW
          clear hO hs1 hs2 c1 c2 c3 hD hOP HPT HWp
          go_wp2_with fail
          refine HP.out.mono ?_
          rintro e w3 ⟨rfl, hO3⟩
          have HW2 := Lib.hid (HW.out _ hO3)
          clear HP HW hO3
          go_wp2_with fail
          refine HW2.out.mono ?_
          rintro e w4 ⟨rfl, hO4⟩
          have hO4 := Lib.hid hO4
          clear HW2
          go_wp2
          exact bodyPost_ret (v := .tuple #[.int .u8 0, .int .i64 0]) (by simp [results, Try.results18, go_sem]) rfl ⟨by rw [HR.out]; rfl, by rw [HL.out]; exact hO4.out⟩
        · have HR := Lib.hid (show c = 3 by rw [← HC.out]; unfold openR; rw [if_neg c1, if_neg c2, if_pos (.inr (by rw [hD]; exact c3))])
          have HL := Lib.hid (HM.out.2 (by rw [HR.out]; decide))
          have q3 : ((D : Int) != 1) = true := by simp; omega
          clear hO hs1 hs2 c1 c2 c3 hD
          go_wp2
          exact bodyPost_ret (v := .tuple #[.int .u8 3, .int .i64 0]) (by simp [results, Try.results18, go_sem]) rfl ⟨by rw [HR.out]; rfl, by rw [HL.out, set_same_view Hk.out]; exact hOP.out⟩

set_option maxRecDepth 100000 in
set_option maxHeartbeats 4000000 in
theorem CloseH (k g : Nat) (xs : List Nat) (L : List (Nat × Nat)) (i at_ : Int) (o ge mk gen : Nat) (ob : Bool) (w0 w : World) (Ps : List Pr) (h : Own w0 w Ps) (hk : Ps[k]? = some (viewP g xs L)) (hat : sessionV i = at_) (ha : 0 ≤ at_ ∧ at_ + 64 ≤ (xs.length : Int)) (hxl : xs.length ≤ 1000000) (ho : gotI xs L at_ = o) (hob : ((o : Int) == 1) = ob) (ho1 : o ≤ 1) (hge : gotI xs L (at_ + 1) = ge) (hmk : gotI xs L (at_ + 2) = mk) (hs1 : 1 ≤ gen) (hs2 : gen ≤ 1099511627776) (hge64 : ge < 18446744073709551616) (hmk64 : mk < 18446744073709551616) (L1 : List (Nat × Nat)) (hE : allE xs L [(at_, 0), (at_ + 1, ge), (at_ + 2, mk)] = 0) (hL1 : allL xs L [(at_, 0), (at_ + 1, ge), (at_ + 2, mk)] = L1) :
    Calls Try.prog 20 #[.pointer (some ⟨g, 0, none⟩), .int .i64 i, .int .u64 (gen : Int)] w fun e w' => e = .returned (.tuple #[.int .u8 (closeR ob ge gen : Int), .int .i64 0]) ∧ Own w0 w' (Ps.set k (viewP g xs (if closeR ob ge gen = 0 then L1 else L))) := by
  have hkl := (List.getElem?_eq_some_iff.1 hk).1
  have HH := Lib.hid (headG k g xs L i at_ o ge mk ob w0 _ _ h hk hat ha hxl ho hob ho1 hge hmk)
  have HI := Lib.hid (fun wx => isNumber_any gen wx)
  have hnb : numB gen = true := by unfold numB; rw [decide_eq_true hs1, decide_eq_true hs2]; rfl
  rw [hnb] at HI
  have HPT := Lib.hid (fun wx Qs (hO : Own w0 wx Qs) (hkq : Qs[k]? = some (viewP g xs L)) (u : Nat) (hu : u < 18446744073709551616) (m : Nat) (hm : m < 18446744073709551616) => PutTrue k g xs L i at_ u m w0 wx Qs hO hkq hat ha hxl hu hm)
  have HPF := Lib.hid (fun wx Qs (hO : Own w0 wx Qs) (hkq : Qs[k]? = some (viewP g xs L)) (u : Nat) (hu : u < 18446744073709551616) (m : Nat) (hm : m < 18446744073709551616) => PutFalse k g xs L i at_ u m w0 wx Qs hO hkq hat ha hxl hu hm)
  have HWp := Lib.hid (fun wx Qs M (hO : Own w0 wx Qs) (hkq : Qs[k]? = some (viewP g xs M)) => WipeH k g xs M i at_ w0 wx Qs hO hkq hat ha)
  have Hk := Lib.hid hk
  have Hkl := Lib.hid hkl
  have HEs := Lib.hid (And.intro hE hL1)
  have Hg64 := Lib.hid (And.intro hge64 hmk64)
  clear hnb h hk hkl hat ha hxl ho hob ho1 hge hmk hE hL1 hge64 hmk64 HPT HWp
  obtain ⟨c, hc⟩ : ∃ c, closeR ob ge gen = c := ⟨_, rfl⟩
  rw [hc]
  obtain ⟨M, hM⟩ : ∃ M, (if c = 0 then L1 else L) = M := ⟨_, rfl⟩
  rw [hM]
  have HC := Lib.hid hc
  have HM := Lib.hid (show (c = 0 → M = L1) ∧ (c ≠ 0 → M = L) from ⟨fun e => by rw [← hM, if_pos e], fun e => by rw [← hM, if_neg e]⟩)
  clear hc hM
  go_enter Try.func20, Try.ntmps20
  go_wp2_with fail
  refine (HI.out _).mono ?_
  rintro e w5 ⟨rfl, rfl⟩
  go_wp2_with fail
  refine HH.out.mono ?_
  rintro e w1 ⟨rfl, hO1⟩
  clear HH HI
  have hO := hO1.addBox 87 #[.bool ob, .int .u64 (ge : Int), .int .u64 (mk : Int)]
  obtain ⟨Y, HY⟩ : ∃ Y, Hid (Y = w1.heap.size) := ⟨_, Lib.hid rfl⟩
  have hYs : w1.heap.size = Y := HY.out.symm
  rw [hYs] at hO
  obtain ⟨w2, hw2⟩ : ∃ w2, w1.alloc (.cells #[.bool ob, .int .u64 (ge : Int), .int .u64 (mk : Int)] 87) = w2 := ⟨_, rfl⟩
  rw [hw2] at hO
  have hy : w2.heap[Y]? = some (.cells #[.bool ob, .int .u64 (ge : Int), .int .u64 (mk : Int)] 87 (0, 0)) := Own.box hO Ps.length (by rw [List.getElem?_append_right (Nat.le_refl _), Nat.sub_self]; rfl)
  have y0 : w2.cell? ⟨Y, 0, none⟩ = some (.bool ob) := by simp [World.cell?, hy]
  have y1 : w2.cell? ⟨Y, 1, none⟩ = some (.int .u64 (ge : Int)) := by simp [World.cell?, hy]
  have y2 : w2.cell? ⟨Y, 2, none⟩ = some (.int .u64 (mk : Int)) := by simp [World.cell?, hy]
  have yz : w2.frozen? ⟨Y, 0, none⟩ = false := by simp [World.frozen?, hy]
  have hOP := Lib.hid (show Own w0 w2 Ps from hO.less)
  by_cases c1 : gen < ge
  · have HR := Lib.hid (show c = 2 by rw [← HC.out]; unfold closeR; rw [if_pos c1])
    have HL := Lib.hid (HM.out.2 (by rw [HR.out]; decide))
    have q1 : (gen : Int) < (ge : Int) := by omega
    clear hO hs1 hs2 c1
    go_wp2
    exact bodyPost_ret (v := .tuple #[.int .u8 2, .int .i64 0]) (by simp [results, Try.results20, go_sem]) rfl ⟨by rw [HR.out]; rfl, by rw [HL.out, set_same_view Hk.out]; exact hOP.out⟩
  · have q1 : ¬ (gen : Int) < (ge : Int) := by omega
    by_cases c2 : ge < gen
    · have HR := Lib.hid (show c = 3 by rw [← HC.out]; unfold closeR; rw [if_neg c1, if_pos c2])
      have HL := Lib.hid (HM.out.2 (by rw [HR.out]; decide))
      have q2 : (ge : Int) < (gen : Int) := by omega
      clear hO hs1 hs2 c1 c2
      go_wp2
      exact bodyPost_ret (v := .tuple #[.int .u8 3, .int .i64 0]) (by simp [results, Try.results20, go_sem]) rfl ⟨by rw [HR.out]; rfl, by rw [HL.out, set_same_view Hk.out]; exact hOP.out⟩
    · have q2 : ¬ (ge : Int) < (gen : Int) := by omega
      cases ob with
      | false =>
        have HR := Lib.hid (show c = 1 by rw [← HC.out]; unfold closeR; rw [if_neg c1, if_neg c2, if_neg (by simp)])
        have HL := Lib.hid (HM.out.2 (by rw [HR.out]; decide))
        clear hO hs1 hs2 c1 c2
        go_wp2
        exact bodyPost_ret (v := .tuple #[.int .u8 1, .int .i64 0]) (by simp [results, Try.results20, go_sem]) rfl ⟨by rw [HR.out]; rfl, by rw [HL.out, set_same_view Hk.out]; exact hOP.out⟩
      | true =>
        have HR := Lib.hid (show c = 0 by rw [← HC.out]; unfold closeR; rw [if_neg c1, if_neg c2, if_pos rfl])
        have HL := Lib.hid (HM.out.1 HR.out)
        have hO9 := Lib.hid (show Own w0 (w2.setCell ⟨Y, 0, none⟩ (.bool false)) Ps from Own.forget (Qs := []) hO (grown_setCell w2 ⟨Y, 0, none⟩ _))
        have hy9 := heap_setCell_at (o := 0) hy (.bool false)
        obtain ⟨w9, hw9⟩ : ∃ w9, w2.setCell ⟨Y, 0, none⟩ (.bool false) = w9 := ⟨_, rfl⟩
        rw [hw9] at hO9 hy9
        have e0 : w9.cell? ⟨Y, 0, none⟩ = some (.bool false) := by simp [World.cell?, hy9]
        have e1 : w9.cell? ⟨Y, 1, none⟩ = some (.int .u64 (ge : Int)) := by simp [World.cell?, hy9]
        have e2 : w9.cell? ⟨Y, 2, none⟩ = some (.int .u64 (mk : Int)) := by simp [World.cell?, hy9]
        have HP := Lib.hid (HPF.out w9 Ps hO9.out Hk.out ge Hg64.out.1 mk Hg64.out.2)
        rw [HEs.out.1, HEs.out.2] at HP
        clear hO hs1 hs2 c1 c2 hOP HPF hy9
        go_wp2_with fail
        try rw [hw9]
        refine HP.out.mono ?_
        rintro e w3 ⟨rfl, hO3⟩
        have hO4 := Lib.hid hO3
        clear HP hO3
        go_wp2
        exact bodyPost_ret (v := .tuple #[.int .u8 0, .int .i64 0]) (by simp [results, Try.results20, go_sem]) rfl ⟨by rw [HR.out]; rfl, by rw [HL.out]; exact hO4.out⟩
end Go.Proofs.Ytdpkpphjpihhkaa
end
section
/- A session's words through opens and closes. -/
namespace Go.Proofs.Ytdpkpphjpihhkaa
open Go.RowKit Go.Grommet

theorem own_back {w0 w : World} {Qs Ps : List Pr} (h : Own w0 w (Qs ++ Ps)) : Own w0 w Ps := by
  obtain ⟨Fs, h1, h2, h3, h4⟩ := h
  refine ⟨fun j => Fs (Qs.length + j), fun k P hk => h1 _ P ?_, fun j k hj hk hne => h2 _ _ (by rw [List.length_append]; omega) (by rw [List.length_append]; omega) (by omega), fun k hk => h3 _ (by rw [List.length_append]; omega), h4⟩
  rw [List.getElem?_append_right (by omega), show Qs.length + k - Qs.length = k from by omega]; exact hk
theorem gotI_at {xs : List Nat} {L : List (Nat × Nat)} {p : Int} (n : Nat) (hp : p = (n : Int)) (hn : n < xs.length) : gotI xs L p = gotV xs L n := by
  subst hp; unfold gotI; rw [if_pos ⟨by omega, by omega⟩]; congr 1
def oB : Bool → Nat | true => 1 | false => 0
/-- What a view has of a session, and of the rest. -/
structure After (ys : List Nat) (L : List (Nat × Nat)) (A o G : Nat) : Prop where
  o : gotV ys L A = o
  g : gotV ys L (A + 1) = G
  z : ∀ j, A + 2 ≤ j → j < A + 64 → gotV ys L j = 0
  r : ∀ j, (j < A ∨ A + 64 ≤ j) → gotV ys L j = ys.getD j 0
structure Sess (ys : List Nat) (A o G : Nat) : Prop where
  len : ys.length = 536
  small : ∀ n ∈ ys, n < 18446744073709551616
  o : ys.getD A 0 = o
  g : ys.getD (A + 1) 0 = G
  z : ∀ j, A + 2 ≤ j → j < A + 64 → ys.getD j 0 = 0
theorem Sess.after {ys : List Nat} {A o G : Nat} (h : Sess ys A o G) : After ys [] A o G := ⟨h.o, h.g, h.z, fun _ _ => rfl⟩
theorem After.sess {ys : List Nat} {L : List (Nat × Nat)} {A o G : Nat} (h : After ys L A o G) (hl : ys.length = 536) (hs : ∀ n ∈ ys, n < 18446744073709551616) (hw : Wl ys.length L) (hA : A + 64 ≤ 536) : Sess (flatV ys L) A o G :=
  ⟨by rw [flatV_length, hl], flatV_small hs hw.val, by rw [Go.Grommet.flat_get hw A (by omega)]; exact h.o, by rw [Go.Grommet.flat_get hw (A + 1) (by omega)]; exact h.g, fun j h1 h2 => by rw [Go.Grommet.flat_get hw j (by omega)]; exact h.z j h1 h2⟩
theorem After.rest {ys : List Nat} {L : List (Nat × Nat)} {A o G : Nat} (h : After ys L A o G) (hl : ys.length = 536) (hw : Wl ys.length L) (j : Nat) (hj : j < 536) (ho : j < A ∨ A + 64 ≤ j) : (flatV ys L).getD j 0 = ys.getD j 0 := by
  rw [Go.Grommet.flat_get hw j (by omega)]; exact h.r j ho

theorem lk_three (p : Int) (a b c : Nat) (j : Nat) : lk [(p, a), (p + 1, b), (p + 2, c)] j = if p + 2 = (j : Int) then some c else if p + 1 = (j : Int) then some b else if p = (j : Int) then some a else none := by
  unfold lk lk lk lk
  by_cases h3 : p + 2 = (j : Int)
  · simp [h3]
  · by_cases h2 : p + 1 = (j : Int)
    · simp [h2, h3]
    · simp [h2, h3]
theorem got_three {ys : List Nat} (hl : ys.length = 536) (A a b c : Nat) (hA : A + 64 ≤ 536) :
    allE ys [] [((A : Int), a), ((A : Int) + 1, b), ((A : Int) + 2, c)] = 0 ∧ ∀ j : Nat, gotV ys (allL ys [] [((A : Int), a), ((A : Int) + 1, b), ((A : Int) + 2, c)]) j = if j = A + 2 then c else if j = A + 1 then b else if j = A then a else ys.getD j 0 := by
  obtain ⟨h1, h2⟩ := all_lk ys [((A : Int), a), ((A : Int) + 1, b), ((A : Int) + 2, c)] [] (by
    intro s hs
    rw [hl]
    simp only [List.mem_cons, List.not_mem_nil, or_false] at hs
    rcases hs with e | e | e <;> subst e <;> dsimp only <;> omega) (by simp)
  refine ⟨h1, fun j => ?_⟩
  rw [h2 j, lk_three]
  by_cases e2 : j = A + 2
  · rw [if_pos e2, if_pos (by omega)]; rfl
  · rw [if_neg e2, if_neg (by omega)]
    by_cases e1 : j = A + 1
    · rw [if_pos e1, if_pos (by omega)]; rfl
    · rw [if_neg e1, if_neg (by omega)]
      by_cases e0 : j = A
      · rw [if_pos e0, if_pos (by omega)]; rfl
      · rw [if_neg e0, if_neg (by omega)]; rfl
theorem wipe_area_all : ((List.range 4).all fun a => (wipeS (a : Int)).all fun s => decide ((8 + 64 * a + 8 : Nat) ≤ s.1) && decide (s.1 < (8 + 64 * a + 64 : Nat)) && s.2 == 0) = true := by kernel_rfl
theorem wipe_area {a : Nat} (ha : a < 4) : ∀ s ∈ wipeS (a : Int), ((8 + 64 * a + 8 : Nat) : Int) ≤ s.1 ∧ s.1 < ((8 + 64 * a + 64 : Nat) : Int) ∧ s.2 = 0 := by
  intro s hs
  have h1 := List.all_eq_true.1 wipe_area_all a (List.mem_range.2 ha)
  have h2 := List.all_eq_true.1 h1 s hs
  simp only [Bool.and_eq_true, decide_eq_true_eq, beq_iff_eq] at h2
  exact ⟨h2.1.1, h2.1.2, h2.2⟩
theorem open_after {ys : List Nat} {a A o G : Nat} (ha : a < 4) (hA : A = 8 + 64 * a) (h : Sess ys A o G) (g : Nat) :
    allE ys [] [((A : Int), 1), ((A : Int) + 1, g), ((A : Int) + 2, 0)] = 0 ∧ ∃ L1, allL ys [] [((A : Int), 1), ((A : Int) + 1, g), ((A : Int) + 2, 0)] = L1 ∧ allE ys L1 (wipeS (a : Int)) = 0 ∧ allL ys L1 (wipeS (a : Int)) = L1 ∧ After ys L1 A 1 g := by
  obtain ⟨h1, h2⟩ := got_three h.len A 1 g 0 (by omega)
  refine ⟨h1, _, rfl, ?_⟩
  generalize allL ys [] [((A : Int), 1), ((A : Int) + 1, g), ((A : Int) + 2, 0)] = L1 at h2
  have hAf : After ys L1 A 1 g := by
    refine ⟨?_, ?_, fun j j1 j2 => ?_, fun j hj => ?_⟩
    · rw [h2, if_neg (by omega), if_neg (by omega), if_pos rfl]
    · rw [h2, if_neg (by omega), if_pos rfl]
    · rw [h2]
      by_cases e : j = A + 2
      · rw [if_pos e]
      · rw [if_neg e, if_neg (by omega), if_neg (by omega)]; exact h.z j j1 j2
    · rw [h2, if_neg (by omega), if_neg (by omega), if_neg (by omega)]
  obtain ⟨w1, w2⟩ := all_same ys L1 (wipeS (a : Int)) (fun s hs => by
    have b := wipe_area ha s hs
    have z := b.2.2
    obtain ⟨n, hn⟩ := Int.eq_ofNat_of_zero_le (show 0 ≤ s.1 by omega)
    refine ⟨by omega, by rw [h.len]; omega, ?_⟩
    rw [gotI_at n hn (by rw [h.len]; omega), z]
    exact hAf.z n (by omega) (by omega))
  exact ⟨w1, w2, hAf⟩
theorem close_after {ys : List Nat} {A G : Nat} (hA : A + 64 ≤ 536) (h : Sess ys A 1 G) :
    allE ys [] [((A : Int), 0), ((A : Int) + 1, G), ((A : Int) + 2, 0)] = 0 ∧ ∃ L1, allL ys [] [((A : Int), 0), ((A : Int) + 1, G), ((A : Int) + 2, 0)] = L1 ∧ After ys L1 A 0 G := by
  obtain ⟨h1, h2⟩ := got_three h.len A 0 G 0 hA
  refine ⟨h1, _, rfl, ?_⟩
  generalize allL ys [] [((A : Int), 0), ((A : Int) + 1, G), ((A : Int) + 2, 0)] = L1 at h2
  refine ⟨?_, ?_, fun j j1 j2 => ?_, fun j hj => ?_⟩
  · rw [h2, if_neg (by omega), if_neg (by omega), if_pos rfl]
  · rw [h2, if_neg (by omega), if_pos rfl]
  · rw [h2]
    by_cases e : j = A + 2
    · rw [if_pos e]
    · rw [if_neg e, if_neg (by omega), if_neg (by omega)]; exact h.z j j1 j2
  · rw [h2, if_neg (by omega), if_neg (by omega), if_neg (by omega)]

theorem sess_at {a A : Nat} (ha : a < 4) (hA : A = 8 + 64 * a) : sessionV (a : Int) = (A : Int) := by unfold sessionV; rw [if_pos ⟨by omega, by omega⟩, hA]; omega

theorem OfOpen (k g : Nat) (xs : List Nat) (L : List (Nat × Nat)) (a A ge : Nat) (ha : a < 4) (hA : A = 8 + 64 * a) (hxl : xs.length = 536) (hf : After xs L A 1 ge) (w0 w : World) (Ps : List Pr) (h : Own w0 w Ps) (hk : Ps[k]? = some (viewP g xs L)) :
    Calls Try.prog 14 #[.pointer (some ⟨g, 0, none⟩), .int .i64 (a : Int), .int .u64 (ge : Int), .int .u64 1] w fun e w' => (∃ (ra rb : Nat) (dd : ByteArray), e = .returned (.tuple #[.int .u8 0, .agg #[.int .i64 0, .int .u64 (ra : Int), .int .u64 (rb : Int), .string dd], .int .i64 0])) ∧ Own w0 w' Ps := by
  have hat := sess_at ha hA
  have hsl : slotV (a : Int) ((1 % 4 : Nat) : Int) = ((A + 20 : Nat) : Int) := by unfold slotV; rw [if_pos ⟨⟨by omega, by omega⟩, by omega, by omega⟩]; omega
  refine (OfH k g xs L (a : Int) (A : Int) ge 0 1 w0 w Ps h hk hat (by rw [hxl]; omega) (by rw [hxl]; decide) (by rw [gotI_at A rfl (by omega)]; exact hf.o) (by rw [gotI_at (A + 1) (by omega) (by omega)]; exact hf.g) (by rw [gotI_at (A + 2) (by omega) (by omega)]; exact hf.z _ (by omega) (by omega)) (by decide) (by decide) 0 (fun wx Qs hO hq => ?_)).mono ?_
  · refine (LoadZero k g xs L (a : Int) _ (A : Int) ((A + 20 : Nat) : Int) w0 wx Qs hO hq hat (by rw [hxl]; omega) hsl (by omega) (by rw [gotI_at (A + 20) rfl (by omega)]; exact hf.z _ (by omega) (by omega))).mono ?_
    rintro e w' ⟨rfl, h⟩
    exact ⟨0, 0, ⟨#[]⟩, rfl, h⟩
  · rintro e w' ⟨⟨ra, rb, dd, rfl⟩, h⟩
    exact ⟨⟨ra, rb, dd, rfl⟩, h⟩
theorem OfClose (k g : Nat) (xs : List Nat) (L : List (Nat × Nat)) (a A ge : Nat) (ha : a < 4) (hA : A = 8 + 64 * a) (hxl : xs.length = 536) (hf : After xs L A 0 ge) (w0 w : World) (Ps : List Pr) (h : Own w0 w Ps) (hk : Ps[k]? = some (viewP g xs L)) (gen : Nat) :
    Calls Try.prog 14 #[.pointer (some ⟨g, 0, none⟩), .int .i64 (a : Int), .int .u64 (gen : Int), .int .u64 1] w fun e w' => e = .returned (.tuple #[.int .u8 0, .agg #[.int .i64 0, .int .u64 0, .int .u64 0, .string ⟨#[]⟩], .int .i64 22]) ∧ Own w0 w' Ps :=
  OfShut k g xs L (a : Int) (A : Int) ge 0 1 w0 w Ps h hk (sess_at ha hA) (by rw [hxl]; omega) (by rw [hxl]; decide) (by rw [gotI_at A rfl (by omega)]; exact hf.o) (by rw [gotI_at (A + 1) (by omega) (by omega)]; exact hf.g) (by rw [gotI_at (A + 2) (by omega) (by omega)]; exact hf.z _ (by omega) (by omega)) (by decide) (by decide) gen
theorem oB_eq (ob : Bool) : ((oB ob : Int) == 1) = ob := by cases ob <;> rfl
theorem oB_le (ob : Bool) : oB ob ≤ 1 := by cases ob <;> decide

theorem OpenOld (k g : Nat) (ys : List Nat) (a A G gg : Nat) (ob : Bool) (ha : a < 4) (hA : A = 8 + 64 * a) (hs : Sess ys A (oB ob) G) (h1 : 1 ≤ gg) (h2 : gg ≤ 6) (c : Nat) (hc : openR ob G gg = c) (hne : c ≠ 0) (w0 w : World) (Ps : List Pr) (h : Own w0 w Ps) (hk : Ps[k]? = some (viewP g ys [])) :
    Calls Try.prog 18 #[.pointer (some ⟨g, 0, none⟩), .int .i64 (a : Int), .int .u64 (gg : Int)] w fun e w' => e = .returned (.tuple #[.int .u8 (c : Int), .int .i64 0]) ∧ Own w0 w' Ps := by
  obtain ⟨e1, L1, e2, e3, e4, e5⟩ := open_after ha hA hs gg
  have hf := hs.after
  have hxl := hs.len
  refine (OpenH k g ys [] (a : Int) (A : Int) (oB ob) G 0 gg ob w0 w Ps h hk (sess_at ha hA) (by rw [hxl]; omega) (by rw [hxl]; decide) (by rw [gotI_at A rfl (by omega)]; exact hf.o) (oB_eq ob) (oB_le ob) (by rw [gotI_at (A + 1) (by omega) (by omega)]; exact hf.g) (by rw [gotI_at (A + 2) (by omega) (by omega)]; exact hf.z _ (by omega) (by omega)) h1 (by omega) (by omega) L1 e1 e2 e3 e4).mono ?_
  rintro e w' ⟨rfl, hO⟩
  rw [hc, if_neg hne, set_same_view hk] at hO
  exact ⟨by rw [hc], hO⟩
theorem OpenNew (k g : Nat) (ys : List Nat) (a A G gg : Nat) (ob : Bool) (ha : a < 4) (hA : A = 8 + 64 * a) (hs : Sess ys A (oB ob) G) (h1 : 1 ≤ gg) (h2 : gg ≤ 6) (hc : openR ob G gg = 0) (w0 w : World) (Ps : List Pr) (h : Own w0 w Ps) (hk : Ps[k]? = some (viewP g ys [])) :
    Calls Try.prog 18 #[.pointer (some ⟨g, 0, none⟩), .int .i64 (a : Int), .int .u64 (gg : Int)] w fun e w' => ∃ L, e = .returned (.tuple #[.int .u8 0, .int .i64 0]) ∧ Own w0 w' (Ps.set k (viewP g ys L)) ∧ Hid (After ys L A 1 gg) := by
  obtain ⟨e1, L1, e2, e3, e4, e5⟩ := open_after ha hA hs gg
  have hf := hs.after
  have hxl := hs.len
  refine (OpenH k g ys [] (a : Int) (A : Int) (oB ob) G 0 gg ob w0 w Ps h hk (sess_at ha hA) (by rw [hxl]; omega) (by rw [hxl]; decide) (by rw [gotI_at A rfl (by omega)]; exact hf.o) (oB_eq ob) (oB_le ob) (by rw [gotI_at (A + 1) (by omega) (by omega)]; exact hf.g) (by rw [gotI_at (A + 2) (by omega) (by omega)]; exact hf.z _ (by omega) (by omega)) h1 (by omega) (by omega) L1 e1 e2 e3 e4).mono ?_
  rintro e w' ⟨rfl, hO⟩
  rw [hc, if_pos rfl] at hO
  exact ⟨L1, by rw [hc]; rfl, hO, Lib.hid e5⟩
theorem CloseOld (k g : Nat) (ys : List Nat) (a A G gg : Nat) (ob : Bool) (ha : a < 4) (hA : A = 8 + 64 * a) (hs : Sess ys A (oB ob) G) (h1 : 1 ≤ gg) (h2 : gg ≤ 6) (hG : G ≤ 6) (c : Nat) (hc : closeR ob G gg = c) (hne : c ≠ 0) (w0 w : World) (Ps : List Pr) (h : Own w0 w Ps) (hk : Ps[k]? = some (viewP g ys [])) :
    Calls Try.prog 20 #[.pointer (some ⟨g, 0, none⟩), .int .i64 (a : Int), .int .u64 (gg : Int)] w fun e w' => e = .returned (.tuple #[.int .u8 (c : Int), .int .i64 0]) ∧ Own w0 w' Ps := by
  obtain ⟨e1, e2⟩ := got_three hs.len A 0 G 0 (by omega)
  have hf := hs.after
  have hxl := hs.len
  refine (CloseH k g ys [] (a : Int) (A : Int) (oB ob) G 0 gg ob w0 w Ps h hk (sess_at ha hA) (by rw [hxl]; omega) (by rw [hxl]; decide) (by rw [gotI_at A rfl (by omega)]; exact hf.o) (oB_eq ob) (oB_le ob) (by rw [gotI_at (A + 1) (by omega) (by omega)]; exact hf.g) (by rw [gotI_at (A + 2) (by omega) (by omega)]; exact hf.z _ (by omega) (by omega)) h1 (by omega) (by omega) (by omega) _ e1 rfl).mono ?_
  rintro e w' ⟨rfl, hO⟩
  rw [hc, if_neg hne, set_same_view hk] at hO
  exact ⟨by rw [hc], hO⟩
theorem CloseNew (k g : Nat) (ys : List Nat) (a A G gg : Nat) (ha : a < 4) (hA : A = 8 + 64 * a) (hs : Sess ys A 1 G) (h1 : 1 ≤ gg) (h2 : gg ≤ 6) (hG : G ≤ 6) (hc : closeR true G gg = 0) (w0 w : World) (Ps : List Pr) (h : Own w0 w Ps) (hk : Ps[k]? = some (viewP g ys [])) :
    Calls Try.prog 20 #[.pointer (some ⟨g, 0, none⟩), .int .i64 (a : Int), .int .u64 (gg : Int)] w fun e w' => ∃ L, e = .returned (.tuple #[.int .u8 0, .int .i64 0]) ∧ Own w0 w' (Ps.set k (viewP g ys L)) ∧ Hid (After ys L A 0 G) := by
  obtain ⟨e1, L1, e2, e5⟩ := close_after (by omega) hs
  have hf := hs.after
  have hxl := hs.len
  refine (CloseH k g ys [] (a : Int) (A : Int) 1 G 0 gg true w0 w Ps h hk (sess_at ha hA) (by rw [hxl]; omega) (by rw [hxl]; decide) (by rw [gotI_at A rfl (by omega)]; exact hf.o) rfl (by decide) (by rw [gotI_at (A + 1) (by omega) (by omega)]; exact hf.g) (by rw [gotI_at (A + 2) (by omega) (by omega)]; exact hf.z _ (by omega) (by omega)) h1 (by omega) (by omega) (by omega) L1 e1 e2).mono ?_
  rintro e w' ⟨rfl, hO⟩
  rw [hc, if_pos rfl] at hO
  exact ⟨L1, by rw [hc]; rfl, hO, Lib.hid e5⟩
end Go.Proofs.Ytdpkpphjpihhkaa
end
section
/- Package class: numbers acknowledged. -/
namespace Go.Proofs.Ytdpkpphjpihhkaa
open Go.RowKit Go.Grommet

theorem own_store_box {w0 w : World} {Ps : List Pr} (h : Own w0 w Ps) (k : Nat) {X : Nat} {T : TypeId} {cs : Array Value} (hk : Ps[k]? = some (boxP X T cs)) (o : Nat) (u : Value) : Own w0 (w.setCell ⟨X, o, none⟩ u) (Ps.set k (boxP X T (cs.setIfInBounds o u))) := by
  obtain ⟨F, h1, h2⟩ := h.take k hk
  exact h2 _ _ ⟨F, ⟨heap_setCell_at h1.1 u, h1.2.1, fun i hi => Nat.lt_of_lt_of_le (h1.2.2 i hi) (by simp [World.setCell])⟩, fun i hi => .inl hi, Turn.of (grown_setCell _ _ _) (fun i e => by cases e; exact h1.2.1)⟩
/-- How far a mark rises. -/
def ackM (S : Nat → Nat) : Nat → Nat → Nat
  | 0, m => m
  | f + 1, m => if S ((m + 1) % 4) = m + 1 then ackM S f (m + 1) else m
theorem ackM_le (S : Nat → Nat) : ∀ f m, ackM S f m ≤ m + f
  | 0, m => Nat.le_refl _
  | f + 1, m => by
    unfold ackM
    split
    · have := ackM_le S f (m + 1); omega
    · omega

set_option maxRecDepth 100000 in
set_option maxHeartbeats 4000000 in
theorem AckH (k g : Nat) (xs : List Nat) (L : List (Nat × Nat)) (a A gen mk to : Nat) (ha : a < 4) (hA : A = 8 + 64 * a) (hxl : xs.length = 536) (ho : gotV xs L A = 1) (hg : gotV xs L (A + 1) = gen) (hm : gotV xs L (A + 2) = mk) (hto : to ≤ 1099511627776) (hmk : mk ≤ 1099511627776) (hgen : gen < 18446744073709551616) (w0 w : World) (Ps : List Pr) (h : Own w0 w Ps) (hk : Ps[k]? = some (viewP g xs L)) (S : Nat → Nat)
    (HLd : ∀ kk : Nat, kk < 4 → ∀ wx Qs, Own w0 wx Qs → Qs[k]? = some (viewP g xs L) → Calls Try.prog 37 #[.pointer (some ⟨g, 0, none⟩), .int .i64 (a : Int), .int .i64 (kk : Int)] wx fun e w' => ∃ (en ra rb : Nat) (dd : ByteArray), e = .returned (.tuple #[.int .u64 (S kk : Int), .agg #[.int .i64 (en : Int), .int .u64 (ra : Int), .int .u64 (rb : Int), .string dd], .int .i64 0]) ∧ Own w0 w' Qs)
    (R : Nat) (hR : ackM S (to - mk) mk = R) (L1 : List (Nat × Nat)) (hE : allE xs L [((A : Int), 1), ((A : Int) + 1, gen), ((A : Int) + 2, R)] = 0) (hL1 : allL xs L [((A : Int), 1), ((A : Int) + 1, gen), ((A : Int) + 2, R)] = L1) :
    Calls Try.prog 16 #[.pointer (some ⟨g, 0, none⟩), .int .i64 (a : Int), .int .u64 (gen : Int), .int .u64 (to : Int)] w fun e w' => e = .returned (.tuple #[.int .u64 (R : Int), .int .i64 0]) ∧ Own w0 w' (Ps.set k (viewP g xs L1)) := by
  have hkl := (List.getElem?_eq_some_iff.1 hk).1
  have hat := sess_at ha hA
  have hat2 : (0 : Int) ≤ (A : Int) ∧ (A : Int) + 64 ≤ (xs.length : Int) := by rw [hxl]; omega
  have hxb : xs.length ≤ 1000000 := by rw [hxl]; decide
  have HH := Lib.hid (headH k g xs L (a : Int) (A : Int) gen mk w0 _ _ h hk hat hat2 hxb (by rw [gotI_at A rfl (by omega)]; exact ho) (by rw [gotI_at (A + 1) (by omega) (by omega)]; exact hg) (by rw [gotI_at (A + 2) (by omega) (by omega)]; exact hm))
  have HRl := Lib.hid (show R ≤ 1099511627776 by have := ackM_le S (to - mk) mk; omega)
  have HPT := Lib.hid (fun wx Qs (hO : Own w0 wx Qs) (hkq : Qs[k]? = some (viewP g xs L)) => PutTrue k g xs L (a : Int) (A : Int) gen R w0 wx Qs hO hkq hat hat2 hxb hgen (by have := HRl.out; omega))
  rw [hE, hL1] at HPT
  have HSl := Lib.hid (fun n wx => slotOf_any n wx)
  have HL := Lib.hid HLd
  have Hk := Lib.hid (show ∀ Rs, (Ps ++ Rs)[k]? = some (viewP g xs L) from fun Rs => by rw [List.getElem?_append_left hkl]; exact hk)
  have Hkl := Lib.hid hkl
  have HR := Lib.hid hR
  have Hmk := Lib.hid hmk
  have Hto := Lib.hid hto
  have t1 : (to : Int) ≤ 1099511627776 := by omega
  clear HLd h hk hkl hat hat2 hxb hxl ho hg hm hgen hE hL1 ha hA hR hmk hto
  go_enter Try.func16, Try.ntmps16
  go_wp2_with fail
  refine HH.out.mono ?_
  rintro e w1 ⟨rfl, hO⟩
  clear HH
  have hO := hO.addBox 87 #[.bool true, .int .u64 (gen : Int), .int .u64 (mk : Int)]
  obtain ⟨Y, HY⟩ : ∃ Y, Hid (Y = w1.heap.size) := ⟨_, Lib.hid rfl⟩
  have hYs : w1.heap.size = Y := HY.out.symm
  rw [hYs] at hO
  obtain ⟨w2, hw2⟩ : ∃ w2, w1.alloc (.cells #[.bool true, .int .u64 (gen : Int), .int .u64 (mk : Int)] 87) = w2 := ⟨_, rfl⟩
  rw [hw2] at hO
  have HP := Lib.hid (show (Ps ++ [boxP Y 87 #[.bool true, .int .u64 (gen : Int), .int .u64 (mk : Int)]])[Ps.length]? = some (boxP Y 87 #[.bool true, .int .u64 (gen : Int), .int .u64 (mk : Int)]) by rw [List.getElem?_append_right (Nat.le_refl _), Nat.sub_self]; rfl)
  have hy : w2.heap[Y]? = some (.cells #[.bool true, .int .u64 (gen : Int), .int .u64 (mk : Int)] 87 (0, 0)) := Own.box hO _ HP.out
  have y0 : w2.cell? ⟨Y, 0, none⟩ = some (.bool true) := by simp [World.cell?, hy]
  have y1 : w2.cell? ⟨Y, 1, none⟩ = some (.int .u64 (gen : Int)) := by simp [World.cell?, hy]
  have y2 : w2.cell? ⟨Y, 2, none⟩ = some (.int .u64 (mk : Int)) := by simp [World.cell?, hy]
  have qg : ((gen : Int) != (gen : Int)) = false := by simp
  clear hy HP
  replace hO := Lib.hid hO
  go_wp2_with fail
  try rw [hw2]
  go_loopg [] (to - mk) (fun f wr => ∃ m : Nat, Hid (f = to - m) ∧ Hid (ackM S f m = R) ∧ Hid (m ≤ 1099511627776) ∧ Hid (Own w0 wr (Ps ++ [boxP Y 87 #[.bool true, .int .u64 (gen : Int), .int .u64 (m : Int)]])))
  case atStart => exact ⟨mk, Lib.hid rfl, HR, Hmk, hO⟩
  case round =>
    clear hO y0 y1 y2 hYs hw2
    obtain ⟨m, Hf, HM, Hm, hO⟩ := hrel
    have hb : wr.heap[Y]? = some (.cells #[.bool true, .int .u64 (gen : Int), .int .u64 (m : Int)] 87 (0, 0)) := Own.box hO.out Ps.length (by rw [List.getElem?_append_right (Nat.le_refl _), Nat.sub_self]; rfl)
    have y0 : wr.cell? ⟨Y, 0, none⟩ = some (.bool true) := by simp [World.cell?, hb]
    have y1 : wr.cell? ⟨Y, 1, none⟩ = some (.int .u64 (gen : Int)) := by simp [World.cell?, hb]
    have y2 : wr.cell? ⟨Y, 2, none⟩ = some (.int .u64 (m : Int)) := by simp [World.cell?, hb]
    by_cases hlt : m < to
    · have l1 : (m : Int) < (to : Int) := by omega
      obtain ⟨f, hf⟩ : ∃ f, to - m = f + 1 := ⟨to - m - 1, by omega⟩
      have hf2 : f = to - (m + 1) := by omega
      obtain ⟨M, hM⟩ : ∃ M, m + 1 = M := ⟨_, rfl⟩
      have em : (m : Int) + 1 = (M : Int) := by omega
      have wM : IntKind.u64.wrap (M : Int) = (M : Int) := IntWalk.u64_in _ ⟨by omega, by have := Hm.out; omega⟩
      have HSm := Lib.hid (fun wx => HSl.out M wx)
      have HLm := Lib.hid (fun wx hOx => HL.out (M % 4) (Nat.mod_lt _ (by decide)) wx (Ps ++ [boxP Y 87 #[.bool true, .int .u64 (gen : Int), .int .u64 (m : Int)]]) hOx (Hk.out _))
      have Hstep := Lib.hid (show (S (M % 4) = M → ackM S f M = R) ∧ (S (M % 4) ≠ M → m = R) by
        have e := HM.out
        rw [Hf.out, hf] at e
        unfold ackM at e
        rw [hM] at e
        exact ⟨fun h => by rw [if_pos h] at e; exact e, fun h => by rw [if_neg h] at e; exact e⟩)
      have Hfl := Lib.hid (show f = to - M ∧ f < gk ∧ M ≤ 1099511627776 by have := Hf.out; have := Hto.out; omega)
      clear hf hf2 hM hlt HM Hf hb
      go_wp2_with fail
      refine (HSm.out _).mono ?_
      rintro e w3 ⟨rfl, rfl⟩
      go_wp2_with fail
      refine (HLm.out _ hO.out).mono ?_
      rintro e w3 ⟨en, ra, rb, dd, rfl, hO3⟩
      clear HLm HSm y0 y1 y2
      have hO4 := hO3.quiet (World.grownBy_alloc w3 (.cells #[.int .i64 (en : Int), .int .u64 (ra : Int), .int .u64 (rb : Int), .string dd] 39) none)
      obtain ⟨w4, hw4⟩ : ∃ w4, w3.alloc (.cells #[.int .i64 (en : Int), .int .u64 (ra : Int), .int .u64 (rb : Int), .string dd] 39) = w4 := ⟨_, rfl⟩
      rw [hw4] at hO4
      have HPk := Lib.hid (show (Ps ++ [boxP Y 87 #[.bool true, .int .u64 (gen : Int), .int .u64 (m : Int)]])[Ps.length]? = some (boxP Y 87 #[.bool true, .int .u64 (gen : Int), .int .u64 (m : Int)]) by rw [List.getElem?_append_right (Nat.le_refl _), Nat.sub_self]; rfl)
      have hb : w4.heap[Y]? = some (.cells #[.bool true, .int .u64 (gen : Int), .int .u64 (m : Int)] 87 (0, 0)) := Own.box hO4 Ps.length HPk.out
      have y0 : w4.cell? ⟨Y, 0, none⟩ = some (.bool true) := by simp [World.cell?, hb]
      have y1 : w4.cell? ⟨Y, 1, none⟩ = some (.int .u64 (gen : Int)) := by simp [World.cell?, hb]
      have y2 : w4.cell? ⟨Y, 2, none⟩ = some (.int .u64 (m : Int)) := by simp [World.cell?, hb]
      have yf : w4.frozen? ⟨Y, 2, none⟩ = false := by simp [World.frozen?, hb]
      clear hb hO3 hO
      obtain ⟨sv, hsv⟩ : ∃ sv, S (M % 4) = sv := ⟨_, rfl⟩
      rw [hsv] at Hstep ⊢
      by_cases c : sv = M
      · have qc : ((sv : Int) != (M : Int)) = false := by rw [c]; simp
        have HN := Lib.hid (Hstep.out.1 c)
        have hO5 : Hid (Own w0 (w4.setCell ⟨Y, 2, none⟩ (.int .u64 (M : Int))) (Ps ++ [boxP Y 87 #[.bool true, .int .u64 (gen : Int), .int .u64 (M : Int)]])) := Lib.hid (by
          have := own_store_box hO4 Ps.length HPk.out 2 (.int .u64 (M : Int))
          rw [List.set_append_right _ _ (Nat.le_refl _), Nat.sub_self] at this
          exact this)
        clear c hO4 Hstep hsv
        go_wp2_with fail
        try rw [hw4]
        go_wp2
        go_roundg f
        case measure => exact Hfl.out.2.1
        case rel => exact ⟨M, Lib.hid Hfl.out.1, HN, Lib.hid Hfl.out.2.2, hO5⟩
      · have qc : ((sv : Int) != (M : Int)) = true := by simp; omega
        have hmR : m = R := Hstep.out.2 c
        subst hmR
        have HPc := Lib.hid (HPT.out w4 _ hO4 (Hk.out _))
        rw [List.set_append_left _ _ Hkl.out] at HPc
        clear c hO4 Hstep hsv
        go_wp2_with fail
        try rw [hw4]
        refine HPc.out.mono ?_
        rintro e w6 ⟨rfl, hO6⟩
        have hb : w6.heap[Y]? = some (.cells #[.bool true, .int .u64 (gen : Int), .int .u64 (m : Int)] 87 (0, 0)) := Own.box hO6 Ps.length (by rw [List.getElem?_append_right (by rw [List.length_set]; exact Nat.le_refl _), List.length_set, Nat.sub_self]; rfl)
        have y2 : w6.cell? ⟨Y, 2, none⟩ = some (.int .u64 (m : Int)) := by simp [World.cell?, hb]
        have hO7 := Lib.hid hO6.less
        clear hb hO6 HPc
        go_wp2
        exact bodyPost_ret (v := .tuple #[.int .u64 (m : Int), .int .i64 0]) (by simp [results, Try.results16, go_sem]) rfl ⟨rfl, hO7.out⟩
    · have l1 : ¬ (m : Int) < (to : Int) := by omega
      have hmR : m = R := by
        have e := HM.out
        rw [Hf.out, show to - m = 0 by omega] at e
        exact e
      subst hmR
      have HPc := Lib.hid (HPT.out wr _ hO.out (Hk.out _))
      rw [List.set_append_left _ _ Hkl.out] at HPc
      clear hlt hO HM Hf hb
      go_wp2_with fail
      refine HPc.out.mono ?_
      rintro e w6 ⟨rfl, hO6⟩
      have hb : w6.heap[Y]? = some (.cells #[.bool true, .int .u64 (gen : Int), .int .u64 (m : Int)] 87 (0, 0)) := Own.box hO6 Ps.length (by rw [List.getElem?_append_right (by rw [List.length_set]; exact Nat.le_refl _), List.length_set, Nat.sub_self]; rfl)
      have y2 : w6.cell? ⟨Y, 2, none⟩ = some (.int .u64 (m : Int)) := by simp [World.cell?, hb]
      have hO7 := Lib.hid hO6.less
      clear hb hO6 HPc
      go_wp2
      exact bodyPost_ret (v := .tuple #[.int .u64 (m : Int), .int .i64 0]) (by simp [results, Try.results16, go_sem]) rfl ⟨rfl, hO7.out⟩
end Go.Proofs.Ytdpkpphjpihhkaa
end
section
/- Package class: what Of hands back. -/
namespace Go.Proofs.Ytdpkpphjpihhkaa
open Go.RowKit Go.Grommet

set_option maxRecDepth 100000 in
set_option maxHeartbeats 4000000 in
theorem OfX (k g : Nat) (xs : List Nat) (L : List (Nat × Nat)) (i at_ : Int) (ge mk seq : Nat) (w0 w : World) (Ps : List Pr) (h : Own w0 w Ps) (hk : Ps[k]? = some (viewP g xs L)) (hat : sessionV i = at_) (ha : 0 ≤ at_ ∧ at_ + 64 ≤ (xs.length : Int)) (hxl : xs.length ≤ 1000000) (ho : gotI xs L at_ = 1) (hge : gotI xs L (at_ + 1) = ge) (hmk : gotI xs L (at_ + 2) = mk) (hs1 : 1 ≤ seq) (hs2 : seq ≤ 1099511627776) (S en ra rb pe pa pb : Nat) (dd pd : ByteArray) (hP : (OfR mk seq S = 1 → pe = en ∧ pa = ra ∧ pb = rb ∧ pd = dd) ∧ (OfR mk seq S ≠ 1 → pe = 0 ∧ pa = 0 ∧ pb = 0 ∧ pd = ⟨#[]⟩))
    (HLd : ∀ wx Qs, Own w0 wx Qs → Qs[k]? = some (viewP g xs L) → Calls Try.prog 37 #[.pointer (some ⟨g, 0, none⟩), .int .i64 i, .int .i64 ((seq % 4 : Nat) : Int)] wx fun e w' => e = .returned (.tuple #[.int .u64 (S : Int), .agg #[.int .i64 (en : Int), .int .u64 (ra : Int), .int .u64 (rb : Int), .string dd], .int .i64 0]) ∧ Own w0 w' Qs) :
    Calls Try.prog 14 #[.pointer (some ⟨g, 0, none⟩), .int .i64 i, .int .u64 (ge : Int), .int .u64 (seq : Int)] w fun e w' => e = .returned (.tuple #[.int .u8 (OfR mk seq S : Int), .agg #[.int .i64 (pe : Int), .int .u64 (pa : Int), .int .u64 (pb : Int), .string pd], .int .i64 0]) ∧ Own w0 w' Ps := by
  have hgg : ((ge : Int) != (ge : Int)) = false := by simp
  have HSl := Lib.hid (fun wx => slotOf_any seq wx)
  have HP := Lib.hid hP
  clear hP
  have HL := Lib.hid HLd
  clear HLd
  have hkl := (List.getElem?_eq_some_iff.1 hk).1
  obtain ⟨X, HX⟩ : ∃ X, Hid (X = w.heap.size) := ⟨_, Lib.hid rfl⟩
  have hO : Own w0 (w.alloc (.cells #[.int .i64 0, .int .u64 0, .int .u64 0, .string ⟨#[]⟩] 39)) (Ps ++ [boxP X 39 #[.int .i64 0, .int .u64 0, .int .u64 0, .string ⟨#[]⟩]]) := by rw [HX.out]; exact h.addBox _ _
  have hkk : ∀ Rs, (Ps ++ Rs)[k]? = some (viewP g xs L) := fun Rs => by rw [List.getElem?_append_left hkl]; exact hk
  have HH := Lib.hid (headH k g xs L i at_ ge mk w0 _ _ hO (hkk _) hat ha hxl ho hge hmk)
  have HI := Lib.hid (fun wx => isNumber_any seq wx)
  have hnb : numB seq = true := by unfold numB; rw [decide_eq_true hs1, decide_eq_true hs2]; rfl
  rw [hnb] at HI
  have Hkk := Lib.hid hkk
  clear hnb hO h hk hkl hkk hat ha hxl ho hge hmk
  go_enter Try.func14, Try.ntmps14
  go_wp2_with fail
  rw [← HX.out]
  refine (HI.out _).mono ?_
  rintro e w5 ⟨rfl, rfl⟩
  go_wp2_with fail
  refine HH.out.mono ?_
  rintro e w1 ⟨rfl, hO⟩
  clear HH HI
  have hO := hO.addBox 87 #[.bool true, .int .u64 (ge : Int), .int .u64 (mk : Int)]
  obtain ⟨Y, HY⟩ : ∃ Y, Hid (Y = w1.heap.size) := ⟨_, Lib.hid rfl⟩
  have hYs : w1.heap.size = Y := HY.out.symm
  rw [hYs] at hO
  rw [List.append_assoc] at hO
  have hO : Own w0 (w1.alloc (.cells #[.bool true, .int .u64 (ge : Int), .int .u64 (mk : Int)] 87)) (Ps ++ boxP X 39 #[.int .i64 0, .int .u64 0, .int .u64 0, .string ⟨#[]⟩] :: [boxP Y 87 #[.bool true, .int .u64 (ge : Int), .int .u64 (mk : Int)]]) := hO
  obtain ⟨w2, hw2⟩ : ∃ w2, w1.alloc (.cells #[.bool true, .int .u64 (ge : Int), .int .u64 (mk : Int)] 87) = w2 := ⟨_, rfl⟩
  rw [hw2] at hO
  have hy : w2.heap[Y]? = some (.cells #[.bool true, .int .u64 (ge : Int), .int .u64 (mk : Int)] 87 (0, 0)) := Own.box hO (Ps.length + 1) (by rw [List.getElem?_append_right (by omega), show Ps.length + 1 - Ps.length = 1 from by omega]; rfl)
  have y0 : w2.cell? ⟨Y, 0, none⟩ = some (.bool true) := by simp [World.cell?, hy]
  have y1 : w2.cell? ⟨Y, 1, none⟩ = some (.int .u64 (ge : Int)) := by simp [World.cell?, hy]
  have y2 : w2.cell? ⟨Y, 2, none⟩ = some (.int .u64 (mk : Int)) := by simp [World.cell?, hy]
  clear hy
  by_cases c1 : seq ≤ mk
  · have HR := Lib.hid (show OfR mk seq S = 2 by unfold OfR; rw [if_pos c1])
    have l1 : (seq : Int) ≤ (mk : Int) := by omega
    clear c1 hs1 hs2
    have hz : w2.heap[X]? = some (.cells #[.int .i64 0, .int .u64 0, .int .u64 0, .string ⟨#[]⟩] 39 (0, 0)) := Own.box hO Ps.length (by rw [List.getElem?_append_right (Nat.le_refl _), Nat.sub_self]; rfl)
    have Hq : Hid (∀ w6 : World, w2.grownBy w6 (some X) → Own w0 w6 Ps) := Lib.hid (fun w6 hg => Own.forget (Qs := [_]) hO hg)
    clear hO
    have m0 : w2.cell? ⟨X, 0, none⟩ = some (.int .i64 0) := by simp [World.cell?, hz]
    have q0 : w2.frozen? ⟨X, 0, none⟩ = false := by simp [World.frozen?, hz]
    have m1 : w2.cell? ⟨X, 1, none⟩ = some (.int .u64 0) := by simp [World.cell?, hz]
    have q1 : w2.frozen? ⟨X, 1, none⟩ = false := by simp [World.frozen?, hz]
    have m2 : w2.cell? ⟨X, 2, none⟩ = some (.int .u64 0) := by simp [World.cell?, hz]
    have q2 : w2.frozen? ⟨X, 2, none⟩ = false := by simp [World.frozen?, hz]
    have m3 : w2.cell? ⟨X, 3, none⟩ = some (.string ⟨#[]⟩) := by simp [World.cell?, hz]
    have q3 : w2.frozen? ⟨X, 3, none⟩ = false := by simp [World.frozen?, hz]
    have hz1 := heap_setCell_at (o := 0) hz (.int .i64 0)
    have hz2 := heap_setCell_at (o := 1) hz1 (.int .u64 0)
    have hz3 := heap_setCell_at (o := 2) hz2 (.int .u64 0)
    have hz4 := heap_setCell_at (o := 3) hz3 (.string ⟨#[]⟩)
    have g1 : w2.grownBy ((((w2.setCell ⟨X, 0, none⟩ (.int .i64 0)).setCell ⟨X, 1, none⟩ (.int .u64 0)).setCell ⟨X, 2, none⟩ (.int .u64 0)).setCell ⟨X, 3, none⟩ (.string ⟨#[]⟩)) (some X) := (grown_trans (grown_trans (grown_trans (grown_setCell _ ⟨X, 0, none⟩ (.int .i64 0)) (grown_setCell _ ⟨X, 1, none⟩ (.int .u64 0))) (grown_setCell _ ⟨X, 2, none⟩ (.int .u64 0))) (grown_setCell _ ⟨X, 3, none⟩ (.string ⟨#[]⟩)))
    obtain ⟨W3, hW3⟩ : ∃ W3, W3 = ((((w2.setCell ⟨X, 0, none⟩ (.int .i64 0)).setCell ⟨X, 1, none⟩ (.int .u64 0)).setCell ⟨X, 2, none⟩ (.int .u64 0)).setCell ⟨X, 3, none⟩ (.string ⟨#[]⟩)) := ⟨_, rfl⟩
    clear hz1 hz2 hz3
    go_wp2_with fail
    rw [← hW3] at hz4 g1 ⊢
    have Z0 : W3.cell? ⟨X, 0, none⟩ = some (.int .i64 0) := by simp [World.cell?, hz4]
    have Z1 : W3.cell? ⟨X, 1, none⟩ = some (.int .u64 0) := by simp [World.cell?, hz4]
    have Z2 : W3.cell? ⟨X, 2, none⟩ = some (.int .u64 0) := by simp [World.cell?, hz4]
    have Z3 : W3.cell? ⟨X, 3, none⟩ = some (.string ⟨#[]⟩) := by simp [World.cell?, hz4]
    exact bodyPost_ret (v := .tuple #[.int .u8 2, .agg #[(.int .i64 0), (.int .u64 0), (.int .u64 0), (.string ⟨#[]⟩)], .int .i64 0]) (by simp [results, Try.results14, go_sem, Z0, Z1, Z2, Z3]) rfl ⟨by obtain ⟨q1, q2, q3, q4⟩ := HP.out.2 (by rw [HR.out]; decide); rw [HR.out, q1, q2, q3, q4]; rfl, Hq.out _ g1⟩
  · have l1 : ¬ (seq : Int) ≤ (mk : Int) := by omega
    obtain ⟨D, hD⟩ : ∃ D, seq - mk = D := ⟨_, rfl⟩
    have wd : IntKind.u64.wrap ((seq : Int) - (mk : Int)) = (D : Int) := by rw [IntWalk.u64_in _ ⟨by omega, by omega⟩]; omega
    by_cases c2 : 4 < D
    · have HR := Lib.hid (show OfR mk seq S = 3 by unfold OfR; rw [if_neg c1, if_pos (by rw [hD]; exact c2)])
      have l2 : (4 : Int) < (D : Int) := by omega
      clear c1 c2 hs1 hs2 hD
      have hz : w2.heap[X]? = some (.cells #[.int .i64 0, .int .u64 0, .int .u64 0, .string ⟨#[]⟩] 39 (0, 0)) := Own.box hO Ps.length (by rw [List.getElem?_append_right (Nat.le_refl _), Nat.sub_self]; rfl)
      have Hq : Hid (∀ w6 : World, w2.grownBy w6 (some X) → Own w0 w6 Ps) := Lib.hid (fun w6 hg => Own.forget (Qs := [_]) hO hg)
      clear hO
      have m0 : w2.cell? ⟨X, 0, none⟩ = some (.int .i64 0) := by simp [World.cell?, hz]
      have q0 : w2.frozen? ⟨X, 0, none⟩ = false := by simp [World.frozen?, hz]
      have m1 : w2.cell? ⟨X, 1, none⟩ = some (.int .u64 0) := by simp [World.cell?, hz]
      have q1 : w2.frozen? ⟨X, 1, none⟩ = false := by simp [World.frozen?, hz]
      have m2 : w2.cell? ⟨X, 2, none⟩ = some (.int .u64 0) := by simp [World.cell?, hz]
      have q2 : w2.frozen? ⟨X, 2, none⟩ = false := by simp [World.frozen?, hz]
      have m3 : w2.cell? ⟨X, 3, none⟩ = some (.string ⟨#[]⟩) := by simp [World.cell?, hz]
      have q3 : w2.frozen? ⟨X, 3, none⟩ = false := by simp [World.frozen?, hz]
      have hz1 := heap_setCell_at (o := 0) hz (.int .i64 0)
      have hz2 := heap_setCell_at (o := 1) hz1 (.int .u64 0)
      have hz3 := heap_setCell_at (o := 2) hz2 (.int .u64 0)
      have hz4 := heap_setCell_at (o := 3) hz3 (.string ⟨#[]⟩)
      have g1 : w2.grownBy ((((w2.setCell ⟨X, 0, none⟩ (.int .i64 0)).setCell ⟨X, 1, none⟩ (.int .u64 0)).setCell ⟨X, 2, none⟩ (.int .u64 0)).setCell ⟨X, 3, none⟩ (.string ⟨#[]⟩)) (some X) := (grown_trans (grown_trans (grown_trans (grown_setCell _ ⟨X, 0, none⟩ (.int .i64 0)) (grown_setCell _ ⟨X, 1, none⟩ (.int .u64 0))) (grown_setCell _ ⟨X, 2, none⟩ (.int .u64 0))) (grown_setCell _ ⟨X, 3, none⟩ (.string ⟨#[]⟩)))
      obtain ⟨W3, hW3⟩ : ∃ W3, W3 = ((((w2.setCell ⟨X, 0, none⟩ (.int .i64 0)).setCell ⟨X, 1, none⟩ (.int .u64 0)).setCell ⟨X, 2, none⟩ (.int .u64 0)).setCell ⟨X, 3, none⟩ (.string ⟨#[]⟩)) := ⟨_, rfl⟩
      clear hz1 hz2 hz3
      go_wp2_with fail
      rw [← hW3] at hz4 g1 ⊢
      have Z0 : W3.cell? ⟨X, 0, none⟩ = some (.int .i64 0) := by simp [World.cell?, hz4]
      have Z1 : W3.cell? ⟨X, 1, none⟩ = some (.int .u64 0) := by simp [World.cell?, hz4]
      have Z2 : W3.cell? ⟨X, 2, none⟩ = some (.int .u64 0) := by simp [World.cell?, hz4]
      have Z3 : W3.cell? ⟨X, 3, none⟩ = some (.string ⟨#[]⟩) := by simp [World.cell?, hz4]
      exact bodyPost_ret (v := .tuple #[.int .u8 3, .agg #[(.int .i64 0), (.int .u64 0), (.int .u64 0), (.string ⟨#[]⟩)], .int .i64 0]) (by simp [results, Try.results14, go_sem, Z0, Z1, Z2, Z3]) rfl ⟨by obtain ⟨q1, q2, q3, q4⟩ := HP.out.2 (by rw [HR.out]; decide); rw [HR.out, q1, q2, q3, q4]; rfl, Hq.out _ g1⟩
    · have l2 : ¬ (4 : Int) < (D : Int) := by omega
      have HR0 := Lib.hid (show OfR mk seq S = if S = seq then 1 else 0 by unfold OfR; rw [if_neg c1, if_neg (by rw [hD]; exact c2)])
      clear c1 c2 hs1 hs2 hD
      replace hO := Lib.hid hO
      go_wp2_with fail
      try rw [hw2]
      refine (HSl.out _).mono ?_
      rintro e w5 ⟨rfl, rfl⟩
      go_wp2_with fail
      refine (HL.out _ _ hO.out (Hkk.out _)).mono ?_
      rintro e w3 ⟨rfl, hO3⟩
      clear hO HL HSl y0 y1 y2 hw2 hYs
      have hO3 := hO3.addBox 39 #[.int .i64 (en : Int), .int .u64 (ra : Int), .int .u64 (rb : Int), .string dd]
      obtain ⟨V, HV⟩ : ∃ V, Hid (V = w3.heap.size) := ⟨_, Lib.hid rfl⟩
      have hVs : w3.heap.size = V := HV.out.symm
      rw [hVs] at hO3
      rw [List.append_assoc] at hO3
      have hO : Own w0 (w3.alloc (.cells #[.int .i64 (en : Int), .int .u64 (ra : Int), .int .u64 (rb : Int), .string dd] 39)) (Ps ++ boxP X 39 #[.int .i64 0, .int .u64 0, .int .u64 0, .string ⟨#[]⟩] :: [boxP Y 87 #[.bool true, .int .u64 (ge : Int), .int .u64 (mk : Int)], boxP V 39 #[.int .i64 (en : Int), .int .u64 (ra : Int), .int .u64 (rb : Int), .string dd]]) := hO3
      clear hO3
      obtain ⟨w4, hw4⟩ : ∃ w4, w3.alloc (.cells #[.int .i64 (en : Int), .int .u64 (ra : Int), .int .u64 (rb : Int), .string dd] 39) = w4 := ⟨_, rfl⟩
      rw [hw4] at hO
      have hv : w4.heap[V]? = some (.cells #[.int .i64 (en : Int), .int .u64 (ra : Int), .int .u64 (rb : Int), .string dd] 39 (0, 0)) := Own.box hO (Ps.length + 2) (by rw [List.getElem?_append_right (by omega), show Ps.length + 2 - Ps.length = 2 from by omega]; rfl)
      have v0 : w4.cell? ⟨V, 0, none⟩ = some (.int .i64 (en : Int)) := by simp [World.cell?, hv]
      have v1 : w4.cell? ⟨V, 1, none⟩ = some (.int .u64 (ra : Int)) := by simp [World.cell?, hv]
      have v2 : w4.cell? ⟨V, 2, none⟩ = some (.int .u64 (rb : Int)) := by simp [World.cell?, hv]
      have v3 : w4.cell? ⟨V, 3, none⟩ = some (.string dd) := by simp [World.cell?, hv]
      clear hv
      by_cases c3 : S = seq
      · have HR := Lib.hid (show OfR mk seq S = 1 by rw [HR0.out, if_pos c3])
        have l3 : ((S : Int) != (seq : Int)) = false := by rw [c3]; simp
        clear c3 HR0
        have hz : w4.heap[X]? = some (.cells #[.int .i64 0, .int .u64 0, .int .u64 0, .string ⟨#[]⟩] 39 (0, 0)) := Own.box hO Ps.length (by rw [List.getElem?_append_right (Nat.le_refl _), Nat.sub_self]; rfl)
        have Hq : Hid (∀ w6 : World, w4.grownBy w6 (some X) → Own w0 w6 Ps) := Lib.hid (fun w6 hg => Own.forget (Qs := [_, _]) hO hg)
        clear hO
        have m0 : w4.cell? ⟨X, 0, none⟩ = some (.int .i64 0) := by simp [World.cell?, hz]
        have q0 : w4.frozen? ⟨X, 0, none⟩ = false := by simp [World.frozen?, hz]
        have m1 : w4.cell? ⟨X, 1, none⟩ = some (.int .u64 0) := by simp [World.cell?, hz]
        have q1 : w4.frozen? ⟨X, 1, none⟩ = false := by simp [World.frozen?, hz]
        have m2 : w4.cell? ⟨X, 2, none⟩ = some (.int .u64 0) := by simp [World.cell?, hz]
        have q2 : w4.frozen? ⟨X, 2, none⟩ = false := by simp [World.frozen?, hz]
        have m3 : w4.cell? ⟨X, 3, none⟩ = some (.string ⟨#[]⟩) := by simp [World.cell?, hz]
        have q3 : w4.frozen? ⟨X, 3, none⟩ = false := by simp [World.frozen?, hz]
        have hz1 := heap_setCell_at (o := 0) hz (.int .i64 (en : Int))
        have hz2 := heap_setCell_at (o := 1) hz1 (.int .u64 (ra : Int))
        have hz3 := heap_setCell_at (o := 2) hz2 (.int .u64 (rb : Int))
        have hz4 := heap_setCell_at (o := 3) hz3 (.string dd)
        have g1 : w4.grownBy ((((w4.setCell ⟨X, 0, none⟩ (.int .i64 (en : Int))).setCell ⟨X, 1, none⟩ (.int .u64 (ra : Int))).setCell ⟨X, 2, none⟩ (.int .u64 (rb : Int))).setCell ⟨X, 3, none⟩ (.string dd)) (some X) := (grown_trans (grown_trans (grown_trans (grown_setCell _ ⟨X, 0, none⟩ (.int .i64 (en : Int))) (grown_setCell _ ⟨X, 1, none⟩ (.int .u64 (ra : Int)))) (grown_setCell _ ⟨X, 2, none⟩ (.int .u64 (rb : Int)))) (grown_setCell _ ⟨X, 3, none⟩ (.string dd)))
        obtain ⟨W3, hW3⟩ : ∃ W3, W3 = ((((w4.setCell ⟨X, 0, none⟩ (.int .i64 (en : Int))).setCell ⟨X, 1, none⟩ (.int .u64 (ra : Int))).setCell ⟨X, 2, none⟩ (.int .u64 (rb : Int))).setCell ⟨X, 3, none⟩ (.string dd)) := ⟨_, rfl⟩
        clear hz1 hz2 hz3
        rw [← hW3] at hz4 g1
        have Z0 : W3.cell? ⟨X, 0, none⟩ = some (.int .i64 (en : Int)) := by simp [World.cell?, hz4]
        have Z1 : W3.cell? ⟨X, 1, none⟩ = some (.int .u64 (ra : Int)) := by simp [World.cell?, hz4]
        have Z2 : W3.cell? ⟨X, 2, none⟩ = some (.int .u64 (rb : Int)) := by simp [World.cell?, hz4]
        have Z3 : W3.cell? ⟨X, 3, none⟩ = some (.string dd) := by simp [World.cell?, hz4]
        go_wp2_with fail
        go_region
        all_goals go_wp2
        all_goals (try rw [← hW3])
        all_goals exact bodyPost_ret (v := .tuple #[.int .u8 1, .agg #[(.int .i64 (en : Int)), (.int .u64 (ra : Int)), (.int .u64 (rb : Int)), (.string dd)], .int .i64 0]) (by simp [results, Try.results14, go_sem, Z0, Z1, Z2, Z3]) rfl ⟨by obtain ⟨q1, q2, q3, q4⟩ := HP.out.1 HR.out; rw [HR.out, q1, q2, q3, q4]; rfl, Hq.out _ (grown_drew g1)⟩
      · have HR := Lib.hid (show OfR mk seq S = 0 by rw [HR0.out, if_neg c3])
        have l3 : ((S : Int) != (seq : Int)) = true := by simp; omega
        clear c3 HR0
        have hz : w4.heap[X]? = some (.cells #[.int .i64 0, .int .u64 0, .int .u64 0, .string ⟨#[]⟩] 39 (0, 0)) := Own.box hO Ps.length (by rw [List.getElem?_append_right (Nat.le_refl _), Nat.sub_self]; rfl)
        have Hq : Hid (∀ w6 : World, w4.grownBy w6 (some X) → Own w0 w6 Ps) := Lib.hid (fun w6 hg => Own.forget (Qs := [_, _]) hO hg)
        clear hO
        have m0 : w4.cell? ⟨X, 0, none⟩ = some (.int .i64 0) := by simp [World.cell?, hz]
        have q0 : w4.frozen? ⟨X, 0, none⟩ = false := by simp [World.frozen?, hz]
        have m1 : w4.cell? ⟨X, 1, none⟩ = some (.int .u64 0) := by simp [World.cell?, hz]
        have q1 : w4.frozen? ⟨X, 1, none⟩ = false := by simp [World.frozen?, hz]
        have m2 : w4.cell? ⟨X, 2, none⟩ = some (.int .u64 0) := by simp [World.cell?, hz]
        have q2 : w4.frozen? ⟨X, 2, none⟩ = false := by simp [World.frozen?, hz]
        have m3 : w4.cell? ⟨X, 3, none⟩ = some (.string ⟨#[]⟩) := by simp [World.cell?, hz]
        have q3 : w4.frozen? ⟨X, 3, none⟩ = false := by simp [World.frozen?, hz]
        have hz1 := heap_setCell_at (o := 0) hz (.int .i64 0)
        have hz2 := heap_setCell_at (o := 1) hz1 (.int .u64 0)
        have hz3 := heap_setCell_at (o := 2) hz2 (.int .u64 0)
        have hz4 := heap_setCell_at (o := 3) hz3 (.string ⟨#[]⟩)
        have g1 : w4.grownBy ((((w4.setCell ⟨X, 0, none⟩ (.int .i64 0)).setCell ⟨X, 1, none⟩ (.int .u64 0)).setCell ⟨X, 2, none⟩ (.int .u64 0)).setCell ⟨X, 3, none⟩ (.string ⟨#[]⟩)) (some X) := (grown_trans (grown_trans (grown_trans (grown_setCell _ ⟨X, 0, none⟩ (.int .i64 0)) (grown_setCell _ ⟨X, 1, none⟩ (.int .u64 0))) (grown_setCell _ ⟨X, 2, none⟩ (.int .u64 0))) (grown_setCell _ ⟨X, 3, none⟩ (.string ⟨#[]⟩)))
        obtain ⟨W3, hW3⟩ : ∃ W3, W3 = ((((w4.setCell ⟨X, 0, none⟩ (.int .i64 0)).setCell ⟨X, 1, none⟩ (.int .u64 0)).setCell ⟨X, 2, none⟩ (.int .u64 0)).setCell ⟨X, 3, none⟩ (.string ⟨#[]⟩)) := ⟨_, rfl⟩
        clear hz1 hz2 hz3
        go_wp2_with fail
        rw [← hW3] at hz4 g1 ⊢
        have Z0 : W3.cell? ⟨X, 0, none⟩ = some (.int .i64 0) := by simp [World.cell?, hz4]
        have Z1 : W3.cell? ⟨X, 1, none⟩ = some (.int .u64 0) := by simp [World.cell?, hz4]
        have Z2 : W3.cell? ⟨X, 2, none⟩ = some (.int .u64 0) := by simp [World.cell?, hz4]
        have Z3 : W3.cell? ⟨X, 3, none⟩ = some (.string ⟨#[]⟩) := by simp [World.cell?, hz4]
        exact bodyPost_ret (v := .tuple #[.int .u8 0, .agg #[(.int .i64 0), (.int .u64 0), (.int .u64 0), (.string ⟨#[]⟩)], .int .i64 0]) (by simp [results, Try.results14, go_sem, Z0, Z1, Z2, Z3]) rfl ⟨by obtain ⟨q1, q2, q3, q4⟩ := HP.out.2 (by rw [HR.out]; decide); rw [HR.out, q1, q2, q3, q4]; rfl, Hq.out _ g1⟩
end Go.Proofs.Ytdpkpphjpihhkaa
end
section
/- '[]grommetlaw11.Step', opened to its cells. -/
namespace Go.Proofs.Ytdpkpphjpihhkaa
open Go.RowKit Go.Grommet Go.Deep

structure Stq where
  do_ : Int
  i : Int
  gen : Int
  n : Int
  err : Int
  a : Int
  b : Int
  data : ByteArray
  drop_ : Bool

def Stq.Ok (x : Stq) : Prop := (Lit.int .u8 x.do_).wf = true ∧ (Lit.int .i64 x.i).wf = true ∧ (Lit.int .u64 x.gen).wf = true ∧ (Lit.int .u64 x.n).wf = true ∧ (Lit.int .i64 x.err).wf = true ∧ (Lit.int .u64 x.a).wf = true ∧ (Lit.int .u64 x.b).wf = true ∧ x.data.size ≤ 9223372036854775807

/-- Where a slice of such leads there stand these, 9 cells each. -/
def StqsIn (w : World) (a : Option Addr) (len : Nat) (L : List Stq) : Prop :=
  L.length = len ∧ (∀ x ∈ L, x.Ok) ∧ ∀ i x, L[i]? = some x → ∃ g o, a = some ⟨g, o, none⟩ ∧ w.cell? ⟨g, o + i * 9, none⟩ = some (.int .u8 x.do_) ∧ w.cell? ⟨g, o + i * 9 + 1, none⟩ = some (.int .i64 x.i) ∧ w.cell? ⟨g, o + i * 9 + 2, none⟩ = some (.int .u64 x.gen) ∧ w.cell? ⟨g, o + i * 9 + 3, none⟩ = some (.int .u64 x.n) ∧ w.cell? ⟨g, o + i * 9 + 4, none⟩ = some (.int .i64 x.err) ∧ w.cell? ⟨g, o + i * 9 + 5, none⟩ = some (.int .u64 x.a) ∧ w.cell? ⟨g, o + i * 9 + 6, none⟩ = some (.int .u64 x.b) ∧ w.cell? ⟨g, o + i * 9 + 7, none⟩ = some (.string x.data) ∧ w.cell? ⟨g, o + i * 9 + 8, none⟩ = some (.bool x.drop_)

set_option maxRecDepth 100000 in
theorem StqsIn.grown {w w' : World} {a : Option Addr} {len : Nat} {L : List Stq} (h : StqsIn w a len L) (hg : w.grownBy w' none) : StqsIn w' a len L := by
  refine ⟨h.1, h.2.1, fun i x hx => ?_⟩
  obtain ⟨g, o, ha, h0, h1, h2, h3, h4, h5, h6, h7, h8⟩ := h.2.2 i x hx
  exact ⟨g, o, ha, hg.cell h0 (by simp), hg.cell h1 (by simp), hg.cell h2 (by simp), hg.cell h3 (by simp), hg.cell h4 (by simp), hg.cell h5 (by simp), hg.cell h6 (by simp), hg.cell h7 (by simp), hg.cell h8 (by simp)⟩

set_option maxRecDepth 100000 in
theorem StqsIn.at {w : World} {g o len : Nat} {L : List Stq} (h : StqsIn w (some ⟨g, o, none⟩) len L) (i : Nat) (x : Stq) (hx : L[i]? = some x) : w.cell? ⟨g, o + i * 9, none⟩ = some (.int .u8 x.do_) ∧ w.cell? ⟨g, o + i * 9 + 1, none⟩ = some (.int .i64 x.i) ∧ w.cell? ⟨g, o + i * 9 + 2, none⟩ = some (.int .u64 x.gen) ∧ w.cell? ⟨g, o + i * 9 + 3, none⟩ = some (.int .u64 x.n) ∧ w.cell? ⟨g, o + i * 9 + 4, none⟩ = some (.int .i64 x.err) ∧ w.cell? ⟨g, o + i * 9 + 5, none⟩ = some (.int .u64 x.a) ∧ w.cell? ⟨g, o + i * 9 + 6, none⟩ = some (.int .u64 x.b) ∧ w.cell? ⟨g, o + i * 9 + 7, none⟩ = some (.string x.data) ∧ w.cell? ⟨g, o + i * 9 + 8, none⟩ = some (.bool x.drop_) := by
  obtain ⟨g', o', ha, h0, h1, h2, h3, h4, h5, h6, h7, h8⟩ := h.2.2 i x hx
  cases ha
  exact ⟨h0, h1, h2, h3, h4, h5, h6, h7, h8⟩

set_option maxRecDepth 100000 in
theorem Stq_list {α : Type} (P : Nat → α → Prop) : ∀ n, (∀ i, i < n → ∃ x, P i x) → ∃ L : List α, L.length = n ∧ ∀ i x, L[i]? = some x → P i x
  | 0, _ => ⟨[], rfl, fun i x h => by simp at h⟩
  | n + 1, h => by
    obtain ⟨L, hl, hL⟩ := Stq_list P n (fun i hi => h i (by omega))
    obtain ⟨y, hy⟩ := h n (by omega)
    refine ⟨L ++ [y], by simp [hl], fun i x hx => ?_⟩
    by_cases hi : i < n
    · rw [List.getElem?_append_left (by omega)] at hx; exact hL i x hx
    · rw [List.getElem?_append_right (by omega)] at hx
      have : i - L.length = 0 := by
        rcases Nat.eq_zero_or_pos (i - L.length) with h0 | h0
        · exact h0
        · rw [List.getElem?_eq_none (by simp; omega)] at hx; cases hx
      rw [this] at hx
      simp at hx
      subst hx
      rwa [show i = n from by omega]

set_option maxRecDepth 100000 in
theorem open_Stqs {H : Type} {enc : TypeId × Value → H} {w : World} {spare : Nat → Bool} {held : Bool} {a : Option Addr} {len cap : Nat} {d : DataW H} {p : List MemPlace}
    (h : DataW.Trod enc Try.prog w 0 spare held 24 (.slice a len cap) d p) : ∃ L, StqsIn w a len L := by
  obtain ⟨fuel, hf⟩ := h
  rcases open_slice Try.underlying24 hf with ⟨hcs, _⟩ | ⟨x, l, c, m, n, D, Pl, hcs, _, hl, _, hm, _, hi⟩
  · simp [Value.cells] at hcs
    obtain ⟨rfl, rfl, rfl⟩ := hcs
    exact ⟨[], rfl, by simp, fun i x h => by simp at h⟩
  · simp [Value.cells] at hcs
    obtain ⟨rfl, rfl, rfl⟩ := hcs
    have hml : len ≤ m := by rw [hm]; split <;> omega
    have hC : Try.prog.cellsOf 41 = 9 := by kernel_rfl
    rw [hC] at hi
    have key : ∀ i, i < len → ∃ y : Stq, y.Ok ∧ w.cell? (x.add (i * 9 + 0)) = some (.int .u8 y.do_) ∧ w.cell? (x.add (i * 9 + 1)) = some (.int .i64 y.i) ∧ w.cell? (x.add (i * 9 + 2)) = some (.int .u64 y.gen) ∧ w.cell? (x.add (i * 9 + 3)) = some (.int .u64 y.n) ∧ w.cell? (x.add (i * 9 + 4)) = some (.int .i64 y.err) ∧ w.cell? (x.add (i * 9 + 5)) = some (.int .u64 y.a) ∧ w.cell? (x.add (i * 9 + 6)) = some (.int .u64 y.b) ∧ w.cell? (x.add (i * 9 + 7)) = some (.string y.data) ∧ w.cell? (x.add (i * 9 + 8)) = some (.bool y.drop_) := by
      intro i hil
      obtain ⟨cs', hc, ht⟩ := hi i (by omega)
      obtain ⟨_, hcl, hat⟩ := World.cells?_some hc
      obtain ⟨xs, n', _, _, _, hlen, hfl⟩ := DataW.trod_struct Try.underlying41 ht
      match xs, hlen with
      | [y0, y1, y2, y3, y4, y5], _ =>
        have t0 := by simpa using hfl 0 _ rfl
        have t1 := by simpa using hfl 1 _ rfl
        have t2 := by simpa using hfl 2 _ rfl
        have t3 := by simpa using hfl 3 _ rfl
        have t4 := by simpa using hfl 4 _ rfl
        have t5 := by simpa using hfl 5 _ rfl
        match cs', hcl with
        | [c0, c1, c2, c3, c4, c5, c6, c7, c8], _ =>
          have g0 := t0
          have g1 := t1
          have g2 := t2
          have g3 := t3
          have kt4 : Try.prog.cellsOf 39 = 4 := by kernel_rfl
          simp [kt4] at t4
          obtain ⟨xs4, _, _, _, _, hlen4, hfl4⟩ := DataW.trod_struct Try.underlying39 t4
          match xs4, hlen4 with
          | [u0, u1, u2, u3], _ =>
          have g4 := by simpa using hfl4 0 _ rfl
          have g5 := by simpa using hfl4 1 _ rfl
          have g6 := by simpa using hfl4 2 _ rfl
          have g7 := by simpa using hfl4 3 _ rfl
          have g8 := t5
          obtain ⟨b0, e0, _, z0⟩ := DataW.trod_int Try.underlying5 g0
          have k0 : Try.prog.cellsOf 5 = 1 := by kernel_rfl
          simp [k0] at e0
          obtain ⟨b1, e1, _, z1⟩ := DataW.trod_int Try.underlying3 g1
          have k1 : Try.prog.cellsOf 3 = 1 := by kernel_rfl
          simp [k1] at e1
          obtain ⟨b2, e2, _, z2⟩ := DataW.trod_int Try.underlying36 g2
          have k2 : Try.prog.cellsOf 36 = 1 := by kernel_rfl
          simp [k2] at e2
          obtain ⟨b3, e3, _, z3⟩ := DataW.trod_int Try.underlying36 g3
          have k3 : Try.prog.cellsOf 36 = 1 := by kernel_rfl
          simp [k3] at e3
          obtain ⟨b4, e4, _, z4⟩ := DataW.trod_int Try.underlying37 g4
          have k4 : Try.prog.cellsOf 37 = 1 := by kernel_rfl
          simp [k4] at e4
          obtain ⟨b5, e5, _, z5⟩ := DataW.trod_int Try.underlying36 g5
          have k5 : Try.prog.cellsOf 36 = 1 := by kernel_rfl
          simp [k5] at e5
          obtain ⟨b6, e6, _, z6⟩ := DataW.trod_int Try.underlying36 g6
          have k6 : Try.prog.cellsOf 36 = 1 := by kernel_rfl
          simp [k6] at e6
          obtain ⟨b7, e7, _, z7⟩ := DataW.trod_string Try.underlying9 g7
          have k7 : Try.prog.cellsOf 9 = 1 := by kernel_rfl
          simp [k7] at e7
          obtain ⟨b8, e8, _⟩ := DataW.trod_bool Try.underlying4 g8
          have k8 : Try.prog.cellsOf 4 = 1 := by kernel_rfl
          simp [k8] at e8
          subst e0 e1 e2 e3 e4 e5 e6 e7 e8
          refine ⟨⟨b0, b1, b2, b3, b4, b5, b6, b7, b8⟩, ⟨z0, z1, z2, z3, z4, z5, z6, z7⟩, ?_, ?_, ?_, ?_, ?_, ?_, ?_, ?_, ?_⟩
          · rw [← Go.Deep.add_add]; exact hat 0 (by omega)
          · rw [← Go.Deep.add_add]; exact hat 1 (by omega)
          · rw [← Go.Deep.add_add]; exact hat 2 (by omega)
          · rw [← Go.Deep.add_add]; exact hat 3 (by omega)
          · rw [← Go.Deep.add_add]; exact hat 4 (by omega)
          · rw [← Go.Deep.add_add]; exact hat 5 (by omega)
          · rw [← Go.Deep.add_add]; exact hat 6 (by omega)
          · rw [← Go.Deep.add_add]; exact hat 7 (by omega)
          · rw [← Go.Deep.add_add]; exact hat 8 (by omega)
    obtain ⟨L, hL, hLi⟩ := Stq_list _ len key
    refine ⟨L, hL, ?_, ?_⟩
    · intro y hy
      obtain ⟨i, hi⟩ := List.getElem?_of_mem hy
      exact (hLi i y hi).1
    · intro i y hiy
      obtain ⟨_, h0, h1, h2, h3, h4, h5, h6, h7, h8⟩ := hLi i y hiy
      obtain ⟨b, o, sp⟩ := x
      have hil : i < len := by
        have := (List.getElem?_eq_some_iff.1 hiy).1
        omega
      have hsp : sp = none := by
        obtain ⟨_, _, k0, _⟩ := key 0 (by omega)
        have := World.cell?_spot k0
        simpa [Addr.add] using this
      subst hsp
      refine ⟨b, o, rfl, ?_, ?_, ?_, ?_, ?_, ?_, ?_, ?_, ?_⟩
      · rw [Addr.add_lit] at h0; simpa [Nat.add_assoc] using h0
      · rw [Addr.add_lit] at h1; simpa [Nat.add_assoc] using h1
      · rw [Addr.add_lit] at h2; simpa [Nat.add_assoc] using h2
      · rw [Addr.add_lit] at h3; simpa [Nat.add_assoc] using h3
      · rw [Addr.add_lit] at h4; simpa [Nat.add_assoc] using h4
      · rw [Addr.add_lit] at h5; simpa [Nat.add_assoc] using h5
      · rw [Addr.add_lit] at h6; simpa [Nat.add_assoc] using h6
      · rw [Addr.add_lit] at h7; simpa [Nat.add_assoc] using h7
      · rw [Addr.add_lit] at h8; simpa [Nat.add_assoc] using h8
end Go.Proofs.Ytdpkpphjpihhkaa
end
section
/- ClassOnce: its steps are looked through; the words of a session just begun. -/
namespace Go.Proofs.Ytdpkpphjpihhkaa
open Go.RowKit Go.Grommet

def GreatIs (tl : Nat) (T : List Stq) (w : World) (e : Ending) (w' : World) : Prop := ∃ b, e = .returned (.bool b) ∧ Hid (b = false → tl ≤ 60 ∧ ∀ (j : Nat) (x : Stq), T[j]? = some x → x.data.size ≤ 1000) ∧ w' = w
set_option maxRecDepth 100000 in
set_option maxHeartbeats 2000000 in
theorem greatH (td : Option Addr) (tl tc : Nat) (T : List Stq) (w : World) (hT : StqsIn w td tl T) :
    Calls Try.prog 7 #[.slice td tl tc] w (GreatIs tl T w) := by
  have HT := Lib.hid hT
  clear hT
  by_cases h60 : 60 < tl
  · have g1 : (60 : Int) < (tl : Int) := by omega
    go_enter Try.func7, Try.ntmps7
    go_wp2
    exact bodyPost_ret (v := .bool true) (by simp [results, Try.results7, go_sem]) rfl ⟨true, rfl, Lib.hid (fun e => by cases e), rfl⟩
  · have g1 : ¬ (60 : Int) < (tl : Int) := by omega
    go_enter Try.func7, Try.ntmps7
    go_wp2_with fail
    go_loopw [3] (fun i wr => ∃ k : Nat, k ≤ tl ∧ i = .int .i64 (k : Int) ∧ wr = w ∧ Hid (∀ (j : Nat) (x : Stq), j < k → T[j]? = some x → x.data.size ≤ 1000)) (fun i _ => tl - (intOf i).toNat)
    case atStart => exact ⟨0, Nat.zero_le _, rfl, rfl, Lib.hid (fun j x hj => by omega)⟩
    case round =>
      obtain ⟨k, hk, rfl, rfl, HK⟩ := hrel
      have k0 : (0 : Int) ≤ (k : Int) := by omega
      by_cases hlt : k < tl
      · have hlt' : (k : Int) < (tl : Int) := by omega
        obtain ⟨x, hx⟩ : ∃ x, T[k]? = some x := ⟨T[k]'(by rw [HT.out.1]; exact hlt), List.getElem?_eq_getElem _⟩
        obtain ⟨g, o, rfl, _, _, _, _, _, _, _, c7, _⟩ := HT.out.2.2 k x hx
        have c7' : wr.cell? ⟨g, o + k * 9 + 4 + 3, none⟩ = some (.string x.data) := c7
        have Hx := Lib.hid hx
        obtain ⟨D, HD⟩ : ∃ D, D = x.data.size := ⟨_, rfl⟩
        have HDe := Lib.hid HD
        clear hx
        by_cases hd : 1000 < x.data.size
        · have hd' : (1000 : Int) < (x.data.size : Int) := by omega
          clear HD
          go_wp2
          exact bodyPost_ret (v := .bool true) (by simp [results, Try.results7, go_sem]) rfl ⟨true, rfl, Lib.hid (fun e => by cases e), rfl⟩
        · have hd' : ¬ (1000 : Int) < (x.data.size : Int) := by omega
          have HK2 : Hid (∀ (j : Nat) (x : Stq), j < k + 1 → T[j]? = some x → x.data.size ≤ 1000) := Lib.hid (fun j y hj hy => by
            by_cases e : j = k
            · subst e; rw [Hx.out] at hy; cases hy; omega
            · exact HK.out j y (by omega) hy)
          clear HD
          go_wp2
          go_roundw
          case rel => exact ⟨k + 1, by omega, by go_num, by first | trivial | rfl, HK2⟩
          case measure => simp [intOf]; omega
      · have hlt' : ¬ (k : Int) < (tl : Int) := by omega
        have HE : Hid (tl ≤ 60 ∧ ∀ (j : Nat) (x : Stq), T[j]? = some x → x.data.size ≤ 1000) := Lib.hid ⟨by omega, fun j y hy => HK.out j y (by have := (List.getElem?_eq_some_iff.1 hy).1; rw [HT.out.1] at this; omega) hy⟩
        go_wp2
        exact bodyPost_ret (v := .bool false) (by simp [results, Try.results7, go_sem]) rfl ⟨false, rfl, Lib.hid (fun _ => HE.out), rfl⟩

theorem F0_sess {a A : Nat} (ha : a < 4) (hA : A = 8 + 64 * a) : Sess F0 A (oB false) 0 :=
  ⟨F0_len, F0_small, F0_zero A (by omega) (by omega), F0_zero (A + 1) (by omega) (by omega), fun j h1 h2 => F0_zero j (by omega) (by omega)⟩
set_option maxRecDepth 100000 in
set_option maxHeartbeats 2000000 in
theorem begunH (a A : Nat) (ha : a < 4) (hA : A = 8 + 64 * a) (w : World) :
    Calls Try.prog 25 #[.int .i64 (a : Int)] w fun e w' => ∃ (q cp : Nat) (ys : List Nat), e = .returned (.slice (some ⟨q, 0, none⟩) 536 cp) ∧ Hid (Sess ys A 1 1) ∧ Own w w' [rowP 36 1 (.slice (some ⟨q, 0, none⟩) 536 cp) 536 (ys.map wv)] := by
  have HS := Lib.hid (fun wx => show Calls Try.prog 10 #[.int .u8 0, .int .u8 0] wx fun e w' => e = .returned (.agg #[.int .i64 1, .int .i64 2, .int .i64 2]) ∧ wx.grownBy w' none from Small_any 0 0 (by omega) (by omega) wx)
  have HFm := Lib.hid (fun wx => show Calls Try.prog 30 #[.agg #[.int .i64 1, .int .i64 2, .int .i64 2]] wx (RowU F0 536 wx) from (RFormat_any 1 2 2 wx (by decide)).mono (fun _ _ hh => rowU_new hh (by decide)))
  have Hs := Lib.hid (F0_sess ha hA)
  have Ha := Lib.hid (And.intro ha hA)
  clear ha hA
  go_enter Try.func25, Try.ntmps25
  go_wp2_with fail
  refine (HS.out _).mono ?_
  rintro e w1 ⟨rfl, hg1⟩
  have hO1 := Lib.hid ((Own.nil w).quiet hg1)
  clear hg1
  go_wp2_with fail
  refine (HFm.out _).mono ?_
  rintro e w2 ⟨ad, cp, rfl, hrow, hg2⟩
  have hO : Own w w2 [rowP 36 1 (.slice ad 536 cp) 536 (F0.map wv)] := hO1.out.addRow hrow hg2
  obtain ⟨hW, hnil, _⟩ := Own.words hO 0 rfl Hs.out.small (by decide)
  have HNew := Lib.hid (NewH ad 536 cp F0 w _ _ hO hW (by decide) hnil)
  clear hO hO1 hW hnil hrow hg2 HS HFm
  go_wp2_with fail
  refine HNew.out.mono ?_
  rintro e w4 ⟨g, rfl, hO⟩
  have HC := Lib.hid (OpenNew 1 g F0 a A 0 1 false Ha.out.1 Ha.out.2 Hs.out (by decide) (by decide) (by decide) w w4 _ hO rfl)
  clear hO HNew
  go_wp2_with fail
  refine HC.out.mono ?_
  rintro e w5 ⟨L, rfl, hO, HAf⟩
  have HFg := Lib.hid (FlatH 1 g F0 L w _ _ hO rfl)
  rw [F0_len] at HFg
  have HSz : Hid (Sess (flatV F0 L) A 1 1) := Lib.hid (HAf.out.sess F0_len F0_small (Own.wl hO 1 rfl).1 (by have := Ha.out; omega))
  generalize flatV F0 L = zs at HFg HSz
  clear hO HC HAf
  go_wp2_with fail
  refine HFg.out.mono ?_
  rintro e w8 ⟨ad7, cp7, rfl, hO⟩
  obtain ⟨q7, rfl⟩ : ∃ q7, ad7 = some ⟨q7, 0, none⟩ := by
    obtain ⟨b, he, _⟩ := Own.word hO 2 rfl HSz.out.len 0 (by decide)
    exact ⟨b, he⟩
  have hO8 := Lib.hid (own_back (Qs := [_, _]) hO)
  clear hO HFg
  go_wp2
  exact bodyPost_ret (v := .slice (some ⟨q7, 0, none⟩) 536 cp7) (by simp [results, Try.results25, go_sem]) rfl ⟨q7, cp7, zs, rfl, HSz, hO8.out⟩
end Go.Proofs.Ytdpkpphjpihhkaa
end
section
/- ClassOnce: what stands in an open session's words. -/
namespace Go.Proofs.Ytdpkpphjpihhkaa
open Go.RowKit Go.Grommet

structure OnceR where
  en : Nat
  ra : Nat
  rb : Nat
  d : ByteArray
def zeroR : OnceR := ⟨0, 0, 0, ⟨#[]⟩⟩
/-- A slot's words: a number, and what was saved under it. -/
structure Slo (ys : List Nat) (sl s : Nat) (r : OnceR) : Prop where
  n : ys.getD sl 0 = s
  r : s ≠ 0 → r.en ≤ 24 ∧ r.d.size ≤ 64 ∧ ys.getD (sl + 1) 0 = r.en + 256 * r.d.size ∧ ys.getD (sl + 2) 0 = r.ra ∧ ys.getD (sl + 3) 0 = r.rb ∧ str (unpackB (usT ys [] (sl : Int) 8) r.d.size) = r.d
structure Once (ys : List Nat) (A m : Nat) (S : Nat → Nat) (R : Nat → OnceR) : Prop where
  len : ys.length = 536
  small : ∀ n ∈ ys, n < 18446744073709551616
  o : ys.getD A 0 = 1
  g : ys.getD (A + 1) 0 = 1
  m : ys.getD (A + 2) 0 = m
  s : ∀ k, k < 4 → Slo ys (A + 8 + 12 * k) (S k) (R (S k))
structure Nums (m : Nat) (S : Nat → Nat) (isf : Nat → Bool) : Prop where
  ml : m ≤ 70
  is : ∀ j, m < j → (isf j = true ↔ S (j % 4) = j)
  sl : ∀ k, S k ≤ m + 4
  mo : ∀ k, k < 4 → S k = 0 ∨ S k % 4 = k

theorem usT_congr {ys zs : List Nat} {L M : List (Nat × Nat)} (sl : Nat) : ∀ j : Nat, (∀ i, i < j → gotI ys L ((sl : Int) + ((4 + i : Nat) : Int)) = gotI zs M ((sl : Int) + ((4 + i : Nat) : Int))) → usT ys L (sl : Int) j = usT zs M (sl : Int) j
  | 0, _ => rfl
  | j + 1, h => by
    show usT ys L (sl : Int) j ++ [_] = usT zs M (sl : Int) j ++ [_]
    rw [usT_congr sl j (fun i hi => h i (by omega)), h j (by omega)]
theorem gotI_nil {ys : List Nat} {p : Int} (n : Nat) (hp : p = (n : Int)) (hn : n < ys.length) : gotI ys [] p = ys.getD n 0 := gotI_at n hp hn
/-- The same slot in other words. -/
theorem Slo.keep {ys zs : List Nat} {sl s : Nat} {r : OnceR} (h : Slo ys sl s r) (hl : ys.length = 536) (hz : zs.length = 536) (hs : sl + 12 ≤ 536) (he : ∀ j, sl ≤ j → j < sl + 12 → zs.getD j 0 = ys.getD j 0) : Slo zs sl s r := by
  refine ⟨by rw [he sl (by omega) (by omega)]; exact h.n, fun hs0 => ?_⟩
  obtain ⟨a1, a2, a3, a4, a5, a6⟩ := h.r hs0
  refine ⟨a1, a2, by rw [he _ (by omega) (by omega)]; exact a3, by rw [he _ (by omega) (by omega)]; exact a4, by rw [he _ (by omega) (by omega)]; exact a5, ?_⟩
  rw [usT_congr (ys := zs) (zs := ys) (L := []) (M := []) sl 8 (fun i hi => by
    rw [gotI_nil (sl + (4 + i)) (by omega) (by omega), gotI_nil (sl + (4 + i)) (by omega) (by omega), he _ (by omega) (by omega)])]
  exact a6
theorem Once.begun {ys : List Nat} {A : Nat} (h : Sess ys A 1 1) (R : Nat → OnceR) : Once ys A 0 (fun _ => 0) R :=
  ⟨h.len, h.small, h.o, h.g, h.z _ (by omega) (by omega), fun k hk => ⟨h.z _ (by omega) (by omega), fun e => absurd rfl e⟩⟩
theorem Nums.begun : Nums 0 (fun _ => 0) (fun _ => false) :=
  ⟨by decide, fun j hj => ⟨fun e => (by cases e), fun e => (by omega)⟩, fun _ => (by omega), fun _ _ => .inl rfl⟩

def resOf (S : Nat → Nat) (R : Nat → OnceR) (k : Nat) : OnceR := if S k = 0 then zeroR else R (S k)
theorem Once.load {ys : List Nat} {a A m : Nat} {S : Nat → Nat} {R : Nat → OnceR} (h : Once ys A m S R) (ha : a < 4) (hA : A = 8 + 64 * a) (k g kk : Nat) (hkk : kk < 4) (w0 wx : World) (Qs : List Pr) (hO : Own w0 wx Qs) (hk : Qs[k]? = some (viewP g ys [])) :
    Calls Try.prog 37 #[.pointer (some ⟨g, 0, none⟩), .int .i64 (a : Int), .int .i64 (kk : Int)] wx fun e w' => e = .returned (.tuple #[.int .u64 (S kk : Int), .agg #[.int .i64 ((resOf S R kk).en : Int), .int .u64 ((resOf S R kk).ra : Int), .int .u64 ((resOf S R kk).rb : Int), .string (resOf S R kk).d], .int .i64 0]) ∧ Own w0 w' Qs := by
  have hat := sess_at ha hA
  have hl := h.len
  have hsl : slotV (a : Int) (kk : Int) = ((A + 8 + 12 * kk : Nat) : Int) := by unfold slotV; rw [if_pos ⟨⟨by omega, by omega⟩, by omega, by omega⟩]; omega
  have hs := h.s kk hkk
  by_cases h0 : S kk = 0
  · have e : resOf S R kk = zeroR := if_pos h0
    rw [e, h0]
    exact LoadZero k g ys [] (a : Int) (kk : Int) (A : Int) ((A + 8 + 12 * kk : Nat) : Int) w0 wx Qs hO hk hat (by omega) hsl (by omega) (by rw [gotI_nil _ rfl (by omega), hs.n, h0])
  · have e : resOf S R kk = R (S kk) := if_neg h0
    obtain ⟨a1, a2, a3, a4, a5, a6⟩ := hs.r h0
    rw [e]
    exact LoadYes k g ys [] (a : Int) (kk : Int) (A : Int) ((A + 8 + 12 * kk : Nat) : Int) (S kk) ((R (S kk)).en + 256 * (R (S kk)).d.size) (R (S kk)).en (R (S kk)).d.size (R (S kk)).ra (R (S kk)).rb (R (S kk)).d w0 wx Qs hO hk hat (by omega) hsl (by omega) (by rw [gotI_nil _ rfl (by omega), hs.n]) (by omega) (by rw [gotI_nil (A + 8 + 12 * kk + 1) (by omega) (by omega)]; exact a3) rfl a1 a2 (by rw [gotI_nil (A + 8 + 12 * kk + 2) (by omega) (by omega)]; exact a4) (by rw [gotI_nil (A + 8 + 12 * kk + 3) (by omega) (by omega)]; exact a5) a6
theorem Once.of {ys : List Nat} {a A m : Nat} {S : Nat → Nat} {R : Nat → OnceR} (h : Once ys A m S R) (ha : a < 4) (hA : A = 8 + 64 * a) (k g n : Nat) (hn : 1 ≤ n) (hn2 : n ≤ 70) (c : Nat) (hc : OfR m n (S (n % 4)) = c) (p : OnceR) (hp : (c = 1 → p = R n) ∧ (c ≠ 1 → p = zeroR)) (w0 w : World) (Ps : List Pr) (hO : Own w0 w Ps) (hk : Ps[k]? = some (viewP g ys [])) :
    Calls Try.prog 14 #[.pointer (some ⟨g, 0, none⟩), .int .i64 (a : Int), .int .u64 1, .int .u64 (n : Int)] w fun e w' => e = .returned (.tuple #[.int .u8 (c : Int), .agg #[.int .i64 (p.en : Int), .int .u64 (p.ra : Int), .int .u64 (p.rb : Int), .string p.d], .int .i64 0]) ∧ Own w0 w' Ps := by
  have hl := h.len
  have hr : c = 1 → resOf S R (n % 4) = R n := fun e => by
    have hS : S (n % 4) = n := by
      rw [← hc] at e
      unfold OfR at e
      split at e
      · cases e
      · split at e
        · cases e
        · split at e
          · assumption
          · cases e
    unfold resOf; rw [hS, if_neg (by omega)]
  have hx := OfX k g ys [] (a : Int) (A : Int) 1 m n w0 w Ps hO hk (sess_at ha hA) (by omega) (by omega) (by rw [gotI_nil A rfl (by omega)]; exact h.o) (by rw [gotI_nil (A + 1) (by omega) (by omega)]; exact h.g) (by rw [gotI_nil (A + 2) (by omega) (by omega)]; exact h.m) hn (by omega) (S (n % 4)) (resOf S R (n % 4)).en (resOf S R (n % 4)).ra (resOf S R (n % 4)).rb p.en p.ra p.rb (resOf S R (n % 4)).d p.d (by
    rw [hc]
    exact ⟨fun e => by rw [hr e, hp.1 e]; exact ⟨rfl, rfl, rfl, rfl⟩, fun e => by rw [hp.2 e]; exact ⟨rfl, rfl, rfl, rfl⟩⟩) (fun wx Qs hOx hq => h.load ha hA k g (n % 4) (Nat.mod_lt _ (by decide)) w0 wx Qs hOx hq)
  rw [hc] at hx
  exact hx
theorem Once.ack {ys : List Nat} {a A m : Nat} {S : Nat → Nat} {R : Nat → OnceR} (h : Once ys A m S R) (ha : a < 4) (hA : A = 8 + 64 * a) (hm : m ≤ 70) (k g n M : Nat) (hn2 : n ≤ 70) (hM : ackM S (n - m) m = M) (w0 w : World) (Ps : List Pr) (hO : Own w0 w Ps) (hk : Ps[k]? = some (viewP g ys [])) :
    Calls Try.prog 16 #[.pointer (some ⟨g, 0, none⟩), .int .i64 (a : Int), .int .u64 1, .int .u64 (n : Int)] w fun e w' => ∃ L, e = .returned (.tuple #[.int .u64 (M : Int), .int .i64 0]) ∧ Own w0 w' (Ps.set k (viewP g ys L)) ∧ Hid (Wl ys.length L → Once (flatV ys L) A M S R) := by
  have hl := h.len
  obtain ⟨e1, e2⟩ := got_three hl A 1 1 M (by omega)
  refine (AckH k g ys [] a A 1 m n ha hA hl (by exact h.o) (by exact h.g) (by exact h.m) (by omega) (by omega) (by decide) w0 w Ps hO hk S (fun kk hkk wx Qs hOx hq => (h.load ha hA k g kk hkk w0 wx Qs hOx hq).mono ?_) M hM _ e1 rfl).mono ?_
  · rintro e w' ⟨rfl, h'⟩
    exact ⟨_, _, _, _, rfl, h'⟩
  · rintro e w' ⟨rfl, hO'⟩
    refine ⟨_, rfl, hO', Lib.hid (fun hw => ?_)⟩
    generalize allL ys [] [((A : Int), 1), ((A : Int) + 1, 1), ((A : Int) + 2, M)] = L at e2 hw
    have hg : ∀ j, j < 536 → (flatV ys L).getD j 0 = if j = A + 2 then M else ys.getD j 0 := fun j hj => by
      rw [Go.Grommet.flat_get hw j (by omega), e2]
      by_cases c2 : j = A + 2
      · rw [if_pos c2, if_pos c2]
      · rw [if_neg c2, if_neg c2]
        by_cases c1 : j = A + 1
        · rw [if_pos c1, c1, h.g]
        · rw [if_neg c1]
          by_cases c0 : j = A
          · rw [if_pos c0, c0, h.o]
          · rw [if_neg c0]
    refine ⟨by rw [flatV_length]; exact hl, flatV_small h.small hw.val, by rw [hg A (by omega), if_neg (by omega)]; exact h.o, by rw [hg (A + 1) (by omega), if_neg (by omega)]; exact h.g, by rw [hg (A + 2) (by omega), if_pos rfl], fun k hk => ?_⟩
    exact (h.s k hk).keep hl (by rw [flatV_length]; exact hl) (by omega) (fun j j1 j2 => by rw [hg j (by omega), if_neg (by omega)])
theorem Once.save {ys : List Nat} {a A m : Nat} {S : Nat → Nat} {R : Nat → OnceR} (h : Once ys A m S R) (ha : a < 4) (hA : A = 8 + 64 * a) (hmo : ∀ k, k < 4 → S k = 0 ∨ S k % 4 = k) (k g n : Nat) (hn : 1 ≤ n) (hn2 : n ≤ 70) (r : OnceR) (hen : r.en ≤ 24) (hd : r.d.size ≤ 64) (hra : r.ra < 18446744073709551616) (hrb : r.rb < 18446744073709551616) (w0 w : World) (Ps : List Pr) (hO : Own w0 w Ps) (hk : Ps[k]? = some (viewP g ys [])) :
    Calls Try.prog 27 #[.pointer (some ⟨g, 0, none⟩), .int .i64 (a : Int), .int .i64 ((n % 4 : Nat) : Int), .int .u64 (n : Int), .agg #[.int .i64 (r.en : Int), .int .u64 (r.ra : Int), .int .u64 (r.rb : Int), .string r.d]] w fun e w' => ∃ L, e = .returned (.int .i64 0) ∧ Own w0 w' (Ps.set k (viewP g ys L)) ∧ Hid (Wl ys.length L → Once (flatV ys L) A m (fun k => if k = n % 4 then n else S k) (fun j => if j = n then r else R j)) := by
  have hl := h.len
  obtain ⟨q, hq⟩ : ∃ q, n % 4 = q := ⟨_, rfl⟩
  have hq4 : q < 4 := by omega
  rw [hq]
  obtain ⟨sl, hsl0⟩ : ∃ sl, A + 8 + 12 * q = sl := ⟨_, rfl⟩
  have hsl : slotV (a : Int) (q : Int) = (sl : Int) := by unfold slotV; rw [if_pos ⟨⟨by omega, by omega⟩, by omega, by omega⟩]; omega
  obtain ⟨v1, v2, v3, v4, v5, v6, v7, v8, _, _⟩ := save_all (xs := ys) (sl := (sl : Int)) (by omega) (by omega) r.d (r.en + 256 * r.d.size) r.ra r.rb n ((r.d.size + 7) / 8) hd rfl _ rfl
  have hs := SaveYes k g ys [] (a : Int) (q : Int) (A : Int) (sl : Int) n r.en r.ra r.rb r.d w0 w Ps hO hk (sess_at ha hA) (by omega) hsl (by omega) ⟨hn, by omega⟩ hen hd hra hrb
  rw [v1] at hs
  refine hs.mono ?_
  rintro e w' ⟨rfl, hO'⟩
  refine ⟨_, rfl, hO', Lib.hid (fun hw => ?_)⟩
  generalize allL ys [] (saveS (sl : Int) (r.en + 256 * r.d.size) r.ra r.rb (words (bytesOf r.d) ((r.d.size + 7) / 8)) n) = L at v2 v3 v4 v5 v6 v7 v8 hw
  have hz : (flatV ys L).length = 536 := by rw [flatV_length]; exact hl
  have hg : ∀ j, j < 536 → (flatV ys L).getD j 0 = gotV ys L j := fun j hj => Go.Grommet.flat_get hw j (by omega)
  have hother : ∀ j, j < 536 → (j < sl ∨ sl + 12 ≤ j) → (flatV ys L).getD j 0 = ys.getD j 0 := fun j hj ho => by rw [hg j hj]; exact v3 j (by omega)
  refine ⟨hz, flatV_small h.small hw.val, by rw [hother A (by omega) (by omega)]; exact h.o, by rw [hother (A + 1) (by omega) (by omega)]; exact h.g, by rw [hother (A + 2) (by omega) (by omega)]; exact h.m, fun k hk => ?_⟩
  by_cases hkq : k = q
  · rw [if_pos hkq, if_pos rfl, hkq, hsl0]
    refine ⟨?_, fun _ => ⟨hen, hd, ?_, ?_, ?_, ?_⟩⟩
    · rw [hg sl (by omega), ← gotI_at (p := (sl : Int)) sl rfl (by omega)]; exact v4
    · rw [hg (sl + 1) (by omega), ← gotI_at (p := (sl : Int) + 1) (sl + 1) (by omega) (by omega)]; exact v5
    · rw [hg (sl + 2) (by omega), ← gotI_at (p := (sl : Int) + 2) (sl + 2) (by omega) (by omega)]; exact v6
    · rw [hg (sl + 3) (by omega), ← gotI_at (p := (sl : Int) + 3) (sl + 3) (by omega) (by omega)]; exact v7
    · rw [usT_congr (ys := flatV ys L) (zs := ys) (L := []) (M := L) sl 8 (fun i hi => by
        rw [gotI_nil (sl + (4 + i)) (by omega) (by omega), gotI_at (L := L) (sl + (4 + i)) (by omega) (by omega), hg _ (by omega)])]
      exact v8
  · have hSk : S k ≠ n := by rcases hmo k hk with e | e <;> omega
    rw [if_neg hkq, if_neg hSk]
    exact (h.s k hk).keep hl hz (by omega) (fun j j1 j2 => hother j (by omega) (by omega))
theorem Nums.save {m n : Nat} {S : Nat → Nat} {isf : Nat → Bool} (h : Nums m S isf) (h1 : m < n) (h2 : n ≤ m + 4) : Nums m (fun k => if k = n % 4 then n else S k) (fun j => if j = n then true else isf j) := by
  refine ⟨h.ml, fun j hj => ?_, fun k => ?_, fun k hk => ?_⟩
  · by_cases e : j = n
    · subst e; rw [if_pos rfl, if_pos rfl]; exact ⟨fun _ => rfl, fun _ => rfl⟩
    · rw [if_neg e]
      by_cases e4 : j % 4 = n % 4
      · rw [if_pos e4, h.is j hj]
        have := h.sl (j % 4)
        constructor <;> intro e <;> omega
      · rw [if_neg e4]; exact h.is j hj
  · split
    · exact h2
    · exact h.sl k
  · split
    · rename_i e; exact .inr e.symm
    · exact h.mo k hk
theorem ackM_ge (S : Nat → Nat) : ∀ f m, m ≤ ackM S f m
  | 0, m => Nat.le_refl _
  | f + 1, m => by
    unfold ackM
    split
    · have := ackM_ge S f (m + 1); omega
    · exact Nat.le_refl _
theorem Nums.ack {m n : Nat} {S : Nat → Nat} {isf : Nat → Bool} (h : Nums m S isf) (hn : n ≤ 70) : Nums (ackM S (n - m) m) S isf := by
  have h1 := ackM_ge S (n - m) m
  have h2 := ackM_le S (n - m) m
  have hm := h.ml
  refine ⟨by omega, fun j hj => h.is j (by omega), fun k => by have := h.sl k; omega, h.mo⟩
end Go.Proofs.Ytdpkpphjpihhkaa
end
section
/- ClassOnce: what was saved under which number, in the law's own two arrays. -/
namespace Go.Proofs.Ytdpkpphjpihhkaa
open Go.RowKit Go.Grommet

structure Arrs (R : Nat → OnceR) (isf : Nat → Bool) (hs bs : Array Value) : Prop where
  b : ∀ j, j < 80 → bs[j]? = some (.bool (isf j))
  hl : hs.size = 320
  h : ∀ j, j < 80 → isf j = true → hs[j * 4]? = some (.int .i64 ((R j).en : Int)) ∧ hs[j * 4 + 1]? = some (.int .u64 ((R j).ra : Int)) ∧ hs[j * 4 + 2]? = some (.int .u64 ((R j).rb : Int)) ∧ hs[j * 4 + 3]? = some (.string (R j).d)
theorem zb0 : Try.zeroCells63 = Array.replicate 80 (.bool false) := by kernel_rfl
theorem zb (j : Nat) (hj : j < 80) : (Try.zeroCells63)[j]? = some (.bool false) := by
  rw [zb0, Array.getElem?_replicate, if_pos hj]
theorem zs0 : (Try.zeroCells62).size = 320 := by kernel_rfl
theorem Arrs.begun (R : Nat → OnceR) : Arrs R (fun _ => false) Try.zeroCells62 Try.zeroCells63 :=
  ⟨fun j hj => zb j hj, zs0, fun j _ h => by cases h⟩
def put4 (hs : Array Value) (n : Nat) (r : OnceR) : Array Value := (((hs.setIfInBounds (n * 4) (.int .i64 (r.en : Int))).setIfInBounds (n * 4 + 1) (.int .u64 (r.ra : Int))).setIfInBounds (n * 4 + 2) (.int .u64 (r.rb : Int))).setIfInBounds (n * 4 + 3) (.string r.d)
theorem put4_ne (hs : Array Value) (n : Nat) (r : OnceR) (j : Nat) (h0 : j ≠ n * 4) (h1 : j ≠ n * 4 + 1) (h2 : j ≠ n * 4 + 2) (h3 : j ≠ n * 4 + 3) : (put4 hs n r)[j]? = hs[j]? := by
  unfold put4
  rw [Array.getElem?_setIfInBounds_ne (Ne.symm h3), Array.getElem?_setIfInBounds_ne (Ne.symm h2), Array.getElem?_setIfInBounds_ne (Ne.symm h1), Array.getElem?_setIfInBounds_ne (Ne.symm h0)]
theorem put4_at (hs : Array Value) (n : Nat) (r : OnceR) (hl : hs.size = 320) (hn : n < 80) : (put4 hs n r)[n * 4]? = some (.int .i64 (r.en : Int)) ∧ (put4 hs n r)[n * 4 + 1]? = some (.int .u64 (r.ra : Int)) ∧ (put4 hs n r)[n * 4 + 2]? = some (.int .u64 (r.rb : Int)) ∧ (put4 hs n r)[n * 4 + 3]? = some (.string r.d) := by
  unfold put4
  refine ⟨?_, ?_, ?_, ?_⟩
  · rw [Array.getElem?_setIfInBounds_ne (by omega), Array.getElem?_setIfInBounds_ne (by omega), Array.getElem?_setIfInBounds_ne (by omega), Array.getElem?_setIfInBounds_self_of_lt (by omega)]
  · rw [Array.getElem?_setIfInBounds_ne (by omega), Array.getElem?_setIfInBounds_ne (by omega), Array.getElem?_setIfInBounds_self_of_lt (by simp; omega)]
  · rw [Array.getElem?_setIfInBounds_ne (by omega), Array.getElem?_setIfInBounds_self_of_lt (by simp; omega)]
  · rw [Array.getElem?_setIfInBounds_self_of_lt (by simp; omega)]
theorem Arrs.save {R : Nat → OnceR} {isf : Nat → Bool} {hs bs : Array Value} (h : Arrs R isf hs bs) (n : Nat) (hn : n < 80) (r : OnceR) : Arrs (fun j => if j = n then r else R j) (fun j => if j = n then true else isf j) (put4 hs n r) (bs.setIfInBounds n (.bool true)) := by
  have hbl : n < bs.size := by
    have := h.b n hn
    exact (Array.getElem?_eq_some_iff.1 this).1
  refine ⟨fun j hj => ?_, ?_, fun j hj hs' => ?_⟩
  · by_cases e : j = n
    · subst e; rw [if_pos rfl, Array.getElem?_setIfInBounds_self_of_lt hbl]
    · rw [if_neg e, Array.getElem?_setIfInBounds_ne (fun x => e x.symm)]; exact h.b j hj
  · unfold put4; simp [h.hl]
  · by_cases e : j = n
    · subst e; rw [if_pos rfl]; exact put4_at hs j r h.hl hn
    · rw [if_neg e] at hs' ⊢
      obtain ⟨a0, a1, a2, a3⟩ := h.h j hj hs'
      exact ⟨by rw [put4_ne _ _ _ _ (by omega) (by omega) (by omega) (by omega)]; exact a0, by rw [put4_ne _ _ _ _ (by omega) (by omega) (by omega) (by omega)]; exact a1, by rw [put4_ne _ _ _ _ (by omega) (by omega) (by omega) (by omega)]; exact a2, by rw [put4_ne _ _ _ _ (by omega) (by omega) (by omega) (by omega)]; exact a3⟩
set_option maxRecDepth 100000 in
theorem res_same1 (en ra rb : Nat) (d : ByteArray) (wx : World) : (binOp .neq 39 (.agg #[.int .i64 (en : Int), .int .u64 (ra : Int), .int .u64 (rb : Int), .string d]) (.agg #[.int .i64 (en : Int), .int .u64 (ra : Int), .int .u64 (rb : Int), .string d])).run Try.prog wx = .ok (.bool false) wx := by
  go_simp
theorem OfR_cases (m n s : Nat) : (n ≤ m ∧ OfR m n s = 2) ∨ (m + 4 < n ∧ OfR m n s = 3) ∨ (m < n ∧ n ≤ m + 4 ∧ s = n ∧ OfR m n s = 1) ∨ (m < n ∧ n ≤ m + 4 ∧ s ≠ n ∧ OfR m n s = 0) := by
  unfold OfR
  by_cases h1 : n ≤ m
  · exact .inl ⟨h1, if_pos h1⟩
  · by_cases h2 : 4 < n - m
    · exact .inr (.inl ⟨by omega, by rw [if_neg h1, if_pos h2]⟩)
    · by_cases h3 : s = n
      · exact .inr (.inr (.inl ⟨by omega, by omega, h3, by rw [if_neg h1, if_neg h2, if_pos h3]⟩))
      · exact .inr (.inr (.inr ⟨by omega, by omega, h3, by rw [if_neg h1, if_neg h2, if_neg h3]⟩))
end Go.Proofs.Ytdpkpphjpihhkaa
end
