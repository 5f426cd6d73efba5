/- Package class: sessions opened and closed. -/
import Derived.Test.YtdpkpphjpihhkaaClaB
namespace Go.Proofs.Ytdpkpphjpihhkaa
open Go.RowKit Go.Grommet

set_option maxHeartbeats 1000000 in
/-- The head of a session. -/
theorem headG (k g : Nat) (xs : List Nat) (L : List (Nat × Nat)) (i at_ : Int) (o ge mk : Nat) (ob : Bool) (w0 w : World) (Ps : List Pr) (h : Own w0 w Ps) (hk : Ps[k]? = some (viewP g xs L)) (hat : sessionV i = at_) (ha : 0 ≤ at_ ∧ at_ + 64 ≤ (xs.length : Int)) (hxl : xs.length ≤ 1000000) (ho : gotI xs L at_ = o) (hob : ((o : Int) == 1) = ob) (ho1 : o ≤ 1) (hge : gotI xs L (at_ + 1) = ge) (hmk : gotI xs L (at_ + 2) = mk) :
    Calls Try.prog 35 #[.pointer (some ⟨g, 0, none⟩), .int .i64 i, .bool true] w fun e w' => e = .returned (.tuple #[.agg #[.bool ob, .int .u64 (ge : Int), .int .u64 (mk : Int)], .int .i64 0]) ∧ Own w0 w' Ps := by
  have hkl := (List.getElem?_eq_some_iff.1 hk).1
  obtain ⟨X, HX⟩ : ∃ X, Hid (X = w.heap.size) := ⟨_, Lib.hid rfl⟩
  have hO : Own w0 (w.alloc (.cells #[.bool false, .int .u64 0, .int .u64 0] 87)) (Ps ++ [boxP X 87 #[.bool false, .int .u64 0, .int .u64 0]]) := by rw [HX.out]; exact h.addBox _ _
  have HG := Lib.hid (GetOk k g xs L i at_ o ge mk ob w0 _ _ hO (by rw [List.getElem?_append_left hkl]; exact hk) hat ha hxl ho hob ho1 hge hmk)
  clear hO h hk hkl hat ha hxl ho hob ho1 hge hmk
  go_enter Try.func35, Try.ntmps35
  go_wp2_with fail
  rw [← HX.out]
  refine HG.out.mono ?_
  rintro e w5 ⟨rfl, hO⟩
  clear HG
  have hz : w5.heap[X]? = some (.cells #[.bool false, .int .u64 0, .int .u64 0] 87 (0, 0)) := Own.box hO Ps.length (by rw [List.getElem?_append_right (Nat.le_refl _), Nat.sub_self]; rfl)
  have Hq : Hid (∀ w6 : World, w5.grownBy w6 (some X) → Own w0 w6 Ps) := Lib.hid (fun w6 hg => hO.forget hg)
  clear hO
  have m0 : w5.cell? ⟨X, 0, none⟩ = some (.bool false) := by simp [World.cell?, hz]
  have q0 : w5.frozen? ⟨X, 0, none⟩ = false := by simp [World.frozen?, hz]
  have m1 : w5.cell? ⟨X, 1, none⟩ = some (.int .u64 0) := by simp [World.cell?, hz]
  have q1 : w5.frozen? ⟨X, 1, none⟩ = false := by simp [World.frozen?, hz]
  have m2 : w5.cell? ⟨X, 2, none⟩ = some (.int .u64 0) := by simp [World.cell?, hz]
  have q2 : w5.frozen? ⟨X, 2, none⟩ = false := by simp [World.frozen?, hz]
  have hz1 := heap_setCell_at (o := 0) hz (.bool ob)
  have hz2 := heap_setCell_at (o := 1) hz1 (.int .u64 (ge : Int))
  have hz3 := heap_setCell_at (o := 2) hz2 (.int .u64 (mk : Int))
  have g1 : w5.grownBy (((w5.setCell ⟨X, 0, none⟩ (.bool ob)).setCell ⟨X, 1, none⟩ (.int .u64 (ge : Int))).setCell ⟨X, 2, none⟩ (.int .u64 (mk : Int))) (some X) := grown_trans (grown_trans (grown_setCell _ ⟨X, 0, none⟩ _) (grown_setCell _ ⟨X, 1, none⟩ _)) (grown_setCell _ ⟨X, 2, none⟩ _)
  obtain ⟨W3, hW3⟩ : ∃ W3, W3 = (((w5.setCell ⟨X, 0, none⟩ (.bool ob)).setCell ⟨X, 1, none⟩ (.int .u64 (ge : Int))).setCell ⟨X, 2, none⟩ (.int .u64 (mk : Int))) := ⟨_, rfl⟩
  clear hz1 hz2
  go_wp2
  rw [← hW3] at hz3 g1 ⊢
  have Z0 : W3.cell? ⟨X, 0, none⟩ = some (.bool ob) := by simp [World.cell?, hz3]
  have Z1 : W3.cell? ⟨X, 1, none⟩ = some (.int .u64 (ge : Int)) := by simp [World.cell?, hz3]
  have Z2 : W3.cell? ⟨X, 2, none⟩ = some (.int .u64 (mk : Int)) := by simp [World.cell?, hz3]
  exact bodyPost_ret (v := .tuple #[.agg #[.bool ob, .int .u64 (ge : Int), .int .u64 (mk : Int)], .int .i64 0]) (by simp [results, Try.results35, go_sem, Z0, Z1, Z2]) rfl ⟨rfl, Hq.out _ g1⟩

set_option maxRecDepth 100000 in
set_option maxHeartbeats 2000000 in
/-- A session that is not open. -/
theorem OfShut (k g : Nat) (xs : List Nat) (L : List (Nat × Nat)) (i at_ : Int) (ge mk seq : Nat) (w0 w : World) (Ps : List Pr) (h : Own w0 w Ps) (hk : Ps[k]? = some (viewP g xs L)) (hat : sessionV i = at_) (ha : 0 ≤ at_ ∧ at_ + 64 ≤ (xs.length : Int)) (hxl : xs.length ≤ 1000000) (ho : gotI xs L at_ = 0) (hge : gotI xs L (at_ + 1) = ge) (hmk : gotI xs L (at_ + 2) = mk) (hs1 : 1 ≤ seq) (hs2 : seq ≤ 1099511627776) (gen : Nat) :
    Calls Try.prog 14 #[.pointer (some ⟨g, 0, none⟩), .int .i64 i, .int .u64 (gen : Int), .int .u64 (seq : Int)] w fun e w' => e = .returned (.tuple #[.int .u8 0, .agg #[.int .i64 0, .int .u64 0, .int .u64 0, .string ⟨#[]⟩], .int .i64 22]) ∧ Own w0 w' Ps := by
  have hkl := (List.getElem?_eq_some_iff.1 hk).1
  obtain ⟨X, HX⟩ : ∃ X, Hid (X = w.heap.size) := ⟨_, Lib.hid rfl⟩
  have hO : Own w0 (w.alloc (.cells #[.int .i64 0, .int .u64 0, .int .u64 0, .string ⟨#[]⟩] 39)) (Ps ++ [boxP X 39 #[.int .i64 0, .int .u64 0, .int .u64 0, .string ⟨#[]⟩]]) := by rw [HX.out]; exact h.addBox _ _
  have hkk : ∀ Rs, (Ps ++ Rs)[k]? = some (viewP g xs L) := fun Rs => by rw [List.getElem?_append_left hkl]; exact hk
  have HH := Lib.hid (headG k g xs L i at_ 0 ge mk false w0 _ _ hO (hkk _) hat ha hxl ho rfl (by decide) hge hmk)
  have HI := Lib.hid (fun wx => isNumber_any seq wx)
  have hnb : numB seq = true := by unfold numB; rw [decide_eq_true hs1, decide_eq_true hs2]; rfl
  rw [hnb] at HI
  have Hkk := Lib.hid hkk
  clear hnb hO h hk hkl hkk hat ha hxl ho hge hmk
  go_enter Try.func14, Try.ntmps14
  go_wp2_with fail
  rw [← HX.out]
  refine (HI.out _).mono ?_
  rintro e w5 ⟨rfl, rfl⟩
  go_wp2_with fail
  refine HH.out.mono ?_
  rintro e w1 ⟨rfl, hO⟩
  clear HH HI
  have hO := hO.addBox 87 #[.bool false, .int .u64 (ge : Int), .int .u64 (mk : Int)]
  obtain ⟨Y, HY⟩ : ∃ Y, Hid (Y = w1.heap.size) := ⟨_, Lib.hid rfl⟩
  have hYs : w1.heap.size = Y := HY.out.symm
  rw [hYs] at hO
  rw [List.append_assoc] at hO
  have hO : Own w0 (w1.alloc (.cells #[.bool false, .int .u64 (ge : Int), .int .u64 (mk : Int)] 87)) (Ps ++ boxP X 39 #[.int .i64 0, .int .u64 0, .int .u64 0, .string ⟨#[]⟩] :: [boxP Y 87 #[.bool false, .int .u64 (ge : Int), .int .u64 (mk : Int)]]) := hO
  obtain ⟨w2, hw2⟩ : ∃ w2, w1.alloc (.cells #[.bool false, .int .u64 (ge : Int), .int .u64 (mk : Int)] 87) = w2 := ⟨_, rfl⟩
  rw [hw2] at hO
  have hy : w2.heap[Y]? = some (.cells #[.bool false, .int .u64 (ge : Int), .int .u64 (mk : Int)] 87 (0, 0)) := Own.box hO (Ps.length + 1) (by rw [List.getElem?_append_right (by omega), show Ps.length + 1 - Ps.length = 1 from by omega]; rfl)
  have y0 : w2.cell? ⟨Y, 0, none⟩ = some (.bool false) := by simp [World.cell?, hy]
  have y1 : w2.cell? ⟨Y, 1, none⟩ = some (.int .u64 (ge : Int)) := by simp [World.cell?, hy]
  have y2 : w2.cell? ⟨Y, 2, none⟩ = some (.int .u64 (mk : Int)) := by simp [World.cell?, hy]
  clear hy
  have hz : w2.heap[X]? = some (.cells #[.int .i64 0, .int .u64 0, .int .u64 0, .string ⟨#[]⟩] 39 (0, 0)) := Own.box hO Ps.length (by rw [List.getElem?_append_right (Nat.le_refl _), Nat.sub_self]; rfl)
  have Hq : Hid (∀ w6 : World, w2.grownBy w6 (some X) → Own w0 w6 Ps) := Lib.hid (fun w6 hg => Own.forget (Qs := [_]) hO hg)
  clear hO
  have m0 : w2.cell? ⟨X, 0, none⟩ = some (.int .i64 0) := by simp [World.cell?, hz]
  have q0 : w2.frozen? ⟨X, 0, none⟩ = false := by simp [World.frozen?, hz]
  have m1 : w2.cell? ⟨X, 1, none⟩ = some (.int .u64 0) := by simp [World.cell?, hz]
  have q1 : w2.frozen? ⟨X, 1, none⟩ = false := by simp [World.frozen?, hz]
  have m2 : w2.cell? ⟨X, 2, none⟩ = some (.int .u64 0) := by simp [World.cell?, hz]
  have q2 : w2.frozen? ⟨X, 2, none⟩ = false := by simp [World.frozen?, hz]
  have m3 : w2.cell? ⟨X, 3, none⟩ = some (.string ⟨#[]⟩) := by simp [World.cell?, hz]
  have q3 : w2.frozen? ⟨X, 3, none⟩ = false := by simp [World.frozen?, hz]
  have hz1 := heap_setCell_at (o := 0) hz (.int .i64 0)
  have hz2 := heap_setCell_at (o := 1) hz1 (.int .u64 0)
  have hz3 := heap_setCell_at (o := 2) hz2 (.int .u64 0)
  have hz4 := heap_setCell_at (o := 3) hz3 (.string ⟨#[]⟩)
  have g1 : w2.grownBy ((((w2.setCell ⟨X, 0, none⟩ (.int .i64 0)).setCell ⟨X, 1, none⟩ (.int .u64 0)).setCell ⟨X, 2, none⟩ (.int .u64 0)).setCell ⟨X, 3, none⟩ (.string ⟨#[]⟩)) (some X) := (grown_trans (grown_trans (grown_trans (grown_setCell _ ⟨X, 0, none⟩ (.int .i64 0)) (grown_setCell _ ⟨X, 1, none⟩ (.int .u64 0))) (grown_setCell _ ⟨X, 2, none⟩ (.int .u64 0))) (grown_setCell _ ⟨X, 3, none⟩ (.string ⟨#[]⟩)))
  obtain ⟨W3, hW3⟩ : ∃ W3, W3 = ((((w2.setCell ⟨X, 0, none⟩ (.int .i64 0)).setCell ⟨X, 1, none⟩ (.int .u64 0)).setCell ⟨X, 2, none⟩ (.int .u64 0)).setCell ⟨X, 3, none⟩ (.string ⟨#[]⟩)) := ⟨_, rfl⟩
  clear hz1 hz2 hz3
  go_wp2_with fail
  rw [← hW3] at hz4 g1 ⊢
  have Z0 : W3.cell? ⟨X, 0, none⟩ = some (.int .i64 0) := by simp [World.cell?, hz4]
  have Z1 : W3.cell? ⟨X, 1, none⟩ = some (.int .u64 0) := by simp [World.cell?, hz4]
  have Z2 : W3.cell? ⟨X, 2, none⟩ = some (.int .u64 0) := by simp [World.cell?, hz4]
  have Z3 : W3.cell? ⟨X, 3, none⟩ = some (.string ⟨#[]⟩) := by simp [World.cell?, hz4]
  exact bodyPost_ret (v := .tuple #[.int .u8 0, .agg #[(.int .i64 0), (.int .u64 0), (.int .u64 0), (.string ⟨#[]⟩)], .int .i64 22]) (by simp [results, Try.results14, go_sem, Z0, Z1, Z2, Z3]) rfl ⟨rfl, Hq.out _ g1⟩


theorem set_same_view {Ps : List Pr} {k : Nat} {P : Pr} (h : Ps[k]? = some P) : Ps.set k P = Ps := by
  apply List.ext_getElem?
  intro j
  by_cases e : k = j
  · subst e; rw [List.getElem?_set_self (List.getElem?_eq_some_iff.1 h).1, h]
  · rw [List.getElem?_set_ne e]
/-- What an Open tells. -/
def openR (ob : Bool) (ge gen : Nat) : Nat := if ob = true ∧ gen = ge then 1 else if gen ≤ ge then 2 else if ob = true ∨ gen - ge ≠ 1 then 3 else 0
def closeR (ob : Bool) (ge gen : Nat) : Nat := if gen < ge then 2 else if ge < gen then 3 else if ob = true then 0 else 1

set_option maxRecDepth 100000 in
set_option maxHeartbeats 4000000 in
theorem OpenH (k g : Nat) (xs : List Nat) (L : List (Nat × Nat)) (i at_ : Int) (o ge mk gen : Nat) (ob : Bool) (w0 w : World) (Ps : List Pr) (h : Own w0 w Ps) (hk : Ps[k]? = some (viewP g xs L)) (hat : sessionV i = at_) (ha : 0 ≤ at_ ∧ at_ + 64 ≤ (xs.length : Int)) (hxl : xs.length ≤ 1000000) (ho : gotI xs L at_ = o) (hob : ((o : Int) == 1) = ob) (ho1 : o ≤ 1) (hge : gotI xs L (at_ + 1) = ge) (hmk : gotI xs L (at_ + 2) = mk) (hs1 : 1 ≤ gen) (hs2 : gen ≤ 1099511627776) (hg64 : gen < 18446744073709551616) (L1 : List (Nat × Nat)) (hE : allE xs L [(at_, 1), (at_ + 1, gen), (at_ + 2, 0)] = 0) (hL1 : allL xs L [(at_, 1), (at_ + 1, gen), (at_ + 2, 0)] = L1) (hWE : allE xs L1 (wipeS i) = 0) (hWL : allL xs L1 (wipeS i) = L1) :
    Calls Try.prog 18 #[.pointer (some ⟨g, 0, none⟩), .int .i64 i, .int .u64 (gen : Int)] w fun e w' => e = .returned (.tuple #[.int .u8 (openR ob ge gen : Int), .int .i64 0]) ∧ Own w0 w' (Ps.set k (viewP g xs (if openR ob ge gen = 0 then L1 else L))) := by
  have hkl := (List.getElem?_eq_some_iff.1 hk).1
  have HH := Lib.hid (headG k g xs L i at_ o ge mk ob w0 _ _ h hk hat ha hxl ho hob ho1 hge hmk)
  have HI := Lib.hid (fun wx => isNumber_any gen wx)
  have hnb : numB gen = true := by unfold numB; rw [decide_eq_true hs1, decide_eq_true hs2]; rfl
  rw [hnb] at HI
  have HPT := Lib.hid (fun wx Qs (hO : Own w0 wx Qs) (hkq : Qs[k]? = some (viewP g xs L)) (u : Nat) (hu : u < 18446744073709551616) (m : Nat) (hm : m < 18446744073709551616) => PutTrue k g xs L i at_ u m w0 wx Qs hO hkq hat ha hxl hu hm)
  have HPF := Lib.hid (fun wx Qs (hO : Own w0 wx Qs) (hkq : Qs[k]? = some (viewP g xs L)) (u : Nat) (hu : u < 18446744073709551616) (m : Nat) (hm : m < 18446744073709551616) => PutFalse k g xs L i at_ u m w0 wx Qs hO hkq hat ha hxl hu hm)
  have HWp := Lib.hid (fun wx Qs M (hO : Own w0 wx Qs) (hkq : Qs[k]? = some (viewP g xs M)) => WipeH k g xs M i at_ w0 wx Qs hO hkq hat ha)
  have Hk := Lib.hid hk
  have Hkl := Lib.hid hkl
  have HEs := Lib.hid (And.intro hE (And.intro hL1 (And.intro hWE hWL)))
  have Hg64 := Lib.hid hg64
  clear hnb h hk hkl hat ha hxl ho hob ho1 hge hmk hE hL1 hWE hWL hg64 HPF
  obtain ⟨c, hc⟩ : ∃ c, openR ob ge gen = c := ⟨_, rfl⟩
  rw [hc]
  obtain ⟨M, hM⟩ : ∃ M, (if c = 0 then L1 else L) = M := ⟨_, rfl⟩
  rw [hM]
  have HC := Lib.hid hc
  have HM := Lib.hid (show (c = 0 → M = L1) ∧ (c ≠ 0 → M = L) from ⟨fun e => by rw [← hM, if_pos e], fun e => by rw [← hM, if_neg e]⟩)
  clear hc hM
  go_enter Try.func18, Try.ntmps18
  go_wp2_with fail
  refine (HI.out _).mono ?_
  rintro e w5 ⟨rfl, rfl⟩
  go_wp2_with fail
  refine HH.out.mono ?_
  rintro e w1 ⟨rfl, hO1⟩
  clear HH HI
  have hO := hO1.addBox 87 #[.bool ob, .int .u64 (ge : Int), .int .u64 (mk : Int)]
  obtain ⟨Y, HY⟩ : ∃ Y, Hid (Y = w1.heap.size) := ⟨_, Lib.hid rfl⟩
  have hYs : w1.heap.size = Y := HY.out.symm
  rw [hYs] at hO
  obtain ⟨w2, hw2⟩ : ∃ w2, w1.alloc (.cells #[.bool ob, .int .u64 (ge : Int), .int .u64 (mk : Int)] 87) = w2 := ⟨_, rfl⟩
  rw [hw2] at hO
  have hy : w2.heap[Y]? = some (.cells #[.bool ob, .int .u64 (ge : Int), .int .u64 (mk : Int)] 87 (0, 0)) := Own.box hO Ps.length (by rw [List.getElem?_append_right (Nat.le_refl _), Nat.sub_self]; rfl)
  have y0 : w2.cell? ⟨Y, 0, none⟩ = some (.bool ob) := by simp [World.cell?, hy]
  have y1 : w2.cell? ⟨Y, 1, none⟩ = some (.int .u64 (ge : Int)) := by simp [World.cell?, hy]
  have y2 : w2.cell? ⟨Y, 2, none⟩ = some (.int .u64 (mk : Int)) := by simp [World.cell?, hy]
  have yz : w2.frozen? ⟨Y, 0, none⟩ = false := by simp [World.frozen?, hy]
  have hOP := Lib.hid (show Own w0 w2 Ps from hO.less)
  by_cases c1 : ob = true ∧ gen = ge
  · obtain ⟨rfl, rfl⟩ := c1
    have HR := Lib.hid (show c = 1 by rw [← HC.out]; unfold openR; rw [if_pos ⟨rfl, rfl⟩])
    have HL := Lib.hid (HM.out.2 (by rw [HR.out]; decide))
    have q1 : ((gen : Int) == (gen : Int)) = true := by simp
    clear hO hs1 hs2
    go_wp2
    exact bodyPost_ret (v := .tuple #[.int .u8 1, .int .i64 0]) (by simp [results, Try.results18, go_sem]) rfl ⟨by rw [HR.out]; rfl, by rw [HL.out, set_same_view Hk.out]; exact hOP.out⟩
  · by_cases c2 : gen ≤ ge
    · have HR := Lib.hid (show c = 2 by rw [← HC.out]; unfold openR; rw [if_neg c1, if_pos c2])
      have HL := Lib.hid (HM.out.2 (by rw [HR.out]; decide))
      have q2 : (gen : Int) ≤ (ge : Int) := by omega
      clear hO hs1 hs2
      cases ob with
      | true =>
        have q1 : ((gen : Int) == (ge : Int)) = false := by rw [beq_eq_false_iff_ne]; intro e; exact c1 ⟨rfl, by omega⟩
        clear c1 c2
        go_wp2
        exact bodyPost_ret (v := .tuple #[.int .u8 2, .int .i64 0]) (by simp [results, Try.results18, go_sem]) rfl ⟨by rw [HR.out]; rfl, by rw [HL.out, set_same_view Hk.out]; exact hOP.out⟩
      | false =>
        clear c1 c2
        go_wp2
        exact bodyPost_ret (v := .tuple #[.int .u8 2, .int .i64 0]) (by simp [results, Try.results18, go_sem]) rfl ⟨by rw [HR.out]; rfl, by rw [HL.out, set_same_view Hk.out]; exact hOP.out⟩
    · have q2 : ¬ (gen : Int) ≤ (ge : Int) := by omega
      obtain ⟨D, hD⟩ : ∃ D, gen - ge = D := ⟨_, rfl⟩
      have wd : IntKind.u64.wrap ((gen : Int) - (ge : Int)) = (D : Int) := by rw [IntWalk.u64_in _ ⟨by omega, by omega⟩]; omega
      have q1 : ((gen : Int) == (ge : Int)) = false := by rw [beq_eq_false_iff_ne]; omega
      cases ob with
      | true =>
        have HR := Lib.hid (show c = 3 by rw [← HC.out]; unfold openR; rw [if_neg c1, if_neg c2, if_pos (.inl rfl)])
        have HL := Lib.hid (HM.out.2 (by rw [HR.out]; decide))
        clear hO hs1 hs2 c1 c2 hD
        go_wp2
        exact bodyPost_ret (v := .tuple #[.int .u8 3, .int .i64 0]) (by simp [results, Try.results18, go_sem]) rfl ⟨by rw [HR.out]; rfl, by rw [HL.out, set_same_view Hk.out]; exact hOP.out⟩
      | false =>
        by_cases c3 : D = 1
        · have HR := Lib.hid (show c = 0 by rw [← HC.out]; unfold openR; rw [if_neg c1, if_neg c2, if_neg (by rw [hD]; simp [c3])])
          have HL := Lib.hid (HM.out.1 HR.out)
          have q3 : ((D : Int) != 1) = false := by rw [c3]; rfl
          have HP := Lib.hid (HPT.out w2 Ps hOP.out Hk.out gen Hg64.out 0 (by decide))
          rw [HEs.out.1, HEs.out.2.1] at HP
          have HW := Lib.hid (fun wx (hOx : Own w0 wx (Ps.set k (viewP g xs L1))) => HWp.out wx _ L1 hOx (List.getElem?_set_self Hkl.out))
          rw [HEs.out.2.2.1, HEs.out.2.2.2, List.set_set] at HW
          clear hO hs1 hs2 c1 c2 c3 hD hOP HPT HWp
          go_wp2_with fail
          refine HP.out.mono ?_
          rintro e w3 ⟨rfl, hO3⟩
          have HW2 := Lib.hid (HW.out _ hO3)
          clear HP HW hO3
          go_wp2_with fail
          refine HW2.out.mono ?_
          rintro e w4 ⟨rfl, hO4⟩
          have hO4 := Lib.hid hO4
          clear HW2
          go_wp2
          exact bodyPost_ret (v := .tuple #[.int .u8 0, .int .i64 0]) (by simp [results, Try.results18, go_sem]) rfl ⟨by rw [HR.out]; rfl, by rw [HL.out]; exact hO4.out⟩
        · have HR := Lib.hid (show c = 3 by rw [← HC.out]; unfold openR; rw [if_neg c1, if_neg c2, if_pos (.inr (by rw [hD]; exact c3))])
          have HL := Lib.hid (HM.out.2 (by rw [HR.out]; decide))
          have q3 : ((D : Int) != 1) = true := by simp; omega
          clear hO hs1 hs2 c1 c2 c3 hD
          go_wp2
          exact bodyPost_ret (v := .tuple #[.int .u8 3, .int .i64 0]) (by simp [results, Try.results18, go_sem]) rfl ⟨by rw [HR.out]; rfl, by rw [HL.out, set_same_view Hk.out]; exact hOP.out⟩

set_option maxRecDepth 100000 in
set_option maxHeartbeats 4000000 in
theorem CloseH (k g : Nat) (xs : List Nat) (L : List (Nat × Nat)) (i at_ : Int) (o ge mk gen : Nat) (ob : Bool) (w0 w : World) (Ps : List Pr) (h : Own w0 w Ps) (hk : Ps[k]? = some (viewP g xs L)) (hat : sessionV i = at_) (ha : 0 ≤ at_ ∧ at_ + 64 ≤ (xs.length : Int)) (hxl : xs.length ≤ 1000000) (ho : gotI xs L at_ = o) (hob : ((o : Int) == 1) = ob) (ho1 : o ≤ 1) (hge : gotI xs L (at_ + 1) = ge) (hmk : gotI xs L (at_ + 2) = mk) (hs1 : 1 ≤ gen) (hs2 : gen ≤ 1099511627776) (hge64 : ge < 18446744073709551616) (hmk64 : mk < 18446744073709551616) (L1 : List (Nat × Nat)) (hE : allE xs L [(at_, 0), (at_ + 1, ge), (at_ + 2, mk)] = 0) (hL1 : allL xs L [(at_, 0), (at_ + 1, ge), (at_ + 2, mk)] = L1) :
    Calls Try.prog 20 #[.pointer (some ⟨g, 0, none⟩), .int .i64 i, .int .u64 (gen : Int)] w fun e w' => e = .returned (.tuple #[.int .u8 (closeR ob ge gen : Int), .int .i64 0]) ∧ Own w0 w' (Ps.set k (viewP g xs (if closeR ob ge gen = 0 then L1 else L))) := by
  have hkl := (List.getElem?_eq_some_iff.1 hk).1
  have HH := Lib.hid (headG k g xs L i at_ o ge mk ob w0 _ _ h hk hat ha hxl ho hob ho1 hge hmk)
  have HI := Lib.hid (fun wx => isNumber_any gen wx)
  have hnb : numB gen = true := by unfold numB; rw [decide_eq_true hs1, decide_eq_true hs2]; rfl
  rw [hnb] at HI
  have HPT := Lib.hid (fun wx Qs (hO : Own w0 wx Qs) (hkq : Qs[k]? = some (viewP g xs L)) (u : Nat) (hu : u < 18446744073709551616) (m : Nat) (hm : m < 18446744073709551616) => PutTrue k g xs L i at_ u m w0 wx Qs hO hkq hat ha hxl hu hm)
  have HPF := Lib.hid (fun wx Qs (hO : Own w0 wx Qs) (hkq : Qs[k]? = some (viewP g xs L)) (u : Nat) (hu : u < 18446744073709551616) (m : Nat) (hm : m < 18446744073709551616) => PutFalse k g xs L i at_ u m w0 wx Qs hO hkq hat ha hxl hu hm)
  have HWp := Lib.hid (fun wx Qs M (hO : Own w0 wx Qs) (hkq : Qs[k]? = some (viewP g xs M)) => WipeH k g xs M i at_ w0 wx Qs hO hkq hat ha)
  have Hk := Lib.hid hk
  have Hkl := Lib.hid hkl
  have HEs := Lib.hid (And.intro hE hL1)
  have Hg64 := Lib.hid (And.intro hge64 hmk64)
  clear hnb h hk hkl hat ha hxl ho hob ho1 hge hmk hE hL1 hge64 hmk64 HPT HWp
  obtain ⟨c, hc⟩ : ∃ c, closeR ob ge gen = c := ⟨_, rfl⟩
  rw [hc]
  obtain ⟨M, hM⟩ : ∃ M, (if c = 0 then L1 else L) = M := ⟨_, rfl⟩
  rw [hM]
  have HC := Lib.hid hc
  have HM := Lib.hid (show (c = 0 → M = L1) ∧ (c ≠ 0 → M = L) from ⟨fun e => by rw [← hM, if_pos e], fun e => by rw [← hM, if_neg e]⟩)
  clear hc hM
  go_enter Try.func20, Try.ntmps20
  go_wp2_with fail
  refine (HI.out _).mono ?_
  rintro e w5 ⟨rfl, rfl⟩
  go_wp2_with fail
  refine HH.out.mono ?_
  rintro e w1 ⟨rfl, hO1⟩
  clear HH HI
  have hO := hO1.addBox 87 #[.bool ob, .int .u64 (ge : Int), .int .u64 (mk : Int)]
  obtain ⟨Y, HY⟩ : ∃ Y, Hid (Y = w1.heap.size) := ⟨_, Lib.hid rfl⟩
  have hYs : w1.heap.size = Y := HY.out.symm
  rw [hYs] at hO
  obtain ⟨w2, hw2⟩ : ∃ w2, w1.alloc (.cells #[.bool ob, .int .u64 (ge : Int), .int .u64 (mk : Int)] 87) = w2 := ⟨_, rfl⟩
  rw [hw2] at hO
  have hy : w2.heap[Y]? = some (.cells #[.bool ob, .int .u64 (ge : Int), .int .u64 (mk : Int)] 87 (0, 0)) := Own.box hO Ps.length (by rw [List.getElem?_append_right (Nat.le_refl _), Nat.sub_self]; rfl)
  have y0 : w2.cell? ⟨Y, 0, none⟩ = some (.bool ob) := by simp [World.cell?, hy]
  have y1 : w2.cell? ⟨Y, 1, none⟩ = some (.int .u64 (ge : Int)) := by simp [World.cell?, hy]
  have y2 : w2.cell? ⟨Y, 2, none⟩ = some (.int .u64 (mk : Int)) := by simp [World.cell?, hy]
  have yz : w2.frozen? ⟨Y, 0, none⟩ = false := by simp [World.frozen?, hy]
  have hOP := Lib.hid (show Own w0 w2 Ps from hO.less)
  by_cases c1 : gen < ge
  · have HR := Lib.hid (show c = 2 by rw [← HC.out]; unfold closeR; rw [if_pos c1])
    have HL := Lib.hid (HM.out.2 (by rw [HR.out]; decide))
    have q1 : (gen : Int) < (ge : Int) := by omega
    clear hO hs1 hs2 c1
    go_wp2
    exact bodyPost_ret (v := .tuple #[.int .u8 2, .int .i64 0]) (by simp [results, Try.results20, go_sem]) rfl ⟨by rw [HR.out]; rfl, by rw [HL.out, set_same_view Hk.out]; exact hOP.out⟩
  · have q1 : ¬ (gen : Int) < (ge : Int) := by omega
    by_cases c2 : ge < gen
    · have HR := Lib.hid (show c = 3 by rw [← HC.out]; unfold closeR; rw [if_neg c1, if_pos c2])
      have HL := Lib.hid (HM.out.2 (by rw [HR.out]; decide))
      have q2 : (ge : Int) < (gen : Int) := by omega
      clear hO hs1 hs2 c1 c2
      go_wp2
      exact bodyPost_ret (v := .tuple #[.int .u8 3, .int .i64 0]) (by simp [results, Try.results20, go_sem]) rfl ⟨by rw [HR.out]; rfl, by rw [HL.out, set_same_view Hk.out]; exact hOP.out⟩
    · have q2 : ¬ (ge : Int) < (gen : Int) := by omega
      cases ob with
      | false =>
        have HR := Lib.hid (show c = 1 by rw [← HC.out]; unfold closeR; rw [if_neg c1, if_neg c2, if_neg (by simp)])
        have HL := Lib.hid (HM.out.2 (by rw [HR.out]; decide))
        clear hO hs1 hs2 c1 c2
        go_wp2
        exact bodyPost_ret (v := .tuple #[.int .u8 1, .int .i64 0]) (by simp [results, Try.results20, go_sem]) rfl ⟨by rw [HR.out]; rfl, by rw [HL.out, set_same_view Hk.out]; exact hOP.out⟩
      | true =>
        have HR := Lib.hid (show c = 0 by rw [← HC.out]; unfold closeR; rw [if_neg c1, if_neg c2, if_pos rfl])
        have HL := Lib.hid (HM.out.1 HR.out)
        have hO9 := Lib.hid (show Own w0 (w2.setCell ⟨Y, 0, none⟩ (.bool false)) Ps from Own.forget (Qs := []) hO (grown_setCell w2 ⟨Y, 0, none⟩ _))
        have hy9 := heap_setCell_at (o := 0) hy (.bool false)
        obtain ⟨w9, hw9⟩ : ∃ w9, w2.setCell ⟨Y, 0, none⟩ (.bool false) = w9 := ⟨_, rfl⟩
        rw [hw9] at hO9 hy9
        have e0 : w9.cell? ⟨Y, 0, none⟩ = some (.bool false) := by simp [World.cell?, hy9]
        have e1 : w9.cell? ⟨Y, 1, none⟩ = some (.int .u64 (ge : Int)) := by simp [World.cell?, hy9]
        have e2 : w9.cell? ⟨Y, 2, none⟩ = some (.int .u64 (mk : Int)) := by simp [World.cell?, hy9]
        have HP := Lib.hid (HPF.out w9 Ps hO9.out Hk.out ge Hg64.out.1 mk Hg64.out.2)
        rw [HEs.out.1, HEs.out.2] at HP
        clear hO hs1 hs2 c1 c2 hOP HPF hy9
        go_wp2_with fail
        try rw [hw9]
        refine HP.out.mono ?_
        rintro e w3 ⟨rfl, hO3⟩
        have hO4 := Lib.hid hO3
        clear HP hO3
        go_wp2
        exact bodyPost_ret (v := .tuple #[.int .u8 0, .int .i64 0]) (by simp [results, Try.results20, go_sem]) rfl ⟨by rw [HR.out]; rfl, by rw [HL.out]; exact hO4.out⟩
end Go.Proofs.Ytdpkpphjpihhkaa
