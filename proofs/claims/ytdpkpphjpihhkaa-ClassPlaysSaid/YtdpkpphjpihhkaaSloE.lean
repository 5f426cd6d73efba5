/- Package slot: has, Get, Put. -/
import Derived.Test.YtdpkpphjpihhkaaSloD
import Derived.BigQuiet
import Derived.Deep.QuietTactic
import Derived.Deep.RegionHeld
namespace Go.Proofs.Ytdpkpphjpihhkaa
open Go.RowKit Go.Grommet

set_option maxRecDepth 100000 in
set_option maxHeartbeats 2000000 in
theorem hasH (k g : Nat) (xs : List Nat) (L : List (Nat × Nat)) (i at_ : Int) (w0 w : World) (Ps : List Pr) (h : Own w0 w Ps) (hk : Ps[k]? = some (viewP g xs L)) (hat : sessionV i = at_) (ha : 0 ≤ at_ ∧ at_ + 64 ≤ (xs.length : Int)) :
    Calls Try.prog 48 #[.pointer (some ⟨g, 0, none⟩), .int .i64 i, .bool true] w fun e w' => e = .returned (.int .i64 0) ∧ Own w0 w' Ps := by
  have hfit := (Own.wl h k hk).2.2
  have HS := Lib.hid (fun wx => SessionAt_any i wx)
  rw [hat] at HS
  have HL := Lib.hid (fun wx (hO : Own w0 wx Ps) => LenH k g xs L w0 wx Ps hO hk)
  generalize xs.length = n at *
  have a0 : ¬ at_ < 0 := by omega
  have d0 : decide (at_ < 0) = false := by simpa using a0
  have a1 : ¬ (n : Int) < at_ + 64 := by omega
  have wa : IntKind.i64.wrap (at_ + 64) = at_ + 64 := IntWalk.i64_in _ ⟨by omega, by omega⟩
  replace h := Lib.hid h
  clear hk hat hfit
  go_enter Try.func48, Try.ntmps48
  go_wp2_with fail
  refine (HS.out _).mono ?_
  rintro e w1 ⟨rfl, hg⟩
  have h1 := Lib.hid (h.out.quiet hg)
  clear hg h HS
  go_wp2_with fail
  refine (HL.out _ h1.out).mono ?_
  rintro e w2 ⟨rfl, rfl⟩
  go_wp2
  go_ret
  exact ⟨rfl, h1.out⟩

set_option maxRecDepth 100000 in
set_option maxHeartbeats 4000000 in
theorem GetOk (k g : Nat) (xs : List Nat) (L : List (Nat × Nat)) (i at_ : Int) (o ge mk : Nat) (ob : Bool) (w0 w : World) (Ps : List Pr) (h : Own w0 w Ps) (hk : Ps[k]? = some (viewP g xs L)) (hat : sessionV i = at_) (ha : 0 ≤ at_ ∧ at_ + 64 ≤ (xs.length : Int)) (hxl : xs.length ≤ 1000000) (ho : gotI xs L at_ = o) (hob : ((o : Int) == 1) = ob) (ho1 : o ≤ 1) (hge : gotI xs L (at_ + 1) = ge) (hmk : gotI xs L (at_ + 2) = mk) :
    Calls Try.prog 65 #[.pointer (some ⟨g, 0, none⟩), .int .i64 i] w fun e w' => e = .returned (.tuple #[.agg #[.bool ob, .int .u64 (ge : Int), .int .u64 (mk : Int)], .int .i64 0]) ∧ Own w0 w' Ps := by
  have hkl := (List.getElem?_eq_some_iff.1 hk).1
  obtain ⟨X, HX⟩ : ∃ X, Hid (X = w.heap.size) := ⟨_, Lib.hid rfl⟩
  have hO : Own w0 (w.alloc (.cells #[.bool false, .int .u64 0, .int .u64 0] 87)) (Ps ++ [boxP X 87 #[.bool false, .int .u64 0, .int .u64 0]]) := by rw [HX.out]; exact h.addBox _ _
  have Hk := Lib.hid (show ∀ Rs, (Ps ++ Rs)[k]? = some (viewP g xs L) from fun Rs => by rw [List.getElem?_append_left hkl]; exact hk)
  have HS := Lib.hid (fun wx => SessionAt_any i wx)
  rw [hat] at HS
  have Hhas := Lib.hid (fun wx (hO : Own w0 wx (Ps ++ [boxP X 87 #[.bool false, .int .u64 0, .int .u64 0]])) => hasH k g xs L i at_ w0 wx _ hO (Hk.out _) hat ha)
  have HG := Lib.hid (fun (p : Int) wx (hO : Own w0 wx (Ps ++ [boxP X 87 #[.bool false, .int .u64 0, .int .u64 0]])) => GetH k g xs L p w0 wx _ hO (Hk.out _))
  have HG0 := Lib.hid (fun wx hO => HG.out at_ wx hO)
  rw [ho] at HG0
  have HG1 := Lib.hid (fun wx hO => HG.out (at_ + 1) wx hO)
  rw [hge] at HG1
  have HG2 := Lib.hid (fun wx hO => HG.out (at_ + 2) wx hO)
  rw [hmk] at HG2
  have w1' : IntKind.i64.wrap (at_ + 1) = at_ + 1 := IntWalk.i64_in _ ⟨by omega, by omega⟩
  have w2' : IntKind.i64.wrap (at_ + 2) = at_ + 2 := IntWalk.i64_in _ ⟨by omega, by omega⟩
  have g0 : ¬ (1 : Int) < (o : Int) := by omega
  clear hge hmk
  replace hO := Lib.hid hO
  clear HG ho h hk hkl hat
  go_enter Try.func65, Try.ntmps65
  go_wp2_with fail
  rw [← HX.out]
  refine (Hhas.out _ hO.out).mono ?_
  rintro e w1 ⟨rfl, hO1⟩
  replace hO1 := Lib.hid hO1
  clear Hhas hO
  go_wp2_with fail
  refine (HS.out _).mono ?_
  rintro e w2 ⟨rfl, hg⟩
  have hO2 := Lib.hid (hO1.out.quiet hg)
  clear hg hO1 HS
  go_wp2_with fail
  refine (HG0.out _ hO2.out).mono ?_
  rintro e w3 ⟨rfl, rfl⟩
  go_wp2_with fail
  refine (HG1.out _ hO2.out).mono ?_
  rintro e w4 ⟨rfl, rfl⟩
  go_wp2_with fail
  refine (HG2.out _ hO2.out).mono ?_
  rintro e w5 ⟨rfl, rfl⟩
  have hz : w5.heap[X]? = some (.cells #[.bool false, .int .u64 0, .int .u64 0] 87 (0, 0)) := Own.box hO2.out Ps.length (by rw [List.getElem?_append_right (Nat.le_refl _), Nat.sub_self]; rfl)
  have Hq : Hid (∀ w6 : World, w5.grownBy w6 (some X) → Own w0 w6 Ps) := Lib.hid (fun w6 hg => hO2.out.forget hg)
  clear hO2 HG0 HG1 HG2
  have m0 : w5.cell? ⟨X, 0, none⟩ = some (.bool false) := by simp [World.cell?, hz]
  have m1 : w5.cell? ⟨X, 1, none⟩ = some (.int .u64 0) := by simp [World.cell?, hz]
  have m2 : w5.cell? ⟨X, 2, none⟩ = some (.int .u64 0) := by simp [World.cell?, hz]
  have q0 : w5.frozen? ⟨X, 0, none⟩ = false := by simp [World.frozen?, hz]
  have q1 : w5.frozen? ⟨X, 1, none⟩ = false := by simp [World.frozen?, hz]
  have q2 : w5.frozen? ⟨X, 2, none⟩ = false := by simp [World.frozen?, hz]
  have hz1 := heap_setCell_at (o := 0) hz (.bool ob)
  have hz2 := heap_setCell_at (o := 1) hz1 (.int .u64 (ge : Int))
  have hz3 := heap_setCell_at (o := 2) hz2 (.int .u64 (mk : Int))
  have g1 : w5.grownBy (((w5.setCell ⟨X, 0, none⟩ (.bool ob)).setCell ⟨X, 1, none⟩ (.int .u64 (ge : Int))).setCell ⟨X, 2, none⟩ (.int .u64 (mk : Int))) (some X) := (grown_trans (grown_trans (grown_setCell _ ⟨X, 0, none⟩ (.bool ob)) (grown_setCell _ ⟨X, 1, none⟩ (.int .u64 (ge : Int)))) (grown_setCell _ ⟨X, 2, none⟩ (.int .u64 (mk : Int))))
  obtain ⟨W3, hW3⟩ : ∃ W3, W3 = (((w5.setCell ⟨X, 0, none⟩ (.bool ob)).setCell ⟨X, 1, none⟩ (.int .u64 (ge : Int))).setCell ⟨X, 2, none⟩ (.int .u64 (mk : Int))) := ⟨_, rfl⟩
  clear hz1 hz2
  go_wp2
  rw [← hW3] at hz3 g1 ⊢
  have Z0 : W3.cell? ⟨X, 0, none⟩ = some (.bool ob) := by simp [World.cell?, hz3]
  have Z1 : W3.cell? ⟨X, 1, none⟩ = some (.int .u64 (ge : Int)) := by simp [World.cell?, hz3]
  have Z2 : W3.cell? ⟨X, 2, none⟩ = some (.int .u64 (mk : Int)) := by simp [World.cell?, hz3]
  exact bodyPost_ret (v := .tuple #[.agg #[.bool ob, .int .u64 (ge : Int), .int .u64 (mk : Int)], .int .i64 0]) (by simp [results, Try.results65, go_sem, Z0, Z1, Z2]) rfl ⟨rfl, Hq.out _ g1⟩

set_option maxRecDepth 100000 in
set_option maxHeartbeats 4000000 in
theorem GetBad (k g : Nat) (xs : List Nat) (L : List (Nat × Nat)) (i at_ : Int) (o : Nat) (w0 w : World) (Ps : List Pr) (h : Own w0 w Ps) (hk : Ps[k]? = some (viewP g xs L)) (hat : sessionV i = at_) (ha : 0 ≤ at_ ∧ at_ + 64 ≤ (xs.length : Int)) (hxl : xs.length ≤ 1000000) (ho : gotI xs L at_ = o) (ho1 : 1 < o) :
    Calls Try.prog 65 #[.pointer (some ⟨g, 0, none⟩), .int .i64 i] w fun e w' => e = .returned (.tuple #[.agg #[.bool false, .int .u64 0, .int .u64 0], .int .i64 4]) ∧ Own w0 w' Ps := by
  have hkl := (List.getElem?_eq_some_iff.1 hk).1
  obtain ⟨X, HX⟩ : ∃ X, Hid (X = w.heap.size) := ⟨_, Lib.hid rfl⟩
  have hO : Own w0 (w.alloc (.cells #[.bool false, .int .u64 0, .int .u64 0] 87)) (Ps ++ [boxP X 87 #[.bool false, .int .u64 0, .int .u64 0]]) := by rw [HX.out]; exact h.addBox _ _
  have Hk := Lib.hid (show ∀ Rs, (Ps ++ Rs)[k]? = some (viewP g xs L) from fun Rs => by rw [List.getElem?_append_left hkl]; exact hk)
  have HS := Lib.hid (fun wx => SessionAt_any i wx)
  rw [hat] at HS
  have Hhas := Lib.hid (fun wx (hO : Own w0 wx (Ps ++ [boxP X 87 #[.bool false, .int .u64 0, .int .u64 0]])) => hasH k g xs L i at_ w0 wx _ hO (Hk.out _) hat ha)
  have HG := Lib.hid (fun (p : Int) wx (hO : Own w0 wx (Ps ++ [boxP X 87 #[.bool false, .int .u64 0, .int .u64 0]])) => GetH k g xs L p w0 wx _ hO (Hk.out _))
  have HG0 := Lib.hid (fun wx hO => HG.out at_ wx hO)
  rw [ho] at HG0
  have g0 : (1 : Int) < (o : Int) := by omega
  have _h := hxl
  clear _h
  replace hO := Lib.hid hO
  clear HG ho h hk hkl hat
  go_enter Try.func65, Try.ntmps65
  go_wp2_with fail
  rw [← HX.out]
  refine (Hhas.out _ hO.out).mono ?_
  rintro e w1 ⟨rfl, hO1⟩
  replace hO1 := Lib.hid hO1
  clear Hhas hO
  go_wp2_with fail
  refine (HS.out _).mono ?_
  rintro e w2 ⟨rfl, hg⟩
  have hO2 := Lib.hid (hO1.out.quiet hg)
  clear hg hO1 HS
  go_wp2_with fail
  refine (HG0.out _ hO2.out).mono ?_
  rintro e w3 ⟨rfl, rfl⟩
  have hz : w3.heap[X]? = some (.cells #[.bool false, .int .u64 0, .int .u64 0] 87 (0, 0)) := Own.box hO2.out Ps.length (by rw [List.getElem?_append_right (Nat.le_refl _), Nat.sub_self]; rfl)
  have Hq : Hid (∀ w6 : World, w3.grownBy w6 (some X) → Own w0 w6 Ps) := Lib.hid (fun w6 hg => hO2.out.forget hg)
  clear hO2 HG0
  have m0 : w3.cell? ⟨X, 0, none⟩ = some (.bool false) := by simp [World.cell?, hz]
  have m1 : w3.cell? ⟨X, 1, none⟩ = some (.int .u64 0) := by simp [World.cell?, hz]
  have m2 : w3.cell? ⟨X, 2, none⟩ = some (.int .u64 0) := by simp [World.cell?, hz]
  have q0 : w3.frozen? ⟨X, 0, none⟩ = false := by simp [World.frozen?, hz]
  have q1 : w3.frozen? ⟨X, 1, none⟩ = false := by simp [World.frozen?, hz]
  have q2 : w3.frozen? ⟨X, 2, none⟩ = false := by simp [World.frozen?, hz]
  have hz1 := heap_setCell_at (o := 0) hz (.bool false)
  have hz2 := heap_setCell_at (o := 1) hz1 (.int .u64 0)
  have hz3 := heap_setCell_at (o := 2) hz2 (.int .u64 0)
  have g1 : w3.grownBy (((w3.setCell ⟨X, 0, none⟩ (.bool false)).setCell ⟨X, 1, none⟩ (.int .u64 0)).setCell ⟨X, 2, none⟩ (.int .u64 0)) (some X) := (grown_trans (grown_trans (grown_setCell _ ⟨X, 0, none⟩ (.bool false)) (grown_setCell _ ⟨X, 1, none⟩ (.int .u64 0))) (grown_setCell _ ⟨X, 2, none⟩ (.int .u64 0)))
  obtain ⟨W3, hW3⟩ : ∃ W3, W3 = (((w3.setCell ⟨X, 0, none⟩ (.bool false)).setCell ⟨X, 1, none⟩ (.int .u64 0)).setCell ⟨X, 2, none⟩ (.int .u64 0)) := ⟨_, rfl⟩
  clear hz1 hz2
  go_wp2
  rw [← hW3] at hz3 g1 ⊢
  have Z0 : W3.cell? ⟨X, 0, none⟩ = some (.bool false) := by simp [World.cell?, hz3]
  have Z1 : W3.cell? ⟨X, 1, none⟩ = some (.int .u64 0) := by simp [World.cell?, hz3]
  have Z2 : W3.cell? ⟨X, 2, none⟩ = some (.int .u64 0) := by simp [World.cell?, hz3]
  exact bodyPost_ret (v := .tuple #[.agg #[.bool false, .int .u64 0, .int .u64 0], .int .i64 4]) (by simp [results, Try.results65, go_sem, Z0, Z1, Z2]) rfl ⟨rfl, Hq.out _ g1⟩

def HeadS (X : Nat) (ob : Bool) (ge mk : Nat) (w : World) : Prop := w.heap[X]? = some (.cells #[.bool ob, .int .u64 (ge : Int), .int .u64 (mk : Int)] 87 (0, 0))
theorem HeadS.keep {X : Nat} {ob : Bool} {ge mk : Nat} {w w' : World} (h : HeadS X ob ge mk w) (hg : w.grownBy w' none) : HeadS X ob ge mk w' := (hg.block X (lt_of_block h) (by simp)).trans h
theorem HeadS.cells {X : Nat} {ob : Bool} {ge mk : Nat} {w : World} (h : HeadS X ob ge mk w) : w.cell? ⟨X, 0, none⟩ = some (.bool ob) ∧ w.cell? ⟨X, 1, none⟩ = some (.int .u64 (ge : Int)) ∧ w.cell? ⟨X, 2, none⟩ = some (.int .u64 (mk : Int)) := by
  unfold HeadS at h
  refine ⟨?_, ?_, ?_⟩ <;> simp [World.cell?, h]
theorem setH' (g : Nat) (a : Int) (v : Nat) (w0 w : World) (Ps : List Pr) (h : Own w0 w Ps) :
    Calls Try.prog 49 #[.pointer (some ⟨g, 0, none⟩), .int .i64 a, .int .u64 (v : Int)] w fun e w' => ∃ b, e = .returned (.func (.func 74) #[] #[.pointer (some ⟨b, 0, none⟩), .pointer (some ⟨b + 1, 0, none⟩), .pointer (some ⟨b + 2, 0, none⟩)]) ∧ Own w0 w' (Ps ++ [closP b g a v]) := setH g a v w0 w Ps h

set_option maxRecDepth 100000 in
set_option maxHeartbeats 4000000 in
theorem PutTrue (k g : Nat) (xs : List Nat) (L : List (Nat × Nat)) (i at_ : Int) (ge mk : Nat) (w0 w : World) (Ps : List Pr) (h : Own w0 w Ps) (hk : Ps[k]? = some (viewP g xs L)) (hat : sessionV i = at_) (ha : 0 ≤ at_ ∧ at_ + 64 ≤ (xs.length : Int)) (hxl : xs.length ≤ 1000000) (hge : ge < 18446744073709551616) (hmk : mk < 18446744073709551616) :
    Calls Try.prog 41 #[.pointer (some ⟨g, 0, none⟩), .int .i64 i, .agg #[.bool true, .int .u64 (ge : Int), .int .u64 (mk : Int)]] w fun e w' => e = .returned (.int .i64 (allE xs L [(at_, 1), (at_ + 1, ge), (at_ + 2, mk)] : Int)) ∧ Own w0 w' (Ps.set k (viewP g xs (allL xs L [(at_, 1), (at_ + 1, ge), (at_ + 2, mk)]))) := by
  have hkl := (List.getElem?_eq_some_iff.1 hk).1
  obtain ⟨X, HX⟩ : ∃ X, Hid (X = w.heap.size) := ⟨_, Lib.hid rfl⟩
  have hO : Own w0 (w.alloc (.cells #[.bool true, .int .u64 (ge : Int), .int .u64 (mk : Int)] 87)) (Ps ++ [boxP X 87 #[.bool true, .int .u64 (ge : Int), .int .u64 (mk : Int)]]) := by rw [HX.out]; exact h.addBox _ _
  have Hk := Lib.hid (show ∀ Rs, (Ps ++ Rs)[k]? = some (viewP g xs L) from fun Rs => by rw [List.getElem?_append_left hkl]; exact hk)
  have Hhead := Lib.hid (fun wx Rs (hO : Own w0 wx (Ps ++ (boxP X 87 #[.bool true, .int .u64 (ge : Int), .int .u64 (mk : Int)] :: Rs))) => show HeadS X true ge mk wx from Own.box hO Ps.length (by rw [List.getElem?_append_right (Nat.le_refl _), Nat.sub_self]; rfl))
  have Hhas := Lib.hid (fun wx (hO : Own w0 wx (Ps ++ [boxP X 87 #[.bool true, .int .u64 (ge : Int), .int .u64 (mk : Int)]])) => hasH k g xs L i at_ w0 wx _ hO (Hk.out _) hat ha)
  have HS := Lib.hid (fun wx => SessionAt_any i wx)
  rw [hat] at HS
  have HOrd := Lib.hid (fun b1 b2 b3 R wx (hO : Own w0 wx (Ps ++ [boxP X 87 #[.bool true, .int .u64 (ge : Int), .int .u64 (mk : Int)], closP b1 g at_ 1, closP b2 g (at_ + 1) ge, closP b3 g (at_ + 2) mk, rowP 105 1 (.slice (some ⟨R, 0, none⟩) 3 3) 3 ([b1, b2, b3].map fv)])) =>
    inOrderH k (Ps.length + 4) g xs L [(at_, 1), (at_ + 1, ge), (at_ + 2, mk)] [b1, b2, b3] (some ⟨R, 0, none⟩) 3 3 w0 wx _ hO (Hk.out _) (by rw [List.getElem?_append_right (by omega), show Ps.length + 4 - Ps.length = 4 from by omega]; rfl) (by omega) rfl rfl (by omega)
      (fun j hj => ⟨Ps.length + (j + 1), by omega, by
        rw [List.getElem?_append_right (by omega), show Ps.length + (j + 1) - Ps.length = j + 1 from by omega]
        have h3 : j = 0 ∨ j = 1 ∨ j = 2 := by omega
        rcases h3 with rfl | rfl | rfl <;> rfl⟩)
      (fun j hj => by
        have h3 : j = 0 ∨ j = 1 ∨ j = 2 := by omega
        rcases h3 with rfl | rfl | rfl
        · show 1 < _; omega
        · exact hge
        · exact hmk))
  have Hset := Lib.hid (show ∀ Rs M, (Ps ++ Rs).set k (viewP g xs M) = Ps.set k (viewP g xs M) ++ Rs from fun Rs M => List.set_append_left _ _ hkl)
  have HlenK := Lib.hid (show ∀ M, (Ps.set k (viewP g xs M)).length = Ps.length from fun M => List.length_set)
  generalize allE xs L [(at_, 1), (at_ + 1, ge), (at_ + 2, mk)] = EE at *
  generalize allL xs L [(at_, 1), (at_ + 1, ge), (at_ + 2, mk)] = LL at *
  have Hhead2 := Lib.hid (fun wx Rs (hO : Own w0 wx ((Ps ++ (boxP X 87 #[.bool true, .int .u64 (ge : Int), .int .u64 (mk : Int)] :: Rs)).set k (viewP g xs LL))) => show HeadS X true ge mk wx from by
    rw [Hset.out] at hO
    exact Own.box hO Ps.length (by rw [List.getElem?_append_right (by rw [HlenK.out]; exact Nat.le_refl _), HlenK.out, Nat.sub_self]; rfl))
  have w1' : IntKind.i64.wrap (at_ + 1) = at_ + 1 := IntWalk.i64_in _ ⟨by omega, by omega⟩
  have w2' : IntKind.i64.wrap (at_ + 2) = at_ + 2 := IntWalk.i64_in _ ⟨by omega, by omega⟩
  replace hO := Lib.hid hO
  clear h hk hkl hat ha hxl hge hmk
  go_enter Try.func41, Try.ntmps41
  go_wp2_with fail
  rw [← HX.out]
  refine (Hhas.out _ hO.out).mono ?_
  rintro e w1 ⟨rfl, hO1⟩
  replace hO := Lib.hid hO1
  clear Hhas hO1
  go_wp2_with fail
  refine (HS.out _).mono ?_
  rintro e w2 ⟨rfl, hg⟩
  replace hO := Lib.hid (hO.out.quiet hg)
  have HS0 := Hhead.out _ _ hO.out
  obtain ⟨y0, y1, y2⟩ := HS0.cells
  clear hg HS
  go_wp2_with fail
  refine wp_region_held_drew (S := fun w' => HeadS X true ge mk w') (by kernel_rfl) (HS0.keep (grown_drew (World.grownBy.refl _ none))) (fun hS => ?_)
  refine wpAnyH_take (i := 0) (oi := { dst := some 20, op := Op.move (Operand.tmp 0), type := 32, pos := "slot.go:60", after := #[], guard := none }) (v := ?vp141r8o0) rfl (by kernel_rfl) (by kernel_rfl) (by kernel_rfl) (fun _ _ _ h => h) (Or.inl ⟨by rfl, ?hp141r8o0⟩) hS ?_
  case hp141r8o0 => (intro wx hx; skip; go_simp; (try with_reducible rfl))
  try simp only [Act.put, List.setIfInBounds_toArray, List.set_cons_zero, List.set_cons_succ]
  refine wpAnyH_take (i := 1) (oi := { dst := some 21, op := Op.move (Operand.tmp 8), type := 3, pos := "slot.go:60", after := #[], guard := none }) (v := ?vp141r8o1) rfl (by kernel_rfl) (by kernel_rfl) (by kernel_rfl) (fun _ _ _ h => h) (Or.inl ⟨by rfl, ?hp141r8o1⟩) hS ?_
  case hp141r8o1 => (intro wx hx; skip; go_simp; (try with_reducible rfl))
  try simp only [Act.put, List.setIfInBounds_toArray, List.set_cons_zero, List.set_cons_succ]
  refine wpAnyH_take (i := 2) (oi := { dst := some 22, op := Op.move (Operand.tmp 9), type := 36, pos := "slot.go:60", after := #[], guard := none }) (v := ?vp141r8o2) rfl (by kernel_rfl) (by kernel_rfl) (by kernel_rfl) (fun _ _ _ h => h) (Or.inl ⟨by rfl, ?hp141r8o2⟩) hS ?_
  case hp141r8o2 => (intro wx hx; skip; go_simp; (try with_reducible rfl))
  try simp only [Act.put, List.setIfInBounds_toArray, List.set_cons_zero, List.set_cons_succ]
  refine wpAnyH_take (i := 4) (oi := { dst := some 24, op := Op.move (Operand.tmp 0), type := 32, pos := "slot.go:60", after := #[], guard := none }) (v := ?vp141r8o4) rfl (by kernel_rfl) (by kernel_rfl) (by kernel_rfl) (fun _ _ _ h => h) (Or.inl ⟨by rfl, ?hp141r8o4⟩) hS ?_
  case hp141r8o4 => (intro wx hx; skip; go_simp; (try with_reducible rfl))
  try simp only [Act.put, List.setIfInBounds_toArray, List.set_cons_zero, List.set_cons_succ]
  refine wpAnyH_take (i := 5) (oi := { dst := some 25, op := Op.move (Operand.tmp 8), type := 3, pos := "slot.go:60", after := #[], guard := none }) (v := ?vp141r8o5) rfl (by kernel_rfl) (by kernel_rfl) (by kernel_rfl) (fun _ _ _ h => h) (Or.inl ⟨by rfl, ?hp141r8o5⟩) hS ?_
  case hp141r8o5 => (intro wx hx; skip; go_simp; (try with_reducible rfl))
  try simp only [Act.put, List.setIfInBounds_toArray, List.set_cons_zero, List.set_cons_succ]
  refine wpAnyH_take (i := 6) (oi := { dst := some 26, op := Op.binOp BinOp.add 3 (Operand.tmp 25) (Operand.const (Value.int IntKind.i64 1)) 3, type := 3, pos := "slot.go:60", after := #[{ on := 5, ground := Ground.data }], guard := none }) (v := ?vp141r8o6) rfl (by kernel_rfl) (by kernel_rfl) (by kernel_rfl) (fun _ _ _ h => h) (Or.inl ⟨by rfl, ?hp141r8o6⟩) hS ?_
  case hp141r8o6 => (intro wx hx; skip; go_simp; (try with_reducible rfl))
  try simp only [Act.put, List.setIfInBounds_toArray, List.set_cons_zero, List.set_cons_succ]
  refine wpAnyH_take (i := 7) (oi := { dst := some 27, op := Op.fieldAddr 87 (Operand.tmp 5) 1, type := 0, pos := "slot.go:60", after := #[], guard := none }) (v := ?vp141r8o7) rfl (by kernel_rfl) (by kernel_rfl) (by kernel_rfl) (fun _ _ _ h => h) (Or.inl ⟨by rfl, ?hp141r8o7⟩) hS ?_
  case hp141r8o7 => (intro wx hx; skip; go_simp; (try with_reducible rfl))
  try simp only [Act.put, List.setIfInBounds_toArray, List.set_cons_zero, List.set_cons_succ]
  refine wpAnyH_take (i := 8) (oi := { dst := some 28, op := Op.load 36 (Operand.tmp 27), type := 36, pos := "slot.go:60", after := #[{ on := 7, ground := Ground.data }], guard := none }) (v := ?vp141r8o8) rfl (by kernel_rfl) (by kernel_rfl) (by kernel_rfl) (fun _ _ _ h => h) (Or.inl ⟨by rfl, ?hp141r8o8⟩) hS ?_
  case hp141r8o8 => (intro wx hx; obtain ⟨y0, y1, y2⟩ := HeadS.cells hx; go_simp; (try with_reducible rfl))
  try simp only [Act.put, List.setIfInBounds_toArray, List.set_cons_zero, List.set_cons_succ]
  refine wpAnyH_take (i := 10) (oi := { dst := some 30, op := Op.move (Operand.tmp 0), type := 32, pos := "slot.go:60", after := #[], guard := none }) (v := ?vp141r8o10) rfl (by kernel_rfl) (by kernel_rfl) (by kernel_rfl) (fun _ _ _ h => h) (Or.inl ⟨by rfl, ?hp141r8o10⟩) hS ?_
  case hp141r8o10 => (intro wx hx; skip; go_simp; (try with_reducible rfl))
  try simp only [Act.put, List.setIfInBounds_toArray, List.set_cons_zero, List.set_cons_succ]
  refine wpAnyH_take (i := 11) (oi := { dst := some 31, op := Op.move (Operand.tmp 8), type := 3, pos := "slot.go:60", after := #[], guard := none }) (v := ?vp141r8o11) rfl (by kernel_rfl) (by kernel_rfl) (by kernel_rfl) (fun _ _ _ h => h) (Or.inl ⟨by rfl, ?hp141r8o11⟩) hS ?_
  case hp141r8o11 => (intro wx hx; skip; go_simp; (try with_reducible rfl))
  try simp only [Act.put, List.setIfInBounds_toArray, List.set_cons_zero, List.set_cons_succ]
  refine wpAnyH_take (i := 12) (oi := { dst := some 32, op := Op.binOp BinOp.add 3 (Operand.tmp 31) (Operand.const (Value.int IntKind.i64 2)) 3, type := 3, pos := "slot.go:60", after := #[{ on := 11, ground := Ground.data }], guard := none }) (v := ?vp141r8o12) rfl (by kernel_rfl) (by kernel_rfl) (by kernel_rfl) (fun _ _ _ h => h) (Or.inl ⟨by rfl, ?hp141r8o12⟩) hS ?_
  case hp141r8o12 => (intro wx hx; skip; go_simp; (try with_reducible rfl))
  try simp only [Act.put, List.setIfInBounds_toArray, List.set_cons_zero, List.set_cons_succ]
  refine wpAnyH_take (i := 13) (oi := { dst := some 33, op := Op.fieldAddr 87 (Operand.tmp 5) 2, type := 0, pos := "slot.go:60", after := #[], guard := none }) (v := ?vp141r8o13) rfl (by kernel_rfl) (by kernel_rfl) (by kernel_rfl) (fun _ _ _ h => h) (Or.inl ⟨by rfl, ?hp141r8o13⟩) hS ?_
  case hp141r8o13 => (intro wx hx; skip; go_simp; (try with_reducible rfl))
  try simp only [Act.put, List.setIfInBounds_toArray, List.set_cons_zero, List.set_cons_succ]
  refine wpAnyH_take (i := 14) (oi := { dst := some 34, op := Op.load 36 (Operand.tmp 33), type := 36, pos := "slot.go:60", after := #[{ on := 13, ground := Ground.data }], guard := none }) (v := ?vp141r8o14) rfl (by kernel_rfl) (by kernel_rfl) (by kernel_rfl) (fun _ _ _ h => h) (Or.inl ⟨by rfl, ?hp141r8o14⟩) hS ?_
  case hp141r8o14 => (intro wx hx; obtain ⟨y0, y1, y2⟩ := HeadS.cells hx; go_simp; (try with_reducible rfl))
  try simp only [Act.put, List.setIfInBounds_toArray, List.set_cons_zero, List.set_cons_succ]
  refine wpAnyH_ready (rs := [3]) (by kernel_rfl) (by simp) ?_
  refine AllReadyH.cons (o := { dst := some 23, op := Op.call { callee := Callee.value (Operand.func 49), args := #[Operand.tmp 20, Operand.tmp 21, Operand.tmp 22], argTypes := #[32, 3, 36] }, type := 105, pos := "slot.go:60", after := #[{ on := 0, ground := Ground.data }, { on := 1, ground := Ground.data }, { on := 2, ground := Ground.data }], guard := none }) rfl (fun K hK => ?_) AllReadyH.nil
  go_simp
  refine (setH' g at_ 1 _ _ _ (hO.out.quiet (grown_drew (World.grownBy.refl _ none)))).mono ?_
  rintro e wA ⟨b1, rfl, hO1⟩
  rw [List.append_assoc] at hO1
  have hS1 := Hhead.out _ _ hO1
  refine hK.out _ _ ?hsp141r8o3 (fun hS => ?_)
  case hsp141r8o3 => (exact hS1)
  clear hK K
  try simp only [Act.put, List.setIfInBounds_toArray, List.set_cons_zero, List.set_cons_succ]
  refine wpAnyH_ready (rs := [9]) (by kernel_rfl) (by simp) ?_
  refine AllReadyH.cons (o := { dst := some 29, op := Op.call { callee := Callee.value (Operand.func 49), args := #[Operand.tmp 24, Operand.tmp 26, Operand.tmp 28], argTypes := #[32, 3, 36] }, type := 105, pos := "slot.go:60", after := #[{ on := 4, ground := Ground.data }, { on := 6, ground := Ground.data }, { on := 8, ground := Ground.data }, { on := 3, ground := Ground.chain }], guard := none }) rfl (fun K hK => ?_) AllReadyH.nil
  go_simp
  refine (setH' g (at_ + 1) ge _ _ _ hO1).mono ?_
  rintro e wB ⟨b2, rfl, hO2⟩
  rw [List.append_assoc] at hO2
  have hS1 := Hhead.out _ _ hO2
  refine hK.out _ _ ?hsp141r8o9 (fun hS => ?_)
  case hsp141r8o9 => (exact hS1)
  clear hK K
  try simp only [Act.put, List.setIfInBounds_toArray, List.set_cons_zero, List.set_cons_succ]
  refine wpAnyH_ready (rs := [15]) (by kernel_rfl) (by simp) ?_
  refine AllReadyH.cons (o := { dst := some 35, op := Op.call { callee := Callee.value (Operand.func 49), args := #[Operand.tmp 30, Operand.tmp 32, Operand.tmp 34], argTypes := #[32, 3, 36] }, type := 105, pos := "slot.go:60", after := #[{ on := 10, ground := Ground.data }, { on := 12, ground := Ground.data }, { on := 14, ground := Ground.data }, { on := 9, ground := Ground.chain }], guard := none }) rfl (fun K hK => ?_) AllReadyH.nil
  go_simp
  refine (setH' g (at_ + 2) mk _ _ _ hO2).mono ?_
  rintro e wC ⟨b3, rfl, hO3⟩
  rw [List.append_assoc] at hO3
  have hS1 := Hhead.out _ _ hO3
  refine hK.out _ _ ?hsp141r8o15 (fun hS => ?_)
  case hsp141r8o15 => (exact hS1)
  clear hK K
  try simp only [Act.put, List.setIfInBounds_toArray, List.set_cons_zero, List.set_cons_succ]
  refine wpAnyH_ready (rs := [16]) (by kernel_rfl) (by simp) ?_
  refine AllReadyH.cons (o := { dst := some 36, op := Op.buildSlice 107 3 #[(0, Operand.tmp 23), (1, Operand.tmp 29), (2, Operand.tmp 35)], type := 107, pos := "slot.go:60", after := #[{ on := 3, ground := Ground.data }, { on := 9, ground := Ground.data }, { on := 15, ground := Ground.data }], guard := none }) rfl (fun K hK => ?_) AllReadyH.nil
  go_simp
  skip
  refine hK.out _ _ ?hsp141r8o16 (fun hS => ?_)
  case hsp141r8o16 => (exact hS.keep (World.grownBy_alloc _ _ none))
  clear hK K
  try simp only [Act.put, List.setIfInBounds_toArray, List.set_cons_zero, List.set_cons_succ]
  refine wpAnyH_ready (rs := [17]) (by kernel_rfl) (by simp) ?_
  refine AllReadyH.cons (o := { dst := some 37, op := Op.call { callee := Callee.value (Operand.func 51), args := #[Operand.tmp 36], argTypes := #[107] }, type := 37, pos := "slot.go:60", after := #[{ on := 16, ground := Ground.data }, { on := 15, ground := Ground.chain }], guard := none }) rfl (fun K hK => ?_) AllReadyH.nil
  go_simp
  have hO4 := hO3.addRow (World.ownsRow_lit (size := 1) (base := wC.heap.size) (e := 105) wC ([.func (.func 74) #[] #[.pointer (some ⟨b1, 0, none⟩), .pointer (some ⟨b1 + 1, 0, none⟩), .pointer (some ⟨b1 + 2, 0, none⟩)], .func (.func 74) #[] #[.pointer (some ⟨b2, 0, none⟩), .pointer (some ⟨b2 + 1, 0, none⟩), .pointer (some ⟨b2 + 2, 0, none⟩)], .func (.func 74) #[] #[.pointer (some ⟨b3, 0, none⟩), .pointer (some ⟨b3 + 1, 0, none⟩), .pointer (some ⟨b3 + 2, 0, none⟩)]]).toArray 3 (Nat.le_refl _) (by unfold maxLen; omega) (by simp)) (World.grownBy_alloc wC _ none)
  rw [List.append_assoc] at hO4
  refine (HOrd.out b1 b2 b3 wC.heap.size _ hO4).mono ?_
  rintro e wD ⟨rfl, hO5⟩
  have hS1 := Hhead2.out _ _ hO5
  refine hK.out _ _ ?hsp141r8o17 (fun hS => ?_)
  case hsp141r8o17 => (exact hS1)
  clear hK K
  try simp only [Act.put, List.setIfInBounds_toArray, List.set_cons_zero, List.set_cons_succ]
  refine wpAnyH_take (i := 18) (oi := { dst := some 6, op := Op.assign (Operand.tmp 37), type := 37, pos := "slot.go:60", after := #[{ on := 17, ground := Ground.data }, { on := 17, ground := Ground.chain }, { on := 0, ground := Ground.phase }, { on := 1, ground := Ground.phase }, { on := 2, ground := Ground.phase }, { on := 3, ground := Ground.phase }, { on := 4, ground := Ground.phase }, { on := 5, ground := Ground.phase }, { on := 6, ground := Ground.phase }, { on := 7, ground := Ground.phase }, { on := 8, ground := Ground.phase }, { on := 9, ground := Ground.phase }, { on := 10, ground := Ground.phase }, { on := 11, ground := Ground.phase }, { on := 12, ground := Ground.phase }, { on := 13, ground := Ground.phase }, { on := 14, ground := Ground.phase }, { on := 15, ground := Ground.phase }, { on := 16, ground := Ground.phase }, { on := 17, ground := Ground.phase }], guard := none }) (v := ?vp141r8o18) rfl (by kernel_rfl) (by kernel_rfl) (by kernel_rfl) (fun _ _ _ h => h) (Or.inl ⟨by rfl, ?hp141r8o18⟩) hS ?_
  case hp141r8o18 => (intro wx hx; skip; go_simp; (try with_reducible rfl))
  try simp only [Act.put, List.setIfInBounds_toArray, List.set_cons_zero, List.set_cons_succ]
  refine wpAnyH_done (by kernel_rfl) ?_ _
  have hO6 : Hid (Own w0 wD (Ps.set k (viewP g xs LL))) := Lib.hid (by rw [Hset.out] at hO5; exact hO5.less)
  clear hS hS1 HS0 hO hO1 hO2 hO3 hO4 hO5
  go_wp2
  go_ret
  exact ⟨rfl, hO6.out⟩

set_option maxRecDepth 100000 in
set_option maxHeartbeats 4000000 in
theorem PutFalse (k g : Nat) (xs : List Nat) (L : List (Nat × Nat)) (i at_ : Int) (ge mk : Nat) (w0 w : World) (Ps : List Pr) (h : Own w0 w Ps) (hk : Ps[k]? = some (viewP g xs L)) (hat : sessionV i = at_) (ha : 0 ≤ at_ ∧ at_ + 64 ≤ (xs.length : Int)) (hxl : xs.length ≤ 1000000) (hge : ge < 18446744073709551616) (hmk : mk < 18446744073709551616) :
    Calls Try.prog 41 #[.pointer (some ⟨g, 0, none⟩), .int .i64 i, .agg #[.bool false, .int .u64 (ge : Int), .int .u64 (mk : Int)]] w fun e w' => e = .returned (.int .i64 (allE xs L [(at_, 0), (at_ + 1, ge), (at_ + 2, mk)] : Int)) ∧ Own w0 w' (Ps.set k (viewP g xs (allL xs L [(at_, 0), (at_ + 1, ge), (at_ + 2, mk)]))) := by
  have hkl := (List.getElem?_eq_some_iff.1 hk).1
  obtain ⟨X, HX⟩ : ∃ X, Hid (X = w.heap.size) := ⟨_, Lib.hid rfl⟩
  have hO : Own w0 (w.alloc (.cells #[.bool false, .int .u64 (ge : Int), .int .u64 (mk : Int)] 87)) (Ps ++ [boxP X 87 #[.bool false, .int .u64 (ge : Int), .int .u64 (mk : Int)]]) := by rw [HX.out]; exact h.addBox _ _
  have Hk := Lib.hid (show ∀ Rs, (Ps ++ Rs)[k]? = some (viewP g xs L) from fun Rs => by rw [List.getElem?_append_left hkl]; exact hk)
  have Hhead := Lib.hid (fun wx Rs (hO : Own w0 wx (Ps ++ (boxP X 87 #[.bool false, .int .u64 (ge : Int), .int .u64 (mk : Int)] :: Rs))) => show HeadS X false ge mk wx from Own.box hO Ps.length (by rw [List.getElem?_append_right (Nat.le_refl _), Nat.sub_self]; rfl))
  have Hhas := Lib.hid (fun wx (hO : Own w0 wx (Ps ++ [boxP X 87 #[.bool false, .int .u64 (ge : Int), .int .u64 (mk : Int)]])) => hasH k g xs L i at_ w0 wx _ hO (Hk.out _) hat ha)
  have HS := Lib.hid (fun wx => SessionAt_any i wx)
  rw [hat] at HS
  have HOrd := Lib.hid (fun b1 b2 b3 R wx (hO : Own w0 wx (Ps ++ [boxP X 87 #[.bool false, .int .u64 (ge : Int), .int .u64 (mk : Int)], closP b1 g at_ 0, closP b2 g (at_ + 1) ge, closP b3 g (at_ + 2) mk, rowP 105 1 (.slice (some ⟨R, 0, none⟩) 3 3) 3 ([b1, b2, b3].map fv)])) =>
    inOrderH k (Ps.length + 4) g xs L [(at_, 0), (at_ + 1, ge), (at_ + 2, mk)] [b1, b2, b3] (some ⟨R, 0, none⟩) 3 3 w0 wx _ hO (Hk.out _) (by rw [List.getElem?_append_right (by omega), show Ps.length + 4 - Ps.length = 4 from by omega]; rfl) (by omega) rfl rfl (by omega)
      (fun j hj => ⟨Ps.length + (j + 1), by omega, by
        rw [List.getElem?_append_right (by omega), show Ps.length + (j + 1) - Ps.length = j + 1 from by omega]
        have h3 : j = 0 ∨ j = 1 ∨ j = 2 := by omega
        rcases h3 with rfl | rfl | rfl <;> rfl⟩)
      (fun j hj => by
        have h3 : j = 0 ∨ j = 1 ∨ j = 2 := by omega
        rcases h3 with rfl | rfl | rfl
        · show 0 < _; omega
        · exact hge
        · exact hmk))
  have Hset := Lib.hid (show ∀ Rs M, (Ps ++ Rs).set k (viewP g xs M) = Ps.set k (viewP g xs M) ++ Rs from fun Rs M => List.set_append_left _ _ hkl)
  have HlenK := Lib.hid (show ∀ M, (Ps.set k (viewP g xs M)).length = Ps.length from fun M => List.length_set)
  generalize allE xs L [(at_, 0), (at_ + 1, ge), (at_ + 2, mk)] = EE at *
  generalize allL xs L [(at_, 0), (at_ + 1, ge), (at_ + 2, mk)] = LL at *
  have Hhead2 := Lib.hid (fun wx Rs (hO : Own w0 wx ((Ps ++ (boxP X 87 #[.bool false, .int .u64 (ge : Int), .int .u64 (mk : Int)] :: Rs)).set k (viewP g xs LL))) => show HeadS X false ge mk wx from by
    rw [Hset.out] at hO
    exact Own.box hO Ps.length (by rw [List.getElem?_append_right (by rw [HlenK.out]; exact Nat.le_refl _), HlenK.out, Nat.sub_self]; rfl))
  have w1' : IntKind.i64.wrap (at_ + 1) = at_ + 1 := IntWalk.i64_in _ ⟨by omega, by omega⟩
  have w2' : IntKind.i64.wrap (at_ + 2) = at_ + 2 := IntWalk.i64_in _ ⟨by omega, by omega⟩
  replace hO := Lib.hid hO
  clear h hk hkl hat ha hxl hge hmk
  go_enter Try.func41, Try.ntmps41
  go_wp2_with fail
  rw [← HX.out]
  refine (Hhas.out _ hO.out).mono ?_
  rintro e w1 ⟨rfl, hO1⟩
  replace hO := Lib.hid hO1
  clear Hhas hO1
  go_wp2_with fail
  refine (HS.out _).mono ?_
  rintro e w2 ⟨rfl, hg⟩
  replace hO := Lib.hid (hO.out.quiet hg)
  have HS0 := Hhead.out _ _ hO.out
  obtain ⟨y0, y1, y2⟩ := HS0.cells
  clear hg HS
  go_wp2_with fail
  refine wp_region_held_drew (S := fun w' => HeadS X false ge mk w') (by kernel_rfl) (HS0.keep (grown_drew (World.grownBy.refl _ none))) (fun hS => ?_)
  refine wpAnyH_take (i := 0) (oi := { dst := some 20, op := Op.move (Operand.tmp 0), type := 32, pos := "slot.go:60", after := #[], guard := none }) (v := ?vp041r8o0) rfl (by kernel_rfl) (by kernel_rfl) (by kernel_rfl) (fun _ _ _ h => h) (Or.inl ⟨by rfl, ?hp041r8o0⟩) hS ?_
  case hp041r8o0 => (intro wx hx; skip; go_simp; (try with_reducible rfl))
  try simp only [Act.put, List.setIfInBounds_toArray, List.set_cons_zero, List.set_cons_succ]
  refine wpAnyH_take (i := 1) (oi := { dst := some 21, op := Op.move (Operand.tmp 8), type := 3, pos := "slot.go:60", after := #[], guard := none }) (v := ?vp041r8o1) rfl (by kernel_rfl) (by kernel_rfl) (by kernel_rfl) (fun _ _ _ h => h) (Or.inl ⟨by rfl, ?hp041r8o1⟩) hS ?_
  case hp041r8o1 => (intro wx hx; skip; go_simp; (try with_reducible rfl))
  try simp only [Act.put, List.setIfInBounds_toArray, List.set_cons_zero, List.set_cons_succ]
  refine wpAnyH_take (i := 2) (oi := { dst := some 22, op := Op.move (Operand.tmp 9), type := 36, pos := "slot.go:60", after := #[], guard := none }) (v := ?vp041r8o2) rfl (by kernel_rfl) (by kernel_rfl) (by kernel_rfl) (fun _ _ _ h => h) (Or.inl ⟨by rfl, ?hp041r8o2⟩) hS ?_
  case hp041r8o2 => (intro wx hx; skip; go_simp; (try with_reducible rfl))
  try simp only [Act.put, List.setIfInBounds_toArray, List.set_cons_zero, List.set_cons_succ]
  refine wpAnyH_take (i := 4) (oi := { dst := some 24, op := Op.move (Operand.tmp 0), type := 32, pos := "slot.go:60", after := #[], guard := none }) (v := ?vp041r8o4) rfl (by kernel_rfl) (by kernel_rfl) (by kernel_rfl) (fun _ _ _ h => h) (Or.inl ⟨by rfl, ?hp041r8o4⟩) hS ?_
  case hp041r8o4 => (intro wx hx; skip; go_simp; (try with_reducible rfl))
  try simp only [Act.put, List.setIfInBounds_toArray, List.set_cons_zero, List.set_cons_succ]
  refine wpAnyH_take (i := 5) (oi := { dst := some 25, op := Op.move (Operand.tmp 8), type := 3, pos := "slot.go:60", after := #[], guard := none }) (v := ?vp041r8o5) rfl (by kernel_rfl) (by kernel_rfl) (by kernel_rfl) (fun _ _ _ h => h) (Or.inl ⟨by rfl, ?hp041r8o5⟩) hS ?_
  case hp041r8o5 => (intro wx hx; skip; go_simp; (try with_reducible rfl))
  try simp only [Act.put, List.setIfInBounds_toArray, List.set_cons_zero, List.set_cons_succ]
  refine wpAnyH_take (i := 6) (oi := { dst := some 26, op := Op.binOp BinOp.add 3 (Operand.tmp 25) (Operand.const (Value.int IntKind.i64 1)) 3, type := 3, pos := "slot.go:60", after := #[{ on := 5, ground := Ground.data }], guard := none }) (v := ?vp041r8o6) rfl (by kernel_rfl) (by kernel_rfl) (by kernel_rfl) (fun _ _ _ h => h) (Or.inl ⟨by rfl, ?hp041r8o6⟩) hS ?_
  case hp041r8o6 => (intro wx hx; skip; go_simp; (try with_reducible rfl))
  try simp only [Act.put, List.setIfInBounds_toArray, List.set_cons_zero, List.set_cons_succ]
  refine wpAnyH_take (i := 7) (oi := { dst := some 27, op := Op.fieldAddr 87 (Operand.tmp 5) 1, type := 0, pos := "slot.go:60", after := #[], guard := none }) (v := ?vp041r8o7) rfl (by kernel_rfl) (by kernel_rfl) (by kernel_rfl) (fun _ _ _ h => h) (Or.inl ⟨by rfl, ?hp041r8o7⟩) hS ?_
  case hp041r8o7 => (intro wx hx; skip; go_simp; (try with_reducible rfl))
  try simp only [Act.put, List.setIfInBounds_toArray, List.set_cons_zero, List.set_cons_succ]
  refine wpAnyH_take (i := 8) (oi := { dst := some 28, op := Op.load 36 (Operand.tmp 27), type := 36, pos := "slot.go:60", after := #[{ on := 7, ground := Ground.data }], guard := none }) (v := ?vp041r8o8) rfl (by kernel_rfl) (by kernel_rfl) (by kernel_rfl) (fun _ _ _ h => h) (Or.inl ⟨by rfl, ?hp041r8o8⟩) hS ?_
  case hp041r8o8 => (intro wx hx; obtain ⟨y0, y1, y2⟩ := HeadS.cells hx; go_simp; (try with_reducible rfl))
  try simp only [Act.put, List.setIfInBounds_toArray, List.set_cons_zero, List.set_cons_succ]
  refine wpAnyH_take (i := 10) (oi := { dst := some 30, op := Op.move (Operand.tmp 0), type := 32, pos := "slot.go:60", after := #[], guard := none }) (v := ?vp041r8o10) rfl (by kernel_rfl) (by kernel_rfl) (by kernel_rfl) (fun _ _ _ h => h) (Or.inl ⟨by rfl, ?hp041r8o10⟩) hS ?_
  case hp041r8o10 => (intro wx hx; skip; go_simp; (try with_reducible rfl))
  try simp only [Act.put, List.setIfInBounds_toArray, List.set_cons_zero, List.set_cons_succ]
  refine wpAnyH_take (i := 11) (oi := { dst := some 31, op := Op.move (Operand.tmp 8), type := 3, pos := "slot.go:60", after := #[], guard := none }) (v := ?vp041r8o11) rfl (by kernel_rfl) (by kernel_rfl) (by kernel_rfl) (fun _ _ _ h => h) (Or.inl ⟨by rfl, ?hp041r8o11⟩) hS ?_
  case hp041r8o11 => (intro wx hx; skip; go_simp; (try with_reducible rfl))
  try simp only [Act.put, List.setIfInBounds_toArray, List.set_cons_zero, List.set_cons_succ]
  refine wpAnyH_take (i := 12) (oi := { dst := some 32, op := Op.binOp BinOp.add 3 (Operand.tmp 31) (Operand.const (Value.int IntKind.i64 2)) 3, type := 3, pos := "slot.go:60", after := #[{ on := 11, ground := Ground.data }], guard := none }) (v := ?vp041r8o12) rfl (by kernel_rfl) (by kernel_rfl) (by kernel_rfl) (fun _ _ _ h => h) (Or.inl ⟨by rfl, ?hp041r8o12⟩) hS ?_
  case hp041r8o12 => (intro wx hx; skip; go_simp; (try with_reducible rfl))
  try simp only [Act.put, List.setIfInBounds_toArray, List.set_cons_zero, List.set_cons_succ]
  refine wpAnyH_take (i := 13) (oi := { dst := some 33, op := Op.fieldAddr 87 (Operand.tmp 5) 2, type := 0, pos := "slot.go:60", after := #[], guard := none }) (v := ?vp041r8o13) rfl (by kernel_rfl) (by kernel_rfl) (by kernel_rfl) (fun _ _ _ h => h) (Or.inl ⟨by rfl, ?hp041r8o13⟩) hS ?_
  case hp041r8o13 => (intro wx hx; skip; go_simp; (try with_reducible rfl))
  try simp only [Act.put, List.setIfInBounds_toArray, List.set_cons_zero, List.set_cons_succ]
  refine wpAnyH_take (i := 14) (oi := { dst := some 34, op := Op.load 36 (Operand.tmp 33), type := 36, pos := "slot.go:60", after := #[{ on := 13, ground := Ground.data }], guard := none }) (v := ?vp041r8o14) rfl (by kernel_rfl) (by kernel_rfl) (by kernel_rfl) (fun _ _ _ h => h) (Or.inl ⟨by rfl, ?hp041r8o14⟩) hS ?_
  case hp041r8o14 => (intro wx hx; obtain ⟨y0, y1, y2⟩ := HeadS.cells hx; go_simp; (try with_reducible rfl))
  try simp only [Act.put, List.setIfInBounds_toArray, List.set_cons_zero, List.set_cons_succ]
  refine wpAnyH_ready (rs := [3]) (by kernel_rfl) (by simp) ?_
  refine AllReadyH.cons (o := { dst := some 23, op := Op.call { callee := Callee.value (Operand.func 49), args := #[Operand.tmp 20, Operand.tmp 21, Operand.tmp 22], argTypes := #[32, 3, 36] }, type := 105, pos := "slot.go:60", after := #[{ on := 0, ground := Ground.data }, { on := 1, ground := Ground.data }, { on := 2, ground := Ground.data }], guard := none }) rfl (fun K hK => ?_) AllReadyH.nil
  go_simp
  refine (setH' g at_ 0 _ _ _ (hO.out.quiet (grown_drew (World.grownBy.refl _ none)))).mono ?_
  rintro e wA ⟨b1, rfl, hO1⟩
  rw [List.append_assoc] at hO1
  have hS1 := Hhead.out _ _ hO1
  refine hK.out _ _ ?hsp041r8o3 (fun hS => ?_)
  case hsp041r8o3 => (exact hS1)
  clear hK K
  try simp only [Act.put, List.setIfInBounds_toArray, List.set_cons_zero, List.set_cons_succ]
  refine wpAnyH_ready (rs := [9]) (by kernel_rfl) (by simp) ?_
  refine AllReadyH.cons (o := { dst := some 29, op := Op.call { callee := Callee.value (Operand.func 49), args := #[Operand.tmp 24, Operand.tmp 26, Operand.tmp 28], argTypes := #[32, 3, 36] }, type := 105, pos := "slot.go:60", after := #[{ on := 4, ground := Ground.data }, { on := 6, ground := Ground.data }, { on := 8, ground := Ground.data }, { on := 3, ground := Ground.chain }], guard := none }) rfl (fun K hK => ?_) AllReadyH.nil
  go_simp
  refine (setH' g (at_ + 1) ge _ _ _ hO1).mono ?_
  rintro e wB ⟨b2, rfl, hO2⟩
  rw [List.append_assoc] at hO2
  have hS1 := Hhead.out _ _ hO2
  refine hK.out _ _ ?hsp041r8o9 (fun hS => ?_)
  case hsp041r8o9 => (exact hS1)
  clear hK K
  try simp only [Act.put, List.setIfInBounds_toArray, List.set_cons_zero, List.set_cons_succ]
  refine wpAnyH_ready (rs := [15]) (by kernel_rfl) (by simp) ?_
  refine AllReadyH.cons (o := { dst := some 35, op := Op.call { callee := Callee.value (Operand.func 49), args := #[Operand.tmp 30, Operand.tmp 32, Operand.tmp 34], argTypes := #[32, 3, 36] }, type := 105, pos := "slot.go:60", after := #[{ on := 10, ground := Ground.data }, { on := 12, ground := Ground.data }, { on := 14, ground := Ground.data }, { on := 9, ground := Ground.chain }], guard := none }) rfl (fun K hK => ?_) AllReadyH.nil
  go_simp
  refine (setH' g (at_ + 2) mk _ _ _ hO2).mono ?_
  rintro e wC ⟨b3, rfl, hO3⟩
  rw [List.append_assoc] at hO3
  have hS1 := Hhead.out _ _ hO3
  refine hK.out _ _ ?hsp041r8o15 (fun hS => ?_)
  case hsp041r8o15 => (exact hS1)
  clear hK K
  try simp only [Act.put, List.setIfInBounds_toArray, List.set_cons_zero, List.set_cons_succ]
  refine wpAnyH_ready (rs := [16]) (by kernel_rfl) (by simp) ?_
  refine AllReadyH.cons (o := { dst := some 36, op := Op.buildSlice 107 3 #[(0, Operand.tmp 23), (1, Operand.tmp 29), (2, Operand.tmp 35)], type := 107, pos := "slot.go:60", after := #[{ on := 3, ground := Ground.data }, { on := 9, ground := Ground.data }, { on := 15, ground := Ground.data }], guard := none }) rfl (fun K hK => ?_) AllReadyH.nil
  go_simp
  skip
  refine hK.out _ _ ?hsp041r8o16 (fun hS => ?_)
  case hsp041r8o16 => (exact hS.keep (World.grownBy_alloc _ _ none))
  clear hK K
  try simp only [Act.put, List.setIfInBounds_toArray, List.set_cons_zero, List.set_cons_succ]
  refine wpAnyH_ready (rs := [17]) (by kernel_rfl) (by simp) ?_
  refine AllReadyH.cons (o := { dst := some 37, op := Op.call { callee := Callee.value (Operand.func 51), args := #[Operand.tmp 36], argTypes := #[107] }, type := 37, pos := "slot.go:60", after := #[{ on := 16, ground := Ground.data }, { on := 15, ground := Ground.chain }], guard := none }) rfl (fun K hK => ?_) AllReadyH.nil
  go_simp
  have hO4 := hO3.addRow (World.ownsRow_lit (size := 1) (base := wC.heap.size) (e := 105) wC ([.func (.func 74) #[] #[.pointer (some ⟨b1, 0, none⟩), .pointer (some ⟨b1 + 1, 0, none⟩), .pointer (some ⟨b1 + 2, 0, none⟩)], .func (.func 74) #[] #[.pointer (some ⟨b2, 0, none⟩), .pointer (some ⟨b2 + 1, 0, none⟩), .pointer (some ⟨b2 + 2, 0, none⟩)], .func (.func 74) #[] #[.pointer (some ⟨b3, 0, none⟩), .pointer (some ⟨b3 + 1, 0, none⟩), .pointer (some ⟨b3 + 2, 0, none⟩)]]).toArray 3 (Nat.le_refl _) (by unfold maxLen; omega) (by simp)) (World.grownBy_alloc wC _ none)
  rw [List.append_assoc] at hO4
  refine (HOrd.out b1 b2 b3 wC.heap.size _ hO4).mono ?_
  rintro e wD ⟨rfl, hO5⟩
  have hS1 := Hhead2.out _ _ hO5
  refine hK.out _ _ ?hsp041r8o17 (fun hS => ?_)
  case hsp041r8o17 => (exact hS1)
  clear hK K
  try simp only [Act.put, List.setIfInBounds_toArray, List.set_cons_zero, List.set_cons_succ]
  refine wpAnyH_take (i := 18) (oi := { dst := some 6, op := Op.assign (Operand.tmp 37), type := 37, pos := "slot.go:60", after := #[{ on := 17, ground := Ground.data }, { on := 17, ground := Ground.chain }, { on := 0, ground := Ground.phase }, { on := 1, ground := Ground.phase }, { on := 2, ground := Ground.phase }, { on := 3, ground := Ground.phase }, { on := 4, ground := Ground.phase }, { on := 5, ground := Ground.phase }, { on := 6, ground := Ground.phase }, { on := 7, ground := Ground.phase }, { on := 8, ground := Ground.phase }, { on := 9, ground := Ground.phase }, { on := 10, ground := Ground.phase }, { on := 11, ground := Ground.phase }, { on := 12, ground := Ground.phase }, { on := 13, ground := Ground.phase }, { on := 14, ground := Ground.phase }, { on := 15, ground := Ground.phase }, { on := 16, ground := Ground.phase }, { on := 17, ground := Ground.phase }], guard := none }) (v := ?vp041r8o18) rfl (by kernel_rfl) (by kernel_rfl) (by kernel_rfl) (fun _ _ _ h => h) (Or.inl ⟨by rfl, ?hp041r8o18⟩) hS ?_
  case hp041r8o18 => (intro wx hx; skip; go_simp; (try with_reducible rfl))
  try simp only [Act.put, List.setIfInBounds_toArray, List.set_cons_zero, List.set_cons_succ]
  refine wpAnyH_done (by kernel_rfl) ?_ _
  have hO6 : Hid (Own w0 wD (Ps.set k (viewP g xs LL))) := Lib.hid (by rw [Hset.out] at hO5; exact hO5.less)
  clear hS hS1 HS0 hO hO1 hO2 hO3 hO4 hO5
  go_wp2
  go_ret
  exact ⟨rfl, hO6.out⟩
end Go.Proofs.Ytdpkpphjpihhkaa
