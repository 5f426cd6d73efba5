/- Package class and the document's classes: Of, case by case. -/
import Derived.Test.YtdpkpphjpihhkaaPlaC
import Derived.Deep.CutBlock
import Derived.Deep.DeepCutAuto
namespace Go.Proofs.Ytdpkpphjpihhkaa
open Go.RowKit Go.Grommet

set_option maxRecDepth 100000 in
set_option maxHeartbeats 4000000 in
theorem OfPA (k g : Nat) (xs : List Nat) (L : List (Nat × Nat)) (i : Int) (ob : Bool) (ge mk en gen seq a lq le la lb : Nat) (ld : ByteArray) (en2 : Nat) (hG : GetC xs L i ob ge mk en) (hL : LoadC xs L i a lq le la lb ld en2) (ha : seq % 4 = a) (hs : ¬ (1 ≤ seq ∧ seq ≤ 1099511627776)) (w0 w : World) (Ps : List Pr) (h : Own w0 w Ps) (hk : Ps[k]? = some (viewP g xs L)) :
    Calls Try.prog 14 #[.pointer (some ⟨g, 0, none⟩), .int .i64 i, .int .u64 (gen : Int), .int .u64 (seq : Int)] w fun e w' => e = .returned (.tuple #[.int .u8 0, .agg #[.int .i64 0, .int .u64 0, .int .u64 0, .string ⟨#[]⟩], .int .i64 1]) ∧ Own w0 w' Ps := by
  have hkl := (List.getElem?_eq_some_iff.1 hk).1
  have Hk := Lib.hid (show ∀ Rs, (Ps ++ Rs)[k]? = some (viewP g xs L) from fun Rs => by rw [List.getElem?_append_left hkl]; exact hk)
  have HL := Lib.hid (fun wx Rs (hO : Own w0 wx (Ps ++ Rs)) => hL k g w0 wx _ hO (Hk.out _))
  have HG := Lib.hid (fun wx Rs (hO : Own w0 wx (Ps ++ Rs)) => hG k g w0 wx _ hO (Hk.out _))
  obtain ⟨X, HX⟩ : ∃ X, Hid (X = w.heap.size) := ⟨_, Lib.hid rfl⟩
  have hXs : w.heap.size = X := HX.out.symm
  have hO : Own w0 (w.alloc (.cells #[.int .i64 0, .int .u64 0, .int .u64 0, .string ⟨#[]⟩] 39)) (Ps ++ [boxP X 39 #[.int .i64 0, .int .u64 0, .int .u64 0, .string ⟨#[]⟩]]) := by rw [HX.out]; exact h.addBox _ _
  have HN := Lib.hid (fun wx => isNumber_any seq wx)
  rw [show numB seq = false by unfold numB; simp; omega] at HN
  have HH := Lib.hid (fun wx (hO : Own w0 wx (Ps ++ [boxP X 39 #[.int .i64 0, .int .u64 0, .int .u64 0, .string ⟨#[]⟩]])) => headN k g xs L i w0 wx _ hO (Hk.out _))
  clear h hk hkl hG hL Hk ha
  replace hO := Lib.hid hO
  go_enter Try.func14, Try.ntmps14
  go_wp2_with fail
  refine (HN.out _).mono ?_
  rintro e w9 ⟨rfl, rfl⟩
  clear HN
  go_wp2_with fail
  try rw [← HX.out]
  refine (HH.out _ hO.out).mono ?_
  rintro e w1 ⟨rfl, hO1⟩
  clear HH hO
  go_upto_region 2 with fail
  obtain ⟨Y, hYs⟩ : ∃ Y, w1.heap.size = Y := ⟨_, rfl⟩
  have hO2 := hO1.addBox 87 #[.bool false, .int .u64 0, .int .u64 0]
  rw [hYs, List.append_assoc] at hO2
  have hO2 : Own w0 (w1.alloc (.cells #[.bool false, .int .u64 0, .int .u64 0] 87)) (Ps ++ boxP X 39 #[.int .i64 0, .int .u64 0, .int .u64 0, .string ⟨#[]⟩] :: [boxP Y 87 #[.bool false, .int .u64 0, .int .u64 0]]) := hO2
  obtain ⟨w2, hw2⟩ : ∃ w2, w1.alloc (.cells #[.bool false, .int .u64 0, .int .u64 0] 87) = w2 := ⟨_, rfl⟩
  rw [hw2] at hO2
  clear hO1
  change Code.wp _ _ _ _ (w1.alloc (.cells #[.bool false, .int .u64 0, .int .u64 0] 87))
  rw [hw2, hYs]
  clear hw2 hYs
  have hby : w2.heap[Y]? = some (.cells #[.bool false, .int .u64 0, .int .u64 0] 87 (0, 0)) := Own.box hO2 (Ps.length + 1) (by rw [List.getElem?_append_right (by omega), show Ps.length + 1 - Ps.length = 1 from by omega]; rfl)
  have y0 : w2.cell? ⟨Y, 0, none⟩ = some (.bool false) := by simp [World.cell?, hby]
  have y1 : w2.cell? ⟨Y, 1, none⟩ = some (.int .u64 0) := by simp [World.cell?, hby]
  have y2 : w2.cell? ⟨Y, 2, none⟩ = some (.int .u64 0) := by simp [World.cell?, hby]
  clear hby
  have hz : w2.heap[X]? = some (.cells #[.int .i64 0, .int .u64 0, .int .u64 0, .string ⟨#[]⟩] 39 (0, 0)) := Own.box hO2 Ps.length (by rw [List.getElem?_append_right (Nat.le_refl _), Nat.sub_self]; rfl)
  have Hq : Hid (∀ w6 : World, w2.grownBy w6 (some X) → Own w0 w6 Ps) := Lib.hid (fun w6 hg => Own.forget hO2 hg)
  have m0 : w2.cell? ⟨X, 0, none⟩ = some (.int .i64 0) := by simp [World.cell?, hz]
  have q0 : w2.frozen? ⟨X, 0, none⟩ = false := by simp [World.frozen?, hz]
  have m1 : w2.cell? ⟨X, 1, none⟩ = some (.int .u64 0) := by simp [World.cell?, hz]
  have q1 : w2.frozen? ⟨X, 1, none⟩ = false := by simp [World.frozen?, hz]
  have m2 : w2.cell? ⟨X, 2, none⟩ = some (.int .u64 0) := by simp [World.cell?, hz]
  have q2 : w2.frozen? ⟨X, 2, none⟩ = false := by simp [World.frozen?, hz]
  have m3 : w2.cell? ⟨X, 3, none⟩ = some (.string ⟨#[]⟩) := by simp [World.cell?, hz]
  have q3 : w2.frozen? ⟨X, 3, none⟩ = false := by simp [World.frozen?, hz]
  have hz1 := heap_setCell_at (o := 0) hz (.int .i64 0)
  have hz2 := heap_setCell_at (o := 1) hz1 (.int .u64 0)
  have hz3 := heap_setCell_at (o := 2) hz2 (.int .u64 0)
  have hz4 := heap_setCell_at (o := 3) hz3 (.string ⟨#[]⟩)
  have g1 : w2.grownBy ((((w2.setCell ⟨X, 0, none⟩ (.int .i64 0)).setCell ⟨X, 1, none⟩ (.int .u64 0)).setCell ⟨X, 2, none⟩ (.int .u64 0)).setCell ⟨X, 3, none⟩ (.string ⟨#[]⟩)) (some X) := (grown_trans (grown_trans (grown_trans (grown_setCell _ ⟨X, 0, none⟩ (.int .i64 0)) (grown_setCell _ ⟨X, 1, none⟩ (.int .u64 0))) (grown_setCell _ ⟨X, 2, none⟩ (.int .u64 0))) (grown_setCell _ ⟨X, 3, none⟩ (.string ⟨#[]⟩)))
  obtain ⟨W3, hW3⟩ : ∃ W3, W3 = ((((w2.setCell ⟨X, 0, none⟩ (.int .i64 0)).setCell ⟨X, 1, none⟩ (.int .u64 0)).setCell ⟨X, 2, none⟩ (.int .u64 0)).setCell ⟨X, 3, none⟩ (.string ⟨#[]⟩)) := ⟨_, rfl⟩
  clear hz1 hz2 hz3
  rw [← hW3] at hz4 g1
  have Z0 : W3.cell? ⟨X, 0, none⟩ = some (.int .i64 0) := by simp [World.cell?, hz4]
  have Z1 : W3.cell? ⟨X, 1, none⟩ = some (.int .u64 0) := by simp [World.cell?, hz4]
  have Z2 : W3.cell? ⟨X, 2, none⟩ = some (.int .u64 0) := by simp [World.cell?, hz4]
  have Z3 : W3.cell? ⟨X, 3, none⟩ = some (.string ⟨#[]⟩) := by simp [World.cell?, hz4]
  clear hO2 HL HG
  go_wp2
  rw [← hW3]
  exact bodyPost_ret (v := .tuple #[.int .u8 0, .agg #[.int .i64 0, .int .u64 0, .int .u64 0, .string ⟨#[]⟩], .int .i64 1]) (by simp [results, Try.results14, go_sem, Z0, Z1, Z2, Z3]) rfl ⟨rfl, Hq.out _ g1⟩

set_option maxRecDepth 100000 in
set_option maxHeartbeats 4000000 in
theorem OfPB (k g : Nat) (xs : List Nat) (L : List (Nat × Nat)) (i : Int) (ob : Bool) (ge mk en gen seq a lq le la lb : Nat) (ld : ByteArray) (en2 : Nat) (hG : GetC xs L i ob ge mk en) (hL : LoadC xs L i a lq le la lb ld en2) (ha : seq % 4 = a) (hs : 1 ≤ seq ∧ seq ≤ 1099511627776) (he : en ≠ 0) (w0 w : World) (Ps : List Pr) (h : Own w0 w Ps) (hk : Ps[k]? = some (viewP g xs L)) :
    Calls Try.prog 14 #[.pointer (some ⟨g, 0, none⟩), .int .i64 i, .int .u64 (gen : Int), .int .u64 (seq : Int)] w fun e w' => e = .returned (.tuple #[.int .u8 0, .agg #[.int .i64 0, .int .u64 0, .int .u64 0, .string ⟨#[]⟩], .int .i64 (en : Int)]) ∧ Own w0 w' Ps := by
  have hkl := (List.getElem?_eq_some_iff.1 hk).1
  have Hk := Lib.hid (show ∀ Rs, (Ps ++ Rs)[k]? = some (viewP g xs L) from fun Rs => by rw [List.getElem?_append_left hkl]; exact hk)
  have HL := Lib.hid (fun wx Rs (hO : Own w0 wx (Ps ++ Rs)) => hL k g w0 wx _ hO (Hk.out _))
  have HG := Lib.hid (fun wx Rs (hO : Own w0 wx (Ps ++ Rs)) => hG k g w0 wx _ hO (Hk.out _))
  obtain ⟨X, HX⟩ : ∃ X, Hid (X = w.heap.size) := ⟨_, Lib.hid rfl⟩
  have hXs : w.heap.size = X := HX.out.symm
  have hO : Own w0 (w.alloc (.cells #[.int .i64 0, .int .u64 0, .int .u64 0, .string ⟨#[]⟩] 39)) (Ps ++ [boxP X 39 #[.int .i64 0, .int .u64 0, .int .u64 0, .string ⟨#[]⟩]]) := by rw [HX.out]; exact h.addBox _ _
  have HN := Lib.hid (fun wx => isNumber_any seq wx)
  have n1 : (1 : Int) ≤ (seq : Int) := by omega
  have n2 : (seq : Int) ≤ 1099511627776 := by omega
  have n3 : ¬ (seq : Int) < 1 := by omega
  have n4 : ¬ (1099511627776 : Int) < (seq : Int) := by omega
  rw [show numB seq = true by unfold numB; rw [decide_eq_true (by omega : 1 ≤ seq), decide_eq_true (by omega : seq ≤ 1099511627776)]; rfl] at HN
  have qe : ((en : Int) != 0) = true := by simp; omega
  have HH := Lib.hid (fun wx (hO : Own w0 wx (Ps ++ [boxP X 39 #[.int .i64 0, .int .u64 0, .int .u64 0, .string ⟨#[]⟩]])) => headT k g xs L i ob ge mk en hG w0 wx _ hO (Hk.out _))
  clear h hk hkl hG hL Hk ha
  replace hO := Lib.hid hO
  go_enter Try.func14, Try.ntmps14
  go_wp2_with fail
  refine (HN.out _).mono ?_
  rintro e w9 ⟨rfl, rfl⟩
  clear HN
  go_wp2_with fail
  try rw [← HX.out]
  refine (HH.out _ hO.out).mono ?_
  rintro e w1 ⟨rfl, hO1⟩
  clear HH hO

  obtain ⟨Y, hYs⟩ : ∃ Y, w1.heap.size = Y := ⟨_, rfl⟩
  have hO2 := hO1.addBox 87 #[.bool ob, .int .u64 (ge : Int), .int .u64 (mk : Int)]
  rw [hYs, List.append_assoc] at hO2
  have hO2 : Own w0 (w1.alloc (.cells #[.bool ob, .int .u64 (ge : Int), .int .u64 (mk : Int)] 87)) (Ps ++ boxP X 39 #[.int .i64 0, .int .u64 0, .int .u64 0, .string ⟨#[]⟩] :: [boxP Y 87 #[.bool ob, .int .u64 (ge : Int), .int .u64 (mk : Int)]]) := hO2
  obtain ⟨w2, hw2⟩ : ∃ w2, w1.alloc (.cells #[.bool ob, .int .u64 (ge : Int), .int .u64 (mk : Int)] 87) = w2 := ⟨_, rfl⟩
  rw [hw2] at hO2
  clear hO1



  have hby : w2.heap[Y]? = some (.cells #[.bool ob, .int .u64 (ge : Int), .int .u64 (mk : Int)] 87 (0, 0)) := Own.box hO2 (Ps.length + 1) (by rw [List.getElem?_append_right (by omega), show Ps.length + 1 - Ps.length = 1 from by omega]; rfl)
  have y0 : w2.cell? ⟨Y, 0, none⟩ = some (.bool ob) := by simp [World.cell?, hby]
  have y1 : w2.cell? ⟨Y, 1, none⟩ = some (.int .u64 (ge : Int)) := by simp [World.cell?, hby]
  have y2 : w2.cell? ⟨Y, 2, none⟩ = some (.int .u64 (mk : Int)) := by simp [World.cell?, hby]
  clear hby
  have hz : w2.heap[X]? = some (.cells #[.int .i64 0, .int .u64 0, .int .u64 0, .string ⟨#[]⟩] 39 (0, 0)) := Own.box hO2 Ps.length (by rw [List.getElem?_append_right (Nat.le_refl _), Nat.sub_self]; rfl)
  have Hq : Hid (∀ w6 : World, w2.grownBy w6 (some X) → Own w0 w6 Ps) := Lib.hid (fun w6 hg => Own.forget hO2 hg)
  have m0 : w2.cell? ⟨X, 0, none⟩ = some (.int .i64 0) := by simp [World.cell?, hz]
  have q0 : w2.frozen? ⟨X, 0, none⟩ = false := by simp [World.frozen?, hz]
  have m1 : w2.cell? ⟨X, 1, none⟩ = some (.int .u64 0) := by simp [World.cell?, hz]
  have q1 : w2.frozen? ⟨X, 1, none⟩ = false := by simp [World.frozen?, hz]
  have m2 : w2.cell? ⟨X, 2, none⟩ = some (.int .u64 0) := by simp [World.cell?, hz]
  have q2 : w2.frozen? ⟨X, 2, none⟩ = false := by simp [World.frozen?, hz]
  have m3 : w2.cell? ⟨X, 3, none⟩ = some (.string ⟨#[]⟩) := by simp [World.cell?, hz]
  have q3 : w2.frozen? ⟨X, 3, none⟩ = false := by simp [World.frozen?, hz]
  have hz1 := heap_setCell_at (o := 0) hz (.int .i64 0)
  have hz2 := heap_setCell_at (o := 1) hz1 (.int .u64 0)
  have hz3 := heap_setCell_at (o := 2) hz2 (.int .u64 0)
  have hz4 := heap_setCell_at (o := 3) hz3 (.string ⟨#[]⟩)
  have g1 : w2.grownBy ((((w2.setCell ⟨X, 0, none⟩ (.int .i64 0)).setCell ⟨X, 1, none⟩ (.int .u64 0)).setCell ⟨X, 2, none⟩ (.int .u64 0)).setCell ⟨X, 3, none⟩ (.string ⟨#[]⟩)) (some X) := (grown_trans (grown_trans (grown_trans (grown_setCell _ ⟨X, 0, none⟩ (.int .i64 0)) (grown_setCell _ ⟨X, 1, none⟩ (.int .u64 0))) (grown_setCell _ ⟨X, 2, none⟩ (.int .u64 0))) (grown_setCell _ ⟨X, 3, none⟩ (.string ⟨#[]⟩)))
  obtain ⟨W3, hW3⟩ : ∃ W3, W3 = ((((w2.setCell ⟨X, 0, none⟩ (.int .i64 0)).setCell ⟨X, 1, none⟩ (.int .u64 0)).setCell ⟨X, 2, none⟩ (.int .u64 0)).setCell ⟨X, 3, none⟩ (.string ⟨#[]⟩)) := ⟨_, rfl⟩
  clear hz1 hz2 hz3
  rw [← hW3] at hz4 g1
  have Z0 : W3.cell? ⟨X, 0, none⟩ = some (.int .i64 0) := by simp [World.cell?, hz4]
  have Z1 : W3.cell? ⟨X, 1, none⟩ = some (.int .u64 0) := by simp [World.cell?, hz4]
  have Z2 : W3.cell? ⟨X, 2, none⟩ = some (.int .u64 0) := by simp [World.cell?, hz4]
  have Z3 : W3.cell? ⟨X, 3, none⟩ = some (.string ⟨#[]⟩) := by simp [World.cell?, hz4]
  clear hO2 HL HG
  go_wp2
  rw [← hW3]
  exact bodyPost_ret (v := .tuple #[.int .u8 0, .agg #[.int .i64 0, .int .u64 0, .int .u64 0, .string ⟨#[]⟩], .int .i64 (en : Int)]) (by simp [results, Try.results14, go_sem, Z0, Z1, Z2, Z3]) rfl ⟨rfl, Hq.out _ g1⟩

set_option maxRecDepth 100000 in
set_option maxHeartbeats 4000000 in
theorem OfPC1 (k g : Nat) (xs : List Nat) (L : List (Nat × Nat)) (i : Int) (ob : Bool) (ge mk en gen seq a lq le la lb : Nat) (ld : ByteArray) (en2 : Nat) (hG : GetC xs L i ob ge mk en) (hL : LoadC xs L i a lq le la lb ld en2) (ha : seq % 4 = a) (hs : 1 ≤ seq ∧ seq ≤ 1099511627776) (he : en = 0) (hob : ob = false) (w0 w : World) (Ps : List Pr) (h : Own w0 w Ps) (hk : Ps[k]? = some (viewP g xs L)) :
    Calls Try.prog 14 #[.pointer (some ⟨g, 0, none⟩), .int .i64 i, .int .u64 (gen : Int), .int .u64 (seq : Int)] w fun e w' => e = .returned (.tuple #[.int .u8 0, .agg #[.int .i64 0, .int .u64 0, .int .u64 0, .string ⟨#[]⟩], .int .i64 22]) ∧ Own w0 w' Ps := by
  have hkl := (List.getElem?_eq_some_iff.1 hk).1
  have Hk := Lib.hid (show ∀ Rs, (Ps ++ Rs)[k]? = some (viewP g xs L) from fun Rs => by rw [List.getElem?_append_left hkl]; exact hk)
  have HL := Lib.hid (fun wx Rs (hO : Own w0 wx (Ps ++ Rs)) => hL k g w0 wx _ hO (Hk.out _))
  have HG := Lib.hid (fun wx Rs (hO : Own w0 wx (Ps ++ Rs)) => hG k g w0 wx _ hO (Hk.out _))
  obtain ⟨X, HX⟩ : ∃ X, Hid (X = w.heap.size) := ⟨_, Lib.hid rfl⟩
  have hXs : w.heap.size = X := HX.out.symm
  have hO : Own w0 (w.alloc (.cells #[.int .i64 0, .int .u64 0, .int .u64 0, .string ⟨#[]⟩] 39)) (Ps ++ [boxP X 39 #[.int .i64 0, .int .u64 0, .int .u64 0, .string ⟨#[]⟩]]) := by rw [HX.out]; exact h.addBox _ _
  have HN := Lib.hid (fun wx => isNumber_any seq wx)
  have n1 : (1 : Int) ≤ (seq : Int) := by omega
  have n2 : (seq : Int) ≤ 1099511627776 := by omega
  have n3 : ¬ (seq : Int) < 1 := by omega
  have n4 : ¬ (1099511627776 : Int) < (seq : Int) := by omega
  rw [show numB seq = true by unfold numB; rw [decide_eq_true (by omega : 1 ≤ seq), decide_eq_true (by omega : seq ≤ 1099511627776)]; rfl] at HN
  subst hob
  have qe : ((en : Int) != 0) = false := by rw [he]; rfl
  have HH := Lib.hid (fun wx (hO : Own w0 wx (Ps ++ [boxP X 39 #[.int .i64 0, .int .u64 0, .int .u64 0, .string ⟨#[]⟩]])) => headT k g xs L i false ge mk en hG w0 wx _ hO (Hk.out _))
  clear h hk hkl hG hL Hk ha
  replace hO := Lib.hid hO
  go_enter Try.func14, Try.ntmps14
  go_wp2_with fail
  refine (HN.out _).mono ?_
  rintro e w9 ⟨rfl, rfl⟩
  clear HN
  go_wp2_with fail
  try rw [← HX.out]
  refine (HH.out _ hO.out).mono ?_
  rintro e w1 ⟨rfl, hO1⟩
  clear HH hO

  obtain ⟨Y, hYs⟩ : ∃ Y, w1.heap.size = Y := ⟨_, rfl⟩
  have hO2 := hO1.addBox 87 #[.bool false, .int .u64 (ge : Int), .int .u64 (mk : Int)]
  rw [hYs, List.append_assoc] at hO2
  have hO2 : Own w0 (w1.alloc (.cells #[.bool false, .int .u64 (ge : Int), .int .u64 (mk : Int)] 87)) (Ps ++ boxP X 39 #[.int .i64 0, .int .u64 0, .int .u64 0, .string ⟨#[]⟩] :: [boxP Y 87 #[.bool false, .int .u64 (ge : Int), .int .u64 (mk : Int)]]) := hO2
  obtain ⟨w2, hw2⟩ : ∃ w2, w1.alloc (.cells #[.bool false, .int .u64 (ge : Int), .int .u64 (mk : Int)] 87) = w2 := ⟨_, rfl⟩
  rw [hw2] at hO2
  clear hO1



  have hby : w2.heap[Y]? = some (.cells #[.bool false, .int .u64 (ge : Int), .int .u64 (mk : Int)] 87 (0, 0)) := Own.box hO2 (Ps.length + 1) (by rw [List.getElem?_append_right (by omega), show Ps.length + 1 - Ps.length = 1 from by omega]; rfl)
  have y0 : w2.cell? ⟨Y, 0, none⟩ = some (.bool false) := by simp [World.cell?, hby]
  have y1 : w2.cell? ⟨Y, 1, none⟩ = some (.int .u64 (ge : Int)) := by simp [World.cell?, hby]
  have y2 : w2.cell? ⟨Y, 2, none⟩ = some (.int .u64 (mk : Int)) := by simp [World.cell?, hby]
  clear hby
  have hz : w2.heap[X]? = some (.cells #[.int .i64 0, .int .u64 0, .int .u64 0, .string ⟨#[]⟩] 39 (0, 0)) := Own.box hO2 Ps.length (by rw [List.getElem?_append_right (Nat.le_refl _), Nat.sub_self]; rfl)
  have Hq : Hid (∀ w6 : World, w2.grownBy w6 (some X) → Own w0 w6 Ps) := Lib.hid (fun w6 hg => Own.forget hO2 hg)
  have m0 : w2.cell? ⟨X, 0, none⟩ = some (.int .i64 0) := by simp [World.cell?, hz]
  have q0 : w2.frozen? ⟨X, 0, none⟩ = false := by simp [World.frozen?, hz]
  have m1 : w2.cell? ⟨X, 1, none⟩ = some (.int .u64 0) := by simp [World.cell?, hz]
  have q1 : w2.frozen? ⟨X, 1, none⟩ = false := by simp [World.frozen?, hz]
  have m2 : w2.cell? ⟨X, 2, none⟩ = some (.int .u64 0) := by simp [World.cell?, hz]
  have q2 : w2.frozen? ⟨X, 2, none⟩ = false := by simp [World.frozen?, hz]
  have m3 : w2.cell? ⟨X, 3, none⟩ = some (.string ⟨#[]⟩) := by simp [World.cell?, hz]
  have q3 : w2.frozen? ⟨X, 3, none⟩ = false := by simp [World.frozen?, hz]
  have hz1 := heap_setCell_at (o := 0) hz (.int .i64 0)
  have hz2 := heap_setCell_at (o := 1) hz1 (.int .u64 0)
  have hz3 := heap_setCell_at (o := 2) hz2 (.int .u64 0)
  have hz4 := heap_setCell_at (o := 3) hz3 (.string ⟨#[]⟩)
  have g1 : w2.grownBy ((((w2.setCell ⟨X, 0, none⟩ (.int .i64 0)).setCell ⟨X, 1, none⟩ (.int .u64 0)).setCell ⟨X, 2, none⟩ (.int .u64 0)).setCell ⟨X, 3, none⟩ (.string ⟨#[]⟩)) (some X) := (grown_trans (grown_trans (grown_trans (grown_setCell _ ⟨X, 0, none⟩ (.int .i64 0)) (grown_setCell _ ⟨X, 1, none⟩ (.int .u64 0))) (grown_setCell _ ⟨X, 2, none⟩ (.int .u64 0))) (grown_setCell _ ⟨X, 3, none⟩ (.string ⟨#[]⟩)))
  obtain ⟨W3, hW3⟩ : ∃ W3, W3 = ((((w2.setCell ⟨X, 0, none⟩ (.int .i64 0)).setCell ⟨X, 1, none⟩ (.int .u64 0)).setCell ⟨X, 2, none⟩ (.int .u64 0)).setCell ⟨X, 3, none⟩ (.string ⟨#[]⟩)) := ⟨_, rfl⟩
  clear hz1 hz2 hz3
  rw [← hW3] at hz4 g1
  have Z0 : W3.cell? ⟨X, 0, none⟩ = some (.int .i64 0) := by simp [World.cell?, hz4]
  have Z1 : W3.cell? ⟨X, 1, none⟩ = some (.int .u64 0) := by simp [World.cell?, hz4]
  have Z2 : W3.cell? ⟨X, 2, none⟩ = some (.int .u64 0) := by simp [World.cell?, hz4]
  have Z3 : W3.cell? ⟨X, 3, none⟩ = some (.string ⟨#[]⟩) := by simp [World.cell?, hz4]
  clear hO2 HL HG
  go_wp2
  rw [← hW3]
  exact bodyPost_ret (v := .tuple #[.int .u8 0, .agg #[.int .i64 0, .int .u64 0, .int .u64 0, .string ⟨#[]⟩], .int .i64 22]) (by simp [results, Try.results14, go_sem, Z0, Z1, Z2, Z3]) rfl ⟨rfl, Hq.out _ g1⟩

set_option maxRecDepth 100000 in
set_option maxHeartbeats 4000000 in
theorem OfPC2 (k g : Nat) (xs : List Nat) (L : List (Nat × Nat)) (i : Int) (ob : Bool) (ge mk en gen seq a lq le la lb : Nat) (ld : ByteArray) (en2 : Nat) (hG : GetC xs L i ob ge mk en) (hL : LoadC xs L i a lq le la lb ld en2) (ha : seq % 4 = a) (hs : 1 ≤ seq ∧ seq ≤ 1099511627776) (he : en = 0) (hob : ob = true) (hge : ge ≠ gen) (w0 w : World) (Ps : List Pr) (h : Own w0 w Ps) (hk : Ps[k]? = some (viewP g xs L)) :
    Calls Try.prog 14 #[.pointer (some ⟨g, 0, none⟩), .int .i64 i, .int .u64 (gen : Int), .int .u64 (seq : Int)] w fun e w' => e = .returned (.tuple #[.int .u8 0, .agg #[.int .i64 0, .int .u64 0, .int .u64 0, .string ⟨#[]⟩], .int .i64 22]) ∧ Own w0 w' Ps := by
  have hkl := (List.getElem?_eq_some_iff.1 hk).1
  have Hk := Lib.hid (show ∀ Rs, (Ps ++ Rs)[k]? = some (viewP g xs L) from fun Rs => by rw [List.getElem?_append_left hkl]; exact hk)
  have HL := Lib.hid (fun wx Rs (hO : Own w0 wx (Ps ++ Rs)) => hL k g w0 wx _ hO (Hk.out _))
  have HG := Lib.hid (fun wx Rs (hO : Own w0 wx (Ps ++ Rs)) => hG k g w0 wx _ hO (Hk.out _))
  obtain ⟨X, HX⟩ : ∃ X, Hid (X = w.heap.size) := ⟨_, Lib.hid rfl⟩
  have hXs : w.heap.size = X := HX.out.symm
  have hO : Own w0 (w.alloc (.cells #[.int .i64 0, .int .u64 0, .int .u64 0, .string ⟨#[]⟩] 39)) (Ps ++ [boxP X 39 #[.int .i64 0, .int .u64 0, .int .u64 0, .string ⟨#[]⟩]]) := by rw [HX.out]; exact h.addBox _ _
  have HN := Lib.hid (fun wx => isNumber_any seq wx)
  have n1 : (1 : Int) ≤ (seq : Int) := by omega
  have n2 : (seq : Int) ≤ 1099511627776 := by omega
  have n3 : ¬ (seq : Int) < 1 := by omega
  have n4 : ¬ (1099511627776 : Int) < (seq : Int) := by omega
  rw [show numB seq = true by unfold numB; rw [decide_eq_true (by omega : 1 ≤ seq), decide_eq_true (by omega : seq ≤ 1099511627776)]; rfl] at HN
  subst hob
  have qg : ((ge : Int) != (gen : Int)) = true := by simp; omega
  have qe : ((en : Int) != 0) = false := by rw [he]; rfl
  have HH := Lib.hid (fun wx (hO : Own w0 wx (Ps ++ [boxP X 39 #[.int .i64 0, .int .u64 0, .int .u64 0, .string ⟨#[]⟩]])) => headT k g xs L i true ge mk en hG w0 wx _ hO (Hk.out _))
  clear h hk hkl hG hL Hk ha
  replace hO := Lib.hid hO
  go_enter Try.func14, Try.ntmps14
  go_wp2_with fail
  refine (HN.out _).mono ?_
  rintro e w9 ⟨rfl, rfl⟩
  clear HN
  go_wp2_with fail
  try rw [← HX.out]
  refine (HH.out _ hO.out).mono ?_
  rintro e w1 ⟨rfl, hO1⟩
  clear HH hO

  obtain ⟨Y, hYs⟩ : ∃ Y, w1.heap.size = Y := ⟨_, rfl⟩
  have hO2 := hO1.addBox 87 #[.bool true, .int .u64 (ge : Int), .int .u64 (mk : Int)]
  rw [hYs, List.append_assoc] at hO2
  have hO2 : Own w0 (w1.alloc (.cells #[.bool true, .int .u64 (ge : Int), .int .u64 (mk : Int)] 87)) (Ps ++ boxP X 39 #[.int .i64 0, .int .u64 0, .int .u64 0, .string ⟨#[]⟩] :: [boxP Y 87 #[.bool true, .int .u64 (ge : Int), .int .u64 (mk : Int)]]) := hO2
  obtain ⟨w2, hw2⟩ : ∃ w2, w1.alloc (.cells #[.bool true, .int .u64 (ge : Int), .int .u64 (mk : Int)] 87) = w2 := ⟨_, rfl⟩
  rw [hw2] at hO2
  clear hO1



  have hby : w2.heap[Y]? = some (.cells #[.bool true, .int .u64 (ge : Int), .int .u64 (mk : Int)] 87 (0, 0)) := Own.box hO2 (Ps.length + 1) (by rw [List.getElem?_append_right (by omega), show Ps.length + 1 - Ps.length = 1 from by omega]; rfl)
  have y0 : w2.cell? ⟨Y, 0, none⟩ = some (.bool true) := by simp [World.cell?, hby]
  have y1 : w2.cell? ⟨Y, 1, none⟩ = some (.int .u64 (ge : Int)) := by simp [World.cell?, hby]
  have y2 : w2.cell? ⟨Y, 2, none⟩ = some (.int .u64 (mk : Int)) := by simp [World.cell?, hby]
  clear hby
  have hz : w2.heap[X]? = some (.cells #[.int .i64 0, .int .u64 0, .int .u64 0, .string ⟨#[]⟩] 39 (0, 0)) := Own.box hO2 Ps.length (by rw [List.getElem?_append_right (Nat.le_refl _), Nat.sub_self]; rfl)
  have Hq : Hid (∀ w6 : World, w2.grownBy w6 (some X) → Own w0 w6 Ps) := Lib.hid (fun w6 hg => Own.forget hO2 hg)
  have m0 : w2.cell? ⟨X, 0, none⟩ = some (.int .i64 0) := by simp [World.cell?, hz]
  have q0 : w2.frozen? ⟨X, 0, none⟩ = false := by simp [World.frozen?, hz]
  have m1 : w2.cell? ⟨X, 1, none⟩ = some (.int .u64 0) := by simp [World.cell?, hz]
  have q1 : w2.frozen? ⟨X, 1, none⟩ = false := by simp [World.frozen?, hz]
  have m2 : w2.cell? ⟨X, 2, none⟩ = some (.int .u64 0) := by simp [World.cell?, hz]
  have q2 : w2.frozen? ⟨X, 2, none⟩ = false := by simp [World.frozen?, hz]
  have m3 : w2.cell? ⟨X, 3, none⟩ = some (.string ⟨#[]⟩) := by simp [World.cell?, hz]
  have q3 : w2.frozen? ⟨X, 3, none⟩ = false := by simp [World.frozen?, hz]
  have hz1 := heap_setCell_at (o := 0) hz (.int .i64 0)
  have hz2 := heap_setCell_at (o := 1) hz1 (.int .u64 0)
  have hz3 := heap_setCell_at (o := 2) hz2 (.int .u64 0)
  have hz4 := heap_setCell_at (o := 3) hz3 (.string ⟨#[]⟩)
  have g1 : w2.grownBy ((((w2.setCell ⟨X, 0, none⟩ (.int .i64 0)).setCell ⟨X, 1, none⟩ (.int .u64 0)).setCell ⟨X, 2, none⟩ (.int .u64 0)).setCell ⟨X, 3, none⟩ (.string ⟨#[]⟩)) (some X) := (grown_trans (grown_trans (grown_trans (grown_setCell _ ⟨X, 0, none⟩ (.int .i64 0)) (grown_setCell _ ⟨X, 1, none⟩ (.int .u64 0))) (grown_setCell _ ⟨X, 2, none⟩ (.int .u64 0))) (grown_setCell _ ⟨X, 3, none⟩ (.string ⟨#[]⟩)))
  obtain ⟨W3, hW3⟩ : ∃ W3, W3 = ((((w2.setCell ⟨X, 0, none⟩ (.int .i64 0)).setCell ⟨X, 1, none⟩ (.int .u64 0)).setCell ⟨X, 2, none⟩ (.int .u64 0)).setCell ⟨X, 3, none⟩ (.string ⟨#[]⟩)) := ⟨_, rfl⟩
  clear hz1 hz2 hz3
  rw [← hW3] at hz4 g1
  have Z0 : W3.cell? ⟨X, 0, none⟩ = some (.int .i64 0) := by simp [World.cell?, hz4]
  have Z1 : W3.cell? ⟨X, 1, none⟩ = some (.int .u64 0) := by simp [World.cell?, hz4]
  have Z2 : W3.cell? ⟨X, 2, none⟩ = some (.int .u64 0) := by simp [World.cell?, hz4]
  have Z3 : W3.cell? ⟨X, 3, none⟩ = some (.string ⟨#[]⟩) := by simp [World.cell?, hz4]
  clear hO2 HL HG
  go_wp2
  rw [← hW3]
  exact bodyPost_ret (v := .tuple #[.int .u8 0, .agg #[.int .i64 0, .int .u64 0, .int .u64 0, .string ⟨#[]⟩], .int .i64 22]) (by simp [results, Try.results14, go_sem, Z0, Z1, Z2, Z3]) rfl ⟨rfl, Hq.out _ g1⟩

set_option maxRecDepth 100000 in
set_option maxHeartbeats 4000000 in
theorem OfPD (k g : Nat) (xs : List Nat) (L : List (Nat × Nat)) (i : Int) (ob : Bool) (ge mk en gen seq a lq le la lb : Nat) (ld : ByteArray) (en2 : Nat) (hG : GetC xs L i ob ge mk en) (hL : LoadC xs L i a lq le la lb ld en2) (ha : seq % 4 = a) (hs : 1 ≤ seq ∧ seq ≤ 1099511627776) (he : en = 0) (hob : ob = true) (hge : ge = gen) (hd : seq ≤ mk) (w0 w : World) (Ps : List Pr) (h : Own w0 w Ps) (hk : Ps[k]? = some (viewP g xs L)) :
    Calls Try.prog 14 #[.pointer (some ⟨g, 0, none⟩), .int .i64 i, .int .u64 (gen : Int), .int .u64 (seq : Int)] w fun e w' => e = .returned (.tuple #[.int .u8 2, .agg #[.int .i64 0, .int .u64 0, .int .u64 0, .string ⟨#[]⟩], .int .i64 0]) ∧ Own w0 w' Ps := by
  have hkl := (List.getElem?_eq_some_iff.1 hk).1
  have Hk := Lib.hid (show ∀ Rs, (Ps ++ Rs)[k]? = some (viewP g xs L) from fun Rs => by rw [List.getElem?_append_left hkl]; exact hk)
  have HL := Lib.hid (fun wx Rs (hO : Own w0 wx (Ps ++ Rs)) => hL k g w0 wx _ hO (Hk.out _))
  have HG := Lib.hid (fun wx Rs (hO : Own w0 wx (Ps ++ Rs)) => hG k g w0 wx _ hO (Hk.out _))
  obtain ⟨X, HX⟩ : ∃ X, Hid (X = w.heap.size) := ⟨_, Lib.hid rfl⟩
  have hXs : w.heap.size = X := HX.out.symm
  have hO : Own w0 (w.alloc (.cells #[.int .i64 0, .int .u64 0, .int .u64 0, .string ⟨#[]⟩] 39)) (Ps ++ [boxP X 39 #[.int .i64 0, .int .u64 0, .int .u64 0, .string ⟨#[]⟩]]) := by rw [HX.out]; exact h.addBox _ _
  have HN := Lib.hid (fun wx => isNumber_any seq wx)
  have n1 : (1 : Int) ≤ (seq : Int) := by omega
  have n2 : (seq : Int) ≤ 1099511627776 := by omega
  have n3 : ¬ (seq : Int) < 1 := by omega
  have n4 : ¬ (1099511627776 : Int) < (seq : Int) := by omega
  rw [show numB seq = true by unfold numB; rw [decide_eq_true (by omega : 1 ≤ seq), decide_eq_true (by omega : seq ≤ 1099511627776)]; rfl] at HN
  subst hob hge
  have qe : ((en : Int) != 0) = false := by rw [he]; rfl
  have qg : ((ge : Int) != (ge : Int)) = false := by simp
  have l1 : (seq : Int) ≤ (mk : Int) := by omega
  have HH := Lib.hid (fun wx (hO : Own w0 wx (Ps ++ [boxP X 39 #[.int .i64 0, .int .u64 0, .int .u64 0, .string ⟨#[]⟩]])) => headT k g xs L i true ge mk en hG w0 wx _ hO (Hk.out _))
  clear h hk hkl hG hL Hk ha
  replace hO := Lib.hid hO
  go_enter Try.func14, Try.ntmps14
  go_wp2_with fail
  refine (HN.out _).mono ?_
  rintro e w9 ⟨rfl, rfl⟩
  clear HN
  go_wp2_with fail
  try rw [← HX.out]
  refine (HH.out _ hO.out).mono ?_
  rintro e w1 ⟨rfl, hO1⟩
  clear HH hO

  obtain ⟨Y, hYs⟩ : ∃ Y, w1.heap.size = Y := ⟨_, rfl⟩
  have hO2 := hO1.addBox 87 #[.bool true, .int .u64 (ge : Int), .int .u64 (mk : Int)]
  rw [hYs, List.append_assoc] at hO2
  have hO2 : Own w0 (w1.alloc (.cells #[.bool true, .int .u64 (ge : Int), .int .u64 (mk : Int)] 87)) (Ps ++ boxP X 39 #[.int .i64 0, .int .u64 0, .int .u64 0, .string ⟨#[]⟩] :: [boxP Y 87 #[.bool true, .int .u64 (ge : Int), .int .u64 (mk : Int)]]) := hO2
  obtain ⟨w2, hw2⟩ : ∃ w2, w1.alloc (.cells #[.bool true, .int .u64 (ge : Int), .int .u64 (mk : Int)] 87) = w2 := ⟨_, rfl⟩
  rw [hw2] at hO2
  clear hO1



  have hby : w2.heap[Y]? = some (.cells #[.bool true, .int .u64 (ge : Int), .int .u64 (mk : Int)] 87 (0, 0)) := Own.box hO2 (Ps.length + 1) (by rw [List.getElem?_append_right (by omega), show Ps.length + 1 - Ps.length = 1 from by omega]; rfl)
  have y0 : w2.cell? ⟨Y, 0, none⟩ = some (.bool true) := by simp [World.cell?, hby]
  have y1 : w2.cell? ⟨Y, 1, none⟩ = some (.int .u64 (ge : Int)) := by simp [World.cell?, hby]
  have y2 : w2.cell? ⟨Y, 2, none⟩ = some (.int .u64 (mk : Int)) := by simp [World.cell?, hby]
  clear hby
  have hz : w2.heap[X]? = some (.cells #[.int .i64 0, .int .u64 0, .int .u64 0, .string ⟨#[]⟩] 39 (0, 0)) := Own.box hO2 Ps.length (by rw [List.getElem?_append_right (Nat.le_refl _), Nat.sub_self]; rfl)
  have Hq : Hid (∀ w6 : World, w2.grownBy w6 (some X) → Own w0 w6 Ps) := Lib.hid (fun w6 hg => Own.forget hO2 hg)
  have m0 : w2.cell? ⟨X, 0, none⟩ = some (.int .i64 0) := by simp [World.cell?, hz]
  have q0 : w2.frozen? ⟨X, 0, none⟩ = false := by simp [World.frozen?, hz]
  have m1 : w2.cell? ⟨X, 1, none⟩ = some (.int .u64 0) := by simp [World.cell?, hz]
  have q1 : w2.frozen? ⟨X, 1, none⟩ = false := by simp [World.frozen?, hz]
  have m2 : w2.cell? ⟨X, 2, none⟩ = some (.int .u64 0) := by simp [World.cell?, hz]
  have q2 : w2.frozen? ⟨X, 2, none⟩ = false := by simp [World.frozen?, hz]
  have m3 : w2.cell? ⟨X, 3, none⟩ = some (.string ⟨#[]⟩) := by simp [World.cell?, hz]
  have q3 : w2.frozen? ⟨X, 3, none⟩ = false := by simp [World.frozen?, hz]
  have hz1 := heap_setCell_at (o := 0) hz (.int .i64 0)
  have hz2 := heap_setCell_at (o := 1) hz1 (.int .u64 0)
  have hz3 := heap_setCell_at (o := 2) hz2 (.int .u64 0)
  have hz4 := heap_setCell_at (o := 3) hz3 (.string ⟨#[]⟩)
  have g1 : w2.grownBy ((((w2.setCell ⟨X, 0, none⟩ (.int .i64 0)).setCell ⟨X, 1, none⟩ (.int .u64 0)).setCell ⟨X, 2, none⟩ (.int .u64 0)).setCell ⟨X, 3, none⟩ (.string ⟨#[]⟩)) (some X) := (grown_trans (grown_trans (grown_trans (grown_setCell _ ⟨X, 0, none⟩ (.int .i64 0)) (grown_setCell _ ⟨X, 1, none⟩ (.int .u64 0))) (grown_setCell _ ⟨X, 2, none⟩ (.int .u64 0))) (grown_setCell _ ⟨X, 3, none⟩ (.string ⟨#[]⟩)))
  obtain ⟨W3, hW3⟩ : ∃ W3, W3 = ((((w2.setCell ⟨X, 0, none⟩ (.int .i64 0)).setCell ⟨X, 1, none⟩ (.int .u64 0)).setCell ⟨X, 2, none⟩ (.int .u64 0)).setCell ⟨X, 3, none⟩ (.string ⟨#[]⟩)) := ⟨_, rfl⟩
  clear hz1 hz2 hz3
  rw [← hW3] at hz4 g1
  have Z0 : W3.cell? ⟨X, 0, none⟩ = some (.int .i64 0) := by simp [World.cell?, hz4]
  have Z1 : W3.cell? ⟨X, 1, none⟩ = some (.int .u64 0) := by simp [World.cell?, hz4]
  have Z2 : W3.cell? ⟨X, 2, none⟩ = some (.int .u64 0) := by simp [World.cell?, hz4]
  have Z3 : W3.cell? ⟨X, 3, none⟩ = some (.string ⟨#[]⟩) := by simp [World.cell?, hz4]
  clear hO2 HL HG
  go_wp2
  rw [← hW3]
  exact bodyPost_ret (v := .tuple #[.int .u8 2, .agg #[.int .i64 0, .int .u64 0, .int .u64 0, .string ⟨#[]⟩], .int .i64 0]) (by simp [results, Try.results14, go_sem, Z0, Z1, Z2, Z3]) rfl ⟨rfl, Hq.out _ g1⟩

set_option maxRecDepth 100000 in
set_option maxHeartbeats 4000000 in
theorem OfPE (k g : Nat) (xs : List Nat) (L : List (Nat × Nat)) (i : Int) (ob : Bool) (ge mk en gen seq a lq le la lb : Nat) (ld : ByteArray) (en2 : Nat) (hG : GetC xs L i ob ge mk en) (hL : LoadC xs L i a lq le la lb ld en2) (ha : seq % 4 = a) (hs : 1 ≤ seq ∧ seq ≤ 1099511627776) (he : en = 0) (hob : ob = true) (hge : ge = gen) (hd : mk < seq) (hx : 4 < seq - mk) (w0 w : World) (Ps : List Pr) (h : Own w0 w Ps) (hk : Ps[k]? = some (viewP g xs L)) :
    Calls Try.prog 14 #[.pointer (some ⟨g, 0, none⟩), .int .i64 i, .int .u64 (gen : Int), .int .u64 (seq : Int)] w fun e w' => e = .returned (.tuple #[.int .u8 3, .agg #[.int .i64 0, .int .u64 0, .int .u64 0, .string ⟨#[]⟩], .int .i64 0]) ∧ Own w0 w' Ps := by
  have hkl := (List.getElem?_eq_some_iff.1 hk).1
  have Hk := Lib.hid (show ∀ Rs, (Ps ++ Rs)[k]? = some (viewP g xs L) from fun Rs => by rw [List.getElem?_append_left hkl]; exact hk)
  have HL := Lib.hid (fun wx Rs (hO : Own w0 wx (Ps ++ Rs)) => hL k g w0 wx _ hO (Hk.out _))
  have HG := Lib.hid (fun wx Rs (hO : Own w0 wx (Ps ++ Rs)) => hG k g w0 wx _ hO (Hk.out _))
  obtain ⟨X, HX⟩ : ∃ X, Hid (X = w.heap.size) := ⟨_, Lib.hid rfl⟩
  have hXs : w.heap.size = X := HX.out.symm
  have hO : Own w0 (w.alloc (.cells #[.int .i64 0, .int .u64 0, .int .u64 0, .string ⟨#[]⟩] 39)) (Ps ++ [boxP X 39 #[.int .i64 0, .int .u64 0, .int .u64 0, .string ⟨#[]⟩]]) := by rw [HX.out]; exact h.addBox _ _
  have HN := Lib.hid (fun wx => isNumber_any seq wx)
  have n1 : (1 : Int) ≤ (seq : Int) := by omega
  have n2 : (seq : Int) ≤ 1099511627776 := by omega
  have n3 : ¬ (seq : Int) < 1 := by omega
  have n4 : ¬ (1099511627776 : Int) < (seq : Int) := by omega
  rw [show numB seq = true by unfold numB; rw [decide_eq_true (by omega : 1 ≤ seq), decide_eq_true (by omega : seq ≤ 1099511627776)]; rfl] at HN
  subst hob hge
  have qe : ((en : Int) != 0) = false := by rw [he]; rfl
  have qg : ((ge : Int) != (ge : Int)) = false := by simp
  have l1 : ¬ (seq : Int) ≤ (mk : Int) := by omega
  obtain ⟨D, hD⟩ : ∃ D, seq - mk = D := ⟨_, rfl⟩
  have dE : (seq : Int) - (mk : Int) = (D : Int) := by omega
  have dW : IntKind.u64.wrap (D : Int) = (D : Int) := IntWalk.u64_in _ ⟨by omega, by omega⟩
  have l2 : (4 : Int) < (D : Int) := by omega
  have HH := Lib.hid (fun wx (hO : Own w0 wx (Ps ++ [boxP X 39 #[.int .i64 0, .int .u64 0, .int .u64 0, .string ⟨#[]⟩]])) => headT k g xs L i true ge mk en hG w0 wx _ hO (Hk.out _))
  clear h hk hkl hG hL Hk ha
  replace hO := Lib.hid hO
  go_enter Try.func14, Try.ntmps14
  go_wp2_with fail
  refine (HN.out _).mono ?_
  rintro e w9 ⟨rfl, rfl⟩
  clear HN
  go_wp2_with fail
  try rw [← HX.out]
  refine (HH.out _ hO.out).mono ?_
  rintro e w1 ⟨rfl, hO1⟩
  clear HH hO

  obtain ⟨Y, hYs⟩ : ∃ Y, w1.heap.size = Y := ⟨_, rfl⟩
  have hO2 := hO1.addBox 87 #[.bool true, .int .u64 (ge : Int), .int .u64 (mk : Int)]
  rw [hYs, List.append_assoc] at hO2
  have hO2 : Own w0 (w1.alloc (.cells #[.bool true, .int .u64 (ge : Int), .int .u64 (mk : Int)] 87)) (Ps ++ boxP X 39 #[.int .i64 0, .int .u64 0, .int .u64 0, .string ⟨#[]⟩] :: [boxP Y 87 #[.bool true, .int .u64 (ge : Int), .int .u64 (mk : Int)]]) := hO2
  obtain ⟨w2, hw2⟩ : ∃ w2, w1.alloc (.cells #[.bool true, .int .u64 (ge : Int), .int .u64 (mk : Int)] 87) = w2 := ⟨_, rfl⟩
  rw [hw2] at hO2
  clear hO1



  have hby : w2.heap[Y]? = some (.cells #[.bool true, .int .u64 (ge : Int), .int .u64 (mk : Int)] 87 (0, 0)) := Own.box hO2 (Ps.length + 1) (by rw [List.getElem?_append_right (by omega), show Ps.length + 1 - Ps.length = 1 from by omega]; rfl)
  have y0 : w2.cell? ⟨Y, 0, none⟩ = some (.bool true) := by simp [World.cell?, hby]
  have y1 : w2.cell? ⟨Y, 1, none⟩ = some (.int .u64 (ge : Int)) := by simp [World.cell?, hby]
  have y2 : w2.cell? ⟨Y, 2, none⟩ = some (.int .u64 (mk : Int)) := by simp [World.cell?, hby]
  clear hby
  have hz : w2.heap[X]? = some (.cells #[.int .i64 0, .int .u64 0, .int .u64 0, .string ⟨#[]⟩] 39 (0, 0)) := Own.box hO2 Ps.length (by rw [List.getElem?_append_right (Nat.le_refl _), Nat.sub_self]; rfl)
  have Hq : Hid (∀ w6 : World, w2.grownBy w6 (some X) → Own w0 w6 Ps) := Lib.hid (fun w6 hg => Own.forget hO2 hg)
  have m0 : w2.cell? ⟨X, 0, none⟩ = some (.int .i64 0) := by simp [World.cell?, hz]
  have q0 : w2.frozen? ⟨X, 0, none⟩ = false := by simp [World.frozen?, hz]
  have m1 : w2.cell? ⟨X, 1, none⟩ = some (.int .u64 0) := by simp [World.cell?, hz]
  have q1 : w2.frozen? ⟨X, 1, none⟩ = false := by simp [World.frozen?, hz]
  have m2 : w2.cell? ⟨X, 2, none⟩ = some (.int .u64 0) := by simp [World.cell?, hz]
  have q2 : w2.frozen? ⟨X, 2, none⟩ = false := by simp [World.frozen?, hz]
  have m3 : w2.cell? ⟨X, 3, none⟩ = some (.string ⟨#[]⟩) := by simp [World.cell?, hz]
  have q3 : w2.frozen? ⟨X, 3, none⟩ = false := by simp [World.frozen?, hz]
  have hz1 := heap_setCell_at (o := 0) hz (.int .i64 0)
  have hz2 := heap_setCell_at (o := 1) hz1 (.int .u64 0)
  have hz3 := heap_setCell_at (o := 2) hz2 (.int .u64 0)
  have hz4 := heap_setCell_at (o := 3) hz3 (.string ⟨#[]⟩)
  have g1 : w2.grownBy ((((w2.setCell ⟨X, 0, none⟩ (.int .i64 0)).setCell ⟨X, 1, none⟩ (.int .u64 0)).setCell ⟨X, 2, none⟩ (.int .u64 0)).setCell ⟨X, 3, none⟩ (.string ⟨#[]⟩)) (some X) := (grown_trans (grown_trans (grown_trans (grown_setCell _ ⟨X, 0, none⟩ (.int .i64 0)) (grown_setCell _ ⟨X, 1, none⟩ (.int .u64 0))) (grown_setCell _ ⟨X, 2, none⟩ (.int .u64 0))) (grown_setCell _ ⟨X, 3, none⟩ (.string ⟨#[]⟩)))
  obtain ⟨W3, hW3⟩ : ∃ W3, W3 = ((((w2.setCell ⟨X, 0, none⟩ (.int .i64 0)).setCell ⟨X, 1, none⟩ (.int .u64 0)).setCell ⟨X, 2, none⟩ (.int .u64 0)).setCell ⟨X, 3, none⟩ (.string ⟨#[]⟩)) := ⟨_, rfl⟩
  clear hz1 hz2 hz3
  rw [← hW3] at hz4 g1
  have Z0 : W3.cell? ⟨X, 0, none⟩ = some (.int .i64 0) := by simp [World.cell?, hz4]
  have Z1 : W3.cell? ⟨X, 1, none⟩ = some (.int .u64 0) := by simp [World.cell?, hz4]
  have Z2 : W3.cell? ⟨X, 2, none⟩ = some (.int .u64 0) := by simp [World.cell?, hz4]
  have Z3 : W3.cell? ⟨X, 3, none⟩ = some (.string ⟨#[]⟩) := by simp [World.cell?, hz4]
  clear hO2 HL HG
  go_wp2
  rw [← hW3]
  exact bodyPost_ret (v := .tuple #[.int .u8 3, .agg #[.int .i64 0, .int .u64 0, .int .u64 0, .string ⟨#[]⟩], .int .i64 0]) (by simp [results, Try.results14, go_sem, Z0, Z1, Z2, Z3]) rfl ⟨rfl, Hq.out _ g1⟩

set_option maxRecDepth 100000 in
set_option maxHeartbeats 4000000 in
theorem OfPF (k g : Nat) (xs : List Nat) (L : List (Nat × Nat)) (i : Int) (ob : Bool) (ge mk en gen seq a lq le la lb : Nat) (ld : ByteArray) (en2 : Nat) (hG : GetC xs L i ob ge mk en) (hL : LoadC xs L i a lq le la lb ld en2) (ha : seq % 4 = a) (hs : 1 ≤ seq ∧ seq ≤ 1099511627776) (he : en = 0) (hob : ob = true) (hge : ge = gen) (hd : mk < seq) (hx : ¬ 4 < seq - mk) (h2 : en2 ≠ 0) (w0 w : World) (Ps : List Pr) (h : Own w0 w Ps) (hk : Ps[k]? = some (viewP g xs L)) :
    Calls Try.prog 14 #[.pointer (some ⟨g, 0, none⟩), .int .i64 i, .int .u64 (gen : Int), .int .u64 (seq : Int)] w fun e w' => e = .returned (.tuple #[.int .u8 0, .agg #[.int .i64 0, .int .u64 0, .int .u64 0, .string ⟨#[]⟩], .int .i64 (en2 : Int)]) ∧ Own w0 w' Ps := by
  have hkl := (List.getElem?_eq_some_iff.1 hk).1
  have Hk := Lib.hid (show ∀ Rs, (Ps ++ Rs)[k]? = some (viewP g xs L) from fun Rs => by rw [List.getElem?_append_left hkl]; exact hk)
  have HL := Lib.hid (fun wx Rs (hO : Own w0 wx (Ps ++ Rs)) => hL k g w0 wx _ hO (Hk.out _))
  have HG := Lib.hid (fun wx Rs (hO : Own w0 wx (Ps ++ Rs)) => hG k g w0 wx _ hO (Hk.out _))
  obtain ⟨X, HX⟩ : ∃ X, Hid (X = w.heap.size) := ⟨_, Lib.hid rfl⟩
  have hXs : w.heap.size = X := HX.out.symm
  have hO : Own w0 (w.alloc (.cells #[.int .i64 0, .int .u64 0, .int .u64 0, .string ⟨#[]⟩] 39)) (Ps ++ [boxP X 39 #[.int .i64 0, .int .u64 0, .int .u64 0, .string ⟨#[]⟩]]) := by rw [HX.out]; exact h.addBox _ _
  have HN := Lib.hid (fun wx => isNumber_any seq wx)
  have n1 : (1 : Int) ≤ (seq : Int) := by omega
  have n2 : (seq : Int) ≤ 1099511627776 := by omega
  have n3 : ¬ (seq : Int) < 1 := by omega
  have n4 : ¬ (1099511627776 : Int) < (seq : Int) := by omega
  rw [show numB seq = true by unfold numB; rw [decide_eq_true (by omega : 1 ≤ seq), decide_eq_true (by omega : seq ≤ 1099511627776)]; rfl] at HN
  have a1 : (seq : Int) % 4 = (a : Int) := by omega
  have a2 : Int.tmod (seq : Int) 4 = (a : Int) := by rw [Int.tmod_eq_emod_of_nonneg (by omega)]; exact a1
  have a3 : IntKind.u64.wrap (a : Int) = (a : Int) := IntWalk.u64_in _ ⟨by omega, by omega⟩
  have a4 : IntKind.i64.wrap (a : Int) = (a : Int) := IntWalk.i64_in _ ⟨by omega, by omega⟩
  have HSl := Lib.hid (fun wx => slotOf_any seq wx)
  rw [ha] at HSl
  subst hob hge
  have qe : ((en : Int) != 0) = false := by rw [he]; rfl
  have qg : ((ge : Int) != (ge : Int)) = false := by simp
  have l1 : ¬ (seq : Int) ≤ (mk : Int) := by omega
  obtain ⟨D, hD⟩ : ∃ D, seq - mk = D := ⟨_, rfl⟩
  have dE : (seq : Int) - (mk : Int) = (D : Int) := by omega
  have dW : IntKind.u64.wrap (D : Int) = (D : Int) := IntWalk.u64_in _ ⟨by omega, by omega⟩
  have l2 : ¬ (4 : Int) < (D : Int) := by omega
  have q2 : ((en2 : Int) != 0) = true := by simp; omega
  have HH := Lib.hid (fun wx (hO : Own w0 wx (Ps ++ [boxP X 39 #[.int .i64 0, .int .u64 0, .int .u64 0, .string ⟨#[]⟩]])) => headT k g xs L i true ge mk en hG w0 wx _ hO (Hk.out _))
  clear h hk hkl hG hL Hk ha
  replace hO := Lib.hid hO
  go_enter Try.func14, Try.ntmps14
  go_wp2_with fail
  refine (HN.out _).mono ?_
  rintro e w9 ⟨rfl, rfl⟩
  clear HN
  go_wp2_with fail
  try rw [← HX.out]
  refine (HH.out _ hO.out).mono ?_
  rintro e w1 ⟨rfl, hO1⟩
  clear HH hO

  obtain ⟨Y, hYs⟩ : ∃ Y, w1.heap.size = Y := ⟨_, rfl⟩
  have hO2 := hO1.addBox 87 #[.bool true, .int .u64 (ge : Int), .int .u64 (mk : Int)]
  rw [hYs, List.append_assoc] at hO2
  have hO2 : Own w0 (w1.alloc (.cells #[.bool true, .int .u64 (ge : Int), .int .u64 (mk : Int)] 87)) (Ps ++ boxP X 39 #[.int .i64 0, .int .u64 0, .int .u64 0, .string ⟨#[]⟩] :: [boxP Y 87 #[.bool true, .int .u64 (ge : Int), .int .u64 (mk : Int)]]) := hO2
  obtain ⟨w2, hw2⟩ : ∃ w2, w1.alloc (.cells #[.bool true, .int .u64 (ge : Int), .int .u64 (mk : Int)] 87) = w2 := ⟨_, rfl⟩
  rw [hw2] at hO2
  clear hO1



  have hby : w2.heap[Y]? = some (.cells #[.bool true, .int .u64 (ge : Int), .int .u64 (mk : Int)] 87 (0, 0)) := Own.box hO2 (Ps.length + 1) (by rw [List.getElem?_append_right (by omega), show Ps.length + 1 - Ps.length = 1 from by omega]; rfl)
  have y0 : w2.cell? ⟨Y, 0, none⟩ = some (.bool true) := by simp [World.cell?, hby]
  have y1 : w2.cell? ⟨Y, 1, none⟩ = some (.int .u64 (ge : Int)) := by simp [World.cell?, hby]
  have y2 : w2.cell? ⟨Y, 2, none⟩ = some (.int .u64 (mk : Int)) := by simp [World.cell?, hby]
  clear hby
  replace hO2 := Lib.hid hO2
  go_wp2_with fail
  try rw [hw2]
  refine (HSl.out _).mono ?_
  rintro e w9 ⟨rfl, rfl⟩
  go_wp2_with fail
  refine (HL.out _ _ hO2.out).mono ?_
  rintro e w3 ⟨rfl, hO3⟩
  clear hO2 HL HG y0 y1 y2 hw2 hYs HSl
  obtain ⟨V, hVs⟩ : ∃ V, w3.heap.size = V := ⟨_, rfl⟩
  have hO4 := hO3.addBox 39 #[.int .i64 (le : Int), .int .u64 (la : Int), .int .u64 (lb : Int), .string ld]
  rw [hVs, List.append_assoc] at hO4
  have hO4 : Own w0 (w3.alloc (.cells #[.int .i64 (le : Int), .int .u64 (la : Int), .int .u64 (lb : Int), .string ld] 39)) (Ps ++ boxP X 39 #[.int .i64 0, .int .u64 0, .int .u64 0, .string ⟨#[]⟩] :: [boxP Y 87 #[.bool true, .int .u64 (ge : Int), .int .u64 (mk : Int)], boxP V 39 #[.int .i64 (le : Int), .int .u64 (la : Int), .int .u64 (lb : Int), .string ld]]) := hO4
  obtain ⟨w4, hw4⟩ : ∃ w4, w3.alloc (.cells #[.int .i64 (le : Int), .int .u64 (la : Int), .int .u64 (lb : Int), .string ld] 39) = w4 := ⟨_, rfl⟩
  rw [hw4] at hO4
  clear hO3
  have hbv : w4.heap[V]? = some (.cells #[.int .i64 (le : Int), .int .u64 (la : Int), .int .u64 (lb : Int), .string ld] 39 (0, 0)) := Own.box hO4 (Ps.length + 2) (by rw [List.getElem?_append_right (by omega), show Ps.length + 2 - Ps.length = 2 from by omega]; rfl)
  have v0 : w4.cell? ⟨V, 0, none⟩ = some (.int .i64 (le : Int)) := by simp [World.cell?, hbv]
  have v1 : w4.cell? ⟨V, 1, none⟩ = some (.int .u64 (la : Int)) := by simp [World.cell?, hbv]
  have v2 : w4.cell? ⟨V, 2, none⟩ = some (.int .u64 (lb : Int)) := by simp [World.cell?, hbv]
  have v3 : w4.cell? ⟨V, 3, none⟩ = some (.string ld) := by simp [World.cell?, hbv]
  clear hbv
  have hz : w4.heap[X]? = some (.cells #[.int .i64 0, .int .u64 0, .int .u64 0, .string ⟨#[]⟩] 39 (0, 0)) := Own.box hO4 Ps.length (by rw [List.getElem?_append_right (Nat.le_refl _), Nat.sub_self]; rfl)
  have Hq : Hid (∀ w6 : World, w4.grownBy w6 (some X) → Own w0 w6 Ps) := Lib.hid (fun w6 hg => Own.forget hO4 hg)
  have m0 : w4.cell? ⟨X, 0, none⟩ = some (.int .i64 0) := by simp [World.cell?, hz]
  have q0 : w4.frozen? ⟨X, 0, none⟩ = false := by simp [World.frozen?, hz]
  have m1 : w4.cell? ⟨X, 1, none⟩ = some (.int .u64 0) := by simp [World.cell?, hz]
  have q1 : w4.frozen? ⟨X, 1, none⟩ = false := by simp [World.frozen?, hz]
  have m2 : w4.cell? ⟨X, 2, none⟩ = some (.int .u64 0) := by simp [World.cell?, hz]
  have q2 : w4.frozen? ⟨X, 2, none⟩ = false := by simp [World.frozen?, hz]
  have m3 : w4.cell? ⟨X, 3, none⟩ = some (.string ⟨#[]⟩) := by simp [World.cell?, hz]
  have q3 : w4.frozen? ⟨X, 3, none⟩ = false := by simp [World.frozen?, hz]
  have hz1 := heap_setCell_at (o := 0) hz (.int .i64 0)
  have hz2 := heap_setCell_at (o := 1) hz1 (.int .u64 0)
  have hz3 := heap_setCell_at (o := 2) hz2 (.int .u64 0)
  have hz4 := heap_setCell_at (o := 3) hz3 (.string ⟨#[]⟩)
  have g1 : w4.grownBy ((((w4.setCell ⟨X, 0, none⟩ (.int .i64 0)).setCell ⟨X, 1, none⟩ (.int .u64 0)).setCell ⟨X, 2, none⟩ (.int .u64 0)).setCell ⟨X, 3, none⟩ (.string ⟨#[]⟩)) (some X) := (grown_trans (grown_trans (grown_trans (grown_setCell _ ⟨X, 0, none⟩ (.int .i64 0)) (grown_setCell _ ⟨X, 1, none⟩ (.int .u64 0))) (grown_setCell _ ⟨X, 2, none⟩ (.int .u64 0))) (grown_setCell _ ⟨X, 3, none⟩ (.string ⟨#[]⟩)))
  obtain ⟨W3, hW3⟩ : ∃ W3, W3 = ((((w4.setCell ⟨X, 0, none⟩ (.int .i64 0)).setCell ⟨X, 1, none⟩ (.int .u64 0)).setCell ⟨X, 2, none⟩ (.int .u64 0)).setCell ⟨X, 3, none⟩ (.string ⟨#[]⟩)) := ⟨_, rfl⟩
  clear hz1 hz2 hz3
  rw [← hW3] at hz4 g1
  have Z0 : W3.cell? ⟨X, 0, none⟩ = some (.int .i64 0) := by simp [World.cell?, hz4]
  have Z1 : W3.cell? ⟨X, 1, none⟩ = some (.int .u64 0) := by simp [World.cell?, hz4]
  have Z2 : W3.cell? ⟨X, 2, none⟩ = some (.int .u64 0) := by simp [World.cell?, hz4]
  have Z3 : W3.cell? ⟨X, 3, none⟩ = some (.string ⟨#[]⟩) := by simp [World.cell?, hz4]
  clear hO4
  go_wp2
  rw [← hW3]
  exact bodyPost_ret (v := .tuple #[.int .u8 0, .agg #[.int .i64 0, .int .u64 0, .int .u64 0, .string ⟨#[]⟩], .int .i64 (en2 : Int)]) (by simp [results, Try.results14, go_sem, Z0, Z1, Z2, Z3]) rfl ⟨rfl, Hq.out _ g1⟩

set_option maxRecDepth 100000 in
set_option maxHeartbeats 4000000 in
theorem OfPG (k g : Nat) (xs : List Nat) (L : List (Nat × Nat)) (i : Int) (ob : Bool) (ge mk en gen seq a lq le la lb : Nat) (ld : ByteArray) (en2 : Nat) (hG : GetC xs L i ob ge mk en) (hL : LoadC xs L i a lq le la lb ld en2) (ha : seq % 4 = a) (hs : 1 ≤ seq ∧ seq ≤ 1099511627776) (he : en = 0) (hob : ob = true) (hge : ge = gen) (hd : mk < seq) (hx : ¬ 4 < seq - mk) (h2 : en2 = 0) (h3 : lq = seq) (w0 w : World) (Ps : List Pr) (h : Own w0 w Ps) (hk : Ps[k]? = some (viewP g xs L)) :
    Calls Try.prog 14 #[.pointer (some ⟨g, 0, none⟩), .int .i64 i, .int .u64 (gen : Int), .int .u64 (seq : Int)] w fun e w' => e = .returned (.tuple #[.int .u8 1, .agg #[.int .i64 (le : Int), .int .u64 (la : Int), .int .u64 (lb : Int), .string ld], .int .i64 0]) ∧ Own w0 w' Ps := by
  have hkl := (List.getElem?_eq_some_iff.1 hk).1
  have Hk := Lib.hid (show ∀ Rs, (Ps ++ Rs)[k]? = some (viewP g xs L) from fun Rs => by rw [List.getElem?_append_left hkl]; exact hk)
  have HL := Lib.hid (fun wx Rs (hO : Own w0 wx (Ps ++ Rs)) => hL k g w0 wx _ hO (Hk.out _))
  have HG := Lib.hid (fun wx Rs (hO : Own w0 wx (Ps ++ Rs)) => hG k g w0 wx _ hO (Hk.out _))
  obtain ⟨X, HX⟩ : ∃ X, Hid (X = w.heap.size) := ⟨_, Lib.hid rfl⟩
  have hXs : w.heap.size = X := HX.out.symm
  have hO : Own w0 (w.alloc (.cells #[.int .i64 0, .int .u64 0, .int .u64 0, .string ⟨#[]⟩] 39)) (Ps ++ [boxP X 39 #[.int .i64 0, .int .u64 0, .int .u64 0, .string ⟨#[]⟩]]) := by rw [HX.out]; exact h.addBox _ _
  have HN := Lib.hid (fun wx => isNumber_any seq wx)
  have n1 : (1 : Int) ≤ (seq : Int) := by omega
  have n2 : (seq : Int) ≤ 1099511627776 := by omega
  have n3 : ¬ (seq : Int) < 1 := by omega
  have n4 : ¬ (1099511627776 : Int) < (seq : Int) := by omega
  rw [show numB seq = true by unfold numB; rw [decide_eq_true (by omega : 1 ≤ seq), decide_eq_true (by omega : seq ≤ 1099511627776)]; rfl] at HN
  have a1 : (seq : Int) % 4 = (a : Int) := by omega
  have a2 : Int.tmod (seq : Int) 4 = (a : Int) := by rw [Int.tmod_eq_emod_of_nonneg (by omega)]; exact a1
  have a3 : IntKind.u64.wrap (a : Int) = (a : Int) := IntWalk.u64_in _ ⟨by omega, by omega⟩
  have a4 : IntKind.i64.wrap (a : Int) = (a : Int) := IntWalk.i64_in _ ⟨by omega, by omega⟩
  have HSl := Lib.hid (fun wx => slotOf_any seq wx)
  rw [ha] at HSl
  subst hob hge
  have qe : ((en : Int) != 0) = false := by rw [he]; rfl
  have qg : ((ge : Int) != (ge : Int)) = false := by simp
  have l1 : ¬ (seq : Int) ≤ (mk : Int) := by omega
  obtain ⟨D, hD⟩ : ∃ D, seq - mk = D := ⟨_, rfl⟩
  have dE : (seq : Int) - (mk : Int) = (D : Int) := by omega
  have dW : IntKind.u64.wrap (D : Int) = (D : Int) := IntWalk.u64_in _ ⟨by omega, by omega⟩
  have l2 : ¬ (4 : Int) < (D : Int) := by omega
  have q2 : ((en2 : Int) != 0) = false := by rw [h2]; rfl
  subst h3
  have l3 : ((lq : Int) != (lq : Int)) = false := by simp
  have HH := Lib.hid (fun wx (hO : Own w0 wx (Ps ++ [boxP X 39 #[.int .i64 0, .int .u64 0, .int .u64 0, .string ⟨#[]⟩]])) => headT k g xs L i true ge mk en hG w0 wx _ hO (Hk.out _))
  clear h hk hkl hG hL Hk ha
  replace hO := Lib.hid hO
  go_enter Try.func14, Try.ntmps14
  go_wp2_with fail
  refine (HN.out _).mono ?_
  rintro e w9 ⟨rfl, rfl⟩
  clear HN
  go_wp2_with fail
  try rw [← HX.out]
  refine (HH.out _ hO.out).mono ?_
  rintro e w1 ⟨rfl, hO1⟩
  clear HH hO

  obtain ⟨Y, hYs⟩ : ∃ Y, w1.heap.size = Y := ⟨_, rfl⟩
  have hO2 := hO1.addBox 87 #[.bool true, .int .u64 (ge : Int), .int .u64 (mk : Int)]
  rw [hYs, List.append_assoc] at hO2
  have hO2 : Own w0 (w1.alloc (.cells #[.bool true, .int .u64 (ge : Int), .int .u64 (mk : Int)] 87)) (Ps ++ boxP X 39 #[.int .i64 0, .int .u64 0, .int .u64 0, .string ⟨#[]⟩] :: [boxP Y 87 #[.bool true, .int .u64 (ge : Int), .int .u64 (mk : Int)]]) := hO2
  obtain ⟨w2, hw2⟩ : ∃ w2, w1.alloc (.cells #[.bool true, .int .u64 (ge : Int), .int .u64 (mk : Int)] 87) = w2 := ⟨_, rfl⟩
  rw [hw2] at hO2
  clear hO1



  have hby : w2.heap[Y]? = some (.cells #[.bool true, .int .u64 (ge : Int), .int .u64 (mk : Int)] 87 (0, 0)) := Own.box hO2 (Ps.length + 1) (by rw [List.getElem?_append_right (by omega), show Ps.length + 1 - Ps.length = 1 from by omega]; rfl)
  have y0 : w2.cell? ⟨Y, 0, none⟩ = some (.bool true) := by simp [World.cell?, hby]
  have y1 : w2.cell? ⟨Y, 1, none⟩ = some (.int .u64 (ge : Int)) := by simp [World.cell?, hby]
  have y2 : w2.cell? ⟨Y, 2, none⟩ = some (.int .u64 (mk : Int)) := by simp [World.cell?, hby]
  clear hby
  replace hO2 := Lib.hid hO2
  go_wp2_with fail
  try rw [hw2]
  refine (HSl.out _).mono ?_
  rintro e w9 ⟨rfl, rfl⟩
  go_wp2_with fail
  refine (HL.out _ _ hO2.out).mono ?_
  rintro e w3 ⟨rfl, hO3⟩
  clear hO2 HL HG y0 y1 y2 hw2 hYs HSl
  obtain ⟨V, hVs⟩ : ∃ V, w3.heap.size = V := ⟨_, rfl⟩
  have hO4 := hO3.addBox 39 #[.int .i64 (le : Int), .int .u64 (la : Int), .int .u64 (lb : Int), .string ld]
  rw [hVs, List.append_assoc] at hO4
  have hO4 : Own w0 (w3.alloc (.cells #[.int .i64 (le : Int), .int .u64 (la : Int), .int .u64 (lb : Int), .string ld] 39)) (Ps ++ boxP X 39 #[.int .i64 0, .int .u64 0, .int .u64 0, .string ⟨#[]⟩] :: [boxP Y 87 #[.bool true, .int .u64 (ge : Int), .int .u64 (mk : Int)], boxP V 39 #[.int .i64 (le : Int), .int .u64 (la : Int), .int .u64 (lb : Int), .string ld]]) := hO4
  obtain ⟨w4, hw4⟩ : ∃ w4, w3.alloc (.cells #[.int .i64 (le : Int), .int .u64 (la : Int), .int .u64 (lb : Int), .string ld] 39) = w4 := ⟨_, rfl⟩
  rw [hw4] at hO4
  clear hO3
  have hbv : w4.heap[V]? = some (.cells #[.int .i64 (le : Int), .int .u64 (la : Int), .int .u64 (lb : Int), .string ld] 39 (0, 0)) := Own.box hO4 (Ps.length + 2) (by rw [List.getElem?_append_right (by omega), show Ps.length + 2 - Ps.length = 2 from by omega]; rfl)
  have v0 : w4.cell? ⟨V, 0, none⟩ = some (.int .i64 (le : Int)) := by simp [World.cell?, hbv]
  have v1 : w4.cell? ⟨V, 1, none⟩ = some (.int .u64 (la : Int)) := by simp [World.cell?, hbv]
  have v2 : w4.cell? ⟨V, 2, none⟩ = some (.int .u64 (lb : Int)) := by simp [World.cell?, hbv]
  have v3 : w4.cell? ⟨V, 3, none⟩ = some (.string ld) := by simp [World.cell?, hbv]
  clear hbv
  have hz : w4.heap[X]? = some (.cells #[.int .i64 0, .int .u64 0, .int .u64 0, .string ⟨#[]⟩] 39 (0, 0)) := Own.box hO4 Ps.length (by rw [List.getElem?_append_right (Nat.le_refl _), Nat.sub_self]; rfl)
  have Hq : Hid (∀ w6 : World, w4.grownBy w6 (some X) → Own w0 w6 Ps) := Lib.hid (fun w6 hg => Own.forget hO4 hg)
  have m0 : w4.cell? ⟨X, 0, none⟩ = some (.int .i64 0) := by simp [World.cell?, hz]
  have q0 : w4.frozen? ⟨X, 0, none⟩ = false := by simp [World.frozen?, hz]
  have m1 : w4.cell? ⟨X, 1, none⟩ = some (.int .u64 0) := by simp [World.cell?, hz]
  have q1 : w4.frozen? ⟨X, 1, none⟩ = false := by simp [World.frozen?, hz]
  have m2 : w4.cell? ⟨X, 2, none⟩ = some (.int .u64 0) := by simp [World.cell?, hz]
  have q2 : w4.frozen? ⟨X, 2, none⟩ = false := by simp [World.frozen?, hz]
  have m3 : w4.cell? ⟨X, 3, none⟩ = some (.string ⟨#[]⟩) := by simp [World.cell?, hz]
  have q3 : w4.frozen? ⟨X, 3, none⟩ = false := by simp [World.frozen?, hz]
  have hz1 := heap_setCell_at (o := 0) hz (.int .i64 (le : Int))
  have hz2 := heap_setCell_at (o := 1) hz1 (.int .u64 (la : Int))
  have hz3 := heap_setCell_at (o := 2) hz2 (.int .u64 (lb : Int))
  have hz4 := heap_setCell_at (o := 3) hz3 (.string ld)
  have g1 : w4.grownBy ((((w4.setCell ⟨X, 0, none⟩ (.int .i64 (le : Int))).setCell ⟨X, 1, none⟩ (.int .u64 (la : Int))).setCell ⟨X, 2, none⟩ (.int .u64 (lb : Int))).setCell ⟨X, 3, none⟩ (.string ld)) (some X) := (grown_trans (grown_trans (grown_trans (grown_setCell _ ⟨X, 0, none⟩ (.int .i64 (le : Int))) (grown_setCell _ ⟨X, 1, none⟩ (.int .u64 (la : Int)))) (grown_setCell _ ⟨X, 2, none⟩ (.int .u64 (lb : Int)))) (grown_setCell _ ⟨X, 3, none⟩ (.string ld)))
  obtain ⟨W3, hW3⟩ : ∃ W3, W3 = ((((w4.setCell ⟨X, 0, none⟩ (.int .i64 (le : Int))).setCell ⟨X, 1, none⟩ (.int .u64 (la : Int))).setCell ⟨X, 2, none⟩ (.int .u64 (lb : Int))).setCell ⟨X, 3, none⟩ (.string ld)) := ⟨_, rfl⟩
  clear hz1 hz2 hz3
  rw [← hW3] at hz4 g1
  have Z0 : W3.cell? ⟨X, 0, none⟩ = some (.int .i64 (le : Int)) := by simp [World.cell?, hz4]
  have Z1 : W3.cell? ⟨X, 1, none⟩ = some (.int .u64 (la : Int)) := by simp [World.cell?, hz4]
  have Z2 : W3.cell? ⟨X, 2, none⟩ = some (.int .u64 (lb : Int)) := by simp [World.cell?, hz4]
  have Z3 : W3.cell? ⟨X, 3, none⟩ = some (.string ld) := by simp [World.cell?, hz4]
  clear hO4
  go_wp2_with fail
  go_region
  all_goals go_wp2
  all_goals (try rw [← hW3])
  all_goals exact bodyPost_ret (v := .tuple #[.int .u8 1, .agg #[.int .i64 (le : Int), .int .u64 (la : Int), .int .u64 (lb : Int), .string ld], .int .i64 0]) (by simp [results, Try.results14, go_sem, Z0, Z1, Z2, Z3]) rfl ⟨rfl, Hq.out _ (grown_drew g1)⟩

set_option maxRecDepth 100000 in
set_option maxHeartbeats 4000000 in
theorem OfPH (k g : Nat) (xs : List Nat) (L : List (Nat × Nat)) (i : Int) (ob : Bool) (ge mk en gen seq a lq le la lb : Nat) (ld : ByteArray) (en2 : Nat) (hG : GetC xs L i ob ge mk en) (hL : LoadC xs L i a lq le la lb ld en2) (ha : seq % 4 = a) (hs : 1 ≤ seq ∧ seq ≤ 1099511627776) (he : en = 0) (hob : ob = true) (hge : ge = gen) (hd : mk < seq) (hx : ¬ 4 < seq - mk) (h2 : en2 = 0) (h3 : lq ≠ seq) (w0 w : World) (Ps : List Pr) (h : Own w0 w Ps) (hk : Ps[k]? = some (viewP g xs L)) :
    Calls Try.prog 14 #[.pointer (some ⟨g, 0, none⟩), .int .i64 i, .int .u64 (gen : Int), .int .u64 (seq : Int)] w fun e w' => e = .returned (.tuple #[.int .u8 0, .agg #[.int .i64 0, .int .u64 0, .int .u64 0, .string ⟨#[]⟩], .int .i64 0]) ∧ Own w0 w' Ps := by
  have hkl := (List.getElem?_eq_some_iff.1 hk).1
  have Hk := Lib.hid (show ∀ Rs, (Ps ++ Rs)[k]? = some (viewP g xs L) from fun Rs => by rw [List.getElem?_append_left hkl]; exact hk)
  have HL := Lib.hid (fun wx Rs (hO : Own w0 wx (Ps ++ Rs)) => hL k g w0 wx _ hO (Hk.out _))
  have HG := Lib.hid (fun wx Rs (hO : Own w0 wx (Ps ++ Rs)) => hG k g w0 wx _ hO (Hk.out _))
  obtain ⟨X, HX⟩ : ∃ X, Hid (X = w.heap.size) := ⟨_, Lib.hid rfl⟩
  have hXs : w.heap.size = X := HX.out.symm
  have hO : Own w0 (w.alloc (.cells #[.int .i64 0, .int .u64 0, .int .u64 0, .string ⟨#[]⟩] 39)) (Ps ++ [boxP X 39 #[.int .i64 0, .int .u64 0, .int .u64 0, .string ⟨#[]⟩]]) := by rw [HX.out]; exact h.addBox _ _
  have HN := Lib.hid (fun wx => isNumber_any seq wx)
  have n1 : (1 : Int) ≤ (seq : Int) := by omega
  have n2 : (seq : Int) ≤ 1099511627776 := by omega
  have n3 : ¬ (seq : Int) < 1 := by omega
  have n4 : ¬ (1099511627776 : Int) < (seq : Int) := by omega
  rw [show numB seq = true by unfold numB; rw [decide_eq_true (by omega : 1 ≤ seq), decide_eq_true (by omega : seq ≤ 1099511627776)]; rfl] at HN
  have a1 : (seq : Int) % 4 = (a : Int) := by omega
  have a2 : Int.tmod (seq : Int) 4 = (a : Int) := by rw [Int.tmod_eq_emod_of_nonneg (by omega)]; exact a1
  have a3 : IntKind.u64.wrap (a : Int) = (a : Int) := IntWalk.u64_in _ ⟨by omega, by omega⟩
  have a4 : IntKind.i64.wrap (a : Int) = (a : Int) := IntWalk.i64_in _ ⟨by omega, by omega⟩
  have HSl := Lib.hid (fun wx => slotOf_any seq wx)
  rw [ha] at HSl
  subst hob hge
  have qe : ((en : Int) != 0) = false := by rw [he]; rfl
  have qg : ((ge : Int) != (ge : Int)) = false := by simp
  have l1 : ¬ (seq : Int) ≤ (mk : Int) := by omega
  obtain ⟨D, hD⟩ : ∃ D, seq - mk = D := ⟨_, rfl⟩
  have dE : (seq : Int) - (mk : Int) = (D : Int) := by omega
  have dW : IntKind.u64.wrap (D : Int) = (D : Int) := IntWalk.u64_in _ ⟨by omega, by omega⟩
  have l2 : ¬ (4 : Int) < (D : Int) := by omega
  have q2 : ((en2 : Int) != 0) = false := by rw [h2]; rfl
  have l3 : ((lq : Int) != (seq : Int)) = true := by simp; omega
  have HH := Lib.hid (fun wx (hO : Own w0 wx (Ps ++ [boxP X 39 #[.int .i64 0, .int .u64 0, .int .u64 0, .string ⟨#[]⟩]])) => headT k g xs L i true ge mk en hG w0 wx _ hO (Hk.out _))
  clear h hk hkl hG hL Hk ha
  replace hO := Lib.hid hO
  go_enter Try.func14, Try.ntmps14
  go_wp2_with fail
  refine (HN.out _).mono ?_
  rintro e w9 ⟨rfl, rfl⟩
  clear HN
  go_wp2_with fail
  try rw [← HX.out]
  refine (HH.out _ hO.out).mono ?_
  rintro e w1 ⟨rfl, hO1⟩
  clear HH hO

  obtain ⟨Y, hYs⟩ : ∃ Y, w1.heap.size = Y := ⟨_, rfl⟩
  have hO2 := hO1.addBox 87 #[.bool true, .int .u64 (ge : Int), .int .u64 (mk : Int)]
  rw [hYs, List.append_assoc] at hO2
  have hO2 : Own w0 (w1.alloc (.cells #[.bool true, .int .u64 (ge : Int), .int .u64 (mk : Int)] 87)) (Ps ++ boxP X 39 #[.int .i64 0, .int .u64 0, .int .u64 0, .string ⟨#[]⟩] :: [boxP Y 87 #[.bool true, .int .u64 (ge : Int), .int .u64 (mk : Int)]]) := hO2
  obtain ⟨w2, hw2⟩ : ∃ w2, w1.alloc (.cells #[.bool true, .int .u64 (ge : Int), .int .u64 (mk : Int)] 87) = w2 := ⟨_, rfl⟩
  rw [hw2] at hO2
  clear hO1



  have hby : w2.heap[Y]? = some (.cells #[.bool true, .int .u64 (ge : Int), .int .u64 (mk : Int)] 87 (0, 0)) := Own.box hO2 (Ps.length + 1) (by rw [List.getElem?_append_right (by omega), show Ps.length + 1 - Ps.length = 1 from by omega]; rfl)
  have y0 : w2.cell? ⟨Y, 0, none⟩ = some (.bool true) := by simp [World.cell?, hby]
  have y1 : w2.cell? ⟨Y, 1, none⟩ = some (.int .u64 (ge : Int)) := by simp [World.cell?, hby]
  have y2 : w2.cell? ⟨Y, 2, none⟩ = some (.int .u64 (mk : Int)) := by simp [World.cell?, hby]
  clear hby
  replace hO2 := Lib.hid hO2
  go_wp2_with fail
  try rw [hw2]
  refine (HSl.out _).mono ?_
  rintro e w9 ⟨rfl, rfl⟩
  go_wp2_with fail
  refine (HL.out _ _ hO2.out).mono ?_
  rintro e w3 ⟨rfl, hO3⟩
  clear hO2 HL HG y0 y1 y2 hw2 hYs HSl
  obtain ⟨V, hVs⟩ : ∃ V, w3.heap.size = V := ⟨_, rfl⟩
  have hO4 := hO3.addBox 39 #[.int .i64 (le : Int), .int .u64 (la : Int), .int .u64 (lb : Int), .string ld]
  rw [hVs, List.append_assoc] at hO4
  have hO4 : Own w0 (w3.alloc (.cells #[.int .i64 (le : Int), .int .u64 (la : Int), .int .u64 (lb : Int), .string ld] 39)) (Ps ++ boxP X 39 #[.int .i64 0, .int .u64 0, .int .u64 0, .string ⟨#[]⟩] :: [boxP Y 87 #[.bool true, .int .u64 (ge : Int), .int .u64 (mk : Int)], boxP V 39 #[.int .i64 (le : Int), .int .u64 (la : Int), .int .u64 (lb : Int), .string ld]]) := hO4
  obtain ⟨w4, hw4⟩ : ∃ w4, w3.alloc (.cells #[.int .i64 (le : Int), .int .u64 (la : Int), .int .u64 (lb : Int), .string ld] 39) = w4 := ⟨_, rfl⟩
  rw [hw4] at hO4
  clear hO3
  have hbv : w4.heap[V]? = some (.cells #[.int .i64 (le : Int), .int .u64 (la : Int), .int .u64 (lb : Int), .string ld] 39 (0, 0)) := Own.box hO4 (Ps.length + 2) (by rw [List.getElem?_append_right (by omega), show Ps.length + 2 - Ps.length = 2 from by omega]; rfl)
  have v0 : w4.cell? ⟨V, 0, none⟩ = some (.int .i64 (le : Int)) := by simp [World.cell?, hbv]
  have v1 : w4.cell? ⟨V, 1, none⟩ = some (.int .u64 (la : Int)) := by simp [World.cell?, hbv]
  have v2 : w4.cell? ⟨V, 2, none⟩ = some (.int .u64 (lb : Int)) := by simp [World.cell?, hbv]
  have v3 : w4.cell? ⟨V, 3, none⟩ = some (.string ld) := by simp [World.cell?, hbv]
  clear hbv
  have hz : w4.heap[X]? = some (.cells #[.int .i64 0, .int .u64 0, .int .u64 0, .string ⟨#[]⟩] 39 (0, 0)) := Own.box hO4 Ps.length (by rw [List.getElem?_append_right (Nat.le_refl _), Nat.sub_self]; rfl)
  have Hq : Hid (∀ w6 : World, w4.grownBy w6 (some X) → Own w0 w6 Ps) := Lib.hid (fun w6 hg => Own.forget hO4 hg)
  have m0 : w4.cell? ⟨X, 0, none⟩ = some (.int .i64 0) := by simp [World.cell?, hz]
  have q0 : w4.frozen? ⟨X, 0, none⟩ = false := by simp [World.frozen?, hz]
  have m1 : w4.cell? ⟨X, 1, none⟩ = some (.int .u64 0) := by simp [World.cell?, hz]
  have q1 : w4.frozen? ⟨X, 1, none⟩ = false := by simp [World.frozen?, hz]
  have m2 : w4.cell? ⟨X, 2, none⟩ = some (.int .u64 0) := by simp [World.cell?, hz]
  have q2 : w4.frozen? ⟨X, 2, none⟩ = false := by simp [World.frozen?, hz]
  have m3 : w4.cell? ⟨X, 3, none⟩ = some (.string ⟨#[]⟩) := by simp [World.cell?, hz]
  have q3 : w4.frozen? ⟨X, 3, none⟩ = false := by simp [World.frozen?, hz]
  have hz1 := heap_setCell_at (o := 0) hz (.int .i64 0)
  have hz2 := heap_setCell_at (o := 1) hz1 (.int .u64 0)
  have hz3 := heap_setCell_at (o := 2) hz2 (.int .u64 0)
  have hz4 := heap_setCell_at (o := 3) hz3 (.string ⟨#[]⟩)
  have g1 : w4.grownBy ((((w4.setCell ⟨X, 0, none⟩ (.int .i64 0)).setCell ⟨X, 1, none⟩ (.int .u64 0)).setCell ⟨X, 2, none⟩ (.int .u64 0)).setCell ⟨X, 3, none⟩ (.string ⟨#[]⟩)) (some X) := (grown_trans (grown_trans (grown_trans (grown_setCell _ ⟨X, 0, none⟩ (.int .i64 0)) (grown_setCell _ ⟨X, 1, none⟩ (.int .u64 0))) (grown_setCell _ ⟨X, 2, none⟩ (.int .u64 0))) (grown_setCell _ ⟨X, 3, none⟩ (.string ⟨#[]⟩)))
  obtain ⟨W3, hW3⟩ : ∃ W3, W3 = ((((w4.setCell ⟨X, 0, none⟩ (.int .i64 0)).setCell ⟨X, 1, none⟩ (.int .u64 0)).setCell ⟨X, 2, none⟩ (.int .u64 0)).setCell ⟨X, 3, none⟩ (.string ⟨#[]⟩)) := ⟨_, rfl⟩
  clear hz1 hz2 hz3
  rw [← hW3] at hz4 g1
  have Z0 : W3.cell? ⟨X, 0, none⟩ = some (.int .i64 0) := by simp [World.cell?, hz4]
  have Z1 : W3.cell? ⟨X, 1, none⟩ = some (.int .u64 0) := by simp [World.cell?, hz4]
  have Z2 : W3.cell? ⟨X, 2, none⟩ = some (.int .u64 0) := by simp [World.cell?, hz4]
  have Z3 : W3.cell? ⟨X, 3, none⟩ = some (.string ⟨#[]⟩) := by simp [World.cell?, hz4]
  clear hO4
  go_wp2
  rw [← hW3]
  exact bodyPost_ret (v := .tuple #[.int .u8 0, .agg #[.int .i64 0, .int .u64 0, .int .u64 0, .string ⟨#[]⟩], .int .i64 0]) (by simp [results, Try.results14, go_sem, Z0, Z1, Z2, Z3]) rfl ⟨rfl, Hq.out _ g1⟩

set_option maxRecDepth 100000 in
set_option maxHeartbeats 4000000 in
theorem OfR_A1 (k g : Nat) (xs : List Nat) (L : List (Nat × Nat)) (i : Int) (ob : Bool) (ge mk en gen seq a lq le la lb : Nat) (ld : ByteArray) (en2 : Nat) (hG : RGetC xs L i ob ge mk en) (hL : RLoadC xs L i a lq le la lb ld en2) (ha : seq % 4 = a) (hs : seq < 1) (w0 w : World) (Ps : List Pr) (h : Own w0 w Ps) (hk : Ps[k]? = some (refQ g xs L)) :
    Calls Try.prog 15 #[.pointer (some ⟨g, 0, none⟩), .int .i64 i, .int .u64 (gen : Int), .int .u64 (seq : Int)] w fun e w' => e = .returned (.tuple #[.int .i64 0, .agg #[.int .i64 0, .int .u64 0, .int .u64 0, .string ⟨#[]⟩], .int .i64 1]) ∧ Own w0 w' Ps := by
  have hkl := (List.getElem?_eq_some_iff.1 hk).1
  have Hk := Lib.hid (show ∀ Rs, (Ps ++ Rs)[k]? = some (refQ g xs L) from fun Rs => by rw [List.getElem?_append_left hkl]; exact hk)
  have HL := Lib.hid (fun wx Rs (hO : Own w0 wx (Ps ++ Rs)) => hL k g w0 wx _ hO (Hk.out _))
  have HG := Lib.hid (fun wx Rs (hO : Own w0 wx (Ps ++ Rs)) => hG k g w0 wx _ hO (Hk.out _))
  obtain ⟨X, HX⟩ : ∃ X, Hid (X = w.heap.size) := ⟨_, Lib.hid rfl⟩
  have hXs : w.heap.size = X := HX.out.symm
  obtain ⟨N, HN⟩ : ∃ N, Hid (N = w.heap.size + 1) := ⟨_, Lib.hid rfl⟩
  have hNs : X + 1 = N := by rw [HX.out]; exact HN.out.symm
  have hO : Own w0 ((w.alloc (.cells #[.int .i64 0, .int .u64 0, .int .u64 0, .string ⟨#[]⟩] 39)).alloc (.cells #[.int .i64 0, .int .u64 0, .int .u64 0, .string ⟨#[]⟩] 39)) (Ps ++ [boxP X 39 #[.int .i64 0, .int .u64 0, .int .u64 0, .string ⟨#[]⟩], boxP N 39 #[.int .i64 0, .int .u64 0, .int .u64 0, .string ⟨#[]⟩]]) := by
    have h := (h.addBox 39 #[.int .i64 0, .int .u64 0, .int .u64 0, .string ⟨#[]⟩]).addBox 39 #[.int .i64 0, .int .u64 0, .int .u64 0, .string ⟨#[]⟩]
    rw [World.size_alloc, ← HN.out, ← HX.out, List.append_assoc] at h
    exact h
  have n3 : (seq : Int) < 1 := by omega
  clear h hk hkl hG hL Hk ha
  go_enter Try.func15, Try.ntmps15
  go_upto_region 2 with fail
  obtain ⟨w1, hw1⟩ : ∃ w1, ((w.alloc (.cells #[.int .i64 0, .int .u64 0, .int .u64 0, .string ⟨#[]⟩] 39)).alloc (.cells #[.int .i64 0, .int .u64 0, .int .u64 0, .string ⟨#[]⟩] 39)) = w1 := ⟨_, rfl⟩
  rw [hw1] at hO
  change Code.wp _ _ _ _ ((w.alloc (.cells #[.int .i64 0, .int .u64 0, .int .u64 0, .string ⟨#[]⟩] 39)).alloc (.cells #[.int .i64 0, .int .u64 0, .int .u64 0, .string ⟨#[]⟩] 39))
  rw [hw1]
  clear hw1
  have hbn_ : w1.heap[N]? = some (.cells #[.int .i64 0, .int .u64 0, .int .u64 0, .string ⟨#[]⟩] 39 (0, 0)) := Own.box hO (Ps.length + 1) (by rw [List.getElem?_append_right (by omega), show Ps.length + 1 - Ps.length = 1 from by omega]; rfl)
  have n_0 : w1.cell? ⟨N, 0, none⟩ = some (.int .i64 0) := by simp [World.cell?, hbn_]
  have n_1 : w1.cell? ⟨N, 1, none⟩ = some (.int .u64 0) := by simp [World.cell?, hbn_]
  have n_2 : w1.cell? ⟨N, 2, none⟩ = some (.int .u64 0) := by simp [World.cell?, hbn_]
  have n_3 : w1.cell? ⟨N, 3, none⟩ = some (.string ⟨#[]⟩) := by simp [World.cell?, hbn_]
  clear hbn_
  have hz : w1.heap[X]? = some (.cells #[.int .i64 0, .int .u64 0, .int .u64 0, .string ⟨#[]⟩] 39 (0, 0)) := Own.box hO Ps.length (by rw [List.getElem?_append_right (Nat.le_refl _), Nat.sub_self]; rfl)
  have Hq : Hid (∀ w6 : World, w1.grownBy w6 (some X) → Own w0 w6 Ps) := Lib.hid (fun w6 hg => Own.forget hO hg)
  have m0 : w1.cell? ⟨X, 0, none⟩ = some (.int .i64 0) := by simp [World.cell?, hz]
  have q0 : w1.frozen? ⟨X, 0, none⟩ = false := by simp [World.frozen?, hz]
  have m1 : w1.cell? ⟨X, 1, none⟩ = some (.int .u64 0) := by simp [World.cell?, hz]
  have q1 : w1.frozen? ⟨X, 1, none⟩ = false := by simp [World.frozen?, hz]
  have m2 : w1.cell? ⟨X, 2, none⟩ = some (.int .u64 0) := by simp [World.cell?, hz]
  have q2 : w1.frozen? ⟨X, 2, none⟩ = false := by simp [World.frozen?, hz]
  have m3 : w1.cell? ⟨X, 3, none⟩ = some (.string ⟨#[]⟩) := by simp [World.cell?, hz]
  have q3 : w1.frozen? ⟨X, 3, none⟩ = false := by simp [World.frozen?, hz]
  have hz1 := heap_setCell_at (o := 0) hz (.int .i64 0)
  have hz2 := heap_setCell_at (o := 1) hz1 (.int .u64 0)
  have hz3 := heap_setCell_at (o := 2) hz2 (.int .u64 0)
  have hz4 := heap_setCell_at (o := 3) hz3 (.string ⟨#[]⟩)
  have g1 : w1.grownBy ((((w1.setCell ⟨X, 0, none⟩ (.int .i64 0)).setCell ⟨X, 1, none⟩ (.int .u64 0)).setCell ⟨X, 2, none⟩ (.int .u64 0)).setCell ⟨X, 3, none⟩ (.string ⟨#[]⟩)) (some X) := (grown_trans (grown_trans (grown_trans (grown_setCell _ ⟨X, 0, none⟩ (.int .i64 0)) (grown_setCell _ ⟨X, 1, none⟩ (.int .u64 0))) (grown_setCell _ ⟨X, 2, none⟩ (.int .u64 0))) (grown_setCell _ ⟨X, 3, none⟩ (.string ⟨#[]⟩)))
  obtain ⟨W3, hW3⟩ : ∃ W3, W3 = ((((w1.setCell ⟨X, 0, none⟩ (.int .i64 0)).setCell ⟨X, 1, none⟩ (.int .u64 0)).setCell ⟨X, 2, none⟩ (.int .u64 0)).setCell ⟨X, 3, none⟩ (.string ⟨#[]⟩)) := ⟨_, rfl⟩
  clear hz1 hz2 hz3
  rw [← hW3] at hz4 g1
  have Z0 : W3.cell? ⟨X, 0, none⟩ = some (.int .i64 0) := by simp [World.cell?, hz4]
  have Z1 : W3.cell? ⟨X, 1, none⟩ = some (.int .u64 0) := by simp [World.cell?, hz4]
  have Z2 : W3.cell? ⟨X, 2, none⟩ = some (.int .u64 0) := by simp [World.cell?, hz4]
  have Z3 : W3.cell? ⟨X, 3, none⟩ = some (.string ⟨#[]⟩) := by simp [World.cell?, hz4]
  clear hO HL HG
  go_wp2_with fail
  go_region
  all_goals go_wp2
  all_goals (try rw [← hW3])
  all_goals exact bodyPost_ret (v := .tuple #[.int .i64 0, .agg #[.int .i64 0, .int .u64 0, .int .u64 0, .string ⟨#[]⟩], .int .i64 1]) (by simp [results, Try.results15, go_sem, Z0, Z1, Z2, Z3]) rfl ⟨rfl, Hq.out _ (grown_drew g1)⟩

set_option maxRecDepth 100000 in
set_option maxHeartbeats 4000000 in
theorem OfR_A2 (k g : Nat) (xs : List Nat) (L : List (Nat × Nat)) (i : Int) (ob : Bool) (ge mk en gen seq a lq le la lb : Nat) (ld : ByteArray) (en2 : Nat) (hG : RGetC xs L i ob ge mk en) (hL : RLoadC xs L i a lq le la lb ld en2) (ha : seq % 4 = a) (hs : 1099511627776 < seq) (w0 w : World) (Ps : List Pr) (h : Own w0 w Ps) (hk : Ps[k]? = some (refQ g xs L)) :
    Calls Try.prog 15 #[.pointer (some ⟨g, 0, none⟩), .int .i64 i, .int .u64 (gen : Int), .int .u64 (seq : Int)] w fun e w' => e = .returned (.tuple #[.int .i64 0, .agg #[.int .i64 0, .int .u64 0, .int .u64 0, .string ⟨#[]⟩], .int .i64 1]) ∧ Own w0 w' Ps := by
  have hkl := (List.getElem?_eq_some_iff.1 hk).1
  have Hk := Lib.hid (show ∀ Rs, (Ps ++ Rs)[k]? = some (refQ g xs L) from fun Rs => by rw [List.getElem?_append_left hkl]; exact hk)
  have HL := Lib.hid (fun wx Rs (hO : Own w0 wx (Ps ++ Rs)) => hL k g w0 wx _ hO (Hk.out _))
  have HG := Lib.hid (fun wx Rs (hO : Own w0 wx (Ps ++ Rs)) => hG k g w0 wx _ hO (Hk.out _))
  obtain ⟨X, HX⟩ : ∃ X, Hid (X = w.heap.size) := ⟨_, Lib.hid rfl⟩
  have hXs : w.heap.size = X := HX.out.symm
  obtain ⟨N, HN⟩ : ∃ N, Hid (N = w.heap.size + 1) := ⟨_, Lib.hid rfl⟩
  have hNs : X + 1 = N := by rw [HX.out]; exact HN.out.symm
  have hO : Own w0 ((w.alloc (.cells #[.int .i64 0, .int .u64 0, .int .u64 0, .string ⟨#[]⟩] 39)).alloc (.cells #[.int .i64 0, .int .u64 0, .int .u64 0, .string ⟨#[]⟩] 39)) (Ps ++ [boxP X 39 #[.int .i64 0, .int .u64 0, .int .u64 0, .string ⟨#[]⟩], boxP N 39 #[.int .i64 0, .int .u64 0, .int .u64 0, .string ⟨#[]⟩]]) := by
    have h := (h.addBox 39 #[.int .i64 0, .int .u64 0, .int .u64 0, .string ⟨#[]⟩]).addBox 39 #[.int .i64 0, .int .u64 0, .int .u64 0, .string ⟨#[]⟩]
    rw [World.size_alloc, ← HN.out, ← HX.out, List.append_assoc] at h
    exact h
  have n3 : ¬ (seq : Int) < 1 := by omega
  have n4 : (1099511627776 : Int) < (seq : Int) := by omega
  clear h hk hkl hG hL Hk ha
  go_enter Try.func15, Try.ntmps15
  go_upto_region 2 with fail
  obtain ⟨w1, hw1⟩ : ∃ w1, ((w.alloc (.cells #[.int .i64 0, .int .u64 0, .int .u64 0, .string ⟨#[]⟩] 39)).alloc (.cells #[.int .i64 0, .int .u64 0, .int .u64 0, .string ⟨#[]⟩] 39)) = w1 := ⟨_, rfl⟩
  rw [hw1] at hO
  change Code.wp _ _ _ _ ((w.alloc (.cells #[.int .i64 0, .int .u64 0, .int .u64 0, .string ⟨#[]⟩] 39)).alloc (.cells #[.int .i64 0, .int .u64 0, .int .u64 0, .string ⟨#[]⟩] 39))
  rw [hw1]
  clear hw1
  have hbn_ : w1.heap[N]? = some (.cells #[.int .i64 0, .int .u64 0, .int .u64 0, .string ⟨#[]⟩] 39 (0, 0)) := Own.box hO (Ps.length + 1) (by rw [List.getElem?_append_right (by omega), show Ps.length + 1 - Ps.length = 1 from by omega]; rfl)
  have n_0 : w1.cell? ⟨N, 0, none⟩ = some (.int .i64 0) := by simp [World.cell?, hbn_]
  have n_1 : w1.cell? ⟨N, 1, none⟩ = some (.int .u64 0) := by simp [World.cell?, hbn_]
  have n_2 : w1.cell? ⟨N, 2, none⟩ = some (.int .u64 0) := by simp [World.cell?, hbn_]
  have n_3 : w1.cell? ⟨N, 3, none⟩ = some (.string ⟨#[]⟩) := by simp [World.cell?, hbn_]
  clear hbn_
  have hz : w1.heap[X]? = some (.cells #[.int .i64 0, .int .u64 0, .int .u64 0, .string ⟨#[]⟩] 39 (0, 0)) := Own.box hO Ps.length (by rw [List.getElem?_append_right (Nat.le_refl _), Nat.sub_self]; rfl)
  have Hq : Hid (∀ w6 : World, w1.grownBy w6 (some X) → Own w0 w6 Ps) := Lib.hid (fun w6 hg => Own.forget hO hg)
  have m0 : w1.cell? ⟨X, 0, none⟩ = some (.int .i64 0) := by simp [World.cell?, hz]
  have q0 : w1.frozen? ⟨X, 0, none⟩ = false := by simp [World.frozen?, hz]
  have m1 : w1.cell? ⟨X, 1, none⟩ = some (.int .u64 0) := by simp [World.cell?, hz]
  have q1 : w1.frozen? ⟨X, 1, none⟩ = false := by simp [World.frozen?, hz]
  have m2 : w1.cell? ⟨X, 2, none⟩ = some (.int .u64 0) := by simp [World.cell?, hz]
  have q2 : w1.frozen? ⟨X, 2, none⟩ = false := by simp [World.frozen?, hz]
  have m3 : w1.cell? ⟨X, 3, none⟩ = some (.string ⟨#[]⟩) := by simp [World.cell?, hz]
  have q3 : w1.frozen? ⟨X, 3, none⟩ = false := by simp [World.frozen?, hz]
  have hz1 := heap_setCell_at (o := 0) hz (.int .i64 0)
  have hz2 := heap_setCell_at (o := 1) hz1 (.int .u64 0)
  have hz3 := heap_setCell_at (o := 2) hz2 (.int .u64 0)
  have hz4 := heap_setCell_at (o := 3) hz3 (.string ⟨#[]⟩)
  have g1 : w1.grownBy ((((w1.setCell ⟨X, 0, none⟩ (.int .i64 0)).setCell ⟨X, 1, none⟩ (.int .u64 0)).setCell ⟨X, 2, none⟩ (.int .u64 0)).setCell ⟨X, 3, none⟩ (.string ⟨#[]⟩)) (some X) := (grown_trans (grown_trans (grown_trans (grown_setCell _ ⟨X, 0, none⟩ (.int .i64 0)) (grown_setCell _ ⟨X, 1, none⟩ (.int .u64 0))) (grown_setCell _ ⟨X, 2, none⟩ (.int .u64 0))) (grown_setCell _ ⟨X, 3, none⟩ (.string ⟨#[]⟩)))
  obtain ⟨W3, hW3⟩ : ∃ W3, W3 = ((((w1.setCell ⟨X, 0, none⟩ (.int .i64 0)).setCell ⟨X, 1, none⟩ (.int .u64 0)).setCell ⟨X, 2, none⟩ (.int .u64 0)).setCell ⟨X, 3, none⟩ (.string ⟨#[]⟩)) := ⟨_, rfl⟩
  clear hz1 hz2 hz3
  rw [← hW3] at hz4 g1
  have Z0 : W3.cell? ⟨X, 0, none⟩ = some (.int .i64 0) := by simp [World.cell?, hz4]
  have Z1 : W3.cell? ⟨X, 1, none⟩ = some (.int .u64 0) := by simp [World.cell?, hz4]
  have Z2 : W3.cell? ⟨X, 2, none⟩ = some (.int .u64 0) := by simp [World.cell?, hz4]
  have Z3 : W3.cell? ⟨X, 3, none⟩ = some (.string ⟨#[]⟩) := by simp [World.cell?, hz4]
  clear hO HL HG
  go_wp2_with fail
  go_region
  all_goals go_wp2
  all_goals (try rw [← hW3])
  all_goals exact bodyPost_ret (v := .tuple #[.int .i64 0, .agg #[.int .i64 0, .int .u64 0, .int .u64 0, .string ⟨#[]⟩], .int .i64 1]) (by simp [results, Try.results15, go_sem, Z0, Z1, Z2, Z3]) rfl ⟨rfl, Hq.out _ (grown_drew g1)⟩

set_option maxRecDepth 100000 in
set_option maxHeartbeats 4000000 in
theorem OfR_B (k g : Nat) (xs : List Nat) (L : List (Nat × Nat)) (i : Int) (ob : Bool) (ge mk en gen seq a lq le la lb : Nat) (ld : ByteArray) (en2 : Nat) (hG : RGetC xs L i ob ge mk en) (hL : RLoadC xs L i a lq le la lb ld en2) (ha : seq % 4 = a) (hs : 1 ≤ seq ∧ seq ≤ 1099511627776) (he : en ≠ 0) (w0 w : World) (Ps : List Pr) (h : Own w0 w Ps) (hk : Ps[k]? = some (refQ g xs L)) :
    Calls Try.prog 15 #[.pointer (some ⟨g, 0, none⟩), .int .i64 i, .int .u64 (gen : Int), .int .u64 (seq : Int)] w fun e w' => e = .returned (.tuple #[.int .i64 0, .agg #[.int .i64 0, .int .u64 0, .int .u64 0, .string ⟨#[]⟩], .int .i64 (en : Int)]) ∧ Own w0 w' Ps := by
  have hkl := (List.getElem?_eq_some_iff.1 hk).1
  have Hk := Lib.hid (show ∀ Rs, (Ps ++ Rs)[k]? = some (refQ g xs L) from fun Rs => by rw [List.getElem?_append_left hkl]; exact hk)
  have HL := Lib.hid (fun wx Rs (hO : Own w0 wx (Ps ++ Rs)) => hL k g w0 wx _ hO (Hk.out _))
  have HG := Lib.hid (fun wx Rs (hO : Own w0 wx (Ps ++ Rs)) => hG k g w0 wx _ hO (Hk.out _))
  obtain ⟨X, HX⟩ : ∃ X, Hid (X = w.heap.size) := ⟨_, Lib.hid rfl⟩
  have hXs : w.heap.size = X := HX.out.symm
  obtain ⟨N, HN⟩ : ∃ N, Hid (N = w.heap.size + 1) := ⟨_, Lib.hid rfl⟩
  have hNs : X + 1 = N := by rw [HX.out]; exact HN.out.symm
  have hO : Own w0 ((w.alloc (.cells #[.int .i64 0, .int .u64 0, .int .u64 0, .string ⟨#[]⟩] 39)).alloc (.cells #[.int .i64 0, .int .u64 0, .int .u64 0, .string ⟨#[]⟩] 39)) (Ps ++ [boxP X 39 #[.int .i64 0, .int .u64 0, .int .u64 0, .string ⟨#[]⟩], boxP N 39 #[.int .i64 0, .int .u64 0, .int .u64 0, .string ⟨#[]⟩]]) := by
    have h := (h.addBox 39 #[.int .i64 0, .int .u64 0, .int .u64 0, .string ⟨#[]⟩]).addBox 39 #[.int .i64 0, .int .u64 0, .int .u64 0, .string ⟨#[]⟩]
    rw [World.size_alloc, ← HN.out, ← HX.out, List.append_assoc] at h
    exact h
  have n1 : (1 : Int) ≤ (seq : Int) := by omega
  have n2 : (seq : Int) ≤ 1099511627776 := by omega
  have n3 : ¬ (seq : Int) < 1 := by omega
  have n4 : ¬ (1099511627776 : Int) < (seq : Int) := by omega
  have qe : ((en : Int) != 0) = true := by simp; omega
  have HH := Lib.hid (fun wx (hO : Own w0 wx (Ps ++ [boxP X 39 #[.int .i64 0, .int .u64 0, .int .u64 0, .string ⟨#[]⟩], boxP N 39 #[.int .i64 0, .int .u64 0, .int .u64 0, .string ⟨#[]⟩]])) => ROpened g gen en ge mk en ob i (.inr ⟨.inl he, rfl⟩) w0 wx _ (fun wx Rs hO => by rw [List.append_assoc] at hO ⊢; exact HG.out wx _ hO) hO)
  clear h hk hkl hG hL Hk ha
  replace hO := Lib.hid hO
  go_enter Try.func15, Try.ntmps15
  go_wp2_with fail
  try rw [← HX.out]
  refine (HH.out _ hO.out).mono ?_
  rintro e w1 ⟨rfl, hO1⟩
  clear HH hO

  obtain ⟨Y, hYs⟩ : ∃ Y, w1.heap.size = Y := ⟨_, rfl⟩
  have hO2 := hO1.addBox 94 #[.bool ob, .int .u64 (ge : Int), .int .u64 (mk : Int)]
  rw [hYs, List.append_assoc] at hO2
  have hO2 : Own w0 (w1.alloc (.cells #[.bool ob, .int .u64 (ge : Int), .int .u64 (mk : Int)] 94)) (Ps ++ boxP X 39 #[.int .i64 0, .int .u64 0, .int .u64 0, .string ⟨#[]⟩] :: [boxP N 39 #[.int .i64 0, .int .u64 0, .int .u64 0, .string ⟨#[]⟩], boxP Y 94 #[.bool ob, .int .u64 (ge : Int), .int .u64 (mk : Int)]]) := hO2
  obtain ⟨w2, hw2⟩ : ∃ w2, w1.alloc (.cells #[.bool ob, .int .u64 (ge : Int), .int .u64 (mk : Int)] 94) = w2 := ⟨_, rfl⟩
  rw [hw2] at hO2
  clear hO1



  have hby : w2.heap[Y]? = some (.cells #[.bool ob, .int .u64 (ge : Int), .int .u64 (mk : Int)] 94 (0, 0)) := Own.box hO2 (Ps.length + 2) (by rw [List.getElem?_append_right (by omega), show Ps.length + 2 - Ps.length = 2 from by omega]; rfl)
  have y0 : w2.cell? ⟨Y, 0, none⟩ = some (.bool ob) := by simp [World.cell?, hby]
  have y1 : w2.cell? ⟨Y, 1, none⟩ = some (.int .u64 (ge : Int)) := by simp [World.cell?, hby]
  have y2 : w2.cell? ⟨Y, 2, none⟩ = some (.int .u64 (mk : Int)) := by simp [World.cell?, hby]
  clear hby
  have hbn_ : w2.heap[N]? = some (.cells #[.int .i64 0, .int .u64 0, .int .u64 0, .string ⟨#[]⟩] 39 (0, 0)) := Own.box hO2 (Ps.length + 1) (by rw [List.getElem?_append_right (by omega), show Ps.length + 1 - Ps.length = 1 from by omega]; rfl)
  have n_0 : w2.cell? ⟨N, 0, none⟩ = some (.int .i64 0) := by simp [World.cell?, hbn_]
  have n_1 : w2.cell? ⟨N, 1, none⟩ = some (.int .u64 0) := by simp [World.cell?, hbn_]
  have n_2 : w2.cell? ⟨N, 2, none⟩ = some (.int .u64 0) := by simp [World.cell?, hbn_]
  have n_3 : w2.cell? ⟨N, 3, none⟩ = some (.string ⟨#[]⟩) := by simp [World.cell?, hbn_]
  clear hbn_
  have hz : w2.heap[X]? = some (.cells #[.int .i64 0, .int .u64 0, .int .u64 0, .string ⟨#[]⟩] 39 (0, 0)) := Own.box hO2 Ps.length (by rw [List.getElem?_append_right (Nat.le_refl _), Nat.sub_self]; rfl)
  have Hq : Hid (∀ w6 : World, w2.grownBy w6 (some X) → Own w0 w6 Ps) := Lib.hid (fun w6 hg => Own.forget hO2 hg)
  have m0 : w2.cell? ⟨X, 0, none⟩ = some (.int .i64 0) := by simp [World.cell?, hz]
  have q0 : w2.frozen? ⟨X, 0, none⟩ = false := by simp [World.frozen?, hz]
  have m1 : w2.cell? ⟨X, 1, none⟩ = some (.int .u64 0) := by simp [World.cell?, hz]
  have q1 : w2.frozen? ⟨X, 1, none⟩ = false := by simp [World.frozen?, hz]
  have m2 : w2.cell? ⟨X, 2, none⟩ = some (.int .u64 0) := by simp [World.cell?, hz]
  have q2 : w2.frozen? ⟨X, 2, none⟩ = false := by simp [World.frozen?, hz]
  have m3 : w2.cell? ⟨X, 3, none⟩ = some (.string ⟨#[]⟩) := by simp [World.cell?, hz]
  have q3 : w2.frozen? ⟨X, 3, none⟩ = false := by simp [World.frozen?, hz]
  have hz1 := heap_setCell_at (o := 0) hz (.int .i64 0)
  have hz2 := heap_setCell_at (o := 1) hz1 (.int .u64 0)
  have hz3 := heap_setCell_at (o := 2) hz2 (.int .u64 0)
  have hz4 := heap_setCell_at (o := 3) hz3 (.string ⟨#[]⟩)
  have g1 : w2.grownBy ((((w2.setCell ⟨X, 0, none⟩ (.int .i64 0)).setCell ⟨X, 1, none⟩ (.int .u64 0)).setCell ⟨X, 2, none⟩ (.int .u64 0)).setCell ⟨X, 3, none⟩ (.string ⟨#[]⟩)) (some X) := (grown_trans (grown_trans (grown_trans (grown_setCell _ ⟨X, 0, none⟩ (.int .i64 0)) (grown_setCell _ ⟨X, 1, none⟩ (.int .u64 0))) (grown_setCell _ ⟨X, 2, none⟩ (.int .u64 0))) (grown_setCell _ ⟨X, 3, none⟩ (.string ⟨#[]⟩)))
  obtain ⟨W3, hW3⟩ : ∃ W3, W3 = ((((w2.setCell ⟨X, 0, none⟩ (.int .i64 0)).setCell ⟨X, 1, none⟩ (.int .u64 0)).setCell ⟨X, 2, none⟩ (.int .u64 0)).setCell ⟨X, 3, none⟩ (.string ⟨#[]⟩)) := ⟨_, rfl⟩
  clear hz1 hz2 hz3
  rw [← hW3] at hz4 g1
  have Z0 : W3.cell? ⟨X, 0, none⟩ = some (.int .i64 0) := by simp [World.cell?, hz4]
  have Z1 : W3.cell? ⟨X, 1, none⟩ = some (.int .u64 0) := by simp [World.cell?, hz4]
  have Z2 : W3.cell? ⟨X, 2, none⟩ = some (.int .u64 0) := by simp [World.cell?, hz4]
  have Z3 : W3.cell? ⟨X, 3, none⟩ = some (.string ⟨#[]⟩) := by simp [World.cell?, hz4]
  clear hO2 HL HG
  go_wp2_with fail
  go_region
  all_goals go_wp2
  all_goals (try rw [← hW3])
  all_goals exact bodyPost_ret (v := .tuple #[.int .i64 0, .agg #[.int .i64 0, .int .u64 0, .int .u64 0, .string ⟨#[]⟩], .int .i64 (en : Int)]) (by simp [results, Try.results15, go_sem, Z0, Z1, Z2, Z3]) rfl ⟨rfl, Hq.out _ (grown_drew g1)⟩

set_option maxRecDepth 100000 in
set_option maxHeartbeats 4000000 in
theorem OfR_C1 (k g : Nat) (xs : List Nat) (L : List (Nat × Nat)) (i : Int) (ob : Bool) (ge mk en gen seq a lq le la lb : Nat) (ld : ByteArray) (en2 : Nat) (hG : RGetC xs L i ob ge mk en) (hL : RLoadC xs L i a lq le la lb ld en2) (ha : seq % 4 = a) (hs : 1 ≤ seq ∧ seq ≤ 1099511627776) (he : en = 0) (hob : ob = false) (w0 w : World) (Ps : List Pr) (h : Own w0 w Ps) (hk : Ps[k]? = some (refQ g xs L)) :
    Calls Try.prog 15 #[.pointer (some ⟨g, 0, none⟩), .int .i64 i, .int .u64 (gen : Int), .int .u64 (seq : Int)] w fun e w' => e = .returned (.tuple #[.int .i64 0, .agg #[.int .i64 0, .int .u64 0, .int .u64 0, .string ⟨#[]⟩], .int .i64 22]) ∧ Own w0 w' Ps := by
  have hkl := (List.getElem?_eq_some_iff.1 hk).1
  have Hk := Lib.hid (show ∀ Rs, (Ps ++ Rs)[k]? = some (refQ g xs L) from fun Rs => by rw [List.getElem?_append_left hkl]; exact hk)
  have HL := Lib.hid (fun wx Rs (hO : Own w0 wx (Ps ++ Rs)) => hL k g w0 wx _ hO (Hk.out _))
  have HG := Lib.hid (fun wx Rs (hO : Own w0 wx (Ps ++ Rs)) => hG k g w0 wx _ hO (Hk.out _))
  obtain ⟨X, HX⟩ : ∃ X, Hid (X = w.heap.size) := ⟨_, Lib.hid rfl⟩
  have hXs : w.heap.size = X := HX.out.symm
  obtain ⟨N, HN⟩ : ∃ N, Hid (N = w.heap.size + 1) := ⟨_, Lib.hid rfl⟩
  have hNs : X + 1 = N := by rw [HX.out]; exact HN.out.symm
  have hO : Own w0 ((w.alloc (.cells #[.int .i64 0, .int .u64 0, .int .u64 0, .string ⟨#[]⟩] 39)).alloc (.cells #[.int .i64 0, .int .u64 0, .int .u64 0, .string ⟨#[]⟩] 39)) (Ps ++ [boxP X 39 #[.int .i64 0, .int .u64 0, .int .u64 0, .string ⟨#[]⟩], boxP N 39 #[.int .i64 0, .int .u64 0, .int .u64 0, .string ⟨#[]⟩]]) := by
    have h := (h.addBox 39 #[.int .i64 0, .int .u64 0, .int .u64 0, .string ⟨#[]⟩]).addBox 39 #[.int .i64 0, .int .u64 0, .int .u64 0, .string ⟨#[]⟩]
    rw [World.size_alloc, ← HN.out, ← HX.out, List.append_assoc] at h
    exact h
  have n1 : (1 : Int) ≤ (seq : Int) := by omega
  have n2 : (seq : Int) ≤ 1099511627776 := by omega
  have n3 : ¬ (seq : Int) < 1 := by omega
  have n4 : ¬ (1099511627776 : Int) < (seq : Int) := by omega
  subst hob
  have HH := Lib.hid (fun wx (hO : Own w0 wx (Ps ++ [boxP X 39 #[.int .i64 0, .int .u64 0, .int .u64 0, .string ⟨#[]⟩], boxP N 39 #[.int .i64 0, .int .u64 0, .int .u64 0, .string ⟨#[]⟩]])) => ROpened g gen en ge mk 22 false i (.inl ⟨he, .inl rfl, rfl⟩) w0 wx _ (fun wx Rs hO => by rw [List.append_assoc] at hO ⊢; exact HG.out wx _ hO) hO)
  rw [show ((22 : Nat) : Int) = 22 from rfl] at HH
  clear h hk hkl hG hL Hk ha
  replace hO := Lib.hid hO
  go_enter Try.func15, Try.ntmps15
  go_wp2_with fail
  try rw [← HX.out]
  refine (HH.out _ hO.out).mono ?_
  rintro e w1 ⟨rfl, hO1⟩
  clear HH hO

  obtain ⟨Y, hYs⟩ : ∃ Y, w1.heap.size = Y := ⟨_, rfl⟩
  have hO2 := hO1.addBox 94 #[.bool false, .int .u64 (ge : Int), .int .u64 (mk : Int)]
  rw [hYs, List.append_assoc] at hO2
  have hO2 : Own w0 (w1.alloc (.cells #[.bool false, .int .u64 (ge : Int), .int .u64 (mk : Int)] 94)) (Ps ++ boxP X 39 #[.int .i64 0, .int .u64 0, .int .u64 0, .string ⟨#[]⟩] :: [boxP N 39 #[.int .i64 0, .int .u64 0, .int .u64 0, .string ⟨#[]⟩], boxP Y 94 #[.bool false, .int .u64 (ge : Int), .int .u64 (mk : Int)]]) := hO2
  obtain ⟨w2, hw2⟩ : ∃ w2, w1.alloc (.cells #[.bool false, .int .u64 (ge : Int), .int .u64 (mk : Int)] 94) = w2 := ⟨_, rfl⟩
  rw [hw2] at hO2
  clear hO1



  have hby : w2.heap[Y]? = some (.cells #[.bool false, .int .u64 (ge : Int), .int .u64 (mk : Int)] 94 (0, 0)) := Own.box hO2 (Ps.length + 2) (by rw [List.getElem?_append_right (by omega), show Ps.length + 2 - Ps.length = 2 from by omega]; rfl)
  have y0 : w2.cell? ⟨Y, 0, none⟩ = some (.bool false) := by simp [World.cell?, hby]
  have y1 : w2.cell? ⟨Y, 1, none⟩ = some (.int .u64 (ge : Int)) := by simp [World.cell?, hby]
  have y2 : w2.cell? ⟨Y, 2, none⟩ = some (.int .u64 (mk : Int)) := by simp [World.cell?, hby]
  clear hby
  have hbn_ : w2.heap[N]? = some (.cells #[.int .i64 0, .int .u64 0, .int .u64 0, .string ⟨#[]⟩] 39 (0, 0)) := Own.box hO2 (Ps.length + 1) (by rw [List.getElem?_append_right (by omega), show Ps.length + 1 - Ps.length = 1 from by omega]; rfl)
  have n_0 : w2.cell? ⟨N, 0, none⟩ = some (.int .i64 0) := by simp [World.cell?, hbn_]
  have n_1 : w2.cell? ⟨N, 1, none⟩ = some (.int .u64 0) := by simp [World.cell?, hbn_]
  have n_2 : w2.cell? ⟨N, 2, none⟩ = some (.int .u64 0) := by simp [World.cell?, hbn_]
  have n_3 : w2.cell? ⟨N, 3, none⟩ = some (.string ⟨#[]⟩) := by simp [World.cell?, hbn_]
  clear hbn_
  have hz : w2.heap[X]? = some (.cells #[.int .i64 0, .int .u64 0, .int .u64 0, .string ⟨#[]⟩] 39 (0, 0)) := Own.box hO2 Ps.length (by rw [List.getElem?_append_right (Nat.le_refl _), Nat.sub_self]; rfl)
  have Hq : Hid (∀ w6 : World, w2.grownBy w6 (some X) → Own w0 w6 Ps) := Lib.hid (fun w6 hg => Own.forget hO2 hg)
  have m0 : w2.cell? ⟨X, 0, none⟩ = some (.int .i64 0) := by simp [World.cell?, hz]
  have q0 : w2.frozen? ⟨X, 0, none⟩ = false := by simp [World.frozen?, hz]
  have m1 : w2.cell? ⟨X, 1, none⟩ = some (.int .u64 0) := by simp [World.cell?, hz]
  have q1 : w2.frozen? ⟨X, 1, none⟩ = false := by simp [World.frozen?, hz]
  have m2 : w2.cell? ⟨X, 2, none⟩ = some (.int .u64 0) := by simp [World.cell?, hz]
  have q2 : w2.frozen? ⟨X, 2, none⟩ = false := by simp [World.frozen?, hz]
  have m3 : w2.cell? ⟨X, 3, none⟩ = some (.string ⟨#[]⟩) := by simp [World.cell?, hz]
  have q3 : w2.frozen? ⟨X, 3, none⟩ = false := by simp [World.frozen?, hz]
  have hz1 := heap_setCell_at (o := 0) hz (.int .i64 0)
  have hz2 := heap_setCell_at (o := 1) hz1 (.int .u64 0)
  have hz3 := heap_setCell_at (o := 2) hz2 (.int .u64 0)
  have hz4 := heap_setCell_at (o := 3) hz3 (.string ⟨#[]⟩)
  have g1 : w2.grownBy ((((w2.setCell ⟨X, 0, none⟩ (.int .i64 0)).setCell ⟨X, 1, none⟩ (.int .u64 0)).setCell ⟨X, 2, none⟩ (.int .u64 0)).setCell ⟨X, 3, none⟩ (.string ⟨#[]⟩)) (some X) := (grown_trans (grown_trans (grown_trans (grown_setCell _ ⟨X, 0, none⟩ (.int .i64 0)) (grown_setCell _ ⟨X, 1, none⟩ (.int .u64 0))) (grown_setCell _ ⟨X, 2, none⟩ (.int .u64 0))) (grown_setCell _ ⟨X, 3, none⟩ (.string ⟨#[]⟩)))
  obtain ⟨W3, hW3⟩ : ∃ W3, W3 = ((((w2.setCell ⟨X, 0, none⟩ (.int .i64 0)).setCell ⟨X, 1, none⟩ (.int .u64 0)).setCell ⟨X, 2, none⟩ (.int .u64 0)).setCell ⟨X, 3, none⟩ (.string ⟨#[]⟩)) := ⟨_, rfl⟩
  clear hz1 hz2 hz3
  rw [← hW3] at hz4 g1
  have Z0 : W3.cell? ⟨X, 0, none⟩ = some (.int .i64 0) := by simp [World.cell?, hz4]
  have Z1 : W3.cell? ⟨X, 1, none⟩ = some (.int .u64 0) := by simp [World.cell?, hz4]
  have Z2 : W3.cell? ⟨X, 2, none⟩ = some (.int .u64 0) := by simp [World.cell?, hz4]
  have Z3 : W3.cell? ⟨X, 3, none⟩ = some (.string ⟨#[]⟩) := by simp [World.cell?, hz4]
  clear hO2 HL HG
  go_wp2_with fail
  go_region
  all_goals go_wp2
  all_goals (try rw [← hW3])
  all_goals exact bodyPost_ret (v := .tuple #[.int .i64 0, .agg #[.int .i64 0, .int .u64 0, .int .u64 0, .string ⟨#[]⟩], .int .i64 22]) (by simp [results, Try.results15, go_sem, Z0, Z1, Z2, Z3]) rfl ⟨rfl, Hq.out _ (grown_drew g1)⟩

set_option maxRecDepth 100000 in
set_option maxHeartbeats 4000000 in
theorem OfR_C2 (k g : Nat) (xs : List Nat) (L : List (Nat × Nat)) (i : Int) (ob : Bool) (ge mk en gen seq a lq le la lb : Nat) (ld : ByteArray) (en2 : Nat) (hG : RGetC xs L i ob ge mk en) (hL : RLoadC xs L i a lq le la lb ld en2) (ha : seq % 4 = a) (hs : 1 ≤ seq ∧ seq ≤ 1099511627776) (he : en = 0) (hob : ob = true) (hge : ge ≠ gen) (w0 w : World) (Ps : List Pr) (h : Own w0 w Ps) (hk : Ps[k]? = some (refQ g xs L)) :
    Calls Try.prog 15 #[.pointer (some ⟨g, 0, none⟩), .int .i64 i, .int .u64 (gen : Int), .int .u64 (seq : Int)] w fun e w' => e = .returned (.tuple #[.int .i64 0, .agg #[.int .i64 0, .int .u64 0, .int .u64 0, .string ⟨#[]⟩], .int .i64 22]) ∧ Own w0 w' Ps := by
  have hkl := (List.getElem?_eq_some_iff.1 hk).1
  have Hk := Lib.hid (show ∀ Rs, (Ps ++ Rs)[k]? = some (refQ g xs L) from fun Rs => by rw [List.getElem?_append_left hkl]; exact hk)
  have HL := Lib.hid (fun wx Rs (hO : Own w0 wx (Ps ++ Rs)) => hL k g w0 wx _ hO (Hk.out _))
  have HG := Lib.hid (fun wx Rs (hO : Own w0 wx (Ps ++ Rs)) => hG k g w0 wx _ hO (Hk.out _))
  obtain ⟨X, HX⟩ : ∃ X, Hid (X = w.heap.size) := ⟨_, Lib.hid rfl⟩
  have hXs : w.heap.size = X := HX.out.symm
  obtain ⟨N, HN⟩ : ∃ N, Hid (N = w.heap.size + 1) := ⟨_, Lib.hid rfl⟩
  have hNs : X + 1 = N := by rw [HX.out]; exact HN.out.symm
  have hO : Own w0 ((w.alloc (.cells #[.int .i64 0, .int .u64 0, .int .u64 0, .string ⟨#[]⟩] 39)).alloc (.cells #[.int .i64 0, .int .u64 0, .int .u64 0, .string ⟨#[]⟩] 39)) (Ps ++ [boxP X 39 #[.int .i64 0, .int .u64 0, .int .u64 0, .string ⟨#[]⟩], boxP N 39 #[.int .i64 0, .int .u64 0, .int .u64 0, .string ⟨#[]⟩]]) := by
    have h := (h.addBox 39 #[.int .i64 0, .int .u64 0, .int .u64 0, .string ⟨#[]⟩]).addBox 39 #[.int .i64 0, .int .u64 0, .int .u64 0, .string ⟨#[]⟩]
    rw [World.size_alloc, ← HN.out, ← HX.out, List.append_assoc] at h
    exact h
  have n1 : (1 : Int) ≤ (seq : Int) := by omega
  have n2 : (seq : Int) ≤ 1099511627776 := by omega
  have n3 : ¬ (seq : Int) < 1 := by omega
  have n4 : ¬ (1099511627776 : Int) < (seq : Int) := by omega
  subst hob
  have qg : ((ge : Int) != (gen : Int)) = true := by simp; omega
  have HH := Lib.hid (fun wx (hO : Own w0 wx (Ps ++ [boxP X 39 #[.int .i64 0, .int .u64 0, .int .u64 0, .string ⟨#[]⟩], boxP N 39 #[.int .i64 0, .int .u64 0, .int .u64 0, .string ⟨#[]⟩]])) => ROpened g gen en ge mk 22 true i (.inl ⟨he, .inr hge, rfl⟩) w0 wx _ (fun wx Rs hO => by rw [List.append_assoc] at hO ⊢; exact HG.out wx _ hO) hO)
  rw [show ((22 : Nat) : Int) = 22 from rfl] at HH
  clear h hk hkl hG hL Hk ha
  replace hO := Lib.hid hO
  go_enter Try.func15, Try.ntmps15
  go_wp2_with fail
  try rw [← HX.out]
  refine (HH.out _ hO.out).mono ?_
  rintro e w1 ⟨rfl, hO1⟩
  clear HH hO

  obtain ⟨Y, hYs⟩ : ∃ Y, w1.heap.size = Y := ⟨_, rfl⟩
  have hO2 := hO1.addBox 94 #[.bool true, .int .u64 (ge : Int), .int .u64 (mk : Int)]
  rw [hYs, List.append_assoc] at hO2
  have hO2 : Own w0 (w1.alloc (.cells #[.bool true, .int .u64 (ge : Int), .int .u64 (mk : Int)] 94)) (Ps ++ boxP X 39 #[.int .i64 0, .int .u64 0, .int .u64 0, .string ⟨#[]⟩] :: [boxP N 39 #[.int .i64 0, .int .u64 0, .int .u64 0, .string ⟨#[]⟩], boxP Y 94 #[.bool true, .int .u64 (ge : Int), .int .u64 (mk : Int)]]) := hO2
  obtain ⟨w2, hw2⟩ : ∃ w2, w1.alloc (.cells #[.bool true, .int .u64 (ge : Int), .int .u64 (mk : Int)] 94) = w2 := ⟨_, rfl⟩
  rw [hw2] at hO2
  clear hO1



  have hby : w2.heap[Y]? = some (.cells #[.bool true, .int .u64 (ge : Int), .int .u64 (mk : Int)] 94 (0, 0)) := Own.box hO2 (Ps.length + 2) (by rw [List.getElem?_append_right (by omega), show Ps.length + 2 - Ps.length = 2 from by omega]; rfl)
  have y0 : w2.cell? ⟨Y, 0, none⟩ = some (.bool true) := by simp [World.cell?, hby]
  have y1 : w2.cell? ⟨Y, 1, none⟩ = some (.int .u64 (ge : Int)) := by simp [World.cell?, hby]
  have y2 : w2.cell? ⟨Y, 2, none⟩ = some (.int .u64 (mk : Int)) := by simp [World.cell?, hby]
  clear hby
  have hbn_ : w2.heap[N]? = some (.cells #[.int .i64 0, .int .u64 0, .int .u64 0, .string ⟨#[]⟩] 39 (0, 0)) := Own.box hO2 (Ps.length + 1) (by rw [List.getElem?_append_right (by omega), show Ps.length + 1 - Ps.length = 1 from by omega]; rfl)
  have n_0 : w2.cell? ⟨N, 0, none⟩ = some (.int .i64 0) := by simp [World.cell?, hbn_]
  have n_1 : w2.cell? ⟨N, 1, none⟩ = some (.int .u64 0) := by simp [World.cell?, hbn_]
  have n_2 : w2.cell? ⟨N, 2, none⟩ = some (.int .u64 0) := by simp [World.cell?, hbn_]
  have n_3 : w2.cell? ⟨N, 3, none⟩ = some (.string ⟨#[]⟩) := by simp [World.cell?, hbn_]
  clear hbn_
  have hz : w2.heap[X]? = some (.cells #[.int .i64 0, .int .u64 0, .int .u64 0, .string ⟨#[]⟩] 39 (0, 0)) := Own.box hO2 Ps.length (by rw [List.getElem?_append_right (Nat.le_refl _), Nat.sub_self]; rfl)
  have Hq : Hid (∀ w6 : World, w2.grownBy w6 (some X) → Own w0 w6 Ps) := Lib.hid (fun w6 hg => Own.forget hO2 hg)
  have m0 : w2.cell? ⟨X, 0, none⟩ = some (.int .i64 0) := by simp [World.cell?, hz]
  have q0 : w2.frozen? ⟨X, 0, none⟩ = false := by simp [World.frozen?, hz]
  have m1 : w2.cell? ⟨X, 1, none⟩ = some (.int .u64 0) := by simp [World.cell?, hz]
  have q1 : w2.frozen? ⟨X, 1, none⟩ = false := by simp [World.frozen?, hz]
  have m2 : w2.cell? ⟨X, 2, none⟩ = some (.int .u64 0) := by simp [World.cell?, hz]
  have q2 : w2.frozen? ⟨X, 2, none⟩ = false := by simp [World.frozen?, hz]
  have m3 : w2.cell? ⟨X, 3, none⟩ = some (.string ⟨#[]⟩) := by simp [World.cell?, hz]
  have q3 : w2.frozen? ⟨X, 3, none⟩ = false := by simp [World.frozen?, hz]
  have hz1 := heap_setCell_at (o := 0) hz (.int .i64 0)
  have hz2 := heap_setCell_at (o := 1) hz1 (.int .u64 0)
  have hz3 := heap_setCell_at (o := 2) hz2 (.int .u64 0)
  have hz4 := heap_setCell_at (o := 3) hz3 (.string ⟨#[]⟩)
  have g1 : w2.grownBy ((((w2.setCell ⟨X, 0, none⟩ (.int .i64 0)).setCell ⟨X, 1, none⟩ (.int .u64 0)).setCell ⟨X, 2, none⟩ (.int .u64 0)).setCell ⟨X, 3, none⟩ (.string ⟨#[]⟩)) (some X) := (grown_trans (grown_trans (grown_trans (grown_setCell _ ⟨X, 0, none⟩ (.int .i64 0)) (grown_setCell _ ⟨X, 1, none⟩ (.int .u64 0))) (grown_setCell _ ⟨X, 2, none⟩ (.int .u64 0))) (grown_setCell _ ⟨X, 3, none⟩ (.string ⟨#[]⟩)))
  obtain ⟨W3, hW3⟩ : ∃ W3, W3 = ((((w2.setCell ⟨X, 0, none⟩ (.int .i64 0)).setCell ⟨X, 1, none⟩ (.int .u64 0)).setCell ⟨X, 2, none⟩ (.int .u64 0)).setCell ⟨X, 3, none⟩ (.string ⟨#[]⟩)) := ⟨_, rfl⟩
  clear hz1 hz2 hz3
  rw [← hW3] at hz4 g1
  have Z0 : W3.cell? ⟨X, 0, none⟩ = some (.int .i64 0) := by simp [World.cell?, hz4]
  have Z1 : W3.cell? ⟨X, 1, none⟩ = some (.int .u64 0) := by simp [World.cell?, hz4]
  have Z2 : W3.cell? ⟨X, 2, none⟩ = some (.int .u64 0) := by simp [World.cell?, hz4]
  have Z3 : W3.cell? ⟨X, 3, none⟩ = some (.string ⟨#[]⟩) := by simp [World.cell?, hz4]
  clear hO2 HL HG
  go_wp2_with fail
  go_region
  all_goals go_wp2
  all_goals (try rw [← hW3])
  all_goals exact bodyPost_ret (v := .tuple #[.int .i64 0, .agg #[.int .i64 0, .int .u64 0, .int .u64 0, .string ⟨#[]⟩], .int .i64 22]) (by simp [results, Try.results15, go_sem, Z0, Z1, Z2, Z3]) rfl ⟨rfl, Hq.out _ (grown_drew g1)⟩

set_option maxRecDepth 100000 in
set_option maxHeartbeats 4000000 in
theorem OfR_D (k g : Nat) (xs : List Nat) (L : List (Nat × Nat)) (i : Int) (ob : Bool) (ge mk en gen seq a lq le la lb : Nat) (ld : ByteArray) (en2 : Nat) (hG : RGetC xs L i ob ge mk en) (hL : RLoadC xs L i a lq le la lb ld en2) (ha : seq % 4 = a) (hs : 1 ≤ seq ∧ seq ≤ 1099511627776) (he : en = 0) (hob : ob = true) (hge : ge = gen) (hd : seq ≤ mk) (w0 w : World) (Ps : List Pr) (h : Own w0 w Ps) (hk : Ps[k]? = some (refQ g xs L)) :
    Calls Try.prog 15 #[.pointer (some ⟨g, 0, none⟩), .int .i64 i, .int .u64 (gen : Int), .int .u64 (seq : Int)] w fun e w' => e = .returned (.tuple #[.int .i64 2, .agg #[.int .i64 0, .int .u64 0, .int .u64 0, .string ⟨#[]⟩], .int .i64 0]) ∧ Own w0 w' Ps := by
  have hkl := (List.getElem?_eq_some_iff.1 hk).1
  have Hk := Lib.hid (show ∀ Rs, (Ps ++ Rs)[k]? = some (refQ g xs L) from fun Rs => by rw [List.getElem?_append_left hkl]; exact hk)
  have HL := Lib.hid (fun wx Rs (hO : Own w0 wx (Ps ++ Rs)) => hL k g w0 wx _ hO (Hk.out _))
  have HG := Lib.hid (fun wx Rs (hO : Own w0 wx (Ps ++ Rs)) => hG k g w0 wx _ hO (Hk.out _))
  obtain ⟨X, HX⟩ : ∃ X, Hid (X = w.heap.size) := ⟨_, Lib.hid rfl⟩
  have hXs : w.heap.size = X := HX.out.symm
  obtain ⟨N, HN⟩ : ∃ N, Hid (N = w.heap.size + 1) := ⟨_, Lib.hid rfl⟩
  have hNs : X + 1 = N := by rw [HX.out]; exact HN.out.symm
  have hO : Own w0 ((w.alloc (.cells #[.int .i64 0, .int .u64 0, .int .u64 0, .string ⟨#[]⟩] 39)).alloc (.cells #[.int .i64 0, .int .u64 0, .int .u64 0, .string ⟨#[]⟩] 39)) (Ps ++ [boxP X 39 #[.int .i64 0, .int .u64 0, .int .u64 0, .string ⟨#[]⟩], boxP N 39 #[.int .i64 0, .int .u64 0, .int .u64 0, .string ⟨#[]⟩]]) := by
    have h := (h.addBox 39 #[.int .i64 0, .int .u64 0, .int .u64 0, .string ⟨#[]⟩]).addBox 39 #[.int .i64 0, .int .u64 0, .int .u64 0, .string ⟨#[]⟩]
    rw [World.size_alloc, ← HN.out, ← HX.out, List.append_assoc] at h
    exact h
  have n1 : (1 : Int) ≤ (seq : Int) := by omega
  have n2 : (seq : Int) ≤ 1099511627776 := by omega
  have n3 : ¬ (seq : Int) < 1 := by omega
  have n4 : ¬ (1099511627776 : Int) < (seq : Int) := by omega
  subst hob hge
  have qe : ((en : Int) != 0) = false := by rw [he]; rfl
  have qg : ((ge : Int) != (ge : Int)) = false := by simp
  have l1 : (seq : Int) ≤ (mk : Int) := by omega
  have HH := Lib.hid (fun wx (hO : Own w0 wx (Ps ++ [boxP X 39 #[.int .i64 0, .int .u64 0, .int .u64 0, .string ⟨#[]⟩], boxP N 39 #[.int .i64 0, .int .u64 0, .int .u64 0, .string ⟨#[]⟩]])) => ROpened g ge en ge mk en true i (.inr ⟨.inr ⟨rfl, rfl⟩, rfl⟩) w0 wx _ (fun wx Rs hO => by rw [List.append_assoc] at hO ⊢; exact HG.out wx _ hO) hO)
  clear h hk hkl hG hL Hk ha
  replace hO := Lib.hid hO
  go_enter Try.func15, Try.ntmps15
  go_wp2_with fail
  try rw [← HX.out]
  refine (HH.out _ hO.out).mono ?_
  rintro e w1 ⟨rfl, hO1⟩
  clear HH hO

  obtain ⟨Y, hYs⟩ : ∃ Y, w1.heap.size = Y := ⟨_, rfl⟩
  have hO2 := hO1.addBox 94 #[.bool true, .int .u64 (ge : Int), .int .u64 (mk : Int)]
  rw [hYs, List.append_assoc] at hO2
  have hO2 : Own w0 (w1.alloc (.cells #[.bool true, .int .u64 (ge : Int), .int .u64 (mk : Int)] 94)) (Ps ++ boxP X 39 #[.int .i64 0, .int .u64 0, .int .u64 0, .string ⟨#[]⟩] :: [boxP N 39 #[.int .i64 0, .int .u64 0, .int .u64 0, .string ⟨#[]⟩], boxP Y 94 #[.bool true, .int .u64 (ge : Int), .int .u64 (mk : Int)]]) := hO2
  obtain ⟨w2, hw2⟩ : ∃ w2, w1.alloc (.cells #[.bool true, .int .u64 (ge : Int), .int .u64 (mk : Int)] 94) = w2 := ⟨_, rfl⟩
  rw [hw2] at hO2
  clear hO1



  have hby : w2.heap[Y]? = some (.cells #[.bool true, .int .u64 (ge : Int), .int .u64 (mk : Int)] 94 (0, 0)) := Own.box hO2 (Ps.length + 2) (by rw [List.getElem?_append_right (by omega), show Ps.length + 2 - Ps.length = 2 from by omega]; rfl)
  have y0 : w2.cell? ⟨Y, 0, none⟩ = some (.bool true) := by simp [World.cell?, hby]
  have y1 : w2.cell? ⟨Y, 1, none⟩ = some (.int .u64 (ge : Int)) := by simp [World.cell?, hby]
  have y2 : w2.cell? ⟨Y, 2, none⟩ = some (.int .u64 (mk : Int)) := by simp [World.cell?, hby]
  clear hby
  have hbn_ : w2.heap[N]? = some (.cells #[.int .i64 0, .int .u64 0, .int .u64 0, .string ⟨#[]⟩] 39 (0, 0)) := Own.box hO2 (Ps.length + 1) (by rw [List.getElem?_append_right (by omega), show Ps.length + 1 - Ps.length = 1 from by omega]; rfl)
  have n_0 : w2.cell? ⟨N, 0, none⟩ = some (.int .i64 0) := by simp [World.cell?, hbn_]
  have n_1 : w2.cell? ⟨N, 1, none⟩ = some (.int .u64 0) := by simp [World.cell?, hbn_]
  have n_2 : w2.cell? ⟨N, 2, none⟩ = some (.int .u64 0) := by simp [World.cell?, hbn_]
  have n_3 : w2.cell? ⟨N, 3, none⟩ = some (.string ⟨#[]⟩) := by simp [World.cell?, hbn_]
  clear hbn_
  have hz : w2.heap[X]? = some (.cells #[.int .i64 0, .int .u64 0, .int .u64 0, .string ⟨#[]⟩] 39 (0, 0)) := Own.box hO2 Ps.length (by rw [List.getElem?_append_right (Nat.le_refl _), Nat.sub_self]; rfl)
  have Hq : Hid (∀ w6 : World, w2.grownBy w6 (some X) → Own w0 w6 Ps) := Lib.hid (fun w6 hg => Own.forget hO2 hg)
  have m0 : w2.cell? ⟨X, 0, none⟩ = some (.int .i64 0) := by simp [World.cell?, hz]
  have q0 : w2.frozen? ⟨X, 0, none⟩ = false := by simp [World.frozen?, hz]
  have m1 : w2.cell? ⟨X, 1, none⟩ = some (.int .u64 0) := by simp [World.cell?, hz]
  have q1 : w2.frozen? ⟨X, 1, none⟩ = false := by simp [World.frozen?, hz]
  have m2 : w2.cell? ⟨X, 2, none⟩ = some (.int .u64 0) := by simp [World.cell?, hz]
  have q2 : w2.frozen? ⟨X, 2, none⟩ = false := by simp [World.frozen?, hz]
  have m3 : w2.cell? ⟨X, 3, none⟩ = some (.string ⟨#[]⟩) := by simp [World.cell?, hz]
  have q3 : w2.frozen? ⟨X, 3, none⟩ = false := by simp [World.frozen?, hz]
  have hz1 := heap_setCell_at (o := 0) hz (.int .i64 0)
  have hz2 := heap_setCell_at (o := 1) hz1 (.int .u64 0)
  have hz3 := heap_setCell_at (o := 2) hz2 (.int .u64 0)
  have hz4 := heap_setCell_at (o := 3) hz3 (.string ⟨#[]⟩)
  have g1 : w2.grownBy ((((w2.setCell ⟨X, 0, none⟩ (.int .i64 0)).setCell ⟨X, 1, none⟩ (.int .u64 0)).setCell ⟨X, 2, none⟩ (.int .u64 0)).setCell ⟨X, 3, none⟩ (.string ⟨#[]⟩)) (some X) := (grown_trans (grown_trans (grown_trans (grown_setCell _ ⟨X, 0, none⟩ (.int .i64 0)) (grown_setCell _ ⟨X, 1, none⟩ (.int .u64 0))) (grown_setCell _ ⟨X, 2, none⟩ (.int .u64 0))) (grown_setCell _ ⟨X, 3, none⟩ (.string ⟨#[]⟩)))
  obtain ⟨W3, hW3⟩ : ∃ W3, W3 = ((((w2.setCell ⟨X, 0, none⟩ (.int .i64 0)).setCell ⟨X, 1, none⟩ (.int .u64 0)).setCell ⟨X, 2, none⟩ (.int .u64 0)).setCell ⟨X, 3, none⟩ (.string ⟨#[]⟩)) := ⟨_, rfl⟩
  clear hz1 hz2 hz3
  rw [← hW3] at hz4 g1
  have Z0 : W3.cell? ⟨X, 0, none⟩ = some (.int .i64 0) := by simp [World.cell?, hz4]
  have Z1 : W3.cell? ⟨X, 1, none⟩ = some (.int .u64 0) := by simp [World.cell?, hz4]
  have Z2 : W3.cell? ⟨X, 2, none⟩ = some (.int .u64 0) := by simp [World.cell?, hz4]
  have Z3 : W3.cell? ⟨X, 3, none⟩ = some (.string ⟨#[]⟩) := by simp [World.cell?, hz4]
  clear hO2 HL HG
  go_wp2_with fail
  go_region
  all_goals go_wp2
  all_goals (try rw [← hW3])
  all_goals exact bodyPost_ret (v := .tuple #[.int .i64 2, .agg #[.int .i64 0, .int .u64 0, .int .u64 0, .string ⟨#[]⟩], .int .i64 0]) (by simp [results, Try.results15, go_sem, Z0, Z1, Z2, Z3]) rfl ⟨rfl, Hq.out _ (grown_drew g1)⟩

set_option maxRecDepth 100000 in
set_option maxHeartbeats 4000000 in
theorem OfR_E (k g : Nat) (xs : List Nat) (L : List (Nat × Nat)) (i : Int) (ob : Bool) (ge mk en gen seq a lq le la lb : Nat) (ld : ByteArray) (en2 : Nat) (hG : RGetC xs L i ob ge mk en) (hL : RLoadC xs L i a lq le la lb ld en2) (ha : seq % 4 = a) (hs : 1 ≤ seq ∧ seq ≤ 1099511627776) (he : en = 0) (hob : ob = true) (hge : ge = gen) (hd : mk < seq) (hx : 4 < seq - mk) (w0 w : World) (Ps : List Pr) (h : Own w0 w Ps) (hk : Ps[k]? = some (refQ g xs L)) :
    Calls Try.prog 15 #[.pointer (some ⟨g, 0, none⟩), .int .i64 i, .int .u64 (gen : Int), .int .u64 (seq : Int)] w fun e w' => e = .returned (.tuple #[.int .i64 3, .agg #[.int .i64 0, .int .u64 0, .int .u64 0, .string ⟨#[]⟩], .int .i64 0]) ∧ Own w0 w' Ps := by
  have hkl := (List.getElem?_eq_some_iff.1 hk).1
  have Hk := Lib.hid (show ∀ Rs, (Ps ++ Rs)[k]? = some (refQ g xs L) from fun Rs => by rw [List.getElem?_append_left hkl]; exact hk)
  have HL := Lib.hid (fun wx Rs (hO : Own w0 wx (Ps ++ Rs)) => hL k g w0 wx _ hO (Hk.out _))
  have HG := Lib.hid (fun wx Rs (hO : Own w0 wx (Ps ++ Rs)) => hG k g w0 wx _ hO (Hk.out _))
  obtain ⟨X, HX⟩ : ∃ X, Hid (X = w.heap.size) := ⟨_, Lib.hid rfl⟩
  have hXs : w.heap.size = X := HX.out.symm
  obtain ⟨N, HN⟩ : ∃ N, Hid (N = w.heap.size + 1) := ⟨_, Lib.hid rfl⟩
  have hNs : X + 1 = N := by rw [HX.out]; exact HN.out.symm
  have hO : Own w0 ((w.alloc (.cells #[.int .i64 0, .int .u64 0, .int .u64 0, .string ⟨#[]⟩] 39)).alloc (.cells #[.int .i64 0, .int .u64 0, .int .u64 0, .string ⟨#[]⟩] 39)) (Ps ++ [boxP X 39 #[.int .i64 0, .int .u64 0, .int .u64 0, .string ⟨#[]⟩], boxP N 39 #[.int .i64 0, .int .u64 0, .int .u64 0, .string ⟨#[]⟩]]) := by
    have h := (h.addBox 39 #[.int .i64 0, .int .u64 0, .int .u64 0, .string ⟨#[]⟩]).addBox 39 #[.int .i64 0, .int .u64 0, .int .u64 0, .string ⟨#[]⟩]
    rw [World.size_alloc, ← HN.out, ← HX.out, List.append_assoc] at h
    exact h
  have n1 : (1 : Int) ≤ (seq : Int) := by omega
  have n2 : (seq : Int) ≤ 1099511627776 := by omega
  have n3 : ¬ (seq : Int) < 1 := by omega
  have n4 : ¬ (1099511627776 : Int) < (seq : Int) := by omega
  subst hob hge
  have qe : ((en : Int) != 0) = false := by rw [he]; rfl
  have qg : ((ge : Int) != (ge : Int)) = false := by simp
  have l1 : ¬ (seq : Int) ≤ (mk : Int) := by omega
  obtain ⟨D, hD⟩ : ∃ D, seq - mk = D := ⟨_, rfl⟩
  have dE : (seq : Int) - (mk : Int) = (D : Int) := by omega
  have dW : IntKind.u64.wrap (D : Int) = (D : Int) := IntWalk.u64_in _ ⟨by omega, by omega⟩
  have l2 : (4 : Int) < (D : Int) := by omega
  have HH := Lib.hid (fun wx (hO : Own w0 wx (Ps ++ [boxP X 39 #[.int .i64 0, .int .u64 0, .int .u64 0, .string ⟨#[]⟩], boxP N 39 #[.int .i64 0, .int .u64 0, .int .u64 0, .string ⟨#[]⟩]])) => ROpened g ge en ge mk en true i (.inr ⟨.inr ⟨rfl, rfl⟩, rfl⟩) w0 wx _ (fun wx Rs hO => by rw [List.append_assoc] at hO ⊢; exact HG.out wx _ hO) hO)
  clear h hk hkl hG hL Hk ha
  replace hO := Lib.hid hO
  go_enter Try.func15, Try.ntmps15
  go_wp2_with fail
  try rw [← HX.out]
  refine (HH.out _ hO.out).mono ?_
  rintro e w1 ⟨rfl, hO1⟩
  clear HH hO

  obtain ⟨Y, hYs⟩ : ∃ Y, w1.heap.size = Y := ⟨_, rfl⟩
  have hO2 := hO1.addBox 94 #[.bool true, .int .u64 (ge : Int), .int .u64 (mk : Int)]
  rw [hYs, List.append_assoc] at hO2
  have hO2 : Own w0 (w1.alloc (.cells #[.bool true, .int .u64 (ge : Int), .int .u64 (mk : Int)] 94)) (Ps ++ boxP X 39 #[.int .i64 0, .int .u64 0, .int .u64 0, .string ⟨#[]⟩] :: [boxP N 39 #[.int .i64 0, .int .u64 0, .int .u64 0, .string ⟨#[]⟩], boxP Y 94 #[.bool true, .int .u64 (ge : Int), .int .u64 (mk : Int)]]) := hO2
  obtain ⟨w2, hw2⟩ : ∃ w2, w1.alloc (.cells #[.bool true, .int .u64 (ge : Int), .int .u64 (mk : Int)] 94) = w2 := ⟨_, rfl⟩
  rw [hw2] at hO2
  clear hO1



  have hby : w2.heap[Y]? = some (.cells #[.bool true, .int .u64 (ge : Int), .int .u64 (mk : Int)] 94 (0, 0)) := Own.box hO2 (Ps.length + 2) (by rw [List.getElem?_append_right (by omega), show Ps.length + 2 - Ps.length = 2 from by omega]; rfl)
  have y0 : w2.cell? ⟨Y, 0, none⟩ = some (.bool true) := by simp [World.cell?, hby]
  have y1 : w2.cell? ⟨Y, 1, none⟩ = some (.int .u64 (ge : Int)) := by simp [World.cell?, hby]
  have y2 : w2.cell? ⟨Y, 2, none⟩ = some (.int .u64 (mk : Int)) := by simp [World.cell?, hby]
  clear hby
  have hbn_ : w2.heap[N]? = some (.cells #[.int .i64 0, .int .u64 0, .int .u64 0, .string ⟨#[]⟩] 39 (0, 0)) := Own.box hO2 (Ps.length + 1) (by rw [List.getElem?_append_right (by omega), show Ps.length + 1 - Ps.length = 1 from by omega]; rfl)
  have n_0 : w2.cell? ⟨N, 0, none⟩ = some (.int .i64 0) := by simp [World.cell?, hbn_]
  have n_1 : w2.cell? ⟨N, 1, none⟩ = some (.int .u64 0) := by simp [World.cell?, hbn_]
  have n_2 : w2.cell? ⟨N, 2, none⟩ = some (.int .u64 0) := by simp [World.cell?, hbn_]
  have n_3 : w2.cell? ⟨N, 3, none⟩ = some (.string ⟨#[]⟩) := by simp [World.cell?, hbn_]
  clear hbn_
  have hz : w2.heap[X]? = some (.cells #[.int .i64 0, .int .u64 0, .int .u64 0, .string ⟨#[]⟩] 39 (0, 0)) := Own.box hO2 Ps.length (by rw [List.getElem?_append_right (Nat.le_refl _), Nat.sub_self]; rfl)
  have Hq : Hid (∀ w6 : World, w2.grownBy w6 (some X) → Own w0 w6 Ps) := Lib.hid (fun w6 hg => Own.forget hO2 hg)
  have m0 : w2.cell? ⟨X, 0, none⟩ = some (.int .i64 0) := by simp [World.cell?, hz]
  have q0 : w2.frozen? ⟨X, 0, none⟩ = false := by simp [World.frozen?, hz]
  have m1 : w2.cell? ⟨X, 1, none⟩ = some (.int .u64 0) := by simp [World.cell?, hz]
  have q1 : w2.frozen? ⟨X, 1, none⟩ = false := by simp [World.frozen?, hz]
  have m2 : w2.cell? ⟨X, 2, none⟩ = some (.int .u64 0) := by simp [World.cell?, hz]
  have q2 : w2.frozen? ⟨X, 2, none⟩ = false := by simp [World.frozen?, hz]
  have m3 : w2.cell? ⟨X, 3, none⟩ = some (.string ⟨#[]⟩) := by simp [World.cell?, hz]
  have q3 : w2.frozen? ⟨X, 3, none⟩ = false := by simp [World.frozen?, hz]
  have hz1 := heap_setCell_at (o := 0) hz (.int .i64 0)
  have hz2 := heap_setCell_at (o := 1) hz1 (.int .u64 0)
  have hz3 := heap_setCell_at (o := 2) hz2 (.int .u64 0)
  have hz4 := heap_setCell_at (o := 3) hz3 (.string ⟨#[]⟩)
  have g1 : w2.grownBy ((((w2.setCell ⟨X, 0, none⟩ (.int .i64 0)).setCell ⟨X, 1, none⟩ (.int .u64 0)).setCell ⟨X, 2, none⟩ (.int .u64 0)).setCell ⟨X, 3, none⟩ (.string ⟨#[]⟩)) (some X) := (grown_trans (grown_trans (grown_trans (grown_setCell _ ⟨X, 0, none⟩ (.int .i64 0)) (grown_setCell _ ⟨X, 1, none⟩ (.int .u64 0))) (grown_setCell _ ⟨X, 2, none⟩ (.int .u64 0))) (grown_setCell _ ⟨X, 3, none⟩ (.string ⟨#[]⟩)))
  obtain ⟨W3, hW3⟩ : ∃ W3, W3 = ((((w2.setCell ⟨X, 0, none⟩ (.int .i64 0)).setCell ⟨X, 1, none⟩ (.int .u64 0)).setCell ⟨X, 2, none⟩ (.int .u64 0)).setCell ⟨X, 3, none⟩ (.string ⟨#[]⟩)) := ⟨_, rfl⟩
  clear hz1 hz2 hz3
  rw [← hW3] at hz4 g1
  have Z0 : W3.cell? ⟨X, 0, none⟩ = some (.int .i64 0) := by simp [World.cell?, hz4]
  have Z1 : W3.cell? ⟨X, 1, none⟩ = some (.int .u64 0) := by simp [World.cell?, hz4]
  have Z2 : W3.cell? ⟨X, 2, none⟩ = some (.int .u64 0) := by simp [World.cell?, hz4]
  have Z3 : W3.cell? ⟨X, 3, none⟩ = some (.string ⟨#[]⟩) := by simp [World.cell?, hz4]
  clear hO2 HL HG
  go_wp2_with fail
  go_region
  all_goals go_wp2
  all_goals (try rw [← hW3])
  all_goals exact bodyPost_ret (v := .tuple #[.int .i64 3, .agg #[.int .i64 0, .int .u64 0, .int .u64 0, .string ⟨#[]⟩], .int .i64 0]) (by simp [results, Try.results15, go_sem, Z0, Z1, Z2, Z3]) rfl ⟨rfl, Hq.out _ (grown_drew g1)⟩

set_option maxRecDepth 100000 in
set_option maxHeartbeats 4000000 in
theorem OfR_F (k g : Nat) (xs : List Nat) (L : List (Nat × Nat)) (i : Int) (ob : Bool) (ge mk en gen seq a lq le la lb : Nat) (ld : ByteArray) (en2 : Nat) (hG : RGetC xs L i ob ge mk en) (hL : RLoadC xs L i a lq le la lb ld en2) (ha : seq % 4 = a) (hs : 1 ≤ seq ∧ seq ≤ 1099511627776) (he : en = 0) (hob : ob = true) (hge : ge = gen) (hd : mk < seq) (hx : ¬ 4 < seq - mk) (h2 : en2 ≠ 0) (w0 w : World) (Ps : List Pr) (h : Own w0 w Ps) (hk : Ps[k]? = some (refQ g xs L)) :
    Calls Try.prog 15 #[.pointer (some ⟨g, 0, none⟩), .int .i64 i, .int .u64 (gen : Int), .int .u64 (seq : Int)] w fun e w' => e = .returned (.tuple #[.int .i64 0, .agg #[.int .i64 0, .int .u64 0, .int .u64 0, .string ⟨#[]⟩], .int .i64 (en2 : Int)]) ∧ Own w0 w' Ps := by
  have hkl := (List.getElem?_eq_some_iff.1 hk).1
  have Hk := Lib.hid (show ∀ Rs, (Ps ++ Rs)[k]? = some (refQ g xs L) from fun Rs => by rw [List.getElem?_append_left hkl]; exact hk)
  have HL := Lib.hid (fun wx Rs (hO : Own w0 wx (Ps ++ Rs)) => hL k g w0 wx _ hO (Hk.out _))
  have HG := Lib.hid (fun wx Rs (hO : Own w0 wx (Ps ++ Rs)) => hG k g w0 wx _ hO (Hk.out _))
  obtain ⟨X, HX⟩ : ∃ X, Hid (X = w.heap.size) := ⟨_, Lib.hid rfl⟩
  have hXs : w.heap.size = X := HX.out.symm
  obtain ⟨N, HN⟩ : ∃ N, Hid (N = w.heap.size + 1) := ⟨_, Lib.hid rfl⟩
  have hNs : X + 1 = N := by rw [HX.out]; exact HN.out.symm
  have hO : Own w0 ((w.alloc (.cells #[.int .i64 0, .int .u64 0, .int .u64 0, .string ⟨#[]⟩] 39)).alloc (.cells #[.int .i64 0, .int .u64 0, .int .u64 0, .string ⟨#[]⟩] 39)) (Ps ++ [boxP X 39 #[.int .i64 0, .int .u64 0, .int .u64 0, .string ⟨#[]⟩], boxP N 39 #[.int .i64 0, .int .u64 0, .int .u64 0, .string ⟨#[]⟩]]) := by
    have h := (h.addBox 39 #[.int .i64 0, .int .u64 0, .int .u64 0, .string ⟨#[]⟩]).addBox 39 #[.int .i64 0, .int .u64 0, .int .u64 0, .string ⟨#[]⟩]
    rw [World.size_alloc, ← HN.out, ← HX.out, List.append_assoc] at h
    exact h
  have n1 : (1 : Int) ≤ (seq : Int) := by omega
  have n2 : (seq : Int) ≤ 1099511627776 := by omega
  have n3 : ¬ (seq : Int) < 1 := by omega
  have n4 : ¬ (1099511627776 : Int) < (seq : Int) := by omega
  have a1 : (seq : Int) % 4 = (a : Int) := by omega
  have a2 : Int.tmod (seq : Int) 4 = (a : Int) := by rw [Int.tmod_eq_emod_of_nonneg (by omega)]; exact a1
  have a3 : IntKind.u64.wrap (a : Int) = (a : Int) := IntWalk.u64_in _ ⟨by omega, by omega⟩
  have a4 : IntKind.i64.wrap (a : Int) = (a : Int) := IntWalk.i64_in _ ⟨by omega, by omega⟩
  subst hob hge
  have qe : ((en : Int) != 0) = false := by rw [he]; rfl
  have qg : ((ge : Int) != (ge : Int)) = false := by simp
  have l1 : ¬ (seq : Int) ≤ (mk : Int) := by omega
  obtain ⟨D, hD⟩ : ∃ D, seq - mk = D := ⟨_, rfl⟩
  have dE : (seq : Int) - (mk : Int) = (D : Int) := by omega
  have dW : IntKind.u64.wrap (D : Int) = (D : Int) := IntWalk.u64_in _ ⟨by omega, by omega⟩
  have l2 : ¬ (4 : Int) < (D : Int) := by omega
  have q2 : ((en2 : Int) != 0) = true := by simp; omega
  have HH := Lib.hid (fun wx (hO : Own w0 wx (Ps ++ [boxP X 39 #[.int .i64 0, .int .u64 0, .int .u64 0, .string ⟨#[]⟩], boxP N 39 #[.int .i64 0, .int .u64 0, .int .u64 0, .string ⟨#[]⟩]])) => ROpened g ge en ge mk en true i (.inr ⟨.inr ⟨rfl, rfl⟩, rfl⟩) w0 wx _ (fun wx Rs hO => by rw [List.append_assoc] at hO ⊢; exact HG.out wx _ hO) hO)
  clear h hk hkl hG hL Hk ha
  replace hO := Lib.hid hO
  go_enter Try.func15, Try.ntmps15
  go_wp2_with fail
  try rw [← HX.out]
  refine (HH.out _ hO.out).mono ?_
  rintro e w1 ⟨rfl, hO1⟩
  clear HH hO

  obtain ⟨Y, hYs⟩ : ∃ Y, w1.heap.size = Y := ⟨_, rfl⟩
  have hO2 := hO1.addBox 94 #[.bool true, .int .u64 (ge : Int), .int .u64 (mk : Int)]
  rw [hYs, List.append_assoc] at hO2
  have hO2 : Own w0 (w1.alloc (.cells #[.bool true, .int .u64 (ge : Int), .int .u64 (mk : Int)] 94)) (Ps ++ boxP X 39 #[.int .i64 0, .int .u64 0, .int .u64 0, .string ⟨#[]⟩] :: [boxP N 39 #[.int .i64 0, .int .u64 0, .int .u64 0, .string ⟨#[]⟩], boxP Y 94 #[.bool true, .int .u64 (ge : Int), .int .u64 (mk : Int)]]) := hO2
  obtain ⟨w2, hw2⟩ : ∃ w2, w1.alloc (.cells #[.bool true, .int .u64 (ge : Int), .int .u64 (mk : Int)] 94) = w2 := ⟨_, rfl⟩
  rw [hw2] at hO2
  clear hO1



  have hby : w2.heap[Y]? = some (.cells #[.bool true, .int .u64 (ge : Int), .int .u64 (mk : Int)] 94 (0, 0)) := Own.box hO2 (Ps.length + 2) (by rw [List.getElem?_append_right (by omega), show Ps.length + 2 - Ps.length = 2 from by omega]; rfl)
  have y0 : w2.cell? ⟨Y, 0, none⟩ = some (.bool true) := by simp [World.cell?, hby]
  have y1 : w2.cell? ⟨Y, 1, none⟩ = some (.int .u64 (ge : Int)) := by simp [World.cell?, hby]
  have y2 : w2.cell? ⟨Y, 2, none⟩ = some (.int .u64 (mk : Int)) := by simp [World.cell?, hby]
  clear hby
  have hbn_ : w2.heap[N]? = some (.cells #[.int .i64 0, .int .u64 0, .int .u64 0, .string ⟨#[]⟩] 39 (0, 0)) := Own.box hO2 (Ps.length + 1) (by rw [List.getElem?_append_right (by omega), show Ps.length + 1 - Ps.length = 1 from by omega]; rfl)
  have n_0 : w2.cell? ⟨N, 0, none⟩ = some (.int .i64 0) := by simp [World.cell?, hbn_]
  have n_1 : w2.cell? ⟨N, 1, none⟩ = some (.int .u64 0) := by simp [World.cell?, hbn_]
  have n_2 : w2.cell? ⟨N, 2, none⟩ = some (.int .u64 0) := by simp [World.cell?, hbn_]
  have n_3 : w2.cell? ⟨N, 3, none⟩ = some (.string ⟨#[]⟩) := by simp [World.cell?, hbn_]
  clear hbn_
  replace hO2 := Lib.hid hO2
  go_wp2_with fail
  try rw [hw2]
  refine (HL.out _ _ hO2.out).mono ?_
  rintro e w3 ⟨rfl, hO3⟩
  clear hO2 HL HG y0 y1 y2 hw2 hYs n_0 n_1 n_2 n_3
  obtain ⟨V, hVs⟩ : ∃ V, w3.heap.size = V := ⟨_, rfl⟩
  have hO4 := hO3.addBox 39 #[.int .i64 (le : Int), .int .u64 (la : Int), .int .u64 (lb : Int), .string ld]
  rw [hVs, List.append_assoc] at hO4
  have hO4 : Own w0 (w3.alloc (.cells #[.int .i64 (le : Int), .int .u64 (la : Int), .int .u64 (lb : Int), .string ld] 39)) (Ps ++ boxP X 39 #[.int .i64 0, .int .u64 0, .int .u64 0, .string ⟨#[]⟩] :: [boxP N 39 #[.int .i64 0, .int .u64 0, .int .u64 0, .string ⟨#[]⟩], boxP Y 94 #[.bool true, .int .u64 (ge : Int), .int .u64 (mk : Int)], boxP V 39 #[.int .i64 (le : Int), .int .u64 (la : Int), .int .u64 (lb : Int), .string ld]]) := hO4
  obtain ⟨w4, hw4⟩ : ∃ w4, w3.alloc (.cells #[.int .i64 (le : Int), .int .u64 (la : Int), .int .u64 (lb : Int), .string ld] 39) = w4 := ⟨_, rfl⟩
  rw [hw4] at hO4
  clear hO3
  have hbv : w4.heap[V]? = some (.cells #[.int .i64 (le : Int), .int .u64 (la : Int), .int .u64 (lb : Int), .string ld] 39 (0, 0)) := Own.box hO4 (Ps.length + 3) (by rw [List.getElem?_append_right (by omega), show Ps.length + 3 - Ps.length = 3 from by omega]; rfl)
  have v0 : w4.cell? ⟨V, 0, none⟩ = some (.int .i64 (le : Int)) := by simp [World.cell?, hbv]
  have v1 : w4.cell? ⟨V, 1, none⟩ = some (.int .u64 (la : Int)) := by simp [World.cell?, hbv]
  have v2 : w4.cell? ⟨V, 2, none⟩ = some (.int .u64 (lb : Int)) := by simp [World.cell?, hbv]
  have v3 : w4.cell? ⟨V, 3, none⟩ = some (.string ld) := by simp [World.cell?, hbv]
  clear hbv
  have hbn_ : w4.heap[N]? = some (.cells #[.int .i64 0, .int .u64 0, .int .u64 0, .string ⟨#[]⟩] 39 (0, 0)) := Own.box hO4 (Ps.length + 1) (by rw [List.getElem?_append_right (by omega), show Ps.length + 1 - Ps.length = 1 from by omega]; rfl)
  have n_0 : w4.cell? ⟨N, 0, none⟩ = some (.int .i64 0) := by simp [World.cell?, hbn_]
  have n_1 : w4.cell? ⟨N, 1, none⟩ = some (.int .u64 0) := by simp [World.cell?, hbn_]
  have n_2 : w4.cell? ⟨N, 2, none⟩ = some (.int .u64 0) := by simp [World.cell?, hbn_]
  have n_3 : w4.cell? ⟨N, 3, none⟩ = some (.string ⟨#[]⟩) := by simp [World.cell?, hbn_]
  clear hbn_
  have hz : w4.heap[X]? = some (.cells #[.int .i64 0, .int .u64 0, .int .u64 0, .string ⟨#[]⟩] 39 (0, 0)) := Own.box hO4 Ps.length (by rw [List.getElem?_append_right (Nat.le_refl _), Nat.sub_self]; rfl)
  have Hq : Hid (∀ w6 : World, w4.grownBy w6 (some X) → Own w0 w6 Ps) := Lib.hid (fun w6 hg => Own.forget hO4 hg)
  have m0 : w4.cell? ⟨X, 0, none⟩ = some (.int .i64 0) := by simp [World.cell?, hz]
  have q0 : w4.frozen? ⟨X, 0, none⟩ = false := by simp [World.frozen?, hz]
  have m1 : w4.cell? ⟨X, 1, none⟩ = some (.int .u64 0) := by simp [World.cell?, hz]
  have q1 : w4.frozen? ⟨X, 1, none⟩ = false := by simp [World.frozen?, hz]
  have m2 : w4.cell? ⟨X, 2, none⟩ = some (.int .u64 0) := by simp [World.cell?, hz]
  have q2 : w4.frozen? ⟨X, 2, none⟩ = false := by simp [World.frozen?, hz]
  have m3 : w4.cell? ⟨X, 3, none⟩ = some (.string ⟨#[]⟩) := by simp [World.cell?, hz]
  have q3 : w4.frozen? ⟨X, 3, none⟩ = false := by simp [World.frozen?, hz]
  have hz1 := heap_setCell_at (o := 0) hz (.int .i64 0)
  have hz2 := heap_setCell_at (o := 1) hz1 (.int .u64 0)
  have hz3 := heap_setCell_at (o := 2) hz2 (.int .u64 0)
  have hz4 := heap_setCell_at (o := 3) hz3 (.string ⟨#[]⟩)
  have g1 : w4.grownBy ((((w4.setCell ⟨X, 0, none⟩ (.int .i64 0)).setCell ⟨X, 1, none⟩ (.int .u64 0)).setCell ⟨X, 2, none⟩ (.int .u64 0)).setCell ⟨X, 3, none⟩ (.string ⟨#[]⟩)) (some X) := (grown_trans (grown_trans (grown_trans (grown_setCell _ ⟨X, 0, none⟩ (.int .i64 0)) (grown_setCell _ ⟨X, 1, none⟩ (.int .u64 0))) (grown_setCell _ ⟨X, 2, none⟩ (.int .u64 0))) (grown_setCell _ ⟨X, 3, none⟩ (.string ⟨#[]⟩)))
  obtain ⟨W3, hW3⟩ : ∃ W3, W3 = ((((w4.setCell ⟨X, 0, none⟩ (.int .i64 0)).setCell ⟨X, 1, none⟩ (.int .u64 0)).setCell ⟨X, 2, none⟩ (.int .u64 0)).setCell ⟨X, 3, none⟩ (.string ⟨#[]⟩)) := ⟨_, rfl⟩
  clear hz1 hz2 hz3
  rw [← hW3] at hz4 g1
  have Z0 : W3.cell? ⟨X, 0, none⟩ = some (.int .i64 0) := by simp [World.cell?, hz4]
  have Z1 : W3.cell? ⟨X, 1, none⟩ = some (.int .u64 0) := by simp [World.cell?, hz4]
  have Z2 : W3.cell? ⟨X, 2, none⟩ = some (.int .u64 0) := by simp [World.cell?, hz4]
  have Z3 : W3.cell? ⟨X, 3, none⟩ = some (.string ⟨#[]⟩) := by simp [World.cell?, hz4]
  clear hO4
  go_wp2_with fail
  go_region
  all_goals go_wp2
  all_goals (try rw [← hW3])
  all_goals exact bodyPost_ret (v := .tuple #[.int .i64 0, .agg #[.int .i64 0, .int .u64 0, .int .u64 0, .string ⟨#[]⟩], .int .i64 (en2 : Int)]) (by simp [results, Try.results15, go_sem, Z0, Z1, Z2, Z3]) rfl ⟨rfl, Hq.out _ (grown_drew g1)⟩

set_option maxRecDepth 100000 in
set_option maxHeartbeats 4000000 in
theorem OfR_G (k g : Nat) (xs : List Nat) (L : List (Nat × Nat)) (i : Int) (ob : Bool) (ge mk en gen seq a lq le la lb : Nat) (ld : ByteArray) (en2 : Nat) (hG : RGetC xs L i ob ge mk en) (hL : RLoadC xs L i a lq le la lb ld en2) (ha : seq % 4 = a) (hs : 1 ≤ seq ∧ seq ≤ 1099511627776) (he : en = 0) (hob : ob = true) (hge : ge = gen) (hd : mk < seq) (hx : ¬ 4 < seq - mk) (h2 : en2 = 0) (h3 : lq = seq) (w0 w : World) (Ps : List Pr) (h : Own w0 w Ps) (hk : Ps[k]? = some (refQ g xs L)) :
    Calls Try.prog 15 #[.pointer (some ⟨g, 0, none⟩), .int .i64 i, .int .u64 (gen : Int), .int .u64 (seq : Int)] w fun e w' => e = .returned (.tuple #[.int .i64 1, .agg #[.int .i64 (le : Int), .int .u64 (la : Int), .int .u64 (lb : Int), .string ld], .int .i64 0]) ∧ Own w0 w' Ps := by
  have hkl := (List.getElem?_eq_some_iff.1 hk).1
  have Hk := Lib.hid (show ∀ Rs, (Ps ++ Rs)[k]? = some (refQ g xs L) from fun Rs => by rw [List.getElem?_append_left hkl]; exact hk)
  have HL := Lib.hid (fun wx Rs (hO : Own w0 wx (Ps ++ Rs)) => hL k g w0 wx _ hO (Hk.out _))
  have HG := Lib.hid (fun wx Rs (hO : Own w0 wx (Ps ++ Rs)) => hG k g w0 wx _ hO (Hk.out _))
  obtain ⟨X, HX⟩ : ∃ X, Hid (X = w.heap.size) := ⟨_, Lib.hid rfl⟩
  have hXs : w.heap.size = X := HX.out.symm
  obtain ⟨N, HN⟩ : ∃ N, Hid (N = w.heap.size + 1) := ⟨_, Lib.hid rfl⟩
  have hNs : X + 1 = N := by rw [HX.out]; exact HN.out.symm
  have hO : Own w0 ((w.alloc (.cells #[.int .i64 0, .int .u64 0, .int .u64 0, .string ⟨#[]⟩] 39)).alloc (.cells #[.int .i64 0, .int .u64 0, .int .u64 0, .string ⟨#[]⟩] 39)) (Ps ++ [boxP X 39 #[.int .i64 0, .int .u64 0, .int .u64 0, .string ⟨#[]⟩], boxP N 39 #[.int .i64 0, .int .u64 0, .int .u64 0, .string ⟨#[]⟩]]) := by
    have h := (h.addBox 39 #[.int .i64 0, .int .u64 0, .int .u64 0, .string ⟨#[]⟩]).addBox 39 #[.int .i64 0, .int .u64 0, .int .u64 0, .string ⟨#[]⟩]
    rw [World.size_alloc, ← HN.out, ← HX.out, List.append_assoc] at h
    exact h
  have n1 : (1 : Int) ≤ (seq : Int) := by omega
  have n2 : (seq : Int) ≤ 1099511627776 := by omega
  have n3 : ¬ (seq : Int) < 1 := by omega
  have n4 : ¬ (1099511627776 : Int) < (seq : Int) := by omega
  have a1 : (seq : Int) % 4 = (a : Int) := by omega
  have a2 : Int.tmod (seq : Int) 4 = (a : Int) := by rw [Int.tmod_eq_emod_of_nonneg (by omega)]; exact a1
  have a3 : IntKind.u64.wrap (a : Int) = (a : Int) := IntWalk.u64_in _ ⟨by omega, by omega⟩
  have a4 : IntKind.i64.wrap (a : Int) = (a : Int) := IntWalk.i64_in _ ⟨by omega, by omega⟩
  subst hob hge
  have qe : ((en : Int) != 0) = false := by rw [he]; rfl
  have qg : ((ge : Int) != (ge : Int)) = false := by simp
  have l1 : ¬ (seq : Int) ≤ (mk : Int) := by omega
  obtain ⟨D, hD⟩ : ∃ D, seq - mk = D := ⟨_, rfl⟩
  have dE : (seq : Int) - (mk : Int) = (D : Int) := by omega
  have dW : IntKind.u64.wrap (D : Int) = (D : Int) := IntWalk.u64_in _ ⟨by omega, by omega⟩
  have l2 : ¬ (4 : Int) < (D : Int) := by omega
  have q2 : ((en2 : Int) != 0) = false := by rw [h2]; rfl
  subst h3
  have l3 : ((lq : Int) == (lq : Int)) = true := by simp
  have HH := Lib.hid (fun wx (hO : Own w0 wx (Ps ++ [boxP X 39 #[.int .i64 0, .int .u64 0, .int .u64 0, .string ⟨#[]⟩], boxP N 39 #[.int .i64 0, .int .u64 0, .int .u64 0, .string ⟨#[]⟩]])) => ROpened g ge en ge mk en true i (.inr ⟨.inr ⟨rfl, rfl⟩, rfl⟩) w0 wx _ (fun wx Rs hO => by rw [List.append_assoc] at hO ⊢; exact HG.out wx _ hO) hO)
  clear h hk hkl hG hL Hk ha
  replace hO := Lib.hid hO
  go_enter Try.func15, Try.ntmps15
  go_wp2_with fail
  try rw [← HX.out]
  refine (HH.out _ hO.out).mono ?_
  rintro e w1 ⟨rfl, hO1⟩
  clear HH hO

  obtain ⟨Y, hYs⟩ : ∃ Y, w1.heap.size = Y := ⟨_, rfl⟩
  have hO2 := hO1.addBox 94 #[.bool true, .int .u64 (ge : Int), .int .u64 (mk : Int)]
  rw [hYs, List.append_assoc] at hO2
  have hO2 : Own w0 (w1.alloc (.cells #[.bool true, .int .u64 (ge : Int), .int .u64 (mk : Int)] 94)) (Ps ++ boxP X 39 #[.int .i64 0, .int .u64 0, .int .u64 0, .string ⟨#[]⟩] :: [boxP N 39 #[.int .i64 0, .int .u64 0, .int .u64 0, .string ⟨#[]⟩], boxP Y 94 #[.bool true, .int .u64 (ge : Int), .int .u64 (mk : Int)]]) := hO2
  obtain ⟨w2, hw2⟩ : ∃ w2, w1.alloc (.cells #[.bool true, .int .u64 (ge : Int), .int .u64 (mk : Int)] 94) = w2 := ⟨_, rfl⟩
  rw [hw2] at hO2
  clear hO1



  have hby : w2.heap[Y]? = some (.cells #[.bool true, .int .u64 (ge : Int), .int .u64 (mk : Int)] 94 (0, 0)) := Own.box hO2 (Ps.length + 2) (by rw [List.getElem?_append_right (by omega), show Ps.length + 2 - Ps.length = 2 from by omega]; rfl)
  have y0 : w2.cell? ⟨Y, 0, none⟩ = some (.bool true) := by simp [World.cell?, hby]
  have y1 : w2.cell? ⟨Y, 1, none⟩ = some (.int .u64 (ge : Int)) := by simp [World.cell?, hby]
  have y2 : w2.cell? ⟨Y, 2, none⟩ = some (.int .u64 (mk : Int)) := by simp [World.cell?, hby]
  clear hby
  have hbn_ : w2.heap[N]? = some (.cells #[.int .i64 0, .int .u64 0, .int .u64 0, .string ⟨#[]⟩] 39 (0, 0)) := Own.box hO2 (Ps.length + 1) (by rw [List.getElem?_append_right (by omega), show Ps.length + 1 - Ps.length = 1 from by omega]; rfl)
  have n_0 : w2.cell? ⟨N, 0, none⟩ = some (.int .i64 0) := by simp [World.cell?, hbn_]
  have n_1 : w2.cell? ⟨N, 1, none⟩ = some (.int .u64 0) := by simp [World.cell?, hbn_]
  have n_2 : w2.cell? ⟨N, 2, none⟩ = some (.int .u64 0) := by simp [World.cell?, hbn_]
  have n_3 : w2.cell? ⟨N, 3, none⟩ = some (.string ⟨#[]⟩) := by simp [World.cell?, hbn_]
  clear hbn_
  replace hO2 := Lib.hid hO2
  go_wp2_with fail
  try rw [hw2]
  refine (HL.out _ _ hO2.out).mono ?_
  rintro e w3 ⟨rfl, hO3⟩
  clear hO2 HL HG y0 y1 y2 hw2 hYs n_0 n_1 n_2 n_3
  obtain ⟨V, hVs⟩ : ∃ V, w3.heap.size = V := ⟨_, rfl⟩
  have hO4 := hO3.addBox 39 #[.int .i64 (le : Int), .int .u64 (la : Int), .int .u64 (lb : Int), .string ld]
  rw [hVs, List.append_assoc] at hO4
  have hO4 : Own w0 (w3.alloc (.cells #[.int .i64 (le : Int), .int .u64 (la : Int), .int .u64 (lb : Int), .string ld] 39)) (Ps ++ boxP X 39 #[.int .i64 0, .int .u64 0, .int .u64 0, .string ⟨#[]⟩] :: [boxP N 39 #[.int .i64 0, .int .u64 0, .int .u64 0, .string ⟨#[]⟩], boxP Y 94 #[.bool true, .int .u64 (ge : Int), .int .u64 (mk : Int)], boxP V 39 #[.int .i64 (le : Int), .int .u64 (la : Int), .int .u64 (lb : Int), .string ld]]) := hO4
  obtain ⟨w4, hw4⟩ : ∃ w4, w3.alloc (.cells #[.int .i64 (le : Int), .int .u64 (la : Int), .int .u64 (lb : Int), .string ld] 39) = w4 := ⟨_, rfl⟩
  rw [hw4] at hO4
  clear hO3
  have hbv : w4.heap[V]? = some (.cells #[.int .i64 (le : Int), .int .u64 (la : Int), .int .u64 (lb : Int), .string ld] 39 (0, 0)) := Own.box hO4 (Ps.length + 3) (by rw [List.getElem?_append_right (by omega), show Ps.length + 3 - Ps.length = 3 from by omega]; rfl)
  have v0 : w4.cell? ⟨V, 0, none⟩ = some (.int .i64 (le : Int)) := by simp [World.cell?, hbv]
  have v1 : w4.cell? ⟨V, 1, none⟩ = some (.int .u64 (la : Int)) := by simp [World.cell?, hbv]
  have v2 : w4.cell? ⟨V, 2, none⟩ = some (.int .u64 (lb : Int)) := by simp [World.cell?, hbv]
  have v3 : w4.cell? ⟨V, 3, none⟩ = some (.string ld) := by simp [World.cell?, hbv]
  clear hbv
  have hbn_ : w4.heap[N]? = some (.cells #[.int .i64 0, .int .u64 0, .int .u64 0, .string ⟨#[]⟩] 39 (0, 0)) := Own.box hO4 (Ps.length + 1) (by rw [List.getElem?_append_right (by omega), show Ps.length + 1 - Ps.length = 1 from by omega]; rfl)
  have n_0 : w4.cell? ⟨N, 0, none⟩ = some (.int .i64 0) := by simp [World.cell?, hbn_]
  have n_1 : w4.cell? ⟨N, 1, none⟩ = some (.int .u64 0) := by simp [World.cell?, hbn_]
  have n_2 : w4.cell? ⟨N, 2, none⟩ = some (.int .u64 0) := by simp [World.cell?, hbn_]
  have n_3 : w4.cell? ⟨N, 3, none⟩ = some (.string ⟨#[]⟩) := by simp [World.cell?, hbn_]
  clear hbn_
  have hz : w4.heap[X]? = some (.cells #[.int .i64 0, .int .u64 0, .int .u64 0, .string ⟨#[]⟩] 39 (0, 0)) := Own.box hO4 Ps.length (by rw [List.getElem?_append_right (Nat.le_refl _), Nat.sub_self]; rfl)
  have Hq : Hid (∀ w6 : World, w4.grownBy w6 (some X) → Own w0 w6 Ps) := Lib.hid (fun w6 hg => Own.forget hO4 hg)
  have m0 : w4.cell? ⟨X, 0, none⟩ = some (.int .i64 0) := by simp [World.cell?, hz]
  have q0 : w4.frozen? ⟨X, 0, none⟩ = false := by simp [World.frozen?, hz]
  have m1 : w4.cell? ⟨X, 1, none⟩ = some (.int .u64 0) := by simp [World.cell?, hz]
  have q1 : w4.frozen? ⟨X, 1, none⟩ = false := by simp [World.frozen?, hz]
  have m2 : w4.cell? ⟨X, 2, none⟩ = some (.int .u64 0) := by simp [World.cell?, hz]
  have q2 : w4.frozen? ⟨X, 2, none⟩ = false := by simp [World.frozen?, hz]
  have m3 : w4.cell? ⟨X, 3, none⟩ = some (.string ⟨#[]⟩) := by simp [World.cell?, hz]
  have q3 : w4.frozen? ⟨X, 3, none⟩ = false := by simp [World.frozen?, hz]
  have hz1 := heap_setCell_at (o := 0) hz (.int .i64 (le : Int))
  have hz2 := heap_setCell_at (o := 1) hz1 (.int .u64 (la : Int))
  have hz3 := heap_setCell_at (o := 2) hz2 (.int .u64 (lb : Int))
  have hz4 := heap_setCell_at (o := 3) hz3 (.string ld)
  have g1 : w4.grownBy ((((w4.setCell ⟨X, 0, none⟩ (.int .i64 (le : Int))).setCell ⟨X, 1, none⟩ (.int .u64 (la : Int))).setCell ⟨X, 2, none⟩ (.int .u64 (lb : Int))).setCell ⟨X, 3, none⟩ (.string ld)) (some X) := (grown_trans (grown_trans (grown_trans (grown_setCell _ ⟨X, 0, none⟩ (.int .i64 (le : Int))) (grown_setCell _ ⟨X, 1, none⟩ (.int .u64 (la : Int)))) (grown_setCell _ ⟨X, 2, none⟩ (.int .u64 (lb : Int)))) (grown_setCell _ ⟨X, 3, none⟩ (.string ld)))
  obtain ⟨W3, hW3⟩ : ∃ W3, W3 = ((((w4.setCell ⟨X, 0, none⟩ (.int .i64 (le : Int))).setCell ⟨X, 1, none⟩ (.int .u64 (la : Int))).setCell ⟨X, 2, none⟩ (.int .u64 (lb : Int))).setCell ⟨X, 3, none⟩ (.string ld)) := ⟨_, rfl⟩
  clear hz1 hz2 hz3
  rw [← hW3] at hz4 g1
  have Z0 : W3.cell? ⟨X, 0, none⟩ = some (.int .i64 (le : Int)) := by simp [World.cell?, hz4]
  have Z1 : W3.cell? ⟨X, 1, none⟩ = some (.int .u64 (la : Int)) := by simp [World.cell?, hz4]
  have Z2 : W3.cell? ⟨X, 2, none⟩ = some (.int .u64 (lb : Int)) := by simp [World.cell?, hz4]
  have Z3 : W3.cell? ⟨X, 3, none⟩ = some (.string ld) := by simp [World.cell?, hz4]
  clear hO4
  go_wp2_with fail
  go_region
  all_goals go_wp2
  all_goals (try rw [← hW3])
  all_goals exact bodyPost_ret (v := .tuple #[.int .i64 1, .agg #[.int .i64 (le : Int), .int .u64 (la : Int), .int .u64 (lb : Int), .string ld], .int .i64 0]) (by simp [results, Try.results15, go_sem, Z0, Z1, Z2, Z3]) rfl ⟨rfl, Hq.out _ (grown_drew g1)⟩

set_option maxRecDepth 100000 in
set_option maxHeartbeats 4000000 in
theorem OfR_H (k g : Nat) (xs : List Nat) (L : List (Nat × Nat)) (i : Int) (ob : Bool) (ge mk en gen seq a lq le la lb : Nat) (ld : ByteArray) (en2 : Nat) (hG : RGetC xs L i ob ge mk en) (hL : RLoadC xs L i a lq le la lb ld en2) (ha : seq % 4 = a) (hs : 1 ≤ seq ∧ seq ≤ 1099511627776) (he : en = 0) (hob : ob = true) (hge : ge = gen) (hd : mk < seq) (hx : ¬ 4 < seq - mk) (h2 : en2 = 0) (h3 : lq ≠ seq) (w0 w : World) (Ps : List Pr) (h : Own w0 w Ps) (hk : Ps[k]? = some (refQ g xs L)) :
    Calls Try.prog 15 #[.pointer (some ⟨g, 0, none⟩), .int .i64 i, .int .u64 (gen : Int), .int .u64 (seq : Int)] w fun e w' => e = .returned (.tuple #[.int .i64 0, .agg #[.int .i64 0, .int .u64 0, .int .u64 0, .string ⟨#[]⟩], .int .i64 0]) ∧ Own w0 w' Ps := by
  have hkl := (List.getElem?_eq_some_iff.1 hk).1
  have Hk := Lib.hid (show ∀ Rs, (Ps ++ Rs)[k]? = some (refQ g xs L) from fun Rs => by rw [List.getElem?_append_left hkl]; exact hk)
  have HL := Lib.hid (fun wx Rs (hO : Own w0 wx (Ps ++ Rs)) => hL k g w0 wx _ hO (Hk.out _))
  have HG := Lib.hid (fun wx Rs (hO : Own w0 wx (Ps ++ Rs)) => hG k g w0 wx _ hO (Hk.out _))
  obtain ⟨X, HX⟩ : ∃ X, Hid (X = w.heap.size) := ⟨_, Lib.hid rfl⟩
  have hXs : w.heap.size = X := HX.out.symm
  obtain ⟨N, HN⟩ : ∃ N, Hid (N = w.heap.size + 1) := ⟨_, Lib.hid rfl⟩
  have hNs : X + 1 = N := by rw [HX.out]; exact HN.out.symm
  have hO : Own w0 ((w.alloc (.cells #[.int .i64 0, .int .u64 0, .int .u64 0, .string ⟨#[]⟩] 39)).alloc (.cells #[.int .i64 0, .int .u64 0, .int .u64 0, .string ⟨#[]⟩] 39)) (Ps ++ [boxP X 39 #[.int .i64 0, .int .u64 0, .int .u64 0, .string ⟨#[]⟩], boxP N 39 #[.int .i64 0, .int .u64 0, .int .u64 0, .string ⟨#[]⟩]]) := by
    have h := (h.addBox 39 #[.int .i64 0, .int .u64 0, .int .u64 0, .string ⟨#[]⟩]).addBox 39 #[.int .i64 0, .int .u64 0, .int .u64 0, .string ⟨#[]⟩]
    rw [World.size_alloc, ← HN.out, ← HX.out, List.append_assoc] at h
    exact h
  have n1 : (1 : Int) ≤ (seq : Int) := by omega
  have n2 : (seq : Int) ≤ 1099511627776 := by omega
  have n3 : ¬ (seq : Int) < 1 := by omega
  have n4 : ¬ (1099511627776 : Int) < (seq : Int) := by omega
  have a1 : (seq : Int) % 4 = (a : Int) := by omega
  have a2 : Int.tmod (seq : Int) 4 = (a : Int) := by rw [Int.tmod_eq_emod_of_nonneg (by omega)]; exact a1
  have a3 : IntKind.u64.wrap (a : Int) = (a : Int) := IntWalk.u64_in _ ⟨by omega, by omega⟩
  have a4 : IntKind.i64.wrap (a : Int) = (a : Int) := IntWalk.i64_in _ ⟨by omega, by omega⟩
  subst hob hge
  have qe : ((en : Int) != 0) = false := by rw [he]; rfl
  have qg : ((ge : Int) != (ge : Int)) = false := by simp
  have l1 : ¬ (seq : Int) ≤ (mk : Int) := by omega
  obtain ⟨D, hD⟩ : ∃ D, seq - mk = D := ⟨_, rfl⟩
  have dE : (seq : Int) - (mk : Int) = (D : Int) := by omega
  have dW : IntKind.u64.wrap (D : Int) = (D : Int) := IntWalk.u64_in _ ⟨by omega, by omega⟩
  have l2 : ¬ (4 : Int) < (D : Int) := by omega
  have q2 : ((en2 : Int) != 0) = false := by rw [h2]; rfl
  have l3 : ((lq : Int) == (seq : Int)) = false := by simp; omega
  have HH := Lib.hid (fun wx (hO : Own w0 wx (Ps ++ [boxP X 39 #[.int .i64 0, .int .u64 0, .int .u64 0, .string ⟨#[]⟩], boxP N 39 #[.int .i64 0, .int .u64 0, .int .u64 0, .string ⟨#[]⟩]])) => ROpened g ge en ge mk en true i (.inr ⟨.inr ⟨rfl, rfl⟩, rfl⟩) w0 wx _ (fun wx Rs hO => by rw [List.append_assoc] at hO ⊢; exact HG.out wx _ hO) hO)
  clear h hk hkl hG hL Hk ha
  replace hO := Lib.hid hO
  go_enter Try.func15, Try.ntmps15
  go_wp2_with fail
  try rw [← HX.out]
  refine (HH.out _ hO.out).mono ?_
  rintro e w1 ⟨rfl, hO1⟩
  clear HH hO

  obtain ⟨Y, hYs⟩ : ∃ Y, w1.heap.size = Y := ⟨_, rfl⟩
  have hO2 := hO1.addBox 94 #[.bool true, .int .u64 (ge : Int), .int .u64 (mk : Int)]
  rw [hYs, List.append_assoc] at hO2
  have hO2 : Own w0 (w1.alloc (.cells #[.bool true, .int .u64 (ge : Int), .int .u64 (mk : Int)] 94)) (Ps ++ boxP X 39 #[.int .i64 0, .int .u64 0, .int .u64 0, .string ⟨#[]⟩] :: [boxP N 39 #[.int .i64 0, .int .u64 0, .int .u64 0, .string ⟨#[]⟩], boxP Y 94 #[.bool true, .int .u64 (ge : Int), .int .u64 (mk : Int)]]) := hO2
  obtain ⟨w2, hw2⟩ : ∃ w2, w1.alloc (.cells #[.bool true, .int .u64 (ge : Int), .int .u64 (mk : Int)] 94) = w2 := ⟨_, rfl⟩
  rw [hw2] at hO2
  clear hO1



  have hby : w2.heap[Y]? = some (.cells #[.bool true, .int .u64 (ge : Int), .int .u64 (mk : Int)] 94 (0, 0)) := Own.box hO2 (Ps.length + 2) (by rw [List.getElem?_append_right (by omega), show Ps.length + 2 - Ps.length = 2 from by omega]; rfl)
  have y0 : w2.cell? ⟨Y, 0, none⟩ = some (.bool true) := by simp [World.cell?, hby]
  have y1 : w2.cell? ⟨Y, 1, none⟩ = some (.int .u64 (ge : Int)) := by simp [World.cell?, hby]
  have y2 : w2.cell? ⟨Y, 2, none⟩ = some (.int .u64 (mk : Int)) := by simp [World.cell?, hby]
  clear hby
  have hbn_ : w2.heap[N]? = some (.cells #[.int .i64 0, .int .u64 0, .int .u64 0, .string ⟨#[]⟩] 39 (0, 0)) := Own.box hO2 (Ps.length + 1) (by rw [List.getElem?_append_right (by omega), show Ps.length + 1 - Ps.length = 1 from by omega]; rfl)
  have n_0 : w2.cell? ⟨N, 0, none⟩ = some (.int .i64 0) := by simp [World.cell?, hbn_]
  have n_1 : w2.cell? ⟨N, 1, none⟩ = some (.int .u64 0) := by simp [World.cell?, hbn_]
  have n_2 : w2.cell? ⟨N, 2, none⟩ = some (.int .u64 0) := by simp [World.cell?, hbn_]
  have n_3 : w2.cell? ⟨N, 3, none⟩ = some (.string ⟨#[]⟩) := by simp [World.cell?, hbn_]
  clear hbn_
  replace hO2 := Lib.hid hO2
  go_wp2_with fail
  try rw [hw2]
  refine (HL.out _ _ hO2.out).mono ?_
  rintro e w3 ⟨rfl, hO3⟩
  clear hO2 HL HG y0 y1 y2 hw2 hYs n_0 n_1 n_2 n_3
  obtain ⟨V, hVs⟩ : ∃ V, w3.heap.size = V := ⟨_, rfl⟩
  have hO4 := hO3.addBox 39 #[.int .i64 (le : Int), .int .u64 (la : Int), .int .u64 (lb : Int), .string ld]
  rw [hVs, List.append_assoc] at hO4
  have hO4 : Own w0 (w3.alloc (.cells #[.int .i64 (le : Int), .int .u64 (la : Int), .int .u64 (lb : Int), .string ld] 39)) (Ps ++ boxP X 39 #[.int .i64 0, .int .u64 0, .int .u64 0, .string ⟨#[]⟩] :: [boxP N 39 #[.int .i64 0, .int .u64 0, .int .u64 0, .string ⟨#[]⟩], boxP Y 94 #[.bool true, .int .u64 (ge : Int), .int .u64 (mk : Int)], boxP V 39 #[.int .i64 (le : Int), .int .u64 (la : Int), .int .u64 (lb : Int), .string ld]]) := hO4
  obtain ⟨w4, hw4⟩ : ∃ w4, w3.alloc (.cells #[.int .i64 (le : Int), .int .u64 (la : Int), .int .u64 (lb : Int), .string ld] 39) = w4 := ⟨_, rfl⟩
  rw [hw4] at hO4
  clear hO3
  have hbv : w4.heap[V]? = some (.cells #[.int .i64 (le : Int), .int .u64 (la : Int), .int .u64 (lb : Int), .string ld] 39 (0, 0)) := Own.box hO4 (Ps.length + 3) (by rw [List.getElem?_append_right (by omega), show Ps.length + 3 - Ps.length = 3 from by omega]; rfl)
  have v0 : w4.cell? ⟨V, 0, none⟩ = some (.int .i64 (le : Int)) := by simp [World.cell?, hbv]
  have v1 : w4.cell? ⟨V, 1, none⟩ = some (.int .u64 (la : Int)) := by simp [World.cell?, hbv]
  have v2 : w4.cell? ⟨V, 2, none⟩ = some (.int .u64 (lb : Int)) := by simp [World.cell?, hbv]
  have v3 : w4.cell? ⟨V, 3, none⟩ = some (.string ld) := by simp [World.cell?, hbv]
  clear hbv
  have hbn_ : w4.heap[N]? = some (.cells #[.int .i64 0, .int .u64 0, .int .u64 0, .string ⟨#[]⟩] 39 (0, 0)) := Own.box hO4 (Ps.length + 1) (by rw [List.getElem?_append_right (by omega), show Ps.length + 1 - Ps.length = 1 from by omega]; rfl)
  have n_0 : w4.cell? ⟨N, 0, none⟩ = some (.int .i64 0) := by simp [World.cell?, hbn_]
  have n_1 : w4.cell? ⟨N, 1, none⟩ = some (.int .u64 0) := by simp [World.cell?, hbn_]
  have n_2 : w4.cell? ⟨N, 2, none⟩ = some (.int .u64 0) := by simp [World.cell?, hbn_]
  have n_3 : w4.cell? ⟨N, 3, none⟩ = some (.string ⟨#[]⟩) := by simp [World.cell?, hbn_]
  clear hbn_
  have hz : w4.heap[X]? = some (.cells #[.int .i64 0, .int .u64 0, .int .u64 0, .string ⟨#[]⟩] 39 (0, 0)) := Own.box hO4 Ps.length (by rw [List.getElem?_append_right (Nat.le_refl _), Nat.sub_self]; rfl)
  have Hq : Hid (∀ w6 : World, w4.grownBy w6 (some X) → Own w0 w6 Ps) := Lib.hid (fun w6 hg => Own.forget hO4 hg)
  have m0 : w4.cell? ⟨X, 0, none⟩ = some (.int .i64 0) := by simp [World.cell?, hz]
  have q0 : w4.frozen? ⟨X, 0, none⟩ = false := by simp [World.frozen?, hz]
  have m1 : w4.cell? ⟨X, 1, none⟩ = some (.int .u64 0) := by simp [World.cell?, hz]
  have q1 : w4.frozen? ⟨X, 1, none⟩ = false := by simp [World.frozen?, hz]
  have m2 : w4.cell? ⟨X, 2, none⟩ = some (.int .u64 0) := by simp [World.cell?, hz]
  have q2 : w4.frozen? ⟨X, 2, none⟩ = false := by simp [World.frozen?, hz]
  have m3 : w4.cell? ⟨X, 3, none⟩ = some (.string ⟨#[]⟩) := by simp [World.cell?, hz]
  have q3 : w4.frozen? ⟨X, 3, none⟩ = false := by simp [World.frozen?, hz]
  have hz1 := heap_setCell_at (o := 0) hz (.int .i64 0)
  have hz2 := heap_setCell_at (o := 1) hz1 (.int .u64 0)
  have hz3 := heap_setCell_at (o := 2) hz2 (.int .u64 0)
  have hz4 := heap_setCell_at (o := 3) hz3 (.string ⟨#[]⟩)
  have g1 : w4.grownBy ((((w4.setCell ⟨X, 0, none⟩ (.int .i64 0)).setCell ⟨X, 1, none⟩ (.int .u64 0)).setCell ⟨X, 2, none⟩ (.int .u64 0)).setCell ⟨X, 3, none⟩ (.string ⟨#[]⟩)) (some X) := (grown_trans (grown_trans (grown_trans (grown_setCell _ ⟨X, 0, none⟩ (.int .i64 0)) (grown_setCell _ ⟨X, 1, none⟩ (.int .u64 0))) (grown_setCell _ ⟨X, 2, none⟩ (.int .u64 0))) (grown_setCell _ ⟨X, 3, none⟩ (.string ⟨#[]⟩)))
  obtain ⟨W3, hW3⟩ : ∃ W3, W3 = ((((w4.setCell ⟨X, 0, none⟩ (.int .i64 0)).setCell ⟨X, 1, none⟩ (.int .u64 0)).setCell ⟨X, 2, none⟩ (.int .u64 0)).setCell ⟨X, 3, none⟩ (.string ⟨#[]⟩)) := ⟨_, rfl⟩
  clear hz1 hz2 hz3
  rw [← hW3] at hz4 g1
  have Z0 : W3.cell? ⟨X, 0, none⟩ = some (.int .i64 0) := by simp [World.cell?, hz4]
  have Z1 : W3.cell? ⟨X, 1, none⟩ = some (.int .u64 0) := by simp [World.cell?, hz4]
  have Z2 : W3.cell? ⟨X, 2, none⟩ = some (.int .u64 0) := by simp [World.cell?, hz4]
  have Z3 : W3.cell? ⟨X, 3, none⟩ = some (.string ⟨#[]⟩) := by simp [World.cell?, hz4]
  clear hO4
  go_wp2_with fail
  go_region
  all_goals go_wp2
  all_goals (try rw [← hW3])
  all_goals exact bodyPost_ret (v := .tuple #[.int .i64 0, .agg #[.int .i64 0, .int .u64 0, .int .u64 0, .string ⟨#[]⟩], .int .i64 0]) (by simp [results, Try.results15, go_sem, Z0, Z1, Z2, Z3]) rfl ⟨rfl, Hq.out _ (grown_drew g1)⟩

end Go.Proofs.Ytdpkpphjpihhkaa
