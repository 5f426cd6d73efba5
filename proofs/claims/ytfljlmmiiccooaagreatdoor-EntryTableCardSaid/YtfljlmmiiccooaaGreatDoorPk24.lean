import Derived.Test.YtfljlmmiiccooaaGreatDoorPk20
import Derived.Test.YtfljlmmiiccooaaGreatDoorPk14
set_option maxRecDepth 100000
set_option maxHeartbeats 2000000
section
namespace Go.Grommet
open Go.RowKit
theorem Own.putBox {w0 w : World} {Ps : List Pr} (h : Own w0 w Ps) (k : Nat) {X : Nat} {T : TypeId} {cs : Array Value} (hk : Ps[k]? = some (boxP X T cs)) (o : Nat) (u : Value) : Own w0 (w.setCell ⟨X, o, none⟩ u) (Ps.set k (boxP X T (cs.setIfInBounds o u))) := by
 obtain ⟨F, h1, h2⟩ := h.take k hk
 refine h2 _ _ ⟨F, ⟨heap_setCell_at h1.1 u, h1.2.1, fun i hi => Nat.lt_of_lt_of_le (h1.2.2 i hi) (by simp [World.setCell])⟩, fun i hi => .inl hi, Turn.of (grown_setCell _ _ _) (fun i e => by cases e; exact h1.2.1)⟩
theorem arr_wv_set (vs : List Nat) (o u : Nat) : ((vs.map wv).toArray).setIfInBounds o (wv u) = ((vs.set o u).map wv).toArray := by
 rw [List.setIfInBounds_toArray, List.map_set]
def anyP : Pr where
 holds w F := ∀ i, F i → i < w.heap.size
 turn := fun h ht _ i hi => Nat.lt_of_lt_of_le (h i hi) ht.size
 old := fun h => h
theorem Own.forget {w0 w w' : World} {Ps Qs : List Pr} {X : Nat} {T : TypeId} {cs : Array Value} (h : Own w0 w (Ps ++ boxP X T cs :: Qs)) (hg : w.grownBy w' (some X)) : Own w0 w' Ps := by
 obtain ⟨F, h1, h2⟩ := h.take Ps.length (P := boxP X T cs) (by rw [List.getElem?_append_right (Nat.le_refl _), Nat.sub_self]; rfl)
 have h3 := h2 w' anyP ⟨F, fun i hi => Nat.lt_of_lt_of_le (h1.2.2 i hi) hg.size, fun i hi => .inl hi, Turn.of hg (fun i e => by cases e; exact h1.2.1)⟩
 rw [List.set_append_right _ _ (Nat.le_refl _)] at h3
 exact h3.less
def upto (f : Nat → Nat) (n j : Nat) : List Nat := (List.range n).map fun i => if i < j then f i else 0
theorem upto_length (f : Nat → Nat) (n j : Nat) : (upto f n j).length = n := by simp [upto]
theorem upto_set (f : Nat → Nat) (n j : Nat) : (upto f n j).set j (f j) = upto f n (j + 1) := by
 apply List.ext_getElem?
 intro i
 by_cases hi : i < n
 ·by_cases hj : i = j
  ·subst hj
   rw [List.getElem?_set_self (by rw [upto_length]; exact hi)]
   simp [upto, hi]
  ·rw [List.getElem?_set_ne (fun e => hj e.symm)]
   simp only [upto, List.getElem?_map, List.getElem?_range hi, Option.map_some]
   by_cases h : i < j
   ·rw [if_pos h, if_pos (by omega)]
   ·rw [if_neg h, if_neg (by omega)]
 ·rw [List.getElem?_eq_none (by simp [upto]; omega), List.getElem?_eq_none (by simp [upto]; omega)]
end Go.Grommet
namespace Go.Proofs.YtfljlmmiiccooaaGreatDoor
open Go.RowKit Go.Grommet
theorem StandsH (k g : Nat) (xs : List Nat) (L : List (Nat × Nat)) (a : Int) (f : Nat → Nat) (w0 w : World) (Ps : List Pr) (h : Own w0 w Ps) (hk : Ps[k]? = some (viewP g xs L)) (ha : 0 ≤ a ∧ a ≤ 1000000) (hf : ∀ i, gotI xs L (a + ((i : Nat) : Int)) = f i) :
  Calls Tryz.prog 102 #[.pointer (some ⟨g, 0, none⟩), .int .i64 a] w fun e w' => e = .returned (.agg #[.int .u64 ((f 0 : Nat) : Int), .int .u64 ((f 1 : Nat) : Int), .int .u64 ((f 2 : Nat) : Int), .int .u64 ((f 3 : Nat) : Int), .int .u64 ((f 4 : Nat) : Int), .int .u64 ((f 5 : Nat) : Int), .int .u64 ((f 6 : Nat) : Int), .int .u64 ((f 7 : Nat) : Int), .int .u64 ((f 8 : Nat) : Int), .int .u64 ((f 9 : Nat) : Int)]) ∧ Own w0 w' Ps := by
 have HG := Lib.hid (fun (j : Nat) (wx : World) (Qs : List Pr) (hO : Own w0 wx (Ps ++ Qs)) => GetH k g xs L (a + (j : Int)) w0 wx (Ps ++ Qs) hO (by rw [List.getElem?_append_left (List.getElem?_eq_some_iff.1 hk).1]; exact hk))
 have Hf := Lib.hid hf
 have Hh := Lib.hid h
 obtain ⟨P, HP⟩ : ∃ P, Hid (P = Ps.length) := ⟨_, Lib.hid rfl⟩
 clear hf h hk
 go_enter Tryz.func102, Tryz.ntmps102
 go_wp2_with fail
 obtain ⟨N, HN⟩ : ∃ N, Hid (N = w.heap.size) := ⟨_, Lib.hid rfl⟩
 obtain ⟨X, HX⟩ : ∃ X, Hid (X = w.heap.size + 1) := ⟨_, Lib.hid rfl⟩
 have hO : Own w0 ((w.alloc (.cells #[.int .u64 0, .int .u64 0, .int .u64 0, .int .u64 0, .int .u64 0, .int .u64 0, .int .u64 0, .int .u64 0, .int .u64 0, .int .u64 0] 133)).alloc (.cells #[.int .u64 0, .int .u64 0, .int .u64 0, .int .u64 0, .int .u64 0, .int .u64 0, .int .u64 0, .int .u64 0, .int .u64 0, .int .u64 0] 188)) (Ps ++ [boxP N 133 #[.int .u64 0, .int .u64 0, .int .u64 0, .int .u64 0, .int .u64 0, .int .u64 0, .int .u64 0, .int .u64 0, .int .u64 0, .int .u64 0], boxP X 188 ((upto f 10 0).map wv).toArray]) := by
  have h := (Hh.out.addBox 133 #[.int .u64 0, .int .u64 0, .int .u64 0, .int .u64 0, .int .u64 0, .int .u64 0, .int .u64 0, .int .u64 0, .int .u64 0, .int .u64 0]).addBox 188 #[.int .u64 0, .int .u64 0, .int .u64 0, .int .u64 0, .int .u64 0, .int .u64 0, .int .u64 0, .int .u64 0, .int .u64 0, .int .u64 0]
  rw [World.size_alloc, ← HX.out, ← HN.out, List.append_assoc] at h
  exact h
 rw [← HX.out, ← HN.out]
 replace hO := Lib.hid hO
 go_loopw [7] (fun i wr => ∃ j : Nat, j ≤ 10 ∧ i = .int .i64 (j : Int) ∧ Hid (Own w0 wr (Ps ++ [boxP N 133 #[.int .u64 0, .int .u64 0, .int .u64 0, .int .u64 0, .int .u64 0, .int .u64 0, .int .u64 0, .int .u64 0, .int .u64 0, .int .u64 0], boxP X 188 ((upto f 10 j).map wv).toArray]))) (fun i _ => 10 - (intOf i).toNat)
 case atStart => exact ⟨0, Nat.zero_le _, rfl, hO⟩
 case round =>
  clear hO
  obtain ⟨j, hj, rfl, hO⟩ := hrel
  have j0 : (0 : Int) ≤ (j : Int) := by omega
  by_cases hlt : j < 10
  ·have hlt' : (j : Int) < 10 := by omega
   have hbx : wr.heap[X]? = some (.cells ((upto f 10 j).map wv).toArray 188 (0, 0)) := Own.box hO.out (P + 1) (by rw [HP.out, List.getElem?_append_right (by omega), show Ps.length + 1 - Ps.length = 1 from by omega]; rfl)
   have hc : wr.cell? ⟨X, j, none⟩ = some (.int .u64 (((upto f 10 j).getD j 0 : Nat) : Int)) := by
    have hl : j < (upto f 10 j).length := by rw [upto_length]; exact hlt
    simp [World.cell?, hbx, wv, hl]
   have hfz : wr.frozen? ⟨X, j, none⟩ = false := by simp [World.frozen?, hbx]
   have hO2 : Own w0 (wr.setCell ⟨X, j, none⟩ (.int .u64 ((f j : Nat) : Int))) (Ps ++ [boxP N 133 #[.int .u64 0, .int .u64 0, .int .u64 0, .int .u64 0, .int .u64 0, .int .u64 0, .int .u64 0, .int .u64 0, .int .u64 0, .int .u64 0], boxP X 188 ((upto f 10 (j + 1)).map wv).toArray]) := by
    have h := hO.out.putBox (P + 1) (X := X) (T := 188) (cs := ((upto f 10 j).map wv).toArray) (by rw [HP.out, List.getElem?_append_right (by omega), show Ps.length + 1 - Ps.length = 1 from by omega]; rfl) j (wv (f j))
    rw [arr_wv_set, upto_set, HP.out, List.set_append_right _ _ (by omega), show Ps.length + 1 - Ps.length = 1 from by omega] at h
    exact h
   have HGj := Lib.hid (HG.out j wr _ hO.out)
   rw [Hf.out j] at HGj
   generalize (upto f 10 j).getD j 0 = U at hc
   generalize f j = V at HGj hO2
   replace hO2 := Lib.hid hO2
   clear hbx hO
   go_wp2_with fail
   refine HGj.out.mono ?_
   rintro e w1 ⟨rfl, rfl⟩
   go_wp2
   go_roundw
   case rel => exact ⟨j + 1, by omega, by go_num, hO2⟩
   case measure => simp [intOf]; omega
  ·obtain rfl : j = 10 := by omega
   have hbx : wr.heap[X]? = some (.cells #[.int .u64 ((f 0 : Nat) : Int), .int .u64 ((f 1 : Nat) : Int), .int .u64 ((f 2 : Nat) : Int), .int .u64 ((f 3 : Nat) : Int), .int .u64 ((f 4 : Nat) : Int), .int .u64 ((f 5 : Nat) : Int), .int .u64 ((f 6 : Nat) : Int), .int .u64 ((f 7 : Nat) : Int), .int .u64 ((f 8 : Nat) : Int), .int .u64 ((f 9 : Nat) : Int)] 188 (0, 0)) := Own.box hO.out (P + 1) (by rw [HP.out, List.getElem?_append_right (by omega), show Ps.length + 1 - Ps.length = 1 from by omega]; rfl)
   have hbn : wr.heap[N]? = some (.cells #[.int .u64 0, .int .u64 0, .int .u64 0, .int .u64 0, .int .u64 0, .int .u64 0, .int .u64 0, .int .u64 0, .int .u64 0, .int .u64 0] 133 (0, 0)) := Own.box hO.out P (by rw [HP.out, List.getElem?_append_right (by omega), Nat.sub_self]; rfl)
   have hq : ∀ w2 : World, wr.grownBy w2 (some N) → Own w0 w2 Ps := fun w2 hg => hO.out.forget hg
   have Hq := Lib.hid hq
   obtain ⟨v0, E0⟩ : ∃ v, Hid (v = f 0) := ⟨_, Lib.hid rfl⟩
   rw [← E0.out] at hbx
   obtain ⟨v1, E1⟩ : ∃ v, Hid (v = f 1) := ⟨_, Lib.hid rfl⟩
   rw [← E1.out] at hbx
   obtain ⟨v2, E2⟩ : ∃ v, Hid (v = f 2) := ⟨_, Lib.hid rfl⟩
   rw [← E2.out] at hbx
   obtain ⟨v3, E3⟩ : ∃ v, Hid (v = f 3) := ⟨_, Lib.hid rfl⟩
   rw [← E3.out] at hbx
   obtain ⟨v4, E4⟩ : ∃ v, Hid (v = f 4) := ⟨_, Lib.hid rfl⟩
   rw [← E4.out] at hbx
   obtain ⟨v5, E5⟩ : ∃ v, Hid (v = f 5) := ⟨_, Lib.hid rfl⟩
   rw [← E5.out] at hbx
   obtain ⟨v6, E6⟩ : ∃ v, Hid (v = f 6) := ⟨_, Lib.hid rfl⟩
   rw [← E6.out] at hbx
   obtain ⟨v7, E7⟩ : ∃ v, Hid (v = f 7) := ⟨_, Lib.hid rfl⟩
   rw [← E7.out] at hbx
   obtain ⟨v8, E8⟩ : ∃ v, Hid (v = f 8) := ⟨_, Lib.hid rfl⟩
   rw [← E8.out] at hbx
   obtain ⟨v9, E9⟩ : ∃ v, Hid (v = f 9) := ⟨_, Lib.hid rfl⟩
   rw [← E9.out] at hbx
   have c0 : wr.cell? ⟨X, 0, none⟩ = some (.int .u64 (v0 : Int)) := by simp [World.cell?, hbx]
   have c1 : wr.cell? ⟨X, 1, none⟩ = some (.int .u64 (v1 : Int)) := by simp [World.cell?, hbx]
   have c2 : wr.cell? ⟨X, 2, none⟩ = some (.int .u64 (v2 : Int)) := by simp [World.cell?, hbx]
   have c3 : wr.cell? ⟨X, 3, none⟩ = some (.int .u64 (v3 : Int)) := by simp [World.cell?, hbx]
   have c4 : wr.cell? ⟨X, 4, none⟩ = some (.int .u64 (v4 : Int)) := by simp [World.cell?, hbx]
   have c5 : wr.cell? ⟨X, 5, none⟩ = some (.int .u64 (v5 : Int)) := by simp [World.cell?, hbx]
   have c6 : wr.cell? ⟨X, 6, none⟩ = some (.int .u64 (v6 : Int)) := by simp [World.cell?, hbx]
   have c7 : wr.cell? ⟨X, 7, none⟩ = some (.int .u64 (v7 : Int)) := by simp [World.cell?, hbx]
   have c8 : wr.cell? ⟨X, 8, none⟩ = some (.int .u64 (v8 : Int)) := by simp [World.cell?, hbx]
   have c9 : wr.cell? ⟨X, 9, none⟩ = some (.int .u64 (v9 : Int)) := by simp [World.cell?, hbx]
   have HD := Lib.hid (fun wx => node_any v0 v1 v2 v3 v4 v5 v6 v7 v8 v9 wx)
   clear hlt j0 hj hO hq hbx
   go_wp2_with fail
   refine (HD.out _).mono ?_
   rintro e w1 ⟨rfl, hg1⟩
   have hz := (hg1.block _ (lt_of_block hbn) (by simp)).trans hbn
   have z0 : w1.cell? ⟨N, 0, none⟩ = some (.int .u64 0) := by simp [World.cell?, hz]
   have z1 : w1.cell? ⟨N, 1, none⟩ = some (.int .u64 0) := by simp [World.cell?, hz]
   have z2 : w1.cell? ⟨N, 2, none⟩ = some (.int .u64 0) := by simp [World.cell?, hz]
   have z3 : w1.cell? ⟨N, 3, none⟩ = some (.int .u64 0) := by simp [World.cell?, hz]
   have z4 : w1.cell? ⟨N, 4, none⟩ = some (.int .u64 0) := by simp [World.cell?, hz]
   have z5 : w1.cell? ⟨N, 5, none⟩ = some (.int .u64 0) := by simp [World.cell?, hz]
   have z6 : w1.cell? ⟨N, 6, none⟩ = some (.int .u64 0) := by simp [World.cell?, hz]
   have z7 : w1.cell? ⟨N, 7, none⟩ = some (.int .u64 0) := by simp [World.cell?, hz]
   have z8 : w1.cell? ⟨N, 8, none⟩ = some (.int .u64 0) := by simp [World.cell?, hz]
   have z9 : w1.cell? ⟨N, 9, none⟩ = some (.int .u64 0) := by simp [World.cell?, hz]
   have y0 : w1.frozen? ⟨N, 0, none⟩ = false := by simp [World.frozen?, hz]
   have y1 : w1.frozen? ⟨N, 1, none⟩ = false := by simp [World.frozen?, hz]
   have y2 : w1.frozen? ⟨N, 2, none⟩ = false := by simp [World.frozen?, hz]
   have y3 : w1.frozen? ⟨N, 3, none⟩ = false := by simp [World.frozen?, hz]
   have y4 : w1.frozen? ⟨N, 4, none⟩ = false := by simp [World.frozen?, hz]
   have y5 : w1.frozen? ⟨N, 5, none⟩ = false := by simp [World.frozen?, hz]
   have y6 : w1.frozen? ⟨N, 6, none⟩ = false := by simp [World.frozen?, hz]
   have y7 : w1.frozen? ⟨N, 7, none⟩ = false := by simp [World.frozen?, hz]
   have y8 : w1.frozen? ⟨N, 8, none⟩ = false := by simp [World.frozen?, hz]
   have y9 : w1.frozen? ⟨N, 9, none⟩ = false := by simp [World.frozen?, hz]
   have hz1 := heap_setCell_at (o := 0) hz (.int .u64 (v0 : Int))
   have hz2 := heap_setCell_at (o := 1) hz1 (.int .u64 (v1 : Int))
   have hz3 := heap_setCell_at (o := 2) hz2 (.int .u64 (v2 : Int))
   have hz4 := heap_setCell_at (o := 3) hz3 (.int .u64 (v3 : Int))
   have hz5 := heap_setCell_at (o := 4) hz4 (.int .u64 (v4 : Int))
   have hz6 := heap_setCell_at (o := 5) hz5 (.int .u64 (v5 : Int))
   have hz7 := heap_setCell_at (o := 6) hz6 (.int .u64 (v6 : Int))
   have hz8 := heap_setCell_at (o := 7) hz7 (.int .u64 (v7 : Int))
   have hz9 := heap_setCell_at (o := 8) hz8 (.int .u64 (v8 : Int))
   have hz10 := heap_setCell_at (o := 9) hz9 (.int .u64 (v9 : Int))
   have g1 : wr.grownBy ((((((((((w1.setCell ⟨N, 0, none⟩ (.int .u64 (v0 : Int))).setCell ⟨N, 1, none⟩ (.int .u64 (v1 : Int))).setCell ⟨N, 2, none⟩ (.int .u64 (v2 : Int))).setCell ⟨N, 3, none⟩ (.int .u64 (v3 : Int))).setCell ⟨N, 4, none⟩ (.int .u64 (v4 : Int))).setCell ⟨N, 5, none⟩ (.int .u64 (v5 : Int))).setCell ⟨N, 6, none⟩ (.int .u64 (v6 : Int))).setCell ⟨N, 7, none⟩ (.int .u64 (v7 : Int))).setCell ⟨N, 8, none⟩ (.int .u64 (v8 : Int))).setCell ⟨N, 9, none⟩ (.int .u64 (v9 : Int))) (some N) := grown_trans (grown_wide hg1) (grown_trans (grown_trans (grown_trans (grown_trans (grown_trans (grown_trans (grown_trans (grown_trans (grown_trans (grown_setCell _ ⟨N, 0, none⟩ _) (grown_setCell _ ⟨N, 1, none⟩ _)) (grown_setCell _ ⟨N, 2, none⟩ _)) (grown_setCell _ ⟨N, 3, none⟩ _)) (grown_setCell _ ⟨N, 4, none⟩ _)) (grown_setCell _ ⟨N, 5, none⟩ _)) (grown_setCell _ ⟨N, 6, none⟩ _)) (grown_setCell _ ⟨N, 7, none⟩ _)) (grown_setCell _ ⟨N, 8, none⟩ _)) (grown_setCell _ ⟨N, 9, none⟩ _))
   obtain ⟨W3, hW3⟩ : ∃ W3, W3 = ((((((((((w1.setCell ⟨N, 0, none⟩ (.int .u64 (v0 : Int))).setCell ⟨N, 1, none⟩ (.int .u64 (v1 : Int))).setCell ⟨N, 2, none⟩ (.int .u64 (v2 : Int))).setCell ⟨N, 3, none⟩ (.int .u64 (v3 : Int))).setCell ⟨N, 4, none⟩ (.int .u64 (v4 : Int))).setCell ⟨N, 5, none⟩ (.int .u64 (v5 : Int))).setCell ⟨N, 6, none⟩ (.int .u64 (v6 : Int))).setCell ⟨N, 7, none⟩ (.int .u64 (v7 : Int))).setCell ⟨N, 8, none⟩ (.int .u64 (v8 : Int))).setCell ⟨N, 9, none⟩ (.int .u64 (v9 : Int))) := ⟨_, rfl⟩
   clear hz1 hz2 hz3 hz4 hz5 hz6 hz7 hz8 hz9 hg1 c0 c1 c2 c3 c4 c5 c6 c7 c8 c9
   go_wp2
   rw [← hW3] at hz10 g1 ⊢
   have Z0 : W3.cell? ⟨N, 0, none⟩ = some (.int .u64 (v0 : Int)) := by simp [World.cell?, hz10]
   have Z1 : W3.cell? ⟨N, 1, none⟩ = some (.int .u64 (v1 : Int)) := by simp [World.cell?, hz10]
   have Z2 : W3.cell? ⟨N, 2, none⟩ = some (.int .u64 (v2 : Int)) := by simp [World.cell?, hz10]
   have Z3 : W3.cell? ⟨N, 3, none⟩ = some (.int .u64 (v3 : Int)) := by simp [World.cell?, hz10]
   have Z4 : W3.cell? ⟨N, 4, none⟩ = some (.int .u64 (v4 : Int)) := by simp [World.cell?, hz10]
   have Z5 : W3.cell? ⟨N, 5, none⟩ = some (.int .u64 (v5 : Int)) := by simp [World.cell?, hz10]
   have Z6 : W3.cell? ⟨N, 6, none⟩ = some (.int .u64 (v6 : Int)) := by simp [World.cell?, hz10]
   have Z7 : W3.cell? ⟨N, 7, none⟩ = some (.int .u64 (v7 : Int)) := by simp [World.cell?, hz10]
   have Z8 : W3.cell? ⟨N, 8, none⟩ = some (.int .u64 (v8 : Int)) := by simp [World.cell?, hz10]
   have Z9 : W3.cell? ⟨N, 9, none⟩ = some (.int .u64 (v9 : Int)) := by simp [World.cell?, hz10]
   exact bodyPost_ret (v := .agg #[.int .u64 (v0 : Int), .int .u64 (v1 : Int), .int .u64 (v2 : Int), .int .u64 (v3 : Int), .int .u64 (v4 : Int), .int .u64 (v5 : Int), .int .u64 (v6 : Int), .int .u64 (v7 : Int), .int .u64 (v8 : Int), .int .u64 (v9 : Int)]) (by simp [results, Tryz.results102, go_sem, Z0, Z1, Z2, Z3, Z4, Z5, Z6, Z7, Z8, Z9]) rfl ⟨by simp only [E0.out, E1.out, E2.out, E3.out, E4.out, E5.out, E6.out, E7.out, E8.out, E9.out], Hq.out _ g1⟩
end Go.Proofs.YtfljlmmiiccooaaGreatDoor
end
