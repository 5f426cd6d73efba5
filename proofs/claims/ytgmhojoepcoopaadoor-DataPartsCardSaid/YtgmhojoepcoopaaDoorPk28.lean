import Derived.Deep.DeepCutAuto
import Derived.Lib.ConvBytes
import Derived.Test.YtgmhojoepcoopaaDoorPk27
set_option maxRecDepth 100000
set_option maxHeartbeats 8000000
section
namespace Go.Proofs.YtgmhojoepcoopaaDoor
open Go.RowKit Go.Grommet
set_option linter.unusedVariables false
theorem enters57 (args : Array Value) (wx : World) : (callFunc 57 args).run Tryd.prog wx = .ok (.enter 57 args) wx := by kernel_rfl
theorem enters30 (args : Array Value) (wx : World) : (callFunc 30 args).run Tryd.prog wx = .ok (.enter 30 args) wx := by kernel_rfl
theorem enters37 (args : Array Value) (wx : World) : (callFunc 37 args).run Tryd.prog wx = .ok (.enter 37 args) wx := by kernel_rfl
theorem box_apart {w0 w : World} {Ps : List Pr} {i j X Y : Nat} {T U : TypeId} {cs ds : Array Value} (h : Grommet.Own w0 w Ps) (hi : Ps[i]? = some (boxP X T cs)) (hj : Ps[j]? = some (boxP Y U ds)) (hne : i ≠ j) : X ≠ Y := by
 obtain ⟨Fs, h1, h2, h3, h4⟩ := h
 intro e
 subst e
 exact h2 i j (List.getElem?_eq_some_iff.1 hi).1 (List.getElem?_eq_some_iff.1 hj).1 hne X (h1 i _ hi).2.1 (h1 j _ hj).2.1
theorem set_mid {Ps Qs : List Pr} (j : Nat) (A : Pr) : (Ps ++ Qs).set (Ps.length + j) A = Ps ++ Qs.set j A := by
 rw [List.set_append_right _ _ (by omega)]
 congr 2; omega
def geoP (G I B : Nat) : Pr := boxP G 26 #[.int .i64 1, .int .i64 (I : Int), .int .i64 (B : Int)]
def intP (N v : Nat) : Pr := boxP N 3 #[.int .i64 (v : Int)]
def beginN (P : Nat → Nat → Nat) (n a m : Nat) : Nat := remA P n (a / 64) (doneN a (a + m))
theorem begin_in {I B n sz : Nat} {f0 : Nat → Nat} {xs : List Nat} {L : List (Nat × Nat)} {P : Nat → Nat → Nat} {c : Nat → UInt8} (F : Fst I B n sz f0 xs L P c) (a m kv g : Nat) (ham : a + m ≤ 768) (w0 w : World) (Ps : List Pr) (h : Grommet.Own w0 w Ps) (hv : Ps[kv]? = some (viewP g xs L)) :
  Calls Tryd.prog 28 #[.pointer (some ⟨g, 0, none⟩), gv ((1 : Nat) : Int) (I : Int) (B : Int), .int .i64 (n : Int), .int .u64 (a : Int), .int .i64 (m : Int)] w fun e w' => ∃ XM, e = .returned (.tuple #[fileV g I B n sz XM, .int .i64 (beginN P n a m : Int), .int .i64 0]) ∧ Grommet.Own w0 w' (Ps ++ [bmP XM g 1 I B n]) := by
 have HOp := Lib.hid (fun wx Qs (hx : Grommet.Own w0 wx (Ps ++ Qs)) => openH F kv g w0 wx (Ps ++ Qs) hx (app_old hv))
 obtain ⟨E, hE⟩ : ∃ E, a + m = E := ⟨_, rfl⟩
 have HPi := Lib.hid (fun (G X N C XM : Nat) (wx : World) (hx : Grommet.Own w0 wx (Ps ++ [geoP G I B, fileP X g I B n sz XM, intP N 0, bmP XM g 1 I B n, intP C 0])) =>
  show Calls Tryd.prog 29 #[.int .u64 (a : Int), .int .u64 (m : Int), .func (.func 57) #[] #[.pointer (some ⟨X, 0, none⟩), .pointer (some ⟨N, 0, none⟩), .pointer (some ⟨C, 0, none⟩)]] wx fun e w' => e = .returned (.int .i64 0) ∧ Grommet.Own w0 w' (Ps ++ [geoP G I B, fileP X g I B n sz XM, intP N (needA P n (a / 64) (doneN a E)), bmP XM g 1 I B n, intP C (chA P n (a / 64) (doneN a E))]) by
   refine (pieces_run 57 enters57 _ a m (by omega) (fun p w' => (p = a ∨ p % 64 = 0 ∨ p = E) ∧ Grommet.Own w0 w' (Ps ++ [geoP G I B, fileP X g I B n sz XM, intP N (needA P n (a / 64) (doneN a p)), bmP XM g 1 I B n, intP C (chA P n (a / 64) (doneN a p))])) (fun _ _ => False) wx ⟨.inl rfl, by rw [doneN_at]; exact hx⟩ (fun p wy hap hpE hR => ?_)).mono ?_
   ·obtain ⟨hp, hO⟩ := hR
    rw [hE] at hpE ⊢
    obtain ⟨d1, d2, d3, d4, _⟩ := doneN_step hap hpE (by rcases hp with e | e | e <;> omega)
    have b1 := needA_le P n (a / 64) (doneN a p)
    have b2 := chA_le P n (a / 64) (doneN a p)
    refine (begin1H F (p / 64) p E _ _ kv (Ps.length + 3) (Ps.length + 1) (Ps.length + 2) (Ps.length + 4) g XM X N C rfl (by omega) (by omega) (by omega) w0 wy _ hO (app_old hv) (app_at 3 rfl) (app_at 1 rfl) (app_at 2 rfl) (app_at 4 rfl) (by omega)).mono ?_
    rintro e w' ⟨rfl, hO'⟩
    refine ⟨0, rfl, fun _ => ⟨by rcases d3 with e | e <;> omega, ?_⟩, fun h => absurd rfl h⟩
    rw [set_mid, set_mid] at hO'
    rw [d1]
    show Grommet.Own w0 w' (Ps ++ [geoP G I B, fileP X g I B n sz XM, intP N (needA P n (a / 64) (doneN a p) + min (needK P n (a / 64 + doneN a p)) 1), bmP XM g 1 I B n, intP C (max (chA P n (a / 64) (doneN a p)) (needK P n (a / 64 + doneN a p) - 1))])
    rw [d2]
    exact hO'
   ·rintro e w' ⟨en, rfl, h0, hne⟩
    by_cases hen : en = 0
    ·subst hen
     have := (h0 rfl).2
     rw [hE] at this
     exact ⟨rfl, this⟩
    ·exact (hne hen).elim)
 have hG := h.addBox 26 #[.int .i64 1, .int .i64 (I : Int), .int .i64 (B : Int)]
 obtain ⟨G, eG⟩ : ∃ G, w.heap.size = G := ⟨_, rfl⟩
 obtain ⟨wg, ewg⟩ : ∃ wg, w.alloc (.cells #[.int .i64 1, .int .i64 (I : Int), .int .i64 (B : Int)] 26) = wg := ⟨_, rfl⟩
 rw [eG, ewg] at hG
 have hX := hG.addBox 76 #[.pointer none, .int .i64 0, .int .i64 0, .int .i64 0, .int .i64 0, .int .u64 0, .pointer none]
 obtain ⟨X, eX⟩ : ∃ X, wg.heap.size = X := ⟨_, rfl⟩
 obtain ⟨wf, ewf⟩ : ∃ wf, wg.alloc (.cells #[.pointer none, .int .i64 0, .int .i64 0, .int .i64 0, .int .i64 0, .int .u64 0, .pointer none] 76) = wf := ⟨_, rfl⟩
 rw [eX, ewf] at hX
 have hN := hX.addBox 3 #[.int .i64 0]
 obtain ⟨N, eN⟩ : ∃ N, wf.heap.size = N := ⟨_, rfl⟩
 obtain ⟨wn, ewn⟩ : ∃ wn, wf.alloc (.cells #[.int .i64 0] 3) = wn := ⟨_, rfl⟩
 rw [eN, ewn, List.append_assoc, List.append_assoc] at hN
 have hO := Lib.hid hN
 clear hN hX hG h F
 unfold gv at *
 obtain ⟨y0, y1, y2⟩ := geo_cells hO.out (app_at 0 rfl)
 generalize hbn : beginN P n a m = bn
 go_enter Tryd.func28, Tryd.ntmps28
 go_wp2_with fail
 all_goals (try rw [ewg]); (try rw [eG]); (try rw [eX]); (try rw [ewf]); (try rw [eN]); (try rw [ewn])
 go_wp2_with fail
 refine (HOp.out _ _ hO.out).mono ?_
 rintro e w1 ⟨XM, rfl, hO1⟩
 rw [List.append_assoc] at hO1
 obtain ⟨⟨z0, z1, z2, z3, z4, z5, z6⟩, q0, q1, q2, q3, q4, q5, q6⟩ := fbox_cells hO1 (app_at 1 rfl)
 obtain ⟨wz, hwz, hOz⟩ := fbox_put (.pointer (some ⟨g, 0, none⟩)) (.int .i64 1) (.int .i64 (I : Int)) (.int .i64 (B : Int)) (.int .i64 (n : Int)) (.int .u64 (sz : Int)) (.pointer (some ⟨XM, 0, none⟩)) hO1 (app_at 1 rfl)
 rw [set_mid] at hOz
 have HOz := Lib.hid (show Grommet.Own w0 wz (Ps ++ [geoP G I B, fileP X g I B n sz XM, intP N 0, bmP XM g 1 I B n]) from hOz)
 clear hO hO1 hOz y0 y1 y2 HOp ewn eN ewf eX ewg eG
 unfold fileV
 go_upto_region 2 with fail
 try rw [hwz]
 clear hwz z0 z1 z2 z3 z4 z5 z6 q0 q1 q2 q3 q4 q5 q6
 have hC := HOz.out.addBox 3 #[.int .i64 0]
 rw [List.append_assoc] at hC
 have HPc := Lib.hid (HPi.out G X N wz.heap.size XM _ hC)
 clear hC HPi HOz
 have k1 : ¬ (768 : Int) < (a : Int) := by omega
 have k2 : (a : Int) ≤ 768 := by omega
 obtain ⟨d, hd⟩ : ∃ d, 768 - a = d := ⟨_, rfl⟩
 have wd : IntKind.u64.wrap (768 - (a : Int)) = (d : Int) := by rw [IntWalk.u64_in _ ⟨by omega, by omega⟩]; omega
 have ed : 768 - (a : Int) = (d : Int) := by omega
 have wd2 : IntKind.u64.wrap (d : Int) = (d : Int) := IntWalk.u64_in _ ⟨by omega, by omega⟩
 have k3 : ¬ (d : Int) < (m : Int) := by omega
 have k4 : (m : Int) ≤ (d : Int) := by omega
 have k5 : ¬ (m : Int) < 0 := by omega
 have k6 : (0 : Int) ≤ (m : Int) := by omega
 by_cases hm0 : 0 < m
 ·have k7 : (0 : Int) < (m : Int) := by omega
  go_wp2_with fail
  refine HPc.out.mono ?_
  rintro e w5 ⟨rfl, hO5⟩
  generalize wz.heap.size = C at hO5 ⊢
  generalize hbA : needA P n (a / 64) (doneN a E) = bA at hO5
  generalize hbC : chA P n (a / 64) (doneN a E) = bC at hO5
  have hnX := box_apart hO5 (app_at 1 rfl) (app_at 2 rfl) (by omega)
  have hnC := box_apart hO5 (app_at 1 rfl) (app_at 4 rfl) (by omega)
  have hNC := box_apart hO5 (app_at 2 rfl) (app_at 4 rfl) (by omega)
  obtain ⟨⟨z0, z1, z2, z3, z4, z5, z6⟩, q0, q1, q2, q3, q4, q5, q6⟩ := fbox_cells hO5 (app_at 1 rfl)
  obtain ⟨n0, n1⟩ := ibox_cell hO5 (app_at 2 rfl)
  obtain ⟨m0, m1⟩ := ibox_cell hO5 (app_at 4 rfl)
  have HO5 := Lib.hid hO5
  clear hO5 HPc
  go_wp2_with fail
  go_region
  obtain ⟨wy, hwy, hOy⟩ := fbox_put (.pointer (some ⟨g, 0, none⟩)) (.int .i64 1) (.int .i64 (I : Int)) (.int .i64 (B : Int)) (.int .i64 (n : Int)) (.int .u64 (sz : Int)) (.pointer (some ⟨XM, 0, none⟩)) HO5.out (app_at 1 rfl)
  rw [set_mid] at hOy
  have hOx := (ibox_put hOy (app_at 2 rfl) (.int .i64 (bn : Int))).quiet (grown_drew (World.grownBy.refl _ none))
  rw [set_mid] at hOx
  have hbs : wrap64 ((bA : Int) + (bC : Int)) = (bn : Int) := by
   have b1 := needA_le P n (a / 64) (doneN a E)
   have b2 := chA_le P n (a / 64) (doneN a E)
   have b3 : doneN a E ≤ 12 := by unfold doneN; split <;> omega
   have e : bA + bC = bn := by rw [← hbA, ← hbC, ← hbn, ← hE]; rfl
   unfold wrap64; omega
  rw [hwy, hbs]
  obtain ⟨wq, hwq⟩ : ∃ wq, (wy.setCell ⟨N, 0, none⟩ (.int .i64 (bn : Int))).drew = wq := ⟨_, rfl⟩
  rw [hwq] at hOx ⊢
  obtain ⟨⟨x0, x1, x2, x3, x4, x5, x6⟩, _⟩ := fbox_cells hOx (app_at 1 rfl)
  obtain ⟨x7, _⟩ := ibox_cell hOx (app_at 2 rfl)
  have HE := Lib.hid (Own.skip (Own.skip (Own.skip hOx)))
  have HE2 := Lib.hid (show Grommet.Own w0 wq (Ps ++ [bmP XM g 1 I B n]) from Own.less (Qs := [intP C bC]) (by rw [List.append_assoc]; exact HE.out))
  clear hOx hOy HO5 HE hwq hwy z0 z1 z2 z3 z4 z5 z6 q0 q1 q2 q3 q4 q5 q6 n0 n1 m0 m1
  go_wp2
  exact bodyPost_ret (v := .tuple #[fileV g I B n sz XM, .int .i64 (bn : Int), .int .i64 0]) (by simp [results, Tryd.results28, go_sem, x0, x1, x2, x3, x4, x5, x6, x7, fileV]) rfl ⟨XM, rfl, HE2.out⟩
 ·obtain rfl : m = 0 := by omega
  go_wp2_with fail
  refine HPc.out.mono ?_
  rintro e w5 ⟨rfl, hO5⟩
  generalize wz.heap.size = C at hO5 ⊢
  generalize hbA : needA P n (a / 64) (doneN a E) = bA at hO5
  generalize hbC : chA P n (a / 64) (doneN a E) = bC at hO5
  have hnX := box_apart hO5 (app_at 1 rfl) (app_at 2 rfl) (by omega)
  have hnC := box_apart hO5 (app_at 1 rfl) (app_at 4 rfl) (by omega)
  have hNC := box_apart hO5 (app_at 2 rfl) (app_at 4 rfl) (by omega)
  obtain ⟨⟨z0, z1, z2, z3, z4, z5, z6⟩, q0, q1, q2, q3, q4, q5, q6⟩ := fbox_cells hO5 (app_at 1 rfl)
  obtain ⟨n0, n1⟩ := ibox_cell hO5 (app_at 2 rfl)
  obtain ⟨m0, m1⟩ := ibox_cell hO5 (app_at 4 rfl)
  have HO5 := Lib.hid hO5
  clear hO5 HPc
  go_wp2_with fail
  go_region
  obtain ⟨wy, hwy, hOy⟩ := fbox_put (.pointer (some ⟨g, 0, none⟩)) (.int .i64 1) (.int .i64 (I : Int)) (.int .i64 (B : Int)) (.int .i64 (n : Int)) (.int .u64 (sz : Int)) (.pointer (some ⟨XM, 0, none⟩)) HO5.out (app_at 1 rfl)
  rw [set_mid] at hOy
  have hOx := (ibox_put hOy (app_at 2 rfl) (.int .i64 (bn : Int))).quiet (grown_drew (World.grownBy.refl _ none))
  rw [set_mid] at hOx
  have hbs : wrap64 ((bA : Int) + (bC : Int)) = (bn : Int) := by
   have b1 := needA_le P n (a / 64) (doneN a E)
   have b2 := chA_le P n (a / 64) (doneN a E)
   have b3 : doneN a E ≤ 12 := by unfold doneN; split <;> omega
   have e : bA + bC = bn := by rw [← hbA, ← hbC, ← hbn, ← hE]; rfl
   unfold wrap64; omega
  rw [hwy, hbs]
  obtain ⟨wq, hwq⟩ : ∃ wq, (wy.setCell ⟨N, 0, none⟩ (.int .i64 (bn : Int))).drew = wq := ⟨_, rfl⟩
  rw [hwq] at hOx ⊢
  obtain ⟨⟨x0, x1, x2, x3, x4, x5, x6⟩, _⟩ := fbox_cells hOx (app_at 1 rfl)
  obtain ⟨x7, _⟩ := ibox_cell hOx (app_at 2 rfl)
  have HE := Lib.hid (Own.skip (Own.skip (Own.skip hOx)))
  have HE2 := Lib.hid (show Grommet.Own w0 wq (Ps ++ [bmP XM g 1 I B n]) from Own.less (Qs := [intP C bC]) (by rw [List.append_assoc]; exact HE.out))
  clear hOx hOy HO5 HE hwq hwy z0 z1 z2 z3 z4 z5 z6 q0 q1 q2 q3 q4 q5 q6 n0 n1 m0 m1
  go_wp2
  exact bodyPost_ret (v := .tuple #[fileV g I B n sz XM, .int .i64 (bn : Int), .int .i64 0]) (by simp [results, Tryd.results28, go_sem, x0, x1, x2, x3, x4, x5, x6, x7, fileV]) rfl ⟨XM, rfl, HE2.out⟩
end Go.Proofs.YtgmhojoepcoopaaDoor
end
section
namespace Go.Proofs.YtgmhojoepcoopaaDoor
open Go.RowKit Go.Grommet
set_option linter.unusedVariables false
theorem begin_out {I B n sz : Nat} {f0 : Nat → Nat} {xs : List Nat} {L : List (Nat × Nat)} {P : Nat → Nat → Nat} {c : Nat → UInt8} (F : Fst I B n sz f0 xs L P c) (a m kv g : Nat) (ham : 768 < a + m) (ha : a ≤ 1000000) (hm : m ≤ 1000000) (w0 w : World) (Ps : List Pr) (h : Grommet.Own w0 w Ps) (hv : Ps[kv]? = some (viewP g xs L)) :
  Calls Tryd.prog 28 #[.pointer (some ⟨g, 0, none⟩), gv ((1 : Nat) : Int) (I : Int) (B : Int), .int .i64 (n : Int), .int .u64 (a : Int), .int .i64 (m : Int)] w fun e w' => ∃ XM, e = .returned (.tuple #[fileV g I B n sz XM, .int .i64 0, .int .i64 8]) ∧ Grommet.Own w0 w' (Ps ++ [bmP XM g 1 I B n]) := by
 have HOp := Lib.hid (fun wx Qs (hx : Grommet.Own w0 wx (Ps ++ Qs)) => openH F kv g w0 wx (Ps ++ Qs) hx (app_old hv))
 have hG := h.addBox 26 #[.int .i64 1, .int .i64 (I : Int), .int .i64 (B : Int)]
 obtain ⟨G, eG⟩ : ∃ G, w.heap.size = G := ⟨_, rfl⟩
 obtain ⟨wg, ewg⟩ : ∃ wg, w.alloc (.cells #[.int .i64 1, .int .i64 (I : Int), .int .i64 (B : Int)] 26) = wg := ⟨_, rfl⟩
 rw [eG, ewg] at hG
 have hX := hG.addBox 76 #[.pointer none, .int .i64 0, .int .i64 0, .int .i64 0, .int .i64 0, .int .u64 0, .pointer none]
 obtain ⟨X, eX⟩ : ∃ X, wg.heap.size = X := ⟨_, rfl⟩
 obtain ⟨wf, ewf⟩ : ∃ wf, wg.alloc (.cells #[.pointer none, .int .i64 0, .int .i64 0, .int .i64 0, .int .i64 0, .int .u64 0, .pointer none] 76) = wf := ⟨_, rfl⟩
 rw [eX, ewf] at hX
 have hN := hX.addBox 3 #[.int .i64 0]
 obtain ⟨N, eN⟩ : ∃ N, wf.heap.size = N := ⟨_, rfl⟩
 obtain ⟨wn, ewn⟩ : ∃ wn, wf.alloc (.cells #[.int .i64 0] 3) = wn := ⟨_, rfl⟩
 rw [eN, ewn, List.append_assoc, List.append_assoc] at hN
 have hO := Lib.hid hN
 clear hN hX hG h F
 unfold gv at *
 obtain ⟨y0, y1, y2⟩ := geo_cells hO.out (app_at 0 rfl)
 go_enter Tryd.func28, Tryd.ntmps28
 go_wp2_with fail
 all_goals (try rw [ewg]); (try rw [eG]); (try rw [eX]); (try rw [ewf]); (try rw [eN]); (try rw [ewn])
 go_wp2_with fail
 refine (HOp.out _ _ hO.out).mono ?_
 rintro e w1 ⟨XM, rfl, hO1⟩
 rw [List.append_assoc] at hO1
 obtain ⟨⟨z0, z1, z2, z3, z4, z5, z6⟩, q0, q1, q2, q3, q4, q5, q6⟩ := fbox_cells hO1 (app_at 1 rfl)
 obtain ⟨wz, hwz, hOz⟩ := fbox_put (.pointer (some ⟨g, 0, none⟩)) (.int .i64 1) (.int .i64 (I : Int)) (.int .i64 (B : Int)) (.int .i64 (n : Int)) (.int .u64 (sz : Int)) (.pointer (some ⟨XM, 0, none⟩)) hO1 (app_at 1 rfl)
 rw [set_mid] at hOz
 have HOz := Lib.hid (show Grommet.Own w0 wz (Ps ++ [geoP G I B, fileP X g I B n sz XM, intP N 0, bmP XM g 1 I B n]) from hOz)
 clear hO hO1 hOz y0 y1 y2 HOp ewn eN ewf eX ewg eG
 unfold fileV
 go_upto_region 2 with fail
 try rw [hwz]
 clear hwz z0 z1 z2 z3 z4 z5 z6 q0 q1 q2 q3 q4 q5 q6
 obtain ⟨⟨z0, z1, z2, z3, z4, z5, z6⟩, q0, q1, q2, q3, q4, q5, q6⟩ := fbox_cells HOz.out (app_at 1 rfl)
 obtain ⟨n0, n1⟩ := ibox_cell HOz.out (show _ = some (boxP N 3 #[.int .i64 0]) from app_at 2 rfl)
 obtain ⟨wy, hwy, hOy⟩ := fbox_put (.pointer (some ⟨g, 0, none⟩)) (.int .i64 1) (.int .i64 (I : Int)) (.int .i64 (B : Int)) (.int .i64 (n : Int)) (.int .u64 (sz : Int)) (.pointer (some ⟨XM, 0, none⟩)) HOz.out (app_at 1 rfl)
 rw [set_mid] at hOy
 have hOx := ibox_put hOy (app_at 2 rfl) (.int .i64 0)
 rw [set_mid] at hOx
 have n2 := ibox_cell hOy (app_at 2 rfl)
 obtain ⟨n3, n4⟩ := n2
 obtain ⟨⟨x0, x1, x2, x3, x4, x5, x6⟩, _⟩ := fbox_cells hOx (app_at 1 rfl)
 obtain ⟨x7, _⟩ := ibox_cell hOx (app_at 2 rfl)
 have HE2 := Lib.hid (Own.skip (Own.skip (Own.skip hOx)))
 clear hOx hOy HOz
 obtain ⟨d, hd⟩ : ∃ d, 768 - a = d := ⟨_, rfl⟩
 by_cases hk : 768 < a
 ·have k1 : (768 : Int) < (a : Int) := by omega
  go_wp2_with fail
  try rw [hwy]
  exact bodyPost_ret (v := .tuple #[fileV g I B n sz XM, .int .i64 0, .int .i64 8]) (by simp [results, Tryd.results28, go_sem, x0, x1, x2, x3, x4, x5, x6, x7, fileV]) rfl ⟨XM, rfl, HE2.out⟩
 ·have k1 : ¬ (768 : Int) < (a : Int) := by omega
  have k2 : (a : Int) ≤ 768 := by omega
  have wd : IntKind.u64.wrap (768 - (a : Int)) = (d : Int) := by rw [IntWalk.u64_in _ ⟨by omega, by omega⟩]; omega
  have ed : 768 - (a : Int) = (d : Int) := by omega
  have wd2 : IntKind.u64.wrap (d : Int) = (d : Int) := IntWalk.u64_in _ ⟨by omega, by omega⟩
  have k3 : (d : Int) < (m : Int) := by omega
  have k7 : (0 : Int) < (m : Int) := by omega
  go_wp2_with fail
  try rw [hwy]
  exact bodyPost_ret (v := .tuple #[fileV g I B n sz XM, .int .i64 0, .int .i64 8]) (by simp [results, Tryd.results28, go_sem, x0, x1, x2, x3, x4, x5, x6, x7, fileV]) rfl ⟨XM, rfl, HE2.out⟩
def needR (P : Nat → Nat → Nat) (n a m : Nat) : Nat := if 768 < a + m then 0 else beginN P n a m
def begE (a m : Nat) : Nat := if 768 < a + m then 8 else 0
theorem beginH {I B n sz : Nat} {f0 : Nat → Nat} {xs : List Nat} {L : List (Nat × Nat)} {P : Nat → Nat → Nat} {c : Nat → UInt8} (F : Fst I B n sz f0 xs L P c) (a m kv g : Nat) (ha : a ≤ 1000000) (hm : m ≤ 1000000) (w0 w : World) (Ps : List Pr) (h : Grommet.Own w0 w Ps) (hv : Ps[kv]? = some (viewP g xs L)) :
  Calls Tryd.prog 28 #[.pointer (some ⟨g, 0, none⟩), gv ((1 : Nat) : Int) (I : Int) (B : Int), .int .i64 (n : Int), .int .u64 (a : Int), .int .i64 (m : Int)] w fun e w' => ∃ XM, e = .returned (.tuple #[fileV g I B n sz XM, .int .i64 (needR P n a m : Int), .int .i64 (begE a m : Int)]) ∧ Grommet.Own w0 w' (Ps ++ [bmP XM g 1 I B n]) := by
 unfold needR begE
 by_cases hk : 768 < a + m
 ·rw [if_pos hk, if_pos hk]; exact begin_out F a m kv g hk ha hm w0 w Ps h hv
 ·rw [if_neg hk, if_neg hk]; exact begin_in F a m kv g (by omega) w0 w Ps h hv
theorem NeedH {I B n sz : Nat} {f0 : Nat → Nat} {xs : List Nat} {L : List (Nat × Nat)} {P : Nat → Nat → Nat} {c : Nat → UInt8} (F : Fst I B n sz f0 xs L P c) (a m kv g : Nat) (ha : a ≤ 1000000) (hm : m ≤ 1000000) (w0 w : World) (Ps : List Pr) (h : Grommet.Own w0 w Ps) (hv : Ps[kv]? = some (viewP g xs L)) :
  Calls Tryd.prog 20 #[.pointer (some ⟨g, 0, none⟩), gv ((1 : Nat) : Int) (I : Int) (B : Int), .int .i64 (n : Int), .int .u64 (a : Int), .int .i64 (m : Int)] w fun e w' => e = .returned (.int .i64 (needR P n a m : Int)) ∧ Grommet.Own w0 w' Ps := by
 have HB := Lib.hid (fun wx Qs (hx : Grommet.Own w0 wx (Ps ++ Qs)) => beginH F a m kv g ha hm w0 wx (Ps ++ Qs) hx (app_old hv))
 have hE : begE a m = 0 ∨ (begE a m = 8 ∧ needR P n a m = 0) := by
  unfold begE needR
  by_cases hk : 768 < a + m
  ·rw [if_pos hk, if_pos hk]; exact .inr ⟨rfl, rfl⟩
  ·rw [if_neg hk]; exact .inl rfl
 generalize begE a m = en at HB hE
 generalize needR P n a m = nd at HB hE ⊢
 have hG := h.addBox 26 #[.int .i64 1, .int .i64 (I : Int), .int .i64 (B : Int)]
 obtain ⟨G, eG⟩ : ∃ G, w.heap.size = G := ⟨_, rfl⟩
 obtain ⟨wg, ewg⟩ : ∃ wg, w.alloc (.cells #[.int .i64 1, .int .i64 (I : Int), .int .i64 (B : Int)] 26) = wg := ⟨_, rfl⟩
 rw [eG, ewg] at hG
 have hO := Lib.hid hG
 clear hG h F
 unfold gv at *
 unfold fileV at HB
 obtain ⟨y0, y1, y2⟩ := geo_cells hO.out (app_at 0 rfl)
 go_enter Tryd.func20, Tryd.ntmps20
 go_wp2_with fail
 all_goals (try rw [ewg]); (try rw [eG])
 go_wp2_with fail
 refine (HB.out _ _ hO.out).mono ?_
 rintro e w1 ⟨XM, rfl, hO1⟩
 have HE := Lib.hid hO1.less.less
 clear hO hO1 HB y0 y1 y2 ewg eG
 rcases hE with rfl | ⟨rfl, rfl⟩
 ·go_wp2_with fail
  go_ret
  exact ⟨rfl, HE.out.quiet (World.grownBy_alloc _ _ none)⟩
 ·go_wp2_with fail
  go_ret
  exact ⟨rfl, HE.out.quiet (World.grownBy_alloc _ _ none)⟩
end Go.Proofs.YtgmhojoepcoopaaDoor
end
section
namespace Go.Grommet
open Go.RowKit
theorem slice_from_lit2 {P : Program} (T e : TypeId) (hT : P.underlying T = some (.slice e)) (hsz : ∀ w, (sizeOf e).run P w = .ok 1 w) (q o len cap k : Nat) (h : k ≤ len) (hc : len ≤ cap) : ∃ x, (k < cap → x = o + k) ∧ ∀ w, (Instr.slice T (.slice (some ⟨q, o, none⟩) len cap) (some (.int .i64 (k : Int))) none none).run P w = .ok (.slice (some ⟨q, x, none⟩) (len - k) (cap - k)) w := by
 by_cases hk : k < cap
 ·exact ⟨o + k, fun _ => rfl, fun w => slice_lit T e hT hsz q o len cap k h hk w⟩
 ·refine ⟨o, fun h => absurd h hk, fun w => ?_⟩
  have he := elem_of hT
  have ht : P.underlying T = some (.slice (P.elem T)) := by rw [he]; exact hT
  rw [run_slice_l (a := some ⟨q, o, none⟩) (ht := ht) (h0 := by omega) (h1 := by omega), he, hsz]
  have : cap = k := by omega
  simp [Result.andThen, sliced, this]
end Go.Grommet
namespace Go.Proofs.YtgmhojoepcoopaaDoor
open Go.RowKit Go.Grommet
set_option linter.unusedVariables false
def txtP (q : Nat) (cs : Array Value) : Pr where
 holds w F := w.heap[q]? = some (.cells cs 5 (cs.size, cs.size + 1)) ∧ F q ∧ ∀ i, F i → i < w.heap.size
 turn := fun h ht hn => ⟨ht.obj h.1 (hn _ h.2.1), h.2.1, fun i hi => Nat.lt_of_lt_of_le (h.2.2 i hi) ht.size⟩
 old := fun h => h.2.2
theorem txt_at {w0 w : World} {Ps : List Pr} (h : Grommet.Own w0 w Ps) (k : Nat) {q : Nat} {cs : Array Value} (hk : Ps[k]? = some (txtP q cs)) (bs : List UInt8) (hcs : ∀ j, j < bs.length → cs[j]? = some (bv (bs.getD j 0))) (o m : Nat) : At w (some ⟨q, o, none⟩) (((bs.drop o).take m).map bv) := by
 obtain ⟨F, hF⟩ := h.get k hk
 intro j u hu
 rw [List.getElem?_map, List.getElem?_take] at hu
 split at hu
 ·rw [List.getElem?_drop] at hu
  by_cases hj : o + j < bs.length
  ·refine ⟨q, o, rfl, ?_⟩
   rw [List.getElem?_eq_getElem hj] at hu
   have := hcs (o + j) hj
   rw [List.getD_eq_getElem?_getD, List.getElem?_eq_getElem hj] at this
   show (match w.heap[q]? with | some (.cells cs _ _) => cs[o + j]? | _ => none) = some u
   rw [hF.1]
   exact this.trans hu
  ·rw [List.getElem?_eq_none (by omega)] at hu
   cases hu
 ·cases hu
def bytesP (V q x ln cp : Nat) : Pr := boxP V 48 #[.slice (some ⟨q, x, none⟩) ln cp]
theorem write1H {I B n sz : Nat} {f0 : Nat → Nat} {xs : List Nat} {L : List (Nat × Nat)} {P : Nat → Nat → Nat} {c : Nat → UInt8} (F : Fst I B n sz f0 xs L P c) (hl : L.length ≤ 60) (k p E kv km kf kr ks g XM X V q o ln cp many l : Nat) (bs : List UInt8) (hp : p / 64 = k) (hk : k < 12) (hB : cntB xs L B + needK P n k ≤ B) (w0 w : World) (Ps : List Pr) (h : Grommet.Own w0 w Ps) (hv : Ps[kv]? = some (viewP g xs L)) (hm : Ps[km]? = some (bmP XM g 1 I B n))
  (hf : Ps[kf]? = some (fileP X g I B n sz XM)) (hr : Ps[kr]? = some (bytesP V q o ln cp)) (cs : Array Value) (hs : Ps[ks]? = some (txtP q cs)) (hcs : ∀ j, j < bs.length → cs[j]? = some (bv (bs.getD j 0))) (hbl : bs.length = l)
  (hkm : kv ≠ km) (hkf : kv ≠ kf) (hkr : kv ≠ kr) (hks : kv ≠ ks) (hrs : kr ≠ ks) (hrf : kr ≠ kf) (htab : Lib.TabIs Tryd.prog w0 "math/bits.deBruijn64tab" .u8 tab)
  (hmany : pcTo p E - p % 64 = many) (h0 : 0 < many) (hto : pcTo p E ≤ 64) (hln : many ≤ ln) (hcp : ln ≤ cp) (hol : o + many ≤ l) :
  Calls Tryd.prog 30 #[pieceV p E, .pointer (some ⟨X, 0, none⟩), .pointer (some ⟨V, 0, none⟩)] w fun e w' => e = .returned (.int .i64 0) ∧ ∃ L1 P1 L2 x, Grommet.Own w0 w' ((Ps.set kv (viewP g xs L2)).set kr (bytesP V q x (ln - many) (cp - many))) ∧ (many < cp → x = o + many) ∧ TakeR I B (fun i => i = n) f0 xs L L1 P P1 n k (P1 n k) 0 ∧ P1 n k ≠ 0 ∧ SetR xs L1 L2 (488 + 16 * I + 8 * P1 n k) (p % 64) ((bs.drop o).take many) := by
 have HT := Lib.hid (fun wx Qs (hx : Grommet.Own w0 wx (Ps ++ Qs)) => F.st.take hl (n := n) (k := k) rfl hk hx (app_old hv) (app_old hm) hkm htab)
 have hmay := F.st.may
 have hln2 := F.st.len
 have h1 := F.st.lk.rg n rfl
 have hmN := mayN hmay
 have h64 := F.st.b64
 unfold pieceV
 rw [hp]
 obtain ⟨r, hr'⟩ : ∃ r, p % 64 = r := ⟨_, rfl⟩
 obtain ⟨t, ht⟩ : ∃ t, pcTo p E = t := ⟨_, rfl⟩
 rw [hr', ht] at hmany ⊢
 rw [ht] at hto
 clear hr' ht
 obtain ⟨Y, hY⟩ : ∃ Y, w.heap.size = Y := ⟨_, rfl⟩
 have hO0 := h.addBox 81 #[.int .i64 (k : Int), .int .i64 (r : Int), .int .i64 (t : Int)]
 obtain ⟨wf, hwf⟩ : ∃ wf, w.alloc (.cells #[.int .i64 (k : Int), .int .i64 (r : Int), .int .i64 (t : Int)] 81) = wf := ⟨_, rfl⟩
 rw [hY, hwf] at hO0
 have HO0 := Lib.hid hO0
 obtain ⟨p0, p1, p2⟩ := piece_cells hO0 (app_at 0 rfl)
 obtain ⟨c0, c1, c2, c3, c4, c5, c6⟩ := fileP_cells hO0 (app_old hf)
 have em : (t : Int) - (r : Int) = (many : Int) := by omega
 have wm : IntKind.i64.wrap (many : Int) = (many : Int) := IntWalk.i64_in _ ⟨by omega, by omega⟩
 have hS1 := fun wx => slice_hm_lit (P := Tryd.prog) 48 5 Tryd.underlying48 Tryd.sizeOf5 (some ⟨q, o, none⟩) ln cp many (by omega) h0 wx
 obtain ⟨x, hx, hS2⟩ := slice_from_lit2 (P := Tryd.prog) 48 5 Tryd.underlying48 Tryd.sizeOf5 q o ln cp many hln hcp
 have Hx := Lib.hid hx
 have HV := Lib.hid hv
 have HF := Lib.hid hf
 have HR := Lib.hid hr
 have HS := Lib.hid hs
 have Hcs := Lib.hid hcs
 have HK := Lib.hid (show kv ≠ km ∧ kv ≠ kf ∧ kv ≠ kr ∧ kv ≠ ks ∧ kr ≠ ks ∧ kr ≠ kf from ⟨hkm, hkf, hkr, hks, hrs, hrf⟩)
 have HB := Lib.hid (show 488 + 16 * I + 8 * B = xs.length ∧ 488 + 16 * I + 8 * B ≤ 1000000 ∧ 8 * B ≤ 512 from ⟨hln2.symm, by omega, by omega⟩)
 have HBl := Lib.hid hbl
 have Hol := Lib.hid (show o + many ≤ l ∧ r + many ≤ 64 ∧ L.length ≤ 60 ∧ cntB xs L B + needK P n k ≤ B from ⟨hol, by omega, hl, hB⟩)
 clear h hv hm hf hr hs hcs hO0 F hx htab hkm hkf hkr hks hrs hrf hbl hln2 hl hB hp
 go_enter Tryd.func30, Tryd.ntmps30
 go_wp2_with fail
 try rw [hwf]
 try rw [hY]
 go_wp2_with fail
 refine (HT.out _ _ HO0.out).mono ?_
 rintro e w1 ⟨v, en, L1, P1, rfl, hO1, hT⟩
 rw [set_left HV.out] at hO1
 obtain ⟨hv1, hv0, rfl, hvB⟩ : v = P1 n k ∧ v ≠ 0 ∧ en = 0 ∧ v < B := by
  have hlt := hT.st.lk.lt n k rfl (by omega)
  rcases hT.way with ⟨a1, a2, a3, a4, a5⟩ | ⟨a1, a2, a3, a4, a5⟩ | ⟨a1, a2, a3, a4, a5, a6, _⟩
  ·have := hT.keep k a1
   exact ⟨a2.trans this.symm, by omega, a3, by omega⟩
  ·have := Hol.out; omega
  ·exact ⟨a3, a4, a6, a5⟩
 subst hv1
 have hT1 := Lib.hid hT
 have HO1 := Lib.hid hO1
 have Hv := Lib.hid (show P1 n k ≠ 0 ∧ P1 n k < B from ⟨hv0, hvB⟩)
 clear hO1 hT HT HO0 p0 p1 p2 c0 c1 c2 c3 c4 c5 c6 hwf hY hv0 hvB
 obtain ⟨p0, p1, p2⟩ := piece_cells HO1.out (app_at 0 rfl)
 obtain ⟨c0, c1, c2, c3, c4, c5, c6⟩ := fileP_cells HO1.out (app_old (set_same_at _ _ HF.out HK.out.2.1))
 obtain ⟨b0, b1⟩ := ibox_cell HO1.out (app_old (set_same_at _ _ HR.out HK.out.2.2.1))
 have hO2 := ibox_put HO1.out (app_old (set_same_at _ _ HR.out HK.out.2.2.1)) (.slice (some ⟨q, x, none⟩) (ln - many) (cp - many))
 rw [set_left (set_same_at _ _ HR.out HK.out.2.2.1)] at hO2
 obtain ⟨wb, hwb⟩ : ∃ wb, w1.setCell ⟨V, 0, none⟩ (.slice (some ⟨q, x, none⟩) (ln - many) (cp - many)) = wb := ⟨_, rfl⟩
 rw [hwb] at hO2
 obtain ⟨d0, d1, d2, d3, d4, d5, d6⟩ := fileP_cells hO2 (app_old (set_same_at _ _ (set_same_at _ _ HF.out HK.out.2.1) HK.out.2.2.2.2.2))
 obtain ⟨r0, r1, r2⟩ := piece_cells hO2 (app_at 0 rfl)
 have hn0 : ¬ ((P1 n k : Nat) : Int) = 0 := by have := Hv.out.1; omega
 have HSet := Lib.hid (setBytes kv g I B n sz XM (P1 n k) (488 + 16 * I + 8 * P1 n k) r many many ⟨q, o, none⟩ ((bs.drop o).take many) xs L1 w0 wb _ hO2 (app_old (set_same_at _ _ (set_at _ HV.out) (Ne.symm HK.out.2.2.1))) hmay Hv.out.2 rfl (by have := HB.out; have := Hv.out.2; omega) (by have := HB.out; have := Hv.out.2; omega)
  (by have a := hT1.out.len; have b := needK_le P n k; have := Hol.out; omega) (by rw [List.length_take, List.length_drop, HBl.out]; have := Hol.out; omega) h0 (by have := Hol.out; omega)
  (fun Rs wy hy => txt_at hy ks (by rw [List.append_assoc]; exact app_old (set_same_at _ _ (set_same_at _ _ HS.out HK.out.2.2.2.1) HK.out.2.2.2.2.1)) bs Hcs.out o many))
 unfold fileV at HSet
 generalize hvv : P1 n k = vv at HSet hn0
 clear hO2 HO1
 go_wp2_with fail
 refine HSet.out.mono ?_
 rintro e w5 ⟨L2, rfl, hO5, hR⟩
 rw [set_left (set_same_at _ _ (set_at _ HV.out) (Ne.symm HK.out.2.2.1)), List.set_comm _ _ (Ne.symm HK.out.2.2.1), List.set_set] at hO5
 have HE := Lib.hid hO5.less
 have HR2 := Lib.hid hR
 clear hO5 hR HSet
 go_wp2
 go_ret
 subst hvv
 exact ⟨rfl, L1, P1, L2, x, HE.out, Hx.out, hT1.out, Hv.out.1, HR2.out⟩
end Go.Proofs.YtgmhojoepcoopaaDoor
end
section
namespace Go.Proofs.YtgmhojoepcoopaaDoor
open Go.RowKit Go.Grommet
set_option linter.unusedVariables false
theorem app_at' {Ps Qs : List Pr} {N : Nat} (hN : Ps.length = N) (j : Nat) {Q : Pr} (h : Qs[j]? = some Q) : (Ps ++ Qs)[N + j]? = some Q := by subst hN; exact app_at j h
theorem set_mid' {Ps Qs : List Pr} {N : Nat} (hN : Ps.length = N) (j : Nat) (A : Pr) : (Ps ++ Qs).set (N + j) A = Ps ++ Qs.set j A := by subst hN; exact set_mid j A
structure WInv (I B n sz : Nat) (f0 : Nat → Nat) (xs : List Nat) (L0 : List (Nat × Nat)) (P0 : Nat → Nat → Nat) (c : Nat → UInt8) (a E : Nat) (bs : List UInt8) (L : List (Nat × Nat)) (P : Nat → Nat → Nat) (p : Nat) : Prop where
 f : Fst I B n sz f0 xs L P (fun i => if a ≤ i ∧ i < p then bs.getD (i - a) 0 else c i)
 cnt : cntB xs L B + remA P n (a / 64 + doneN a p) (doneN a E - doneN a p) = cntB xs L0 B + remA P0 n (a / 64) (doneN a E)
 len : L.length + 10 * remA P n (a / 64 + doneN a p) (doneN a E - doneN a p) ≤ L0.length + 10 * remA P0 n (a / 64) (doneN a E) + 8 * doneN a p
 had : ∀ j, a / 64 ≤ j → j < a / 64 + doneN a p → P n j ≠ 0
 kept : ∀ j, j < 12 → (j < a / 64 ∨ a / 64 + doneN a p ≤ j) → P n j = P0 n j
theorem WInv.init {I B n sz : Nat} {f0 : Nat → Nat} {xs : List Nat} {L : List (Nat × Nat)} {P : Nat → Nat → Nat} {c : Nat → UInt8} (F : Fst I B n sz f0 xs L P c) (a E : Nat) (bs : List UInt8) : WInv I B n sz f0 xs L P c a E bs L P a := by
 refine ⟨F.congr (fun i hi => by rw [if_neg (by omega)]), ?_, ?_, fun j h1 h2 => ?_, fun _ _ _ => rfl⟩
 ·rw [doneN_at]; rfl
 ·rw [doneN_at]; exact Nat.le_refl _
 ·rw [doneN_at] at h2; omega
theorem WInv.need {I B n sz : Nat} {f0 : Nat → Nat} {xs : List Nat} {L0 L : List (Nat × Nat)} {P0 P : Nat → Nat → Nat} {c : Nat → UInt8} {a E p : Nat} {bs : List UInt8} (h : WInv I B n sz f0 xs L0 P0 c a E bs L P p) (hap : a ≤ p) (hpE : p < E) (hp : p = a ∨ p % 64 = 0) (hE : E ≤ 768) (hB : cntB xs L0 B + remA P0 n (a / 64) (doneN a E) ≤ B) : cntB xs L B + needK P n (p / 64) ≤ B := by
 obtain ⟨d1, d2, d3, d4, _⟩ := doneN_step hap hpE hp
 have hc := h.cnt
 obtain ⟨t, ht⟩ : ∃ t, doneN a E - doneN a p = t + 1 := ⟨doneN a E - doneN a p - 1, by omega⟩
 have hr := remA_step (P := P) (P' := P) (n := n) (k := p / 64)
 rw [d2, ht] at hc
 have : needK P n (p / 64) ≤ remA P n (p / 64) (t + 1) := by
  unfold remA
  rw [needA_cons, chA_cons]
  have := needK_le P n (p / 64)
  omega
 omega
theorem WInv.step {I B n sz : Nat} {f0 : Nat → Nat} {xs : List Nat} {L0 L L1 L2 : List (Nat × Nat)} {P0 P P1 : Nat → Nat → Nat} {c : Nat → UInt8} {a E p : Nat} {bs : List UInt8} (h : WInv I B n sz f0 xs L0 P0 c a E bs L P p) (hap : a ≤ p) (hpE : p < E) (hp : p = a ∨ p % 64 = 0) (hE : E ≤ 768) (hbs : a + bs.length = E)
  (R : TakeR I B (fun i => i = n) f0 xs L L1 P P1 n (p / 64) (P1 n (p / 64)) 0) (hv : P1 n (p / 64) ≠ 0) (S : SetR xs L1 L2 (488 + 16 * I + 8 * P1 n (p / 64)) (p % 64) ((bs.drop (p - a)).take (pcTo p E - p % 64))) :
  WInv I B n sz f0 xs L0 P0 c a E bs L2 P1 (pcNx p E) := by
 obtain ⟨d1, d2, d3, d4, d5, d6, d7, d8⟩ := doneN_step hap hpE hp
 have hk : p / 64 < 12 := by omega
 obtain ⟨many, hmany⟩ : ∃ many, pcTo p E - p % 64 = many := ⟨_, rfl⟩
 rw [hmany] at S d7
 have hsl : ((bs.drop (p - a)).take many).length = many := by rw [List.length_take, List.length_drop]; omega
 obtain ⟨F2, hc2⟩ := (h.f.took R).setw hk hv rfl S (by rw [hsl]; omega)
 obtain ⟨t, ht⟩ : ∃ t, doneN a E - doneN a p = t + 1 := ⟨doneN a E - doneN a p - 1, by omega⟩
 have hEd : doneN a E = (E - 1) / 64 + 1 - a / 64 := by unfold doneN; rw [if_neg (by omega)]
 have hr := remA_step (P := P) (P' := P1) (n := n) (k := p / 64) t (by omega) (fun j h1 h2 => R.only j h1 h2) R.ch (fun e => by
  intro hz
  have h4 : 4 ≤ p / 64 := by
   unfold needK at e
   split at e
   ·omega
   ·split at e
    ·rename_i hh; exact hh.1
    ·omega
  exact hv (R.st.lk.ch0 n (p / 64) rfl hz h4 hk))
 have hcw : cntB xs L1 B = cntB xs L B + needK P n (p / 64) := by
  rcases R.way with ⟨a1, a2, a3, a4, a5⟩ | ⟨a1, a2, a3, a4, a5⟩ | ⟨a1, a2, a3, a4, a5, a6, a7, a8, _⟩
  ·rw [a4, (needK_zero P n (p / 64)).2 a1]; rfl
  ·omega
  ·exact a8
 have hcnt := h.cnt
 have hlen := h.len
 have hl1 := R.len
 have hl2 := S.len
 rw [d2, ht] at hcnt hlen
 have et : doneN a E - (doneN a p + 1) = t := by omega
 refine ⟨F2.congr (fun i hi => ?_), ?_, ?_, fun j h1 h2 => ?_, fun j h12 hj => ?_⟩
 ·show (if i / 64 = p / 64 ∧ p % 64 ≤ i % 64 ∧ i % 64 < p % 64 + ((bs.drop (p - a)).take many).length then ((bs.drop (p - a)).take many).getD (i % 64 - p % 64) 0 else (if a ≤ i ∧ i < p then bs.getD (i - a) 0 else c i)) = if a ≤ i ∧ i < pcNx p E then bs.getD (i - a) 0 else c i
  rw [hsl]
  by_cases e : i / 64 = p / 64 ∧ p % 64 ≤ i % 64 ∧ i % 64 < p % 64 + many
  ·rw [if_pos e, if_pos (by omega)]
   simp only [List.getD_eq_getElem?_getD]
   rw [List.getElem?_take, if_pos (by omega), List.getElem?_drop]
   congr 2; omega
  ·rw [if_neg e]
   by_cases e2 : a ≤ i ∧ i < p
   ·rw [if_pos e2, if_pos (by omega)]
   ·rw [if_neg e2, if_neg (by omega)]
 ·rw [d1, et, hc2, hcw, show a / 64 + (doneN a p + 1) = p / 64 + 1 by omega]; omega
 ·rw [d1, et, show a / 64 + (doneN a p + 1) = p / 64 + 1 by omega]; omega
 ·rw [d1] at h2
  by_cases e : j = p / 64
  ·rw [e]; exact hv
  ·have := h.had j h1 (by omega)
   rw [R.keep j this]; exact this
 ·rw [d1] at hj
  rw [R.only j (by omega) (by omega)]
  exact h.kept j h12 (by omega)
theorem writePieces {I B n sz : Nat} {f0 : Nat → Nat} {xs : List Nat} {L : List (Nat × Nat)} {P : Nat → Nat → Nat} {c : Nat → UInt8} (F : Fst I B n sz f0 xs L P c) (hl : L.length ≤ 4) (a l cap q kv g G XM X V : Nat) (bs : List UInt8) (cs : Array Value) (hbl : bs.length = l) (hl128 : l ≤ 128) (hal : a + l ≤ 768) (hcap : l ≤ cap) (hcs : ∀ j, j < bs.length → cs[j]? = some (bv (bs.getD j 0))) (hB : cntB xs L B + beginN P n a l ≤ B) (w0 w : World) (Ps : List Pr) (hv : Ps[kv]? = some (viewP g xs L)) (htab : Lib.TabIs Tryd.prog w0 "math/bits.deBruijn64tab" .u8 tab)
  (h : Grommet.Own w0 w (Ps ++ [geoP G I B, bmP XM g 1 I B n, fileP X g I B n sz XM, txtP q cs, bytesP V q 0 l cap])) :
  Calls Tryd.prog 29 #[.int .u64 (a : Int), .int .u64 (l : Int), .func (.func 30) #[] #[.pointer (some ⟨X, 0, none⟩), .pointer (some ⟨V, 0, none⟩)]] w fun e w' => e = .returned (.int .i64 0) ∧ ∃ L' P' x, Grommet.Own w0 w' (Ps.set kv (viewP g xs L') ++ [geoP G I B, bmP XM g 1 I B n, fileP X g I B n sz XM, txtP q cs, bytesP V q x 0 (cap - l)]) ∧ WInv I B n sz f0 xs L P c a (a + l) bs L' P' (a + l) := by
 have hkl := (List.getElem?_eq_some_iff.1 hv).1
 have hlen : ∀ L', (Ps.set kv (viewP g xs L')).length = Ps.length := fun L' => List.length_set
 refine (pieces_run 30 enters30 _ a l (by omega) (fun p w' => (p = a ∨ p % 64 = 0 ∨ p = a + l) ∧ ∃ L' P' x, Grommet.Own w0 w' (Ps.set kv (viewP g xs L') ++ [geoP G I B, bmP XM g 1 I B n, fileP X g I B n sz XM, txtP q cs, bytesP V q x (l - (p - a)) (cap - (p - a))]) ∧ (p - a < l → x = p - a) ∧ WInv I B n sz f0 xs L P c a (a + l) bs L' P' p) (fun _ _ => False) w ⟨.inl rfl, L, P, 0, by rw [set_view hv, Nat.sub_self]; exact h, fun _ => by omega, WInv.init F a (a + l) bs⟩ (fun p wy hap hpE hR => ?_)).mono ?_
 ·obtain ⟨hp, L', P', x, hO, hx, hW⟩ := hR
  have hp' : p = a ∨ p % 64 = 0 := by rcases hp with e | e | e <;> omega
  obtain ⟨d1, d2, d3, d4, d5, d6, d7, d8⟩ := doneN_step hap hpE hp'
  obtain rfl := hx (by omega)
  have hlW := hW.len
  have hr := remA_le P n (a / 64) (doneN a (a + l))
  have hd : doneN a (a + l) ≤ 3 := by unfold doneN; split <;> omega
  have hk : p / 64 < 12 := by omega
  obtain ⟨many, hmany⟩ : ∃ many, pcTo p (a + l) - p % 64 = many := ⟨_, rfl⟩
  refine (write1H hW.f (by omega) (p / 64) p (a + l) kv (Ps.length + 1) (Ps.length + 2) (Ps.length + 4) (Ps.length + 3) g XM X V q (p - a) (l - (p - a)) (cap - (p - a)) many l bs rfl hk (hW.need hap hpE hp' hal hB) w0 wy _ hO (app_old (set_at _ hv)) (app_at' (hlen _) 1 rfl) (app_at' (hlen _) 2 rfl) (app_at' (hlen _) 4 rfl) cs (app_at' (hlen _) 3 rfl) hcs hbl (by omega) (by omega) (by omega) (by omega) (by omega) (by omega) htab hmany (by omega) d5 (by omega) (by omega) (by omega)).mono ?_
  rintro e w' ⟨rfl, L1, P1, L2, x2, hO', hx2, hT, hne, hS⟩
  refine ⟨0, rfl, fun _ => ⟨by rcases d3 with e | e <;> omega, L2, P1, x2, ?_, fun hlt => ?_, hW.step hap hpE hp' hal (by omega) hT hne (by rw [hmany]; exact hS)⟩, fun h => absurd rfl h⟩
  ·rw [set_left (set_at _ hv), List.set_set, set_mid' (hlen _)] at hO'
   rw [show l - (pcNx p (a + l) - a) = l - (p - a) - many by omega, show cap - (pcNx p (a + l) - a) = cap - (p - a) - many by omega]
   exact hO'
  ·rw [hx2 (by omega)]; omega
 ·rintro e w' ⟨en, rfl, h0, hne⟩
  by_cases hen : en = 0
  ·subst hen
   obtain ⟨_, L', P', x, hO, _, hW⟩ := h0 rfl
   rw [show a + l - a = l by omega, Nat.sub_self] at hO
   exact ⟨rfl, L', P', x, hO, hW⟩
  ·exact (hne hen).elim
end Go.Proofs.YtgmhojoepcoopaaDoor
end
section
namespace Go.Proofs.YtgmhojoepcoopaaDoor
open Go.RowKit Go.Grommet
set_option linter.unusedVariables false
def Sized (w0 w' : World) (Ps : List Pr) (kv g : Nat) (xs : List Nat) (L' : List (Nat × Nat)) (n sz E : Nat) : Prop := Grommet.Own w0 w' (Ps.set kv (viewP g xs (if sz < E then setL xs L' ((491 + 16 * n : Nat) : Int) E else L')))
theorem toList_inj {a b : ByteArray} : a.toList = b.toList ↔ a = b := by
 rw [ByteArray.toList_eq, ByteArray.toList_eq]
 constructor
 ·intro h
  have : a.data = b.data := Array.toList_inj.1 h
  cases a; cases b; simp only at this; rw [this]
 ·intro h; rw [h]
theorem write_out {I B n sz : Nat} {f0 : Nat → Nat} {xs : List Nat} {L : List (Nat × Nat)} {P : Nat → Nat → Nat} {c : Nat → UInt8} (F : Fst I B n sz f0 xs L P c) (a m kv g : Nat) (s : ByteArray) (hsz : s.size = m) (hm : m ≤ 1000000) (ha : a ≤ 1000000) (hk : 768 < a + m) (w0 w : World) (Ps : List Pr) (h : Grommet.Own w0 w Ps) (hv : Ps[kv]? = some (viewP g xs L)) :
  Calls Tryd.prog 11 #[.pointer (some ⟨g, 0, none⟩), gv ((1 : Nat) : Int) (I : Int) (B : Int), .int .i64 (n : Int), .int .u64 (a : Int), .string s] w fun e w' => e = .returned (.int .i64 8) ∧ Grommet.Own w0 w' Ps := by
 have HB := Lib.hid (fun wx Qs (hx : Grommet.Own w0 wx (Ps ++ Qs)) => beginH F a m kv g ha hm w0 wx (Ps ++ Qs) hx (app_old hv))
 rw [show needR P n a m = 0 from by unfold needR; rw [if_pos hk], show begE a m = 8 from by unfold begE; rw [if_pos hk]] at HB
 have hG := h.addBox 26 #[.int .i64 1, .int .i64 (I : Int), .int .i64 (B : Int)]
 obtain ⟨G, eG⟩ : ∃ G, w.heap.size = G := ⟨_, rfl⟩
 obtain ⟨wg, ewg⟩ : ∃ wg, w.alloc (.cells #[.int .i64 1, .int .i64 (I : Int), .int .i64 (B : Int)] 26) = wg := ⟨_, rfl⟩
 rw [eG, ewg] at hG
 have hO := Lib.hid hG
 clear hG
 have Hv := Lib.hid hv
 have HF := Lib.hid F
 unfold gv at *
 unfold fileV at HB
 obtain ⟨y0, y1, y2⟩ := geo_cells hO.out (app_at 0 rfl)
 clear h F hv
 go_enter Tryd.func11, Tryd.ntmps11
 go_wp2_with fail
 all_goals (try rw [ewg]); (try rw [eG])
 go_wp2_with fail
 refine (HB.out _ _ hO.out).mono ?_
 rintro e w1 ⟨XM, rfl, hO1⟩
 rw [List.append_assoc] at hO1
 have hO2 := hO1.addBox 76 #[.pointer (some ⟨g, 0, none⟩), .int .i64 1, .int .i64 (I : Int), .int .i64 (B : Int), .int .i64 (n : Int), .int .u64 (sz : Int), .pointer (some ⟨XM, 0, none⟩)]
 obtain ⟨X, eX⟩ : ∃ X, w1.heap.size = X := ⟨_, rfl⟩
 obtain ⟨wf, ewf⟩ : ∃ wf, w1.alloc (.cells #[.pointer (some ⟨g, 0, none⟩), .int .i64 1, .int .i64 (I : Int), .int .i64 (B : Int), .int .i64 (n : Int), .int .u64 (sz : Int), .pointer (some ⟨XM, 0, none⟩)] 76) = wf := ⟨_, rfl⟩
 rw [eX, ewf, List.append_assoc] at hO2
 have HO2 := Lib.hid (show Grommet.Own w0 wf (Ps ++ [geoP G I B, bmP XM g 1 I B n, fileP X g I B n sz XM]) from hO2)
 clear hO1 hO2 hO HB y0 y1 y2 ewg eG
 obtain ⟨y0, y1, y2⟩ := geo_cells HO2.out (show _ = some (boxP G 26 #[.int .i64 1, .int .i64 (I : Int), .int .i64 (B : Int)]) from app_at 0 rfl)
 have HE := Lib.hid HO2.out.less
 clear HO2
 go_wp2_with fail
 go_ret
 exact ⟨rfl, HE.out⟩
theorem write_nil {I B n sz : Nat} {f0 : Nat → Nat} {xs : List Nat} {L : List (Nat × Nat)} {P : Nat → Nat → Nat} {c : Nat → UInt8} (F : Fst I B n sz f0 xs L P c) (a m kv g : Nat) (s : ByteArray) (hsz : s.size = m) (hm : m ≤ 1000000) (ha : a ≤ 1000000) (hk : ¬ 768 < a + m) (hm0 : m = 0) (w0 w : World) (Ps : List Pr) (h : Grommet.Own w0 w Ps) (hv : Ps[kv]? = some (viewP g xs L)) :
  Calls Tryd.prog 11 #[.pointer (some ⟨g, 0, none⟩), gv ((1 : Nat) : Int) (I : Int) (B : Int), .int .i64 (n : Int), .int .u64 (a : Int), .string s] w fun e w' => e = .returned (.int .i64 0) ∧ Grommet.Own w0 w' Ps := by
 have HB := Lib.hid (fun wx Qs (hx : Grommet.Own w0 wx (Ps ++ Qs)) => beginH F a m kv g ha hm w0 wx (Ps ++ Qs) hx (app_old hv))
 rw [show needR P n a m = beginN P n a m from by unfold needR; rw [if_neg hk], show begE a m = 0 from by unfold begE; rw [if_neg hk]] at HB
 have hG := h.addBox 26 #[.int .i64 1, .int .i64 (I : Int), .int .i64 (B : Int)]
 obtain ⟨G, eG⟩ : ∃ G, w.heap.size = G := ⟨_, rfl⟩
 obtain ⟨wg, ewg⟩ : ∃ wg, w.alloc (.cells #[.int .i64 1, .int .i64 (I : Int), .int .i64 (B : Int)] 26) = wg := ⟨_, rfl⟩
 rw [eG, ewg] at hG
 have hO := Lib.hid hG
 clear hG
 have Hv := Lib.hid hv
 have HF := Lib.hid F
 unfold gv at *
 unfold fileV at HB
 obtain ⟨y0, y1, y2⟩ := geo_cells hO.out (app_at 0 rfl)
 subst hm0
 obtain rfl : s = ⟨#[]⟩ := by
  cases s with
  | mk d =>
   have : d.size = 0 := hsz
   rw [Array.eq_empty_of_size_eq_zero this]
 clear h F hv
 go_enter Tryd.func11, Tryd.ntmps11
 go_wp2_with fail
 all_goals (try rw [ewg]); (try rw [eG])
 go_wp2_with fail
 refine (HB.out _ _ hO.out).mono ?_
 rintro e w1 ⟨XM, rfl, hO1⟩
 rw [List.append_assoc] at hO1
 have hO2 := hO1.addBox 76 #[.pointer (some ⟨g, 0, none⟩), .int .i64 1, .int .i64 (I : Int), .int .i64 (B : Int), .int .i64 (n : Int), .int .u64 (sz : Int), .pointer (some ⟨XM, 0, none⟩)]
 obtain ⟨X, eX⟩ : ∃ X, w1.heap.size = X := ⟨_, rfl⟩
 obtain ⟨wf, ewf⟩ : ∃ wf, w1.alloc (.cells #[.pointer (some ⟨g, 0, none⟩), .int .i64 1, .int .i64 (I : Int), .int .i64 (B : Int), .int .i64 (n : Int), .int .u64 (sz : Int), .pointer (some ⟨XM, 0, none⟩)] 76) = wf := ⟨_, rfl⟩
 rw [eX, ewf, List.append_assoc] at hO2
 have HO2 := Lib.hid (show Grommet.Own w0 wf (Ps ++ [geoP G I B, bmP XM g 1 I B n, fileP X g I B n sz XM]) from hO2)
 clear hO1 hO2 hO HB y0 y1 y2 ewg eG
 obtain ⟨y0, y1, y2⟩ := geo_cells HO2.out (show _ = some (boxP G 26 #[.int .i64 1, .int .i64 (I : Int), .int .i64 (B : Int)]) from app_at 0 rfl)
 have HE := Lib.hid HO2.out.less
 clear HO2
 go_wp2_with fail
 go_ret
 exact ⟨rfl, HE.out⟩
theorem write_full {I B n sz : Nat} {f0 : Nat → Nat} {xs : List Nat} {L : List (Nat × Nat)} {P : Nat → Nat → Nat} {c : Nat → UInt8} (F : Fst I B n sz f0 xs L P c) (a m kv g : Nat) (s : ByteArray) (hsz : s.size = m) (hm : m ≤ 1000000) (ha : a ≤ 1000000) (hk : ¬ 768 < a + m) (hm0 : 0 < m) (hfull : B < cntB xs L B + beginN P n a m) (w0 w : World) (Ps : List Pr) (h : Grommet.Own w0 w Ps) (hv : Ps[kv]? = some (viewP g xs L)) :
  Calls Tryd.prog 11 #[.pointer (some ⟨g, 0, none⟩), gv ((1 : Nat) : Int) (I : Int) (B : Int), .int .i64 (n : Int), .int .u64 (a : Int), .string s] w fun e w' => e = .returned (.int .i64 7) ∧ Grommet.Own w0 w' Ps := by
 have HB := Lib.hid (fun wx Qs (hx : Grommet.Own w0 wx (Ps ++ Qs)) => beginH F a m kv g ha hm w0 wx (Ps ++ Qs) hx (app_old hv))
 rw [show needR P n a m = beginN P n a m from by unfold needR; rw [if_neg hk], show begE a m = 0 from by unfold begE; rw [if_neg hk]] at HB
 have hG := h.addBox 26 #[.int .i64 1, .int .i64 (I : Int), .int .i64 (B : Int)]
 obtain ⟨G, eG⟩ : ∃ G, w.heap.size = G := ⟨_, rfl⟩
 obtain ⟨wg, ewg⟩ : ∃ wg, w.alloc (.cells #[.int .i64 1, .int .i64 (I : Int), .int .i64 (B : Int)] 26) = wg := ⟨_, rfl⟩
 rw [eG, ewg] at hG
 have hO := Lib.hid hG
 clear hG
 have Hv := Lib.hid hv
 have HF := Lib.hid F
 unfold gv at *
 unfold fileV at HB
 obtain ⟨y0, y1, y2⟩ := geo_cells hO.out (app_at 0 rfl)
 have hse : ¬ s = ⟨#[]⟩ := fun e => by rw [e] at hsz; have : (0 : Nat) = m := hsz; omega
 have hse1 : s.toList.isEmpty = false := by
  rw [ByteArray.toList_eq]
  have h2 : s.data.toList.length = m := by rw [Array.length_toList]; exact hsz
  cases hd : s.data.toList with
  | nil => rw [hd] at h2; have : (0 : Nat) = m := h2; omega
  | cons x t => rfl
 have hse2 : ¬ s.toList = [] := fun e => by rw [e] at hse1; cases hse1
 have hcl := cntB_le xs L B
 have hmay := F.st.may
 have hln := F.st.len
 have h64 := F.st.b64
 have h1 := F.st.lk.rg n rfl
 have hmN := mayN hmay
 have HNew := Lib.hid (fun wx Qs (hx : Grommet.Own w0 wx (Ps ++ Qs)) => ANewH kv g 1 I B xs L w0 wx (Ps ++ Qs) hx (app_old hv) hmay (by omega) (by omega))
 obtain ⟨fr, hfr⟩ : ∃ fr, B - cntB xs L B = fr := ⟨_, rfl⟩
 have HFree := Lib.hid (fun wx Qs kI kB kA XI XB XA (hx : Grommet.Own w0 wx (Ps ++ Qs)) (h1 : (Ps ++ Qs)[kI]? = some (mapP XI g (264 + 208 * 1) I)) (h2 : (Ps ++ Qs)[kB]? = some (mapP XB g (272 + 208 * 1) B)) (h3 : (Ps ++ Qs)[kA]? = some (allocP XA g 1 I B XI XB)) => FreeH kv kI kB kA g 1 I B XI XB XA xs L _ (fr : Int) w0 wx _ hx ⟨app_old hv, h1, h2, h3, hmay, by omega, by omega⟩ rfl (by rw [← hfr]; unfold cntB at hcl ⊢; omega))
 generalize beginN P n a m = nd at HB hfull
 have kf : (fr : Int) < (nd : Int) := by omega
 clear h F hv
 go_enter Tryd.func11, Tryd.ntmps11
 go_wp2_with fail
 all_goals (try rw [ewg]); (try rw [eG])
 go_wp2_with fail
 refine (HB.out _ _ hO.out).mono ?_
 rintro e w1 ⟨XM, rfl, hO1⟩
 rw [List.append_assoc] at hO1
 have hO2 := hO1.addBox 76 #[.pointer (some ⟨g, 0, none⟩), .int .i64 1, .int .i64 (I : Int), .int .i64 (B : Int), .int .i64 (n : Int), .int .u64 (sz : Int), .pointer (some ⟨XM, 0, none⟩)]
 obtain ⟨X, eX⟩ : ∃ X, w1.heap.size = X := ⟨_, rfl⟩
 obtain ⟨wf, ewf⟩ : ∃ wf, w1.alloc (.cells #[.pointer (some ⟨g, 0, none⟩), .int .i64 1, .int .i64 (I : Int), .int .i64 (B : Int), .int .i64 (n : Int), .int .u64 (sz : Int), .pointer (some ⟨XM, 0, none⟩)] 76) = wf := ⟨_, rfl⟩
 rw [eX, ewf, List.append_assoc] at hO2
 have HO2 := Lib.hid (show Grommet.Own w0 wf (Ps ++ [geoP G I B, bmP XM g 1 I B n, fileP X g I B n sz XM]) from hO2)
 clear hO1 hO2 hO HB y0 y1 y2 ewg eG
 obtain ⟨y0, y1, y2⟩ := geo_cells HO2.out (show _ = some (boxP G 26 #[.int .i64 1, .int .i64 (I : Int), .int .i64 (B : Int)]) from app_at 0 rfl)
 go_wp2_with fail
 refine (HNew.out _ _ HO2.out).mono ?_
 rintro e w2 ⟨Y, XI, XB, XA, rfl, hO3⟩
 rw [List.append_assoc] at hO3
 have HO3 := Lib.hid hO3
 clear HNew HO2 hO3 y0 y1 y2 ewf eX
 go_wp2_with fail
 refine (HFree.out _ _ (Ps.length + 4) (Ps.length + 5) (Ps.length + 6) XI XB XA HO3.out (app_at 4 rfl) (app_at 5 rfl) (app_at 6 rfl)).mono ?_
 rintro e w3 ⟨rfl, hO4⟩
 have HO4 := Lib.hid (show Grommet.Own w0 w3 (Ps ++ [geoP G I B, bmP XM g 1 I B n, fileP X g I B n sz XM]) from Own.less (Qs := [boxP Y 26 (geoCs 1 I B), mapP XI g (264 + 208 * 1) I, mapP XB g (272 + 208 * 1) B, allocP XA g 1 I B XI XB]) (by rw [List.append_assoc]; exact hO4))
 clear HFree HO3 hO4
 have HE := Lib.hid HO4.out.less
 clear HO4
 go_wp2_with fail
 go_ret
 exact ⟨rfl, HE.out⟩
theorem write_ok {I B n sz : Nat} {f0 : Nat → Nat} {xs : List Nat} {L : List (Nat × Nat)} {P : Nat → Nat → Nat} {c : Nat → UInt8} (F : Fst I B n sz f0 xs L P c) (a m kv g : Nat) (s : ByteArray) (hsz : s.size = m) (hm : m ≤ 1000000) (ha : a ≤ 1000000) (hk : ¬ 768 < a + m) (hm0 : 0 < m) (h128 : m ≤ 128) (hl : L.length ≤ 4) (hroom : cntB xs L B + beginN P n a m ≤ B) (w0 w : World) (htab : Lib.TabIs Tryd.prog w0 "math/bits.deBruijn64tab" .u8 tab) (Ps : List Pr) (h : Grommet.Own w0 w Ps) (hv : Ps[kv]? = some (viewP g xs L)) :
  Calls Tryd.prog 11 #[.pointer (some ⟨g, 0, none⟩), gv ((1 : Nat) : Int) (I : Int) (B : Int), .int .i64 (n : Int), .int .u64 (a : Int), .string s] w fun e w' => e = .returned (.int .i64 0) ∧ ∃ L' P', Sized w0 w' Ps kv g xs L' n sz (a + m) ∧ WInv I B n sz f0 xs L P c a (a + m) (bytesOf s) L' P' (a + m) ∧ L'.length < 96 := by
 have HB := Lib.hid (fun wx Qs (hx : Grommet.Own w0 wx (Ps ++ Qs)) => beginH F a m kv g ha hm w0 wx (Ps ++ Qs) hx (app_old hv))
 rw [show needR P n a m = beginN P n a m from by unfold needR; rw [if_neg hk], show begE a m = 0 from by unfold begE; rw [if_neg hk]] at HB
 have hG := h.addBox 26 #[.int .i64 1, .int .i64 (I : Int), .int .i64 (B : Int)]
 obtain ⟨G, eG⟩ : ∃ G, w.heap.size = G := ⟨_, rfl⟩
 obtain ⟨wg, ewg⟩ : ∃ wg, w.alloc (.cells #[.int .i64 1, .int .i64 (I : Int), .int .i64 (B : Int)] 26) = wg := ⟨_, rfl⟩
 rw [eG, ewg] at hG
 have hO := Lib.hid hG
 clear hG
 have Hv := Lib.hid hv
 have HF := Lib.hid F
 unfold gv at *
 unfold fileV at HB
 obtain ⟨y0, y1, y2⟩ := geo_cells hO.out (app_at 0 rfl)
 have hse : ¬ s = ⟨#[]⟩ := fun e => by rw [e] at hsz; have : (0 : Nat) = m := hsz; omega
 have hse1 : s.toList.isEmpty = false := by
  rw [ByteArray.toList_eq]
  have h2 : s.data.toList.length = m := by rw [Array.length_toList]; exact hsz
  cases hd : s.data.toList with
  | nil => rw [hd] at h2; have : (0 : Nat) = m := h2; omega
  | cons x t => rfl
 have hse2 : ¬ s.toList = [] := fun e => by rw [e] at hse1; cases hse1
 have hcl := cntB_le xs L B
 have hmay := F.st.may
 have hln := F.st.len
 have h64 := F.st.b64
 have h1 := F.st.lk.rg n rfl
 have hmN := mayN hmay
 have HNew := Lib.hid (fun wx Qs (hx : Grommet.Own w0 wx (Ps ++ Qs)) => ANewH kv g 1 I B xs L w0 wx (Ps ++ Qs) hx (app_old hv) hmay (by omega) (by omega))
 obtain ⟨fr, hfr⟩ : ∃ fr, B - cntB xs L B = fr := ⟨_, rfl⟩
 have HFree := Lib.hid (fun wx Qs kI kB kA XI XB XA (hx : Grommet.Own w0 wx (Ps ++ Qs)) (h1 : (Ps ++ Qs)[kI]? = some (mapP XI g (264 + 208 * 1) I)) (h2 : (Ps ++ Qs)[kB]? = some (mapP XB g (272 + 208 * 1) B)) (h3 : (Ps ++ Qs)[kA]? = some (allocP XA g 1 I B XI XB)) => FreeH kv kI kB kA g 1 I B XI XB XA xs L _ (fr : Int) w0 wx _ hx ⟨app_old hv, h1, h2, h3, hmay, by omega, by omega⟩ rfl (by rw [← hfr]; unfold cntB at hcl ⊢; omega))
 have hWP := Lib.hid (fun (G XM X V q cap : Nat) (cs : Array Value) (hcap : m ≤ cap) (hcs : ∀ j, j < (bytesOf s).length → cs[j]? = some (bv ((bytesOf s).getD j 0))) (wx : World) (hx : Grommet.Own w0 wx (Ps ++ [geoP G I B, bmP XM g 1 I B n, fileP X g I B n sz XM, txtP q cs, bytesP V q 0 m cap])) =>
  writePieces F hl a m cap q kv g G XM X V (bytesOf s) cs (by rw [length_bytesOf]; exact hsz) h128 (by omega) hcap hcs hroom w0 wx Ps hv htab hx)
 have HRes := Lib.hid (fun L' P' (W : WInv I B n sz f0 xs L P c a (a + m) (bytesOf s) L' P' (a + m)) (v : Nat) (hv8 : v ≤ 768) (X g XM : Nat) (wx : World) (Rs : List Pr) (hx : Grommet.Own w0 wx (Ps.set kv (viewP g xs L') ++ Rs)) (hvg : Ps[kv]? = some (viewP g xs L)) =>
  resizeH W.f (by
   have h1 := W.len
   have h2 := remA_le P n (a / 64) (doneN a (a + m))
   have h3 : doneN a (a + m) ≤ 3 := by unfold doneN; split <;> omega
   omega) v sz kv g XM hv8 w0 wx _ hx (app_old (set_at _ hvg)))
 have hWE := Lib.hid (fun L' P' (W : WInv I B n sz f0 xs L P c a (a + m) (bytesOf s) L' P' (a + m)) => show L'.length < 96 by
   have h1 := W.len
   have h2 := remA_le P n (a / 64) (doneN a (a + m))
   have h3 : doneN a (a + m) ≤ 3 := by unfold doneN; split <;> omega
   omega)
 have Hn : Hid (beginN P n a m ≤ fr) := Lib.hid (by omega)
 generalize beginN P n a m = nd at HB Hn hroom
 have kf : ¬ (fr : Int) < (nd : Int) := by have := Hn.out; omega
 have kf2 : (nd : Int) ≤ (fr : Int) := by have := Hn.out; omega
 obtain ⟨E, hE⟩ : ∃ E, a + m = E := ⟨_, rfl⟩
 rw [hE] at hWP HRes hWE ⊢
 have wE : IntKind.u64.wrap (E : Int) = (E : Int) := IntWalk.u64_in _ ⟨by omega, by omega⟩
 have eE : (a : Int) + (m : Int) = (E : Int) := by omega
 have hE768 : E ≤ 768 := by omega
 clear h F hv
 go_enter Tryd.func11, Tryd.ntmps11
 go_wp2_with fail
 all_goals (try rw [ewg]); (try rw [eG])
 go_wp2_with fail
 refine (HB.out _ _ hO.out).mono ?_
 rintro e w1 ⟨XM, rfl, hO1⟩
 rw [List.append_assoc] at hO1
 have hO2 := hO1.addBox 76 #[.pointer (some ⟨g, 0, none⟩), .int .i64 1, .int .i64 (I : Int), .int .i64 (B : Int), .int .i64 (n : Int), .int .u64 (sz : Int), .pointer (some ⟨XM, 0, none⟩)]
 obtain ⟨X, eX⟩ : ∃ X, w1.heap.size = X := ⟨_, rfl⟩
 obtain ⟨wf, ewf⟩ : ∃ wf, w1.alloc (.cells #[.pointer (some ⟨g, 0, none⟩), .int .i64 1, .int .i64 (I : Int), .int .i64 (B : Int), .int .i64 (n : Int), .int .u64 (sz : Int), .pointer (some ⟨XM, 0, none⟩)] 76) = wf := ⟨_, rfl⟩
 rw [eX, ewf, List.append_assoc] at hO2
 have HO2 := Lib.hid (show Grommet.Own w0 wf (Ps ++ [geoP G I B, bmP XM g 1 I B n, fileP X g I B n sz XM]) from hO2)
 clear hO1 hO2 hO HB y0 y1 y2 ewg eG
 obtain ⟨y0, y1, y2⟩ := geo_cells HO2.out (show _ = some (boxP G 26 #[.int .i64 1, .int .i64 (I : Int), .int .i64 (B : Int)]) from app_at 0 rfl)
 go_wp2_with fail
 refine (HNew.out _ _ HO2.out).mono ?_
 rintro e w2 ⟨Y, XI, XB, XA, rfl, hO3⟩
 rw [List.append_assoc] at hO3
 have HO3 := Lib.hid hO3
 clear HNew HO2 hO3 y0 y1 y2 ewf eX
 go_wp2_with fail
 refine (HFree.out _ _ (Ps.length + 4) (Ps.length + 5) (Ps.length + 6) XI XB XA HO3.out (app_at 4 rfl) (app_at 5 rfl) (app_at 6 rfl)).mono ?_
 rintro e w3 ⟨rfl, hO4⟩
 have HO4 := Lib.hid (show Grommet.Own w0 w3 (Ps ++ [geoP G I B, bmP XM g 1 I B n, fileP X g I B n sz XM]) from Own.less (Qs := [boxP Y 26 (geoCs 1 I B), mapP XI g (264 + 208 * 1) I, mapP XB g (272 + 208 * 1) B, allocP XA g 1 I B XI XB]) (by rw [List.append_assoc]; exact hO4))
 clear HFree HO3 hO4
 have hcv := fun wx : World => Lib.run_convert_string_bytes (P := Tryd.prog) wx 9 48 5 s Tryd.underlying9 Tryd.underlying48 Tryd.underlying5
 obtain ⟨q, eq⟩ : ∃ q, w3.heap.size = q := ⟨_, rfl⟩
 obtain ⟨cap, ecap⟩ : ∃ cap, grownCap w3 m 0 5 = cap := ⟨_, rfl⟩
 obtain ⟨cs, ecs⟩ : ∃ cs, Lib.bytesCells w3 5 s = cs := ⟨_, rfl⟩
 have hO5 : Grommet.Own w0 (Lib.bytesWorld w3 5 s) (Ps ++ [geoP G I B, bmP XM g 1 I B n, fileP X g I B n sz XM] ++ [txtP q cs]) := by
  refine HO4.out.add (P := txtP q cs) (F := fun i => i = q) ⟨?_, rfl, fun i hi => ?_⟩ (fun i hi => ?_) ⟨rfl, rfl, rfl, ?_, fun k hk _ => Lib.bytesWorld_at_old w3 _ s k hk⟩
  ·rw [← eq, ← ecs]; exact Lib.bytesWorld_at_new w3 _ s
  ·rw [hi, Lib.bytesWorld_size, eq]; omega
  ·rw [hi, eq]; exact Nat.le_refl _
  ·rw [Lib.bytesWorld_size]; omega
 have Hcap := Lib.hid (show m ≤ cap by rw [← ecap]; exact grownCap_ge _ _ _ _)
 have Hcs := Lib.hid (show ∀ j, j < (bytesOf s).length → cs[j]? = some (bv ((bytesOf s).getD j 0)) from fun j hj => by
  rw [length_bytesOf] at hj
  have h := Lib.bytesWorld_cell w3 5 s j hj
  rw [← ecs]
  simp only [World.cell?, Lib.bytesWorld_at_new] at h
  exact h)
 have hO6 := hO5.addBox 48 #[.slice (some ⟨q, 0, none⟩) m cap]
 have ebs : (Lib.bytesWorld w3 5 s).heap.size = q + 1 := by rw [Lib.bytesWorld_size, eq]
 rw [ebs, List.append_assoc, List.append_assoc] at hO6
 obtain ⟨wb, ewb⟩ : ∃ wb, (Lib.bytesWorld w3 5 s).alloc (.cells #[.slice (some ⟨q, 0, none⟩) m cap] 48) = wb := ⟨_, rfl⟩
 rw [ewb] at hO6
 obtain ⟨V, eV⟩ : ∃ V, q + 1 = V := ⟨_, rfl⟩
 rw [eV] at hO6 ebs
 have HPc := Lib.hid (hWP.out G XM X V q cap cs Hcap.out Hcs.out wb hO6)
 clear hO5 hO6 HO4 hWP ecs
 go_wp2_with fail
 refine HPc.out.mono ?_
 rintro e w5 ⟨rfl, L', P', x, hO7, hW⟩
 have HO7 := Lib.hid hO7
 have HW := Lib.hid hW
 have hlen : (Ps.set kv (viewP g xs L')).length = Ps.length := List.length_set
 obtain ⟨c0, c1, c2, c3, c4, c5, c6⟩ := fileP_cells hO7 (app_at' hlen 2 rfl)
 clear hO7 hW HPc ewb eV
 by_cases hse : sz < E
 ·have k1 : (sz : Int) < (E : Int) := by omega
  have HRs := Lib.hid (HRes.out L' P' HW.out E hE768 X g XM w5 _ HO7.out Hv.out)
  rw [set_left (set_at _ Hv.out), List.set_set] at HRs
  unfold fileV at HRs
  clear HRes HO7
  go_wp2_with fail
  refine HRs.out.mono ?_
  rintro e w6 ⟨rfl, hO8⟩
  have HE := Lib.hid hO8.less
  clear hO8 HRs c0 c1 c2 c3 c4 c5 c6
  go_wp2
  go_ret
  exact ⟨rfl, L', P', by unfold Sized; rw [if_pos hse]; exact HE.out, HW.out, hWE.out L' P' HW.out⟩
 ·have k1 : ¬ (sz : Int) < (E : Int) := by omega
  have k2 : (E : Int) ≤ (sz : Int) := by omega
  have HE := Lib.hid HO7.out.less
  clear HRes HO7
  go_wp2
  go_ret
  exact ⟨rfl, L', P', by unfold Sized; rw [if_neg hse]; exact HE.out, HW.out, hWE.out L' P' HW.out⟩
end Go.Proofs.YtgmhojoepcoopaaDoor
end
section
namespace Go.Proofs.YtgmhojoepcoopaaDoor
open Go.RowKit Go.Grommet
set_option linter.unusedVariables false
theorem bytes_append {w0 w : World} {Ps : List Pr} (h : Grommet.Own w0 w Ps) (k : Nat) {n cp : Nat} {ad : Option Addr} {xs : List UInt8} (hk : Ps[k]? = some (rowP 5 1 (.slice ad n cp) n (xs.map bv))) (ty : TypeId) (a : Addr) (m c : Nat) (ys : List UInt8) (hl : ys.length = m) (hat : At w (some a) (ys.map bv)) (hnm : n + m ≤ 100000) :
  ∃ ad2 cp2 w', (Builtin.append_ #[48, 48] ty #[.slice ad n cp, .slice (some a) m c]).run Tryd.prog w = .ok (.slice ad2 (n + m) cp2) w' ∧ Grommet.Own w0 w' (Ps.set k (rowP 5 1 (.slice ad2 (n + m) cp2) (n + m) ((xs ++ ys).map bv))) := by
 obtain ⟨i0, hi0, hz0, hz1, hz2⟩ := info_parts infoByte
 have hr := h.row k hk
 obtain ⟨v', w', r1, r2, r3, r4⟩ := run_append_blk (P := Tryd.prog) w 0 48 ty 5 i0 (.int .u8 0) 1 1 Tryd.underlying48 hi0 hz0 hz1 hz2 rfl (by omega) _ n _ hr a m c (ys.map bv) (by rw [List.length_map, hl, Nat.mul_one]) (fun j u hu => hat.some j u hu) (bv_oneCell ys) (by unfold maxLen; omega) (by omega) (Nat.zero_le _)
 obtain ⟨ad2, cp2, rfl, _⟩ := row_slice r2
 rw [← List.map_append] at r2
 exact ⟨ad2, cp2, w', r1, h.grows k hk r2 r3 r4⟩
theorem oper_append {P : Program} {o : Oper} {a : Act} {w w' : World} {K : Act → World → Prop} {Q : Exit → Act → World → Prop} (s x : Operand) (t : TypeId) (ho : o.op = .call { callee := .builtin .append, args := #[s, x], argTypes := #[t, t] }) (v vs vx : Value) (hs : a.eval s = vs) (hx : a.eval x = vx) (hr : (Builtin.append_ #[t, t] o.type #[vs, vx]).run P w = .ok v w') (h : K (a.put o.dst v) w') : Oper.wp P o a w K Q := by
 unfold Oper.wp execOp
 simp only [ho, resolve, invoke, builtin, Sem.run_bind, Sem.run_pure, Result.andThen_ok, List.map_toArray, List.map_cons, List.map_nil, hs, hx, hr]
 exact h
def outP (V n cp : Nat) (ad : Option Addr) : Pr := boxP V 48 #[.slice ad n cp]
def rowB (ad : Option Addr) (n cp : Nat) (xs : List UInt8) : Pr := rowP 5 1 (.slice ad n cp) n (xs.map bv)
def pieceB (f : Nat → Nat) (I : Nat) (P : Nat → Nat → Nat) (n k r t : Nat) : List UInt8 := (((List.range 64).map fun i => byteAt (dw f I P n k (i / 8)) (i % 8)).drop r).take (t - r)
theorem pieceB_none (f : Nat → Nat) (I : Nat) (P : Nat → Nat → Nat) (n k r t : Nat) (h : P n k = 0) : pieceB f I P n k r t = ((List.replicate 64 (0 : UInt8)).drop r).take (t - r) := by
 unfold pieceB
 congr 2
 apply List.ext_getElem
 ·simp
 ·intro i h1 h2
  simp only [List.getElem_map, List.getElem_range, List.getElem_replicate]
  unfold dw
  rw [if_pos h]
  exact byteAt_zero _
theorem pieceB_some (f : Nat → Nat) (I : Nat) (P : Nat → Nat → Nat) (n k r t : Nat) (h : P n k ≠ 0) : pieceB f I P n k r t = ((bytesW f (488 + 16 * I + 8 * P n k)).drop r).take (t - r) := by
 unfold pieceB bytesW
 congr 2
 apply List.map_congr_left
 intro i hi
 unfold dw
 rw [if_neg h]
theorem read1H {I B n sz : Nat} {f0 : Nat → Nat} {xs : List Nat} {L : List (Nat × Nat)} {P : Nat → Nat → Nat} {c : Nat → UInt8} (F : Fst I B n sz f0 xs L P c) (k p E kv km kf kr ks g XM X V L0 cp : Nat) (ad : Option Addr) (acc : List UInt8) (hp : p / 64 = k) (hk : k < 12) (w0 w : World) (Ps : List Pr) (h : Grommet.Own w0 w Ps) (hv : Ps[kv]? = some (viewP g xs L)) (hm : Ps[km]? = some (bmP XM g 1 I B n))
  (hf : Ps[kf]? = some (fileP X g I B n sz XM)) (hr : Ps[kr]? = some (outP V L0 cp ad)) (hs : Ps[ks]? = some (rowB ad L0 cp acc)) (hrs : ks ≠ kr) (hL0 : L0 ≤ 10000) (hrt : p % 64 < pcTo p E) (hto : pcTo p E ≤ 64) :
  Calls Tryd.prog 37 #[pieceV p E, .pointer (some ⟨X, 0, none⟩), .pointer (some ⟨V, 0, none⟩)] w fun e w' => e = .returned (.int .i64 0) ∧ ∃ ad2 cp2, Grommet.Own w0 w' ((Ps.set ks (rowB ad2 (L0 + (pcTo p E - p % 64)) cp2 (acc ++ pieceB (gotV xs L) I P n k (p % 64) (pcTo p E)))).set kr (outP V (L0 + (pcTo p E - p % 64)) cp2 ad2)) := by
 have HAt := Lib.hid (fun wx Qs (hx : Grommet.Own w0 wx (Ps ++ Qs)) => F.st.at_ (n := n) (k := k) rfl hk hx (app_old hv) (app_old hm))
 have hmay := F.st.may
 have hln := F.st.len
 have h1 := F.st.lk.rg n rfl
 have hlt := F.st.lk.lt n k rfl (by omega)
 have hmN := mayN hmay
 have h64 := F.st.b64
 unfold pieceV
 rw [hp]
 obtain ⟨r, hr'⟩ : ∃ r, p % 64 = r := ⟨_, rfl⟩
 obtain ⟨t, ht⟩ : ∃ t, pcTo p E = t := ⟨_, rfl⟩
 rw [hr', ht] at hrt ⊢
 rw [ht] at hto
 clear hr' ht
 obtain ⟨M, hM⟩ : ∃ M, t - r = M := ⟨_, rfl⟩
 rw [hM]
 have Hb := Lib.hid (fun wx Qs (hx : Grommet.Own w0 wx (Ps ++ Qs)) => bytesH' kv g I B n sz XM (P n k) (488 + 16 * I + 8 * P n k) xs L w0 wx (Ps ++ Qs) hx (app_old hv) hmay hlt rfl (by omega) (by omega))
 have HP0 := Lib.hid (pieceB_none (gotV xs L) I P n k r t)
 have HP1 := Lib.hid (pieceB_some (gotV xs L) I P n k r t)
 rw [hM] at HP0 HP1
 obtain ⟨Y, hY⟩ : ∃ Y, w.heap.size = Y := ⟨_, rfl⟩
 have hO0 := h.addBox 81 #[.int .i64 (k : Int), .int .i64 (r : Int), .int .i64 (t : Int)]
 obtain ⟨wf, hwf⟩ : ∃ wf, w.alloc (.cells #[.int .i64 (k : Int), .int .i64 (r : Int), .int .i64 (t : Int)] 81) = wf := ⟨_, rfl⟩
 rw [hY, hwf] at hO0
 have HO0 := Lib.hid hO0
 obtain ⟨p0, p1, p2⟩ := piece_cells hO0 (app_at 0 rfl)
 obtain ⟨c0, c1, c2, c3, c4, c5, c6⟩ := fileP_cells hO0 (app_old hf)
 obtain ⟨Z64, hZ64⟩ : ∃ Z64, Z64 = ((List.replicate 64 (0 : UInt8)).map bv).toArray := ⟨_, rfl⟩
 have hmk : ∀ wx, (Instr.makeSlice 48 (.int .i64 64) (.int .i64 64)).run Tryd.prog wx = .ok (.slice (some ⟨wx.heap.size, 0, none⟩) 64 64) (wx.alloc (.cells Z64 5)) := fun wx => by
  rw [hZ64]; exact made_u8 64 (by omega) wx
 have HZ64 := Lib.hid hZ64
 clear hZ64
 have HF := Lib.hid hf
 have HR := Lib.hid hr
 have HS := Lib.hid hs
 have HK := Lib.hid (show True ∧ ks ≠ kr from ⟨trivial, hrs⟩)
 have hlr : (List.replicate 64 (0 : UInt8)).length = 64 := by simp
 have hlb := length_bytesW (gotV xs L) (488 + 16 * I + 8 * P n k)
 generalize hpb : pieceB (gotV xs L) I P n k r t = PB at HP0 HP1 ⊢
 generalize hbw : bytesW (gotV xs L) (488 + 16 * I + 8 * P n k) = BW at HP1 Hb hlb
 generalize P n k = v at HAt Hb HP0 HP1
 clear h hv hm hf hr hs hO0 F hrs hp hln hlt hpb hbw
 go_enter Tryd.func37, Tryd.ntmps37
 go_wp2_with fail
 try rw [hwf]
 try rw [hY]
 go_wp2_with fail
 refine (HAt.out _ _ HO0.out).mono ?_
 rintro e w1 ⟨rfl, hO1⟩
 have hO2 := hO1.newBytes (e := 5) (n := 64) (bs := List.replicate 64 0) (cs := Z64) HZ64.out hlr (by omega)
 obtain ⟨Z, hZ⟩ : ∃ Z, w1.heap.size = Z := ⟨_, rfl⟩
 obtain ⟨wz, hwz⟩ : ∃ wz, w1.alloc (.cells Z64 5) = wz := ⟨_, rfl⟩
 rw [hZ, hwz, List.append_assoc] at hO2
 have HO2 := Lib.hid hO2
 clear hO1 hO2 HO0 HAt p0 p1 p2 c0 c1 c2 c3 c4 c5 c6 hwf hY
 by_cases hv0 : v = 0
 ·subst hv0
  have hPB := Lib.hid (HP0.out rfl)
  have hOd := Lib.hid (HO2.out.quiet (grown_drew (World.grownBy.refl _ none)))
  have hY0 := Lib.hid (hOd.out.box _ (app_at 0 rfl))
  clear HO2 Hb HP0 HP1
  have hS1 := fun wx => slice_lh_lit (P := Tryd.prog) 48 5 Tryd.underlying48 Tryd.sizeOf5 Z 0 64 64 r t (by omega) (by omega) (by omega) wx
  rw [Nat.zero_add, hM] at hS1
  go_wp2_with fail
  refine wp_region_held_drew (S := fun w' => w'.heap[Y]? = some (.cells #[.int .i64 (k : Int), .int .i64 (r : Int), .int .i64 (t : Int)] 81 (0, 0))) (by kernel_rfl) (hY0.out) (fun hS => ?_)
  refine wpAnyH_take (i := 1) (oi := { dst := some 26, op := Op.move (Operand.tmp 7), type := 48, pos := "data.go:105", after := #[], guard := none }) (v := ?vre37r7o1) rfl (by kernel_rfl) (by kernel_rfl) (by kernel_rfl) (fun _ _ _ h => h) (Or.inl ⟨by rfl, ?hre37r7o1⟩) hS ?_
  case hre37r7o1 => (intro wx hx; skip; go_simp; (try with_reducible rfl))
  try simp only [Act.put, List.setIfInBounds_toArray, List.set_cons_zero, List.set_cons_succ]
  refine wpAnyH_take (i := 2) (oi := { dst := some 27, op := Op.fieldAddr 81 (Operand.tmp 3) 1, type := 0, pos := "data.go:105", after := #[], guard := none }) (v := ?vre37r7o2) rfl (by kernel_rfl) (by kernel_rfl) (by kernel_rfl) (fun _ _ _ h => h) (Or.inl ⟨by rfl, ?hre37r7o2⟩) hS ?_
  case hre37r7o2 => (intro wx hx; skip; go_simp; (try with_reducible rfl))
  try simp only [Act.put, List.setIfInBounds_toArray, List.set_cons_zero, List.set_cons_succ]
  refine wpAnyH_take (i := 3) (oi := { dst := some 28, op := Op.load 3 (Operand.tmp 27), type := 3, pos := "data.go:105", after := #[{ on := 2, ground := Ground.data }], guard := none }) (v := ?vre37r7o3) rfl (by kernel_rfl) (by kernel_rfl) (by kernel_rfl) (fun _ _ _ h => h) (Or.inl ⟨by rfl, ?hre37r7o3⟩) hS ?_
  case hre37r7o3 => (intro wx hx; have p1 : wx.cell? ⟨Y, 1, none⟩ = some (.int .i64 (r : Int)) := (by simp [World.cell?, hx]); have p2 : wx.cell? ⟨Y, 2, none⟩ = some (.int .i64 (t : Int)) := (by simp [World.cell?, hx]); go_simp; (try with_reducible rfl))
  try simp only [Act.put, List.setIfInBounds_toArray, List.set_cons_zero, List.set_cons_succ]
  refine wpAnyH_take (i := 4) (oi := { dst := some 29, op := Op.fieldAddr 81 (Operand.tmp 3) 2, type := 0, pos := "data.go:105", after := #[], guard := none }) (v := ?vre37r7o4) rfl (by kernel_rfl) (by kernel_rfl) (by kernel_rfl) (fun _ _ _ h => h) (Or.inl ⟨by rfl, ?hre37r7o4⟩) hS ?_
  case hre37r7o4 => (intro wx hx; skip; go_simp; (try with_reducible rfl))
  try simp only [Act.put, List.setIfInBounds_toArray, List.set_cons_zero, List.set_cons_succ]
  refine wpAnyH_take (i := 5) (oi := { dst := some 30, op := Op.load 3 (Operand.tmp 29), type := 3, pos := "data.go:105", after := #[{ on := 4, ground := Ground.data }], guard := none }) (v := ?vre37r7o5) rfl (by kernel_rfl) (by kernel_rfl) (by kernel_rfl) (fun _ _ _ h => h) (Or.inl ⟨by rfl, ?hre37r7o5⟩) hS ?_
  case hre37r7o5 => (intro wx hx; have p1 : wx.cell? ⟨Y, 1, none⟩ = some (.int .i64 (r : Int)) := (by simp [World.cell?, hx]); have p2 : wx.cell? ⟨Y, 2, none⟩ = some (.int .i64 (t : Int)) := (by simp [World.cell?, hx]); go_simp; (try with_reducible rfl))
  try simp only [Act.put, List.setIfInBounds_toArray, List.set_cons_zero, List.set_cons_succ]
  refine wpAnyH_take (i := 6) (oi := { dst := some 31, op := Op.slice 48 (Operand.tmp 26) (some (Operand.tmp 28)) (some (Operand.tmp 30)) none, type := 48, pos := "data.go:105", after := #[{ on := 1, ground := Ground.data }, { on := 3, ground := Ground.data }, { on := 5, ground := Ground.data }], guard := none }) (v := ?vre37r7o6) rfl (by kernel_rfl) (by kernel_rfl) (by kernel_rfl) (fun _ _ _ h => h) (Or.inl ⟨by rfl, ?hre37r7o6⟩) hS ?_
  case hre37r7o6 => (intro wx hx; have p1 : wx.cell? ⟨Y, 1, none⟩ = some (.int .i64 (r : Int)) := (by simp [World.cell?, hx]); have p2 : wx.cell? ⟨Y, 2, none⟩ = some (.int .i64 (t : Int)) := (by simp [World.cell?, hx]); go_simp; (try with_reducible rfl))
  try simp only [Act.put, List.setIfInBounds_toArray, List.set_cons_zero, List.set_cons_succ]
  refine wpAnyH_ready (rs := [0]) (by kernel_rfl) (by simp) ?_
  refine AllReadyH.cons (o := { dst := some 25, op := Op.load 48 (Operand.tmp 2), type := 48, pos := "data.go:105", after := #[], guard := none }) rfl (fun K hK => ?_) AllReadyH.nil
  obtain ⟨wd, hwd⟩ : ∃ wd, wz.drew = wd := ⟨_, rfl⟩
  rw [hwd] at hS hOd ⊢
  clear hwd
  obtain ⟨b0, b1⟩ := ibox_cell hOd.out (app_old HR.out)
  go_simp
  refine hK.out _ _ ?hsa (fun hS => ?_)
  case hsa => exact hS
  clear hK K
  try simp only [Act.put, List.setIfInBounds_toArray, List.set_cons_zero, List.set_cons_succ]
  refine wpAnyH_ready (rs := [7]) (by kernel_rfl) (by simp) ?_
  refine AllReadyH.cons (o := { dst := some 32, op := Op.call { callee := Callee.builtin Builtin.append, args := #[Operand.tmp 25, Operand.tmp 31], argTypes := #[48, 48] }, type := 48, pos := "data.go:105", after := #[{ on := 0, ground := Ground.data }, { on := 6, ground := Ground.data }], guard := none }) rfl (fun K hK => ?_) AllReadyH.nil
  obtain ⟨ad2, cp2, wn, hap, hOn0⟩ := bytes_append hOd.out ks (app_old HS.out) 48 ⟨Z, r, none⟩ M (64 - r) (((List.replicate 64 (0 : UInt8)).drop r).take M) (by rw [List.length_take, List.length_drop, hlr]; omega) (Own.partAt hOd.out (Ps.length + 1) (app_at 1 rfl) r M (hlr) (by omega)) (by omega)
  have hOn := Lib.hid hOn0
  clear hOn0 hOd b0 b1
  rw [if_pos (by rfl)]
  refine oper_append _ _ _ rfl _ _ _ rfl rfl hap ?_
  refine hK.out _ _ ?hsb (fun hS => ?_)
  case hsb => (rw [set_left HS.out] at hOn; exact hOn.out.box _ (app_at' List.length_set 0 rfl))
  clear hK K
  try simp only [Act.put, List.setIfInBounds_toArray, List.set_cons_zero, List.set_cons_succ]
  refine wpAnyH_ready (rs := [8]) (by kernel_rfl) (by simp) ?_
  refine AllReadyH.cons (o := { dst := none, op := Op.store 48 (Operand.tmp 2) (Operand.tmp 32), type := 0, pos := "data.go:105", after := #[{ on := 7, ground := Ground.data }, { on := 7, ground := Ground.chain }, { on := 0, ground := Ground.phase }, { on := 1, ground := Ground.phase }, { on := 2, ground := Ground.phase }, { on := 3, ground := Ground.phase }, { on := 4, ground := Ground.phase }, { on := 5, ground := Ground.phase }, { on := 6, ground := Ground.phase }, { on := 7, ground := Ground.phase }], guard := none }) rfl (fun K hK => ?_) AllReadyH.nil
  rw [set_left HS.out] at hOn
  obtain ⟨b0, b1⟩ := ibox_cell hOn.out (app_old (set_same_at _ _ HR.out HK.out.2))
  have hOz := Lib.hid (ibox_put hOn.out (app_old (set_same_at _ _ HR.out HK.out.2)) (.slice ad2 (L0 + M) cp2))
  clear hOn
  go_simp
  refine hK.out _ _ ?hsc (fun hS => ?_)
  case hsc => (rw [set_left (set_same_at _ _ HR.out HK.out.2)] at hOz; exact hOz.out.box _ (app_at' (by rw [List.length_set, List.length_set]) 0 rfl))
  clear hK K
  try simp only [Act.put, List.setIfInBounds_toArray, List.set_cons_zero, List.set_cons_succ]
  refine wpAnyH_done (by kernel_rfl) ?_ _
  rw [set_left (set_same_at _ _ HR.out HK.out.2)] at hOz
  have HE := Lib.hid hOz.out.less
  clear hOz hS hap hS1
  go_wp2
  go_ret
  exact ⟨rfl, ad2, cp2, by rw [hPB.out]; exact HE.out⟩
 ·have hn0 : ¬ (v : Int) = 0 := by omega
  have hPB := Lib.hid (HP1.out hv0)
  obtain ⟨c0, c1, c2, c3, c4, c5, c6⟩ := fileP_cells HO2.out (app_old HF.out)
  go_wp2_with fail
  refine (Hb.out _ _ HO2.out).mono ?_
  rintro e w2 ⟨q, rfl, hO3⟩
  rw [List.append_assoc] at hO3
  have hOd := Lib.hid (hO3.quiet (grown_drew (World.grownBy.refl _ none)))
  have hY0 := Lib.hid (hOd.out.box _ (app_at 0 rfl))
  clear HO2 Hb HP0 HP1 hO3 hwz hZ c0 c1 c2 c3 c4 c5 c6
  have hS1 := fun wx => slice_lh_lit (P := Tryd.prog) 48 5 Tryd.underlying48 Tryd.sizeOf5 q 0 64 64 r t (by omega) (by omega) (by omega) wx
  rw [Nat.zero_add, hM] at hS1
  go_wp2_with fail
  refine wp_region_held_drew (S := fun w' => w'.heap[Y]? = some (.cells #[.int .i64 (k : Int), .int .i64 (r : Int), .int .i64 (t : Int)] 81 (0, 0))) (by kernel_rfl) (hY0.out) (fun hS => ?_)
  refine wpAnyH_take (i := 1) (oi := { dst := some 26, op := Op.move (Operand.tmp 7), type := 48, pos := "data.go:105", after := #[], guard := none }) (v := ?vrf37r7o1) rfl (by kernel_rfl) (by kernel_rfl) (by kernel_rfl) (fun _ _ _ h => h) (Or.inl ⟨by rfl, ?hrf37r7o1⟩) hS ?_
  case hrf37r7o1 => (intro wx hx; skip; go_simp; (try with_reducible rfl))
  try simp only [Act.put, List.setIfInBounds_toArray, List.set_cons_zero, List.set_cons_succ]
  refine wpAnyH_take (i := 2) (oi := { dst := some 27, op := Op.fieldAddr 81 (Operand.tmp 3) 1, type := 0, pos := "data.go:105", after := #[], guard := none }) (v := ?vrf37r7o2) rfl (by kernel_rfl) (by kernel_rfl) (by kernel_rfl) (fun _ _ _ h => h) (Or.inl ⟨by rfl, ?hrf37r7o2⟩) hS ?_
  case hrf37r7o2 => (intro wx hx; skip; go_simp; (try with_reducible rfl))
  try simp only [Act.put, List.setIfInBounds_toArray, List.set_cons_zero, List.set_cons_succ]
  refine wpAnyH_take (i := 3) (oi := { dst := some 28, op := Op.load 3 (Operand.tmp 27), type := 3, pos := "data.go:105", after := #[{ on := 2, ground := Ground.data }], guard := none }) (v := ?vrf37r7o3) rfl (by kernel_rfl) (by kernel_rfl) (by kernel_rfl) (fun _ _ _ h => h) (Or.inl ⟨by rfl, ?hrf37r7o3⟩) hS ?_
  case hrf37r7o3 => (intro wx hx; have p1 : wx.cell? ⟨Y, 1, none⟩ = some (.int .i64 (r : Int)) := (by simp [World.cell?, hx]); have p2 : wx.cell? ⟨Y, 2, none⟩ = some (.int .i64 (t : Int)) := (by simp [World.cell?, hx]); go_simp; (try with_reducible rfl))
  try simp only [Act.put, List.setIfInBounds_toArray, List.set_cons_zero, List.set_cons_succ]
  refine wpAnyH_take (i := 4) (oi := { dst := some 29, op := Op.fieldAddr 81 (Operand.tmp 3) 2, type := 0, pos := "data.go:105", after := #[], guard := none }) (v := ?vrf37r7o4) rfl (by kernel_rfl) (by kernel_rfl) (by kernel_rfl) (fun _ _ _ h => h) (Or.inl ⟨by rfl, ?hrf37r7o4⟩) hS ?_
  case hrf37r7o4 => (intro wx hx; skip; go_simp; (try with_reducible rfl))
  try simp only [Act.put, List.setIfInBounds_toArray, List.set_cons_zero, List.set_cons_succ]
  refine wpAnyH_take (i := 5) (oi := { dst := some 30, op := Op.load 3 (Operand.tmp 29), type := 3, pos := "data.go:105", after := #[{ on := 4, ground := Ground.data }], guard := none }) (v := ?vrf37r7o5) rfl (by kernel_rfl) (by kernel_rfl) (by kernel_rfl) (fun _ _ _ h => h) (Or.inl ⟨by rfl, ?hrf37r7o5⟩) hS ?_
  case hrf37r7o5 => (intro wx hx; have p1 : wx.cell? ⟨Y, 1, none⟩ = some (.int .i64 (r : Int)) := (by simp [World.cell?, hx]); have p2 : wx.cell? ⟨Y, 2, none⟩ = some (.int .i64 (t : Int)) := (by simp [World.cell?, hx]); go_simp; (try with_reducible rfl))
  try simp only [Act.put, List.setIfInBounds_toArray, List.set_cons_zero, List.set_cons_succ]
  refine wpAnyH_take (i := 6) (oi := { dst := some 31, op := Op.slice 48 (Operand.tmp 26) (some (Operand.tmp 28)) (some (Operand.tmp 30)) none, type := 48, pos := "data.go:105", after := #[{ on := 1, ground := Ground.data }, { on := 3, ground := Ground.data }, { on := 5, ground := Ground.data }], guard := none }) (v := ?vrf37r7o6) rfl (by kernel_rfl) (by kernel_rfl) (by kernel_rfl) (fun _ _ _ h => h) (Or.inl ⟨by rfl, ?hrf37r7o6⟩) hS ?_
  case hrf37r7o6 => (intro wx hx; have p1 : wx.cell? ⟨Y, 1, none⟩ = some (.int .i64 (r : Int)) := (by simp [World.cell?, hx]); have p2 : wx.cell? ⟨Y, 2, none⟩ = some (.int .i64 (t : Int)) := (by simp [World.cell?, hx]); go_simp; (try with_reducible rfl))
  try simp only [Act.put, List.setIfInBounds_toArray, List.set_cons_zero, List.set_cons_succ]
  refine wpAnyH_ready (rs := [0]) (by kernel_rfl) (by simp) ?_
  refine AllReadyH.cons (o := { dst := some 25, op := Op.load 48 (Operand.tmp 2), type := 48, pos := "data.go:105", after := #[], guard := none }) rfl (fun K hK => ?_) AllReadyH.nil
  obtain ⟨wd, hwd⟩ : ∃ wd, w2.drew = wd := ⟨_, rfl⟩
  rw [hwd] at hS hOd ⊢
  clear hwd
  obtain ⟨b0, b1⟩ := ibox_cell hOd.out (app_old HR.out)
  go_simp
  refine hK.out _ _ ?hsa (fun hS => ?_)
  case hsa => exact hS
  clear hK K
  try simp only [Act.put, List.setIfInBounds_toArray, List.set_cons_zero, List.set_cons_succ]
  refine wpAnyH_ready (rs := [7]) (by kernel_rfl) (by simp) ?_
  refine AllReadyH.cons (o := { dst := some 32, op := Op.call { callee := Callee.builtin Builtin.append, args := #[Operand.tmp 25, Operand.tmp 31], argTypes := #[48, 48] }, type := 48, pos := "data.go:105", after := #[{ on := 0, ground := Ground.data }, { on := 6, ground := Ground.data }], guard := none }) rfl (fun K hK => ?_) AllReadyH.nil
  obtain ⟨ad2, cp2, wn, hap, hOn0⟩ := bytes_append hOd.out ks (app_old HS.out) 48 ⟨q, r, none⟩ M (64 - r) ((BW.drop r).take M) (by rw [List.length_take, List.length_drop, hlb]; omega) (Own.partAt hOd.out (Ps.length + 2) (app_at 2 rfl) r M (hlb) (by omega)) (by omega)
  have hOn := Lib.hid hOn0
  clear hOn0 hOd b0 b1
  rw [if_pos (by rfl)]
  refine oper_append _ _ _ rfl _ _ _ rfl rfl hap ?_
  refine hK.out _ _ ?hsb (fun hS => ?_)
  case hsb => (rw [set_left HS.out] at hOn; exact hOn.out.box _ (app_at' List.length_set 0 rfl))
  clear hK K
  try simp only [Act.put, List.setIfInBounds_toArray, List.set_cons_zero, List.set_cons_succ]
  refine wpAnyH_ready (rs := [8]) (by kernel_rfl) (by simp) ?_
  refine AllReadyH.cons (o := { dst := none, op := Op.store 48 (Operand.tmp 2) (Operand.tmp 32), type := 0, pos := "data.go:105", after := #[{ on := 7, ground := Ground.data }, { on := 7, ground := Ground.chain }, { on := 0, ground := Ground.phase }, { on := 1, ground := Ground.phase }, { on := 2, ground := Ground.phase }, { on := 3, ground := Ground.phase }, { on := 4, ground := Ground.phase }, { on := 5, ground := Ground.phase }, { on := 6, ground := Ground.phase }, { on := 7, ground := Ground.phase }], guard := none }) rfl (fun K hK => ?_) AllReadyH.nil
  rw [set_left HS.out] at hOn
  obtain ⟨b0, b1⟩ := ibox_cell hOn.out (app_old (set_same_at _ _ HR.out HK.out.2))
  have hOz := Lib.hid (ibox_put hOn.out (app_old (set_same_at _ _ HR.out HK.out.2)) (.slice ad2 (L0 + M) cp2))
  clear hOn
  go_simp
  refine hK.out _ _ ?hsc (fun hS => ?_)
  case hsc => (rw [set_left (set_same_at _ _ HR.out HK.out.2)] at hOz; exact hOz.out.box _ (app_at' (by rw [List.length_set, List.length_set]) 0 rfl))
  clear hK K
  try simp only [Act.put, List.setIfInBounds_toArray, List.set_cons_zero, List.set_cons_succ]
  refine wpAnyH_done (by kernel_rfl) ?_ _
  rw [set_left (set_same_at _ _ HR.out HK.out.2)] at hOz
  have HE := Lib.hid hOz.out.less
  clear hOz hS hap hS1
  go_wp2
  go_ret
  exact ⟨rfl, ad2, cp2, by rw [hPB.out]; exact HE.out⟩
end Go.Proofs.YtgmhojoepcoopaaDoor
end
section
namespace Go.Proofs.YtgmhojoepcoopaaDoor
open Go.RowKit Go.Grommet
set_option linter.unusedVariables false
def fileB (c : Nat → UInt8) (a m : Nat) : List UInt8 := (List.range m).map fun i => c (a + i)
theorem length_fileB (c : Nat → UInt8) (a m : Nat) : (fileB c a m).length = m := by simp [fileB]
theorem fileB_add (c : Nat → UInt8) (a m k : Nat) : fileB c a (m + k) = fileB c a m ++ fileB c (a + m) k := by
 unfold fileB
 rw [List.range_add, List.map_append, List.map_map]
 congr 1
 apply List.map_congr_left
 intro i _
 show c (a + (m + i)) = c (a + m + i)
 rw [Nat.add_assoc]
theorem pieceB_c {I B n sz : Nat} {f0 : Nat → Nat} {xs : List Nat} {L : List (Nat × Nat)} {P : Nat → Nat → Nat} {c : Nat → UInt8} (F : Fst I B n sz f0 xs L P c) (p t : Nat) (hp : p < 768) (ht : t ≤ 64) : pieceB (gotV xs L) I P n (p / 64) (p % 64) t = fileB c p (t - p % 64) := by
 unfold pieceB fileB
 apply List.ext_getElem?
 intro i
 by_cases hi : i < t - p % 64
 ·rw [List.getElem?_take, if_pos hi, List.getElem?_drop, List.getElem?_map, List.getElem?_map, List.getElem?_range (by omega), List.getElem?_range hi]
  show some (byteAt (dw (gotV xs L) I P n (p / 64) ((p % 64 + i) / 8)) ((p % 64 + i) % 8)) = some (c (p + i))
  rw [← F.by_ (p + i) (by omega), show (p + i) / 64 = p / 64 by omega, show (p + i) % 64 = p % 64 + i by omega, show (p + i) % 8 = (p % 64 + i) % 8 by omega]
 ·rw [List.getElem?_take, if_neg hi, List.getElem?_eq_none (by simp; omega)]
theorem readPieces {I B n sz : Nat} {f0 : Nat → Nat} {xs : List Nat} {L : List (Nat × Nat)} {P : Nat → Nat → Nat} {c : Nat → UInt8} (F : Fst I B n sz f0 xs L P c) (a m kv g G XM X V : Nat) (hal : a + m ≤ 768) (w0 w : World) (Ps : List Pr) (hv : Ps[kv]? = some (viewP g xs L))
  (h : Grommet.Own w0 w (Ps ++ [geoP G I B, bmP XM g 1 I B n, fileP X g I B n sz XM, rowB none 0 0 [], outP V 0 0 none])) :
  Calls Tryd.prog 29 #[.int .u64 (a : Int), .int .u64 (m : Int), .func (.func 37) #[] #[.pointer (some ⟨X, 0, none⟩), .pointer (some ⟨V, 0, none⟩)]] w fun e w' => e = .returned (.int .i64 0) ∧ ∃ ad cp, Grommet.Own w0 w' (Ps ++ [geoP G I B, bmP XM g 1 I B n, fileP X g I B n sz XM, rowB ad m cp (fileB c a m), outP V m cp ad]) := by
 refine (pieces_run 37 enters37 _ a m (by omega) (fun p w' => (p = a ∨ p % 64 = 0 ∨ p = a + m) ∧ ∃ ad cp, Grommet.Own w0 w' (Ps ++ [geoP G I B, bmP XM g 1 I B n, fileP X g I B n sz XM, rowB ad (p - a) cp (fileB c a (p - a)), outP V (p - a) cp ad])) (fun _ _ => False) w ⟨.inl rfl, none, 0, by rw [Nat.sub_self]; exact h⟩ (fun p wy hap hpE hR => ?_)).mono ?_
 ·obtain ⟨hp, ad, cp, hO⟩ := hR
  obtain ⟨d1, d2, d3, d4, d5, d6, d7, d8⟩ := doneN_step hap hpE (by rcases hp with e | e | e <;> omega)
  refine (read1H F (p / 64) p (a + m) kv (Ps.length + 1) (Ps.length + 2) (Ps.length + 4) (Ps.length + 3) g XM X V (p - a) cp ad _ rfl (by omega) w0 wy _ hO (app_old hv) (app_at 1 rfl) (app_at 2 rfl) (app_at 4 rfl) (app_at 3 rfl) (by omega) (by omega) d6 d5).mono ?_
  rintro e w' ⟨rfl, ad2, cp2, hO'⟩
  refine ⟨0, rfl, fun _ => ⟨by rcases d3 with e | e <;> omega, ad2, cp2, ?_⟩, fun h => absurd rfl h⟩
  rw [set_mid, set_mid, pieceB_c F p _ (by omega) d5] at hO'
  have e := fileB_add c a (p - a) (pcTo p (a + m) - p % 64)
  rw [show a + (p - a) = p by omega] at e
  rw [← e] at hO'
  rw [show pcNx p (a + m) - a = p - a + (pcTo p (a + m) - p % 64) by omega]
  exact hO'
 ·rintro e w' ⟨en, rfl, h0, hne⟩
  by_cases hen : en = 0
  ·subst hen
   obtain ⟨_, ad, cp, hO⟩ := h0 rfl
   rw [show a + m - a = m by omega] at hO
   exact ⟨rfl, ad, cp, hO⟩
  ·exact (hne hen).elim
theorem ReadH {I B n sz : Nat} {f0 : Nat → Nat} {xs : List Nat} {L : List (Nat × Nat)} {P : Nat → Nat → Nat} {c : Nat → UInt8} (F : Fst I B n sz f0 xs L P c) (a q m kv g : Nat) (ha : a < 1000000) (hq : q < 18446744073709551616) (hm : min q (sz - a) = m) (w0 w : World) (Ps : List Pr) (h : Grommet.Own w0 w Ps) (hv : Ps[kv]? = some (viewP g xs L)) :
  Calls Tryd.prog 14 #[.pointer (some ⟨g, 0, none⟩), gv ((1 : Nat) : Int) (I : Int) (B : Int), .int .i64 (n : Int), .int .u64 (a : Int), .int .u64 (q : Int)] w fun e w' => e = .returned (.tuple #[.string (str (fileB c a m)), .int .i64 0]) ∧ Grommet.Own w0 w' Ps := by
 have hsz := F.size_le
 have HOp := Lib.hid (fun wx Qs (hx : Grommet.Own w0 wx (Ps ++ Qs)) => openH F kv g w0 wx (Ps ++ Qs) hx (app_old hv))
 have HPi := Lib.hid (fun (hlt : a < sz) G X V XM wx hx => readPieces F a m kv g G XM X V (by omega) w0 wx Ps hv hx)
 have hG := h.addBox 26 #[.int .i64 1, .int .i64 (I : Int), .int .i64 (B : Int)]
 obtain ⟨G, eG⟩ : ∃ G, w.heap.size = G := ⟨_, rfl⟩
 obtain ⟨wg, ewg⟩ : ∃ wg, w.alloc (.cells #[.int .i64 1, .int .i64 (I : Int), .int .i64 (B : Int)] 26) = wg := ⟨_, rfl⟩
 rw [eG, ewg] at hG
 have hO := Lib.hid hG
 clear hG h F
 unfold gv at *
 obtain ⟨y0, y1, y2⟩ := geo_cells hO.out (app_at 0 rfl)
 unfold fileV at HOp
 have Hm := Lib.hid hm
 have Hq := Lib.hid hq
 clear hm hq
 go_enter Tryd.func14, Tryd.ntmps14
 go_wp2_with fail
 all_goals (try rw [ewg]); (try rw [eG])
 go_wp2_with fail
 refine (HOp.out _ _ hO.out).mono ?_
 rintro e w1 ⟨XM, rfl, hO1⟩
 rw [List.append_assoc] at hO1
 have hO2 := hO1.addBox 76 #[.pointer (some ⟨g, 0, none⟩), .int .i64 1, .int .i64 (I : Int), .int .i64 (B : Int), .int .i64 (n : Int), .int .u64 (sz : Int), .pointer (some ⟨XM, 0, none⟩)]
 obtain ⟨X, eX⟩ : ∃ X, w1.heap.size = X := ⟨_, rfl⟩
 obtain ⟨wf, ewf⟩ : ∃ wf, w1.alloc (.cells #[.pointer (some ⟨g, 0, none⟩), .int .i64 1, .int .i64 (I : Int), .int .i64 (B : Int), .int .i64 (n : Int), .int .u64 (sz : Int), .pointer (some ⟨XM, 0, none⟩)] 76) = wf := ⟨_, rfl⟩
 rw [eX, ewf, List.append_assoc] at hO2
 have HO2 := Lib.hid (show Grommet.Own w0 wf (Ps ++ [geoP G I B, bmP XM g 1 I B n, fileP X g I B n sz XM]) from hO2)
 obtain ⟨c0, c1, c2, c3, c4, c5, c6⟩ := fileP_cells hO2 (show _ = some (fileP X g I B n sz XM) from app_at 2 rfl)
 clear hO1 hO2 hO HOp y0 y1 y2 ewg eG
 by_cases hlt : a < sz
 ·have k1 : ¬ (sz : Int) ≤ (a : Int) := by omega
  have k2 : (a : Int) < (sz : Int) := by omega
  obtain ⟨d, hd⟩ : ∃ d, sz - a = d := ⟨_, rfl⟩
  have wd : IntKind.u64.wrap ((sz : Int) - (a : Int)) = (d : Int) := by rw [IntWalk.u64_in _ ⟨by omega, by omega⟩]; omega
  have ed : (sz : Int) - (a : Int) = (d : Int) := by omega
  have wd2 : IntKind.u64.wrap (d : Int) = (d : Int) := IntWalk.u64_in _ ⟨by omega, by omega⟩
  have hO3 := (HO2.out.nilRow 5 1).addBox 48 #[.slice none 0 0]
  obtain ⟨V, eV⟩ : ∃ V, wf.heap.size = V := ⟨_, rfl⟩
  obtain ⟨wv, ewv⟩ : ∃ wv, wf.alloc (.cells #[.slice none 0 0] 48) = wv := ⟨_, rfl⟩
  rw [eV, ewv, List.append_assoc, List.append_assoc] at hO3
  have HPc := Lib.hid (HPi.out hlt G X V XM wv hO3)
  obtain ⟨d0, d1, d2, d3, d4, d5, d6⟩ := fileP_cells hO3 (show _ = some (fileP X g I B n sz XM) from app_at 2 rfl)
  clear hO3 HPi HO2
  have hmd : m = min q d := by rw [← Hm.out, hd]
  by_cases hqd : q < d
  ·obtain rfl : m = q := by omega
   have k3 : (m : Int) < (d : Int) := by omega
   clear hmd
   go_wp2_with fail
   refine HPc.out.mono ?_
   rintro e w5 ⟨rfl, ad, cp, hO5⟩
   obtain ⟨v0, v1⟩ := ibox_cell hO5 (app_at 4 rfl)
   obtain ⟨ad', cp', he, hat, hnil, _⟩ := at_of_owns (hO5.row _ (app_at 3 rfl))
   cases he
   have hcv := conv_at (P := Tryd.prog) (w := w5) 48 9 5 Tryd.underlying48 Tryd.underlying5 Tryd.underlying9 (cap := cp) hat (length_fileB c a _) (fun e => (hnil e).1)
   have HE := Lib.hid hO5.less
   clear hO5 HPc ewv eV hat hnil
   go_wp2_with fail
   go_ret2
   exact ⟨rfl, HE.out⟩
  ·obtain rfl : m = d := by omega
   clear hmd
   by_cases hqe : q = m
   ·subst hqe
    go_wp2_with fail
    refine HPc.out.mono ?_
    rintro e w5 ⟨rfl, ad, cp, hO5⟩
    obtain ⟨v0, v1⟩ := ibox_cell hO5 (app_at 4 rfl)
    obtain ⟨ad', cp', he, hat, hnil, _⟩ := at_of_owns (hO5.row _ (app_at 3 rfl))
    cases he
    have hcv := conv_at (P := Tryd.prog) (w := w5) 48 9 5 Tryd.underlying48 Tryd.underlying5 Tryd.underlying9 (cap := cp) hat (length_fileB c a _) (fun e => (hnil e).1)
    have HE := Lib.hid hO5.less
    clear hO5 HPc ewv eV hat hnil
    go_wp2_with fail
    go_ret2
    exact ⟨rfl, HE.out⟩
   ·have k3 : ¬ (q : Int) < (m : Int) := by omega
    have k4 : (m : Int) < (q : Int) := by omega
    go_wp2_with fail
    refine HPc.out.mono ?_
    rintro e w5 ⟨rfl, ad, cp, hO5⟩
    obtain ⟨v0, v1⟩ := ibox_cell hO5 (app_at 4 rfl)
    obtain ⟨ad', cp', he, hat, hnil, _⟩ := at_of_owns (hO5.row _ (app_at 3 rfl))
    cases he
    have hcv := conv_at (P := Tryd.prog) (w := w5) 48 9 5 Tryd.underlying48 Tryd.underlying5 Tryd.underlying9 (cap := cp) hat (length_fileB c a _) (fun e => (hnil e).1)
    have HE := Lib.hid hO5.less
    clear hO5 HPc ewv eV hat hnil
    go_wp2_with fail
    go_ret2
    exact ⟨rfl, HE.out⟩
 ·obtain rfl : m = 0 := by rw [← Hm.out]; omega
  have k1 : (sz : Int) ≤ (a : Int) := by omega
  have HE := Lib.hid HO2.out.less
  clear HO2 HPi
  go_wp2_with fail
  go_ret2
  exact ⟨rfl, HE.out⟩
end Go.Proofs.YtgmhojoepcoopaaDoor
end
section
namespace Go.Proofs.YtgmhojoepcoopaaDoor
open Go.RowKit Go.Grommet
set_option linter.unusedVariables false
theorem cutH {I B n sz : Nat} {f0 : Nat → Nat} {xs : List Nat} {L : List (Nat × Nat)} {P : Nat → Nat → Nat} {c : Nat → UInt8} (F : Fst I B n sz f0 xs L P c) (hl : L.length ≤ 20) (v z kv km g XM : Nat) (hv8 : v ≤ 768) (w0 w : World) (Ps : List Pr) (h : Grommet.Own w0 w Ps) (hv : Ps[kv]? = some (viewP g xs L)) (hm : Ps[km]? = some (bmP XM g 1 I B n)) (hkm : kv ≠ km) (hs : ∀ Q ∈ Ps, Solid Q) :
  Calls Tryd.prog 36 #[fileV g I B n z XM, .int .u64 (v : Int)] w fun e w' => e = .returned (.int .i64 0) ∧ ∃ L' P', Grommet.Own w0 w' (Ps.set kv (viewP g xs L')) ∧ CutF I B n sz f0 xs L L' P' c v := by
 by_cases hr : v % 64 = 0
 ·exact cut_even F hl v z kv km g XM hv8 hr w0 w Ps h hv hm hkm hs
 ·exact cut_odd F hl v z kv km g XM hv8 hr w0 w Ps h hv hm hkm hs
structure ResF (I B n a : Nat) (xs : List Nat) (L' : List (Nat × Nat)) (P P' : Nat → Nat → Nat) (f0' : Nat → Nat) (c : Nat → UInt8) : Prop where
 f : Fst I B n a f0' xs L' P' (fun i => if i < a then c i else 0)
 behind : ∀ k, a ≤ 64 * k → k < 12 → P' n k = 0
def ResP (w0 w' : World) (Ps : List Pr) (kv g I B n a : Nat) (xs : List Nat) (P : Nat → Nat → Nat) (c : Nat → UInt8) : Prop := ∃ L' P' f0', Grommet.Own w0 w' (Ps.set kv (viewP g xs L')) ∧ ResF I B n a xs L' P P' f0' c
theorem Resize_out {I B n sz : Nat} {f0 : Nat → Nat} {xs : List Nat} {L : List (Nat × Nat)} {P : Nat → Nat → Nat} {c : Nat → UInt8} (F : Fst I B n sz f0 xs L P c) (a kv g : Nat) (ha : a < 1000000) (ho : 768 < a) (w0 w : World) (Ps : List Pr) (h : Grommet.Own w0 w Ps) (hv : Ps[kv]? = some (viewP g xs L)) :
  Calls Tryd.prog 13 #[.pointer (some ⟨g, 0, none⟩), gv ((1 : Nat) : Int) (I : Int) (B : Int), .int .i64 (n : Int), .int .u64 (a : Int)] w fun e w' => e = .returned (.int .i64 8) ∧ Grommet.Own w0 w' Ps := by
 have HOp := Lib.hid (fun wx Qs (hx : Grommet.Own w0 wx (Ps ++ Qs)) => openH F kv g w0 wx (Ps ++ Qs) hx (app_old hv))
 have hG := h.addBox 26 #[.int .i64 1, .int .i64 (I : Int), .int .i64 (B : Int)]
 obtain ⟨G, eG⟩ : ∃ G, w.heap.size = G := ⟨_, rfl⟩
 obtain ⟨wg, ewg⟩ : ∃ wg, w.alloc (.cells #[.int .i64 1, .int .i64 (I : Int), .int .i64 (B : Int)] 26) = wg := ⟨_, rfl⟩
 rw [eG, ewg] at hG
 have hO := Lib.hid hG
 clear hG h F
 unfold gv at *
 obtain ⟨y0, y1, y2⟩ := geo_cells hO.out (app_at 0 rfl)
 unfold fileV at HOp
 go_enter Tryd.func13, Tryd.ntmps13
 go_wp2_with fail
 all_goals (try rw [ewg]); (try rw [eG])
 go_wp2_with fail
 refine (HOp.out _ _ hO.out).mono ?_
 rintro e w1 ⟨XM, rfl, hO1⟩
 rw [List.append_assoc] at hO1
 have hO2 := hO1.addBox 76 #[.pointer (some ⟨g, 0, none⟩), .int .i64 1, .int .i64 (I : Int), .int .i64 (B : Int), .int .i64 (n : Int), .int .u64 (sz : Int), .pointer (some ⟨XM, 0, none⟩)]
 obtain ⟨X, eX⟩ : ∃ X, w1.heap.size = X := ⟨_, rfl⟩
 obtain ⟨wf, ewf⟩ : ∃ wf, w1.alloc (.cells #[.pointer (some ⟨g, 0, none⟩), .int .i64 1, .int .i64 (I : Int), .int .i64 (B : Int), .int .i64 (n : Int), .int .u64 (sz : Int), .pointer (some ⟨XM, 0, none⟩)] 76) = wf := ⟨_, rfl⟩
 rw [eX, ewf, List.append_assoc] at hO2
 have HO2 := Lib.hid (show Grommet.Own w0 wf (Ps ++ [geoP G I B, bmP XM g 1 I B n, fileP X g I B n sz XM]) from hO2)
 clear hO1 hO2 hO HOp y0 y1 y2 ewg eG
 have HE := Lib.hid HO2.out.less
 have k1 : (768 : Int) < (a : Int) := by omega
 clear HO2
 go_wp2_with fail
 go_ret
 exact ⟨rfl, HE.out⟩
theorem Resize_in {I B n sz : Nat} {f0 : Nat → Nat} {xs : List Nat} {L : List (Nat × Nat)} {P : Nat → Nat → Nat} {c : Nat → UInt8} (F : Fst I B n sz f0 xs L P c) (a kv g : Nat) (ha : a < 1000000) (ho : a ≤ 768) (hl : L.length ≤ 20) (hz : ∀ i, sz ≤ i → i < 768 → c i = 0) (hb : ∀ k, sz ≤ 64 * k → k < 12 → P n k = 0) (w0 w : World) (Ps : List Pr) (hsol : ∀ Q ∈ Ps, Solid Q) (h : Grommet.Own w0 w Ps) (hv : Ps[kv]? = some (viewP g xs L)) :
  Calls Tryd.prog 13 #[.pointer (some ⟨g, 0, none⟩), gv ((1 : Nat) : Int) (I : Int) (B : Int), .int .i64 (n : Int), .int .u64 (a : Int)] w fun e w' => e = .returned (.int .i64 0) ∧ ResP w0 w' Ps kv g I B n a xs P c := by
 have hkl := (List.getElem?_eq_some_iff.1 hv).1
 have HCut := Lib.hid (fun (G X XM z : Nat) wx (hx : Grommet.Own w0 wx (Ps ++ [geoP G I B, bmP XM g 1 I B n, fileP X g I B n sz XM])) => cutH F hl a z kv (Ps.length + 1) g XM ho w0 wx _ hx (app_old hv) (app_at 1 rfl) (by omega) (fun Q hQ => by
  rcases List.mem_append.1 hQ with hQ | hQ
  ·exact hsol Q hQ
  ·simp only [List.mem_cons, List.not_mem_nil, or_false] at hQ
   rcases hQ with rfl | rfl | rfl
   ·exact solid_box _ _ _
   ·exact solid_box _ _ _
   ·exact solid_box _ _ _))
 have HR1 := Lib.hid (fun (L' : List (Nat × Nat)) (P' : Nat → Nat → Nat) (R : CutF I B n sz f0 xs L L' P' c a) (z X XM : Nat) wx (Rs : List Pr) (hx : Grommet.Own w0 wx (Ps.set kv (viewP g xs L') ++ Rs)) => resizeH R.f (by have := R.len; omega) a z kv g XM ho w0 wx _ hx (app_old (set_at _ hv)))
 have HF1 := Lib.hid (fun (L' : List (Nat × Nat)) (P' : Nat → Nat → Nat) (R : CutF I B n sz f0 xs L L' P' c a) => show ResF I B n a xs (setL xs L' ((491 + 16 * n : Nat) : Int) a) P P' (fun x => if x = 491 + 16 * n then a else f0 x) c from ⟨(R.f.sized (by have := R.len; omega) a ho).1, R.behind⟩)
 have HR2 := Lib.hid (fun (z X XM : Nat) wx (Rs : List Pr) (hx : Grommet.Own w0 wx (Ps ++ Rs)) => resizeH F (by omega) a z kv g XM ho w0 wx _ hx (app_old hv))
 have HF2 := Lib.hid (fun (hs : sz ≤ a) => show ResF I B n a xs (setL xs L ((491 + 16 * n : Nat) : Int) a) P P (fun x => if x = 491 + 16 * n then a else f0 x) c from ⟨(F.sized (by omega) a ho).1.congr (fun i hi => by
  by_cases e : i < a
  ·rw [if_pos e]
  ·rw [if_neg e]; exact hz i (by omega) hi), fun k hk h12 => hb k (by omega) h12⟩)
 have Hkv := Lib.hid hv
 clear hz hb hsol hl hkl
 have HOp := Lib.hid (fun wx Qs (hx : Grommet.Own w0 wx (Ps ++ Qs)) => openH F kv g w0 wx (Ps ++ Qs) hx (app_old hv))
 have hG := h.addBox 26 #[.int .i64 1, .int .i64 (I : Int), .int .i64 (B : Int)]
 obtain ⟨G, eG⟩ : ∃ G, w.heap.size = G := ⟨_, rfl⟩
 obtain ⟨wg, ewg⟩ : ∃ wg, w.alloc (.cells #[.int .i64 1, .int .i64 (I : Int), .int .i64 (B : Int)] 26) = wg := ⟨_, rfl⟩
 rw [eG, ewg] at hG
 have hO := Lib.hid hG
 clear hG h F
 unfold gv at *
 obtain ⟨y0, y1, y2⟩ := geo_cells hO.out (app_at 0 rfl)
 unfold fileV at HOp
 go_enter Tryd.func13, Tryd.ntmps13
 go_wp2_with fail
 all_goals (try rw [ewg]); (try rw [eG])
 go_wp2_with fail
 refine (HOp.out _ _ hO.out).mono ?_
 rintro e w1 ⟨XM, rfl, hO1⟩
 rw [List.append_assoc] at hO1
 have hO2 := hO1.addBox 76 #[.pointer (some ⟨g, 0, none⟩), .int .i64 1, .int .i64 (I : Int), .int .i64 (B : Int), .int .i64 (n : Int), .int .u64 (sz : Int), .pointer (some ⟨XM, 0, none⟩)]
 obtain ⟨X, eX⟩ : ∃ X, w1.heap.size = X := ⟨_, rfl⟩
 obtain ⟨wf, ewf⟩ : ∃ wf, w1.alloc (.cells #[.pointer (some ⟨g, 0, none⟩), .int .i64 1, .int .i64 (I : Int), .int .i64 (B : Int), .int .i64 (n : Int), .int .u64 (sz : Int), .pointer (some ⟨XM, 0, none⟩)] 76) = wf := ⟨_, rfl⟩
 rw [eX, ewf, List.append_assoc] at hO2
 have HO2 := Lib.hid (show Grommet.Own w0 wf (Ps ++ [geoP G I B, bmP XM g 1 I B n, fileP X g I B n sz XM]) from hO2)
 clear hO1 hO2 hO HOp y0 y1 y2 ewg eG
 have k1 : ¬ (768 : Int) < (a : Int) := by omega
 obtain ⟨c0, c1, c2, c3, c4, c5, c6⟩ := fileP_cells HO2.out (show _ = some (fileP X g I B n sz XM) from app_at 2 rfl)
 by_cases hlt : a < sz
 ·have k2 : (a : Int) < (sz : Int) := by omega
  have HC := Lib.hid (HCut.out G X XM sz wf HO2.out)
  unfold fileV at HC
  clear HCut HO2 HR2 HF2
  go_wp2_with fail
  refine HC.out.mono ?_
  rintro e w5 ⟨rfl, L', P', hO5, hR⟩
  rw [set_left Hkv.out] at hO5
  obtain ⟨d0, d1, d2, d3, d4, d5, d6⟩ := fileP_cells hO5 (show _ = some (fileP X g I B n sz XM) from app_at' List.length_set 2 rfl)
  have HRs := Lib.hid (HR1.out L' P' hR sz X XM w5 _ hO5)
  have HFs := Lib.hid (HF1.out L' P' hR)
  rw [set_left (set_at _ Hkv.out), List.set_set] at HRs
  unfold fileV at HRs
  clear hO5 hR HC HR1 HF1 c0 c1 c2 c3 c4 c5 c6 ewf eX
  go_wp2_with fail
  refine HRs.out.mono ?_
  rintro e w6 ⟨rfl, hO6⟩
  have HE := Lib.hid hO6.less
  clear hO6 HRs d0 d1 d2 d3 d4 d5 d6
  go_wp2
  go_ret
  exact ⟨rfl, _, _, _, HE.out, HFs.out⟩
 ·have k2 : ¬ (a : Int) < (sz : Int) := by omega
  have HRs := Lib.hid (HR2.out sz X XM wf _ HO2.out)
  have HFs := Lib.hid (HF2.out (by omega))
  rw [set_left Hkv.out] at HRs
  unfold fileV at HRs
  clear HCut HO2 HR1 HF1 HR2 HF2
  go_wp2_with fail
  refine HRs.out.mono ?_
  rintro e w6 ⟨rfl, hO6⟩
  have HE := Lib.hid hO6.less
  clear hO6 HRs c0 c1 c2 c3 c4 c5 c6
  go_wp2
  go_ret
  exact ⟨rfl, _, _, _, HE.out, HFs.out⟩
end Go.Proofs.YtgmhojoepcoopaaDoor
end
