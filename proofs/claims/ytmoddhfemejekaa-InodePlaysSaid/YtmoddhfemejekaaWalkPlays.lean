/- InodePlays, walked. -/
import Derived.Test.YtmoddhfemejekaaPlaK
import Derived.Test.YtmoddhfemejekaaInoB
import Derived.Test.YtmoddhfemejekaaInoEq
import Derived.Deep.DeepCutAuto
import Derived.Deep.CutBlock
import Derived.Deep.RegionHeld
namespace Go.Proofs.Ytmoddhfemejekaa.inodePlays
open Go.RowKit Go.Grommet

set_option maxRecDepth 100000 in
set_option maxHeartbeats 1000000 in
theorem walk_far (a b c : Int) (td : Option Addr) (tl tc : Nat) (C : Nat) (a3 : Option Addr) (l3 c3 : Nat) (w : World) (h : 60 < tl ∨ 60 < l3) :
    Calls Try.prog 3 #[gv a b c, .slice td tl tc, .int .u16 (C : Int), .slice a3 l3 c3] w (WorksIs w) := by
  have HW := Lib.hid (fun wx => works_any wx)
  unfold gv
  by_cases h1 : 60 < tl
  · have g1 : (60 : Int) < (tl : Int) := by omega
    clear h
    go_enter Try.func3, Try.ntmps3
    go_wp2_with fail
    refine (HW.out _).mono ?_
    rintro e w5 ⟨rfl, hg⟩
    go_wp2
    go_ret
    exact ⟨rfl, grown_trans (World.grownBy_alloc w _ none) hg⟩
  · have g1 : ¬ (60 : Int) < (tl : Int) := by omega
    have g2 : (60 : Int) < (l3 : Int) := by omega
    clear h
    go_enter Try.func3, Try.ntmps3
    go_wp2_with fail
    refine (HW.out _).mono ?_
    rintro e w5 ⟨rfl, hg⟩
    go_wp2
    go_ret
    exact ⟨rfl, grown_trans (World.grownBy_alloc w _ none) hg⟩

theorem NewG (ad : Option Addr) (l c : Nat) (xs : List Nat) (w0 w : World) (Ps : List Pr) (h : Grommet.Own w0 w Ps) (hx : Words w ad l xs) (hl : l ≤ 549755813888) (hnil : ad = none → l = 0 ∧ c = 0) :
    Calls Try.prog 10 #[.slice ad l c] w fun e w' => ∃ g, e = .returned (.pointer (some ⟨g, 0, none⟩)) ∧ Grommet.Own w0 w' (Ps ++ [viewP g xs []]) ∧ w.grownBy w' none := by
  refine (New_any ad l c xs w hx hl hnil).mono ?_
  rintro e w' ⟨g, F, he, hv, hF, hg⟩
  exact ⟨g, he, h.add (P := viewP g xs []) hv hF hg, hg⟩
def stepC (d n : Int) (v0 v1 v2 v3 v4 v5 v6 v7 v8 v9 : Nat) (dr : Bool) : Array Value := #[.int .u8 d, .int .i64 n, .int .u64 (v0 : Int), .int .u64 (v1 : Int), .int .u64 (v2 : Int), .int .u64 (v3 : Int), .int .u64 (v4 : Int), .int .u64 (v5 : Int), .int .u64 (v6 : Int), .int .u64 (v7 : Int), .int .u64 (v8 : Int), .int .u64 (v9 : Int), .bool dr]
def SZ (Z : Nat) (d n : Int) (v0 v1 v2 v3 v4 v5 v6 v7 v8 v9 : Nat) (dr : Bool) (w : World) : Prop := w.heap[Z]? = some (.cells (stepC d n v0 v1 v2 v3 v4 v5 v6 v7 v8 v9 dr) 40 (0, 0))
theorem SZ.facts {Z : Nat} {d n : Int} {v0 v1 v2 v3 v4 v5 v6 v7 v8 v9 : Nat} {dr : Bool} {w : World} (h : SZ Z d n v0 v1 v2 v3 v4 v5 v6 v7 v8 v9 dr w) : w.cell? ⟨Z, 0, none⟩ = some (.int .u8 d) ∧ w.cell? ⟨Z, 1, none⟩ = some (.int .i64 n) ∧ w.cell? ⟨Z, 2, none⟩ = some (.int .u64 (v0 : Int)) ∧ w.cell? ⟨Z, 3, none⟩ = some (.int .u64 (v1 : Int)) ∧ w.cell? ⟨Z, 4, none⟩ = some (.int .u64 (v2 : Int)) ∧ w.cell? ⟨Z, 5, none⟩ = some (.int .u64 (v3 : Int)) ∧ w.cell? ⟨Z, 6, none⟩ = some (.int .u64 (v4 : Int)) ∧ w.cell? ⟨Z, 7, none⟩ = some (.int .u64 (v5 : Int)) ∧ w.cell? ⟨Z, 8, none⟩ = some (.int .u64 (v6 : Int)) ∧ w.cell? ⟨Z, 9, none⟩ = some (.int .u64 (v7 : Int)) ∧ w.cell? ⟨Z, 10, none⟩ = some (.int .u64 (v8 : Int)) ∧ w.cell? ⟨Z, 11, none⟩ = some (.int .u64 (v9 : Int)) ∧ w.cell? ⟨Z, 12, none⟩ = some (.bool dr) := by
  unfold SZ at h
  simp [World.cell?, h, stepC]
/-- Both geometries and the step, as they stand. -/
def SS (G H Z : Nat) (a b c d n : Int) (v0 v1 v2 v3 v4 v5 v6 v7 v8 v9 : Nat) (dr : Bool) (w : World) : Prop := GeoS G a b c w ∧ GeoR H a b c w ∧ SZ Z d n v0 v1 v2 v3 v4 v5 v6 v7 v8 v9 dr w
theorem SS.keep {G H Z : Nat} {a b c d n : Int} {v0 v1 v2 v3 v4 v5 v6 v7 v8 v9 : Nat} {dr : Bool} {w w' : World} (h : SS G H Z a b c d n v0 v1 v2 v3 v4 v5 v6 v7 v8 v9 dr w) (hg : w.grownBy w' none) : SS G H Z a b c d n v0 v1 v2 v3 v4 v5 v6 v7 v8 v9 dr w' :=
  ⟨h.1.keep hg, h.2.1.keep hg, (hg.block Z (lt_of_block h.2.2) (by simp)).trans h.2.2⟩
def SR (r : Nat) (ad : Option Addr) (n cap : Nat) (w : World) : Prop := w.cell? ⟨r, 1, none⟩ = some (.slice ad n cap)
theorem SR.keep {r : Nat} {ad : Option Addr} {n cap : Nat} {w w' : World} (h : SR r ad n cap w) (hg : w.grownBy w' none) : SR r ad n cap w' := World.grownBy.cell hg h (by simp)
/-- The geometries, the view, its twin. -/
def P4 (G H : Nat) (a b c : Int) (g r : Nat) (xs : List Nat) (L K : List (Nat × Nat)) : List Pr := [boxP G 23 #[.int .i64 a, .int .i64 b, .int .i64 c], boxP H 28 #[.int .i64 a, .int .i64 b, .int .i64 c], viewP g xs L, refQ r xs K]
def P5 (G H Z : Nat) (a b c : Int) (g r : Nat) (xs : List Nat) (L K : List (Nat × Nat)) (cs : Array Value) : List Pr := [boxP G 23 #[.int .i64 a, .int .i64 b, .int .i64 c], boxP H 28 #[.int .i64 a, .int .i64 b, .int .i64 c], viewP g xs L, refQ r xs K, boxP Z 40 cs]
theorem ss_of {G H Z : Nat} {a b c : Int} {g r : Nat} {xs : List Nat} {L K : List (Nat × Nat)} {d n : Int} {v0 v1 v2 v3 v4 v5 v6 v7 v8 v9 : Nat} {dr : Bool} {w0 w : World} {Qs : List Pr} (h : Grommet.Own w0 w (P5 G H Z a b c g r xs L K (stepC d n v0 v1 v2 v3 v4 v5 v6 v7 v8 v9 dr) ++ Qs)) : SS G H Z a b c d n v0 v1 v2 v3 v4 v5 v6 v7 v8 v9 dr w := ⟨h.box 0 rfl, h.box 1 rfl, h.box 4 rfl⟩
theorem ss_of' {G H Z : Nat} {a b c : Int} {g r : Nat} {xs : List Nat} {L K : List (Nat × Nat)} {d n : Int} {v0 v1 v2 v3 v4 v5 v6 v7 v8 v9 : Nat} {dr : Bool} {w0 w : World} (h : Grommet.Own w0 w (P5 G H Z a b c g r xs L K (stepC d n v0 v1 v2 v3 v4 v5 v6 v7 v8 v9 dr))) : SS G H Z a b c d n v0 v1 v2 v3 v4 v5 v6 v7 v8 v9 dr w := ⟨h.box 0 rfl, h.box 1 rfl, h.box 4 rfl⟩

set_option maxRecDepth 100000 in
set_option maxHeartbeats 8000000 in
theorem walk_at (a b c : Int) (td : Option Addr) (tl tc : Nat) (T : List Tur) (C : Nat) (hC : C < 65536) (a3 : Option Addr) (l3 c3 : Nat) (TT : List Stp) (w : World) (hT : TursIn w td tl T) (hTT : StpsIn w a3 l3 TT) (h0 : ¬ 60 < tl) (h3 : ¬ 60 < l3) :
    Calls Try.prog 3 #[gv a b c, .slice td tl tc, .int .u16 (C : Int), .slice a3 l3 c3] w (WorksIs w) := by
  have g1 : ¬ (60 : Int) < (tl : Int) := by omega
  have g2 : ¬ (60 : Int) < (l3 : Int) := by omega
  have HT := Lib.hid hTT
  obtain ⟨G, HG⟩ : ∃ G, Hid (G = w.heap.size) := ⟨_, Lib.hid rfl⟩
  obtain ⟨H, HH⟩ : ∃ H, Hid (H = w.heap.size + 1) := ⟨_, Lib.hid rfl⟩
  have hO0 : Grommet.Own w ((w.alloc (.cells #[.int .i64 a, .int .i64 b, .int .i64 c] 23)).alloc (.cells #[.int .i64 a, .int .i64 b, .int .i64 c] 28)) [boxP G 23 #[.int .i64 a, .int .i64 b, .int .i64 c], boxP H 28 #[.int .i64 a, .int .i64 b, .int .i64 c]] := by
    have h := ((Own.nil w).addBox 23 #[.int .i64 a, .int .i64 b, .int .i64 c]).addBox 28 #[.int .i64 a, .int .i64 b, .int .i64 c]
    rw [World.size_alloc, ← HH.out, ← HG.out] at h
    exact h
  have HI := Lib.hid (fun wx (hO : Grommet.Own w wx [boxP G 23 #[.int .i64 a, .int .i64 b, .int .i64 c], boxP H 28 #[.int .i64 a, .int .i64 b, .int .i64 c]]) => ImageQ a b c C hC td tl tc T w wx _ hO hT (by omega))
  have hO0 := Lib.hid hO0
  have HWk := Lib.hid (fun wx => works_any wx)
  clear hT hTT hC
  unfold gv at *
  go_enter Try.func3, Try.ntmps3
  go_wp2_with fail
  rw [← HH.out, ← HG.out]
  refine (HI.out _ hO0.out).mono ?_
  rintro e u1 ⟨XS, n, ad, cp, rfl, hWd, hnil, hn, hO1⟩
  have HN := Lib.hid (NewG ad n cp XS w u1 _ hO1 hWd (by omega) hnil)
  have HN2 := Lib.hid (fun g wx (hO : Grommet.Own w wx [boxP G 23 #[.int .i64 a, .int .i64 b, .int .i64 c], boxP H 28 #[.int .i64 a, .int .i64 b, .int .i64 c], viewP g XS []]) (hg : u1.grownBy wx none) => RefNewQ ad n cp XS w wx _ hO (hWd.keep hg (by simp)) (by omega) hnil)
  have HX := Lib.hid hWd.len
  have Hn := Lib.hid hn
  clear HI hO0 hWd hnil hO1 hn
  go_wp2_with fail
  refine HN.out.mono ?_
  rintro e u2 ⟨g, rfl, hO1, hg⟩
  have HN3 := Lib.hid (HN2.out g u2 hO1 hg)
  clear HN HN2 hO1 hg
  go_wp2_with fail
  refine HN3.out.mono ?_
  rintro e u3 ⟨r, rfl, hO2⟩
  have hO2 : Hid (Grommet.Own w u3 (P4 G H a b c g r XS [] [])) := Lib.hid hO2
  clear HN3
  go_wp2_with fail
  go_loopw [13] (fun i wr => ∃ (k : Nat) (L : List (Nat × Nat)), k ≤ l3 ∧ i = .int .i64 (k : Int) ∧ Hid (Grommet.Own w wr (P4 G H a b c g r XS L L))) (fun i _ => l3 - (intOf i).toNat)
  case atStart => exact ⟨0, [], Nat.zero_le _, rfl, hO2⟩
  case round =>
    clear hO2
    obtain ⟨k, L, hk, rfl, hO⟩ := hrel
    have k0 : (0 : Int) ≤ (k : Int) := by omega
    by_cases hlt : k < l3
    · have hlt' : (k : Int) < (l3 : Int) := by omega
      obtain ⟨x, hx⟩ : ∃ x, TT[k]? = some x := ⟨TT[k]'(by rw [HT.out.1]; exact hlt), List.getElem?_eq_getElem _⟩
      obtain ⟨tg, to', htd, d0, d1, d2, d3, d4, d5, d6, d7, d8, d9, d10, d11, d12⟩ := (HT.out.grown hO.out.grown).2.2 k x hx
      subst htd
      obtain ⟨ok0, ok1, k2, k3, k4, k5, k6, k7, k8, k9, k10, k11⟩ := HT.out.2.1 x (List.mem_of_getElem? hx)
      clear hx
      obtain ⟨xd, xn, w0, w1, w2, w3, w4, w5, w6, w7, w8, w9, xdr⟩ := x
      dsimp only at d0 d1 d2 d3 d4 d5 d6 d7 d8 d9 d10 d11 d12 ok0 ok1 k2 k3 k4 k5 k6 k7 k8 k9 k10 k11
      have bd := bounds_u8 ok0
      have b0 := bounds_u64 k2
      obtain ⟨v0, rfl⟩ := Int.eq_ofNat_of_zero_le b0.1
      have b1 := bounds_u64 k3
      obtain ⟨v1, rfl⟩ := Int.eq_ofNat_of_zero_le b1.1
      have b2 := bounds_u64 k4
      obtain ⟨v2, rfl⟩ := Int.eq_ofNat_of_zero_le b2.1
      have b3 := bounds_u64 k5
      obtain ⟨v3, rfl⟩ := Int.eq_ofNat_of_zero_le b3.1
      have b4 := bounds_u64 k6
      obtain ⟨v4, rfl⟩ := Int.eq_ofNat_of_zero_le b4.1
      have b5 := bounds_u64 k7
      obtain ⟨v5, rfl⟩ := Int.eq_ofNat_of_zero_le b5.1
      have b6 := bounds_u64 k8
      obtain ⟨v6, rfl⟩ := Int.eq_ofNat_of_zero_le b6.1
      have b7 := bounds_u64 k9
      obtain ⟨v7, rfl⟩ := Int.eq_ofNat_of_zero_le b7.1
      have b8 := bounds_u64 k10
      obtain ⟨v8, rfl⟩ := Int.eq_ofNat_of_zero_le b8.1
      have b9 := bounds_u64 k11
      obtain ⟨v9, rfl⟩ := Int.eq_ofNat_of_zero_le b9.1
      obtain ⟨D, rfl⟩ := Int.eq_ofNat_of_zero_le bd.1
      have Hv := Lib.hid (show ∀ x ∈ [v0, v1, v2, v3, v4, v5, v6, v7, v8, v9], x < 18446744073709551616 by intro x hx; simp at hx; omega)
      clear ok0 ok1 k2 k3 k4 k5 k6 k7 k8 k9 k10 k11 bd b0 b1 b2 b3 b4 b5 b6 b7 b8 b9
      have hOx : Grommet.Own w (wr.alloc (.cells (stepC (D : Int) xn v0 v1 v2 v3 v4 v5 v6 v7 v8 v9 xdr) 40)) (P5 G H wr.heap.size a b c g r XS L L (stepC (D : Int) xn v0 v1 v2 v3 v4 v5 v6 v7 v8 v9 xdr)) := hO.out.addBox 40 (stepC (D : Int) xn v0 v1 v2 v3 v4 v5 v6 v7 v8 v9 xdr)
      have hOx := Lib.hid hOx
      clear hO
      go_upto_region 13 with fail
      obtain ⟨u4, hw5⟩ : ∃ u4, wr.alloc (.cells (stepC (D : Int) xn v0 v1 v2 v3 v4 v5 v6 v7 v8 v9 xdr) 40) = u4 := ⟨_, rfl⟩
      obtain ⟨Z, hZ⟩ : ∃ Z, wr.heap.size = Z := ⟨_, rfl⟩
      rw [hw5, hZ] at hOx
      rw [hZ]
      change Code.wp _ _ _ _ (wr.alloc (.cells (stepC (D : Int) xn v0 v1 v2 v3 v4 v5 v6 v7 v8 v9 xdr) 40))
      rw [hw5]
      clear hw5 hZ d0 d1 d2 d3 d4 d5 d6 d7 d8 d9 d10 d11 d12
      obtain ⟨z0, z1, z2, z3, z4, z5, z6, z7, z8, z9, z10, z11, z12⟩ := SZ.facts (ss_of' hOx.out).2.2
      go_upto_if 51 with fail
      go_cut [] (fun wx => ∃ L2 : List (Nat × Nat), Hid (Grommet.Own w wx (P5 G H Z a b c g r XS L2 L2 (stepC (D : Int) xn v0 v1 v2 v3 v4 v5 v6 v7 v8 v9 xdr))))
      case first =>
        as_aux_lemma =>
        cases xdr with
        | false =>
          go_wp2_with fail
          go_meet
          case rel => exact ⟨L, hOx⟩
        | true =>
          have HD := Lib.hid (DropH 2 g XS L w _ _ _ hOx.out rfl rfl)
          clear z0 z1 z2 z3 z4 z5 z6 z7 z8 z9 z10 z11 z12
          go_wp2_with fail
          refine HD.out.mono ?_
          rintro e u6 ⟨rfl, hO6⟩
          have hO6 : Grommet.Own w u6 (P5 G H Z a b c g r XS [] L (stepC (D : Int) xn v0 v1 v2 v3 v4 v5 v6 v7 v8 v9 true)) := hO6
          obtain ⟨ad7, cp7, e1, e2, _⟩ := refQ_obj hO6 3 rfl
          have hO7 : Hid (Grommet.Own w _ (P5 G H Z a b c g r XS [] [] (stepC (D : Int) xn v0 v1 v2 v3 v4 v5 v6 v7 v8 v9 true))) := Lib.hid (refQ_nil hO6 3 rfl)
          clear HD hO6 hOx
          go_wp2_with fail
          go_meet
          case rel => exact ⟨[], hO7⟩
      case rest =>
      obtain ⟨L2, hO8⟩ := hcut
      clear hOx z0 z1 z2 z3 z4 z5 z6 z7 z8 z9 z10 z11 z12
      have HR1 := Lib.hid (fun wx => Right_any a b c v0 v1 v2 v3 v4 v5 v6 v7 v8 v9 wx)
      have HR2 := Lib.hid (fun wx => RRight_any a b c v0 v1 v2 v3 v4 v5 v6 v7 v8 v9 wx)
      obtain ⟨rb, hrb⟩ : ∃ rb, rightB a b c v0 v1 v2 v3 v4 v5 v6 v7 v8 v9 = rb := ⟨_, rfl⟩
      rw [hrb] at HR1 HR2
      unfold gv nv at HR1 HR2
      have qb : (rb == rb) = true := by simp
      have hOr := Lib.hid (hO8.out.quiet (grown_drew (World.grownBy.refl _ none)))
      have hS0 := Lib.hid (ss_of' hOr.out)
      clear hO8 hrb
      go_wp2_with fail
      refine wp_region_held_drew (S := fun w' => SS G H Z a b c (D : Int) xn v0 v1 v2 v3 v4 v5 v6 v7 v8 v9 xdr w') (by kernel_rfl) (hS0.out) (fun hS => ?_)
      refine wpAnyH_take (i := 0) (oi := { dst := some 57, op := Op.load 23 (Operand.tmp 4), type := 23, pos := "law.go:55", after := #[], guard := none }) (v := ?vra3r16o0) rfl (by kernel_rfl) (by kernel_rfl) (by kernel_rfl) (fun _ _ _ h => h) (Or.inl ⟨by rfl, ?hra3r16o0⟩) hS ?_
      case hra3r16o0 => (intro wx hx; obtain ⟨hx0, hx1, hx2⟩ := hx; obtain ⟨y0, y1, y2⟩ := GeoS.cells hx0; obtain ⟨q0, q1, q2⟩ := GeoR.cells hx1; obtain ⟨z0, z1, z2, z3, z4, z5, z6, z7, z8, z9, z10, z11, z12⟩ := SZ.facts hx2; go_simp; (try with_reducible rfl))
      try simp only [Act.put, List.setIfInBounds_toArray, List.set_cons_zero, List.set_cons_succ]
      refine wpAnyH_take (i := 1) (oi := { dst := some 58, op := Op.fieldAddr 40 (Operand.tmp 14) 2, type := 0, pos := "law.go:55", after := #[], guard := none }) (v := ?vra3r16o1) rfl (by kernel_rfl) (by kernel_rfl) (by kernel_rfl) (fun _ _ _ h => h) (Or.inl ⟨by rfl, ?hra3r16o1⟩) hS ?_
      case hra3r16o1 => (intro wx hx; skip; go_simp; (try with_reducible rfl))
      try simp only [Act.put, List.setIfInBounds_toArray, List.set_cons_zero, List.set_cons_succ]
      refine wpAnyH_take (i := 2) (oi := { dst := some 59, op := Op.load 38 (Operand.tmp 58), type := 38, pos := "law.go:55", after := #[{ on := 1, ground := Ground.data }], guard := none }) (v := ?vra3r16o2) rfl (by kernel_rfl) (by kernel_rfl) (by kernel_rfl) (fun _ _ _ h => h) (Or.inl ⟨by rfl, ?hra3r16o2⟩) hS ?_
      case hra3r16o2 => (intro wx hx; obtain ⟨hx0, hx1, hx2⟩ := hx; obtain ⟨y0, y1, y2⟩ := GeoS.cells hx0; obtain ⟨q0, q1, q2⟩ := GeoR.cells hx1; obtain ⟨z0, z1, z2, z3, z4, z5, z6, z7, z8, z9, z10, z11, z12⟩ := SZ.facts hx2; go_simp; (try with_reducible rfl))
      try simp only [Act.put, List.setIfInBounds_toArray, List.set_cons_zero, List.set_cons_succ]
      refine wpAnyH_take (i := 4) (oi := { dst := some 61, op := Op.load 28 (Operand.tmp 9), type := 28, pos := "law.go:55", after := #[], guard := none }) (v := ?vra3r16o4) rfl (by kernel_rfl) (by kernel_rfl) (by kernel_rfl) (fun _ _ _ h => h) (Or.inl ⟨by rfl, ?hra3r16o4⟩) hS ?_
      case hra3r16o4 => (intro wx hx; obtain ⟨hx0, hx1, hx2⟩ := hx; obtain ⟨y0, y1, y2⟩ := GeoS.cells hx0; obtain ⟨q0, q1, q2⟩ := GeoR.cells hx1; obtain ⟨z0, z1, z2, z3, z4, z5, z6, z7, z8, z9, z10, z11, z12⟩ := SZ.facts hx2; go_simp; (try with_reducible rfl))
      try simp only [Act.put, List.setIfInBounds_toArray, List.set_cons_zero, List.set_cons_succ]
      refine wpAnyH_take (i := 5) (oi := { dst := some 62, op := Op.fieldAddr 40 (Operand.tmp 14) 2, type := 0, pos := "law.go:55", after := #[], guard := none }) (v := ?vra3r16o5) rfl (by kernel_rfl) (by kernel_rfl) (by kernel_rfl) (fun _ _ _ h => h) (Or.inl ⟨by rfl, ?hra3r16o5⟩) hS ?_
      case hra3r16o5 => (intro wx hx; skip; go_simp; (try with_reducible rfl))
      try simp only [Act.put, List.setIfInBounds_toArray, List.set_cons_zero, List.set_cons_succ]
      refine wpAnyH_take (i := 6) (oi := { dst := some 63, op := Op.load 38 (Operand.tmp 62), type := 38, pos := "law.go:55", after := #[{ on := 5, ground := Ground.data }], guard := none }) (v := ?vra3r16o6) rfl (by kernel_rfl) (by kernel_rfl) (by kernel_rfl) (fun _ _ _ h => h) (Or.inl ⟨by rfl, ?hra3r16o6⟩) hS ?_
      case hra3r16o6 => (intro wx hx; obtain ⟨hx0, hx1, hx2⟩ := hx; obtain ⟨y0, y1, y2⟩ := GeoS.cells hx0; obtain ⟨q0, q1, q2⟩ := GeoR.cells hx1; obtain ⟨z0, z1, z2, z3, z4, z5, z6, z7, z8, z9, z10, z11, z12⟩ := SZ.facts hx2; go_simp; (try with_reducible rfl))
      try simp only [Act.put, List.setIfInBounds_toArray, List.set_cons_zero, List.set_cons_succ]
      refine wpAnyH_ready (rs := [3]) (by kernel_rfl) (by simp) ?_
      refine AllReadyH.cons (o := { dst := some 60, op := Op.call { callee := Callee.value (Operand.func 13), args := #[Operand.tmp 57, Operand.tmp 59], argTypes := #[23, 38] }, type := 4, pos := "law.go:55", after := #[{ on := 0, ground := Ground.data }, { on := 2, ground := Ground.data }], guard := none }) rfl (fun K hK => ?_) AllReadyH.nil
      go_simp
      refine (HR1.out _).mono ?_
      rintro e u5 ⟨rfl, hgA⟩
      have hS1 := SS.keep hS hgA
      have hOn := Lib.hid (hOr.out.quiet hgA)
      clear hOr hgA HR1
      have hOr := hOn
      clear hOn
      refine hK.out _ _ ?hsra3r16o3 (fun hS => ?_)
      case hsra3r16o3 => (exact hS1)
      clear hK K
      try simp only [Act.put, List.setIfInBounds_toArray, List.set_cons_zero, List.set_cons_succ]
      refine wpAnyH_ready (rs := [7]) (by kernel_rfl) (by simp) ?_
      refine AllReadyH.cons (o := { dst := some 64, op := Op.call { callee := Callee.value (Operand.func 14), args := #[Operand.tmp 61, Operand.tmp 63], argTypes := #[28, 46] }, type := 4, pos := "law.go:55", after := #[{ on := 4, ground := Ground.data }, { on := 6, ground := Ground.data }, { on := 3, ground := Ground.chain }], guard := none }) rfl (fun K hK => ?_) AllReadyH.nil
      go_simp
      refine (HR2.out _).mono ?_
      rintro e u6 ⟨rfl, hgA⟩
      have hS1 := SS.keep hS hgA
      have hOn := Lib.hid (hOr.out.quiet hgA)
      clear hOr hgA HR2
      have hOr := hOn
      clear hOn
      refine hK.out _ _ ?hsra3r16o7 (fun hS => ?_)
      case hsra3r16o7 => (exact hS1)
      clear hK K
      try simp only [Act.put, List.setIfInBounds_toArray, List.set_cons_zero, List.set_cons_succ]
      refine wpAnyH_take (i := 8) (oi := { dst := some 65, op := Op.binOp BinOp.eql 4 (Operand.tmp 60) (Operand.tmp 64) 4, type := 4, pos := "law.go:55", after := #[{ on := 3, ground := Ground.data }, { on := 7, ground := Ground.data }], guard := none }) (v := ?vra3r16o8) rfl (by kernel_rfl) (by kernel_rfl) (by kernel_rfl) (fun _ _ _ h => h) (Or.inl ⟨by rfl, ?hra3r16o8⟩) hS ?_
      case hra3r16o8 => (intro wx hx; skip; go_simp; (try with_reducible rfl))
      try simp only [Act.put, List.setIfInBounds_toArray, List.set_cons_zero, List.set_cons_succ]
      refine wpAnyH_take (i := 9) (oi := { dst := some 15, op := Op.assign (Operand.tmp 65), type := 4, pos := "law.go:55", after := #[{ on := 8, ground := Ground.data }, { on := 7, ground := Ground.chain }, { on := 0, ground := Ground.phase }, { on := 1, ground := Ground.phase }, { on := 2, ground := Ground.phase }, { on := 3, ground := Ground.phase }, { on := 4, ground := Ground.phase }, { on := 5, ground := Ground.phase }, { on := 6, ground := Ground.phase }, { on := 7, ground := Ground.phase }, { on := 8, ground := Ground.phase }], guard := none }) (v := ?vra3r16o9) rfl (by kernel_rfl) (by kernel_rfl) (by kernel_rfl) (fun _ _ _ h => h) (Or.inl ⟨by rfl, ?hra3r16o9⟩) hS ?_
      case hra3r16o9 => (intro wx hx; skip; go_simp; (try with_reducible rfl))
      try simp only [Act.put, List.setIfInBounds_toArray, List.set_cons_zero, List.set_cons_succ]
      refine wpAnyH_done (by kernel_rfl) ?_ _
      clear hS hS1 hS0 qb
      obtain ⟨rr, hrr⟩ : ∃ rr, D % 3 = rr := ⟨_, rfl⟩
      have hr3 : rr < 3 := by omega
      have e5 : (D : Int) % 3 = (rr : Int) := by omega
      have e5' : Int.tmod (D : Int) 3 = (rr : Int) := by rw [Int.tmod_eq_emod_of_nonneg (by omega)]; exact e5
      have hxl : XS.length ≤ 1000000 := by rw [HX.out]; have := Hn.out; omega
      have hr : rr = 0 ∨ rr = 1 ∨ rr = 2 := by omega
      clear hrr hr3
      rcases hr with rfl | rfl | rfl
      · obtain ⟨r0, r1, r2, r3, r4, r5, r6, r7, r8, r9, en, HA, HB⟩ := get_both a b c xn XS L2 hxl
        unfold gv at HA HB
        have HA := Lib.hid (HA 2 g w _ _ hOr.out rfl)
        have HB := Lib.hid (fun wx Qs (hO : Grommet.Own w wx ((P5 G H Z a b c g r XS L2 L2 (stepC (D : Int) xn v0 v1 v2 v3 v4 v5 v6 v7 v8 v9 xdr)) ++ Qs)) => HB 3 r w wx _ hO rfl)
        have qe : (en == en) = true := by simp
        obtain ⟨hx0, hx1, hx2⟩ := ss_of' hOr.out
        obtain ⟨y0, y1, y2⟩ := GeoS.cells hx0
        obtain ⟨q0, q1, q2⟩ := GeoR.cells hx1
        obtain ⟨z0, z1, z2, z3, z4, z5, z6, z7, z8, z9, z10, z11, z12⟩ := SZ.facts hx2
        clear hx0 hx1 hx2
        clear hOr
        go_wp2_with fail
        refine HA.out.mono ?_
        rintro e u7 ⟨rfl, hO7⟩
        clear y0 y1 y2 q0 q1 q2 z0 z1 z2 z3 z4 z5 z6 z7 z8 z9 z10 z11 z12 HA
        obtain ⟨X1, hX1⟩ : ∃ X, Hid (X = u7.heap.size) := ⟨_, Lib.hid rfl⟩
        have hO9 : Grommet.Own w (u7.alloc (.cells #[.int .u64 (r0 : Int), .int .u64 (r1 : Int), .int .u64 (r2 : Int), .int .u64 (r3 : Int), .int .u64 (r4 : Int), .int .u64 (r5 : Int), .int .u64 (r6 : Int), .int .u64 (r7 : Int), .int .u64 (r8 : Int), .int .u64 (r9 : Int)] 38)) ((P5 G H Z a b c g r XS L2 L2 (stepC (D : Int) xn v0 v1 v2 v3 v4 v5 v6 v7 v8 v9 xdr)) ++ [boxP X1 38 #[.int .u64 (r0 : Int), .int .u64 (r1 : Int), .int .u64 (r2 : Int), .int .u64 (r3 : Int), .int .u64 (r4 : Int), .int .u64 (r5 : Int), .int .u64 (r6 : Int), .int .u64 (r7 : Int), .int .u64 (r8 : Int), .int .u64 (r9 : Int)]]) := by rw [hX1.out]; exact hO7.addBox _ _
        have HB := Lib.hid (HB.out _ _ hO9)
        obtain ⟨hx0, hx1, hx2⟩ := ss_of hO9
        obtain ⟨y0, y1, y2⟩ := GeoS.cells hx0
        obtain ⟨q0, q1, q2⟩ := GeoR.cells hx1
        obtain ⟨z0, z1, z2, z3, z4, z5, z6, z7, z8, z9, z10, z11, z12⟩ := SZ.facts hx2
        clear hx0 hx1 hx2
        clear hO9 hO7
        go_wp2_with fail
        rw [← hX1.out]
        refine HB.out.mono ?_
        rintro e u8 ⟨rfl, hO10⟩
        clear y0 y1 y2 q0 q1 q2 z0 z1 z2 z3 z4 z5 z6 z7 z8 z9 z10 z11 z12 HB
        have hO11 : Grommet.Own w (u8.alloc (.cells #[.int .u64 (r0 : Int), .int .u64 (r1 : Int), .int .u64 (r2 : Int), .int .u64 (r3 : Int), .int .u64 (r4 : Int), .int .u64 (r5 : Int), .int .u64 (r6 : Int), .int .u64 (r7 : Int), .int .u64 (r8 : Int), .int .u64 (r9 : Int)] 46)) ((P5 G H Z a b c g r XS L2 L2 (stepC (D : Int) xn v0 v1 v2 v3 v4 v5 v6 v7 v8 v9 xdr)) ++ [boxP X1 38 #[.int .u64 (r0 : Int), .int .u64 (r1 : Int), .int .u64 (r2 : Int), .int .u64 (r3 : Int), .int .u64 (r4 : Int), .int .u64 (r5 : Int), .int .u64 (r6 : Int), .int .u64 (r7 : Int), .int .u64 (r8 : Int), .int .u64 (r9 : Int)]] ++ [boxP u8.heap.size 46 #[.int .u64 (r0 : Int), .int .u64 (r1 : Int), .int .u64 (r2 : Int), .int .u64 (r3 : Int), .int .u64 (r4 : Int), .int .u64 (r5 : Int), .int .u64 (r6 : Int), .int .u64 (r7 : Int), .int .u64 (r8 : Int), .int .u64 (r9 : Int)]]) := hO10.addBox _ _
        rw [List.append_assoc] at hO11
        obtain ⟨m0, m1, m2, m3, m4, m5, m6, m7, m8, m9⟩ := NodeS.cells (show NodeS X1 r0 r1 r2 r3 r4 r5 r6 r7 r8 r9 _ from hO11.box 5 rfl)
        obtain ⟨n0, n1, n2, n3, n4, n5, n6, n7, n8, n9⟩ := NodeR.cells (show NodeR u8.heap.size r0 r1 r2 r3 r4 r5 r6 r7 r8 r9 _ from hO11.box 6 rfl)
        have heq := eql_same (r0 : Int) (r1 : Int) (r2 : Int) (r3 : Int) (r4 : Int) (r5 : Int) (r6 : Int) (r7 : Int) (r8 : Int) (r9 : Int)
        have hOr := Lib.hid (hO11.less)
        clear hO10 hO11
        go_wp2
        go_roundw
        case rel => exact ⟨k + 1, L2, by omega, by go_num, Lib.hid (show Grommet.Own w _ ((P4 G H a b c g r XS L2 L2) ++ [boxP Z 40 (stepC (D : Int) xn v0 v1 v2 v3 v4 v5 v6 v7 v8 v9 xdr)]) from hOr.out).less⟩
        case measure => simp [intOf]; omega
      · obtain ⟨L3, en, HA, HB⟩ := put_both a b c xn v0 v1 v2 v3 v4 v5 v6 v7 v8 v9 Hv.out XS L2 hxl
        unfold gv at HA HB
        have HA := Lib.hid (fun wx (hO : Grommet.Own w wx (P5 G H Z a b c g r XS L2 L2 (stepC (D : Int) xn v0 v1 v2 v3 v4 v5 v6 v7 v8 v9 xdr))) => HA 2 g w wx _ hO rfl)
        have HB := Lib.hid (fun wx (hO : Grommet.Own w wx (P5 G H Z a b c g r XS L3 L2 (stepC (D : Int) xn v0 v1 v2 v3 v4 v5 v6 v7 v8 v9 xdr))) => HB 3 r w wx _ hO rfl)
        have qe : (en == en) = true := by simp
        obtain ⟨hx0, hx1, hx2⟩ := ss_of' hOr.out
        obtain ⟨y0, y1, y2⟩ := GeoS.cells hx0
        obtain ⟨q0, q1, q2⟩ := GeoR.cells hx1
        obtain ⟨z0, z1, z2, z3, z4, z5, z6, z7, z8, z9, z10, z11, z12⟩ := SZ.facts hx2
        clear hx0 hx1 hx2
        go_upto_region 24 with fail
        clear y0 y1 y2 q0 q1 q2 z0 z1 z2 z3 z4 z5 z6 z7 z8 z9 z10 z11 z12
        have hOr := Lib.hid (hOr.out.quiet (grown_drew (World.grownBy.refl _ none)))
        have hS0 := Lib.hid (ss_of' hOr.out)
        refine wp_region_held_drew (S := fun w' => SS G H Z a b c (D : Int) xn v0 v1 v2 v3 v4 v5 v6 v7 v8 v9 xdr w') (by kernel_rfl) (hS0.out) (fun hS => ?_)
        refine wpAnyH_take (i := 0) (oi := { dst := some 114, op := Op.move (Operand.tmp 15), type := 4, pos := "law.go:62", after := #[], guard := none }) (v := ?vrb3r24o0) rfl (by kernel_rfl) (by kernel_rfl) (by kernel_rfl) (fun _ _ _ h => h) (Or.inl ⟨by rfl, ?hrb3r24o0⟩) hS ?_
        case hrb3r24o0 => (intro wx hx; skip; go_simp; (try with_reducible rfl))
        try simp only [Act.put, List.setIfInBounds_toArray, List.set_cons_zero, List.set_cons_succ]
        refine wpAnyH_take (i := 1) (oi := { dst := some 115, op := Op.move (Operand.tmp 114), type := 4, pos := "law.go:62", after := #[{ on := 0, ground := Ground.data }], guard := none }) (v := ?vrb3r24o1) rfl (by kernel_rfl) (by kernel_rfl) (by kernel_rfl) (fun _ _ _ h => h) (Or.inl ⟨by rfl, ?hrb3r24o1⟩) hS ?_
        case hrb3r24o1 => (intro wx hx; skip; go_simp; (try with_reducible rfl))
        try simp only [Act.put, List.setIfInBounds_toArray, List.set_cons_zero, List.set_cons_succ]
        refine wpAnyH_take (i := 2) (oi := { dst := some 116, op := Op.move (Operand.tmp 11), type := 31, pos := "law.go:62", after := #[{ on := 1, ground := Ground.guard }], guard := some (1, true) }) (v := ?vrb3r24o2) rfl (by kernel_rfl) (by kernel_rfl) (by kernel_rfl) (fun _ _ _ h => h) (Or.inl ⟨by rfl, ?hrb3r24o2⟩) hS ?_
        case hrb3r24o2 => (intro wx hx; skip; go_simp; (try with_reducible rfl))
        try simp only [Act.put, List.setIfInBounds_toArray, List.set_cons_zero, List.set_cons_succ]
        refine wpAnyH_take (i := 3) (oi := { dst := some 117, op := Op.load 23 (Operand.tmp 4), type := 23, pos := "law.go:62", after := #[{ on := 1, ground := Ground.guard }], guard := some (1, true) }) (v := ?vrb3r24o3) rfl (by kernel_rfl) (by kernel_rfl) (by kernel_rfl) (fun _ _ _ h => h) (Or.inl ⟨by rfl, ?hrb3r24o3⟩) hS ?_
        case hrb3r24o3 => (intro wx hx; obtain ⟨hx0, hx1, hx2⟩ := hx; obtain ⟨y0, y1, y2⟩ := GeoS.cells hx0; obtain ⟨q0, q1, q2⟩ := GeoR.cells hx1; obtain ⟨z0, z1, z2, z3, z4, z5, z6, z7, z8, z9, z10, z11, z12⟩ := SZ.facts hx2; go_simp; (try with_reducible rfl))
        try simp only [Act.put, List.setIfInBounds_toArray, List.set_cons_zero, List.set_cons_succ]
        refine wpAnyH_take (i := 4) (oi := { dst := some 118, op := Op.fieldAddr 40 (Operand.tmp 14) 1, type := 0, pos := "law.go:62", after := #[{ on := 1, ground := Ground.guard }], guard := some (1, true) }) (v := ?vrb3r24o4) rfl (by kernel_rfl) (by kernel_rfl) (by kernel_rfl) (fun _ _ _ h => h) (Or.inl ⟨by rfl, ?hrb3r24o4⟩) hS ?_
        case hrb3r24o4 => (intro wx hx; skip; go_simp; (try with_reducible rfl))
        try simp only [Act.put, List.setIfInBounds_toArray, List.set_cons_zero, List.set_cons_succ]
        refine wpAnyH_take (i := 5) (oi := { dst := some 119, op := Op.load 3 (Operand.tmp 118), type := 3, pos := "law.go:62", after := #[{ on := 4, ground := Ground.data }, { on := 1, ground := Ground.guard }], guard := some (1, true) }) (v := ?vrb3r24o5) rfl (by kernel_rfl) (by kernel_rfl) (by kernel_rfl) (fun _ _ _ h => h) (Or.inl ⟨by rfl, ?hrb3r24o5⟩) hS ?_
        case hrb3r24o5 => (intro wx hx; obtain ⟨hx0, hx1, hx2⟩ := hx; obtain ⟨y0, y1, y2⟩ := GeoS.cells hx0; obtain ⟨q0, q1, q2⟩ := GeoR.cells hx1; obtain ⟨z0, z1, z2, z3, z4, z5, z6, z7, z8, z9, z10, z11, z12⟩ := SZ.facts hx2; go_simp; (try with_reducible rfl))
        try simp only [Act.put, List.setIfInBounds_toArray, List.set_cons_zero, List.set_cons_succ]
        refine wpAnyH_take (i := 6) (oi := { dst := some 120, op := Op.fieldAddr 40 (Operand.tmp 14) 2, type := 0, pos := "law.go:62", after := #[{ on := 1, ground := Ground.guard }], guard := some (1, true) }) (v := ?vrb3r24o6) rfl (by kernel_rfl) (by kernel_rfl) (by kernel_rfl) (fun _ _ _ h => h) (Or.inl ⟨by rfl, ?hrb3r24o6⟩) hS ?_
        case hrb3r24o6 => (intro wx hx; skip; go_simp; (try with_reducible rfl))
        try simp only [Act.put, List.setIfInBounds_toArray, List.set_cons_zero, List.set_cons_succ]
        refine wpAnyH_take (i := 7) (oi := { dst := some 121, op := Op.load 38 (Operand.tmp 120), type := 38, pos := "law.go:62", after := #[{ on := 6, ground := Ground.data }, { on := 1, ground := Ground.guard }], guard := some (1, true) }) (v := ?vrb3r24o7) rfl (by kernel_rfl) (by kernel_rfl) (by kernel_rfl) (fun _ _ _ h => h) (Or.inl ⟨by rfl, ?hrb3r24o7⟩) hS ?_
        case hrb3r24o7 => (intro wx hx; obtain ⟨hx0, hx1, hx2⟩ := hx; obtain ⟨y0, y1, y2⟩ := GeoS.cells hx0; obtain ⟨q0, q1, q2⟩ := GeoR.cells hx1; obtain ⟨z0, z1, z2, z3, z4, z5, z6, z7, z8, z9, z10, z11, z12⟩ := SZ.facts hx2; go_simp; (try with_reducible rfl))
        try simp only [Act.put, List.setIfInBounds_toArray, List.set_cons_zero, List.set_cons_succ]
        refine wpAnyH_take (i := 9) (oi := { dst := some 123, op := Op.move (Operand.tmp 12), type := 33, pos := "law.go:62", after := #[{ on := 1, ground := Ground.guard }], guard := some (1, true) }) (v := ?vrb3r24o9) rfl (by kernel_rfl) (by kernel_rfl) (by kernel_rfl) (fun _ _ _ h => h) (Or.inl ⟨by rfl, ?hrb3r24o9⟩) hS ?_
        case hrb3r24o9 => (intro wx hx; skip; go_simp; (try with_reducible rfl))
        try simp only [Act.put, List.setIfInBounds_toArray, List.set_cons_zero, List.set_cons_succ]
        refine wpAnyH_take (i := 10) (oi := { dst := some 124, op := Op.load 28 (Operand.tmp 9), type := 28, pos := "law.go:62", after := #[{ on := 1, ground := Ground.guard }], guard := some (1, true) }) (v := ?vrb3r24o10) rfl (by kernel_rfl) (by kernel_rfl) (by kernel_rfl) (fun _ _ _ h => h) (Or.inl ⟨by rfl, ?hrb3r24o10⟩) hS ?_
        case hrb3r24o10 => (intro wx hx; obtain ⟨hx0, hx1, hx2⟩ := hx; obtain ⟨y0, y1, y2⟩ := GeoS.cells hx0; obtain ⟨q0, q1, q2⟩ := GeoR.cells hx1; obtain ⟨z0, z1, z2, z3, z4, z5, z6, z7, z8, z9, z10, z11, z12⟩ := SZ.facts hx2; go_simp; (try with_reducible rfl))
        try simp only [Act.put, List.setIfInBounds_toArray, List.set_cons_zero, List.set_cons_succ]
        refine wpAnyH_take (i := 11) (oi := { dst := some 125, op := Op.fieldAddr 40 (Operand.tmp 14) 1, type := 0, pos := "law.go:62", after := #[{ on := 1, ground := Ground.guard }], guard := some (1, true) }) (v := ?vrb3r24o11) rfl (by kernel_rfl) (by kernel_rfl) (by kernel_rfl) (fun _ _ _ h => h) (Or.inl ⟨by rfl, ?hrb3r24o11⟩) hS ?_
        case hrb3r24o11 => (intro wx hx; skip; go_simp; (try with_reducible rfl))
        try simp only [Act.put, List.setIfInBounds_toArray, List.set_cons_zero, List.set_cons_succ]
        refine wpAnyH_take (i := 12) (oi := { dst := some 126, op := Op.load 3 (Operand.tmp 125), type := 3, pos := "law.go:62", after := #[{ on := 11, ground := Ground.data }, { on := 1, ground := Ground.guard }], guard := some (1, true) }) (v := ?vrb3r24o12) rfl (by kernel_rfl) (by kernel_rfl) (by kernel_rfl) (fun _ _ _ h => h) (Or.inl ⟨by rfl, ?hrb3r24o12⟩) hS ?_
        case hrb3r24o12 => (intro wx hx; obtain ⟨hx0, hx1, hx2⟩ := hx; obtain ⟨y0, y1, y2⟩ := GeoS.cells hx0; obtain ⟨q0, q1, q2⟩ := GeoR.cells hx1; obtain ⟨z0, z1, z2, z3, z4, z5, z6, z7, z8, z9, z10, z11, z12⟩ := SZ.facts hx2; go_simp; (try with_reducible rfl))
        try simp only [Act.put, List.setIfInBounds_toArray, List.set_cons_zero, List.set_cons_succ]
        refine wpAnyH_take (i := 13) (oi := { dst := some 127, op := Op.fieldAddr 40 (Operand.tmp 14) 2, type := 0, pos := "law.go:62", after := #[{ on := 1, ground := Ground.guard }], guard := some (1, true) }) (v := ?vrb3r24o13) rfl (by kernel_rfl) (by kernel_rfl) (by kernel_rfl) (fun _ _ _ h => h) (Or.inl ⟨by rfl, ?hrb3r24o13⟩) hS ?_
        case hrb3r24o13 => (intro wx hx; skip; go_simp; (try with_reducible rfl))
        try simp only [Act.put, List.setIfInBounds_toArray, List.set_cons_zero, List.set_cons_succ]
        refine wpAnyH_take (i := 14) (oi := { dst := some 128, op := Op.load 38 (Operand.tmp 127), type := 38, pos := "law.go:62", after := #[{ on := 13, ground := Ground.data }, { on := 1, ground := Ground.guard }], guard := some (1, true) }) (v := ?vrb3r24o14) rfl (by kernel_rfl) (by kernel_rfl) (by kernel_rfl) (fun _ _ _ h => h) (Or.inl ⟨by rfl, ?hrb3r24o14⟩) hS ?_
        case hrb3r24o14 => (intro wx hx; obtain ⟨hx0, hx1, hx2⟩ := hx; obtain ⟨y0, y1, y2⟩ := GeoS.cells hx0; obtain ⟨q0, q1, q2⟩ := GeoR.cells hx1; obtain ⟨z0, z1, z2, z3, z4, z5, z6, z7, z8, z9, z10, z11, z12⟩ := SZ.facts hx2; go_simp; (try with_reducible rfl))
        try simp only [Act.put, List.setIfInBounds_toArray, List.set_cons_zero, List.set_cons_succ]
        refine wpAnyH_ready (rs := [8]) (by kernel_rfl) (by simp) ?_
        refine AllReadyH.cons (o := { dst := some 122, op := Op.call { callee := Callee.value (Operand.func 17), args := #[Operand.tmp 116, Operand.tmp 117, Operand.tmp 119, Operand.tmp 121], argTypes := #[31, 23, 3, 38] }, type := 47, pos := "law.go:62", after := #[{ on := 2, ground := Ground.data }, { on := 3, ground := Ground.data }, { on := 5, ground := Ground.data }, { on := 7, ground := Ground.data }, { on := 1, ground := Ground.chain }, { on := 1, ground := Ground.guard }], guard := some (1, true) }) rfl (fun K hK => ?_) AllReadyH.nil
        go_simp
        refine (HA.out _ hOr.out).mono ?_
        rintro e u7 ⟨rfl, hn⟩
        have hOn : Hid (Grommet.Own w u7 (P5 G H Z a b c g r XS L3 L2 (stepC (D : Int) xn v0 v1 v2 v3 v4 v5 v6 v7 v8 v9 xdr))) := Lib.hid hn
        clear hOr hn HA
        have hOr := hOn
        clear hOn
        have hS1 := ss_of' hOr.out
        refine hK.out _ _ ?hsrb3r24o8 (fun hS => ?_)
        case hsrb3r24o8 => (exact hS1)
        clear hK K
        try simp only [Act.put, List.setIfInBounds_toArray, List.set_cons_zero, List.set_cons_succ]
        refine wpAnyH_ready (rs := [15]) (by kernel_rfl) (by simp) ?_
        refine AllReadyH.cons (o := { dst := some 129, op := Op.call { callee := Callee.value (Operand.func 18), args := #[Operand.tmp 123, Operand.tmp 124, Operand.tmp 126, Operand.tmp 128], argTypes := #[33, 28, 3, 46] }, type := 47, pos := "law.go:62", after := #[{ on := 9, ground := Ground.data }, { on := 10, ground := Ground.data }, { on := 12, ground := Ground.data }, { on := 14, ground := Ground.data }, { on := 8, ground := Ground.chain }, { on := 1, ground := Ground.guard }], guard := some (1, true) }) rfl (fun K hK => ?_) AllReadyH.nil
        go_simp
        refine (HB.out _ hOr.out).mono ?_
        rintro e u8 ⟨rfl, hn⟩
        have hOn : Hid (Grommet.Own w u8 (P5 G H Z a b c g r XS L3 L3 (stepC (D : Int) xn v0 v1 v2 v3 v4 v5 v6 v7 v8 v9 xdr))) := Lib.hid hn
        clear hOr hn HB
        have hOr := hOn
        clear hOn
        have hS1 := ss_of' hOr.out
        refine hK.out _ _ ?hsrb3r24o15 (fun hS => ?_)
        case hsrb3r24o15 => (exact hS1)
        clear hK K
        try simp only [Act.put, List.setIfInBounds_toArray, List.set_cons_zero, List.set_cons_succ]
        refine wpAnyH_take (i := 16) (oi := { dst := some 130, op := Op.binOp BinOp.eql 47 (Operand.tmp 122) (Operand.tmp 129) 47, type := 4, pos := "law.go:62", after := #[{ on := 8, ground := Ground.data }, { on := 15, ground := Ground.data }, { on := 1, ground := Ground.guard }], guard := some (1, true) }) (v := ?vrb3r24o16) rfl (by kernel_rfl) (by kernel_rfl) (by kernel_rfl) (fun _ _ _ h => h) (Or.inl ⟨by rfl, ?hrb3r24o16⟩) hS ?_
        case hrb3r24o16 => (intro wx hx; skip; go_simp; (try with_reducible rfl))
        try simp only [Act.put, List.setIfInBounds_toArray, List.set_cons_zero, List.set_cons_succ]
        refine wpAnyH_take (i := 17) (oi := { dst := some 131, op := Op.pick (Operand.tmp 115) (Operand.tmp 130) (Operand.const (Value.bool false)), type := 4, pos := "law.go:62", after := #[{ on := 1, ground := Ground.data }, { on := 16, ground := Ground.data }], guard := none }) (v := ?vrb3r24o17) rfl (by kernel_rfl) (by kernel_rfl) (by kernel_rfl) (fun _ _ _ h => h) (Or.inl ⟨by rfl, ?hrb3r24o17⟩) hS ?_
        case hrb3r24o17 => (intro wx hx; skip; go_simp; (try with_reducible rfl))
        try simp only [Act.put, List.setIfInBounds_toArray, List.set_cons_zero, List.set_cons_succ]
        refine wpAnyH_take (i := 18) (oi := { dst := some 15, op := Op.assign (Operand.tmp 131), type := 4, pos := "law.go:62", after := #[{ on := 17, ground := Ground.data }, { on := 15, ground := Ground.chain }, { on := 0, ground := Ground.phase }, { on := 1, ground := Ground.phase }, { on := 2, ground := Ground.phase }, { on := 3, ground := Ground.phase }, { on := 4, ground := Ground.phase }, { on := 5, ground := Ground.phase }, { on := 6, ground := Ground.phase }, { on := 7, ground := Ground.phase }, { on := 8, ground := Ground.phase }, { on := 9, ground := Ground.phase }, { on := 10, ground := Ground.phase }, { on := 11, ground := Ground.phase }, { on := 12, ground := Ground.phase }, { on := 13, ground := Ground.phase }, { on := 14, ground := Ground.phase }, { on := 15, ground := Ground.phase }, { on := 16, ground := Ground.phase }, { on := 17, ground := Ground.phase }], guard := none }) (v := ?vrb3r24o18) rfl (by kernel_rfl) (by kernel_rfl) (by kernel_rfl) (fun _ _ _ h => h) (Or.inl ⟨by rfl, ?hrb3r24o18⟩) hS ?_
        case hrb3r24o18 => (intro wx hx; skip; go_simp; (try with_reducible rfl))
        try simp only [Act.put, List.setIfInBounds_toArray, List.set_cons_zero, List.set_cons_succ]
        refine wpAnyH_done (by kernel_rfl) ?_ _
        clear hS hS0
        go_wp2
        go_roundw
        case rel => exact ⟨k + 1, L3, by omega, by go_num, Lib.hid (show Grommet.Own w _ ((P4 G H a b c g r XS L3 L3) ++ [boxP Z 40 (stepC (D : Int) xn v0 v1 v2 v3 v4 v5 v6 v7 v8 v9 xdr)]) from hOr.out).less⟩
        case measure => simp [intOf]; omega
      · obtain ⟨L3, en, HA, HB⟩ := wipe_both a b c xn XS L2 hxl
        unfold gv at HA HB
        have HA := Lib.hid (fun wx (hO : Grommet.Own w wx (P5 G H Z a b c g r XS L2 L2 (stepC (D : Int) xn v0 v1 v2 v3 v4 v5 v6 v7 v8 v9 xdr))) => HA 2 g w wx _ hO rfl)
        have HB := Lib.hid (fun wx (hO : Grommet.Own w wx (P5 G H Z a b c g r XS L3 L2 (stepC (D : Int) xn v0 v1 v2 v3 v4 v5 v6 v7 v8 v9 xdr))) => HB 3 r w wx _ hO rfl)
        have qe : (en == en) = true := by simp
        obtain ⟨hx0, hx1, hx2⟩ := ss_of' hOr.out
        obtain ⟨y0, y1, y2⟩ := GeoS.cells hx0
        obtain ⟨q0, q1, q2⟩ := GeoR.cells hx1
        obtain ⟨z0, z1, z2, z3, z4, z5, z6, z7, z8, z9, z10, z11, z12⟩ := SZ.facts hx2
        clear hx0 hx1 hx2
        go_upto_region 18 with fail
        clear y0 y1 y2 q0 q1 q2 z0 z1 z2 z3 z4 z5 z6 z7 z8 z9 z10 z11 z12
        have hOr := Lib.hid (hOr.out.quiet (grown_drew (World.grownBy.refl _ none)))
        have hS0 := Lib.hid (ss_of' hOr.out)
        refine wp_region_held_drew (S := fun w' => SS G H Z a b c (D : Int) xn v0 v1 v2 v3 v4 v5 v6 v7 v8 v9 xdr w') (by kernel_rfl) (hS0.out) (fun hS => ?_)
        refine wpAnyH_take (i := 0) (oi := { dst := some 69, op := Op.move (Operand.tmp 15), type := 4, pos := "law.go:64", after := #[], guard := none }) (v := ?vrc3r18o0) rfl (by kernel_rfl) (by kernel_rfl) (by kernel_rfl) (fun _ _ _ h => h) (Or.inl ⟨by rfl, ?hrc3r18o0⟩) hS ?_
        case hrc3r18o0 => (intro wx hx; skip; go_simp; (try with_reducible rfl))
        try simp only [Act.put, List.setIfInBounds_toArray, List.set_cons_zero, List.set_cons_succ]
        refine wpAnyH_take (i := 1) (oi := { dst := some 70, op := Op.move (Operand.tmp 69), type := 4, pos := "law.go:64", after := #[{ on := 0, ground := Ground.data }], guard := none }) (v := ?vrc3r18o1) rfl (by kernel_rfl) (by kernel_rfl) (by kernel_rfl) (fun _ _ _ h => h) (Or.inl ⟨by rfl, ?hrc3r18o1⟩) hS ?_
        case hrc3r18o1 => (intro wx hx; skip; go_simp; (try with_reducible rfl))
        try simp only [Act.put, List.setIfInBounds_toArray, List.set_cons_zero, List.set_cons_succ]
        refine wpAnyH_take (i := 2) (oi := { dst := some 71, op := Op.move (Operand.tmp 11), type := 31, pos := "law.go:64", after := #[{ on := 1, ground := Ground.guard }], guard := some (1, true) }) (v := ?vrc3r18o2) rfl (by kernel_rfl) (by kernel_rfl) (by kernel_rfl) (fun _ _ _ h => h) (Or.inl ⟨by rfl, ?hrc3r18o2⟩) hS ?_
        case hrc3r18o2 => (intro wx hx; skip; go_simp; (try with_reducible rfl))
        try simp only [Act.put, List.setIfInBounds_toArray, List.set_cons_zero, List.set_cons_succ]
        refine wpAnyH_take (i := 3) (oi := { dst := some 72, op := Op.load 23 (Operand.tmp 4), type := 23, pos := "law.go:64", after := #[{ on := 1, ground := Ground.guard }], guard := some (1, true) }) (v := ?vrc3r18o3) rfl (by kernel_rfl) (by kernel_rfl) (by kernel_rfl) (fun _ _ _ h => h) (Or.inl ⟨by rfl, ?hrc3r18o3⟩) hS ?_
        case hrc3r18o3 => (intro wx hx; obtain ⟨hx0, hx1, hx2⟩ := hx; obtain ⟨y0, y1, y2⟩ := GeoS.cells hx0; obtain ⟨q0, q1, q2⟩ := GeoR.cells hx1; obtain ⟨z0, z1, z2, z3, z4, z5, z6, z7, z8, z9, z10, z11, z12⟩ := SZ.facts hx2; go_simp; (try with_reducible rfl))
        try simp only [Act.put, List.setIfInBounds_toArray, List.set_cons_zero, List.set_cons_succ]
        refine wpAnyH_take (i := 4) (oi := { dst := some 73, op := Op.fieldAddr 40 (Operand.tmp 14) 1, type := 0, pos := "law.go:64", after := #[{ on := 1, ground := Ground.guard }], guard := some (1, true) }) (v := ?vrc3r18o4) rfl (by kernel_rfl) (by kernel_rfl) (by kernel_rfl) (fun _ _ _ h => h) (Or.inl ⟨by rfl, ?hrc3r18o4⟩) hS ?_
        case hrc3r18o4 => (intro wx hx; skip; go_simp; (try with_reducible rfl))
        try simp only [Act.put, List.setIfInBounds_toArray, List.set_cons_zero, List.set_cons_succ]
        refine wpAnyH_take (i := 5) (oi := { dst := some 74, op := Op.load 3 (Operand.tmp 73), type := 3, pos := "law.go:64", after := #[{ on := 4, ground := Ground.data }, { on := 1, ground := Ground.guard }], guard := some (1, true) }) (v := ?vrc3r18o5) rfl (by kernel_rfl) (by kernel_rfl) (by kernel_rfl) (fun _ _ _ h => h) (Or.inl ⟨by rfl, ?hrc3r18o5⟩) hS ?_
        case hrc3r18o5 => (intro wx hx; obtain ⟨hx0, hx1, hx2⟩ := hx; obtain ⟨y0, y1, y2⟩ := GeoS.cells hx0; obtain ⟨q0, q1, q2⟩ := GeoR.cells hx1; obtain ⟨z0, z1, z2, z3, z4, z5, z6, z7, z8, z9, z10, z11, z12⟩ := SZ.facts hx2; go_simp; (try with_reducible rfl))
        try simp only [Act.put, List.setIfInBounds_toArray, List.set_cons_zero, List.set_cons_succ]
        refine wpAnyH_take (i := 7) (oi := { dst := some 76, op := Op.move (Operand.tmp 12), type := 33, pos := "law.go:64", after := #[{ on := 1, ground := Ground.guard }], guard := some (1, true) }) (v := ?vrc3r18o7) rfl (by kernel_rfl) (by kernel_rfl) (by kernel_rfl) (fun _ _ _ h => h) (Or.inl ⟨by rfl, ?hrc3r18o7⟩) hS ?_
        case hrc3r18o7 => (intro wx hx; skip; go_simp; (try with_reducible rfl))
        try simp only [Act.put, List.setIfInBounds_toArray, List.set_cons_zero, List.set_cons_succ]
        refine wpAnyH_take (i := 8) (oi := { dst := some 77, op := Op.load 28 (Operand.tmp 9), type := 28, pos := "law.go:64", after := #[{ on := 1, ground := Ground.guard }], guard := some (1, true) }) (v := ?vrc3r18o8) rfl (by kernel_rfl) (by kernel_rfl) (by kernel_rfl) (fun _ _ _ h => h) (Or.inl ⟨by rfl, ?hrc3r18o8⟩) hS ?_
        case hrc3r18o8 => (intro wx hx; obtain ⟨hx0, hx1, hx2⟩ := hx; obtain ⟨y0, y1, y2⟩ := GeoS.cells hx0; obtain ⟨q0, q1, q2⟩ := GeoR.cells hx1; obtain ⟨z0, z1, z2, z3, z4, z5, z6, z7, z8, z9, z10, z11, z12⟩ := SZ.facts hx2; go_simp; (try with_reducible rfl))
        try simp only [Act.put, List.setIfInBounds_toArray, List.set_cons_zero, List.set_cons_succ]
        refine wpAnyH_take (i := 9) (oi := { dst := some 78, op := Op.fieldAddr 40 (Operand.tmp 14) 1, type := 0, pos := "law.go:64", after := #[{ on := 1, ground := Ground.guard }], guard := some (1, true) }) (v := ?vrc3r18o9) rfl (by kernel_rfl) (by kernel_rfl) (by kernel_rfl) (fun _ _ _ h => h) (Or.inl ⟨by rfl, ?hrc3r18o9⟩) hS ?_
        case hrc3r18o9 => (intro wx hx; skip; go_simp; (try with_reducible rfl))
        try simp only [Act.put, List.setIfInBounds_toArray, List.set_cons_zero, List.set_cons_succ]
        refine wpAnyH_take (i := 10) (oi := { dst := some 79, op := Op.load 3 (Operand.tmp 78), type := 3, pos := "law.go:64", after := #[{ on := 9, ground := Ground.data }, { on := 1, ground := Ground.guard }], guard := some (1, true) }) (v := ?vrc3r18o10) rfl (by kernel_rfl) (by kernel_rfl) (by kernel_rfl) (fun _ _ _ h => h) (Or.inl ⟨by rfl, ?hrc3r18o10⟩) hS ?_
        case hrc3r18o10 => (intro wx hx; obtain ⟨hx0, hx1, hx2⟩ := hx; obtain ⟨y0, y1, y2⟩ := GeoS.cells hx0; obtain ⟨q0, q1, q2⟩ := GeoR.cells hx1; obtain ⟨z0, z1, z2, z3, z4, z5, z6, z7, z8, z9, z10, z11, z12⟩ := SZ.facts hx2; go_simp; (try with_reducible rfl))
        try simp only [Act.put, List.setIfInBounds_toArray, List.set_cons_zero, List.set_cons_succ]
        refine wpAnyH_ready (rs := [6]) (by kernel_rfl) (by simp) ?_
        refine AllReadyH.cons (o := { dst := some 75, op := Op.call { callee := Callee.value (Operand.func 19), args := #[Operand.tmp 71, Operand.tmp 72, Operand.tmp 74], argTypes := #[31, 23, 3] }, type := 47, pos := "law.go:64", after := #[{ on := 2, ground := Ground.data }, { on := 3, ground := Ground.data }, { on := 5, ground := Ground.data }, { on := 1, ground := Ground.chain }, { on := 1, ground := Ground.guard }], guard := some (1, true) }) rfl (fun K hK => ?_) AllReadyH.nil
        go_simp
        refine (HA.out _ hOr.out).mono ?_
        rintro e u7 ⟨rfl, hn⟩
        have hOn : Hid (Grommet.Own w u7 (P5 G H Z a b c g r XS L3 L2 (stepC (D : Int) xn v0 v1 v2 v3 v4 v5 v6 v7 v8 v9 xdr))) := Lib.hid hn
        clear hOr hn HA
        have hOr := hOn
        clear hOn
        have hS1 := ss_of' hOr.out
        refine hK.out _ _ ?hsrc3r18o6 (fun hS => ?_)
        case hsrc3r18o6 => (exact hS1)
        clear hK K
        try simp only [Act.put, List.setIfInBounds_toArray, List.set_cons_zero, List.set_cons_succ]
        refine wpAnyH_ready (rs := [11]) (by kernel_rfl) (by simp) ?_
        refine AllReadyH.cons (o := { dst := some 80, op := Op.call { callee := Callee.value (Operand.func 20), args := #[Operand.tmp 76, Operand.tmp 77, Operand.tmp 79], argTypes := #[33, 28, 3] }, type := 47, pos := "law.go:64", after := #[{ on := 7, ground := Ground.data }, { on := 8, ground := Ground.data }, { on := 10, ground := Ground.data }, { on := 6, ground := Ground.chain }, { on := 1, ground := Ground.guard }], guard := some (1, true) }) rfl (fun K hK => ?_) AllReadyH.nil
        go_simp
        refine (HB.out _ hOr.out).mono ?_
        rintro e u8 ⟨rfl, hn⟩
        have hOn : Hid (Grommet.Own w u8 (P5 G H Z a b c g r XS L3 L3 (stepC (D : Int) xn v0 v1 v2 v3 v4 v5 v6 v7 v8 v9 xdr))) := Lib.hid hn
        clear hOr hn HB
        have hOr := hOn
        clear hOn
        have hS1 := ss_of' hOr.out
        refine hK.out _ _ ?hsrc3r18o11 (fun hS => ?_)
        case hsrc3r18o11 => (exact hS1)
        clear hK K
        try simp only [Act.put, List.setIfInBounds_toArray, List.set_cons_zero, List.set_cons_succ]
        refine wpAnyH_take (i := 12) (oi := { dst := some 81, op := Op.binOp BinOp.eql 47 (Operand.tmp 75) (Operand.tmp 80) 47, type := 4, pos := "law.go:64", after := #[{ on := 6, ground := Ground.data }, { on := 11, ground := Ground.data }, { on := 1, ground := Ground.guard }], guard := some (1, true) }) (v := ?vrc3r18o12) rfl (by kernel_rfl) (by kernel_rfl) (by kernel_rfl) (fun _ _ _ h => h) (Or.inl ⟨by rfl, ?hrc3r18o12⟩) hS ?_
        case hrc3r18o12 => (intro wx hx; skip; go_simp; (try with_reducible rfl))
        try simp only [Act.put, List.setIfInBounds_toArray, List.set_cons_zero, List.set_cons_succ]
        refine wpAnyH_take (i := 13) (oi := { dst := some 82, op := Op.pick (Operand.tmp 70) (Operand.tmp 81) (Operand.const (Value.bool false)), type := 4, pos := "law.go:64", after := #[{ on := 1, ground := Ground.data }, { on := 12, ground := Ground.data }], guard := none }) (v := ?vrc3r18o13) rfl (by kernel_rfl) (by kernel_rfl) (by kernel_rfl) (fun _ _ _ h => h) (Or.inl ⟨by rfl, ?hrc3r18o13⟩) hS ?_
        case hrc3r18o13 => (intro wx hx; skip; go_simp; (try with_reducible rfl))
        try simp only [Act.put, List.setIfInBounds_toArray, List.set_cons_zero, List.set_cons_succ]
        refine wpAnyH_take (i := 14) (oi := { dst := some 15, op := Op.assign (Operand.tmp 82), type := 4, pos := "law.go:64", after := #[{ on := 13, ground := Ground.data }, { on := 11, ground := Ground.chain }, { on := 0, ground := Ground.phase }, { on := 1, ground := Ground.phase }, { on := 2, ground := Ground.phase }, { on := 3, ground := Ground.phase }, { on := 4, ground := Ground.phase }, { on := 5, ground := Ground.phase }, { on := 6, ground := Ground.phase }, { on := 7, ground := Ground.phase }, { on := 8, ground := Ground.phase }, { on := 9, ground := Ground.phase }, { on := 10, ground := Ground.phase }, { on := 11, ground := Ground.phase }, { on := 12, ground := Ground.phase }, { on := 13, ground := Ground.phase }], guard := none }) (v := ?vrc3r18o14) rfl (by kernel_rfl) (by kernel_rfl) (by kernel_rfl) (fun _ _ _ h => h) (Or.inl ⟨by rfl, ?hrc3r18o14⟩) hS ?_
        case hrc3r18o14 => (intro wx hx; skip; go_simp; (try with_reducible rfl))
        try simp only [Act.put, List.setIfInBounds_toArray, List.set_cons_zero, List.set_cons_succ]
        refine wpAnyH_done (by kernel_rfl) ?_ _
        clear hS hS0
        go_wp2
        go_roundw
        case rel => exact ⟨k + 1, L3, by omega, by go_num, Lib.hid (show Grommet.Own w _ ((P4 G H a b c g r XS L3 L3) ++ [boxP Z 40 (stepC (D : Int) xn v0 v1 v2 v3 v4 v5 v6 v7 v8 v9 xdr)]) from hOr.out).less⟩
        case measure => simp [intOf]; omega
    · have hlt' : ¬ (k : Int) < (l3 : Int) := by omega
      obtain ⟨mL, hmL⟩ : ∃ mL, L.length = mL := ⟨_, rfl⟩
      obtain ⟨adl, cpl, hcl, _, hatl⟩ := refQ_obj hO.out 3 rfl
      have hwl := Own.wl hO.out 2 rfl
      have hmb : mL ≤ 96 := by rw [← hmL]; exact hwl.1.few
      rw [hmL] at hcl
      have HmL := Lib.hid hmL
      have hR0 : SR r adl mL cpl wr := hcl
      have hR0 := Lib.hid (SR.keep hR0 (grown_drew (World.grownBy.refl wr none)))
      have hat9 := Lib.hid (hatl.grown (grown_drew (World.grownBy.refl wr none)) (by simp))
      have HW := Lib.hid (fun wx (h : Grommet.Own w wx (P4 G H a b c g r XS L L)) => WritesG 2 g XS L w wx _ h rfl)
      rw [hmL] at HW
      have hOr := Lib.hid (hO.out.quiet (grown_drew (World.grownBy.refl wr none)))
      clear hO hwl hcl hatl hmL hlt hk
      go_wp2_with fail

      refine wp_region_held_drew (S := fun w' => SR r adl mL cpl w') (by kernel_rfl) (hR0.out) (fun hS => ?_)
      refine wpAnyH_take (i := 0) (oi := { dst := some 134, op := Op.move (Operand.tmp 11), type := 31, pos := "law.go:70", after := #[], guard := none }) (v := ?vrd3r27o0) rfl (by kernel_rfl) (by kernel_rfl) (by kernel_rfl) (fun _ _ _ h => h) (Or.inl ⟨by rfl, ?hrd3r27o0⟩) hS ?_
      case hrd3r27o0 => (intro wx hx; skip; go_simp; (try with_reducible rfl))
      try simp only [Act.put, List.setIfInBounds_toArray, List.set_cons_zero, List.set_cons_succ]
      refine wpAnyH_take (i := 2) (oi := { dst := some 136, op := Op.move (Operand.tmp 12), type := 33, pos := "law.go:70", after := #[], guard := none }) (v := ?vrd3r27o2) rfl (by kernel_rfl) (by kernel_rfl) (by kernel_rfl) (fun _ _ _ h => h) (Or.inl ⟨by rfl, ?hrd3r27o2⟩) hS ?_
      case hrd3r27o2 => (intro wx hx; skip; go_simp; (try with_reducible rfl))
      try simp only [Act.put, List.setIfInBounds_toArray, List.set_cons_zero, List.set_cons_succ]
      refine wpAnyH_take (i := 3) (oi := { dst := some 137, op := Op.nilCheck (Operand.tmp 136), type := 0, pos := "law.go:70", after := #[{ on := 2, ground := Ground.data }], guard := none }) (v := ?vrd3r27o3) rfl (by kernel_rfl) (by kernel_rfl) (by kernel_rfl) (fun _ _ _ h => h) (Or.inl ⟨by rfl, ?hrd3r27o3⟩) hS ?_
      case hrd3r27o3 => (intro wx hx; skip; go_simp; (try with_reducible rfl))
      try simp only [Act.put, List.setIfInBounds_toArray, List.set_cons_zero, List.set_cons_succ]
      refine wpAnyH_take (i := 4) (oi := { dst := some 138, op := Op.fieldAddr 43 (Operand.tmp 137) 1, type := 0, pos := "law.go:70", after := #[{ on := 3, ground := Ground.data }], guard := none }) (v := ?vrd3r27o4) rfl (by kernel_rfl) (by kernel_rfl) (by kernel_rfl) (fun _ _ _ h => h) (Or.inl ⟨by rfl, ?hrd3r27o4⟩) hS ?_
      case hrd3r27o4 => (intro wx hx; skip; go_simp; (try with_reducible rfl))
      try simp only [Act.put, List.setIfInBounds_toArray, List.set_cons_zero, List.set_cons_succ]
      refine wpAnyH_take (i := 5) (oi := { dst := some 139, op := Op.load 41 (Operand.tmp 138), type := 41, pos := "law.go:70", after := #[{ on := 4, ground := Ground.data }], guard := none }) (v := ?vrd3r27o5) rfl (by kernel_rfl) (by kernel_rfl) (by kernel_rfl) (fun _ _ _ h => h) (Or.inl ⟨by rfl, ?hrd3r27o5⟩) hS ?_
      case hrd3r27o5 => (intro wx hx; have x0 := hx; unfold SR at x0; go_simp; (try with_reducible rfl))
      try simp only [Act.put, List.setIfInBounds_toArray, List.set_cons_zero, List.set_cons_succ]
      refine wpAnyH_ready (rs := [1]) (by kernel_rfl) (by simp) ?_
      refine AllReadyH.cons (o := { dst := some 135, op := Op.call { callee := Callee.value (Operand.func 22), args := #[Operand.tmp 134], argTypes := #[31] }, type := 41, pos := "law.go:70", after := #[{ on := 0, ground := Ground.data }], guard := none }) rfl (fun K hK => ?_) AllReadyH.nil
      go_simp
      refine (HW.out _ hOr.out).mono ?_
      rintro e u4 ⟨ad3, cp3, rfl, hO4, hg4⟩
      have hS1 := SR.keep hS hg4
      have hA4 := hat9.out.grown hg4 (by simp)
      have hOn : Hid (Grommet.Own w u4 ((P4 G H a b c g r XS L L) ++ [rowP 82 2 (.slice ad3 mL cp3) mL (wcells L)])) := Lib.hid hO4
      clear hOr hat9 hO4 hg4 HW
      obtain ⟨p7, _⟩ := Own.pairs hOn.out 4 rfl
      have HS9 := Lib.hid (SameW_any ad3 adl mL mL cp3 cpl L L u4 p7 hA4 HmL.out HmL.out (by omega))
      rw [decide_eq_true rfl] at HS9
      clear p7 hA4
      have hOr := hOn
      clear hOn
      refine hK.out _ _ ?hsrd3r27o1 (fun hS => ?_)
      case hsrd3r27o1 => (exact hS1)
      clear hK K
      try simp only [Act.put, List.setIfInBounds_toArray, List.set_cons_zero, List.set_cons_succ]
      refine wpAnyH_ready (rs := [6]) (by kernel_rfl) (by simp) ?_
      refine AllReadyH.cons (o := { dst := some 140, op := Op.call { callee := Callee.value (Operand.func 21), args := #[Operand.tmp 135, Operand.tmp 139], argTypes := #[41, 41] }, type := 4, pos := "law.go:70", after := #[{ on := 1, ground := Ground.data }, { on := 5, ground := Ground.data }, { on := 1, ground := Ground.chain }], guard := none }) rfl (fun K hK => ?_) AllReadyH.nil
      go_simp
      refine HS9.out.mono ?_
      rintro e u5 ⟨rfl, hg5⟩
      have hS1 := SR.keep hS hg5
      have hOn := Lib.hid (hOr.out.quiet hg5)
      clear hOr hg5 HS9
      have hOr := hOn
      clear hOn
      refine hK.out _ _ ?hsrd3r27o6 (fun hS => ?_)
      case hsrd3r27o6 => (exact hS1)
      clear hK K
      try simp only [Act.put, List.setIfInBounds_toArray, List.set_cons_zero, List.set_cons_succ]
      refine wpAnyH_take (i := 7) (oi := { dst := some 141, op := Op.move (Operand.tmp 140), type := 4, pos := "law.go:70", after := #[{ on := 6, ground := Ground.data }, { on := 6, ground := Ground.chain }], guard := none }) (v := ?vrd3r27o7) rfl (by kernel_rfl) (by kernel_rfl) (by kernel_rfl) (fun _ _ _ h => h) (Or.inl ⟨by rfl, ?hrd3r27o7⟩) hS ?_
      case hrd3r27o7 => (intro wx hx; skip; go_simp; (try with_reducible rfl))
      try simp only [Act.put, List.setIfInBounds_toArray, List.set_cons_zero, List.set_cons_succ]
      refine wpAnyH_ready (rs := [8]) (by kernel_rfl) (by simp) ?_
      refine AllReadyH.cons (o := { dst := some 142, op := Op.call { callee := Callee.value (Operand.func 8), args := #[], argTypes := #[] }, type := 4, pos := "law.go:70", after := #[{ on := 7, ground := Ground.chain }, { on := 7, ground := Ground.guard }], guard := some (7, true) }) rfl (fun K hK => ?_) AllReadyH.nil
      go_simp
      refine (HWk.out _).mono ?_
      rintro e u6 ⟨rfl, hg6⟩
      have hS1 := SR.keep hS hg6
      have hfin := Lib.hid (grown_trans hOr.out.grown hg6)
      clear hOr hg6 HWk
      refine hK.out _ _ ?hsrd3r27o8 (fun hS => ?_)
      case hsrd3r27o8 => (exact hS1)
      clear hK K
      try simp only [Act.put, List.setIfInBounds_toArray, List.set_cons_zero, List.set_cons_succ]
      refine wpAnyH_take (i := 9) (oi := { dst := some 143, op := Op.pick (Operand.tmp 141) (Operand.tmp 142) (Operand.const (Value.bool false)), type := 4, pos := "law.go:70", after := #[{ on := 7, ground := Ground.data }, { on := 8, ground := Ground.data }], guard := none }) (v := ?vrd3r27o9) rfl (by kernel_rfl) (by kernel_rfl) (by kernel_rfl) (fun _ _ _ h => h) (Or.inl ⟨by rfl, ?hrd3r27o9⟩) hS ?_
      case hrd3r27o9 => (intro wx hx; skip; go_simp; (try with_reducible rfl))
      try simp only [Act.put, List.setIfInBounds_toArray, List.set_cons_zero, List.set_cons_succ]
      refine wpAnyH_take (i := 10) (oi := { dst := some 8, op := Op.assign (Operand.tmp 143), type := 4, pos := "law.go:70", after := #[{ on := 9, ground := Ground.data }, { on := 8, ground := Ground.chain }, { on := 0, ground := Ground.phase }, { on := 1, ground := Ground.phase }, { on := 2, ground := Ground.phase }, { on := 3, ground := Ground.phase }, { on := 4, ground := Ground.phase }, { on := 5, ground := Ground.phase }, { on := 6, ground := Ground.phase }, { on := 7, ground := Ground.phase }, { on := 8, ground := Ground.phase }, { on := 9, ground := Ground.phase }], guard := none }) (v := ?vrd3r27o10) rfl (by kernel_rfl) (by kernel_rfl) (by kernel_rfl) (fun _ _ _ h => h) (Or.inl ⟨by rfl, ?hrd3r27o10⟩) hS ?_
      case hrd3r27o10 => (intro wx hx; skip; go_simp; (try with_reducible rfl))
      try simp only [Act.put, List.setIfInBounds_toArray, List.set_cons_zero, List.set_cons_succ]
      refine wpAnyH_done (by kernel_rfl) ?_ _
      go_wp2
      go_ret
      exact ⟨rfl, hfin.out⟩

theorem walk (a b c : Int) (td : Option Addr) (tl tc : Nat) (T : List Tur) (C : Int) (a3 : Option Addr) (l3 c3 : Nat) (TT : List Stp) (w : World) (_ : (Lit.int .i64 a).wf = true) (_ : (Lit.int .i64 b).wf = true) (_ : (Lit.int .i64 c).wf = true) (hT : TursIn w td tl T) (hC : (Lit.int .u16 C).wf = true) (hTT : StpsIn w a3 l3 TT) :
    Calls Try.prog 3 #[gv a b c, .slice td tl tc, .int .u16 C, .slice a3 l3 c3] w (WorksIs w) := by
  have hb := bounds_u16 hC
  obtain ⟨C, rfl⟩ := Int.eq_ofNat_of_zero_le hb.1
  by_cases h : 60 < tl ∨ 60 < l3
  · exact walk_far a b c td tl tc C a3 l3 c3 w h
  · exact walk_at a b c td tl tc T C (by omega) a3 l3 c3 TT w hT hTT (by omega) (by omega)
end Go.Proofs.Ytmoddhfemejekaa.inodePlays
