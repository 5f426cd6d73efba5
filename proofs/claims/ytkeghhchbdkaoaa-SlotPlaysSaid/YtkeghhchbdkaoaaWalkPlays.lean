/- SlotPlays, walked. -/
import Derived.Test.YtkeghhchbdkaoaaPlaK
import Derived.Test.YtkeghhchbdkaoaaSteps
import Derived.Deep.DeepCutAuto
import Derived.Deep.CutBlock
import Derived.Deep.RegionHeld
namespace Go.Proofs.Ytkeghhchbdkaoaa.slotPlays
open Go.RowKit Go.Grommet

set_option maxRecDepth 100000 in
theorem head_same (ob : Bool) (ge mk : Nat) (wx : World) : (binOp .eql 38 (.agg #[.bool ob, .int .u64 (ge : Int), .int .u64 (mk : Int)]) (.agg #[.bool ob, .int .u64 (ge : Int), .int .u64 (mk : Int)])).run Try.prog wx = .ok (.bool true) wx := by
  go_simp
set_option maxRecDepth 100000 in
theorem res_same (er ra rb : Nat) (d : ByteArray) (wx : World) : (binOp .eql 41 (.agg #[.int .i64 (er : Int), .int .u64 (ra : Int), .int .u64 (rb : Int), .string d]) (.agg #[.int .i64 (er : Int), .int .u64 (ra : Int), .int .u64 (rb : Int), .string d])).run Try.prog wx = .ok (.bool true) wx := by
  go_simp

/-- 'great': if it is not, they are few. -/
def GreatIs (n : Nat) (w : World) (e : Ending) (w' : World) : Prop := ∃ b, e = .returned (.bool b) ∧ (b = false → n ≤ 60) ∧ w' = w
set_option maxRecDepth 100000 in
set_option maxHeartbeats 2000000 in
theorem great_any (a3 : Option Addr) (l3 c3 : Nat) (TT : List Stp) (w : World) (hTT : StpsIn w a3 l3 TT) : Calls Try.prog 8 #[.slice a3 l3 c3] w (GreatIs l3 w) := by
  by_cases h : 60 < l3
  · have h' : (60 : Int) < (l3 : Int) := by omega
    clear hTT
    go_enter Try.func8, Try.ntmps8
    go_wp2
    go_ret
    exact ⟨true, rfl, (fun c => by cases c), rfl⟩
  · have h' : ¬ (60 : Int) < (l3 : Int) := by omega
    have HT := Lib.hid hTT
    clear hTT
    go_enter Try.func8, Try.ntmps8
    go_wp2_with fail
    go_loopw [3] (fun c wr => ∃ k : Nat, k ≤ l3 ∧ c = .int .i64 (k : Int) ∧ wr = w) (fun c _ => l3 - (intOf c).toNat)
    case atStart => exact ⟨0, Nat.zero_le _, rfl, rfl⟩
    case round =>
      obtain ⟨k, hk, rfl, rfl⟩ := hrel
      have k0 : (0 : Int) ≤ (k : Int) := by omega
      by_cases hlt : k < l3
      · have hlt' : (k : Int) < (l3 : Int) := by omega
        obtain ⟨x, hx⟩ : ∃ x, TT[k]? = some x := ⟨TT[k]'(by rw [HT.out.1]; exact hlt), List.getElem?_eq_getElem _⟩
        obtain ⟨tg, to', htd, d0, d1, d2, d3, d4, d5, d6, d7, d8, d9, d10, d11⟩ := HT.out.2.2 k x hx
        subst htd
        clear hx d0 d1 d2 d3 d4 d5 d6 d7 d8 d9 d11
        obtain ⟨n, hn⟩ : ∃ n : Nat, x.data.size = n := ⟨_, rfl⟩
        by_cases c : 1000 < n
        · have c' : (1000 : Int) < (n : Int) := by omega
          go_wp2
          go_ret
          exact ⟨true, rfl, (fun c => by cases c), rfl⟩
        · have c' : ¬ (1000 : Int) < (n : Int) := by omega
          go_wp2
          go_roundw
          case rel => exact ⟨k + 1, by omega, by go_num, by first | rfl | trivial⟩
          case measure => simp [intOf]; omega
      · have hlt' : ¬ (k : Int) < (l3 : Int) := by omega
        go_wp2
        go_ret
        exact ⟨false, rfl, (fun _ => by omega), rfl⟩

set_option maxRecDepth 100000 in
set_option maxHeartbeats 1000000 in
theorem walk_far (td : Option Addr) (tl tc : Nat) (C : Nat) (a3 : Option Addr) (l3 c3 : Nat) (w : World) (h : 40 < tl) :
    Calls Try.prog 3 #[.slice td tl tc, .int .u16 (C : Int), .slice a3 l3 c3] w (WorksIs w) := by
  have HW := Lib.hid (fun wx => works_any wx)
  have g1 : (40 : Int) < (tl : Int) := by omega
  clear h
  go_enter Try.func3, Try.ntmps3
  go_wp2_with fail
  refine (HW.out _).mono ?_
  rintro e w5 ⟨rfl, hg⟩
  go_wp2
  go_ret
  exact ⟨rfl, hg⟩

theorem NewG (ad : Option Addr) (l c : Nat) (xs : List Nat) (w0 w : World) (Ps : List Pr) (h : Grommet.Own w0 w Ps) (hx : Words w ad l xs) (hl : l ≤ 549755813888) (hnil : ad = none → l = 0 ∧ c = 0) :
    Calls Try.prog 12 #[.slice ad l c] w fun e w' => ∃ g, e = .returned (.pointer (some ⟨g, 0, none⟩)) ∧ Grommet.Own w0 w' (Ps ++ [viewP g xs []]) ∧ w.grownBy w' none := by
  refine (New_any ad l c xs w hx hl hnil).mono ?_
  rintro e w' ⟨g, F, he, hv, hF, hg⟩
  exact ⟨g, he, h.add (P := viewP g xs []) hv hF hg, hg⟩
def stepC (d i kk : Int) (ob : Bool) (ge mk sq : Nat) (er : Int) (ra rb : Nat) (dd : ByteArray) (dr : Bool) : Array Value := #[.int .u8 d, .int .i64 i, .int .i64 kk, .bool ob, .int .u64 (ge : Int), .int .u64 (mk : Int), .int .u64 (sq : Int), .int .i64 er, .int .u64 (ra : Int), .int .u64 (rb : Int), .string dd, .bool dr]
def SZ (Z : Nat) (d i kk : Int) (ob : Bool) (ge mk sq : Nat) (er : Int) (ra rb : Nat) (dd : ByteArray) (dr : Bool) (w : World) : Prop := w.heap[Z]? = some (.cells (stepC d i kk ob ge mk sq er ra rb dd dr) 43 (0, 0))
theorem SZ.facts {Z : Nat} {d i kk : Int} {ob : Bool} {ge mk sq : Nat} {er : Int} {ra rb : Nat} {dd : ByteArray} {dr : Bool} {w : World} (h : SZ Z d i kk ob ge mk sq er ra rb dd dr w) : w.cell? ⟨Z, 0, none⟩ = some (.int .u8 d) ∧ w.cell? ⟨Z, 1, none⟩ = some (.int .i64 i) ∧ w.cell? ⟨Z, 2, none⟩ = some (.int .i64 kk) ∧ w.cell? ⟨Z, 3, none⟩ = some (.bool ob) ∧ w.cell? ⟨Z, 4, none⟩ = some (.int .u64 (ge : Int)) ∧ w.cell? ⟨Z, 5, none⟩ = some (.int .u64 (mk : Int)) ∧ w.cell? ⟨Z, 6, none⟩ = some (.int .u64 (sq : Int)) ∧ w.cell? ⟨Z, 7, none⟩ = some (.int .i64 er) ∧ w.cell? ⟨Z, 8, none⟩ = some (.int .u64 (ra : Int)) ∧ w.cell? ⟨Z, 9, none⟩ = some (.int .u64 (rb : Int)) ∧ w.cell? ⟨Z, 10, none⟩ = some (.string dd) ∧ w.cell? ⟨Z, 11, none⟩ = some (.bool dr) := by
  unfold SZ at h
  simp [World.cell?, h, stepC]
theorem SZ.keep {Z : Nat} {d i kk : Int} {ob : Bool} {ge mk sq : Nat} {er : Int} {ra rb : Nat} {dd : ByteArray} {dr : Bool} {w w' : World} (h : SZ Z d i kk ob ge mk sq er ra rb dd dr w) (hg : w.grownBy w' none) : SZ Z d i kk ob ge mk sq er ra rb dd dr w' := (hg.block Z (lt_of_block h) (by simp)).trans h
def SR (r : Nat) (ad : Option Addr) (n cap : Nat) (w : World) : Prop := w.cell? ⟨r, 1, none⟩ = some (.slice ad n cap)
theorem SR.keep {r : Nat} {ad : Option Addr} {n cap : Nat} {w w' : World} (h : SR r ad n cap w) (hg : w.grownBy w' none) : SR r ad n cap w' := World.grownBy.cell hg h (by simp)
/-- The view, its twin. -/
def P2 (g r : Nat) (xs : List Nat) (L K : List (Nat × Nat)) : List Pr := [viewP g xs L, refQ r xs K]
def P3 (Z : Nat) (g r : Nat) (xs : List Nat) (L K : List (Nat × Nat)) (cs : Array Value) : List Pr := [viewP g xs L, refQ r xs K, boxP Z 43 cs]
theorem ss_of {Z g r : Nat} {xs : List Nat} {L K : List (Nat × Nat)} {d i kk : Int} {ob : Bool} {ge mk sq : Nat} {er : Int} {ra rb : Nat} {dd : ByteArray} {dr : Bool} {w0 w : World} {Qs : List Pr} (h : Grommet.Own w0 w (P3 Z g r xs L K (stepC d i kk ob ge mk sq er ra rb dd dr) ++ Qs)) : SZ Z d i kk ob ge mk sq er ra rb dd dr w := h.box 2 rfl
theorem ss_of' {Z g r : Nat} {xs : List Nat} {L K : List (Nat × Nat)} {d i kk : Int} {ob : Bool} {ge mk sq : Nat} {er : Int} {ra rb : Nat} {dd : ByteArray} {dr : Bool} {w0 w : World} (h : Grommet.Own w0 w (P3 Z g r xs L K (stepC d i kk ob ge mk sq er ra rb dd dr))) : SZ Z d i kk ob ge mk sq er ra rb dd dr w := h.box 2 rfl

set_option maxRecDepth 100000 in
set_option maxHeartbeats 8000000 in
theorem walk_at (td : Option Addr) (tl tc : Nat) (T : List Tur) (C : Nat) (hC : C < 65536) (a3 : Option Addr) (l3 c3 : Nat) (TT : List Stp) (w : World) (hT : TursIn w td tl T) (hTT : StpsIn w a3 l3 TT) (h0 : ¬ 40 < tl) :
    Calls Try.prog 3 #[.slice td tl tc, .int .u16 (C : Int), .slice a3 l3 c3] w (WorksIs w) := by
  have g1 : ¬ (40 : Int) < (tl : Int) := by omega
  have HT := Lib.hid hTT
  have HG := Lib.hid (great_any a3 l3 c3 TT w hTT)
  unfold GreatIs at HG
  have HSm := Lib.hid (fun wx => show Calls Try.prog 11 #[.int .u8 0, .int .u8 0] wx (fun e w' => e = .returned (.agg #[.int .i64 1, .int .i64 2, .int .i64 2]) ∧ wx.grownBy w' none) from Small_any 0 0 (by decide) (by decide) wx)
  have HI := Lib.hid (fun wx (hO : Grommet.Own w wx []) => show Calls Try.prog 10 #[.agg #[.int .i64 1, .int .i64 2, .int .i64 2], .slice td tl tc, .int .u16 (C : Int)] wx _ from ImageQ 1 2 2 C hC td tl tc T w wx _ hO hT (by omega))
  have HWk := Lib.hid (fun wx => works_any wx)
  clear hT hTT hC
  go_enter Try.func3, Try.ntmps3
  go_wp2_with fail
  refine HG.out.mono ?_
  rintro e u0 ⟨b, rfl, hb, rfl⟩
  cases b with
  | true =>
    clear hb HI HSm
    go_wp2_with fail
    refine (HWk.out _).mono ?_
    rintro e w5 ⟨rfl, hg⟩
    go_wp2
    go_ret
    exact ⟨rfl, hg⟩
  | false =>
  have h3 := hb rfl
  clear hb HG
  go_wp2_with fail
  refine (HSm.out _).mono ?_
  rintro e u1 ⟨rfl, hg⟩
  have hO0 := Lib.hid ((Own.nil u0).quiet hg)
  clear hg HSm
  obtain ⟨w, hw⟩ : ∃ w, w = u0 := ⟨_, rfl⟩
  subst hw
  go_wp2_with fail
  refine (HI.out _ hO0.out).mono ?_
  rintro e u1 ⟨XS, n, ad, cp, rfl, hWd, hnil, hn, hO1⟩
  have HN := Lib.hid (NewG ad n cp XS w u1 _ hO1 hWd (by omega) hnil)
  have HN2 := Lib.hid (fun g wx (hO : Grommet.Own w wx [viewP g XS []]) (hg : u1.grownBy wx none) => RefNewQ ad n cp XS w wx _ hO (hWd.keep hg (by simp)) (by omega) hnil)
  have HX := Lib.hid hWd.len
  have Hsm := Lib.hid hWd.small
  have Hn := Lib.hid hn
  clear HI hO0 hWd hnil hO1 hn
  go_wp2_with fail
  refine HN.out.mono ?_
  rintro e u2 ⟨g, rfl, hO1, hg⟩
  have HN3 := Lib.hid (HN2.out g u2 hO1 hg)
  clear HN HN2 hO1 hg
  go_wp2_with fail
  refine HN3.out.mono ?_
  rintro e u3 ⟨r, rfl, hO2⟩
  have hO2 : Hid (Grommet.Own w u3 (P2 g r XS [] [])) := Lib.hid hO2
  clear HN3
  go_wp2_with fail
  go_loopw [10] (fun i wr => ∃ (k : Nat) (L : List (Nat × Nat)), k ≤ l3 ∧ i = .int .i64 (k : Int) ∧ Hid (Grommet.Own w wr (P2 g r XS L L))) (fun i _ => l3 - (intOf i).toNat)
  case atStart => exact ⟨0, [], Nat.zero_le _, rfl, hO2⟩
  case round =>
    clear hO2
    obtain ⟨k, L, hk, rfl, hO⟩ := hrel
    have k0 : (0 : Int) ≤ (k : Int) := by omega
    by_cases hlt : k < l3
    · have hlt' : (k : Int) < (l3 : Int) := by omega
      obtain ⟨x, hx⟩ : ∃ x, TT[k]? = some x := ⟨TT[k]'(by rw [HT.out.1]; exact hlt), List.getElem?_eq_getElem _⟩
      obtain ⟨tg, to', htd, d0, d1, d2, d3, d4, d5, d6, d7, d8, d9, d10, d11⟩ := (HT.out.grown hO.out.grown).2.2 k x hx
      subst htd
      obtain ⟨ok0, ok1, ok2, ok4, ok5, ok6, ok7, ok8, ok9, ok10⟩ := HT.out.2.1 x (List.mem_of_getElem? hx)
      clear hx
      obtain ⟨xd, xi, xk, xo, xg, xm, xq, xe, xa, xb, xs_, xdr⟩ := x
      dsimp only at d0 d1 d2 d3 d4 d5 d6 d7 d8 d9 d10 d11 ok0 ok1 ok2 ok4 ok5 ok6 ok7 ok8 ok9 ok10
      have bd := bounds_u8 ok0
      have b4 := bounds_u64 ok4
      have b5 := bounds_u64 ok5
      have b6 := bounds_u64 ok6
      have b8 := bounds_u64 ok8
      have b9 := bounds_u64 ok9
      obtain ⟨D, rfl⟩ := Int.eq_ofNat_of_zero_le bd.1
      obtain ⟨ge, rfl⟩ := Int.eq_ofNat_of_zero_le b4.1
      obtain ⟨mk, rfl⟩ := Int.eq_ofNat_of_zero_le b5.1
      obtain ⟨sq, rfl⟩ := Int.eq_ofNat_of_zero_le b6.1
      obtain ⟨ra, rfl⟩ := Int.eq_ofNat_of_zero_le b8.1
      obtain ⟨rb, rfl⟩ := Int.eq_ofNat_of_zero_le b9.1
      have Hv := Lib.hid (show (ge < 18446744073709551616 ∧ mk < 18446744073709551616) ∧ sq < 18446744073709551616 ∧ ra < 18446744073709551616 ∧ rb < 18446744073709551616 by omega)
      clear ok0 ok1 ok2 ok4 ok5 ok6 ok7 ok8 ok9 ok10 bd b4 b5 b6 b8 b9
      have hOx : Grommet.Own w (wr.alloc (.cells (stepC (D : Int) xi xk xo ge mk sq xe ra rb xs_ xdr) 43)) (P3 wr.heap.size g r XS L L (stepC (D : Int) xi xk xo ge mk sq xe ra rb xs_ xdr)) := hO.out.addBox 43 (stepC (D : Int) xi xk xo ge mk sq xe ra rb xs_ xdr)
      have hOx := Lib.hid hOx
      clear hO
      go_upto_region 12 with fail
      obtain ⟨u4, hw5⟩ : ∃ u4, wr.alloc (.cells (stepC (D : Int) xi xk xo ge mk sq xe ra rb xs_ xdr) 43) = u4 := ⟨_, rfl⟩
      obtain ⟨Z, hZ⟩ : ∃ Z, wr.heap.size = Z := ⟨_, rfl⟩
      rw [hw5, hZ] at hOx
      rw [hZ]
      change Code.wp _ _ _ _ (wr.alloc (.cells (stepC (D : Int) xi xk xo ge mk sq xe ra rb xs_ xdr) 43))
      rw [hw5]
      clear hw5 hZ d0 d1 d2 d3 d4 d5 d6 d7 d8 d9 d10 d11
      obtain ⟨z0, z1, z2, z3, z4, z5, z6, z7, z8, z9, z10, z11⟩ := SZ.facts (ss_of' hOx.out)
      go_upto_if 52 with fail
      go_cut [] (fun wx => ∃ L2 : List (Nat × Nat), Hid (Grommet.Own w wx (P3 Z g r XS L2 L2 (stepC (D : Int) xi xk xo ge mk sq xe ra rb xs_ xdr))))
      case first =>
        as_aux_lemma =>
        cases xdr with
        | false =>
          go_wp2_with fail
          go_meet
          case rel => exact ⟨L, hOx⟩
        | true =>
          have HD := Lib.hid (DropH 0 g XS L w _ _ _ hOx.out rfl rfl)
          clear z0 z1 z2 z3 z4 z5 z6 z7 z8 z9 z10 z11
          go_wp2_with fail
          refine HD.out.mono ?_
          rintro e u6 ⟨rfl, hO6⟩
          have hO6 : Grommet.Own w u6 (P3 Z g r XS [] L (stepC (D : Int) xi xk xo ge mk sq xe ra rb xs_ true)) := hO6
          obtain ⟨ad7, cp7, e1, e2, _⟩ := refQ_obj hO6 1 rfl
          have hO7 : Hid (Grommet.Own w _ (P3 Z g r XS [] [] (stepC (D : Int) xi xk xo ge mk sq xe ra rb xs_ true))) := Lib.hid (refQ_nil hO6 1 rfl)
          clear HD hO6 hOx
          go_wp2_with fail
          go_meet
          case rel => exact ⟨[], hO7⟩
      case rest =>
      obtain ⟨L2, hO8⟩ := hcut
      clear hOx z0 z1 z2 z3 z4 z5 z6 z7 z8 z9 z10 z11
      have HR1 := Lib.hid (fun wx => slotMay_any xe (ra : Int) (rb : Int) xs_ wx)
      have HR2 := Lib.hid (fun wx => RResMay_any xe (ra : Int) (rb : Int) xs_ wx)
      obtain ⟨qr, hqr⟩ : ∃ qr, mayR xe xs_.size = qr := ⟨_, rfl⟩
      rw [hqr] at HR1 HR2
      have qb : (qr == qr) = true := by simp
      have hOr := Lib.hid (hO8.out.quiet (grown_drew (World.grownBy.refl _ none)))
      have hS0 := Lib.hid (ss_of' hOr.out)
      clear hO8 hqr
      go_wp2_with fail
      refine wp_region_held_drew (S := fun w' => SZ Z (D : Int) xi xk xo ge mk sq xe ra rb xs_ xdr w') (by kernel_rfl) (hS0.out) (fun hS => ?_)
      refine wpAnyH_take (i := 0) (oi := { dst := some 58, op := Op.fieldAddr 43 (Operand.tmp 11) 5, type := 0, pos := "law.go:90", after := #[], guard := none }) (v := ?vra3r15o0) rfl (by kernel_rfl) (by kernel_rfl) (by kernel_rfl) (fun _ _ _ h => h) (Or.inl ⟨by rfl, ?hra3r15o0⟩) hS ?_
      case hra3r15o0 => (intro wx hx; skip; go_simp; (try with_reducible rfl))
      try simp only [Act.put, List.setIfInBounds_toArray, List.set_cons_zero, List.set_cons_succ]
      refine wpAnyH_take (i := 1) (oi := { dst := some 59, op := Op.load 41 (Operand.tmp 58), type := 41, pos := "law.go:90", after := #[{ on := 0, ground := Ground.data }], guard := none }) (v := ?vra3r15o1) rfl (by kernel_rfl) (by kernel_rfl) (by kernel_rfl) (fun _ _ _ h => h) (Or.inl ⟨by rfl, ?hra3r15o1⟩) hS ?_
      case hra3r15o1 => (intro wx hx; obtain ⟨z0, z1, z2, z3, z4, z5, z6, z7, z8, z9, z10, z11⟩ := SZ.facts hx; go_simp; (try with_reducible rfl))
      try simp only [Act.put, List.setIfInBounds_toArray, List.set_cons_zero, List.set_cons_succ]
      refine wpAnyH_take (i := 3) (oi := { dst := some 61, op := Op.fieldAddr 43 (Operand.tmp 11) 5, type := 0, pos := "law.go:90", after := #[], guard := none }) (v := ?vra3r15o3) rfl (by kernel_rfl) (by kernel_rfl) (by kernel_rfl) (fun _ _ _ h => h) (Or.inl ⟨by rfl, ?hra3r15o3⟩) hS ?_
      case hra3r15o3 => (intro wx hx; skip; go_simp; (try with_reducible rfl))
      try simp only [Act.put, List.setIfInBounds_toArray, List.set_cons_zero, List.set_cons_succ]
      refine wpAnyH_take (i := 4) (oi := { dst := some 62, op := Op.load 41 (Operand.tmp 61), type := 41, pos := "law.go:90", after := #[{ on := 3, ground := Ground.data }], guard := none }) (v := ?vra3r15o4) rfl (by kernel_rfl) (by kernel_rfl) (by kernel_rfl) (fun _ _ _ h => h) (Or.inl ⟨by rfl, ?hra3r15o4⟩) hS ?_
      case hra3r15o4 => (intro wx hx; obtain ⟨z0, z1, z2, z3, z4, z5, z6, z7, z8, z9, z10, z11⟩ := SZ.facts hx; go_simp; (try with_reducible rfl))
      try simp only [Act.put, List.setIfInBounds_toArray, List.set_cons_zero, List.set_cons_succ]
      refine wpAnyH_ready (rs := [2]) (by kernel_rfl) (by simp) ?_
      refine AllReadyH.cons (o := { dst := some 60, op := Op.call { callee := Callee.value (Operand.func 15), args := #[Operand.tmp 59], argTypes := #[41] }, type := 4, pos := "law.go:90", after := #[{ on := 1, ground := Ground.data }], guard := none }) rfl (fun K hK => ?_) AllReadyH.nil
      go_simp
      refine (HR1.out _).mono ?_
      rintro e u5 ⟨rfl, hgA⟩
      have hS1 := SZ.keep hS hgA
      have hOn := Lib.hid (hOr.out.quiet hgA)
      clear hOr hgA HR1
      have hOr := hOn
      clear hOn
      refine hK.out _ _ ?hsra3r15o2 (fun hS => ?_)
      case hsra3r15o2 => (exact hS1)
      clear hK K
      try simp only [Act.put, List.setIfInBounds_toArray, List.set_cons_zero, List.set_cons_succ]
      refine wpAnyH_ready (rs := [5]) (by kernel_rfl) (by simp) ?_
      refine AllReadyH.cons (o := { dst := some 63, op := Op.call { callee := Callee.value (Operand.func 16), args := #[Operand.tmp 62], argTypes := #[41] }, type := 4, pos := "law.go:90", after := #[{ on := 4, ground := Ground.data }, { on := 2, ground := Ground.chain }], guard := none }) rfl (fun K hK => ?_) AllReadyH.nil
      go_simp
      refine (HR2.out _).mono ?_
      rintro e u6 ⟨rfl, hgA⟩
      have hS1 := SZ.keep hS hgA
      have hOn := Lib.hid (hOr.out.quiet hgA)
      clear hOr hgA HR2
      have hOr := hOn
      clear hOn
      refine hK.out _ _ ?hsra3r15o5 (fun hS => ?_)
      case hsra3r15o5 => (exact hS1)
      clear hK K
      try simp only [Act.put, List.setIfInBounds_toArray, List.set_cons_zero, List.set_cons_succ]
      refine wpAnyH_take (i := 6) (oi := { dst := some 64, op := Op.binOp BinOp.eql 4 (Operand.tmp 60) (Operand.tmp 63) 4, type := 4, pos := "law.go:90", after := #[{ on := 2, ground := Ground.data }, { on := 5, ground := Ground.data }], guard := none }) (v := ?vra3r15o6) rfl (by kernel_rfl) (by kernel_rfl) (by kernel_rfl) (fun _ _ _ h => h) (Or.inl ⟨by rfl, ?hra3r15o6⟩) hS ?_
      case hra3r15o6 => (intro wx hx; skip; go_simp; (try with_reducible rfl))
      try simp only [Act.put, List.setIfInBounds_toArray, List.set_cons_zero, List.set_cons_succ]
      refine wpAnyH_take (i := 7) (oi := { dst := some 12, op := Op.assign (Operand.tmp 64), type := 4, pos := "law.go:90", after := #[{ on := 6, ground := Ground.data }, { on := 5, ground := Ground.chain }, { on := 0, ground := Ground.phase }, { on := 1, ground := Ground.phase }, { on := 2, ground := Ground.phase }, { on := 3, ground := Ground.phase }, { on := 4, ground := Ground.phase }, { on := 5, ground := Ground.phase }, { on := 6, ground := Ground.phase }], guard := none }) (v := ?vra3r15o7) rfl (by kernel_rfl) (by kernel_rfl) (by kernel_rfl) (fun _ _ _ h => h) (Or.inl ⟨by rfl, ?hra3r15o7⟩) hS ?_
      case hra3r15o7 => (intro wx hx; skip; go_simp; (try with_reducible rfl))
      try simp only [Act.put, List.setIfInBounds_toArray, List.set_cons_zero, List.set_cons_succ]
      refine wpAnyH_done (by kernel_rfl) ?_ _
      clear hS hS1 hS0 qb
      obtain ⟨rr, hrr⟩ : ∃ rr, D % 6 = rr := ⟨_, rfl⟩
      have hr3 : rr < 6 := by omega
      have e5 : (D : Int) % 6 = (rr : Int) := by omega
      have e5' : Int.tmod (D : Int) 6 = (rr : Int) := by rw [Int.tmod_eq_emod_of_nonneg (by omega)]; exact e5
      have hxl : XS.length ≤ 1000000 := by rw [HX.out]; have := Hn.out; omega
      have hr : rr = 0 ∨ rr = 1 ∨ rr = 2 ∨ rr = 3 ∨ rr = 4 ∨ rr = 5 := by omega
      clear hrr hr3
      rcases hr with rfl | rfl | rfl | rfl | rfl | rfl
      · obtain ⟨ho, hge, hmk, en, HA, HB⟩ := get_both xi XS L2 hxl
        have HA := Lib.hid (HA 0 g w _ _ hOr.out rfl)
        have HB := Lib.hid (fun wx Qs (hO : Grommet.Own w wx ((P3 Z g r XS L2 L2 (stepC (D : Int) xi xk xo ge mk sq xe ra rb xs_ xdr)) ++ Qs)) => HB 1 r w wx _ hO rfl)
        have qe : (en == en) = true := by simp
        obtain ⟨z0, z1, z2, z3, z4, z5, z6, z7, z8, z9, z10, z11⟩ := SZ.facts (ss_of' hOr.out)
        clear hOr
        go_wp2_with fail
        refine HA.out.mono ?_
        rintro e u7 ⟨rfl, hO7⟩
        clear z0 z1 z2 z3 z4 z5 z6 z7 z8 z9 z10 z11 HA
        obtain ⟨X1, hX1⟩ : ∃ X, Hid (X = u7.heap.size) := ⟨_, Lib.hid rfl⟩
        have hO9 : Grommet.Own w (u7.alloc (.cells #[.bool ho, .int .u64 (hge : Int), .int .u64 (hmk : Int)] 38)) ((P3 Z g r XS L2 L2 (stepC (D : Int) xi xk xo ge mk sq xe ra rb xs_ xdr)) ++ [boxP X1 38 #[.bool ho, .int .u64 (hge : Int), .int .u64 (hmk : Int)]]) := by rw [hX1.out]; exact hO7.addBox _ _
        have HB := Lib.hid (HB.out _ _ hO9)
        obtain ⟨z0, z1, z2, z3, z4, z5, z6, z7, z8, z9, z10, z11⟩ := SZ.facts (ss_of hO9)
        clear hO9 hO7
        go_wp2_with fail
        rw [← hX1.out]
        refine HB.out.mono ?_
        rintro e u8 ⟨rfl, hO10⟩
        clear z0 z1 z2 z3 z4 z5 z6 z7 z8 z9 z10 z11 HB
        have hO11 : Grommet.Own w (u8.alloc (.cells #[.bool ho, .int .u64 (hge : Int), .int .u64 (hmk : Int)] 50)) ((P3 Z g r XS L2 L2 (stepC (D : Int) xi xk xo ge mk sq xe ra rb xs_ xdr)) ++ [boxP X1 38 #[.bool ho, .int .u64 (hge : Int), .int .u64 (hmk : Int)]] ++ [boxP u8.heap.size 50 #[.bool ho, .int .u64 (hge : Int), .int .u64 (hmk : Int)]]) := hO10.addBox _ _
        rw [List.append_assoc] at hO11
        obtain ⟨m0, m1, m2⟩ := HeadS.cells (show HeadS X1 ho hge hmk _ from hO11.box 3 rfl)
        obtain ⟨n0, n1, n2⟩ := HeadR.cells (show HeadR u8.heap.size ho hge hmk _ from hO11.box 4 rfl)
        have heq := head_same ho hge hmk
        have hOr := Lib.hid (hO11.less)
        clear hO10 hO11
        go_wp2
        go_roundw
        case rel => exact ⟨k + 1, L2, by omega, by go_num, Lib.hid (show Grommet.Own w _ ((P2 g r XS L2 L2) ++ [boxP Z 43 (stepC (D : Int) xi xk xo ge mk sq xe ra rb xs_ xdr)]) from hOr.out).less⟩
        case measure => simp [intOf]; omega
      · obtain ⟨L3, en, HA, HB⟩ := put_both xi xo ge mk Hv.out.1.1 Hv.out.1.2 XS L2 hxl
        have HA := Lib.hid (fun wx (hO : Grommet.Own w wx (P3 Z g r XS L2 L2 (stepC (D : Int) xi xk xo ge mk sq xe ra rb xs_ xdr))) => HA 0 g w wx _ hO rfl)
        have HB := Lib.hid (fun wx (hO : Grommet.Own w wx (P3 Z g r XS L3 L2 (stepC (D : Int) xi xk xo ge mk sq xe ra rb xs_ xdr))) => HB 1 r w wx _ hO rfl)
        have qe : (en == en) = true := by simp
        obtain ⟨z0, z1, z2, z3, z4, z5, z6, z7, z8, z9, z10, z11⟩ := SZ.facts (ss_of' hOr.out)
        go_upto_region 23 with fail
        clear z0 z1 z2 z3 z4 z5 z6 z7 z8 z9 z10 z11
        have hOr := Lib.hid (hOr.out.quiet (grown_drew (World.grownBy.refl _ none)))
        have hS0 := Lib.hid (ss_of' hOr.out)
        refine wp_region_held_drew (S := fun w' => SZ Z (D : Int) xi xk xo ge mk sq xe ra rb xs_ xdr w') (by kernel_rfl) (hS0.out) (fun hS => ?_)
        refine wpAnyH_take (i := 0) (oi := { dst := some 113, op := Op.move (Operand.tmp 12), type := 4, pos := "law.go:97", after := #[], guard := none }) (v := ?vrb3r23o0) rfl (by kernel_rfl) (by kernel_rfl) (by kernel_rfl) (fun _ _ _ h => h) (Or.inl ⟨by rfl, ?hrb3r23o0⟩) hS ?_
        case hrb3r23o0 => (intro wx hx; skip; go_simp; (try with_reducible rfl))
        try simp only [Act.put, List.setIfInBounds_toArray, List.set_cons_zero, List.set_cons_succ]
        refine wpAnyH_take (i := 1) (oi := { dst := some 114, op := Op.move (Operand.tmp 113), type := 4, pos := "law.go:97", after := #[{ on := 0, ground := Ground.data }], guard := none }) (v := ?vrb3r23o1) rfl (by kernel_rfl) (by kernel_rfl) (by kernel_rfl) (fun _ _ _ h => h) (Or.inl ⟨by rfl, ?hrb3r23o1⟩) hS ?_
        case hrb3r23o1 => (intro wx hx; skip; go_simp; (try with_reducible rfl))
        try simp only [Act.put, List.setIfInBounds_toArray, List.set_cons_zero, List.set_cons_succ]
        refine wpAnyH_take (i := 2) (oi := { dst := some 115, op := Op.move (Operand.tmp 8), type := 32, pos := "law.go:97", after := #[{ on := 1, ground := Ground.guard }], guard := some (1, true) }) (v := ?vrb3r23o2) rfl (by kernel_rfl) (by kernel_rfl) (by kernel_rfl) (fun _ _ _ h => h) (Or.inl ⟨by rfl, ?hrb3r23o2⟩) hS ?_
        case hrb3r23o2 => (intro wx hx; skip; go_simp; (try with_reducible rfl))
        try simp only [Act.put, List.setIfInBounds_toArray, List.set_cons_zero, List.set_cons_succ]
        refine wpAnyH_take (i := 3) (oi := { dst := some 116, op := Op.fieldAddr 43 (Operand.tmp 11) 1, type := 0, pos := "law.go:97", after := #[{ on := 1, ground := Ground.guard }], guard := some (1, true) }) (v := ?vrb3r23o3) rfl (by kernel_rfl) (by kernel_rfl) (by kernel_rfl) (fun _ _ _ h => h) (Or.inl ⟨by rfl, ?hrb3r23o3⟩) hS ?_
        case hrb3r23o3 => (intro wx hx; skip; go_simp; (try with_reducible rfl))
        try simp only [Act.put, List.setIfInBounds_toArray, List.set_cons_zero, List.set_cons_succ]
        refine wpAnyH_take (i := 4) (oi := { dst := some 117, op := Op.load 3 (Operand.tmp 116), type := 3, pos := "law.go:97", after := #[{ on := 3, ground := Ground.data }, { on := 1, ground := Ground.guard }], guard := some (1, true) }) (v := ?vrb3r23o4) rfl (by kernel_rfl) (by kernel_rfl) (by kernel_rfl) (fun _ _ _ h => h) (Or.inl ⟨by rfl, ?hrb3r23o4⟩) hS ?_
        case hrb3r23o4 => (intro wx hx; obtain ⟨z0, z1, z2, z3, z4, z5, z6, z7, z8, z9, z10, z11⟩ := SZ.facts hx; go_simp; (try with_reducible rfl))
        try simp only [Act.put, List.setIfInBounds_toArray, List.set_cons_zero, List.set_cons_succ]
        refine wpAnyH_take (i := 5) (oi := { dst := some 118, op := Op.fieldAddr 43 (Operand.tmp 11) 3, type := 0, pos := "law.go:97", after := #[{ on := 1, ground := Ground.guard }], guard := some (1, true) }) (v := ?vrb3r23o5) rfl (by kernel_rfl) (by kernel_rfl) (by kernel_rfl) (fun _ _ _ h => h) (Or.inl ⟨by rfl, ?hrb3r23o5⟩) hS ?_
        case hrb3r23o5 => (intro wx hx; skip; go_simp; (try with_reducible rfl))
        try simp only [Act.put, List.setIfInBounds_toArray, List.set_cons_zero, List.set_cons_succ]
        refine wpAnyH_take (i := 6) (oi := { dst := some 119, op := Op.load 38 (Operand.tmp 118), type := 38, pos := "law.go:97", after := #[{ on := 5, ground := Ground.data }, { on := 1, ground := Ground.guard }], guard := some (1, true) }) (v := ?vrb3r23o6) rfl (by kernel_rfl) (by kernel_rfl) (by kernel_rfl) (fun _ _ _ h => h) (Or.inl ⟨by rfl, ?hrb3r23o6⟩) hS ?_
        case hrb3r23o6 => (intro wx hx; obtain ⟨z0, z1, z2, z3, z4, z5, z6, z7, z8, z9, z10, z11⟩ := SZ.facts hx; go_simp; (try with_reducible rfl))
        try simp only [Act.put, List.setIfInBounds_toArray, List.set_cons_zero, List.set_cons_succ]
        refine wpAnyH_take (i := 8) (oi := { dst := some 121, op := Op.move (Operand.tmp 9), type := 34, pos := "law.go:97", after := #[{ on := 1, ground := Ground.guard }], guard := some (1, true) }) (v := ?vrb3r23o8) rfl (by kernel_rfl) (by kernel_rfl) (by kernel_rfl) (fun _ _ _ h => h) (Or.inl ⟨by rfl, ?hrb3r23o8⟩) hS ?_
        case hrb3r23o8 => (intro wx hx; skip; go_simp; (try with_reducible rfl))
        try simp only [Act.put, List.setIfInBounds_toArray, List.set_cons_zero, List.set_cons_succ]
        refine wpAnyH_take (i := 9) (oi := { dst := some 122, op := Op.fieldAddr 43 (Operand.tmp 11) 1, type := 0, pos := "law.go:97", after := #[{ on := 1, ground := Ground.guard }], guard := some (1, true) }) (v := ?vrb3r23o9) rfl (by kernel_rfl) (by kernel_rfl) (by kernel_rfl) (fun _ _ _ h => h) (Or.inl ⟨by rfl, ?hrb3r23o9⟩) hS ?_
        case hrb3r23o9 => (intro wx hx; skip; go_simp; (try with_reducible rfl))
        try simp only [Act.put, List.setIfInBounds_toArray, List.set_cons_zero, List.set_cons_succ]
        refine wpAnyH_take (i := 10) (oi := { dst := some 123, op := Op.load 3 (Operand.tmp 122), type := 3, pos := "law.go:97", after := #[{ on := 9, ground := Ground.data }, { on := 1, ground := Ground.guard }], guard := some (1, true) }) (v := ?vrb3r23o10) rfl (by kernel_rfl) (by kernel_rfl) (by kernel_rfl) (fun _ _ _ h => h) (Or.inl ⟨by rfl, ?hrb3r23o10⟩) hS ?_
        case hrb3r23o10 => (intro wx hx; obtain ⟨z0, z1, z2, z3, z4, z5, z6, z7, z8, z9, z10, z11⟩ := SZ.facts hx; go_simp; (try with_reducible rfl))
        try simp only [Act.put, List.setIfInBounds_toArray, List.set_cons_zero, List.set_cons_succ]
        refine wpAnyH_take (i := 11) (oi := { dst := some 124, op := Op.fieldAddr 43 (Operand.tmp 11) 3, type := 0, pos := "law.go:97", after := #[{ on := 1, ground := Ground.guard }], guard := some (1, true) }) (v := ?vrb3r23o11) rfl (by kernel_rfl) (by kernel_rfl) (by kernel_rfl) (fun _ _ _ h => h) (Or.inl ⟨by rfl, ?hrb3r23o11⟩) hS ?_
        case hrb3r23o11 => (intro wx hx; skip; go_simp; (try with_reducible rfl))
        try simp only [Act.put, List.setIfInBounds_toArray, List.set_cons_zero, List.set_cons_succ]
        refine wpAnyH_take (i := 12) (oi := { dst := some 125, op := Op.load 38 (Operand.tmp 124), type := 38, pos := "law.go:97", after := #[{ on := 11, ground := Ground.data }, { on := 1, ground := Ground.guard }], guard := some (1, true) }) (v := ?vrb3r23o12) rfl (by kernel_rfl) (by kernel_rfl) (by kernel_rfl) (fun _ _ _ h => h) (Or.inl ⟨by rfl, ?hrb3r23o12⟩) hS ?_
        case hrb3r23o12 => (intro wx hx; obtain ⟨z0, z1, z2, z3, z4, z5, z6, z7, z8, z9, z10, z11⟩ := SZ.facts hx; go_simp; (try with_reducible rfl))
        try simp only [Act.put, List.setIfInBounds_toArray, List.set_cons_zero, List.set_cons_succ]
        refine wpAnyH_ready (rs := [7]) (by kernel_rfl) (by simp) ?_
        refine AllReadyH.cons (o := { dst := some 120, op := Op.call { callee := Callee.value (Operand.func 19), args := #[Operand.tmp 115, Operand.tmp 117, Operand.tmp 119], argTypes := #[32, 3, 38] }, type := 39, pos := "law.go:97", after := #[{ on := 2, ground := Ground.data }, { on := 4, ground := Ground.data }, { on := 6, ground := Ground.data }, { on := 1, ground := Ground.chain }, { on := 1, ground := Ground.guard }], guard := some (1, true) }) rfl (fun K hK => ?_) AllReadyH.nil
        go_simp
        refine (HA.out _ hOr.out).mono ?_
        rintro e u7 ⟨rfl, hn⟩
        have hOn : Hid (Grommet.Own w u7 (P3 Z g r XS L3 L2 (stepC (D : Int) xi xk xo ge mk sq xe ra rb xs_ xdr))) := Lib.hid hn
        clear hOr hn HA
        have hOr := hOn
        clear hOn
        have hS1 := ss_of' hOr.out
        refine hK.out _ _ ?hsrb3r23o7 (fun hS => ?_)
        case hsrb3r23o7 => (exact hS1)
        clear hK K
        try simp only [Act.put, List.setIfInBounds_toArray, List.set_cons_zero, List.set_cons_succ]
        refine wpAnyH_ready (rs := [13]) (by kernel_rfl) (by simp) ?_
        refine AllReadyH.cons (o := { dst := some 126, op := Op.call { callee := Callee.value (Operand.func 20), args := #[Operand.tmp 121, Operand.tmp 123, Operand.tmp 125], argTypes := #[34, 3, 50] }, type := 39, pos := "law.go:97", after := #[{ on := 8, ground := Ground.data }, { on := 10, ground := Ground.data }, { on := 12, ground := Ground.data }, { on := 7, ground := Ground.chain }, { on := 1, ground := Ground.guard }], guard := some (1, true) }) rfl (fun K hK => ?_) AllReadyH.nil
        go_simp
        refine (HB.out _ hOr.out).mono ?_
        rintro e u8 ⟨rfl, hn⟩
        have hOn : Hid (Grommet.Own w u8 (P3 Z g r XS L3 L3 (stepC (D : Int) xi xk xo ge mk sq xe ra rb xs_ xdr))) := Lib.hid hn
        clear hOr hn HB
        have hOr := hOn
        clear hOn
        have hS1 := ss_of' hOr.out
        refine hK.out _ _ ?hsrb3r23o13 (fun hS => ?_)
        case hsrb3r23o13 => (exact hS1)
        clear hK K
        try simp only [Act.put, List.setIfInBounds_toArray, List.set_cons_zero, List.set_cons_succ]
        refine wpAnyH_take (i := 14) (oi := { dst := some 127, op := Op.binOp BinOp.eql 39 (Operand.tmp 120) (Operand.tmp 126) 39, type := 4, pos := "law.go:97", after := #[{ on := 7, ground := Ground.data }, { on := 13, ground := Ground.data }, { on := 1, ground := Ground.guard }], guard := some (1, true) }) (v := ?vrb3r23o14) rfl (by kernel_rfl) (by kernel_rfl) (by kernel_rfl) (fun _ _ _ h => h) (Or.inl ⟨by rfl, ?hrb3r23o14⟩) hS ?_
        case hrb3r23o14 => (intro wx hx; skip; go_simp; (try with_reducible rfl))
        try simp only [Act.put, List.setIfInBounds_toArray, List.set_cons_zero, List.set_cons_succ]
        refine wpAnyH_take (i := 15) (oi := { dst := some 128, op := Op.pick (Operand.tmp 114) (Operand.tmp 127) (Operand.const (Value.bool false)), type := 4, pos := "law.go:97", after := #[{ on := 1, ground := Ground.data }, { on := 14, ground := Ground.data }], guard := none }) (v := ?vrb3r23o15) rfl (by kernel_rfl) (by kernel_rfl) (by kernel_rfl) (fun _ _ _ h => h) (Or.inl ⟨by rfl, ?hrb3r23o15⟩) hS ?_
        case hrb3r23o15 => (intro wx hx; skip; go_simp; (try with_reducible rfl))
        try simp only [Act.put, List.setIfInBounds_toArray, List.set_cons_zero, List.set_cons_succ]
        refine wpAnyH_take (i := 16) (oi := { dst := some 12, op := Op.assign (Operand.tmp 128), type := 4, pos := "law.go:97", after := #[{ on := 15, ground := Ground.data }, { on := 13, ground := Ground.chain }, { on := 0, ground := Ground.phase }, { on := 1, ground := Ground.phase }, { on := 2, ground := Ground.phase }, { on := 3, ground := Ground.phase }, { on := 4, ground := Ground.phase }, { on := 5, ground := Ground.phase }, { on := 6, ground := Ground.phase }, { on := 7, ground := Ground.phase }, { on := 8, ground := Ground.phase }, { on := 9, ground := Ground.phase }, { on := 10, ground := Ground.phase }, { on := 11, ground := Ground.phase }, { on := 12, ground := Ground.phase }, { on := 13, ground := Ground.phase }, { on := 14, ground := Ground.phase }, { on := 15, ground := Ground.phase }], guard := none }) (v := ?vrb3r23o16) rfl (by kernel_rfl) (by kernel_rfl) (by kernel_rfl) (fun _ _ _ h => h) (Or.inl ⟨by rfl, ?hrb3r23o16⟩) hS ?_
        case hrb3r23o16 => (intro wx hx; skip; go_simp; (try with_reducible rfl))
        try simp only [Act.put, List.setIfInBounds_toArray, List.set_cons_zero, List.set_cons_succ]
        refine wpAnyH_done (by kernel_rfl) ?_ _
        clear hS hS0
        go_wp2
        go_roundw
        case rel => exact ⟨k + 1, L3, by omega, by go_num, Lib.hid (show Grommet.Own w _ ((P2 g r XS L3 L3) ++ [boxP Z 43 (stepC (D : Int) xi xk xo ge mk sq xe ra rb xs_ xdr)]) from hOr.out).less⟩
        case measure => simp [intOf]; omega
      · obtain ⟨lq, le, la, lb, ld, en, HA, HB⟩ := load_both xi xk XS L2 (fun a => gotI_lt Hsm.out (Own.wl hOr.out 0 rfl).1 a)
        have HA := Lib.hid (HA 0 g w _ _ hOr.out rfl)
        have HB := Lib.hid (fun wx Qs (hO : Grommet.Own w wx ((P3 Z g r XS L2 L2 (stepC (D : Int) xi xk xo ge mk sq xe ra rb xs_ xdr)) ++ Qs)) => HB 1 r w wx _ hO rfl)
        have qe : (en == en) = true := by simp
        have qq : ((lq : Int) == (lq : Int)) = true := by simp
        obtain ⟨z0, z1, z2, z3, z4, z5, z6, z7, z8, z9, z10, z11⟩ := SZ.facts (ss_of' hOr.out)
        clear hOr
        go_wp2_with fail
        refine HA.out.mono ?_
        rintro e u7 ⟨rfl, hO7⟩
        clear z0 z1 z2 z3 z4 z5 z6 z7 z8 z9 z10 z11 HA
        obtain ⟨X1, hX1⟩ : ∃ X, Hid (X = u7.heap.size) := ⟨_, Lib.hid rfl⟩
        have hO9 : Grommet.Own w (u7.alloc (.cells #[.int .i64 (le : Int), .int .u64 (la : Int), .int .u64 (lb : Int), .string ld] 41)) ((P3 Z g r XS L2 L2 (stepC (D : Int) xi xk xo ge mk sq xe ra rb xs_ xdr)) ++ [boxP X1 41 #[.int .i64 (le : Int), .int .u64 (la : Int), .int .u64 (lb : Int), .string ld]]) := by rw [hX1.out]; exact hO7.addBox _ _
        have HB := Lib.hid (HB.out _ _ hO9)
        obtain ⟨z0, z1, z2, z3, z4, z5, z6, z7, z8, z9, z10, z11⟩ := SZ.facts (ss_of hO9)
        clear hO9 hO7
        go_wp2_with fail
        rw [← hX1.out]
        refine HB.out.mono ?_
        rintro e u8 ⟨rfl, hO10⟩
        clear z0 z1 z2 z3 z4 z5 z6 z7 z8 z9 z10 z11 HB
        have hO11 : Grommet.Own w (u8.alloc (.cells #[.int .i64 (le : Int), .int .u64 (la : Int), .int .u64 (lb : Int), .string ld] 41)) ((P3 Z g r XS L2 L2 (stepC (D : Int) xi xk xo ge mk sq xe ra rb xs_ xdr)) ++ [boxP X1 41 #[.int .i64 (le : Int), .int .u64 (la : Int), .int .u64 (lb : Int), .string ld]] ++ [boxP u8.heap.size 41 #[.int .i64 (le : Int), .int .u64 (la : Int), .int .u64 (lb : Int), .string ld]]) := hO10.addBox _ _
        rw [List.append_assoc] at hO11
        obtain ⟨m0, m1, m2, m3⟩ := ResS.cells (show ResS X1 (le : Int) (la : Int) (lb : Int) ld _ from hO11.box 3 rfl)
        obtain ⟨n0, n1, n2, n3⟩ := ResS.cells (show ResS u8.heap.size (le : Int) (la : Int) (lb : Int) ld _ from hO11.box 4 rfl)
        have heq := res_same le la lb ld
        have hOr := Lib.hid (hO11.less)
        clear hO10 hO11
        go_wp2
        go_roundw
        case rel => exact ⟨k + 1, L2, by omega, by go_num, Lib.hid (show Grommet.Own w _ ((P2 g r XS L2 L2) ++ [boxP Z 43 (stepC (D : Int) xi xk xo ge mk sq xe ra rb xs_ xdr)]) from hOr.out).less⟩
        case measure => simp [intOf]; omega
      · obtain ⟨L3, en, HA, HB⟩ := save_both xi xk sq ra rb xe xs_ Hv.out.2.2.1 Hv.out.2.2.2 XS L2
        have HA := Lib.hid (fun wx (hO : Grommet.Own w wx (P3 Z g r XS L2 L2 (stepC (D : Int) xi xk xo ge mk sq xe ra rb xs_ xdr))) => HA 0 g w wx _ hO rfl)
        have HB := Lib.hid (fun wx (hO : Grommet.Own w wx (P3 Z g r XS L3 L2 (stepC (D : Int) xi xk xo ge mk sq xe ra rb xs_ xdr))) => HB 1 r w wx _ hO rfl)
        have qe : (en == en) = true := by simp
        obtain ⟨z0, z1, z2, z3, z4, z5, z6, z7, z8, z9, z10, z11⟩ := SZ.facts (ss_of' hOr.out)
        go_upto_region 29 with fail
        clear z0 z1 z2 z3 z4 z5 z6 z7 z8 z9 z10 z11
        have hOr := Lib.hid (hOr.out.quiet (grown_drew (World.grownBy.refl _ none)))
        have hS0 := Lib.hid (ss_of' hOr.out)
        refine wp_region_held_drew (S := fun w' => SZ Z (D : Int) xi xk xo ge mk sq xe ra rb xs_ xdr w') (by kernel_rfl) (hS0.out) (fun hS => ?_)
        refine wpAnyH_take (i := 0) (oi := { dst := some 169, op := Op.move (Operand.tmp 12), type := 4, pos := "law.go:103", after := #[], guard := none }) (v := ?vrc3r29o0) rfl (by kernel_rfl) (by kernel_rfl) (by kernel_rfl) (fun _ _ _ h => h) (Or.inl ⟨by rfl, ?hrc3r29o0⟩) hS ?_
        case hrc3r29o0 => (intro wx hx; skip; go_simp; (try with_reducible rfl))
        try simp only [Act.put, List.setIfInBounds_toArray, List.set_cons_zero, List.set_cons_succ]
        refine wpAnyH_take (i := 1) (oi := { dst := some 170, op := Op.move (Operand.tmp 169), type := 4, pos := "law.go:103", after := #[{ on := 0, ground := Ground.data }], guard := none }) (v := ?vrc3r29o1) rfl (by kernel_rfl) (by kernel_rfl) (by kernel_rfl) (fun _ _ _ h => h) (Or.inl ⟨by rfl, ?hrc3r29o1⟩) hS ?_
        case hrc3r29o1 => (intro wx hx; skip; go_simp; (try with_reducible rfl))
        try simp only [Act.put, List.setIfInBounds_toArray, List.set_cons_zero, List.set_cons_succ]
        refine wpAnyH_take (i := 2) (oi := { dst := some 171, op := Op.move (Operand.tmp 8), type := 32, pos := "law.go:103", after := #[{ on := 1, ground := Ground.guard }], guard := some (1, true) }) (v := ?vrc3r29o2) rfl (by kernel_rfl) (by kernel_rfl) (by kernel_rfl) (fun _ _ _ h => h) (Or.inl ⟨by rfl, ?hrc3r29o2⟩) hS ?_
        case hrc3r29o2 => (intro wx hx; skip; go_simp; (try with_reducible rfl))
        try simp only [Act.put, List.setIfInBounds_toArray, List.set_cons_zero, List.set_cons_succ]
        refine wpAnyH_take (i := 3) (oi := { dst := some 172, op := Op.fieldAddr 43 (Operand.tmp 11) 1, type := 0, pos := "law.go:103", after := #[{ on := 1, ground := Ground.guard }], guard := some (1, true) }) (v := ?vrc3r29o3) rfl (by kernel_rfl) (by kernel_rfl) (by kernel_rfl) (fun _ _ _ h => h) (Or.inl ⟨by rfl, ?hrc3r29o3⟩) hS ?_
        case hrc3r29o3 => (intro wx hx; skip; go_simp; (try with_reducible rfl))
        try simp only [Act.put, List.setIfInBounds_toArray, List.set_cons_zero, List.set_cons_succ]
        refine wpAnyH_take (i := 4) (oi := { dst := some 173, op := Op.load 3 (Operand.tmp 172), type := 3, pos := "law.go:103", after := #[{ on := 3, ground := Ground.data }, { on := 1, ground := Ground.guard }], guard := some (1, true) }) (v := ?vrc3r29o4) rfl (by kernel_rfl) (by kernel_rfl) (by kernel_rfl) (fun _ _ _ h => h) (Or.inl ⟨by rfl, ?hrc3r29o4⟩) hS ?_
        case hrc3r29o4 => (intro wx hx; obtain ⟨z0, z1, z2, z3, z4, z5, z6, z7, z8, z9, z10, z11⟩ := SZ.facts hx; go_simp; (try with_reducible rfl))
        try simp only [Act.put, List.setIfInBounds_toArray, List.set_cons_zero, List.set_cons_succ]
        refine wpAnyH_take (i := 5) (oi := { dst := some 174, op := Op.fieldAddr 43 (Operand.tmp 11) 2, type := 0, pos := "law.go:103", after := #[{ on := 1, ground := Ground.guard }], guard := some (1, true) }) (v := ?vrc3r29o5) rfl (by kernel_rfl) (by kernel_rfl) (by kernel_rfl) (fun _ _ _ h => h) (Or.inl ⟨by rfl, ?hrc3r29o5⟩) hS ?_
        case hrc3r29o5 => (intro wx hx; skip; go_simp; (try with_reducible rfl))
        try simp only [Act.put, List.setIfInBounds_toArray, List.set_cons_zero, List.set_cons_succ]
        refine wpAnyH_take (i := 6) (oi := { dst := some 175, op := Op.load 3 (Operand.tmp 174), type := 3, pos := "law.go:103", after := #[{ on := 5, ground := Ground.data }, { on := 1, ground := Ground.guard }], guard := some (1, true) }) (v := ?vrc3r29o6) rfl (by kernel_rfl) (by kernel_rfl) (by kernel_rfl) (fun _ _ _ h => h) (Or.inl ⟨by rfl, ?hrc3r29o6⟩) hS ?_
        case hrc3r29o6 => (intro wx hx; obtain ⟨z0, z1, z2, z3, z4, z5, z6, z7, z8, z9, z10, z11⟩ := SZ.facts hx; go_simp; (try with_reducible rfl))
        try simp only [Act.put, List.setIfInBounds_toArray, List.set_cons_zero, List.set_cons_succ]
        refine wpAnyH_take (i := 7) (oi := { dst := some 176, op := Op.fieldAddr 43 (Operand.tmp 11) 4, type := 0, pos := "law.go:103", after := #[{ on := 1, ground := Ground.guard }], guard := some (1, true) }) (v := ?vrc3r29o7) rfl (by kernel_rfl) (by kernel_rfl) (by kernel_rfl) (fun _ _ _ h => h) (Or.inl ⟨by rfl, ?hrc3r29o7⟩) hS ?_
        case hrc3r29o7 => (intro wx hx; skip; go_simp; (try with_reducible rfl))
        try simp only [Act.put, List.setIfInBounds_toArray, List.set_cons_zero, List.set_cons_succ]
        refine wpAnyH_take (i := 8) (oi := { dst := some 177, op := Op.load 36 (Operand.tmp 176), type := 36, pos := "law.go:103", after := #[{ on := 7, ground := Ground.data }, { on := 1, ground := Ground.guard }], guard := some (1, true) }) (v := ?vrc3r29o8) rfl (by kernel_rfl) (by kernel_rfl) (by kernel_rfl) (fun _ _ _ h => h) (Or.inl ⟨by rfl, ?hrc3r29o8⟩) hS ?_
        case hrc3r29o8 => (intro wx hx; obtain ⟨z0, z1, z2, z3, z4, z5, z6, z7, z8, z9, z10, z11⟩ := SZ.facts hx; go_simp; (try with_reducible rfl))
        try simp only [Act.put, List.setIfInBounds_toArray, List.set_cons_zero, List.set_cons_succ]
        refine wpAnyH_take (i := 9) (oi := { dst := some 178, op := Op.fieldAddr 43 (Operand.tmp 11) 5, type := 0, pos := "law.go:103", after := #[{ on := 1, ground := Ground.guard }], guard := some (1, true) }) (v := ?vrc3r29o9) rfl (by kernel_rfl) (by kernel_rfl) (by kernel_rfl) (fun _ _ _ h => h) (Or.inl ⟨by rfl, ?hrc3r29o9⟩) hS ?_
        case hrc3r29o9 => (intro wx hx; skip; go_simp; (try with_reducible rfl))
        try simp only [Act.put, List.setIfInBounds_toArray, List.set_cons_zero, List.set_cons_succ]
        refine wpAnyH_take (i := 10) (oi := { dst := some 179, op := Op.load 41 (Operand.tmp 178), type := 41, pos := "law.go:103", after := #[{ on := 9, ground := Ground.data }, { on := 1, ground := Ground.guard }], guard := some (1, true) }) (v := ?vrc3r29o10) rfl (by kernel_rfl) (by kernel_rfl) (by kernel_rfl) (fun _ _ _ h => h) (Or.inl ⟨by rfl, ?hrc3r29o10⟩) hS ?_
        case hrc3r29o10 => (intro wx hx; obtain ⟨z0, z1, z2, z3, z4, z5, z6, z7, z8, z9, z10, z11⟩ := SZ.facts hx; go_simp; (try with_reducible rfl))
        try simp only [Act.put, List.setIfInBounds_toArray, List.set_cons_zero, List.set_cons_succ]
        refine wpAnyH_take (i := 12) (oi := { dst := some 181, op := Op.move (Operand.tmp 9), type := 34, pos := "law.go:103", after := #[{ on := 1, ground := Ground.guard }], guard := some (1, true) }) (v := ?vrc3r29o12) rfl (by kernel_rfl) (by kernel_rfl) (by kernel_rfl) (fun _ _ _ h => h) (Or.inl ⟨by rfl, ?hrc3r29o12⟩) hS ?_
        case hrc3r29o12 => (intro wx hx; skip; go_simp; (try with_reducible rfl))
        try simp only [Act.put, List.setIfInBounds_toArray, List.set_cons_zero, List.set_cons_succ]
        refine wpAnyH_take (i := 13) (oi := { dst := some 182, op := Op.fieldAddr 43 (Operand.tmp 11) 1, type := 0, pos := "law.go:103", after := #[{ on := 1, ground := Ground.guard }], guard := some (1, true) }) (v := ?vrc3r29o13) rfl (by kernel_rfl) (by kernel_rfl) (by kernel_rfl) (fun _ _ _ h => h) (Or.inl ⟨by rfl, ?hrc3r29o13⟩) hS ?_
        case hrc3r29o13 => (intro wx hx; skip; go_simp; (try with_reducible rfl))
        try simp only [Act.put, List.setIfInBounds_toArray, List.set_cons_zero, List.set_cons_succ]
        refine wpAnyH_take (i := 14) (oi := { dst := some 183, op := Op.load 3 (Operand.tmp 182), type := 3, pos := "law.go:103", after := #[{ on := 13, ground := Ground.data }, { on := 1, ground := Ground.guard }], guard := some (1, true) }) (v := ?vrc3r29o14) rfl (by kernel_rfl) (by kernel_rfl) (by kernel_rfl) (fun _ _ _ h => h) (Or.inl ⟨by rfl, ?hrc3r29o14⟩) hS ?_
        case hrc3r29o14 => (intro wx hx; obtain ⟨z0, z1, z2, z3, z4, z5, z6, z7, z8, z9, z10, z11⟩ := SZ.facts hx; go_simp; (try with_reducible rfl))
        try simp only [Act.put, List.setIfInBounds_toArray, List.set_cons_zero, List.set_cons_succ]
        refine wpAnyH_take (i := 15) (oi := { dst := some 184, op := Op.fieldAddr 43 (Operand.tmp 11) 2, type := 0, pos := "law.go:103", after := #[{ on := 1, ground := Ground.guard }], guard := some (1, true) }) (v := ?vrc3r29o15) rfl (by kernel_rfl) (by kernel_rfl) (by kernel_rfl) (fun _ _ _ h => h) (Or.inl ⟨by rfl, ?hrc3r29o15⟩) hS ?_
        case hrc3r29o15 => (intro wx hx; skip; go_simp; (try with_reducible rfl))
        try simp only [Act.put, List.setIfInBounds_toArray, List.set_cons_zero, List.set_cons_succ]
        refine wpAnyH_take (i := 16) (oi := { dst := some 185, op := Op.load 3 (Operand.tmp 184), type := 3, pos := "law.go:103", after := #[{ on := 15, ground := Ground.data }, { on := 1, ground := Ground.guard }], guard := some (1, true) }) (v := ?vrc3r29o16) rfl (by kernel_rfl) (by kernel_rfl) (by kernel_rfl) (fun _ _ _ h => h) (Or.inl ⟨by rfl, ?hrc3r29o16⟩) hS ?_
        case hrc3r29o16 => (intro wx hx; obtain ⟨z0, z1, z2, z3, z4, z5, z6, z7, z8, z9, z10, z11⟩ := SZ.facts hx; go_simp; (try with_reducible rfl))
        try simp only [Act.put, List.setIfInBounds_toArray, List.set_cons_zero, List.set_cons_succ]
        refine wpAnyH_take (i := 17) (oi := { dst := some 186, op := Op.fieldAddr 43 (Operand.tmp 11) 4, type := 0, pos := "law.go:103", after := #[{ on := 1, ground := Ground.guard }], guard := some (1, true) }) (v := ?vrc3r29o17) rfl (by kernel_rfl) (by kernel_rfl) (by kernel_rfl) (fun _ _ _ h => h) (Or.inl ⟨by rfl, ?hrc3r29o17⟩) hS ?_
        case hrc3r29o17 => (intro wx hx; skip; go_simp; (try with_reducible rfl))
        try simp only [Act.put, List.setIfInBounds_toArray, List.set_cons_zero, List.set_cons_succ]
        refine wpAnyH_take (i := 18) (oi := { dst := some 187, op := Op.load 36 (Operand.tmp 186), type := 36, pos := "law.go:103", after := #[{ on := 17, ground := Ground.data }, { on := 1, ground := Ground.guard }], guard := some (1, true) }) (v := ?vrc3r29o18) rfl (by kernel_rfl) (by kernel_rfl) (by kernel_rfl) (fun _ _ _ h => h) (Or.inl ⟨by rfl, ?hrc3r29o18⟩) hS ?_
        case hrc3r29o18 => (intro wx hx; obtain ⟨z0, z1, z2, z3, z4, z5, z6, z7, z8, z9, z10, z11⟩ := SZ.facts hx; go_simp; (try with_reducible rfl))
        try simp only [Act.put, List.setIfInBounds_toArray, List.set_cons_zero, List.set_cons_succ]
        refine wpAnyH_take (i := 19) (oi := { dst := some 188, op := Op.fieldAddr 43 (Operand.tmp 11) 5, type := 0, pos := "law.go:103", after := #[{ on := 1, ground := Ground.guard }], guard := some (1, true) }) (v := ?vrc3r29o19) rfl (by kernel_rfl) (by kernel_rfl) (by kernel_rfl) (fun _ _ _ h => h) (Or.inl ⟨by rfl, ?hrc3r29o19⟩) hS ?_
        case hrc3r29o19 => (intro wx hx; skip; go_simp; (try with_reducible rfl))
        try simp only [Act.put, List.setIfInBounds_toArray, List.set_cons_zero, List.set_cons_succ]
        refine wpAnyH_take (i := 20) (oi := { dst := some 189, op := Op.load 41 (Operand.tmp 188), type := 41, pos := "law.go:103", after := #[{ on := 19, ground := Ground.data }, { on := 1, ground := Ground.guard }], guard := some (1, true) }) (v := ?vrc3r29o20) rfl (by kernel_rfl) (by kernel_rfl) (by kernel_rfl) (fun _ _ _ h => h) (Or.inl ⟨by rfl, ?hrc3r29o20⟩) hS ?_
        case hrc3r29o20 => (intro wx hx; obtain ⟨z0, z1, z2, z3, z4, z5, z6, z7, z8, z9, z10, z11⟩ := SZ.facts hx; go_simp; (try with_reducible rfl))
        try simp only [Act.put, List.setIfInBounds_toArray, List.set_cons_zero, List.set_cons_succ]
        refine wpAnyH_ready (rs := [11]) (by kernel_rfl) (by simp) ?_
        refine AllReadyH.cons (o := { dst := some 180, op := Op.call { callee := Callee.value (Operand.func 23), args := #[Operand.tmp 171, Operand.tmp 173, Operand.tmp 175, Operand.tmp 177, Operand.tmp 179], argTypes := #[32, 3, 3, 36, 41] }, type := 39, pos := "law.go:103", after := #[{ on := 2, ground := Ground.data }, { on := 4, ground := Ground.data }, { on := 6, ground := Ground.data }, { on := 8, ground := Ground.data }, { on := 10, ground := Ground.data }, { on := 1, ground := Ground.chain }, { on := 1, ground := Ground.guard }], guard := some (1, true) }) rfl (fun K hK => ?_) AllReadyH.nil
        go_simp
        refine (HA.out _ hOr.out).mono ?_
        rintro e u7 ⟨rfl, hn⟩
        have hOn : Hid (Grommet.Own w u7 (P3 Z g r XS L3 L2 (stepC (D : Int) xi xk xo ge mk sq xe ra rb xs_ xdr))) := Lib.hid hn
        clear hOr hn HA
        have hOr := hOn
        clear hOn
        have hS1 := ss_of' hOr.out
        refine hK.out _ _ ?hsrc3r29o11 (fun hS => ?_)
        case hsrc3r29o11 => (exact hS1)
        clear hK K
        try simp only [Act.put, List.setIfInBounds_toArray, List.set_cons_zero, List.set_cons_succ]
        refine wpAnyH_ready (rs := [21]) (by kernel_rfl) (by simp) ?_
        refine AllReadyH.cons (o := { dst := some 190, op := Op.call { callee := Callee.value (Operand.func 24), args := #[Operand.tmp 181, Operand.tmp 183, Operand.tmp 185, Operand.tmp 187, Operand.tmp 189], argTypes := #[34, 3, 3, 36, 41] }, type := 39, pos := "law.go:103", after := #[{ on := 12, ground := Ground.data }, { on := 14, ground := Ground.data }, { on := 16, ground := Ground.data }, { on := 18, ground := Ground.data }, { on := 20, ground := Ground.data }, { on := 11, ground := Ground.chain }, { on := 1, ground := Ground.guard }], guard := some (1, true) }) rfl (fun K hK => ?_) AllReadyH.nil
        go_simp
        refine (HB.out _ hOr.out).mono ?_
        rintro e u8 ⟨rfl, hn⟩
        have hOn : Hid (Grommet.Own w u8 (P3 Z g r XS L3 L3 (stepC (D : Int) xi xk xo ge mk sq xe ra rb xs_ xdr))) := Lib.hid hn
        clear hOr hn HB
        have hOr := hOn
        clear hOn
        have hS1 := ss_of' hOr.out
        refine hK.out _ _ ?hsrc3r29o21 (fun hS => ?_)
        case hsrc3r29o21 => (exact hS1)
        clear hK K
        try simp only [Act.put, List.setIfInBounds_toArray, List.set_cons_zero, List.set_cons_succ]
        refine wpAnyH_take (i := 22) (oi := { dst := some 191, op := Op.binOp BinOp.eql 39 (Operand.tmp 180) (Operand.tmp 190) 39, type := 4, pos := "law.go:103", after := #[{ on := 11, ground := Ground.data }, { on := 21, ground := Ground.data }, { on := 1, ground := Ground.guard }], guard := some (1, true) }) (v := ?vrc3r29o22) rfl (by kernel_rfl) (by kernel_rfl) (by kernel_rfl) (fun _ _ _ h => h) (Or.inl ⟨by rfl, ?hrc3r29o22⟩) hS ?_
        case hrc3r29o22 => (intro wx hx; skip; go_simp; (try with_reducible rfl))
        try simp only [Act.put, List.setIfInBounds_toArray, List.set_cons_zero, List.set_cons_succ]
        refine wpAnyH_take (i := 23) (oi := { dst := some 192, op := Op.pick (Operand.tmp 170) (Operand.tmp 191) (Operand.const (Value.bool false)), type := 4, pos := "law.go:103", after := #[{ on := 1, ground := Ground.data }, { on := 22, ground := Ground.data }], guard := none }) (v := ?vrc3r29o23) rfl (by kernel_rfl) (by kernel_rfl) (by kernel_rfl) (fun _ _ _ h => h) (Or.inl ⟨by rfl, ?hrc3r29o23⟩) hS ?_
        case hrc3r29o23 => (intro wx hx; skip; go_simp; (try with_reducible rfl))
        try simp only [Act.put, List.setIfInBounds_toArray, List.set_cons_zero, List.set_cons_succ]
        refine wpAnyH_take (i := 24) (oi := { dst := some 12, op := Op.assign (Operand.tmp 192), type := 4, pos := "law.go:103", after := #[{ on := 23, ground := Ground.data }, { on := 21, ground := Ground.chain }, { on := 0, ground := Ground.phase }, { on := 1, ground := Ground.phase }, { on := 2, ground := Ground.phase }, { on := 3, ground := Ground.phase }, { on := 4, ground := Ground.phase }, { on := 5, ground := Ground.phase }, { on := 6, ground := Ground.phase }, { on := 7, ground := Ground.phase }, { on := 8, ground := Ground.phase }, { on := 9, ground := Ground.phase }, { on := 10, ground := Ground.phase }, { on := 11, ground := Ground.phase }, { on := 12, ground := Ground.phase }, { on := 13, ground := Ground.phase }, { on := 14, ground := Ground.phase }, { on := 15, ground := Ground.phase }, { on := 16, ground := Ground.phase }, { on := 17, ground := Ground.phase }, { on := 18, ground := Ground.phase }, { on := 19, ground := Ground.phase }, { on := 20, ground := Ground.phase }, { on := 21, ground := Ground.phase }, { on := 22, ground := Ground.phase }, { on := 23, ground := Ground.phase }], guard := none }) (v := ?vrc3r29o24) rfl (by kernel_rfl) (by kernel_rfl) (by kernel_rfl) (fun _ _ _ h => h) (Or.inl ⟨by rfl, ?hrc3r29o24⟩) hS ?_
        case hrc3r29o24 => (intro wx hx; skip; go_simp; (try with_reducible rfl))
        try simp only [Act.put, List.setIfInBounds_toArray, List.set_cons_zero, List.set_cons_succ]
        refine wpAnyH_done (by kernel_rfl) ?_ _
        clear hS hS0
        go_wp2
        go_roundw
        case rel => exact ⟨k + 1, L3, by omega, by go_num, Lib.hid (show Grommet.Own w _ ((P2 g r XS L3 L3) ++ [boxP Z 43 (stepC (D : Int) xi xk xo ge mk sq xe ra rb xs_ xdr)]) from hOr.out).less⟩
        case measure => simp [intOf]; omega
      · obtain ⟨L3, en, HA, HB⟩ := wipe_both xi XS L2
        have HA := Lib.hid (fun wx (hO : Grommet.Own w wx (P3 Z g r XS L2 L2 (stepC (D : Int) xi xk xo ge mk sq xe ra rb xs_ xdr))) => HA 0 g w wx _ hO rfl)
        have HB := Lib.hid (fun wx (hO : Grommet.Own w wx (P3 Z g r XS L3 L2 (stepC (D : Int) xi xk xo ge mk sq xe ra rb xs_ xdr))) => HB 1 r w wx _ hO rfl)
        have qe : (en == en) = true := by simp
        obtain ⟨z0, z1, z2, z3, z4, z5, z6, z7, z8, z9, z10, z11⟩ := SZ.facts (ss_of' hOr.out)
        go_upto_region 31 with fail
        clear z0 z1 z2 z3 z4 z5 z6 z7 z8 z9 z10 z11
        have hOr := Lib.hid (hOr.out.quiet (grown_drew (World.grownBy.refl _ none)))
        have hS0 := Lib.hid (ss_of' hOr.out)
        refine wp_region_held_drew (S := fun w' => SZ Z (D : Int) xi xk xo ge mk sq xe ra rb xs_ xdr w') (by kernel_rfl) (hS0.out) (fun hS => ?_)
        refine wpAnyH_take (i := 0) (oi := { dst := some 195, op := Op.move (Operand.tmp 12), type := 4, pos := "law.go:105", after := #[], guard := none }) (v := ?vrd3r31o0) rfl (by kernel_rfl) (by kernel_rfl) (by kernel_rfl) (fun _ _ _ h => h) (Or.inl ⟨by rfl, ?hrd3r31o0⟩) hS ?_
        case hrd3r31o0 => (intro wx hx; skip; go_simp; (try with_reducible rfl))
        try simp only [Act.put, List.setIfInBounds_toArray, List.set_cons_zero, List.set_cons_succ]
        refine wpAnyH_take (i := 1) (oi := { dst := some 196, op := Op.move (Operand.tmp 195), type := 4, pos := "law.go:105", after := #[{ on := 0, ground := Ground.data }], guard := none }) (v := ?vrd3r31o1) rfl (by kernel_rfl) (by kernel_rfl) (by kernel_rfl) (fun _ _ _ h => h) (Or.inl ⟨by rfl, ?hrd3r31o1⟩) hS ?_
        case hrd3r31o1 => (intro wx hx; skip; go_simp; (try with_reducible rfl))
        try simp only [Act.put, List.setIfInBounds_toArray, List.set_cons_zero, List.set_cons_succ]
        refine wpAnyH_take (i := 2) (oi := { dst := some 197, op := Op.move (Operand.tmp 8), type := 32, pos := "law.go:105", after := #[{ on := 1, ground := Ground.guard }], guard := some (1, true) }) (v := ?vrd3r31o2) rfl (by kernel_rfl) (by kernel_rfl) (by kernel_rfl) (fun _ _ _ h => h) (Or.inl ⟨by rfl, ?hrd3r31o2⟩) hS ?_
        case hrd3r31o2 => (intro wx hx; skip; go_simp; (try with_reducible rfl))
        try simp only [Act.put, List.setIfInBounds_toArray, List.set_cons_zero, List.set_cons_succ]
        refine wpAnyH_take (i := 3) (oi := { dst := some 198, op := Op.fieldAddr 43 (Operand.tmp 11) 1, type := 0, pos := "law.go:105", after := #[{ on := 1, ground := Ground.guard }], guard := some (1, true) }) (v := ?vrd3r31o3) rfl (by kernel_rfl) (by kernel_rfl) (by kernel_rfl) (fun _ _ _ h => h) (Or.inl ⟨by rfl, ?hrd3r31o3⟩) hS ?_
        case hrd3r31o3 => (intro wx hx; skip; go_simp; (try with_reducible rfl))
        try simp only [Act.put, List.setIfInBounds_toArray, List.set_cons_zero, List.set_cons_succ]
        refine wpAnyH_take (i := 4) (oi := { dst := some 199, op := Op.load 3 (Operand.tmp 198), type := 3, pos := "law.go:105", after := #[{ on := 3, ground := Ground.data }, { on := 1, ground := Ground.guard }], guard := some (1, true) }) (v := ?vrd3r31o4) rfl (by kernel_rfl) (by kernel_rfl) (by kernel_rfl) (fun _ _ _ h => h) (Or.inl ⟨by rfl, ?hrd3r31o4⟩) hS ?_
        case hrd3r31o4 => (intro wx hx; obtain ⟨z0, z1, z2, z3, z4, z5, z6, z7, z8, z9, z10, z11⟩ := SZ.facts hx; go_simp; (try with_reducible rfl))
        try simp only [Act.put, List.setIfInBounds_toArray, List.set_cons_zero, List.set_cons_succ]
        refine wpAnyH_take (i := 6) (oi := { dst := some 201, op := Op.move (Operand.tmp 9), type := 34, pos := "law.go:105", after := #[{ on := 1, ground := Ground.guard }], guard := some (1, true) }) (v := ?vrd3r31o6) rfl (by kernel_rfl) (by kernel_rfl) (by kernel_rfl) (fun _ _ _ h => h) (Or.inl ⟨by rfl, ?hrd3r31o6⟩) hS ?_
        case hrd3r31o6 => (intro wx hx; skip; go_simp; (try with_reducible rfl))
        try simp only [Act.put, List.setIfInBounds_toArray, List.set_cons_zero, List.set_cons_succ]
        refine wpAnyH_take (i := 7) (oi := { dst := some 202, op := Op.fieldAddr 43 (Operand.tmp 11) 1, type := 0, pos := "law.go:105", after := #[{ on := 1, ground := Ground.guard }], guard := some (1, true) }) (v := ?vrd3r31o7) rfl (by kernel_rfl) (by kernel_rfl) (by kernel_rfl) (fun _ _ _ h => h) (Or.inl ⟨by rfl, ?hrd3r31o7⟩) hS ?_
        case hrd3r31o7 => (intro wx hx; skip; go_simp; (try with_reducible rfl))
        try simp only [Act.put, List.setIfInBounds_toArray, List.set_cons_zero, List.set_cons_succ]
        refine wpAnyH_take (i := 8) (oi := { dst := some 203, op := Op.load 3 (Operand.tmp 202), type := 3, pos := "law.go:105", after := #[{ on := 7, ground := Ground.data }, { on := 1, ground := Ground.guard }], guard := some (1, true) }) (v := ?vrd3r31o8) rfl (by kernel_rfl) (by kernel_rfl) (by kernel_rfl) (fun _ _ _ h => h) (Or.inl ⟨by rfl, ?hrd3r31o8⟩) hS ?_
        case hrd3r31o8 => (intro wx hx; obtain ⟨z0, z1, z2, z3, z4, z5, z6, z7, z8, z9, z10, z11⟩ := SZ.facts hx; go_simp; (try with_reducible rfl))
        try simp only [Act.put, List.setIfInBounds_toArray, List.set_cons_zero, List.set_cons_succ]
        refine wpAnyH_ready (rs := [5]) (by kernel_rfl) (by simp) ?_
        refine AllReadyH.cons (o := { dst := some 200, op := Op.call { callee := Callee.value (Operand.func 25), args := #[Operand.tmp 197, Operand.tmp 199], argTypes := #[32, 3] }, type := 39, pos := "law.go:105", after := #[{ on := 2, ground := Ground.data }, { on := 4, ground := Ground.data }, { on := 1, ground := Ground.chain }, { on := 1, ground := Ground.guard }], guard := some (1, true) }) rfl (fun K hK => ?_) AllReadyH.nil
        go_simp
        refine (HA.out _ hOr.out).mono ?_
        rintro e u7 ⟨rfl, hn⟩
        have hOn : Hid (Grommet.Own w u7 (P3 Z g r XS L3 L2 (stepC (D : Int) xi xk xo ge mk sq xe ra rb xs_ xdr))) := Lib.hid hn
        clear hOr hn HA
        have hOr := hOn
        clear hOn
        have hS1 := ss_of' hOr.out
        refine hK.out _ _ ?hsrd3r31o5 (fun hS => ?_)
        case hsrd3r31o5 => (exact hS1)
        clear hK K
        try simp only [Act.put, List.setIfInBounds_toArray, List.set_cons_zero, List.set_cons_succ]
        refine wpAnyH_ready (rs := [9]) (by kernel_rfl) (by simp) ?_
        refine AllReadyH.cons (o := { dst := some 204, op := Op.call { callee := Callee.value (Operand.func 26), args := #[Operand.tmp 201, Operand.tmp 203], argTypes := #[34, 3] }, type := 39, pos := "law.go:105", after := #[{ on := 6, ground := Ground.data }, { on := 8, ground := Ground.data }, { on := 5, ground := Ground.chain }, { on := 1, ground := Ground.guard }], guard := some (1, true) }) rfl (fun K hK => ?_) AllReadyH.nil
        go_simp
        refine (HB.out _ hOr.out).mono ?_
        rintro e u8 ⟨rfl, hn⟩
        have hOn : Hid (Grommet.Own w u8 (P3 Z g r XS L3 L3 (stepC (D : Int) xi xk xo ge mk sq xe ra rb xs_ xdr))) := Lib.hid hn
        clear hOr hn HB
        have hOr := hOn
        clear hOn
        have hS1 := ss_of' hOr.out
        refine hK.out _ _ ?hsrd3r31o9 (fun hS => ?_)
        case hsrd3r31o9 => (exact hS1)
        clear hK K
        try simp only [Act.put, List.setIfInBounds_toArray, List.set_cons_zero, List.set_cons_succ]
        refine wpAnyH_take (i := 10) (oi := { dst := some 205, op := Op.binOp BinOp.eql 39 (Operand.tmp 200) (Operand.tmp 204) 39, type := 4, pos := "law.go:105", after := #[{ on := 5, ground := Ground.data }, { on := 9, ground := Ground.data }, { on := 1, ground := Ground.guard }], guard := some (1, true) }) (v := ?vrd3r31o10) rfl (by kernel_rfl) (by kernel_rfl) (by kernel_rfl) (fun _ _ _ h => h) (Or.inl ⟨by rfl, ?hrd3r31o10⟩) hS ?_
        case hrd3r31o10 => (intro wx hx; skip; go_simp; (try with_reducible rfl))
        try simp only [Act.put, List.setIfInBounds_toArray, List.set_cons_zero, List.set_cons_succ]
        refine wpAnyH_take (i := 11) (oi := { dst := some 206, op := Op.pick (Operand.tmp 196) (Operand.tmp 205) (Operand.const (Value.bool false)), type := 4, pos := "law.go:105", after := #[{ on := 1, ground := Ground.data }, { on := 10, ground := Ground.data }], guard := none }) (v := ?vrd3r31o11) rfl (by kernel_rfl) (by kernel_rfl) (by kernel_rfl) (fun _ _ _ h => h) (Or.inl ⟨by rfl, ?hrd3r31o11⟩) hS ?_
        case hrd3r31o11 => (intro wx hx; skip; go_simp; (try with_reducible rfl))
        try simp only [Act.put, List.setIfInBounds_toArray, List.set_cons_zero, List.set_cons_succ]
        refine wpAnyH_take (i := 12) (oi := { dst := some 12, op := Op.assign (Operand.tmp 206), type := 4, pos := "law.go:105", after := #[{ on := 11, ground := Ground.data }, { on := 9, ground := Ground.chain }, { on := 0, ground := Ground.phase }, { on := 1, ground := Ground.phase }, { on := 2, ground := Ground.phase }, { on := 3, ground := Ground.phase }, { on := 4, ground := Ground.phase }, { on := 5, ground := Ground.phase }, { on := 6, ground := Ground.phase }, { on := 7, ground := Ground.phase }, { on := 8, ground := Ground.phase }, { on := 9, ground := Ground.phase }, { on := 10, ground := Ground.phase }, { on := 11, ground := Ground.phase }], guard := none }) (v := ?vrd3r31o12) rfl (by kernel_rfl) (by kernel_rfl) (by kernel_rfl) (fun _ _ _ h => h) (Or.inl ⟨by rfl, ?hrd3r31o12⟩) hS ?_
        case hrd3r31o12 => (intro wx hx; skip; go_simp; (try with_reducible rfl))
        try simp only [Act.put, List.setIfInBounds_toArray, List.set_cons_zero, List.set_cons_succ]
        refine wpAnyH_done (by kernel_rfl) ?_ _
        clear hS hS0
        go_wp2
        go_roundw
        case rel => exact ⟨k + 1, L3, by omega, by go_num, Lib.hid (show Grommet.Own w _ ((P2 g r XS L3 L3) ++ [boxP Z 43 (stepC (D : Int) xi xk xo ge mk sq xe ra rb xs_ xdr)]) from hOr.out).less⟩
        case measure => simp [intOf]; omega
      · obtain ⟨L3, en, HA, HB⟩ := set_both xk sq Hv.out.2.1 XS L2
        have HA := Lib.hid (fun wx (hO : Grommet.Own w wx (P3 Z g r XS L2 L2 (stepC (D : Int) xi xk xo ge mk sq xe ra rb xs_ xdr))) => HA 0 g w wx _ hO rfl)
        have HB := Lib.hid (fun wx (hO : Grommet.Own w wx (P3 Z g r XS L3 L2 (stepC (D : Int) xi xk xo ge mk sq xe ra rb xs_ xdr))) => HB 1 r w wx _ hO rfl)
        have qe : (en == en) = true := by simp
        obtain ⟨z0, z1, z2, z3, z4, z5, z6, z7, z8, z9, z10, z11⟩ := SZ.facts (ss_of' hOr.out)
        go_upto_region 17 with fail
        clear z0 z1 z2 z3 z4 z5 z6 z7 z8 z9 z10 z11
        have hOr := Lib.hid (hOr.out.quiet (grown_drew (World.grownBy.refl _ none)))
        have hS0 := Lib.hid (ss_of' hOr.out)
        refine wp_region_held_drew (S := fun w' => SZ Z (D : Int) xi xk xo ge mk sq xe ra rb xs_ xdr w') (by kernel_rfl) (hS0.out) (fun hS => ?_)
        refine wpAnyH_take (i := 0) (oi := { dst := some 68, op := Op.move (Operand.tmp 12), type := 4, pos := "law.go:107", after := #[], guard := none }) (v := ?vre3r17o0) rfl (by kernel_rfl) (by kernel_rfl) (by kernel_rfl) (fun _ _ _ h => h) (Or.inl ⟨by rfl, ?hre3r17o0⟩) hS ?_
        case hre3r17o0 => (intro wx hx; skip; go_simp; (try with_reducible rfl))
        try simp only [Act.put, List.setIfInBounds_toArray, List.set_cons_zero, List.set_cons_succ]
        refine wpAnyH_take (i := 1) (oi := { dst := some 69, op := Op.move (Operand.tmp 68), type := 4, pos := "law.go:107", after := #[{ on := 0, ground := Ground.data }], guard := none }) (v := ?vre3r17o1) rfl (by kernel_rfl) (by kernel_rfl) (by kernel_rfl) (fun _ _ _ h => h) (Or.inl ⟨by rfl, ?hre3r17o1⟩) hS ?_
        case hre3r17o1 => (intro wx hx; skip; go_simp; (try with_reducible rfl))
        try simp only [Act.put, List.setIfInBounds_toArray, List.set_cons_zero, List.set_cons_succ]
        refine wpAnyH_take (i := 2) (oi := { dst := some 70, op := Op.move (Operand.tmp 8), type := 32, pos := "law.go:107", after := #[{ on := 1, ground := Ground.guard }], guard := some (1, true) }) (v := ?vre3r17o2) rfl (by kernel_rfl) (by kernel_rfl) (by kernel_rfl) (fun _ _ _ h => h) (Or.inl ⟨by rfl, ?hre3r17o2⟩) hS ?_
        case hre3r17o2 => (intro wx hx; skip; go_simp; (try with_reducible rfl))
        try simp only [Act.put, List.setIfInBounds_toArray, List.set_cons_zero, List.set_cons_succ]
        refine wpAnyH_take (i := 3) (oi := { dst := some 71, op := Op.fieldAddr 43 (Operand.tmp 11) 2, type := 0, pos := "law.go:107", after := #[{ on := 1, ground := Ground.guard }], guard := some (1, true) }) (v := ?vre3r17o3) rfl (by kernel_rfl) (by kernel_rfl) (by kernel_rfl) (fun _ _ _ h => h) (Or.inl ⟨by rfl, ?hre3r17o3⟩) hS ?_
        case hre3r17o3 => (intro wx hx; skip; go_simp; (try with_reducible rfl))
        try simp only [Act.put, List.setIfInBounds_toArray, List.set_cons_zero, List.set_cons_succ]
        refine wpAnyH_take (i := 4) (oi := { dst := some 72, op := Op.load 3 (Operand.tmp 71), type := 3, pos := "law.go:107", after := #[{ on := 3, ground := Ground.data }, { on := 1, ground := Ground.guard }], guard := some (1, true) }) (v := ?vre3r17o4) rfl (by kernel_rfl) (by kernel_rfl) (by kernel_rfl) (fun _ _ _ h => h) (Or.inl ⟨by rfl, ?hre3r17o4⟩) hS ?_
        case hre3r17o4 => (intro wx hx; obtain ⟨z0, z1, z2, z3, z4, z5, z6, z7, z8, z9, z10, z11⟩ := SZ.facts hx; go_simp; (try with_reducible rfl))
        try simp only [Act.put, List.setIfInBounds_toArray, List.set_cons_zero, List.set_cons_succ]
        refine wpAnyH_take (i := 5) (oi := { dst := some 73, op := Op.fieldAddr 43 (Operand.tmp 11) 4, type := 0, pos := "law.go:107", after := #[{ on := 1, ground := Ground.guard }], guard := some (1, true) }) (v := ?vre3r17o5) rfl (by kernel_rfl) (by kernel_rfl) (by kernel_rfl) (fun _ _ _ h => h) (Or.inl ⟨by rfl, ?hre3r17o5⟩) hS ?_
        case hre3r17o5 => (intro wx hx; skip; go_simp; (try with_reducible rfl))
        try simp only [Act.put, List.setIfInBounds_toArray, List.set_cons_zero, List.set_cons_succ]
        refine wpAnyH_take (i := 6) (oi := { dst := some 74, op := Op.load 36 (Operand.tmp 73), type := 36, pos := "law.go:107", after := #[{ on := 5, ground := Ground.data }, { on := 1, ground := Ground.guard }], guard := some (1, true) }) (v := ?vre3r17o6) rfl (by kernel_rfl) (by kernel_rfl) (by kernel_rfl) (fun _ _ _ h => h) (Or.inl ⟨by rfl, ?hre3r17o6⟩) hS ?_
        case hre3r17o6 => (intro wx hx; obtain ⟨z0, z1, z2, z3, z4, z5, z6, z7, z8, z9, z10, z11⟩ := SZ.facts hx; go_simp; (try with_reducible rfl))
        try simp only [Act.put, List.setIfInBounds_toArray, List.set_cons_zero, List.set_cons_succ]
        refine wpAnyH_take (i := 8) (oi := { dst := some 76, op := Op.move (Operand.tmp 9), type := 34, pos := "law.go:107", after := #[{ on := 1, ground := Ground.guard }], guard := some (1, true) }) (v := ?vre3r17o8) rfl (by kernel_rfl) (by kernel_rfl) (by kernel_rfl) (fun _ _ _ h => h) (Or.inl ⟨by rfl, ?hre3r17o8⟩) hS ?_
        case hre3r17o8 => (intro wx hx; skip; go_simp; (try with_reducible rfl))
        try simp only [Act.put, List.setIfInBounds_toArray, List.set_cons_zero, List.set_cons_succ]
        refine wpAnyH_take (i := 9) (oi := { dst := some 77, op := Op.fieldAddr 43 (Operand.tmp 11) 2, type := 0, pos := "law.go:107", after := #[{ on := 1, ground := Ground.guard }], guard := some (1, true) }) (v := ?vre3r17o9) rfl (by kernel_rfl) (by kernel_rfl) (by kernel_rfl) (fun _ _ _ h => h) (Or.inl ⟨by rfl, ?hre3r17o9⟩) hS ?_
        case hre3r17o9 => (intro wx hx; skip; go_simp; (try with_reducible rfl))
        try simp only [Act.put, List.setIfInBounds_toArray, List.set_cons_zero, List.set_cons_succ]
        refine wpAnyH_take (i := 10) (oi := { dst := some 78, op := Op.load 3 (Operand.tmp 77), type := 3, pos := "law.go:107", after := #[{ on := 9, ground := Ground.data }, { on := 1, ground := Ground.guard }], guard := some (1, true) }) (v := ?vre3r17o10) rfl (by kernel_rfl) (by kernel_rfl) (by kernel_rfl) (fun _ _ _ h => h) (Or.inl ⟨by rfl, ?hre3r17o10⟩) hS ?_
        case hre3r17o10 => (intro wx hx; obtain ⟨z0, z1, z2, z3, z4, z5, z6, z7, z8, z9, z10, z11⟩ := SZ.facts hx; go_simp; (try with_reducible rfl))
        try simp only [Act.put, List.setIfInBounds_toArray, List.set_cons_zero, List.set_cons_succ]
        refine wpAnyH_take (i := 11) (oi := { dst := some 79, op := Op.fieldAddr 43 (Operand.tmp 11) 4, type := 0, pos := "law.go:107", after := #[{ on := 1, ground := Ground.guard }], guard := some (1, true) }) (v := ?vre3r17o11) rfl (by kernel_rfl) (by kernel_rfl) (by kernel_rfl) (fun _ _ _ h => h) (Or.inl ⟨by rfl, ?hre3r17o11⟩) hS ?_
        case hre3r17o11 => (intro wx hx; skip; go_simp; (try with_reducible rfl))
        try simp only [Act.put, List.setIfInBounds_toArray, List.set_cons_zero, List.set_cons_succ]
        refine wpAnyH_take (i := 12) (oi := { dst := some 80, op := Op.load 36 (Operand.tmp 79), type := 36, pos := "law.go:107", after := #[{ on := 11, ground := Ground.data }, { on := 1, ground := Ground.guard }], guard := some (1, true) }) (v := ?vre3r17o12) rfl (by kernel_rfl) (by kernel_rfl) (by kernel_rfl) (fun _ _ _ h => h) (Or.inl ⟨by rfl, ?hre3r17o12⟩) hS ?_
        case hre3r17o12 => (intro wx hx; obtain ⟨z0, z1, z2, z3, z4, z5, z6, z7, z8, z9, z10, z11⟩ := SZ.facts hx; go_simp; (try with_reducible rfl))
        try simp only [Act.put, List.setIfInBounds_toArray, List.set_cons_zero, List.set_cons_succ]
        refine wpAnyH_ready (rs := [7]) (by kernel_rfl) (by simp) ?_
        refine AllReadyH.cons (o := { dst := some 75, op := Op.call { callee := Callee.value (Operand.func 27), args := #[Operand.tmp 70, Operand.tmp 72, Operand.tmp 74], argTypes := #[32, 3, 36] }, type := 39, pos := "law.go:107", after := #[{ on := 2, ground := Ground.data }, { on := 4, ground := Ground.data }, { on := 6, ground := Ground.data }, { on := 1, ground := Ground.chain }, { on := 1, ground := Ground.guard }], guard := some (1, true) }) rfl (fun K hK => ?_) AllReadyH.nil
        go_simp
        refine (HA.out _ hOr.out).mono ?_
        rintro e u7 ⟨rfl, hn⟩
        have hOn : Hid (Grommet.Own w u7 (P3 Z g r XS L3 L2 (stepC (D : Int) xi xk xo ge mk sq xe ra rb xs_ xdr))) := Lib.hid hn
        clear hOr hn HA
        have hOr := hOn
        clear hOn
        have hS1 := ss_of' hOr.out
        refine hK.out _ _ ?hsre3r17o7 (fun hS => ?_)
        case hsre3r17o7 => (exact hS1)
        clear hK K
        try simp only [Act.put, List.setIfInBounds_toArray, List.set_cons_zero, List.set_cons_succ]
        refine wpAnyH_ready (rs := [13]) (by kernel_rfl) (by simp) ?_
        refine AllReadyH.cons (o := { dst := some 81, op := Op.call { callee := Callee.value (Operand.func 28), args := #[Operand.tmp 76, Operand.tmp 78, Operand.tmp 80], argTypes := #[34, 3, 36] }, type := 39, pos := "law.go:107", after := #[{ on := 8, ground := Ground.data }, { on := 10, ground := Ground.data }, { on := 12, ground := Ground.data }, { on := 7, ground := Ground.chain }, { on := 1, ground := Ground.guard }], guard := some (1, true) }) rfl (fun K hK => ?_) AllReadyH.nil
        go_simp
        refine (HB.out _ hOr.out).mono ?_
        rintro e u8 ⟨rfl, hn⟩
        have hOn : Hid (Grommet.Own w u8 (P3 Z g r XS L3 L3 (stepC (D : Int) xi xk xo ge mk sq xe ra rb xs_ xdr))) := Lib.hid hn
        clear hOr hn HB
        have hOr := hOn
        clear hOn
        have hS1 := ss_of' hOr.out
        refine hK.out _ _ ?hsre3r17o13 (fun hS => ?_)
        case hsre3r17o13 => (exact hS1)
        clear hK K
        try simp only [Act.put, List.setIfInBounds_toArray, List.set_cons_zero, List.set_cons_succ]
        refine wpAnyH_take (i := 14) (oi := { dst := some 82, op := Op.binOp BinOp.eql 39 (Operand.tmp 75) (Operand.tmp 81) 39, type := 4, pos := "law.go:107", after := #[{ on := 7, ground := Ground.data }, { on := 13, ground := Ground.data }, { on := 1, ground := Ground.guard }], guard := some (1, true) }) (v := ?vre3r17o14) rfl (by kernel_rfl) (by kernel_rfl) (by kernel_rfl) (fun _ _ _ h => h) (Or.inl ⟨by rfl, ?hre3r17o14⟩) hS ?_
        case hre3r17o14 => (intro wx hx; skip; go_simp; (try with_reducible rfl))
        try simp only [Act.put, List.setIfInBounds_toArray, List.set_cons_zero, List.set_cons_succ]
        refine wpAnyH_take (i := 15) (oi := { dst := some 83, op := Op.pick (Operand.tmp 69) (Operand.tmp 82) (Operand.const (Value.bool false)), type := 4, pos := "law.go:107", after := #[{ on := 1, ground := Ground.data }, { on := 14, ground := Ground.data }], guard := none }) (v := ?vre3r17o15) rfl (by kernel_rfl) (by kernel_rfl) (by kernel_rfl) (fun _ _ _ h => h) (Or.inl ⟨by rfl, ?hre3r17o15⟩) hS ?_
        case hre3r17o15 => (intro wx hx; skip; go_simp; (try with_reducible rfl))
        try simp only [Act.put, List.setIfInBounds_toArray, List.set_cons_zero, List.set_cons_succ]
        refine wpAnyH_take (i := 16) (oi := { dst := some 12, op := Op.assign (Operand.tmp 83), type := 4, pos := "law.go:107", after := #[{ on := 15, ground := Ground.data }, { on := 13, ground := Ground.chain }, { on := 0, ground := Ground.phase }, { on := 1, ground := Ground.phase }, { on := 2, ground := Ground.phase }, { on := 3, ground := Ground.phase }, { on := 4, ground := Ground.phase }, { on := 5, ground := Ground.phase }, { on := 6, ground := Ground.phase }, { on := 7, ground := Ground.phase }, { on := 8, ground := Ground.phase }, { on := 9, ground := Ground.phase }, { on := 10, ground := Ground.phase }, { on := 11, ground := Ground.phase }, { on := 12, ground := Ground.phase }, { on := 13, ground := Ground.phase }, { on := 14, ground := Ground.phase }, { on := 15, ground := Ground.phase }], guard := none }) (v := ?vre3r17o16) rfl (by kernel_rfl) (by kernel_rfl) (by kernel_rfl) (fun _ _ _ h => h) (Or.inl ⟨by rfl, ?hre3r17o16⟩) hS ?_
        case hre3r17o16 => (intro wx hx; skip; go_simp; (try with_reducible rfl))
        try simp only [Act.put, List.setIfInBounds_toArray, List.set_cons_zero, List.set_cons_succ]
        refine wpAnyH_done (by kernel_rfl) ?_ _
        clear hS hS0
        go_wp2
        go_roundw
        case rel => exact ⟨k + 1, L3, by omega, by go_num, Lib.hid (show Grommet.Own w _ ((P2 g r XS L3 L3) ++ [boxP Z 43 (stepC (D : Int) xi xk xo ge mk sq xe ra rb xs_ xdr)]) from hOr.out).less⟩
        case measure => simp [intOf]; omega
    · have hlt' : ¬ (k : Int) < (l3 : Int) := by omega
      obtain ⟨mL, hmL⟩ : ∃ mL, L.length = mL := ⟨_, rfl⟩
      obtain ⟨adl, cpl, hcl, _, hatl⟩ := refQ_obj hO.out 1 rfl
      have hwl := Own.wl hO.out 0 rfl
      have hmb : mL ≤ 96 := by rw [← hmL]; exact hwl.1.few
      rw [hmL] at hcl
      have HmL := Lib.hid hmL
      have hR0 : SR r adl mL cpl wr := hcl
      have hR0 := Lib.hid (SR.keep hR0 (grown_drew (World.grownBy.refl wr none)))
      have hat9 := Lib.hid (hatl.grown (grown_drew (World.grownBy.refl wr none)) (by simp))
      have HW := Lib.hid (fun wx (h : Grommet.Own w wx (P2 g r XS L L)) => WritesG 0 g XS L w wx _ h rfl)
      rw [hmL] at HW
      have hOr := Lib.hid (hO.out.quiet (grown_drew (World.grownBy.refl wr none)))
      clear hO hwl hcl hatl hmL hlt hk
      go_wp2_with fail

      refine wp_region_held_drew (S := fun w' => SR r adl mL cpl w') (by kernel_rfl) (hR0.out) (fun hS => ?_)
      refine wpAnyH_take (i := 0) (oi := { dst := some 209, op := Op.move (Operand.tmp 8), type := 32, pos := "law.go:113", after := #[], guard := none }) (v := ?vrz3r34o0) rfl (by kernel_rfl) (by kernel_rfl) (by kernel_rfl) (fun _ _ _ h => h) (Or.inl ⟨by rfl, ?hrz3r34o0⟩) hS ?_
      case hrz3r34o0 => (intro wx hx; skip; go_simp; (try with_reducible rfl))
      try simp only [Act.put, List.setIfInBounds_toArray, List.set_cons_zero, List.set_cons_succ]
      refine wpAnyH_take (i := 2) (oi := { dst := some 211, op := Op.move (Operand.tmp 9), type := 34, pos := "law.go:113", after := #[], guard := none }) (v := ?vrz3r34o2) rfl (by kernel_rfl) (by kernel_rfl) (by kernel_rfl) (fun _ _ _ h => h) (Or.inl ⟨by rfl, ?hrz3r34o2⟩) hS ?_
      case hrz3r34o2 => (intro wx hx; skip; go_simp; (try with_reducible rfl))
      try simp only [Act.put, List.setIfInBounds_toArray, List.set_cons_zero, List.set_cons_succ]
      refine wpAnyH_take (i := 3) (oi := { dst := some 212, op := Op.nilCheck (Operand.tmp 211), type := 0, pos := "law.go:113", after := #[{ on := 2, ground := Ground.data }], guard := none }) (v := ?vrz3r34o3) rfl (by kernel_rfl) (by kernel_rfl) (by kernel_rfl) (fun _ _ _ h => h) (Or.inl ⟨by rfl, ?hrz3r34o3⟩) hS ?_
      case hrz3r34o3 => (intro wx hx; skip; go_simp; (try with_reducible rfl))
      try simp only [Act.put, List.setIfInBounds_toArray, List.set_cons_zero, List.set_cons_succ]
      refine wpAnyH_take (i := 4) (oi := { dst := some 213, op := Op.fieldAddr 46 (Operand.tmp 212) 1, type := 0, pos := "law.go:113", after := #[{ on := 3, ground := Ground.data }], guard := none }) (v := ?vrz3r34o4) rfl (by kernel_rfl) (by kernel_rfl) (by kernel_rfl) (fun _ _ _ h => h) (Or.inl ⟨by rfl, ?hrz3r34o4⟩) hS ?_
      case hrz3r34o4 => (intro wx hx; skip; go_simp; (try with_reducible rfl))
      try simp only [Act.put, List.setIfInBounds_toArray, List.set_cons_zero, List.set_cons_succ]
      refine wpAnyH_take (i := 5) (oi := { dst := some 214, op := Op.load 44 (Operand.tmp 213), type := 44, pos := "law.go:113", after := #[{ on := 4, ground := Ground.data }], guard := none }) (v := ?vrz3r34o5) rfl (by kernel_rfl) (by kernel_rfl) (by kernel_rfl) (fun _ _ _ h => h) (Or.inl ⟨by rfl, ?hrz3r34o5⟩) hS ?_
      case hrz3r34o5 => (intro wx hx; have x0 := hx; unfold SR at x0; go_simp; (try with_reducible rfl))
      try simp only [Act.put, List.setIfInBounds_toArray, List.set_cons_zero, List.set_cons_succ]
      refine wpAnyH_ready (rs := [1]) (by kernel_rfl) (by simp) ?_
      refine AllReadyH.cons (o := { dst := some 210, op := Op.call { callee := Callee.value (Operand.func 30), args := #[Operand.tmp 209], argTypes := #[32] }, type := 44, pos := "law.go:113", after := #[{ on := 0, ground := Ground.data }], guard := none }) rfl (fun K hK => ?_) AllReadyH.nil
      go_simp
      refine (HW.out _ hOr.out).mono ?_
      rintro e u4 ⟨ad3, cp3, rfl, hO4, hg4⟩
      have hS1 := SR.keep hS hg4
      have hA4 := hat9.out.grown hg4 (by simp)
      have hOn : Hid (Grommet.Own w u4 ((P2 g r XS L L) ++ [rowP 79 2 (.slice ad3 mL cp3) mL (wcells L)])) := Lib.hid hO4
      clear hOr hat9 hO4 hg4 HW
      obtain ⟨p7, _⟩ := Own.pairs hOn.out 2 rfl
      have HS9 := Lib.hid (SameW_any ad3 adl mL mL cp3 cpl L L u4 p7 hA4 HmL.out HmL.out (by omega))
      rw [decide_eq_true rfl] at HS9
      clear p7 hA4
      have hOr := hOn
      clear hOn
      refine hK.out _ _ ?hsrz3r34o1 (fun hS => ?_)
      case hsrz3r34o1 => (exact hS1)
      clear hK K
      try simp only [Act.put, List.setIfInBounds_toArray, List.set_cons_zero, List.set_cons_succ]
      refine wpAnyH_ready (rs := [6]) (by kernel_rfl) (by simp) ?_
      refine AllReadyH.cons (o := { dst := some 215, op := Op.call { callee := Callee.value (Operand.func 29), args := #[Operand.tmp 210, Operand.tmp 214], argTypes := #[44, 44] }, type := 4, pos := "law.go:113", after := #[{ on := 1, ground := Ground.data }, { on := 5, ground := Ground.data }, { on := 1, ground := Ground.chain }], guard := none }) rfl (fun K hK => ?_) AllReadyH.nil
      go_simp
      refine HS9.out.mono ?_
      rintro e u5 ⟨rfl, hg5⟩
      have hS1 := SR.keep hS hg5
      have hOn := Lib.hid (hOr.out.quiet hg5)
      clear hOr hg5 HS9
      have hOr := hOn
      clear hOn
      refine hK.out _ _ ?hsrz3r34o6 (fun hS => ?_)
      case hsrz3r34o6 => (exact hS1)
      clear hK K
      try simp only [Act.put, List.setIfInBounds_toArray, List.set_cons_zero, List.set_cons_succ]
      refine wpAnyH_take (i := 7) (oi := { dst := some 216, op := Op.move (Operand.tmp 215), type := 4, pos := "law.go:113", after := #[{ on := 6, ground := Ground.data }, { on := 6, ground := Ground.chain }], guard := none }) (v := ?vrz3r34o7) rfl (by kernel_rfl) (by kernel_rfl) (by kernel_rfl) (fun _ _ _ h => h) (Or.inl ⟨by rfl, ?hrz3r34o7⟩) hS ?_
      case hrz3r34o7 => (intro wx hx; skip; go_simp; (try with_reducible rfl))
      try simp only [Act.put, List.setIfInBounds_toArray, List.set_cons_zero, List.set_cons_succ]
      refine wpAnyH_ready (rs := [8]) (by kernel_rfl) (by simp) ?_
      refine AllReadyH.cons (o := { dst := some 217, op := Op.call { callee := Callee.value (Operand.func 9), args := #[], argTypes := #[] }, type := 4, pos := "law.go:113", after := #[{ on := 7, ground := Ground.chain }, { on := 7, ground := Ground.guard }], guard := some (7, true) }) rfl (fun K hK => ?_) AllReadyH.nil
      go_simp
      refine (HWk.out _).mono ?_
      rintro e u6 ⟨rfl, hg6⟩
      have hS1 := SR.keep hS hg6
      have hfin := Lib.hid (grown_trans hOr.out.grown hg6)
      clear hOr hg6 HWk
      refine hK.out _ _ ?hsrz3r34o8 (fun hS => ?_)
      case hsrz3r34o8 => (exact hS1)
      clear hK K
      try simp only [Act.put, List.setIfInBounds_toArray, List.set_cons_zero, List.set_cons_succ]
      refine wpAnyH_take (i := 9) (oi := { dst := some 218, op := Op.pick (Operand.tmp 216) (Operand.tmp 217) (Operand.const (Value.bool false)), type := 4, pos := "law.go:113", after := #[{ on := 7, ground := Ground.data }, { on := 8, ground := Ground.data }], guard := none }) (v := ?vrz3r34o9) rfl (by kernel_rfl) (by kernel_rfl) (by kernel_rfl) (fun _ _ _ h => h) (Or.inl ⟨by rfl, ?hrz3r34o9⟩) hS ?_
      case hrz3r34o9 => (intro wx hx; skip; go_simp; (try with_reducible rfl))
      try simp only [Act.put, List.setIfInBounds_toArray, List.set_cons_zero, List.set_cons_succ]
      refine wpAnyH_take (i := 10) (oi := { dst := some 6, op := Op.assign (Operand.tmp 218), type := 4, pos := "law.go:113", after := #[{ on := 9, ground := Ground.data }, { on := 8, ground := Ground.chain }, { on := 0, ground := Ground.phase }, { on := 1, ground := Ground.phase }, { on := 2, ground := Ground.phase }, { on := 3, ground := Ground.phase }, { on := 4, ground := Ground.phase }, { on := 5, ground := Ground.phase }, { on := 6, ground := Ground.phase }, { on := 7, ground := Ground.phase }, { on := 8, ground := Ground.phase }, { on := 9, ground := Ground.phase }], guard := none }) (v := ?vrz3r34o10) rfl (by kernel_rfl) (by kernel_rfl) (by kernel_rfl) (fun _ _ _ h => h) (Or.inl ⟨by rfl, ?hrz3r34o10⟩) hS ?_
      case hrz3r34o10 => (intro wx hx; skip; go_simp; (try with_reducible rfl))
      try simp only [Act.put, List.setIfInBounds_toArray, List.set_cons_zero, List.set_cons_succ]
      refine wpAnyH_done (by kernel_rfl) ?_ _
      go_wp2
      go_ret
      exact ⟨rfl, hfin.out⟩

theorem walk (td : Option Addr) (tl tc : Nat) (T : List Tur) (C : Int) (a3 : Option Addr) (l3 c3 : Nat) (TT : List Stp) (w : World) (hT : TursIn w td tl T) (hC : (Lit.int .u16 C).wf = true) (hTT : StpsIn w a3 l3 TT) :
    Calls Try.prog 3 #[.slice td tl tc, .int .u16 C, .slice a3 l3 c3] w (WorksIs w) := by
  have hb := bounds_u16 hC
  obtain ⟨C, rfl⟩ := Int.eq_ofNat_of_zero_le hb.1
  by_cases h : 40 < tl
  · exact walk_far td tl tc C a3 l3 c3 w h
  · exact walk_at td tl tc T C (by omega) a3 l3 c3 TT w hT hTT h
end Go.Proofs.Ytkeghhchbdkaoaa.slotPlays
