/- ClassPlays, walked. -/
import Derived.Test.YtdpkpphjpihhkaaPlaV
import Derived.Test.YtdpkpphjpihhkaaPlaC
import Derived.Test.YtdpkpphjpihhkaaWorks
import Derived.Test.YtdpkpphjpihhkaaSteps
import Derived.Deep.DeepCutAuto
import Derived.Deep.CutBlock
import Derived.Deep.RegionHeld
namespace Go.Proofs.Ytdpkpphjpihhkaa.classPlays
open Go.RowKit Go.Grommet

def WorksOk (w : World) (e : Ending) (w' : World) : Prop := e = .returned (.bool true) ∧ w.grownBy w' none
theorem works_any (w : World) : Calls Try.prog 8 #[] w (WorksOk w) := (works_ev w).mono fun _ _ h => h
set_option maxRecDepth 100000 in
theorem res_same (er ra rb : Nat) (d : ByteArray) (wx : World) : (binOp .eql 39 (.agg #[.int .i64 (er : Int), .int .u64 (ra : Int), .int .u64 (rb : Int), .string d]) (.agg #[.int .i64 (er : Int), .int .u64 (ra : Int), .int .u64 (rb : Int), .string d])).run Try.prog wx = .ok (.bool true) wx := by
  go_simp

/-- 'great': if it is not, they are few. -/
def GreatIs (n : Nat) (w : World) (e : Ending) (w' : World) : Prop := ∃ b, e = .returned (.bool b) ∧ (b = false → n ≤ 60) ∧ w' = w
set_option maxRecDepth 100000 in
set_option maxHeartbeats 2000000 in
theorem great_any (a3 : Option Addr) (l3 c3 : Nat) (TT : List Stq) (w : World) (hTT : StqsIn w a3 l3 TT) : Calls Try.prog 7 #[.slice a3 l3 c3] w (GreatIs l3 w) := by
  by_cases h : 60 < l3
  · have h' : (60 : Int) < (l3 : Int) := by omega
    clear hTT
    go_enter Try.func7, Try.ntmps7
    go_wp2
    go_ret
    exact ⟨true, rfl, (fun c => by cases c), rfl⟩
  · have h' : ¬ (60 : Int) < (l3 : Int) := by omega
    have HT := Lib.hid hTT
    clear hTT
    go_enter Try.func7, Try.ntmps7
    go_wp2_with fail
    go_loopw [3] (fun c wr => ∃ k : Nat, k ≤ l3 ∧ c = .int .i64 (k : Int) ∧ wr = w) (fun c _ => l3 - (intOf c).toNat)
    case atStart => exact ⟨0, Nat.zero_le _, rfl, rfl⟩
    case round =>
      obtain ⟨k, hk, rfl, rfl⟩ := hrel
      have k0 : (0 : Int) ≤ (k : Int) := by omega
      by_cases hlt : k < l3
      · have hlt' : (k : Int) < (l3 : Int) := by omega
        obtain ⟨x, hx⟩ : ∃ x, TT[k]? = some x := ⟨TT[k]'(by rw [HT.out.1]; exact hlt), List.getElem?_eq_getElem _⟩
        obtain ⟨tg, to', htd, d0, d1, d2, d3, d4, d5, d6, d7, d8⟩ := HT.out.2.2 k x hx
        subst htd
        clear hx d0 d1 d2 d3 d4 d5 d6 d8
        obtain ⟨n, hn⟩ : ∃ n : Nat, x.data.size = n := ⟨_, rfl⟩
        by_cases c : 1000 < n
        · have c' : (1000 : Int) < (n : Int) := by omega
          go_wp2
          go_ret
          exact ⟨true, rfl, (fun c => by cases c), rfl⟩
        · have c' : ¬ (1000 : Int) < (n : Int) := by omega
          go_wp2
          go_roundw
          case rel => exact ⟨k + 1, by omega, by go_num, by first | rfl | trivial⟩
          case measure => simp [intOf]; omega
      · have hlt' : ¬ (k : Int) < (l3 : Int) := by omega
        go_wp2
        go_ret
        exact ⟨false, rfl, (fun _ => by omega), rfl⟩

set_option maxRecDepth 100000 in
set_option maxHeartbeats 1000000 in
theorem walk_far (td : Option Addr) (tl tc : Nat) (C : Nat) (a3 : Option Addr) (l3 c3 : Nat) (w : World) (h : 40 < tl) :
    Calls Try.prog 3 #[.slice td tl tc, .int .u16 (C : Int), .slice a3 l3 c3] w (WorksOk w) := by
  have HW := Lib.hid (fun wx => works_any wx)
  have g1 : (40 : Int) < (tl : Int) := by omega
  clear h
  go_enter Try.func3, Try.ntmps3
  go_wp2_with fail
  refine (HW.out _).mono ?_
  rintro e w5 ⟨rfl, hg⟩
  go_wp2
  go_ret
  exact ⟨rfl, hg⟩

theorem NewG (ad : Option Addr) (l c : Nat) (xs : List Nat) (w0 w : World) (Ps : List Pr) (h : Grommet.Own w0 w Ps) (hx : Words w ad l xs) (hl : l ≤ 549755813888) (hnil : ad = none → l = 0 ∧ c = 0) :
    Calls Try.prog 11 #[.slice ad l c] w fun e w' => ∃ g, e = .returned (.pointer (some ⟨g, 0, none⟩)) ∧ Grommet.Own w0 w' (Ps ++ [viewP g xs []]) ∧ w.grownBy w' none := by
  refine (New_any ad l c xs w hx hl hnil).mono ?_
  rintro e w' ⟨g, F, he, hv, hF, hg⟩
  exact ⟨g, he, h.add (P := viewP g xs []) hv hF hg, hg⟩
def stepC (d i : Int) (ge nn : Nat) (er : Int) (ra rb : Nat) (dd : ByteArray) (dr : Bool) : Array Value := #[.int .u8 d, .int .i64 i, .int .u64 (ge : Int), .int .u64 (nn : Int), .int .i64 er, .int .u64 (ra : Int), .int .u64 (rb : Int), .string dd, .bool dr]
def SZ (Z : Nat) (d i : Int) (ge nn : Nat) (er : Int) (ra rb : Nat) (dd : ByteArray) (dr : Bool) (w : World) : Prop := w.heap[Z]? = some (.cells (stepC d i ge nn er ra rb dd dr) 41 (0, 0))
theorem SZ.facts {Z : Nat} {d i : Int} {ge nn : Nat} {er : Int} {ra rb : Nat} {dd : ByteArray} {dr : Bool} {w : World} (h : SZ Z d i ge nn er ra rb dd dr w) : w.cell? ⟨Z, 0, none⟩ = some (.int .u8 d) ∧ w.cell? ⟨Z, 1, none⟩ = some (.int .i64 i) ∧ w.cell? ⟨Z, 2, none⟩ = some (.int .u64 (ge : Int)) ∧ w.cell? ⟨Z, 3, none⟩ = some (.int .u64 (nn : Int)) ∧ w.cell? ⟨Z, 4, none⟩ = some (.int .i64 er) ∧ w.cell? ⟨Z, 5, none⟩ = some (.int .u64 (ra : Int)) ∧ w.cell? ⟨Z, 6, none⟩ = some (.int .u64 (rb : Int)) ∧ w.cell? ⟨Z, 7, none⟩ = some (.string dd) ∧ w.cell? ⟨Z, 8, none⟩ = some (.bool dr) := by
  unfold SZ at h
  simp [World.cell?, h, stepC]
theorem SZ.keep {Z : Nat} {d i : Int} {ge nn : Nat} {er : Int} {ra rb : Nat} {dd : ByteArray} {dr : Bool} {w w' : World} (h : SZ Z d i ge nn er ra rb dd dr w) (hg : w.grownBy w' none) : SZ Z d i ge nn er ra rb dd dr w' := (hg.block Z (lt_of_block h) (by simp)).trans h
def SR (r : Nat) (ad : Option Addr) (n cap : Nat) (w : World) : Prop := w.cell? ⟨r, 1, none⟩ = some (.slice ad n cap)
theorem SR.keep {r : Nat} {ad : Option Addr} {n cap : Nat} {w w' : World} (h : SR r ad n cap w) (hg : w.grownBy w' none) : SR r ad n cap w' := World.grownBy.cell hg h (by simp)
/-- The view, its twin. -/
def P2 (g r : Nat) (xs : List Nat) (L K : List (Nat × Nat)) : List Pr := [viewP g xs L, refQ r xs K]
def P3 (Z : Nat) (g r : Nat) (xs : List Nat) (L K : List (Nat × Nat)) (cs : Array Value) : List Pr := [viewP g xs L, refQ r xs K, boxP Z 41 cs]
theorem ss_of {Z g r : Nat} {xs : List Nat} {L K : List (Nat × Nat)} {d i : Int} {ge nn : Nat} {er : Int} {ra rb : Nat} {dd : ByteArray} {dr : Bool} {w0 w : World} {Qs : List Pr} (h : Grommet.Own w0 w (P3 Z g r xs L K (stepC d i ge nn er ra rb dd dr) ++ Qs)) : SZ Z d i ge nn er ra rb dd dr w := h.box 2 rfl
theorem ss_of' {Z g r : Nat} {xs : List Nat} {L K : List (Nat × Nat)} {d i : Int} {ge nn : Nat} {er : Int} {ra rb : Nat} {dd : ByteArray} {dr : Bool} {w0 w : World} (h : Grommet.Own w0 w (P3 Z g r xs L K (stepC d i ge nn er ra rb dd dr))) : SZ Z d i ge nn er ra rb dd dr w := h.box 2 rfl

set_option maxRecDepth 100000 in
set_option maxHeartbeats 8000000 in
theorem walk_at (td : Option Addr) (tl tc : Nat) (T : List Tur) (C : Nat) (hC : C < 65536) (a3 : Option Addr) (l3 c3 : Nat) (TT : List Stq) (w : World) (hT : TursIn w td tl T) (hTT : StqsIn w a3 l3 TT) (h0 : ¬ 40 < tl) :
    Calls Try.prog 3 #[.slice td tl tc, .int .u16 (C : Int), .slice a3 l3 c3] w (WorksOk w) := by
  have g1 : ¬ (40 : Int) < (tl : Int) := by omega
  have HT := Lib.hid hTT
  have HG := Lib.hid (great_any a3 l3 c3 TT w hTT)
  unfold GreatIs at HG
  have HSm := Lib.hid (fun wx => show Calls Try.prog 10 #[.int .u8 0, .int .u8 0] wx (fun e w' => e = .returned (.agg #[.int .i64 1, .int .i64 2, .int .i64 2]) ∧ wx.grownBy w' none) from Small_any 0 0 (by decide) (by decide) wx)
  have HI := Lib.hid (fun wx (hO : Grommet.Own w wx []) => show Calls Try.prog 9 #[.agg #[.int .i64 1, .int .i64 2, .int .i64 2], .slice td tl tc, .int .u16 (C : Int)] wx _ from ImageQ 1 2 2 C hC td tl tc T w wx _ hO hT (by omega))
  have HWk := Lib.hid (fun wx => works_any wx)
  clear hT hTT hC
  go_enter Try.func3, Try.ntmps3
  go_wp2_with fail
  refine HG.out.mono ?_
  rintro e u0 ⟨b, rfl, hb, rfl⟩
  cases b with
  | true =>
    clear hb HI HSm
    go_wp2_with fail
    refine (HWk.out _).mono ?_
    rintro e w5 ⟨rfl, hg⟩
    go_wp2
    go_ret
    exact ⟨rfl, hg⟩
  | false =>
  have h3 := hb rfl
  clear hb HG
  go_wp2_with fail
  refine (HSm.out _).mono ?_
  rintro e u1 ⟨rfl, hg⟩
  have hO0 := Lib.hid ((Own.nil u0).quiet hg)
  clear hg HSm
  obtain ⟨w, hw⟩ : ∃ w, w = u0 := ⟨_, rfl⟩
  subst hw
  go_wp2_with fail
  refine (HI.out _ hO0.out).mono ?_
  rintro e u1 ⟨XS, n, ad, cp, rfl, hWd, hnil, hn, hO1⟩
  have HN := Lib.hid (NewG ad n cp XS w u1 _ hO1 hWd (by omega) hnil)
  have HN2 := Lib.hid (fun g wx (hO : Grommet.Own w wx [viewP g XS []]) (hg : u1.grownBy wx none) => RefNewQ ad n cp XS w wx _ hO (hWd.keep hg (by simp)) (by omega) hnil)
  have HX := Lib.hid hWd.len
  have Hsm := Lib.hid hWd.small
  have Hn := Lib.hid hn
  clear HI hO0 hWd hnil hO1 hn
  go_wp2_with fail
  refine HN.out.mono ?_
  rintro e u2 ⟨g, rfl, hO1, hg⟩
  have HN3 := Lib.hid (HN2.out g u2 hO1 hg)
  clear HN HN2 hO1 hg
  go_wp2_with fail
  refine HN3.out.mono ?_
  rintro e u3 ⟨r, rfl, hO2⟩
  have hO2 : Hid (Grommet.Own w u3 (P2 g r XS [] [])) := Lib.hid hO2
  clear HN3
  go_wp2_with fail
  go_loopw [10] (fun i wr => ∃ (k : Nat) (L : List (Nat × Nat)), k ≤ l3 ∧ i = .int .i64 (k : Int) ∧ Hid (Grommet.Own w wr (P2 g r XS L L))) (fun i _ => l3 - (intOf i).toNat)
  case atStart => exact ⟨0, [], Nat.zero_le _, rfl, hO2⟩
  case round =>
    clear hO2
    obtain ⟨k, L, hk, rfl, hO⟩ := hrel
    have k0 : (0 : Int) ≤ (k : Int) := by omega
    by_cases hlt : k < l3
    · have hlt' : (k : Int) < (l3 : Int) := by omega
      obtain ⟨x, hx⟩ : ∃ x, TT[k]? = some x := ⟨TT[k]'(by rw [HT.out.1]; exact hlt), List.getElem?_eq_getElem _⟩
      obtain ⟨tg, to', htd, d0, d1, d2, d3, d4, d5, d6, d7, d8⟩ := (HT.out.grown hO.out.grown).2.2 k x hx
      subst htd
      obtain ⟨ok0, ok1, ok2, ok3, ok4, ok5, ok6, ok7⟩ := HT.out.2.1 x (List.mem_of_getElem? hx)
      clear hx
      obtain ⟨xd, xi, xg, xn, xe, xa, xb, xs_, xdr⟩ := x
      dsimp only at d0 d1 d2 d3 d4 d5 d6 d7 d8 ok0 ok1 ok2 ok3 ok4 ok5 ok6 ok7
      have bd := bounds_u8 ok0
      have b2 := bounds_u64 ok2
      have b3 := bounds_u64 ok3
      have b5 := bounds_u64 ok5
      have b6 := bounds_u64 ok6
      obtain ⟨D, rfl⟩ := Int.eq_ofNat_of_zero_le bd.1
      obtain ⟨ge, rfl⟩ := Int.eq_ofNat_of_zero_le b2.1
      obtain ⟨nn, rfl⟩ := Int.eq_ofNat_of_zero_le b3.1
      obtain ⟨ra, rfl⟩ := Int.eq_ofNat_of_zero_le b5.1
      obtain ⟨rb, rfl⟩ := Int.eq_ofNat_of_zero_le b6.1
      have Hv := Lib.hid (show (ge < 18446744073709551616 ∧ nn < 18446744073709551616) ∧ ra < 18446744073709551616 ∧ rb < 18446744073709551616 by omega)
      clear ok0 ok1 ok2 ok3 ok4 ok5 ok6 ok7 bd b2 b3 b5 b6
      have hOx : Grommet.Own w (wr.alloc (.cells (stepC (D : Int) xi ge nn xe ra rb xs_ xdr) 41)) (P3 wr.heap.size g r XS L L (stepC (D : Int) xi ge nn xe ra rb xs_ xdr)) := hO.out.addBox 41 (stepC (D : Int) xi ge nn xe ra rb xs_ xdr)
      have hOx := Lib.hid hOx
      clear hO
      go_upto_region 12 with fail
      obtain ⟨u4, hw5⟩ : ∃ u4, wr.alloc (.cells (stepC (D : Int) xi ge nn xe ra rb xs_ xdr) 41) = u4 := ⟨_, rfl⟩
      obtain ⟨Z, hZ⟩ : ∃ Z, wr.heap.size = Z := ⟨_, rfl⟩
      rw [hw5, hZ] at hOx
      rw [hZ]
      change Code.wp _ _ _ _ (wr.alloc (.cells (stepC (D : Int) xi ge nn xe ra rb xs_ xdr) 41))
      rw [hw5]
      clear hw5 hZ d0 d1 d2 d3 d4 d5 d6 d7 d8
      obtain ⟨z0, z1, z2, z3, z4, z5, z6, z7, z8⟩ := SZ.facts (ss_of' hOx.out)
      go_upto_if 60 with fail
      go_cut [] (fun wx => ∃ L2 : List (Nat × Nat), Hid (Grommet.Own w wx (P3 Z g r XS L2 L2 (stepC (D : Int) xi ge nn xe ra rb xs_ xdr))))
      case first =>
        as_aux_lemma =>
        cases xdr with
        | false =>
          go_wp2_with fail
          go_meet
          case rel => exact ⟨L, hOx⟩
        | true =>
          have HD := Lib.hid (DropH 0 g XS L w _ _ _ hOx.out rfl rfl)
          clear z0 z1 z2 z3 z4 z5 z6 z7 z8
          go_wp2_with fail
          refine HD.out.mono ?_
          rintro e u6 ⟨rfl, hO6⟩
          have hO6 : Grommet.Own w u6 (P3 Z g r XS [] L (stepC (D : Int) xi ge nn xe ra rb xs_ true)) := hO6
          obtain ⟨ad7, cp7, e1, e2, _⟩ := refQ_obj hO6 1 rfl
          have hO7 : Hid (Grommet.Own w _ (P3 Z g r XS [] [] (stepC (D : Int) xi ge nn xe ra rb xs_ true))) := Lib.hid (refQ_nil hO6 1 rfl)
          clear HD hO6 hOx
          go_wp2_with fail
          go_meet
          case rel => exact ⟨[], hO7⟩
      case rest =>
      obtain ⟨L2, hO8⟩ := hcut
      clear hOx z0 z1 z2 z3 z4 z5 z6 z7 z8
      have hOr := hO8
      clear hO8
      obtain ⟨rr, hrr⟩ : ∃ rr, D % 5 = rr := ⟨_, rfl⟩
      have hr3 : rr < 5 := by omega
      have e5 : (D : Int) % 5 = (rr : Int) := by omega
      have e5' : Int.tmod (D : Int) 5 = (rr : Int) := by rw [Int.tmod_eq_emod_of_nonneg (by omega)]; exact e5
      have hgl := Lib.hid (fun a => gotI_lt Hsm.out (Own.wl hOr.out 0 rfl).1 a)
      have hxl : XS.length ≤ 1000000 := by rw [HX.out]; have := Hn.out; omega
      have hr : rr = 0 ∨ rr = 1 ∨ rr = 2 ∨ rr = 3 ∨ rr = 4 := by omega
      clear hrr hr3
      rcases hr with rfl | rfl | rfl | rfl | rfl
      · as_aux_lemma =>
        obtain ⟨cl, pe, pa, pb, pd, en, hc3, HA, HB⟩ := of_both xi ge nn Hv.out.1.2 XS L2 hxl hgl.out
        have HA := Lib.hid (HA 0 g w _ _ hOr.out rfl)
        have HB := Lib.hid (fun wx Qs (hO : Grommet.Own w wx ((P3 Z g r XS L2 L2 (stepC (D : Int) xi ge nn xe ra rb xs_ xdr)) ++ Qs)) => HB 1 r w wx _ hO rfl)
        have qe : ((en : Int) == (en : Int)) = true := by simp
        have qc : ((cl : Int) == (cl : Int)) = true := by simp
        have wc : IntKind.i64.wrap (cl : Int) = (cl : Int) := IntWalk.i64_in _ ⟨by omega, by omega⟩
        obtain ⟨z0, z1, z2, z3, z4, z5, z6, z7, z8⟩ := SZ.facts (ss_of' hOr.out)
        clear hOr
        go_wp2_with fail
        refine HA.out.mono ?_
        rintro e u7 ⟨rfl, hO7⟩
        clear z0 z1 z2 z3 z4 z5 z6 z7 z8 HA
        obtain ⟨X1, hX1⟩ : ∃ X, Hid (X = u7.heap.size) := ⟨_, Lib.hid rfl⟩
        have hO9 : Grommet.Own w (u7.alloc (.cells #[.int .i64 (pe : Int), .int .u64 (pa : Int), .int .u64 (pb : Int), .string pd] 39)) ((P3 Z g r XS L2 L2 (stepC (D : Int) xi ge nn xe ra rb xs_ xdr)) ++ [boxP X1 39 #[.int .i64 (pe : Int), .int .u64 (pa : Int), .int .u64 (pb : Int), .string pd]]) := by rw [hX1.out]; exact hO7.addBox _ _
        have HB := Lib.hid (HB.out _ _ hO9)
        obtain ⟨z0, z1, z2, z3, z4, z5, z6, z7, z8⟩ := SZ.facts (ss_of hO9)
        clear hO9 hO7
        go_wp2_with fail
        rw [← hX1.out]
        refine HB.out.mono ?_
        rintro e u8 ⟨rfl, hO10⟩
        clear z0 z1 z2 z3 z4 z5 z6 z7 z8 HB
        have hO11 : Grommet.Own w (u8.alloc (.cells #[.int .i64 (pe : Int), .int .u64 (pa : Int), .int .u64 (pb : Int), .string pd] 39)) ((P3 Z g r XS L2 L2 (stepC (D : Int) xi ge nn xe ra rb xs_ xdr)) ++ [boxP X1 39 #[.int .i64 (pe : Int), .int .u64 (pa : Int), .int .u64 (pb : Int), .string pd]] ++ [boxP u8.heap.size 39 #[.int .i64 (pe : Int), .int .u64 (pa : Int), .int .u64 (pb : Int), .string pd]]) := hO10.addBox _ _
        rw [List.append_assoc] at hO11
        obtain ⟨m0, m1, m2, m3⟩ := ResS.cells (show ResS X1 (pe : Int) (pa : Int) (pb : Int) pd _ from hO11.box 3 rfl)
        obtain ⟨n0, n1, n2, n3⟩ := ResS.cells (show ResS u8.heap.size (pe : Int) (pa : Int) (pb : Int) pd _ from hO11.box 4 rfl)
        have heq := res_same pe pa pb pd
        have hOr := Lib.hid (hO11.less)
        clear hO10 hO11
        go_upto_region 34 with fail
        obtain ⟨mL, hmL⟩ : ∃ mL, L2.length = mL := ⟨_, rfl⟩
        obtain ⟨adl, cpl, hcl, _, hatl⟩ := refQ_obj hOr.out 1 rfl
        have hwl := Own.wl hOr.out 0 rfl
        have hmb : mL ≤ 96 := by rw [← hmL]; exact hwl.1.few
        rw [hmL] at hcl
        have HmL := Lib.hid hmL
        have hR0 := Lib.hid (SR.keep (show SR r adl mL cpl _ from hcl) (grown_drew (World.grownBy.refl _ none)))
        have hat9 := Lib.hid (hatl.grown (grown_drew (World.grownBy.refl _ none)) (by simp))
        have HW := Lib.hid (fun wx (h : Grommet.Own w wx (P3 Z g r XS L2 L2 (stepC (D : Int) xi ge nn xe ra rb xs_ xdr))) => WritesG 0 g XS L2 w wx _ h rfl)
        rw [hmL] at HW
        have hOq := Lib.hid (hOr.out.quiet (grown_drew (World.grownBy.refl _ none)))
        clear hwl hcl hatl hmL hOr
        have hOr := hOq
        clear hOq
        refine wp_region_held_drew (S := fun w' => SR r adl mL cpl w') (by kernel_rfl) (hR0.out) (fun hS => ?_)
        refine wpAnyH_take (i := 0) (oi := { dst := some 203, op := Op.move (Operand.tmp 12), type := 4, pos := "law.go:117", after := #[], guard := none }) (v := ?vrtl203r34o0) rfl (by kernel_rfl) (by kernel_rfl) (by kernel_rfl) (fun _ _ _ h => h) (Or.inl ⟨by rfl, ?hrtl203r34o0⟩) hS ?_
        case hrtl203r34o0 => (intro wx hx; skip; go_simp; (try with_reducible rfl))
        try simp only [Act.put, List.setIfInBounds_toArray, List.set_cons_zero, List.set_cons_succ]
        refine wpAnyH_take (i := 1) (oi := { dst := some 204, op := Op.unOp UnOp.not 4 (Operand.tmp 203), type := 4, pos := "law.go:117", after := #[{ on := 0, ground := Ground.data }], guard := none }) (v := ?vrtl203r34o1) rfl (by kernel_rfl) (by kernel_rfl) (by kernel_rfl) (fun _ _ _ h => h) (Or.inl ⟨by rfl, ?hrtl203r34o1⟩) hS ?_
        case hrtl203r34o1 => (intro wx hx; skip; go_simp; (try with_reducible rfl))
        try simp only [Act.put, List.setIfInBounds_toArray, List.set_cons_zero, List.set_cons_succ]
        refine wpAnyH_take (i := 2) (oi := { dst := some 205, op := Op.move (Operand.tmp 204), type := 4, pos := "law.go:117", after := #[{ on := 1, ground := Ground.data }], guard := none }) (v := ?vrtl203r34o2) rfl (by kernel_rfl) (by kernel_rfl) (by kernel_rfl) (fun _ _ _ h => h) (Or.inl ⟨by rfl, ?hrtl203r34o2⟩) hS ?_
        case hrtl203r34o2 => (intro wx hx; skip; go_simp; (try with_reducible rfl))
        try simp only [Act.put, List.setIfInBounds_toArray, List.set_cons_zero, List.set_cons_succ]
        refine wpAnyH_take (i := 3) (oi := { dst := some 206, op := Op.move (Operand.tmp 8), type := 32, pos := "law.go:117", after := #[{ on := 2, ground := Ground.guard }], guard := some (2, false) }) (v := ?vrtl203r34o3) rfl (by kernel_rfl) (by kernel_rfl) (by kernel_rfl) (fun _ _ _ h => h) (Or.inl ⟨by rfl, ?hrtl203r34o3⟩) hS ?_
        case hrtl203r34o3 => (intro wx hx; skip; go_simp; (try with_reducible rfl))
        try simp only [Act.put, List.setIfInBounds_toArray, List.set_cons_zero, List.set_cons_succ]
        refine wpAnyH_take (i := 5) (oi := { dst := some 208, op := Op.move (Operand.tmp 9), type := 34, pos := "law.go:117", after := #[{ on := 2, ground := Ground.guard }], guard := some (2, false) }) (v := ?vrtl203r34o5) rfl (by kernel_rfl) (by kernel_rfl) (by kernel_rfl) (fun _ _ _ h => h) (Or.inl ⟨by rfl, ?hrtl203r34o5⟩) hS ?_
        case hrtl203r34o5 => (intro wx hx; skip; go_simp; (try with_reducible rfl))
        try simp only [Act.put, List.setIfInBounds_toArray, List.set_cons_zero, List.set_cons_succ]
        refine wpAnyH_take (i := 6) (oi := { dst := some 209, op := Op.nilCheck (Operand.tmp 208), type := 0, pos := "law.go:117", after := #[{ on := 5, ground := Ground.data }, { on := 2, ground := Ground.guard }], guard := some (2, false) }) (v := ?vrtl203r34o6) rfl (by kernel_rfl) (by kernel_rfl) (by kernel_rfl) (fun _ _ _ h => h) (Or.inl ⟨by rfl, ?hrtl203r34o6⟩) hS ?_
        case hrtl203r34o6 => (intro wx hx; skip; go_simp; (try with_reducible rfl))
        try simp only [Act.put, List.setIfInBounds_toArray, List.set_cons_zero, List.set_cons_succ]
        refine wpAnyH_take (i := 7) (oi := { dst := some 210, op := Op.fieldAddr 44 (Operand.tmp 209) 1, type := 0, pos := "law.go:117", after := #[{ on := 6, ground := Ground.data }, { on := 2, ground := Ground.guard }], guard := some (2, false) }) (v := ?vrtl203r34o7) rfl (by kernel_rfl) (by kernel_rfl) (by kernel_rfl) (fun _ _ _ h => h) (Or.inl ⟨by rfl, ?hrtl203r34o7⟩) hS ?_
        case hrtl203r34o7 => (intro wx hx; skip; go_simp; (try with_reducible rfl))
        try simp only [Act.put, List.setIfInBounds_toArray, List.set_cons_zero, List.set_cons_succ]
        refine wpAnyH_take (i := 8) (oi := { dst := some 211, op := Op.load 42 (Operand.tmp 210), type := 42, pos := "law.go:117", after := #[{ on := 7, ground := Ground.data }, { on := 2, ground := Ground.guard }], guard := some (2, false) }) (v := ?vrtl203r34o8) rfl (by kernel_rfl) (by kernel_rfl) (by kernel_rfl) (fun _ _ _ h => h) (Or.inl ⟨by rfl, ?hrtl203r34o8⟩) hS ?_
        case hrtl203r34o8 => (intro wx hx; have x0 := hx; unfold SR at x0; go_simp; (try with_reducible rfl))
        try simp only [Act.put, List.setIfInBounds_toArray, List.set_cons_zero, List.set_cons_succ]
        refine wpAnyH_ready (rs := [4]) (by kernel_rfl) (by simp) ?_
        refine AllReadyH.cons (o := { dst := some 207, op := Op.call { callee := Callee.value (Operand.func 24), args := #[Operand.tmp 206], argTypes := #[32] }, type := 42, pos := "law.go:117", after := #[{ on := 3, ground := Ground.data }, { on := 2, ground := Ground.chain }, { on := 2, ground := Ground.guard }], guard := some (2, false) }) rfl (fun K hK => ?_) AllReadyH.nil
        go_simp
        refine (HW.out _ hOr.out).mono ?_
        rintro e u4 ⟨ad3, cp3, rfl, hO4, hg4⟩
        have hS1 := SR.keep hS hg4
        have hA4 := hat9.out.grown hg4 (by simp)
        have hOn : Hid (Grommet.Own w u4 ((P3 Z g r XS L2 L2 (stepC (D : Int) xi ge nn xe ra rb xs_ xdr)) ++ [rowP 79 2 (.slice ad3 mL cp3) mL (wcells L2)])) := Lib.hid hO4
        clear hOr hat9 hO4 hg4 HW
        obtain ⟨p7, _⟩ := Own.pairs hOn.out 3 rfl
        have HS9 := Lib.hid (SameW_any ad3 adl mL mL cp3 cpl L2 L2 u4 p7 hA4 HmL.out HmL.out (by omega))
        rw [decide_eq_true rfl] at HS9
        clear p7 hA4
        have hOr := hOn
        clear hOn
        refine hK.out _ _ ?hsrtl203r34o4 (fun hS => ?_)
        case hsrtl203r34o4 => (exact hS1)
        clear hK K
        try simp only [Act.put, List.setIfInBounds_toArray, List.set_cons_zero, List.set_cons_succ]
        refine wpAnyH_ready (rs := [9]) (by kernel_rfl) (by simp) ?_
        refine AllReadyH.cons (o := { dst := some 212, op := Op.call { callee := Callee.value (Operand.func 23), args := #[Operand.tmp 207, Operand.tmp 211], argTypes := #[42, 42] }, type := 4, pos := "law.go:117", after := #[{ on := 4, ground := Ground.data }, { on := 8, ground := Ground.data }, { on := 4, ground := Ground.chain }, { on := 2, ground := Ground.guard }], guard := some (2, false) }) rfl (fun K hK => ?_) AllReadyH.nil
        go_simp
        refine HS9.out.mono ?_
        rintro e u5 ⟨rfl, hg5⟩
        have hS1 := SR.keep hS hg5
        have hOn := Lib.hid (hOr.out.quiet hg5)
        clear hOr hg5 HS9
        have hOr := hOn
        clear hOn
        refine hK.out _ _ ?hsrtl203r34o9 (fun hS => ?_)
        case hsrtl203r34o9 => (exact hS1)
        clear hK K
        try simp only [Act.put, List.setIfInBounds_toArray, List.set_cons_zero, List.set_cons_succ]
        refine wpAnyH_take (i := 10) (oi := { dst := some 213, op := Op.unOp UnOp.not 4 (Operand.tmp 212), type := 4, pos := "law.go:117", after := #[{ on := 9, ground := Ground.data }, { on := 2, ground := Ground.guard }], guard := some (2, false) }) (v := ?vrtl203r34o10) rfl (by kernel_rfl) (by kernel_rfl) (by kernel_rfl) (fun _ _ _ h => h) (Or.inl ⟨by rfl, ?hrtl203r34o10⟩) hS ?_
        case hrtl203r34o10 => (intro wx hx; skip; go_simp; (try with_reducible rfl))
        try simp only [Act.put, List.setIfInBounds_toArray, List.set_cons_zero, List.set_cons_succ]
        refine wpAnyH_take (i := 11) (oi := { dst := some 214, op := Op.pick (Operand.tmp 205) (Operand.const (Value.bool true)) (Operand.tmp 213), type := 4, pos := "law.go:117", after := #[{ on := 2, ground := Ground.data }, { on := 10, ground := Ground.data }], guard := none }) (v := ?vrtl203r34o11) rfl (by kernel_rfl) (by kernel_rfl) (by kernel_rfl) (fun _ _ _ h => h) (Or.inl ⟨by rfl, ?hrtl203r34o11⟩) hS ?_
        case hrtl203r34o11 => (intro wx hx; skip; go_simp; (try with_reducible rfl))
        try simp only [Act.put, List.setIfInBounds_toArray, List.set_cons_zero, List.set_cons_succ]
        refine wpAnyH_done (by kernel_rfl) ?_ _
        clear hS hR0
        go_wp2
        go_roundw
        case rel => exact ⟨k + 1, L2, by omega, by go_num, Lib.hid (show Grommet.Own w _ ((P2 g r XS L2 L2) ++ [boxP Z 41 (stepC (D : Int) xi ge nn xe ra rb xs_ xdr), rowP 79 2 (.slice ad3 mL cp3) mL (wcells L2)]) from hOr.out).less⟩
        case measure => simp [intOf]; omega
      · as_aux_lemma =>
        obtain ⟨L3, cl, en, HA, HB⟩ := ack_both xi ge nn Hv.out.1.1 XS L2 hxl hgl.out
        have HA := Lib.hid (HA 0 g w _ _ hOr.out rfl)
        have HB := Lib.hid (fun wx (hO : Grommet.Own w wx (P3 Z g r XS L3 L2 (stepC (D : Int) xi ge nn xe ra rb xs_ xdr))) => HB 1 r w wx _ hO rfl)
        have qe : ((en : Int) == (en : Int)) = true := by simp
        have qc : ((cl : Int) == (cl : Int)) = true := by simp
        obtain ⟨z0, z1, z2, z3, z4, z5, z6, z7, z8⟩ := SZ.facts (ss_of' hOr.out)
        clear hOr
        go_wp2_with fail
        refine HA.out.mono ?_
        rintro e u7 ⟨rfl, hn⟩
        have hO7 : Grommet.Own w u7 (P3 Z g r XS L3 L2 (stepC (D : Int) xi ge nn xe ra rb xs_ xdr)) := hn
        clear z0 z1 z2 z3 z4 z5 z6 z7 z8 HA hn
        have HB := Lib.hid (HB.out _ hO7)
        obtain ⟨z0, z1, z2, z3, z4, z5, z6, z7, z8⟩ := SZ.facts (ss_of' hO7)
        clear hO7
        go_wp2_with fail
        refine HB.out.mono ?_
        rintro e u8 ⟨rfl, hn⟩
        have hOr : Hid (Grommet.Own w u8 (P3 Z g r XS L3 L3 (stepC (D : Int) xi ge nn xe ra rb xs_ xdr))) := Lib.hid hn
        clear z0 z1 z2 z3 z4 z5 z6 z7 z8 HB hn
        go_upto_region 34 with fail
        obtain ⟨mL, hmL⟩ : ∃ mL, L3.length = mL := ⟨_, rfl⟩
        obtain ⟨adl, cpl, hcl, _, hatl⟩ := refQ_obj hOr.out 1 rfl
        have hwl := Own.wl hOr.out 0 rfl
        have hmb : mL ≤ 96 := by rw [← hmL]; exact hwl.1.few
        rw [hmL] at hcl
        have HmL := Lib.hid hmL
        have hR0 := Lib.hid (SR.keep (show SR r adl mL cpl _ from hcl) (grown_drew (World.grownBy.refl _ none)))
        have hat9 := Lib.hid (hatl.grown (grown_drew (World.grownBy.refl _ none)) (by simp))
        have HW := Lib.hid (fun wx (h : Grommet.Own w wx (P3 Z g r XS L3 L3 (stepC (D : Int) xi ge nn xe ra rb xs_ xdr))) => WritesG 0 g XS L3 w wx _ h rfl)
        rw [hmL] at HW
        have hOq := Lib.hid (hOr.out.quiet (grown_drew (World.grownBy.refl _ none)))
        clear hwl hcl hatl hmL hOr
        have hOr := hOq
        clear hOq
        refine wp_region_held_drew (S := fun w' => SR r adl mL cpl w') (by kernel_rfl) (hR0.out) (fun hS => ?_)
        refine wpAnyH_take (i := 0) (oi := { dst := some 203, op := Op.move (Operand.tmp 12), type := 4, pos := "law.go:117", after := #[], guard := none }) (v := ?vrtl313r34o0) rfl (by kernel_rfl) (by kernel_rfl) (by kernel_rfl) (fun _ _ _ h => h) (Or.inl ⟨by rfl, ?hrtl313r34o0⟩) hS ?_
        case hrtl313r34o0 => (intro wx hx; skip; go_simp; (try with_reducible rfl))
        try simp only [Act.put, List.setIfInBounds_toArray, List.set_cons_zero, List.set_cons_succ]
        refine wpAnyH_take (i := 1) (oi := { dst := some 204, op := Op.unOp UnOp.not 4 (Operand.tmp 203), type := 4, pos := "law.go:117", after := #[{ on := 0, ground := Ground.data }], guard := none }) (v := ?vrtl313r34o1) rfl (by kernel_rfl) (by kernel_rfl) (by kernel_rfl) (fun _ _ _ h => h) (Or.inl ⟨by rfl, ?hrtl313r34o1⟩) hS ?_
        case hrtl313r34o1 => (intro wx hx; skip; go_simp; (try with_reducible rfl))
        try simp only [Act.put, List.setIfInBounds_toArray, List.set_cons_zero, List.set_cons_succ]
        refine wpAnyH_take (i := 2) (oi := { dst := some 205, op := Op.move (Operand.tmp 204), type := 4, pos := "law.go:117", after := #[{ on := 1, ground := Ground.data }], guard := none }) (v := ?vrtl313r34o2) rfl (by kernel_rfl) (by kernel_rfl) (by kernel_rfl) (fun _ _ _ h => h) (Or.inl ⟨by rfl, ?hrtl313r34o2⟩) hS ?_
        case hrtl313r34o2 => (intro wx hx; skip; go_simp; (try with_reducible rfl))
        try simp only [Act.put, List.setIfInBounds_toArray, List.set_cons_zero, List.set_cons_succ]
        refine wpAnyH_take (i := 3) (oi := { dst := some 206, op := Op.move (Operand.tmp 8), type := 32, pos := "law.go:117", after := #[{ on := 2, ground := Ground.guard }], guard := some (2, false) }) (v := ?vrtl313r34o3) rfl (by kernel_rfl) (by kernel_rfl) (by kernel_rfl) (fun _ _ _ h => h) (Or.inl ⟨by rfl, ?hrtl313r34o3⟩) hS ?_
        case hrtl313r34o3 => (intro wx hx; skip; go_simp; (try with_reducible rfl))
        try simp only [Act.put, List.setIfInBounds_toArray, List.set_cons_zero, List.set_cons_succ]
        refine wpAnyH_take (i := 5) (oi := { dst := some 208, op := Op.move (Operand.tmp 9), type := 34, pos := "law.go:117", after := #[{ on := 2, ground := Ground.guard }], guard := some (2, false) }) (v := ?vrtl313r34o5) rfl (by kernel_rfl) (by kernel_rfl) (by kernel_rfl) (fun _ _ _ h => h) (Or.inl ⟨by rfl, ?hrtl313r34o5⟩) hS ?_
        case hrtl313r34o5 => (intro wx hx; skip; go_simp; (try with_reducible rfl))
        try simp only [Act.put, List.setIfInBounds_toArray, List.set_cons_zero, List.set_cons_succ]
        refine wpAnyH_take (i := 6) (oi := { dst := some 209, op := Op.nilCheck (Operand.tmp 208), type := 0, pos := "law.go:117", after := #[{ on := 5, ground := Ground.data }, { on := 2, ground := Ground.guard }], guard := some (2, false) }) (v := ?vrtl313r34o6) rfl (by kernel_rfl) (by kernel_rfl) (by kernel_rfl) (fun _ _ _ h => h) (Or.inl ⟨by rfl, ?hrtl313r34o6⟩) hS ?_
        case hrtl313r34o6 => (intro wx hx; skip; go_simp; (try with_reducible rfl))
        try simp only [Act.put, List.setIfInBounds_toArray, List.set_cons_zero, List.set_cons_succ]
        refine wpAnyH_take (i := 7) (oi := { dst := some 210, op := Op.fieldAddr 44 (Operand.tmp 209) 1, type := 0, pos := "law.go:117", after := #[{ on := 6, ground := Ground.data }, { on := 2, ground := Ground.guard }], guard := some (2, false) }) (v := ?vrtl313r34o7) rfl (by kernel_rfl) (by kernel_rfl) (by kernel_rfl) (fun _ _ _ h => h) (Or.inl ⟨by rfl, ?hrtl313r34o7⟩) hS ?_
        case hrtl313r34o7 => (intro wx hx; skip; go_simp; (try with_reducible rfl))
        try simp only [Act.put, List.setIfInBounds_toArray, List.set_cons_zero, List.set_cons_succ]
        refine wpAnyH_take (i := 8) (oi := { dst := some 211, op := Op.load 42 (Operand.tmp 210), type := 42, pos := "law.go:117", after := #[{ on := 7, ground := Ground.data }, { on := 2, ground := Ground.guard }], guard := some (2, false) }) (v := ?vrtl313r34o8) rfl (by kernel_rfl) (by kernel_rfl) (by kernel_rfl) (fun _ _ _ h => h) (Or.inl ⟨by rfl, ?hrtl313r34o8⟩) hS ?_
        case hrtl313r34o8 => (intro wx hx; have x0 := hx; unfold SR at x0; go_simp; (try with_reducible rfl))
        try simp only [Act.put, List.setIfInBounds_toArray, List.set_cons_zero, List.set_cons_succ]
        refine wpAnyH_ready (rs := [4]) (by kernel_rfl) (by simp) ?_
        refine AllReadyH.cons (o := { dst := some 207, op := Op.call { callee := Callee.value (Operand.func 24), args := #[Operand.tmp 206], argTypes := #[32] }, type := 42, pos := "law.go:117", after := #[{ on := 3, ground := Ground.data }, { on := 2, ground := Ground.chain }, { on := 2, ground := Ground.guard }], guard := some (2, false) }) rfl (fun K hK => ?_) AllReadyH.nil
        go_simp
        refine (HW.out _ hOr.out).mono ?_
        rintro e u4 ⟨ad3, cp3, rfl, hO4, hg4⟩
        have hS1 := SR.keep hS hg4
        have hA4 := hat9.out.grown hg4 (by simp)
        have hOn : Hid (Grommet.Own w u4 ((P3 Z g r XS L3 L3 (stepC (D : Int) xi ge nn xe ra rb xs_ xdr)) ++ [rowP 79 2 (.slice ad3 mL cp3) mL (wcells L3)])) := Lib.hid hO4
        clear hOr hat9 hO4 hg4 HW
        obtain ⟨p7, _⟩ := Own.pairs hOn.out 3 rfl
        have HS9 := Lib.hid (SameW_any ad3 adl mL mL cp3 cpl L3 L3 u4 p7 hA4 HmL.out HmL.out (by omega))
        rw [decide_eq_true rfl] at HS9
        clear p7 hA4
        have hOr := hOn
        clear hOn
        refine hK.out _ _ ?hsrtl313r34o4 (fun hS => ?_)
        case hsrtl313r34o4 => (exact hS1)
        clear hK K
        try simp only [Act.put, List.setIfInBounds_toArray, List.set_cons_zero, List.set_cons_succ]
        refine wpAnyH_ready (rs := [9]) (by kernel_rfl) (by simp) ?_
        refine AllReadyH.cons (o := { dst := some 212, op := Op.call { callee := Callee.value (Operand.func 23), args := #[Operand.tmp 207, Operand.tmp 211], argTypes := #[42, 42] }, type := 4, pos := "law.go:117", after := #[{ on := 4, ground := Ground.data }, { on := 8, ground := Ground.data }, { on := 4, ground := Ground.chain }, { on := 2, ground := Ground.guard }], guard := some (2, false) }) rfl (fun K hK => ?_) AllReadyH.nil
        go_simp
        refine HS9.out.mono ?_
        rintro e u5 ⟨rfl, hg5⟩
        have hS1 := SR.keep hS hg5
        have hOn := Lib.hid (hOr.out.quiet hg5)
        clear hOr hg5 HS9
        have hOr := hOn
        clear hOn
        refine hK.out _ _ ?hsrtl313r34o9 (fun hS => ?_)
        case hsrtl313r34o9 => (exact hS1)
        clear hK K
        try simp only [Act.put, List.setIfInBounds_toArray, List.set_cons_zero, List.set_cons_succ]
        refine wpAnyH_take (i := 10) (oi := { dst := some 213, op := Op.unOp UnOp.not 4 (Operand.tmp 212), type := 4, pos := "law.go:117", after := #[{ on := 9, ground := Ground.data }, { on := 2, ground := Ground.guard }], guard := some (2, false) }) (v := ?vrtl313r34o10) rfl (by kernel_rfl) (by kernel_rfl) (by kernel_rfl) (fun _ _ _ h => h) (Or.inl ⟨by rfl, ?hrtl313r34o10⟩) hS ?_
        case hrtl313r34o10 => (intro wx hx; skip; go_simp; (try with_reducible rfl))
        try simp only [Act.put, List.setIfInBounds_toArray, List.set_cons_zero, List.set_cons_succ]
        refine wpAnyH_take (i := 11) (oi := { dst := some 214, op := Op.pick (Operand.tmp 205) (Operand.const (Value.bool true)) (Operand.tmp 213), type := 4, pos := "law.go:117", after := #[{ on := 2, ground := Ground.data }, { on := 10, ground := Ground.data }], guard := none }) (v := ?vrtl313r34o11) rfl (by kernel_rfl) (by kernel_rfl) (by kernel_rfl) (fun _ _ _ h => h) (Or.inl ⟨by rfl, ?hrtl313r34o11⟩) hS ?_
        case hrtl313r34o11 => (intro wx hx; skip; go_simp; (try with_reducible rfl))
        try simp only [Act.put, List.setIfInBounds_toArray, List.set_cons_zero, List.set_cons_succ]
        refine wpAnyH_done (by kernel_rfl) ?_ _
        clear hS hR0
        go_wp2
        go_roundw
        case rel => exact ⟨k + 1, L3, by omega, by go_num, Lib.hid (show Grommet.Own w _ ((P2 g r XS L3 L3) ++ [boxP Z 41 (stepC (D : Int) xi ge nn xe ra rb xs_ xdr), rowP 79 2 (.slice ad3 mL cp3) mL (wcells L3)]) from hOr.out).less⟩
        case measure => simp [intOf]; omega
      · as_aux_lemma =>
        obtain ⟨L3, cl, en, hc3, HA, HB⟩ := open_both xi ge Hv.out.1.1 XS L2 hxl hgl.out
        have HA := Lib.hid (HA 0 g w _ _ hOr.out rfl)
        have HB := Lib.hid (fun wx (hO : Grommet.Own w wx (P3 Z g r XS L3 L2 (stepC (D : Int) xi ge nn xe ra rb xs_ xdr))) => HB 1 r w wx _ hO rfl)
        have qe : ((en : Int) == (en : Int)) = true := by simp
        have qc : ((cl : Int) == (cl : Int)) = true := by simp
        have wc : IntKind.i64.wrap (cl : Int) = (cl : Int) := IntWalk.i64_in _ ⟨by omega, by omega⟩
        obtain ⟨z0, z1, z2, z3, z4, z5, z6, z7, z8⟩ := SZ.facts (ss_of' hOr.out)
        clear hOr
        go_wp2_with fail
        refine HA.out.mono ?_
        rintro e u7 ⟨rfl, hn⟩
        have hO7 : Grommet.Own w u7 (P3 Z g r XS L3 L2 (stepC (D : Int) xi ge nn xe ra rb xs_ xdr)) := hn
        clear z0 z1 z2 z3 z4 z5 z6 z7 z8 HA hn
        have HB := Lib.hid (HB.out _ hO7)
        obtain ⟨z0, z1, z2, z3, z4, z5, z6, z7, z8⟩ := SZ.facts (ss_of' hO7)
        clear hO7
        go_wp2_with fail
        refine HB.out.mono ?_
        rintro e u8 ⟨rfl, hn⟩
        have hOr : Hid (Grommet.Own w u8 (P3 Z g r XS L3 L3 (stepC (D : Int) xi ge nn xe ra rb xs_ xdr))) := Lib.hid hn
        clear z0 z1 z2 z3 z4 z5 z6 z7 z8 HB hn
        go_upto_region 34 with fail
        obtain ⟨mL, hmL⟩ : ∃ mL, L3.length = mL := ⟨_, rfl⟩
        obtain ⟨adl, cpl, hcl, _, hatl⟩ := refQ_obj hOr.out 1 rfl
        have hwl := Own.wl hOr.out 0 rfl
        have hmb : mL ≤ 96 := by rw [← hmL]; exact hwl.1.few
        rw [hmL] at hcl
        have HmL := Lib.hid hmL
        have hR0 := Lib.hid (SR.keep (show SR r adl mL cpl _ from hcl) (grown_drew (World.grownBy.refl _ none)))
        have hat9 := Lib.hid (hatl.grown (grown_drew (World.grownBy.refl _ none)) (by simp))
        have HW := Lib.hid (fun wx (h : Grommet.Own w wx (P3 Z g r XS L3 L3 (stepC (D : Int) xi ge nn xe ra rb xs_ xdr))) => WritesG 0 g XS L3 w wx _ h rfl)
        rw [hmL] at HW
        have hOq := Lib.hid (hOr.out.quiet (grown_drew (World.grownBy.refl _ none)))
        clear hwl hcl hatl hmL hOr
        have hOr := hOq
        clear hOq
        refine wp_region_held_drew (S := fun w' => SR r adl mL cpl w') (by kernel_rfl) (hR0.out) (fun hS => ?_)
        refine wpAnyH_take (i := 0) (oi := { dst := some 203, op := Op.move (Operand.tmp 12), type := 4, pos := "law.go:117", after := #[], guard := none }) (v := ?vrtl323r34o0) rfl (by kernel_rfl) (by kernel_rfl) (by kernel_rfl) (fun _ _ _ h => h) (Or.inl ⟨by rfl, ?hrtl323r34o0⟩) hS ?_
        case hrtl323r34o0 => (intro wx hx; skip; go_simp; (try with_reducible rfl))
        try simp only [Act.put, List.setIfInBounds_toArray, List.set_cons_zero, List.set_cons_succ]
        refine wpAnyH_take (i := 1) (oi := { dst := some 204, op := Op.unOp UnOp.not 4 (Operand.tmp 203), type := 4, pos := "law.go:117", after := #[{ on := 0, ground := Ground.data }], guard := none }) (v := ?vrtl323r34o1) rfl (by kernel_rfl) (by kernel_rfl) (by kernel_rfl) (fun _ _ _ h => h) (Or.inl ⟨by rfl, ?hrtl323r34o1⟩) hS ?_
        case hrtl323r34o1 => (intro wx hx; skip; go_simp; (try with_reducible rfl))
        try simp only [Act.put, List.setIfInBounds_toArray, List.set_cons_zero, List.set_cons_succ]
        refine wpAnyH_take (i := 2) (oi := { dst := some 205, op := Op.move (Operand.tmp 204), type := 4, pos := "law.go:117", after := #[{ on := 1, ground := Ground.data }], guard := none }) (v := ?vrtl323r34o2) rfl (by kernel_rfl) (by kernel_rfl) (by kernel_rfl) (fun _ _ _ h => h) (Or.inl ⟨by rfl, ?hrtl323r34o2⟩) hS ?_
        case hrtl323r34o2 => (intro wx hx; skip; go_simp; (try with_reducible rfl))
        try simp only [Act.put, List.setIfInBounds_toArray, List.set_cons_zero, List.set_cons_succ]
        refine wpAnyH_take (i := 3) (oi := { dst := some 206, op := Op.move (Operand.tmp 8), type := 32, pos := "law.go:117", after := #[{ on := 2, ground := Ground.guard }], guard := some (2, false) }) (v := ?vrtl323r34o3) rfl (by kernel_rfl) (by kernel_rfl) (by kernel_rfl) (fun _ _ _ h => h) (Or.inl ⟨by rfl, ?hrtl323r34o3⟩) hS ?_
        case hrtl323r34o3 => (intro wx hx; skip; go_simp; (try with_reducible rfl))
        try simp only [Act.put, List.setIfInBounds_toArray, List.set_cons_zero, List.set_cons_succ]
        refine wpAnyH_take (i := 5) (oi := { dst := some 208, op := Op.move (Operand.tmp 9), type := 34, pos := "law.go:117", after := #[{ on := 2, ground := Ground.guard }], guard := some (2, false) }) (v := ?vrtl323r34o5) rfl (by kernel_rfl) (by kernel_rfl) (by kernel_rfl) (fun _ _ _ h => h) (Or.inl ⟨by rfl, ?hrtl323r34o5⟩) hS ?_
        case hrtl323r34o5 => (intro wx hx; skip; go_simp; (try with_reducible rfl))
        try simp only [Act.put, List.setIfInBounds_toArray, List.set_cons_zero, List.set_cons_succ]
        refine wpAnyH_take (i := 6) (oi := { dst := some 209, op := Op.nilCheck (Operand.tmp 208), type := 0, pos := "law.go:117", after := #[{ on := 5, ground := Ground.data }, { on := 2, ground := Ground.guard }], guard := some (2, false) }) (v := ?vrtl323r34o6) rfl (by kernel_rfl) (by kernel_rfl) (by kernel_rfl) (fun _ _ _ h => h) (Or.inl ⟨by rfl, ?hrtl323r34o6⟩) hS ?_
        case hrtl323r34o6 => (intro wx hx; skip; go_simp; (try with_reducible rfl))
        try simp only [Act.put, List.setIfInBounds_toArray, List.set_cons_zero, List.set_cons_succ]
        refine wpAnyH_take (i := 7) (oi := { dst := some 210, op := Op.fieldAddr 44 (Operand.tmp 209) 1, type := 0, pos := "law.go:117", after := #[{ on := 6, ground := Ground.data }, { on := 2, ground := Ground.guard }], guard := some (2, false) }) (v := ?vrtl323r34o7) rfl (by kernel_rfl) (by kernel_rfl) (by kernel_rfl) (fun _ _ _ h => h) (Or.inl ⟨by rfl, ?hrtl323r34o7⟩) hS ?_
        case hrtl323r34o7 => (intro wx hx; skip; go_simp; (try with_reducible rfl))
        try simp only [Act.put, List.setIfInBounds_toArray, List.set_cons_zero, List.set_cons_succ]
        refine wpAnyH_take (i := 8) (oi := { dst := some 211, op := Op.load 42 (Operand.tmp 210), type := 42, pos := "law.go:117", after := #[{ on := 7, ground := Ground.data }, { on := 2, ground := Ground.guard }], guard := some (2, false) }) (v := ?vrtl323r34o8) rfl (by kernel_rfl) (by kernel_rfl) (by kernel_rfl) (fun _ _ _ h => h) (Or.inl ⟨by rfl, ?hrtl323r34o8⟩) hS ?_
        case hrtl323r34o8 => (intro wx hx; have x0 := hx; unfold SR at x0; go_simp; (try with_reducible rfl))
        try simp only [Act.put, List.setIfInBounds_toArray, List.set_cons_zero, List.set_cons_succ]
        refine wpAnyH_ready (rs := [4]) (by kernel_rfl) (by simp) ?_
        refine AllReadyH.cons (o := { dst := some 207, op := Op.call { callee := Callee.value (Operand.func 24), args := #[Operand.tmp 206], argTypes := #[32] }, type := 42, pos := "law.go:117", after := #[{ on := 3, ground := Ground.data }, { on := 2, ground := Ground.chain }, { on := 2, ground := Ground.guard }], guard := some (2, false) }) rfl (fun K hK => ?_) AllReadyH.nil
        go_simp
        refine (HW.out _ hOr.out).mono ?_
        rintro e u4 ⟨ad3, cp3, rfl, hO4, hg4⟩
        have hS1 := SR.keep hS hg4
        have hA4 := hat9.out.grown hg4 (by simp)
        have hOn : Hid (Grommet.Own w u4 ((P3 Z g r XS L3 L3 (stepC (D : Int) xi ge nn xe ra rb xs_ xdr)) ++ [rowP 79 2 (.slice ad3 mL cp3) mL (wcells L3)])) := Lib.hid hO4
        clear hOr hat9 hO4 hg4 HW
        obtain ⟨p7, _⟩ := Own.pairs hOn.out 3 rfl
        have HS9 := Lib.hid (SameW_any ad3 adl mL mL cp3 cpl L3 L3 u4 p7 hA4 HmL.out HmL.out (by omega))
        rw [decide_eq_true rfl] at HS9
        clear p7 hA4
        have hOr := hOn
        clear hOn
        refine hK.out _ _ ?hsrtl323r34o4 (fun hS => ?_)
        case hsrtl323r34o4 => (exact hS1)
        clear hK K
        try simp only [Act.put, List.setIfInBounds_toArray, List.set_cons_zero, List.set_cons_succ]
        refine wpAnyH_ready (rs := [9]) (by kernel_rfl) (by simp) ?_
        refine AllReadyH.cons (o := { dst := some 212, op := Op.call { callee := Callee.value (Operand.func 23), args := #[Operand.tmp 207, Operand.tmp 211], argTypes := #[42, 42] }, type := 4, pos := "law.go:117", after := #[{ on := 4, ground := Ground.data }, { on := 8, ground := Ground.data }, { on := 4, ground := Ground.chain }, { on := 2, ground := Ground.guard }], guard := some (2, false) }) rfl (fun K hK => ?_) AllReadyH.nil
        go_simp
        refine HS9.out.mono ?_
        rintro e u5 ⟨rfl, hg5⟩
        have hS1 := SR.keep hS hg5
        have hOn := Lib.hid (hOr.out.quiet hg5)
        clear hOr hg5 HS9
        have hOr := hOn
        clear hOn
        refine hK.out _ _ ?hsrtl323r34o9 (fun hS => ?_)
        case hsrtl323r34o9 => (exact hS1)
        clear hK K
        try simp only [Act.put, List.setIfInBounds_toArray, List.set_cons_zero, List.set_cons_succ]
        refine wpAnyH_take (i := 10) (oi := { dst := some 213, op := Op.unOp UnOp.not 4 (Operand.tmp 212), type := 4, pos := "law.go:117", after := #[{ on := 9, ground := Ground.data }, { on := 2, ground := Ground.guard }], guard := some (2, false) }) (v := ?vrtl323r34o10) rfl (by kernel_rfl) (by kernel_rfl) (by kernel_rfl) (fun _ _ _ h => h) (Or.inl ⟨by rfl, ?hrtl323r34o10⟩) hS ?_
        case hrtl323r34o10 => (intro wx hx; skip; go_simp; (try with_reducible rfl))
        try simp only [Act.put, List.setIfInBounds_toArray, List.set_cons_zero, List.set_cons_succ]
        refine wpAnyH_take (i := 11) (oi := { dst := some 214, op := Op.pick (Operand.tmp 205) (Operand.const (Value.bool true)) (Operand.tmp 213), type := 4, pos := "law.go:117", after := #[{ on := 2, ground := Ground.data }, { on := 10, ground := Ground.data }], guard := none }) (v := ?vrtl323r34o11) rfl (by kernel_rfl) (by kernel_rfl) (by kernel_rfl) (fun _ _ _ h => h) (Or.inl ⟨by rfl, ?hrtl323r34o11⟩) hS ?_
        case hrtl323r34o11 => (intro wx hx; skip; go_simp; (try with_reducible rfl))
        try simp only [Act.put, List.setIfInBounds_toArray, List.set_cons_zero, List.set_cons_succ]
        refine wpAnyH_done (by kernel_rfl) ?_ _
        clear hS hR0
        go_wp2
        go_roundw
        case rel => exact ⟨k + 1, L3, by omega, by go_num, Lib.hid (show Grommet.Own w _ ((P2 g r XS L3 L3) ++ [boxP Z 41 (stepC (D : Int) xi ge nn xe ra rb xs_ xdr), rowP 79 2 (.slice ad3 mL cp3) mL (wcells L3)]) from hOr.out).less⟩
        case measure => simp [intOf]; omega
      · as_aux_lemma =>
        obtain ⟨L3, cl, en, hc3, HA, HB⟩ := close_both xi ge Hv.out.1.1 XS L2 hxl hgl.out
        have HA := Lib.hid (HA 0 g w _ _ hOr.out rfl)
        have HB := Lib.hid (fun wx (hO : Grommet.Own w wx (P3 Z g r XS L3 L2 (stepC (D : Int) xi ge nn xe ra rb xs_ xdr))) => HB 1 r w wx _ hO rfl)
        have qe : ((en : Int) == (en : Int)) = true := by simp
        have qc : ((cl : Int) == (cl : Int)) = true := by simp
        have wc : IntKind.i64.wrap (cl : Int) = (cl : Int) := IntWalk.i64_in _ ⟨by omega, by omega⟩
        obtain ⟨z0, z1, z2, z3, z4, z5, z6, z7, z8⟩ := SZ.facts (ss_of' hOr.out)
        clear hOr
        go_wp2_with fail
        refine HA.out.mono ?_
        rintro e u7 ⟨rfl, hn⟩
        have hO7 : Grommet.Own w u7 (P3 Z g r XS L3 L2 (stepC (D : Int) xi ge nn xe ra rb xs_ xdr)) := hn
        clear z0 z1 z2 z3 z4 z5 z6 z7 z8 HA hn
        have HB := Lib.hid (HB.out _ hO7)
        obtain ⟨z0, z1, z2, z3, z4, z5, z6, z7, z8⟩ := SZ.facts (ss_of' hO7)
        clear hO7
        go_wp2_with fail
        refine HB.out.mono ?_
        rintro e u8 ⟨rfl, hn⟩
        have hOr : Hid (Grommet.Own w u8 (P3 Z g r XS L3 L3 (stepC (D : Int) xi ge nn xe ra rb xs_ xdr))) := Lib.hid hn
        clear z0 z1 z2 z3 z4 z5 z6 z7 z8 HB hn
        go_upto_region 34 with fail
        obtain ⟨mL, hmL⟩ : ∃ mL, L3.length = mL := ⟨_, rfl⟩
        obtain ⟨adl, cpl, hcl, _, hatl⟩ := refQ_obj hOr.out 1 rfl
        have hwl := Own.wl hOr.out 0 rfl
        have hmb : mL ≤ 96 := by rw [← hmL]; exact hwl.1.few
        rw [hmL] at hcl
        have HmL := Lib.hid hmL
        have hR0 := Lib.hid (SR.keep (show SR r adl mL cpl _ from hcl) (grown_drew (World.grownBy.refl _ none)))
        have hat9 := Lib.hid (hatl.grown (grown_drew (World.grownBy.refl _ none)) (by simp))
        have HW := Lib.hid (fun wx (h : Grommet.Own w wx (P3 Z g r XS L3 L3 (stepC (D : Int) xi ge nn xe ra rb xs_ xdr))) => WritesG 0 g XS L3 w wx _ h rfl)
        rw [hmL] at HW
        have hOq := Lib.hid (hOr.out.quiet (grown_drew (World.grownBy.refl _ none)))
        clear hwl hcl hatl hmL hOr
        have hOr := hOq
        clear hOq
        refine wp_region_held_drew (S := fun w' => SR r adl mL cpl w') (by kernel_rfl) (hR0.out) (fun hS => ?_)
        refine wpAnyH_take (i := 0) (oi := { dst := some 203, op := Op.move (Operand.tmp 12), type := 4, pos := "law.go:117", after := #[], guard := none }) (v := ?vrtl333r34o0) rfl (by kernel_rfl) (by kernel_rfl) (by kernel_rfl) (fun _ _ _ h => h) (Or.inl ⟨by rfl, ?hrtl333r34o0⟩) hS ?_
        case hrtl333r34o0 => (intro wx hx; skip; go_simp; (try with_reducible rfl))
        try simp only [Act.put, List.setIfInBounds_toArray, List.set_cons_zero, List.set_cons_succ]
        refine wpAnyH_take (i := 1) (oi := { dst := some 204, op := Op.unOp UnOp.not 4 (Operand.tmp 203), type := 4, pos := "law.go:117", after := #[{ on := 0, ground := Ground.data }], guard := none }) (v := ?vrtl333r34o1) rfl (by kernel_rfl) (by kernel_rfl) (by kernel_rfl) (fun _ _ _ h => h) (Or.inl ⟨by rfl, ?hrtl333r34o1⟩) hS ?_
        case hrtl333r34o1 => (intro wx hx; skip; go_simp; (try with_reducible rfl))
        try simp only [Act.put, List.setIfInBounds_toArray, List.set_cons_zero, List.set_cons_succ]
        refine wpAnyH_take (i := 2) (oi := { dst := some 205, op := Op.move (Operand.tmp 204), type := 4, pos := "law.go:117", after := #[{ on := 1, ground := Ground.data }], guard := none }) (v := ?vrtl333r34o2) rfl (by kernel_rfl) (by kernel_rfl) (by kernel_rfl) (fun _ _ _ h => h) (Or.inl ⟨by rfl, ?hrtl333r34o2⟩) hS ?_
        case hrtl333r34o2 => (intro wx hx; skip; go_simp; (try with_reducible rfl))
        try simp only [Act.put, List.setIfInBounds_toArray, List.set_cons_zero, List.set_cons_succ]
        refine wpAnyH_take (i := 3) (oi := { dst := some 206, op := Op.move (Operand.tmp 8), type := 32, pos := "law.go:117", after := #[{ on := 2, ground := Ground.guard }], guard := some (2, false) }) (v := ?vrtl333r34o3) rfl (by kernel_rfl) (by kernel_rfl) (by kernel_rfl) (fun _ _ _ h => h) (Or.inl ⟨by rfl, ?hrtl333r34o3⟩) hS ?_
        case hrtl333r34o3 => (intro wx hx; skip; go_simp; (try with_reducible rfl))
        try simp only [Act.put, List.setIfInBounds_toArray, List.set_cons_zero, List.set_cons_succ]
        refine wpAnyH_take (i := 5) (oi := { dst := some 208, op := Op.move (Operand.tmp 9), type := 34, pos := "law.go:117", after := #[{ on := 2, ground := Ground.guard }], guard := some (2, false) }) (v := ?vrtl333r34o5) rfl (by kernel_rfl) (by kernel_rfl) (by kernel_rfl) (fun _ _ _ h => h) (Or.inl ⟨by rfl, ?hrtl333r34o5⟩) hS ?_
        case hrtl333r34o5 => (intro wx hx; skip; go_simp; (try with_reducible rfl))
        try simp only [Act.put, List.setIfInBounds_toArray, List.set_cons_zero, List.set_cons_succ]
        refine wpAnyH_take (i := 6) (oi := { dst := some 209, op := Op.nilCheck (Operand.tmp 208), type := 0, pos := "law.go:117", after := #[{ on := 5, ground := Ground.data }, { on := 2, ground := Ground.guard }], guard := some (2, false) }) (v := ?vrtl333r34o6) rfl (by kernel_rfl) (by kernel_rfl) (by kernel_rfl) (fun _ _ _ h => h) (Or.inl ⟨by rfl, ?hrtl333r34o6⟩) hS ?_
        case hrtl333r34o6 => (intro wx hx; skip; go_simp; (try with_reducible rfl))
        try simp only [Act.put, List.setIfInBounds_toArray, List.set_cons_zero, List.set_cons_succ]
        refine wpAnyH_take (i := 7) (oi := { dst := some 210, op := Op.fieldAddr 44 (Operand.tmp 209) 1, type := 0, pos := "law.go:117", after := #[{ on := 6, ground := Ground.data }, { on := 2, ground := Ground.guard }], guard := some (2, false) }) (v := ?vrtl333r34o7) rfl (by kernel_rfl) (by kernel_rfl) (by kernel_rfl) (fun _ _ _ h => h) (Or.inl ⟨by rfl, ?hrtl333r34o7⟩) hS ?_
        case hrtl333r34o7 => (intro wx hx; skip; go_simp; (try with_reducible rfl))
        try simp only [Act.put, List.setIfInBounds_toArray, List.set_cons_zero, List.set_cons_succ]
        refine wpAnyH_take (i := 8) (oi := { dst := some 211, op := Op.load 42 (Operand.tmp 210), type := 42, pos := "law.go:117", after := #[{ on := 7, ground := Ground.data }, { on := 2, ground := Ground.guard }], guard := some (2, false) }) (v := ?vrtl333r34o8) rfl (by kernel_rfl) (by kernel_rfl) (by kernel_rfl) (fun _ _ _ h => h) (Or.inl ⟨by rfl, ?hrtl333r34o8⟩) hS ?_
        case hrtl333r34o8 => (intro wx hx; have x0 := hx; unfold SR at x0; go_simp; (try with_reducible rfl))
        try simp only [Act.put, List.setIfInBounds_toArray, List.set_cons_zero, List.set_cons_succ]
        refine wpAnyH_ready (rs := [4]) (by kernel_rfl) (by simp) ?_
        refine AllReadyH.cons (o := { dst := some 207, op := Op.call { callee := Callee.value (Operand.func 24), args := #[Operand.tmp 206], argTypes := #[32] }, type := 42, pos := "law.go:117", after := #[{ on := 3, ground := Ground.data }, { on := 2, ground := Ground.chain }, { on := 2, ground := Ground.guard }], guard := some (2, false) }) rfl (fun K hK => ?_) AllReadyH.nil
        go_simp
        refine (HW.out _ hOr.out).mono ?_
        rintro e u4 ⟨ad3, cp3, rfl, hO4, hg4⟩
        have hS1 := SR.keep hS hg4
        have hA4 := hat9.out.grown hg4 (by simp)
        have hOn : Hid (Grommet.Own w u4 ((P3 Z g r XS L3 L3 (stepC (D : Int) xi ge nn xe ra rb xs_ xdr)) ++ [rowP 79 2 (.slice ad3 mL cp3) mL (wcells L3)])) := Lib.hid hO4
        clear hOr hat9 hO4 hg4 HW
        obtain ⟨p7, _⟩ := Own.pairs hOn.out 3 rfl
        have HS9 := Lib.hid (SameW_any ad3 adl mL mL cp3 cpl L3 L3 u4 p7 hA4 HmL.out HmL.out (by omega))
        rw [decide_eq_true rfl] at HS9
        clear p7 hA4
        have hOr := hOn
        clear hOn
        refine hK.out _ _ ?hsrtl333r34o4 (fun hS => ?_)
        case hsrtl333r34o4 => (exact hS1)
        clear hK K
        try simp only [Act.put, List.setIfInBounds_toArray, List.set_cons_zero, List.set_cons_succ]
        refine wpAnyH_ready (rs := [9]) (by kernel_rfl) (by simp) ?_
        refine AllReadyH.cons (o := { dst := some 212, op := Op.call { callee := Callee.value (Operand.func 23), args := #[Operand.tmp 207, Operand.tmp 211], argTypes := #[42, 42] }, type := 4, pos := "law.go:117", after := #[{ on := 4, ground := Ground.data }, { on := 8, ground := Ground.data }, { on := 4, ground := Ground.chain }, { on := 2, ground := Ground.guard }], guard := some (2, false) }) rfl (fun K hK => ?_) AllReadyH.nil
        go_simp
        refine HS9.out.mono ?_
        rintro e u5 ⟨rfl, hg5⟩
        have hS1 := SR.keep hS hg5
        have hOn := Lib.hid (hOr.out.quiet hg5)
        clear hOr hg5 HS9
        have hOr := hOn
        clear hOn
        refine hK.out _ _ ?hsrtl333r34o9 (fun hS => ?_)
        case hsrtl333r34o9 => (exact hS1)
        clear hK K
        try simp only [Act.put, List.setIfInBounds_toArray, List.set_cons_zero, List.set_cons_succ]
        refine wpAnyH_take (i := 10) (oi := { dst := some 213, op := Op.unOp UnOp.not 4 (Operand.tmp 212), type := 4, pos := "law.go:117", after := #[{ on := 9, ground := Ground.data }, { on := 2, ground := Ground.guard }], guard := some (2, false) }) (v := ?vrtl333r34o10) rfl (by kernel_rfl) (by kernel_rfl) (by kernel_rfl) (fun _ _ _ h => h) (Or.inl ⟨by rfl, ?hrtl333r34o10⟩) hS ?_
        case hrtl333r34o10 => (intro wx hx; skip; go_simp; (try with_reducible rfl))
        try simp only [Act.put, List.setIfInBounds_toArray, List.set_cons_zero, List.set_cons_succ]
        refine wpAnyH_take (i := 11) (oi := { dst := some 214, op := Op.pick (Operand.tmp 205) (Operand.const (Value.bool true)) (Operand.tmp 213), type := 4, pos := "law.go:117", after := #[{ on := 2, ground := Ground.data }, { on := 10, ground := Ground.data }], guard := none }) (v := ?vrtl333r34o11) rfl (by kernel_rfl) (by kernel_rfl) (by kernel_rfl) (fun _ _ _ h => h) (Or.inl ⟨by rfl, ?hrtl333r34o11⟩) hS ?_
        case hrtl333r34o11 => (intro wx hx; skip; go_simp; (try with_reducible rfl))
        try simp only [Act.put, List.setIfInBounds_toArray, List.set_cons_zero, List.set_cons_succ]
        refine wpAnyH_done (by kernel_rfl) ?_ _
        clear hS hR0
        go_wp2
        go_roundw
        case rel => exact ⟨k + 1, L3, by omega, by go_num, Lib.hid (show Grommet.Own w _ ((P2 g r XS L3 L3) ++ [boxP Z 41 (stepC (D : Int) xi ge nn xe ra rb xs_ xdr), rowP 79 2 (.slice ad3 mL cp3) mL (wcells L3)]) from hOr.out).less⟩
        case measure => simp [intOf]; omega
      · as_aux_lemma =>
        have HK := Lib.hid (KeepQ 0 1 g r XS L2 (D : Int) xi (ge : Int) nn xe ra rb xs_ xdr Hv.out.1.2 Hv.out.2.1 Hv.out.2.2 w _ _ hOr.out rfl rfl (by decide))
        obtain ⟨z0, z1, z2, z3, z4, z5, z6, z7, z8⟩ := SZ.facts (ss_of' hOr.out)
        clear hOr
        go_wp2_with fail
        refine HK.out.mono ?_
        rintro e u8 ⟨rfl, L3, hn⟩
        have hOr : Hid (Grommet.Own w u8 (P3 Z g r XS L3 L3 (stepC (D : Int) xi ge nn xe ra rb xs_ xdr))) := Lib.hid hn
        clear z0 z1 z2 z3 z4 z5 z6 z7 z8 HK hn
        go_upto_region 34 with fail
        obtain ⟨mL, hmL⟩ : ∃ mL, L3.length = mL := ⟨_, rfl⟩
        obtain ⟨adl, cpl, hcl, _, hatl⟩ := refQ_obj hOr.out 1 rfl
        have hwl := Own.wl hOr.out 0 rfl
        have hmb : mL ≤ 96 := by rw [← hmL]; exact hwl.1.few
        rw [hmL] at hcl
        have HmL := Lib.hid hmL
        have hR0 := Lib.hid (SR.keep (show SR r adl mL cpl _ from hcl) (grown_drew (World.grownBy.refl _ none)))
        have hat9 := Lib.hid (hatl.grown (grown_drew (World.grownBy.refl _ none)) (by simp))
        have HW := Lib.hid (fun wx (h : Grommet.Own w wx (P3 Z g r XS L3 L3 (stepC (D : Int) xi ge nn xe ra rb xs_ xdr))) => WritesG 0 g XS L3 w wx _ h rfl)
        rw [hmL] at HW
        have hOq := Lib.hid (hOr.out.quiet (grown_drew (World.grownBy.refl _ none)))
        clear hwl hcl hatl hmL hOr
        have hOr := hOq
        clear hOq
        refine wp_region_held_drew (S := fun w' => SR r adl mL cpl w') (by kernel_rfl) (hR0.out) (fun hS => ?_)
        refine wpAnyH_take (i := 0) (oi := { dst := some 203, op := Op.move (Operand.tmp 12), type := 4, pos := "law.go:117", after := #[], guard := none }) (v := ?vrtl343r34o0) rfl (by kernel_rfl) (by kernel_rfl) (by kernel_rfl) (fun _ _ _ h => h) (Or.inl ⟨by rfl, ?hrtl343r34o0⟩) hS ?_
        case hrtl343r34o0 => (intro wx hx; skip; go_simp; (try with_reducible rfl))
        try simp only [Act.put, List.setIfInBounds_toArray, List.set_cons_zero, List.set_cons_succ]
        refine wpAnyH_take (i := 1) (oi := { dst := some 204, op := Op.unOp UnOp.not 4 (Operand.tmp 203), type := 4, pos := "law.go:117", after := #[{ on := 0, ground := Ground.data }], guard := none }) (v := ?vrtl343r34o1) rfl (by kernel_rfl) (by kernel_rfl) (by kernel_rfl) (fun _ _ _ h => h) (Or.inl ⟨by rfl, ?hrtl343r34o1⟩) hS ?_
        case hrtl343r34o1 => (intro wx hx; skip; go_simp; (try with_reducible rfl))
        try simp only [Act.put, List.setIfInBounds_toArray, List.set_cons_zero, List.set_cons_succ]
        refine wpAnyH_take (i := 2) (oi := { dst := some 205, op := Op.move (Operand.tmp 204), type := 4, pos := "law.go:117", after := #[{ on := 1, ground := Ground.data }], guard := none }) (v := ?vrtl343r34o2) rfl (by kernel_rfl) (by kernel_rfl) (by kernel_rfl) (fun _ _ _ h => h) (Or.inl ⟨by rfl, ?hrtl343r34o2⟩) hS ?_
        case hrtl343r34o2 => (intro wx hx; skip; go_simp; (try with_reducible rfl))
        try simp only [Act.put, List.setIfInBounds_toArray, List.set_cons_zero, List.set_cons_succ]
        refine wpAnyH_take (i := 3) (oi := { dst := some 206, op := Op.move (Operand.tmp 8), type := 32, pos := "law.go:117", after := #[{ on := 2, ground := Ground.guard }], guard := some (2, false) }) (v := ?vrtl343r34o3) rfl (by kernel_rfl) (by kernel_rfl) (by kernel_rfl) (fun _ _ _ h => h) (Or.inl ⟨by rfl, ?hrtl343r34o3⟩) hS ?_
        case hrtl343r34o3 => (intro wx hx; skip; go_simp; (try with_reducible rfl))
        try simp only [Act.put, List.setIfInBounds_toArray, List.set_cons_zero, List.set_cons_succ]
        refine wpAnyH_take (i := 5) (oi := { dst := some 208, op := Op.move (Operand.tmp 9), type := 34, pos := "law.go:117", after := #[{ on := 2, ground := Ground.guard }], guard := some (2, false) }) (v := ?vrtl343r34o5) rfl (by kernel_rfl) (by kernel_rfl) (by kernel_rfl) (fun _ _ _ h => h) (Or.inl ⟨by rfl, ?hrtl343r34o5⟩) hS ?_
        case hrtl343r34o5 => (intro wx hx; skip; go_simp; (try with_reducible rfl))
        try simp only [Act.put, List.setIfInBounds_toArray, List.set_cons_zero, List.set_cons_succ]
        refine wpAnyH_take (i := 6) (oi := { dst := some 209, op := Op.nilCheck (Operand.tmp 208), type := 0, pos := "law.go:117", after := #[{ on := 5, ground := Ground.data }, { on := 2, ground := Ground.guard }], guard := some (2, false) }) (v := ?vrtl343r34o6) rfl (by kernel_rfl) (by kernel_rfl) (by kernel_rfl) (fun _ _ _ h => h) (Or.inl ⟨by rfl, ?hrtl343r34o6⟩) hS ?_
        case hrtl343r34o6 => (intro wx hx; skip; go_simp; (try with_reducible rfl))
        try simp only [Act.put, List.setIfInBounds_toArray, List.set_cons_zero, List.set_cons_succ]
        refine wpAnyH_take (i := 7) (oi := { dst := some 210, op := Op.fieldAddr 44 (Operand.tmp 209) 1, type := 0, pos := "law.go:117", after := #[{ on := 6, ground := Ground.data }, { on := 2, ground := Ground.guard }], guard := some (2, false) }) (v := ?vrtl343r34o7) rfl (by kernel_rfl) (by kernel_rfl) (by kernel_rfl) (fun _ _ _ h => h) (Or.inl ⟨by rfl, ?hrtl343r34o7⟩) hS ?_
        case hrtl343r34o7 => (intro wx hx; skip; go_simp; (try with_reducible rfl))
        try simp only [Act.put, List.setIfInBounds_toArray, List.set_cons_zero, List.set_cons_succ]
        refine wpAnyH_take (i := 8) (oi := { dst := some 211, op := Op.load 42 (Operand.tmp 210), type := 42, pos := "law.go:117", after := #[{ on := 7, ground := Ground.data }, { on := 2, ground := Ground.guard }], guard := some (2, false) }) (v := ?vrtl343r34o8) rfl (by kernel_rfl) (by kernel_rfl) (by kernel_rfl) (fun _ _ _ h => h) (Or.inl ⟨by rfl, ?hrtl343r34o8⟩) hS ?_
        case hrtl343r34o8 => (intro wx hx; have x0 := hx; unfold SR at x0; go_simp; (try with_reducible rfl))
        try simp only [Act.put, List.setIfInBounds_toArray, List.set_cons_zero, List.set_cons_succ]
        refine wpAnyH_ready (rs := [4]) (by kernel_rfl) (by simp) ?_
        refine AllReadyH.cons (o := { dst := some 207, op := Op.call { callee := Callee.value (Operand.func 24), args := #[Operand.tmp 206], argTypes := #[32] }, type := 42, pos := "law.go:117", after := #[{ on := 3, ground := Ground.data }, { on := 2, ground := Ground.chain }, { on := 2, ground := Ground.guard }], guard := some (2, false) }) rfl (fun K hK => ?_) AllReadyH.nil
        go_simp
        refine (HW.out _ hOr.out).mono ?_
        rintro e u4 ⟨ad3, cp3, rfl, hO4, hg4⟩
        have hS1 := SR.keep hS hg4
        have hA4 := hat9.out.grown hg4 (by simp)
        have hOn : Hid (Grommet.Own w u4 ((P3 Z g r XS L3 L3 (stepC (D : Int) xi ge nn xe ra rb xs_ xdr)) ++ [rowP 79 2 (.slice ad3 mL cp3) mL (wcells L3)])) := Lib.hid hO4
        clear hOr hat9 hO4 hg4 HW
        obtain ⟨p7, _⟩ := Own.pairs hOn.out 3 rfl
        have HS9 := Lib.hid (SameW_any ad3 adl mL mL cp3 cpl L3 L3 u4 p7 hA4 HmL.out HmL.out (by omega))
        rw [decide_eq_true rfl] at HS9
        clear p7 hA4
        have hOr := hOn
        clear hOn
        refine hK.out _ _ ?hsrtl343r34o4 (fun hS => ?_)
        case hsrtl343r34o4 => (exact hS1)
        clear hK K
        try simp only [Act.put, List.setIfInBounds_toArray, List.set_cons_zero, List.set_cons_succ]
        refine wpAnyH_ready (rs := [9]) (by kernel_rfl) (by simp) ?_
        refine AllReadyH.cons (o := { dst := some 212, op := Op.call { callee := Callee.value (Operand.func 23), args := #[Operand.tmp 207, Operand.tmp 211], argTypes := #[42, 42] }, type := 4, pos := "law.go:117", after := #[{ on := 4, ground := Ground.data }, { on := 8, ground := Ground.data }, { on := 4, ground := Ground.chain }, { on := 2, ground := Ground.guard }], guard := some (2, false) }) rfl (fun K hK => ?_) AllReadyH.nil
        go_simp
        refine HS9.out.mono ?_
        rintro e u5 ⟨rfl, hg5⟩
        have hS1 := SR.keep hS hg5
        have hOn := Lib.hid (hOr.out.quiet hg5)
        clear hOr hg5 HS9
        have hOr := hOn
        clear hOn
        refine hK.out _ _ ?hsrtl343r34o9 (fun hS => ?_)
        case hsrtl343r34o9 => (exact hS1)
        clear hK K
        try simp only [Act.put, List.setIfInBounds_toArray, List.set_cons_zero, List.set_cons_succ]
        refine wpAnyH_take (i := 10) (oi := { dst := some 213, op := Op.unOp UnOp.not 4 (Operand.tmp 212), type := 4, pos := "law.go:117", after := #[{ on := 9, ground := Ground.data }, { on := 2, ground := Ground.guard }], guard := some (2, false) }) (v := ?vrtl343r34o10) rfl (by kernel_rfl) (by kernel_rfl) (by kernel_rfl) (fun _ _ _ h => h) (Or.inl ⟨by rfl, ?hrtl343r34o10⟩) hS ?_
        case hrtl343r34o10 => (intro wx hx; skip; go_simp; (try with_reducible rfl))
        try simp only [Act.put, List.setIfInBounds_toArray, List.set_cons_zero, List.set_cons_succ]
        refine wpAnyH_take (i := 11) (oi := { dst := some 214, op := Op.pick (Operand.tmp 205) (Operand.const (Value.bool true)) (Operand.tmp 213), type := 4, pos := "law.go:117", after := #[{ on := 2, ground := Ground.data }, { on := 10, ground := Ground.data }], guard := none }) (v := ?vrtl343r34o11) rfl (by kernel_rfl) (by kernel_rfl) (by kernel_rfl) (fun _ _ _ h => h) (Or.inl ⟨by rfl, ?hrtl343r34o11⟩) hS ?_
        case hrtl343r34o11 => (intro wx hx; skip; go_simp; (try with_reducible rfl))
        try simp only [Act.put, List.setIfInBounds_toArray, List.set_cons_zero, List.set_cons_succ]
        refine wpAnyH_done (by kernel_rfl) ?_ _
        clear hS hR0
        go_wp2
        go_roundw
        case rel => exact ⟨k + 1, L3, by omega, by go_num, Lib.hid (show Grommet.Own w _ ((P2 g r XS L3 L3) ++ [boxP Z 41 (stepC (D : Int) xi ge nn xe ra rb xs_ xdr), rowP 79 2 (.slice ad3 mL cp3) mL (wcells L3)]) from hOr.out).less⟩
        case measure => simp [intOf]; omega
    · have hlt' : ¬ (k : Int) < (l3 : Int) := by omega
      go_wp2_with fail
      refine (HWk.out _).mono ?_
      rintro e u6 ⟨rfl, hg6⟩
      have hfin := Lib.hid (grown_trans hO.out.grown hg6)
      go_wp2
      go_ret
      exact ⟨rfl, hfin.out⟩


theorem walk (td : Option Addr) (tl tc : Nat) (T : List Tur) (C : Int) (a3 : Option Addr) (l3 c3 : Nat) (TT : List Stq) (w : World) (hT : TursIn w td tl T) (hC : (Lit.int .u16 C).wf = true) (hTT : StqsIn w a3 l3 TT) :
    Calls Try.prog 3 #[.slice td tl tc, .int .u16 C, .slice a3 l3 c3] w (WorksOk w) := by
  have hb := bounds_u16 hC
  obtain ⟨C, rfl⟩ := Int.eq_ofNat_of_zero_le hb.1
  by_cases h : 40 < tl
  · exact walk_far td tl tc C a3 l3 c3 w h
  · exact walk_at td tl tc T C (by omega) a3 l3 c3 TT w hT hTT h
end Go.Proofs.Ytdpkpphjpihhkaa.classPlays
