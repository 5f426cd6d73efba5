/- BitmapPlays, walked. -/
import Derived.Test.YtjjdggdbohjjnaaDoorRefK
import Derived.Deep.DeepCutAuto
import Derived.Deep.CutBlock
import Derived.Deep.RegionHeld
namespace Go.Proofs.YtjjdggdbohjjnaaDoor.bitmapPlays
open Go.RowKit Go.Grommet

set_option maxRecDepth 100000 in
set_option maxHeartbeats 1000000 in
theorem walk_far (a0 : Option Addr) (l0 c0 : Nat) (at_ m : Int) (a3 : Option Addr) (l3 c3 : Nat) (w : World) (ht : Lib.TabIs Tryd.prog w "math/bits.deBruijn64tab" .u8 tab) (h : 200 < l0 ∨ 200 < l3 ∨ 16384 < m) :
    Calls Tryd.prog 3 #[.slice a0 l0 c0, .int .i64 at_, .int .i64 m, .slice a3 l3 c3] w (Go.Ev.WorksIs w) := by
  have HW := Lib.hid (works_tab w ht)
  clear ht
  by_cases h1 : 200 < l0
  · have g1 : (200 : Int) < (l0 : Int) := by omega
    clear h
    go_enter Tryd.func3, Tryd.ntmps3
    go_wp2_with fail
    refine HW.out.mono ?_
    rintro e w5 ⟨rfl, hg⟩
    go_wp2
    go_ret
    exact ⟨rfl, hg⟩
  · have g1 : ¬ (200 : Int) < (l0 : Int) := by omega
    by_cases h2 : 200 < l3
    · have g2 : (200 : Int) < (l3 : Int) := by omega
      clear h
      go_enter Tryd.func3, Tryd.ntmps3
      go_wp2_with fail
      refine HW.out.mono ?_
      rintro e w5 ⟨rfl, hg⟩
      go_wp2
      go_ret
      exact ⟨rfl, hg⟩
    · have g2 : ¬ (200 : Int) < (l3 : Int) := by omega
      have g3 : (16384 : Int) < m := by omega
      clear h
      go_enter Tryd.func3, Tryd.ntmps3
      go_wp2_with fail
      refine HW.out.mono ?_
      rintro e w5 ⟨rfl, hg⟩
      go_wp2
      go_ret
      exact ⟨rfl, hg⟩

def stepC (i : Int) (s c d : Bool) : Array Value := #[.int .i64 i, .bool s, .bool c, .bool d]
def SZ (Z : Nat) (i : Int) (s c d : Bool) (w : World) : Prop := w.heap[Z]? = some (.cells (stepC i s c d) 37 (0, 0))
theorem SZ.facts {Z : Nat} {i : Int} {s c d : Bool} {w : World} (h : SZ Z i s c d w) : w.cell? ⟨Z, 0, none⟩ = some (.int .i64 i) ∧ w.cell? ⟨Z, 1, none⟩ = some (.bool s) ∧ w.cell? ⟨Z, 2, none⟩ = some (.bool c) ∧ w.cell? ⟨Z, 3, none⟩ = some (.bool d) := by
  unfold SZ at h
  simp [World.cell?, h, stepC]
def SR (r : Nat) (ad : Option Addr) (n cap : Nat) (w : World) : Prop := w.cell? ⟨r, 1, none⟩ = some (.slice ad n cap)
theorem SR.keep {r : Nat} {ad : Option Addr} {n cap : Nat} {w w' : World} (h : SR r ad n cap w) (hg : w.grownBy w' none) : SR r ad n cap w' := World.grownBy.cell hg h (by simp)
theorem own_store_box {w0 w : World} {Ps : List Pr} (h : Grommet.Own w0 w Ps) (k : Nat) {X : Nat} {T : TypeId} {cs : Array Value} (hk : Ps[k]? = some (boxP X T cs)) (o : Nat) (u : Value) : Grommet.Own w0 (w.setCell ⟨X, o, none⟩ u) (Ps.set k (boxP X T (cs.setIfInBounds o u))) := by
  obtain ⟨F, h1, h2⟩ := h.take k hk
  exact h2 _ _ ⟨F, ⟨heap_setCell_at h1.1 u, h1.2.1, fun i hi => Nat.lt_of_lt_of_le (h1.2.2 i hi) (by simp [World.setCell])⟩, fun i hi => .inl hi, Turn.of (grown_setCell _ _ _) (fun i e => by cases e; exact h1.2.1)⟩

/-- View, its twin, both maps. -/
def P4 (g r X Y A M : Nat) (xs : List Nat) (L K : List (Nat × Nat)) : List Pr := [viewP g xs L, refQ r xs K, mapP X g A M, rmapP Y r A M]
def P5 (g r X Y A M Z : Nat) (xs : List Nat) (L K : List (Nat × Nat)) (cs : Array Value) : List Pr := [viewP g xs L, refQ r xs K, mapP X g A M, rmapP Y r A M, boxP Z 37 cs]

set_option maxRecDepth 100000 in
set_option maxHeartbeats 8000000 in
theorem walk_at (a0 : Option Addr) (l0 c0 : Nat) (xs : List Nat) (at_ m : Int) (a3 : Option Addr) (l3 c3 : Nat) (T : List Bms) (w : World) (hx : Words w a0 l0 xs) (hnil : a0 = none → l0 = 0 ∧ c0 = 0) (hT : BmssIn w a3 l3 T)
    (ht : Lib.TabIs Tryd.prog w "math/bits.deBruijn64tab" .u8 tab) (h0 : ¬ 200 < l0) (h3 : ¬ 200 < l3) (hm : ¬ 16384 < m) :
    Calls Tryd.prog 3 #[.slice a0 l0 c0, .int .i64 at_, .int .i64 m, .slice a3 l3 c3] w (Go.Ev.WorksIs w) := by
  have g1 : ¬ (200 : Int) < (l0 : Int) := by omega
  have g2 : ¬ (200 : Int) < (l3 : Int) := by omega
  have HX := Lib.hid hx.len
  have Hs := Lib.hid hx.small
  have HTab := Lib.hid ht
  have HT := Lib.hid hT
  have HN := Lib.hid (NewH a0 l0 c0 xs w w _ (Own.nil w) hx (by omega) hnil)
  have HN2 := Lib.hid (fun g wx (hO : Grommet.Own w wx [viewP g xs []]) => RefNewQ a0 l0 c0 xs w wx [viewP g xs []] hO (hx.keep hO.grown (by simp)) (by omega) hnil)
  clear ht hT hx hnil
  go_enter Tryd.func3, Tryd.ntmps3
  go_wp2_with fail
  refine HN.out.mono ?_
  rintro e u1 ⟨g, rfl, hO1⟩
  have HN3 := Lib.hid (HN2.out g u1 hO1)
  clear HN HN2 hO1
  go_wp2_with fail
  refine HN3.out.mono ?_
  rintro e u2 ⟨r, rfl, hO2⟩
  have hO2 : Grommet.Own w u2 [viewP g xs [], refQ r xs []] := hO2
  clear HN3
  by_cases hyes : 1 ≤ m ∧ 0 ≤ at_ ∧ at_ + (m - 1) / 64 + 1 ≤ (l0 : Int)
  · obtain ⟨M, rfl⟩ := Int.eq_ofNat_of_zero_le (show 0 ≤ m by omega)
    obtain ⟨A, rfl⟩ := Int.eq_ofNat_of_zero_le hyes.2.1
    have hM : MapOk xs.length A M := ⟨by omega, by rw [HX.out]; omega, by rw [HX.out]; omega⟩
    have HO1 := Lib.hid (MOfH 0 g A M xs [] w u2 _ hO2 rfl hM)
    have hM := Lib.hid hM
    clear hO2 hyes
    go_wp2_with fail
    refine HO1.out.mono ?_
    rintro e u3 ⟨X, rfl, hO3, _⟩
    have HO2 := Lib.hid (ROfYes 1 r A M xs [] w u3 _ hO3 rfl hM.out)
    clear HO1 hO3
    go_wp2_with fail
    refine HO2.out.mono ?_
    rintro e u4 ⟨Y, rfl, hO4⟩
    have hO4 : Hid (Grommet.Own w u4 (P4 g r X Y A M xs [] [])) := Lib.hid hO4
    clear HO2
    go_wp2_with fail
    go_loopw [15] (fun i wr => ∃ (k : Nat) (L : List (Nat × Nat)), k ≤ l3 ∧ i = .int .i64 (k : Int) ∧ Hid (Grommet.Own w wr (P4 g r X Y A M xs L L))) (fun i _ => l3 - (intOf i).toNat)
    case atStart => exact ⟨0, [], Nat.zero_le _, rfl, hO4⟩
    case round =>
      clear hO4
      obtain ⟨k, L, hk, rfl, hO⟩ := hrel
      have k0 : (0 : Int) ≤ (k : Int) := by omega
      by_cases hlt : k < l3
      · have hlt' : (k : Int) < (l3 : Int) := by omega
        obtain ⟨x, hx⟩ : ∃ x, T[k]? = some x := ⟨T[k]'(by rw [HT.out.1]; exact hlt), List.getElem?_eq_getElem _⟩
        obtain ⟨tg, to', htd, d0, d1, d2, d3⟩ := (HT.out.grown hO.out.grown).2.2 k x hx
        subst htd
        have ok0 := HT.out.2.1 x (List.mem_of_getElem? hx)
        clear hx
        obtain ⟨xi, xs', xc, xdr⟩ := x
        dsimp only at d0 d1 d2 d3 ok0
        have b0 := bounds_i64 ok0
        have hOx : Grommet.Own w (wr.alloc (.cells (stepC xi xs' xc xdr) 37)) (P5 g r X Y A M wr.heap.size xs L L (stepC xi xs' xc xdr)) := hO.out.addBox 37 (stepC xi xs' xc xdr)
        have hOx := Lib.hid hOx
        clear ok0 hO
        go_upto_region 17 with fail
        obtain ⟨w5, hw5⟩ : ∃ w5, wr.alloc (.cells (stepC xi xs' xc xdr) 37) = w5 := ⟨_, rfl⟩
        obtain ⟨Z, hZ⟩ : ∃ Z, wr.heap.size = Z := ⟨_, rfl⟩
        rw [hw5, hZ] at hOx
        rw [hZ]
        change Code.wp _ _ _ _ (wr.alloc (.cells (stepC xi xs' xc xdr) 37))
        rw [hw5]
        clear hw5 hZ d0 d1 d2 d3
        obtain ⟨z0, z1, z2, z3⟩ := SZ.facts (show SZ Z xi xs' xc xdr w5 from hOx.out.box 4 rfl)
        go_upto_if 78 with fail
        go_cut [] (fun wx => ∃ L2 : List (Nat × Nat), Hid (Grommet.Own w wx (P5 g r X Y A M Z xs L2 L2 (stepC xi xs' xc xdr))))
        case first =>
          as_aux_lemma =>
          cases xdr with
          | false =>
            go_wp2_with fail
            go_meet
            case rel => exact ⟨L, hOx⟩
          | true =>
            have HD := Lib.hid (DropH 0 g xs L w _ _ _ hOx.out rfl rfl)
            clear z0 z1 z2 z3
            go_wp2_with fail
            refine HD.out.mono ?_
            rintro e w6 ⟨rfl, hO6⟩
            have hO6 : Grommet.Own w w6 (P5 g r X Y A M Z xs [] L (stepC xi xs' xc true)) := hO6
            obtain ⟨ad7, cp7, e1, e2, _⟩ := refQ_obj hO6 1 rfl
            have hO7 : Hid (Grommet.Own w _ (P5 g r X Y A M Z xs [] [] (stepC xi xs' xc true))) := Lib.hid (refQ_nil hO6 1 rfl)
            clear HD hO6 hOx
            go_wp2_with fail
            go_meet
            case rel => exact ⟨[], hO7⟩
        case rest =>
        obtain ⟨L2, hO8⟩ := hcut
        clear hOx z0 z1 z2 z3
        obtain ⟨c, b, hcl⟩ := clrR_ex (mbit xs L2 A) M
        have HC1 := Lib.hid (MClearH 0 2 X g A M xs L2 w _ _ hO8.out rfl rfl hM.out HTab.out c b hcl)
        have HC2 := Lib.hid (fun wx hO => RMClearQ 1 3 Y r A M xs L2 w wx (P5 g r X Y A M Z xs L2 L2 (stepC xi xs' xc xdr)) hO rfl rfl hM.out c b hcl)
        clear hcl
        go_wp2_with fail
        refine HC1.out.mono ?_
        rintro e w6 ⟨rfl, hg6⟩
        have HC3 := Lib.hid (HC2.out w6 (hO8.out.quiet hg6))
        clear HC1 HC2 hg6 hO8
        go_wp2_with fail
        refine HC3.out.mono ?_
        rintro e w7 ⟨rfl, hO9⟩
        have hO9 := Lib.hid hO9
        clear HC3
        have qc : (c != c) = false := by simp
        have qb : (b != b) = false := by simp
        obtain ⟨z0, z1, z2, z3⟩ := SZ.facts (show SZ Z xi xs' xc xdr w7 from hO9.out.box 4 rfl)
        go_upto_if 103 with fail
        clear qc qb
        go_cut [] (fun wx => ∃ I : Int, Hid (Grommet.Own w wx (P5 g r X Y A M Z xs L2 L2 (stepC I xs' xc xdr))))
        case first =>
          as_aux_lemma =>
          cases xc with
          | false =>
            go_wp2_with fail
            go_meet
            case rel => exact ⟨xi, hO9⟩
          | true =>
            have hOs : Hid (Grommet.Own w (w7.setCell ⟨Z, 0, none⟩ (.int .i64 c)) (P5 g r X Y A M Z xs L2 L2 (stepC c xs' true xdr))) := Lib.hid (own_store_box hO9.out 4 rfl 0 (.int .i64 c))
            have zf : w7.frozen? ⟨Z, 0, none⟩ = false := by have := hO9.out.box 4 rfl; simp [World.frozen?, this, stepC]
            clear hO9
            go_wp2_with fail
            go_meet
            case rel => exact ⟨c, hOs⟩
        case rest =>
        obtain ⟨I, hO10⟩ := hcut
        clear hO9 z0 z1 z2 z3
        go_upto_region 26 with fail
        obtain ⟨L3, hL3⟩ : ∃ L3, setMI xs L2 A M I xs' = L3 := ⟨_, rfl⟩
        obtain ⟨en, hen⟩ : ∃ en : Int, (setME xs L2 A M I : Int) = en := ⟨_, rfl⟩
        obtain ⟨c1, hc1⟩ : ∃ c, getM xs L2 A M I = c := ⟨_, rfl⟩
        obtain ⟨c2, hc2⟩ : ∃ c, getM xs L3 A M I = c := ⟨_, rfl⟩
        obtain ⟨cn, hcn⟩ : ∃ c, cntF (mbit xs L3 A) M = c := ⟨_, rfl⟩
        have HG1 := Lib.hid (fun wx (hO : Grommet.Own w wx (P5 g r X Y A M Z xs L2 L2 (stepC I xs' xc xdr))) => MGetH 0 2 X g A M xs L2 I w wx _ hO rfl rfl hM.out c1 hc1)
        have HR1 := Lib.hid (fun wx (hO : Grommet.Own w wx (P5 g r X Y A M Z xs L2 L2 (stepC I xs' xc xdr))) => RMGetQ 1 3 Y r A M xs L2 I w wx _ hO rfl rfl hM.out c1 hc1)
        have HS1 := Lib.hid (fun wx (hO : Grommet.Own w wx (P5 g r X Y A M Z xs L2 L2 (stepC I xs' xc xdr))) => MSetH 0 2 X g A M xs L2 I xs' en w wx _ (P5 g r X Y A M Z xs L3 L2 (stepC I xs' xc xdr)) hO rfl rfl hM.out hen (by rw [hL3]; rfl))
        have HS2 := Lib.hid (fun wx (hO : Grommet.Own w wx (P5 g r X Y A M Z xs L3 L2 (stepC I xs' xc xdr))) => RMSetQ 1 3 Y r A M xs L2 I xs' en w wx _ (P5 g r X Y A M Z xs L3 L3 (stepC I xs' xc xdr)) hO rfl rfl hM.out hen (by rw [hL3]; rfl))
        have HG2 := Lib.hid (fun wx (hO : Grommet.Own w wx (P5 g r X Y A M Z xs L3 L3 (stepC I xs' xc xdr))) => MGetH 0 2 X g A M xs L3 I w wx _ hO rfl rfl hM.out c2 hc2)
        have HR2 := Lib.hid (fun wx (hO : Grommet.Own w wx (P5 g r X Y A M Z xs L3 L3 (stepC I xs' xc xdr))) => RMGetQ 1 3 Y r A M xs L3 I w wx _ hO rfl rfl hM.out c2 hc2)
        have HC1 := Lib.hid (fun wx (hO : Grommet.Own w wx (P5 g r X Y A M Z xs L3 L3 (stepC I xs' xc xdr))) => MCountH 0 2 X g A M xs L3 w wx _ hO rfl rfl hM.out cn hcn)
        have HC2 := Lib.hid (fun wx (hO : Grommet.Own w wx (P5 g r X Y A M Z xs L3 L3 (stepC I xs' xc xdr))) => RMCountQ 1 3 Y r A M xs L3 w wx _ hO rfl rfl hM.out cn hcn)
        have hZ0 := Lib.hid (show SZ Z I xs' xc xdr _ from hO10.out.box 4 rfl)
        have hOr := Lib.hid (hO10.out.quiet (grown_drew (World.grownBy.refl _ none)))
        have q1 : (c1 != c1) = false := by simp
        have q2 : (en != en) = false := by simp
        have q3 : (c2 != c2) = false := by simp
        have q4 : ((cn : Int) != (cn : Int)) = false := by simp
        clear hO10 hc1 hc2 hcn hen hL3
        refine wp_region_held_drew (S := fun w' => SZ Z I xs' xc xdr w') (by kernel_rfl) (hZ0.out) (fun hS => ?_)
        refine wpAnyH_take (i := 0) (oi := { dst := some 106, op := Op.move (Operand.tmp 11), type := 29, pos := "law.go:67", after := #[], guard := none }) (v := ?vta3r26o0) rfl (by kernel_rfl) (by kernel_rfl) (by kernel_rfl) (fun _ _ _ h => h) (Or.inl ⟨by rfl, ?hta3r26o0⟩) hS ?_
        case hta3r26o0 => (intro wx hx; skip; go_simp; (try with_reducible rfl))
        try simp only [Act.put, List.setIfInBounds_toArray, List.set_cons_zero, List.set_cons_succ]
        refine wpAnyH_take (i := 1) (oi := { dst := some 107, op := Op.fieldAddr 37 (Operand.tmp 16) 0, type := 0, pos := "law.go:67", after := #[], guard := none }) (v := ?vta3r26o1) rfl (by kernel_rfl) (by kernel_rfl) (by kernel_rfl) (fun _ _ _ h => h) (Or.inl ⟨by rfl, ?hta3r26o1⟩) hS ?_
        case hta3r26o1 => (intro wx hx; skip; go_simp; (try with_reducible rfl))
        try simp only [Act.put, List.setIfInBounds_toArray, List.set_cons_zero, List.set_cons_succ]
        refine wpAnyH_take (i := 2) (oi := { dst := some 108, op := Op.load 3 (Operand.tmp 107), type := 3, pos := "law.go:67", after := #[{ on := 1, ground := Ground.data }], guard := none }) (v := ?vta3r26o2) rfl (by kernel_rfl) (by kernel_rfl) (by kernel_rfl) (fun _ _ _ h => h) (Or.inl ⟨by rfl, ?hta3r26o2⟩) hS ?_
        case hta3r26o2 => (intro wx hx; obtain ⟨x0, x1, x2, x3⟩ := SZ.facts hx; go_simp; (try with_reducible rfl))
        try simp only [Act.put, List.setIfInBounds_toArray, List.set_cons_zero, List.set_cons_succ]
        refine wpAnyH_take (i := 4) (oi := { dst := some 110, op := Op.move (Operand.tmp 13), type := 33, pos := "law.go:67", after := #[], guard := none }) (v := ?vta3r26o4) rfl (by kernel_rfl) (by kernel_rfl) (by kernel_rfl) (fun _ _ _ h => h) (Or.inl ⟨by rfl, ?hta3r26o4⟩) hS ?_
        case hta3r26o4 => (intro wx hx; skip; go_simp; (try with_reducible rfl))
        try simp only [Act.put, List.setIfInBounds_toArray, List.set_cons_zero, List.set_cons_succ]
        refine wpAnyH_take (i := 5) (oi := { dst := some 111, op := Op.fieldAddr 37 (Operand.tmp 16) 0, type := 0, pos := "law.go:67", after := #[], guard := none }) (v := ?vta3r26o5) rfl (by kernel_rfl) (by kernel_rfl) (by kernel_rfl) (fun _ _ _ h => h) (Or.inl ⟨by rfl, ?hta3r26o5⟩) hS ?_
        case hta3r26o5 => (intro wx hx; skip; go_simp; (try with_reducible rfl))
        try simp only [Act.put, List.setIfInBounds_toArray, List.set_cons_zero, List.set_cons_succ]
        refine wpAnyH_take (i := 6) (oi := { dst := some 112, op := Op.load 3 (Operand.tmp 111), type := 3, pos := "law.go:67", after := #[{ on := 5, ground := Ground.data }], guard := none }) (v := ?vta3r26o6) rfl (by kernel_rfl) (by kernel_rfl) (by kernel_rfl) (fun _ _ _ h => h) (Or.inl ⟨by rfl, ?hta3r26o6⟩) hS ?_
        case hta3r26o6 => (intro wx hx; obtain ⟨x0, x1, x2, x3⟩ := SZ.facts hx; go_simp; (try with_reducible rfl))
        try simp only [Act.put, List.setIfInBounds_toArray, List.set_cons_zero, List.set_cons_succ]
        refine wpAnyH_ready (rs := [3]) (by kernel_rfl) (by simp) ?_
        refine AllReadyH.cons (o := { dst := some 109, op := Op.call { callee := Callee.value (Operand.func 16), args := #[Operand.tmp 106, Operand.tmp 108], argTypes := #[29, 3] }, type := 4, pos := "law.go:67", after := #[{ on := 0, ground := Ground.data }, { on := 2, ground := Ground.data }], guard := none }) rfl (fun K hK => ?_) AllReadyH.nil
        go_simp
        refine (HG1.out _ hOr.out).mono ?_
        rintro e v1 ⟨rfl, hn⟩
        have hOn : Hid (Grommet.Own w v1 (P5 g r X Y A M Z xs L2 L2 (stepC I xs' xc xdr))) := Lib.hid (hOr.out.quiet hn)
        clear hOr hn HG1
        have hOr := hOn
        clear hOn
        refine hK.out _ _ ?hsta3r26o3 (fun hS => ?_)
        case hsta3r26o3 => (exact hOr.out.box 4 rfl)
        clear hK K
        try simp only [Act.put, List.setIfInBounds_toArray, List.set_cons_zero, List.set_cons_succ]
        refine wpAnyH_ready (rs := [7]) (by kernel_rfl) (by simp) ?_
        refine AllReadyH.cons (o := { dst := some 113, op := Op.call { callee := Callee.value (Operand.func 17), args := #[Operand.tmp 110, Operand.tmp 112], argTypes := #[33, 3] }, type := 4, pos := "law.go:67", after := #[{ on := 4, ground := Ground.data }, { on := 6, ground := Ground.data }, { on := 3, ground := Ground.chain }], guard := none }) rfl (fun K hK => ?_) AllReadyH.nil
        go_simp
        refine (HR1.out _ hOr.out).mono ?_
        rintro e v2 ⟨rfl, hn⟩
        have hOn : Hid (Grommet.Own w v2 (P5 g r X Y A M Z xs L2 L2 (stepC I xs' xc xdr))) := Lib.hid (hOr.out.quiet hn)
        clear hOr hn HR1
        have hOr := hOn
        clear hOn
        refine hK.out _ _ ?hsta3r26o7 (fun hS => ?_)
        case hsta3r26o7 => (exact hOr.out.box 4 rfl)
        clear hK K
        try simp only [Act.put, List.setIfInBounds_toArray, List.set_cons_zero, List.set_cons_succ]
        refine wpAnyH_take (i := 8) (oi := { dst := some 114, op := Op.binOp BinOp.neq 4 (Operand.tmp 109) (Operand.tmp 113) 4, type := 4, pos := "law.go:67", after := #[{ on := 3, ground := Ground.data }, { on := 7, ground := Ground.data }], guard := none }) (v := ?vta3r26o8) rfl (by kernel_rfl) (by kernel_rfl) (by kernel_rfl) (fun _ _ _ h => h) (Or.inl ⟨by rfl, ?hta3r26o8⟩) hS ?_
        case hta3r26o8 => (intro wx hx; skip; go_simp; (try with_reducible rfl))
        try simp only [Act.put, List.setIfInBounds_toArray, List.set_cons_zero, List.set_cons_succ]
        refine wpAnyH_take (i := 9) (oi := { dst := some 115, op := Op.move (Operand.tmp 114), type := 4, pos := "law.go:67", after := #[{ on := 8, ground := Ground.data }, { on := 7, ground := Ground.chain }], guard := none }) (v := ?vta3r26o9) rfl (by kernel_rfl) (by kernel_rfl) (by kernel_rfl) (fun _ _ _ h => h) (Or.inl ⟨by rfl, ?hta3r26o9⟩) hS ?_
        case hta3r26o9 => (intro wx hx; skip; go_simp; (try with_reducible rfl))
        try simp only [Act.put, List.setIfInBounds_toArray, List.set_cons_zero, List.set_cons_succ]
        refine wpAnyH_take (i := 10) (oi := { dst := some 116, op := Op.move (Operand.tmp 11), type := 29, pos := "law.go:67", after := #[{ on := 9, ground := Ground.guard }], guard := some (9, false) }) (v := ?vta3r26o10) rfl (by kernel_rfl) (by kernel_rfl) (by kernel_rfl) (fun _ _ _ h => h) (Or.inl ⟨by rfl, ?hta3r26o10⟩) hS ?_
        case hta3r26o10 => (intro wx hx; skip; go_simp; (try with_reducible rfl))
        try simp only [Act.put, List.setIfInBounds_toArray, List.set_cons_zero, List.set_cons_succ]
        refine wpAnyH_take (i := 11) (oi := { dst := some 117, op := Op.fieldAddr 37 (Operand.tmp 16) 0, type := 0, pos := "law.go:67", after := #[{ on := 9, ground := Ground.guard }], guard := some (9, false) }) (v := ?vta3r26o11) rfl (by kernel_rfl) (by kernel_rfl) (by kernel_rfl) (fun _ _ _ h => h) (Or.inl ⟨by rfl, ?hta3r26o11⟩) hS ?_
        case hta3r26o11 => (intro wx hx; skip; go_simp; (try with_reducible rfl))
        try simp only [Act.put, List.setIfInBounds_toArray, List.set_cons_zero, List.set_cons_succ]
        refine wpAnyH_take (i := 12) (oi := { dst := some 118, op := Op.load 3 (Operand.tmp 117), type := 3, pos := "law.go:67", after := #[{ on := 11, ground := Ground.data }, { on := 9, ground := Ground.guard }], guard := some (9, false) }) (v := ?vta3r26o12) rfl (by kernel_rfl) (by kernel_rfl) (by kernel_rfl) (fun _ _ _ h => h) (Or.inl ⟨by rfl, ?hta3r26o12⟩) hS ?_
        case hta3r26o12 => (intro wx hx; obtain ⟨x0, x1, x2, x3⟩ := SZ.facts hx; go_simp; (try with_reducible rfl))
        try simp only [Act.put, List.setIfInBounds_toArray, List.set_cons_zero, List.set_cons_succ]
        refine wpAnyH_take (i := 13) (oi := { dst := some 119, op := Op.fieldAddr 37 (Operand.tmp 16) 1, type := 0, pos := "law.go:67", after := #[{ on := 9, ground := Ground.guard }], guard := some (9, false) }) (v := ?vta3r26o13) rfl (by kernel_rfl) (by kernel_rfl) (by kernel_rfl) (fun _ _ _ h => h) (Or.inl ⟨by rfl, ?hta3r26o13⟩) hS ?_
        case hta3r26o13 => (intro wx hx; skip; go_simp; (try with_reducible rfl))
        try simp only [Act.put, List.setIfInBounds_toArray, List.set_cons_zero, List.set_cons_succ]
        refine wpAnyH_take (i := 14) (oi := { dst := some 120, op := Op.load 4 (Operand.tmp 119), type := 4, pos := "law.go:67", after := #[{ on := 13, ground := Ground.data }, { on := 9, ground := Ground.guard }], guard := some (9, false) }) (v := ?vta3r26o14) rfl (by kernel_rfl) (by kernel_rfl) (by kernel_rfl) (fun _ _ _ h => h) (Or.inl ⟨by rfl, ?hta3r26o14⟩) hS ?_
        case hta3r26o14 => (intro wx hx; obtain ⟨x0, x1, x2, x3⟩ := SZ.facts hx; go_simp; (try with_reducible rfl))
        try simp only [Act.put, List.setIfInBounds_toArray, List.set_cons_zero, List.set_cons_succ]
        refine wpAnyH_take (i := 16) (oi := { dst := some 122, op := Op.move (Operand.tmp 13), type := 33, pos := "law.go:67", after := #[{ on := 9, ground := Ground.guard }], guard := some (9, false) }) (v := ?vta3r26o16) rfl (by kernel_rfl) (by kernel_rfl) (by kernel_rfl) (fun _ _ _ h => h) (Or.inl ⟨by rfl, ?hta3r26o16⟩) hS ?_
        case hta3r26o16 => (intro wx hx; skip; go_simp; (try with_reducible rfl))
        try simp only [Act.put, List.setIfInBounds_toArray, List.set_cons_zero, List.set_cons_succ]
        refine wpAnyH_take (i := 17) (oi := { dst := some 123, op := Op.fieldAddr 37 (Operand.tmp 16) 0, type := 0, pos := "law.go:67", after := #[{ on := 9, ground := Ground.guard }], guard := some (9, false) }) (v := ?vta3r26o17) rfl (by kernel_rfl) (by kernel_rfl) (by kernel_rfl) (fun _ _ _ h => h) (Or.inl ⟨by rfl, ?hta3r26o17⟩) hS ?_
        case hta3r26o17 => (intro wx hx; skip; go_simp; (try with_reducible rfl))
        try simp only [Act.put, List.setIfInBounds_toArray, List.set_cons_zero, List.set_cons_succ]
        refine wpAnyH_take (i := 18) (oi := { dst := some 124, op := Op.load 3 (Operand.tmp 123), type := 3, pos := "law.go:67", after := #[{ on := 17, ground := Ground.data }, { on := 9, ground := Ground.guard }], guard := some (9, false) }) (v := ?vta3r26o18) rfl (by kernel_rfl) (by kernel_rfl) (by kernel_rfl) (fun _ _ _ h => h) (Or.inl ⟨by rfl, ?hta3r26o18⟩) hS ?_
        case hta3r26o18 => (intro wx hx; obtain ⟨x0, x1, x2, x3⟩ := SZ.facts hx; go_simp; (try with_reducible rfl))
        try simp only [Act.put, List.setIfInBounds_toArray, List.set_cons_zero, List.set_cons_succ]
        refine wpAnyH_take (i := 19) (oi := { dst := some 125, op := Op.fieldAddr 37 (Operand.tmp 16) 1, type := 0, pos := "law.go:67", after := #[{ on := 9, ground := Ground.guard }], guard := some (9, false) }) (v := ?vta3r26o19) rfl (by kernel_rfl) (by kernel_rfl) (by kernel_rfl) (fun _ _ _ h => h) (Or.inl ⟨by rfl, ?hta3r26o19⟩) hS ?_
        case hta3r26o19 => (intro wx hx; skip; go_simp; (try with_reducible rfl))
        try simp only [Act.put, List.setIfInBounds_toArray, List.set_cons_zero, List.set_cons_succ]
        refine wpAnyH_take (i := 20) (oi := { dst := some 126, op := Op.load 4 (Operand.tmp 125), type := 4, pos := "law.go:67", after := #[{ on := 19, ground := Ground.data }, { on := 9, ground := Ground.guard }], guard := some (9, false) }) (v := ?vta3r26o20) rfl (by kernel_rfl) (by kernel_rfl) (by kernel_rfl) (fun _ _ _ h => h) (Or.inl ⟨by rfl, ?hta3r26o20⟩) hS ?_
        case hta3r26o20 => (intro wx hx; obtain ⟨x0, x1, x2, x3⟩ := SZ.facts hx; go_simp; (try with_reducible rfl))
        try simp only [Act.put, List.setIfInBounds_toArray, List.set_cons_zero, List.set_cons_succ]
        refine wpAnyH_ready (rs := [15]) (by kernel_rfl) (by simp) ?_
        refine AllReadyH.cons (o := { dst := some 121, op := Op.call { callee := Callee.value (Operand.func 18), args := #[Operand.tmp 116, Operand.tmp 118, Operand.tmp 120], argTypes := #[29, 3, 4] }, type := 30, pos := "law.go:67", after := #[{ on := 10, ground := Ground.data }, { on := 12, ground := Ground.data }, { on := 14, ground := Ground.data }, { on := 9, ground := Ground.chain }, { on := 9, ground := Ground.guard }], guard := some (9, false) }) rfl (fun K hK => ?_) AllReadyH.nil
        go_simp
        refine (HS1.out _ hOr.out).mono ?_
        rintro e v3 ⟨rfl, hn⟩
        have hOn : Hid (Grommet.Own w v3 (P5 g r X Y A M Z xs L3 L2 (stepC I xs' xc xdr))) := Lib.hid (hn)
        clear hOr hn HS1
        have hOr := hOn
        clear hOn
        refine hK.out _ _ ?hsta3r26o15 (fun hS => ?_)
        case hsta3r26o15 => (exact hOr.out.box 4 rfl)
        clear hK K
        try simp only [Act.put, List.setIfInBounds_toArray, List.set_cons_zero, List.set_cons_succ]
        refine wpAnyH_ready (rs := [21]) (by kernel_rfl) (by simp) ?_
        refine AllReadyH.cons (o := { dst := some 127, op := Op.call { callee := Callee.value (Operand.func 19), args := #[Operand.tmp 122, Operand.tmp 124, Operand.tmp 126], argTypes := #[33, 3, 4] }, type := 30, pos := "law.go:67", after := #[{ on := 16, ground := Ground.data }, { on := 18, ground := Ground.data }, { on := 20, ground := Ground.data }, { on := 15, ground := Ground.chain }, { on := 9, ground := Ground.guard }], guard := some (9, false) }) rfl (fun K hK => ?_) AllReadyH.nil
        go_simp
        refine (HS2.out _ hOr.out).mono ?_
        rintro e v4 ⟨rfl, hn⟩
        have hOn : Hid (Grommet.Own w v4 (P5 g r X Y A M Z xs L3 L3 (stepC I xs' xc xdr))) := Lib.hid (hn)
        clear hOr hn HS2
        have hOr := hOn
        clear hOn
        refine hK.out _ _ ?hsta3r26o21 (fun hS => ?_)
        case hsta3r26o21 => (exact hOr.out.box 4 rfl)
        clear hK K
        try simp only [Act.put, List.setIfInBounds_toArray, List.set_cons_zero, List.set_cons_succ]
        refine wpAnyH_take (i := 22) (oi := { dst := some 128, op := Op.binOp BinOp.neq 30 (Operand.tmp 121) (Operand.tmp 127) 30, type := 4, pos := "law.go:67", after := #[{ on := 15, ground := Ground.data }, { on := 21, ground := Ground.data }, { on := 9, ground := Ground.guard }], guard := some (9, false) }) (v := ?vta3r26o22) rfl (by kernel_rfl) (by kernel_rfl) (by kernel_rfl) (fun _ _ _ h => h) (Or.inl ⟨by rfl, ?hta3r26o22⟩) hS ?_
        case hta3r26o22 => (intro wx hx; skip; go_simp; (try with_reducible rfl))
        try simp only [Act.put, List.setIfInBounds_toArray, List.set_cons_zero, List.set_cons_succ]
        refine wpAnyH_take (i := 23) (oi := { dst := some 129, op := Op.pick (Operand.tmp 115) (Operand.const (Value.bool true)) (Operand.tmp 128), type := 4, pos := "law.go:67", after := #[{ on := 9, ground := Ground.data }, { on := 22, ground := Ground.data }], guard := none }) (v := ?vta3r26o23) rfl (by kernel_rfl) (by kernel_rfl) (by kernel_rfl) (fun _ _ _ h => h) (Or.inl ⟨by rfl, ?hta3r26o23⟩) hS ?_
        case hta3r26o23 => (intro wx hx; skip; go_simp; (try with_reducible rfl))
        try simp only [Act.put, List.setIfInBounds_toArray, List.set_cons_zero, List.set_cons_succ]
        refine wpAnyH_take (i := 24) (oi := { dst := some 130, op := Op.move (Operand.tmp 129), type := 4, pos := "law.go:67", after := #[{ on := 23, ground := Ground.data }, { on := 21, ground := Ground.chain }], guard := none }) (v := ?vta3r26o24) rfl (by kernel_rfl) (by kernel_rfl) (by kernel_rfl) (fun _ _ _ h => h) (Or.inl ⟨by rfl, ?hta3r26o24⟩) hS ?_
        case hta3r26o24 => (intro wx hx; skip; go_simp; (try with_reducible rfl))
        try simp only [Act.put, List.setIfInBounds_toArray, List.set_cons_zero, List.set_cons_succ]
        refine wpAnyH_take (i := 25) (oi := { dst := some 131, op := Op.move (Operand.tmp 11), type := 29, pos := "law.go:67", after := #[{ on := 24, ground := Ground.guard }], guard := some (24, false) }) (v := ?vta3r26o25) rfl (by kernel_rfl) (by kernel_rfl) (by kernel_rfl) (fun _ _ _ h => h) (Or.inl ⟨by rfl, ?hta3r26o25⟩) hS ?_
        case hta3r26o25 => (intro wx hx; skip; go_simp; (try with_reducible rfl))
        try simp only [Act.put, List.setIfInBounds_toArray, List.set_cons_zero, List.set_cons_succ]
        refine wpAnyH_take (i := 26) (oi := { dst := some 132, op := Op.fieldAddr 37 (Operand.tmp 16) 0, type := 0, pos := "law.go:67", after := #[{ on := 24, ground := Ground.guard }], guard := some (24, false) }) (v := ?vta3r26o26) rfl (by kernel_rfl) (by kernel_rfl) (by kernel_rfl) (fun _ _ _ h => h) (Or.inl ⟨by rfl, ?hta3r26o26⟩) hS ?_
        case hta3r26o26 => (intro wx hx; skip; go_simp; (try with_reducible rfl))
        try simp only [Act.put, List.setIfInBounds_toArray, List.set_cons_zero, List.set_cons_succ]
        refine wpAnyH_take (i := 27) (oi := { dst := some 133, op := Op.load 3 (Operand.tmp 132), type := 3, pos := "law.go:67", after := #[{ on := 26, ground := Ground.data }, { on := 24, ground := Ground.guard }], guard := some (24, false) }) (v := ?vta3r26o27) rfl (by kernel_rfl) (by kernel_rfl) (by kernel_rfl) (fun _ _ _ h => h) (Or.inl ⟨by rfl, ?hta3r26o27⟩) hS ?_
        case hta3r26o27 => (intro wx hx; obtain ⟨x0, x1, x2, x3⟩ := SZ.facts hx; go_simp; (try with_reducible rfl))
        try simp only [Act.put, List.setIfInBounds_toArray, List.set_cons_zero, List.set_cons_succ]
        refine wpAnyH_take (i := 29) (oi := { dst := some 135, op := Op.move (Operand.tmp 13), type := 33, pos := "law.go:67", after := #[{ on := 24, ground := Ground.guard }], guard := some (24, false) }) (v := ?vta3r26o29) rfl (by kernel_rfl) (by kernel_rfl) (by kernel_rfl) (fun _ _ _ h => h) (Or.inl ⟨by rfl, ?hta3r26o29⟩) hS ?_
        case hta3r26o29 => (intro wx hx; skip; go_simp; (try with_reducible rfl))
        try simp only [Act.put, List.setIfInBounds_toArray, List.set_cons_zero, List.set_cons_succ]
        refine wpAnyH_take (i := 30) (oi := { dst := some 136, op := Op.fieldAddr 37 (Operand.tmp 16) 0, type := 0, pos := "law.go:67", after := #[{ on := 24, ground := Ground.guard }], guard := some (24, false) }) (v := ?vta3r26o30) rfl (by kernel_rfl) (by kernel_rfl) (by kernel_rfl) (fun _ _ _ h => h) (Or.inl ⟨by rfl, ?hta3r26o30⟩) hS ?_
        case hta3r26o30 => (intro wx hx; skip; go_simp; (try with_reducible rfl))
        try simp only [Act.put, List.setIfInBounds_toArray, List.set_cons_zero, List.set_cons_succ]
        refine wpAnyH_take (i := 31) (oi := { dst := some 137, op := Op.load 3 (Operand.tmp 136), type := 3, pos := "law.go:67", after := #[{ on := 30, ground := Ground.data }, { on := 24, ground := Ground.guard }], guard := some (24, false) }) (v := ?vta3r26o31) rfl (by kernel_rfl) (by kernel_rfl) (by kernel_rfl) (fun _ _ _ h => h) (Or.inl ⟨by rfl, ?hta3r26o31⟩) hS ?_
        case hta3r26o31 => (intro wx hx; obtain ⟨x0, x1, x2, x3⟩ := SZ.facts hx; go_simp; (try with_reducible rfl))
        try simp only [Act.put, List.setIfInBounds_toArray, List.set_cons_zero, List.set_cons_succ]
        refine wpAnyH_ready (rs := [28]) (by kernel_rfl) (by simp) ?_
        refine AllReadyH.cons (o := { dst := some 134, op := Op.call { callee := Callee.value (Operand.func 16), args := #[Operand.tmp 131, Operand.tmp 133], argTypes := #[29, 3] }, type := 4, pos := "law.go:67", after := #[{ on := 25, ground := Ground.data }, { on := 27, ground := Ground.data }, { on := 24, ground := Ground.chain }, { on := 24, ground := Ground.guard }], guard := some (24, false) }) rfl (fun K hK => ?_) AllReadyH.nil
        go_simp
        refine (HG2.out _ hOr.out).mono ?_
        rintro e v5 ⟨rfl, hn⟩
        have hOn : Hid (Grommet.Own w v5 (P5 g r X Y A M Z xs L3 L3 (stepC I xs' xc xdr))) := Lib.hid (hOr.out.quiet hn)
        clear hOr hn HG2
        have hOr := hOn
        clear hOn
        refine hK.out _ _ ?hsta3r26o28 (fun hS => ?_)
        case hsta3r26o28 => (exact hOr.out.box 4 rfl)
        clear hK K
        try simp only [Act.put, List.setIfInBounds_toArray, List.set_cons_zero, List.set_cons_succ]
        refine wpAnyH_ready (rs := [32]) (by kernel_rfl) (by simp) ?_
        refine AllReadyH.cons (o := { dst := some 138, op := Op.call { callee := Callee.value (Operand.func 17), args := #[Operand.tmp 135, Operand.tmp 137], argTypes := #[33, 3] }, type := 4, pos := "law.go:67", after := #[{ on := 29, ground := Ground.data }, { on := 31, ground := Ground.data }, { on := 28, ground := Ground.chain }, { on := 24, ground := Ground.guard }], guard := some (24, false) }) rfl (fun K hK => ?_) AllReadyH.nil
        go_simp
        refine (HR2.out _ hOr.out).mono ?_
        rintro e v6 ⟨rfl, hn⟩
        have hOn : Hid (Grommet.Own w v6 (P5 g r X Y A M Z xs L3 L3 (stepC I xs' xc xdr))) := Lib.hid (hOr.out.quiet hn)
        clear hOr hn HR2
        have hOr := hOn
        clear hOn
        refine hK.out _ _ ?hsta3r26o32 (fun hS => ?_)
        case hsta3r26o32 => (exact hOr.out.box 4 rfl)
        clear hK K
        try simp only [Act.put, List.setIfInBounds_toArray, List.set_cons_zero, List.set_cons_succ]
        refine wpAnyH_take (i := 33) (oi := { dst := some 139, op := Op.binOp BinOp.neq 4 (Operand.tmp 134) (Operand.tmp 138) 4, type := 4, pos := "law.go:67", after := #[{ on := 28, ground := Ground.data }, { on := 32, ground := Ground.data }, { on := 24, ground := Ground.guard }], guard := some (24, false) }) (v := ?vta3r26o33) rfl (by kernel_rfl) (by kernel_rfl) (by kernel_rfl) (fun _ _ _ h => h) (Or.inl ⟨by rfl, ?hta3r26o33⟩) hS ?_
        case hta3r26o33 => (intro wx hx; skip; go_simp; (try with_reducible rfl))
        try simp only [Act.put, List.setIfInBounds_toArray, List.set_cons_zero, List.set_cons_succ]
        refine wpAnyH_take (i := 34) (oi := { dst := some 140, op := Op.pick (Operand.tmp 130) (Operand.const (Value.bool true)) (Operand.tmp 139), type := 4, pos := "law.go:67", after := #[{ on := 24, ground := Ground.data }, { on := 33, ground := Ground.data }], guard := none }) (v := ?vta3r26o34) rfl (by kernel_rfl) (by kernel_rfl) (by kernel_rfl) (fun _ _ _ h => h) (Or.inl ⟨by rfl, ?hta3r26o34⟩) hS ?_
        case hta3r26o34 => (intro wx hx; skip; go_simp; (try with_reducible rfl))
        try simp only [Act.put, List.setIfInBounds_toArray, List.set_cons_zero, List.set_cons_succ]
        refine wpAnyH_take (i := 35) (oi := { dst := some 141, op := Op.move (Operand.tmp 140), type := 4, pos := "law.go:67", after := #[{ on := 34, ground := Ground.data }, { on := 32, ground := Ground.chain }], guard := none }) (v := ?vta3r26o35) rfl (by kernel_rfl) (by kernel_rfl) (by kernel_rfl) (fun _ _ _ h => h) (Or.inl ⟨by rfl, ?hta3r26o35⟩) hS ?_
        case hta3r26o35 => (intro wx hx; skip; go_simp; (try with_reducible rfl))
        try simp only [Act.put, List.setIfInBounds_toArray, List.set_cons_zero, List.set_cons_succ]
        refine wpAnyH_take (i := 36) (oi := { dst := some 142, op := Op.move (Operand.tmp 11), type := 29, pos := "law.go:67", after := #[{ on := 35, ground := Ground.guard }], guard := some (35, false) }) (v := ?vta3r26o36) rfl (by kernel_rfl) (by kernel_rfl) (by kernel_rfl) (fun _ _ _ h => h) (Or.inl ⟨by rfl, ?hta3r26o36⟩) hS ?_
        case hta3r26o36 => (intro wx hx; skip; go_simp; (try with_reducible rfl))
        try simp only [Act.put, List.setIfInBounds_toArray, List.set_cons_zero, List.set_cons_succ]
        refine wpAnyH_take (i := 38) (oi := { dst := some 144, op := Op.move (Operand.tmp 13), type := 33, pos := "law.go:67", after := #[{ on := 35, ground := Ground.guard }], guard := some (35, false) }) (v := ?vta3r26o38) rfl (by kernel_rfl) (by kernel_rfl) (by kernel_rfl) (fun _ _ _ h => h) (Or.inl ⟨by rfl, ?hta3r26o38⟩) hS ?_
        case hta3r26o38 => (intro wx hx; skip; go_simp; (try with_reducible rfl))
        try simp only [Act.put, List.setIfInBounds_toArray, List.set_cons_zero, List.set_cons_succ]
        refine wpAnyH_ready (rs := [37]) (by kernel_rfl) (by simp) ?_
        refine AllReadyH.cons (o := { dst := some 143, op := Op.call { callee := Callee.value (Operand.func 20), args := #[Operand.tmp 142], argTypes := #[29] }, type := 3, pos := "law.go:67", after := #[{ on := 36, ground := Ground.data }, { on := 35, ground := Ground.chain }, { on := 35, ground := Ground.guard }], guard := some (35, false) }) rfl (fun K hK => ?_) AllReadyH.nil
        go_simp
        refine (HC1.out _ hOr.out).mono ?_
        rintro e v7 ⟨rfl, hn⟩
        have hOn : Hid (Grommet.Own w v7 (P5 g r X Y A M Z xs L3 L3 (stepC I xs' xc xdr))) := Lib.hid (hOr.out.quiet hn)
        clear hOr hn HC1
        have hOr := hOn
        clear hOn
        refine hK.out _ _ ?hsta3r26o37 (fun hS => ?_)
        case hsta3r26o37 => (exact hOr.out.box 4 rfl)
        clear hK K
        try simp only [Act.put, List.setIfInBounds_toArray, List.set_cons_zero, List.set_cons_succ]
        refine wpAnyH_ready (rs := [39]) (by kernel_rfl) (by simp) ?_
        refine AllReadyH.cons (o := { dst := some 145, op := Op.call { callee := Callee.value (Operand.func 21), args := #[Operand.tmp 144], argTypes := #[33] }, type := 3, pos := "law.go:67", after := #[{ on := 38, ground := Ground.data }, { on := 37, ground := Ground.chain }, { on := 35, ground := Ground.guard }], guard := some (35, false) }) rfl (fun K hK => ?_) AllReadyH.nil
        go_simp
        refine (HC2.out _ hOr.out).mono ?_
        rintro e v8 ⟨rfl, hn⟩
        have hOn : Hid (Grommet.Own w v8 (P5 g r X Y A M Z xs L3 L3 (stepC I xs' xc xdr))) := Lib.hid (hn)
        clear hOr hn HC2
        have hOr := hOn
        clear hOn
        refine hK.out _ _ ?hsta3r26o39 (fun hS => ?_)
        case hsta3r26o39 => (exact hOr.out.box 4 rfl)
        clear hK K
        try simp only [Act.put, List.setIfInBounds_toArray, List.set_cons_zero, List.set_cons_succ]
        refine wpAnyH_take (i := 40) (oi := { dst := some 146, op := Op.binOp BinOp.neq 3 (Operand.tmp 143) (Operand.tmp 145) 3, type := 4, pos := "law.go:67", after := #[{ on := 37, ground := Ground.data }, { on := 39, ground := Ground.data }, { on := 35, ground := Ground.guard }], guard := some (35, false) }) (v := ?vta3r26o40) rfl (by kernel_rfl) (by kernel_rfl) (by kernel_rfl) (fun _ _ _ h => h) (Or.inl ⟨by rfl, ?hta3r26o40⟩) hS ?_
        case hta3r26o40 => (intro wx hx; skip; go_simp; (try with_reducible rfl))
        try simp only [Act.put, List.setIfInBounds_toArray, List.set_cons_zero, List.set_cons_succ]
        refine wpAnyH_take (i := 41) (oi := { dst := some 147, op := Op.pick (Operand.tmp 141) (Operand.const (Value.bool true)) (Operand.tmp 146), type := 4, pos := "law.go:67", after := #[{ on := 35, ground := Ground.data }, { on := 40, ground := Ground.data }], guard := none }) (v := ?vta3r26o41) rfl (by kernel_rfl) (by kernel_rfl) (by kernel_rfl) (fun _ _ _ h => h) (Or.inl ⟨by rfl, ?hta3r26o41⟩) hS ?_
        case hta3r26o41 => (intro wx hx; skip; go_simp; (try with_reducible rfl))
        try simp only [Act.put, List.setIfInBounds_toArray, List.set_cons_zero, List.set_cons_succ]
        refine wpAnyH_done (by kernel_rfl) ?_ _
        have hOz : Hid (Grommet.Own w _ (P4 g r X Y A M xs L3 L3)) := Lib.hid (Own.less (Ps := P4 g r X Y A M xs L3 L3) (Qs := [boxP Z 37 (stepC I xs' xc xdr)]) hOr.out)
        have wk : IntKind.i64.wrap ((k : Int) + 1) = (k : Int) + 1 := IntWalk.i64_in _ ⟨by omega, by omega⟩
        clear hOr hZ0
        go_wp2
        go_roundw
        case rel => exact ⟨k + 1, L3, by omega, by go_num, hOz⟩
        case measure => simp [intOf]; omega
      · have hlt' : ¬ (k : Int) < (l3 : Int) := by omega
        obtain ⟨mL, hmL⟩ : ∃ mL, L.length = mL := ⟨_, rfl⟩
        obtain ⟨adl, cpl, hcl, _, hatl⟩ := refQ_obj hO.out 1 rfl
        have hwl := Own.wl hO.out 0 rfl
        have hmb : mL ≤ 96 := by rw [← hmL]; exact hwl.1.few
        have hfs := Lib.hid (flatV_small hwl.2.1 hwl.1.val)
        rw [hmL] at hcl
        have HmL := Lib.hid hmL
        have hR0 : SR r adl mL cpl wr := hcl
        have hR0 := Lib.hid hR0
        have hat9 := Lib.hid (hatl.grown (grown_drew (World.grownBy.refl wr none)) (by simp))
        have HF := Lib.hid (fun wx (h : Grommet.Own w wx (P4 g r X Y A M xs L L)) => FlatG 0 g xs L w wx _ h rfl)
        rw [HX.out] at HF
        have HG := Lib.hid (fun (ad1 : Option Addr) (cp1 : Nat) wx (h : Grommet.Own w wx (P4 g r X Y A M xs L L ++ [rowP 51 1 (.slice ad1 l0 cp1) l0 ((flatV xs L).map wv)])) => RefFlatQ 1 r xs L w wx _ h rfl)
        rw [HX.out] at HG
        have HW := Lib.hid (fun (ad1 ad2 : Option Addr) (cp1 cp2 : Nat) wx (h : Grommet.Own w wx (P4 g r X Y A M xs L L ++ [rowP 51 1 (.slice ad1 l0 cp1) l0 ((flatV xs L).map wv), rowP 51 1 (.slice ad2 l0 cp2) l0 ((flatV xs L).map wv)])) => WritesG 0 g xs L w wx _ h rfl)
        rw [hmL] at HW
        have hOr := Lib.hid (hO.out.quiet (grown_drew (World.grownBy.refl wr none)))
        clear hO hwl hcl hatl hmL hlt hk
        go_wp2_with fail
        refine wp_region_held_drew (S := fun w' => SR r adl mL cpl w') (by kernel_rfl) (hR0.out) (fun hS => ?_)
        refine wpAnyH_take (i := 0) (oi := { dst := some 148, op := Op.move (Operand.tmp 9), type := 25, pos := "law.go:71", after := #[], guard := none }) (v := ?vtb3r28o0) rfl (by kernel_rfl) (by kernel_rfl) (by kernel_rfl) (fun _ _ _ h => h) (Or.inl ⟨by rfl, ?htb3r28o0⟩) hS ?_
        case htb3r28o0 => (intro wx hx; skip; go_simp; (try with_reducible rfl))
        try simp only [Act.put, List.setIfInBounds_toArray, List.set_cons_zero, List.set_cons_succ]
        refine wpAnyH_take (i := 2) (oi := { dst := some 150, op := Op.move (Operand.tmp 10), type := 27, pos := "law.go:71", after := #[], guard := none }) (v := ?vtb3r28o2) rfl (by kernel_rfl) (by kernel_rfl) (by kernel_rfl) (fun _ _ _ h => h) (Or.inl ⟨by rfl, ?htb3r28o2⟩) hS ?_
        case htb3r28o2 => (intro wx hx; skip; go_simp; (try with_reducible rfl))
        try simp only [Act.put, List.setIfInBounds_toArray, List.set_cons_zero, List.set_cons_succ]
        refine wpAnyH_ready (rs := [1]) (by kernel_rfl) (by simp) ?_
        refine AllReadyH.cons (o := { dst := some 149, op := Op.call { callee := Callee.value (Operand.func 23), args := #[Operand.tmp 148], argTypes := #[25] }, type := 22, pos := "law.go:71", after := #[{ on := 0, ground := Ground.data }], guard := none }) rfl (fun K hK => ?_) AllReadyH.nil
        go_simp
        refine (HF.out _ hOr.out).mono ?_
        rintro e v1 ⟨ad1, cp1, rfl, hO1, hg1⟩
        have hS1 := SR.keep hS hg1
        have hA1 := Lib.hid (hat9.out.grown hg1 (by simp))
        have hOn : Hid (Grommet.Own w v1 (P4 g r X Y A M xs L L ++ [rowP 51 1 (.slice ad1 l0 cp1) l0 ((flatV xs L).map wv)])) := Lib.hid hO1
        clear hOr hat9 hO1 hg1 HF
        have hOr := hOn
        clear hOn
        refine hK.out _ _ ?hstb3r28o1 (fun hS => ?_)
        case hstb3r28o1 => (exact hS1)
        clear hK K
        try simp only [Act.put, List.setIfInBounds_toArray, List.set_cons_zero, List.set_cons_succ]
        refine wpAnyH_ready (rs := [3]) (by kernel_rfl) (by simp) ?_
        refine AllReadyH.cons (o := { dst := some 151, op := Op.call { callee := Callee.value (Operand.func 24), args := #[Operand.tmp 150], argTypes := #[27] }, type := 22, pos := "law.go:71", after := #[{ on := 2, ground := Ground.data }, { on := 1, ground := Ground.chain }], guard := none }) rfl (fun K hK => ?_) AllReadyH.nil
        go_simp
        refine (HG.out _ _ _ hOr.out).mono ?_
        rintro e v2 ⟨ad2, cp2, rfl, hO2, hg2⟩
        have hS1 := SR.keep hS hg2
        have hA2 := Lib.hid (hA1.out.grown hg2 (by simp))
        have hOn : Hid (Grommet.Own w v2 (P4 g r X Y A M xs L L ++ [rowP 51 1 (.slice ad1 l0 cp1) l0 ((flatV xs L).map wv), rowP 51 1 (.slice ad2 l0 cp2) l0 ((flatV xs L).map wv)])) := Lib.hid hO2
        clear hOr hA1 hO2 hg2 HG
        obtain ⟨p8, _, _⟩ := Own.words hOn.out 4 rfl hfs.out (by omega)
        obtain ⟨p9, _, _⟩ := Own.words hOn.out 5 rfl hfs.out (by omega)
        have HS8 := Lib.hid (Same_any ad1 ad2 l0 l0 cp1 cp2 _ _ v2 p8 p9)
        rw [decide_eq_true rfl] at HS8
        clear p8 p9
        have hOr := hOn
        clear hOn
        refine hK.out _ _ ?hstb3r28o3 (fun hS => ?_)
        case hstb3r28o3 => (exact hS1)
        clear hK K
        try simp only [Act.put, List.setIfInBounds_toArray, List.set_cons_zero, List.set_cons_succ]
        refine wpAnyH_ready (rs := [4]) (by kernel_rfl) (by simp) ?_
        refine AllReadyH.cons (o := { dst := some 152, op := Op.call { callee := Callee.value (Operand.func 22), args := #[Operand.tmp 149, Operand.tmp 151], argTypes := #[22, 22] }, type := 4, pos := "law.go:71", after := #[{ on := 1, ground := Ground.data }, { on := 3, ground := Ground.data }, { on := 3, ground := Ground.chain }], guard := none }) rfl (fun K hK => ?_) AllReadyH.nil
        go_simp
        refine HS8.out.mono ?_
        rintro e v3 ⟨rfl, hg3⟩
        have hS1 := SR.keep hS hg3
        have hA3 := Lib.hid (hA2.out.grown hg3 (by simp))
        have hOn := Lib.hid (hOr.out.quiet hg3)
        clear hOr hA2 hg3 HS8
        have hOr := hOn
        clear hOn
        refine hK.out _ _ ?hstb3r28o4 (fun hS => ?_)
        case hstb3r28o4 => (exact hS1)
        clear hK K
        try simp only [Act.put, List.setIfInBounds_toArray, List.set_cons_zero, List.set_cons_succ]
        refine wpAnyH_take (i := 5) (oi := { dst := some 153, op := Op.move (Operand.tmp 152), type := 4, pos := "law.go:71", after := #[{ on := 4, ground := Ground.data }, { on := 4, ground := Ground.chain }], guard := none }) (v := ?vtb3r28o5) rfl (by kernel_rfl) (by kernel_rfl) (by kernel_rfl) (fun _ _ _ h => h) (Or.inl ⟨by rfl, ?htb3r28o5⟩) hS ?_
        case htb3r28o5 => (intro wx hx; skip; go_simp; (try with_reducible rfl))
        try simp only [Act.put, List.setIfInBounds_toArray, List.set_cons_zero, List.set_cons_succ]
        refine wpAnyH_take (i := 6) (oi := { dst := some 154, op := Op.move (Operand.tmp 9), type := 25, pos := "law.go:71", after := #[{ on := 5, ground := Ground.guard }], guard := some (5, true) }) (v := ?vtb3r28o6) rfl (by kernel_rfl) (by kernel_rfl) (by kernel_rfl) (fun _ _ _ h => h) (Or.inl ⟨by rfl, ?htb3r28o6⟩) hS ?_
        case htb3r28o6 => (intro wx hx; skip; go_simp; (try with_reducible rfl))
        try simp only [Act.put, List.setIfInBounds_toArray, List.set_cons_zero, List.set_cons_succ]
        refine wpAnyH_take (i := 8) (oi := { dst := some 156, op := Op.move (Operand.tmp 10), type := 27, pos := "law.go:71", after := #[{ on := 5, ground := Ground.guard }], guard := some (5, true) }) (v := ?vtb3r28o8) rfl (by kernel_rfl) (by kernel_rfl) (by kernel_rfl) (fun _ _ _ h => h) (Or.inl ⟨by rfl, ?htb3r28o8⟩) hS ?_
        case htb3r28o8 => (intro wx hx; skip; go_simp; (try with_reducible rfl))
        try simp only [Act.put, List.setIfInBounds_toArray, List.set_cons_zero, List.set_cons_succ]
        refine wpAnyH_take (i := 9) (oi := { dst := some 157, op := Op.nilCheck (Operand.tmp 156), type := 0, pos := "law.go:71", after := #[{ on := 8, ground := Ground.data }, { on := 5, ground := Ground.guard }], guard := some (5, true) }) (v := ?vtb3r28o9) rfl (by kernel_rfl) (by kernel_rfl) (by kernel_rfl) (fun _ _ _ h => h) (Or.inl ⟨by rfl, ?htb3r28o9⟩) hS ?_
        case htb3r28o9 => (intro wx hx; skip; go_simp; (try with_reducible rfl))
        try simp only [Act.put, List.setIfInBounds_toArray, List.set_cons_zero, List.set_cons_succ]
        refine wpAnyH_take (i := 10) (oi := { dst := some 158, op := Op.fieldAddr 40 (Operand.tmp 157) 1, type := 0, pos := "law.go:71", after := #[{ on := 9, ground := Ground.data }, { on := 5, ground := Ground.guard }], guard := some (5, true) }) (v := ?vtb3r28o10) rfl (by kernel_rfl) (by kernel_rfl) (by kernel_rfl) (fun _ _ _ h => h) (Or.inl ⟨by rfl, ?htb3r28o10⟩) hS ?_
        case htb3r28o10 => (intro wx hx; skip; go_simp; (try with_reducible rfl))
        try simp only [Act.put, List.setIfInBounds_toArray, List.set_cons_zero, List.set_cons_succ]
        refine wpAnyH_take (i := 11) (oi := { dst := some 159, op := Op.load 38 (Operand.tmp 158), type := 38, pos := "law.go:71", after := #[{ on := 10, ground := Ground.data }, { on := 5, ground := Ground.guard }], guard := some (5, true) }) (v := ?vtb3r28o11) rfl (by kernel_rfl) (by kernel_rfl) (by kernel_rfl) (fun _ _ _ h => h) (Or.inl ⟨by rfl, ?htb3r28o11⟩) hS ?_
        case htb3r28o11 => (intro wx hx; have x0 := hx; unfold SR at x0; go_simp; (try with_reducible rfl))
        try simp only [Act.put, List.setIfInBounds_toArray, List.set_cons_zero, List.set_cons_succ]
        refine wpAnyH_ready (rs := [7]) (by kernel_rfl) (by simp) ?_
        refine AllReadyH.cons (o := { dst := some 155, op := Op.call { callee := Callee.value (Operand.func 26), args := #[Operand.tmp 154], argTypes := #[25] }, type := 38, pos := "law.go:71", after := #[{ on := 6, ground := Ground.data }, { on := 5, ground := Ground.chain }, { on := 5, ground := Ground.guard }], guard := some (5, true) }) rfl (fun K hK => ?_) AllReadyH.nil
        go_simp
        refine (HW.out _ _ _ _ _ hOr.out).mono ?_
        rintro e v4 ⟨ad3, cp3, rfl, hO4, hg4⟩
        have hS1 := SR.keep hS hg4
        have hA4 := hA3.out.grown hg4 (by simp)
        have hOn : Hid (Grommet.Own w v4 (P4 g r X Y A M xs L L ++ [rowP 51 1 (.slice ad1 l0 cp1) l0 ((flatV xs L).map wv), rowP 51 1 (.slice ad2 l0 cp2) l0 ((flatV xs L).map wv), rowP 76 2 (.slice ad3 mL cp3) mL (wcells L)])) := Lib.hid hO4
        clear hOr hA3 hO4 hg4 HW
        obtain ⟨p7, _⟩ := Own.pairs hOn.out 6 rfl
        have HS9 := Lib.hid (SameW_any ad3 adl mL mL cp3 cpl L L v4 p7 hA4 HmL.out HmL.out (by omega))
        rw [decide_eq_true rfl] at HS9
        clear p7 hA4
        have hOr := hOn
        clear hOn
        refine hK.out _ _ ?hstb3r28o7 (fun hS => ?_)
        case hstb3r28o7 => (exact hS1)
        clear hK K
        try simp only [Act.put, List.setIfInBounds_toArray, List.set_cons_zero, List.set_cons_succ]
        refine wpAnyH_ready (rs := [12]) (by kernel_rfl) (by simp) ?_
        refine AllReadyH.cons (o := { dst := some 160, op := Op.call { callee := Callee.value (Operand.func 25), args := #[Operand.tmp 155, Operand.tmp 159], argTypes := #[38, 38] }, type := 4, pos := "law.go:71", after := #[{ on := 7, ground := Ground.data }, { on := 11, ground := Ground.data }, { on := 7, ground := Ground.chain }, { on := 5, ground := Ground.guard }], guard := some (5, true) }) rfl (fun K hK => ?_) AllReadyH.nil
        go_simp
        refine HS9.out.mono ?_
        rintro e v5 ⟨rfl, hg5⟩
        have hS1 := SR.keep hS hg5
        have hOn := Lib.hid (hOr.out.quiet hg5)
        clear hOr hg5 HS9
        have hOr := hOn
        clear hOn
        have HWk := Lib.hid (works_tab v5 (tab_grown HTab.out hOr.out.grown))
        refine hK.out _ _ ?hstb3r28o12 (fun hS => ?_)
        case hstb3r28o12 => (exact hS1)
        clear hK K
        try simp only [Act.put, List.setIfInBounds_toArray, List.set_cons_zero, List.set_cons_succ]
        refine wpAnyH_take (i := 13) (oi := { dst := some 161, op := Op.pick (Operand.tmp 153) (Operand.tmp 160) (Operand.const (Value.bool false)), type := 4, pos := "law.go:71", after := #[{ on := 5, ground := Ground.data }, { on := 12, ground := Ground.data }], guard := none }) (v := ?vtb3r28o13) rfl (by kernel_rfl) (by kernel_rfl) (by kernel_rfl) (fun _ _ _ h => h) (Or.inl ⟨by rfl, ?htb3r28o13⟩) hS ?_
        case htb3r28o13 => (intro wx hx; skip; go_simp; (try with_reducible rfl))
        try simp only [Act.put, List.setIfInBounds_toArray, List.set_cons_zero, List.set_cons_succ]
        refine wpAnyH_take (i := 14) (oi := { dst := some 162, op := Op.move (Operand.tmp 161), type := 4, pos := "law.go:71", after := #[{ on := 13, ground := Ground.data }, { on := 12, ground := Ground.chain }], guard := none }) (v := ?vtb3r28o14) rfl (by kernel_rfl) (by kernel_rfl) (by kernel_rfl) (fun _ _ _ h => h) (Or.inl ⟨by rfl, ?htb3r28o14⟩) hS ?_
        case htb3r28o14 => (intro wx hx; skip; go_simp; (try with_reducible rfl))
        try simp only [Act.put, List.setIfInBounds_toArray, List.set_cons_zero, List.set_cons_succ]
        refine wpAnyH_ready (rs := [15]) (by kernel_rfl) (by simp) ?_
        refine AllReadyH.cons (o := { dst := some 163, op := Op.call { callee := Callee.value (Operand.func 8), args := #[], argTypes := #[] }, type := 4, pos := "law.go:71", after := #[{ on := 14, ground := Ground.chain }, { on := 14, ground := Ground.guard }], guard := some (14, true) }) rfl (fun K hK => ?_) AllReadyH.nil
        go_simp
        refine HWk.out.mono ?_
        rintro e v6 ⟨rfl, hg6⟩
        have hS1 := SR.keep hS hg6
        have hfin := Lib.hid (grown_trans hOr.out.grown hg6)
        clear hOr hg6 HWk
        refine hK.out _ _ ?hstb3r28o15 (fun hS => ?_)
        case hstb3r28o15 => (exact hS1)
        clear hK K
        try simp only [Act.put, List.setIfInBounds_toArray, List.set_cons_zero, List.set_cons_succ]
        refine wpAnyH_take (i := 16) (oi := { dst := some 164, op := Op.pick (Operand.tmp 162) (Operand.tmp 163) (Operand.const (Value.bool false)), type := 4, pos := "law.go:71", after := #[{ on := 14, ground := Ground.data }, { on := 15, ground := Ground.data }], guard := none }) (v := ?vtb3r28o16) rfl (by kernel_rfl) (by kernel_rfl) (by kernel_rfl) (fun _ _ _ h => h) (Or.inl ⟨by rfl, ?htb3r28o16⟩) hS ?_
        case htb3r28o16 => (intro wx hx; skip; go_simp; (try with_reducible rfl))
        try simp only [Act.put, List.setIfInBounds_toArray, List.set_cons_zero, List.set_cons_succ]
        refine wpAnyH_take (i := 17) (oi := { dst := some 8, op := Op.assign (Operand.tmp 164), type := 4, pos := "law.go:71", after := #[{ on := 16, ground := Ground.data }, { on := 15, ground := Ground.chain }, { on := 0, ground := Ground.phase }, { on := 1, ground := Ground.phase }, { on := 2, ground := Ground.phase }, { on := 3, ground := Ground.phase }, { on := 4, ground := Ground.phase }, { on := 5, ground := Ground.phase }, { on := 6, ground := Ground.phase }, { on := 7, ground := Ground.phase }, { on := 8, ground := Ground.phase }, { on := 9, ground := Ground.phase }, { on := 10, ground := Ground.phase }, { on := 11, ground := Ground.phase }, { on := 12, ground := Ground.phase }, { on := 13, ground := Ground.phase }, { on := 14, ground := Ground.phase }, { on := 15, ground := Ground.phase }, { on := 16, ground := Ground.phase }], guard := none }) (v := ?vtb3r28o17) rfl (by kernel_rfl) (by kernel_rfl) (by kernel_rfl) (fun _ _ _ h => h) (Or.inl ⟨by rfl, ?htb3r28o17⟩) hS ?_
        case htb3r28o17 => (intro wx hx; skip; go_simp; (try with_reducible rfl))
        try simp only [Act.put, List.setIfInBounds_toArray, List.set_cons_zero, List.set_cons_succ]
        refine wpAnyH_done (by kernel_rfl) ?_ _
        go_wp2
        go_ret
        exact ⟨rfl, hfin.out⟩
  · obtain ⟨en, he⟩ : ∃ en : Int, (m < 1 ∧ en = 1) ∨ (1 ≤ m ∧ (at_ < 0 ∨ (xs.length : Int) - (((m.toNat - 1) / 64 + 1 : Nat) : Int) < at_) ∧ en = 8) := by
      have hxl := HX.out
      by_cases h1 : m < 1
      · exact ⟨1, .inl ⟨h1, rfl⟩⟩
      · exact ⟨8, .inr ⟨by omega, by omega, rfl⟩⟩
    have HO1 := Lib.hid (MOfNo 0 g at_ m xs [] w u2 _ hO2 rfl (by omega) en he)
    have HO2 := Lib.hid (ROfNo 1 r at_ m xs [] w u2 _ hO2 rfl (by omega) (by rw [HX.out]; omega) en he)
    have hg := Lib.hid hO2.grown
    have HWk := Lib.hid (works_tab u2 (tab_grown HTab.out hO2.grown))
    have q1 : (en != en) = false := by simp
    clear hO2 hyes he
    go_wp2_with fail
    refine HO1.out.mono ?_
    rintro e u3 ⟨rfl, rfl⟩
    clear HO1
    go_wp2_with fail
    refine HO2.out.mono ?_
    rintro e u4 ⟨rfl, rfl⟩
    clear HO2
    go_wp2_with fail
    refine HWk.out.mono ?_
    rintro e u5 ⟨rfl, hg5⟩
    have hfin := Lib.hid (grown_trans hg.out hg5)
    clear hg5
    go_wp2
    go_ret
    exact ⟨rfl, hfin.out⟩

theorem walk (a0 : Option Addr) (l0 c0 : Nat) (z0 : List Int) (at_ m : Int) (a3 : Option Addr) (l3 c3 : Nat) (T : List Bms) (w : World) (w0 : RowIn .u64 w a0 l0 c0 z0) (_ : (Lit.int .i64 at_).wf = true) (_ : (Lit.int .i64 m).wf = true) (hT : BmssIn w a3 l3 T) (ht : Lib.TabIs Tryd.prog w "math/bits.deBruijn64tab" .u8 tab) :
    Calls Tryd.prog 3 #[.slice a0 l0 c0, .int .i64 at_, .int .i64 m, .slice a3 l3 c3] w (Go.Ev.WorksIs w) := by
  obtain ⟨xs, hx⟩ := rowIn_words w0
  by_cases h : 200 < l0 ∨ 200 < l3 ∨ 16384 < m
  · exact walk_far a0 l0 c0 at_ m a3 l3 c3 w ht h
  · exact walk_at a0 l0 c0 xs at_ m a3 l3 c3 T w hx (fun e => w0.nil e) hT ht (by omega) (by omega) (by omega)
end Go.Proofs.YtjjdggdbohjjnaaDoor.bitmapPlays
