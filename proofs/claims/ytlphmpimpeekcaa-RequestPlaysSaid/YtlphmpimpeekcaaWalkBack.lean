/- RequestBack, walked. -/
import Derived.Test.YtlphmpimpeekcaaBkMath3
import Derived.Test.YtlphmpimpeekcaaWalkOthers
namespace Go.Proofs.Ytlphmpimpeekcaa.requestBack
open Go.RowKit Go.Grommet
def WorksOk (w : World) (e : Ending) (w' : World) : Prop := e = .returned (.bool true) ∧ w.grownBy w' none

theorem own_lastB {w0 w : World} {Ps : List Pr} {P : Pr} (h : Grommet.Own w0 w (Ps ++ [P])) : Grommet.Own w0 w [P] := by
  refine own_pick (fun _ => Ps.length) h ?_ ?_
  · intro j hj
    have : j = 0 := by simp at hj; exact hj
    subst this
    exact ⟨by simp, by rw [lastQ]; rfl⟩
  · intro i j hi hj hne
    simp at hi hj; omega
theorem getE_ok (bs : List UInt8) : (getE bs).r.Ok := getL_ok bs _

set_option maxRecDepth 100000 in
set_option maxHeartbeats 16000000 in
theorem walk_n (r o : Rq) (rd : Option Addr) (rl rc : Nat) (bs : List UInt8) (C : Nat) (hC : C < 65536) (hr : r.Ok) (r1 : r.p.size ≤ 140737488351232) (r2 : r.t.size ≤ 140737488351232) (r3 : r.d.size ≤ 140737488351232)
    (ho : o.Ok) (o1 : o.p.size ≤ 140737488351232) (o2 : o.t.size ≤ 140737488351232) (o3 : o.d.size ≤ 140737488351232) (w : World) (hbl : bs.length = rl) (hat : At w rd (bs.map bv)) (hrn : rd = none → rl = 0 ∧ rc = 0) :
    Calls Try.prog 4 #[.agg r.cs, .agg o.cs, .slice rd rl rc, .int .u16 (C : Int)] w (WorksOk w) := by
  have HFr := Lib.hid (fun wx => Few_any r r1 r2 r3 wx)
  have HFo := Lib.hid (fun wx => Few_any o o1 o2 o3 wx)
  have hO := Lib.hid (((Own.nil w).addBox 24 r.cs).addBox 24 o.cs)
  rw [show (w.alloc (.cells r.cs 24)).heap.size = w.heap.size + 1 by simp] at hO
  obtain ⟨G, hG⟩ : ∃ G, w.heap.size = G := ⟨_, rfl⟩
  rw [hG] at hO
  obtain ⟨H, hH⟩ : ∃ H, G + 1 = H := ⟨_, rfl⟩
  rw [hH] at hO
  obtain ⟨f1, hf1⟩ : ∃ fb, decide (r.p.size + r.t.size + r.d.size ≤ 2048) = fb := ⟨_, rfl⟩
  rw [hf1] at HFr
  obtain ⟨f2, hf2⟩ : ∃ fb, decide (o.p.size + o.t.size + o.d.size ≤ 2048) = fb := ⟨_, rfl⟩
  rw [hf2] at HFo
  have Hf1 := Lib.hid hf1
  have Hf2 := Lib.hid hf2
  have Hr := Lib.hid hr
  have Ho := Lib.hid ho
  have HC := Lib.hid hC
  have Hrl := Lib.hid hbl
  have Hrn := Lib.hid hrn
  have hraw := Lib.hid hat
  unfold Rq.cs at HFr HFo
  clear r1 r2 r3 o1 o2 o3 hf1 hf2 hr ho hC hbl hrn hat
  go_enter Try.func4, Try.ntmps4
  go_upto_region 1 with fail
  try (change Code.wp _ _ _ _ ((w.alloc (.cells r.cs 24)).alloc (.cells o.cs 24)))
  try rw [hH]
  generalize World.alloc (World.alloc _ _) _ = w1 at *
  clear hG hH
  have hO : Hid (Grommet.Own w w1 [boxP G 24 r.cs, boxP H 24 o.cs]) := Lib.hid hO.out
  have d0 := (own_cellB hO.out 0 rfl 0 (u := .int .u8 (r.k : Int)) rfl).1
  have d1 := (own_cellB hO.out 0 rfl 1 (u := .int .u8 (r.fl : Int)) rfl).1
  have d2 := (own_cellB hO.out 0 rfl 2 (u := .int .u64 (r.fd : Int)) rfl).1
  have d3 := (own_cellB hO.out 0 rfl 3 (u := .int .u64 (r.at_ : Int)) rfl).1
  have d4 := (own_cellB hO.out 0 rfl 4 (u := .int .u64 (r.sz : Int)) rfl).1
  have d5 := (own_cellB hO.out 0 rfl 5 (u := .string r.p) rfl).1
  have d6 := (own_cellB hO.out 0 rfl 6 (u := .string r.t) rfl).1
  have d7 := (own_cellB hO.out 0 rfl 7 (u := .string r.d) rfl).1
  go_wp2_with fail
  refine (HFr.out _).mono ?_
  rintro e w2 ⟨rfl, hg⟩
  replace hO := Lib.hid (hO.out.quiet hg)
  clear d0 d1 d2 d3 d4 d5 d6 d7
  clear hg HFr
  cases f1
  · clear HFo
    go_wp2_with fail
    refine (works_ev _).mono ?_
    rintro e w9 ⟨rfl, hg⟩
    go_wp2
    go_ret
    exact ⟨rfl, grown_trans hO.out.grown hg⟩
  · skip
    have c0 := (own_cellB hO.out 1 rfl 0 (u := .int .u8 (o.k : Int)) rfl).1
    have c1 := (own_cellB hO.out 1 rfl 1 (u := .int .u8 (o.fl : Int)) rfl).1
    have c2 := (own_cellB hO.out 1 rfl 2 (u := .int .u64 (o.fd : Int)) rfl).1
    have c3 := (own_cellB hO.out 1 rfl 3 (u := .int .u64 (o.at_ : Int)) rfl).1
    have c4 := (own_cellB hO.out 1 rfl 4 (u := .int .u64 (o.sz : Int)) rfl).1
    have c5 := (own_cellB hO.out 1 rfl 5 (u := .string o.p) rfl).1
    have c6 := (own_cellB hO.out 1 rfl 6 (u := .string o.t) rfl).1
    have c7 := (own_cellB hO.out 1 rfl 7 (u := .string o.d) rfl).1
    go_wp2_with fail
    refine (HFo.out _).mono ?_
    rintro e w3 ⟨rfl, hg⟩
    replace hO := Lib.hid (hO.out.quiet hg)
    clear c0 c1 c2 c3 c4 c5 c6 c7
    clear hg HFo
    cases f2
    · skip
      go_wp2_with fail
      refine (works_ev _).mono ?_
      rintro e w9 ⟨rfl, hg⟩
      go_wp2
      go_ret
      exact ⟨rfl, grown_trans hO.out.grown hg⟩
    · by_cases hrw : 2048 < rl
      · have g1 : (2048 : Int) < (rl : Int) := by omega
        go_wp2_with fail
        refine (works_ev _).mono ?_
        rintro e w9 ⟨rfl, hg⟩
        go_wp2
        go_ret
        exact ⟨rfl, grown_trans hO.out.grown hg⟩
      · have g1 : ¬ (2048 : Int) < (rl : Int) := by omega
        have Hr2 : Hid (rl ≤ 2048) := Lib.hid (by omega)
        have hfr : r.Few := by
          have := of_decide_eq_true Hf1.out
          exact ⟨by omega, by omega, by omega⟩
        have hfo : o.Few := by
          have := of_decide_eq_true Hf2.out
          exact ⟨by omega, by omega, by omega⟩
        have HP := Lib.hid (fun wx => (show Calls Try.prog 15 #[.agg #[.int .u8 (r.k : Int), .int .u8 (r.fl : Int), .int .u64 (r.fd : Int), .int .u64 (r.at_ : Int), .int .u64 (r.sz : Int), .string r.p, .string r.t, .string r.d]] wx (MadeIs wx (putQ r)) from Put_any r Hr.out hfr wx))
        have HM := Lib.hid (fun wx => (show Calls Try.prog 13 #[.agg #[.int .u8 (r.k : Int), .int .u8 (r.fl : Int), .int .u64 (r.fd : Int), .int .u64 (r.at_ : Int), .int .u64 (r.sz : Int), .string r.p, .string r.t, .string r.d]] wx fun e w' => e = .returned (.bool (mayQ r)) ∧ wx.grownBy w' none from May_any r Hr.out wx))
        have hXlen : (putQ r).length ≤ 900000 := by
          unfold putQ
          split
          · have := putL_len Hr.out hfr (flds r.k).length
            have := flds_len r.k
            omega
          · simp
        have Hfo := Lib.hid hfo
        clear hrw hfr hfo Hf1 Hf2
        have d0 := (own_cellB hO.out 0 rfl 0 (u := .int .u8 (r.k : Int)) rfl).1
        have d1 := (own_cellB hO.out 0 rfl 1 (u := .int .u8 (r.fl : Int)) rfl).1
        have d2 := (own_cellB hO.out 0 rfl 2 (u := .int .u64 (r.fd : Int)) rfl).1
        have d3 := (own_cellB hO.out 0 rfl 3 (u := .int .u64 (r.at_ : Int)) rfl).1
        have d4 := (own_cellB hO.out 0 rfl 4 (u := .int .u64 (r.sz : Int)) rfl).1
        have d5 := (own_cellB hO.out 0 rfl 5 (u := .string r.p) rfl).1
        have d6 := (own_cellB hO.out 0 rfl 6 (u := .string r.t) rfl).1
        have d7 := (own_cellB hO.out 0 rfl 7 (u := .string r.d) rfl).1
        go_wp2_with fail
        refine (HP.out _).mono ?_
        rintro e w4 ⟨ad, cap, rfl, hat, hnil, ⟨hcap, _⟩, hg⟩
        replace hO := Lib.hid (hO.out.quiet hg)
        clear d0 d1 d2 d3 d4 d5 d6 d7
        clear hg HP
        have hXY : (mayQ r = false → putQ r = []) ∧ (mayQ r = true → getR (putQ r) = r ∧ getN (putQ r) = 0 ∧ 0 < (putQ r).length ∧ getB (putQ r) = true ∧ ∀ j, j < (putQ r).length → getB ((putQ r).take j) = false) :=
          ⟨putQ_no, fun h => ⟨(put_getR Hr.out h).1, (put_getR Hr.out h).2, by unfold putQ; rw [if_pos h]; simp [putL], put_getB Hr.out h, fun j hj => put_cut Hr.out h hj⟩⟩
        have hXo : mayQ r = true → mayQ o = true → putQ o = putQ r → o = r := fun a b c => put_inj Hr.out Ho.out a b c
        have HXo := Lib.hid hXo
        obtain ⟨X, hX⟩ : ∃ X, putQ r = X := ⟨_, rfl⟩
        rw [hX] at hat hnil hcap hXY hXlen HXo ⊢
        obtain ⟨L, hL⟩ : ∃ L, X.length = L := ⟨_, rfl⟩
        rw [hL] at hnil hcap hXlen ⊢
        have HL := Lib.hid hL
        have HX := Lib.hid hX
        have hat := Lib.hid hat
        have hnil := Lib.hid hnil
        have hcap := Lib.hid hcap
        have HXl := Lib.hid hXlen
        have HXY := Lib.hid hXY
        clear hX hL hXlen hXY hXo
        cases hmb : mayQ r with
        | false =>
          have hX0 := HXY.out.1 hmb
          subst hX0
          obtain rfl : L = 0 := HL.out.symm
          have HGt := Lib.hid (Get_any ad 0 cap [] w4 rfl hat.out hnil.out (by decide))
          rw [get_nil.1, get_nil.2] at HGt
          rw [hmb] at HM
          unfold Rq.cs zeroRq at HGt
          clear hmb hat hnil hcap HXY HXo HL HXl
          go_wp2_with fail
          refine HGt.out.mono ?_
          rintro e w5 ⟨rfl, hg⟩
          replace hO := Lib.hid (hO.out.quiet hg)
          clear hg HGt
          have hOn := hO.out.addBox 24 #[.int .u8 0, .int .u8 0, .int .u64 0, .int .u64 0, .int .u64 0, .string ⟨#[]⟩, .string ⟨#[]⟩, .string ⟨#[]⟩]
          obtain ⟨BX, hBX⟩ : ∃ X, w5.heap.size = X := ⟨_, rfl⟩
          rw [hBX] at hOn
          go_upto_region 5 with fail
          generalize World.alloc _ _ = wB at hOn ⊢
          replace hO := Lib.hid hOn
          clear hOn hBX
          have d0 := (own_cellB hO.out 0 rfl 0 (u := .int .u8 (r.k : Int)) rfl).1
          have d1 := (own_cellB hO.out 0 rfl 1 (u := .int .u8 (r.fl : Int)) rfl).1
          have d2 := (own_cellB hO.out 0 rfl 2 (u := .int .u64 (r.fd : Int)) rfl).1
          have d3 := (own_cellB hO.out 0 rfl 3 (u := .int .u64 (r.at_ : Int)) rfl).1
          have d4 := (own_cellB hO.out 0 rfl 4 (u := .int .u64 (r.sz : Int)) rfl).1
          have d5 := (own_cellB hO.out 0 rfl 5 (u := .string r.p) rfl).1
          have d6 := (own_cellB hO.out 0 rfl 6 (u := .string r.t) rfl).1
          have d7 := (own_cellB hO.out 0 rfl 7 (u := .string r.d) rfl).1
          go_wp2_with fail
          refine (HM.out _).mono ?_
          rintro e w5 ⟨rfl, hg⟩
          replace hO := Lib.hid (hO.out.quiet hg)
          clear d0 d1 d2 d3 d4 d5 d6 d7
          clear hg HM
          have HGr := Lib.hid (Get_any rd rl rc bs _ Hrl.out (hraw.out.grown hO.out.grown (fun _ _ _ => by simp)) Hrn.out (by have := Hr2.out; omega))
          go_wp2_with fail
          refine HGr.out.mono ?_
          rintro e w4 ⟨rfl, hg⟩
          replace hO := Lib.hid (hO.out.quiet hg)
          clear hg HGr
          cases hgb : getB bs with
          | false =>
            obtain ⟨g1, g2⟩ := get_no hgb
            rw [g1, g2]
            clear g1 g2 hgb
            unfold Rq.cs zeroRq
            have hOn := hO.out.addBox 24 #[.int .u8 0, .int .u8 0, .int .u64 0, .int .u64 0, .int .u64 0, .string ⟨#[]⟩, .string ⟨#[]⟩, .string ⟨#[]⟩]
            obtain ⟨BX, hBX⟩ : ∃ X, w4.heap.size = X := ⟨_, rfl⟩
            rw [hBX] at hOn
            go_upto_region 13 with fail
            generalize World.alloc _ _ = wB at hOn ⊢
            replace hO := Lib.hid hOn
            clear hOn hBX
            have z0 := (own_cellB (own_lastB hO.out) 0 rfl 0 (u := .int .u8 0) rfl).1
            have z1 := (own_cellB (own_lastB hO.out) 0 rfl 1 (u := .int .u8 0) rfl).1
            have z2 := (own_cellB (own_lastB hO.out) 0 rfl 2 (u := .int .u64 0) rfl).1
            have z3 := (own_cellB (own_lastB hO.out) 0 rfl 3 (u := .int .u64 0) rfl).1
            have z4 := (own_cellB (own_lastB hO.out) 0 rfl 4 (u := .int .u64 0) rfl).1
            have z5 := (own_cellB (own_lastB hO.out) 0 rfl 5 (u := .string ⟨#[]⟩) rfl).1
            have z6 := (own_cellB (own_lastB hO.out) 0 rfl 6 (u := .string ⟨#[]⟩) rfl).1
            have z7 := (own_cellB (own_lastB hO.out) 0 rfl 7 (u := .string ⟨#[]⟩) rfl).1
            go_wp2_with fail
            refine (works_ev _).mono ?_
            rintro e w9 ⟨rfl, hg⟩
            go_wp2
            go_ret
            exact ⟨rfl, grown_trans hO.out.grown hg⟩
          | true =>
            obtain ⟨g1, g2⟩ := get_yes hgb
            rw [g1, g2]
            have hback := got_put hgb
            have hmay := (getB_parts hgb).2.2.2
            have hok := getE_ok bs
            generalize (getE bs).r = x at hback hmay hok ⊢
            clear g1 g2 hgb
            have HMx := Lib.hid (fun wx => (show Calls Try.prog 13 #[.agg #[.int .u8 (x.k : Int), .int .u8 (x.fl : Int), .int .u64 (x.fd : Int), .int .u64 (x.at_ : Int), .int .u64 (x.sz : Int), .string x.p, .string x.t, .string x.d]] wx fun e w' => e = .returned (.bool true) ∧ wx.grownBy w' none by have := May_any x hok wx; rw [hmay] at this; exact this))
            have HPx := Lib.hid (fun wx => (show Calls Try.prog 15 #[.agg #[.int .u8 (x.k : Int), .int .u8 (x.fl : Int), .int .u64 (x.fd : Int), .int .u64 (x.at_ : Int), .int .u64 (x.sz : Int), .string x.p, .string x.t, .string x.d]] wx (MadeIs wx bs) by have := Put_any x hok (may_few hmay) wx; rw [hback] at this; exact this))
            clear hback hmay hok
            unfold Rq.cs
            have hOn := hO.out.addBox 24 #[.int .u8 (x.k : Int), .int .u8 (x.fl : Int), .int .u64 (x.fd : Int), .int .u64 (x.at_ : Int), .int .u64 (x.sz : Int), .string x.p, .string x.t, .string x.d]
            obtain ⟨BX, hBX⟩ : ∃ X, w4.heap.size = X := ⟨_, rfl⟩
            rw [hBX] at hOn
            go_upto_region 13 with fail
            generalize World.alloc _ _ = wB at hOn ⊢
            replace hO := Lib.hid hOn
            have hrawB := Lib.hid (hraw.out.grown hO.out.grown (fun _ _ _ => by simp))
            clear hOn hBX
            have z0 := (own_cellB (own_lastB hO.out) 0 rfl 0 (u := .int .u8 (x.k : Int)) rfl).1
            have z1 := (own_cellB (own_lastB hO.out) 0 rfl 1 (u := .int .u8 (x.fl : Int)) rfl).1
            have z2 := (own_cellB (own_lastB hO.out) 0 rfl 2 (u := .int .u64 (x.fd : Int)) rfl).1
            have z3 := (own_cellB (own_lastB hO.out) 0 rfl 3 (u := .int .u64 (x.at_ : Int)) rfl).1
            have z4 := (own_cellB (own_lastB hO.out) 0 rfl 4 (u := .int .u64 (x.sz : Int)) rfl).1
            have z5 := (own_cellB (own_lastB hO.out) 0 rfl 5 (u := .string x.p) rfl).1
            have z6 := (own_cellB (own_lastB hO.out) 0 rfl 6 (u := .string x.t) rfl).1
            have z7 := (own_cellB (own_lastB hO.out) 0 rfl 7 (u := .string x.d) rfl).1
            go_upto_region 15 with fail
            refine wp_region_held_drew (S := fun wx => World.grownBy wB wx none) (by kernel_rfl) (grown_drew (World.grownBy.refl _ none)) (fun hS => ?_)
            generalize World.drew _ = wD at hS ⊢
            refine wpAnyH_take (i := 0) (oi := { dst := some 124, op := Op.load 24 (Operand.tmp 16), type := 24, pos := "law.go:54", after := #[], guard := none }) (v := ?vta14r15o0n1) rfl (by kernel_rfl) (by kernel_rfl) (by kernel_rfl) (fun _ _ _ h => h) (Or.inl ⟨by rfl, ?hta14r15o0n1⟩) hS ?_
            case hta14r15o0n1 => (intro wx hx; have y0 := hx.cell z0 (by simp); have y1 := hx.cell z1 (by simp); have y2 := hx.cell z2 (by simp); have y3 := hx.cell z3 (by simp); have y4 := hx.cell z4 (by simp); have y5 := hx.cell z5 (by simp); have y6 := hx.cell z6 (by simp); have y7 := hx.cell z7 (by simp); have hcv1 := conv_at (P := Try.prog) (w := wx) 25 9 5 Try.underlying25 Try.underlying5 Try.underlying9 (hrawB.out.grown hx (fun _ _ _ => by simp)) Hrl.out (fun e => (Hrn.out e).1) (cap := rc); go_simp; (try with_reducible rfl))
            try simp only [Act.put, List.setIfInBounds_toArray, List.set_cons_zero, List.set_cons_succ]
            refine wpAnyH_ready (rs := [1]) (by kernel_rfl) (by simp) ?_
            refine AllReadyH.cons (o := { dst := some 125, op := Op.call { callee := Callee.value (Operand.func 13), args := #[Operand.tmp 124], argTypes := #[24] }, type := 4, pos := "law.go:54", after := #[{ on := 0, ground := Ground.data }], guard := none }) rfl (fun K hK => ?_) AllReadyH.nil
            go_simp
            refine (HMx.out _).mono ?_
            rintro e w5 ⟨rfl, hg⟩
            have hS1 := grown_trans hS hg
            clear hg
            refine hK.out _ _ ?hsta14r15o1n2 (fun hS => ?_)
            case hsta14r15o1n2 => (exact hS1)
            clear hK K
            try simp only [Act.put, List.setIfInBounds_toArray, List.set_cons_zero, List.set_cons_succ]
            refine wpAnyH_take (i := 2) (oi := { dst := some 126, op := Op.move (Operand.tmp 125), type := 4, pos := "law.go:54", after := #[{ on := 1, ground := Ground.data }, { on := 1, ground := Ground.chain }], guard := none }) (v := ?vta14r15o2n3) rfl (by kernel_rfl) (by kernel_rfl) (by kernel_rfl) (fun _ _ _ h => h) (Or.inl ⟨by rfl, ?hta14r15o2n3⟩) hS ?_
            case hta14r15o2n3 => (intro wx hx; skip; go_simp; (try with_reducible rfl))
            try simp only [Act.put, List.setIfInBounds_toArray, List.set_cons_zero, List.set_cons_succ]
            refine wpAnyH_take (i := 3) (oi := { dst := some 127, op := Op.load 24 (Operand.tmp 16), type := 24, pos := "law.go:54", after := #[{ on := 2, ground := Ground.guard }], guard := some (2, true) }) (v := ?vta14r15o3n4) rfl (by kernel_rfl) (by kernel_rfl) (by kernel_rfl) (fun _ _ _ h => h) (Or.inl ⟨by rfl, ?hta14r15o3n4⟩) hS ?_
            case hta14r15o3n4 => (intro wx hx; have y0 := hx.cell z0 (by simp); have y1 := hx.cell z1 (by simp); have y2 := hx.cell z2 (by simp); have y3 := hx.cell z3 (by simp); have y4 := hx.cell z4 (by simp); have y5 := hx.cell z5 (by simp); have y6 := hx.cell z6 (by simp); have y7 := hx.cell z7 (by simp); have hcv1 := conv_at (P := Try.prog) (w := wx) 25 9 5 Try.underlying25 Try.underlying5 Try.underlying9 (hrawB.out.grown hx (fun _ _ _ => by simp)) Hrl.out (fun e => (Hrn.out e).1) (cap := rc); go_simp; (try with_reducible rfl))
            try simp only [Act.put, List.setIfInBounds_toArray, List.set_cons_zero, List.set_cons_succ]
            refine wpAnyH_take (i := 6) (oi := { dst := some 130, op := Op.move (Operand.tmp 2), type := 25, pos := "law.go:54", after := #[{ on := 2, ground := Ground.guard }], guard := some (2, true) }) (v := ?vta14r15o6n5) rfl (by kernel_rfl) (by kernel_rfl) (by kernel_rfl) (fun _ _ _ h => h) (Or.inl ⟨by rfl, ?hta14r15o6n5⟩) hS ?_
            case hta14r15o6n5 => (intro wx hx; skip; go_simp; (try with_reducible rfl))
            try simp only [Act.put, List.setIfInBounds_toArray, List.set_cons_zero, List.set_cons_succ]
            refine wpAnyH_take (i := 7) (oi := { dst := some 131, op := Op.convert 25 9 (Operand.tmp 130), type := 9, pos := "law.go:54", after := #[{ on := 6, ground := Ground.data }, { on := 2, ground := Ground.guard }], guard := some (2, true) }) (v := ?vta14r15o7n6) rfl (by kernel_rfl) (by kernel_rfl) (by kernel_rfl) (fun _ _ _ h => h) (Or.inl ⟨by rfl, ?hta14r15o7n6⟩) hS ?_
            case hta14r15o7n6 => (intro wx hx; have y0 := hx.cell z0 (by simp); have y1 := hx.cell z1 (by simp); have y2 := hx.cell z2 (by simp); have y3 := hx.cell z3 (by simp); have y4 := hx.cell z4 (by simp); have y5 := hx.cell z5 (by simp); have y6 := hx.cell z6 (by simp); have y7 := hx.cell z7 (by simp); have hcv1 := conv_at (P := Try.prog) (w := wx) 25 9 5 Try.underlying25 Try.underlying5 Try.underlying9 (hrawB.out.grown hx (fun _ _ _ => by simp)) Hrl.out (fun e => (Hrn.out e).1) (cap := rc); go_simp; (try with_reducible rfl))
            try simp only [Act.put, List.setIfInBounds_toArray, List.set_cons_zero, List.set_cons_succ]
            refine wpAnyH_ready (rs := [4]) (by kernel_rfl) (by simp) ?_
            refine AllReadyH.cons (o := { dst := some 128, op := Op.call { callee := Callee.value (Operand.func 15), args := #[Operand.tmp 127], argTypes := #[24] }, type := 25, pos := "law.go:54", after := #[{ on := 3, ground := Ground.data }, { on := 2, ground := Ground.chain }, { on := 2, ground := Ground.guard }], guard := some (2, true) }) rfl (fun K hK => ?_) AllReadyH.nil
            go_simp
            refine (HPx.out _).mono ?_
            rintro e w6 ⟨ad2, cap2, rfl, a1, a2, ⟨a4, a3⟩, hg⟩
            have hS1 := grown_trans hS hg
            have hcv2 := conv_at (P := Try.prog) (w := w6) 25 9 5 Try.underlying25 Try.underlying5 Try.underlying9 a1 rfl (fun e => (a2 e).1) (cap := cap2)
            clear a1 a2 a3 a4 hg
            refine hK.out _ _ ?hsta14r15o4n7 (fun hS => ?_)
            case hsta14r15o4n7 => (exact hS1)
            clear hK K
            try simp only [Act.put, List.setIfInBounds_toArray, List.set_cons_zero, List.set_cons_succ]
            refine wpAnyH_ready (rs := [5]) (by kernel_rfl) (by simp) ?_
            refine AllReadyH.cons (o := { dst := some 129, op := Op.convert 25 9 (Operand.tmp 128), type := 9, pos := "law.go:54", after := #[{ on := 4, ground := Ground.data }, { on := 2, ground := Ground.guard }], guard := some (2, true) }) rfl (fun K hK => ?_) AllReadyH.nil
            go_simp
            skip
            refine hK.out _ _ ?hsta14r15o5n8 (fun hS => ?_)
            case hsta14r15o5n8 => (exact hS)
            clear hK K
            try simp only [Act.put, List.setIfInBounds_toArray, List.set_cons_zero, List.set_cons_succ]
            refine wpAnyH_take (i := 8) (oi := { dst := some 132, op := Op.binOp BinOp.eql 9 (Operand.tmp 129) (Operand.tmp 131) 9, type := 4, pos := "law.go:54", after := #[{ on := 5, ground := Ground.data }, { on := 7, ground := Ground.data }, { on := 2, ground := Ground.guard }], guard := some (2, true) }) (v := ?vta14r15o8n9) rfl (by kernel_rfl) (by kernel_rfl) (by kernel_rfl) (fun _ _ _ h => h) (Or.inl ⟨by rfl, ?hta14r15o8n9⟩) hS ?_
            case hta14r15o8n9 => (intro wx hx; skip; go_simp; (try with_reducible rfl))
            try simp only [Act.put, List.setIfInBounds_toArray, List.set_cons_zero, List.set_cons_succ]
            refine wpAnyH_take (i := 9) (oi := { dst := some 133, op := Op.pick (Operand.tmp 126) (Operand.tmp 132) (Operand.const (Value.bool false)), type := 4, pos := "law.go:54", after := #[{ on := 2, ground := Ground.data }, { on := 8, ground := Ground.data }], guard := none }) (v := ?vta14r15o9n10) rfl (by kernel_rfl) (by kernel_rfl) (by kernel_rfl) (fun _ _ _ h => h) (Or.inl ⟨by rfl, ?hta14r15o9n10⟩) hS ?_
            case hta14r15o9n10 => (intro wx hx; skip; go_simp; (try with_reducible rfl))
            try simp only [Act.put, List.setIfInBounds_toArray, List.set_cons_zero, List.set_cons_succ]
            refine wpAnyH_take (i := 10) (oi := { dst := some 134, op := Op.move (Operand.tmp 133), type := 4, pos := "law.go:54", after := #[{ on := 9, ground := Ground.data }, { on := 4, ground := Ground.chain }], guard := none }) (v := ?vta14r15o10n11) rfl (by kernel_rfl) (by kernel_rfl) (by kernel_rfl) (fun _ _ _ h => h) (Or.inl ⟨by rfl, ?hta14r15o10n11⟩) hS ?_
            case hta14r15o10n11 => (intro wx hx; skip; go_simp; (try with_reducible rfl))
            try simp only [Act.put, List.setIfInBounds_toArray, List.set_cons_zero, List.set_cons_succ]
            refine wpAnyH_ready (rs := [11]) (by kernel_rfl) (by simp) ?_
            refine AllReadyH.cons (o := { dst := some 135, op := Op.call { callee := Callee.value (Operand.func 10), args := #[], argTypes := #[] }, type := 4, pos := "law.go:54", after := #[{ on := 10, ground := Ground.chain }, { on := 10, ground := Ground.guard }], guard := some (10, true) }) rfl (fun K hK => ?_) AllReadyH.nil
            go_simp
            refine (works_ev _).mono ?_
            rintro e w7 ⟨rfl, hg⟩
            have hS1 := grown_trans hS hg
            clear hg
            refine hK.out _ _ ?hsta14r15o11n12 (fun hS => ?_)
            case hsta14r15o11n12 => (exact hS1)
            clear hK K
            try simp only [Act.put, List.setIfInBounds_toArray, List.set_cons_zero, List.set_cons_succ]
            refine wpAnyH_take (i := 12) (oi := { dst := some 136, op := Op.pick (Operand.tmp 134) (Operand.tmp 135) (Operand.const (Value.bool false)), type := 4, pos := "law.go:54", after := #[{ on := 10, ground := Ground.data }, { on := 11, ground := Ground.data }], guard := none }) (v := ?vta14r15o12n13) rfl (by kernel_rfl) (by kernel_rfl) (by kernel_rfl) (fun _ _ _ h => h) (Or.inl ⟨by rfl, ?hta14r15o12n13⟩) hS ?_
            case hta14r15o12n13 => (intro wx hx; skip; go_simp; (try with_reducible rfl))
            try simp only [Act.put, List.setIfInBounds_toArray, List.set_cons_zero, List.set_cons_succ]
            refine wpAnyH_take (i := 13) (oi := { dst := some 8, op := Op.assign (Operand.tmp 136), type := 4, pos := "law.go:54", after := #[{ on := 12, ground := Ground.data }, { on := 11, ground := Ground.chain }, { on := 0, ground := Ground.phase }, { on := 1, ground := Ground.phase }, { on := 2, ground := Ground.phase }, { on := 3, ground := Ground.phase }, { on := 4, ground := Ground.phase }, { on := 5, ground := Ground.phase }, { on := 6, ground := Ground.phase }, { on := 7, ground := Ground.phase }, { on := 8, ground := Ground.phase }, { on := 9, ground := Ground.phase }, { on := 10, ground := Ground.phase }, { on := 11, ground := Ground.phase }, { on := 12, ground := Ground.phase }], guard := none }) (v := ?vta14r15o13n14) rfl (by kernel_rfl) (by kernel_rfl) (by kernel_rfl) (fun _ _ _ h => h) (Or.inl ⟨by rfl, ?hta14r15o13n14⟩) hS ?_
            case hta14r15o13n14 => (intro wx hx; skip; go_simp; (try with_reducible rfl))
            try simp only [Act.put, List.setIfInBounds_toArray, List.set_cons_zero, List.set_cons_succ]
            refine wpAnyH_done (by kernel_rfl) ?_ _
            go_wp2
            go_ret
            exact ⟨rfl, grown_trans hO.out.grown hS⟩
        | true =>
          obtain ⟨hX1, hX2, hX3, hX4, hX5⟩ := HXY.out.2 hmb
          rw [HL.out] at hX3 hX5
          have HGt := Lib.hid (Get_any ad L cap X w4 HL.out hat.out hnil.out (by have := HXl.out; omega))
          rw [hX1, hX2] at HGt
          rw [hmb] at HM
          have Hmb := Lib.hid hmb
          unfold Rq.cs at HGt
          have Lp : (0 : Int) < (L : Int) := by omega
          have HB4 := Lib.hid hX4
          have HB5 := Lib.hid hX5
          have hnr : ∀ wx, (binOp BinOp.neq 24 (.agg #[.int .u8 (r.k : Int), .int .u8 (r.fl : Int), .int .u64 (r.fd : Int), .int .u64 (r.at_ : Int), .int .u64 (r.sz : Int), .string r.p, .string r.t, .string r.d]) (.agg #[.int .u8 (r.k : Int), .int .u8 (r.fl : Int), .int .u64 (r.fd : Int), .int .u64 (r.at_ : Int), .int .u64 (r.sz : Int), .string r.p, .string r.t, .string r.d])).run Try.prog wx = .ok (.bool false) wx := fun wx => by
            have := agg_ne r r wx
            rw [(eqRq_iff r r).2 rfl] at this
            exact this
          clear hmb HXY hX1 hX2 hX4 hX5
          go_wp2_with fail
          refine HGt.out.mono ?_
          rintro e w5 ⟨rfl, hg⟩
          replace hO := Lib.hid (hO.out.quiet hg)
          replace hat := Lib.hid (hat.out.grown hg (fun _ _ _ => by simp))
          clear hg HGt
          have hgb := World.grownBy_alloc w5 (.cells #[.int .u8 (r.k : Int), .int .u8 (r.fl : Int), .int .u64 (r.fd : Int), .int .u64 (r.at_ : Int), .int .u64 (r.sz : Int), .string r.p, .string r.t, .string r.d] 24) none
          replace hat := Lib.hid (hat.out.grown hgb (fun _ _ _ => by simp))
          clear hgb
          have hOn := hO.out.addBox 24 #[.int .u8 (r.k : Int), .int .u8 (r.fl : Int), .int .u64 (r.fd : Int), .int .u64 (r.at_ : Int), .int .u64 (r.sz : Int), .string r.p, .string r.t, .string r.d]
          obtain ⟨BX, hBX⟩ : ∃ X, w5.heap.size = X := ⟨_, rfl⟩
          rw [hBX] at hOn
          go_upto_region 5 with fail
          generalize World.alloc _ _ = wB at hOn hat ⊢
          replace hO := Lib.hid hOn
          clear hOn hBX
          have d0 := (own_cellB hO.out 0 rfl 0 (u := .int .u8 (r.k : Int)) rfl).1
          have d1 := (own_cellB hO.out 0 rfl 1 (u := .int .u8 (r.fl : Int)) rfl).1
          have d2 := (own_cellB hO.out 0 rfl 2 (u := .int .u64 (r.fd : Int)) rfl).1
          have d3 := (own_cellB hO.out 0 rfl 3 (u := .int .u64 (r.at_ : Int)) rfl).1
          have d4 := (own_cellB hO.out 0 rfl 4 (u := .int .u64 (r.sz : Int)) rfl).1
          have d5 := (own_cellB hO.out 0 rfl 5 (u := .string r.p) rfl).1
          have d6 := (own_cellB hO.out 0 rfl 6 (u := .string r.t) rfl).1
          have d7 := (own_cellB hO.out 0 rfl 7 (u := .string r.d) rfl).1
          go_wp2_with fail
          refine (HM.out _).mono ?_
          rintro e w5 ⟨rfl, hg⟩
          replace hO := Lib.hid (hO.out.quiet hg)
          replace hat := Lib.hid (hat.out.grown hg (fun _ _ _ => by simp))
          clear d0 d1 d2 d3 d4 d5 d6 d7
          clear hg HM
          have d0 := (own_cellB hO.out 0 rfl 0 (u := .int .u8 (r.k : Int)) rfl).1
          have d1 := (own_cellB hO.out 0 rfl 1 (u := .int .u8 (r.fl : Int)) rfl).1
          have d2 := (own_cellB hO.out 0 rfl 2 (u := .int .u64 (r.fd : Int)) rfl).1
          have d3 := (own_cellB hO.out 0 rfl 3 (u := .int .u64 (r.at_ : Int)) rfl).1
          have d4 := (own_cellB hO.out 0 rfl 4 (u := .int .u64 (r.sz : Int)) rfl).1
          have d5 := (own_cellB hO.out 0 rfl 5 (u := .string r.p) rfl).1
          have d6 := (own_cellB hO.out 0 rfl 6 (u := .string r.t) rfl).1
          have d7 := (own_cellB hO.out 0 rfl 7 (u := .string r.d) rfl).1
          have x0 := (own_cellB hO.out 2 rfl 0 (u := .int .u8 (r.k : Int)) rfl).1
          have x1 := (own_cellB hO.out 2 rfl 1 (u := .int .u8 (r.fl : Int)) rfl).1
          have x2 := (own_cellB hO.out 2 rfl 2 (u := .int .u64 (r.fd : Int)) rfl).1
          have x3 := (own_cellB hO.out 2 rfl 3 (u := .int .u64 (r.at_ : Int)) rfl).1
          have x4 := (own_cellB hO.out 2 rfl 4 (u := .int .u64 (r.sz : Int)) rfl).1
          have x5 := (own_cellB hO.out 2 rfl 5 (u := .string r.p) rfl).1
          have x6 := (own_cellB hO.out 2 rfl 6 (u := .string r.t) rfl).1
          have x7 := (own_cellB hO.out 2 rfl 7 (u := .string r.d) rfl).1
          go_upto_region 7 with fail
          clear d0 d1 d2 d3 d4 d5 d6 d7
          clear x0 x1 x2 x3 x4 x5 x6 x7
          have hXc : 0 < X.length := by rw [HL.out]; omega
          obtain ⟨g, og, had, hcc⟩ := hat.out 0 (bv (X[0]'hXc)) (by rw [List.getElem?_map, List.getElem?_eq_getElem hXc]; rfl)
          clear hcc
          subst had
          obtain ⟨j, Hj⟩ : ∃ j, Hid (j = C % L) := ⟨_, Lib.hid rfl⟩
          have hj : j < L := by rw [Hj.out]; exact Nat.mod_lt _ (by omega)
          have ej : (C : Int) % (L : Int) = (j : Int) := by rw [Hj.out]; omega
          have ej2 : Int.tmod (C : Int) (L : Int) = (j : Int) := by rw [Int.tmod_eq_emod_of_nonneg (by omega)]; exact ej
          have wC : IntKind.i64.wrap (C : Int) = (C : Int) := IntWalk.i64_in _ ⟨by omega, by have := HC.out; omega⟩
          have wj : IntKind.i64.wrap (j : Int) = (j : Int) := IntWalk.i64_in _ ⟨by omega, by have := HXl.out; omega⟩
          have nz : ¬ (L : Int) = 0 := by omega
          have nz2 : ¬ L = 0 := by omega
          have hcap2 := hcap.out
          have jc : j ≤ cap := by omega
          have jc2 : (j : Int) ≤ (cap : Int) := by omega
          have HXl2 := HXl.out
          have HGc := Lib.hid (Get_any (some ⟨g, og, none⟩) j cap (X.take j) w5 (by rw [List.length_take, HL.out]; omega) (fun i u hu => hat.out i u (by
            rw [List.map_take, List.getElem?_take] at hu
            split at hu
            · exact hu
            · cases hu)) (fun e => by cases e) (by omega))
          rw [(get_no (HB5.out j hj)).1, (get_no (HB5.out j hj)).2] at HGc
          unfold Rq.cs zeroRq at HGc
          clear hXc hX3
          go_wp2_with fail
          refine HGc.out.mono ?_
          rintro e w6 ⟨rfl, hg⟩
          replace hO := Lib.hid (hO.out.quiet hg)
          replace hat := Lib.hid (hat.out.grown hg (fun _ _ _ => by simp))
          clear hg HGc ej ej2 wC wj nz nz2 jc jc2 hj
          have hgb := World.grownBy_alloc w6 (.cells #[.int .u8 0, .int .u8 0, .int .u64 0, .int .u64 0, .int .u64 0, .string ⟨#[]⟩, .string ⟨#[]⟩, .string ⟨#[]⟩] 24) none
          replace hat := Lib.hid (hat.out.grown hgb (fun _ _ _ => by simp))
          clear hgb
          have hOn := hO.out.addBox 24 #[.int .u8 0, .int .u8 0, .int .u64 0, .int .u64 0, .int .u64 0, .string ⟨#[]⟩, .string ⟨#[]⟩, .string ⟨#[]⟩]
          obtain ⟨BX2, hBX⟩ : ∃ X, w6.heap.size = X := ⟨_, rfl⟩
          rw [hBX] at hOn
          go_upto_region 9 with fail
          generalize World.alloc _ _ = wB at hOn hat ⊢
          replace hO := Lib.hid hOn
          clear hOn hBX
          obtain ⟨E, hE⟩ : ∃ E, wB.heap.size = E := ⟨_, rfl⟩
          have hrow0 : Hid ((wB.alloc (.cells #[] 5)).ownsRow 0 5 1 (.slice (some ⟨E, 0, none⟩) 0 0) 0 []) := Lib.hid (by
            rw [← hE]; exact ⟨rfl, .inr ⟨wB.heap.size, 0, #[], rfl, Nat.zero_le _, heap_alloc_new wB _, Nat.le_refl _, Nat.zero_le _, rfl, rfl⟩⟩)
          have hnews := Lib.hid ((hat.out.grown (World.grownBy_alloc wB (.cells #[] 5) none) (fun _ _ _ => by simp)).some)
          obtain ⟨ii0, hi0, hz0, hz1, hz2⟩ := info_parts Try.info5
          go_wp2_with (at_builtin; refine wpList_append_blk _ rfl _ _ 25 rfl 0 5 ii0 (.int .u8 0) 1 1 Try.underlying25 hi0 hz0 hz1 hz2 rfl (by decide) (.slice (some ⟨E, 0, none⟩) 0 0) 0 [] rfl hrow0.out ⟨g, og, none⟩ L cap (X.map bv) rfl (by rw [List.length_map, HL.out]; omega) hnews.out ?a1 ?a2 ?a3 (Nat.zero_le _) ?_)
          case a1 =>
            intro u hu
            obtain ⟨c, _, rfl⟩ := List.mem_map.1 hu
            rfl
          case a2 => unfold maxLen; have := HXl.out; omega
          case a3 => have := HXl.out; omega
          intro ad5 cap5 w7 hrow5 hg5 hnew5
          have hgw : wB.grownBy w7 none := grown_new (World.grownBy_alloc wB (.cells #[] 5) none) hg5 (fun j e => by cases e; rw [← hE]; exact Nat.le_refl _)
          have hrow5 : Hid (w7.ownsRow 0 5 1 (.slice ad5 L cap5) L (X.map bv)) := Lib.hid (by first | exact hrow5 | (rw [Nat.zero_add, List.nil_append] at hrow5; exact hrow5))
          have hnew5 : Hid (∀ g, (Value.slice ad5 L cap5).ownBlock = some g → wB.heap.size ≤ g) := Lib.hid (fun g hg => by
            rcases hnew5 g (by first | exact hg | (rw [Nat.zero_add]; exact hg)) with h | h
            · cases h; rw [hE]; exact Nat.le_refl _
            · first | omega | (rw [World.size_alloc] at h; omega))
          have e0 : 0 + L = L := Nat.zero_add L
          try rw [e0]
          clear hrow0 hnews hg5 hE e0
          go_wp2_with (at_builtin; refine wpList_append_blk _ rfl _ _ 25 rfl 0 5 ii0 (.int .u8 0) 1 1 Try.underlying25 hi0 hz0 hz1 hz2 rfl (by decide) (.slice ad5 L cap5) L (X.map bv) rfl (World.ownsRow.alloc hrow5.out _) ⟨w7.heap.size, 0, none⟩ 1 1 [.int .u8 0] rfl rfl (at_of_row (heap_alloc_new w7 _)).some ?b1 ?b2 ?b3 (Nat.zero_le _) ?_)
          case b1 => simp [Value.oneCell']
          case b2 => unfold maxLen; have := HXl.out; omega
          case b3 => have := HXl.out; omega
          intro ad7 cap7 w8 hrow7 hg7 hnew7
          have hgx : wB.grownBy w8 none := grown_new (grown_trans hgw (World.grownBy_alloc w7 (.cells #[.int .u8 0] 5) none)) hg7 (fun j e => hnew5.out j e)
          replace hO := Lib.hid (hO.out.quiet hgx)
          replace hat := Lib.hid (hat.out.grown hgx (fun _ _ _ => by simp))
          obtain ⟨ad9, cap9, he, a1, a2, _⟩ := at_of_owns hrow7
          cases he
          have HGx := Lib.hid (Get_any ad7 (L + 1) cap7 (X ++ [0]) w8 (by rw [List.length_append, HL.out]; rfl) (by rw [List.map_append]; exact a1) (fun e => a2 e) (by have := HXl.out; omega))
          have hx0 := getB_apart HB4.out (q := [0]) (by simp)
          rw [(get_no hx0).1, (get_no hx0).2] at HGx
          unfold Rq.cs zeroRq at HGx
          clear hrow5 hnew5 hgw hrow7 hg7 hnew7 hgx a1 a2 hx0 hi0 hz0 hz1 hz2
          go_wp2_with fail
          refine HGx.out.mono ?_
          rintro e w9 ⟨rfl, hg⟩
          replace hO := Lib.hid (hO.out.quiet hg)
          replace hat := Lib.hid (hat.out.grown hg (fun _ _ _ => by simp))
          clear hg HGx
          have hgb := World.grownBy_alloc w9 (.cells #[.int .u8 0, .int .u8 0, .int .u64 0, .int .u64 0, .int .u64 0, .string ⟨#[]⟩, .string ⟨#[]⟩, .string ⟨#[]⟩] 24) none
          replace hat := Lib.hid (hat.out.grown hgb (fun _ _ _ => by simp))
          clear hgb
          have hOn := hO.out.addBox 24 #[.int .u8 0, .int .u8 0, .int .u64 0, .int .u64 0, .int .u64 0, .string ⟨#[]⟩, .string ⟨#[]⟩, .string ⟨#[]⟩]
          obtain ⟨BX3, hBX⟩ : ∃ X, w9.heap.size = X := ⟨_, rfl⟩
          rw [hBX] at hOn
          go_upto_region 10 with fail
          generalize World.alloc _ _ = wC at hOn hat ⊢
          replace hO := Lib.hid hOn
          have hatB := hat
          clear hOn hBX hat
          have c0 := (own_cellB hO.out 1 rfl 0 (u := .int .u8 (o.k : Int)) rfl).1
          have c1 := (own_cellB hO.out 1 rfl 1 (u := .int .u8 (o.fl : Int)) rfl).1
          have c2 := (own_cellB hO.out 1 rfl 2 (u := .int .u64 (o.fd : Int)) rfl).1
          have c3 := (own_cellB hO.out 1 rfl 3 (u := .int .u64 (o.at_ : Int)) rfl).1
          have c4 := (own_cellB hO.out 1 rfl 4 (u := .int .u64 (o.sz : Int)) rfl).1
          have c5 := (own_cellB hO.out 1 rfl 5 (u := .string o.p) rfl).1
          have c6 := (own_cellB hO.out 1 rfl 6 (u := .string o.t) rfl).1
          have c7 := (own_cellB hO.out 1 rfl 7 (u := .string o.d) rfl).1
          have d0 := (own_cellB hO.out 0 rfl 0 (u := .int .u8 (r.k : Int)) rfl).1
          have d1 := (own_cellB hO.out 0 rfl 1 (u := .int .u8 (r.fl : Int)) rfl).1
          have d2 := (own_cellB hO.out 0 rfl 2 (u := .int .u64 (r.fd : Int)) rfl).1
          have d3 := (own_cellB hO.out 0 rfl 3 (u := .int .u64 (r.at_ : Int)) rfl).1
          have d4 := (own_cellB hO.out 0 rfl 4 (u := .int .u64 (r.sz : Int)) rfl).1
          have d5 := (own_cellB hO.out 0 rfl 5 (u := .string r.p) rfl).1
          have d6 := (own_cellB hO.out 0 rfl 6 (u := .string r.t) rfl).1
          have d7 := (own_cellB hO.out 0 rfl 7 (u := .string r.d) rfl).1
          have HMo9 := fun wx => (show Calls Try.prog 13 #[.agg #[.int .u8 (o.k : Int), .int .u8 (o.fl : Int), .int .u64 (o.fd : Int), .int .u64 (o.at_ : Int), .int .u64 (o.sz : Int), .string o.p, .string o.t, .string o.d]] wx fun e w' => e = .returned (.bool (mayQ o)) ∧ wx.grownBy w' none from May_any o Ho.out wx)
          have HPo := Lib.hid (fun wx => (show Calls Try.prog 15 #[.agg #[.int .u8 (o.k : Int), .int .u8 (o.fl : Int), .int .u64 (o.fd : Int), .int .u64 (o.at_ : Int), .int .u64 (o.sz : Int), .string o.p, .string o.t, .string o.d]] wx (MadeIs wx (putQ o)) from Put_any o Ho.out Hfo.out wx))
          cases hmo : mayQ o with
          | false =>
            rw [hmo] at HMo9
            have HMo := Lib.hid HMo9
            clear HMo9 HPo hmo HXo
            refine wp_region_held_drew (S := fun wx => World.grownBy wC wx none) (by kernel_rfl) (grown_drew (World.grownBy.refl _ none)) (fun hS => ?_)
            generalize World.drew _ = wD at hS ⊢
            refine wpAnyH_take (i := 0) (oi := { dst := some 85, op := Op.move (Operand.tmp 13), type := 28, pos := "law.go:46", after := #[], guard := none }) (v := ?vtb14r10o0n1) rfl (by kernel_rfl) (by kernel_rfl) (by kernel_rfl) (fun _ _ _ h => h) (Or.inl ⟨by rfl, ?htb14r10o0n1⟩) hS ?_
            case htb14r10o0n1 => (intro wx hx; skip; go_simp; (try with_reducible rfl))
            try simp only [Act.put, List.setIfInBounds_toArray, List.set_cons_zero, List.set_cons_succ]
            refine wpAnyH_take (i := 1) (oi := { dst := some 86, op := Op.binOp BinOp.neq 28 (Operand.tmp 85) (Operand.const (Value.int IntKind.i64 4)) 28, type := 4, pos := "law.go:46", after := #[{ on := 0, ground := Ground.data }], guard := none }) (v := ?vtb14r10o1n2) rfl (by kernel_rfl) (by kernel_rfl) (by kernel_rfl) (fun _ _ _ h => h) (Or.inl ⟨by rfl, ?htb14r10o1n2⟩) hS ?_
            case htb14r10o1n2 => (intro wx hx; skip; go_simp; (try with_reducible rfl))
            try simp only [Act.put, List.setIfInBounds_toArray, List.set_cons_zero, List.set_cons_succ]
            refine wpAnyH_take (i := 2) (oi := { dst := some 87, op := Op.move (Operand.tmp 86), type := 4, pos := "law.go:46", after := #[{ on := 1, ground := Ground.data }], guard := none }) (v := ?vtb14r10o2n3) rfl (by kernel_rfl) (by kernel_rfl) (by kernel_rfl) (fun _ _ _ h => h) (Or.inl ⟨by rfl, ?htb14r10o2n3⟩) hS ?_
            case htb14r10o2n3 => (intro wx hx; skip; go_simp; (try with_reducible rfl))
            try simp only [Act.put, List.setIfInBounds_toArray, List.set_cons_zero, List.set_cons_succ]
            refine wpAnyH_take (i := 3) (oi := { dst := some 88, op := Op.move (Operand.tmp 15), type := 28, pos := "law.go:46", after := #[{ on := 2, ground := Ground.guard }], guard := some (2, false) }) (v := ?vtb14r10o3n4) rfl (by kernel_rfl) (by kernel_rfl) (by kernel_rfl) (fun _ _ _ h => h) (Or.inl ⟨by rfl, ?htb14r10o3n4⟩) hS ?_
            case htb14r10o3n4 => (intro wx hx; skip; go_simp; (try with_reducible rfl))
            try simp only [Act.put, List.setIfInBounds_toArray, List.set_cons_zero, List.set_cons_succ]
            refine wpAnyH_take (i := 4) (oi := { dst := some 89, op := Op.binOp BinOp.neq 28 (Operand.tmp 88) (Operand.const (Value.int IntKind.i64 4)) 28, type := 4, pos := "law.go:46", after := #[{ on := 3, ground := Ground.data }, { on := 2, ground := Ground.guard }], guard := some (2, false) }) (v := ?vtb14r10o4n5) rfl (by kernel_rfl) (by kernel_rfl) (by kernel_rfl) (fun _ _ _ h => h) (Or.inl ⟨by rfl, ?htb14r10o4n5⟩) hS ?_
            case htb14r10o4n5 => (intro wx hx; skip; go_simp; (try with_reducible rfl))
            try simp only [Act.put, List.setIfInBounds_toArray, List.set_cons_zero, List.set_cons_succ]
            refine wpAnyH_take (i := 5) (oi := { dst := some 90, op := Op.pick (Operand.tmp 87) (Operand.const (Value.bool true)) (Operand.tmp 89), type := 4, pos := "law.go:46", after := #[{ on := 2, ground := Ground.data }, { on := 4, ground := Ground.data }], guard := none }) (v := ?vtb14r10o5n6) rfl (by kernel_rfl) (by kernel_rfl) (by kernel_rfl) (fun _ _ _ h => h) (Or.inl ⟨by rfl, ?htb14r10o5n6⟩) hS ?_
            case htb14r10o5n6 => (intro wx hx; skip; go_simp; (try with_reducible rfl))
            try simp only [Act.put, List.setIfInBounds_toArray, List.set_cons_zero, List.set_cons_succ]
            refine wpAnyH_take (i := 6) (oi := { dst := some 91, op := Op.move (Operand.tmp 90), type := 4, pos := "law.go:46", after := #[{ on := 5, ground := Ground.data }, { on := 2, ground := Ground.chain }], guard := none }) (v := ?vtb14r10o6n7) rfl (by kernel_rfl) (by kernel_rfl) (by kernel_rfl) (fun _ _ _ h => h) (Or.inl ⟨by rfl, ?htb14r10o6n7⟩) hS ?_
            case htb14r10o6n7 => (intro wx hx; skip; go_simp; (try with_reducible rfl))
            try simp only [Act.put, List.setIfInBounds_toArray, List.set_cons_zero, List.set_cons_succ]
            refine wpAnyH_take (i := 7) (oi := { dst := some 92, op := Op.load 24 (Operand.tmp 5), type := 24, pos := "law.go:46", after := #[{ on := 6, ground := Ground.guard }], guard := some (6, false) }) (v := ?vtb14r10o7n8) rfl (by kernel_rfl) (by kernel_rfl) (by kernel_rfl) (fun _ _ _ h => h) (Or.inl ⟨by rfl, ?htb14r10o7n8⟩) hS ?_
            case htb14r10o7n8 => (intro wx hx; have y0 := hx.cell c0 (by simp); have y1 := hx.cell c1 (by simp); have y2 := hx.cell c2 (by simp); have y3 := hx.cell c3 (by simp); have y4 := hx.cell c4 (by simp); have y5 := hx.cell c5 (by simp); have y6 := hx.cell c6 (by simp); have y7 := hx.cell c7 (by simp); have x0 := hx.cell d0 (by simp); have x1 := hx.cell d1 (by simp); have x2 := hx.cell d2 (by simp); have x3 := hx.cell d3 (by simp); have x4 := hx.cell d4 (by simp); have x5 := hx.cell d5 (by simp); have x6 := hx.cell d6 (by simp); have x7 := hx.cell d7 (by simp); have hcv1 := conv_at (P := Try.prog) (w := wx) 25 9 5 Try.underlying25 Try.underlying5 Try.underlying9 (hatB.out.grown hx (fun _ _ _ => by simp)) HL.out (fun e => (hnil.out e).1) (cap := cap); go_simp; (try with_reducible rfl))
            try simp only [Act.put, List.setIfInBounds_toArray, List.set_cons_zero, List.set_cons_succ]
            refine wpAnyH_ready (rs := [8]) (by kernel_rfl) (by simp) ?_
            refine AllReadyH.cons (o := { dst := some 93, op := Op.call { callee := Callee.value (Operand.func 13), args := #[Operand.tmp 92], argTypes := #[24] }, type := 4, pos := "law.go:46", after := #[{ on := 7, ground := Ground.data }, { on := 6, ground := Ground.chain }, { on := 6, ground := Ground.guard }], guard := some (6, false) }) rfl (fun K hK => ?_) AllReadyH.nil
            go_simp
            refine (HMo.out _).mono ?_
            rintro e w5 ⟨rfl, hg⟩
            have hS1 := grown_trans hS hg
            clear hg
            refine hK.out _ _ ?hstb14r10o8n9 (fun hS => ?_)
            case hstb14r10o8n9 => (exact hS1)
            clear hK K
            try simp only [Act.put, List.setIfInBounds_toArray, List.set_cons_zero, List.set_cons_succ]
            refine wpAnyH_take (i := 9) (oi := { dst := some 94, op := Op.move (Operand.tmp 93), type := 4, pos := "law.go:46", after := #[{ on := 8, ground := Ground.data }, { on := 8, ground := Ground.chain }, { on := 6, ground := Ground.guard }], guard := some (6, false) }) (v := ?vtb14r10o9n10) rfl (by kernel_rfl) (by kernel_rfl) (by kernel_rfl) (fun _ _ _ h => h) (Or.inl ⟨by rfl, ?htb14r10o9n10⟩) hS ?_
            case htb14r10o9n10 => (intro wx hx; skip; go_simp; (try with_reducible rfl))
            try simp only [Act.put, List.setIfInBounds_toArray, List.set_cons_zero, List.set_cons_succ]
            refine wpAnyH_take (i := 10) (oi := { dst := some 95, op := Op.load 24 (Operand.tmp 5), type := 24, pos := "law.go:46", after := #[{ on := 9, ground := Ground.guard }], guard := some (9, true) }) (v := undef) rfl (by kernel_rfl) (by kernel_rfl) (by kernel_rfl) (fun _ _ _ h => h) (Or.inr ⟨by rfl, rfl⟩) hS ?_
            try simp only [Act.put, List.setIfInBounds_toArray, List.set_cons_zero, List.set_cons_succ]
            refine wpAnyH_take (i := 11) (oi := { dst := some 96, op := Op.call { callee := Callee.value (Operand.func 15), args := #[Operand.tmp 95], argTypes := #[24] }, type := 25, pos := "law.go:46", after := #[{ on := 10, ground := Ground.data }, { on := 9, ground := Ground.chain }, { on := 9, ground := Ground.guard }], guard := some (9, true) }) (v := undef) rfl (by kernel_rfl) (by kernel_rfl) (by kernel_rfl) (fun _ _ _ h => h) (Or.inr ⟨by rfl, rfl⟩) hS ?_
            try simp only [Act.put, List.setIfInBounds_toArray, List.set_cons_zero, List.set_cons_succ]
            refine wpAnyH_take (i := 12) (oi := { dst := some 97, op := Op.convert 25 9 (Operand.tmp 96), type := 9, pos := "law.go:46", after := #[{ on := 11, ground := Ground.data }, { on := 9, ground := Ground.guard }], guard := some (9, true) }) (v := undef) rfl (by kernel_rfl) (by kernel_rfl) (by kernel_rfl) (fun _ _ _ h => h) (Or.inr ⟨by rfl, rfl⟩) hS ?_
            try simp only [Act.put, List.setIfInBounds_toArray, List.set_cons_zero, List.set_cons_succ]
            refine wpAnyH_take (i := 13) (oi := { dst := some 98, op := Op.move (Operand.tmp 9), type := 25, pos := "law.go:46", after := #[{ on := 9, ground := Ground.guard }], guard := some (9, true) }) (v := undef) rfl (by kernel_rfl) (by kernel_rfl) (by kernel_rfl) (fun _ _ _ h => h) (Or.inr ⟨by rfl, rfl⟩) hS ?_
            try simp only [Act.put, List.setIfInBounds_toArray, List.set_cons_zero, List.set_cons_succ]
            refine wpAnyH_take (i := 14) (oi := { dst := some 99, op := Op.convert 25 9 (Operand.tmp 98), type := 9, pos := "law.go:46", after := #[{ on := 13, ground := Ground.data }, { on := 9, ground := Ground.guard }], guard := some (9, true) }) (v := undef) rfl (by kernel_rfl) (by kernel_rfl) (by kernel_rfl) (fun _ _ _ h => h) (Or.inr ⟨by rfl, rfl⟩) hS ?_
            try simp only [Act.put, List.setIfInBounds_toArray, List.set_cons_zero, List.set_cons_succ]
            refine wpAnyH_take (i := 15) (oi := { dst := some 100, op := Op.binOp BinOp.eql 9 (Operand.tmp 97) (Operand.tmp 99) 9, type := 4, pos := "law.go:46", after := #[{ on := 12, ground := Ground.data }, { on := 14, ground := Ground.data }, { on := 9, ground := Ground.guard }], guard := some (9, true) }) (v := undef) rfl (by kernel_rfl) (by kernel_rfl) (by kernel_rfl) (fun _ _ _ h => h) (Or.inr ⟨by rfl, rfl⟩) hS ?_
            try simp only [Act.put, List.setIfInBounds_toArray, List.set_cons_zero, List.set_cons_succ]
            refine wpAnyH_take (i := 16) (oi := { dst := some 101, op := Op.load 24 (Operand.tmp 5), type := 24, pos := "law.go:46", after := #[{ on := 9, ground := Ground.guard }], guard := some (9, true) }) (v := undef) rfl (by kernel_rfl) (by kernel_rfl) (by kernel_rfl) (fun _ _ _ h => h) (Or.inr ⟨by rfl, rfl⟩) hS ?_
            try simp only [Act.put, List.setIfInBounds_toArray, List.set_cons_zero, List.set_cons_succ]
            refine wpAnyH_take (i := 17) (oi := { dst := some 102, op := Op.load 24 (Operand.tmp 4), type := 24, pos := "law.go:46", after := #[{ on := 9, ground := Ground.guard }], guard := some (9, true) }) (v := undef) rfl (by kernel_rfl) (by kernel_rfl) (by kernel_rfl) (fun _ _ _ h => h) (Or.inr ⟨by rfl, rfl⟩) hS ?_
            try simp only [Act.put, List.setIfInBounds_toArray, List.set_cons_zero, List.set_cons_succ]
            refine wpAnyH_take (i := 18) (oi := { dst := some 103, op := Op.binOp BinOp.eql 24 (Operand.tmp 101) (Operand.tmp 102) 24, type := 4, pos := "law.go:46", after := #[{ on := 16, ground := Ground.data }, { on := 17, ground := Ground.data }, { on := 9, ground := Ground.guard }], guard := some (9, true) }) (v := undef) rfl (by kernel_rfl) (by kernel_rfl) (by kernel_rfl) (fun _ _ _ h => h) (Or.inr ⟨by rfl, rfl⟩) hS ?_
            try simp only [Act.put, List.setIfInBounds_toArray, List.set_cons_zero, List.set_cons_succ]
            refine wpAnyH_take (i := 19) (oi := { dst := some 104, op := Op.binOp BinOp.neq 4 (Operand.tmp 100) (Operand.tmp 103) 4, type := 4, pos := "law.go:46", after := #[{ on := 15, ground := Ground.data }, { on := 18, ground := Ground.data }, { on := 9, ground := Ground.guard }], guard := some (9, true) }) (v := undef) rfl (by kernel_rfl) (by kernel_rfl) (by kernel_rfl) (fun _ _ _ h => h) (Or.inr ⟨by rfl, rfl⟩) hS ?_
            try simp only [Act.put, List.setIfInBounds_toArray, List.set_cons_zero, List.set_cons_succ]
            refine wpAnyH_take (i := 20) (oi := { dst := some 105, op := Op.pick (Operand.tmp 94) (Operand.tmp 104) (Operand.const (Value.bool false)), type := 4, pos := "law.go:46", after := #[{ on := 9, ground := Ground.data }, { on := 19, ground := Ground.data }, { on := 6, ground := Ground.guard }], guard := some (6, false) }) (v := ?vtb14r10o20n21) rfl (by kernel_rfl) (by kernel_rfl) (by kernel_rfl) (fun _ _ _ h => h) (Or.inl ⟨by rfl, ?htb14r10o20n21⟩) hS ?_
            case htb14r10o20n21 => (intro wx hx; skip; go_simp; (try with_reducible rfl))
            try simp only [Act.put, List.setIfInBounds_toArray, List.set_cons_zero, List.set_cons_succ]
            refine wpAnyH_take (i := 21) (oi := { dst := some 106, op := Op.pick (Operand.tmp 91) (Operand.const (Value.bool true)) (Operand.tmp 105), type := 4, pos := "law.go:46", after := #[{ on := 6, ground := Ground.data }, { on := 20, ground := Ground.data }], guard := none }) (v := ?vtb14r10o21n22) rfl (by kernel_rfl) (by kernel_rfl) (by kernel_rfl) (fun _ _ _ h => h) (Or.inl ⟨by rfl, ?htb14r10o21n22⟩) hS ?_
            case htb14r10o21n22 => (intro wx hx; skip; go_simp; (try with_reducible rfl))
            try simp only [Act.put, List.setIfInBounds_toArray, List.set_cons_zero, List.set_cons_succ]
            refine wpAnyH_done (by kernel_rfl) ?_ _
            skip
            replace hO := Lib.hid (hO.out.quiet hS)
            clear hS HMo hatB
            clear d0 d1 d2 d3 d4 d5 d6 d7
            clear c0 c1 c2 c3 c4 c5 c6 c7
            have HGr := Lib.hid (Get_any rd rl rc bs _ Hrl.out (hraw.out.grown hO.out.grown (fun _ _ _ => by simp)) Hrn.out (by have := Hr2.out; omega))
            go_wp2_with fail
            refine HGr.out.mono ?_
            rintro e w4 ⟨rfl, hg⟩
            replace hO := Lib.hid (hO.out.quiet hg)
            clear hg HGr
            cases hgb : getB bs with
            | false =>
              obtain ⟨g1, g2⟩ := get_no hgb
              rw [g1, g2]
              clear g1 g2 hgb
              unfold Rq.cs zeroRq
              have hOn := hO.out.addBox 24 #[.int .u8 0, .int .u8 0, .int .u64 0, .int .u64 0, .int .u64 0, .string ⟨#[]⟩, .string ⟨#[]⟩, .string ⟨#[]⟩]
              obtain ⟨BX, hBX⟩ : ∃ X, w4.heap.size = X := ⟨_, rfl⟩
              rw [hBX] at hOn
              go_upto_region 13 with fail
              generalize World.alloc _ _ = wB at hOn ⊢
              replace hO := Lib.hid hOn
              clear hOn hBX
              have z0 := (own_cellB (own_lastB hO.out) 0 rfl 0 (u := .int .u8 0) rfl).1
              have z1 := (own_cellB (own_lastB hO.out) 0 rfl 1 (u := .int .u8 0) rfl).1
              have z2 := (own_cellB (own_lastB hO.out) 0 rfl 2 (u := .int .u64 0) rfl).1
              have z3 := (own_cellB (own_lastB hO.out) 0 rfl 3 (u := .int .u64 0) rfl).1
              have z4 := (own_cellB (own_lastB hO.out) 0 rfl 4 (u := .int .u64 0) rfl).1
              have z5 := (own_cellB (own_lastB hO.out) 0 rfl 5 (u := .string ⟨#[]⟩) rfl).1
              have z6 := (own_cellB (own_lastB hO.out) 0 rfl 6 (u := .string ⟨#[]⟩) rfl).1
              have z7 := (own_cellB (own_lastB hO.out) 0 rfl 7 (u := .string ⟨#[]⟩) rfl).1
              go_wp2_with fail
              refine (works_ev _).mono ?_
              rintro e w9 ⟨rfl, hg⟩
              go_wp2
              go_ret
              exact ⟨rfl, grown_trans hO.out.grown hg⟩
            | true =>
              obtain ⟨g1, g2⟩ := get_yes hgb
              rw [g1, g2]
              have hback := got_put hgb
              have hmay := (getB_parts hgb).2.2.2
              have hok := getE_ok bs
              generalize (getE bs).r = x at hback hmay hok ⊢
              clear g1 g2 hgb
              have HMx := Lib.hid (fun wx => (show Calls Try.prog 13 #[.agg #[.int .u8 (x.k : Int), .int .u8 (x.fl : Int), .int .u64 (x.fd : Int), .int .u64 (x.at_ : Int), .int .u64 (x.sz : Int), .string x.p, .string x.t, .string x.d]] wx fun e w' => e = .returned (.bool true) ∧ wx.grownBy w' none by have := May_any x hok wx; rw [hmay] at this; exact this))
              have HPx := Lib.hid (fun wx => (show Calls Try.prog 15 #[.agg #[.int .u8 (x.k : Int), .int .u8 (x.fl : Int), .int .u64 (x.fd : Int), .int .u64 (x.at_ : Int), .int .u64 (x.sz : Int), .string x.p, .string x.t, .string x.d]] wx (MadeIs wx bs) by have := Put_any x hok (may_few hmay) wx; rw [hback] at this; exact this))
              clear hback hmay hok
              unfold Rq.cs
              have hOn := hO.out.addBox 24 #[.int .u8 (x.k : Int), .int .u8 (x.fl : Int), .int .u64 (x.fd : Int), .int .u64 (x.at_ : Int), .int .u64 (x.sz : Int), .string x.p, .string x.t, .string x.d]
              obtain ⟨BX, hBX⟩ : ∃ X, w4.heap.size = X := ⟨_, rfl⟩
              rw [hBX] at hOn
              go_upto_region 13 with fail
              generalize World.alloc _ _ = wB at hOn ⊢
              replace hO := Lib.hid hOn
              have hrawB := Lib.hid (hraw.out.grown hO.out.grown (fun _ _ _ => by simp))
              clear hOn hBX
              have z0 := (own_cellB (own_lastB hO.out) 0 rfl 0 (u := .int .u8 (x.k : Int)) rfl).1
              have z1 := (own_cellB (own_lastB hO.out) 0 rfl 1 (u := .int .u8 (x.fl : Int)) rfl).1
              have z2 := (own_cellB (own_lastB hO.out) 0 rfl 2 (u := .int .u64 (x.fd : Int)) rfl).1
              have z3 := (own_cellB (own_lastB hO.out) 0 rfl 3 (u := .int .u64 (x.at_ : Int)) rfl).1
              have z4 := (own_cellB (own_lastB hO.out) 0 rfl 4 (u := .int .u64 (x.sz : Int)) rfl).1
              have z5 := (own_cellB (own_lastB hO.out) 0 rfl 5 (u := .string x.p) rfl).1
              have z6 := (own_cellB (own_lastB hO.out) 0 rfl 6 (u := .string x.t) rfl).1
              have z7 := (own_cellB (own_lastB hO.out) 0 rfl 7 (u := .string x.d) rfl).1
              go_upto_region 15 with fail
              refine wp_region_held_drew (S := fun wx => World.grownBy wB wx none) (by kernel_rfl) (grown_drew (World.grownBy.refl _ none)) (fun hS => ?_)
              generalize World.drew _ = wD at hS ⊢
              refine wpAnyH_take (i := 0) (oi := { dst := some 124, op := Op.load 24 (Operand.tmp 16), type := 24, pos := "law.go:54", after := #[], guard := none }) (v := ?vta24r15o0n1) rfl (by kernel_rfl) (by kernel_rfl) (by kernel_rfl) (fun _ _ _ h => h) (Or.inl ⟨by rfl, ?hta24r15o0n1⟩) hS ?_
              case hta24r15o0n1 => (intro wx hx; have y0 := hx.cell z0 (by simp); have y1 := hx.cell z1 (by simp); have y2 := hx.cell z2 (by simp); have y3 := hx.cell z3 (by simp); have y4 := hx.cell z4 (by simp); have y5 := hx.cell z5 (by simp); have y6 := hx.cell z6 (by simp); have y7 := hx.cell z7 (by simp); have hcv1 := conv_at (P := Try.prog) (w := wx) 25 9 5 Try.underlying25 Try.underlying5 Try.underlying9 (hrawB.out.grown hx (fun _ _ _ => by simp)) Hrl.out (fun e => (Hrn.out e).1) (cap := rc); go_simp; (try with_reducible rfl))
              try simp only [Act.put, List.setIfInBounds_toArray, List.set_cons_zero, List.set_cons_succ]
              refine wpAnyH_ready (rs := [1]) (by kernel_rfl) (by simp) ?_
              refine AllReadyH.cons (o := { dst := some 125, op := Op.call { callee := Callee.value (Operand.func 13), args := #[Operand.tmp 124], argTypes := #[24] }, type := 4, pos := "law.go:54", after := #[{ on := 0, ground := Ground.data }], guard := none }) rfl (fun K hK => ?_) AllReadyH.nil
              go_simp
              refine (HMx.out _).mono ?_
              rintro e w5 ⟨rfl, hg⟩
              have hS1 := grown_trans hS hg
              clear hg
              refine hK.out _ _ ?hsta24r15o1n2 (fun hS => ?_)
              case hsta24r15o1n2 => (exact hS1)
              clear hK K
              try simp only [Act.put, List.setIfInBounds_toArray, List.set_cons_zero, List.set_cons_succ]
              refine wpAnyH_take (i := 2) (oi := { dst := some 126, op := Op.move (Operand.tmp 125), type := 4, pos := "law.go:54", after := #[{ on := 1, ground := Ground.data }, { on := 1, ground := Ground.chain }], guard := none }) (v := ?vta24r15o2n3) rfl (by kernel_rfl) (by kernel_rfl) (by kernel_rfl) (fun _ _ _ h => h) (Or.inl ⟨by rfl, ?hta24r15o2n3⟩) hS ?_
              case hta24r15o2n3 => (intro wx hx; skip; go_simp; (try with_reducible rfl))
              try simp only [Act.put, List.setIfInBounds_toArray, List.set_cons_zero, List.set_cons_succ]
              refine wpAnyH_take (i := 3) (oi := { dst := some 127, op := Op.load 24 (Operand.tmp 16), type := 24, pos := "law.go:54", after := #[{ on := 2, ground := Ground.guard }], guard := some (2, true) }) (v := ?vta24r15o3n4) rfl (by kernel_rfl) (by kernel_rfl) (by kernel_rfl) (fun _ _ _ h => h) (Or.inl ⟨by rfl, ?hta24r15o3n4⟩) hS ?_
              case hta24r15o3n4 => (intro wx hx; have y0 := hx.cell z0 (by simp); have y1 := hx.cell z1 (by simp); have y2 := hx.cell z2 (by simp); have y3 := hx.cell z3 (by simp); have y4 := hx.cell z4 (by simp); have y5 := hx.cell z5 (by simp); have y6 := hx.cell z6 (by simp); have y7 := hx.cell z7 (by simp); have hcv1 := conv_at (P := Try.prog) (w := wx) 25 9 5 Try.underlying25 Try.underlying5 Try.underlying9 (hrawB.out.grown hx (fun _ _ _ => by simp)) Hrl.out (fun e => (Hrn.out e).1) (cap := rc); go_simp; (try with_reducible rfl))
              try simp only [Act.put, List.setIfInBounds_toArray, List.set_cons_zero, List.set_cons_succ]
              refine wpAnyH_take (i := 6) (oi := { dst := some 130, op := Op.move (Operand.tmp 2), type := 25, pos := "law.go:54", after := #[{ on := 2, ground := Ground.guard }], guard := some (2, true) }) (v := ?vta24r15o6n5) rfl (by kernel_rfl) (by kernel_rfl) (by kernel_rfl) (fun _ _ _ h => h) (Or.inl ⟨by rfl, ?hta24r15o6n5⟩) hS ?_
              case hta24r15o6n5 => (intro wx hx; skip; go_simp; (try with_reducible rfl))
              try simp only [Act.put, List.setIfInBounds_toArray, List.set_cons_zero, List.set_cons_succ]
              refine wpAnyH_take (i := 7) (oi := { dst := some 131, op := Op.convert 25 9 (Operand.tmp 130), type := 9, pos := "law.go:54", after := #[{ on := 6, ground := Ground.data }, { on := 2, ground := Ground.guard }], guard := some (2, true) }) (v := ?vta24r15o7n6) rfl (by kernel_rfl) (by kernel_rfl) (by kernel_rfl) (fun _ _ _ h => h) (Or.inl ⟨by rfl, ?hta24r15o7n6⟩) hS ?_
              case hta24r15o7n6 => (intro wx hx; have y0 := hx.cell z0 (by simp); have y1 := hx.cell z1 (by simp); have y2 := hx.cell z2 (by simp); have y3 := hx.cell z3 (by simp); have y4 := hx.cell z4 (by simp); have y5 := hx.cell z5 (by simp); have y6 := hx.cell z6 (by simp); have y7 := hx.cell z7 (by simp); have hcv1 := conv_at (P := Try.prog) (w := wx) 25 9 5 Try.underlying25 Try.underlying5 Try.underlying9 (hrawB.out.grown hx (fun _ _ _ => by simp)) Hrl.out (fun e => (Hrn.out e).1) (cap := rc); go_simp; (try with_reducible rfl))
              try simp only [Act.put, List.setIfInBounds_toArray, List.set_cons_zero, List.set_cons_succ]
              refine wpAnyH_ready (rs := [4]) (by kernel_rfl) (by simp) ?_
              refine AllReadyH.cons (o := { dst := some 128, op := Op.call { callee := Callee.value (Operand.func 15), args := #[Operand.tmp 127], argTypes := #[24] }, type := 25, pos := "law.go:54", after := #[{ on := 3, ground := Ground.data }, { on := 2, ground := Ground.chain }, { on := 2, ground := Ground.guard }], guard := some (2, true) }) rfl (fun K hK => ?_) AllReadyH.nil
              go_simp
              refine (HPx.out _).mono ?_
              rintro e w6 ⟨ad2, cap2, rfl, a1, a2, ⟨a4, a3⟩, hg⟩
              have hS1 := grown_trans hS hg
              have hcv2 := conv_at (P := Try.prog) (w := w6) 25 9 5 Try.underlying25 Try.underlying5 Try.underlying9 a1 rfl (fun e => (a2 e).1) (cap := cap2)
              clear a1 a2 a3 a4 hg
              refine hK.out _ _ ?hsta24r15o4n7 (fun hS => ?_)
              case hsta24r15o4n7 => (exact hS1)
              clear hK K
              try simp only [Act.put, List.setIfInBounds_toArray, List.set_cons_zero, List.set_cons_succ]
              refine wpAnyH_ready (rs := [5]) (by kernel_rfl) (by simp) ?_
              refine AllReadyH.cons (o := { dst := some 129, op := Op.convert 25 9 (Operand.tmp 128), type := 9, pos := "law.go:54", after := #[{ on := 4, ground := Ground.data }, { on := 2, ground := Ground.guard }], guard := some (2, true) }) rfl (fun K hK => ?_) AllReadyH.nil
              go_simp
              skip
              refine hK.out _ _ ?hsta24r15o5n8 (fun hS => ?_)
              case hsta24r15o5n8 => (exact hS)
              clear hK K
              try simp only [Act.put, List.setIfInBounds_toArray, List.set_cons_zero, List.set_cons_succ]
              refine wpAnyH_take (i := 8) (oi := { dst := some 132, op := Op.binOp BinOp.eql 9 (Operand.tmp 129) (Operand.tmp 131) 9, type := 4, pos := "law.go:54", after := #[{ on := 5, ground := Ground.data }, { on := 7, ground := Ground.data }, { on := 2, ground := Ground.guard }], guard := some (2, true) }) (v := ?vta24r15o8n9) rfl (by kernel_rfl) (by kernel_rfl) (by kernel_rfl) (fun _ _ _ h => h) (Or.inl ⟨by rfl, ?hta24r15o8n9⟩) hS ?_
              case hta24r15o8n9 => (intro wx hx; skip; go_simp; (try with_reducible rfl))
              try simp only [Act.put, List.setIfInBounds_toArray, List.set_cons_zero, List.set_cons_succ]
              refine wpAnyH_take (i := 9) (oi := { dst := some 133, op := Op.pick (Operand.tmp 126) (Operand.tmp 132) (Operand.const (Value.bool false)), type := 4, pos := "law.go:54", after := #[{ on := 2, ground := Ground.data }, { on := 8, ground := Ground.data }], guard := none }) (v := ?vta24r15o9n10) rfl (by kernel_rfl) (by kernel_rfl) (by kernel_rfl) (fun _ _ _ h => h) (Or.inl ⟨by rfl, ?hta24r15o9n10⟩) hS ?_
              case hta24r15o9n10 => (intro wx hx; skip; go_simp; (try with_reducible rfl))
              try simp only [Act.put, List.setIfInBounds_toArray, List.set_cons_zero, List.set_cons_succ]
              refine wpAnyH_take (i := 10) (oi := { dst := some 134, op := Op.move (Operand.tmp 133), type := 4, pos := "law.go:54", after := #[{ on := 9, ground := Ground.data }, { on := 4, ground := Ground.chain }], guard := none }) (v := ?vta24r15o10n11) rfl (by kernel_rfl) (by kernel_rfl) (by kernel_rfl) (fun _ _ _ h => h) (Or.inl ⟨by rfl, ?hta24r15o10n11⟩) hS ?_
              case hta24r15o10n11 => (intro wx hx; skip; go_simp; (try with_reducible rfl))
              try simp only [Act.put, List.setIfInBounds_toArray, List.set_cons_zero, List.set_cons_succ]
              refine wpAnyH_ready (rs := [11]) (by kernel_rfl) (by simp) ?_
              refine AllReadyH.cons (o := { dst := some 135, op := Op.call { callee := Callee.value (Operand.func 10), args := #[], argTypes := #[] }, type := 4, pos := "law.go:54", after := #[{ on := 10, ground := Ground.chain }, { on := 10, ground := Ground.guard }], guard := some (10, true) }) rfl (fun K hK => ?_) AllReadyH.nil
              go_simp
              refine (works_ev _).mono ?_
              rintro e w7 ⟨rfl, hg⟩
              have hS1 := grown_trans hS hg
              clear hg
              refine hK.out _ _ ?hsta24r15o11n12 (fun hS => ?_)
              case hsta24r15o11n12 => (exact hS1)
              clear hK K
              try simp only [Act.put, List.setIfInBounds_toArray, List.set_cons_zero, List.set_cons_succ]
              refine wpAnyH_take (i := 12) (oi := { dst := some 136, op := Op.pick (Operand.tmp 134) (Operand.tmp 135) (Operand.const (Value.bool false)), type := 4, pos := "law.go:54", after := #[{ on := 10, ground := Ground.data }, { on := 11, ground := Ground.data }], guard := none }) (v := ?vta24r15o12n13) rfl (by kernel_rfl) (by kernel_rfl) (by kernel_rfl) (fun _ _ _ h => h) (Or.inl ⟨by rfl, ?hta24r15o12n13⟩) hS ?_
              case hta24r15o12n13 => (intro wx hx; skip; go_simp; (try with_reducible rfl))
              try simp only [Act.put, List.setIfInBounds_toArray, List.set_cons_zero, List.set_cons_succ]
              refine wpAnyH_take (i := 13) (oi := { dst := some 8, op := Op.assign (Operand.tmp 136), type := 4, pos := "law.go:54", after := #[{ on := 12, ground := Ground.data }, { on := 11, ground := Ground.chain }, { on := 0, ground := Ground.phase }, { on := 1, ground := Ground.phase }, { on := 2, ground := Ground.phase }, { on := 3, ground := Ground.phase }, { on := 4, ground := Ground.phase }, { on := 5, ground := Ground.phase }, { on := 6, ground := Ground.phase }, { on := 7, ground := Ground.phase }, { on := 8, ground := Ground.phase }, { on := 9, ground := Ground.phase }, { on := 10, ground := Ground.phase }, { on := 11, ground := Ground.phase }, { on := 12, ground := Ground.phase }], guard := none }) (v := ?vta24r15o13n14) rfl (by kernel_rfl) (by kernel_rfl) (by kernel_rfl) (fun _ _ _ h => h) (Or.inl ⟨by rfl, ?hta24r15o13n14⟩) hS ?_
              case hta24r15o13n14 => (intro wx hx; skip; go_simp; (try with_reducible rfl))
              try simp only [Act.put, List.setIfInBounds_toArray, List.set_cons_zero, List.set_cons_succ]
              refine wpAnyH_done (by kernel_rfl) ?_ _
              go_wp2
              go_ret
              exact ⟨rfl, grown_trans hO.out.grown hS⟩
          | true =>
            rw [hmo] at HMo9
            have HMo := Lib.hid HMo9
            have hst9 : ∀ wx, (binOp BinOp.eql 9 (.string (str (putQ o))) (.string (str X))).run Try.prog wx = .ok (.bool (eqRq o r)) wx := fun wx => by
              rw [str_eq]
              congr 2
              rw [Bool.eq_iff_iff, decide_eq_true_eq, eqRq_iff]
              exact ⟨fun h => HXo.out Hmb.out hmo (str_inj h), fun h => by rw [h, HX.out]⟩
            have hag9 : ∀ wx, (binOp BinOp.eql 24 (.agg #[.int .u8 (o.k : Int), .int .u8 (o.fl : Int), .int .u64 (o.fd : Int), .int .u64 (o.at_ : Int), .int .u64 (o.sz : Int), .string o.p, .string o.t, .string o.d]) (.agg #[.int .u8 (r.k : Int), .int .u8 (r.fl : Int), .int .u64 (r.fd : Int), .int .u64 (r.at_ : Int), .int .u64 (r.sz : Int), .string r.p, .string r.t, .string r.d])).run Try.prog wx = .ok (.bool (eqRq o r)) wx := fun wx => agg_eq o r wx
            have hst8 : ((str (putQ o)).toList == (str X).toList) = eqRq o r := by
              rw [Bool.eq_iff_iff, beq_iff_eq, toList_inj, eqRq_iff]
              exact ⟨fun h => HXo.out Hmb.out hmo (str_inj h), fun h => by rw [h, HX.out]⟩
            obtain ⟨eb, heb⟩ : ∃ eb, eqRq o r = eb := ⟨_, rfl⟩
            rw [heb] at hst9 hag9 hst8
            have q2 : ∀ wx, (binOp BinOp.neq 4 (.bool eb) (.bool eb)).run Try.prog wx = .ok (.bool false) wx := fun wx => by cases eb <;> kernel_rfl
            clear HMo9 hmo HXo heb
            refine wp_region_held_drew (S := fun wx => World.grownBy wC wx none) (by kernel_rfl) (grown_drew (World.grownBy.refl _ none)) (fun hS => ?_)
            generalize World.drew _ = wD at hS ⊢
            refine wpAnyH_take (i := 0) (oi := { dst := some 85, op := Op.move (Operand.tmp 13), type := 28, pos := "law.go:46", after := #[], guard := none }) (v := ?vtb24r10o0n1) rfl (by kernel_rfl) (by kernel_rfl) (by kernel_rfl) (fun _ _ _ h => h) (Or.inl ⟨by rfl, ?htb24r10o0n1⟩) hS ?_
            case htb24r10o0n1 => (intro wx hx; skip; go_simp; (try with_reducible rfl))
            try simp only [Act.put, List.setIfInBounds_toArray, List.set_cons_zero, List.set_cons_succ]
            refine wpAnyH_take (i := 1) (oi := { dst := some 86, op := Op.binOp BinOp.neq 28 (Operand.tmp 85) (Operand.const (Value.int IntKind.i64 4)) 28, type := 4, pos := "law.go:46", after := #[{ on := 0, ground := Ground.data }], guard := none }) (v := ?vtb24r10o1n2) rfl (by kernel_rfl) (by kernel_rfl) (by kernel_rfl) (fun _ _ _ h => h) (Or.inl ⟨by rfl, ?htb24r10o1n2⟩) hS ?_
            case htb24r10o1n2 => (intro wx hx; skip; go_simp; (try with_reducible rfl))
            try simp only [Act.put, List.setIfInBounds_toArray, List.set_cons_zero, List.set_cons_succ]
            refine wpAnyH_take (i := 2) (oi := { dst := some 87, op := Op.move (Operand.tmp 86), type := 4, pos := "law.go:46", after := #[{ on := 1, ground := Ground.data }], guard := none }) (v := ?vtb24r10o2n3) rfl (by kernel_rfl) (by kernel_rfl) (by kernel_rfl) (fun _ _ _ h => h) (Or.inl ⟨by rfl, ?htb24r10o2n3⟩) hS ?_
            case htb24r10o2n3 => (intro wx hx; skip; go_simp; (try with_reducible rfl))
            try simp only [Act.put, List.setIfInBounds_toArray, List.set_cons_zero, List.set_cons_succ]
            refine wpAnyH_take (i := 3) (oi := { dst := some 88, op := Op.move (Operand.tmp 15), type := 28, pos := "law.go:46", after := #[{ on := 2, ground := Ground.guard }], guard := some (2, false) }) (v := ?vtb24r10o3n4) rfl (by kernel_rfl) (by kernel_rfl) (by kernel_rfl) (fun _ _ _ h => h) (Or.inl ⟨by rfl, ?htb24r10o3n4⟩) hS ?_
            case htb24r10o3n4 => (intro wx hx; skip; go_simp; (try with_reducible rfl))
            try simp only [Act.put, List.setIfInBounds_toArray, List.set_cons_zero, List.set_cons_succ]
            refine wpAnyH_take (i := 4) (oi := { dst := some 89, op := Op.binOp BinOp.neq 28 (Operand.tmp 88) (Operand.const (Value.int IntKind.i64 4)) 28, type := 4, pos := "law.go:46", after := #[{ on := 3, ground := Ground.data }, { on := 2, ground := Ground.guard }], guard := some (2, false) }) (v := ?vtb24r10o4n5) rfl (by kernel_rfl) (by kernel_rfl) (by kernel_rfl) (fun _ _ _ h => h) (Or.inl ⟨by rfl, ?htb24r10o4n5⟩) hS ?_
            case htb24r10o4n5 => (intro wx hx; skip; go_simp; (try with_reducible rfl))
            try simp only [Act.put, List.setIfInBounds_toArray, List.set_cons_zero, List.set_cons_succ]
            refine wpAnyH_take (i := 5) (oi := { dst := some 90, op := Op.pick (Operand.tmp 87) (Operand.const (Value.bool true)) (Operand.tmp 89), type := 4, pos := "law.go:46", after := #[{ on := 2, ground := Ground.data }, { on := 4, ground := Ground.data }], guard := none }) (v := ?vtb24r10o5n6) rfl (by kernel_rfl) (by kernel_rfl) (by kernel_rfl) (fun _ _ _ h => h) (Or.inl ⟨by rfl, ?htb24r10o5n6⟩) hS ?_
            case htb24r10o5n6 => (intro wx hx; skip; go_simp; (try with_reducible rfl))
            try simp only [Act.put, List.setIfInBounds_toArray, List.set_cons_zero, List.set_cons_succ]
            refine wpAnyH_take (i := 6) (oi := { dst := some 91, op := Op.move (Operand.tmp 90), type := 4, pos := "law.go:46", after := #[{ on := 5, ground := Ground.data }, { on := 2, ground := Ground.chain }], guard := none }) (v := ?vtb24r10o6n7) rfl (by kernel_rfl) (by kernel_rfl) (by kernel_rfl) (fun _ _ _ h => h) (Or.inl ⟨by rfl, ?htb24r10o6n7⟩) hS ?_
            case htb24r10o6n7 => (intro wx hx; skip; go_simp; (try with_reducible rfl))
            try simp only [Act.put, List.setIfInBounds_toArray, List.set_cons_zero, List.set_cons_succ]
            refine wpAnyH_take (i := 7) (oi := { dst := some 92, op := Op.load 24 (Operand.tmp 5), type := 24, pos := "law.go:46", after := #[{ on := 6, ground := Ground.guard }], guard := some (6, false) }) (v := ?vtb24r10o7n8) rfl (by kernel_rfl) (by kernel_rfl) (by kernel_rfl) (fun _ _ _ h => h) (Or.inl ⟨by rfl, ?htb24r10o7n8⟩) hS ?_
            case htb24r10o7n8 => (intro wx hx; have y0 := hx.cell c0 (by simp); have y1 := hx.cell c1 (by simp); have y2 := hx.cell c2 (by simp); have y3 := hx.cell c3 (by simp); have y4 := hx.cell c4 (by simp); have y5 := hx.cell c5 (by simp); have y6 := hx.cell c6 (by simp); have y7 := hx.cell c7 (by simp); have x0 := hx.cell d0 (by simp); have x1 := hx.cell d1 (by simp); have x2 := hx.cell d2 (by simp); have x3 := hx.cell d3 (by simp); have x4 := hx.cell d4 (by simp); have x5 := hx.cell d5 (by simp); have x6 := hx.cell d6 (by simp); have x7 := hx.cell d7 (by simp); have hcv1 := conv_at (P := Try.prog) (w := wx) 25 9 5 Try.underlying25 Try.underlying5 Try.underlying9 (hatB.out.grown hx (fun _ _ _ => by simp)) HL.out (fun e => (hnil.out e).1) (cap := cap); go_simp; (try with_reducible rfl))
            try simp only [Act.put, List.setIfInBounds_toArray, List.set_cons_zero, List.set_cons_succ]
            refine wpAnyH_ready (rs := [8]) (by kernel_rfl) (by simp) ?_
            refine AllReadyH.cons (o := { dst := some 93, op := Op.call { callee := Callee.value (Operand.func 13), args := #[Operand.tmp 92], argTypes := #[24] }, type := 4, pos := "law.go:46", after := #[{ on := 7, ground := Ground.data }, { on := 6, ground := Ground.chain }, { on := 6, ground := Ground.guard }], guard := some (6, false) }) rfl (fun K hK => ?_) AllReadyH.nil
            go_simp
            refine (HMo.out _).mono ?_
            rintro e w5 ⟨rfl, hg⟩
            have hS1 := grown_trans hS hg
            clear hg
            refine hK.out _ _ ?hstb24r10o8n9 (fun hS => ?_)
            case hstb24r10o8n9 => (exact hS1)
            clear hK K
            try simp only [Act.put, List.setIfInBounds_toArray, List.set_cons_zero, List.set_cons_succ]
            refine wpAnyH_take (i := 9) (oi := { dst := some 94, op := Op.move (Operand.tmp 93), type := 4, pos := "law.go:46", after := #[{ on := 8, ground := Ground.data }, { on := 8, ground := Ground.chain }, { on := 6, ground := Ground.guard }], guard := some (6, false) }) (v := ?vtb24r10o9n10) rfl (by kernel_rfl) (by kernel_rfl) (by kernel_rfl) (fun _ _ _ h => h) (Or.inl ⟨by rfl, ?htb24r10o9n10⟩) hS ?_
            case htb24r10o9n10 => (intro wx hx; skip; go_simp; (try with_reducible rfl))
            try simp only [Act.put, List.setIfInBounds_toArray, List.set_cons_zero, List.set_cons_succ]
            refine wpAnyH_take (i := 10) (oi := { dst := some 95, op := Op.load 24 (Operand.tmp 5), type := 24, pos := "law.go:46", after := #[{ on := 9, ground := Ground.guard }], guard := some (9, true) }) (v := ?vtb24r10o10n11) rfl (by kernel_rfl) (by kernel_rfl) (by kernel_rfl) (fun _ _ _ h => h) (Or.inl ⟨by rfl, ?htb24r10o10n11⟩) hS ?_
            case htb24r10o10n11 => (intro wx hx; have y0 := hx.cell c0 (by simp); have y1 := hx.cell c1 (by simp); have y2 := hx.cell c2 (by simp); have y3 := hx.cell c3 (by simp); have y4 := hx.cell c4 (by simp); have y5 := hx.cell c5 (by simp); have y6 := hx.cell c6 (by simp); have y7 := hx.cell c7 (by simp); have x0 := hx.cell d0 (by simp); have x1 := hx.cell d1 (by simp); have x2 := hx.cell d2 (by simp); have x3 := hx.cell d3 (by simp); have x4 := hx.cell d4 (by simp); have x5 := hx.cell d5 (by simp); have x6 := hx.cell d6 (by simp); have x7 := hx.cell d7 (by simp); have hcv1 := conv_at (P := Try.prog) (w := wx) 25 9 5 Try.underlying25 Try.underlying5 Try.underlying9 (hatB.out.grown hx (fun _ _ _ => by simp)) HL.out (fun e => (hnil.out e).1) (cap := cap); go_simp; (try with_reducible rfl))
            try simp only [Act.put, List.setIfInBounds_toArray, List.set_cons_zero, List.set_cons_succ]
            refine wpAnyH_take (i := 13) (oi := { dst := some 98, op := Op.move (Operand.tmp 9), type := 25, pos := "law.go:46", after := #[{ on := 9, ground := Ground.guard }], guard := some (9, true) }) (v := ?vtb24r10o13n12) rfl (by kernel_rfl) (by kernel_rfl) (by kernel_rfl) (fun _ _ _ h => h) (Or.inl ⟨by rfl, ?htb24r10o13n12⟩) hS ?_
            case htb24r10o13n12 => (intro wx hx; skip; go_simp; (try with_reducible rfl))
            try simp only [Act.put, List.setIfInBounds_toArray, List.set_cons_zero, List.set_cons_succ]
            refine wpAnyH_take (i := 14) (oi := { dst := some 99, op := Op.convert 25 9 (Operand.tmp 98), type := 9, pos := "law.go:46", after := #[{ on := 13, ground := Ground.data }, { on := 9, ground := Ground.guard }], guard := some (9, true) }) (v := ?vtb24r10o14n13) rfl (by kernel_rfl) (by kernel_rfl) (by kernel_rfl) (fun _ _ _ h => h) (Or.inl ⟨by rfl, ?htb24r10o14n13⟩) hS ?_
            case htb24r10o14n13 => (intro wx hx; have y0 := hx.cell c0 (by simp); have y1 := hx.cell c1 (by simp); have y2 := hx.cell c2 (by simp); have y3 := hx.cell c3 (by simp); have y4 := hx.cell c4 (by simp); have y5 := hx.cell c5 (by simp); have y6 := hx.cell c6 (by simp); have y7 := hx.cell c7 (by simp); have x0 := hx.cell d0 (by simp); have x1 := hx.cell d1 (by simp); have x2 := hx.cell d2 (by simp); have x3 := hx.cell d3 (by simp); have x4 := hx.cell d4 (by simp); have x5 := hx.cell d5 (by simp); have x6 := hx.cell d6 (by simp); have x7 := hx.cell d7 (by simp); have hcv1 := conv_at (P := Try.prog) (w := wx) 25 9 5 Try.underlying25 Try.underlying5 Try.underlying9 (hatB.out.grown hx (fun _ _ _ => by simp)) HL.out (fun e => (hnil.out e).1) (cap := cap); go_simp; (try with_reducible rfl))
            try simp only [Act.put, List.setIfInBounds_toArray, List.set_cons_zero, List.set_cons_succ]
            refine wpAnyH_take (i := 16) (oi := { dst := some 101, op := Op.load 24 (Operand.tmp 5), type := 24, pos := "law.go:46", after := #[{ on := 9, ground := Ground.guard }], guard := some (9, true) }) (v := ?vtb24r10o16n14) rfl (by kernel_rfl) (by kernel_rfl) (by kernel_rfl) (fun _ _ _ h => h) (Or.inl ⟨by rfl, ?htb24r10o16n14⟩) hS ?_
            case htb24r10o16n14 => (intro wx hx; have y0 := hx.cell c0 (by simp); have y1 := hx.cell c1 (by simp); have y2 := hx.cell c2 (by simp); have y3 := hx.cell c3 (by simp); have y4 := hx.cell c4 (by simp); have y5 := hx.cell c5 (by simp); have y6 := hx.cell c6 (by simp); have y7 := hx.cell c7 (by simp); have x0 := hx.cell d0 (by simp); have x1 := hx.cell d1 (by simp); have x2 := hx.cell d2 (by simp); have x3 := hx.cell d3 (by simp); have x4 := hx.cell d4 (by simp); have x5 := hx.cell d5 (by simp); have x6 := hx.cell d6 (by simp); have x7 := hx.cell d7 (by simp); have hcv1 := conv_at (P := Try.prog) (w := wx) 25 9 5 Try.underlying25 Try.underlying5 Try.underlying9 (hatB.out.grown hx (fun _ _ _ => by simp)) HL.out (fun e => (hnil.out e).1) (cap := cap); go_simp; (try with_reducible rfl))
            try simp only [Act.put, List.setIfInBounds_toArray, List.set_cons_zero, List.set_cons_succ]
            refine wpAnyH_take (i := 17) (oi := { dst := some 102, op := Op.load 24 (Operand.tmp 4), type := 24, pos := "law.go:46", after := #[{ on := 9, ground := Ground.guard }], guard := some (9, true) }) (v := ?vtb24r10o17n15) rfl (by kernel_rfl) (by kernel_rfl) (by kernel_rfl) (fun _ _ _ h => h) (Or.inl ⟨by rfl, ?htb24r10o17n15⟩) hS ?_
            case htb24r10o17n15 => (intro wx hx; have y0 := hx.cell c0 (by simp); have y1 := hx.cell c1 (by simp); have y2 := hx.cell c2 (by simp); have y3 := hx.cell c3 (by simp); have y4 := hx.cell c4 (by simp); have y5 := hx.cell c5 (by simp); have y6 := hx.cell c6 (by simp); have y7 := hx.cell c7 (by simp); have x0 := hx.cell d0 (by simp); have x1 := hx.cell d1 (by simp); have x2 := hx.cell d2 (by simp); have x3 := hx.cell d3 (by simp); have x4 := hx.cell d4 (by simp); have x5 := hx.cell d5 (by simp); have x6 := hx.cell d6 (by simp); have x7 := hx.cell d7 (by simp); have hcv1 := conv_at (P := Try.prog) (w := wx) 25 9 5 Try.underlying25 Try.underlying5 Try.underlying9 (hatB.out.grown hx (fun _ _ _ => by simp)) HL.out (fun e => (hnil.out e).1) (cap := cap); go_simp; (try with_reducible rfl))
            try simp only [Act.put, List.setIfInBounds_toArray, List.set_cons_zero, List.set_cons_succ]
            refine wpAnyH_take (i := 18) (oi := { dst := some 103, op := Op.binOp BinOp.eql 24 (Operand.tmp 101) (Operand.tmp 102) 24, type := 4, pos := "law.go:46", after := #[{ on := 16, ground := Ground.data }, { on := 17, ground := Ground.data }, { on := 9, ground := Ground.guard }], guard := some (9, true) }) (v := ?vtb24r10o18n16) rfl (by kernel_rfl) (by kernel_rfl) (by kernel_rfl) (fun _ _ _ h => h) (Or.inl ⟨by rfl, ?htb24r10o18n16⟩) hS ?_
            case htb24r10o18n16 => (intro wx hx; skip; go_simp; (try with_reducible rfl))
            try simp only [Act.put, List.setIfInBounds_toArray, List.set_cons_zero, List.set_cons_succ]
            refine wpAnyH_ready (rs := [11]) (by kernel_rfl) (by simp) ?_
            refine AllReadyH.cons (o := { dst := some 96, op := Op.call { callee := Callee.value (Operand.func 15), args := #[Operand.tmp 95], argTypes := #[24] }, type := 25, pos := "law.go:46", after := #[{ on := 10, ground := Ground.data }, { on := 9, ground := Ground.chain }, { on := 9, ground := Ground.guard }], guard := some (9, true) }) rfl (fun K hK => ?_) AllReadyH.nil
            go_simp
            refine (HPo.out _).mono ?_
            rintro e w6 ⟨ad2, cap2, rfl, a1, a2, ⟨a4, a3⟩, hg⟩
            have hS1 := grown_trans hS hg
            have hcv2 := conv_at (P := Try.prog) (w := w6) 25 9 5 Try.underlying25 Try.underlying5 Try.underlying9 a1 rfl (fun e => (a2 e).1) (cap := cap2)
            clear a1 a2 a3 a4 hg
            refine hK.out _ _ ?hstb24r10o11n17 (fun hS => ?_)
            case hstb24r10o11n17 => (exact hS1)
            clear hK K
            try simp only [Act.put, List.setIfInBounds_toArray, List.set_cons_zero, List.set_cons_succ]
            refine wpAnyH_ready (rs := [12]) (by kernel_rfl) (by simp) ?_
            refine AllReadyH.cons (o := { dst := some 97, op := Op.convert 25 9 (Operand.tmp 96), type := 9, pos := "law.go:46", after := #[{ on := 11, ground := Ground.data }, { on := 9, ground := Ground.guard }], guard := some (9, true) }) rfl (fun K hK => ?_) AllReadyH.nil
            go_simp
            skip
            refine hK.out _ _ ?hstb24r10o12n18 (fun hS => ?_)
            case hstb24r10o12n18 => (exact hS)
            clear hK K
            try simp only [Act.put, List.setIfInBounds_toArray, List.set_cons_zero, List.set_cons_succ]
            refine wpAnyH_take (i := 15) (oi := { dst := some 100, op := Op.binOp BinOp.eql 9 (Operand.tmp 97) (Operand.tmp 99) 9, type := 4, pos := "law.go:46", after := #[{ on := 12, ground := Ground.data }, { on := 14, ground := Ground.data }, { on := 9, ground := Ground.guard }], guard := some (9, true) }) (v := ?vtb24r10o15n19) rfl (by kernel_rfl) (by kernel_rfl) (by kernel_rfl) (fun _ _ _ h => h) (Or.inl ⟨by rfl, ?htb24r10o15n19⟩) hS ?_
            case htb24r10o15n19 => (intro wx hx; skip; go_simp; (try with_reducible rfl))
            try simp only [Act.put, List.setIfInBounds_toArray, List.set_cons_zero, List.set_cons_succ]
            refine wpAnyH_take (i := 19) (oi := { dst := some 104, op := Op.binOp BinOp.neq 4 (Operand.tmp 100) (Operand.tmp 103) 4, type := 4, pos := "law.go:46", after := #[{ on := 15, ground := Ground.data }, { on := 18, ground := Ground.data }, { on := 9, ground := Ground.guard }], guard := some (9, true) }) (v := ?vtb24r10o19n20) rfl (by kernel_rfl) (by kernel_rfl) (by kernel_rfl) (fun _ _ _ h => h) (Or.inl ⟨by rfl, ?htb24r10o19n20⟩) hS ?_
            case htb24r10o19n20 => (intro wx hx; skip; go_simp; (try with_reducible rfl))
            try simp only [Act.put, List.setIfInBounds_toArray, List.set_cons_zero, List.set_cons_succ]
            refine wpAnyH_take (i := 20) (oi := { dst := some 105, op := Op.pick (Operand.tmp 94) (Operand.tmp 104) (Operand.const (Value.bool false)), type := 4, pos := "law.go:46", after := #[{ on := 9, ground := Ground.data }, { on := 19, ground := Ground.data }, { on := 6, ground := Ground.guard }], guard := some (6, false) }) (v := ?vtb24r10o20n21) rfl (by kernel_rfl) (by kernel_rfl) (by kernel_rfl) (fun _ _ _ h => h) (Or.inl ⟨by rfl, ?htb24r10o20n21⟩) hS ?_
            case htb24r10o20n21 => (intro wx hx; skip; go_simp; (try with_reducible rfl))
            try simp only [Act.put, List.setIfInBounds_toArray, List.set_cons_zero, List.set_cons_succ]
            refine wpAnyH_take (i := 21) (oi := { dst := some 106, op := Op.pick (Operand.tmp 91) (Operand.const (Value.bool true)) (Operand.tmp 105), type := 4, pos := "law.go:46", after := #[{ on := 6, ground := Ground.data }, { on := 20, ground := Ground.data }], guard := none }) (v := ?vtb24r10o21n22) rfl (by kernel_rfl) (by kernel_rfl) (by kernel_rfl) (fun _ _ _ h => h) (Or.inl ⟨by rfl, ?htb24r10o21n22⟩) hS ?_
            case htb24r10o21n22 => (intro wx hx; skip; go_simp; (try with_reducible rfl))
            try simp only [Act.put, List.setIfInBounds_toArray, List.set_cons_zero, List.set_cons_succ]
            refine wpAnyH_done (by kernel_rfl) ?_ _
            skip
            replace hO := Lib.hid (hO.out.quiet hS)
            clear hS HMo HPo hatB hst9 hag9 q2 hcv2 hst8
            clear d0 d1 d2 d3 d4 d5 d6 d7
            clear c0 c1 c2 c3 c4 c5 c6 c7
            have HGr := Lib.hid (Get_any rd rl rc bs _ Hrl.out (hraw.out.grown hO.out.grown (fun _ _ _ => by simp)) Hrn.out (by have := Hr2.out; omega))
            go_wp2_with fail
            refine HGr.out.mono ?_
            rintro e w4 ⟨rfl, hg⟩
            replace hO := Lib.hid (hO.out.quiet hg)
            clear hg HGr
            cases hgb : getB bs with
            | false =>
              obtain ⟨g1, g2⟩ := get_no hgb
              rw [g1, g2]
              clear g1 g2 hgb
              unfold Rq.cs zeroRq
              have hOn := hO.out.addBox 24 #[.int .u8 0, .int .u8 0, .int .u64 0, .int .u64 0, .int .u64 0, .string ⟨#[]⟩, .string ⟨#[]⟩, .string ⟨#[]⟩]
              obtain ⟨BX, hBX⟩ : ∃ X, w4.heap.size = X := ⟨_, rfl⟩
              rw [hBX] at hOn
              go_upto_region 13 with fail
              generalize World.alloc _ _ = wB at hOn ⊢
              replace hO := Lib.hid hOn
              clear hOn hBX
              have z0 := (own_cellB (own_lastB hO.out) 0 rfl 0 (u := .int .u8 0) rfl).1
              have z1 := (own_cellB (own_lastB hO.out) 0 rfl 1 (u := .int .u8 0) rfl).1
              have z2 := (own_cellB (own_lastB hO.out) 0 rfl 2 (u := .int .u64 0) rfl).1
              have z3 := (own_cellB (own_lastB hO.out) 0 rfl 3 (u := .int .u64 0) rfl).1
              have z4 := (own_cellB (own_lastB hO.out) 0 rfl 4 (u := .int .u64 0) rfl).1
              have z5 := (own_cellB (own_lastB hO.out) 0 rfl 5 (u := .string ⟨#[]⟩) rfl).1
              have z6 := (own_cellB (own_lastB hO.out) 0 rfl 6 (u := .string ⟨#[]⟩) rfl).1
              have z7 := (own_cellB (own_lastB hO.out) 0 rfl 7 (u := .string ⟨#[]⟩) rfl).1
              go_wp2_with fail
              refine (works_ev _).mono ?_
              rintro e w9 ⟨rfl, hg⟩
              go_wp2
              go_ret
              exact ⟨rfl, grown_trans hO.out.grown hg⟩
            | true =>
              obtain ⟨g1, g2⟩ := get_yes hgb
              rw [g1, g2]
              have hback := got_put hgb
              have hmay := (getB_parts hgb).2.2.2
              have hok := getE_ok bs
              generalize (getE bs).r = x at hback hmay hok ⊢
              clear g1 g2 hgb
              have HMx := Lib.hid (fun wx => (show Calls Try.prog 13 #[.agg #[.int .u8 (x.k : Int), .int .u8 (x.fl : Int), .int .u64 (x.fd : Int), .int .u64 (x.at_ : Int), .int .u64 (x.sz : Int), .string x.p, .string x.t, .string x.d]] wx fun e w' => e = .returned (.bool true) ∧ wx.grownBy w' none by have := May_any x hok wx; rw [hmay] at this; exact this))
              have HPx := Lib.hid (fun wx => (show Calls Try.prog 15 #[.agg #[.int .u8 (x.k : Int), .int .u8 (x.fl : Int), .int .u64 (x.fd : Int), .int .u64 (x.at_ : Int), .int .u64 (x.sz : Int), .string x.p, .string x.t, .string x.d]] wx (MadeIs wx bs) by have := Put_any x hok (may_few hmay) wx; rw [hback] at this; exact this))
              clear hback hmay hok
              unfold Rq.cs
              have hOn := hO.out.addBox 24 #[.int .u8 (x.k : Int), .int .u8 (x.fl : Int), .int .u64 (x.fd : Int), .int .u64 (x.at_ : Int), .int .u64 (x.sz : Int), .string x.p, .string x.t, .string x.d]
              obtain ⟨BX, hBX⟩ : ∃ X, w4.heap.size = X := ⟨_, rfl⟩
              rw [hBX] at hOn
              go_upto_region 13 with fail
              generalize World.alloc _ _ = wB at hOn ⊢
              replace hO := Lib.hid hOn
              have hrawB := Lib.hid (hraw.out.grown hO.out.grown (fun _ _ _ => by simp))
              clear hOn hBX
              have z0 := (own_cellB (own_lastB hO.out) 0 rfl 0 (u := .int .u8 (x.k : Int)) rfl).1
              have z1 := (own_cellB (own_lastB hO.out) 0 rfl 1 (u := .int .u8 (x.fl : Int)) rfl).1
              have z2 := (own_cellB (own_lastB hO.out) 0 rfl 2 (u := .int .u64 (x.fd : Int)) rfl).1
              have z3 := (own_cellB (own_lastB hO.out) 0 rfl 3 (u := .int .u64 (x.at_ : Int)) rfl).1
              have z4 := (own_cellB (own_lastB hO.out) 0 rfl 4 (u := .int .u64 (x.sz : Int)) rfl).1
              have z5 := (own_cellB (own_lastB hO.out) 0 rfl 5 (u := .string x.p) rfl).1
              have z6 := (own_cellB (own_lastB hO.out) 0 rfl 6 (u := .string x.t) rfl).1
              have z7 := (own_cellB (own_lastB hO.out) 0 rfl 7 (u := .string x.d) rfl).1
              go_upto_region 15 with fail
              refine wp_region_held_drew (S := fun wx => World.grownBy wB wx none) (by kernel_rfl) (grown_drew (World.grownBy.refl _ none)) (fun hS => ?_)
              generalize World.drew _ = wD at hS ⊢
              refine wpAnyH_take (i := 0) (oi := { dst := some 124, op := Op.load 24 (Operand.tmp 16), type := 24, pos := "law.go:54", after := #[], guard := none }) (v := ?vta34r15o0n1) rfl (by kernel_rfl) (by kernel_rfl) (by kernel_rfl) (fun _ _ _ h => h) (Or.inl ⟨by rfl, ?hta34r15o0n1⟩) hS ?_
              case hta34r15o0n1 => (intro wx hx; have y0 := hx.cell z0 (by simp); have y1 := hx.cell z1 (by simp); have y2 := hx.cell z2 (by simp); have y3 := hx.cell z3 (by simp); have y4 := hx.cell z4 (by simp); have y5 := hx.cell z5 (by simp); have y6 := hx.cell z6 (by simp); have y7 := hx.cell z7 (by simp); have hcv1 := conv_at (P := Try.prog) (w := wx) 25 9 5 Try.underlying25 Try.underlying5 Try.underlying9 (hrawB.out.grown hx (fun _ _ _ => by simp)) Hrl.out (fun e => (Hrn.out e).1) (cap := rc); go_simp; (try with_reducible rfl))
              try simp only [Act.put, List.setIfInBounds_toArray, List.set_cons_zero, List.set_cons_succ]
              refine wpAnyH_ready (rs := [1]) (by kernel_rfl) (by simp) ?_
              refine AllReadyH.cons (o := { dst := some 125, op := Op.call { callee := Callee.value (Operand.func 13), args := #[Operand.tmp 124], argTypes := #[24] }, type := 4, pos := "law.go:54", after := #[{ on := 0, ground := Ground.data }], guard := none }) rfl (fun K hK => ?_) AllReadyH.nil
              go_simp
              refine (HMx.out _).mono ?_
              rintro e w5 ⟨rfl, hg⟩
              have hS1 := grown_trans hS hg
              clear hg
              refine hK.out _ _ ?hsta34r15o1n2 (fun hS => ?_)
              case hsta34r15o1n2 => (exact hS1)
              clear hK K
              try simp only [Act.put, List.setIfInBounds_toArray, List.set_cons_zero, List.set_cons_succ]
              refine wpAnyH_take (i := 2) (oi := { dst := some 126, op := Op.move (Operand.tmp 125), type := 4, pos := "law.go:54", after := #[{ on := 1, ground := Ground.data }, { on := 1, ground := Ground.chain }], guard := none }) (v := ?vta34r15o2n3) rfl (by kernel_rfl) (by kernel_rfl) (by kernel_rfl) (fun _ _ _ h => h) (Or.inl ⟨by rfl, ?hta34r15o2n3⟩) hS ?_
              case hta34r15o2n3 => (intro wx hx; skip; go_simp; (try with_reducible rfl))
              try simp only [Act.put, List.setIfInBounds_toArray, List.set_cons_zero, List.set_cons_succ]
              refine wpAnyH_take (i := 3) (oi := { dst := some 127, op := Op.load 24 (Operand.tmp 16), type := 24, pos := "law.go:54", after := #[{ on := 2, ground := Ground.guard }], guard := some (2, true) }) (v := ?vta34r15o3n4) rfl (by kernel_rfl) (by kernel_rfl) (by kernel_rfl) (fun _ _ _ h => h) (Or.inl ⟨by rfl, ?hta34r15o3n4⟩) hS ?_
              case hta34r15o3n4 => (intro wx hx; have y0 := hx.cell z0 (by simp); have y1 := hx.cell z1 (by simp); have y2 := hx.cell z2 (by simp); have y3 := hx.cell z3 (by simp); have y4 := hx.cell z4 (by simp); have y5 := hx.cell z5 (by simp); have y6 := hx.cell z6 (by simp); have y7 := hx.cell z7 (by simp); have hcv1 := conv_at (P := Try.prog) (w := wx) 25 9 5 Try.underlying25 Try.underlying5 Try.underlying9 (hrawB.out.grown hx (fun _ _ _ => by simp)) Hrl.out (fun e => (Hrn.out e).1) (cap := rc); go_simp; (try with_reducible rfl))
              try simp only [Act.put, List.setIfInBounds_toArray, List.set_cons_zero, List.set_cons_succ]
              refine wpAnyH_take (i := 6) (oi := { dst := some 130, op := Op.move (Operand.tmp 2), type := 25, pos := "law.go:54", after := #[{ on := 2, ground := Ground.guard }], guard := some (2, true) }) (v := ?vta34r15o6n5) rfl (by kernel_rfl) (by kernel_rfl) (by kernel_rfl) (fun _ _ _ h => h) (Or.inl ⟨by rfl, ?hta34r15o6n5⟩) hS ?_
              case hta34r15o6n5 => (intro wx hx; skip; go_simp; (try with_reducible rfl))
              try simp only [Act.put, List.setIfInBounds_toArray, List.set_cons_zero, List.set_cons_succ]
              refine wpAnyH_take (i := 7) (oi := { dst := some 131, op := Op.convert 25 9 (Operand.tmp 130), type := 9, pos := "law.go:54", after := #[{ on := 6, ground := Ground.data }, { on := 2, ground := Ground.guard }], guard := some (2, true) }) (v := ?vta34r15o7n6) rfl (by kernel_rfl) (by kernel_rfl) (by kernel_rfl) (fun _ _ _ h => h) (Or.inl ⟨by rfl, ?hta34r15o7n6⟩) hS ?_
              case hta34r15o7n6 => (intro wx hx; have y0 := hx.cell z0 (by simp); have y1 := hx.cell z1 (by simp); have y2 := hx.cell z2 (by simp); have y3 := hx.cell z3 (by simp); have y4 := hx.cell z4 (by simp); have y5 := hx.cell z5 (by simp); have y6 := hx.cell z6 (by simp); have y7 := hx.cell z7 (by simp); have hcv1 := conv_at (P := Try.prog) (w := wx) 25 9 5 Try.underlying25 Try.underlying5 Try.underlying9 (hrawB.out.grown hx (fun _ _ _ => by simp)) Hrl.out (fun e => (Hrn.out e).1) (cap := rc); go_simp; (try with_reducible rfl))
              try simp only [Act.put, List.setIfInBounds_toArray, List.set_cons_zero, List.set_cons_succ]
              refine wpAnyH_ready (rs := [4]) (by kernel_rfl) (by simp) ?_
              refine AllReadyH.cons (o := { dst := some 128, op := Op.call { callee := Callee.value (Operand.func 15), args := #[Operand.tmp 127], argTypes := #[24] }, type := 25, pos := "law.go:54", after := #[{ on := 3, ground := Ground.data }, { on := 2, ground := Ground.chain }, { on := 2, ground := Ground.guard }], guard := some (2, true) }) rfl (fun K hK => ?_) AllReadyH.nil
              go_simp
              refine (HPx.out _).mono ?_
              rintro e w6 ⟨ad2, cap2, rfl, a1, a2, ⟨a4, a3⟩, hg⟩
              have hS1 := grown_trans hS hg
              have hcv2 := conv_at (P := Try.prog) (w := w6) 25 9 5 Try.underlying25 Try.underlying5 Try.underlying9 a1 rfl (fun e => (a2 e).1) (cap := cap2)
              clear a1 a2 a3 a4 hg
              refine hK.out _ _ ?hsta34r15o4n7 (fun hS => ?_)
              case hsta34r15o4n7 => (exact hS1)
              clear hK K
              try simp only [Act.put, List.setIfInBounds_toArray, List.set_cons_zero, List.set_cons_succ]
              refine wpAnyH_ready (rs := [5]) (by kernel_rfl) (by simp) ?_
              refine AllReadyH.cons (o := { dst := some 129, op := Op.convert 25 9 (Operand.tmp 128), type := 9, pos := "law.go:54", after := #[{ on := 4, ground := Ground.data }, { on := 2, ground := Ground.guard }], guard := some (2, true) }) rfl (fun K hK => ?_) AllReadyH.nil
              go_simp
              skip
              refine hK.out _ _ ?hsta34r15o5n8 (fun hS => ?_)
              case hsta34r15o5n8 => (exact hS)
              clear hK K
              try simp only [Act.put, List.setIfInBounds_toArray, List.set_cons_zero, List.set_cons_succ]
              refine wpAnyH_take (i := 8) (oi := { dst := some 132, op := Op.binOp BinOp.eql 9 (Operand.tmp 129) (Operand.tmp 131) 9, type := 4, pos := "law.go:54", after := #[{ on := 5, ground := Ground.data }, { on := 7, ground := Ground.data }, { on := 2, ground := Ground.guard }], guard := some (2, true) }) (v := ?vta34r15o8n9) rfl (by kernel_rfl) (by kernel_rfl) (by kernel_rfl) (fun _ _ _ h => h) (Or.inl ⟨by rfl, ?hta34r15o8n9⟩) hS ?_
              case hta34r15o8n9 => (intro wx hx; skip; go_simp; (try with_reducible rfl))
              try simp only [Act.put, List.setIfInBounds_toArray, List.set_cons_zero, List.set_cons_succ]
              refine wpAnyH_take (i := 9) (oi := { dst := some 133, op := Op.pick (Operand.tmp 126) (Operand.tmp 132) (Operand.const (Value.bool false)), type := 4, pos := "law.go:54", after := #[{ on := 2, ground := Ground.data }, { on := 8, ground := Ground.data }], guard := none }) (v := ?vta34r15o9n10) rfl (by kernel_rfl) (by kernel_rfl) (by kernel_rfl) (fun _ _ _ h => h) (Or.inl ⟨by rfl, ?hta34r15o9n10⟩) hS ?_
              case hta34r15o9n10 => (intro wx hx; skip; go_simp; (try with_reducible rfl))
              try simp only [Act.put, List.setIfInBounds_toArray, List.set_cons_zero, List.set_cons_succ]
              refine wpAnyH_take (i := 10) (oi := { dst := some 134, op := Op.move (Operand.tmp 133), type := 4, pos := "law.go:54", after := #[{ on := 9, ground := Ground.data }, { on := 4, ground := Ground.chain }], guard := none }) (v := ?vta34r15o10n11) rfl (by kernel_rfl) (by kernel_rfl) (by kernel_rfl) (fun _ _ _ h => h) (Or.inl ⟨by rfl, ?hta34r15o10n11⟩) hS ?_
              case hta34r15o10n11 => (intro wx hx; skip; go_simp; (try with_reducible rfl))
              try simp only [Act.put, List.setIfInBounds_toArray, List.set_cons_zero, List.set_cons_succ]
              refine wpAnyH_ready (rs := [11]) (by kernel_rfl) (by simp) ?_
              refine AllReadyH.cons (o := { dst := some 135, op := Op.call { callee := Callee.value (Operand.func 10), args := #[], argTypes := #[] }, type := 4, pos := "law.go:54", after := #[{ on := 10, ground := Ground.chain }, { on := 10, ground := Ground.guard }], guard := some (10, true) }) rfl (fun K hK => ?_) AllReadyH.nil
              go_simp
              refine (works_ev _).mono ?_
              rintro e w7 ⟨rfl, hg⟩
              have hS1 := grown_trans hS hg
              clear hg
              refine hK.out _ _ ?hsta34r15o11n12 (fun hS => ?_)
              case hsta34r15o11n12 => (exact hS1)
              clear hK K
              try simp only [Act.put, List.setIfInBounds_toArray, List.set_cons_zero, List.set_cons_succ]
              refine wpAnyH_take (i := 12) (oi := { dst := some 136, op := Op.pick (Operand.tmp 134) (Operand.tmp 135) (Operand.const (Value.bool false)), type := 4, pos := "law.go:54", after := #[{ on := 10, ground := Ground.data }, { on := 11, ground := Ground.data }], guard := none }) (v := ?vta34r15o12n13) rfl (by kernel_rfl) (by kernel_rfl) (by kernel_rfl) (fun _ _ _ h => h) (Or.inl ⟨by rfl, ?hta34r15o12n13⟩) hS ?_
              case hta34r15o12n13 => (intro wx hx; skip; go_simp; (try with_reducible rfl))
              try simp only [Act.put, List.setIfInBounds_toArray, List.set_cons_zero, List.set_cons_succ]
              refine wpAnyH_take (i := 13) (oi := { dst := some 8, op := Op.assign (Operand.tmp 136), type := 4, pos := "law.go:54", after := #[{ on := 12, ground := Ground.data }, { on := 11, ground := Ground.chain }, { on := 0, ground := Ground.phase }, { on := 1, ground := Ground.phase }, { on := 2, ground := Ground.phase }, { on := 3, ground := Ground.phase }, { on := 4, ground := Ground.phase }, { on := 5, ground := Ground.phase }, { on := 6, ground := Ground.phase }, { on := 7, ground := Ground.phase }, { on := 8, ground := Ground.phase }, { on := 9, ground := Ground.phase }, { on := 10, ground := Ground.phase }, { on := 11, ground := Ground.phase }, { on := 12, ground := Ground.phase }], guard := none }) (v := ?vta34r15o13n14) rfl (by kernel_rfl) (by kernel_rfl) (by kernel_rfl) (fun _ _ _ h => h) (Or.inl ⟨by rfl, ?hta34r15o13n14⟩) hS ?_
              case hta34r15o13n14 => (intro wx hx; skip; go_simp; (try with_reducible rfl))
              try simp only [Act.put, List.setIfInBounds_toArray, List.set_cons_zero, List.set_cons_succ]
              refine wpAnyH_done (by kernel_rfl) ?_ _
              go_wp2
              go_ret
              exact ⟨rfl, grown_trans hO.out.grown hS⟩

theorem walk (r o : Rq) (rd : Option Addr) (rl rc : Nat) (zs : List Int) (a3 : Int) (w : World) (hr : r.Ok) (r1 : r.p.size ≤ 140737488351232) (r2 : r.t.size ≤ 140737488351232) (r3 : r.d.size ≤ 140737488351232)
    (ho : o.Ok) (o1 : o.p.size ≤ 140737488351232) (o2 : o.t.size ≤ 140737488351232) (o3 : o.d.size ≤ 140737488351232) (hB : RowIn .u8 w rd rl rc zs) (h3 : (Lit.int .u16 a3).wf = true) :
    Calls Try.prog 4 #[.agg r.cs, .agg o.cs, .slice rd rl rc, .int .u16 a3] w (WorksOk w) := by
  have b3 := bounds_u16 h3
  obtain ⟨C, rfl⟩ := Int.eq_ofNat_of_zero_le b3.1
  obtain ⟨bs, hbl, hat⟩ := hB.bytes
  exact walk_n r o rd rl rc bs C (by omega) hr r1 r2 r3 ho o1 o2 o3 w hbl hat (fun e => hB.nil e)
end Go.Proofs.Ytlphmpimpeekcaa.requestBack
