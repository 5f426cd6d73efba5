/- RequestPlays, walked. -/
import Derived.Test.YtlphmpimpeekcaaRfE
namespace Go.Proofs.Ytlphmpimpeekcaa.requestPlays
open Go.RowKit Go.Grommet
def WorksOk (w : World) (e : Ending) (w' : World) : Prop := e = .returned (.bool true) ∧ w.grownBy w' none

set_option maxRecDepth 100000 in
set_option maxHeartbeats 16000000 in
theorem walk_n (r : Rq) (rd : Option Addr) (rl rc : Nat) (bs : List UInt8) (hr : r.Ok) (r1 : r.p.size ≤ 140737488351232) (r2 : r.t.size ≤ 140737488351232) (r3 : r.d.size ≤ 140737488351232) (w : World) (hbl : bs.length = rl) (hat : At w rd (bs.map bv)) (hrn : rd = none → rl = 0 ∧ rc = 0) (hrc : rl ≤ rc) :
    Calls Try.prog 3 #[.agg r.cs, .slice rd rl rc] w (WorksOk w) := by
  have HFr := Lib.hid (fun wx => Few_any r r1 r2 r3 wx)
  have hO := Lib.hid ((Own.nil w).addBox 24 r.cs)
  obtain ⟨G, hG⟩ : ∃ G, w.heap.size = G := ⟨_, rfl⟩
  rw [hG] at hO
  obtain ⟨f1, hf1⟩ : ∃ fb, decide (r.p.size + r.t.size + r.d.size ≤ 2048) = fb := ⟨_, rfl⟩
  rw [hf1] at HFr
  have Hf1 := Lib.hid hf1
  have Hr := Lib.hid hr
  have HL := Lib.hid hbl
  have Hrn := Lib.hid hrn
  have Hrc := Lib.hid hrc
  have hraw0 := Lib.hid hat
  unfold Rq.cs at HFr
  clear r1 r2 r3 hf1 hr hbl hrn hat hrc
  go_enter Try.func3, Try.ntmps3
  go_upto_region 1 with fail
  try (change Code.wp _ _ _ _ (w.alloc (.cells r.cs 24)))
  generalize World.alloc _ _ = w1 at *
  clear hG
  have c0 := (own_cellB hO.out 0 rfl 0 (u := .int .u8 (r.k : Int)) rfl).1
  have c1 := (own_cellB hO.out 0 rfl 1 (u := .int .u8 (r.fl : Int)) rfl).1
  have c2 := (own_cellB hO.out 0 rfl 2 (u := .int .u64 (r.fd : Int)) rfl).1
  have c3 := (own_cellB hO.out 0 rfl 3 (u := .int .u64 (r.at_ : Int)) rfl).1
  have c4 := (own_cellB hO.out 0 rfl 4 (u := .int .u64 (r.sz : Int)) rfl).1
  have c5 := (own_cellB hO.out 0 rfl 5 (u := .string r.p) rfl).1
  have c6 := (own_cellB hO.out 0 rfl 6 (u := .string r.t) rfl).1
  have c7 := (own_cellB hO.out 0 rfl 7 (u := .string r.d) rfl).1
  go_wp2_with fail
  refine (HFr.out _).mono ?_
  rintro e w2 ⟨rfl, hg⟩
  replace hO : Hid (Grommet.Own w w2 [boxP G 24 r.cs]) := Lib.hid (hO.out.quiet hg)
  clear c0 c1 c2 c3 c4 c5 c6 c7
  clear hg HFr
  cases f1
  · clear hraw0
    go_wp2_with fail
    refine (works_ev _).mono ?_
    rintro e w9 ⟨rfl, hg⟩
    go_wp2
    go_ret
    exact ⟨rfl, grown_trans hO.out.grown hg⟩
  · by_cases hrw : 2048 < rl
    · have g1 : (2048 : Int) < (rl : Int) := by omega
      clear hraw0
      go_wp2_with fail
      refine (works_ev _).mono ?_
      rintro e w9 ⟨rfl, hg⟩
      go_wp2
      go_ret
      exact ⟨rfl, grown_trans hO.out.grown hg⟩
    · have g1 : ¬ (2048 : Int) < (rl : Int) := by omega
      have Hr2 : Hid (rl ≤ 2048) := Lib.hid (by omega)
      have hfr : r.Few := by
        have := of_decide_eq_true Hf1.out
        exact ⟨by omega, by omega, by omega⟩
      have HM := Lib.hid (fun wx => May_any r Hr.out wx)
      have HRM := Lib.hid (fun wx => RMay_any r Hr.out wx)
      have HP := Lib.hid (fun wx => Put_any r Hr.out hfr wx)
      have HRP := Lib.hid (fun wx => RPut_any r Hr.out hfr wx)
      unfold Rq.cs at HM HRM HP HRP
      generalize mayQ r = m at HM HRM
      generalize putQ r = P at HP HRP
      clear hfr hrw
      have hraw := Lib.hid (hraw0.out.grown hO.out.grown (fun _ _ _ => by simp))
      obtain ⟨i0, hi, hz0, hz1, hz2⟩ := info_parts Try.info5
      go_upto_region 3 with fail
      go_wp2_with (at_builtin; refine wpList_append_at rfl _ _ 25 rfl w2.heap.size 5 i0 (.int .u8 0) 1 Try.underlying25 hi hz0 hz1 hz2 rfl _ 0 [] rfl ?a1 rd rl rc (bs.map bv) rfl ?a2 ?a3 Hrn.out ?a4 ?a5 ?a6 ?a7 ?_)
      case a1 => exact World.ownsRow_made w2 #[] 0 (Nat.le_refl _) (by decide) (by simp)
      case a2 => simp [HL.out]
      case a3 => exact hraw.out.grown (World.grownBy_alloc w2 _ none) (by simp)
      case a4 => exact bv_oneCell bs
      case a5 => unfold maxLen; have := Hr2.out; omega
      case a6 => have := Hr2.out; omega
      case a7 => simp
      intro v1 w3 hown1 hg1
      have hg1 := grown_new (World.grownBy_alloc w2 (.cells #[] 5) none) hg1 (by intro g e; simp [Value.ownBlock] at e; omega)
      obtain ⟨ad1, cap1, rfl, hat1, hn1, hc1, _⟩ := owns_slice hown1
      have hown : Hid (At w3 ad1 (bs.map bv)) := Lib.hid (by first | exact hat1 | (rw [List.nil_append] at hat1; exact hat1))
      have Hon : Hid (ad1 = none → rl = 0 ∧ cap1 = 0) := Lib.hid (by first | exact hn1 | (rw [Nat.zero_add] at hn1; exact hn1))
      try rw [show 0 + rl = rl from Nat.zero_add rl]
      replace hO := Lib.hid (hO.out.quiet hg1)
      replace hraw := Lib.hid (hraw.out.grown hg1 (fun _ _ _ => by simp))
      clear hown1 hg1 hat1 hn1 hc1 hi hz0 hz1 hz2 hraw0
      have HG := Lib.hid (Get_any ad1 rl cap1 bs w3 HL.out hown.out Hon.out (by have := Hr2.out; omega))
      go_wp2_with fail
      refine HG.out.mono ?_
      rintro e w4 ⟨rfl, hg⟩
      replace hO := Lib.hid (hO.out.quiet hg)
      replace hraw := Lib.hid (hraw.out.grown hg (fun _ _ _ => by simp))
      replace hown := Lib.hid (hown.out.grown hg (fun _ _ _ => by simp))
      clear hg HG
      have HGR := Lib.hid (fun wx hx => RGet_any rd rl rc bs wx HL.out hx Hrn.out Hrc.out (by have := Hr2.out; omega))
      generalize getR bs = x at HGR ⊢
      generalize getN bs = n at HGR ⊢
      unfold Rq.cs at HGR ⊢
      have hOn := hO.out.addBox 24 #[.int .u8 (x.k : Int), .int .u8 (x.fl : Int), .int .u64 (x.fd : Int), .int .u64 (x.at_ : Int), .int .u64 (x.sz : Int), .string x.p, .string x.t, .string x.d]
      have hga := World.grownBy_alloc w4 (.cells #[.int .u8 (x.k : Int), .int .u8 (x.fl : Int), .int .u64 (x.fd : Int), .int .u64 (x.at_ : Int), .int .u64 (x.sz : Int), .string x.p, .string x.t, .string x.d] 24) none
      obtain ⟨X, hX⟩ : ∃ X, w4.heap.size = X := ⟨_, rfl⟩
      rw [hX] at hOn
      go_upto_region 5 with fail
      generalize World.alloc _ _ = wA at hOn hga ⊢
      replace hO : Hid (Grommet.Own w wA [boxP G 24 #[.int .u8 (r.k : Int), .int .u8 (r.fl : Int), .int .u64 (r.fd : Int), .int .u64 (r.at_ : Int), .int .u64 (r.sz : Int), .string r.p, .string r.t, .string r.d], boxP X 24 #[.int .u8 (x.k : Int), .int .u8 (x.fl : Int), .int .u64 (x.fd : Int), .int .u64 (x.at_ : Int), .int .u64 (x.sz : Int), .string x.p, .string x.t, .string x.d]]) := Lib.hid hOn
      replace hraw := Lib.hid (hraw.out.grown hga (fun _ _ _ => by simp))
      replace hown := Lib.hid (hown.out.grown hga (fun _ _ _ => by simp))
      clear hOn hga hX
      go_wp2_with fail
      refine (HGR.out _ hraw.out).mono ?_
      rintro e wB ⟨rfl, hg⟩
      replace hO := Lib.hid (hO.out.quiet hg)
      replace hraw := Lib.hid (hraw.out.grown hg (fun _ _ _ => by simp))
      replace hown := Lib.hid (hown.out.grown hg (fun _ _ _ => by simp))
      clear hg HGR
      have hOn := hO.out.addBox 24 #[.int .u8 (x.k : Int), .int .u8 (x.fl : Int), .int .u64 (x.fd : Int), .int .u64 (x.at_ : Int), .int .u64 (x.sz : Int), .string x.p, .string x.t, .string x.d]
      have hga := World.grownBy_alloc wB (.cells #[.int .u8 (x.k : Int), .int .u8 (x.fl : Int), .int .u64 (x.fd : Int), .int .u64 (x.at_ : Int), .int .u64 (x.sz : Int), .string x.p, .string x.t, .string x.d] 24) none
      obtain ⟨Y, hY⟩ : ∃ X, wB.heap.size = X := ⟨_, rfl⟩
      rw [hY] at hOn
      go_upto_region 6 with fail
      generalize World.alloc _ _ = w5 at hOn hga ⊢
      replace hO : Hid (Grommet.Own w w5 [boxP G 24 #[.int .u8 (r.k : Int), .int .u8 (r.fl : Int), .int .u64 (r.fd : Int), .int .u64 (r.at_ : Int), .int .u64 (r.sz : Int), .string r.p, .string r.t, .string r.d], boxP X 24 #[.int .u8 (x.k : Int), .int .u8 (x.fl : Int), .int .u64 (x.fd : Int), .int .u64 (x.at_ : Int), .int .u64 (x.sz : Int), .string x.p, .string x.t, .string x.d], boxP Y 24 #[.int .u8 (x.k : Int), .int .u8 (x.fl : Int), .int .u64 (x.fd : Int), .int .u64 (x.at_ : Int), .int .u64 (x.sz : Int), .string x.p, .string x.t, .string x.d]]) := Lib.hid hOn
      replace hraw := Lib.hid (hraw.out.grown hga (fun _ _ _ => by simp))
      replace hown := Lib.hid (hown.out.grown hga (fun _ _ _ => by simp))
      clear hOn hga hY
      have c0 := (own_cellB hO.out 0 rfl 0 (u := .int .u8 (r.k : Int)) rfl).1
      have c1 := (own_cellB hO.out 0 rfl 1 (u := .int .u8 (r.fl : Int)) rfl).1
      have c2 := (own_cellB hO.out 0 rfl 2 (u := .int .u64 (r.fd : Int)) rfl).1
      have c3 := (own_cellB hO.out 0 rfl 3 (u := .int .u64 (r.at_ : Int)) rfl).1
      have c4 := (own_cellB hO.out 0 rfl 4 (u := .int .u64 (r.sz : Int)) rfl).1
      have c5 := (own_cellB hO.out 0 rfl 5 (u := .string r.p) rfl).1
      have c6 := (own_cellB hO.out 0 rfl 6 (u := .string r.t) rfl).1
      have c7 := (own_cellB hO.out 0 rfl 7 (u := .string r.d) rfl).1
      have d0 := (own_cellB hO.out 1 rfl 0 (u := .int .u8 (x.k : Int)) rfl).1
      have d1 := (own_cellB hO.out 1 rfl 1 (u := .int .u8 (x.fl : Int)) rfl).1
      have d2 := (own_cellB hO.out 1 rfl 2 (u := .int .u64 (x.fd : Int)) rfl).1
      have d3 := (own_cellB hO.out 1 rfl 3 (u := .int .u64 (x.at_ : Int)) rfl).1
      have d4 := (own_cellB hO.out 1 rfl 4 (u := .int .u64 (x.sz : Int)) rfl).1
      have d5 := (own_cellB hO.out 1 rfl 5 (u := .string x.p) rfl).1
      have d6 := (own_cellB hO.out 1 rfl 6 (u := .string x.t) rfl).1
      have d7 := (own_cellB hO.out 1 rfl 7 (u := .string x.d) rfl).1
      have e0 := (own_cellB hO.out 2 rfl 0 (u := .int .u8 (x.k : Int)) rfl).1
      have e1 := (own_cellB hO.out 2 rfl 1 (u := .int .u8 (x.fl : Int)) rfl).1
      have e2 := (own_cellB hO.out 2 rfl 2 (u := .int .u64 (x.fd : Int)) rfl).1
      have e3 := (own_cellB hO.out 2 rfl 3 (u := .int .u64 (x.at_ : Int)) rfl).1
      have e4 := (own_cellB hO.out 2 rfl 4 (u := .int .u64 (x.sz : Int)) rfl).1
      have e5 := (own_cellB hO.out 2 rfl 5 (u := .string x.p) rfl).1
      have e6 := (own_cellB hO.out 2 rfl 6 (u := .string x.t) rfl).1
      have e7 := (own_cellB hO.out 2 rfl 7 (u := .string x.d) rfl).1
      refine wp_region_held_drew (S := fun wx => World.grownBy w5 wx none) (by kernel_rfl) (grown_drew (World.grownBy.refl _ none)) (fun hS => ?_)
      generalize World.drew _ = wD at hS ⊢
      refine wpAnyH_take (i := 0) (oi := { dst := some 32, op := Op.load 24 (Operand.tmp 2), type := 24, pos := "law.go:30", after := #[], guard := none }) (v := ?vpl3r6o0n1) rfl (by kernel_rfl) (by kernel_rfl) (by kernel_rfl) (fun _ _ _ h => h) (Or.inl ⟨by rfl, ?hpl3r6o0n1⟩) hS ?_
      case hpl3r6o0n1 => (intro wx hx; have yc0 := hx.cell c0 (by simp); have yc1 := hx.cell c1 (by simp); have yc2 := hx.cell c2 (by simp); have yc3 := hx.cell c3 (by simp); have yc4 := hx.cell c4 (by simp); have yc5 := hx.cell c5 (by simp); have yc6 := hx.cell c6 (by simp); have yc7 := hx.cell c7 (by simp); have yd0 := hx.cell d0 (by simp); have yd1 := hx.cell d1 (by simp); have yd2 := hx.cell d2 (by simp); have yd3 := hx.cell d3 (by simp); have yd4 := hx.cell d4 (by simp); have yd5 := hx.cell d5 (by simp); have yd6 := hx.cell d6 (by simp); have yd7 := hx.cell d7 (by simp); have ye0 := hx.cell e0 (by simp); have ye1 := hx.cell e1 (by simp); have ye2 := hx.cell e2 (by simp); have ye3 := hx.cell e3 (by simp); have ye4 := hx.cell e4 (by simp); have ye5 := hx.cell e5 (by simp); have ye6 := hx.cell e6 (by simp); have ye7 := hx.cell e7 (by simp); have hcvo := conv_at (P := Try.prog) (w := wx) 25 9 5 Try.underlying25 Try.underlying5 Try.underlying9 (hown.out.grown hx (fun _ _ _ => by simp)) HL.out (fun e => (Hon.out e).1) (cap := cap1); have hcvb := conv_at (P := Try.prog) (w := wx) 25 9 5 Try.underlying25 Try.underlying5 Try.underlying9 (hraw.out.grown hx (fun _ _ _ => by simp)) HL.out (fun e => (Hrn.out e).1) (cap := rc); go_simp; (try with_reducible rfl))
      try simp only [Act.put, List.setIfInBounds_toArray, List.set_cons_zero, List.set_cons_succ]
      refine wpAnyH_take (i := 2) (oi := { dst := some 34, op := Op.load 24 (Operand.tmp 2), type := 24, pos := "law.go:30", after := #[], guard := none }) (v := ?vpl3r6o2n2) rfl (by kernel_rfl) (by kernel_rfl) (by kernel_rfl) (fun _ _ _ h => h) (Or.inl ⟨by rfl, ?hpl3r6o2n2⟩) hS ?_
      case hpl3r6o2n2 => (intro wx hx; have yc0 := hx.cell c0 (by simp); have yc1 := hx.cell c1 (by simp); have yc2 := hx.cell c2 (by simp); have yc3 := hx.cell c3 (by simp); have yc4 := hx.cell c4 (by simp); have yc5 := hx.cell c5 (by simp); have yc6 := hx.cell c6 (by simp); have yc7 := hx.cell c7 (by simp); have yd0 := hx.cell d0 (by simp); have yd1 := hx.cell d1 (by simp); have yd2 := hx.cell d2 (by simp); have yd3 := hx.cell d3 (by simp); have yd4 := hx.cell d4 (by simp); have yd5 := hx.cell d5 (by simp); have yd6 := hx.cell d6 (by simp); have yd7 := hx.cell d7 (by simp); have ye0 := hx.cell e0 (by simp); have ye1 := hx.cell e1 (by simp); have ye2 := hx.cell e2 (by simp); have ye3 := hx.cell e3 (by simp); have ye4 := hx.cell e4 (by simp); have ye5 := hx.cell e5 (by simp); have ye6 := hx.cell e6 (by simp); have ye7 := hx.cell e7 (by simp); have hcvo := conv_at (P := Try.prog) (w := wx) 25 9 5 Try.underlying25 Try.underlying5 Try.underlying9 (hown.out.grown hx (fun _ _ _ => by simp)) HL.out (fun e => (Hon.out e).1) (cap := cap1); have hcvb := conv_at (P := Try.prog) (w := wx) 25 9 5 Try.underlying25 Try.underlying5 Try.underlying9 (hraw.out.grown hx (fun _ _ _ => by simp)) HL.out (fun e => (Hrn.out e).1) (cap := rc); go_simp; (try with_reducible rfl))
      try simp only [Act.put, List.setIfInBounds_toArray, List.set_cons_zero, List.set_cons_succ]
      refine wpAnyH_ready (rs := [1]) (by kernel_rfl) (by simp) ?_
      refine AllReadyH.cons (o := { dst := some 33, op := Op.call { callee := Callee.value (Operand.func 13), args := #[Operand.tmp 32], argTypes := #[24] }, type := 4, pos := "law.go:30", after := #[{ on := 0, ground := Ground.data }], guard := none }) rfl (fun K hK => ?_) AllReadyH.nil
      go_simp
      refine (HM.out _).mono ?_
      rintro e wm ⟨rfl, hg⟩
      have hS1 := grown_trans hS hg
      clear hg
      refine hK.out _ _ ?hspl3r6o1n3 (fun hS => ?_)
      case hspl3r6o1n3 => (exact hS1)
      clear hK K
      try simp only [Act.put, List.setIfInBounds_toArray, List.set_cons_zero, List.set_cons_succ]
      refine wpAnyH_ready (rs := [3]) (by kernel_rfl) (by simp) ?_
      refine AllReadyH.cons (o := { dst := some 35, op := Op.call { callee := Callee.value (Operand.func 14), args := #[Operand.tmp 34], argTypes := #[24] }, type := 4, pos := "law.go:30", after := #[{ on := 2, ground := Ground.data }, { on := 1, ground := Ground.chain }], guard := none }) rfl (fun K hK => ?_) AllReadyH.nil
      go_simp
      refine (HRM.out _).mono ?_
      rintro e wm ⟨rfl, hg⟩
      have hS1 := grown_trans hS hg
      clear hg
      refine hK.out _ _ ?hspl3r6o3n4 (fun hS => ?_)
      case hspl3r6o3n4 => (exact hS1)
      clear hK K
      try simp only [Act.put, List.setIfInBounds_toArray, List.set_cons_zero, List.set_cons_succ]
      refine wpAnyH_take (i := 4) (oi := { dst := some 36, op := Op.binOp BinOp.eql 4 (Operand.tmp 33) (Operand.tmp 35) 4, type := 4, pos := "law.go:30", after := #[{ on := 1, ground := Ground.data }, { on := 3, ground := Ground.data }], guard := none }) (v := ?vpl3r6o4n5) rfl (by kernel_rfl) (by kernel_rfl) (by kernel_rfl) (fun _ _ _ h => h) (Or.inl ⟨by rfl, ?hpl3r6o4n5⟩) hS ?_
      case hpl3r6o4n5 => (intro wx hx; skip; go_simp; (try with_reducible rfl))
      try simp only [Act.put, List.setIfInBounds_toArray, List.set_cons_zero, List.set_cons_succ]
      refine wpAnyH_take (i := 5) (oi := { dst := some 37, op := Op.move (Operand.tmp 36), type := 4, pos := "law.go:30", after := #[{ on := 4, ground := Ground.data }, { on := 3, ground := Ground.chain }], guard := none }) (v := ?vpl3r6o5n6) rfl (by kernel_rfl) (by kernel_rfl) (by kernel_rfl) (fun _ _ _ h => h) (Or.inl ⟨by rfl, ?hpl3r6o5n6⟩) hS ?_
      case hpl3r6o5n6 => (intro wx hx; skip; go_simp; (try with_reducible rfl))
      try simp only [Act.put, List.setIfInBounds_toArray, List.set_cons_zero, List.set_cons_succ]
      refine wpAnyH_take (i := 6) (oi := { dst := some 38, op := Op.load 24 (Operand.tmp 2), type := 24, pos := "law.go:30", after := #[{ on := 5, ground := Ground.guard }], guard := some (5, true) }) (v := ?vpl3r6o6n7) rfl (by kernel_rfl) (by kernel_rfl) (by kernel_rfl) (fun _ _ _ h => h) (Or.inl ⟨by rfl, ?hpl3r6o6n7⟩) hS ?_
      case hpl3r6o6n7 => (intro wx hx; have yc0 := hx.cell c0 (by simp); have yc1 := hx.cell c1 (by simp); have yc2 := hx.cell c2 (by simp); have yc3 := hx.cell c3 (by simp); have yc4 := hx.cell c4 (by simp); have yc5 := hx.cell c5 (by simp); have yc6 := hx.cell c6 (by simp); have yc7 := hx.cell c7 (by simp); have yd0 := hx.cell d0 (by simp); have yd1 := hx.cell d1 (by simp); have yd2 := hx.cell d2 (by simp); have yd3 := hx.cell d3 (by simp); have yd4 := hx.cell d4 (by simp); have yd5 := hx.cell d5 (by simp); have yd6 := hx.cell d6 (by simp); have yd7 := hx.cell d7 (by simp); have ye0 := hx.cell e0 (by simp); have ye1 := hx.cell e1 (by simp); have ye2 := hx.cell e2 (by simp); have ye3 := hx.cell e3 (by simp); have ye4 := hx.cell e4 (by simp); have ye5 := hx.cell e5 (by simp); have ye6 := hx.cell e6 (by simp); have ye7 := hx.cell e7 (by simp); have hcvo := conv_at (P := Try.prog) (w := wx) 25 9 5 Try.underlying25 Try.underlying5 Try.underlying9 (hown.out.grown hx (fun _ _ _ => by simp)) HL.out (fun e => (Hon.out e).1) (cap := cap1); have hcvb := conv_at (P := Try.prog) (w := wx) 25 9 5 Try.underlying25 Try.underlying5 Try.underlying9 (hraw.out.grown hx (fun _ _ _ => by simp)) HL.out (fun e => (Hrn.out e).1) (cap := rc); go_simp; (try with_reducible rfl))
      try simp only [Act.put, List.setIfInBounds_toArray, List.set_cons_zero, List.set_cons_succ]
      refine wpAnyH_take (i := 9) (oi := { dst := some 41, op := Op.load 24 (Operand.tmp 2), type := 24, pos := "law.go:30", after := #[{ on := 5, ground := Ground.guard }], guard := some (5, true) }) (v := ?vpl3r6o9n8) rfl (by kernel_rfl) (by kernel_rfl) (by kernel_rfl) (fun _ _ _ h => h) (Or.inl ⟨by rfl, ?hpl3r6o9n8⟩) hS ?_
      case hpl3r6o9n8 => (intro wx hx; have yc0 := hx.cell c0 (by simp); have yc1 := hx.cell c1 (by simp); have yc2 := hx.cell c2 (by simp); have yc3 := hx.cell c3 (by simp); have yc4 := hx.cell c4 (by simp); have yc5 := hx.cell c5 (by simp); have yc6 := hx.cell c6 (by simp); have yc7 := hx.cell c7 (by simp); have yd0 := hx.cell d0 (by simp); have yd1 := hx.cell d1 (by simp); have yd2 := hx.cell d2 (by simp); have yd3 := hx.cell d3 (by simp); have yd4 := hx.cell d4 (by simp); have yd5 := hx.cell d5 (by simp); have yd6 := hx.cell d6 (by simp); have yd7 := hx.cell d7 (by simp); have ye0 := hx.cell e0 (by simp); have ye1 := hx.cell e1 (by simp); have ye2 := hx.cell e2 (by simp); have ye3 := hx.cell e3 (by simp); have ye4 := hx.cell e4 (by simp); have ye5 := hx.cell e5 (by simp); have ye6 := hx.cell e6 (by simp); have ye7 := hx.cell e7 (by simp); have hcvo := conv_at (P := Try.prog) (w := wx) 25 9 5 Try.underlying25 Try.underlying5 Try.underlying9 (hown.out.grown hx (fun _ _ _ => by simp)) HL.out (fun e => (Hon.out e).1) (cap := cap1); have hcvb := conv_at (P := Try.prog) (w := wx) 25 9 5 Try.underlying25 Try.underlying5 Try.underlying9 (hraw.out.grown hx (fun _ _ _ => by simp)) HL.out (fun e => (Hrn.out e).1) (cap := rc); go_simp; (try with_reducible rfl))
      try simp only [Act.put, List.setIfInBounds_toArray, List.set_cons_zero, List.set_cons_succ]
      refine wpAnyH_ready (rs := [7]) (by kernel_rfl) (by simp) ?_
      refine AllReadyH.cons (o := { dst := some 39, op := Op.call { callee := Callee.value (Operand.func 15), args := #[Operand.tmp 38], argTypes := #[24] }, type := 25, pos := "law.go:30", after := #[{ on := 6, ground := Ground.data }, { on := 5, ground := Ground.chain }, { on := 5, ground := Ground.guard }], guard := some (5, true) }) rfl (fun K hK => ?_) AllReadyH.nil
      go_simp
      refine (HP.out _).mono ?_
      rintro e w6 ⟨ad2, cap2, rfl, a1, a2, ⟨a4, a3⟩, hg⟩
      have hS1 := grown_trans hS hg
      have hcv2 := conv_at (P := Try.prog) (w := w6) 25 9 5 Try.underlying25 Try.underlying5 Try.underlying9 a1 rfl (fun e => (a2 e).1) (cap := cap2)
      have HA2 := Lib.hid (And.intro a1 a2)
      clear a1 a2 a3 a4 hg
      refine hK.out _ _ ?hspl3r6o7n9 (fun hS => ?_)
      case hspl3r6o7n9 => (exact hS1)
      clear hK K
      try simp only [Act.put, List.setIfInBounds_toArray, List.set_cons_zero, List.set_cons_succ]
      refine wpAnyH_ready (rs := [8, 10]) (by kernel_rfl) (by simp) ?_
      refine AllReadyH.cons (o := { dst := some 40, op := Op.convert 25 9 (Operand.tmp 39), type := 9, pos := "law.go:30", after := #[{ on := 7, ground := Ground.data }, { on := 5, ground := Ground.guard }], guard := some (5, true) }) rfl (fun K hK => ?_) (AllReadyH.cons (o := { dst := some 42, op := Op.call { callee := Callee.value (Operand.func 16), args := #[Operand.tmp 41], argTypes := #[24] }, type := 25, pos := "law.go:30", after := #[{ on := 9, ground := Ground.data }, { on := 7, ground := Ground.chain }, { on := 5, ground := Ground.guard }], guard := some (5, true) }) rfl (fun K hK => ?_) AllReadyH.nil)
      · go_simp
        skip
        refine hK.out _ _ ?hspl3r6o8n10 (fun hS => ?_)
        case hspl3r6o8n10 => (exact hS)
        clear hK K
        try simp only [Act.put, List.setIfInBounds_toArray, List.set_cons_zero, List.set_cons_succ]
        refine wpAnyH_ready (rs := [10]) (by kernel_rfl) (by simp) ?_
        refine AllReadyH.cons (o := { dst := some 42, op := Op.call { callee := Callee.value (Operand.func 16), args := #[Operand.tmp 41], argTypes := #[24] }, type := 25, pos := "law.go:30", after := #[{ on := 9, ground := Ground.data }, { on := 7, ground := Ground.chain }, { on := 5, ground := Ground.guard }], guard := some (5, true) }) rfl (fun K hK => ?_) AllReadyH.nil
        go_simp
        refine (HRP.out _).mono ?_
        rintro e w7 ⟨ad3, cap3, rfl, a1, a2, ⟨a4, a3⟩, hg⟩
        have hS1 := grown_trans hS hg
        have hcv3 := conv_at (P := Try.prog) (w := w7) 25 9 5 Try.underlying25 Try.underlying5 Try.underlying9 a1 rfl (fun e => (a2 e).1) (cap := cap3)
        have hcv4 := conv_at (P := Try.prog) (w := w7) 25 9 5 Try.underlying25 Try.underlying5 Try.underlying9 (HA2.out.1.grown hg (fun _ _ _ => by simp)) rfl (fun e => (HA2.out.2 e).1) (cap := cap2)
        clear a1 a2 a3 a4 hg
        refine hK.out _ _ ?hspl3r6o10n11 (fun hS => ?_)
        case hspl3r6o10n11 => (exact hS1)
        clear hK K
        try simp only [Act.put, List.setIfInBounds_toArray, List.set_cons_zero, List.set_cons_succ]
        refine wpAnyH_ready (rs := [11]) (by kernel_rfl) (by simp) ?_
        refine AllReadyH.cons (o := { dst := some 43, op := Op.convert 25 9 (Operand.tmp 42), type := 9, pos := "law.go:30", after := #[{ on := 10, ground := Ground.data }, { on := 5, ground := Ground.guard }], guard := some (5, true) }) rfl (fun K hK => ?_) AllReadyH.nil
        go_simp
        skip
        refine hK.out _ _ ?hspl3r6o11n12 (fun hS => ?_)
        case hspl3r6o11n12 => (exact hS)
        clear hK K
        try simp only [Act.put, List.setIfInBounds_toArray, List.set_cons_zero, List.set_cons_succ]
        refine wpAnyH_take (i := 12) (oi := { dst := some 44, op := Op.binOp BinOp.eql 9 (Operand.tmp 40) (Operand.tmp 43) 9, type := 4, pos := "law.go:30", after := #[{ on := 8, ground := Ground.data }, { on := 11, ground := Ground.data }, { on := 5, ground := Ground.guard }], guard := some (5, true) }) (v := ?vpl3r6o12n13) rfl (by kernel_rfl) (by kernel_rfl) (by kernel_rfl) (fun _ _ _ h => h) (Or.inl ⟨by rfl, ?hpl3r6o12n13⟩) hS ?_
        case hpl3r6o12n13 => (intro wx hx; skip; go_simp; (try with_reducible rfl))
        try simp only [Act.put, List.setIfInBounds_toArray, List.set_cons_zero, List.set_cons_succ]
        refine wpAnyH_take (i := 13) (oi := { dst := some 45, op := Op.pick (Operand.tmp 37) (Operand.tmp 44) (Operand.const (Value.bool false)), type := 4, pos := "law.go:30", after := #[{ on := 5, ground := Ground.data }, { on := 12, ground := Ground.data }], guard := none }) (v := ?vpl3r6o13n14) rfl (by kernel_rfl) (by kernel_rfl) (by kernel_rfl) (fun _ _ _ h => h) (Or.inl ⟨by rfl, ?hpl3r6o13n14⟩) hS ?_
        case hpl3r6o13n14 => (intro wx hx; skip; go_simp; (try with_reducible rfl))
        try simp only [Act.put, List.setIfInBounds_toArray, List.set_cons_zero, List.set_cons_succ]
        refine wpAnyH_take (i := 14) (oi := { dst := some 46, op := Op.move (Operand.tmp 45), type := 4, pos := "law.go:30", after := #[{ on := 13, ground := Ground.data }, { on := 10, ground := Ground.chain }], guard := none }) (v := ?vpl3r6o14n15) rfl (by kernel_rfl) (by kernel_rfl) (by kernel_rfl) (fun _ _ _ h => h) (Or.inl ⟨by rfl, ?hpl3r6o14n15⟩) hS ?_
        case hpl3r6o14n15 => (intro wx hx; skip; go_simp; (try with_reducible rfl))
        try simp only [Act.put, List.setIfInBounds_toArray, List.set_cons_zero, List.set_cons_succ]
        refine wpAnyH_take (i := 15) (oi := { dst := some 47, op := Op.load 24 (Operand.tmp 6), type := 24, pos := "law.go:30", after := #[{ on := 14, ground := Ground.guard }], guard := some (14, true) }) (v := ?vpl3r6o15n16) rfl (by kernel_rfl) (by kernel_rfl) (by kernel_rfl) (fun _ _ _ h => h) (Or.inl ⟨by rfl, ?hpl3r6o15n16⟩) hS ?_
        case hpl3r6o15n16 => (intro wx hx; have yc0 := hx.cell c0 (by simp); have yc1 := hx.cell c1 (by simp); have yc2 := hx.cell c2 (by simp); have yc3 := hx.cell c3 (by simp); have yc4 := hx.cell c4 (by simp); have yc5 := hx.cell c5 (by simp); have yc6 := hx.cell c6 (by simp); have yc7 := hx.cell c7 (by simp); have yd0 := hx.cell d0 (by simp); have yd1 := hx.cell d1 (by simp); have yd2 := hx.cell d2 (by simp); have yd3 := hx.cell d3 (by simp); have yd4 := hx.cell d4 (by simp); have yd5 := hx.cell d5 (by simp); have yd6 := hx.cell d6 (by simp); have yd7 := hx.cell d7 (by simp); have ye0 := hx.cell e0 (by simp); have ye1 := hx.cell e1 (by simp); have ye2 := hx.cell e2 (by simp); have ye3 := hx.cell e3 (by simp); have ye4 := hx.cell e4 (by simp); have ye5 := hx.cell e5 (by simp); have ye6 := hx.cell e6 (by simp); have ye7 := hx.cell e7 (by simp); have hcvo := conv_at (P := Try.prog) (w := wx) 25 9 5 Try.underlying25 Try.underlying5 Try.underlying9 (hown.out.grown hx (fun _ _ _ => by simp)) HL.out (fun e => (Hon.out e).1) (cap := cap1); have hcvb := conv_at (P := Try.prog) (w := wx) 25 9 5 Try.underlying25 Try.underlying5 Try.underlying9 (hraw.out.grown hx (fun _ _ _ => by simp)) HL.out (fun e => (Hrn.out e).1) (cap := rc); go_simp; (try with_reducible rfl))
        try simp only [Act.put, List.setIfInBounds_toArray, List.set_cons_zero, List.set_cons_succ]
        refine wpAnyH_take (i := 16) (oi := { dst := some 48, op := Op.load 24 (Operand.tmp 8), type := 24, pos := "law.go:30", after := #[{ on := 14, ground := Ground.guard }], guard := some (14, true) }) (v := ?vpl3r6o16n17) rfl (by kernel_rfl) (by kernel_rfl) (by kernel_rfl) (fun _ _ _ h => h) (Or.inl ⟨by rfl, ?hpl3r6o16n17⟩) hS ?_
        case hpl3r6o16n17 => (intro wx hx; have yc0 := hx.cell c0 (by simp); have yc1 := hx.cell c1 (by simp); have yc2 := hx.cell c2 (by simp); have yc3 := hx.cell c3 (by simp); have yc4 := hx.cell c4 (by simp); have yc5 := hx.cell c5 (by simp); have yc6 := hx.cell c6 (by simp); have yc7 := hx.cell c7 (by simp); have yd0 := hx.cell d0 (by simp); have yd1 := hx.cell d1 (by simp); have yd2 := hx.cell d2 (by simp); have yd3 := hx.cell d3 (by simp); have yd4 := hx.cell d4 (by simp); have yd5 := hx.cell d5 (by simp); have yd6 := hx.cell d6 (by simp); have yd7 := hx.cell d7 (by simp); have ye0 := hx.cell e0 (by simp); have ye1 := hx.cell e1 (by simp); have ye2 := hx.cell e2 (by simp); have ye3 := hx.cell e3 (by simp); have ye4 := hx.cell e4 (by simp); have ye5 := hx.cell e5 (by simp); have ye6 := hx.cell e6 (by simp); have ye7 := hx.cell e7 (by simp); have hcvo := conv_at (P := Try.prog) (w := wx) 25 9 5 Try.underlying25 Try.underlying5 Try.underlying9 (hown.out.grown hx (fun _ _ _ => by simp)) HL.out (fun e => (Hon.out e).1) (cap := cap1); have hcvb := conv_at (P := Try.prog) (w := wx) 25 9 5 Try.underlying25 Try.underlying5 Try.underlying9 (hraw.out.grown hx (fun _ _ _ => by simp)) HL.out (fun e => (Hrn.out e).1) (cap := rc); go_simp; (try with_reducible rfl))
        try simp only [Act.put, List.setIfInBounds_toArray, List.set_cons_zero, List.set_cons_succ]
        refine wpAnyH_take (i := 17) (oi := { dst := some 49, op := Op.binOp BinOp.eql 24 (Operand.tmp 47) (Operand.tmp 48) 24, type := 4, pos := "law.go:30", after := #[{ on := 15, ground := Ground.data }, { on := 16, ground := Ground.data }, { on := 14, ground := Ground.guard }], guard := some (14, true) }) (v := ?vpl3r6o17n18) rfl (by kernel_rfl) (by kernel_rfl) (by kernel_rfl) (fun _ _ _ h => h) (Or.inl ⟨by rfl, ?hpl3r6o17n18⟩) hS ?_
        case hpl3r6o17n18 => (intro wx hx; skip; go_simp; (try with_reducible rfl))
        try simp only [Act.put, List.setIfInBounds_toArray, List.set_cons_zero, List.set_cons_succ]
        refine wpAnyH_take (i := 18) (oi := { dst := some 50, op := Op.pick (Operand.tmp 46) (Operand.tmp 49) (Operand.const (Value.bool false)), type := 4, pos := "law.go:30", after := #[{ on := 14, ground := Ground.data }, { on := 17, ground := Ground.data }], guard := none }) (v := ?vpl3r6o18n19) rfl (by kernel_rfl) (by kernel_rfl) (by kernel_rfl) (fun _ _ _ h => h) (Or.inl ⟨by rfl, ?hpl3r6o18n19⟩) hS ?_
        case hpl3r6o18n19 => (intro wx hx; skip; go_simp; (try with_reducible rfl))
        try simp only [Act.put, List.setIfInBounds_toArray, List.set_cons_zero, List.set_cons_succ]
        refine wpAnyH_take (i := 19) (oi := { dst := some 51, op := Op.move (Operand.tmp 50), type := 4, pos := "law.go:30", after := #[{ on := 18, ground := Ground.data }, { on := 14, ground := Ground.chain }], guard := none }) (v := ?vpl3r6o19n20) rfl (by kernel_rfl) (by kernel_rfl) (by kernel_rfl) (fun _ _ _ h => h) (Or.inl ⟨by rfl, ?hpl3r6o19n20⟩) hS ?_
        case hpl3r6o19n20 => (intro wx hx; skip; go_simp; (try with_reducible rfl))
        try simp only [Act.put, List.setIfInBounds_toArray, List.set_cons_zero, List.set_cons_succ]
        refine wpAnyH_take (i := 20) (oi := { dst := some 52, op := Op.move (Operand.tmp 7), type := 28, pos := "law.go:30", after := #[{ on := 19, ground := Ground.guard }], guard := some (19, true) }) (v := ?vpl3r6o20n21) rfl (by kernel_rfl) (by kernel_rfl) (by kernel_rfl) (fun _ _ _ h => h) (Or.inl ⟨by rfl, ?hpl3r6o20n21⟩) hS ?_
        case hpl3r6o20n21 => (intro wx hx; skip; go_simp; (try with_reducible rfl))
        try simp only [Act.put, List.setIfInBounds_toArray, List.set_cons_zero, List.set_cons_succ]
        refine wpAnyH_take (i := 21) (oi := { dst := some 53, op := Op.move (Operand.tmp 9), type := 28, pos := "law.go:30", after := #[{ on := 19, ground := Ground.guard }], guard := some (19, true) }) (v := ?vpl3r6o21n22) rfl (by kernel_rfl) (by kernel_rfl) (by kernel_rfl) (fun _ _ _ h => h) (Or.inl ⟨by rfl, ?hpl3r6o21n22⟩) hS ?_
        case hpl3r6o21n22 => (intro wx hx; skip; go_simp; (try with_reducible rfl))
        try simp only [Act.put, List.setIfInBounds_toArray, List.set_cons_zero, List.set_cons_succ]
        refine wpAnyH_take (i := 22) (oi := { dst := some 54, op := Op.binOp BinOp.eql 28 (Operand.tmp 52) (Operand.tmp 53) 28, type := 4, pos := "law.go:30", after := #[{ on := 20, ground := Ground.data }, { on := 21, ground := Ground.data }, { on := 19, ground := Ground.guard }], guard := some (19, true) }) (v := ?vpl3r6o22n23) rfl (by kernel_rfl) (by kernel_rfl) (by kernel_rfl) (fun _ _ _ h => h) (Or.inl ⟨by rfl, ?hpl3r6o22n23⟩) hS ?_
        case hpl3r6o22n23 => (intro wx hx; skip; go_simp; (try with_reducible rfl))
        try simp only [Act.put, List.setIfInBounds_toArray, List.set_cons_zero, List.set_cons_succ]
        refine wpAnyH_take (i := 23) (oi := { dst := some 55, op := Op.pick (Operand.tmp 51) (Operand.tmp 54) (Operand.const (Value.bool false)), type := 4, pos := "law.go:30", after := #[{ on := 19, ground := Ground.data }, { on := 22, ground := Ground.data }], guard := none }) (v := ?vpl3r6o23n24) rfl (by kernel_rfl) (by kernel_rfl) (by kernel_rfl) (fun _ _ _ h => h) (Or.inl ⟨by rfl, ?hpl3r6o23n24⟩) hS ?_
        case hpl3r6o23n24 => (intro wx hx; skip; go_simp; (try with_reducible rfl))
        try simp only [Act.put, List.setIfInBounds_toArray, List.set_cons_zero, List.set_cons_succ]
        refine wpAnyH_take (i := 24) (oi := { dst := some 56, op := Op.move (Operand.tmp 55), type := 4, pos := "law.go:30", after := #[{ on := 23, ground := Ground.data }, { on := 19, ground := Ground.chain }], guard := none }) (v := ?vpl3r6o24n25) rfl (by kernel_rfl) (by kernel_rfl) (by kernel_rfl) (fun _ _ _ h => h) (Or.inl ⟨by rfl, ?hpl3r6o24n25⟩) hS ?_
        case hpl3r6o24n25 => (intro wx hx; skip; go_simp; (try with_reducible rfl))
        try simp only [Act.put, List.setIfInBounds_toArray, List.set_cons_zero, List.set_cons_succ]
        refine wpAnyH_take (i := 25) (oi := { dst := some 57, op := Op.move (Operand.tmp 5), type := 25, pos := "law.go:30", after := #[{ on := 24, ground := Ground.guard }], guard := some (24, true) }) (v := ?vpl3r6o25n26) rfl (by kernel_rfl) (by kernel_rfl) (by kernel_rfl) (fun _ _ _ h => h) (Or.inl ⟨by rfl, ?hpl3r6o25n26⟩) hS ?_
        case hpl3r6o25n26 => (intro wx hx; skip; go_simp; (try with_reducible rfl))
        try simp only [Act.put, List.setIfInBounds_toArray, List.set_cons_zero, List.set_cons_succ]
        refine wpAnyH_take (i := 26) (oi := { dst := some 58, op := Op.convert 25 9 (Operand.tmp 57), type := 9, pos := "law.go:30", after := #[{ on := 25, ground := Ground.data }, { on := 24, ground := Ground.guard }], guard := some (24, true) }) (v := ?vpl3r6o26n27) rfl (by kernel_rfl) (by kernel_rfl) (by kernel_rfl) (fun _ _ _ h => h) (Or.inl ⟨by rfl, ?hpl3r6o26n27⟩) hS ?_
        case hpl3r6o26n27 => (intro wx hx; have yc0 := hx.cell c0 (by simp); have yc1 := hx.cell c1 (by simp); have yc2 := hx.cell c2 (by simp); have yc3 := hx.cell c3 (by simp); have yc4 := hx.cell c4 (by simp); have yc5 := hx.cell c5 (by simp); have yc6 := hx.cell c6 (by simp); have yc7 := hx.cell c7 (by simp); have yd0 := hx.cell d0 (by simp); have yd1 := hx.cell d1 (by simp); have yd2 := hx.cell d2 (by simp); have yd3 := hx.cell d3 (by simp); have yd4 := hx.cell d4 (by simp); have yd5 := hx.cell d5 (by simp); have yd6 := hx.cell d6 (by simp); have yd7 := hx.cell d7 (by simp); have ye0 := hx.cell e0 (by simp); have ye1 := hx.cell e1 (by simp); have ye2 := hx.cell e2 (by simp); have ye3 := hx.cell e3 (by simp); have ye4 := hx.cell e4 (by simp); have ye5 := hx.cell e5 (by simp); have ye6 := hx.cell e6 (by simp); have ye7 := hx.cell e7 (by simp); have hcvo := conv_at (P := Try.prog) (w := wx) 25 9 5 Try.underlying25 Try.underlying5 Try.underlying9 (hown.out.grown hx (fun _ _ _ => by simp)) HL.out (fun e => (Hon.out e).1) (cap := cap1); have hcvb := conv_at (P := Try.prog) (w := wx) 25 9 5 Try.underlying25 Try.underlying5 Try.underlying9 (hraw.out.grown hx (fun _ _ _ => by simp)) HL.out (fun e => (Hrn.out e).1) (cap := rc); go_simp; (try with_reducible rfl))
        try simp only [Act.put, List.setIfInBounds_toArray, List.set_cons_zero, List.set_cons_succ]
        refine wpAnyH_take (i := 27) (oi := { dst := some 59, op := Op.move (Operand.tmp 1), type := 25, pos := "law.go:30", after := #[{ on := 24, ground := Ground.guard }], guard := some (24, true) }) (v := ?vpl3r6o27n28) rfl (by kernel_rfl) (by kernel_rfl) (by kernel_rfl) (fun _ _ _ h => h) (Or.inl ⟨by rfl, ?hpl3r6o27n28⟩) hS ?_
        case hpl3r6o27n28 => (intro wx hx; skip; go_simp; (try with_reducible rfl))
        try simp only [Act.put, List.setIfInBounds_toArray, List.set_cons_zero, List.set_cons_succ]
        refine wpAnyH_take (i := 28) (oi := { dst := some 60, op := Op.convert 25 9 (Operand.tmp 59), type := 9, pos := "law.go:30", after := #[{ on := 27, ground := Ground.data }, { on := 24, ground := Ground.guard }], guard := some (24, true) }) (v := ?vpl3r6o28n29) rfl (by kernel_rfl) (by kernel_rfl) (by kernel_rfl) (fun _ _ _ h => h) (Or.inl ⟨by rfl, ?hpl3r6o28n29⟩) hS ?_
        case hpl3r6o28n29 => (intro wx hx; have yc0 := hx.cell c0 (by simp); have yc1 := hx.cell c1 (by simp); have yc2 := hx.cell c2 (by simp); have yc3 := hx.cell c3 (by simp); have yc4 := hx.cell c4 (by simp); have yc5 := hx.cell c5 (by simp); have yc6 := hx.cell c6 (by simp); have yc7 := hx.cell c7 (by simp); have yd0 := hx.cell d0 (by simp); have yd1 := hx.cell d1 (by simp); have yd2 := hx.cell d2 (by simp); have yd3 := hx.cell d3 (by simp); have yd4 := hx.cell d4 (by simp); have yd5 := hx.cell d5 (by simp); have yd6 := hx.cell d6 (by simp); have yd7 := hx.cell d7 (by simp); have ye0 := hx.cell e0 (by simp); have ye1 := hx.cell e1 (by simp); have ye2 := hx.cell e2 (by simp); have ye3 := hx.cell e3 (by simp); have ye4 := hx.cell e4 (by simp); have ye5 := hx.cell e5 (by simp); have ye6 := hx.cell e6 (by simp); have ye7 := hx.cell e7 (by simp); have hcvo := conv_at (P := Try.prog) (w := wx) 25 9 5 Try.underlying25 Try.underlying5 Try.underlying9 (hown.out.grown hx (fun _ _ _ => by simp)) HL.out (fun e => (Hon.out e).1) (cap := cap1); have hcvb := conv_at (P := Try.prog) (w := wx) 25 9 5 Try.underlying25 Try.underlying5 Try.underlying9 (hraw.out.grown hx (fun _ _ _ => by simp)) HL.out (fun e => (Hrn.out e).1) (cap := rc); go_simp; (try with_reducible rfl))
        try simp only [Act.put, List.setIfInBounds_toArray, List.set_cons_zero, List.set_cons_succ]
        refine wpAnyH_take (i := 29) (oi := { dst := some 61, op := Op.binOp BinOp.eql 9 (Operand.tmp 58) (Operand.tmp 60) 9, type := 4, pos := "law.go:30", after := #[{ on := 26, ground := Ground.data }, { on := 28, ground := Ground.data }, { on := 24, ground := Ground.guard }], guard := some (24, true) }) (v := ?vpl3r6o29n30) rfl (by kernel_rfl) (by kernel_rfl) (by kernel_rfl) (fun _ _ _ h => h) (Or.inl ⟨by rfl, ?hpl3r6o29n30⟩) hS ?_
        case hpl3r6o29n30 => (intro wx hx; skip; go_simp; (try with_reducible rfl))
        try simp only [Act.put, List.setIfInBounds_toArray, List.set_cons_zero, List.set_cons_succ]
        refine wpAnyH_take (i := 30) (oi := { dst := some 62, op := Op.pick (Operand.tmp 56) (Operand.tmp 61) (Operand.const (Value.bool false)), type := 4, pos := "law.go:30", after := #[{ on := 24, ground := Ground.data }, { on := 29, ground := Ground.data }], guard := none }) (v := ?vpl3r6o30n31) rfl (by kernel_rfl) (by kernel_rfl) (by kernel_rfl) (fun _ _ _ h => h) (Or.inl ⟨by rfl, ?hpl3r6o30n31⟩) hS ?_
        case hpl3r6o30n31 => (intro wx hx; skip; go_simp; (try with_reducible rfl))
        try simp only [Act.put, List.setIfInBounds_toArray, List.set_cons_zero, List.set_cons_succ]
        refine wpAnyH_take (i := 31) (oi := { dst := some 63, op := Op.move (Operand.tmp 62), type := 4, pos := "law.go:30", after := #[{ on := 30, ground := Ground.data }, { on := 24, ground := Ground.chain }], guard := none }) (v := ?vpl3r6o31n32) rfl (by kernel_rfl) (by kernel_rfl) (by kernel_rfl) (fun _ _ _ h => h) (Or.inl ⟨by rfl, ?hpl3r6o31n32⟩) hS ?_
        case hpl3r6o31n32 => (intro wx hx; skip; go_simp; (try with_reducible rfl))
        try simp only [Act.put, List.setIfInBounds_toArray, List.set_cons_zero, List.set_cons_succ]
        refine wpAnyH_ready (rs := [32]) (by kernel_rfl) (by simp) ?_
        refine AllReadyH.cons (o := { dst := some 64, op := Op.call { callee := Callee.value (Operand.func 10), args := #[], argTypes := #[] }, type := 4, pos := "law.go:30", after := #[{ on := 31, ground := Ground.chain }, { on := 31, ground := Ground.guard }], guard := some (31, true) }) rfl (fun K hK => ?_) AllReadyH.nil
        go_simp
        refine (works_ev _).mono ?_
        rintro e w8 ⟨rfl, hg⟩
        have hS1 := grown_trans hS hg
        clear hg
        refine hK.out _ _ ?hspl3r6o32n33 (fun hS => ?_)
        case hspl3r6o32n33 => (exact hS1)
        clear hK K
        try simp only [Act.put, List.setIfInBounds_toArray, List.set_cons_zero, List.set_cons_succ]
        refine wpAnyH_take (i := 33) (oi := { dst := some 65, op := Op.pick (Operand.tmp 63) (Operand.tmp 64) (Operand.const (Value.bool false)), type := 4, pos := "law.go:30", after := #[{ on := 31, ground := Ground.data }, { on := 32, ground := Ground.data }], guard := none }) (v := ?vpl3r6o33n34) rfl (by kernel_rfl) (by kernel_rfl) (by kernel_rfl) (fun _ _ _ h => h) (Or.inl ⟨by rfl, ?hpl3r6o33n34⟩) hS ?_
        case hpl3r6o33n34 => (intro wx hx; skip; go_simp; (try with_reducible rfl))
        try simp only [Act.put, List.setIfInBounds_toArray, List.set_cons_zero, List.set_cons_succ]
        refine wpAnyH_take (i := 34) (oi := { dst := some 4, op := Op.assign (Operand.tmp 65), type := 4, pos := "law.go:30", after := #[{ on := 33, ground := Ground.data }, { on := 32, ground := Ground.chain }, { on := 0, ground := Ground.phase }, { on := 1, ground := Ground.phase }, { on := 2, ground := Ground.phase }, { on := 3, ground := Ground.phase }, { on := 4, ground := Ground.phase }, { on := 5, ground := Ground.phase }, { on := 6, ground := Ground.phase }, { on := 7, ground := Ground.phase }, { on := 8, ground := Ground.phase }, { on := 9, ground := Ground.phase }, { on := 10, ground := Ground.phase }, { on := 11, ground := Ground.phase }, { on := 12, ground := Ground.phase }, { on := 13, ground := Ground.phase }, { on := 14, ground := Ground.phase }, { on := 15, ground := Ground.phase }, { on := 16, ground := Ground.phase }, { on := 17, ground := Ground.phase }, { on := 18, ground := Ground.phase }, { on := 19, ground := Ground.phase }, { on := 20, ground := Ground.phase }, { on := 21, ground := Ground.phase }, { on := 22, ground := Ground.phase }, { on := 23, ground := Ground.phase }, { on := 24, ground := Ground.phase }, { on := 25, ground := Ground.phase }, { on := 26, ground := Ground.phase }, { on := 27, ground := Ground.phase }, { on := 28, ground := Ground.phase }, { on := 29, ground := Ground.phase }, { on := 30, ground := Ground.phase }, { on := 31, ground := Ground.phase }, { on := 32, ground := Ground.phase }, { on := 33, ground := Ground.phase }], guard := none }) (v := ?vpl3r6o34n35) rfl (by kernel_rfl) (by kernel_rfl) (by kernel_rfl) (fun _ _ _ h => h) (Or.inl ⟨by rfl, ?hpl3r6o34n35⟩) hS ?_
        case hpl3r6o34n35 => (intro wx hx; skip; go_simp; (try with_reducible rfl))
        try simp only [Act.put, List.setIfInBounds_toArray, List.set_cons_zero, List.set_cons_succ]
        refine wpAnyH_done (by kernel_rfl) ?_ _
        go_wp2
        go_ret
        exact ⟨rfl, grown_trans hO.out.grown hS⟩
      · go_simp
        refine (HRP.out _).mono ?_
        rintro e w7 ⟨ad3, cap3, rfl, a1, a2, ⟨a4, a3⟩, hg⟩
        have hS1 := grown_trans hS hg
        have hcv3 := conv_at (P := Try.prog) (w := w7) 25 9 5 Try.underlying25 Try.underlying5 Try.underlying9 a1 rfl (fun e => (a2 e).1) (cap := cap3)
        have hcv4 := conv_at (P := Try.prog) (w := w7) 25 9 5 Try.underlying25 Try.underlying5 Try.underlying9 (HA2.out.1.grown hg (fun _ _ _ => by simp)) rfl (fun e => (HA2.out.2 e).1) (cap := cap2)
        clear a1 a2 a3 a4 hg
        refine hK.out _ _ ?hspl3r6o10n36 (fun hS => ?_)
        case hspl3r6o10n36 => (exact hS1)
        clear hK K
        try simp only [Act.put, List.setIfInBounds_toArray, List.set_cons_zero, List.set_cons_succ]
        refine wpAnyH_ready (rs := [8, 11]) (by kernel_rfl) (by simp) ?_
        refine AllReadyH.cons (o := { dst := some 40, op := Op.convert 25 9 (Operand.tmp 39), type := 9, pos := "law.go:30", after := #[{ on := 7, ground := Ground.data }, { on := 5, ground := Ground.guard }], guard := some (5, true) }) rfl (fun K hK => ?_) (AllReadyH.cons (o := { dst := some 43, op := Op.convert 25 9 (Operand.tmp 42), type := 9, pos := "law.go:30", after := #[{ on := 10, ground := Ground.data }, { on := 5, ground := Ground.guard }], guard := some (5, true) }) rfl (fun K hK => ?_) AllReadyH.nil)
        · go_simp
          skip
          refine hK.out _ _ ?hspl3r6o8n37 (fun hS => ?_)
          case hspl3r6o8n37 => (exact hS)
          clear hK K
          try simp only [Act.put, List.setIfInBounds_toArray, List.set_cons_zero, List.set_cons_succ]
          refine wpAnyH_ready (rs := [11]) (by kernel_rfl) (by simp) ?_
          refine AllReadyH.cons (o := { dst := some 43, op := Op.convert 25 9 (Operand.tmp 42), type := 9, pos := "law.go:30", after := #[{ on := 10, ground := Ground.data }, { on := 5, ground := Ground.guard }], guard := some (5, true) }) rfl (fun K hK => ?_) AllReadyH.nil
          go_simp
          skip
          refine hK.out _ _ ?hspl3r6o11n38 (fun hS => ?_)
          case hspl3r6o11n38 => (exact hS)
          clear hK K
          try simp only [Act.put, List.setIfInBounds_toArray, List.set_cons_zero, List.set_cons_succ]
          refine wpAnyH_take (i := 12) (oi := { dst := some 44, op := Op.binOp BinOp.eql 9 (Operand.tmp 40) (Operand.tmp 43) 9, type := 4, pos := "law.go:30", after := #[{ on := 8, ground := Ground.data }, { on := 11, ground := Ground.data }, { on := 5, ground := Ground.guard }], guard := some (5, true) }) (v := ?vpl3r6o12n39) rfl (by kernel_rfl) (by kernel_rfl) (by kernel_rfl) (fun _ _ _ h => h) (Or.inl ⟨by rfl, ?hpl3r6o12n39⟩) hS ?_
          case hpl3r6o12n39 => (intro wx hx; skip; go_simp; (try with_reducible rfl))
          try simp only [Act.put, List.setIfInBounds_toArray, List.set_cons_zero, List.set_cons_succ]
          refine wpAnyH_take (i := 13) (oi := { dst := some 45, op := Op.pick (Operand.tmp 37) (Operand.tmp 44) (Operand.const (Value.bool false)), type := 4, pos := "law.go:30", after := #[{ on := 5, ground := Ground.data }, { on := 12, ground := Ground.data }], guard := none }) (v := ?vpl3r6o13n40) rfl (by kernel_rfl) (by kernel_rfl) (by kernel_rfl) (fun _ _ _ h => h) (Or.inl ⟨by rfl, ?hpl3r6o13n40⟩) hS ?_
          case hpl3r6o13n40 => (intro wx hx; skip; go_simp; (try with_reducible rfl))
          try simp only [Act.put, List.setIfInBounds_toArray, List.set_cons_zero, List.set_cons_succ]
          refine wpAnyH_take (i := 14) (oi := { dst := some 46, op := Op.move (Operand.tmp 45), type := 4, pos := "law.go:30", after := #[{ on := 13, ground := Ground.data }, { on := 10, ground := Ground.chain }], guard := none }) (v := ?vpl3r6o14n41) rfl (by kernel_rfl) (by kernel_rfl) (by kernel_rfl) (fun _ _ _ h => h) (Or.inl ⟨by rfl, ?hpl3r6o14n41⟩) hS ?_
          case hpl3r6o14n41 => (intro wx hx; skip; go_simp; (try with_reducible rfl))
          try simp only [Act.put, List.setIfInBounds_toArray, List.set_cons_zero, List.set_cons_succ]
          refine wpAnyH_take (i := 15) (oi := { dst := some 47, op := Op.load 24 (Operand.tmp 6), type := 24, pos := "law.go:30", after := #[{ on := 14, ground := Ground.guard }], guard := some (14, true) }) (v := ?vpl3r6o15n42) rfl (by kernel_rfl) (by kernel_rfl) (by kernel_rfl) (fun _ _ _ h => h) (Or.inl ⟨by rfl, ?hpl3r6o15n42⟩) hS ?_
          case hpl3r6o15n42 => (intro wx hx; have yc0 := hx.cell c0 (by simp); have yc1 := hx.cell c1 (by simp); have yc2 := hx.cell c2 (by simp); have yc3 := hx.cell c3 (by simp); have yc4 := hx.cell c4 (by simp); have yc5 := hx.cell c5 (by simp); have yc6 := hx.cell c6 (by simp); have yc7 := hx.cell c7 (by simp); have yd0 := hx.cell d0 (by simp); have yd1 := hx.cell d1 (by simp); have yd2 := hx.cell d2 (by simp); have yd3 := hx.cell d3 (by simp); have yd4 := hx.cell d4 (by simp); have yd5 := hx.cell d5 (by simp); have yd6 := hx.cell d6 (by simp); have yd7 := hx.cell d7 (by simp); have ye0 := hx.cell e0 (by simp); have ye1 := hx.cell e1 (by simp); have ye2 := hx.cell e2 (by simp); have ye3 := hx.cell e3 (by simp); have ye4 := hx.cell e4 (by simp); have ye5 := hx.cell e5 (by simp); have ye6 := hx.cell e6 (by simp); have ye7 := hx.cell e7 (by simp); have hcvo := conv_at (P := Try.prog) (w := wx) 25 9 5 Try.underlying25 Try.underlying5 Try.underlying9 (hown.out.grown hx (fun _ _ _ => by simp)) HL.out (fun e => (Hon.out e).1) (cap := cap1); have hcvb := conv_at (P := Try.prog) (w := wx) 25 9 5 Try.underlying25 Try.underlying5 Try.underlying9 (hraw.out.grown hx (fun _ _ _ => by simp)) HL.out (fun e => (Hrn.out e).1) (cap := rc); go_simp; (try with_reducible rfl))
          try simp only [Act.put, List.setIfInBounds_toArray, List.set_cons_zero, List.set_cons_succ]
          refine wpAnyH_take (i := 16) (oi := { dst := some 48, op := Op.load 24 (Operand.tmp 8), type := 24, pos := "law.go:30", after := #[{ on := 14, ground := Ground.guard }], guard := some (14, true) }) (v := ?vpl3r6o16n43) rfl (by kernel_rfl) (by kernel_rfl) (by kernel_rfl) (fun _ _ _ h => h) (Or.inl ⟨by rfl, ?hpl3r6o16n43⟩) hS ?_
          case hpl3r6o16n43 => (intro wx hx; have yc0 := hx.cell c0 (by simp); have yc1 := hx.cell c1 (by simp); have yc2 := hx.cell c2 (by simp); have yc3 := hx.cell c3 (by simp); have yc4 := hx.cell c4 (by simp); have yc5 := hx.cell c5 (by simp); have yc6 := hx.cell c6 (by simp); have yc7 := hx.cell c7 (by simp); have yd0 := hx.cell d0 (by simp); have yd1 := hx.cell d1 (by simp); have yd2 := hx.cell d2 (by simp); have yd3 := hx.cell d3 (by simp); have yd4 := hx.cell d4 (by simp); have yd5 := hx.cell d5 (by simp); have yd6 := hx.cell d6 (by simp); have yd7 := hx.cell d7 (by simp); have ye0 := hx.cell e0 (by simp); have ye1 := hx.cell e1 (by simp); have ye2 := hx.cell e2 (by simp); have ye3 := hx.cell e3 (by simp); have ye4 := hx.cell e4 (by simp); have ye5 := hx.cell e5 (by simp); have ye6 := hx.cell e6 (by simp); have ye7 := hx.cell e7 (by simp); have hcvo := conv_at (P := Try.prog) (w := wx) 25 9 5 Try.underlying25 Try.underlying5 Try.underlying9 (hown.out.grown hx (fun _ _ _ => by simp)) HL.out (fun e => (Hon.out e).1) (cap := cap1); have hcvb := conv_at (P := Try.prog) (w := wx) 25 9 5 Try.underlying25 Try.underlying5 Try.underlying9 (hraw.out.grown hx (fun _ _ _ => by simp)) HL.out (fun e => (Hrn.out e).1) (cap := rc); go_simp; (try with_reducible rfl))
          try simp only [Act.put, List.setIfInBounds_toArray, List.set_cons_zero, List.set_cons_succ]
          refine wpAnyH_take (i := 17) (oi := { dst := some 49, op := Op.binOp BinOp.eql 24 (Operand.tmp 47) (Operand.tmp 48) 24, type := 4, pos := "law.go:30", after := #[{ on := 15, ground := Ground.data }, { on := 16, ground := Ground.data }, { on := 14, ground := Ground.guard }], guard := some (14, true) }) (v := ?vpl3r6o17n44) rfl (by kernel_rfl) (by kernel_rfl) (by kernel_rfl) (fun _ _ _ h => h) (Or.inl ⟨by rfl, ?hpl3r6o17n44⟩) hS ?_
          case hpl3r6o17n44 => (intro wx hx; skip; go_simp; (try with_reducible rfl))
          try simp only [Act.put, List.setIfInBounds_toArray, List.set_cons_zero, List.set_cons_succ]
          refine wpAnyH_take (i := 18) (oi := { dst := some 50, op := Op.pick (Operand.tmp 46) (Operand.tmp 49) (Operand.const (Value.bool false)), type := 4, pos := "law.go:30", after := #[{ on := 14, ground := Ground.data }, { on := 17, ground := Ground.data }], guard := none }) (v := ?vpl3r6o18n45) rfl (by kernel_rfl) (by kernel_rfl) (by kernel_rfl) (fun _ _ _ h => h) (Or.inl ⟨by rfl, ?hpl3r6o18n45⟩) hS ?_
          case hpl3r6o18n45 => (intro wx hx; skip; go_simp; (try with_reducible rfl))
          try simp only [Act.put, List.setIfInBounds_toArray, List.set_cons_zero, List.set_cons_succ]
          refine wpAnyH_take (i := 19) (oi := { dst := some 51, op := Op.move (Operand.tmp 50), type := 4, pos := "law.go:30", after := #[{ on := 18, ground := Ground.data }, { on := 14, ground := Ground.chain }], guard := none }) (v := ?vpl3r6o19n46) rfl (by kernel_rfl) (by kernel_rfl) (by kernel_rfl) (fun _ _ _ h => h) (Or.inl ⟨by rfl, ?hpl3r6o19n46⟩) hS ?_
          case hpl3r6o19n46 => (intro wx hx; skip; go_simp; (try with_reducible rfl))
          try simp only [Act.put, List.setIfInBounds_toArray, List.set_cons_zero, List.set_cons_succ]
          refine wpAnyH_take (i := 20) (oi := { dst := some 52, op := Op.move (Operand.tmp 7), type := 28, pos := "law.go:30", after := #[{ on := 19, ground := Ground.guard }], guard := some (19, true) }) (v := ?vpl3r6o20n47) rfl (by kernel_rfl) (by kernel_rfl) (by kernel_rfl) (fun _ _ _ h => h) (Or.inl ⟨by rfl, ?hpl3r6o20n47⟩) hS ?_
          case hpl3r6o20n47 => (intro wx hx; skip; go_simp; (try with_reducible rfl))
          try simp only [Act.put, List.setIfInBounds_toArray, List.set_cons_zero, List.set_cons_succ]
          refine wpAnyH_take (i := 21) (oi := { dst := some 53, op := Op.move (Operand.tmp 9), type := 28, pos := "law.go:30", after := #[{ on := 19, ground := Ground.guard }], guard := some (19, true) }) (v := ?vpl3r6o21n48) rfl (by kernel_rfl) (by kernel_rfl) (by kernel_rfl) (fun _ _ _ h => h) (Or.inl ⟨by rfl, ?hpl3r6o21n48⟩) hS ?_
          case hpl3r6o21n48 => (intro wx hx; skip; go_simp; (try with_reducible rfl))
          try simp only [Act.put, List.setIfInBounds_toArray, List.set_cons_zero, List.set_cons_succ]
          refine wpAnyH_take (i := 22) (oi := { dst := some 54, op := Op.binOp BinOp.eql 28 (Operand.tmp 52) (Operand.tmp 53) 28, type := 4, pos := "law.go:30", after := #[{ on := 20, ground := Ground.data }, { on := 21, ground := Ground.data }, { on := 19, ground := Ground.guard }], guard := some (19, true) }) (v := ?vpl3r6o22n49) rfl (by kernel_rfl) (by kernel_rfl) (by kernel_rfl) (fun _ _ _ h => h) (Or.inl ⟨by rfl, ?hpl3r6o22n49⟩) hS ?_
          case hpl3r6o22n49 => (intro wx hx; skip; go_simp; (try with_reducible rfl))
          try simp only [Act.put, List.setIfInBounds_toArray, List.set_cons_zero, List.set_cons_succ]
          refine wpAnyH_take (i := 23) (oi := { dst := some 55, op := Op.pick (Operand.tmp 51) (Operand.tmp 54) (Operand.const (Value.bool false)), type := 4, pos := "law.go:30", after := #[{ on := 19, ground := Ground.data }, { on := 22, ground := Ground.data }], guard := none }) (v := ?vpl3r6o23n50) rfl (by kernel_rfl) (by kernel_rfl) (by kernel_rfl) (fun _ _ _ h => h) (Or.inl ⟨by rfl, ?hpl3r6o23n50⟩) hS ?_
          case hpl3r6o23n50 => (intro wx hx; skip; go_simp; (try with_reducible rfl))
          try simp only [Act.put, List.setIfInBounds_toArray, List.set_cons_zero, List.set_cons_succ]
          refine wpAnyH_take (i := 24) (oi := { dst := some 56, op := Op.move (Operand.tmp 55), type := 4, pos := "law.go:30", after := #[{ on := 23, ground := Ground.data }, { on := 19, ground := Ground.chain }], guard := none }) (v := ?vpl3r6o24n51) rfl (by kernel_rfl) (by kernel_rfl) (by kernel_rfl) (fun _ _ _ h => h) (Or.inl ⟨by rfl, ?hpl3r6o24n51⟩) hS ?_
          case hpl3r6o24n51 => (intro wx hx; skip; go_simp; (try with_reducible rfl))
          try simp only [Act.put, List.setIfInBounds_toArray, List.set_cons_zero, List.set_cons_succ]
          refine wpAnyH_take (i := 25) (oi := { dst := some 57, op := Op.move (Operand.tmp 5), type := 25, pos := "law.go:30", after := #[{ on := 24, ground := Ground.guard }], guard := some (24, true) }) (v := ?vpl3r6o25n52) rfl (by kernel_rfl) (by kernel_rfl) (by kernel_rfl) (fun _ _ _ h => h) (Or.inl ⟨by rfl, ?hpl3r6o25n52⟩) hS ?_
          case hpl3r6o25n52 => (intro wx hx; skip; go_simp; (try with_reducible rfl))
          try simp only [Act.put, List.setIfInBounds_toArray, List.set_cons_zero, List.set_cons_succ]
          refine wpAnyH_take (i := 26) (oi := { dst := some 58, op := Op.convert 25 9 (Operand.tmp 57), type := 9, pos := "law.go:30", after := #[{ on := 25, ground := Ground.data }, { on := 24, ground := Ground.guard }], guard := some (24, true) }) (v := ?vpl3r6o26n53) rfl (by kernel_rfl) (by kernel_rfl) (by kernel_rfl) (fun _ _ _ h => h) (Or.inl ⟨by rfl, ?hpl3r6o26n53⟩) hS ?_
          case hpl3r6o26n53 => (intro wx hx; have yc0 := hx.cell c0 (by simp); have yc1 := hx.cell c1 (by simp); have yc2 := hx.cell c2 (by simp); have yc3 := hx.cell c3 (by simp); have yc4 := hx.cell c4 (by simp); have yc5 := hx.cell c5 (by simp); have yc6 := hx.cell c6 (by simp); have yc7 := hx.cell c7 (by simp); have yd0 := hx.cell d0 (by simp); have yd1 := hx.cell d1 (by simp); have yd2 := hx.cell d2 (by simp); have yd3 := hx.cell d3 (by simp); have yd4 := hx.cell d4 (by simp); have yd5 := hx.cell d5 (by simp); have yd6 := hx.cell d6 (by simp); have yd7 := hx.cell d7 (by simp); have ye0 := hx.cell e0 (by simp); have ye1 := hx.cell e1 (by simp); have ye2 := hx.cell e2 (by simp); have ye3 := hx.cell e3 (by simp); have ye4 := hx.cell e4 (by simp); have ye5 := hx.cell e5 (by simp); have ye6 := hx.cell e6 (by simp); have ye7 := hx.cell e7 (by simp); have hcvo := conv_at (P := Try.prog) (w := wx) 25 9 5 Try.underlying25 Try.underlying5 Try.underlying9 (hown.out.grown hx (fun _ _ _ => by simp)) HL.out (fun e => (Hon.out e).1) (cap := cap1); have hcvb := conv_at (P := Try.prog) (w := wx) 25 9 5 Try.underlying25 Try.underlying5 Try.underlying9 (hraw.out.grown hx (fun _ _ _ => by simp)) HL.out (fun e => (Hrn.out e).1) (cap := rc); go_simp; (try with_reducible rfl))
          try simp only [Act.put, List.setIfInBounds_toArray, List.set_cons_zero, List.set_cons_succ]
          refine wpAnyH_take (i := 27) (oi := { dst := some 59, op := Op.move (Operand.tmp 1), type := 25, pos := "law.go:30", after := #[{ on := 24, ground := Ground.guard }], guard := some (24, true) }) (v := ?vpl3r6o27n54) rfl (by kernel_rfl) (by kernel_rfl) (by kernel_rfl) (fun _ _ _ h => h) (Or.inl ⟨by rfl, ?hpl3r6o27n54⟩) hS ?_
          case hpl3r6o27n54 => (intro wx hx; skip; go_simp; (try with_reducible rfl))
          try simp only [Act.put, List.setIfInBounds_toArray, List.set_cons_zero, List.set_cons_succ]
          refine wpAnyH_take (i := 28) (oi := { dst := some 60, op := Op.convert 25 9 (Operand.tmp 59), type := 9, pos := "law.go:30", after := #[{ on := 27, ground := Ground.data }, { on := 24, ground := Ground.guard }], guard := some (24, true) }) (v := ?vpl3r6o28n55) rfl (by kernel_rfl) (by kernel_rfl) (by kernel_rfl) (fun _ _ _ h => h) (Or.inl ⟨by rfl, ?hpl3r6o28n55⟩) hS ?_
          case hpl3r6o28n55 => (intro wx hx; have yc0 := hx.cell c0 (by simp); have yc1 := hx.cell c1 (by simp); have yc2 := hx.cell c2 (by simp); have yc3 := hx.cell c3 (by simp); have yc4 := hx.cell c4 (by simp); have yc5 := hx.cell c5 (by simp); have yc6 := hx.cell c6 (by simp); have yc7 := hx.cell c7 (by simp); have yd0 := hx.cell d0 (by simp); have yd1 := hx.cell d1 (by simp); have yd2 := hx.cell d2 (by simp); have yd3 := hx.cell d3 (by simp); have yd4 := hx.cell d4 (by simp); have yd5 := hx.cell d5 (by simp); have yd6 := hx.cell d6 (by simp); have yd7 := hx.cell d7 (by simp); have ye0 := hx.cell e0 (by simp); have ye1 := hx.cell e1 (by simp); have ye2 := hx.cell e2 (by simp); have ye3 := hx.cell e3 (by simp); have ye4 := hx.cell e4 (by simp); have ye5 := hx.cell e5 (by simp); have ye6 := hx.cell e6 (by simp); have ye7 := hx.cell e7 (by simp); have hcvo := conv_at (P := Try.prog) (w := wx) 25 9 5 Try.underlying25 Try.underlying5 Try.underlying9 (hown.out.grown hx (fun _ _ _ => by simp)) HL.out (fun e => (Hon.out e).1) (cap := cap1); have hcvb := conv_at (P := Try.prog) (w := wx) 25 9 5 Try.underlying25 Try.underlying5 Try.underlying9 (hraw.out.grown hx (fun _ _ _ => by simp)) HL.out (fun e => (Hrn.out e).1) (cap := rc); go_simp; (try with_reducible rfl))
          try simp only [Act.put, List.setIfInBounds_toArray, List.set_cons_zero, List.set_cons_succ]
          refine wpAnyH_take (i := 29) (oi := { dst := some 61, op := Op.binOp BinOp.eql 9 (Operand.tmp 58) (Operand.tmp 60) 9, type := 4, pos := "law.go:30", after := #[{ on := 26, ground := Ground.data }, { on := 28, ground := Ground.data }, { on := 24, ground := Ground.guard }], guard := some (24, true) }) (v := ?vpl3r6o29n56) rfl (by kernel_rfl) (by kernel_rfl) (by kernel_rfl) (fun _ _ _ h => h) (Or.inl ⟨by rfl, ?hpl3r6o29n56⟩) hS ?_
          case hpl3r6o29n56 => (intro wx hx; skip; go_simp; (try with_reducible rfl))
          try simp only [Act.put, List.setIfInBounds_toArray, List.set_cons_zero, List.set_cons_succ]
          refine wpAnyH_take (i := 30) (oi := { dst := some 62, op := Op.pick (Operand.tmp 56) (Operand.tmp 61) (Operand.const (Value.bool false)), type := 4, pos := "law.go:30", after := #[{ on := 24, ground := Ground.data }, { on := 29, ground := Ground.data }], guard := none }) (v := ?vpl3r6o30n57) rfl (by kernel_rfl) (by kernel_rfl) (by kernel_rfl) (fun _ _ _ h => h) (Or.inl ⟨by rfl, ?hpl3r6o30n57⟩) hS ?_
          case hpl3r6o30n57 => (intro wx hx; skip; go_simp; (try with_reducible rfl))
          try simp only [Act.put, List.setIfInBounds_toArray, List.set_cons_zero, List.set_cons_succ]
          refine wpAnyH_take (i := 31) (oi := { dst := some 63, op := Op.move (Operand.tmp 62), type := 4, pos := "law.go:30", after := #[{ on := 30, ground := Ground.data }, { on := 24, ground := Ground.chain }], guard := none }) (v := ?vpl3r6o31n58) rfl (by kernel_rfl) (by kernel_rfl) (by kernel_rfl) (fun _ _ _ h => h) (Or.inl ⟨by rfl, ?hpl3r6o31n58⟩) hS ?_
          case hpl3r6o31n58 => (intro wx hx; skip; go_simp; (try with_reducible rfl))
          try simp only [Act.put, List.setIfInBounds_toArray, List.set_cons_zero, List.set_cons_succ]
          refine wpAnyH_ready (rs := [32]) (by kernel_rfl) (by simp) ?_
          refine AllReadyH.cons (o := { dst := some 64, op := Op.call { callee := Callee.value (Operand.func 10), args := #[], argTypes := #[] }, type := 4, pos := "law.go:30", after := #[{ on := 31, ground := Ground.chain }, { on := 31, ground := Ground.guard }], guard := some (31, true) }) rfl (fun K hK => ?_) AllReadyH.nil
          go_simp
          refine (works_ev _).mono ?_
          rintro e w8 ⟨rfl, hg⟩
          have hS1 := grown_trans hS hg
          clear hg
          refine hK.out _ _ ?hspl3r6o32n59 (fun hS => ?_)
          case hspl3r6o32n59 => (exact hS1)
          clear hK K
          try simp only [Act.put, List.setIfInBounds_toArray, List.set_cons_zero, List.set_cons_succ]
          refine wpAnyH_take (i := 33) (oi := { dst := some 65, op := Op.pick (Operand.tmp 63) (Operand.tmp 64) (Operand.const (Value.bool false)), type := 4, pos := "law.go:30", after := #[{ on := 31, ground := Ground.data }, { on := 32, ground := Ground.data }], guard := none }) (v := ?vpl3r6o33n60) rfl (by kernel_rfl) (by kernel_rfl) (by kernel_rfl) (fun _ _ _ h => h) (Or.inl ⟨by rfl, ?hpl3r6o33n60⟩) hS ?_
          case hpl3r6o33n60 => (intro wx hx; skip; go_simp; (try with_reducible rfl))
          try simp only [Act.put, List.setIfInBounds_toArray, List.set_cons_zero, List.set_cons_succ]
          refine wpAnyH_take (i := 34) (oi := { dst := some 4, op := Op.assign (Operand.tmp 65), type := 4, pos := "law.go:30", after := #[{ on := 33, ground := Ground.data }, { on := 32, ground := Ground.chain }, { on := 0, ground := Ground.phase }, { on := 1, ground := Ground.phase }, { on := 2, ground := Ground.phase }, { on := 3, ground := Ground.phase }, { on := 4, ground := Ground.phase }, { on := 5, ground := Ground.phase }, { on := 6, ground := Ground.phase }, { on := 7, ground := Ground.phase }, { on := 8, ground := Ground.phase }, { on := 9, ground := Ground.phase }, { on := 10, ground := Ground.phase }, { on := 11, ground := Ground.phase }, { on := 12, ground := Ground.phase }, { on := 13, ground := Ground.phase }, { on := 14, ground := Ground.phase }, { on := 15, ground := Ground.phase }, { on := 16, ground := Ground.phase }, { on := 17, ground := Ground.phase }, { on := 18, ground := Ground.phase }, { on := 19, ground := Ground.phase }, { on := 20, ground := Ground.phase }, { on := 21, ground := Ground.phase }, { on := 22, ground := Ground.phase }, { on := 23, ground := Ground.phase }, { on := 24, ground := Ground.phase }, { on := 25, ground := Ground.phase }, { on := 26, ground := Ground.phase }, { on := 27, ground := Ground.phase }, { on := 28, ground := Ground.phase }, { on := 29, ground := Ground.phase }, { on := 30, ground := Ground.phase }, { on := 31, ground := Ground.phase }, { on := 32, ground := Ground.phase }, { on := 33, ground := Ground.phase }], guard := none }) (v := ?vpl3r6o34n61) rfl (by kernel_rfl) (by kernel_rfl) (by kernel_rfl) (fun _ _ _ h => h) (Or.inl ⟨by rfl, ?hpl3r6o34n61⟩) hS ?_
          case hpl3r6o34n61 => (intro wx hx; skip; go_simp; (try with_reducible rfl))
          try simp only [Act.put, List.setIfInBounds_toArray, List.set_cons_zero, List.set_cons_succ]
          refine wpAnyH_done (by kernel_rfl) ?_ _
          go_wp2
          go_ret
          exact ⟨rfl, grown_trans hO.out.grown hS⟩
        · go_simp
          skip
          refine hK.out _ _ ?hspl3r6o11n62 (fun hS => ?_)
          case hspl3r6o11n62 => (exact hS)
          clear hK K
          try simp only [Act.put, List.setIfInBounds_toArray, List.set_cons_zero, List.set_cons_succ]
          refine wpAnyH_ready (rs := [8]) (by kernel_rfl) (by simp) ?_
          refine AllReadyH.cons (o := { dst := some 40, op := Op.convert 25 9 (Operand.tmp 39), type := 9, pos := "law.go:30", after := #[{ on := 7, ground := Ground.data }, { on := 5, ground := Ground.guard }], guard := some (5, true) }) rfl (fun K hK => ?_) AllReadyH.nil
          go_simp
          skip
          refine hK.out _ _ ?hspl3r6o8n63 (fun hS => ?_)
          case hspl3r6o8n63 => (exact hS)
          clear hK K
          try simp only [Act.put, List.setIfInBounds_toArray, List.set_cons_zero, List.set_cons_succ]
          refine wpAnyH_take (i := 12) (oi := { dst := some 44, op := Op.binOp BinOp.eql 9 (Operand.tmp 40) (Operand.tmp 43) 9, type := 4, pos := "law.go:30", after := #[{ on := 8, ground := Ground.data }, { on := 11, ground := Ground.data }, { on := 5, ground := Ground.guard }], guard := some (5, true) }) (v := ?vpl3r6o12n64) rfl (by kernel_rfl) (by kernel_rfl) (by kernel_rfl) (fun _ _ _ h => h) (Or.inl ⟨by rfl, ?hpl3r6o12n64⟩) hS ?_
          case hpl3r6o12n64 => (intro wx hx; skip; go_simp; (try with_reducible rfl))
          try simp only [Act.put, List.setIfInBounds_toArray, List.set_cons_zero, List.set_cons_succ]
          refine wpAnyH_take (i := 13) (oi := { dst := some 45, op := Op.pick (Operand.tmp 37) (Operand.tmp 44) (Operand.const (Value.bool false)), type := 4, pos := "law.go:30", after := #[{ on := 5, ground := Ground.data }, { on := 12, ground := Ground.data }], guard := none }) (v := ?vpl3r6o13n65) rfl (by kernel_rfl) (by kernel_rfl) (by kernel_rfl) (fun _ _ _ h => h) (Or.inl ⟨by rfl, ?hpl3r6o13n65⟩) hS ?_
          case hpl3r6o13n65 => (intro wx hx; skip; go_simp; (try with_reducible rfl))
          try simp only [Act.put, List.setIfInBounds_toArray, List.set_cons_zero, List.set_cons_succ]
          refine wpAnyH_take (i := 14) (oi := { dst := some 46, op := Op.move (Operand.tmp 45), type := 4, pos := "law.go:30", after := #[{ on := 13, ground := Ground.data }, { on := 10, ground := Ground.chain }], guard := none }) (v := ?vpl3r6o14n66) rfl (by kernel_rfl) (by kernel_rfl) (by kernel_rfl) (fun _ _ _ h => h) (Or.inl ⟨by rfl, ?hpl3r6o14n66⟩) hS ?_
          case hpl3r6o14n66 => (intro wx hx; skip; go_simp; (try with_reducible rfl))
          try simp only [Act.put, List.setIfInBounds_toArray, List.set_cons_zero, List.set_cons_succ]
          refine wpAnyH_take (i := 15) (oi := { dst := some 47, op := Op.load 24 (Operand.tmp 6), type := 24, pos := "law.go:30", after := #[{ on := 14, ground := Ground.guard }], guard := some (14, true) }) (v := ?vpl3r6o15n67) rfl (by kernel_rfl) (by kernel_rfl) (by kernel_rfl) (fun _ _ _ h => h) (Or.inl ⟨by rfl, ?hpl3r6o15n67⟩) hS ?_
          case hpl3r6o15n67 => (intro wx hx; have yc0 := hx.cell c0 (by simp); have yc1 := hx.cell c1 (by simp); have yc2 := hx.cell c2 (by simp); have yc3 := hx.cell c3 (by simp); have yc4 := hx.cell c4 (by simp); have yc5 := hx.cell c5 (by simp); have yc6 := hx.cell c6 (by simp); have yc7 := hx.cell c7 (by simp); have yd0 := hx.cell d0 (by simp); have yd1 := hx.cell d1 (by simp); have yd2 := hx.cell d2 (by simp); have yd3 := hx.cell d3 (by simp); have yd4 := hx.cell d4 (by simp); have yd5 := hx.cell d5 (by simp); have yd6 := hx.cell d6 (by simp); have yd7 := hx.cell d7 (by simp); have ye0 := hx.cell e0 (by simp); have ye1 := hx.cell e1 (by simp); have ye2 := hx.cell e2 (by simp); have ye3 := hx.cell e3 (by simp); have ye4 := hx.cell e4 (by simp); have ye5 := hx.cell e5 (by simp); have ye6 := hx.cell e6 (by simp); have ye7 := hx.cell e7 (by simp); have hcvo := conv_at (P := Try.prog) (w := wx) 25 9 5 Try.underlying25 Try.underlying5 Try.underlying9 (hown.out.grown hx (fun _ _ _ => by simp)) HL.out (fun e => (Hon.out e).1) (cap := cap1); have hcvb := conv_at (P := Try.prog) (w := wx) 25 9 5 Try.underlying25 Try.underlying5 Try.underlying9 (hraw.out.grown hx (fun _ _ _ => by simp)) HL.out (fun e => (Hrn.out e).1) (cap := rc); go_simp; (try with_reducible rfl))
          try simp only [Act.put, List.setIfInBounds_toArray, List.set_cons_zero, List.set_cons_succ]
          refine wpAnyH_take (i := 16) (oi := { dst := some 48, op := Op.load 24 (Operand.tmp 8), type := 24, pos := "law.go:30", after := #[{ on := 14, ground := Ground.guard }], guard := some (14, true) }) (v := ?vpl3r6o16n68) rfl (by kernel_rfl) (by kernel_rfl) (by kernel_rfl) (fun _ _ _ h => h) (Or.inl ⟨by rfl, ?hpl3r6o16n68⟩) hS ?_
          case hpl3r6o16n68 => (intro wx hx; have yc0 := hx.cell c0 (by simp); have yc1 := hx.cell c1 (by simp); have yc2 := hx.cell c2 (by simp); have yc3 := hx.cell c3 (by simp); have yc4 := hx.cell c4 (by simp); have yc5 := hx.cell c5 (by simp); have yc6 := hx.cell c6 (by simp); have yc7 := hx.cell c7 (by simp); have yd0 := hx.cell d0 (by simp); have yd1 := hx.cell d1 (by simp); have yd2 := hx.cell d2 (by simp); have yd3 := hx.cell d3 (by simp); have yd4 := hx.cell d4 (by simp); have yd5 := hx.cell d5 (by simp); have yd6 := hx.cell d6 (by simp); have yd7 := hx.cell d7 (by simp); have ye0 := hx.cell e0 (by simp); have ye1 := hx.cell e1 (by simp); have ye2 := hx.cell e2 (by simp); have ye3 := hx.cell e3 (by simp); have ye4 := hx.cell e4 (by simp); have ye5 := hx.cell e5 (by simp); have ye6 := hx.cell e6 (by simp); have ye7 := hx.cell e7 (by simp); have hcvo := conv_at (P := Try.prog) (w := wx) 25 9 5 Try.underlying25 Try.underlying5 Try.underlying9 (hown.out.grown hx (fun _ _ _ => by simp)) HL.out (fun e => (Hon.out e).1) (cap := cap1); have hcvb := conv_at (P := Try.prog) (w := wx) 25 9 5 Try.underlying25 Try.underlying5 Try.underlying9 (hraw.out.grown hx (fun _ _ _ => by simp)) HL.out (fun e => (Hrn.out e).1) (cap := rc); go_simp; (try with_reducible rfl))
          try simp only [Act.put, List.setIfInBounds_toArray, List.set_cons_zero, List.set_cons_succ]
          refine wpAnyH_take (i := 17) (oi := { dst := some 49, op := Op.binOp BinOp.eql 24 (Operand.tmp 47) (Operand.tmp 48) 24, type := 4, pos := "law.go:30", after := #[{ on := 15, ground := Ground.data }, { on := 16, ground := Ground.data }, { on := 14, ground := Ground.guard }], guard := some (14, true) }) (v := ?vpl3r6o17n69) rfl (by kernel_rfl) (by kernel_rfl) (by kernel_rfl) (fun _ _ _ h => h) (Or.inl ⟨by rfl, ?hpl3r6o17n69⟩) hS ?_
          case hpl3r6o17n69 => (intro wx hx; skip; go_simp; (try with_reducible rfl))
          try simp only [Act.put, List.setIfInBounds_toArray, List.set_cons_zero, List.set_cons_succ]
          refine wpAnyH_take (i := 18) (oi := { dst := some 50, op := Op.pick (Operand.tmp 46) (Operand.tmp 49) (Operand.const (Value.bool false)), type := 4, pos := "law.go:30", after := #[{ on := 14, ground := Ground.data }, { on := 17, ground := Ground.data }], guard := none }) (v := ?vpl3r6o18n70) rfl (by kernel_rfl) (by kernel_rfl) (by kernel_rfl) (fun _ _ _ h => h) (Or.inl ⟨by rfl, ?hpl3r6o18n70⟩) hS ?_
          case hpl3r6o18n70 => (intro wx hx; skip; go_simp; (try with_reducible rfl))
          try simp only [Act.put, List.setIfInBounds_toArray, List.set_cons_zero, List.set_cons_succ]
          refine wpAnyH_take (i := 19) (oi := { dst := some 51, op := Op.move (Operand.tmp 50), type := 4, pos := "law.go:30", after := #[{ on := 18, ground := Ground.data }, { on := 14, ground := Ground.chain }], guard := none }) (v := ?vpl3r6o19n71) rfl (by kernel_rfl) (by kernel_rfl) (by kernel_rfl) (fun _ _ _ h => h) (Or.inl ⟨by rfl, ?hpl3r6o19n71⟩) hS ?_
          case hpl3r6o19n71 => (intro wx hx; skip; go_simp; (try with_reducible rfl))
          try simp only [Act.put, List.setIfInBounds_toArray, List.set_cons_zero, List.set_cons_succ]
          refine wpAnyH_take (i := 20) (oi := { dst := some 52, op := Op.move (Operand.tmp 7), type := 28, pos := "law.go:30", after := #[{ on := 19, ground := Ground.guard }], guard := some (19, true) }) (v := ?vpl3r6o20n72) rfl (by kernel_rfl) (by kernel_rfl) (by kernel_rfl) (fun _ _ _ h => h) (Or.inl ⟨by rfl, ?hpl3r6o20n72⟩) hS ?_
          case hpl3r6o20n72 => (intro wx hx; skip; go_simp; (try with_reducible rfl))
          try simp only [Act.put, List.setIfInBounds_toArray, List.set_cons_zero, List.set_cons_succ]
          refine wpAnyH_take (i := 21) (oi := { dst := some 53, op := Op.move (Operand.tmp 9), type := 28, pos := "law.go:30", after := #[{ on := 19, ground := Ground.guard }], guard := some (19, true) }) (v := ?vpl3r6o21n73) rfl (by kernel_rfl) (by kernel_rfl) (by kernel_rfl) (fun _ _ _ h => h) (Or.inl ⟨by rfl, ?hpl3r6o21n73⟩) hS ?_
          case hpl3r6o21n73 => (intro wx hx; skip; go_simp; (try with_reducible rfl))
          try simp only [Act.put, List.setIfInBounds_toArray, List.set_cons_zero, List.set_cons_succ]
          refine wpAnyH_take (i := 22) (oi := { dst := some 54, op := Op.binOp BinOp.eql 28 (Operand.tmp 52) (Operand.tmp 53) 28, type := 4, pos := "law.go:30", after := #[{ on := 20, ground := Ground.data }, { on := 21, ground := Ground.data }, { on := 19, ground := Ground.guard }], guard := some (19, true) }) (v := ?vpl3r6o22n74) rfl (by kernel_rfl) (by kernel_rfl) (by kernel_rfl) (fun _ _ _ h => h) (Or.inl ⟨by rfl, ?hpl3r6o22n74⟩) hS ?_
          case hpl3r6o22n74 => (intro wx hx; skip; go_simp; (try with_reducible rfl))
          try simp only [Act.put, List.setIfInBounds_toArray, List.set_cons_zero, List.set_cons_succ]
          refine wpAnyH_take (i := 23) (oi := { dst := some 55, op := Op.pick (Operand.tmp 51) (Operand.tmp 54) (Operand.const (Value.bool false)), type := 4, pos := "law.go:30", after := #[{ on := 19, ground := Ground.data }, { on := 22, ground := Ground.data }], guard := none }) (v := ?vpl3r6o23n75) rfl (by kernel_rfl) (by kernel_rfl) (by kernel_rfl) (fun _ _ _ h => h) (Or.inl ⟨by rfl, ?hpl3r6o23n75⟩) hS ?_
          case hpl3r6o23n75 => (intro wx hx; skip; go_simp; (try with_reducible rfl))
          try simp only [Act.put, List.setIfInBounds_toArray, List.set_cons_zero, List.set_cons_succ]
          refine wpAnyH_take (i := 24) (oi := { dst := some 56, op := Op.move (Operand.tmp 55), type := 4, pos := "law.go:30", after := #[{ on := 23, ground := Ground.data }, { on := 19, ground := Ground.chain }], guard := none }) (v := ?vpl3r6o24n76) rfl (by kernel_rfl) (by kernel_rfl) (by kernel_rfl) (fun _ _ _ h => h) (Or.inl ⟨by rfl, ?hpl3r6o24n76⟩) hS ?_
          case hpl3r6o24n76 => (intro wx hx; skip; go_simp; (try with_reducible rfl))
          try simp only [Act.put, List.setIfInBounds_toArray, List.set_cons_zero, List.set_cons_succ]
          refine wpAnyH_take (i := 25) (oi := { dst := some 57, op := Op.move (Operand.tmp 5), type := 25, pos := "law.go:30", after := #[{ on := 24, ground := Ground.guard }], guard := some (24, true) }) (v := ?vpl3r6o25n77) rfl (by kernel_rfl) (by kernel_rfl) (by kernel_rfl) (fun _ _ _ h => h) (Or.inl ⟨by rfl, ?hpl3r6o25n77⟩) hS ?_
          case hpl3r6o25n77 => (intro wx hx; skip; go_simp; (try with_reducible rfl))
          try simp only [Act.put, List.setIfInBounds_toArray, List.set_cons_zero, List.set_cons_succ]
          refine wpAnyH_take (i := 26) (oi := { dst := some 58, op := Op.convert 25 9 (Operand.tmp 57), type := 9, pos := "law.go:30", after := #[{ on := 25, ground := Ground.data }, { on := 24, ground := Ground.guard }], guard := some (24, true) }) (v := ?vpl3r6o26n78) rfl (by kernel_rfl) (by kernel_rfl) (by kernel_rfl) (fun _ _ _ h => h) (Or.inl ⟨by rfl, ?hpl3r6o26n78⟩) hS ?_
          case hpl3r6o26n78 => (intro wx hx; have yc0 := hx.cell c0 (by simp); have yc1 := hx.cell c1 (by simp); have yc2 := hx.cell c2 (by simp); have yc3 := hx.cell c3 (by simp); have yc4 := hx.cell c4 (by simp); have yc5 := hx.cell c5 (by simp); have yc6 := hx.cell c6 (by simp); have yc7 := hx.cell c7 (by simp); have yd0 := hx.cell d0 (by simp); have yd1 := hx.cell d1 (by simp); have yd2 := hx.cell d2 (by simp); have yd3 := hx.cell d3 (by simp); have yd4 := hx.cell d4 (by simp); have yd5 := hx.cell d5 (by simp); have yd6 := hx.cell d6 (by simp); have yd7 := hx.cell d7 (by simp); have ye0 := hx.cell e0 (by simp); have ye1 := hx.cell e1 (by simp); have ye2 := hx.cell e2 (by simp); have ye3 := hx.cell e3 (by simp); have ye4 := hx.cell e4 (by simp); have ye5 := hx.cell e5 (by simp); have ye6 := hx.cell e6 (by simp); have ye7 := hx.cell e7 (by simp); have hcvo := conv_at (P := Try.prog) (w := wx) 25 9 5 Try.underlying25 Try.underlying5 Try.underlying9 (hown.out.grown hx (fun _ _ _ => by simp)) HL.out (fun e => (Hon.out e).1) (cap := cap1); have hcvb := conv_at (P := Try.prog) (w := wx) 25 9 5 Try.underlying25 Try.underlying5 Try.underlying9 (hraw.out.grown hx (fun _ _ _ => by simp)) HL.out (fun e => (Hrn.out e).1) (cap := rc); go_simp; (try with_reducible rfl))
          try simp only [Act.put, List.setIfInBounds_toArray, List.set_cons_zero, List.set_cons_succ]
          refine wpAnyH_take (i := 27) (oi := { dst := some 59, op := Op.move (Operand.tmp 1), type := 25, pos := "law.go:30", after := #[{ on := 24, ground := Ground.guard }], guard := some (24, true) }) (v := ?vpl3r6o27n79) rfl (by kernel_rfl) (by kernel_rfl) (by kernel_rfl) (fun _ _ _ h => h) (Or.inl ⟨by rfl, ?hpl3r6o27n79⟩) hS ?_
          case hpl3r6o27n79 => (intro wx hx; skip; go_simp; (try with_reducible rfl))
          try simp only [Act.put, List.setIfInBounds_toArray, List.set_cons_zero, List.set_cons_succ]
          refine wpAnyH_take (i := 28) (oi := { dst := some 60, op := Op.convert 25 9 (Operand.tmp 59), type := 9, pos := "law.go:30", after := #[{ on := 27, ground := Ground.data }, { on := 24, ground := Ground.guard }], guard := some (24, true) }) (v := ?vpl3r6o28n80) rfl (by kernel_rfl) (by kernel_rfl) (by kernel_rfl) (fun _ _ _ h => h) (Or.inl ⟨by rfl, ?hpl3r6o28n80⟩) hS ?_
          case hpl3r6o28n80 => (intro wx hx; have yc0 := hx.cell c0 (by simp); have yc1 := hx.cell c1 (by simp); have yc2 := hx.cell c2 (by simp); have yc3 := hx.cell c3 (by simp); have yc4 := hx.cell c4 (by simp); have yc5 := hx.cell c5 (by simp); have yc6 := hx.cell c6 (by simp); have yc7 := hx.cell c7 (by simp); have yd0 := hx.cell d0 (by simp); have yd1 := hx.cell d1 (by simp); have yd2 := hx.cell d2 (by simp); have yd3 := hx.cell d3 (by simp); have yd4 := hx.cell d4 (by simp); have yd5 := hx.cell d5 (by simp); have yd6 := hx.cell d6 (by simp); have yd7 := hx.cell d7 (by simp); have ye0 := hx.cell e0 (by simp); have ye1 := hx.cell e1 (by simp); have ye2 := hx.cell e2 (by simp); have ye3 := hx.cell e3 (by simp); have ye4 := hx.cell e4 (by simp); have ye5 := hx.cell e5 (by simp); have ye6 := hx.cell e6 (by simp); have ye7 := hx.cell e7 (by simp); have hcvo := conv_at (P := Try.prog) (w := wx) 25 9 5 Try.underlying25 Try.underlying5 Try.underlying9 (hown.out.grown hx (fun _ _ _ => by simp)) HL.out (fun e => (Hon.out e).1) (cap := cap1); have hcvb := conv_at (P := Try.prog) (w := wx) 25 9 5 Try.underlying25 Try.underlying5 Try.underlying9 (hraw.out.grown hx (fun _ _ _ => by simp)) HL.out (fun e => (Hrn.out e).1) (cap := rc); go_simp; (try with_reducible rfl))
          try simp only [Act.put, List.setIfInBounds_toArray, List.set_cons_zero, List.set_cons_succ]
          refine wpAnyH_take (i := 29) (oi := { dst := some 61, op := Op.binOp BinOp.eql 9 (Operand.tmp 58) (Operand.tmp 60) 9, type := 4, pos := "law.go:30", after := #[{ on := 26, ground := Ground.data }, { on := 28, ground := Ground.data }, { on := 24, ground := Ground.guard }], guard := some (24, true) }) (v := ?vpl3r6o29n81) rfl (by kernel_rfl) (by kernel_rfl) (by kernel_rfl) (fun _ _ _ h => h) (Or.inl ⟨by rfl, ?hpl3r6o29n81⟩) hS ?_
          case hpl3r6o29n81 => (intro wx hx; skip; go_simp; (try with_reducible rfl))
          try simp only [Act.put, List.setIfInBounds_toArray, List.set_cons_zero, List.set_cons_succ]
          refine wpAnyH_take (i := 30) (oi := { dst := some 62, op := Op.pick (Operand.tmp 56) (Operand.tmp 61) (Operand.const (Value.bool false)), type := 4, pos := "law.go:30", after := #[{ on := 24, ground := Ground.data }, { on := 29, ground := Ground.data }], guard := none }) (v := ?vpl3r6o30n82) rfl (by kernel_rfl) (by kernel_rfl) (by kernel_rfl) (fun _ _ _ h => h) (Or.inl ⟨by rfl, ?hpl3r6o30n82⟩) hS ?_
          case hpl3r6o30n82 => (intro wx hx; skip; go_simp; (try with_reducible rfl))
          try simp only [Act.put, List.setIfInBounds_toArray, List.set_cons_zero, List.set_cons_succ]
          refine wpAnyH_take (i := 31) (oi := { dst := some 63, op := Op.move (Operand.tmp 62), type := 4, pos := "law.go:30", after := #[{ on := 30, ground := Ground.data }, { on := 24, ground := Ground.chain }], guard := none }) (v := ?vpl3r6o31n83) rfl (by kernel_rfl) (by kernel_rfl) (by kernel_rfl) (fun _ _ _ h => h) (Or.inl ⟨by rfl, ?hpl3r6o31n83⟩) hS ?_
          case hpl3r6o31n83 => (intro wx hx; skip; go_simp; (try with_reducible rfl))
          try simp only [Act.put, List.setIfInBounds_toArray, List.set_cons_zero, List.set_cons_succ]
          refine wpAnyH_ready (rs := [32]) (by kernel_rfl) (by simp) ?_
          refine AllReadyH.cons (o := { dst := some 64, op := Op.call { callee := Callee.value (Operand.func 10), args := #[], argTypes := #[] }, type := 4, pos := "law.go:30", after := #[{ on := 31, ground := Ground.chain }, { on := 31, ground := Ground.guard }], guard := some (31, true) }) rfl (fun K hK => ?_) AllReadyH.nil
          go_simp
          refine (works_ev _).mono ?_
          rintro e w8 ⟨rfl, hg⟩
          have hS1 := grown_trans hS hg
          clear hg
          refine hK.out _ _ ?hspl3r6o32n84 (fun hS => ?_)
          case hspl3r6o32n84 => (exact hS1)
          clear hK K
          try simp only [Act.put, List.setIfInBounds_toArray, List.set_cons_zero, List.set_cons_succ]
          refine wpAnyH_take (i := 33) (oi := { dst := some 65, op := Op.pick (Operand.tmp 63) (Operand.tmp 64) (Operand.const (Value.bool false)), type := 4, pos := "law.go:30", after := #[{ on := 31, ground := Ground.data }, { on := 32, ground := Ground.data }], guard := none }) (v := ?vpl3r6o33n85) rfl (by kernel_rfl) (by kernel_rfl) (by kernel_rfl) (fun _ _ _ h => h) (Or.inl ⟨by rfl, ?hpl3r6o33n85⟩) hS ?_
          case hpl3r6o33n85 => (intro wx hx; skip; go_simp; (try with_reducible rfl))
          try simp only [Act.put, List.setIfInBounds_toArray, List.set_cons_zero, List.set_cons_succ]
          refine wpAnyH_take (i := 34) (oi := { dst := some 4, op := Op.assign (Operand.tmp 65), type := 4, pos := "law.go:30", after := #[{ on := 33, ground := Ground.data }, { on := 32, ground := Ground.chain }, { on := 0, ground := Ground.phase }, { on := 1, ground := Ground.phase }, { on := 2, ground := Ground.phase }, { on := 3, ground := Ground.phase }, { on := 4, ground := Ground.phase }, { on := 5, ground := Ground.phase }, { on := 6, ground := Ground.phase }, { on := 7, ground := Ground.phase }, { on := 8, ground := Ground.phase }, { on := 9, ground := Ground.phase }, { on := 10, ground := Ground.phase }, { on := 11, ground := Ground.phase }, { on := 12, ground := Ground.phase }, { on := 13, ground := Ground.phase }, { on := 14, ground := Ground.phase }, { on := 15, ground := Ground.phase }, { on := 16, ground := Ground.phase }, { on := 17, ground := Ground.phase }, { on := 18, ground := Ground.phase }, { on := 19, ground := Ground.phase }, { on := 20, ground := Ground.phase }, { on := 21, ground := Ground.phase }, { on := 22, ground := Ground.phase }, { on := 23, ground := Ground.phase }, { on := 24, ground := Ground.phase }, { on := 25, ground := Ground.phase }, { on := 26, ground := Ground.phase }, { on := 27, ground := Ground.phase }, { on := 28, ground := Ground.phase }, { on := 29, ground := Ground.phase }, { on := 30, ground := Ground.phase }, { on := 31, ground := Ground.phase }, { on := 32, ground := Ground.phase }, { on := 33, ground := Ground.phase }], guard := none }) (v := ?vpl3r6o34n86) rfl (by kernel_rfl) (by kernel_rfl) (by kernel_rfl) (fun _ _ _ h => h) (Or.inl ⟨by rfl, ?hpl3r6o34n86⟩) hS ?_
          case hpl3r6o34n86 => (intro wx hx; skip; go_simp; (try with_reducible rfl))
          try simp only [Act.put, List.setIfInBounds_toArray, List.set_cons_zero, List.set_cons_succ]
          refine wpAnyH_done (by kernel_rfl) ?_ _
          go_wp2
          go_ret
          exact ⟨rfl, grown_trans hO.out.grown hS⟩
theorem walk (r : Rq) (rd : Option Addr) (rl rc : Nat) (zs : List Int) (w : World) (hr : r.Ok) (r1 : r.p.size ≤ 140737488351232) (r2 : r.t.size ≤ 140737488351232) (r3 : r.d.size ≤ 140737488351232) (hB : RowIn .u8 w rd rl rc zs) :
    Calls Try.prog 3 #[.agg r.cs, .slice rd rl rc] w (WorksOk w) := by
  obtain ⟨bs, hbl, hat⟩ := hB.bytes
  exact walk_n r rd rl rc bs hr r1 r2 r3 w hbl hat (fun e => hB.nil e) hB.2.1
end Go.Proofs.Ytlphmpimpeekcaa.requestPlays
