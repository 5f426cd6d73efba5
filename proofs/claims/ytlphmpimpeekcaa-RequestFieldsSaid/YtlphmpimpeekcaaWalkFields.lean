/- RequestFields, walked. -/
import Derived.Test.YtlphmpimpeekcaaReqJ
import Derived.Test.YtlphmpimpeekcaaReqL
import Derived.Test.YtlphmpimpeekcaaWalkOthers
namespace Go.Proofs.Ytlphmpimpeekcaa.requestFields
open Go.RowKit Go.Grommet
def WorksOk (w : World) (e : Ending) (w' : World) : Prop := e = .returned (.bool true) ∧ w.grownBy w' none

theorem getL_k (bs : List UInt8) : ∀ n, (getL bs n).r.k = (byteR bs 0 false).1
  | 0 => rfl
  | n + 1 => by
    cases hf : (flds (byteR bs 0 false).1)[n]? with
    | none =>
      have : getL bs (n + 1) = getL bs n := by unfold getL; rw [List.take_add_one, hf]; simp
      rw [this]; exact getL_k bs n
    | some f => rw [getL_succ hf, getF_k]; exact getL_k bs n
/-- With a kind that there is not they are none. -/
theorem get_bad {c : UInt8} {t : List UInt8} (h : ¬ (1 ≤ c.toNat ∧ c.toNat ≤ 13)) : getR (c :: t) = zeroRq ∧ getN (c :: t) = 4 := by
  have hk : (byteR (c :: t) 0 false).1 = c.toNat := by unfold byteR; simp
  have hm : mayQ (getE (c :: t)).r = false := by
    cases hm : mayQ (getE (c :: t)).r with
    | false => rfl
    | true =>
      have h2 := isKind_may hm
      unfold getE at h2
      rw [getL_k, hk] at h2
      exact absurd h2 h
  have hb : getB (c :: t) = false := by unfold getB; rw [hm]; simp
  unfold getR getN
  rw [hb]; exact ⟨rfl, rfl⟩

set_option maxRecDepth 100000 in
set_option maxHeartbeats 8000000 in
theorem walk_n (r : Rq) (kd : Nat) (hkd : kd < 256) (hr : r.Ok) (h1 : r.p.size ≤ 140737488351232) (h2 : r.t.size ≤ 140737488351232) (h3 : r.d.size ≤ 140737488351232) (w : World) :
    Calls Try.prog 5 #[.agg r.cs, .int .u8 (kd : Int)] w (WorksOk w) := by
  have HFw := Lib.hid (fun wx => Few_any r h1 h2 h3 wx)
  have HM := Lib.hid (fun wx => May_any r hr wx)
  have hO := Lib.hid ((Own.nil w).addBox 24 r.cs)
  obtain ⟨G, hG⟩ : ∃ G, w.heap.size = G := ⟨_, rfl⟩
  rw [hG] at hO
  have c0 := (own_cellB hO.out 0 rfl 0 (u := .int .u8 (r.k : Int)) rfl).1
  have c1 := (own_cellB hO.out 0 rfl 1 (u := .int .u8 (r.fl : Int)) rfl).1
  have c2 := (own_cellB hO.out 0 rfl 2 (u := .int .u64 (r.fd : Int)) rfl).1
  have c3 := (own_cellB hO.out 0 rfl 3 (u := .int .u64 (r.at_ : Int)) rfl).1
  have c4 := (own_cellB hO.out 0 rfl 4 (u := .int .u64 (r.sz : Int)) rfl).1
  have c5 := (own_cellB hO.out 0 rfl 5 (u := .string r.p) rfl).1
  have c6 := (own_cellB hO.out 0 rfl 6 (u := .string r.t) rfl).1
  have c7 := (own_cellB hO.out 0 rfl 7 (u := .string r.d) rfl).1
  obtain ⟨fb, hfb⟩ : ∃ fb, decide (r.p.size + r.t.size + r.d.size ≤ 2048) = fb := ⟨_, rfl⟩
  rw [hfb] at HFw
  obtain ⟨mb, hmb⟩ : ∃ mb, mayQ r = mb := ⟨_, rfl⟩
  rw [hmb] at HM
  have Hfb := Lib.hid hfb
  have Hmb := Lib.hid hmb
  have Hr := Lib.hid hr
  have Hkd := Lib.hid hkd
  unfold Rq.cs at HM HFw
  clear h1 h2 h3 hfb hmb hr hkd
  go_enter Try.func5, Try.ntmps5
  go_upto_region 1 with fail
  try (change Code.wp _ _ _ _ (w.alloc (.cells r.cs 24)))
  generalize World.alloc _ _ = w1 at *
  clear hG
  go_wp2_with fail
  refine (HFw.out _).mono ?_
  rintro e w2 ⟨rfl, hg⟩
  replace hO := Lib.hid (hO.out.quiet hg)
  clear c0 c1 c2 c3 c4 c5 c6 c7
  clear hg HFw
  cases fb
  · go_wp2_with fail
    refine (works_ev _).mono ?_
    rintro e w9 ⟨rfl, hg⟩
    go_wp2
    go_ret
    exact ⟨rfl, grown_trans hO.out.grown hg⟩
  · have hfew : r.Few := by
      have := of_decide_eq_true Hfb.out
      exact ⟨by omega, by omega, by omega⟩
    have HP := Lib.hid (fun wx => (show Calls Try.prog 15 #[.agg #[.int .u8 (r.k : Int), .int .u8 (r.fl : Int), .int .u64 (r.fd : Int), .int .u64 (r.at_ : Int), .int .u64 (r.sz : Int), .string r.p, .string r.t, .string r.d]] wx (MadeIs wx (putQ r)) from Put_any r Hr.out hfew wx))
    have Hfew := Lib.hid hfew
    clear hfew Hfb
    have c0 := (own_cellB hO.out 0 rfl 0 (u := .int .u8 (r.k : Int)) rfl).1
    have c1 := (own_cellB hO.out 0 rfl 1 (u := .int .u8 (r.fl : Int)) rfl).1
    have c2 := (own_cellB hO.out 0 rfl 2 (u := .int .u64 (r.fd : Int)) rfl).1
    have c3 := (own_cellB hO.out 0 rfl 3 (u := .int .u64 (r.at_ : Int)) rfl).1
    have c4 := (own_cellB hO.out 0 rfl 4 (u := .int .u64 (r.sz : Int)) rfl).1
    have c5 := (own_cellB hO.out 0 rfl 5 (u := .string r.p) rfl).1
    have c6 := (own_cellB hO.out 0 rfl 6 (u := .string r.t) rfl).1
    have c7 := (own_cellB hO.out 0 rfl 7 (u := .string r.d) rfl).1
    go_wp2_with fail
    refine (HP.out _).mono ?_
    rintro e w3 ⟨ad, cap, rfl, hat, hnil, ⟨hcap, _⟩, hg⟩
    replace hO := Lib.hid (hO.out.quiet hg)
    clear c0 c1 c2 c3 c4 c5 c6 c7
    clear hg HP
    obtain ⟨X, hX⟩ : ∃ X, putQ r = X := ⟨_, rfl⟩
    have hX2 := hX
    unfold putQ at hX2
    rw [hX] at hat hnil hcap ⊢
    have HX := Lib.hid hX
    obtain ⟨L, hL⟩ : ∃ L, X.length = L := ⟨_, rfl⟩
    rw [hL] at hnil hcap ⊢
    have HL := Lib.hid hL
    have hat := Lib.hid hat
    have hnil := Lib.hid hnil
    have hcap := Lib.hid hcap
    clear hX
    have c0 := (own_cellB hO.out 0 rfl 0 (u := .int .u8 (r.k : Int)) rfl).1
    have c1 := (own_cellB hO.out 0 rfl 1 (u := .int .u8 (r.fl : Int)) rfl).1
    have c2 := (own_cellB hO.out 0 rfl 2 (u := .int .u64 (r.fd : Int)) rfl).1
    have c3 := (own_cellB hO.out 0 rfl 3 (u := .int .u64 (r.at_ : Int)) rfl).1
    have c4 := (own_cellB hO.out 0 rfl 4 (u := .int .u64 (r.sz : Int)) rfl).1
    have c5 := (own_cellB hO.out 0 rfl 5 (u := .string r.p) rfl).1
    have c6 := (own_cellB hO.out 0 rfl 6 (u := .string r.t) rfl).1
    have c7 := (own_cellB hO.out 0 rfl 7 (u := .string r.d) rfl).1
    go_wp2_with fail
    refine (HM.out _).mono ?_
    rintro e w4 ⟨rfl, hg⟩
    replace hO := Lib.hid (hO.out.quiet hg)
    replace hat := Lib.hid (hat.out.grown hg (fun _ _ _ => by simp))
    clear c0 c1 c2 c3 c4 c5 c6 c7
    clear hg HM
    cases mb
    · obtain rfl : L = 0 := by
        rw [Hmb.out] at hX2
        rw [← hL, ← hX2]; rfl
      clear hX2 hL
      go_wp2_with fail
      refine (works_ev _).mono ?_
      rintro e w9 ⟨rfl, hg⟩
      go_wp2
      go_ret
      exact ⟨rfl, grown_trans hO.out.grown hg⟩
    · have hX3 : X = putL r (flds r.k).length := by rw [← hX2, Hmb.out]; rfl
      have HBy := Lib.hid (fun wx => (show Calls Try.prog 17 #[.agg #[.int .u8 (r.k : Int), .int .u8 (r.fl : Int), .int .u64 (r.fd : Int), .int .u64 (r.at_ : Int), .int .u64 (r.sz : Int), .string r.p, .string r.t, .string r.d]] wx (MadeIs wx (putQ r)) from bytes_any r Hr.out Hfew.out Hmb.out wx))
      rw [HX.out] at HBy
      have hL2 : 2 ≤ L := by
        have hk := isKind_may Hmb.out
        rw [← hL, hX3]
        have hf0 : ∃ f, (flds r.k)[0]? = some f := by
          obtain ⟨k, fl, fd, at_, sz, p, t, d⟩ := r
          simp only at hk ⊢
          have : k = 1 ∨ k = 2 ∨ k = 3 ∨ k = 4 ∨ k = 5 ∨ k = 6 ∨ k = 7 ∨ k = 8 ∨ k = 9 ∨ k = 10 ∨ k = 11 ∨ k = 12 ∨ k = 13 := by omega
          rcases this with rfl | rfl | rfl | rfl | rfl | rfl | rfl | rfl | rfl | rfl | rfl | rfl | rfl <;> exact ⟨_, rfl⟩
        obtain ⟨f, hf⟩ := hf0
        obtain ⟨f0, fs, hfs⟩ : ∃ f0 fs, flds r.k = f0 :: fs := by
          cases hq : flds r.k with
          | nil => rw [hq] at hf; cases hf
          | cons a l => exact ⟨a, l, rfl⟩
        unfold putL
        rw [List.take_length, hfs]
        simp only [List.length_cons, List.flatMap_cons, List.length_append]
        have : 1 ≤ (r.put f0).length := by cases f0 <;> simp [Rq.put, num] <;> omega
        omega
      have hL3 : L ≤ 1000000 := by
        rw [← hL, hX3]
        have := putL_len Hr.out Hfew.out (flds r.k).length
        have := flds_len r.k
        omega
      clear hX2 hL hX3
      have c0 := (own_cellB hO.out 0 rfl 0 (u := .int .u8 (r.k : Int)) rfl).1
      have c1 := (own_cellB hO.out 0 rfl 1 (u := .int .u8 (r.fl : Int)) rfl).1
      have c2 := (own_cellB hO.out 0 rfl 2 (u := .int .u64 (r.fd : Int)) rfl).1
      have c3 := (own_cellB hO.out 0 rfl 3 (u := .int .u64 (r.at_ : Int)) rfl).1
      have c4 := (own_cellB hO.out 0 rfl 4 (u := .int .u64 (r.sz : Int)) rfl).1
      have c5 := (own_cellB hO.out 0 rfl 5 (u := .string r.p) rfl).1
      have c6 := (own_cellB hO.out 0 rfl 6 (u := .string r.t) rfl).1
      have c7 := (own_cellB hO.out 0 rfl 7 (u := .string r.d) rfl).1
      go_upto_region 6 with fail
      refine wp_region_held_drew (S := fun wx => World.grownBy w4 wx none) (by kernel_rfl) (grown_drew (World.grownBy.refl _ none)) (fun hS => ?_)
      generalize World.drew _ = wD at hS ⊢
      refine wpAnyH_take (i := 0) (oi := { dst := some 24, op := Op.move (Operand.tmp 5), type := 25, pos := "more.go:44", after := #[], guard := none }) (v := ?vfi5r6o0n1) rfl (by kernel_rfl) (by kernel_rfl) (by kernel_rfl) (fun _ _ _ h => h) (Or.inl ⟨by rfl, ?hfi5r6o0n1⟩) hS ?_
      case hfi5r6o0n1 => (intro wx hx; skip; go_simp; (try with_reducible rfl))
      try simp only [Act.put, List.setIfInBounds_toArray, List.set_cons_zero, List.set_cons_succ]
      refine wpAnyH_take (i := 1) (oi := { dst := some 25, op := Op.convert 25 9 (Operand.tmp 24), type := 9, pos := "more.go:44", after := #[{ on := 0, ground := Ground.data }], guard := none }) (v := ?vfi5r6o1n2) rfl (by kernel_rfl) (by kernel_rfl) (by kernel_rfl) (fun _ _ _ h => h) (Or.inl ⟨by rfl, ?hfi5r6o1n2⟩) hS ?_
      case hfi5r6o1n2 => (intro wx hx; have y0 := hx.cell c0 (by simp); have y1 := hx.cell c1 (by simp); have y2 := hx.cell c2 (by simp); have y3 := hx.cell c3 (by simp); have y4 := hx.cell c4 (by simp); have y5 := hx.cell c5 (by simp); have y6 := hx.cell c6 (by simp); have y7 := hx.cell c7 (by simp); have hcv1 := conv_at (P := Try.prog) (w := wx) 25 9 5 Try.underlying25 Try.underlying5 Try.underlying9 (hat.out.grown hx (fun _ _ _ => by simp)) HL.out (fun e => (hnil.out e).1) (cap := cap); go_simp; (try with_reducible rfl))
      try simp only [Act.put, List.setIfInBounds_toArray, List.set_cons_zero, List.set_cons_succ]
      refine wpAnyH_take (i := 2) (oi := { dst := some 26, op := Op.load 24 (Operand.tmp 2), type := 24, pos := "more.go:44", after := #[], guard := none }) (v := ?vfi5r6o2n3) rfl (by kernel_rfl) (by kernel_rfl) (by kernel_rfl) (fun _ _ _ h => h) (Or.inl ⟨by rfl, ?hfi5r6o2n3⟩) hS ?_
      case hfi5r6o2n3 => (intro wx hx; have y0 := hx.cell c0 (by simp); have y1 := hx.cell c1 (by simp); have y2 := hx.cell c2 (by simp); have y3 := hx.cell c3 (by simp); have y4 := hx.cell c4 (by simp); have y5 := hx.cell c5 (by simp); have y6 := hx.cell c6 (by simp); have y7 := hx.cell c7 (by simp); have hcv1 := conv_at (P := Try.prog) (w := wx) 25 9 5 Try.underlying25 Try.underlying5 Try.underlying9 (hat.out.grown hx (fun _ _ _ => by simp)) HL.out (fun e => (hnil.out e).1) (cap := cap); go_simp; (try with_reducible rfl))
      try simp only [Act.put, List.setIfInBounds_toArray, List.set_cons_zero, List.set_cons_succ]
      refine wpAnyH_ready (rs := [3]) (by kernel_rfl) (by simp) ?_
      refine AllReadyH.cons (o := { dst := some 27, op := Op.call { callee := Callee.value (Operand.func 17), args := #[Operand.tmp 26], argTypes := #[24] }, type := 25, pos := "more.go:44", after := #[{ on := 2, ground := Ground.data }], guard := none }) rfl (fun K hK => ?_) AllReadyH.nil
      go_simp
      refine (HBy.out _).mono ?_
      rintro e w5 ⟨ad2, cap2, rfl, a1, a2, ⟨a4, a3⟩, hg⟩
      have hS1 := grown_trans hS hg
      have hcv2 := conv_at (P := Try.prog) (w := w5) 25 9 5 Try.underlying25 Try.underlying5 Try.underlying9 a1 rfl (fun e => (a2 e).1) (cap := cap2)
      clear a1 a2 a3 a4 hg
      refine hK.out _ _ ?hsfi5r6o3n4 (fun hS => ?_)
      case hsfi5r6o3n4 => (exact hS1)
      clear hK K
      try simp only [Act.put, List.setIfInBounds_toArray, List.set_cons_zero, List.set_cons_succ]
      refine wpAnyH_ready (rs := [4]) (by kernel_rfl) (by simp) ?_
      refine AllReadyH.cons (o := { dst := some 28, op := Op.convert 25 9 (Operand.tmp 27), type := 9, pos := "more.go:44", after := #[{ on := 3, ground := Ground.data }], guard := none }) rfl (fun K hK => ?_) AllReadyH.nil
      go_simp
      skip
      refine hK.out _ _ ?hsfi5r6o4n5 (fun hS => ?_)
      case hsfi5r6o4n5 => (exact hS)
      clear hK K
      try simp only [Act.put, List.setIfInBounds_toArray, List.set_cons_zero, List.set_cons_succ]
      refine wpAnyH_take (i := 5) (oi := { dst := some 29, op := Op.binOp BinOp.neq 9 (Operand.tmp 25) (Operand.tmp 28) 9, type := 4, pos := "more.go:44", after := #[{ on := 1, ground := Ground.data }, { on := 4, ground := Ground.data }], guard := none }) (v := ?vfi5r6o5n6) rfl (by kernel_rfl) (by kernel_rfl) (by kernel_rfl) (fun _ _ _ h => h) (Or.inl ⟨by rfl, ?hfi5r6o5n6⟩) hS ?_
      case hfi5r6o5n6 => (intro wx hx; skip; go_simp; (try with_reducible rfl))
      try simp only [Act.put, List.setIfInBounds_toArray, List.set_cons_zero, List.set_cons_succ]
      refine wpAnyH_done (by kernel_rfl) ?_ _

      have hg5 := hS
      replace hO := Lib.hid (hO.out.quiet hg5)
      replace hat := Lib.hid (hat.out.grown hg5 (fun _ _ _ => by simp))
      clear hcv2 hS hg5 HBy
      clear c0 c1 c2 c3 c4 c5 c6 c7
      by_cases hk : 1 ≤ kd ∧ kd ≤ 13
      · have k1 : (1 : Int) ≤ (kd : Int) := by omega
        have k2 : (kd : Int) ≤ 13 := by omega
        clear hk hL2 hL3
        go_wp2_with fail
        refine (works_ev _).mono ?_
        rintro e w9 ⟨rfl, hg⟩
        go_wp2
        go_ret
        exact ⟨rfl, grown_trans hO.out.grown hg⟩
      · have hXc : 0 < X.length := by rw [HL.out]; omega
        obtain ⟨g, o, had, hcc⟩ := hat.out 0 (bv (X[0]'hXc)) (by rw [List.getElem?_map, List.getElem?_eq_getElem hXc]; rfl)
        subst had
        clear hcc
        have htl : At w5 (some ⟨g, o + 1, none⟩) ((X.drop 1).map bv) := by
          intro j u hu
          rw [List.getElem?_map, List.getElem?_drop] at hu
          obtain ⟨g', o', e1, e2⟩ := hat.out (1 + j) u (by rw [List.getElem?_map]; exact hu)
          cases e1
          exact ⟨g, o + 1, rfl, by rw [show o + 1 + j = o + (1 + j) by omega]; exact e2⟩
        obtain ⟨m, hm⟩ : ∃ m, L = m + 1 := ⟨L - 1, by omega⟩
        have hml : (X.drop 1).length = m := by rw [List.length_drop, HL.out]; omega
        have hmb2 : m ≤ 1000000 := by omega
        have hm1 : 1 ≤ m := by omega
        subst hm
        have hk2 : kd = 0 ∨ 13 < kd := by omega
        have hcap2 := hcap.out
        obtain ⟨E, hE⟩ : ∃ E, w5.heap.size = E := ⟨_, rfl⟩
        have hkv : bv (UInt8.ofNat kd) = .int .u8 (kd : Int) := by unfold bv; rw [UInt8.toNat_ofNat']; congr 2; have := Hkd.out; omega
        have hrow0 : (w5.alloc (.cells #[.int .u8 (kd : Int)] 5)).ownsRow 0 5 1 (.slice (some ⟨E, 0, none⟩) 1 1) 1 [.int .u8 (kd : Int)] := by
          rw [← hE]; exact ⟨rfl, .inr ⟨w5.heap.size, 1, #[.int .u8 (kd : Int)], rfl, Nat.zero_le _, heap_alloc_new w5 _, Nat.le_refl _, (by unfold maxLen; decide), rfl, rfl⟩⟩
        have hrow0 := Lib.hid hrow0
        have hnews := Lib.hid ((htl.grown (World.grownBy_alloc w5 (.cells #[.int .u8 (kd : Int)] 5) none) (fun _ _ _ => by simp)).some)
        have hml := Lib.hid hml
        have HG : Hid (∀ wx ad cap, At wx ad ((UInt8.ofNat kd :: X.drop 1).map bv) → (ad = none → m + 1 = 0 ∧ cap = 0) → Calls Try.prog 11 #[.slice ad (1 + m) cap] wx fun e w' => e = .returned (.tuple #[.agg #[.int .u8 0, .int .u8 0, .int .u64 0, .int .u64 0, .int .u64 0, .string ⟨#[]⟩, .string ⟨#[]⟩, .string ⟨#[]⟩], .int .i64 4]) ∧ wx.grownBy w' none) := Lib.hid (fun wx ad cap h1 h2 => by
          have hb := get_bad (c := UInt8.ofNat kd) (t := X.drop 1) (by rw [UInt8.toNat_ofNat']; have := Hkd.out; omega)
          have := Get_any ad (1 + m) cap (UInt8.ofNat kd :: X.drop 1) wx (by rw [List.length_cons, hml.out]; omega) h1 (fun e => by have := h2 e; omega) (by omega)
          rw [hb.1, hb.2] at this
          exact this)
        have Hkv := Lib.hid hkv
        have Ht : Hid ((X.drop 1).map bv = (X.map bv).tail) := Lib.hid (by rw [List.map_drop, List.drop_one])
        have Hlen := Lib.hid (And.intro hmb2 hm1)
        obtain ⟨ii0, hi0, hz0, hz1, hz2⟩ := info_parts Try.info5
        clear hk hXc htl hkv hat
        rcases hk2 with h0 | h13
        · have k0 : (kd : Int) < 1 := by omega
          clear h0
          go_upto_region 10 with fail
          go_wp2_with (at_builtin; refine wpList_append_blk _ rfl _ _ 25 rfl 0 5 ii0 (.int .u8 0) 1 1 Try.underlying25 hi0 hz0 hz1 hz2 rfl (by decide) (.slice (some ⟨E, 0, none⟩) 1 1) 1 [.int .u8 (kd : Int)] rfl hrow0.out ⟨g, o + 1, none⟩ m (cap - 1) ((X.drop 1).map bv) rfl (by rw [List.length_map, hml.out]; omega) hnews.out ?a1 ?a2 ?a3 (Nat.zero_le _) ?_)
          case a1 =>
            intro u hu
            try rw [← Ht.out] at hu
            obtain ⟨c, _, rfl⟩ := List.mem_map.1 hu
            rfl
          case a2 => unfold maxLen; have := Hlen.out; omega
          case a3 => have := Hlen.out; omega
          intro ad5 cap5 w6 hrow5 hg5 hnew5
          have hgw : w5.grownBy w6 none := grown_new (World.grownBy_alloc w5 (.cells #[.int .u8 (kd : Int)] 5) none) hg5 (fun j e => by cases e; rw [← hE]; exact Nat.le_refl _)
          replace hO := Lib.hid (hO.out.quiet hgw)
          obtain ⟨ad6, cap6, he, a1, a2, _⟩ := at_of_owns hrow5
          cases he
          have HGt := Lib.hid (HG.out w6 ad5 cap5 (by rw [List.map_cons, Hkv.out]; first | exact a1 | (rw [Ht.out]; exact a1)) (fun e => by have := a2 e; omega))
          clear hrow0 hnews hrow5 hg5 hnew5 hgw a1 a2 HG hE hi0 hz0 hz1 hz2 hml Hkv
          go_wp2_with fail
          refine HGt.out.mono ?_
          rintro e w7 ⟨rfl, hg⟩
          have hOn := (hO.out.quiet hg).addBox 24 #[.int .u8 0, .int .u8 0, .int .u64 0, .int .u64 0, .int .u64 0, .string ⟨#[]⟩, .string ⟨#[]⟩, .string ⟨#[]⟩]
          obtain ⟨Q, hQ⟩ : ∃ Q, w7.heap.size = Q := ⟨_, rfl⟩
          rw [hQ] at hOn
          clear hg HGt hO
          go_upto_region 12 with fail
          generalize World.alloc _ _ = w8 at hOn ⊢
          have hO := Lib.hid hOn
          clear hQ hOn
          have z0 := (own_cellB hO.out 1 rfl 0 (u := .int .u8 0) rfl).1
          have z1 := (own_cellB hO.out 1 rfl 1 (u := .int .u8 0) rfl).1
          have z2 := (own_cellB hO.out 1 rfl 2 (u := .int .u64 0) rfl).1
          have z3 := (own_cellB hO.out 1 rfl 3 (u := .int .u64 0) rfl).1
          have z4 := (own_cellB hO.out 1 rfl 4 (u := .int .u64 0) rfl).1
          have z5 := (own_cellB hO.out 1 rfl 5 (u := .string ⟨#[]⟩) rfl).1
          have z6 := (own_cellB hO.out 1 rfl 6 (u := .string ⟨#[]⟩) rfl).1
          have z7 := (own_cellB hO.out 1 rfl 7 (u := .string ⟨#[]⟩) rfl).1
          go_wp2_with fail
          refine (works_ev _).mono ?_
          rintro e w9 ⟨rfl, hg⟩
          go_wp2
          go_ret
          exact ⟨rfl, grown_trans hO.out.grown hg⟩

        · have k0 : (1 : Int) ≤ (kd : Int) := by omega
          have k1 : (13 : Int) < (kd : Int) := by omega
          clear h13
          go_upto_region 10 with fail
          go_wp2_with (at_builtin; refine wpList_append_blk _ rfl _ _ 25 rfl 0 5 ii0 (.int .u8 0) 1 1 Try.underlying25 hi0 hz0 hz1 hz2 rfl (by decide) (.slice (some ⟨E, 0, none⟩) 1 1) 1 [.int .u8 (kd : Int)] rfl hrow0.out ⟨g, o + 1, none⟩ m (cap - 1) ((X.drop 1).map bv) rfl (by rw [List.length_map, hml.out]; omega) hnews.out ?a1 ?a2 ?a3 (Nat.zero_le _) ?_)
          case a1 =>
            intro u hu
            try rw [← Ht.out] at hu
            obtain ⟨c, _, rfl⟩ := List.mem_map.1 hu
            rfl
          case a2 => unfold maxLen; have := Hlen.out; omega
          case a3 => have := Hlen.out; omega
          intro ad5 cap5 w6 hrow5 hg5 hnew5
          have hgw : w5.grownBy w6 none := grown_new (World.grownBy_alloc w5 (.cells #[.int .u8 (kd : Int)] 5) none) hg5 (fun j e => by cases e; rw [← hE]; exact Nat.le_refl _)
          replace hO := Lib.hid (hO.out.quiet hgw)
          obtain ⟨ad6, cap6, he, a1, a2, _⟩ := at_of_owns hrow5
          cases he
          have HGt := Lib.hid (HG.out w6 ad5 cap5 (by rw [List.map_cons, Hkv.out]; first | exact a1 | (rw [Ht.out]; exact a1)) (fun e => by have := a2 e; omega))
          clear hrow0 hnews hrow5 hg5 hnew5 hgw a1 a2 HG hE hi0 hz0 hz1 hz2 hml Hkv
          go_wp2_with fail
          refine HGt.out.mono ?_
          rintro e w7 ⟨rfl, hg⟩
          have hOn := (hO.out.quiet hg).addBox 24 #[.int .u8 0, .int .u8 0, .int .u64 0, .int .u64 0, .int .u64 0, .string ⟨#[]⟩, .string ⟨#[]⟩, .string ⟨#[]⟩]
          obtain ⟨Q, hQ⟩ : ∃ Q, w7.heap.size = Q := ⟨_, rfl⟩
          rw [hQ] at hOn
          clear hg HGt hO
          go_upto_region 12 with fail
          generalize World.alloc _ _ = w8 at hOn ⊢
          have hO := Lib.hid hOn
          clear hQ hOn
          have z0 := (own_cellB hO.out 1 rfl 0 (u := .int .u8 0) rfl).1
          have z1 := (own_cellB hO.out 1 rfl 1 (u := .int .u8 0) rfl).1
          have z2 := (own_cellB hO.out 1 rfl 2 (u := .int .u64 0) rfl).1
          have z3 := (own_cellB hO.out 1 rfl 3 (u := .int .u64 0) rfl).1
          have z4 := (own_cellB hO.out 1 rfl 4 (u := .int .u64 0) rfl).1
          have z5 := (own_cellB hO.out 1 rfl 5 (u := .string ⟨#[]⟩) rfl).1
          have z6 := (own_cellB hO.out 1 rfl 6 (u := .string ⟨#[]⟩) rfl).1
          have z7 := (own_cellB hO.out 1 rfl 7 (u := .string ⟨#[]⟩) rfl).1
          go_wp2_with fail
          refine (works_ev _).mono ?_
          rintro e w9 ⟨rfl, hg⟩
          go_wp2
          go_ret
          exact ⟨rfl, grown_trans hO.out.grown hg⟩


theorem walk (r : Rq) (a1 : Int) (w : World) (hr : r.Ok) (h1 : r.p.size ≤ 140737488351232) (h2 : r.t.size ≤ 140737488351232) (h3 : r.d.size ≤ 140737488351232) (hw : (Lit.int .u8 a1).wf = true) : Calls Try.prog 5 #[.agg r.cs, .int .u8 a1] w (WorksOk w) := by
  have b1 := bounds_u8 hw
  obtain ⟨kd, rfl⟩ := Int.eq_ofNat_of_zero_le b1.1
  exact walk_n r kd (by omega) hr h1 h2 h3 w
end Go.Proofs.Ytlphmpimpeekcaa.requestFields
