/- Package request: Put. -/
import Derived.Test.YtlphmpimpeekcaaReqD
import Derived.Test.YtlphmpimpeekcaaReqE
namespace Go.Proofs.Ytlphmpimpeekcaa
open Go.RowKit Go.Grommet

def putL (r : Rq) (n : Nat) : List UInt8 := UInt8.ofNat r.k :: ((flds r.k).take n).flatMap r.put
theorem putL_succ {r : Rq} {n : Nat} {f : Fd} (h : (flds r.k)[n]? = some f) : putL r (n + 1) = putL r n ++ r.put f := by
  unfold putL
  rw [List.take_add_one, h, List.flatMap_append]; simp
def putQ (r : Rq) : List UInt8 := if mayQ r = true then putL r (flds r.k).length else []
theorem put_len {r : Rq} (hr : r.Ok) (hf : r.Few) (f : Fd) : (r.put f).length ≤ 100009 := by
  have nl : ∀ n, n < 2 ^ 64 → (num n).length ≤ 9 := fun n h => by
    have := nb_le n h
    rw [length_num]; omega
  have a1 := hf.p; have a2 := hf.t; have a3 := hf.d
  have b1 := hr.fl; have b2 := hr.fd; have b3 := hr.at_; have b4 := hr.sz
  cases f <;> simp only [Rq.put, List.length_append, length_bytesOf]
  · have := nl r.p.size (by omega); omega
  · have := nl r.fl (by omega); omega
  · have := nl r.fd (by omega); omega
  · have := nl r.sz (by omega); omega
  · have := nl r.d.size (by omega); omega
  · have := nl r.at_ (by omega); omega
  · have := nl r.t.size (by omega); omega
theorem putL_len {r : Rq} (hr : r.Ok) (hf : r.Few) : ∀ n, (putL r n).length ≤ 1 + 100009 * n
  | 0 => by simp [putL]
  | n + 1 => by
    have ih := putL_len hr hf n
    cases h : (flds r.k)[n]? with
    | none =>
      have : putL r (n + 1) = putL r n := by unfold putL; rw [List.take_add_one, h]; simp
      rw [this]; omega
    | some f => rw [putL_succ h, List.length_append]; have := put_len hr hf f; omega

set_option maxRecDepth 100000 in
set_option maxHeartbeats 4000000 in
theorem Put_any (r : Rq) (hr : r.Ok) (hf : r.Few) (w : World) : Calls Try.prog 15 #[.agg r.cs] w (MadeIs w (putQ r)) := by
  have hO0 := (Own.nil w).addBox 24 r.cs
  obtain ⟨G, hG⟩ : ∃ G, w.heap.size = G := ⟨_, rfl⟩
  rw [hG] at hO0
  have Hk := Lib.hid hr.k
  have Hr := Lib.hid hr
  have Hf := Lib.hid hf
  have c0 := (own_cellB hO0 0 rfl 0 (u := .int .u8 (r.k : Int)) rfl).1
  have c1 := (own_cellB hO0 0 rfl 1 (u := .int .u8 (r.fl : Int)) rfl).1
  have c2 := (own_cellB hO0 0 rfl 2 (u := .int .u64 (r.fd : Int)) rfl).1
  have c3 := (own_cellB hO0 0 rfl 3 (u := .int .u64 (r.at_ : Int)) rfl).1
  have c4 := (own_cellB hO0 0 rfl 4 (u := .int .u64 (r.sz : Int)) rfl).1
  have c5 := (own_cellB hO0 0 rfl 5 (u := .string r.p) rfl).1
  have c6 := (own_cellB hO0 0 rfl 6 (u := .string r.t) rfl).1
  have c7 := (own_cellB hO0 0 rfl 7 (u := .string r.d) rfl).1
  have HM := Lib.hid (fun wx => May_any r hr wx)
  obtain ⟨mb, hmb⟩ : ∃ mb, mayQ r = mb := ⟨_, rfl⟩
  rw [hmb] at HM
  have Hmb := Lib.hid hmb
  have hO := Lib.hid hO0
  unfold Rq.cs at HM
  clear hO0 hr hf hmb
  go_enter Try.func15, Try.ntmps15
  go_upto_region 1 with fail
  try (change Code.wp _ _ _ _ (w.alloc (.cells r.cs 24)))
  generalize World.alloc _ _ = w1 at *
  go_wp2_with fail
  refine (HM.out _).mono ?_
  rintro e w2 ⟨rfl, hg2⟩
  have hO := Lib.hid (hO.out.quiet hg2)
  clear c0 c1 c2 c3 c4 c5 c6 c7
  have c0 := (own_cellB hO.out 0 rfl 0 (u := .int .u8 (r.k : Int)) rfl).1
  clear hg2 HM
  cases mb
  · have hg := Lib.hid hO.out.grown
    clear hO
    go_wp2
    go_ret
    refine ⟨none, 0, ?_, ?_, fun _ => ⟨?_, rfl⟩, ⟨?_, fun a e => by cases e⟩, hg.out⟩
    · unfold putQ; rw [Hmb.out]; rfl
    · unfold putQ; rw [Hmb.out]; exact At.nil _ _
    · unfold putQ; rw [Hmb.out]; rfl
    · unfold putQ; rw [Hmb.out]; exact Nat.le_refl _
  · have hA : Hid (Grommet.Own w ((w2.alloc (.cells #[.int .u8 (r.k : Int)] 5)).alloc (.cells #[.slice (some ⟨w2.heap.size, 0, none⟩) 1 1] 25)) [boxP G 24 r.cs, accP (w2.heap.size + 1) (putL r 0)]) := Lib.hid (by
      have g1 := World.grownBy_alloc w2 (.cells #[.int .u8 (r.k : Int)] 5) none
      have g2 := World.grownBy_alloc (w2.alloc (.cells #[.int .u8 (r.k : Int)] 5)) (.cells #[.slice (some ⟨w2.heap.size, 0, none⟩) 1 1] 25) none
      have h1 := (g2.block w2.heap.size (by simp) (by simp)).trans (heap_alloc_new w2 (.cells #[.int .u8 (r.k : Int)] 5))
      have h2 := heap_alloc_new (w2.alloc (.cells #[.int .u8 (r.k : Int)] 5)) (.cells #[.slice (some ⟨w2.heap.size, 0, none⟩) 1 1] 25)
      have hs : (w2.alloc (.cells #[.int .u8 (r.k : Int)] 5)).heap.size = w2.heap.size + 1 := by simp
      rw [hs] at h2
      have hk : (UInt8.ofNat r.k).toNat = r.k := by have := Hk.out; rw [UInt8.toNat_ofNat']; omega
      refine hO.out.add (P := accP (w2.heap.size + 1) (putL r 0)) (F := fun i => i = w2.heap.size ∨ i = w2.heap.size + 1) ⟨some ⟨w2.heap.size, 0, none⟩, 1, ?_, ?_, ⟨fun e => (by cases e), by simp [putL]⟩, fun a e => (by cases e; exact .inl rfl), .inr rfl, ?_⟩ ?_ (grown_trans g1 g2)
      · exact h2
      · intro j u hu
        unfold putL at hu
        cases j with
        | succ j => simp at hu
        | zero =>
          simp [bv, hk] at hu
          subst hu
          exact ⟨_, _, rfl, by simp [World.cell?, h1]⟩
      · intro i hi; rcases hi with rfl | rfl <;> simp only [World.size_alloc] <;> omega
      · intro i hi; omega)
    obtain ⟨B, hB⟩ : ∃ B, w2.heap.size + 1 = B := ⟨_, rfl⟩
    rw [hB] at hA
    go_upto_region 4 with fail
    try rw [hB]
    generalize World.alloc _ _ = w3 at hA ⊢
    clear hO c0 hB
    have hOb := hA.out.addBox 47 #[.func (.func 33) #[] #[.pointer (some ⟨B, 0, none⟩)], .func (.func 35) #[] #[.pointer (some ⟨B, 0, none⟩)]]
    obtain ⟨J, hJ⟩ : ∃ J, w3.heap.size = J := ⟨_, rfl⟩
    rw [hJ] at hOb
    go_upto_region 5 with fail
    generalize hw2 : World.alloc _ _ = w4 at hOb ⊢
    have hS0 : w4.drew.cell? ⟨G, 0, none⟩ = some (.int .u8 (r.k : Int)) := (own_cellB (hOb.quiet (grown_drew (World.grownBy.refl _ none))) 0 rfl 0 (u := .int .u8 (r.k : Int)) rfl).1
    have hO : Hid (Grommet.Own w w4.drew [boxP G 24 r.cs, accP B (putL r 0), boxP J 47 #[pnumF B, ptxtF B]]) := Lib.hid (hOb.quiet (grown_drew (World.grownBy.refl _ none)))
    clear hA hw2 hJ hOb
    refine wp_region_held_drew (S := fun wx => wx.cell? ⟨G, 0, none⟩ = some (.int .u8 (r.k : Int))) (by kernel_rfl) (hS0) (fun hS => ?_)
    clear hS0
    generalize World.drew _ = wD at hO hS ⊢
    refine wpAnyH_take (i := 1) (oi := { dst := some 17, op := Op.fieldAddr 24 (Operand.tmp 1) 0, type := 0, pos := "request.go:75", after := #[], guard := none }) (v := ?vpu15r5o1n1) rfl (by kernel_rfl) (by kernel_rfl) (by kernel_rfl) (fun _ _ _ h => h) (Or.inl ⟨by rfl, ?hpu15r5o1n1⟩) hS ?_
    case hpu15r5o1n1 => (intro wx hx; skip; go_simp; (try with_reducible rfl))
    try simp only [Act.put, List.setIfInBounds_toArray, List.set_cons_zero, List.set_cons_succ]
    refine wpAnyH_take (i := 2) (oi := { dst := some 18, op := Op.load 5 (Operand.tmp 17), type := 5, pos := "request.go:75", after := #[{ on := 1, ground := Ground.data }], guard := none }) (v := ?vpu15r5o2n2) rfl (by kernel_rfl) (by kernel_rfl) (by kernel_rfl) (fun _ _ _ h => h) (Or.inl ⟨by rfl, ?hpu15r5o2n2⟩) hS ?_
    case hpu15r5o2n2 => (intro wx hx; have hcx := hx; go_simp; (try with_reducible rfl))
    try simp only [Act.put, List.setIfInBounds_toArray, List.set_cons_zero, List.set_cons_succ]
    refine wpAnyH_take (i := 5) (oi := { dst := some 21, op := Op.move (Operand.const (Value.int IntKind.i64 0)), type := 3, pos := "request.go:75", after := #[], guard := none }) (v := ?vpu15r5o5n3) rfl (by kernel_rfl) (by kernel_rfl) (by kernel_rfl) (fun _ _ _ h => h) (Or.inl ⟨by rfl, ?hpu15r5o5n3⟩) hS ?_
    case hpu15r5o5n3 => (intro wx hx; skip; go_simp; (try with_reducible rfl))
    try simp only [Act.put, List.setIfInBounds_toArray, List.set_cons_zero, List.set_cons_succ]
    refine wpAnyH_ready (rs := [0]) (by kernel_rfl) (by simp) ?_
    refine AllReadyH.cons (o := { dst := some 16, op := Op.call { callee := Callee.value (Operand.func 25), args := #[], argTypes := #[] }, type := 50, pos := "request.go:75", after := #[], guard := none }) rfl (fun K hK => ?_) AllReadyH.nil
    go_simp
    refine (kinds_any _).mono ?_
    rintro e w9 ⟨M, rfl, ⟨ents, clock, hm, hall⟩, hg1⟩
    obtain ⟨v, hl, ad, cap, rfl, hat, hlo⟩ := hall r.k Hk.out
    have hOn := Lib.hid (own_addAt hO.out hat hlo hg1)
    have hS1 := hg1.cell hS (by simp)
    have hl := Lib.hid hl
    clear hO hall hat hlo
    have hO := hOn
    clear hOn
    refine hK.out _ _ ?hspu15r5o0n4 (fun hS => ?_)
    case hspu15r5o0n4 => (exact hS1)
    clear hK K
    try simp only [Act.put, List.setIfInBounds_toArray, List.set_cons_zero, List.set_cons_succ]
    refine wpAnyH_ready (rs := [3]) (by kernel_rfl) (by simp) ?_
    refine AllReadyH.cons (o := { dst := some 19, op := Op.lookup 50 (Operand.tmp 16) (Operand.tmp 18) false, type := 49, pos := "request.go:75", after := #[{ on := 0, ground := Ground.data }, { on := 2, ground := Ground.data }], guard := none }) rfl (fun K hK => ?_) AllReadyH.nil
    rw [if_pos (by rfl)]
    unfold Oper.wp
    rw [hl.out _ hm _ _ _ _ _ rfl rfl rfl]
    show K _ _
    refine hK.out _ _ ?hsl1 (fun hS => ?_)
    case hsl1 => exact hS
    clear hl hm hg1
    clear hK K
    try simp only [Act.put, List.setIfInBounds_toArray, List.set_cons_zero, List.set_cons_succ]
    refine wpAnyH_take (i := 4) (oi := { dst := some 20, op := Op.call { callee := Callee.builtin Builtin.len, args := #[Operand.tmp 19], argTypes := #[49] }, type := 3, pos := "request.go:75", after := #[{ on := 3, ground := Ground.data }], guard := none }) (v := ?vpu15r5o4n6) rfl (by kernel_rfl) (by kernel_rfl) (by kernel_rfl) (fun _ _ _ h => h) (Or.inl ⟨by rfl, ?hpu15r5o4n6⟩) hS ?_
    case hpu15r5o4n6 => (intro wx hx; skip; go_simp; (try with_reducible rfl))
    try simp only [Act.put, List.setIfInBounds_toArray, List.set_cons_zero, List.set_cons_succ]
    refine wpAnyH_done (by kernel_rfl) ?_ _

    have hOc : Hid (Grommet.Own w w9 [boxP G 24 r.cs, accP B (putL r 0), boxP J 47 #[pnumF B, ptxtF B], atP ad ((fns r.k).map fnV)]) := Lib.hid hO.out
    clear hO hS
    have hN : (fns r.k).length = (flds r.k).length := by rw [fns_flds, List.length_map]
    have hN2 := flds_len r.k
    obtain ⟨N, hNe⟩ : ∃ N, (flds r.k).length = N := ⟨_, rfl⟩
    rw [hNe] at hN hN2
    rw [hN]
    have HN := Lib.hid hNe
    have HN2 := Lib.hid hN2
    clear hN hN2 hNe
    go_wp2_with fail
    go_loopw [21] (fun s wr => ∃ n : Nat, n ≤ N ∧ s = .int .i64 (n : Int) ∧ Hid (Grommet.Own w wr [boxP G 24 r.cs, accP B (putL r n), boxP J 47 #[pnumF B, ptxtF B], atP ad ((fns r.k).map fnV)])) (fun s _ => N - (intOf s).toNat)
    case atStart => exact ⟨0, Nat.zero_le _, rfl, hOc⟩
    case round =>
      clear hOc
      obtain ⟨n, hn, rfl, hO⟩ := hrel
      have n0 : (0 : Int) ≤ (n : Int) := by omega
      by_cases hlt : n < N
      · have hlt' : (n : Int) < (N : Int) := by omega
        have wn : IntKind.i64.wrap ((n : Int) + 1) = (n : Int) + 1 := IntWalk.i64_in _ ⟨by omega, by have := HN2.out; omega⟩
        have wn2 : IntKind.i64.wrap (n : Int) = (n : Int) := IntWalk.i64_in _ ⟨by omega, by have := HN2.out; omega⟩
        obtain ⟨f, hf⟩ : ∃ f, (flds r.k)[n]? = some f := ⟨_, List.getElem?_eq_getElem (by rw [HN.out]; exact hlt)⟩
        have hs := Lib.hid (putL_succ hf)
        obtain ⟨g, o, rfl, hc⟩ := own_atCell hO.out 3 rfl n (u := fnV f.fn) (by rw [fns_flds, List.getElem?_map, List.getElem?_map, hf]; rfl)
        have j0 := (own_cellB hO.out 2 rfl 0 (u := pnumF B) rfl).1
        have j1 := (own_cellB hO.out 2 rfl 1 (u := ptxtF B) rfl).1
        have HA := Lib.hid (PutC f 0 1 G B r Hr.out Hf.out (putL r n) (by have := putL_len Hr.out Hf.out n; have := HN2.out; omega) w wr _ hO.out rfl rfl (by decide))
        have Hin := Lib.hid hlt
        unfold pnumF ptxtF at *
        unfold fnV at hc
        clear hlt hn hf
        cases f
        all_goals
          simp only [Fd.fn] at hc
          go_wp2_with fail
          refine HA.out.mono ?_
          rintro e w4 ⟨⟨v, rfl⟩, hO4⟩
          have hO5 := Lib.hid hO4
          clear HA hO hO4
          go_wp2
          go_roundw
          case rel => exact ⟨n + 1, Hin.out, by go_num, Lib.hid (by rw [hs.out]; exact hO5.out)⟩
          case measure => have := Hin.out; simp [intOf]; omega
      · obtain rfl : n = N := by omega
        have hlt' : ¬ (n : Int) < (n : Int) := by omega
        have hg := Lib.hid hO.out.grown
        obtain ⟨ad9, cap9, e1, e2, e3, e4, e5⟩ := own_accAt hO.out 1 rfl
        have HQ : Hid (putQ r = putL r n) := Lib.hid (by unfold putQ; rw [Hmb.out, HN.out]; rfl)
        generalize putL r n = X at *
        have HE := Lib.hid (And.intro e2 (And.intro e3 (And.intro e4 e5)))
        clear e2 e3 e4 e5 hO hlt hn
        go_wp2
        go_ret
        rw [HQ.out]
        obtain ⟨e2, e3, e4, e5⟩ := HE.out
        exact ⟨ad9, cap9, rfl, e2, e3, ⟨e4, e5⟩, hg.out⟩
end Go.Proofs.Ytlphmpimpeekcaa