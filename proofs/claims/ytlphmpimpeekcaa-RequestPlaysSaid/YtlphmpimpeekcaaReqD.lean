/- Package request: the row of a kind's fields as a thing; May. -/
import Derived.Test.YtlphmpimpeekcaaReqC
import Derived.Deep.DeepCutAuto
import Derived.Deep.RegionHeld
import Derived.Deep.Slices
import Derived.Deep.Strs
import Derived.Laws.EntriesVeiled
import Derived.ProofKit
namespace Go.Proofs.Ytlphmpimpeekcaa
open Go.RowKit Go.Grommet

def atP (ad : Option Addr) (xs : List Value) : Pr where
  holds w F := At w ad xs ∧ (∀ a, ad = some a → F a.block) ∧ ∀ i, F i → i < w.heap.size
  turn := fun h ht hn => ⟨ht.at h.1 (fun a e _ => hn _ (h.2.1 a e)), h.2.1, fun i hi => Nat.lt_of_lt_of_le (h.2.2 i hi) ht.size⟩
  old := fun h => h.2.2
theorem own_addAt {w0 w w' : World} {Ps : List Pr} {ad : Option Addr} {xs : List Value} (h : Grommet.Own w0 w Ps) (hat : At w' ad xs) (hlo : ∀ a, ad = some a → w.heap.size ≤ a.block ∧ a.block < w'.heap.size) (hg : w.grownBy w' none) : Grommet.Own w0 w' (Ps ++ [atP ad xs]) :=
  h.add (P := atP ad xs) (F := fun i => ∃ a, ad = some a ∧ i = a.block) ⟨hat, fun a e => ⟨a, e, rfl⟩, fun i ⟨a, e, hi⟩ => by rw [hi]; exact (hlo a e).2⟩ (fun i ⟨a, e, hi⟩ => by rw [hi]; exact (hlo a e).1) hg
theorem own_atCell {w0 w : World} {Ps : List Pr} (h : Grommet.Own w0 w Ps) (k : Nat) {ad : Option Addr} {xs : List Value} (hk : Ps[k]? = some (atP ad xs)) (j : Nat) {u : Value} (hu : xs[j]? = some u) : ∃ g o, ad = some ⟨g, o, none⟩ ∧ w.cell? ⟨g, o + j, none⟩ = some u := by
  obtain ⟨F, hF⟩ := h.get k hk
  exact hF.1 j u hu
theorem own_pick {w0 w : World} {Ps Qs : List Pr} (f : Nat → Nat) (h : Grommet.Own w0 w Ps) (key : ∀ j, j < Qs.length → f j < Ps.length ∧ Qs[j]? = Ps[f j]?) (inj : ∀ i j, i < Qs.length → j < Qs.length → i ≠ j → f i ≠ f j) : Grommet.Own w0 w Qs := by
  obtain ⟨Fs, h1, h2, h3, h4⟩ := h
  exact ⟨fun j => Fs (f j), fun k P hk => h1 _ P (by rw [← (key k (List.getElem?_eq_some_iff.1 hk).1).2]; exact hk), fun j k hj hk hne => h2 _ _ (key j hj).1 (key k hk).1 (inj j k hj hk hne), fun k hk => h3 _ (key k hk).1, h4⟩
theorem own_swap {w0 w : World} {A B C : Pr} (h : Grommet.Own w0 w [A, B, C]) : Grommet.Own w0 w [A, C, B] := by
  refine own_pick (fun j => [0, 2, 1].getD j 0) h ?_ ?_
  · intro j hj
    have hj3 : j = 0 ∨ j = 1 ∨ j = 2 := by simp at hj; omega
    rcases hj3 with rfl | rfl | rfl <;> exact ⟨by simp, rfl⟩
  · intro i j hi hj hne
    have hi3 : i = 0 ∨ i = 1 ∨ i = 2 := by simp at hi; omega
    have hj3 : j = 0 ∨ j = 1 ∨ j = 2 := by simp at hj; omega
    rcases hi3 with rfl | rfl | rfl <;> rcases hj3 with rfl | rfl | rfl <;> first | exact absurd rfl hne | decide

/-- The fields of a kind. -/
def flds (a : Nat) : List Fd :=
  match a with
  | 1 => [.path, .flags] | 2 => [.fd] | 3 => [.fd, .size] | 4 => [.fd, .data] | 5 => [.fd, .at] | 6 => [.fd, .at]
  | 7 => [.path] | 8 => [.path] | 9 => [.path] | 10 => [.path, .to] | 11 => [.path] | 12 => [.path, .to] | 13 => [.path, .at]
  | _ => []
theorem fns_flds (a : Nat) : fns a = (flds a).map Fd.fn := by
  match a with
  | 0 => rfl | 1 => rfl | 2 => rfl | 3 => rfl | 4 => rfl | 5 => rfl | 6 => rfl | 7 => rfl | 8 => rfl | 9 => rfl | 10 => rfl | 11 => rfl | 12 => rfl | 13 => rfl
  | n + 14 => rfl
def awayS (s : Rq × Bool) (f : Fd) : Rq × Bool := (s.1.away f, s.2 && s.1.fits f)
def awayL (r : Rq) (n : Nat) : Rq × Bool := ((flds r.k).take n).foldl awayS (r, isKind r.k)
theorem awayL_succ {r : Rq} {n : Nat} {f : Fd} (h : (flds r.k)[n]? = some f) : awayL r (n + 1) = awayS (awayL r n) f := by
  unfold awayL
  rw [List.take_add_one, h, List.foldl_append]; rfl
theorem awayL_ok {r : Rq} (h : r.Ok) : ∀ n, (awayL r n).1.Ok
  | 0 => h
  | n + 1 => by
    cases hf : (flds r.k)[n]? with
    | none =>
      have : awayL r (n + 1) = awayL r n := by unfold awayL; rw [List.take_add_one, hf]; simp
      rw [this]; exact awayL_ok h n
    | some f => rw [awayL_succ hf]; exact Rq.away_ok (awayL_ok h n) f
theorem awayL_k (r : Rq) : ∀ n, (awayL r n).1.k = r.k
  | 0 => rfl
  | n + 1 => by
    cases hf : (flds r.k)[n]? with
    | none =>
      have : awayL r (n + 1) = awayL r n := by unfold awayL; rw [List.take_add_one, hf]; simp
      rw [this]; exact awayL_k r n
    | some f => rw [awayL_succ hf]; exact (Rq.away_k _ f).trans (awayL_k r n)
theorem toList_nil (s : ByteArray) : s.toList = [] ↔ s.size = 0 := by
  rw [ByteArray.toList_eq]
  constructor
  · intro h; show s.data.size = 0; rw [← Array.length_toList, h]; rfl
  · intro h
    have h : s.data.size = 0 := h
    rw [← Array.length_toList] at h
    exact List.eq_nil_of_length_eq_zero h
theorem flds_len (a : Nat) : (flds a).length ≤ 2 := by unfold flds; split <;> decide
/-- Is nothing there but the kind? -/
def Rq.bare (r : Rq) : Bool := r.fl == 0 && r.fd == 0 && r.at_ == 0 && r.sz == 0 && r.p.size == 0 && r.t.size == 0 && r.d.size == 0
def mayQ (r : Rq) : Bool := (awayL r (flds r.k).length).2 && (awayL r (flds r.k).length).1.bare

set_option maxRecDepth 100000 in
set_option maxHeartbeats 4000000 in
theorem May_any (r : Rq) (hr : r.Ok) (w : World) : Calls Try.prog 13 #[.agg r.cs] w fun e w' => e = .returned (.bool (mayQ r)) ∧ w.grownBy w' none := by
  have hO0 := (Own.nil w).addBox 24 r.cs
  obtain ⟨G, hG⟩ : ∃ G, w.heap.size = G := ⟨_, rfl⟩
  rw [hG] at hO0
  have Hk := Lib.hid hr.k
  have Hr := Lib.hid hr
  have c0 := (own_cellB hO0 0 rfl 0 (u := .int .u8 (r.k : Int)) rfl).1
  have hO : Hid (Grommet.Own w (w.alloc (.cells r.cs 24)).drew [boxP G 24 r.cs]) := Lib.hid (hO0.quiet (grown_drew (World.grownBy.refl _ none)))
  have hS0 : (w.alloc (.cells r.cs 24)).drew.cell? ⟨G, 0, none⟩ = some (.int .u8 (r.k : Int)) := (grown_drew (World.grownBy.refl _ none)).cell c0 (by simp)
  clear hO0 c0 hr
  go_enter Try.func13, Try.ntmps13
  go_upto_region 1 with fail
  go_cut [3, 4] (fun v i wx => ∃ (I : Nat) (ad : Option Addr) (cap : Nat), i = .pointer (some ⟨I, 0, none⟩) ∧ v = .slice ad (fns r.k).length cap ∧ Hid (Grommet.Own w wx [boxP G 24 r.cs, atP ad ((fns r.k).map fnV), boxP I 4 #[.bool (isKind r.k)]]))
  case first =>
    refine wp_region_held_drew (S := fun wx => wx.cell? ⟨G, 0, none⟩ = some (.int .u8 (r.k : Int))) (by kernel_rfl) (hS0) (fun hS => ?_)
    clear hS0
    generalize World.drew _ = wD at hO hS ⊢
    refine wpAnyH_take (i := 1) (oi := { dst := some 11, op := Op.fieldAddr 24 (Operand.tmp 1) 0, type := 0, pos := "request.go:52", after := #[], guard := none }) (v := ?vm13r1o1n1) rfl (by kernel_rfl) (by kernel_rfl) (by kernel_rfl) (fun _ _ _ h => h) (Or.inl ⟨by rfl, ?hm13r1o1n1⟩) hS ?_
    case hm13r1o1n1 => (intro wx hx; skip; go_simp; (try with_reducible rfl))
    try simp only [Act.put, List.setIfInBounds_toArray, List.set_cons_zero, List.set_cons_succ]
    refine wpAnyH_take (i := 2) (oi := { dst := some 12, op := Op.load 5 (Operand.tmp 11), type := 5, pos := "request.go:52", after := #[{ on := 1, ground := Ground.data }], guard := none }) (v := ?vm13r1o2n2) rfl (by kernel_rfl) (by kernel_rfl) (by kernel_rfl) (fun _ _ _ h => h) (Or.inl ⟨by rfl, ?hm13r1o2n2⟩) hS ?_
    case hm13r1o2n2 => (intro wx hx; have hcx := hx; go_simp; (try with_reducible rfl))
    try simp only [Act.put, List.setIfInBounds_toArray, List.set_cons_zero, List.set_cons_succ]
    refine wpAnyH_ready (rs := [0, 7]) (by kernel_rfl) (by simp) ?_
    refine AllReadyH.cons (o := { dst := some 10, op := Op.call { callee := Callee.value (Operand.func 25), args := #[], argTypes := #[] }, type := 50, pos := "request.go:52", after := #[], guard := none }) rfl (fun K hK => ?_) (AllReadyH.cons (o := { dst := some 4, op := Op.alloc 4, type := 0, pos := "request.go:52", after := #[], guard := none }) rfl (fun K hK => ?_) AllReadyH.nil)
    · go_simp
      refine (kinds_any _).mono ?_
      rintro e w1 ⟨M, rfl, ⟨ents, clock, hm, hall⟩, hg1⟩
      obtain ⟨v, hl, ad, cap, rfl, hat, hlo⟩ := hall r.k Hk.out
      have hOn := Lib.hid (own_addAt hO.out hat hlo hg1)
      have hS1 := hg1.cell hS (by simp)
      have hl := Lib.hid hl
      clear hO hall hat hlo
      have hO := hOn
      clear hOn
      refine hK.out _ _ ?hsm13r1o0n3 (fun hS => ?_)
      case hsm13r1o0n3 => (exact hS1)
      clear hK K
      try simp only [Act.put, List.setIfInBounds_toArray, List.set_cons_zero, List.set_cons_succ]
      refine wpAnyH_ready (rs := [3, 7]) (by kernel_rfl) (by simp) ?_
      refine AllReadyH.cons (o := { dst := some 13, op := Op.lookup 50 (Operand.tmp 10) (Operand.tmp 12) true, type := 58, pos := "request.go:52", after := #[{ on := 0, ground := Ground.data }, { on := 2, ground := Ground.data }], guard := none }) rfl (fun K hK => ?_) (AllReadyH.cons (o := { dst := some 4, op := Op.alloc 4, type := 0, pos := "request.go:52", after := #[], guard := none }) rfl (fun K hK => ?_) AllReadyH.nil)
      · rw [if_pos (by rfl)]
        unfold Oper.wp
        rw [hl.out _ hm _ _ _ _ _ rfl rfl rfl]
        show K _ _
        refine hK.out _ _ ?hsl1 (fun hS => ?_)
        case hsl1 => exact hS
        clear hl hm hg1
        clear hK K
        try simp only [Act.put, List.setIfInBounds_toArray, List.set_cons_zero, List.set_cons_succ]
        refine wpAnyH_take (i := 4) (oi := { dst := some 9, op := Op.move (Operand.tmp 13), type := 58, pos := "request.go:52", after := #[{ on := 3, ground := Ground.data }], guard := none }) (v := ?vm13r1o4n5) rfl (by kernel_rfl) (by kernel_rfl) (by kernel_rfl) (fun _ _ _ h => h) (Or.inl ⟨by rfl, ?hm13r1o4n5⟩) hS ?_
        case hm13r1o4n5 => (intro wx hx; skip; go_simp; (try with_reducible rfl))
        try simp only [Act.put, List.setIfInBounds_toArray, List.set_cons_zero, List.set_cons_succ]
        refine wpAnyH_take (i := 5) (oi := { dst := some 14, op := Op.extract (Operand.tmp 9) 0, type := 49, pos := "request.go:52", after := #[{ on := 4, ground := Ground.data }], guard := none }) (v := ?vm13r1o5n6) rfl (by kernel_rfl) (by kernel_rfl) (by kernel_rfl) (fun _ _ _ h => h) (Or.inl ⟨by rfl, ?hm13r1o5n6⟩) hS ?_
        case hm13r1o5n6 => (intro wx hx; skip; go_simp; (try with_reducible rfl))
        try simp only [Act.put, List.setIfInBounds_toArray, List.set_cons_zero, List.set_cons_succ]
        refine wpAnyH_take (i := 6) (oi := { dst := some 15, op := Op.extract (Operand.tmp 9) 1, type := 4, pos := "request.go:52", after := #[{ on := 4, ground := Ground.data }, { on := 8, ground := Ground.gcOnly Departure.lateStores }], guard := none }) (v := ?vm13r1o6n7) rfl (by kernel_rfl) (by kernel_rfl) (by kernel_rfl) (fun _ _ _ h => h) (Or.inl ⟨by rfl, ?hm13r1o6n7⟩) hS ?_
        case hm13r1o6n7 => (intro wx hx; skip; go_simp; (try with_reducible rfl))
        try simp only [Act.put, List.setIfInBounds_toArray, List.set_cons_zero, List.set_cons_succ]
        refine wpAnyH_ready (rs := [7]) (by kernel_rfl) (by simp) ?_
        refine AllReadyH.cons (o := { dst := some 4, op := Op.alloc 4, type := 0, pos := "request.go:52", after := #[], guard := none }) rfl (fun K hK => ?_) AllReadyH.nil
        go_simp
        have hOn := Lib.hid (hO.out.addBox 4 #[.bool false])
        have hS1 := (World.grownBy_alloc _ (.cells #[.bool false] 4) none).cell hS (by simp)
        clear hO
        have hO := hOn
        clear hOn
        generalize World.alloc _ (Obj.cells #[Value.bool false] 4) = wI at hO hS1 ⊢
        refine hK.out _ _ ?hsm13r1o7n8 (fun hS => ?_)
        case hsm13r1o7n8 => (exact hS1)
        clear hK K
        try simp only [Act.put, List.setIfInBounds_toArray, List.set_cons_zero, List.set_cons_succ]
        refine wpAnyH_take (i := 8) (oi := { dst := some 3, op := Op.assign (Operand.tmp 14), type := 49, pos := "request.go:52", after := #[{ on := 5, ground := Ground.data }, { on := 0, ground := Ground.chain }, { on := 0, ground := Ground.phase }, { on := 1, ground := Ground.phase }, { on := 2, ground := Ground.phase }, { on := 3, ground := Ground.phase }, { on := 4, ground := Ground.phase }, { on := 5, ground := Ground.phase }, { on := 6, ground := Ground.textOnly Departure.lateStores }, { on := 7, ground := Ground.phase }], guard := none }) (v := ?vm13r1o8n9) rfl (by kernel_rfl) (by kernel_rfl) (by kernel_rfl) (fun _ _ _ h => h) (Or.inl ⟨by rfl, ?hm13r1o8n9⟩) hS ?_
        case hm13r1o8n9 => (intro wx hx; skip; go_simp; (try with_reducible rfl))
        try simp only [Act.put, List.setIfInBounds_toArray, List.set_cons_zero, List.set_cons_succ]
        refine wpAnyH_ready (rs := [9]) (by kernel_rfl) (by simp) ?_
        refine AllReadyH.cons (o := { dst := none, op := Op.store 4 (Operand.tmp 4) (Operand.tmp 15), type := 0, pos := "request.go:52", after := #[{ on := 7, ground := Ground.data }, { on := 6, ground := Ground.data }, { on := 8, ground := Ground.chain }, { on := 0, ground := Ground.phase }, { on := 1, ground := Ground.phase }, { on := 2, ground := Ground.phase }, { on := 3, ground := Ground.phase }, { on := 4, ground := Ground.phase }, { on := 5, ground := Ground.phase }, { on := 6, ground := Ground.phase }, { on := 7, ground := Ground.phase }, { on := 8, ground := Ground.phase }], guard := none }) rfl (fun K hK => ?_) AllReadyH.nil
        obtain ⟨b1, b2⟩ := own_cellB hO.out 2 rfl 0 (u := .bool false) rfl
        have hOn := Lib.hid (own_put hO.out 2 rfl 0 (.bool (isKind r.k)))
        have hOm : Hid (Grommet.Own w _ [boxP G 24 r.cs, atP ad ((fns r.k).map fnV), boxP _ 4 #[.bool (isKind r.k)]]) := Lib.hid (hOn.out)
        have hS1 := (own_cellB hOm.out 0 rfl 0 (u := .int .u8 (r.k : Int)) rfl).1
        clear hO hOn
        go_simp
        refine hK.out _ _ ?hst297 (fun hS => ?_)
        case hst297 => exact hS1
        clear hK K
        try simp only [Act.put, List.setIfInBounds_toArray, List.set_cons_zero, List.set_cons_succ]
        refine wpAnyH_done (by kernel_rfl) ?_ _
        go_wp2
        go_meet
        case rel => exact ⟨_, ad, cap, rfl, rfl, hOm⟩
      · go_simp
        have hOn := Lib.hid (hO.out.addBox 4 #[.bool false])
        have hS1 := (World.grownBy_alloc _ (.cells #[.bool false] 4) none).cell hS (by simp)
        have hm := ((World.grownBy_alloc _ (.cells #[.bool false] 4) none).block M (Array.getElem?_eq_some_iff.1 hm).1 (by simp)).trans hm
        clear hO
        have hO := hOn
        clear hOn
        generalize World.alloc _ (Obj.cells #[Value.bool false] 4) = wI at hO hS1 hm ⊢
        refine hK.out _ _ ?hsm13r1o7n11 (fun hS => ?_)
        case hsm13r1o7n11 => (exact hS1)
        clear hK K
        try simp only [Act.put, List.setIfInBounds_toArray, List.set_cons_zero, List.set_cons_succ]
        refine wpAnyH_ready (rs := [3]) (by kernel_rfl) (by simp) ?_
        refine AllReadyH.cons (o := { dst := some 13, op := Op.lookup 50 (Operand.tmp 10) (Operand.tmp 12) true, type := 58, pos := "request.go:52", after := #[{ on := 0, ground := Ground.data }, { on := 2, ground := Ground.data }], guard := none }) rfl (fun K hK => ?_) AllReadyH.nil
        rw [if_pos (by rfl)]
        unfold Oper.wp
        rw [hl.out _ hm _ _ _ _ _ rfl rfl rfl]
        show K _ _
        refine hK.out _ _ ?hsl2 (fun hS => ?_)
        case hsl2 => exact hS
        clear hl hm hg1
        clear hK K
        try simp only [Act.put, List.setIfInBounds_toArray, List.set_cons_zero, List.set_cons_succ]
        refine wpAnyH_take (i := 4) (oi := { dst := some 9, op := Op.move (Operand.tmp 13), type := 58, pos := "request.go:52", after := #[{ on := 3, ground := Ground.data }], guard := none }) (v := ?vm13r1o4n13) rfl (by kernel_rfl) (by kernel_rfl) (by kernel_rfl) (fun _ _ _ h => h) (Or.inl ⟨by rfl, ?hm13r1o4n13⟩) hS ?_
        case hm13r1o4n13 => (intro wx hx; skip; go_simp; (try with_reducible rfl))
        try simp only [Act.put, List.setIfInBounds_toArray, List.set_cons_zero, List.set_cons_succ]
        refine wpAnyH_take (i := 5) (oi := { dst := some 14, op := Op.extract (Operand.tmp 9) 0, type := 49, pos := "request.go:52", after := #[{ on := 4, ground := Ground.data }], guard := none }) (v := ?vm13r1o5n14) rfl (by kernel_rfl) (by kernel_rfl) (by kernel_rfl) (fun _ _ _ h => h) (Or.inl ⟨by rfl, ?hm13r1o5n14⟩) hS ?_
        case hm13r1o5n14 => (intro wx hx; skip; go_simp; (try with_reducible rfl))
        try simp only [Act.put, List.setIfInBounds_toArray, List.set_cons_zero, List.set_cons_succ]
        refine wpAnyH_take (i := 6) (oi := { dst := some 15, op := Op.extract (Operand.tmp 9) 1, type := 4, pos := "request.go:52", after := #[{ on := 4, ground := Ground.data }, { on := 8, ground := Ground.gcOnly Departure.lateStores }], guard := none }) (v := ?vm13r1o6n15) rfl (by kernel_rfl) (by kernel_rfl) (by kernel_rfl) (fun _ _ _ h => h) (Or.inl ⟨by rfl, ?hm13r1o6n15⟩) hS ?_
        case hm13r1o6n15 => (intro wx hx; skip; go_simp; (try with_reducible rfl))
        try simp only [Act.put, List.setIfInBounds_toArray, List.set_cons_zero, List.set_cons_succ]
        refine wpAnyH_take (i := 8) (oi := { dst := some 3, op := Op.assign (Operand.tmp 14), type := 49, pos := "request.go:52", after := #[{ on := 5, ground := Ground.data }, { on := 0, ground := Ground.chain }, { on := 0, ground := Ground.phase }, { on := 1, ground := Ground.phase }, { on := 2, ground := Ground.phase }, { on := 3, ground := Ground.phase }, { on := 4, ground := Ground.phase }, { on := 5, ground := Ground.phase }, { on := 6, ground := Ground.textOnly Departure.lateStores }, { on := 7, ground := Ground.phase }], guard := none }) (v := ?vm13r1o8n16) rfl (by kernel_rfl) (by kernel_rfl) (by kernel_rfl) (fun _ _ _ h => h) (Or.inl ⟨by rfl, ?hm13r1o8n16⟩) hS ?_
        case hm13r1o8n16 => (intro wx hx; skip; go_simp; (try with_reducible rfl))
        try simp only [Act.put, List.setIfInBounds_toArray, List.set_cons_zero, List.set_cons_succ]
        refine wpAnyH_ready (rs := [9]) (by kernel_rfl) (by simp) ?_
        refine AllReadyH.cons (o := { dst := none, op := Op.store 4 (Operand.tmp 4) (Operand.tmp 15), type := 0, pos := "request.go:52", after := #[{ on := 7, ground := Ground.data }, { on := 6, ground := Ground.data }, { on := 8, ground := Ground.chain }, { on := 0, ground := Ground.phase }, { on := 1, ground := Ground.phase }, { on := 2, ground := Ground.phase }, { on := 3, ground := Ground.phase }, { on := 4, ground := Ground.phase }, { on := 5, ground := Ground.phase }, { on := 6, ground := Ground.phase }, { on := 7, ground := Ground.phase }, { on := 8, ground := Ground.phase }], guard := none }) rfl (fun K hK => ?_) AllReadyH.nil
        obtain ⟨b1, b2⟩ := own_cellB hO.out 2 rfl 0 (u := .bool false) rfl
        have hOn := Lib.hid (own_put hO.out 2 rfl 0 (.bool (isKind r.k)))
        have hOm : Hid (Grommet.Own w _ [boxP G 24 r.cs, atP ad ((fns r.k).map fnV), boxP _ 4 #[.bool (isKind r.k)]]) := Lib.hid (hOn.out)
        have hS1 := (own_cellB hOm.out 0 rfl 0 (u := .int .u8 (r.k : Int)) rfl).1
        clear hO hOn
        go_simp
        refine hK.out _ _ ?hst293 (fun hS => ?_)
        case hst293 => exact hS1
        clear hK K
        try simp only [Act.put, List.setIfInBounds_toArray, List.set_cons_zero, List.set_cons_succ]
        refine wpAnyH_done (by kernel_rfl) ?_ _
        go_wp2
        go_meet
        case rel => exact ⟨_, ad, cap, rfl, rfl, hOm⟩
    · go_simp
      have hOn := Lib.hid (hO.out.addBox 4 #[.bool false])
      have hS1 := (World.grownBy_alloc _ (.cells #[.bool false] 4) none).cell hS (by simp)
      clear hO
      have hO := hOn
      clear hOn
      generalize World.alloc _ (Obj.cells #[Value.bool false] 4) = wI at hO hS1 ⊢
      refine hK.out _ _ ?hsm13r1o7n18 (fun hS => ?_)
      case hsm13r1o7n18 => (exact hS1)
      clear hK K
      try simp only [Act.put, List.setIfInBounds_toArray, List.set_cons_zero, List.set_cons_succ]
      refine wpAnyH_ready (rs := [0]) (by kernel_rfl) (by simp) ?_
      refine AllReadyH.cons (o := { dst := some 10, op := Op.call { callee := Callee.value (Operand.func 25), args := #[], argTypes := #[] }, type := 50, pos := "request.go:52", after := #[], guard := none }) rfl (fun K hK => ?_) AllReadyH.nil
      go_simp
      refine (kinds_any _).mono ?_
      rintro e w1 ⟨M, rfl, ⟨ents, clock, hm, hall⟩, hg1⟩
      obtain ⟨v, hl, ad, cap, rfl, hat, hlo⟩ := hall r.k Hk.out
      have hOn := Lib.hid (own_addAt hO.out hat hlo hg1)
      have hS1 := hg1.cell hS (by simp)
      have hl := Lib.hid hl
      clear hO hall hat hlo
      have hO := hOn
      clear hOn
      refine hK.out _ _ ?hsm13r1o0n19 (fun hS => ?_)
      case hsm13r1o0n19 => (exact hS1)
      clear hK K
      try simp only [Act.put, List.setIfInBounds_toArray, List.set_cons_zero, List.set_cons_succ]
      refine wpAnyH_ready (rs := [3]) (by kernel_rfl) (by simp) ?_
      refine AllReadyH.cons (o := { dst := some 13, op := Op.lookup 50 (Operand.tmp 10) (Operand.tmp 12) true, type := 58, pos := "request.go:52", after := #[{ on := 0, ground := Ground.data }, { on := 2, ground := Ground.data }], guard := none }) rfl (fun K hK => ?_) AllReadyH.nil
      rw [if_pos (by rfl)]
      unfold Oper.wp
      rw [hl.out _ hm _ _ _ _ _ rfl rfl rfl]
      show K _ _
      refine hK.out _ _ ?hsl3 (fun hS => ?_)
      case hsl3 => exact hS
      clear hl hm hg1
      clear hK K
      try simp only [Act.put, List.setIfInBounds_toArray, List.set_cons_zero, List.set_cons_succ]
      refine wpAnyH_take (i := 4) (oi := { dst := some 9, op := Op.move (Operand.tmp 13), type := 58, pos := "request.go:52", after := #[{ on := 3, ground := Ground.data }], guard := none }) (v := ?vm13r1o4n21) rfl (by kernel_rfl) (by kernel_rfl) (by kernel_rfl) (fun _ _ _ h => h) (Or.inl ⟨by rfl, ?hm13r1o4n21⟩) hS ?_
      case hm13r1o4n21 => (intro wx hx; skip; go_simp; (try with_reducible rfl))
      try simp only [Act.put, List.setIfInBounds_toArray, List.set_cons_zero, List.set_cons_succ]
      refine wpAnyH_take (i := 5) (oi := { dst := some 14, op := Op.extract (Operand.tmp 9) 0, type := 49, pos := "request.go:52", after := #[{ on := 4, ground := Ground.data }], guard := none }) (v := ?vm13r1o5n22) rfl (by kernel_rfl) (by kernel_rfl) (by kernel_rfl) (fun _ _ _ h => h) (Or.inl ⟨by rfl, ?hm13r1o5n22⟩) hS ?_
      case hm13r1o5n22 => (intro wx hx; skip; go_simp; (try with_reducible rfl))
      try simp only [Act.put, List.setIfInBounds_toArray, List.set_cons_zero, List.set_cons_succ]
      refine wpAnyH_take (i := 6) (oi := { dst := some 15, op := Op.extract (Operand.tmp 9) 1, type := 4, pos := "request.go:52", after := #[{ on := 4, ground := Ground.data }, { on := 8, ground := Ground.gcOnly Departure.lateStores }], guard := none }) (v := ?vm13r1o6n23) rfl (by kernel_rfl) (by kernel_rfl) (by kernel_rfl) (fun _ _ _ h => h) (Or.inl ⟨by rfl, ?hm13r1o6n23⟩) hS ?_
      case hm13r1o6n23 => (intro wx hx; skip; go_simp; (try with_reducible rfl))
      try simp only [Act.put, List.setIfInBounds_toArray, List.set_cons_zero, List.set_cons_succ]
      refine wpAnyH_take (i := 8) (oi := { dst := some 3, op := Op.assign (Operand.tmp 14), type := 49, pos := "request.go:52", after := #[{ on := 5, ground := Ground.data }, { on := 0, ground := Ground.chain }, { on := 0, ground := Ground.phase }, { on := 1, ground := Ground.phase }, { on := 2, ground := Ground.phase }, { on := 3, ground := Ground.phase }, { on := 4, ground := Ground.phase }, { on := 5, ground := Ground.phase }, { on := 6, ground := Ground.textOnly Departure.lateStores }, { on := 7, ground := Ground.phase }], guard := none }) (v := ?vm13r1o8n24) rfl (by kernel_rfl) (by kernel_rfl) (by kernel_rfl) (fun _ _ _ h => h) (Or.inl ⟨by rfl, ?hm13r1o8n24⟩) hS ?_
      case hm13r1o8n24 => (intro wx hx; skip; go_simp; (try with_reducible rfl))
      try simp only [Act.put, List.setIfInBounds_toArray, List.set_cons_zero, List.set_cons_succ]
      refine wpAnyH_ready (rs := [9]) (by kernel_rfl) (by simp) ?_
      refine AllReadyH.cons (o := { dst := none, op := Op.store 4 (Operand.tmp 4) (Operand.tmp 15), type := 0, pos := "request.go:52", after := #[{ on := 7, ground := Ground.data }, { on := 6, ground := Ground.data }, { on := 8, ground := Ground.chain }, { on := 0, ground := Ground.phase }, { on := 1, ground := Ground.phase }, { on := 2, ground := Ground.phase }, { on := 3, ground := Ground.phase }, { on := 4, ground := Ground.phase }, { on := 5, ground := Ground.phase }, { on := 6, ground := Ground.phase }, { on := 7, ground := Ground.phase }, { on := 8, ground := Ground.phase }], guard := none }) rfl (fun K hK => ?_) AllReadyH.nil
      obtain ⟨b1, b2⟩ := own_cellB hO.out 1 rfl 0 (u := .bool false) rfl
      have hOn := Lib.hid (own_put hO.out 1 rfl 0 (.bool (isKind r.k)))
      have hOm : Hid (Grommet.Own w _ [boxP G 24 r.cs, atP ad ((fns r.k).map fnV), boxP _ 4 #[.bool (isKind r.k)]]) := Lib.hid (own_swap hOn.out)
      have hS1 := (own_cellB hOm.out 0 rfl 0 (u := .int .u8 (r.k : Int)) rfl).1
      clear hO hOn
      go_simp
      refine hK.out _ _ ?hst192 (fun hS => ?_)
      case hst192 => exact hS1
      clear hK K
      try simp only [Act.put, List.setIfInBounds_toArray, List.set_cons_zero, List.set_cons_succ]
      refine wpAnyH_done (by kernel_rfl) ?_ _
      go_wp2
      go_meet
      case rel => exact ⟨_, ad, cap, rfl, rfl, hOm⟩
  case rest =>
    obtain ⟨I, ad, cap, rfl, rfl, hO⟩ := hcut
    have hOb := hO.out.addBox 47 #[.func (.func 30) #[] #[.pointer (some ⟨I, 0, none⟩)], .func (.func 31) #[] #[.pointer (some ⟨I, 0, none⟩)]]
    obtain ⟨J, hJ⟩ : ∃ J, wc.heap.size = J := ⟨_, rfl⟩
    rw [hJ] at hOb
    go_upto_region 3 with fail
    generalize hw2 : World.alloc _ _ = w2 at hOb ⊢
    have hOb : Grommet.Own w w2 [boxP G 24 r.cs, atP ad ((fns r.k).map fnV), boxP I 4 #[.bool (isKind r.k)], boxP J 47 #[numF I, txtF I]] := hOb
    clear hw2 hJ hO
    have c0 := (own_cellB hOb 0 rfl 0 (u := .int .u8 (r.k : Int)) rfl).1
    have c1 := (own_cellB hOb 0 rfl 1 (u := .int .u8 (r.fl : Int)) rfl).1
    have c2 := (own_cellB hOb 0 rfl 2 (u := .int .u64 (r.fd : Int)) rfl).1
    have c3 := (own_cellB hOb 0 rfl 3 (u := .int .u64 (r.at_ : Int)) rfl).1
    have c4 := (own_cellB hOb 0 rfl 4 (u := .int .u64 (r.sz : Int)) rfl).1
    have c5 := (own_cellB hOb 0 rfl 5 (u := .string r.p) rfl).1
    have c6 := (own_cellB hOb 0 rfl 6 (u := .string r.t) rfl).1
    have c7 := (own_cellB hOb 0 rfl 7 (u := .string r.d) rfl).1
    have hOc := hOb.addBox 24 #[.int .u8 (r.k : Int), .int .u8 (r.fl : Int), .int .u64 (r.fd : Int), .int .u64 (r.at_ : Int), .int .u64 (r.sz : Int), .string r.p, .string r.t, .string r.d]
    obtain ⟨R, hR⟩ : ∃ R, w2.heap.size = R := ⟨_, rfl⟩
    rw [hR] at hOc
    go_upto_region 4 with fail
    generalize hw3 : World.alloc _ _ = w3 at hOc ⊢
    have hOc : Hid (Grommet.Own w w3 [boxP G 24 r.cs, atP ad ((fns r.k).map fnV), boxP I 4 #[.bool (isKind r.k)], boxP J 47 #[numF I, txtF I], boxP R 24 r.cs]) := Lib.hid hOc
    clear hw3 hR hOb c0 c1 c2 c3 c4 c5 c6 c7
    have hN : (fns r.k).length = (flds r.k).length := by rw [fns_flds, List.length_map]
    have hN2 := flds_len r.k
    obtain ⟨N, hNe⟩ : ∃ N, (flds r.k).length = N := ⟨_, rfl⟩
    rw [hNe] at hN hN2
    rw [hN]
    have HN := Lib.hid hNe
    have HN2 := Lib.hid hN2
    clear hN hN2 hNe
    go_wp2_with fail
    go_loopw [22] (fun s wr => ∃ n : Nat, n ≤ N ∧ s = .int .i64 (n : Int) ∧ Hid (Grommet.Own w wr [boxP G 24 r.cs, atP ad ((fns r.k).map fnV), boxP I 4 #[.bool (awayL r n).2], boxP J 47 #[numF I, txtF I], boxP R 24 (awayL r n).1.cs])) (fun s _ => N - (intOf s).toNat)
    case atStart => exact ⟨0, Nat.zero_le _, rfl, hOc⟩
    case round =>
      clear hOc
      obtain ⟨n, hn, rfl, hO⟩ := hrel
      have n0 : (0 : Int) ≤ (n : Int) := by omega
      by_cases hlt : n < N
      · have hlt' : (n : Int) < (N : Int) := by omega
        have wn : IntKind.i64.wrap ((n : Int) + 1) = (n : Int) + 1 := IntWalk.i64_in _ ⟨by omega, by have := HN2.out; omega⟩
        have wn2 : IntKind.i64.wrap (n : Int) = (n : Int) := IntWalk.i64_in _ ⟨by omega, by have := HN2.out; omega⟩
        obtain ⟨f, hf⟩ : ∃ f, (flds r.k)[n]? = some f := ⟨_, List.getElem?_eq_getElem (by rw [HN.out]; exact hlt)⟩
        have hs := Lib.hid (awayL_succ hf)
        have hok := Lib.hid (awayL_ok Hr.out n)
        obtain ⟨g, o, rfl, hc⟩ := own_atCell hO.out 1 rfl n (u := fnV f.fn) (by rw [fns_flds, List.getElem?_map, List.getElem?_map, hf]; rfl)
        have j0 := (own_cellB hO.out 3 rfl 0 (u := numF I) rfl).1
        have j1 := (own_cellB hO.out 3 rfl 1 (u := txtF I) rfl).1
        have HA := Lib.hid (AwayC f 4 2 R I (awayL r n).1 hok.out (awayL r n).2 w wr _ hO.out rfl rfl (by decide))
        have Hin := Lib.hid hlt
        unfold numF txtF at *
        unfold fnV at hc
        clear hlt hn hf
        cases f
        all_goals
          simp only [Fd.fn] at hc
          go_wp2_with fail
          refine HA.out.mono ?_
          rintro e w4 ⟨⟨v, rfl⟩, hO4⟩
          have hO5 := Lib.hid hO4
          clear HA hO hO4
          go_wp2
          go_roundw
          case rel => exact ⟨n + 1, Hin.out, by go_num, Lib.hid (by rw [hs.out]; exact hO5.out)⟩
          case measure => have := Hin.out; simp [intOf]; omega
      · obtain rfl : n = N := by omega
        have hlt' : ¬ (n : Int) < (n : Int) := by omega
        have hg := Lib.hid hO.out.grown
        have hM : mayQ r = ((awayL r n).2 && (awayL r n).1.bare) := by unfold mayQ; rw [HN.out]
        have hK := awayL_k r n
        obtain ⟨rr, hrr⟩ : ∃ rr, (awayL r n).1 = rr := ⟨_, rfl⟩
        obtain ⟨bb, hbb⟩ : ∃ bb, (awayL r n).2 = bb := ⟨_, rfl⟩
        rw [hrr, hbb] at hO
        rw [hrr] at hK
        rw [hrr, hbb] at hM
        have HM := Lib.hid hM
        have d0 := (own_cellB hO.out 4 rfl 0 (u := .int .u8 (rr.k : Int)) rfl).1
        have d1 := (own_cellB hO.out 4 rfl 1 (u := .int .u8 (rr.fl : Int)) rfl).1
        have d2 := (own_cellB hO.out 4 rfl 2 (u := .int .u64 (rr.fd : Int)) rfl).1
        have d3 := (own_cellB hO.out 4 rfl 3 (u := .int .u64 (rr.at_ : Int)) rfl).1
        have d4 := (own_cellB hO.out 4 rfl 4 (u := .int .u64 (rr.sz : Int)) rfl).1
        have d5 := (own_cellB hO.out 4 rfl 5 (u := .string rr.p) rfl).1
        have d6 := (own_cellB hO.out 4 rfl 6 (u := .string rr.t) rfl).1
        have d7 := (own_cellB hO.out 4 rfl 7 (u := .string rr.d) rfl).1
        have dI := (own_cellB hO.out 2 rfl 0 (u := .bool bb) rfl).1
        have dG := (own_cellB hO.out 0 rfl 0 (u := .int .u8 (r.k : Int)) rfl).1
        rw [hK] at d0
        clear hO hn hM hrr hbb hK HN HN2
        cases bb
        · go_wp2
          go_ret
          exact ⟨by rw [HM.out]; rfl, hg.out⟩
        · go_wp2
          all_goals
            go_ret
            refine ⟨?_, hg.out⟩
            rw [HM.out, Bool.true_and]
            simp only [toList_nil] at *
            congr 1
            unfold Rq.bare
            simp [*]
end Go.Proofs.Ytlphmpimpeekcaa
