/- OctetReads, walked. -/
import Derived.Test.YtingkjmbeloepaaReadsC
import Derived.Test.YtingkjmbeloepaaSteps
import Derived.Deep.RegionHeld
namespace Go.Proofs.Ytingkjmbeloepaa.octetReads
open Go.RowKit Go.Grommet

set_option maxRecDepth 100000 in
set_option maxHeartbeats 400000 in
theorem walk_far (a0 : Option Addr) (len0 cap0 : Nat) (a1 : Option Addr) (len1 cap1 : Nat) (w : World) (h : 4096 < len0 ∨ 200 < len1) : Calls Try.prog 4 #[.slice a0 len0 cap0, .slice a1 len1 cap1] w (WorksIs w) := by
  by_cases h0 : 4096 < len0
  · have h1 : (4096 : Int) < (len0 : Int) := by omega
    go_enter Try.func4, Try.ntmps4
    go_wp2_with fail
    refine (works_any _).mono ?_
    rintro e w5 ⟨rfl, hg⟩
    go_wp2
    go_ret
    exact ⟨rfl, hg⟩
  · have h1 : ¬ (4096 : Int) < (len0 : Int) := by omega
    have h2 : (200 : Int) < (len1 : Int) := by omega
    go_enter Try.func4, Try.ntmps4
    go_wp2_with fail
    refine (works_any _).mono ?_
    rintro e w5 ⟨rfl, hg⟩
    go_wp2
    go_ret
    exact ⟨rfl, hg⟩

theorem own_pos {w : World} {base e n : Nat} {v : Value} {xs : List Value} (h : w.ownsRow base e 1 v n xs) (hn : 0 < n) : ∃ g cap, v = .slice (some ⟨g, 0, none⟩) n cap ∧ base ≤ g := by
  obtain ⟨hl, h | ⟨g, cap, cur, rfl, hb, _⟩⟩ := h
  · obtain ⟨rfl, rfl⟩ := h
    simp at hl; omega
  · exact ⟨g, cap, rfl, hb⟩

/-- The tape's own bytes. -/
def iv (n : Int) : Value := .int .u8 n

/-- What holds at each round of the second loop. -/
def Rel2 (w : World) (bs : List UInt8) (len1 B g d gr : Nat) (s9 : Value) (wr : World) : Prop :=
  ∃ k a t, k ≤ len1 ∧ s9 = .int .i64 (k : Int) ∧ TapeIs wr B g d bs a t ∧ RT wr w.heap.size gr (bs.drop a) t ∧ w.grownBy wr none

/-- .. of the first loop: the own bytes are what they are. -/
def Rel1 (w : World) (bs : List UInt8) (v : Value) (len0 B g d gr : Nat) (s8 : Value) (wr : World) : Prop :=
  ∃ (k : Nat) (cs : List Int), k ≤ len0 ∧ cs.length = len0 ∧ s8 = .int .i64 (k : Int) ∧ wr.ownsRow w.heap.size 5 1 v len0 (cs.map iv) ∧ TapeIs wr B g d bs 0 false ∧ RT wr w.heap.size gr bs false ∧ w.grownBy wr none

set_option maxRecDepth 100000 in
set_option maxHeartbeats 16000000 in
theorem walk_at (a0 : Option Addr) (len0 cap0 : Nat) (bs : List UInt8) (a1 : Option Addr) (len1 cap1 : Nat) (L : List Stp) (w : World) (hl0 : bs.length = len0) (hat : At w a0 (bs.map bv)) (hnil : a0 = none → len0 = 0 ∧ cap0 = 0) (hc0 : len0 ≤ cap0) (h : len0 ≤ 4096)
    (hI : StpsIn w a1 len1 L) (h1 : len1 ≤ 200) : Calls Try.prog 4 #[.slice a0 len0 cap0, .slice a1 len1 cap1] w (WorksIs w) := by
  obtain ⟨i0, hi, hz0, hz1, hz2⟩ := info_parts Try.info5
  have b1 : ¬ (4096 : Int) < (len0 : Int) := by omega
  have b2 : ¬ (200 : Int) < (len1 : Int) := by omega
  have d1 : decide ((4096 : Int) < (len0 : Int)) = false := by simp; omega
  have d2 : decide ((200 : Int) < (len1 : Int)) = false := by simp; omega
  have HI := Lib.hid hI
  have HL := Lib.hid hI.1
  have HL0 := Lib.hid hl0
  have HNil := Lib.hid hnil
  have hold : ∀ x, a0 = some x → bs ≠ [] → x.block < w.heap.size := by
    intro x hx hne
    have hp : 0 < bs.length := List.length_pos_iff.2 hne
    obtain ⟨q, o, he, hc⟩ := bv_at hat 0 hp
    rw [he] at hx
    cases hx
    exact World.block_lt_of_cell? w _ hc
  have HOld := Lib.hid hold
  have HAt := Lib.hid hat
  clear hI hl0 hnil hold hat
  go_enter Try.func4, Try.ntmps4
  go_wp2_with (at_builtin; refine wpList_append_at rfl _ _ 22 rfl w.heap.size 5 i0 (.int .u8 0) 1 Try.underlying22 hi hz0 hz1 hz2 rfl _ 0 [] rfl ?a1 a0 len0 cap0 (bs.map bv) rfl ?a2 ?a3 HNil.out ?a4 ?a5 ?a6 ?a7 ?_)
  case a1 => exact World.ownsRow_lit (size := 1) w #[] 0 (Nat.le_refl _) (by unfold maxLen; omega) (by simp)
  case a2 => first | exact HL0.out | (rw [List.length_map]; exact HL0.out)
  case a3 => exact HAt.out.grown (World.grownBy_alloc w _ none) (by simp)
  case a4 => first | exact bv_oneCell bs | exact fun c _ => rfl
  case a5 => unfold maxLen; omega
  case a6 => omega
  intro v w1 hown hg1
  try rw [List.nil_append, Nat.zero_add] at hown
  try rw [Nat.zero_add]
  have hg1 := grown_new (World.grownBy_alloc w (.cells #[] 5) none) hg1 (by intro g e; cases e; exact Nat.le_refl _)
  obtain ⟨ad, cap, rfl, hat1, hn1, hc1, hb1⟩ := owns_slice hown
  have HNew := Lib.hid (New_any ad len0 cap bs w1 HL0.out hat1 hn1 (by omega))
  have hB0 := hg1.size
  clear hat1
  go_wp2_with fail
  refine HNew.out.mono ?_
  rintro e w2 ⟨g, d, rfl, hT, hg2⟩
  have hBg := Nat.le_trans hB0 hT.low
  have hown2 := hown.kept hg2 (Classical.em _)
  have hg := grown_trans hg1 hg2
  have hvg : ∀ k, (Value.slice ad len0 cap).ownBlock = some k → k < w1.heap.size := fun k hk => (hown.lt k hk).2
  generalize w1.heap.size = B at hT hvg
  clear HNew hg2 hg1 hown
  have hgw : g < w2.heap.size := lt_of_block hT.cells
  have hdlt : d < w2.heap.size := (hT.bytes.lt d rfl).2
  have hown2 := hown2.alloc (.cells #[.slice a0 len0 cap0, .bool false] 39)
  have hga := World.grownBy_alloc w2 (.cells #[.slice a0 len0 cap0, .bool false] 39) none
  have hT := hT.keep hga (by simp) (by simp)
  have hRT : RT (w2.alloc (.cells #[.slice a0 len0 cap0, .bool false] 39)) w.heap.size w2.heap.size bs false :=
    ⟨a0, len0, cap0, heap_alloc_new w2 _, HL0.out, (HAt.out.grown hg (by simp)).grown hga (by simp), hc0, HOld.out, hg.size, by omega, fun e => (HNil.out e).1⟩
  have hg := grown_trans hg hga
  have hgrs : w2.heap.size < (w2.alloc (.cells #[.slice a0 len0 cap0, .bool false] 39)).heap.size := by simp
  have hgr0 : w.heap.size ≤ w2.heap.size := by have := hg.size; simp at this; omega
  obtain ⟨gr, Hgr⟩ : ∃ gr, Hid (gr = w2.heap.size) := ⟨_, Lib.hid rfl⟩
  obtain ⟨w3, hw3⟩ : ∃ w3, w3 = w2.alloc (.cells #[.slice a0 len0 cap0, .bool false] 39) := ⟨_, rfl⟩
  go_wp2_with fail
  rw [← hw3] at hT hRT hg hgrs hown2 ⊢
  clear hw3 hga
  rw [← Hgr.out] at hRT hgw hgr0 ⊢
  rw [← Hgr.out] at hdlt
  have hned : some gr ≠ some d := by intro e; injection e with e; omega
  have hneg : some gr ≠ some g := by intro e; injection e with e; omega
  have hne : some gr ≠ some g := by intro e; injection e with e; omega
  have hBgr : w.heap.size ≤ gr := hgr0
  have hvg' : (Value.slice ad len0 cap).ownBlock ≠ some g := by intro e; have := hvg g e; have := hT.low; omega
  have hvd : (Value.slice ad len0 cap).ownBlock ≠ some d := by intro e; have := hvg d e; have := (hT.bytes.lt d rfl).1; omega
  have hvr : (Value.slice ad len0 cap).ownBlock ≠ some gr := by intro e; have := hvg gr e; have := hT.low; omega
  have Hv := Lib.hid (And.intro hvg' (And.intro hvd hvr))
  have Hb := Lib.hid hb1
  have hown3 : w3.ownsRow w.heap.size 5 1 (.slice ad len0 cap) len0 ((bs.map fun c => ((c.toNat : Nat) : Int)).map iv) := by
    rw [List.map_map]; exact hown2
  clear hgw hdlt hgr0 hgrs hvg hvg' hvd hvr hn1 hc1 hb1 Hgr hown2
  go_loopw [8] (fun s8 wr => Rel1 w bs (.slice ad len0 cap) len0 B g d gr s8 wr) (fun s8 _ => len0 - (intOf s8).toNat)
  case atStart => exact ⟨0, _, Nat.zero_le _, by rw [List.length_map]; exact HL0.out, rfl, hown3, hT, hRT, hg⟩
  case round =>
    clear hown3 hT hRT hg
    obtain ⟨k, cs, hk, hcs, rfl, hown, hT, hR, hg⟩ := hrel
    have h0 : (0 : Int) ≤ (k : Int) := by omega
    by_cases hlt : k < len0
    · have hlt' : (k : Int) < (len0 : Int) := by omega
      obtain ⟨q, cap', he, hBq⟩ := own_pos hown (by omega)
      cases he
      have c1 : wr.cell? ⟨q, k, none⟩ = some (.int .u8 (cs.getD k 0)) := by
        rw [hown.cellAt k (by omega)]
        have : k < cs.length := by omega
        simp [this, iv]
      have f1 : wr.frozen? ⟨q, k, none⟩ = false := hown.frozenAt k
      have hst := (hown.stored k (iv (bits .xor .u8 (cs.getD k 0) 1))).1
      rw [← List.map_set] at hst
      have hgs := grown_setCell wr ⟨q, k, none⟩ (iv (bits .xor .u8 (cs.getD k 0) 1))
      have hqg : some q ≠ some g := Hv.out.1
      have hqd : some q ≠ some d := Hv.out.2.1
      have hqr : some gr ≠ some q := fun e => Hv.out.2.2 e.symm
      have hT2 := hT.keep hgs hqg hqd
      have hR2 := hR.keep hgs hqr (by intro j e; cases e; exact hBq)
      have hg2 := grown_new hg hgs (by intro j e; cases e; exact hBq)
      have hcl : (cs.set k (bits .xor .u8 (cs.getD k 0) 1)).length = len0 := by rw [List.length_set]; exact hcs
      have HCl := Lib.hid hcl
      obtain ⟨z, hz⟩ : ∃ z, z = cs.getD k 0 := ⟨_, rfl⟩
      rw [← hz] at c1 hst hT2 hR2 hg2 HCl
      clear hown hT hR hg hgs hcl hz hcs
      go_wp2
      go_roundw
      case rel => exact ⟨k + 1, _, by omega, HCl.out, by go_num, hst, hT2, hR2, hg2⟩
      case measure => simp [intOf]; omega
    · have hlt' : ¬ (k : Int) < (len0 : Int) := by omega
      clear hown hcs
      go_wp2_with fail
      go_loopw [9] (fun s9 wr => Rel2 w bs len1 B g d gr s9 wr) (fun s9 _ => len1 - (intOf s9).toNat)
      case atStart => exact ⟨0, 0, false, Nat.zero_le _, rfl, hT, by rw [List.drop_zero]; exact hR, hg⟩
      case round =>
        clear hT hR hg
        obtain ⟨k, a, t, hk, rfl, hT, hR, hg⟩ := hrel
        have h0 : (0 : Int) ≤ (k : Int) := by omega
        by_cases hlt : k < len1
        · have hlt' : (k : Int) < (len1 : Int) := by omega
          obtain ⟨x, hx⟩ : ∃ x, L[k]? = some x := ⟨_, List.getElem?_eq_getElem (by rw [HL.out]; exact hlt)⟩
          obtain ⟨gi, oi, rfl, s0, s1⟩ := (HI.out.grown hg).2.2 k x hx
          have hok := HI.out.2.1 x (List.mem_of_getElem? hx)
          have hd8 := bounds_u8 hok.1
          have Hxn := Lib.hid (bounds_i64 hok.2)
          have HK := Lib.hid (fun wx (hgx : w.grownBy wx none) => StpsIn.at (HI.out.grown hgx) k x hx)
          have m1 : (x.do_).tmod 3 = x.do_ % 3 := Int.tmod_eq_emod_of_nonneg (by omega)
          have m2 : IntKind.u8.wrap (x.do_ % 3) = x.do_ % 3 := IntWalk.u8_in _ ⟨by omega, by omega⟩
          have m3 : 0 ≤ x.do_ := by omega
          have m4 : x.do_ ≤ 255 := by omega
          clear hok hx hd8
          by_cases hm0 : x.do_ % 3 = 0
          · have e0 : (x.do_ % 3 == 0) = true := by simpa using hm0
            clear hm0 m1
            have HC := Lib.hid (Byte_any B g d bs a t wr hT)
            generalize hRv : byteR bs a t = R at HC
            obtain ⟨v, a', t'⟩ := R
            go_wp2_with fail
            refine HC.out.mono ?_
            rintro e wA ⟨rfl, hT, hgA⟩
            have hR := hR.keep hgA hne (by intro k e; cases e; exact hBg)
            have hg := grown_new hg hgA (by intro k e; cases e; exact hBg)
            clear HC hgA
            have hC2 := RByte_any _ gr bs a t _ hR
            rw [hRv] at hC2
            have HC2 := Lib.hid hC2
            clear hC2 hRv
            go_wp2_with fail
            refine HC2.out.mono ?_
            rintro e wB ⟨rfl, hR, hgB⟩
            have hT := hT.keep hgB hneg hned
            have hg := grown_new hg hgB (by intro k e; cases e; exact hBgr)
            clear HC2 hgB
            go_wp2_with fail
            have hpl := hT.place
            have hTd := hT.keep (row := none) (grown_drew (World.grownBy.refl _ none)) (by simp) (by simp)
            obtain ⟨rad, rl, rc, hRd⟩ := hR.keep (row := none) (grown_drew (World.grownBy.refl _ none)) (by simp) (by simp)
            have hgd := grown_drew hg
            have hrl := hRd.len_
            rw [List.length_drop] at hrl
            obtain ⟨rest, hRest⟩ : ∃ rest, Hid (rest = bs.drop a') := ⟨_, Lib.hid rfl⟩
            rw [← hRest.out] at hRd
            clear hT hR hg
            cases t' with
            | true =>
              refine wp_region_held_drew (S := fun w' => RTC w' w.heap.size gr rest true rad rl rc) (by kernel_rfl) (hRd) (fun hS => ?_)
              refine wpAnyH_take (i := 0) (oi := { dst := some 85, op := Op.move (Operand.tmp 10), type := 4, pos := "law.go:83", after := #[], guard := none }) (v := ?vqbt4r22o0) rfl (by kernel_rfl) (by kernel_rfl) (by kernel_rfl) (fun _ _ _ h => h) (Or.inl ⟨by rfl, ?hqbt4r22o0⟩) hS ?_
              case hqbt4r22o0 => (intro wx hx; skip; go_simp; (try with_reducible rfl))
              try simp only [Act.put, List.setIfInBounds_toArray, List.set_cons_zero, List.set_cons_succ]
              refine wpAnyH_take (i := 1) (oi := { dst := some 86, op := Op.unOp UnOp.not 4 (Operand.tmp 85), type := 4, pos := "law.go:83", after := #[{ on := 0, ground := Ground.data }], guard := none }) (v := ?vqbt4r22o1) rfl (by kernel_rfl) (by kernel_rfl) (by kernel_rfl) (fun _ _ _ h => h) (Or.inl ⟨by rfl, ?hqbt4r22o1⟩) hS ?_
              case hqbt4r22o1 => (intro wx hx; skip; go_simp; (try with_reducible rfl))
              try simp only [Act.put, List.setIfInBounds_toArray, List.set_cons_zero, List.set_cons_succ]
              refine wpAnyH_take (i := 2) (oi := { dst := some 87, op := Op.move (Operand.tmp 86), type := 4, pos := "law.go:83", after := #[{ on := 1, ground := Ground.data }], guard := none }) (v := ?vqbt4r22o2) rfl (by kernel_rfl) (by kernel_rfl) (by kernel_rfl) (fun _ _ _ h => h) (Or.inl ⟨by rfl, ?hqbt4r22o2⟩) hS ?_
              case hqbt4r22o2 => (intro wx hx; skip; go_simp; (try with_reducible rfl))
              try simp only [Act.put, List.setIfInBounds_toArray, List.set_cons_zero, List.set_cons_succ]
              refine wpAnyH_take (i := 3) (oi := { dst := some 88, op := Op.move (Operand.tmp 6), type := 35, pos := "law.go:83", after := #[{ on := 2, ground := Ground.guard }], guard := some (2, false) }) (v := ?vqbt4r22o3) rfl (by kernel_rfl) (by kernel_rfl) (by kernel_rfl) (fun _ _ _ h => h) (Or.inl ⟨by rfl, ?hqbt4r22o3⟩) hS ?_
              case hqbt4r22o3 => (intro wx hx; skip; go_simp; (try with_reducible rfl))
              try simp only [Act.put, List.setIfInBounds_toArray, List.set_cons_zero, List.set_cons_succ]
              refine wpAnyH_take (i := 5) (oi := { dst := some 90, op := Op.move (Operand.tmp 7), type := 37, pos := "law.go:83", after := #[{ on := 2, ground := Ground.guard }], guard := some (2, false) }) (v := ?vqbt4r22o5) rfl (by kernel_rfl) (by kernel_rfl) (by kernel_rfl) (fun _ _ _ h => h) (Or.inl ⟨by rfl, ?hqbt4r22o5⟩) hS ?_
              case hqbt4r22o5 => (intro wx hx; skip; go_simp; (try with_reducible rfl))
              try simp only [Act.put, List.setIfInBounds_toArray, List.set_cons_zero, List.set_cons_succ]
              refine wpAnyH_take (i := 6) (oi := { dst := some 91, op := Op.nilCheck (Operand.tmp 90), type := 0, pos := "law.go:83", after := #[{ on := 5, ground := Ground.data }, { on := 2, ground := Ground.guard }], guard := some (2, false) }) (v := ?vqbt4r22o6) rfl (by kernel_rfl) (by kernel_rfl) (by kernel_rfl) (fun _ _ _ h => h) (Or.inl ⟨by rfl, ?hqbt4r22o6⟩) hS ?_
              case hqbt4r22o6 => (intro wx hx; skip; go_simp; (try with_reducible rfl))
              try simp only [Act.put, List.setIfInBounds_toArray, List.set_cons_zero, List.set_cons_succ]
              refine wpAnyH_take (i := 7) (oi := { dst := some 92, op := Op.fieldAddr 39 (Operand.tmp 91) 1, type := 0, pos := "law.go:83", after := #[{ on := 6, ground := Ground.data }, { on := 2, ground := Ground.guard }], guard := some (2, false) }) (v := ?vqbt4r22o7) rfl (by kernel_rfl) (by kernel_rfl) (by kernel_rfl) (fun _ _ _ h => h) (Or.inl ⟨by rfl, ?hqbt4r22o7⟩) hS ?_
              case hqbt4r22o7 => (intro wx hx; skip; go_simp; (try with_reducible rfl))
              try simp only [Act.put, List.setIfInBounds_toArray, List.set_cons_zero, List.set_cons_succ]
              refine wpAnyH_take (i := 8) (oi := { dst := some 93, op := Op.load 4 (Operand.tmp 92), type := 4, pos := "law.go:83", after := #[{ on := 7, ground := Ground.data }, { on := 2, ground := Ground.guard }], guard := some (2, false) }) (v := ?vqbt4r22o8) rfl (by kernel_rfl) (by kernel_rfl) (by kernel_rfl) (fun _ _ _ h => h) (Or.inl ⟨by rfl, ?hqbt4r22o8⟩) hS ?_
              case hqbt4r22o8 => (intro wx hx; obtain ⟨f0, f1, _, _⟩ := RTC.facts hx; go_simp; (try with_reducible rfl))
              try simp only [Act.put, List.setIfInBounds_toArray, List.set_cons_zero, List.set_cons_succ]
              refine wpAnyH_ready (rs := [4]) (by kernel_rfl) (by simp) ?_
              refine AllReadyH.cons (o := { dst := some 89, op := Op.call { callee := Callee.value (Operand.func 27), args := #[Operand.tmp 88], argTypes := #[35] }, type := 4, pos := "law.go:83", after := #[{ on := 3, ground := Ground.data }, { on := 2, ground := Ground.chain }, { on := 2, ground := Ground.guard }], guard := some (2, false) }) rfl (fun K hK => ?_) AllReadyH.nil
              go_simp
              refine (Torn_any B g d bs a' true _ hTd).mono ?_
              rintro e wA ⟨rfl, hTA, hgA⟩
              have hgwA := grown_new hgd hgA (by intro k e; cases e; exact hBg)
              have hRA := hRd.keep hgA hne (by intro k e; cases e; exact hBg)
              refine hK.out _ _ ?hsqbt4r22o4 (fun hS => ?_)
              case hsqbt4r22o4 => (assumption)
              clear hK K
              try simp only [Act.put, List.setIfInBounds_toArray, List.set_cons_zero, List.set_cons_succ]
              refine wpAnyH_take (i := 9) (oi := { dst := some 94, op := Op.binOp BinOp.neq 4 (Operand.tmp 89) (Operand.tmp 93) 4, type := 4, pos := "law.go:83", after := #[{ on := 4, ground := Ground.data }, { on := 8, ground := Ground.data }, { on := 2, ground := Ground.guard }], guard := some (2, false) }) (v := ?vqbt4r22o9) rfl (by kernel_rfl) (by kernel_rfl) (by kernel_rfl) (fun _ _ _ h => h) (Or.inl ⟨by rfl, ?hqbt4r22o9⟩) hS ?_
              case hqbt4r22o9 => (intro wx hx; skip; go_simp; (try with_reducible rfl))
              try simp only [Act.put, List.setIfInBounds_toArray, List.set_cons_zero, List.set_cons_succ]
              refine wpAnyH_take (i := 10) (oi := { dst := some 95, op := Op.pick (Operand.tmp 87) (Operand.const (Value.bool true)) (Operand.tmp 94), type := 4, pos := "law.go:83", after := #[{ on := 2, ground := Ground.data }, { on := 9, ground := Ground.data }], guard := none }) (v := ?vqbt4r22o10) rfl (by kernel_rfl) (by kernel_rfl) (by kernel_rfl) (fun _ _ _ h => h) (Or.inl ⟨by rfl, ?hqbt4r22o10⟩) hS ?_
              case hqbt4r22o10 => (intro wx hx; skip; go_simp; (try with_reducible rfl))
              try simp only [Act.put, List.setIfInBounds_toArray, List.set_cons_zero, List.set_cons_succ]
              refine wpAnyH_take (i := 11) (oi := { dst := some 96, op := Op.move (Operand.tmp 95), type := 4, pos := "law.go:83", after := #[{ on := 10, ground := Ground.data }, { on := 4, ground := Ground.chain }], guard := none }) (v := ?vqbt4r22o11) rfl (by kernel_rfl) (by kernel_rfl) (by kernel_rfl) (fun _ _ _ h => h) (Or.inl ⟨by rfl, ?hqbt4r22o11⟩) hS ?_
              case hqbt4r22o11 => (intro wx hx; skip; go_simp; (try with_reducible rfl))
              try simp only [Act.put, List.setIfInBounds_toArray, List.set_cons_zero, List.set_cons_succ]
              refine wpAnyH_take (i := 12) (oi := { dst := some 97, op := Op.move (Operand.tmp 6), type := 35, pos := "law.go:83", after := #[{ on := 11, ground := Ground.guard }], guard := some (11, false) }) (v := ?vqbt4r22o12) rfl (by kernel_rfl) (by kernel_rfl) (by kernel_rfl) (fun _ _ _ h => h) (Or.inl ⟨by rfl, ?hqbt4r22o12⟩) hS ?_
              case hqbt4r22o12 => (intro wx hx; skip; go_simp; (try with_reducible rfl))
              try simp only [Act.put, List.setIfInBounds_toArray, List.set_cons_zero, List.set_cons_succ]
              refine wpAnyH_take (i := 14) (oi := { dst := some 99, op := Op.move (Operand.tmp 7), type := 37, pos := "law.go:83", after := #[{ on := 11, ground := Ground.guard }], guard := some (11, false) }) (v := ?vqbt4r22o14) rfl (by kernel_rfl) (by kernel_rfl) (by kernel_rfl) (fun _ _ _ h => h) (Or.inl ⟨by rfl, ?hqbt4r22o14⟩) hS ?_
              case hqbt4r22o14 => (intro wx hx; skip; go_simp; (try with_reducible rfl))
              try simp only [Act.put, List.setIfInBounds_toArray, List.set_cons_zero, List.set_cons_succ]
              refine wpAnyH_take (i := 15) (oi := { dst := some 100, op := Op.nilCheck (Operand.tmp 99), type := 0, pos := "law.go:83", after := #[{ on := 14, ground := Ground.data }, { on := 11, ground := Ground.guard }], guard := some (11, false) }) (v := ?vqbt4r22o15) rfl (by kernel_rfl) (by kernel_rfl) (by kernel_rfl) (fun _ _ _ h => h) (Or.inl ⟨by rfl, ?hqbt4r22o15⟩) hS ?_
              case hqbt4r22o15 => (intro wx hx; skip; go_simp; (try with_reducible rfl))
              try simp only [Act.put, List.setIfInBounds_toArray, List.set_cons_zero, List.set_cons_succ]
              refine wpAnyH_take (i := 16) (oi := { dst := some 101, op := Op.fieldAddr 39 (Operand.tmp 100) 1, type := 0, pos := "law.go:83", after := #[{ on := 15, ground := Ground.data }, { on := 11, ground := Ground.guard }], guard := some (11, false) }) (v := ?vqbt4r22o16) rfl (by kernel_rfl) (by kernel_rfl) (by kernel_rfl) (fun _ _ _ h => h) (Or.inl ⟨by rfl, ?hqbt4r22o16⟩) hS ?_
              case hqbt4r22o16 => (intro wx hx; skip; go_simp; (try with_reducible rfl))
              try simp only [Act.put, List.setIfInBounds_toArray, List.set_cons_zero, List.set_cons_succ]
              refine wpAnyH_take (i := 17) (oi := { dst := some 102, op := Op.load 4 (Operand.tmp 101), type := 4, pos := "law.go:83", after := #[{ on := 16, ground := Ground.data }, { on := 11, ground := Ground.guard }], guard := some (11, false) }) (v := ?vqbt4r22o17) rfl (by kernel_rfl) (by kernel_rfl) (by kernel_rfl) (fun _ _ _ h => h) (Or.inl ⟨by rfl, ?hqbt4r22o17⟩) hS ?_
              case hqbt4r22o17 => (intro wx hx; obtain ⟨f0, f1, _, _⟩ := RTC.facts hx; go_simp; (try with_reducible rfl))
              try simp only [Act.put, List.setIfInBounds_toArray, List.set_cons_zero, List.set_cons_succ]
              refine wpAnyH_take (i := 18) (oi := { dst := some 103, op := Op.unOp UnOp.not 4 (Operand.tmp 102), type := 4, pos := "law.go:83", after := #[{ on := 17, ground := Ground.data }, { on := 11, ground := Ground.guard }], guard := some (11, false) }) (v := ?vqbt4r22o18) rfl (by kernel_rfl) (by kernel_rfl) (by kernel_rfl) (fun _ _ _ h => h) (Or.inl ⟨by rfl, ?hqbt4r22o18⟩) hS ?_
              case hqbt4r22o18 => (intro wx hx; skip; go_simp; (try with_reducible rfl))
              try simp only [Act.put, List.setIfInBounds_toArray, List.set_cons_zero, List.set_cons_succ]
              refine wpAnyH_ready (rs := [13]) (by kernel_rfl) (by simp) ?_
              refine AllReadyH.cons (o := { dst := some 98, op := Op.call { callee := Callee.value (Operand.func 28), args := #[Operand.tmp 97], argTypes := #[35] }, type := 4, pos := "law.go:83", after := #[{ on := 12, ground := Ground.data }, { on := 11, ground := Ground.chain }, { on := 11, ground := Ground.guard }], guard := some (11, false) }) rfl (fun K hK => ?_) AllReadyH.nil
              go_simp
              refine (End_any B g d bs a' true _ hTA).mono ?_
              rintro e wB ⟨rfl, hTB, hgB⟩
              have hgwB := grown_new hgwA hgB (by intro k e; cases e; exact hBg)
              have hRB := hRA.keep hgB hne (by intro k e; cases e; exact hBg)
              refine hK.out _ _ ?hsqbt4r22o13 (fun hS => ?_)
              case hsqbt4r22o13 => (assumption)
              clear hK K
              try simp only [Act.put, List.setIfInBounds_toArray, List.set_cons_zero, List.set_cons_succ]
              refine wpAnyH_take (i := 19) (oi := { dst := some 104, op := Op.move (Operand.tmp 103), type := 4, pos := "law.go:83", after := #[{ on := 18, ground := Ground.data }, { on := 13, ground := Ground.chain }, { on := 11, ground := Ground.guard }], guard := some (11, false) }) (v := ?vqbt4r22o19) rfl (by kernel_rfl) (by kernel_rfl) (by kernel_rfl) (fun _ _ _ h => h) (Or.inl ⟨by rfl, ?hqbt4r22o19⟩) hS ?_
              case hqbt4r22o19 => (intro wx hx; skip; go_simp; (try with_reducible rfl))
              try simp only [Act.put, List.setIfInBounds_toArray, List.set_cons_zero, List.set_cons_succ]
              refine wpAnyH_take (i := 20) (oi := { dst := some 105, op := Op.move (Operand.tmp 7), type := 37, pos := "law.go:83", after := #[{ on := 19, ground := Ground.guard }], guard := some (19, true) }) (v := undef) rfl (by kernel_rfl) (by kernel_rfl) (by kernel_rfl) (fun _ _ _ h => h) (Or.inr ⟨by rfl, rfl⟩) hS ?_
              try simp only [Act.put, List.setIfInBounds_toArray, List.set_cons_zero, List.set_cons_succ]
              refine wpAnyH_take (i := 21) (oi := { dst := some 106, op := Op.nilCheck (Operand.tmp 105), type := 0, pos := "law.go:83", after := #[{ on := 20, ground := Ground.data }, { on := 19, ground := Ground.guard }], guard := some (19, true) }) (v := undef) rfl (by kernel_rfl) (by kernel_rfl) (by kernel_rfl) (fun _ _ _ h => h) (Or.inr ⟨by rfl, rfl⟩) hS ?_
              try simp only [Act.put, List.setIfInBounds_toArray, List.set_cons_zero, List.set_cons_succ]
              refine wpAnyH_take (i := 22) (oi := { dst := some 107, op := Op.fieldAddr 39 (Operand.tmp 106) 0, type := 0, pos := "law.go:83", after := #[{ on := 21, ground := Ground.data }, { on := 19, ground := Ground.guard }], guard := some (19, true) }) (v := undef) rfl (by kernel_rfl) (by kernel_rfl) (by kernel_rfl) (fun _ _ _ h => h) (Or.inr ⟨by rfl, rfl⟩) hS ?_
              try simp only [Act.put, List.setIfInBounds_toArray, List.set_cons_zero, List.set_cons_succ]
              refine wpAnyH_take (i := 23) (oi := { dst := some 108, op := Op.load 22 (Operand.tmp 107), type := 22, pos := "law.go:83", after := #[{ on := 22, ground := Ground.data }, { on := 19, ground := Ground.guard }], guard := some (19, true) }) (v := undef) rfl (by kernel_rfl) (by kernel_rfl) (by kernel_rfl) (fun _ _ _ h => h) (Or.inr ⟨by rfl, rfl⟩) hS ?_
              try simp only [Act.put, List.setIfInBounds_toArray, List.set_cons_zero, List.set_cons_succ]
              refine wpAnyH_take (i := 24) (oi := { dst := some 109, op := Op.call { callee := Callee.builtin Builtin.len, args := #[Operand.tmp 108], argTypes := #[22] }, type := 3, pos := "law.go:83", after := #[{ on := 23, ground := Ground.data }, { on := 19, ground := Ground.guard }], guard := some (19, true) }) (v := undef) rfl (by kernel_rfl) (by kernel_rfl) (by kernel_rfl) (fun _ _ _ h => h) (Or.inr ⟨by rfl, rfl⟩) hS ?_
              try simp only [Act.put, List.setIfInBounds_toArray, List.set_cons_zero, List.set_cons_succ]
              refine wpAnyH_take (i := 25) (oi := { dst := some 110, op := Op.binOp BinOp.eql 3 (Operand.tmp 109) (Operand.const (Value.int IntKind.i64 0)) 3, type := 4, pos := "law.go:83", after := #[{ on := 24, ground := Ground.data }, { on := 19, ground := Ground.guard }], guard := some (19, true) }) (v := undef) rfl (by kernel_rfl) (by kernel_rfl) (by kernel_rfl) (fun _ _ _ h => h) (Or.inr ⟨by rfl, rfl⟩) hS ?_
              try simp only [Act.put, List.setIfInBounds_toArray, List.set_cons_zero, List.set_cons_succ]
              refine wpAnyH_take (i := 26) (oi := { dst := some 111, op := Op.pick (Operand.tmp 104) (Operand.tmp 110) (Operand.const (Value.bool false)), type := 4, pos := "law.go:83", after := #[{ on := 19, ground := Ground.data }, { on := 25, ground := Ground.data }, { on := 11, ground := Ground.guard }], guard := some (11, false) }) (v := ?vqbt4r22o26) rfl (by kernel_rfl) (by kernel_rfl) (by kernel_rfl) (fun _ _ _ h => h) (Or.inl ⟨by rfl, ?hqbt4r22o26⟩) hS ?_
              case hqbt4r22o26 => (intro wx hx; skip; go_simp; (try with_reducible rfl))
              try simp only [Act.put, List.setIfInBounds_toArray, List.set_cons_zero, List.set_cons_succ]
              refine wpAnyH_take (i := 27) (oi := { dst := some 112, op := Op.binOp BinOp.neq 4 (Operand.tmp 98) (Operand.tmp 111) 4, type := 4, pos := "law.go:83", after := #[{ on := 13, ground := Ground.data }, { on := 26, ground := Ground.data }, { on := 11, ground := Ground.guard }], guard := some (11, false) }) (v := ?vqbt4r22o27) rfl (by kernel_rfl) (by kernel_rfl) (by kernel_rfl) (fun _ _ _ h => h) (Or.inl ⟨by rfl, ?hqbt4r22o27⟩) hS ?_
              case hqbt4r22o27 => (intro wx hx; skip; go_simp; (try with_reducible rfl))
              try simp only [Act.put, List.setIfInBounds_toArray, List.set_cons_zero, List.set_cons_succ]
              refine wpAnyH_take (i := 28) (oi := { dst := some 113, op := Op.pick (Operand.tmp 96) (Operand.const (Value.bool true)) (Operand.tmp 112), type := 4, pos := "law.go:83", after := #[{ on := 11, ground := Ground.data }, { on := 27, ground := Ground.data }], guard := none }) (v := ?vqbt4r22o28) rfl (by kernel_rfl) (by kernel_rfl) (by kernel_rfl) (fun _ _ _ h => h) (Or.inl ⟨by rfl, ?hqbt4r22o28⟩) hS ?_
              case hqbt4r22o28 => (intro wx hx; skip; go_simp; (try with_reducible rfl))
              try simp only [Act.put, List.setIfInBounds_toArray, List.set_cons_zero, List.set_cons_succ]
              refine wpAnyH_done (by kernel_rfl) ?_ _
              go_wp2
              go_roundw
              case rel => exact ⟨k + 1, a', true, by omega, by go_num, hTB, ⟨rad, rl, rc, by rw [← hRest.out] ; exact hRB⟩, hgwB⟩
              case measure => simp [intOf]; omega
            | false =>
              by_cases hend : a' = bs.length
              · have hd1 : decide (a' = bs.length) = true := by simpa using hend
                have hd2 : ((rl : Int) == 0) = true := by simp; omega
                clear hrl hend
                refine wp_region_held_drew (S := fun w' => RTC w' w.heap.size gr rest false rad rl rc) (by kernel_rfl) (hRd) (fun hS => ?_)
                refine wpAnyH_take (i := 0) (oi := { dst := some 85, op := Op.move (Operand.tmp 10), type := 4, pos := "law.go:83", after := #[], guard := none }) (v := ?vqbe4r22o0) rfl (by kernel_rfl) (by kernel_rfl) (by kernel_rfl) (fun _ _ _ h => h) (Or.inl ⟨by rfl, ?hqbe4r22o0⟩) hS ?_
                case hqbe4r22o0 => (intro wx hx; skip; go_simp; (try with_reducible rfl))
                try simp only [Act.put, List.setIfInBounds_toArray, List.set_cons_zero, List.set_cons_succ]
                refine wpAnyH_take (i := 1) (oi := { dst := some 86, op := Op.unOp UnOp.not 4 (Operand.tmp 85), type := 4, pos := "law.go:83", after := #[{ on := 0, ground := Ground.data }], guard := none }) (v := ?vqbe4r22o1) rfl (by kernel_rfl) (by kernel_rfl) (by kernel_rfl) (fun _ _ _ h => h) (Or.inl ⟨by rfl, ?hqbe4r22o1⟩) hS ?_
                case hqbe4r22o1 => (intro wx hx; skip; go_simp; (try with_reducible rfl))
                try simp only [Act.put, List.setIfInBounds_toArray, List.set_cons_zero, List.set_cons_succ]
                refine wpAnyH_take (i := 2) (oi := { dst := some 87, op := Op.move (Operand.tmp 86), type := 4, pos := "law.go:83", after := #[{ on := 1, ground := Ground.data }], guard := none }) (v := ?vqbe4r22o2) rfl (by kernel_rfl) (by kernel_rfl) (by kernel_rfl) (fun _ _ _ h => h) (Or.inl ⟨by rfl, ?hqbe4r22o2⟩) hS ?_
                case hqbe4r22o2 => (intro wx hx; skip; go_simp; (try with_reducible rfl))
                try simp only [Act.put, List.setIfInBounds_toArray, List.set_cons_zero, List.set_cons_succ]
                refine wpAnyH_take (i := 3) (oi := { dst := some 88, op := Op.move (Operand.tmp 6), type := 35, pos := "law.go:83", after := #[{ on := 2, ground := Ground.guard }], guard := some (2, false) }) (v := ?vqbe4r22o3) rfl (by kernel_rfl) (by kernel_rfl) (by kernel_rfl) (fun _ _ _ h => h) (Or.inl ⟨by rfl, ?hqbe4r22o3⟩) hS ?_
                case hqbe4r22o3 => (intro wx hx; skip; go_simp; (try with_reducible rfl))
                try simp only [Act.put, List.setIfInBounds_toArray, List.set_cons_zero, List.set_cons_succ]
                refine wpAnyH_take (i := 5) (oi := { dst := some 90, op := Op.move (Operand.tmp 7), type := 37, pos := "law.go:83", after := #[{ on := 2, ground := Ground.guard }], guard := some (2, false) }) (v := ?vqbe4r22o5) rfl (by kernel_rfl) (by kernel_rfl) (by kernel_rfl) (fun _ _ _ h => h) (Or.inl ⟨by rfl, ?hqbe4r22o5⟩) hS ?_
                case hqbe4r22o5 => (intro wx hx; skip; go_simp; (try with_reducible rfl))
                try simp only [Act.put, List.setIfInBounds_toArray, List.set_cons_zero, List.set_cons_succ]
                refine wpAnyH_take (i := 6) (oi := { dst := some 91, op := Op.nilCheck (Operand.tmp 90), type := 0, pos := "law.go:83", after := #[{ on := 5, ground := Ground.data }, { on := 2, ground := Ground.guard }], guard := some (2, false) }) (v := ?vqbe4r22o6) rfl (by kernel_rfl) (by kernel_rfl) (by kernel_rfl) (fun _ _ _ h => h) (Or.inl ⟨by rfl, ?hqbe4r22o6⟩) hS ?_
                case hqbe4r22o6 => (intro wx hx; skip; go_simp; (try with_reducible rfl))
                try simp only [Act.put, List.setIfInBounds_toArray, List.set_cons_zero, List.set_cons_succ]
                refine wpAnyH_take (i := 7) (oi := { dst := some 92, op := Op.fieldAddr 39 (Operand.tmp 91) 1, type := 0, pos := "law.go:83", after := #[{ on := 6, ground := Ground.data }, { on := 2, ground := Ground.guard }], guard := some (2, false) }) (v := ?vqbe4r22o7) rfl (by kernel_rfl) (by kernel_rfl) (by kernel_rfl) (fun _ _ _ h => h) (Or.inl ⟨by rfl, ?hqbe4r22o7⟩) hS ?_
                case hqbe4r22o7 => (intro wx hx; skip; go_simp; (try with_reducible rfl))
                try simp only [Act.put, List.setIfInBounds_toArray, List.set_cons_zero, List.set_cons_succ]
                refine wpAnyH_take (i := 8) (oi := { dst := some 93, op := Op.load 4 (Operand.tmp 92), type := 4, pos := "law.go:83", after := #[{ on := 7, ground := Ground.data }, { on := 2, ground := Ground.guard }], guard := some (2, false) }) (v := ?vqbe4r22o8) rfl (by kernel_rfl) (by kernel_rfl) (by kernel_rfl) (fun _ _ _ h => h) (Or.inl ⟨by rfl, ?hqbe4r22o8⟩) hS ?_
                case hqbe4r22o8 => (intro wx hx; obtain ⟨f0, f1, _, _⟩ := RTC.facts hx; go_simp; (try with_reducible rfl))
                try simp only [Act.put, List.setIfInBounds_toArray, List.set_cons_zero, List.set_cons_succ]
                refine wpAnyH_ready (rs := [4]) (by kernel_rfl) (by simp) ?_
                refine AllReadyH.cons (o := { dst := some 89, op := Op.call { callee := Callee.value (Operand.func 27), args := #[Operand.tmp 88], argTypes := #[35] }, type := 4, pos := "law.go:83", after := #[{ on := 3, ground := Ground.data }, { on := 2, ground := Ground.chain }, { on := 2, ground := Ground.guard }], guard := some (2, false) }) rfl (fun K hK => ?_) AllReadyH.nil
                go_simp
                refine (Torn_any B g d bs a' false _ hTd).mono ?_
                rintro e wA ⟨rfl, hTA, hgA⟩
                have hgwA := grown_new hgd hgA (by intro k e; cases e; exact hBg)
                have hRA := hRd.keep hgA hne (by intro k e; cases e; exact hBg)
                refine hK.out _ _ ?hsqbe4r22o4 (fun hS => ?_)
                case hsqbe4r22o4 => (assumption)
                clear hK K
                try simp only [Act.put, List.setIfInBounds_toArray, List.set_cons_zero, List.set_cons_succ]
                refine wpAnyH_take (i := 9) (oi := { dst := some 94, op := Op.binOp BinOp.neq 4 (Operand.tmp 89) (Operand.tmp 93) 4, type := 4, pos := "law.go:83", after := #[{ on := 4, ground := Ground.data }, { on := 8, ground := Ground.data }, { on := 2, ground := Ground.guard }], guard := some (2, false) }) (v := ?vqbe4r22o9) rfl (by kernel_rfl) (by kernel_rfl) (by kernel_rfl) (fun _ _ _ h => h) (Or.inl ⟨by rfl, ?hqbe4r22o9⟩) hS ?_
                case hqbe4r22o9 => (intro wx hx; skip; go_simp; (try with_reducible rfl))
                try simp only [Act.put, List.setIfInBounds_toArray, List.set_cons_zero, List.set_cons_succ]
                refine wpAnyH_take (i := 10) (oi := { dst := some 95, op := Op.pick (Operand.tmp 87) (Operand.const (Value.bool true)) (Operand.tmp 94), type := 4, pos := "law.go:83", after := #[{ on := 2, ground := Ground.data }, { on := 9, ground := Ground.data }], guard := none }) (v := ?vqbe4r22o10) rfl (by kernel_rfl) (by kernel_rfl) (by kernel_rfl) (fun _ _ _ h => h) (Or.inl ⟨by rfl, ?hqbe4r22o10⟩) hS ?_
                case hqbe4r22o10 => (intro wx hx; skip; go_simp; (try with_reducible rfl))
                try simp only [Act.put, List.setIfInBounds_toArray, List.set_cons_zero, List.set_cons_succ]
                refine wpAnyH_take (i := 11) (oi := { dst := some 96, op := Op.move (Operand.tmp 95), type := 4, pos := "law.go:83", after := #[{ on := 10, ground := Ground.data }, { on := 4, ground := Ground.chain }], guard := none }) (v := ?vqbe4r22o11) rfl (by kernel_rfl) (by kernel_rfl) (by kernel_rfl) (fun _ _ _ h => h) (Or.inl ⟨by rfl, ?hqbe4r22o11⟩) hS ?_
                case hqbe4r22o11 => (intro wx hx; skip; go_simp; (try with_reducible rfl))
                try simp only [Act.put, List.setIfInBounds_toArray, List.set_cons_zero, List.set_cons_succ]
                refine wpAnyH_take (i := 12) (oi := { dst := some 97, op := Op.move (Operand.tmp 6), type := 35, pos := "law.go:83", after := #[{ on := 11, ground := Ground.guard }], guard := some (11, false) }) (v := ?vqbe4r22o12) rfl (by kernel_rfl) (by kernel_rfl) (by kernel_rfl) (fun _ _ _ h => h) (Or.inl ⟨by rfl, ?hqbe4r22o12⟩) hS ?_
                case hqbe4r22o12 => (intro wx hx; skip; go_simp; (try with_reducible rfl))
                try simp only [Act.put, List.setIfInBounds_toArray, List.set_cons_zero, List.set_cons_succ]
                refine wpAnyH_take (i := 14) (oi := { dst := some 99, op := Op.move (Operand.tmp 7), type := 37, pos := "law.go:83", after := #[{ on := 11, ground := Ground.guard }], guard := some (11, false) }) (v := ?vqbe4r22o14) rfl (by kernel_rfl) (by kernel_rfl) (by kernel_rfl) (fun _ _ _ h => h) (Or.inl ⟨by rfl, ?hqbe4r22o14⟩) hS ?_
                case hqbe4r22o14 => (intro wx hx; skip; go_simp; (try with_reducible rfl))
                try simp only [Act.put, List.setIfInBounds_toArray, List.set_cons_zero, List.set_cons_succ]
                refine wpAnyH_take (i := 15) (oi := { dst := some 100, op := Op.nilCheck (Operand.tmp 99), type := 0, pos := "law.go:83", after := #[{ on := 14, ground := Ground.data }, { on := 11, ground := Ground.guard }], guard := some (11, false) }) (v := ?vqbe4r22o15) rfl (by kernel_rfl) (by kernel_rfl) (by kernel_rfl) (fun _ _ _ h => h) (Or.inl ⟨by rfl, ?hqbe4r22o15⟩) hS ?_
                case hqbe4r22o15 => (intro wx hx; skip; go_simp; (try with_reducible rfl))
                try simp only [Act.put, List.setIfInBounds_toArray, List.set_cons_zero, List.set_cons_succ]
                refine wpAnyH_take (i := 16) (oi := { dst := some 101, op := Op.fieldAddr 39 (Operand.tmp 100) 1, type := 0, pos := "law.go:83", after := #[{ on := 15, ground := Ground.data }, { on := 11, ground := Ground.guard }], guard := some (11, false) }) (v := ?vqbe4r22o16) rfl (by kernel_rfl) (by kernel_rfl) (by kernel_rfl) (fun _ _ _ h => h) (Or.inl ⟨by rfl, ?hqbe4r22o16⟩) hS ?_
                case hqbe4r22o16 => (intro wx hx; skip; go_simp; (try with_reducible rfl))
                try simp only [Act.put, List.setIfInBounds_toArray, List.set_cons_zero, List.set_cons_succ]
                refine wpAnyH_take (i := 17) (oi := { dst := some 102, op := Op.load 4 (Operand.tmp 101), type := 4, pos := "law.go:83", after := #[{ on := 16, ground := Ground.data }, { on := 11, ground := Ground.guard }], guard := some (11, false) }) (v := ?vqbe4r22o17) rfl (by kernel_rfl) (by kernel_rfl) (by kernel_rfl) (fun _ _ _ h => h) (Or.inl ⟨by rfl, ?hqbe4r22o17⟩) hS ?_
                case hqbe4r22o17 => (intro wx hx; obtain ⟨f0, f1, _, _⟩ := RTC.facts hx; go_simp; (try with_reducible rfl))
                try simp only [Act.put, List.setIfInBounds_toArray, List.set_cons_zero, List.set_cons_succ]
                refine wpAnyH_take (i := 18) (oi := { dst := some 103, op := Op.unOp UnOp.not 4 (Operand.tmp 102), type := 4, pos := "law.go:83", after := #[{ on := 17, ground := Ground.data }, { on := 11, ground := Ground.guard }], guard := some (11, false) }) (v := ?vqbe4r22o18) rfl (by kernel_rfl) (by kernel_rfl) (by kernel_rfl) (fun _ _ _ h => h) (Or.inl ⟨by rfl, ?hqbe4r22o18⟩) hS ?_
                case hqbe4r22o18 => (intro wx hx; skip; go_simp; (try with_reducible rfl))
                try simp only [Act.put, List.setIfInBounds_toArray, List.set_cons_zero, List.set_cons_succ]
                refine wpAnyH_ready (rs := [13]) (by kernel_rfl) (by simp) ?_
                refine AllReadyH.cons (o := { dst := some 98, op := Op.call { callee := Callee.value (Operand.func 28), args := #[Operand.tmp 97], argTypes := #[35] }, type := 4, pos := "law.go:83", after := #[{ on := 12, ground := Ground.data }, { on := 11, ground := Ground.chain }, { on := 11, ground := Ground.guard }], guard := some (11, false) }) rfl (fun K hK => ?_) AllReadyH.nil
                go_simp
                refine (End_any B g d bs a' false _ hTA).mono ?_
                rintro e wB ⟨rfl, hTB, hgB⟩
                have hgwB := grown_new hgwA hgB (by intro k e; cases e; exact hBg)
                have hRB := hRA.keep hgB hne (by intro k e; cases e; exact hBg)
                refine hK.out _ _ ?hsqbe4r22o13 (fun hS => ?_)
                case hsqbe4r22o13 => (assumption)
                clear hK K
                try simp only [Act.put, List.setIfInBounds_toArray, List.set_cons_zero, List.set_cons_succ]
                refine wpAnyH_take (i := 19) (oi := { dst := some 104, op := Op.move (Operand.tmp 103), type := 4, pos := "law.go:83", after := #[{ on := 18, ground := Ground.data }, { on := 13, ground := Ground.chain }, { on := 11, ground := Ground.guard }], guard := some (11, false) }) (v := ?vqbe4r22o19) rfl (by kernel_rfl) (by kernel_rfl) (by kernel_rfl) (fun _ _ _ h => h) (Or.inl ⟨by rfl, ?hqbe4r22o19⟩) hS ?_
                case hqbe4r22o19 => (intro wx hx; skip; go_simp; (try with_reducible rfl))
                try simp only [Act.put, List.setIfInBounds_toArray, List.set_cons_zero, List.set_cons_succ]
                refine wpAnyH_take (i := 20) (oi := { dst := some 105, op := Op.move (Operand.tmp 7), type := 37, pos := "law.go:83", after := #[{ on := 19, ground := Ground.guard }], guard := some (19, true) }) (v := ?vqbe4r22o20) rfl (by kernel_rfl) (by kernel_rfl) (by kernel_rfl) (fun _ _ _ h => h) (Or.inl ⟨by rfl, ?hqbe4r22o20⟩) hS ?_
                case hqbe4r22o20 => (intro wx hx; skip; go_simp; (try with_reducible rfl))
                try simp only [Act.put, List.setIfInBounds_toArray, List.set_cons_zero, List.set_cons_succ]
                refine wpAnyH_take (i := 21) (oi := { dst := some 106, op := Op.nilCheck (Operand.tmp 105), type := 0, pos := "law.go:83", after := #[{ on := 20, ground := Ground.data }, { on := 19, ground := Ground.guard }], guard := some (19, true) }) (v := ?vqbe4r22o21) rfl (by kernel_rfl) (by kernel_rfl) (by kernel_rfl) (fun _ _ _ h => h) (Or.inl ⟨by rfl, ?hqbe4r22o21⟩) hS ?_
                case hqbe4r22o21 => (intro wx hx; skip; go_simp; (try with_reducible rfl))
                try simp only [Act.put, List.setIfInBounds_toArray, List.set_cons_zero, List.set_cons_succ]
                refine wpAnyH_take (i := 22) (oi := { dst := some 107, op := Op.fieldAddr 39 (Operand.tmp 106) 0, type := 0, pos := "law.go:83", after := #[{ on := 21, ground := Ground.data }, { on := 19, ground := Ground.guard }], guard := some (19, true) }) (v := ?vqbe4r22o22) rfl (by kernel_rfl) (by kernel_rfl) (by kernel_rfl) (fun _ _ _ h => h) (Or.inl ⟨by rfl, ?hqbe4r22o22⟩) hS ?_
                case hqbe4r22o22 => (intro wx hx; skip; go_simp; (try with_reducible rfl))
                try simp only [Act.put, List.setIfInBounds_toArray, List.set_cons_zero, List.set_cons_succ]
                refine wpAnyH_take (i := 23) (oi := { dst := some 108, op := Op.load 22 (Operand.tmp 107), type := 22, pos := "law.go:83", after := #[{ on := 22, ground := Ground.data }, { on := 19, ground := Ground.guard }], guard := some (19, true) }) (v := ?vqbe4r22o23) rfl (by kernel_rfl) (by kernel_rfl) (by kernel_rfl) (fun _ _ _ h => h) (Or.inl ⟨by rfl, ?hqbe4r22o23⟩) hS ?_
                case hqbe4r22o23 => (intro wx hx; obtain ⟨f0, f1, _, _⟩ := RTC.facts hx; go_simp; (try with_reducible rfl))
                try simp only [Act.put, List.setIfInBounds_toArray, List.set_cons_zero, List.set_cons_succ]
                refine wpAnyH_take (i := 24) (oi := { dst := some 109, op := Op.call { callee := Callee.builtin Builtin.len, args := #[Operand.tmp 108], argTypes := #[22] }, type := 3, pos := "law.go:83", after := #[{ on := 23, ground := Ground.data }, { on := 19, ground := Ground.guard }], guard := some (19, true) }) (v := ?vqbe4r22o24) rfl (by kernel_rfl) (by kernel_rfl) (by kernel_rfl) (fun _ _ _ h => h) (Or.inl ⟨by rfl, ?hqbe4r22o24⟩) hS ?_
                case hqbe4r22o24 => (intro wx hx; skip; go_simp; (try with_reducible rfl))
                try simp only [Act.put, List.setIfInBounds_toArray, List.set_cons_zero, List.set_cons_succ]
                refine wpAnyH_take (i := 25) (oi := { dst := some 110, op := Op.binOp BinOp.eql 3 (Operand.tmp 109) (Operand.const (Value.int IntKind.i64 0)) 3, type := 4, pos := "law.go:83", after := #[{ on := 24, ground := Ground.data }, { on := 19, ground := Ground.guard }], guard := some (19, true) }) (v := ?vqbe4r22o25) rfl (by kernel_rfl) (by kernel_rfl) (by kernel_rfl) (fun _ _ _ h => h) (Or.inl ⟨by rfl, ?hqbe4r22o25⟩) hS ?_
                case hqbe4r22o25 => (intro wx hx; skip; go_simp; (try with_reducible rfl))
                try simp only [Act.put, List.setIfInBounds_toArray, List.set_cons_zero, List.set_cons_succ]
                refine wpAnyH_take (i := 26) (oi := { dst := some 111, op := Op.pick (Operand.tmp 104) (Operand.tmp 110) (Operand.const (Value.bool false)), type := 4, pos := "law.go:83", after := #[{ on := 19, ground := Ground.data }, { on := 25, ground := Ground.data }, { on := 11, ground := Ground.guard }], guard := some (11, false) }) (v := ?vqbe4r22o26) rfl (by kernel_rfl) (by kernel_rfl) (by kernel_rfl) (fun _ _ _ h => h) (Or.inl ⟨by rfl, ?hqbe4r22o26⟩) hS ?_
                case hqbe4r22o26 => (intro wx hx; skip; go_simp; (try with_reducible rfl))
                try simp only [Act.put, List.setIfInBounds_toArray, List.set_cons_zero, List.set_cons_succ]
                refine wpAnyH_take (i := 27) (oi := { dst := some 112, op := Op.binOp BinOp.neq 4 (Operand.tmp 98) (Operand.tmp 111) 4, type := 4, pos := "law.go:83", after := #[{ on := 13, ground := Ground.data }, { on := 26, ground := Ground.data }, { on := 11, ground := Ground.guard }], guard := some (11, false) }) (v := ?vqbe4r22o27) rfl (by kernel_rfl) (by kernel_rfl) (by kernel_rfl) (fun _ _ _ h => h) (Or.inl ⟨by rfl, ?hqbe4r22o27⟩) hS ?_
                case hqbe4r22o27 => (intro wx hx; skip; go_simp; (try with_reducible rfl))
                try simp only [Act.put, List.setIfInBounds_toArray, List.set_cons_zero, List.set_cons_succ]
                refine wpAnyH_take (i := 28) (oi := { dst := some 113, op := Op.pick (Operand.tmp 96) (Operand.const (Value.bool true)) (Operand.tmp 112), type := 4, pos := "law.go:83", after := #[{ on := 11, ground := Ground.data }, { on := 27, ground := Ground.data }], guard := none }) (v := ?vqbe4r22o28) rfl (by kernel_rfl) (by kernel_rfl) (by kernel_rfl) (fun _ _ _ h => h) (Or.inl ⟨by rfl, ?hqbe4r22o28⟩) hS ?_
                case hqbe4r22o28 => (intro wx hx; skip; go_simp; (try with_reducible rfl))
                try simp only [Act.put, List.setIfInBounds_toArray, List.set_cons_zero, List.set_cons_succ]
                refine wpAnyH_done (by kernel_rfl) ?_ _
                go_wp2
                go_roundw
                case rel => exact ⟨k + 1, a', false, by omega, by go_num, hTB, ⟨rad, rl, rc, by rw [← hRest.out] ; exact hRB⟩, hgwB⟩
                case measure => simp [intOf]; omega
              · have hd1 : decide (a' = bs.length) = false := by simpa using hend
                have hd2 : ((rl : Int) == 0) = false := by simp; omega
                clear hrl hend
                refine wp_region_held_drew (S := fun w' => RTC w' w.heap.size gr rest false rad rl rc) (by kernel_rfl) (hRd) (fun hS => ?_)
                refine wpAnyH_take (i := 0) (oi := { dst := some 85, op := Op.move (Operand.tmp 10), type := 4, pos := "law.go:83", after := #[], guard := none }) (v := ?vqbn4r22o0) rfl (by kernel_rfl) (by kernel_rfl) (by kernel_rfl) (fun _ _ _ h => h) (Or.inl ⟨by rfl, ?hqbn4r22o0⟩) hS ?_
                case hqbn4r22o0 => (intro wx hx; skip; go_simp; (try with_reducible rfl))
                try simp only [Act.put, List.setIfInBounds_toArray, List.set_cons_zero, List.set_cons_succ]
                refine wpAnyH_take (i := 1) (oi := { dst := some 86, op := Op.unOp UnOp.not 4 (Operand.tmp 85), type := 4, pos := "law.go:83", after := #[{ on := 0, ground := Ground.data }], guard := none }) (v := ?vqbn4r22o1) rfl (by kernel_rfl) (by kernel_rfl) (by kernel_rfl) (fun _ _ _ h => h) (Or.inl ⟨by rfl, ?hqbn4r22o1⟩) hS ?_
                case hqbn4r22o1 => (intro wx hx; skip; go_simp; (try with_reducible rfl))
                try simp only [Act.put, List.setIfInBounds_toArray, List.set_cons_zero, List.set_cons_succ]
                refine wpAnyH_take (i := 2) (oi := { dst := some 87, op := Op.move (Operand.tmp 86), type := 4, pos := "law.go:83", after := #[{ on := 1, ground := Ground.data }], guard := none }) (v := ?vqbn4r22o2) rfl (by kernel_rfl) (by kernel_rfl) (by kernel_rfl) (fun _ _ _ h => h) (Or.inl ⟨by rfl, ?hqbn4r22o2⟩) hS ?_
                case hqbn4r22o2 => (intro wx hx; skip; go_simp; (try with_reducible rfl))
                try simp only [Act.put, List.setIfInBounds_toArray, List.set_cons_zero, List.set_cons_succ]
                refine wpAnyH_take (i := 3) (oi := { dst := some 88, op := Op.move (Operand.tmp 6), type := 35, pos := "law.go:83", after := #[{ on := 2, ground := Ground.guard }], guard := some (2, false) }) (v := ?vqbn4r22o3) rfl (by kernel_rfl) (by kernel_rfl) (by kernel_rfl) (fun _ _ _ h => h) (Or.inl ⟨by rfl, ?hqbn4r22o3⟩) hS ?_
                case hqbn4r22o3 => (intro wx hx; skip; go_simp; (try with_reducible rfl))
                try simp only [Act.put, List.setIfInBounds_toArray, List.set_cons_zero, List.set_cons_succ]
                refine wpAnyH_take (i := 5) (oi := { dst := some 90, op := Op.move (Operand.tmp 7), type := 37, pos := "law.go:83", after := #[{ on := 2, ground := Ground.guard }], guard := some (2, false) }) (v := ?vqbn4r22o5) rfl (by kernel_rfl) (by kernel_rfl) (by kernel_rfl) (fun _ _ _ h => h) (Or.inl ⟨by rfl, ?hqbn4r22o5⟩) hS ?_
                case hqbn4r22o5 => (intro wx hx; skip; go_simp; (try with_reducible rfl))
                try simp only [Act.put, List.setIfInBounds_toArray, List.set_cons_zero, List.set_cons_succ]
                refine wpAnyH_take (i := 6) (oi := { dst := some 91, op := Op.nilCheck (Operand.tmp 90), type := 0, pos := "law.go:83", after := #[{ on := 5, ground := Ground.data }, { on := 2, ground := Ground.guard }], guard := some (2, false) }) (v := ?vqbn4r22o6) rfl (by kernel_rfl) (by kernel_rfl) (by kernel_rfl) (fun _ _ _ h => h) (Or.inl ⟨by rfl, ?hqbn4r22o6⟩) hS ?_
                case hqbn4r22o6 => (intro wx hx; skip; go_simp; (try with_reducible rfl))
                try simp only [Act.put, List.setIfInBounds_toArray, List.set_cons_zero, List.set_cons_succ]
                refine wpAnyH_take (i := 7) (oi := { dst := some 92, op := Op.fieldAddr 39 (Operand.tmp 91) 1, type := 0, pos := "law.go:83", after := #[{ on := 6, ground := Ground.data }, { on := 2, ground := Ground.guard }], guard := some (2, false) }) (v := ?vqbn4r22o7) rfl (by kernel_rfl) (by kernel_rfl) (by kernel_rfl) (fun _ _ _ h => h) (Or.inl ⟨by rfl, ?hqbn4r22o7⟩) hS ?_
                case hqbn4r22o7 => (intro wx hx; skip; go_simp; (try with_reducible rfl))
                try simp only [Act.put, List.setIfInBounds_toArray, List.set_cons_zero, List.set_cons_succ]
                refine wpAnyH_take (i := 8) (oi := { dst := some 93, op := Op.load 4 (Operand.tmp 92), type := 4, pos := "law.go:83", after := #[{ on := 7, ground := Ground.data }, { on := 2, ground := Ground.guard }], guard := some (2, false) }) (v := ?vqbn4r22o8) rfl (by kernel_rfl) (by kernel_rfl) (by kernel_rfl) (fun _ _ _ h => h) (Or.inl ⟨by rfl, ?hqbn4r22o8⟩) hS ?_
                case hqbn4r22o8 => (intro wx hx; obtain ⟨f0, f1, _, _⟩ := RTC.facts hx; go_simp; (try with_reducible rfl))
                try simp only [Act.put, List.setIfInBounds_toArray, List.set_cons_zero, List.set_cons_succ]
                refine wpAnyH_ready (rs := [4]) (by kernel_rfl) (by simp) ?_
                refine AllReadyH.cons (o := { dst := some 89, op := Op.call { callee := Callee.value (Operand.func 27), args := #[Operand.tmp 88], argTypes := #[35] }, type := 4, pos := "law.go:83", after := #[{ on := 3, ground := Ground.data }, { on := 2, ground := Ground.chain }, { on := 2, ground := Ground.guard }], guard := some (2, false) }) rfl (fun K hK => ?_) AllReadyH.nil
                go_simp
                refine (Torn_any B g d bs a' false _ hTd).mono ?_
                rintro e wA ⟨rfl, hTA, hgA⟩
                have hgwA := grown_new hgd hgA (by intro k e; cases e; exact hBg)
                have hRA := hRd.keep hgA hne (by intro k e; cases e; exact hBg)
                refine hK.out _ _ ?hsqbn4r22o4 (fun hS => ?_)
                case hsqbn4r22o4 => (assumption)
                clear hK K
                try simp only [Act.put, List.setIfInBounds_toArray, List.set_cons_zero, List.set_cons_succ]
                refine wpAnyH_take (i := 9) (oi := { dst := some 94, op := Op.binOp BinOp.neq 4 (Operand.tmp 89) (Operand.tmp 93) 4, type := 4, pos := "law.go:83", after := #[{ on := 4, ground := Ground.data }, { on := 8, ground := Ground.data }, { on := 2, ground := Ground.guard }], guard := some (2, false) }) (v := ?vqbn4r22o9) rfl (by kernel_rfl) (by kernel_rfl) (by kernel_rfl) (fun _ _ _ h => h) (Or.inl ⟨by rfl, ?hqbn4r22o9⟩) hS ?_
                case hqbn4r22o9 => (intro wx hx; skip; go_simp; (try with_reducible rfl))
                try simp only [Act.put, List.setIfInBounds_toArray, List.set_cons_zero, List.set_cons_succ]
                refine wpAnyH_take (i := 10) (oi := { dst := some 95, op := Op.pick (Operand.tmp 87) (Operand.const (Value.bool true)) (Operand.tmp 94), type := 4, pos := "law.go:83", after := #[{ on := 2, ground := Ground.data }, { on := 9, ground := Ground.data }], guard := none }) (v := ?vqbn4r22o10) rfl (by kernel_rfl) (by kernel_rfl) (by kernel_rfl) (fun _ _ _ h => h) (Or.inl ⟨by rfl, ?hqbn4r22o10⟩) hS ?_
                case hqbn4r22o10 => (intro wx hx; skip; go_simp; (try with_reducible rfl))
                try simp only [Act.put, List.setIfInBounds_toArray, List.set_cons_zero, List.set_cons_succ]
                refine wpAnyH_take (i := 11) (oi := { dst := some 96, op := Op.move (Operand.tmp 95), type := 4, pos := "law.go:83", after := #[{ on := 10, ground := Ground.data }, { on := 4, ground := Ground.chain }], guard := none }) (v := ?vqbn4r22o11) rfl (by kernel_rfl) (by kernel_rfl) (by kernel_rfl) (fun _ _ _ h => h) (Or.inl ⟨by rfl, ?hqbn4r22o11⟩) hS ?_
                case hqbn4r22o11 => (intro wx hx; skip; go_simp; (try with_reducible rfl))
                try simp only [Act.put, List.setIfInBounds_toArray, List.set_cons_zero, List.set_cons_succ]
                refine wpAnyH_take (i := 12) (oi := { dst := some 97, op := Op.move (Operand.tmp 6), type := 35, pos := "law.go:83", after := #[{ on := 11, ground := Ground.guard }], guard := some (11, false) }) (v := ?vqbn4r22o12) rfl (by kernel_rfl) (by kernel_rfl) (by kernel_rfl) (fun _ _ _ h => h) (Or.inl ⟨by rfl, ?hqbn4r22o12⟩) hS ?_
                case hqbn4r22o12 => (intro wx hx; skip; go_simp; (try with_reducible rfl))
                try simp only [Act.put, List.setIfInBounds_toArray, List.set_cons_zero, List.set_cons_succ]
                refine wpAnyH_take (i := 14) (oi := { dst := some 99, op := Op.move (Operand.tmp 7), type := 37, pos := "law.go:83", after := #[{ on := 11, ground := Ground.guard }], guard := some (11, false) }) (v := ?vqbn4r22o14) rfl (by kernel_rfl) (by kernel_rfl) (by kernel_rfl) (fun _ _ _ h => h) (Or.inl ⟨by rfl, ?hqbn4r22o14⟩) hS ?_
                case hqbn4r22o14 => (intro wx hx; skip; go_simp; (try with_reducible rfl))
                try simp only [Act.put, List.setIfInBounds_toArray, List.set_cons_zero, List.set_cons_succ]
                refine wpAnyH_take (i := 15) (oi := { dst := some 100, op := Op.nilCheck (Operand.tmp 99), type := 0, pos := "law.go:83", after := #[{ on := 14, ground := Ground.data }, { on := 11, ground := Ground.guard }], guard := some (11, false) }) (v := ?vqbn4r22o15) rfl (by kernel_rfl) (by kernel_rfl) (by kernel_rfl) (fun _ _ _ h => h) (Or.inl ⟨by rfl, ?hqbn4r22o15⟩) hS ?_
                case hqbn4r22o15 => (intro wx hx; skip; go_simp; (try with_reducible rfl))
                try simp only [Act.put, List.setIfInBounds_toArray, List.set_cons_zero, List.set_cons_succ]
                refine wpAnyH_take (i := 16) (oi := { dst := some 101, op := Op.fieldAddr 39 (Operand.tmp 100) 1, type := 0, pos := "law.go:83", after := #[{ on := 15, ground := Ground.data }, { on := 11, ground := Ground.guard }], guard := some (11, false) }) (v := ?vqbn4r22o16) rfl (by kernel_rfl) (by kernel_rfl) (by kernel_rfl) (fun _ _ _ h => h) (Or.inl ⟨by rfl, ?hqbn4r22o16⟩) hS ?_
                case hqbn4r22o16 => (intro wx hx; skip; go_simp; (try with_reducible rfl))
                try simp only [Act.put, List.setIfInBounds_toArray, List.set_cons_zero, List.set_cons_succ]
                refine wpAnyH_take (i := 17) (oi := { dst := some 102, op := Op.load 4 (Operand.tmp 101), type := 4, pos := "law.go:83", after := #[{ on := 16, ground := Ground.data }, { on := 11, ground := Ground.guard }], guard := some (11, false) }) (v := ?vqbn4r22o17) rfl (by kernel_rfl) (by kernel_rfl) (by kernel_rfl) (fun _ _ _ h => h) (Or.inl ⟨by rfl, ?hqbn4r22o17⟩) hS ?_
                case hqbn4r22o17 => (intro wx hx; obtain ⟨f0, f1, _, _⟩ := RTC.facts hx; go_simp; (try with_reducible rfl))
                try simp only [Act.put, List.setIfInBounds_toArray, List.set_cons_zero, List.set_cons_succ]
                refine wpAnyH_take (i := 18) (oi := { dst := some 103, op := Op.unOp UnOp.not 4 (Operand.tmp 102), type := 4, pos := "law.go:83", after := #[{ on := 17, ground := Ground.data }, { on := 11, ground := Ground.guard }], guard := some (11, false) }) (v := ?vqbn4r22o18) rfl (by kernel_rfl) (by kernel_rfl) (by kernel_rfl) (fun _ _ _ h => h) (Or.inl ⟨by rfl, ?hqbn4r22o18⟩) hS ?_
                case hqbn4r22o18 => (intro wx hx; skip; go_simp; (try with_reducible rfl))
                try simp only [Act.put, List.setIfInBounds_toArray, List.set_cons_zero, List.set_cons_succ]
                refine wpAnyH_ready (rs := [13]) (by kernel_rfl) (by simp) ?_
                refine AllReadyH.cons (o := { dst := some 98, op := Op.call { callee := Callee.value (Operand.func 28), args := #[Operand.tmp 97], argTypes := #[35] }, type := 4, pos := "law.go:83", after := #[{ on := 12, ground := Ground.data }, { on := 11, ground := Ground.chain }, { on := 11, ground := Ground.guard }], guard := some (11, false) }) rfl (fun K hK => ?_) AllReadyH.nil
                go_simp
                refine (End_any B g d bs a' false _ hTA).mono ?_
                rintro e wB ⟨rfl, hTB, hgB⟩
                have hgwB := grown_new hgwA hgB (by intro k e; cases e; exact hBg)
                have hRB := hRA.keep hgB hne (by intro k e; cases e; exact hBg)
                refine hK.out _ _ ?hsqbn4r22o13 (fun hS => ?_)
                case hsqbn4r22o13 => (assumption)
                clear hK K
                try simp only [Act.put, List.setIfInBounds_toArray, List.set_cons_zero, List.set_cons_succ]
                refine wpAnyH_take (i := 19) (oi := { dst := some 104, op := Op.move (Operand.tmp 103), type := 4, pos := "law.go:83", after := #[{ on := 18, ground := Ground.data }, { on := 13, ground := Ground.chain }, { on := 11, ground := Ground.guard }], guard := some (11, false) }) (v := ?vqbn4r22o19) rfl (by kernel_rfl) (by kernel_rfl) (by kernel_rfl) (fun _ _ _ h => h) (Or.inl ⟨by rfl, ?hqbn4r22o19⟩) hS ?_
                case hqbn4r22o19 => (intro wx hx; skip; go_simp; (try with_reducible rfl))
                try simp only [Act.put, List.setIfInBounds_toArray, List.set_cons_zero, List.set_cons_succ]
                refine wpAnyH_take (i := 20) (oi := { dst := some 105, op := Op.move (Operand.tmp 7), type := 37, pos := "law.go:83", after := #[{ on := 19, ground := Ground.guard }], guard := some (19, true) }) (v := ?vqbn4r22o20) rfl (by kernel_rfl) (by kernel_rfl) (by kernel_rfl) (fun _ _ _ h => h) (Or.inl ⟨by rfl, ?hqbn4r22o20⟩) hS ?_
                case hqbn4r22o20 => (intro wx hx; skip; go_simp; (try with_reducible rfl))
                try simp only [Act.put, List.setIfInBounds_toArray, List.set_cons_zero, List.set_cons_succ]
                refine wpAnyH_take (i := 21) (oi := { dst := some 106, op := Op.nilCheck (Operand.tmp 105), type := 0, pos := "law.go:83", after := #[{ on := 20, ground := Ground.data }, { on := 19, ground := Ground.guard }], guard := some (19, true) }) (v := ?vqbn4r22o21) rfl (by kernel_rfl) (by kernel_rfl) (by kernel_rfl) (fun _ _ _ h => h) (Or.inl ⟨by rfl, ?hqbn4r22o21⟩) hS ?_
                case hqbn4r22o21 => (intro wx hx; skip; go_simp; (try with_reducible rfl))
                try simp only [Act.put, List.setIfInBounds_toArray, List.set_cons_zero, List.set_cons_succ]
                refine wpAnyH_take (i := 22) (oi := { dst := some 107, op := Op.fieldAddr 39 (Operand.tmp 106) 0, type := 0, pos := "law.go:83", after := #[{ on := 21, ground := Ground.data }, { on := 19, ground := Ground.guard }], guard := some (19, true) }) (v := ?vqbn4r22o22) rfl (by kernel_rfl) (by kernel_rfl) (by kernel_rfl) (fun _ _ _ h => h) (Or.inl ⟨by rfl, ?hqbn4r22o22⟩) hS ?_
                case hqbn4r22o22 => (intro wx hx; skip; go_simp; (try with_reducible rfl))
                try simp only [Act.put, List.setIfInBounds_toArray, List.set_cons_zero, List.set_cons_succ]
                refine wpAnyH_take (i := 23) (oi := { dst := some 108, op := Op.load 22 (Operand.tmp 107), type := 22, pos := "law.go:83", after := #[{ on := 22, ground := Ground.data }, { on := 19, ground := Ground.guard }], guard := some (19, true) }) (v := ?vqbn4r22o23) rfl (by kernel_rfl) (by kernel_rfl) (by kernel_rfl) (fun _ _ _ h => h) (Or.inl ⟨by rfl, ?hqbn4r22o23⟩) hS ?_
                case hqbn4r22o23 => (intro wx hx; obtain ⟨f0, f1, _, _⟩ := RTC.facts hx; go_simp; (try with_reducible rfl))
                try simp only [Act.put, List.setIfInBounds_toArray, List.set_cons_zero, List.set_cons_succ]
                refine wpAnyH_take (i := 24) (oi := { dst := some 109, op := Op.call { callee := Callee.builtin Builtin.len, args := #[Operand.tmp 108], argTypes := #[22] }, type := 3, pos := "law.go:83", after := #[{ on := 23, ground := Ground.data }, { on := 19, ground := Ground.guard }], guard := some (19, true) }) (v := ?vqbn4r22o24) rfl (by kernel_rfl) (by kernel_rfl) (by kernel_rfl) (fun _ _ _ h => h) (Or.inl ⟨by rfl, ?hqbn4r22o24⟩) hS ?_
                case hqbn4r22o24 => (intro wx hx; skip; go_simp; (try with_reducible rfl))
                try simp only [Act.put, List.setIfInBounds_toArray, List.set_cons_zero, List.set_cons_succ]
                refine wpAnyH_take (i := 25) (oi := { dst := some 110, op := Op.binOp BinOp.eql 3 (Operand.tmp 109) (Operand.const (Value.int IntKind.i64 0)) 3, type := 4, pos := "law.go:83", after := #[{ on := 24, ground := Ground.data }, { on := 19, ground := Ground.guard }], guard := some (19, true) }) (v := ?vqbn4r22o25) rfl (by kernel_rfl) (by kernel_rfl) (by kernel_rfl) (fun _ _ _ h => h) (Or.inl ⟨by rfl, ?hqbn4r22o25⟩) hS ?_
                case hqbn4r22o25 => (intro wx hx; skip; go_simp; (try with_reducible rfl))
                try simp only [Act.put, List.setIfInBounds_toArray, List.set_cons_zero, List.set_cons_succ]
                refine wpAnyH_take (i := 26) (oi := { dst := some 111, op := Op.pick (Operand.tmp 104) (Operand.tmp 110) (Operand.const (Value.bool false)), type := 4, pos := "law.go:83", after := #[{ on := 19, ground := Ground.data }, { on := 25, ground := Ground.data }, { on := 11, ground := Ground.guard }], guard := some (11, false) }) (v := ?vqbn4r22o26) rfl (by kernel_rfl) (by kernel_rfl) (by kernel_rfl) (fun _ _ _ h => h) (Or.inl ⟨by rfl, ?hqbn4r22o26⟩) hS ?_
                case hqbn4r22o26 => (intro wx hx; skip; go_simp; (try with_reducible rfl))
                try simp only [Act.put, List.setIfInBounds_toArray, List.set_cons_zero, List.set_cons_succ]
                refine wpAnyH_take (i := 27) (oi := { dst := some 112, op := Op.binOp BinOp.neq 4 (Operand.tmp 98) (Operand.tmp 111) 4, type := 4, pos := "law.go:83", after := #[{ on := 13, ground := Ground.data }, { on := 26, ground := Ground.data }, { on := 11, ground := Ground.guard }], guard := some (11, false) }) (v := ?vqbn4r22o27) rfl (by kernel_rfl) (by kernel_rfl) (by kernel_rfl) (fun _ _ _ h => h) (Or.inl ⟨by rfl, ?hqbn4r22o27⟩) hS ?_
                case hqbn4r22o27 => (intro wx hx; skip; go_simp; (try with_reducible rfl))
                try simp only [Act.put, List.setIfInBounds_toArray, List.set_cons_zero, List.set_cons_succ]
                refine wpAnyH_take (i := 28) (oi := { dst := some 113, op := Op.pick (Operand.tmp 96) (Operand.const (Value.bool true)) (Operand.tmp 112), type := 4, pos := "law.go:83", after := #[{ on := 11, ground := Ground.data }, { on := 27, ground := Ground.data }], guard := none }) (v := ?vqbn4r22o28) rfl (by kernel_rfl) (by kernel_rfl) (by kernel_rfl) (fun _ _ _ h => h) (Or.inl ⟨by rfl, ?hqbn4r22o28⟩) hS ?_
                case hqbn4r22o28 => (intro wx hx; skip; go_simp; (try with_reducible rfl))
                try simp only [Act.put, List.setIfInBounds_toArray, List.set_cons_zero, List.set_cons_succ]
                refine wpAnyH_done (by kernel_rfl) ?_ _
                go_wp2
                go_roundw
                case rel => exact ⟨k + 1, a', false, by omega, by go_num, hTB, ⟨rad, rl, rc, by rw [← hRest.out] ; exact hRB⟩, hgwB⟩
                case measure => simp [intOf]; omega
          · have e0 : (x.do_ % 3 == 0) = false := by simpa using hm0
            by_cases hm1 : x.do_ % 3 = 1
            · have e1 : (x.do_ % 3 == 1) = true := by simpa using hm1
              clear hm0 hm1 m1
              have HC := Lib.hid (Number_step_any B g d bs a t wr hT)
              generalize hRv : numberR bs a t = R at HC
              obtain ⟨v, a', t'⟩ := R
              go_wp2_with fail
              refine HC.out.mono ?_
              rintro e wA ⟨rfl, hT, hgA⟩
              have hR := hR.keep hgA hne (by intro k e; cases e; exact hBg)
              have hg := grown_new hg hgA (by intro k e; cases e; exact hBg)
              clear HC hgA
              have hC2 := RNum_any _ gr bs a t _ hR
              rw [hRv] at hC2
              have HC2 := Lib.hid hC2
              clear hC2 hRv
              go_wp2_with fail
              refine HC2.out.mono ?_
              rintro e wB ⟨rfl, hR, hgB⟩
              have hT := hT.keep hgB hneg hned
              have hg := grown_new hg hgB (by intro k e; cases e; exact hBgr)
              clear HC2 hgB
              go_wp2_with fail
              have hpl := hT.place
              have hTd := hT.keep (row := none) (grown_drew (World.grownBy.refl _ none)) (by simp) (by simp)
              obtain ⟨rad, rl, rc, hRd⟩ := hR.keep (row := none) (grown_drew (World.grownBy.refl _ none)) (by simp) (by simp)
              have hgd := grown_drew hg
              have hrl := hRd.len_
              rw [List.length_drop] at hrl
              obtain ⟨rest, hRest⟩ : ∃ rest, Hid (rest = bs.drop a') := ⟨_, Lib.hid rfl⟩
              rw [← hRest.out] at hRd
              clear hT hR hg
              cases t' with
              | true =>
                refine wp_region_held_drew (S := fun w' => RTC w' w.heap.size gr rest true rad rl rc) (by kernel_rfl) (hRd) (fun hS => ?_)
                refine wpAnyH_take (i := 0) (oi := { dst := some 85, op := Op.move (Operand.tmp 10), type := 4, pos := "law.go:83", after := #[], guard := none }) (v := ?vqnt4r22o0) rfl (by kernel_rfl) (by kernel_rfl) (by kernel_rfl) (fun _ _ _ h => h) (Or.inl ⟨by rfl, ?hqnt4r22o0⟩) hS ?_
                case hqnt4r22o0 => (intro wx hx; skip; go_simp; (try with_reducible rfl))
                try simp only [Act.put, List.setIfInBounds_toArray, List.set_cons_zero, List.set_cons_succ]
                refine wpAnyH_take (i := 1) (oi := { dst := some 86, op := Op.unOp UnOp.not 4 (Operand.tmp 85), type := 4, pos := "law.go:83", after := #[{ on := 0, ground := Ground.data }], guard := none }) (v := ?vqnt4r22o1) rfl (by kernel_rfl) (by kernel_rfl) (by kernel_rfl) (fun _ _ _ h => h) (Or.inl ⟨by rfl, ?hqnt4r22o1⟩) hS ?_
                case hqnt4r22o1 => (intro wx hx; skip; go_simp; (try with_reducible rfl))
                try simp only [Act.put, List.setIfInBounds_toArray, List.set_cons_zero, List.set_cons_succ]
                refine wpAnyH_take (i := 2) (oi := { dst := some 87, op := Op.move (Operand.tmp 86), type := 4, pos := "law.go:83", after := #[{ on := 1, ground := Ground.data }], guard := none }) (v := ?vqnt4r22o2) rfl (by kernel_rfl) (by kernel_rfl) (by kernel_rfl) (fun _ _ _ h => h) (Or.inl ⟨by rfl, ?hqnt4r22o2⟩) hS ?_
                case hqnt4r22o2 => (intro wx hx; skip; go_simp; (try with_reducible rfl))
                try simp only [Act.put, List.setIfInBounds_toArray, List.set_cons_zero, List.set_cons_succ]
                refine wpAnyH_take (i := 3) (oi := { dst := some 88, op := Op.move (Operand.tmp 6), type := 35, pos := "law.go:83", after := #[{ on := 2, ground := Ground.guard }], guard := some (2, false) }) (v := ?vqnt4r22o3) rfl (by kernel_rfl) (by kernel_rfl) (by kernel_rfl) (fun _ _ _ h => h) (Or.inl ⟨by rfl, ?hqnt4r22o3⟩) hS ?_
                case hqnt4r22o3 => (intro wx hx; skip; go_simp; (try with_reducible rfl))
                try simp only [Act.put, List.setIfInBounds_toArray, List.set_cons_zero, List.set_cons_succ]
                refine wpAnyH_take (i := 5) (oi := { dst := some 90, op := Op.move (Operand.tmp 7), type := 37, pos := "law.go:83", after := #[{ on := 2, ground := Ground.guard }], guard := some (2, false) }) (v := ?vqnt4r22o5) rfl (by kernel_rfl) (by kernel_rfl) (by kernel_rfl) (fun _ _ _ h => h) (Or.inl ⟨by rfl, ?hqnt4r22o5⟩) hS ?_
                case hqnt4r22o5 => (intro wx hx; skip; go_simp; (try with_reducible rfl))
                try simp only [Act.put, List.setIfInBounds_toArray, List.set_cons_zero, List.set_cons_succ]
                refine wpAnyH_take (i := 6) (oi := { dst := some 91, op := Op.nilCheck (Operand.tmp 90), type := 0, pos := "law.go:83", after := #[{ on := 5, ground := Ground.data }, { on := 2, ground := Ground.guard }], guard := some (2, false) }) (v := ?vqnt4r22o6) rfl (by kernel_rfl) (by kernel_rfl) (by kernel_rfl) (fun _ _ _ h => h) (Or.inl ⟨by rfl, ?hqnt4r22o6⟩) hS ?_
                case hqnt4r22o6 => (intro wx hx; skip; go_simp; (try with_reducible rfl))
                try simp only [Act.put, List.setIfInBounds_toArray, List.set_cons_zero, List.set_cons_succ]
                refine wpAnyH_take (i := 7) (oi := { dst := some 92, op := Op.fieldAddr 39 (Operand.tmp 91) 1, type := 0, pos := "law.go:83", after := #[{ on := 6, ground := Ground.data }, { on := 2, ground := Ground.guard }], guard := some (2, false) }) (v := ?vqnt4r22o7) rfl (by kernel_rfl) (by kernel_rfl) (by kernel_rfl) (fun _ _ _ h => h) (Or.inl ⟨by rfl, ?hqnt4r22o7⟩) hS ?_
                case hqnt4r22o7 => (intro wx hx; skip; go_simp; (try with_reducible rfl))
                try simp only [Act.put, List.setIfInBounds_toArray, List.set_cons_zero, List.set_cons_succ]
                refine wpAnyH_take (i := 8) (oi := { dst := some 93, op := Op.load 4 (Operand.tmp 92), type := 4, pos := "law.go:83", after := #[{ on := 7, ground := Ground.data }, { on := 2, ground := Ground.guard }], guard := some (2, false) }) (v := ?vqnt4r22o8) rfl (by kernel_rfl) (by kernel_rfl) (by kernel_rfl) (fun _ _ _ h => h) (Or.inl ⟨by rfl, ?hqnt4r22o8⟩) hS ?_
                case hqnt4r22o8 => (intro wx hx; obtain ⟨f0, f1, _, _⟩ := RTC.facts hx; go_simp; (try with_reducible rfl))
                try simp only [Act.put, List.setIfInBounds_toArray, List.set_cons_zero, List.set_cons_succ]
                refine wpAnyH_ready (rs := [4]) (by kernel_rfl) (by simp) ?_
                refine AllReadyH.cons (o := { dst := some 89, op := Op.call { callee := Callee.value (Operand.func 27), args := #[Operand.tmp 88], argTypes := #[35] }, type := 4, pos := "law.go:83", after := #[{ on := 3, ground := Ground.data }, { on := 2, ground := Ground.chain }, { on := 2, ground := Ground.guard }], guard := some (2, false) }) rfl (fun K hK => ?_) AllReadyH.nil
                go_simp
                refine (Torn_any B g d bs a' true _ hTd).mono ?_
                rintro e wA ⟨rfl, hTA, hgA⟩
                have hgwA := grown_new hgd hgA (by intro k e; cases e; exact hBg)
                have hRA := hRd.keep hgA hne (by intro k e; cases e; exact hBg)
                refine hK.out _ _ ?hsqnt4r22o4 (fun hS => ?_)
                case hsqnt4r22o4 => (assumption)
                clear hK K
                try simp only [Act.put, List.setIfInBounds_toArray, List.set_cons_zero, List.set_cons_succ]
                refine wpAnyH_take (i := 9) (oi := { dst := some 94, op := Op.binOp BinOp.neq 4 (Operand.tmp 89) (Operand.tmp 93) 4, type := 4, pos := "law.go:83", after := #[{ on := 4, ground := Ground.data }, { on := 8, ground := Ground.data }, { on := 2, ground := Ground.guard }], guard := some (2, false) }) (v := ?vqnt4r22o9) rfl (by kernel_rfl) (by kernel_rfl) (by kernel_rfl) (fun _ _ _ h => h) (Or.inl ⟨by rfl, ?hqnt4r22o9⟩) hS ?_
                case hqnt4r22o9 => (intro wx hx; skip; go_simp; (try with_reducible rfl))
                try simp only [Act.put, List.setIfInBounds_toArray, List.set_cons_zero, List.set_cons_succ]
                refine wpAnyH_take (i := 10) (oi := { dst := some 95, op := Op.pick (Operand.tmp 87) (Operand.const (Value.bool true)) (Operand.tmp 94), type := 4, pos := "law.go:83", after := #[{ on := 2, ground := Ground.data }, { on := 9, ground := Ground.data }], guard := none }) (v := ?vqnt4r22o10) rfl (by kernel_rfl) (by kernel_rfl) (by kernel_rfl) (fun _ _ _ h => h) (Or.inl ⟨by rfl, ?hqnt4r22o10⟩) hS ?_
                case hqnt4r22o10 => (intro wx hx; skip; go_simp; (try with_reducible rfl))
                try simp only [Act.put, List.setIfInBounds_toArray, List.set_cons_zero, List.set_cons_succ]
                refine wpAnyH_take (i := 11) (oi := { dst := some 96, op := Op.move (Operand.tmp 95), type := 4, pos := "law.go:83", after := #[{ on := 10, ground := Ground.data }, { on := 4, ground := Ground.chain }], guard := none }) (v := ?vqnt4r22o11) rfl (by kernel_rfl) (by kernel_rfl) (by kernel_rfl) (fun _ _ _ h => h) (Or.inl ⟨by rfl, ?hqnt4r22o11⟩) hS ?_
                case hqnt4r22o11 => (intro wx hx; skip; go_simp; (try with_reducible rfl))
                try simp only [Act.put, List.setIfInBounds_toArray, List.set_cons_zero, List.set_cons_succ]
                refine wpAnyH_take (i := 12) (oi := { dst := some 97, op := Op.move (Operand.tmp 6), type := 35, pos := "law.go:83", after := #[{ on := 11, ground := Ground.guard }], guard := some (11, false) }) (v := ?vqnt4r22o12) rfl (by kernel_rfl) (by kernel_rfl) (by kernel_rfl) (fun _ _ _ h => h) (Or.inl ⟨by rfl, ?hqnt4r22o12⟩) hS ?_
                case hqnt4r22o12 => (intro wx hx; skip; go_simp; (try with_reducible rfl))
                try simp only [Act.put, List.setIfInBounds_toArray, List.set_cons_zero, List.set_cons_succ]
                refine wpAnyH_take (i := 14) (oi := { dst := some 99, op := Op.move (Operand.tmp 7), type := 37, pos := "law.go:83", after := #[{ on := 11, ground := Ground.guard }], guard := some (11, false) }) (v := ?vqnt4r22o14) rfl (by kernel_rfl) (by kernel_rfl) (by kernel_rfl) (fun _ _ _ h => h) (Or.inl ⟨by rfl, ?hqnt4r22o14⟩) hS ?_
                case hqnt4r22o14 => (intro wx hx; skip; go_simp; (try with_reducible rfl))
                try simp only [Act.put, List.setIfInBounds_toArray, List.set_cons_zero, List.set_cons_succ]
                refine wpAnyH_take (i := 15) (oi := { dst := some 100, op := Op.nilCheck (Operand.tmp 99), type := 0, pos := "law.go:83", after := #[{ on := 14, ground := Ground.data }, { on := 11, ground := Ground.guard }], guard := some (11, false) }) (v := ?vqnt4r22o15) rfl (by kernel_rfl) (by kernel_rfl) (by kernel_rfl) (fun _ _ _ h => h) (Or.inl ⟨by rfl, ?hqnt4r22o15⟩) hS ?_
                case hqnt4r22o15 => (intro wx hx; skip; go_simp; (try with_reducible rfl))
                try simp only [Act.put, List.setIfInBounds_toArray, List.set_cons_zero, List.set_cons_succ]
                refine wpAnyH_take (i := 16) (oi := { dst := some 101, op := Op.fieldAddr 39 (Operand.tmp 100) 1, type := 0, pos := "law.go:83", after := #[{ on := 15, ground := Ground.data }, { on := 11, ground := Ground.guard }], guard := some (11, false) }) (v := ?vqnt4r22o16) rfl (by kernel_rfl) (by kernel_rfl) (by kernel_rfl) (fun _ _ _ h => h) (Or.inl ⟨by rfl, ?hqnt4r22o16⟩) hS ?_
                case hqnt4r22o16 => (intro wx hx; skip; go_simp; (try with_reducible rfl))
                try simp only [Act.put, List.setIfInBounds_toArray, List.set_cons_zero, List.set_cons_succ]
                refine wpAnyH_take (i := 17) (oi := { dst := some 102, op := Op.load 4 (Operand.tmp 101), type := 4, pos := "law.go:83", after := #[{ on := 16, ground := Ground.data }, { on := 11, ground := Ground.guard }], guard := some (11, false) }) (v := ?vqnt4r22o17) rfl (by kernel_rfl) (by kernel_rfl) (by kernel_rfl) (fun _ _ _ h => h) (Or.inl ⟨by rfl, ?hqnt4r22o17⟩) hS ?_
                case hqnt4r22o17 => (intro wx hx; obtain ⟨f0, f1, _, _⟩ := RTC.facts hx; go_simp; (try with_reducible rfl))
                try simp only [Act.put, List.setIfInBounds_toArray, List.set_cons_zero, List.set_cons_succ]
                refine wpAnyH_take (i := 18) (oi := { dst := some 103, op := Op.unOp UnOp.not 4 (Operand.tmp 102), type := 4, pos := "law.go:83", after := #[{ on := 17, ground := Ground.data }, { on := 11, ground := Ground.guard }], guard := some (11, false) }) (v := ?vqnt4r22o18) rfl (by kernel_rfl) (by kernel_rfl) (by kernel_rfl) (fun _ _ _ h => h) (Or.inl ⟨by rfl, ?hqnt4r22o18⟩) hS ?_
                case hqnt4r22o18 => (intro wx hx; skip; go_simp; (try with_reducible rfl))
                try simp only [Act.put, List.setIfInBounds_toArray, List.set_cons_zero, List.set_cons_succ]
                refine wpAnyH_ready (rs := [13]) (by kernel_rfl) (by simp) ?_
                refine AllReadyH.cons (o := { dst := some 98, op := Op.call { callee := Callee.value (Operand.func 28), args := #[Operand.tmp 97], argTypes := #[35] }, type := 4, pos := "law.go:83", after := #[{ on := 12, ground := Ground.data }, { on := 11, ground := Ground.chain }, { on := 11, ground := Ground.guard }], guard := some (11, false) }) rfl (fun K hK => ?_) AllReadyH.nil
                go_simp
                refine (End_any B g d bs a' true _ hTA).mono ?_
                rintro e wB ⟨rfl, hTB, hgB⟩
                have hgwB := grown_new hgwA hgB (by intro k e; cases e; exact hBg)
                have hRB := hRA.keep hgB hne (by intro k e; cases e; exact hBg)
                refine hK.out _ _ ?hsqnt4r22o13 (fun hS => ?_)
                case hsqnt4r22o13 => (assumption)
                clear hK K
                try simp only [Act.put, List.setIfInBounds_toArray, List.set_cons_zero, List.set_cons_succ]
                refine wpAnyH_take (i := 19) (oi := { dst := some 104, op := Op.move (Operand.tmp 103), type := 4, pos := "law.go:83", after := #[{ on := 18, ground := Ground.data }, { on := 13, ground := Ground.chain }, { on := 11, ground := Ground.guard }], guard := some (11, false) }) (v := ?vqnt4r22o19) rfl (by kernel_rfl) (by kernel_rfl) (by kernel_rfl) (fun _ _ _ h => h) (Or.inl ⟨by rfl, ?hqnt4r22o19⟩) hS ?_
                case hqnt4r22o19 => (intro wx hx; skip; go_simp; (try with_reducible rfl))
                try simp only [Act.put, List.setIfInBounds_toArray, List.set_cons_zero, List.set_cons_succ]
                refine wpAnyH_take (i := 20) (oi := { dst := some 105, op := Op.move (Operand.tmp 7), type := 37, pos := "law.go:83", after := #[{ on := 19, ground := Ground.guard }], guard := some (19, true) }) (v := undef) rfl (by kernel_rfl) (by kernel_rfl) (by kernel_rfl) (fun _ _ _ h => h) (Or.inr ⟨by rfl, rfl⟩) hS ?_
                try simp only [Act.put, List.setIfInBounds_toArray, List.set_cons_zero, List.set_cons_succ]
                refine wpAnyH_take (i := 21) (oi := { dst := some 106, op := Op.nilCheck (Operand.tmp 105), type := 0, pos := "law.go:83", after := #[{ on := 20, ground := Ground.data }, { on := 19, ground := Ground.guard }], guard := some (19, true) }) (v := undef) rfl (by kernel_rfl) (by kernel_rfl) (by kernel_rfl) (fun _ _ _ h => h) (Or.inr ⟨by rfl, rfl⟩) hS ?_
                try simp only [Act.put, List.setIfInBounds_toArray, List.set_cons_zero, List.set_cons_succ]
                refine wpAnyH_take (i := 22) (oi := { dst := some 107, op := Op.fieldAddr 39 (Operand.tmp 106) 0, type := 0, pos := "law.go:83", after := #[{ on := 21, ground := Ground.data }, { on := 19, ground := Ground.guard }], guard := some (19, true) }) (v := undef) rfl (by kernel_rfl) (by kernel_rfl) (by kernel_rfl) (fun _ _ _ h => h) (Or.inr ⟨by rfl, rfl⟩) hS ?_
                try simp only [Act.put, List.setIfInBounds_toArray, List.set_cons_zero, List.set_cons_succ]
                refine wpAnyH_take (i := 23) (oi := { dst := some 108, op := Op.load 22 (Operand.tmp 107), type := 22, pos := "law.go:83", after := #[{ on := 22, ground := Ground.data }, { on := 19, ground := Ground.guard }], guard := some (19, true) }) (v := undef) rfl (by kernel_rfl) (by kernel_rfl) (by kernel_rfl) (fun _ _ _ h => h) (Or.inr ⟨by rfl, rfl⟩) hS ?_
                try simp only [Act.put, List.setIfInBounds_toArray, List.set_cons_zero, List.set_cons_succ]
                refine wpAnyH_take (i := 24) (oi := { dst := some 109, op := Op.call { callee := Callee.builtin Builtin.len, args := #[Operand.tmp 108], argTypes := #[22] }, type := 3, pos := "law.go:83", after := #[{ on := 23, ground := Ground.data }, { on := 19, ground := Ground.guard }], guard := some (19, true) }) (v := undef) rfl (by kernel_rfl) (by kernel_rfl) (by kernel_rfl) (fun _ _ _ h => h) (Or.inr ⟨by rfl, rfl⟩) hS ?_
                try simp only [Act.put, List.setIfInBounds_toArray, List.set_cons_zero, List.set_cons_succ]
                refine wpAnyH_take (i := 25) (oi := { dst := some 110, op := Op.binOp BinOp.eql 3 (Operand.tmp 109) (Operand.const (Value.int IntKind.i64 0)) 3, type := 4, pos := "law.go:83", after := #[{ on := 24, ground := Ground.data }, { on := 19, ground := Ground.guard }], guard := some (19, true) }) (v := undef) rfl (by kernel_rfl) (by kernel_rfl) (by kernel_rfl) (fun _ _ _ h => h) (Or.inr ⟨by rfl, rfl⟩) hS ?_
                try simp only [Act.put, List.setIfInBounds_toArray, List.set_cons_zero, List.set_cons_succ]
                refine wpAnyH_take (i := 26) (oi := { dst := some 111, op := Op.pick (Operand.tmp 104) (Operand.tmp 110) (Operand.const (Value.bool false)), type := 4, pos := "law.go:83", after := #[{ on := 19, ground := Ground.data }, { on := 25, ground := Ground.data }, { on := 11, ground := Ground.guard }], guard := some (11, false) }) (v := ?vqnt4r22o26) rfl (by kernel_rfl) (by kernel_rfl) (by kernel_rfl) (fun _ _ _ h => h) (Or.inl ⟨by rfl, ?hqnt4r22o26⟩) hS ?_
                case hqnt4r22o26 => (intro wx hx; skip; go_simp; (try with_reducible rfl))
                try simp only [Act.put, List.setIfInBounds_toArray, List.set_cons_zero, List.set_cons_succ]
                refine wpAnyH_take (i := 27) (oi := { dst := some 112, op := Op.binOp BinOp.neq 4 (Operand.tmp 98) (Operand.tmp 111) 4, type := 4, pos := "law.go:83", after := #[{ on := 13, ground := Ground.data }, { on := 26, ground := Ground.data }, { on := 11, ground := Ground.guard }], guard := some (11, false) }) (v := ?vqnt4r22o27) rfl (by kernel_rfl) (by kernel_rfl) (by kernel_rfl) (fun _ _ _ h => h) (Or.inl ⟨by rfl, ?hqnt4r22o27⟩) hS ?_
                case hqnt4r22o27 => (intro wx hx; skip; go_simp; (try with_reducible rfl))
                try simp only [Act.put, List.setIfInBounds_toArray, List.set_cons_zero, List.set_cons_succ]
                refine wpAnyH_take (i := 28) (oi := { dst := some 113, op := Op.pick (Operand.tmp 96) (Operand.const (Value.bool true)) (Operand.tmp 112), type := 4, pos := "law.go:83", after := #[{ on := 11, ground := Ground.data }, { on := 27, ground := Ground.data }], guard := none }) (v := ?vqnt4r22o28) rfl (by kernel_rfl) (by kernel_rfl) (by kernel_rfl) (fun _ _ _ h => h) (Or.inl ⟨by rfl, ?hqnt4r22o28⟩) hS ?_
                case hqnt4r22o28 => (intro wx hx; skip; go_simp; (try with_reducible rfl))
                try simp only [Act.put, List.setIfInBounds_toArray, List.set_cons_zero, List.set_cons_succ]
                refine wpAnyH_done (by kernel_rfl) ?_ _
                go_wp2
                go_roundw
                case rel => exact ⟨k + 1, a', true, by omega, by go_num, hTB, ⟨rad, rl, rc, by rw [← hRest.out] ; exact hRB⟩, hgwB⟩
                case measure => simp [intOf]; omega
              | false =>
                by_cases hend : a' = bs.length
                · have hd1 : decide (a' = bs.length) = true := by simpa using hend
                  have hd2 : ((rl : Int) == 0) = true := by simp; omega
                  clear hrl hend
                  refine wp_region_held_drew (S := fun w' => RTC w' w.heap.size gr rest false rad rl rc) (by kernel_rfl) (hRd) (fun hS => ?_)
                  refine wpAnyH_take (i := 0) (oi := { dst := some 85, op := Op.move (Operand.tmp 10), type := 4, pos := "law.go:83", after := #[], guard := none }) (v := ?vqne4r22o0) rfl (by kernel_rfl) (by kernel_rfl) (by kernel_rfl) (fun _ _ _ h => h) (Or.inl ⟨by rfl, ?hqne4r22o0⟩) hS ?_
                  case hqne4r22o0 => (intro wx hx; skip; go_simp; (try with_reducible rfl))
                  try simp only [Act.put, List.setIfInBounds_toArray, List.set_cons_zero, List.set_cons_succ]
                  refine wpAnyH_take (i := 1) (oi := { dst := some 86, op := Op.unOp UnOp.not 4 (Operand.tmp 85), type := 4, pos := "law.go:83", after := #[{ on := 0, ground := Ground.data }], guard := none }) (v := ?vqne4r22o1) rfl (by kernel_rfl) (by kernel_rfl) (by kernel_rfl) (fun _ _ _ h => h) (Or.inl ⟨by rfl, ?hqne4r22o1⟩) hS ?_
                  case hqne4r22o1 => (intro wx hx; skip; go_simp; (try with_reducible rfl))
                  try simp only [Act.put, List.setIfInBounds_toArray, List.set_cons_zero, List.set_cons_succ]
                  refine wpAnyH_take (i := 2) (oi := { dst := some 87, op := Op.move (Operand.tmp 86), type := 4, pos := "law.go:83", after := #[{ on := 1, ground := Ground.data }], guard := none }) (v := ?vqne4r22o2) rfl (by kernel_rfl) (by kernel_rfl) (by kernel_rfl) (fun _ _ _ h => h) (Or.inl ⟨by rfl, ?hqne4r22o2⟩) hS ?_
                  case hqne4r22o2 => (intro wx hx; skip; go_simp; (try with_reducible rfl))
                  try simp only [Act.put, List.setIfInBounds_toArray, List.set_cons_zero, List.set_cons_succ]
                  refine wpAnyH_take (i := 3) (oi := { dst := some 88, op := Op.move (Operand.tmp 6), type := 35, pos := "law.go:83", after := #[{ on := 2, ground := Ground.guard }], guard := some (2, false) }) (v := ?vqne4r22o3) rfl (by kernel_rfl) (by kernel_rfl) (by kernel_rfl) (fun _ _ _ h => h) (Or.inl ⟨by rfl, ?hqne4r22o3⟩) hS ?_
                  case hqne4r22o3 => (intro wx hx; skip; go_simp; (try with_reducible rfl))
                  try simp only [Act.put, List.setIfInBounds_toArray, List.set_cons_zero, List.set_cons_succ]
                  refine wpAnyH_take (i := 5) (oi := { dst := some 90, op := Op.move (Operand.tmp 7), type := 37, pos := "law.go:83", after := #[{ on := 2, ground := Ground.guard }], guard := some (2, false) }) (v := ?vqne4r22o5) rfl (by kernel_rfl) (by kernel_rfl) (by kernel_rfl) (fun _ _ _ h => h) (Or.inl ⟨by rfl, ?hqne4r22o5⟩) hS ?_
                  case hqne4r22o5 => (intro wx hx; skip; go_simp; (try with_reducible rfl))
                  try simp only [Act.put, List.setIfInBounds_toArray, List.set_cons_zero, List.set_cons_succ]
                  refine wpAnyH_take (i := 6) (oi := { dst := some 91, op := Op.nilCheck (Operand.tmp 90), type := 0, pos := "law.go:83", after := #[{ on := 5, ground := Ground.data }, { on := 2, ground := Ground.guard }], guard := some (2, false) }) (v := ?vqne4r22o6) rfl (by kernel_rfl) (by kernel_rfl) (by kernel_rfl) (fun _ _ _ h => h) (Or.inl ⟨by rfl, ?hqne4r22o6⟩) hS ?_
                  case hqne4r22o6 => (intro wx hx; skip; go_simp; (try with_reducible rfl))
                  try simp only [Act.put, List.setIfInBounds_toArray, List.set_cons_zero, List.set_cons_succ]
                  refine wpAnyH_take (i := 7) (oi := { dst := some 92, op := Op.fieldAddr 39 (Operand.tmp 91) 1, type := 0, pos := "law.go:83", after := #[{ on := 6, ground := Ground.data }, { on := 2, ground := Ground.guard }], guard := some (2, false) }) (v := ?vqne4r22o7) rfl (by kernel_rfl) (by kernel_rfl) (by kernel_rfl) (fun _ _ _ h => h) (Or.inl ⟨by rfl, ?hqne4r22o7⟩) hS ?_
                  case hqne4r22o7 => (intro wx hx; skip; go_simp; (try with_reducible rfl))
                  try simp only [Act.put, List.setIfInBounds_toArray, List.set_cons_zero, List.set_cons_succ]
                  refine wpAnyH_take (i := 8) (oi := { dst := some 93, op := Op.load 4 (Operand.tmp 92), type := 4, pos := "law.go:83", after := #[{ on := 7, ground := Ground.data }, { on := 2, ground := Ground.guard }], guard := some (2, false) }) (v := ?vqne4r22o8) rfl (by kernel_rfl) (by kernel_rfl) (by kernel_rfl) (fun _ _ _ h => h) (Or.inl ⟨by rfl, ?hqne4r22o8⟩) hS ?_
                  case hqne4r22o8 => (intro wx hx; obtain ⟨f0, f1, _, _⟩ := RTC.facts hx; go_simp; (try with_reducible rfl))
                  try simp only [Act.put, List.setIfInBounds_toArray, List.set_cons_zero, List.set_cons_succ]
                  refine wpAnyH_ready (rs := [4]) (by kernel_rfl) (by simp) ?_
                  refine AllReadyH.cons (o := { dst := some 89, op := Op.call { callee := Callee.value (Operand.func 27), args := #[Operand.tmp 88], argTypes := #[35] }, type := 4, pos := "law.go:83", after := #[{ on := 3, ground := Ground.data }, { on := 2, ground := Ground.chain }, { on := 2, ground := Ground.guard }], guard := some (2, false) }) rfl (fun K hK => ?_) AllReadyH.nil
                  go_simp
                  refine (Torn_any B g d bs a' false _ hTd).mono ?_
                  rintro e wA ⟨rfl, hTA, hgA⟩
                  have hgwA := grown_new hgd hgA (by intro k e; cases e; exact hBg)
                  have hRA := hRd.keep hgA hne (by intro k e; cases e; exact hBg)
                  refine hK.out _ _ ?hsqne4r22o4 (fun hS => ?_)
                  case hsqne4r22o4 => (assumption)
                  clear hK K
                  try simp only [Act.put, List.setIfInBounds_toArray, List.set_cons_zero, List.set_cons_succ]
                  refine wpAnyH_take (i := 9) (oi := { dst := some 94, op := Op.binOp BinOp.neq 4 (Operand.tmp 89) (Operand.tmp 93) 4, type := 4, pos := "law.go:83", after := #[{ on := 4, ground := Ground.data }, { on := 8, ground := Ground.data }, { on := 2, ground := Ground.guard }], guard := some (2, false) }) (v := ?vqne4r22o9) rfl (by kernel_rfl) (by kernel_rfl) (by kernel_rfl) (fun _ _ _ h => h) (Or.inl ⟨by rfl, ?hqne4r22o9⟩) hS ?_
                  case hqne4r22o9 => (intro wx hx; skip; go_simp; (try with_reducible rfl))
                  try simp only [Act.put, List.setIfInBounds_toArray, List.set_cons_zero, List.set_cons_succ]
                  refine wpAnyH_take (i := 10) (oi := { dst := some 95, op := Op.pick (Operand.tmp 87) (Operand.const (Value.bool true)) (Operand.tmp 94), type := 4, pos := "law.go:83", after := #[{ on := 2, ground := Ground.data }, { on := 9, ground := Ground.data }], guard := none }) (v := ?vqne4r22o10) rfl (by kernel_rfl) (by kernel_rfl) (by kernel_rfl) (fun _ _ _ h => h) (Or.inl ⟨by rfl, ?hqne4r22o10⟩) hS ?_
                  case hqne4r22o10 => (intro wx hx; skip; go_simp; (try with_reducible rfl))
                  try simp only [Act.put, List.setIfInBounds_toArray, List.set_cons_zero, List.set_cons_succ]
                  refine wpAnyH_take (i := 11) (oi := { dst := some 96, op := Op.move (Operand.tmp 95), type := 4, pos := "law.go:83", after := #[{ on := 10, ground := Ground.data }, { on := 4, ground := Ground.chain }], guard := none }) (v := ?vqne4r22o11) rfl (by kernel_rfl) (by kernel_rfl) (by kernel_rfl) (fun _ _ _ h => h) (Or.inl ⟨by rfl, ?hqne4r22o11⟩) hS ?_
                  case hqne4r22o11 => (intro wx hx; skip; go_simp; (try with_reducible rfl))
                  try simp only [Act.put, List.setIfInBounds_toArray, List.set_cons_zero, List.set_cons_succ]
                  refine wpAnyH_take (i := 12) (oi := { dst := some 97, op := Op.move (Operand.tmp 6), type := 35, pos := "law.go:83", after := #[{ on := 11, ground := Ground.guard }], guard := some (11, false) }) (v := ?vqne4r22o12) rfl (by kernel_rfl) (by kernel_rfl) (by kernel_rfl) (fun _ _ _ h => h) (Or.inl ⟨by rfl, ?hqne4r22o12⟩) hS ?_
                  case hqne4r22o12 => (intro wx hx; skip; go_simp; (try with_reducible rfl))
                  try simp only [Act.put, List.setIfInBounds_toArray, List.set_cons_zero, List.set_cons_succ]
                  refine wpAnyH_take (i := 14) (oi := { dst := some 99, op := Op.move (Operand.tmp 7), type := 37, pos := "law.go:83", after := #[{ on := 11, ground := Ground.guard }], guard := some (11, false) }) (v := ?vqne4r22o14) rfl (by kernel_rfl) (by kernel_rfl) (by kernel_rfl) (fun _ _ _ h => h) (Or.inl ⟨by rfl, ?hqne4r22o14⟩) hS ?_
                  case hqne4r22o14 => (intro wx hx; skip; go_simp; (try with_reducible rfl))
                  try simp only [Act.put, List.setIfInBounds_toArray, List.set_cons_zero, List.set_cons_succ]
                  refine wpAnyH_take (i := 15) (oi := { dst := some 100, op := Op.nilCheck (Operand.tmp 99), type := 0, pos := "law.go:83", after := #[{ on := 14, ground := Ground.data }, { on := 11, ground := Ground.guard }], guard := some (11, false) }) (v := ?vqne4r22o15) rfl (by kernel_rfl) (by kernel_rfl) (by kernel_rfl) (fun _ _ _ h => h) (Or.inl ⟨by rfl, ?hqne4r22o15⟩) hS ?_
                  case hqne4r22o15 => (intro wx hx; skip; go_simp; (try with_reducible rfl))
                  try simp only [Act.put, List.setIfInBounds_toArray, List.set_cons_zero, List.set_cons_succ]
                  refine wpAnyH_take (i := 16) (oi := { dst := some 101, op := Op.fieldAddr 39 (Operand.tmp 100) 1, type := 0, pos := "law.go:83", after := #[{ on := 15, ground := Ground.data }, { on := 11, ground := Ground.guard }], guard := some (11, false) }) (v := ?vqne4r22o16) rfl (by kernel_rfl) (by kernel_rfl) (by kernel_rfl) (fun _ _ _ h => h) (Or.inl ⟨by rfl, ?hqne4r22o16⟩) hS ?_
                  case hqne4r22o16 => (intro wx hx; skip; go_simp; (try with_reducible rfl))
                  try simp only [Act.put, List.setIfInBounds_toArray, List.set_cons_zero, List.set_cons_succ]
                  refine wpAnyH_take (i := 17) (oi := { dst := some 102, op := Op.load 4 (Operand.tmp 101), type := 4, pos := "law.go:83", after := #[{ on := 16, ground := Ground.data }, { on := 11, ground := Ground.guard }], guard := some (11, false) }) (v := ?vqne4r22o17) rfl (by kernel_rfl) (by kernel_rfl) (by kernel_rfl) (fun _ _ _ h => h) (Or.inl ⟨by rfl, ?hqne4r22o17⟩) hS ?_
                  case hqne4r22o17 => (intro wx hx; obtain ⟨f0, f1, _, _⟩ := RTC.facts hx; go_simp; (try with_reducible rfl))
                  try simp only [Act.put, List.setIfInBounds_toArray, List.set_cons_zero, List.set_cons_succ]
                  refine wpAnyH_take (i := 18) (oi := { dst := some 103, op := Op.unOp UnOp.not 4 (Operand.tmp 102), type := 4, pos := "law.go:83", after := #[{ on := 17, ground := Ground.data }, { on := 11, ground := Ground.guard }], guard := some (11, false) }) (v := ?vqne4r22o18) rfl (by kernel_rfl) (by kernel_rfl) (by kernel_rfl) (fun _ _ _ h => h) (Or.inl ⟨by rfl, ?hqne4r22o18⟩) hS ?_
                  case hqne4r22o18 => (intro wx hx; skip; go_simp; (try with_reducible rfl))
                  try simp only [Act.put, List.setIfInBounds_toArray, List.set_cons_zero, List.set_cons_succ]
                  refine wpAnyH_ready (rs := [13]) (by kernel_rfl) (by simp) ?_
                  refine AllReadyH.cons (o := { dst := some 98, op := Op.call { callee := Callee.value (Operand.func 28), args := #[Operand.tmp 97], argTypes := #[35] }, type := 4, pos := "law.go:83", after := #[{ on := 12, ground := Ground.data }, { on := 11, ground := Ground.chain }, { on := 11, ground := Ground.guard }], guard := some (11, false) }) rfl (fun K hK => ?_) AllReadyH.nil
                  go_simp
                  refine (End_any B g d bs a' false _ hTA).mono ?_
                  rintro e wB ⟨rfl, hTB, hgB⟩
                  have hgwB := grown_new hgwA hgB (by intro k e; cases e; exact hBg)
                  have hRB := hRA.keep hgB hne (by intro k e; cases e; exact hBg)
                  refine hK.out _ _ ?hsqne4r22o13 (fun hS => ?_)
                  case hsqne4r22o13 => (assumption)
                  clear hK K
                  try simp only [Act.put, List.setIfInBounds_toArray, List.set_cons_zero, List.set_cons_succ]
                  refine wpAnyH_take (i := 19) (oi := { dst := some 104, op := Op.move (Operand.tmp 103), type := 4, pos := "law.go:83", after := #[{ on := 18, ground := Ground.data }, { on := 13, ground := Ground.chain }, { on := 11, ground := Ground.guard }], guard := some (11, false) }) (v := ?vqne4r22o19) rfl (by kernel_rfl) (by kernel_rfl) (by kernel_rfl) (fun _ _ _ h => h) (Or.inl ⟨by rfl, ?hqne4r22o19⟩) hS ?_
                  case hqne4r22o19 => (intro wx hx; skip; go_simp; (try with_reducible rfl))
                  try simp only [Act.put, List.setIfInBounds_toArray, List.set_cons_zero, List.set_cons_succ]
                  refine wpAnyH_take (i := 20) (oi := { dst := some 105, op := Op.move (Operand.tmp 7), type := 37, pos := "law.go:83", after := #[{ on := 19, ground := Ground.guard }], guard := some (19, true) }) (v := ?vqne4r22o20) rfl (by kernel_rfl) (by kernel_rfl) (by kernel_rfl) (fun _ _ _ h => h) (Or.inl ⟨by rfl, ?hqne4r22o20⟩) hS ?_
                  case hqne4r22o20 => (intro wx hx; skip; go_simp; (try with_reducible rfl))
                  try simp only [Act.put, List.setIfInBounds_toArray, List.set_cons_zero, List.set_cons_succ]
                  refine wpAnyH_take (i := 21) (oi := { dst := some 106, op := Op.nilCheck (Operand.tmp 105), type := 0, pos := "law.go:83", after := #[{ on := 20, ground := Ground.data }, { on := 19, ground := Ground.guard }], guard := some (19, true) }) (v := ?vqne4r22o21) rfl (by kernel_rfl) (by kernel_rfl) (by kernel_rfl) (fun _ _ _ h => h) (Or.inl ⟨by rfl, ?hqne4r22o21⟩) hS ?_
                  case hqne4r22o21 => (intro wx hx; skip; go_simp; (try with_reducible rfl))
                  try simp only [Act.put, List.setIfInBounds_toArray, List.set_cons_zero, List.set_cons_succ]
                  refine wpAnyH_take (i := 22) (oi := { dst := some 107, op := Op.fieldAddr 39 (Operand.tmp 106) 0, type := 0, pos := "law.go:83", after := #[{ on := 21, ground := Ground.data }, { on := 19, ground := Ground.guard }], guard := some (19, true) }) (v := ?vqne4r22o22) rfl (by kernel_rfl) (by kernel_rfl) (by kernel_rfl) (fun _ _ _ h => h) (Or.inl ⟨by rfl, ?hqne4r22o22⟩) hS ?_
                  case hqne4r22o22 => (intro wx hx; skip; go_simp; (try with_reducible rfl))
                  try simp only [Act.put, List.setIfInBounds_toArray, List.set_cons_zero, List.set_cons_succ]
                  refine wpAnyH_take (i := 23) (oi := { dst := some 108, op := Op.load 22 (Operand.tmp 107), type := 22, pos := "law.go:83", after := #[{ on := 22, ground := Ground.data }, { on := 19, ground := Ground.guard }], guard := some (19, true) }) (v := ?vqne4r22o23) rfl (by kernel_rfl) (by kernel_rfl) (by kernel_rfl) (fun _ _ _ h => h) (Or.inl ⟨by rfl, ?hqne4r22o23⟩) hS ?_
                  case hqne4r22o23 => (intro wx hx; obtain ⟨f0, f1, _, _⟩ := RTC.facts hx; go_simp; (try with_reducible rfl))
                  try simp only [Act.put, List.setIfInBounds_toArray, List.set_cons_zero, List.set_cons_succ]
                  refine wpAnyH_take (i := 24) (oi := { dst := some 109, op := Op.call { callee := Callee.builtin Builtin.len, args := #[Operand.tmp 108], argTypes := #[22] }, type := 3, pos := "law.go:83", after := #[{ on := 23, ground := Ground.data }, { on := 19, ground := Ground.guard }], guard := some (19, true) }) (v := ?vqne4r22o24) rfl (by kernel_rfl) (by kernel_rfl) (by kernel_rfl) (fun _ _ _ h => h) (Or.inl ⟨by rfl, ?hqne4r22o24⟩) hS ?_
                  case hqne4r22o24 => (intro wx hx; skip; go_simp; (try with_reducible rfl))
                  try simp only [Act.put, List.setIfInBounds_toArray, List.set_cons_zero, List.set_cons_succ]
                  refine wpAnyH_take (i := 25) (oi := { dst := some 110, op := Op.binOp BinOp.eql 3 (Operand.tmp 109) (Operand.const (Value.int IntKind.i64 0)) 3, type := 4, pos := "law.go:83", after := #[{ on := 24, ground := Ground.data }, { on := 19, ground := Ground.guard }], guard := some (19, true) }) (v := ?vqne4r22o25) rfl (by kernel_rfl) (by kernel_rfl) (by kernel_rfl) (fun _ _ _ h => h) (Or.inl ⟨by rfl, ?hqne4r22o25⟩) hS ?_
                  case hqne4r22o25 => (intro wx hx; skip; go_simp; (try with_reducible rfl))
                  try simp only [Act.put, List.setIfInBounds_toArray, List.set_cons_zero, List.set_cons_succ]
                  refine wpAnyH_take (i := 26) (oi := { dst := some 111, op := Op.pick (Operand.tmp 104) (Operand.tmp 110) (Operand.const (Value.bool false)), type := 4, pos := "law.go:83", after := #[{ on := 19, ground := Ground.data }, { on := 25, ground := Ground.data }, { on := 11, ground := Ground.guard }], guard := some (11, false) }) (v := ?vqne4r22o26) rfl (by kernel_rfl) (by kernel_rfl) (by kernel_rfl) (fun _ _ _ h => h) (Or.inl ⟨by rfl, ?hqne4r22o26⟩) hS ?_
                  case hqne4r22o26 => (intro wx hx; skip; go_simp; (try with_reducible rfl))
                  try simp only [Act.put, List.setIfInBounds_toArray, List.set_cons_zero, List.set_cons_succ]
                  refine wpAnyH_take (i := 27) (oi := { dst := some 112, op := Op.binOp BinOp.neq 4 (Operand.tmp 98) (Operand.tmp 111) 4, type := 4, pos := "law.go:83", after := #[{ on := 13, ground := Ground.data }, { on := 26, ground := Ground.data }, { on := 11, ground := Ground.guard }], guard := some (11, false) }) (v := ?vqne4r22o27) rfl (by kernel_rfl) (by kernel_rfl) (by kernel_rfl) (fun _ _ _ h => h) (Or.inl ⟨by rfl, ?hqne4r22o27⟩) hS ?_
                  case hqne4r22o27 => (intro wx hx; skip; go_simp; (try with_reducible rfl))
                  try simp only [Act.put, List.setIfInBounds_toArray, List.set_cons_zero, List.set_cons_succ]
                  refine wpAnyH_take (i := 28) (oi := { dst := some 113, op := Op.pick (Operand.tmp 96) (Operand.const (Value.bool true)) (Operand.tmp 112), type := 4, pos := "law.go:83", after := #[{ on := 11, ground := Ground.data }, { on := 27, ground := Ground.data }], guard := none }) (v := ?vqne4r22o28) rfl (by kernel_rfl) (by kernel_rfl) (by kernel_rfl) (fun _ _ _ h => h) (Or.inl ⟨by rfl, ?hqne4r22o28⟩) hS ?_
                  case hqne4r22o28 => (intro wx hx; skip; go_simp; (try with_reducible rfl))
                  try simp only [Act.put, List.setIfInBounds_toArray, List.set_cons_zero, List.set_cons_succ]
                  refine wpAnyH_done (by kernel_rfl) ?_ _
                  go_wp2
                  go_roundw
                  case rel => exact ⟨k + 1, a', false, by omega, by go_num, hTB, ⟨rad, rl, rc, by rw [← hRest.out] ; exact hRB⟩, hgwB⟩
                  case measure => simp [intOf]; omega
                · have hd1 : decide (a' = bs.length) = false := by simpa using hend
                  have hd2 : ((rl : Int) == 0) = false := by simp; omega
                  clear hrl hend
                  refine wp_region_held_drew (S := fun w' => RTC w' w.heap.size gr rest false rad rl rc) (by kernel_rfl) (hRd) (fun hS => ?_)
                  refine wpAnyH_take (i := 0) (oi := { dst := some 85, op := Op.move (Operand.tmp 10), type := 4, pos := "law.go:83", after := #[], guard := none }) (v := ?vqnn4r22o0) rfl (by kernel_rfl) (by kernel_rfl) (by kernel_rfl) (fun _ _ _ h => h) (Or.inl ⟨by rfl, ?hqnn4r22o0⟩) hS ?_
                  case hqnn4r22o0 => (intro wx hx; skip; go_simp; (try with_reducible rfl))
                  try simp only [Act.put, List.setIfInBounds_toArray, List.set_cons_zero, List.set_cons_succ]
                  refine wpAnyH_take (i := 1) (oi := { dst := some 86, op := Op.unOp UnOp.not 4 (Operand.tmp 85), type := 4, pos := "law.go:83", after := #[{ on := 0, ground := Ground.data }], guard := none }) (v := ?vqnn4r22o1) rfl (by kernel_rfl) (by kernel_rfl) (by kernel_rfl) (fun _ _ _ h => h) (Or.inl ⟨by rfl, ?hqnn4r22o1⟩) hS ?_
                  case hqnn4r22o1 => (intro wx hx; skip; go_simp; (try with_reducible rfl))
                  try simp only [Act.put, List.setIfInBounds_toArray, List.set_cons_zero, List.set_cons_succ]
                  refine wpAnyH_take (i := 2) (oi := { dst := some 87, op := Op.move (Operand.tmp 86), type := 4, pos := "law.go:83", after := #[{ on := 1, ground := Ground.data }], guard := none }) (v := ?vqnn4r22o2) rfl (by kernel_rfl) (by kernel_rfl) (by kernel_rfl) (fun _ _ _ h => h) (Or.inl ⟨by rfl, ?hqnn4r22o2⟩) hS ?_
                  case hqnn4r22o2 => (intro wx hx; skip; go_simp; (try with_reducible rfl))
                  try simp only [Act.put, List.setIfInBounds_toArray, List.set_cons_zero, List.set_cons_succ]
                  refine wpAnyH_take (i := 3) (oi := { dst := some 88, op := Op.move (Operand.tmp 6), type := 35, pos := "law.go:83", after := #[{ on := 2, ground := Ground.guard }], guard := some (2, false) }) (v := ?vqnn4r22o3) rfl (by kernel_rfl) (by kernel_rfl) (by kernel_rfl) (fun _ _ _ h => h) (Or.inl ⟨by rfl, ?hqnn4r22o3⟩) hS ?_
                  case hqnn4r22o3 => (intro wx hx; skip; go_simp; (try with_reducible rfl))
                  try simp only [Act.put, List.setIfInBounds_toArray, List.set_cons_zero, List.set_cons_succ]
                  refine wpAnyH_take (i := 5) (oi := { dst := some 90, op := Op.move (Operand.tmp 7), type := 37, pos := "law.go:83", after := #[{ on := 2, ground := Ground.guard }], guard := some (2, false) }) (v := ?vqnn4r22o5) rfl (by kernel_rfl) (by kernel_rfl) (by kernel_rfl) (fun _ _ _ h => h) (Or.inl ⟨by rfl, ?hqnn4r22o5⟩) hS ?_
                  case hqnn4r22o5 => (intro wx hx; skip; go_simp; (try with_reducible rfl))
                  try simp only [Act.put, List.setIfInBounds_toArray, List.set_cons_zero, List.set_cons_succ]
                  refine wpAnyH_take (i := 6) (oi := { dst := some 91, op := Op.nilCheck (Operand.tmp 90), type := 0, pos := "law.go:83", after := #[{ on := 5, ground := Ground.data }, { on := 2, ground := Ground.guard }], guard := some (2, false) }) (v := ?vqnn4r22o6) rfl (by kernel_rfl) (by kernel_rfl) (by kernel_rfl) (fun _ _ _ h => h) (Or.inl ⟨by rfl, ?hqnn4r22o6⟩) hS ?_
                  case hqnn4r22o6 => (intro wx hx; skip; go_simp; (try with_reducible rfl))
                  try simp only [Act.put, List.setIfInBounds_toArray, List.set_cons_zero, List.set_cons_succ]
                  refine wpAnyH_take (i := 7) (oi := { dst := some 92, op := Op.fieldAddr 39 (Operand.tmp 91) 1, type := 0, pos := "law.go:83", after := #[{ on := 6, ground := Ground.data }, { on := 2, ground := Ground.guard }], guard := some (2, false) }) (v := ?vqnn4r22o7) rfl (by kernel_rfl) (by kernel_rfl) (by kernel_rfl) (fun _ _ _ h => h) (Or.inl ⟨by rfl, ?hqnn4r22o7⟩) hS ?_
                  case hqnn4r22o7 => (intro wx hx; skip; go_simp; (try with_reducible rfl))
                  try simp only [Act.put, List.setIfInBounds_toArray, List.set_cons_zero, List.set_cons_succ]
                  refine wpAnyH_take (i := 8) (oi := { dst := some 93, op := Op.load 4 (Operand.tmp 92), type := 4, pos := "law.go:83", after := #[{ on := 7, ground := Ground.data }, { on := 2, ground := Ground.guard }], guard := some (2, false) }) (v := ?vqnn4r22o8) rfl (by kernel_rfl) (by kernel_rfl) (by kernel_rfl) (fun _ _ _ h => h) (Or.inl ⟨by rfl, ?hqnn4r22o8⟩) hS ?_
                  case hqnn4r22o8 => (intro wx hx; obtain ⟨f0, f1, _, _⟩ := RTC.facts hx; go_simp; (try with_reducible rfl))
                  try simp only [Act.put, List.setIfInBounds_toArray, List.set_cons_zero, List.set_cons_succ]
                  refine wpAnyH_ready (rs := [4]) (by kernel_rfl) (by simp) ?_
                  refine AllReadyH.cons (o := { dst := some 89, op := Op.call { callee := Callee.value (Operand.func 27), args := #[Operand.tmp 88], argTypes := #[35] }, type := 4, pos := "law.go:83", after := #[{ on := 3, ground := Ground.data }, { on := 2, ground := Ground.chain }, { on := 2, ground := Ground.guard }], guard := some (2, false) }) rfl (fun K hK => ?_) AllReadyH.nil
                  go_simp
                  refine (Torn_any B g d bs a' false _ hTd).mono ?_
                  rintro e wA ⟨rfl, hTA, hgA⟩
                  have hgwA := grown_new hgd hgA (by intro k e; cases e; exact hBg)
                  have hRA := hRd.keep hgA hne (by intro k e; cases e; exact hBg)
                  refine hK.out _ _ ?hsqnn4r22o4 (fun hS => ?_)
                  case hsqnn4r22o4 => (assumption)
                  clear hK K
                  try simp only [Act.put, List.setIfInBounds_toArray, List.set_cons_zero, List.set_cons_succ]
                  refine wpAnyH_take (i := 9) (oi := { dst := some 94, op := Op.binOp BinOp.neq 4 (Operand.tmp 89) (Operand.tmp 93) 4, type := 4, pos := "law.go:83", after := #[{ on := 4, ground := Ground.data }, { on := 8, ground := Ground.data }, { on := 2, ground := Ground.guard }], guard := some (2, false) }) (v := ?vqnn4r22o9) rfl (by kernel_rfl) (by kernel_rfl) (by kernel_rfl) (fun _ _ _ h => h) (Or.inl ⟨by rfl, ?hqnn4r22o9⟩) hS ?_
                  case hqnn4r22o9 => (intro wx hx; skip; go_simp; (try with_reducible rfl))
                  try simp only [Act.put, List.setIfInBounds_toArray, List.set_cons_zero, List.set_cons_succ]
                  refine wpAnyH_take (i := 10) (oi := { dst := some 95, op := Op.pick (Operand.tmp 87) (Operand.const (Value.bool true)) (Operand.tmp 94), type := 4, pos := "law.go:83", after := #[{ on := 2, ground := Ground.data }, { on := 9, ground := Ground.data }], guard := none }) (v := ?vqnn4r22o10) rfl (by kernel_rfl) (by kernel_rfl) (by kernel_rfl) (fun _ _ _ h => h) (Or.inl ⟨by rfl, ?hqnn4r22o10⟩) hS ?_
                  case hqnn4r22o10 => (intro wx hx; skip; go_simp; (try with_reducible rfl))
                  try simp only [Act.put, List.setIfInBounds_toArray, List.set_cons_zero, List.set_cons_succ]
                  refine wpAnyH_take (i := 11) (oi := { dst := some 96, op := Op.move (Operand.tmp 95), type := 4, pos := "law.go:83", after := #[{ on := 10, ground := Ground.data }, { on := 4, ground := Ground.chain }], guard := none }) (v := ?vqnn4r22o11) rfl (by kernel_rfl) (by kernel_rfl) (by kernel_rfl) (fun _ _ _ h => h) (Or.inl ⟨by rfl, ?hqnn4r22o11⟩) hS ?_
                  case hqnn4r22o11 => (intro wx hx; skip; go_simp; (try with_reducible rfl))
                  try simp only [Act.put, List.setIfInBounds_toArray, List.set_cons_zero, List.set_cons_succ]
                  refine wpAnyH_take (i := 12) (oi := { dst := some 97, op := Op.move (Operand.tmp 6), type := 35, pos := "law.go:83", after := #[{ on := 11, ground := Ground.guard }], guard := some (11, false) }) (v := ?vqnn4r22o12) rfl (by kernel_rfl) (by kernel_rfl) (by kernel_rfl) (fun _ _ _ h => h) (Or.inl ⟨by rfl, ?hqnn4r22o12⟩) hS ?_
                  case hqnn4r22o12 => (intro wx hx; skip; go_simp; (try with_reducible rfl))
                  try simp only [Act.put, List.setIfInBounds_toArray, List.set_cons_zero, List.set_cons_succ]
                  refine wpAnyH_take (i := 14) (oi := { dst := some 99, op := Op.move (Operand.tmp 7), type := 37, pos := "law.go:83", after := #[{ on := 11, ground := Ground.guard }], guard := some (11, false) }) (v := ?vqnn4r22o14) rfl (by kernel_rfl) (by kernel_rfl) (by kernel_rfl) (fun _ _ _ h => h) (Or.inl ⟨by rfl, ?hqnn4r22o14⟩) hS ?_
                  case hqnn4r22o14 => (intro wx hx; skip; go_simp; (try with_reducible rfl))
                  try simp only [Act.put, List.setIfInBounds_toArray, List.set_cons_zero, List.set_cons_succ]
                  refine wpAnyH_take (i := 15) (oi := { dst := some 100, op := Op.nilCheck (Operand.tmp 99), type := 0, pos := "law.go:83", after := #[{ on := 14, ground := Ground.data }, { on := 11, ground := Ground.guard }], guard := some (11, false) }) (v := ?vqnn4r22o15) rfl (by kernel_rfl) (by kernel_rfl) (by kernel_rfl) (fun _ _ _ h => h) (Or.inl ⟨by rfl, ?hqnn4r22o15⟩) hS ?_
                  case hqnn4r22o15 => (intro wx hx; skip; go_simp; (try with_reducible rfl))
                  try simp only [Act.put, List.setIfInBounds_toArray, List.set_cons_zero, List.set_cons_succ]
                  refine wpAnyH_take (i := 16) (oi := { dst := some 101, op := Op.fieldAddr 39 (Operand.tmp 100) 1, type := 0, pos := "law.go:83", after := #[{ on := 15, ground := Ground.data }, { on := 11, ground := Ground.guard }], guard := some (11, false) }) (v := ?vqnn4r22o16) rfl (by kernel_rfl) (by kernel_rfl) (by kernel_rfl) (fun _ _ _ h => h) (Or.inl ⟨by rfl, ?hqnn4r22o16⟩) hS ?_
                  case hqnn4r22o16 => (intro wx hx; skip; go_simp; (try with_reducible rfl))
                  try simp only [Act.put, List.setIfInBounds_toArray, List.set_cons_zero, List.set_cons_succ]
                  refine wpAnyH_take (i := 17) (oi := { dst := some 102, op := Op.load 4 (Operand.tmp 101), type := 4, pos := "law.go:83", after := #[{ on := 16, ground := Ground.data }, { on := 11, ground := Ground.guard }], guard := some (11, false) }) (v := ?vqnn4r22o17) rfl (by kernel_rfl) (by kernel_rfl) (by kernel_rfl) (fun _ _ _ h => h) (Or.inl ⟨by rfl, ?hqnn4r22o17⟩) hS ?_
                  case hqnn4r22o17 => (intro wx hx; obtain ⟨f0, f1, _, _⟩ := RTC.facts hx; go_simp; (try with_reducible rfl))
                  try simp only [Act.put, List.setIfInBounds_toArray, List.set_cons_zero, List.set_cons_succ]
                  refine wpAnyH_take (i := 18) (oi := { dst := some 103, op := Op.unOp UnOp.not 4 (Operand.tmp 102), type := 4, pos := "law.go:83", after := #[{ on := 17, ground := Ground.data }, { on := 11, ground := Ground.guard }], guard := some (11, false) }) (v := ?vqnn4r22o18) rfl (by kernel_rfl) (by kernel_rfl) (by kernel_rfl) (fun _ _ _ h => h) (Or.inl ⟨by rfl, ?hqnn4r22o18⟩) hS ?_
                  case hqnn4r22o18 => (intro wx hx; skip; go_simp; (try with_reducible rfl))
                  try simp only [Act.put, List.setIfInBounds_toArray, List.set_cons_zero, List.set_cons_succ]
                  refine wpAnyH_ready (rs := [13]) (by kernel_rfl) (by simp) ?_
                  refine AllReadyH.cons (o := { dst := some 98, op := Op.call { callee := Callee.value (Operand.func 28), args := #[Operand.tmp 97], argTypes := #[35] }, type := 4, pos := "law.go:83", after := #[{ on := 12, ground := Ground.data }, { on := 11, ground := Ground.chain }, { on := 11, ground := Ground.guard }], guard := some (11, false) }) rfl (fun K hK => ?_) AllReadyH.nil
                  go_simp
                  refine (End_any B g d bs a' false _ hTA).mono ?_
                  rintro e wB ⟨rfl, hTB, hgB⟩
                  have hgwB := grown_new hgwA hgB (by intro k e; cases e; exact hBg)
                  have hRB := hRA.keep hgB hne (by intro k e; cases e; exact hBg)
                  refine hK.out _ _ ?hsqnn4r22o13 (fun hS => ?_)
                  case hsqnn4r22o13 => (assumption)
                  clear hK K
                  try simp only [Act.put, List.setIfInBounds_toArray, List.set_cons_zero, List.set_cons_succ]
                  refine wpAnyH_take (i := 19) (oi := { dst := some 104, op := Op.move (Operand.tmp 103), type := 4, pos := "law.go:83", after := #[{ on := 18, ground := Ground.data }, { on := 13, ground := Ground.chain }, { on := 11, ground := Ground.guard }], guard := some (11, false) }) (v := ?vqnn4r22o19) rfl (by kernel_rfl) (by kernel_rfl) (by kernel_rfl) (fun _ _ _ h => h) (Or.inl ⟨by rfl, ?hqnn4r22o19⟩) hS ?_
                  case hqnn4r22o19 => (intro wx hx; skip; go_simp; (try with_reducible rfl))
                  try simp only [Act.put, List.setIfInBounds_toArray, List.set_cons_zero, List.set_cons_succ]
                  refine wpAnyH_take (i := 20) (oi := { dst := some 105, op := Op.move (Operand.tmp 7), type := 37, pos := "law.go:83", after := #[{ on := 19, ground := Ground.guard }], guard := some (19, true) }) (v := ?vqnn4r22o20) rfl (by kernel_rfl) (by kernel_rfl) (by kernel_rfl) (fun _ _ _ h => h) (Or.inl ⟨by rfl, ?hqnn4r22o20⟩) hS ?_
                  case hqnn4r22o20 => (intro wx hx; skip; go_simp; (try with_reducible rfl))
                  try simp only [Act.put, List.setIfInBounds_toArray, List.set_cons_zero, List.set_cons_succ]
                  refine wpAnyH_take (i := 21) (oi := { dst := some 106, op := Op.nilCheck (Operand.tmp 105), type := 0, pos := "law.go:83", after := #[{ on := 20, ground := Ground.data }, { on := 19, ground := Ground.guard }], guard := some (19, true) }) (v := ?vqnn4r22o21) rfl (by kernel_rfl) (by kernel_rfl) (by kernel_rfl) (fun _ _ _ h => h) (Or.inl ⟨by rfl, ?hqnn4r22o21⟩) hS ?_
                  case hqnn4r22o21 => (intro wx hx; skip; go_simp; (try with_reducible rfl))
                  try simp only [Act.put, List.setIfInBounds_toArray, List.set_cons_zero, List.set_cons_succ]
                  refine wpAnyH_take (i := 22) (oi := { dst := some 107, op := Op.fieldAddr 39 (Operand.tmp 106) 0, type := 0, pos := "law.go:83", after := #[{ on := 21, ground := Ground.data }, { on := 19, ground := Ground.guard }], guard := some (19, true) }) (v := ?vqnn4r22o22) rfl (by kernel_rfl) (by kernel_rfl) (by kernel_rfl) (fun _ _ _ h => h) (Or.inl ⟨by rfl, ?hqnn4r22o22⟩) hS ?_
                  case hqnn4r22o22 => (intro wx hx; skip; go_simp; (try with_reducible rfl))
                  try simp only [Act.put, List.setIfInBounds_toArray, List.set_cons_zero, List.set_cons_succ]
                  refine wpAnyH_take (i := 23) (oi := { dst := some 108, op := Op.load 22 (Operand.tmp 107), type := 22, pos := "law.go:83", after := #[{ on := 22, ground := Ground.data }, { on := 19, ground := Ground.guard }], guard := some (19, true) }) (v := ?vqnn4r22o23) rfl (by kernel_rfl) (by kernel_rfl) (by kernel_rfl) (fun _ _ _ h => h) (Or.inl ⟨by rfl, ?hqnn4r22o23⟩) hS ?_
                  case hqnn4r22o23 => (intro wx hx; obtain ⟨f0, f1, _, _⟩ := RTC.facts hx; go_simp; (try with_reducible rfl))
                  try simp only [Act.put, List.setIfInBounds_toArray, List.set_cons_zero, List.set_cons_succ]
                  refine wpAnyH_take (i := 24) (oi := { dst := some 109, op := Op.call { callee := Callee.builtin Builtin.len, args := #[Operand.tmp 108], argTypes := #[22] }, type := 3, pos := "law.go:83", after := #[{ on := 23, ground := Ground.data }, { on := 19, ground := Ground.guard }], guard := some (19, true) }) (v := ?vqnn4r22o24) rfl (by kernel_rfl) (by kernel_rfl) (by kernel_rfl) (fun _ _ _ h => h) (Or.inl ⟨by rfl, ?hqnn4r22o24⟩) hS ?_
                  case hqnn4r22o24 => (intro wx hx; skip; go_simp; (try with_reducible rfl))
                  try simp only [Act.put, List.setIfInBounds_toArray, List.set_cons_zero, List.set_cons_succ]
                  refine wpAnyH_take (i := 25) (oi := { dst := some 110, op := Op.binOp BinOp.eql 3 (Operand.tmp 109) (Operand.const (Value.int IntKind.i64 0)) 3, type := 4, pos := "law.go:83", after := #[{ on := 24, ground := Ground.data }, { on := 19, ground := Ground.guard }], guard := some (19, true) }) (v := ?vqnn4r22o25) rfl (by kernel_rfl) (by kernel_rfl) (by kernel_rfl) (fun _ _ _ h => h) (Or.inl ⟨by rfl, ?hqnn4r22o25⟩) hS ?_
                  case hqnn4r22o25 => (intro wx hx; skip; go_simp; (try with_reducible rfl))
                  try simp only [Act.put, List.setIfInBounds_toArray, List.set_cons_zero, List.set_cons_succ]
                  refine wpAnyH_take (i := 26) (oi := { dst := some 111, op := Op.pick (Operand.tmp 104) (Operand.tmp 110) (Operand.const (Value.bool false)), type := 4, pos := "law.go:83", after := #[{ on := 19, ground := Ground.data }, { on := 25, ground := Ground.data }, { on := 11, ground := Ground.guard }], guard := some (11, false) }) (v := ?vqnn4r22o26) rfl (by kernel_rfl) (by kernel_rfl) (by kernel_rfl) (fun _ _ _ h => h) (Or.inl ⟨by rfl, ?hqnn4r22o26⟩) hS ?_
                  case hqnn4r22o26 => (intro wx hx; skip; go_simp; (try with_reducible rfl))
                  try simp only [Act.put, List.setIfInBounds_toArray, List.set_cons_zero, List.set_cons_succ]
                  refine wpAnyH_take (i := 27) (oi := { dst := some 112, op := Op.binOp BinOp.neq 4 (Operand.tmp 98) (Operand.tmp 111) 4, type := 4, pos := "law.go:83", after := #[{ on := 13, ground := Ground.data }, { on := 26, ground := Ground.data }, { on := 11, ground := Ground.guard }], guard := some (11, false) }) (v := ?vqnn4r22o27) rfl (by kernel_rfl) (by kernel_rfl) (by kernel_rfl) (fun _ _ _ h => h) (Or.inl ⟨by rfl, ?hqnn4r22o27⟩) hS ?_
                  case hqnn4r22o27 => (intro wx hx; skip; go_simp; (try with_reducible rfl))
                  try simp only [Act.put, List.setIfInBounds_toArray, List.set_cons_zero, List.set_cons_succ]
                  refine wpAnyH_take (i := 28) (oi := { dst := some 113, op := Op.pick (Operand.tmp 96) (Operand.const (Value.bool true)) (Operand.tmp 112), type := 4, pos := "law.go:83", after := #[{ on := 11, ground := Ground.data }, { on := 27, ground := Ground.data }], guard := none }) (v := ?vqnn4r22o28) rfl (by kernel_rfl) (by kernel_rfl) (by kernel_rfl) (fun _ _ _ h => h) (Or.inl ⟨by rfl, ?hqnn4r22o28⟩) hS ?_
                  case hqnn4r22o28 => (intro wx hx; skip; go_simp; (try with_reducible rfl))
                  try simp only [Act.put, List.setIfInBounds_toArray, List.set_cons_zero, List.set_cons_succ]
                  refine wpAnyH_done (by kernel_rfl) ?_ _
                  go_wp2
                  go_roundw
                  case rel => exact ⟨k + 1, a', false, by omega, by go_num, hTB, ⟨rad, rl, rc, by rw [← hRest.out] ; exact hRB⟩, hgwB⟩
                  case measure => simp [intOf]; omega
            · have e1 : (x.do_ % 3 == 1) = false := by simpa using hm1
              clear hm0 hm1 m1
              go_wp2_with fail
              have HC : Hid (∀ wx, TapeIs wx B g d bs a t → Calls Try.prog 25 #[.pointer (some ⟨g, 0, none⟩), .int .i64 x.n] wx (StepIs (.string (str (textR bs a t x.n).1)) wx B g d bs (textR bs a t x.n).2.1 (textR bs a t x.n).2.2)) := fun wx h => Text_step_any B g d bs a t x.n wx (by have := Hxn.out; omega) h
              have HC2 : Hid (∀ wx, RT wx w.heap.size gr (bs.drop a) t → Calls Try.prog 26 #[.pointer (some ⟨gr, 0, none⟩), .int .i64 x.n] wx (RStep (.string (str (textR bs a t x.n).1)) wx w.heap.size gr (bs.drop (textR bs a t x.n).2.1) (textR bs a t x.n).2.2)) := fun wx h => RText_step _ gr bs a t x.n wx (by have := Hxn.out; omega) (by have := Hxn.out; omega) h (by have := hT.place; omega)
              have hTd := hT.keep (row := none) (grown_drew (World.grownBy.refl _ none)) (by simp) (by simp)
              have hRd := hR.keep (row := none) (grown_drew (World.grownBy.refl _ none)) (by simp) (by simp)
              have hgd := grown_drew hg
              clear hT hR hg
              generalize textR bs a t x.n = R at HC HC2
              obtain ⟨v, a', t'⟩ := R
              generalize str v = V at HC HC2
              have hq : (V.toList == V.toList) = true := by simp
              go_wp2_with fail
              refine wp_region_held_drew (S := fun w' => w.grownBy w' none) (by kernel_rfl) (hgd) (fun hS => ?_)
              refine wpAnyH_take (i := 0) (oi := { dst := some 56, op := Op.move (Operand.tmp 6), type := 35, pos := "law.go:81", after := #[], guard := none }) (v := ?vtxt4r17o0) rfl (by kernel_rfl) (by kernel_rfl) (by kernel_rfl) (fun _ _ _ h => h) (Or.inl ⟨by rfl, ?htxt4r17o0⟩) hS ?_
              case htxt4r17o0 => (intro wx hx; skip; go_simp; (try with_reducible rfl))
              try simp only [Act.put, List.setIfInBounds_toArray, List.set_cons_zero, List.set_cons_succ]
              refine wpAnyH_take (i := 1) (oi := { dst := some 57, op := Op.move (Operand.tmp 1), type := 34, pos := "law.go:81", after := #[], guard := none }) (v := ?vtxt4r17o1) rfl (by kernel_rfl) (by kernel_rfl) (by kernel_rfl) (fun _ _ _ h => h) (Or.inl ⟨by rfl, ?htxt4r17o1⟩) hS ?_
              case htxt4r17o1 => (intro wx hx; skip; go_simp; (try with_reducible rfl))
              try simp only [Act.put, List.setIfInBounds_toArray, List.set_cons_zero, List.set_cons_succ]
              refine wpAnyH_take (i := 2) (oi := { dst := some 58, op := Op.move (Operand.tmp 9), type := 3, pos := "law.go:81", after := #[], guard := none }) (v := ?vtxt4r17o2) rfl (by kernel_rfl) (by kernel_rfl) (by kernel_rfl) (fun _ _ _ h => h) (Or.inl ⟨by rfl, ?htxt4r17o2⟩) hS ?_
              case htxt4r17o2 => (intro wx hx; skip; go_simp; (try with_reducible rfl))
              try simp only [Act.put, List.setIfInBounds_toArray, List.set_cons_zero, List.set_cons_succ]
              refine wpAnyH_take (i := 3) (oi := { dst := some 59, op := Op.indexAddr 34 (Operand.tmp 57) (Operand.tmp 58), type := 0, pos := "law.go:81", after := #[{ on := 1, ground := Ground.data }, { on := 2, ground := Ground.data }], guard := none }) (v := ?vtxt4r17o3) rfl (by kernel_rfl) (by kernel_rfl) (by kernel_rfl) (fun _ _ _ h => h) (Or.inl ⟨by rfl, ?htxt4r17o3⟩) hS ?_
              case htxt4r17o3 => (intro wx hx; skip; go_simp; (try with_reducible rfl))
              try simp only [Act.put, List.setIfInBounds_toArray, List.set_cons_zero, List.set_cons_succ]
              refine wpAnyH_take (i := 4) (oi := { dst := some 60, op := Op.fieldAddr 41 (Operand.tmp 59) 1, type := 0, pos := "law.go:81", after := #[{ on := 3, ground := Ground.data }], guard := none }) (v := ?vtxt4r17o4) rfl (by kernel_rfl) (by kernel_rfl) (by kernel_rfl) (fun _ _ _ h => h) (Or.inl ⟨by rfl, ?htxt4r17o4⟩) hS ?_
              case htxt4r17o4 => (intro wx hx; skip; go_simp; (try with_reducible rfl))
              try simp only [Act.put, List.setIfInBounds_toArray, List.set_cons_zero, List.set_cons_succ]
              refine wpAnyH_take (i := 5) (oi := { dst := some 61, op := Op.load 3 (Operand.tmp 60), type := 3, pos := "law.go:81", after := #[{ on := 4, ground := Ground.data }], guard := none }) (v := ?vtxt4r17o5) rfl (by kernel_rfl) (by kernel_rfl) (by kernel_rfl) (fun _ _ _ h => h) (Or.inl ⟨by rfl, ?htxt4r17o5⟩) hS ?_
              case htxt4r17o5 => (intro wx hx; obtain ⟨s0, s1⟩ := HK.out wx hx; go_simp; (try with_reducible rfl))
              try simp only [Act.put, List.setIfInBounds_toArray, List.set_cons_zero, List.set_cons_succ]
              refine wpAnyH_take (i := 7) (oi := { dst := some 63, op := Op.move (Operand.tmp 7), type := 37, pos := "law.go:81", after := #[], guard := none }) (v := ?vtxt4r17o7) rfl (by kernel_rfl) (by kernel_rfl) (by kernel_rfl) (fun _ _ _ h => h) (Or.inl ⟨by rfl, ?htxt4r17o7⟩) hS ?_
              case htxt4r17o7 => (intro wx hx; skip; go_simp; (try with_reducible rfl))
              try simp only [Act.put, List.setIfInBounds_toArray, List.set_cons_zero, List.set_cons_succ]
              refine wpAnyH_take (i := 8) (oi := { dst := some 64, op := Op.move (Operand.tmp 1), type := 34, pos := "law.go:81", after := #[], guard := none }) (v := ?vtxt4r17o8) rfl (by kernel_rfl) (by kernel_rfl) (by kernel_rfl) (fun _ _ _ h => h) (Or.inl ⟨by rfl, ?htxt4r17o8⟩) hS ?_
              case htxt4r17o8 => (intro wx hx; skip; go_simp; (try with_reducible rfl))
              try simp only [Act.put, List.setIfInBounds_toArray, List.set_cons_zero, List.set_cons_succ]
              refine wpAnyH_take (i := 9) (oi := { dst := some 65, op := Op.move (Operand.tmp 9), type := 3, pos := "law.go:81", after := #[], guard := none }) (v := ?vtxt4r17o9) rfl (by kernel_rfl) (by kernel_rfl) (by kernel_rfl) (fun _ _ _ h => h) (Or.inl ⟨by rfl, ?htxt4r17o9⟩) hS ?_
              case htxt4r17o9 => (intro wx hx; skip; go_simp; (try with_reducible rfl))
              try simp only [Act.put, List.setIfInBounds_toArray, List.set_cons_zero, List.set_cons_succ]
              refine wpAnyH_take (i := 10) (oi := { dst := some 66, op := Op.indexAddr 34 (Operand.tmp 64) (Operand.tmp 65), type := 0, pos := "law.go:81", after := #[{ on := 8, ground := Ground.data }, { on := 9, ground := Ground.data }], guard := none }) (v := ?vtxt4r17o10) rfl (by kernel_rfl) (by kernel_rfl) (by kernel_rfl) (fun _ _ _ h => h) (Or.inl ⟨by rfl, ?htxt4r17o10⟩) hS ?_
              case htxt4r17o10 => (intro wx hx; skip; go_simp; (try with_reducible rfl))
              try simp only [Act.put, List.setIfInBounds_toArray, List.set_cons_zero, List.set_cons_succ]
              refine wpAnyH_take (i := 11) (oi := { dst := some 67, op := Op.fieldAddr 41 (Operand.tmp 66) 1, type := 0, pos := "law.go:81", after := #[{ on := 10, ground := Ground.data }], guard := none }) (v := ?vtxt4r17o11) rfl (by kernel_rfl) (by kernel_rfl) (by kernel_rfl) (fun _ _ _ h => h) (Or.inl ⟨by rfl, ?htxt4r17o11⟩) hS ?_
              case htxt4r17o11 => (intro wx hx; skip; go_simp; (try with_reducible rfl))
              try simp only [Act.put, List.setIfInBounds_toArray, List.set_cons_zero, List.set_cons_succ]
              refine wpAnyH_take (i := 12) (oi := { dst := some 68, op := Op.load 3 (Operand.tmp 67), type := 3, pos := "law.go:81", after := #[{ on := 11, ground := Ground.data }], guard := none }) (v := ?vtxt4r17o12) rfl (by kernel_rfl) (by kernel_rfl) (by kernel_rfl) (fun _ _ _ h => h) (Or.inl ⟨by rfl, ?htxt4r17o12⟩) hS ?_
              case htxt4r17o12 => (intro wx hx; obtain ⟨s0, s1⟩ := HK.out wx hx; go_simp; (try with_reducible rfl))
              try simp only [Act.put, List.setIfInBounds_toArray, List.set_cons_zero, List.set_cons_succ]
              refine wpAnyH_ready (rs := [6]) (by kernel_rfl) (by simp) ?_
              refine AllReadyH.cons (o := { dst := some 62, op := Op.call { callee := Callee.value (Operand.func 25), args := #[Operand.tmp 56, Operand.tmp 61], argTypes := #[35, 3] }, type := 9, pos := "law.go:81", after := #[{ on := 0, ground := Ground.data }, { on := 5, ground := Ground.data }], guard := none }) rfl (fun K hK => ?_) AllReadyH.nil
              go_simp
              refine (HC.out _ hTd).mono ?_
              rintro e wA ⟨rfl, hT, hgA⟩
              have hR := hRd.keep hgA hne (by intro k e; cases e; exact hBg)
              have hg := grown_new hgd hgA (by intro k e; cases e; exact hBg)
              refine hK.out _ _ ?hstxt4r17o6 (fun hS => ?_)
              case hstxt4r17o6 => (assumption)
              clear hK K
              try simp only [Act.put, List.setIfInBounds_toArray, List.set_cons_zero, List.set_cons_succ]
              refine wpAnyH_ready (rs := [13]) (by kernel_rfl) (by simp) ?_
              refine AllReadyH.cons (o := { dst := some 69, op := Op.call { callee := Callee.value (Operand.func 26), args := #[Operand.tmp 63, Operand.tmp 68], argTypes := #[37, 3] }, type := 9, pos := "law.go:81", after := #[{ on := 7, ground := Ground.data }, { on := 12, ground := Ground.data }, { on := 6, ground := Ground.chain }], guard := none }) rfl (fun K hK => ?_) AllReadyH.nil
              go_simp
              refine (HC2.out _ hR).mono ?_
              rintro e wB ⟨rfl, hR, hgB⟩
              have hT := hT.keep hgB hneg hned
              have hg := grown_new hg hgB (by intro k e; cases e; exact hBgr)
              refine hK.out _ _ ?hstxt4r17o13 (fun hS => ?_)
              case hstxt4r17o13 => (assumption)
              clear hK K
              try simp only [Act.put, List.setIfInBounds_toArray, List.set_cons_zero, List.set_cons_succ]
              refine wpAnyH_take (i := 14) (oi := { dst := some 70, op := Op.binOp BinOp.eql 9 (Operand.tmp 62) (Operand.tmp 69) 9, type := 4, pos := "law.go:81", after := #[{ on := 6, ground := Ground.data }, { on := 13, ground := Ground.data }], guard := none }) (v := ?vtxt4r17o14) rfl (by kernel_rfl) (by kernel_rfl) (by kernel_rfl) (fun _ _ _ h => h) (Or.inl ⟨by rfl, ?htxt4r17o14⟩) hS ?_
              case htxt4r17o14 => (intro wx hx; skip; go_simp; (try with_reducible rfl))
              try simp only [Act.put, List.setIfInBounds_toArray, List.set_cons_zero, List.set_cons_succ]
              refine wpAnyH_take (i := 15) (oi := { dst := some 10, op := Op.assign (Operand.tmp 70), type := 4, pos := "law.go:81", after := #[{ on := 14, ground := Ground.data }, { on := 13, ground := Ground.chain }, { on := 0, ground := Ground.phase }, { on := 1, ground := Ground.phase }, { on := 2, ground := Ground.phase }, { on := 3, ground := Ground.phase }, { on := 4, ground := Ground.phase }, { on := 5, ground := Ground.phase }, { on := 6, ground := Ground.phase }, { on := 7, ground := Ground.phase }, { on := 8, ground := Ground.phase }, { on := 9, ground := Ground.phase }, { on := 10, ground := Ground.phase }, { on := 11, ground := Ground.phase }, { on := 12, ground := Ground.phase }, { on := 13, ground := Ground.phase }, { on := 14, ground := Ground.phase }], guard := none }) (v := ?vtxt4r17o15) rfl (by kernel_rfl) (by kernel_rfl) (by kernel_rfl) (fun _ _ _ h => h) (Or.inl ⟨by rfl, ?htxt4r17o15⟩) hS ?_
              case htxt4r17o15 => (intro wx hx; skip; go_simp; (try with_reducible rfl))
              try simp only [Act.put, List.setIfInBounds_toArray, List.set_cons_zero, List.set_cons_succ]
              refine wpAnyH_done (by kernel_rfl) ?_ _
              go_wp2_with fail
              have hpl := hT.place
              have hTd := hT.keep (row := none) (grown_drew (World.grownBy.refl _ none)) (by simp) (by simp)
              obtain ⟨rad, rl, rc, hRd⟩ := hR.keep (row := none) (grown_drew (World.grownBy.refl _ none)) (by simp) (by simp)
              have hgd := grown_drew hg
              have hrl := hRd.len_
              rw [List.length_drop] at hrl
              obtain ⟨rest, hRest⟩ : ∃ rest, Hid (rest = bs.drop a') := ⟨_, Lib.hid rfl⟩
              rw [← hRest.out] at hRd
              clear hT hR hg
              cases t' with
              | true =>
                refine wp_region_held_drew (S := fun w' => RTC w' w.heap.size gr rest true rad rl rc) (by kernel_rfl) (hRd) (fun hS => ?_)
                refine wpAnyH_take (i := 0) (oi := { dst := some 85, op := Op.move (Operand.tmp 10), type := 4, pos := "law.go:83", after := #[], guard := none }) (v := ?vqtt4r22o0) rfl (by kernel_rfl) (by kernel_rfl) (by kernel_rfl) (fun _ _ _ h => h) (Or.inl ⟨by rfl, ?hqtt4r22o0⟩) hS ?_
                case hqtt4r22o0 => (intro wx hx; skip; go_simp; (try with_reducible rfl))
                try simp only [Act.put, List.setIfInBounds_toArray, List.set_cons_zero, List.set_cons_succ]
                refine wpAnyH_take (i := 1) (oi := { dst := some 86, op := Op.unOp UnOp.not 4 (Operand.tmp 85), type := 4, pos := "law.go:83", after := #[{ on := 0, ground := Ground.data }], guard := none }) (v := ?vqtt4r22o1) rfl (by kernel_rfl) (by kernel_rfl) (by kernel_rfl) (fun _ _ _ h => h) (Or.inl ⟨by rfl, ?hqtt4r22o1⟩) hS ?_
                case hqtt4r22o1 => (intro wx hx; skip; go_simp; (try with_reducible rfl))
                try simp only [Act.put, List.setIfInBounds_toArray, List.set_cons_zero, List.set_cons_succ]
                refine wpAnyH_take (i := 2) (oi := { dst := some 87, op := Op.move (Operand.tmp 86), type := 4, pos := "law.go:83", after := #[{ on := 1, ground := Ground.data }], guard := none }) (v := ?vqtt4r22o2) rfl (by kernel_rfl) (by kernel_rfl) (by kernel_rfl) (fun _ _ _ h => h) (Or.inl ⟨by rfl, ?hqtt4r22o2⟩) hS ?_
                case hqtt4r22o2 => (intro wx hx; skip; go_simp; (try with_reducible rfl))
                try simp only [Act.put, List.setIfInBounds_toArray, List.set_cons_zero, List.set_cons_succ]
                refine wpAnyH_take (i := 3) (oi := { dst := some 88, op := Op.move (Operand.tmp 6), type := 35, pos := "law.go:83", after := #[{ on := 2, ground := Ground.guard }], guard := some (2, false) }) (v := ?vqtt4r22o3) rfl (by kernel_rfl) (by kernel_rfl) (by kernel_rfl) (fun _ _ _ h => h) (Or.inl ⟨by rfl, ?hqtt4r22o3⟩) hS ?_
                case hqtt4r22o3 => (intro wx hx; skip; go_simp; (try with_reducible rfl))
                try simp only [Act.put, List.setIfInBounds_toArray, List.set_cons_zero, List.set_cons_succ]
                refine wpAnyH_take (i := 5) (oi := { dst := some 90, op := Op.move (Operand.tmp 7), type := 37, pos := "law.go:83", after := #[{ on := 2, ground := Ground.guard }], guard := some (2, false) }) (v := ?vqtt4r22o5) rfl (by kernel_rfl) (by kernel_rfl) (by kernel_rfl) (fun _ _ _ h => h) (Or.inl ⟨by rfl, ?hqtt4r22o5⟩) hS ?_
                case hqtt4r22o5 => (intro wx hx; skip; go_simp; (try with_reducible rfl))
                try simp only [Act.put, List.setIfInBounds_toArray, List.set_cons_zero, List.set_cons_succ]
                refine wpAnyH_take (i := 6) (oi := { dst := some 91, op := Op.nilCheck (Operand.tmp 90), type := 0, pos := "law.go:83", after := #[{ on := 5, ground := Ground.data }, { on := 2, ground := Ground.guard }], guard := some (2, false) }) (v := ?vqtt4r22o6) rfl (by kernel_rfl) (by kernel_rfl) (by kernel_rfl) (fun _ _ _ h => h) (Or.inl ⟨by rfl, ?hqtt4r22o6⟩) hS ?_
                case hqtt4r22o6 => (intro wx hx; skip; go_simp; (try with_reducible rfl))
                try simp only [Act.put, List.setIfInBounds_toArray, List.set_cons_zero, List.set_cons_succ]
                refine wpAnyH_take (i := 7) (oi := { dst := some 92, op := Op.fieldAddr 39 (Operand.tmp 91) 1, type := 0, pos := "law.go:83", after := #[{ on := 6, ground := Ground.data }, { on := 2, ground := Ground.guard }], guard := some (2, false) }) (v := ?vqtt4r22o7) rfl (by kernel_rfl) (by kernel_rfl) (by kernel_rfl) (fun _ _ _ h => h) (Or.inl ⟨by rfl, ?hqtt4r22o7⟩) hS ?_
                case hqtt4r22o7 => (intro wx hx; skip; go_simp; (try with_reducible rfl))
                try simp only [Act.put, List.setIfInBounds_toArray, List.set_cons_zero, List.set_cons_succ]
                refine wpAnyH_take (i := 8) (oi := { dst := some 93, op := Op.load 4 (Operand.tmp 92), type := 4, pos := "law.go:83", after := #[{ on := 7, ground := Ground.data }, { on := 2, ground := Ground.guard }], guard := some (2, false) }) (v := ?vqtt4r22o8) rfl (by kernel_rfl) (by kernel_rfl) (by kernel_rfl) (fun _ _ _ h => h) (Or.inl ⟨by rfl, ?hqtt4r22o8⟩) hS ?_
                case hqtt4r22o8 => (intro wx hx; obtain ⟨f0, f1, _, _⟩ := RTC.facts hx; go_simp; (try with_reducible rfl))
                try simp only [Act.put, List.setIfInBounds_toArray, List.set_cons_zero, List.set_cons_succ]
                refine wpAnyH_ready (rs := [4]) (by kernel_rfl) (by simp) ?_
                refine AllReadyH.cons (o := { dst := some 89, op := Op.call { callee := Callee.value (Operand.func 27), args := #[Operand.tmp 88], argTypes := #[35] }, type := 4, pos := "law.go:83", after := #[{ on := 3, ground := Ground.data }, { on := 2, ground := Ground.chain }, { on := 2, ground := Ground.guard }], guard := some (2, false) }) rfl (fun K hK => ?_) AllReadyH.nil
                go_simp
                refine (Torn_any B g d bs a' true _ hTd).mono ?_
                rintro e wA ⟨rfl, hTA, hgA⟩
                have hgwA := grown_new hgd hgA (by intro k e; cases e; exact hBg)
                have hRA := hRd.keep hgA hne (by intro k e; cases e; exact hBg)
                refine hK.out _ _ ?hsqtt4r22o4 (fun hS => ?_)
                case hsqtt4r22o4 => (assumption)
                clear hK K
                try simp only [Act.put, List.setIfInBounds_toArray, List.set_cons_zero, List.set_cons_succ]
                refine wpAnyH_take (i := 9) (oi := { dst := some 94, op := Op.binOp BinOp.neq 4 (Operand.tmp 89) (Operand.tmp 93) 4, type := 4, pos := "law.go:83", after := #[{ on := 4, ground := Ground.data }, { on := 8, ground := Ground.data }, { on := 2, ground := Ground.guard }], guard := some (2, false) }) (v := ?vqtt4r22o9) rfl (by kernel_rfl) (by kernel_rfl) (by kernel_rfl) (fun _ _ _ h => h) (Or.inl ⟨by rfl, ?hqtt4r22o9⟩) hS ?_
                case hqtt4r22o9 => (intro wx hx; skip; go_simp; (try with_reducible rfl))
                try simp only [Act.put, List.setIfInBounds_toArray, List.set_cons_zero, List.set_cons_succ]
                refine wpAnyH_take (i := 10) (oi := { dst := some 95, op := Op.pick (Operand.tmp 87) (Operand.const (Value.bool true)) (Operand.tmp 94), type := 4, pos := "law.go:83", after := #[{ on := 2, ground := Ground.data }, { on := 9, ground := Ground.data }], guard := none }) (v := ?vqtt4r22o10) rfl (by kernel_rfl) (by kernel_rfl) (by kernel_rfl) (fun _ _ _ h => h) (Or.inl ⟨by rfl, ?hqtt4r22o10⟩) hS ?_
                case hqtt4r22o10 => (intro wx hx; skip; go_simp; (try with_reducible rfl))
                try simp only [Act.put, List.setIfInBounds_toArray, List.set_cons_zero, List.set_cons_succ]
                refine wpAnyH_take (i := 11) (oi := { dst := some 96, op := Op.move (Operand.tmp 95), type := 4, pos := "law.go:83", after := #[{ on := 10, ground := Ground.data }, { on := 4, ground := Ground.chain }], guard := none }) (v := ?vqtt4r22o11) rfl (by kernel_rfl) (by kernel_rfl) (by kernel_rfl) (fun _ _ _ h => h) (Or.inl ⟨by rfl, ?hqtt4r22o11⟩) hS ?_
                case hqtt4r22o11 => (intro wx hx; skip; go_simp; (try with_reducible rfl))
                try simp only [Act.put, List.setIfInBounds_toArray, List.set_cons_zero, List.set_cons_succ]
                refine wpAnyH_take (i := 12) (oi := { dst := some 97, op := Op.move (Operand.tmp 6), type := 35, pos := "law.go:83", after := #[{ on := 11, ground := Ground.guard }], guard := some (11, false) }) (v := ?vqtt4r22o12) rfl (by kernel_rfl) (by kernel_rfl) (by kernel_rfl) (fun _ _ _ h => h) (Or.inl ⟨by rfl, ?hqtt4r22o12⟩) hS ?_
                case hqtt4r22o12 => (intro wx hx; skip; go_simp; (try with_reducible rfl))
                try simp only [Act.put, List.setIfInBounds_toArray, List.set_cons_zero, List.set_cons_succ]
                refine wpAnyH_take (i := 14) (oi := { dst := some 99, op := Op.move (Operand.tmp 7), type := 37, pos := "law.go:83", after := #[{ on := 11, ground := Ground.guard }], guard := some (11, false) }) (v := ?vqtt4r22o14) rfl (by kernel_rfl) (by kernel_rfl) (by kernel_rfl) (fun _ _ _ h => h) (Or.inl ⟨by rfl, ?hqtt4r22o14⟩) hS ?_
                case hqtt4r22o14 => (intro wx hx; skip; go_simp; (try with_reducible rfl))
                try simp only [Act.put, List.setIfInBounds_toArray, List.set_cons_zero, List.set_cons_succ]
                refine wpAnyH_take (i := 15) (oi := { dst := some 100, op := Op.nilCheck (Operand.tmp 99), type := 0, pos := "law.go:83", after := #[{ on := 14, ground := Ground.data }, { on := 11, ground := Ground.guard }], guard := some (11, false) }) (v := ?vqtt4r22o15) rfl (by kernel_rfl) (by kernel_rfl) (by kernel_rfl) (fun _ _ _ h => h) (Or.inl ⟨by rfl, ?hqtt4r22o15⟩) hS ?_
                case hqtt4r22o15 => (intro wx hx; skip; go_simp; (try with_reducible rfl))
                try simp only [Act.put, List.setIfInBounds_toArray, List.set_cons_zero, List.set_cons_succ]
                refine wpAnyH_take (i := 16) (oi := { dst := some 101, op := Op.fieldAddr 39 (Operand.tmp 100) 1, type := 0, pos := "law.go:83", after := #[{ on := 15, ground := Ground.data }, { on := 11, ground := Ground.guard }], guard := some (11, false) }) (v := ?vqtt4r22o16) rfl (by kernel_rfl) (by kernel_rfl) (by kernel_rfl) (fun _ _ _ h => h) (Or.inl ⟨by rfl, ?hqtt4r22o16⟩) hS ?_
                case hqtt4r22o16 => (intro wx hx; skip; go_simp; (try with_reducible rfl))
                try simp only [Act.put, List.setIfInBounds_toArray, List.set_cons_zero, List.set_cons_succ]
                refine wpAnyH_take (i := 17) (oi := { dst := some 102, op := Op.load 4 (Operand.tmp 101), type := 4, pos := "law.go:83", after := #[{ on := 16, ground := Ground.data }, { on := 11, ground := Ground.guard }], guard := some (11, false) }) (v := ?vqtt4r22o17) rfl (by kernel_rfl) (by kernel_rfl) (by kernel_rfl) (fun _ _ _ h => h) (Or.inl ⟨by rfl, ?hqtt4r22o17⟩) hS ?_
                case hqtt4r22o17 => (intro wx hx; obtain ⟨f0, f1, _, _⟩ := RTC.facts hx; go_simp; (try with_reducible rfl))
                try simp only [Act.put, List.setIfInBounds_toArray, List.set_cons_zero, List.set_cons_succ]
                refine wpAnyH_take (i := 18) (oi := { dst := some 103, op := Op.unOp UnOp.not 4 (Operand.tmp 102), type := 4, pos := "law.go:83", after := #[{ on := 17, ground := Ground.data }, { on := 11, ground := Ground.guard }], guard := some (11, false) }) (v := ?vqtt4r22o18) rfl (by kernel_rfl) (by kernel_rfl) (by kernel_rfl) (fun _ _ _ h => h) (Or.inl ⟨by rfl, ?hqtt4r22o18⟩) hS ?_
                case hqtt4r22o18 => (intro wx hx; skip; go_simp; (try with_reducible rfl))
                try simp only [Act.put, List.setIfInBounds_toArray, List.set_cons_zero, List.set_cons_succ]
                refine wpAnyH_ready (rs := [13]) (by kernel_rfl) (by simp) ?_
                refine AllReadyH.cons (o := { dst := some 98, op := Op.call { callee := Callee.value (Operand.func 28), args := #[Operand.tmp 97], argTypes := #[35] }, type := 4, pos := "law.go:83", after := #[{ on := 12, ground := Ground.data }, { on := 11, ground := Ground.chain }, { on := 11, ground := Ground.guard }], guard := some (11, false) }) rfl (fun K hK => ?_) AllReadyH.nil
                go_simp
                refine (End_any B g d bs a' true _ hTA).mono ?_
                rintro e wB ⟨rfl, hTB, hgB⟩
                have hgwB := grown_new hgwA hgB (by intro k e; cases e; exact hBg)
                have hRB := hRA.keep hgB hne (by intro k e; cases e; exact hBg)
                refine hK.out _ _ ?hsqtt4r22o13 (fun hS => ?_)
                case hsqtt4r22o13 => (assumption)
                clear hK K
                try simp only [Act.put, List.setIfInBounds_toArray, List.set_cons_zero, List.set_cons_succ]
                refine wpAnyH_take (i := 19) (oi := { dst := some 104, op := Op.move (Operand.tmp 103), type := 4, pos := "law.go:83", after := #[{ on := 18, ground := Ground.data }, { on := 13, ground := Ground.chain }, { on := 11, ground := Ground.guard }], guard := some (11, false) }) (v := ?vqtt4r22o19) rfl (by kernel_rfl) (by kernel_rfl) (by kernel_rfl) (fun _ _ _ h => h) (Or.inl ⟨by rfl, ?hqtt4r22o19⟩) hS ?_
                case hqtt4r22o19 => (intro wx hx; skip; go_simp; (try with_reducible rfl))
                try simp only [Act.put, List.setIfInBounds_toArray, List.set_cons_zero, List.set_cons_succ]
                refine wpAnyH_take (i := 20) (oi := { dst := some 105, op := Op.move (Operand.tmp 7), type := 37, pos := "law.go:83", after := #[{ on := 19, ground := Ground.guard }], guard := some (19, true) }) (v := undef) rfl (by kernel_rfl) (by kernel_rfl) (by kernel_rfl) (fun _ _ _ h => h) (Or.inr ⟨by rfl, rfl⟩) hS ?_
                try simp only [Act.put, List.setIfInBounds_toArray, List.set_cons_zero, List.set_cons_succ]
                refine wpAnyH_take (i := 21) (oi := { dst := some 106, op := Op.nilCheck (Operand.tmp 105), type := 0, pos := "law.go:83", after := #[{ on := 20, ground := Ground.data }, { on := 19, ground := Ground.guard }], guard := some (19, true) }) (v := undef) rfl (by kernel_rfl) (by kernel_rfl) (by kernel_rfl) (fun _ _ _ h => h) (Or.inr ⟨by rfl, rfl⟩) hS ?_
                try simp only [Act.put, List.setIfInBounds_toArray, List.set_cons_zero, List.set_cons_succ]
                refine wpAnyH_take (i := 22) (oi := { dst := some 107, op := Op.fieldAddr 39 (Operand.tmp 106) 0, type := 0, pos := "law.go:83", after := #[{ on := 21, ground := Ground.data }, { on := 19, ground := Ground.guard }], guard := some (19, true) }) (v := undef) rfl (by kernel_rfl) (by kernel_rfl) (by kernel_rfl) (fun _ _ _ h => h) (Or.inr ⟨by rfl, rfl⟩) hS ?_
                try simp only [Act.put, List.setIfInBounds_toArray, List.set_cons_zero, List.set_cons_succ]
                refine wpAnyH_take (i := 23) (oi := { dst := some 108, op := Op.load 22 (Operand.tmp 107), type := 22, pos := "law.go:83", after := #[{ on := 22, ground := Ground.data }, { on := 19, ground := Ground.guard }], guard := some (19, true) }) (v := undef) rfl (by kernel_rfl) (by kernel_rfl) (by kernel_rfl) (fun _ _ _ h => h) (Or.inr ⟨by rfl, rfl⟩) hS ?_
                try simp only [Act.put, List.setIfInBounds_toArray, List.set_cons_zero, List.set_cons_succ]
                refine wpAnyH_take (i := 24) (oi := { dst := some 109, op := Op.call { callee := Callee.builtin Builtin.len, args := #[Operand.tmp 108], argTypes := #[22] }, type := 3, pos := "law.go:83", after := #[{ on := 23, ground := Ground.data }, { on := 19, ground := Ground.guard }], guard := some (19, true) }) (v := undef) rfl (by kernel_rfl) (by kernel_rfl) (by kernel_rfl) (fun _ _ _ h => h) (Or.inr ⟨by rfl, rfl⟩) hS ?_
                try simp only [Act.put, List.setIfInBounds_toArray, List.set_cons_zero, List.set_cons_succ]
                refine wpAnyH_take (i := 25) (oi := { dst := some 110, op := Op.binOp BinOp.eql 3 (Operand.tmp 109) (Operand.const (Value.int IntKind.i64 0)) 3, type := 4, pos := "law.go:83", after := #[{ on := 24, ground := Ground.data }, { on := 19, ground := Ground.guard }], guard := some (19, true) }) (v := undef) rfl (by kernel_rfl) (by kernel_rfl) (by kernel_rfl) (fun _ _ _ h => h) (Or.inr ⟨by rfl, rfl⟩) hS ?_
                try simp only [Act.put, List.setIfInBounds_toArray, List.set_cons_zero, List.set_cons_succ]
                refine wpAnyH_take (i := 26) (oi := { dst := some 111, op := Op.pick (Operand.tmp 104) (Operand.tmp 110) (Operand.const (Value.bool false)), type := 4, pos := "law.go:83", after := #[{ on := 19, ground := Ground.data }, { on := 25, ground := Ground.data }, { on := 11, ground := Ground.guard }], guard := some (11, false) }) (v := ?vqtt4r22o26) rfl (by kernel_rfl) (by kernel_rfl) (by kernel_rfl) (fun _ _ _ h => h) (Or.inl ⟨by rfl, ?hqtt4r22o26⟩) hS ?_
                case hqtt4r22o26 => (intro wx hx; skip; go_simp; (try with_reducible rfl))
                try simp only [Act.put, List.setIfInBounds_toArray, List.set_cons_zero, List.set_cons_succ]
                refine wpAnyH_take (i := 27) (oi := { dst := some 112, op := Op.binOp BinOp.neq 4 (Operand.tmp 98) (Operand.tmp 111) 4, type := 4, pos := "law.go:83", after := #[{ on := 13, ground := Ground.data }, { on := 26, ground := Ground.data }, { on := 11, ground := Ground.guard }], guard := some (11, false) }) (v := ?vqtt4r22o27) rfl (by kernel_rfl) (by kernel_rfl) (by kernel_rfl) (fun _ _ _ h => h) (Or.inl ⟨by rfl, ?hqtt4r22o27⟩) hS ?_
                case hqtt4r22o27 => (intro wx hx; skip; go_simp; (try with_reducible rfl))
                try simp only [Act.put, List.setIfInBounds_toArray, List.set_cons_zero, List.set_cons_succ]
                refine wpAnyH_take (i := 28) (oi := { dst := some 113, op := Op.pick (Operand.tmp 96) (Operand.const (Value.bool true)) (Operand.tmp 112), type := 4, pos := "law.go:83", after := #[{ on := 11, ground := Ground.data }, { on := 27, ground := Ground.data }], guard := none }) (v := ?vqtt4r22o28) rfl (by kernel_rfl) (by kernel_rfl) (by kernel_rfl) (fun _ _ _ h => h) (Or.inl ⟨by rfl, ?hqtt4r22o28⟩) hS ?_
                case hqtt4r22o28 => (intro wx hx; skip; go_simp; (try with_reducible rfl))
                try simp only [Act.put, List.setIfInBounds_toArray, List.set_cons_zero, List.set_cons_succ]
                refine wpAnyH_done (by kernel_rfl) ?_ _
                go_wp2
                go_roundw
                case rel => exact ⟨k + 1, a', true, by omega, by go_num, hTB, ⟨rad, rl, rc, by rw [← hRest.out] ; exact hRB⟩, hgwB⟩
                case measure => simp [intOf]; omega
              | false =>
                by_cases hend : a' = bs.length
                · have hd1 : decide (a' = bs.length) = true := by simpa using hend
                  have hd2 : ((rl : Int) == 0) = true := by simp; omega
                  clear hrl hend
                  refine wp_region_held_drew (S := fun w' => RTC w' w.heap.size gr rest false rad rl rc) (by kernel_rfl) (hRd) (fun hS => ?_)
                  refine wpAnyH_take (i := 0) (oi := { dst := some 85, op := Op.move (Operand.tmp 10), type := 4, pos := "law.go:83", after := #[], guard := none }) (v := ?vqte4r22o0) rfl (by kernel_rfl) (by kernel_rfl) (by kernel_rfl) (fun _ _ _ h => h) (Or.inl ⟨by rfl, ?hqte4r22o0⟩) hS ?_
                  case hqte4r22o0 => (intro wx hx; skip; go_simp; (try with_reducible rfl))
                  try simp only [Act.put, List.setIfInBounds_toArray, List.set_cons_zero, List.set_cons_succ]
                  refine wpAnyH_take (i := 1) (oi := { dst := some 86, op := Op.unOp UnOp.not 4 (Operand.tmp 85), type := 4, pos := "law.go:83", after := #[{ on := 0, ground := Ground.data }], guard := none }) (v := ?vqte4r22o1) rfl (by kernel_rfl) (by kernel_rfl) (by kernel_rfl) (fun _ _ _ h => h) (Or.inl ⟨by rfl, ?hqte4r22o1⟩) hS ?_
                  case hqte4r22o1 => (intro wx hx; skip; go_simp; (try with_reducible rfl))
                  try simp only [Act.put, List.setIfInBounds_toArray, List.set_cons_zero, List.set_cons_succ]
                  refine wpAnyH_take (i := 2) (oi := { dst := some 87, op := Op.move (Operand.tmp 86), type := 4, pos := "law.go:83", after := #[{ on := 1, ground := Ground.data }], guard := none }) (v := ?vqte4r22o2) rfl (by kernel_rfl) (by kernel_rfl) (by kernel_rfl) (fun _ _ _ h => h) (Or.inl ⟨by rfl, ?hqte4r22o2⟩) hS ?_
                  case hqte4r22o2 => (intro wx hx; skip; go_simp; (try with_reducible rfl))
                  try simp only [Act.put, List.setIfInBounds_toArray, List.set_cons_zero, List.set_cons_succ]
                  refine wpAnyH_take (i := 3) (oi := { dst := some 88, op := Op.move (Operand.tmp 6), type := 35, pos := "law.go:83", after := #[{ on := 2, ground := Ground.guard }], guard := some (2, false) }) (v := ?vqte4r22o3) rfl (by kernel_rfl) (by kernel_rfl) (by kernel_rfl) (fun _ _ _ h => h) (Or.inl ⟨by rfl, ?hqte4r22o3⟩) hS ?_
                  case hqte4r22o3 => (intro wx hx; skip; go_simp; (try with_reducible rfl))
                  try simp only [Act.put, List.setIfInBounds_toArray, List.set_cons_zero, List.set_cons_succ]
                  refine wpAnyH_take (i := 5) (oi := { dst := some 90, op := Op.move (Operand.tmp 7), type := 37, pos := "law.go:83", after := #[{ on := 2, ground := Ground.guard }], guard := some (2, false) }) (v := ?vqte4r22o5) rfl (by kernel_rfl) (by kernel_rfl) (by kernel_rfl) (fun _ _ _ h => h) (Or.inl ⟨by rfl, ?hqte4r22o5⟩) hS ?_
                  case hqte4r22o5 => (intro wx hx; skip; go_simp; (try with_reducible rfl))
                  try simp only [Act.put, List.setIfInBounds_toArray, List.set_cons_zero, List.set_cons_succ]
                  refine wpAnyH_take (i := 6) (oi := { dst := some 91, op := Op.nilCheck (Operand.tmp 90), type := 0, pos := "law.go:83", after := #[{ on := 5, ground := Ground.data }, { on := 2, ground := Ground.guard }], guard := some (2, false) }) (v := ?vqte4r22o6) rfl (by kernel_rfl) (by kernel_rfl) (by kernel_rfl) (fun _ _ _ h => h) (Or.inl ⟨by rfl, ?hqte4r22o6⟩) hS ?_
                  case hqte4r22o6 => (intro wx hx; skip; go_simp; (try with_reducible rfl))
                  try simp only [Act.put, List.setIfInBounds_toArray, List.set_cons_zero, List.set_cons_succ]
                  refine wpAnyH_take (i := 7) (oi := { dst := some 92, op := Op.fieldAddr 39 (Operand.tmp 91) 1, type := 0, pos := "law.go:83", after := #[{ on := 6, ground := Ground.data }, { on := 2, ground := Ground.guard }], guard := some (2, false) }) (v := ?vqte4r22o7) rfl (by kernel_rfl) (by kernel_rfl) (by kernel_rfl) (fun _ _ _ h => h) (Or.inl ⟨by rfl, ?hqte4r22o7⟩) hS ?_
                  case hqte4r22o7 => (intro wx hx; skip; go_simp; (try with_reducible rfl))
                  try simp only [Act.put, List.setIfInBounds_toArray, List.set_cons_zero, List.set_cons_succ]
                  refine wpAnyH_take (i := 8) (oi := { dst := some 93, op := Op.load 4 (Operand.tmp 92), type := 4, pos := "law.go:83", after := #[{ on := 7, ground := Ground.data }, { on := 2, ground := Ground.guard }], guard := some (2, false) }) (v := ?vqte4r22o8) rfl (by kernel_rfl) (by kernel_rfl) (by kernel_rfl) (fun _ _ _ h => h) (Or.inl ⟨by rfl, ?hqte4r22o8⟩) hS ?_
                  case hqte4r22o8 => (intro wx hx; obtain ⟨f0, f1, _, _⟩ := RTC.facts hx; go_simp; (try with_reducible rfl))
                  try simp only [Act.put, List.setIfInBounds_toArray, List.set_cons_zero, List.set_cons_succ]
                  refine wpAnyH_ready (rs := [4]) (by kernel_rfl) (by simp) ?_
                  refine AllReadyH.cons (o := { dst := some 89, op := Op.call { callee := Callee.value (Operand.func 27), args := #[Operand.tmp 88], argTypes := #[35] }, type := 4, pos := "law.go:83", after := #[{ on := 3, ground := Ground.data }, { on := 2, ground := Ground.chain }, { on := 2, ground := Ground.guard }], guard := some (2, false) }) rfl (fun K hK => ?_) AllReadyH.nil
                  go_simp
                  refine (Torn_any B g d bs a' false _ hTd).mono ?_
                  rintro e wA ⟨rfl, hTA, hgA⟩
                  have hgwA := grown_new hgd hgA (by intro k e; cases e; exact hBg)
                  have hRA := hRd.keep hgA hne (by intro k e; cases e; exact hBg)
                  refine hK.out _ _ ?hsqte4r22o4 (fun hS => ?_)
                  case hsqte4r22o4 => (assumption)
                  clear hK K
                  try simp only [Act.put, List.setIfInBounds_toArray, List.set_cons_zero, List.set_cons_succ]
                  refine wpAnyH_take (i := 9) (oi := { dst := some 94, op := Op.binOp BinOp.neq 4 (Operand.tmp 89) (Operand.tmp 93) 4, type := 4, pos := "law.go:83", after := #[{ on := 4, ground := Ground.data }, { on := 8, ground := Ground.data }, { on := 2, ground := Ground.guard }], guard := some (2, false) }) (v := ?vqte4r22o9) rfl (by kernel_rfl) (by kernel_rfl) (by kernel_rfl) (fun _ _ _ h => h) (Or.inl ⟨by rfl, ?hqte4r22o9⟩) hS ?_
                  case hqte4r22o9 => (intro wx hx; skip; go_simp; (try with_reducible rfl))
                  try simp only [Act.put, List.setIfInBounds_toArray, List.set_cons_zero, List.set_cons_succ]
                  refine wpAnyH_take (i := 10) (oi := { dst := some 95, op := Op.pick (Operand.tmp 87) (Operand.const (Value.bool true)) (Operand.tmp 94), type := 4, pos := "law.go:83", after := #[{ on := 2, ground := Ground.data }, { on := 9, ground := Ground.data }], guard := none }) (v := ?vqte4r22o10) rfl (by kernel_rfl) (by kernel_rfl) (by kernel_rfl) (fun _ _ _ h => h) (Or.inl ⟨by rfl, ?hqte4r22o10⟩) hS ?_
                  case hqte4r22o10 => (intro wx hx; skip; go_simp; (try with_reducible rfl))
                  try simp only [Act.put, List.setIfInBounds_toArray, List.set_cons_zero, List.set_cons_succ]
                  refine wpAnyH_take (i := 11) (oi := { dst := some 96, op := Op.move (Operand.tmp 95), type := 4, pos := "law.go:83", after := #[{ on := 10, ground := Ground.data }, { on := 4, ground := Ground.chain }], guard := none }) (v := ?vqte4r22o11) rfl (by kernel_rfl) (by kernel_rfl) (by kernel_rfl) (fun _ _ _ h => h) (Or.inl ⟨by rfl, ?hqte4r22o11⟩) hS ?_
                  case hqte4r22o11 => (intro wx hx; skip; go_simp; (try with_reducible rfl))
                  try simp only [Act.put, List.setIfInBounds_toArray, List.set_cons_zero, List.set_cons_succ]
                  refine wpAnyH_take (i := 12) (oi := { dst := some 97, op := Op.move (Operand.tmp 6), type := 35, pos := "law.go:83", after := #[{ on := 11, ground := Ground.guard }], guard := some (11, false) }) (v := ?vqte4r22o12) rfl (by kernel_rfl) (by kernel_rfl) (by kernel_rfl) (fun _ _ _ h => h) (Or.inl ⟨by rfl, ?hqte4r22o12⟩) hS ?_
                  case hqte4r22o12 => (intro wx hx; skip; go_simp; (try with_reducible rfl))
                  try simp only [Act.put, List.setIfInBounds_toArray, List.set_cons_zero, List.set_cons_succ]
                  refine wpAnyH_take (i := 14) (oi := { dst := some 99, op := Op.move (Operand.tmp 7), type := 37, pos := "law.go:83", after := #[{ on := 11, ground := Ground.guard }], guard := some (11, false) }) (v := ?vqte4r22o14) rfl (by kernel_rfl) (by kernel_rfl) (by kernel_rfl) (fun _ _ _ h => h) (Or.inl ⟨by rfl, ?hqte4r22o14⟩) hS ?_
                  case hqte4r22o14 => (intro wx hx; skip; go_simp; (try with_reducible rfl))
                  try simp only [Act.put, List.setIfInBounds_toArray, List.set_cons_zero, List.set_cons_succ]
                  refine wpAnyH_take (i := 15) (oi := { dst := some 100, op := Op.nilCheck (Operand.tmp 99), type := 0, pos := "law.go:83", after := #[{ on := 14, ground := Ground.data }, { on := 11, ground := Ground.guard }], guard := some (11, false) }) (v := ?vqte4r22o15) rfl (by kernel_rfl) (by kernel_rfl) (by kernel_rfl) (fun _ _ _ h => h) (Or.inl ⟨by rfl, ?hqte4r22o15⟩) hS ?_
                  case hqte4r22o15 => (intro wx hx; skip; go_simp; (try with_reducible rfl))
                  try simp only [Act.put, List.setIfInBounds_toArray, List.set_cons_zero, List.set_cons_succ]
                  refine wpAnyH_take (i := 16) (oi := { dst := some 101, op := Op.fieldAddr 39 (Operand.tmp 100) 1, type := 0, pos := "law.go:83", after := #[{ on := 15, ground := Ground.data }, { on := 11, ground := Ground.guard }], guard := some (11, false) }) (v := ?vqte4r22o16) rfl (by kernel_rfl) (by kernel_rfl) (by kernel_rfl) (fun _ _ _ h => h) (Or.inl ⟨by rfl, ?hqte4r22o16⟩) hS ?_
                  case hqte4r22o16 => (intro wx hx; skip; go_simp; (try with_reducible rfl))
                  try simp only [Act.put, List.setIfInBounds_toArray, List.set_cons_zero, List.set_cons_succ]
                  refine wpAnyH_take (i := 17) (oi := { dst := some 102, op := Op.load 4 (Operand.tmp 101), type := 4, pos := "law.go:83", after := #[{ on := 16, ground := Ground.data }, { on := 11, ground := Ground.guard }], guard := some (11, false) }) (v := ?vqte4r22o17) rfl (by kernel_rfl) (by kernel_rfl) (by kernel_rfl) (fun _ _ _ h => h) (Or.inl ⟨by rfl, ?hqte4r22o17⟩) hS ?_
                  case hqte4r22o17 => (intro wx hx; obtain ⟨f0, f1, _, _⟩ := RTC.facts hx; go_simp; (try with_reducible rfl))
                  try simp only [Act.put, List.setIfInBounds_toArray, List.set_cons_zero, List.set_cons_succ]
                  refine wpAnyH_take (i := 18) (oi := { dst := some 103, op := Op.unOp UnOp.not 4 (Operand.tmp 102), type := 4, pos := "law.go:83", after := #[{ on := 17, ground := Ground.data }, { on := 11, ground := Ground.guard }], guard := some (11, false) }) (v := ?vqte4r22o18) rfl (by kernel_rfl) (by kernel_rfl) (by kernel_rfl) (fun _ _ _ h => h) (Or.inl ⟨by rfl, ?hqte4r22o18⟩) hS ?_
                  case hqte4r22o18 => (intro wx hx; skip; go_simp; (try with_reducible rfl))
                  try simp only [Act.put, List.setIfInBounds_toArray, List.set_cons_zero, List.set_cons_succ]
                  refine wpAnyH_ready (rs := [13]) (by kernel_rfl) (by simp) ?_
                  refine AllReadyH.cons (o := { dst := some 98, op := Op.call { callee := Callee.value (Operand.func 28), args := #[Operand.tmp 97], argTypes := #[35] }, type := 4, pos := "law.go:83", after := #[{ on := 12, ground := Ground.data }, { on := 11, ground := Ground.chain }, { on := 11, ground := Ground.guard }], guard := some (11, false) }) rfl (fun K hK => ?_) AllReadyH.nil
                  go_simp
                  refine (End_any B g d bs a' false _ hTA).mono ?_
                  rintro e wB ⟨rfl, hTB, hgB⟩
                  have hgwB := grown_new hgwA hgB (by intro k e; cases e; exact hBg)
                  have hRB := hRA.keep hgB hne (by intro k e; cases e; exact hBg)
                  refine hK.out _ _ ?hsqte4r22o13 (fun hS => ?_)
                  case hsqte4r22o13 => (assumption)
                  clear hK K
                  try simp only [Act.put, List.setIfInBounds_toArray, List.set_cons_zero, List.set_cons_succ]
                  refine wpAnyH_take (i := 19) (oi := { dst := some 104, op := Op.move (Operand.tmp 103), type := 4, pos := "law.go:83", after := #[{ on := 18, ground := Ground.data }, { on := 13, ground := Ground.chain }, { on := 11, ground := Ground.guard }], guard := some (11, false) }) (v := ?vqte4r22o19) rfl (by kernel_rfl) (by kernel_rfl) (by kernel_rfl) (fun _ _ _ h => h) (Or.inl ⟨by rfl, ?hqte4r22o19⟩) hS ?_
                  case hqte4r22o19 => (intro wx hx; skip; go_simp; (try with_reducible rfl))
                  try simp only [Act.put, List.setIfInBounds_toArray, List.set_cons_zero, List.set_cons_succ]
                  refine wpAnyH_take (i := 20) (oi := { dst := some 105, op := Op.move (Operand.tmp 7), type := 37, pos := "law.go:83", after := #[{ on := 19, ground := Ground.guard }], guard := some (19, true) }) (v := ?vqte4r22o20) rfl (by kernel_rfl) (by kernel_rfl) (by kernel_rfl) (fun _ _ _ h => h) (Or.inl ⟨by rfl, ?hqte4r22o20⟩) hS ?_
                  case hqte4r22o20 => (intro wx hx; skip; go_simp; (try with_reducible rfl))
                  try simp only [Act.put, List.setIfInBounds_toArray, List.set_cons_zero, List.set_cons_succ]
                  refine wpAnyH_take (i := 21) (oi := { dst := some 106, op := Op.nilCheck (Operand.tmp 105), type := 0, pos := "law.go:83", after := #[{ on := 20, ground := Ground.data }, { on := 19, ground := Ground.guard }], guard := some (19, true) }) (v := ?vqte4r22o21) rfl (by kernel_rfl) (by kernel_rfl) (by kernel_rfl) (fun _ _ _ h => h) (Or.inl ⟨by rfl, ?hqte4r22o21⟩) hS ?_
                  case hqte4r22o21 => (intro wx hx; skip; go_simp; (try with_reducible rfl))
                  try simp only [Act.put, List.setIfInBounds_toArray, List.set_cons_zero, List.set_cons_succ]
                  refine wpAnyH_take (i := 22) (oi := { dst := some 107, op := Op.fieldAddr 39 (Operand.tmp 106) 0, type := 0, pos := "law.go:83", after := #[{ on := 21, ground := Ground.data }, { on := 19, ground := Ground.guard }], guard := some (19, true) }) (v := ?vqte4r22o22) rfl (by kernel_rfl) (by kernel_rfl) (by kernel_rfl) (fun _ _ _ h => h) (Or.inl ⟨by rfl, ?hqte4r22o22⟩) hS ?_
                  case hqte4r22o22 => (intro wx hx; skip; go_simp; (try with_reducible rfl))
                  try simp only [Act.put, List.setIfInBounds_toArray, List.set_cons_zero, List.set_cons_succ]
                  refine wpAnyH_take (i := 23) (oi := { dst := some 108, op := Op.load 22 (Operand.tmp 107), type := 22, pos := "law.go:83", after := #[{ on := 22, ground := Ground.data }, { on := 19, ground := Ground.guard }], guard := some (19, true) }) (v := ?vqte4r22o23) rfl (by kernel_rfl) (by kernel_rfl) (by kernel_rfl) (fun _ _ _ h => h) (Or.inl ⟨by rfl, ?hqte4r22o23⟩) hS ?_
                  case hqte4r22o23 => (intro wx hx; obtain ⟨f0, f1, _, _⟩ := RTC.facts hx; go_simp; (try with_reducible rfl))
                  try simp only [Act.put, List.setIfInBounds_toArray, List.set_cons_zero, List.set_cons_succ]
                  refine wpAnyH_take (i := 24) (oi := { dst := some 109, op := Op.call { callee := Callee.builtin Builtin.len, args := #[Operand.tmp 108], argTypes := #[22] }, type := 3, pos := "law.go:83", after := #[{ on := 23, ground := Ground.data }, { on := 19, ground := Ground.guard }], guard := some (19, true) }) (v := ?vqte4r22o24) rfl (by kernel_rfl) (by kernel_rfl) (by kernel_rfl) (fun _ _ _ h => h) (Or.inl ⟨by rfl, ?hqte4r22o24⟩) hS ?_
                  case hqte4r22o24 => (intro wx hx; skip; go_simp; (try with_reducible rfl))
                  try simp only [Act.put, List.setIfInBounds_toArray, List.set_cons_zero, List.set_cons_succ]
                  refine wpAnyH_take (i := 25) (oi := { dst := some 110, op := Op.binOp BinOp.eql 3 (Operand.tmp 109) (Operand.const (Value.int IntKind.i64 0)) 3, type := 4, pos := "law.go:83", after := #[{ on := 24, ground := Ground.data }, { on := 19, ground := Ground.guard }], guard := some (19, true) }) (v := ?vqte4r22o25) rfl (by kernel_rfl) (by kernel_rfl) (by kernel_rfl) (fun _ _ _ h => h) (Or.inl ⟨by rfl, ?hqte4r22o25⟩) hS ?_
                  case hqte4r22o25 => (intro wx hx; skip; go_simp; (try with_reducible rfl))
                  try simp only [Act.put, List.setIfInBounds_toArray, List.set_cons_zero, List.set_cons_succ]
                  refine wpAnyH_take (i := 26) (oi := { dst := some 111, op := Op.pick (Operand.tmp 104) (Operand.tmp 110) (Operand.const (Value.bool false)), type := 4, pos := "law.go:83", after := #[{ on := 19, ground := Ground.data }, { on := 25, ground := Ground.data }, { on := 11, ground := Ground.guard }], guard := some (11, false) }) (v := ?vqte4r22o26) rfl (by kernel_rfl) (by kernel_rfl) (by kernel_rfl) (fun _ _ _ h => h) (Or.inl ⟨by rfl, ?hqte4r22o26⟩) hS ?_
                  case hqte4r22o26 => (intro wx hx; skip; go_simp; (try with_reducible rfl))
                  try simp only [Act.put, List.setIfInBounds_toArray, List.set_cons_zero, List.set_cons_succ]
                  refine wpAnyH_take (i := 27) (oi := { dst := some 112, op := Op.binOp BinOp.neq 4 (Operand.tmp 98) (Operand.tmp 111) 4, type := 4, pos := "law.go:83", after := #[{ on := 13, ground := Ground.data }, { on := 26, ground := Ground.data }, { on := 11, ground := Ground.guard }], guard := some (11, false) }) (v := ?vqte4r22o27) rfl (by kernel_rfl) (by kernel_rfl) (by kernel_rfl) (fun _ _ _ h => h) (Or.inl ⟨by rfl, ?hqte4r22o27⟩) hS ?_
                  case hqte4r22o27 => (intro wx hx; skip; go_simp; (try with_reducible rfl))
                  try simp only [Act.put, List.setIfInBounds_toArray, List.set_cons_zero, List.set_cons_succ]
                  refine wpAnyH_take (i := 28) (oi := { dst := some 113, op := Op.pick (Operand.tmp 96) (Operand.const (Value.bool true)) (Operand.tmp 112), type := 4, pos := "law.go:83", after := #[{ on := 11, ground := Ground.data }, { on := 27, ground := Ground.data }], guard := none }) (v := ?vqte4r22o28) rfl (by kernel_rfl) (by kernel_rfl) (by kernel_rfl) (fun _ _ _ h => h) (Or.inl ⟨by rfl, ?hqte4r22o28⟩) hS ?_
                  case hqte4r22o28 => (intro wx hx; skip; go_simp; (try with_reducible rfl))
                  try simp only [Act.put, List.setIfInBounds_toArray, List.set_cons_zero, List.set_cons_succ]
                  refine wpAnyH_done (by kernel_rfl) ?_ _
                  go_wp2
                  go_roundw
                  case rel => exact ⟨k + 1, a', false, by omega, by go_num, hTB, ⟨rad, rl, rc, by rw [← hRest.out] ; exact hRB⟩, hgwB⟩
                  case measure => simp [intOf]; omega
                · have hd1 : decide (a' = bs.length) = false := by simpa using hend
                  have hd2 : ((rl : Int) == 0) = false := by simp; omega
                  clear hrl hend
                  refine wp_region_held_drew (S := fun w' => RTC w' w.heap.size gr rest false rad rl rc) (by kernel_rfl) (hRd) (fun hS => ?_)
                  refine wpAnyH_take (i := 0) (oi := { dst := some 85, op := Op.move (Operand.tmp 10), type := 4, pos := "law.go:83", after := #[], guard := none }) (v := ?vqtn4r22o0) rfl (by kernel_rfl) (by kernel_rfl) (by kernel_rfl) (fun _ _ _ h => h) (Or.inl ⟨by rfl, ?hqtn4r22o0⟩) hS ?_
                  case hqtn4r22o0 => (intro wx hx; skip; go_simp; (try with_reducible rfl))
                  try simp only [Act.put, List.setIfInBounds_toArray, List.set_cons_zero, List.set_cons_succ]
                  refine wpAnyH_take (i := 1) (oi := { dst := some 86, op := Op.unOp UnOp.not 4 (Operand.tmp 85), type := 4, pos := "law.go:83", after := #[{ on := 0, ground := Ground.data }], guard := none }) (v := ?vqtn4r22o1) rfl (by kernel_rfl) (by kernel_rfl) (by kernel_rfl) (fun _ _ _ h => h) (Or.inl ⟨by rfl, ?hqtn4r22o1⟩) hS ?_
                  case hqtn4r22o1 => (intro wx hx; skip; go_simp; (try with_reducible rfl))
                  try simp only [Act.put, List.setIfInBounds_toArray, List.set_cons_zero, List.set_cons_succ]
                  refine wpAnyH_take (i := 2) (oi := { dst := some 87, op := Op.move (Operand.tmp 86), type := 4, pos := "law.go:83", after := #[{ on := 1, ground := Ground.data }], guard := none }) (v := ?vqtn4r22o2) rfl (by kernel_rfl) (by kernel_rfl) (by kernel_rfl) (fun _ _ _ h => h) (Or.inl ⟨by rfl, ?hqtn4r22o2⟩) hS ?_
                  case hqtn4r22o2 => (intro wx hx; skip; go_simp; (try with_reducible rfl))
                  try simp only [Act.put, List.setIfInBounds_toArray, List.set_cons_zero, List.set_cons_succ]
                  refine wpAnyH_take (i := 3) (oi := { dst := some 88, op := Op.move (Operand.tmp 6), type := 35, pos := "law.go:83", after := #[{ on := 2, ground := Ground.guard }], guard := some (2, false) }) (v := ?vqtn4r22o3) rfl (by kernel_rfl) (by kernel_rfl) (by kernel_rfl) (fun _ _ _ h => h) (Or.inl ⟨by rfl, ?hqtn4r22o3⟩) hS ?_
                  case hqtn4r22o3 => (intro wx hx; skip; go_simp; (try with_reducible rfl))
                  try simp only [Act.put, List.setIfInBounds_toArray, List.set_cons_zero, List.set_cons_succ]
                  refine wpAnyH_take (i := 5) (oi := { dst := some 90, op := Op.move (Operand.tmp 7), type := 37, pos := "law.go:83", after := #[{ on := 2, ground := Ground.guard }], guard := some (2, false) }) (v := ?vqtn4r22o5) rfl (by kernel_rfl) (by kernel_rfl) (by kernel_rfl) (fun _ _ _ h => h) (Or.inl ⟨by rfl, ?hqtn4r22o5⟩) hS ?_
                  case hqtn4r22o5 => (intro wx hx; skip; go_simp; (try with_reducible rfl))
                  try simp only [Act.put, List.setIfInBounds_toArray, List.set_cons_zero, List.set_cons_succ]
                  refine wpAnyH_take (i := 6) (oi := { dst := some 91, op := Op.nilCheck (Operand.tmp 90), type := 0, pos := "law.go:83", after := #[{ on := 5, ground := Ground.data }, { on := 2, ground := Ground.guard }], guard := some (2, false) }) (v := ?vqtn4r22o6) rfl (by kernel_rfl) (by kernel_rfl) (by kernel_rfl) (fun _ _ _ h => h) (Or.inl ⟨by rfl, ?hqtn4r22o6⟩) hS ?_
                  case hqtn4r22o6 => (intro wx hx; skip; go_simp; (try with_reducible rfl))
                  try simp only [Act.put, List.setIfInBounds_toArray, List.set_cons_zero, List.set_cons_succ]
                  refine wpAnyH_take (i := 7) (oi := { dst := some 92, op := Op.fieldAddr 39 (Operand.tmp 91) 1, type := 0, pos := "law.go:83", after := #[{ on := 6, ground := Ground.data }, { on := 2, ground := Ground.guard }], guard := some (2, false) }) (v := ?vqtn4r22o7) rfl (by kernel_rfl) (by kernel_rfl) (by kernel_rfl) (fun _ _ _ h => h) (Or.inl ⟨by rfl, ?hqtn4r22o7⟩) hS ?_
                  case hqtn4r22o7 => (intro wx hx; skip; go_simp; (try with_reducible rfl))
                  try simp only [Act.put, List.setIfInBounds_toArray, List.set_cons_zero, List.set_cons_succ]
                  refine wpAnyH_take (i := 8) (oi := { dst := some 93, op := Op.load 4 (Operand.tmp 92), type := 4, pos := "law.go:83", after := #[{ on := 7, ground := Ground.data }, { on := 2, ground := Ground.guard }], guard := some (2, false) }) (v := ?vqtn4r22o8) rfl (by kernel_rfl) (by kernel_rfl) (by kernel_rfl) (fun _ _ _ h => h) (Or.inl ⟨by rfl, ?hqtn4r22o8⟩) hS ?_
                  case hqtn4r22o8 => (intro wx hx; obtain ⟨f0, f1, _, _⟩ := RTC.facts hx; go_simp; (try with_reducible rfl))
                  try simp only [Act.put, List.setIfInBounds_toArray, List.set_cons_zero, List.set_cons_succ]
                  refine wpAnyH_ready (rs := [4]) (by kernel_rfl) (by simp) ?_
                  refine AllReadyH.cons (o := { dst := some 89, op := Op.call { callee := Callee.value (Operand.func 27), args := #[Operand.tmp 88], argTypes := #[35] }, type := 4, pos := "law.go:83", after := #[{ on := 3, ground := Ground.data }, { on := 2, ground := Ground.chain }, { on := 2, ground := Ground.guard }], guard := some (2, false) }) rfl (fun K hK => ?_) AllReadyH.nil
                  go_simp
                  refine (Torn_any B g d bs a' false _ hTd).mono ?_
                  rintro e wA ⟨rfl, hTA, hgA⟩
                  have hgwA := grown_new hgd hgA (by intro k e; cases e; exact hBg)
                  have hRA := hRd.keep hgA hne (by intro k e; cases e; exact hBg)
                  refine hK.out _ _ ?hsqtn4r22o4 (fun hS => ?_)
                  case hsqtn4r22o4 => (assumption)
                  clear hK K
                  try simp only [Act.put, List.setIfInBounds_toArray, List.set_cons_zero, List.set_cons_succ]
                  refine wpAnyH_take (i := 9) (oi := { dst := some 94, op := Op.binOp BinOp.neq 4 (Operand.tmp 89) (Operand.tmp 93) 4, type := 4, pos := "law.go:83", after := #[{ on := 4, ground := Ground.data }, { on := 8, ground := Ground.data }, { on := 2, ground := Ground.guard }], guard := some (2, false) }) (v := ?vqtn4r22o9) rfl (by kernel_rfl) (by kernel_rfl) (by kernel_rfl) (fun _ _ _ h => h) (Or.inl ⟨by rfl, ?hqtn4r22o9⟩) hS ?_
                  case hqtn4r22o9 => (intro wx hx; skip; go_simp; (try with_reducible rfl))
                  try simp only [Act.put, List.setIfInBounds_toArray, List.set_cons_zero, List.set_cons_succ]
                  refine wpAnyH_take (i := 10) (oi := { dst := some 95, op := Op.pick (Operand.tmp 87) (Operand.const (Value.bool true)) (Operand.tmp 94), type := 4, pos := "law.go:83", after := #[{ on := 2, ground := Ground.data }, { on := 9, ground := Ground.data }], guard := none }) (v := ?vqtn4r22o10) rfl (by kernel_rfl) (by kernel_rfl) (by kernel_rfl) (fun _ _ _ h => h) (Or.inl ⟨by rfl, ?hqtn4r22o10⟩) hS ?_
                  case hqtn4r22o10 => (intro wx hx; skip; go_simp; (try with_reducible rfl))
                  try simp only [Act.put, List.setIfInBounds_toArray, List.set_cons_zero, List.set_cons_succ]
                  refine wpAnyH_take (i := 11) (oi := { dst := some 96, op := Op.move (Operand.tmp 95), type := 4, pos := "law.go:83", after := #[{ on := 10, ground := Ground.data }, { on := 4, ground := Ground.chain }], guard := none }) (v := ?vqtn4r22o11) rfl (by kernel_rfl) (by kernel_rfl) (by kernel_rfl) (fun _ _ _ h => h) (Or.inl ⟨by rfl, ?hqtn4r22o11⟩) hS ?_
                  case hqtn4r22o11 => (intro wx hx; skip; go_simp; (try with_reducible rfl))
                  try simp only [Act.put, List.setIfInBounds_toArray, List.set_cons_zero, List.set_cons_succ]
                  refine wpAnyH_take (i := 12) (oi := { dst := some 97, op := Op.move (Operand.tmp 6), type := 35, pos := "law.go:83", after := #[{ on := 11, ground := Ground.guard }], guard := some (11, false) }) (v := ?vqtn4r22o12) rfl (by kernel_rfl) (by kernel_rfl) (by kernel_rfl) (fun _ _ _ h => h) (Or.inl ⟨by rfl, ?hqtn4r22o12⟩) hS ?_
                  case hqtn4r22o12 => (intro wx hx; skip; go_simp; (try with_reducible rfl))
                  try simp only [Act.put, List.setIfInBounds_toArray, List.set_cons_zero, List.set_cons_succ]
                  refine wpAnyH_take (i := 14) (oi := { dst := some 99, op := Op.move (Operand.tmp 7), type := 37, pos := "law.go:83", after := #[{ on := 11, ground := Ground.guard }], guard := some (11, false) }) (v := ?vqtn4r22o14) rfl (by kernel_rfl) (by kernel_rfl) (by kernel_rfl) (fun _ _ _ h => h) (Or.inl ⟨by rfl, ?hqtn4r22o14⟩) hS ?_
                  case hqtn4r22o14 => (intro wx hx; skip; go_simp; (try with_reducible rfl))
                  try simp only [Act.put, List.setIfInBounds_toArray, List.set_cons_zero, List.set_cons_succ]
                  refine wpAnyH_take (i := 15) (oi := { dst := some 100, op := Op.nilCheck (Operand.tmp 99), type := 0, pos := "law.go:83", after := #[{ on := 14, ground := Ground.data }, { on := 11, ground := Ground.guard }], guard := some (11, false) }) (v := ?vqtn4r22o15) rfl (by kernel_rfl) (by kernel_rfl) (by kernel_rfl) (fun _ _ _ h => h) (Or.inl ⟨by rfl, ?hqtn4r22o15⟩) hS ?_
                  case hqtn4r22o15 => (intro wx hx; skip; go_simp; (try with_reducible rfl))
                  try simp only [Act.put, List.setIfInBounds_toArray, List.set_cons_zero, List.set_cons_succ]
                  refine wpAnyH_take (i := 16) (oi := { dst := some 101, op := Op.fieldAddr 39 (Operand.tmp 100) 1, type := 0, pos := "law.go:83", after := #[{ on := 15, ground := Ground.data }, { on := 11, ground := Ground.guard }], guard := some (11, false) }) (v := ?vqtn4r22o16) rfl (by kernel_rfl) (by kernel_rfl) (by kernel_rfl) (fun _ _ _ h => h) (Or.inl ⟨by rfl, ?hqtn4r22o16⟩) hS ?_
                  case hqtn4r22o16 => (intro wx hx; skip; go_simp; (try with_reducible rfl))
                  try simp only [Act.put, List.setIfInBounds_toArray, List.set_cons_zero, List.set_cons_succ]
                  refine wpAnyH_take (i := 17) (oi := { dst := some 102, op := Op.load 4 (Operand.tmp 101), type := 4, pos := "law.go:83", after := #[{ on := 16, ground := Ground.data }, { on := 11, ground := Ground.guard }], guard := some (11, false) }) (v := ?vqtn4r22o17) rfl (by kernel_rfl) (by kernel_rfl) (by kernel_rfl) (fun _ _ _ h => h) (Or.inl ⟨by rfl, ?hqtn4r22o17⟩) hS ?_
                  case hqtn4r22o17 => (intro wx hx; obtain ⟨f0, f1, _, _⟩ := RTC.facts hx; go_simp; (try with_reducible rfl))
                  try simp only [Act.put, List.setIfInBounds_toArray, List.set_cons_zero, List.set_cons_succ]
                  refine wpAnyH_take (i := 18) (oi := { dst := some 103, op := Op.unOp UnOp.not 4 (Operand.tmp 102), type := 4, pos := "law.go:83", after := #[{ on := 17, ground := Ground.data }, { on := 11, ground := Ground.guard }], guard := some (11, false) }) (v := ?vqtn4r22o18) rfl (by kernel_rfl) (by kernel_rfl) (by kernel_rfl) (fun _ _ _ h => h) (Or.inl ⟨by rfl, ?hqtn4r22o18⟩) hS ?_
                  case hqtn4r22o18 => (intro wx hx; skip; go_simp; (try with_reducible rfl))
                  try simp only [Act.put, List.setIfInBounds_toArray, List.set_cons_zero, List.set_cons_succ]
                  refine wpAnyH_ready (rs := [13]) (by kernel_rfl) (by simp) ?_
                  refine AllReadyH.cons (o := { dst := some 98, op := Op.call { callee := Callee.value (Operand.func 28), args := #[Operand.tmp 97], argTypes := #[35] }, type := 4, pos := "law.go:83", after := #[{ on := 12, ground := Ground.data }, { on := 11, ground := Ground.chain }, { on := 11, ground := Ground.guard }], guard := some (11, false) }) rfl (fun K hK => ?_) AllReadyH.nil
                  go_simp
                  refine (End_any B g d bs a' false _ hTA).mono ?_
                  rintro e wB ⟨rfl, hTB, hgB⟩
                  have hgwB := grown_new hgwA hgB (by intro k e; cases e; exact hBg)
                  have hRB := hRA.keep hgB hne (by intro k e; cases e; exact hBg)
                  refine hK.out _ _ ?hsqtn4r22o13 (fun hS => ?_)
                  case hsqtn4r22o13 => (assumption)
                  clear hK K
                  try simp only [Act.put, List.setIfInBounds_toArray, List.set_cons_zero, List.set_cons_succ]
                  refine wpAnyH_take (i := 19) (oi := { dst := some 104, op := Op.move (Operand.tmp 103), type := 4, pos := "law.go:83", after := #[{ on := 18, ground := Ground.data }, { on := 13, ground := Ground.chain }, { on := 11, ground := Ground.guard }], guard := some (11, false) }) (v := ?vqtn4r22o19) rfl (by kernel_rfl) (by kernel_rfl) (by kernel_rfl) (fun _ _ _ h => h) (Or.inl ⟨by rfl, ?hqtn4r22o19⟩) hS ?_
                  case hqtn4r22o19 => (intro wx hx; skip; go_simp; (try with_reducible rfl))
                  try simp only [Act.put, List.setIfInBounds_toArray, List.set_cons_zero, List.set_cons_succ]
                  refine wpAnyH_take (i := 20) (oi := { dst := some 105, op := Op.move (Operand.tmp 7), type := 37, pos := "law.go:83", after := #[{ on := 19, ground := Ground.guard }], guard := some (19, true) }) (v := ?vqtn4r22o20) rfl (by kernel_rfl) (by kernel_rfl) (by kernel_rfl) (fun _ _ _ h => h) (Or.inl ⟨by rfl, ?hqtn4r22o20⟩) hS ?_
                  case hqtn4r22o20 => (intro wx hx; skip; go_simp; (try with_reducible rfl))
                  try simp only [Act.put, List.setIfInBounds_toArray, List.set_cons_zero, List.set_cons_succ]
                  refine wpAnyH_take (i := 21) (oi := { dst := some 106, op := Op.nilCheck (Operand.tmp 105), type := 0, pos := "law.go:83", after := #[{ on := 20, ground := Ground.data }, { on := 19, ground := Ground.guard }], guard := some (19, true) }) (v := ?vqtn4r22o21) rfl (by kernel_rfl) (by kernel_rfl) (by kernel_rfl) (fun _ _ _ h => h) (Or.inl ⟨by rfl, ?hqtn4r22o21⟩) hS ?_
                  case hqtn4r22o21 => (intro wx hx; skip; go_simp; (try with_reducible rfl))
                  try simp only [Act.put, List.setIfInBounds_toArray, List.set_cons_zero, List.set_cons_succ]
                  refine wpAnyH_take (i := 22) (oi := { dst := some 107, op := Op.fieldAddr 39 (Operand.tmp 106) 0, type := 0, pos := "law.go:83", after := #[{ on := 21, ground := Ground.data }, { on := 19, ground := Ground.guard }], guard := some (19, true) }) (v := ?vqtn4r22o22) rfl (by kernel_rfl) (by kernel_rfl) (by kernel_rfl) (fun _ _ _ h => h) (Or.inl ⟨by rfl, ?hqtn4r22o22⟩) hS ?_
                  case hqtn4r22o22 => (intro wx hx; skip; go_simp; (try with_reducible rfl))
                  try simp only [Act.put, List.setIfInBounds_toArray, List.set_cons_zero, List.set_cons_succ]
                  refine wpAnyH_take (i := 23) (oi := { dst := some 108, op := Op.load 22 (Operand.tmp 107), type := 22, pos := "law.go:83", after := #[{ on := 22, ground := Ground.data }, { on := 19, ground := Ground.guard }], guard := some (19, true) }) (v := ?vqtn4r22o23) rfl (by kernel_rfl) (by kernel_rfl) (by kernel_rfl) (fun _ _ _ h => h) (Or.inl ⟨by rfl, ?hqtn4r22o23⟩) hS ?_
                  case hqtn4r22o23 => (intro wx hx; obtain ⟨f0, f1, _, _⟩ := RTC.facts hx; go_simp; (try with_reducible rfl))
                  try simp only [Act.put, List.setIfInBounds_toArray, List.set_cons_zero, List.set_cons_succ]
                  refine wpAnyH_take (i := 24) (oi := { dst := some 109, op := Op.call { callee := Callee.builtin Builtin.len, args := #[Operand.tmp 108], argTypes := #[22] }, type := 3, pos := "law.go:83", after := #[{ on := 23, ground := Ground.data }, { on := 19, ground := Ground.guard }], guard := some (19, true) }) (v := ?vqtn4r22o24) rfl (by kernel_rfl) (by kernel_rfl) (by kernel_rfl) (fun _ _ _ h => h) (Or.inl ⟨by rfl, ?hqtn4r22o24⟩) hS ?_
                  case hqtn4r22o24 => (intro wx hx; skip; go_simp; (try with_reducible rfl))
                  try simp only [Act.put, List.setIfInBounds_toArray, List.set_cons_zero, List.set_cons_succ]
                  refine wpAnyH_take (i := 25) (oi := { dst := some 110, op := Op.binOp BinOp.eql 3 (Operand.tmp 109) (Operand.const (Value.int IntKind.i64 0)) 3, type := 4, pos := "law.go:83", after := #[{ on := 24, ground := Ground.data }, { on := 19, ground := Ground.guard }], guard := some (19, true) }) (v := ?vqtn4r22o25) rfl (by kernel_rfl) (by kernel_rfl) (by kernel_rfl) (fun _ _ _ h => h) (Or.inl ⟨by rfl, ?hqtn4r22o25⟩) hS ?_
                  case hqtn4r22o25 => (intro wx hx; skip; go_simp; (try with_reducible rfl))
                  try simp only [Act.put, List.setIfInBounds_toArray, List.set_cons_zero, List.set_cons_succ]
                  refine wpAnyH_take (i := 26) (oi := { dst := some 111, op := Op.pick (Operand.tmp 104) (Operand.tmp 110) (Operand.const (Value.bool false)), type := 4, pos := "law.go:83", after := #[{ on := 19, ground := Ground.data }, { on := 25, ground := Ground.data }, { on := 11, ground := Ground.guard }], guard := some (11, false) }) (v := ?vqtn4r22o26) rfl (by kernel_rfl) (by kernel_rfl) (by kernel_rfl) (fun _ _ _ h => h) (Or.inl ⟨by rfl, ?hqtn4r22o26⟩) hS ?_
                  case hqtn4r22o26 => (intro wx hx; skip; go_simp; (try with_reducible rfl))
                  try simp only [Act.put, List.setIfInBounds_toArray, List.set_cons_zero, List.set_cons_succ]
                  refine wpAnyH_take (i := 27) (oi := { dst := some 112, op := Op.binOp BinOp.neq 4 (Operand.tmp 98) (Operand.tmp 111) 4, type := 4, pos := "law.go:83", after := #[{ on := 13, ground := Ground.data }, { on := 26, ground := Ground.data }, { on := 11, ground := Ground.guard }], guard := some (11, false) }) (v := ?vqtn4r22o27) rfl (by kernel_rfl) (by kernel_rfl) (by kernel_rfl) (fun _ _ _ h => h) (Or.inl ⟨by rfl, ?hqtn4r22o27⟩) hS ?_
                  case hqtn4r22o27 => (intro wx hx; skip; go_simp; (try with_reducible rfl))
                  try simp only [Act.put, List.setIfInBounds_toArray, List.set_cons_zero, List.set_cons_succ]
                  refine wpAnyH_take (i := 28) (oi := { dst := some 113, op := Op.pick (Operand.tmp 96) (Operand.const (Value.bool true)) (Operand.tmp 112), type := 4, pos := "law.go:83", after := #[{ on := 11, ground := Ground.data }, { on := 27, ground := Ground.data }], guard := none }) (v := ?vqtn4r22o28) rfl (by kernel_rfl) (by kernel_rfl) (by kernel_rfl) (fun _ _ _ h => h) (Or.inl ⟨by rfl, ?hqtn4r22o28⟩) hS ?_
                  case hqtn4r22o28 => (intro wx hx; skip; go_simp; (try with_reducible rfl))
                  try simp only [Act.put, List.setIfInBounds_toArray, List.set_cons_zero, List.set_cons_succ]
                  refine wpAnyH_done (by kernel_rfl) ?_ _
                  go_wp2
                  go_roundw
                  case rel => exact ⟨k + 1, a', false, by omega, by go_num, hTB, ⟨rad, rl, rc, by rw [← hRest.out] ; exact hRB⟩, hgwB⟩
                  case measure => simp [intOf]; omega
        · have hlt' : ¬ (k : Int) < (len1 : Int) := by omega
          go_wp2_with fail
          refine (works_any _).mono ?_
          rintro e w9 ⟨rfl, hg9⟩
          have hg := grown_trans hg hg9
          go_wp2
          go_ret
          exact ⟨rfl, hg⟩

theorem walk (a0 : Option Addr) (len0 cap0 : Nat) (z0 : List Int) (a1 : Option Addr) (len1 cap1 : Nat) (L : List Stp) (w : World) (w0 : RowIn .u8 w a0 len0 cap0 z0) (w1 : StpsIn w a1 len1 L) :
    Calls Try.prog 4 #[.slice a0 len0 cap0, .slice a1 len1 cap1] w (WorksIs w) := by
  obtain ⟨bs, hl0, hat0⟩ := w0.bytes
  by_cases h : 4096 < len0 ∨ 200 < len1
  · exact walk_far a0 len0 cap0 a1 len1 cap1 w h
  · exact walk_at a0 len0 cap0 bs a1 len1 cap1 L w hl0 hat0 (fun e => w0.nil e) w0.2.1 (by omega) w1 (by omega)
end Go.Proofs.Ytingkjmbeloepaa.octetReads
