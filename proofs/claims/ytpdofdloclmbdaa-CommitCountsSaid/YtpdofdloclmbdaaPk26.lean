/- Texts of ours, packed. -/
import Derived.Test.YtpdofdloclmbdaaPk25
import Derived.Test.YtpdofdloclmbdaaPk18
import Derived.Test.YtpdofdloclmbdaaPk16
section
/- The law's writes. -/
namespace Go.Proofs.Ytpdofdloclmbdaa
open Go.RowKit Go.Grommet

/-- The things in another order, some left out. -/
theorem own_permute {w0 w : World} {Ps Qs : List Pr} (f : Nat → Nat) (h : Grommet.Own w0 w Ps) (key : ∀ j, j < Qs.length → f j < Ps.length ∧ Qs[j]? = Ps[f j]?) (inj : ∀ i j, i < Qs.length → j < Qs.length → i ≠ j → f i ≠ f j) : Grommet.Own w0 w Qs := by
  obtain ⟨Fs, h1, h2, h3, h4⟩ := h
  exact ⟨fun j => Fs (f j), fun k P hk => h1 _ P (by rw [← (key k (List.getElem?_eq_some_iff.1 hk).1).2]; exact hk), fun j k hj hk hne => h2 _ _ (key j hj).1 (key k hk).1 (inj j k hj hk hne), fun k hk => h3 _ (key k hk).1, h4⟩
/-- Writes of places of two blocks, each once. -/
structure GoodW (B : Nat) (W : List (Int × Nat)) : Prop where
  at_ : ∀ p ∈ W, ∃ t, t < 16 ∧ p.1 = ((B + t : Nat) : Int)
  val : ∀ p ∈ W, p.2 < 18446744073709551616
  once : W.Pairwise (fun p q => p.1 ≠ q.1)
def hasW (W : List (Int × Nat)) (x : Int) (k : Nat) : Bool := (W.take k).any (fun p => p.1 == x)
theorem GoodW.nil (B : Nat) : GoodW B [] := ⟨by simp, by simp, by simp⟩
theorem GoodW.snoc {B : Nat} {W : List (Int × Nat)} (h : GoodW B W) {t v : Nat} (ht : t < 16) (hv : v < 18446744073709551616) (hn : hasW W ((B + t : Nat) : Int) W.length = false) : GoodW B (W ++ [(((B + t : Nat) : Int), v)]) := by
  have hn' : ∀ p ∈ W, p.1 ≠ ((B + t : Nat) : Int) := by
    unfold hasW at hn
    rw [List.take_length, List.any_eq_false] at hn
    intro p hp e
    exact hn p hp (by rw [e]; exact beq_self_eq_true _)
  refine ⟨fun p hp => ?_, fun p hp => ?_, ?_⟩
  · rcases List.mem_append.1 hp with hp | hp
    · exact h.at_ p hp
    · obtain rfl := List.mem_singleton.1 hp; exact ⟨t, ht, rfl⟩
  · rcases List.mem_append.1 hp with hp | hp
    · exact h.val p hp
    · obtain rfl := List.mem_singleton.1 hp; exact hv
  · rw [List.pairwise_append]
    exact ⟨h.once, by simp, fun p hp q hq => by obtain rfl := List.mem_singleton.1 hq; exact hn' p hp⟩
/-- One write more behind a row. -/
theorem wr_added {w0 w : World} {Qs : List Pr} (h : Grommet.Own w0 w Qs) (k : Nat) {ad : Option Addr} {n cap : Nat} {W : List (Int × Nat)} (hk : Qs[k]? = some (rowP 41 2 (.slice ad n cap) n (icells W))) (x : Int) (v : Nat) (ty : TypeId) (hn : n ≤ 1000000) :
    ∃ ad' cap' w2, (Builtin.append_ #[36, 36] ty #[.slice ad n cap, .slice (some ⟨w.heap.size, 0, none⟩) 1 1]).run Try.prog (w.alloc (.cells #[.int .i64 x, .int .u64 (v : Int)] 41)) = .ok (.slice ad' (n + 1) cap') w2 ∧ Grommet.Own w0 w2 (Qs.set k (rowP 41 2 (.slice ad' (n + 1) cap') (n + 1) (icells (W ++ [(x, v)])))) := by
  obtain ⟨i0, hi, hz0, hz1, hz2⟩ := info_parts Try.info41
  have hO1 := h.quiet (World.grownBy_alloc w (.cells #[.int .i64 x, .int .u64 (v : Int)] 41) none)
  have hrow := Own.row hO1 k hk
  have hnews : ∀ j u, (icells [(x, v)])[j]? = some u → (w.alloc (.cells #[.int .i64 x, .int .u64 (v : Int)] 41)).cell? ((⟨w.heap.size, 0, none⟩ : Addr).add j) = some u := (at_of_row (heap_alloc_new w (.cells #[.int .i64 x, .int .u64 (v : Int)] 41))).some
  obtain ⟨v', w', hr, h2, h3, h4⟩ := run_append_blk (P := Try.prog) (w.alloc (.cells #[.int .i64 x, .int .u64 (v : Int)] 41)) 0 36 ty 41 i0 (.agg #[.int .i64 0, .int .u64 0]) 2 16 Try.underlying36 hi hz0 hz1 hz2 rfl (by decide) (.slice ad n cap) n (icells W) hrow ⟨w.heap.size, 0, none⟩ 1 1 (icells [(x, v)]) rfl hnews (icells_oneCell _) (by unfold maxLen; omega) (by omega) (Nat.zero_le _)
  obtain ⟨ad', cap', rfl, _⟩ := row_slice h2
  refine ⟨ad', cap', w', hr, ?_⟩
  rw [icells_append]
  exact Own.append hO1 k hk h2 h3 h4
/-- What a region keeps: the geometry, a put. -/
structure SPut (G : Nat) (a b c : Int) (t o : Nat) (x v : Int) (w : World) : Prop where
  geo : GeoQ G a b c w
  d0 : w.cell? ⟨t, o, none⟩ = some (.int .u8 x)
  d1 : w.cell? ⟨t, o + 1, none⟩ = some (.int .u64 v)
theorem SPut.all {G : Nat} {a b c : Int} {t o : Nat} {x v : Int} {w : World} (h : SPut G a b c t o x v w) : w.cell? ⟨G, 0, none⟩ = some (.int .i64 a) ∧ w.cell? ⟨G, 1, none⟩ = some (.int .i64 b) ∧ w.cell? ⟨G, 2, none⟩ = some (.int .i64 c) ∧ w.cell? ⟨t, o, none⟩ = some (.int .u8 x) := ⟨h.geo.cells.1, h.geo.cells.2.1, h.geo.cells.2.2, h.d0⟩
def WrAns (B tl : Nat) (w0 : World) (Ps : List Pr) (e : Ending) (w' : World) : Prop := ∃ W n ad cap, e = .returned (.slice ad n cap) ∧ W.length = n ∧ n ≤ tl ∧ GoodW B W ∧ Grommet.Own w0 w' (Ps ++ [rowP 41 2 (.slice ad n cap) n (icells W)])

set_option maxRecDepth 100000 in
set_option maxHeartbeats 8000000 in
theorem writesH (a b c k B : Nat) (td : Option Addr) (tl tc : Nat) (T : List Cpt) (w0 w : World) (Ps : List Pr) (h : Grommet.Own w0 w Ps) (hT : CptsIn w0 td tl T) (htl : tl ≤ 40) (hB : blockV (a : Int) (b : Int) (c : Int) ((1 + 2 * k : Nat) : Int) = (B : Int)) (hk : k ≤ 100) (hBs : B ≤ 100000) :
    Calls Try.prog 10 #[gv (a : Int) (b : Int) (c : Int), .int .i64 (k : Int), .slice td tl tc] w (WrAns B tl w0 Ps) := by
  have HT := Lib.hid hT
  obtain ⟨w1, hw1⟩ : ∃ w1, w.alloc (.cells #[.int .i64 (a : Int), .int .i64 (b : Int), .int .i64 (c : Int)] 25) = w1 := ⟨_, rfl⟩
  obtain ⟨G, hG⟩ : ∃ G, w.heap.size = G := ⟨_, rfl⟩
  have h1 := h.addBox 25 #[.int .i64 (a : Int), .int .i64 (b : Int), .int .i64 (c : Int)]
  rw [hw1, hG] at h1
  have hz0 : Hid (Grommet.Own w0 w1 ((Ps ++ [boxP G 25 #[.int .i64 (a : Int), .int .i64 (b : Int), .int .i64 (c : Int)]]) ++ [rowP 41 2 (.slice none 0 0) 0 (icells [])])) := Lib.hid (h1.add (P := rowP 41 2 (.slice none 0 0) 0 []) (F := fun _ => False) ⟨World.ownsRow_nil _ _ _ _, ⟨fun i hi => (by cases hi), fun i hi => False.elim hi⟩⟩ (fun i hi => False.elim hi) (World.grownBy.refl _ _))
  have HGd : ∀ (wx : World) (Q : Pr), Grommet.Own w0 wx ((Ps ++ [boxP G 25 #[.int .i64 (a : Int), .int .i64 (b : Int), .int .i64 (c : Int)]]) ++ [Q]) → GeoQ G (a : Int) (b : Int) (c : Int) wx := fun wx Q hO => hO.box Ps.length (by
    rw [List.getElem?_append_left (by simp), List.getElem?_append_right (Nat.le_refl _)]; simp)
  have HG := Lib.hid HGd
  have HrowI : ∀ (Q : Pr), ((Ps ++ [boxP G 25 #[.int .i64 (a : Int), .int .i64 (b : Int), .int .i64 (c : Int)]]) ++ [Q])[Ps.length + 1]? = some Q := fun Q => by
    rw [List.getElem?_append_right (by simp)]; simp
  have HsetI : ∀ (Q Q' : Pr), ((Ps ++ [boxP G 25 #[.int .i64 (a : Int), .int .i64 (b : Int), .int .i64 (c : Int)]]) ++ [Q]).set (Ps.length + 1) Q' = (Ps ++ [boxP G 25 #[.int .i64 (a : Int), .int .i64 (b : Int), .int .i64 (c : Int)]]) ++ [Q'] := fun Q Q' => by
    rw [List.set_append_right _ _ (by simp)]; simp
  have HdropI : ∀ (wx : World) (Q : Pr), Grommet.Own w0 wx ((Ps ++ [boxP G 25 #[.int .i64 (a : Int), .int .i64 (b : Int), .int .i64 (c : Int)]]) ++ [Q]) → Grommet.Own w0 wx (Ps ++ [Q]) := by
    intro wx Q hO
    refine own_permute (fun j => if j < Ps.length then j else Ps.length + 1) hO (fun j hj => ?_) (fun i j hi hj hne => ?_)
    · have hj' : j < Ps.length + 1 := by simpa using hj
      by_cases hjl : j < Ps.length
      · simp only [if_pos hjl]
        exact ⟨by simp; omega, (List.getElem?_append_left hjl).trans (by rw [List.append_assoc]; exact (List.getElem?_append_left hjl).symm)⟩
      · simp only [if_neg hjl]
        obtain rfl : j = Ps.length := by omega
        exact ⟨by simp, by rw [HrowI, List.getElem?_append_right (Nat.le_refl _)]; simp⟩
    · have hi' : i < Ps.length + 1 := by simpa using hi
      have hj' : j < Ps.length + 1 := by simpa using hj
      by_cases hil : i < Ps.length <;> by_cases hjl : j < Ps.length <;> simp only [hil, hjl, if_true, if_false] <;> omega
  have Hdrop := Lib.hid HdropI
  have HGW : Hid (GoodW B []) := Lib.hid (GoodW.nil B)
  have HBa := Lib.hid (fun wx => BlockAt_any (a : Int) (b : Int) (c : Int) ((1 + 2 * k : Nat) : Int) wx)
  rw [hB] at HBa
  obtain ⟨K2, hK2⟩ : ∃ n, 2 * k = n := ⟨_, rfl⟩
  obtain ⟨K3, hK3⟩ : ∃ n, 1 + 2 * k = n := ⟨_, rfl⟩
  rw [hK3] at HBa
  have wk2 : IntKind.i64.wrap (2 * (k : Int)) = (K2 : Int) := by rw [IntWalk.i64_in _ ⟨by omega, by omega⟩]; omega
  have wk2' : 2 * (k : Int) = (K2 : Int) := by omega
  have wk3 : IntKind.i64.wrap (1 + (K2 : Int)) = (K3 : Int) := by rw [IntWalk.i64_in _ ⟨by omega, by omega⟩]; omega
  have wk3' : 1 + (K2 : Int) = (K3 : Int) := by omega
  have wkk : IntKind.i64.wrap (K2 : Int) = (K2 : Int) := IntWalk.i64_in _ ⟨by omega, by omega⟩
  have wkk3 : IntKind.i64.wrap (K3 : Int) = (K3 : Int) := IntWalk.i64_in _ ⟨by omega, by omega⟩
  unfold gv at HBa ⊢
  clear h h1 hT hB hk HGd HdropI hK2 hK3
  go_enter Try.func10, Try.ntmps10
  go_wp2_with fail
  clear hw1 hG
  go_loopw [7, 8, 9, 10, 11] (fun lv i _ _ _ wr => ∃ (j n : Nat) (W : List (Int × Nat)) (ad : Option Addr) (cap : Nat), j ≤ tl ∧ n ≤ j ∧ i = .int .i64 (j : Int) ∧ lv = .slice ad n cap ∧ Hid (W.length = n) ∧ Hid (GoodW B W) ∧ Hid (Grommet.Own w0 wr ((Ps ++ [boxP G 25 #[.int .i64 (a : Int), .int .i64 (b : Int), .int .i64 (c : Int)]]) ++ [rowP 41 2 (.slice ad n cap) n (icells W)]))) (fun _ i _ _ _ _ => tl - (intOf i).toNat)
  case atStart => exact ⟨0, 0, [], none, 0, Nat.zero_le _, Nat.le_refl _, rfl, rfl, Lib.hid rfl, HGW, hz0⟩
  case round =>
    clear hz0 HGW
    obtain ⟨j, n, W, ad, cap, hj, hnj, rfl, rfl, HWl, HGW, hO⟩ := hrel
    have j0 : (0 : Int) ≤ (j : Int) := by omega
    by_cases hlt : j < tl
    · as_aux_lemma =>
      have hlt' : (j : Int) < (tl : Int) := by omega
      have hn40 : n ≤ 1000 := by omega
      obtain ⟨x, hx⟩ : ∃ x, T[j]? = some x := ⟨T[j]'(by rw [HT.out.1]; exact hlt), List.getElem?_eq_getElem _⟩
      obtain ⟨tg, to', rfl, d0, d1⟩ := (HT.out.grown hO.out.grown).2.2 j x hx
      obtain ⟨ok1, ok2⟩ := HT.out.2.1 x (List.mem_of_getElem? hx)
      have b1 := bounds_u8 ok1
      have b2 := bounds_u64 ok2
      have Hc := Lib.hid (fun wx (hg : w0.grownBy wx none) => (HT.out.grown hg).at j x hx)
      obtain ⟨xa, xv⟩ := x
      dsimp only at d0 d1 b1 b2 Hc
      obtain ⟨A, rfl⟩ := Int.eq_ofNat_of_zero_le b1.1
      obtain ⟨V, rfl⟩ := Int.eq_ofNat_of_zero_le b2.1
      have hV : Hid (V < 18446744073709551616) := Lib.hid (by omega)
      obtain ⟨s, hs⟩ : ∃ s, A % 16 = s := ⟨_, rfl⟩
      have hs16 : s < 16 := by omega
      have e5 : (A : Int) % 16 = (s : Int) := by omega
      have e6 : Int.tmod (A : Int) 16 = (s : Int) := by rw [Int.tmod_eq_emod_of_nonneg (by omega)]; exact e5
      have ws : IntKind.i64.wrap (s : Int) = (s : Int) := IntWalk.i64_in _ ⟨by omega, by omega⟩
      have ws8 : IntKind.u8.wrap (s : Int) = (s : Int) := IntWalk.u8_in _ ⟨by omega, by omega⟩
      obtain ⟨U, hU⟩ : ∃ U, B + s = U := ⟨_, rfl⟩
      have wU : IntKind.i64.wrap ((B : Int) + (s : Int)) = (U : Int) := by rw [IntWalk.i64_in _ ⟨by omega, by omega⟩]; omega
      have wj : IntKind.i64.wrap ((j : Int) + 1) = (j : Int) + 1 := IntWalk.i64_in _ ⟨by omega, by omega⟩
      have hOr := Lib.hid (hO.out.quiet (grown_drew (World.grownBy.refl _ none)))
      have hz1 : Hid (SPut G (a : Int) (b : Int) (c : Int) tg (to' + j * 2) (A : Int) (V : Int) _) := Lib.hid ⟨HG.out _ _ hOr.out, (Hc.out _ hOr.out.grown).1, (Hc.out _ hOr.out.grown).2⟩
      have Hs16 := Lib.hid hs16
      have HU := Lib.hid hU
      clear hO hx ok1 ok2 d0 d1 hs b1 b2 hs16 hU HT
      go_wp2_with fail
      refine wp_region_held_drew (S := fun w' => SPut G (a : Int) (b : Int) (c : Int) tg (to' + j * 2) (A : Int) (V : Int) w') (by kernel_rfl) (hz1.out) (fun hS => ?_)
      refine wpAnyH_take (i := 0) (oi := { dst := some 18, op := Op.load 25 (Operand.tmp 3), type := 25, pos := "law.go:174", after := #[], guard := none }) (v := ?vwa10r5o0) rfl (by kernel_rfl) (by kernel_rfl) (by kernel_rfl) (fun _ _ _ h => h) (Or.inl ⟨by rfl, ?hwa10r5o0⟩) hS ?_
      case hwa10r5o0 => (intro wx hx; obtain ⟨f0, f1, f2, d0⟩ := SPut.all hx; go_simp; (try with_reducible rfl))
      try simp only [Act.put, List.setIfInBounds_toArray, List.set_cons_zero, List.set_cons_succ]
      refine wpAnyH_take (i := 1) (oi := { dst := some 19, op := Op.move (Operand.tmp 1), type := 3, pos := "law.go:174", after := #[], guard := none }) (v := ?vwa10r5o1) rfl (by kernel_rfl) (by kernel_rfl) (by kernel_rfl) (fun _ _ _ h => h) (Or.inl ⟨by rfl, ?hwa10r5o1⟩) hS ?_
      case hwa10r5o1 => (intro wx hx; skip; go_simp; (try with_reducible rfl))
      try simp only [Act.put, List.setIfInBounds_toArray, List.set_cons_zero, List.set_cons_succ]
      refine wpAnyH_take (i := 2) (oi := { dst := some 20, op := Op.binOp BinOp.mul 3 (Operand.const (Value.int IntKind.i64 2)) (Operand.tmp 19) 3, type := 3, pos := "law.go:174", after := #[{ on := 1, ground := Ground.data }], guard := none }) (v := ?vwa10r5o2) rfl (by kernel_rfl) (by kernel_rfl) (by kernel_rfl) (fun _ _ _ h => h) (Or.inl ⟨by rfl, ?hwa10r5o2⟩) hS ?_
      case hwa10r5o2 => (intro wx hx; skip; go_simp; (try with_reducible rfl))
      try simp only [Act.put, List.setIfInBounds_toArray, List.set_cons_zero, List.set_cons_succ]
      refine wpAnyH_take (i := 3) (oi := { dst := some 21, op := Op.binOp BinOp.add 3 (Operand.const (Value.int IntKind.i64 1)) (Operand.tmp 20) 3, type := 3, pos := "law.go:174", after := #[{ on := 2, ground := Ground.data }], guard := none }) (v := ?vwa10r5o3) rfl (by kernel_rfl) (by kernel_rfl) (by kernel_rfl) (fun _ _ _ h => h) (Or.inl ⟨by rfl, ?hwa10r5o3⟩) hS ?_
      case hwa10r5o3 => (intro wx hx; skip; go_simp; (try with_reducible rfl))
      try simp only [Act.put, List.setIfInBounds_toArray, List.set_cons_zero, List.set_cons_succ]
      refine wpAnyH_take (i := 5) (oi := { dst := some 23, op := Op.move (Operand.tmp 2), type := 22, pos := "law.go:174", after := #[], guard := none }) (v := ?vwa10r5o5) rfl (by kernel_rfl) (by kernel_rfl) (by kernel_rfl) (fun _ _ _ h => h) (Or.inl ⟨by rfl, ?hwa10r5o5⟩) hS ?_
      case hwa10r5o5 => (intro wx hx; skip; go_simp; (try with_reducible rfl))
      try simp only [Act.put, List.setIfInBounds_toArray, List.set_cons_zero, List.set_cons_succ]
      refine wpAnyH_take (i := 6) (oi := { dst := some 24, op := Op.move (Operand.tmp 8), type := 3, pos := "law.go:174", after := #[], guard := none }) (v := ?vwa10r5o6) rfl (by kernel_rfl) (by kernel_rfl) (by kernel_rfl) (fun _ _ _ h => h) (Or.inl ⟨by rfl, ?hwa10r5o6⟩) hS ?_
      case hwa10r5o6 => (intro wx hx; skip; go_simp; (try with_reducible rfl))
      try simp only [Act.put, List.setIfInBounds_toArray, List.set_cons_zero, List.set_cons_succ]
      refine wpAnyH_take (i := 7) (oi := { dst := some 25, op := Op.indexAddr 22 (Operand.tmp 23) (Operand.tmp 24), type := 0, pos := "law.go:174", after := #[{ on := 5, ground := Ground.data }, { on := 6, ground := Ground.data }], guard := none }) (v := ?vwa10r5o7) rfl (by kernel_rfl) (by kernel_rfl) (by kernel_rfl) (fun _ _ _ h => h) (Or.inl ⟨by rfl, ?hwa10r5o7⟩) hS ?_
      case hwa10r5o7 => (intro wx hx; skip; go_simp; (try with_reducible rfl))
      try simp only [Act.put, List.setIfInBounds_toArray, List.set_cons_zero, List.set_cons_succ]
      refine wpAnyH_take (i := 8) (oi := { dst := some 26, op := Op.fieldAddr 58 (Operand.tmp 25) 0, type := 0, pos := "law.go:174", after := #[{ on := 7, ground := Ground.data }], guard := none }) (v := ?vwa10r5o8) rfl (by kernel_rfl) (by kernel_rfl) (by kernel_rfl) (fun _ _ _ h => h) (Or.inl ⟨by rfl, ?hwa10r5o8⟩) hS ?_
      case hwa10r5o8 => (intro wx hx; skip; go_simp; (try with_reducible rfl))
      try simp only [Act.put, List.setIfInBounds_toArray, List.set_cons_zero, List.set_cons_succ]
      refine wpAnyH_take (i := 9) (oi := { dst := some 27, op := Op.load 5 (Operand.tmp 26), type := 5, pos := "law.go:174", after := #[{ on := 8, ground := Ground.data }], guard := none }) (v := ?vwa10r5o9) rfl (by kernel_rfl) (by kernel_rfl) (by kernel_rfl) (fun _ _ _ h => h) (Or.inl ⟨by rfl, ?hwa10r5o9⟩) hS ?_
      case hwa10r5o9 => (intro wx hx; obtain ⟨f0, f1, f2, d0⟩ := SPut.all hx; go_simp; (try with_reducible rfl))
      try simp only [Act.put, List.setIfInBounds_toArray, List.set_cons_zero, List.set_cons_succ]
      refine wpAnyH_take (i := 10) (oi := { dst := some 28, op := Op.binOp BinOp.rem 5 (Operand.tmp 27) (Operand.const (Value.int IntKind.u8 16)) 5, type := 5, pos := "law.go:174", after := #[{ on := 9, ground := Ground.data }], guard := none }) (v := ?vwa10r5o10) rfl (by kernel_rfl) (by kernel_rfl) (by kernel_rfl) (fun _ _ _ h => h) (Or.inl ⟨by rfl, ?hwa10r5o10⟩) hS ?_
      case hwa10r5o10 => (intro wx hx; skip; go_simp; (try with_reducible rfl))
      try simp only [Act.put, List.setIfInBounds_toArray, List.set_cons_zero, List.set_cons_succ]
      refine wpAnyH_take (i := 11) (oi := { dst := some 29, op := Op.convert 5 3 (Operand.tmp 28), type := 3, pos := "law.go:174", after := #[{ on := 10, ground := Ground.data }], guard := none }) (v := ?vwa10r5o11) rfl (by kernel_rfl) (by kernel_rfl) (by kernel_rfl) (fun _ _ _ h => h) (Or.inl ⟨by rfl, ?hwa10r5o11⟩) hS ?_
      case hwa10r5o11 => (intro wx hx; obtain ⟨f0, f1, f2, d0⟩ := SPut.all hx; go_simp; (try with_reducible rfl))
      try simp only [Act.put, List.setIfInBounds_toArray, List.set_cons_zero, List.set_cons_succ]
      refine wpAnyH_ready (rs := [4]) (by kernel_rfl) (by simp) ?_
      refine AllReadyH.cons (o := { dst := some 22, op := Op.call { callee := Callee.value (Operand.func 24), args := #[Operand.tmp 18, Operand.tmp 21], argTypes := #[25, 3] }, type := 3, pos := "law.go:174", after := #[{ on := 0, ground := Ground.data }, { on := 3, ground := Ground.data }], guard := none }) rfl (fun K hK => ?_) AllReadyH.nil
      go_simp
      refine (HBa.out _).mono ?_
      rintro e v1 ⟨rfl, hn⟩
      have hOn := Lib.hid (hOr.out.quiet hn)
      clear hOr hn
      have hOr := hOn
      clear hOn
      refine hK.out _ _ ?hswa10r5o4 (fun hS => ?_)
      case hswa10r5o4 => (exact ⟨HG.out _ _ hOr.out, (Hc.out _ hOr.out.grown).1, (Hc.out _ hOr.out.grown).2⟩)
      clear hK K
      try simp only [Act.put, List.setIfInBounds_toArray, List.set_cons_zero, List.set_cons_succ]
      refine wpAnyH_take (i := 12) (oi := { dst := some 30, op := Op.binOp BinOp.add 3 (Operand.tmp 22) (Operand.tmp 29) 3, type := 3, pos := "law.go:174", after := #[{ on := 4, ground := Ground.data }, { on := 11, ground := Ground.data }], guard := none }) (v := ?vwa10r5o12) rfl (by kernel_rfl) (by kernel_rfl) (by kernel_rfl) (fun _ _ _ h => h) (Or.inl ⟨by rfl, ?hwa10r5o12⟩) hS ?_
      case hwa10r5o12 => (intro wx hx; skip; go_simp; (try with_reducible rfl))
      try simp only [Act.put, List.setIfInBounds_toArray, List.set_cons_zero, List.set_cons_succ]
      refine wpAnyH_take (i := 13) (oi := { dst := some 9, op := Op.assign (Operand.tmp 30), type := 3, pos := "law.go:174", after := #[{ on := 12, ground := Ground.data }, { on := 4, ground := Ground.chain }, { on := 0, ground := Ground.phase }, { on := 1, ground := Ground.phase }, { on := 2, ground := Ground.phase }, { on := 3, ground := Ground.phase }, { on := 4, ground := Ground.phase }, { on := 5, ground := Ground.phase }, { on := 6, ground := Ground.phase }, { on := 7, ground := Ground.phase }, { on := 8, ground := Ground.phase }, { on := 9, ground := Ground.phase }, { on := 10, ground := Ground.phase }, { on := 11, ground := Ground.phase }, { on := 12, ground := Ground.phase }], guard := none }) (v := ?vwa10r5o13) rfl (by kernel_rfl) (by kernel_rfl) (by kernel_rfl) (fun _ _ _ h => h) (Or.inl ⟨by rfl, ?hwa10r5o13⟩) hS ?_
      case hwa10r5o13 => (intro wx hx; skip; go_simp; (try with_reducible rfl))
      try simp only [Act.put, List.setIfInBounds_toArray, List.set_cons_zero, List.set_cons_succ]
      refine wpAnyH_done (by kernel_rfl) ?_ _
      clear hz1 HBa hS wk2 wk2' wk3 wk3' wkk wkk3
      obtain ⟨e0, he0⟩ : ∃ e, hasW W (U : Int) n = e := ⟨_, rfl⟩
      have He0 := Lib.hid he0
      clear he0
      go_wp2_with fail
      go_loopw [10, 11] (fun bv i wr => ∃ (m : Nat), m ≤ n ∧ i = .int .i64 (m : Int) ∧ bv = .bool (hasW W (U : Int) m) ∧ Hid (Grommet.Own w0 wr ((Ps ++ [boxP G 25 #[.int .i64 (a : Int), .int .i64 (b : Int), .int .i64 (c : Int)]]) ++ [rowP 41 2 (.slice ad n cap) n (icells W)]))) (fun _ i _ => n - (intOf i).toNat)
      case atStart => exact ⟨0, Nat.zero_le _, rfl, rfl, hOr⟩
      case round =>
        clear hOr
        obtain ⟨m, hm, rfl, rfl, hO⟩ := hrel
        have m0 : (0 : Int) ≤ (m : Int) := by omega
        by_cases hlm : m < n
        · as_aux_lemma =>
          have hlm' : (m : Int) < (n : Int) := by omega
          have wm : IntKind.i64.wrap ((m : Int) + 1) = (m : Int) + 1 := IntWalk.i64_in _ ⟨by omega, by omega⟩
          obtain ⟨hat, _, _, _⟩ := Own.pairs hO.out (Ps.length + 1) (HrowI _)
          obtain ⟨q, o, rfl, c1, _⟩ := at_ipair hat m (by rw [HWl.out]; exact hlm)
          have hsn : hasW W (U : Int) (m + 1) = (hasW W (U : Int) m || ((W.getD m (0, 0)).1 == (U : Int))) := by
            unfold hasW
            rw [take_snocD W m (0, 0) (by rw [HWl.out]; exact hlm), List.any_append]
            simp
          obtain ⟨Y, hY⟩ : ∃ Y, (W.getD m (0, 0)).1 = Y := ⟨_, rfl⟩
          rw [hY] at c1 hsn
          obtain ⟨f, hf⟩ : ∃ f, (Y == (U : Int)) = f := ⟨_, rfl⟩
          rw [hf] at hsn
          have hOE := Lib.hid (fun nq => hO.out.quiet (grown_drewN _ nq none))
          clear hO hat hY
          cases hb : hasW W (U : Int) m with
          | true =>
            rw [hb] at hsn
            have Hsn : Hid (hasW W (U : Int) (m + 1) = true) := Lib.hid (by rw [hsn]; rfl)
            clear hb hsn
            go_wp2
            go_roundw
            case rel => exact ⟨m + 1, by omega, by go_num, by rw [Hsn.out], by first | exact hOE.out 0 | exact Lib.hid (hOE.out _) | exact Lib.hid (hOE.out 0)⟩
            case measure => simp [intOf]; omega
          | false =>
            rw [hb] at hsn
            have Hsn : Hid (hasW W (U : Int) (m + 1) = f) := Lib.hid (by rw [hsn]; simp)
            clear hb hsn
            go_wp2
            go_roundw
            case rel => exact ⟨m + 1, by omega, by go_num, by rw [Hsn.out], by first | exact hOE.out 0 | exact Lib.hid (hOE.out _) | exact Lib.hid (hOE.out 0)⟩
            case measure => simp [intOf]; omega
        · as_aux_lemma =>
          obtain rfl : n = m := by omega
          have hlm' : ¬ (n : Int) < (n : Int) := by omega
          rw [He0.out]
          cases e0 with
          | true =>
            clear HsetI Hdrop HG
            go_wp2_with fail
            go_roundw
            case rel => exact ⟨j + 1, n, W, ad, cap, by omega, by omega, by go_num, rfl, HWl, HGW, hO⟩
            case measure => simp [intOf]; omega
          | false =>
            have HGW2 : Hid (GoodW B (W ++ [((U : Int), V)])) := Lib.hid (by
              have := HGW.out.snoc (t := s) (v := V) Hs16.out hV.out (by rw [HU.out, HWl.out]; exact He0.out)
              rw [HU.out] at this
              exact this)
            have d1 := (Hc.out wr hO.out.grown).2
            obtain ⟨ad2, cap2, w2, hr, hO2⟩ := wr_added hO.out (Ps.length + 1) (HrowI _) (U : Int) V 36 (by omega)
            rw [HsetI] at hO2
            have hO2 := Lib.hid hO2
            have HWl2 : Hid ((W ++ [((U : Int), V)]).length = n + 1) := Lib.hid (by rw [List.length_append, HWl.out]; rfl)
            clear HsetI Hdrop HG hO Hc HGW HU Hs16 hV He0 HrowI HWl
            go_wp2_with (at_builtin; refine wpList_append_run rfl _ _ _ rfl _ _ _ rfl rfl hr ?_)
            go_roundw
            case rel => exact ⟨j + 1, n + 1, W ++ [((U : Int), V)], ad2, cap2, by omega, by omega, by go_num, rfl, HWl2, HGW2, hO2⟩
            case measure => simp [intOf]; omega
    · as_aux_lemma =>
      obtain rfl : tl = j := by omega
      have hlt' : ¬ (tl : Int) < (tl : Int) := by omega
      have hO4 := Lib.hid (Hdrop.out _ _ hO.out)
      clear hO Hdrop HG HsetI HrowI
      go_wp2
      go_ret
      exact ⟨W, n, ad, cap, rfl, HWl.out, hnj, HGW.out, hO4.out⟩
end Go.Proofs.Ytpdofdloclmbdaa
end
section
/- How many steps there are, of which phases. -/
namespace Go.Proofs.Ytpdofdloclmbdaa
open Go.RowKit Go.Grommet

def phs (S : List (Nat × Cl)) : List Nat := S.map (·.1)
theorem phs_append (S T : List (Nat × Cl)) : phs (S ++ T) = phs S ++ phs T := List.map_append
theorem phs_stores (p : Nat) (Q : List (Nat × Nat)) : phs (storesS p Q) = List.replicate Q.length p := by
  unfold phs storesS; rw [List.map_map]; exact List.map_const' ..
theorem phs_settle (M p : Nat) (ps : List Nat) : phs (settleS M p ps) = List.replicate ((linesOf M ps).length + 1) p := by
  unfold settleS
  rw [phs_append, List.replicate_succ']
  congr 1
  unfold phs flushS; rw [List.map_map]; exact List.map_const' ..
theorem lines_eq (M : Nat) (ps zs : List Nat) (hz : zs.Pairwise (· < ·)) (hm : ∀ x, x ∈ zs ↔ x < M ∧ ∃ p ∈ ps, p / 8 = x) : linesOf M ps = zs := by
  have h := rising_eq ((linesOf M ps).map (fun l : Nat => (l : Int))) (zs.map (fun l : Nat => (l : Int))) (by rw [List.pairwise_map]; exact (lines_rising M ps).imp (fun h => by omega)) (by rw [List.pairwise_map]; exact hz.imp (fun h => by omega)) (fun x => by
    constructor
    · intro hx
      obtain ⟨l, hl, rfl⟩ := List.mem_map.1 hx
      exact List.mem_map.2 ⟨l, (hm l).2 (lines_mem.1 hl), rfl⟩
    · intro hx
      obtain ⟨l, hl, rfl⟩ := List.mem_map.1 hx
      exact List.mem_map.2 ⟨l, lines_mem.2 ((hm l).1 hl), rfl⟩)
  have := congrArg (List.map Int.toNat) h
  rw [List.map_map, List.map_map, show (Int.toNat ∘ fun l : Nat => (l : Int)) = id from rfl, List.map_id, List.map_id] at this
  exact this
theorem lines_one (M A : Nat) (h : A / 8 < M) : linesOf M [A] = [A / 8] :=
  lines_eq M [A] [A / 8] (by simp) (fun x => by
    simp only [List.mem_singleton]
    constructor
    · rintro rfl; exact ⟨h, A, rfl, rfl⟩
    · rintro ⟨_, p, rfl, rfl⟩; rfl)
theorem lines_seal (M A Z : Nat) (xs : List Nat) (h8 : A % 8 = 0) (h : (A + 8 + Z) / 8 < M) : linesOf M ((sealQ A xs Z).map (·.1)) = List.range' (A / 8 + 1) ((Z + 7) / 8) := by
  refine lines_eq M _ _ (List.pairwise_lt_range' ..) (fun x => ?_)
  rw [List.mem_range'_1]
  constructor
  · intro hx
    refine ⟨by omega, 8 * x, ?_, by omega⟩
    refine List.mem_map.2 ⟨(8 * x, xs.getD (8 * x - (A + 8)) 0), ?_, rfl⟩
    unfold sealQ
    refine List.mem_map.2 ⟨8 * x - (A + 8), List.mem_range.2 (by omega), ?_⟩
    rw [show A + 8 + (8 * x - (A + 8)) = 8 * x by omega]
  · rintro ⟨_, p, hp, rfl⟩
    obtain ⟨q, hq, rfl⟩ := List.mem_map.1 hp
    unfold sealQ at hq
    obtain ⟨i, hi, rfl⟩ := List.mem_map.1 hq
    have := List.mem_range.1 hi
    show A / 8 + 1 ≤ (A + 8 + i) / 8 ∧ (A + 8 + i) / 8 < A / 8 + 1 + (Z + 7) / 8
    omega
/-- The phases of a begin, one behind the other. -/
theorem phs_begin (M A : Nat) (W : List (Int × Nat)) (n L : Nat) (hn : W.length = n) (hL : (linesOf M ((wrQ W).map (·.1))).length = L) (h8 : A % 8 = 0) (hM : (A + 8 + (2 + 2 * n)) / 8 < M) :
    phs (beginS M A W) = List.replicate (2 + 2 * n) 1 ++ (List.replicate ((2 + 2 * n + 7) / 8 + 1) 2 ++ (List.replicate 3 3 ++ (List.replicate n 4 ++ (List.replicate (L + 1) 5 ++ List.replicate 3 6)))) := by
  have hR : (recR W).length = 2 + 2 * n := by rw [recR_length, hn]
  have hA : A / 8 < M := by omega
  have hm : ∀ p v, phs (markS M p A v) = List.replicate 3 p := by
    intro p v
    show p :: phs (settleS M p [A]) = _
    rw [phs_settle, lines_one M A hA]
    rfl
  unfold beginS sealS applyS
  simp only [phs_append, phs_stores, phs_settle, hm, sealQ_len, hR, hL]
  rw [lines_seal M A (2 + 2 * n) (recR W) h8 (by omega), List.length_range', show (wrQ W).length = n from by unfold wrQ; rw [List.length_map, hn]]
  simp only [List.append_assoc]
/-- What the law wants. -/
def wantL (n L : Nat) : List Nat := [0, 2 + 2 * n, (2 + 2 * n + 7) / 8 + 1, 3, n, L + 1, 3]
theorem count_rep (n p q : Nat) : (List.replicate n p).count q = if p = q then n else 0 := by
  rw [List.count_replicate]
  by_cases h : p = q
  · rw [if_pos h, if_pos (by simp [h])]
  · rw [if_neg h, if_neg (by simp [h])]
theorem phs_count {P : List Nat} {n L : Nat} (h : P = List.replicate (2 + 2 * n) 1 ++ (List.replicate ((2 + 2 * n + 7) / 8 + 1) 2 ++ (List.replicate 3 3 ++ (List.replicate n 4 ++ (List.replicate (L + 1) 5 ++ List.replicate 3 6))))) (q : Nat) (hq : q < 7) : P.count q = (wantL n L).getD q 0 := by
  subst h
  simp only [List.count_append, count_rep]
  have : q = 0 ∨ q = 1 ∨ q = 2 ∨ q = 3 ∨ q = 4 ∨ q = 5 ∨ q = 6 := by omega
  rcases this with rfl | rfl | rfl | rfl | rfl | rfl | rfl <;> simp [wantL]
theorem phs_len {P : List Nat} {n L : Nat} (h : P = List.replicate (2 + 2 * n) 1 ++ (List.replicate ((2 + 2 * n + 7) / 8 + 1) 2 ++ (List.replicate 3 3 ++ (List.replicate n 4 ++ (List.replicate (L + 1) 5 ++ List.replicate 3 6))))) : P.length = (wantL n L).sum := by
  subst h
  simp [wantL]; omega
theorem phs_rising {P : List Nat} {n L : Nat} (h : P = List.replicate (2 + 2 * n) 1 ++ (List.replicate ((2 + 2 * n + 7) / 8 + 1) 2 ++ (List.replicate 3 3 ++ (List.replicate n 4 ++ (List.replicate (L + 1) 5 ++ List.replicate 3 6))))) : P.Pairwise (· ≤ ·) ∧ ∀ p ∈ P, 1 ≤ p ∧ p ≤ 6 := by
  subst h
  have hr : ∀ (m p : Nat), (List.replicate m p).Pairwise (· ≤ ·) := fun m p => List.pairwise_replicate.2 (.inr (Nat.le_refl _))
  constructor
  · simp only [List.pairwise_append, hr, true_and, List.mem_append, List.mem_replicate]
    refine ⟨⟨⟨⟨?_, ?_⟩, ?_⟩, ?_⟩, ?_⟩ <;> · intro a ha b hb; omega
  · simp only [List.mem_append, List.mem_replicate]
    intro p hp
    omega
/-- Each call of a begin may be done. -/
theorem ok_settle (M p N : Nat) (ps : List Nat) (h : M = N / 8) : ∀ s ∈ settleS M p ps, s.2.ok N := by
  intro s hs
  unfold settleS at hs
  rcases List.mem_append.1 hs with hs | hs
  · unfold flushS at hs
    obtain ⟨l, hl, rfl⟩ := List.mem_map.1 hs
    show l < N / 8
    have := (lines_mem.1 hl).1
    omega
  · obtain rfl := List.mem_singleton.1 hs; trivial
theorem ok_stores (p N : Nat) (Q : List (Nat × Nat)) (h : ∀ q ∈ Q, q.1 < N ∧ q.2 < 18446744073709551616) : ∀ s ∈ storesS p Q, s.2.ok N := by
  intro s hs
  unfold storesS at hs
  obtain ⟨q, hq, rfl⟩ := List.mem_map.1 hs
  exact h q hq
theorem ok_begin (M A N : Nat) (W : List (Int × Nat)) (hM : M = N / 8) (hA : A + 8 + (recR W).length ≤ N) (hR : ∀ x ∈ recR W, x < 18446744073709551616) (hW : ∀ p ∈ W, p.1.toNat < N ∧ p.2 < 18446744073709551616) (hmk : markV (recR W) < 18446744073709551616) : ∀ s ∈ beginS M A W, s.2.ok N := by
  have hmark : ∀ p v, v < 18446744073709551616 → ∀ s ∈ markS M p A v, s.2.ok N := by
    intro p v hv s hs
    unfold markS at hs
    rcases List.mem_cons.1 hs with rfl | hs
    · exact ⟨by omega, hv⟩
    · exact ok_settle M p N _ hM s hs
  have hw : ∀ q ∈ wrQ W, q.1 < N ∧ q.2 < 18446744073709551616 := by
    intro q hq
    unfold wrQ at hq
    obtain ⟨p, hp, rfl⟩ := List.mem_map.1 hq
    exact hW p hp
  have hse : ∀ q ∈ sealQ A (recR W) (recR W).length, q.1 < N ∧ q.2 < 18446744073709551616 := by
    intro q hq
    unfold sealQ at hq
    obtain ⟨i, hi, rfl⟩ := List.mem_map.1 hq
    have hi := List.mem_range.1 hi
    refine ⟨by show A + 8 + i < N; omega, ?_⟩
    show (recR W).getD i 0 < _
    rw [List.getD_eq_getElem?_getD, List.getElem?_eq_getElem hi]
    exact hR _ (by simp)
  intro s hs
  unfold beginS sealS applyS at hs
  simp only [List.mem_append] at hs
  rcases hs with ((hs | hs) | hs) | (hs | hs) | hs
  · exact ok_stores 1 N _ hse s hs
  · exact ok_settle M 2 N _ hM s hs
  · exact hmark 3 _ hmk s hs
  · exact ok_stores 4 N _ hw s hs
  · exact ok_settle M 5 N _ hM s hs
  · exact hmark 6 0 (by decide) s hs
theorem markV_lt (xs : List Nat) : markV xs < 18446744073709551616 := by
  unfold markV
  split
  · exact Nat.mod_lt _ (by decide)
  · decide
/-- Writes of two blocks may be. -/
theorem good_may {a b c B : Nat} {W : List (Int × Nat)} (h : GoodW B W) (hm : mayB (a : Int) (b : Int) (c : Int) = true) (hl : W.length ≤ 96) (h1 : 280 + 208 * a + 16 * b ≤ B) (h2 : B + 16 ≤ 280 + 208 * a + 16 * b + 8 * c) : mayW (a : Int) (b : Int) (c : Int) W = true := by
  unfold mayW
  refine decide_eq_true ⟨hl, hm, fun i hi => ?_⟩
  have hmem : W.getD i (0, 0) ∈ W := getD_mem W i (0, 0) hi
  obtain ⟨t, ht, e⟩ := h.at_ _ hmem
  refine ⟨?_, fun j hj => ?_⟩
  · unfold standB
    rw [e, wh_block hm (by omega) (by omega)]
    rfl
  · have := (List.pairwise_iff_getElem.1 h.once) j i (by omega) hi hj
    rw [List.getD_eq_getElem?_getD, List.getD_eq_getElem?_getD, List.getElem?_eq_getElem hi, List.getElem?_eq_getElem (by omega : j < W.length)]
    exact this
end Go.Proofs.Ytpdofdloclmbdaa
end
section
/- All of it. -/
end
