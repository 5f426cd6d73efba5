/- Texts of ours, packed. -/
import Derived.StillTailTactics
import Derived.Test.YtpdofdloclmbdaaPk25
import Derived.Test.YtpdofdloclmbdaaPk18
import Derived.Test.YtpdofdloclmbdaaPk16
import Derived.Test.YtpdofdloclmbdaaPk5
section
/- The law's writes. -/
namespace Go.Proofs.Ytpdofdloclmbdaa
open Go.RowKit Go.Grommet

/-- The things in another order, some left out. -/
theorem own_permute {w0 w : World} {Ps Qs : List Pr} (f : Nat → Nat) (h : Grommet.Own w0 w Ps) (key : ∀ j, j < Qs.length → f j < Ps.length ∧ Qs[j]? = Ps[f j]?) (inj : ∀ i j, i < Qs.length → j < Qs.length → i ≠ j → f i ≠ f j) : Grommet.Own w0 w Qs := by
  obtain ⟨Fs, h1, h2, h3, h4⟩ := h
  exact ⟨fun j => Fs (f j), fun k P hk => h1 _ P (by rw [← (key k (List.getElem?_eq_some_iff.1 hk).1).2]; exact hk), fun j k hj hk hne => h2 _ _ (key j hj).1 (key k hk).1 (inj j k hj hk hne), fun k hk => h3 _ (key k hk).1, h4⟩
/-- Writes of places of two blocks, each once. -/
structure GoodW (B : Nat) (W : List (Int × Nat)) : Prop where
  at_ : ∀ p ∈ W, ∃ t, t < 16 ∧ p.1 = ((B + t : Nat) : Int)
  val : ∀ p ∈ W, p.2 < 18446744073709551616
  once : W.Pairwise (fun p q => p.1 ≠ q.1)
def hasW (W : List (Int × Nat)) (x : Int) (k : Nat) : Bool := (W.take k).any (fun p => p.1 == x)
theorem GoodW.nil (B : Nat) : GoodW B [] := ⟨by simp, by simp, by simp⟩
theorem GoodW.snoc {B : Nat} {W : List (Int × Nat)} (h : GoodW B W) {t v : Nat} (ht : t < 16) (hv : v < 18446744073709551616) (hn : hasW W ((B + t : Nat) : Int) W.length = false) : GoodW B (W ++ [(((B + t : Nat) : Int), v)]) := by
  have hn' : ∀ p ∈ W, p.1 ≠ ((B + t : Nat) : Int) := by
    unfold hasW at hn
    rw [List.take_length, List.any_eq_false] at hn
    intro p hp e
    exact hn p hp (by rw [e]; exact beq_self_eq_true _)
  refine ⟨fun p hp => ?_, fun p hp => ?_, ?_⟩
  · rcases List.mem_append.1 hp with hp | hp
    · exact h.at_ p hp
    · obtain rfl := List.mem_singleton.1 hp; exact ⟨t, ht, rfl⟩
  · rcases List.mem_append.1 hp with hp | hp
    · exact h.val p hp
    · obtain rfl := List.mem_singleton.1 hp; exact hv
  · rw [List.pairwise_append]
    exact ⟨h.once, by simp, fun p hp q hq => by obtain rfl := List.mem_singleton.1 hq; exact hn' p hp⟩
/-- One write more behind a row. -/
theorem wr_added {w0 w : World} {Qs : List Pr} (h : Grommet.Own w0 w Qs) (k : Nat) {ad : Option Addr} {n cap : Nat} {W : List (Int × Nat)} (hk : Qs[k]? = some (rowP 41 2 (.slice ad n cap) n (icells W))) (x : Int) (v : Nat) (ty : TypeId) (hn : n ≤ 1000000) :
    ∃ ad' cap' w2, (Builtin.append_ #[36, 36] ty #[.slice ad n cap, .slice (some ⟨w.heap.size, 0, none⟩) 1 1]).run Try.prog (w.alloc (.cells #[.int .i64 x, .int .u64 (v : Int)] 41)) = .ok (.slice ad' (n + 1) cap') w2 ∧ Grommet.Own w0 w2 (Qs.set k (rowP 41 2 (.slice ad' (n + 1) cap') (n + 1) (icells (W ++ [(x, v)])))) := by
  obtain ⟨i0, hi, hz0, hz1, hz2⟩ := info_parts Try.info41
  have hO1 := h.quiet (World.grownBy_alloc w (.cells #[.int .i64 x, .int .u64 (v : Int)] 41) none)
  have hrow := Own.row hO1 k hk
  have hnews : ∀ j u, (icells [(x, v)])[j]? = some u → (w.alloc (.cells #[.int .i64 x, .int .u64 (v : Int)] 41)).cell? ((⟨w.heap.size, 0, none⟩ : Addr).add j) = some u := (at_of_row (heap_alloc_new w (.cells #[.int .i64 x, .int .u64 (v : Int)] 41))).some
  obtain ⟨v', w', hr, h2, h3, h4⟩ := run_append_blk (P := Try.prog) (w.alloc (.cells #[.int .i64 x, .int .u64 (v : Int)] 41)) 0 36 ty 41 i0 (.agg #[.int .i64 0, .int .u64 0]) 2 16 Try.underlying36 hi hz0 hz1 hz2 rfl (by decide) (.slice ad n cap) n (icells W) hrow ⟨w.heap.size, 0, none⟩ 1 1 (icells [(x, v)]) rfl hnews (icells_oneCell _) (by unfold maxLen; omega) (by omega) (Nat.zero_le _)
  obtain ⟨ad', cap', rfl, _⟩ := row_slice h2
  refine ⟨ad', cap', w', hr, ?_⟩
  rw [icells_append]
  exact Own.append hO1 k hk h2 h3 h4
/-- What a region keeps: the geometry, a put. -/
structure SPut (G : Nat) (a b c : Int) (t o : Nat) (x v : Int) (w : World) : Prop where
  geo : GeoQ G a b c w
  d0 : w.cell? ⟨t, o, none⟩ = some (.int .u8 x)
  d1 : w.cell? ⟨t, o + 1, none⟩ = some (.int .u64 v)
theorem SPut.all {G : Nat} {a b c : Int} {t o : Nat} {x v : Int} {w : World} (h : SPut G a b c t o x v w) : w.cell? ⟨G, 0, none⟩ = some (.int .i64 a) ∧ w.cell? ⟨G, 1, none⟩ = some (.int .i64 b) ∧ w.cell? ⟨G, 2, none⟩ = some (.int .i64 c) ∧ w.cell? ⟨t, o, none⟩ = some (.int .u8 x) := ⟨h.geo.cells.1, h.geo.cells.2.1, h.geo.cells.2.2, h.d0⟩
def WrAns (B tl : Nat) (w0 : World) (Ps : List Pr) (e : Ending) (w' : World) : Prop := ∃ W n ad cap, e = .returned (.slice ad n cap) ∧ W.length = n ∧ n ≤ tl ∧ GoodW B W ∧ Grommet.Own w0 w' (Ps ++ [rowP 41 2 (.slice ad n cap) n (icells W)])

set_option maxRecDepth 100000 in
set_option maxHeartbeats 8000000 in
theorem writesH (a b c k B : Nat) (td : Option Addr) (tl tc : Nat) (T : List Cpt) (w0 w : World) (Ps : List Pr) (h : Grommet.Own w0 w Ps) (hT : CptsIn w0 td tl T) (htl : tl ≤ 40) (hB : blockV (a : Int) (b : Int) (c : Int) ((1 + 2 * k : Nat) : Int) = (B : Int)) (hk : k ≤ 100) (hBs : B ≤ 100000) :
    Calls Try.prog 10 #[gv (a : Int) (b : Int) (c : Int), .int .i64 (k : Int), .slice td tl tc] w (WrAns B tl w0 Ps) := by
  have HT := Lib.hid hT
  obtain ⟨w1, hw1⟩ : ∃ w1, w.alloc (.cells #[.int .i64 (a : Int), .int .i64 (b : Int), .int .i64 (c : Int)] 25) = w1 := ⟨_, rfl⟩
  obtain ⟨G, hG⟩ : ∃ G, w.heap.size = G := ⟨_, rfl⟩
  have h1 := h.addBox 25 #[.int .i64 (a : Int), .int .i64 (b : Int), .int .i64 (c : Int)]
  rw [hw1, hG] at h1
  have hz0 : Hid (Grommet.Own w0 w1 ((Ps ++ [boxP G 25 #[.int .i64 (a : Int), .int .i64 (b : Int), .int .i64 (c : Int)]]) ++ [rowP 41 2 (.slice none 0 0) 0 (icells [])])) := Lib.hid (h1.add (P := rowP 41 2 (.slice none 0 0) 0 []) (F := fun _ => False) ⟨World.ownsRow_nil _ _ _ _, ⟨fun i hi => (by cases hi), fun i hi => False.elim hi⟩⟩ (fun i hi => False.elim hi) (World.grownBy.refl _ _))
  have HGd : ∀ (wx : World) (Q : Pr), Grommet.Own w0 wx ((Ps ++ [boxP G 25 #[.int .i64 (a : Int), .int .i64 (b : Int), .int .i64 (c : Int)]]) ++ [Q]) → GeoQ G (a : Int) (b : Int) (c : Int) wx := fun wx Q hO => hO.box Ps.length (by
    rw [List.getElem?_append_left (by simp), List.getElem?_append_right (Nat.le_refl _)]; simp)
  have HG := Lib.hid HGd
  have HrowI : ∀ (Q : Pr), ((Ps ++ [boxP G 25 #[.int .i64 (a : Int), .int .i64 (b : Int), .int .i64 (c : Int)]]) ++ [Q])[Ps.length + 1]? = some Q := fun Q => by
    rw [List.getElem?_append_right (by simp)]; simp
  have HsetI : ∀ (Q Q' : Pr), ((Ps ++ [boxP G 25 #[.int .i64 (a : Int), .int .i64 (b : Int), .int .i64 (c : Int)]]) ++ [Q]).set (Ps.length + 1) Q' = (Ps ++ [boxP G 25 #[.int .i64 (a : Int), .int .i64 (b : Int), .int .i64 (c : Int)]]) ++ [Q'] := fun Q Q' => by
    rw [List.set_append_right _ _ (by simp)]; simp
  have HdropI : ∀ (wx : World) (Q : Pr), Grommet.Own w0 wx ((Ps ++ [boxP G 25 #[.int .i64 (a : Int), .int .i64 (b : Int), .int .i64 (c : Int)]]) ++ [Q]) → Grommet.Own w0 wx (Ps ++ [Q]) := by
    intro wx Q hO
    refine own_permute (fun j => if j < Ps.length then j else Ps.length + 1) hO (fun j hj => ?_) (fun i j hi hj hne => ?_)
    · have hj' : j < Ps.length + 1 := by simpa using hj
      by_cases hjl : j < Ps.length
      · simp only [if_pos hjl]
        exact ⟨by simp; omega, (List.getElem?_append_left hjl).trans (by rw [List.append_assoc]; exact (List.getElem?_append_left hjl).symm)⟩
      · simp only [if_neg hjl]
        obtain rfl : j = Ps.length := by omega
        exact ⟨by simp, by rw [HrowI, List.getElem?_append_right (Nat.le_refl _)]; simp⟩
    · have hi' : i < Ps.length + 1 := by simpa using hi
      have hj' : j < Ps.length + 1 := by simpa using hj
      by_cases hil : i < Ps.length <;> by_cases hjl : j < Ps.length <;> simp only [hil, hjl, if_true, if_false] <;> omega
  have Hdrop := Lib.hid HdropI
  have HGW : Hid (GoodW B []) := Lib.hid (GoodW.nil B)
  have HBa := Lib.hid (fun wx => BlockAt_any (a : Int) (b : Int) (c : Int) ((1 + 2 * k : Nat) : Int) wx)
  rw [hB] at HBa
  obtain ⟨K2, hK2⟩ : ∃ n, 2 * k = n := ⟨_, rfl⟩
  obtain ⟨K3, hK3⟩ : ∃ n, 1 + 2 * k = n := ⟨_, rfl⟩
  rw [hK3] at HBa
  have wk2 : IntKind.i64.wrap (2 * (k : Int)) = (K2 : Int) := by rw [IntWalk.i64_in _ ⟨by omega, by omega⟩]; omega
  have wk2' : 2 * (k : Int) = (K2 : Int) := by omega
  have wk3 : IntKind.i64.wrap (1 + (K2 : Int)) = (K3 : Int) := by rw [IntWalk.i64_in _ ⟨by omega, by omega⟩]; omega
  have wk3' : 1 + (K2 : Int) = (K3 : Int) := by omega
  have wkk : IntKind.i64.wrap (K2 : Int) = (K2 : Int) := IntWalk.i64_in _ ⟨by omega, by omega⟩
  have wkk3 : IntKind.i64.wrap (K3 : Int) = (K3 : Int) := IntWalk.i64_in _ ⟨by omega, by omega⟩
  unfold gv at HBa ⊢
  clear h h1 hT hB hk HGd HdropI hK2 hK3
  go_enter Try.func10, Try.ntmps10
  go_wp2_with fail
  clear hw1 hG
  go_loopw [7, 8, 9, 10, 11] (fun lv i _ _ _ wr => ∃ (j n : Nat) (W : List (Int × Nat)) (ad : Option Addr) (cap : Nat), j ≤ tl ∧ n ≤ j ∧ i = .int .i64 (j : Int) ∧ lv = .slice ad n cap ∧ Hid (W.length = n) ∧ Hid (GoodW B W) ∧ Hid (Grommet.Own w0 wr ((Ps ++ [boxP G 25 #[.int .i64 (a : Int), .int .i64 (b : Int), .int .i64 (c : Int)]]) ++ [rowP 41 2 (.slice ad n cap) n (icells W)]))) (fun _ i _ _ _ _ => tl - (intOf i).toNat)
  case atStart => exact ⟨0, 0, [], none, 0, Nat.zero_le _, Nat.le_refl _, rfl, rfl, Lib.hid rfl, HGW, hz0⟩
  case round =>
    clear hz0 HGW
    obtain ⟨j, n, W, ad, cap, hj, hnj, rfl, rfl, HWl, HGW, hO⟩ := hrel
    have j0 : (0 : Int) ≤ (j : Int) := by omega
    by_cases hlt : j < tl
    · as_aux_lemma =>
      have hlt' : (j : Int) < (tl : Int) := by omega
      have hn40 : n ≤ 1000 := by omega
      obtain ⟨x, hx⟩ : ∃ x, T[j]? = some x := ⟨T[j]'(by rw [HT.out.1]; exact hlt), List.getElem?_eq_getElem _⟩
      obtain ⟨tg, to', rfl, d0, d1⟩ := (HT.out.grown hO.out.grown).2.2 j x hx
      obtain ⟨ok1, ok2⟩ := HT.out.2.1 x (List.mem_of_getElem? hx)
      have b1 := bounds_u8 ok1
      have b2 := bounds_u64 ok2
      have Hc := Lib.hid (fun wx (hg : w0.grownBy wx none) => (HT.out.grown hg).at j x hx)
      obtain ⟨xa, xv⟩ := x
      dsimp only at d0 d1 b1 b2 Hc
      obtain ⟨A, rfl⟩ := Int.eq_ofNat_of_zero_le b1.1
      obtain ⟨V, rfl⟩ := Int.eq_ofNat_of_zero_le b2.1
      have hV : Hid (V < 18446744073709551616) := Lib.hid (by omega)
      obtain ⟨s, hs⟩ : ∃ s, A % 16 = s := ⟨_, rfl⟩
      have hs16 : s < 16 := by omega
      have e5 : (A : Int) % 16 = (s : Int) := by omega
      have e6 : Int.tmod (A : Int) 16 = (s : Int) := by rw [Int.tmod_eq_emod_of_nonneg (by omega)]; exact e5
      have ws : IntKind.i64.wrap (s : Int) = (s : Int) := IntWalk.i64_in _ ⟨by omega, by omega⟩
      have ws8 : IntKind.u8.wrap (s : Int) = (s : Int) := IntWalk.u8_in _ ⟨by omega, by omega⟩
      obtain ⟨U, hU⟩ : ∃ U, B + s = U := ⟨_, rfl⟩
      have wU : IntKind.i64.wrap ((B : Int) + (s : Int)) = (U : Int) := by rw [IntWalk.i64_in _ ⟨by omega, by omega⟩]; omega
      have wj : IntKind.i64.wrap ((j : Int) + 1) = (j : Int) + 1 := IntWalk.i64_in _ ⟨by omega, by omega⟩
      have hOr := Lib.hid (hO.out.quiet (grown_drew (World.grownBy.refl _ none)))
      have hz1 : Hid (SPut G (a : Int) (b : Int) (c : Int) tg (to' + j * 2) (A : Int) (V : Int) _) := Lib.hid ⟨HG.out _ _ hOr.out, (Hc.out _ hOr.out.grown).1, (Hc.out _ hOr.out.grown).2⟩
      have Hs16 := Lib.hid hs16
      have HU := Lib.hid hU
      clear hO hx ok1 ok2 d0 d1 hs b1 b2 hs16 hU HT
      go_wp2_with fail
      refine wp_region_held_drew (S := fun w' => SPut G (a : Int) (b : Int) (c : Int) tg (to' + j * 2) (A : Int) (V : Int) w') (by kernel_rfl) (hz1.out) (fun hS => ?_)
      refine wpAnyH_take (i := 0) (oi := { dst := some 18, op := Op.load 25 (Operand.tmp 3), type := 25, pos := "law.go:174", after := #[], guard := none }) (v := ?vwa10r5o0) rfl (by kernel_rfl) (by kernel_rfl) (by kernel_rfl) (fun _ _ _ h => h) (Or.inl ⟨by rfl, ?hwa10r5o0⟩) hS ?_
      case hwa10r5o0 => (intro wx hx; obtain ⟨f0, f1, f2, d0⟩ := SPut.all hx; go_simp; (try with_reducible rfl))
      try simp only [Act.put, List.setIfInBounds_toArray, List.set_cons_zero, List.set_cons_succ]
      refine wpAnyH_take (i := 1) (oi := { dst := some 19, op := Op.move (Operand.tmp 1), type := 3, pos := "law.go:174", after := #[], guard := none }) (v := ?vwa10r5o1) rfl (by kernel_rfl) (by kernel_rfl) (by kernel_rfl) (fun _ _ _ h => h) (Or.inl ⟨by rfl, ?hwa10r5o1⟩) hS ?_
      case hwa10r5o1 => (intro wx hx; skip; go_simp; (try with_reducible rfl))
      try simp only [Act.put, List.setIfInBounds_toArray, List.set_cons_zero, List.set_cons_succ]
      refine wpAnyH_take (i := 2) (oi := { dst := some 20, op := Op.binOp BinOp.mul 3 (Operand.const (Value.int IntKind.i64 2)) (Operand.tmp 19) 3, type := 3, pos := "law.go:174", after := #[{ on := 1, ground := Ground.data }], guard := none }) (v := ?vwa10r5o2) rfl (by kernel_rfl) (by kernel_rfl) (by kernel_rfl) (fun _ _ _ h => h) (Or.inl ⟨by rfl, ?hwa10r5o2⟩) hS ?_
      case hwa10r5o2 => (intro wx hx; skip; go_simp; (try with_reducible rfl))
      try simp only [Act.put, List.setIfInBounds_toArray, List.set_cons_zero, List.set_cons_succ]
      refine wpAnyH_take (i := 3) (oi := { dst := some 21, op := Op.binOp BinOp.add 3 (Operand.const (Value.int IntKind.i64 1)) (Operand.tmp 20) 3, type := 3, pos := "law.go:174", after := #[{ on := 2, ground := Ground.data }], guard := none }) (v := ?vwa10r5o3) rfl (by kernel_rfl) (by kernel_rfl) (by kernel_rfl) (fun _ _ _ h => h) (Or.inl ⟨by rfl, ?hwa10r5o3⟩) hS ?_
      case hwa10r5o3 => (intro wx hx; skip; go_simp; (try with_reducible rfl))
      try simp only [Act.put, List.setIfInBounds_toArray, List.set_cons_zero, List.set_cons_succ]
      refine wpAnyH_take (i := 5) (oi := { dst := some 23, op := Op.move (Operand.tmp 2), type := 22, pos := "law.go:174", after := #[], guard := none }) (v := ?vwa10r5o5) rfl (by kernel_rfl) (by kernel_rfl) (by kernel_rfl) (fun _ _ _ h => h) (Or.inl ⟨by rfl, ?hwa10r5o5⟩) hS ?_
      case hwa10r5o5 => (intro wx hx; skip; go_simp; (try with_reducible rfl))
      try simp only [Act.put, List.setIfInBounds_toArray, List.set_cons_zero, List.set_cons_succ]
      refine wpAnyH_take (i := 6) (oi := { dst := some 24, op := Op.move (Operand.tmp 8), type := 3, pos := "law.go:174", after := #[], guard := none }) (v := ?vwa10r5o6) rfl (by kernel_rfl) (by kernel_rfl) (by kernel_rfl) (fun _ _ _ h => h) (Or.inl ⟨by rfl, ?hwa10r5o6⟩) hS ?_
      case hwa10r5o6 => (intro wx hx; skip; go_simp; (try with_reducible rfl))
      try simp only [Act.put, List.setIfInBounds_toArray, List.set_cons_zero, List.set_cons_succ]
      refine wpAnyH_take (i := 7) (oi := { dst := some 25, op := Op.indexAddr 22 (Operand.tmp 23) (Operand.tmp 24), type := 0, pos := "law.go:174", after := #[{ on := 5, ground := Ground.data }, { on := 6, ground := Ground.data }], guard := none }) (v := ?vwa10r5o7) rfl (by kernel_rfl) (by kernel_rfl) (by kernel_rfl) (fun _ _ _ h => h) (Or.inl ⟨by rfl, ?hwa10r5o7⟩) hS ?_
      case hwa10r5o7 => (intro wx hx; skip; go_simp; (try with_reducible rfl))
      try simp only [Act.put, List.setIfInBounds_toArray, List.set_cons_zero, List.set_cons_succ]
      refine wpAnyH_take (i := 8) (oi := { dst := some 26, op := Op.fieldAddr 58 (Operand.tmp 25) 0, type := 0, pos := "law.go:174", after := #[{ on := 7, ground := Ground.data }], guard := none }) (v := ?vwa10r5o8) rfl (by kernel_rfl) (by kernel_rfl) (by kernel_rfl) (fun _ _ _ h => h) (Or.inl ⟨by rfl, ?hwa10r5o8⟩) hS ?_
      case hwa10r5o8 => (intro wx hx; skip; go_simp; (try with_reducible rfl))
      try simp only [Act.put, List.setIfInBounds_toArray, List.set_cons_zero, List.set_cons_succ]
      refine wpAnyH_take (i := 9) (oi := { dst := some 27, op := Op.load 5 (Operand.tmp 26), type := 5, pos := "law.go:174", after := #[{ on := 8, ground := Ground.data }], guard := none }) (v := ?vwa10r5o9) rfl (by kernel_rfl) (by kernel_rfl) (by kernel_rfl) (fun _ _ _ h => h) (Or.inl ⟨by rfl, ?hwa10r5o9⟩) hS ?_
      case hwa10r5o9 => (intro wx hx; obtain ⟨f0, f1, f2, d0⟩ := SPut.all hx; go_simp; (try with_reducible rfl))
      try simp only [Act.put, List.setIfInBounds_toArray, List.set_cons_zero, List.set_cons_succ]
      refine wpAnyH_take (i := 10) (oi := { dst := some 28, op := Op.binOp BinOp.rem 5 (Operand.tmp 27) (Operand.const (Value.int IntKind.u8 16)) 5, type := 5, pos := "law.go:174", after := #[{ on := 9, ground := Ground.data }], guard := none }) (v := ?vwa10r5o10) rfl (by kernel_rfl) (by kernel_rfl) (by kernel_rfl) (fun _ _ _ h => h) (Or.inl ⟨by rfl, ?hwa10r5o10⟩) hS ?_
      case hwa10r5o10 => (intro wx hx; skip; go_simp; (try with_reducible rfl))
      try simp only [Act.put, List.setIfInBounds_toArray, List.set_cons_zero, List.set_cons_succ]
      refine wpAnyH_take (i := 11) (oi := { dst := some 29, op := Op.convert 5 3 (Operand.tmp 28), type := 3, pos := "law.go:174", after := #[{ on := 10, ground := Ground.data }], guard := none }) (v := ?vwa10r5o11) rfl (by kernel_rfl) (by kernel_rfl) (by kernel_rfl) (fun _ _ _ h => h) (Or.inl ⟨by rfl, ?hwa10r5o11⟩) hS ?_
      case hwa10r5o11 => (intro wx hx; obtain ⟨f0, f1, f2, d0⟩ := SPut.all hx; go_simp; (try with_reducible rfl))
      try simp only [Act.put, List.setIfInBounds_toArray, List.set_cons_zero, List.set_cons_succ]
      refine wpAnyH_ready (rs := [4]) (by kernel_rfl) (by simp) ?_
      refine AllReadyH.cons (o := { dst := some 22, op := Op.call { callee := Callee.value (Operand.func 24), args := #[Operand.tmp 18, Operand.tmp 21], argTypes := #[25, 3] }, type := 3, pos := "law.go:174", after := #[{ on := 0, ground := Ground.data }, { on := 3, ground := Ground.data }], guard := none }) rfl (fun K hK => ?_) AllReadyH.nil
      go_simp
      refine (HBa.out _).mono ?_
      rintro e v1 ⟨rfl, hn⟩
      have hOn := Lib.hid (hOr.out.quiet hn)
      clear hOr hn
      have hOr := hOn
      clear hOn
      refine hK.out _ _ ?hswa10r5o4 (fun hS => ?_)
      case hswa10r5o4 => (exact ⟨HG.out _ _ hOr.out, (Hc.out _ hOr.out.grown).1, (Hc.out _ hOr.out.grown).2⟩)
      clear hK K
      try simp only [Act.put, List.setIfInBounds_toArray, List.set_cons_zero, List.set_cons_succ]
      refine wpAnyH_take (i := 12) (oi := { dst := some 30, op := Op.binOp BinOp.add 3 (Operand.tmp 22) (Operand.tmp 29) 3, type := 3, pos := "law.go:174", after := #[{ on := 4, ground := Ground.data }, { on := 11, ground := Ground.data }], guard := none }) (v := ?vwa10r5o12) rfl (by kernel_rfl) (by kernel_rfl) (by kernel_rfl) (fun _ _ _ h => h) (Or.inl ⟨by rfl, ?hwa10r5o12⟩) hS ?_
      case hwa10r5o12 => (intro wx hx; skip; go_simp; (try with_reducible rfl))
      try simp only [Act.put, List.setIfInBounds_toArray, List.set_cons_zero, List.set_cons_succ]
      refine wpAnyH_take (i := 13) (oi := { dst := some 9, op := Op.assign (Operand.tmp 30), type := 3, pos := "law.go:174", after := #[{ on := 12, ground := Ground.data }, { on := 4, ground := Ground.chain }, { on := 0, ground := Ground.phase }, { on := 1, ground := Ground.phase }, { on := 2, ground := Ground.phase }, { on := 3, ground := Ground.phase }, { on := 4, ground := Ground.phase }, { on := 5, ground := Ground.phase }, { on := 6, ground := Ground.phase }, { on := 7, ground := Ground.phase }, { on := 8, ground := Ground.phase }, { on := 9, ground := Ground.phase }, { on := 10, ground := Ground.phase }, { on := 11, ground := Ground.phase }, { on := 12, ground := Ground.phase }], guard := none }) (v := ?vwa10r5o13) rfl (by kernel_rfl) (by kernel_rfl) (by kernel_rfl) (fun _ _ _ h => h) (Or.inl ⟨by rfl, ?hwa10r5o13⟩) hS ?_
      case hwa10r5o13 => (intro wx hx; skip; go_simp; (try with_reducible rfl))
      try simp only [Act.put, List.setIfInBounds_toArray, List.set_cons_zero, List.set_cons_succ]
      refine wpAnyH_done (by kernel_rfl) ?_ _
      clear hz1 HBa hS wk2 wk2' wk3 wk3' wkk wkk3
      obtain ⟨e0, he0⟩ : ∃ e, hasW W (U : Int) n = e := ⟨_, rfl⟩
      have He0 := Lib.hid he0
      clear he0
      go_wp2_with fail
      go_loopw [10, 11] (fun bv i wr => ∃ (m : Nat), m ≤ n ∧ i = .int .i64 (m : Int) ∧ bv = .bool (hasW W (U : Int) m) ∧ Hid (Grommet.Own w0 wr ((Ps ++ [boxP G 25 #[.int .i64 (a : Int), .int .i64 (b : Int), .int .i64 (c : Int)]]) ++ [rowP 41 2 (.slice ad n cap) n (icells W)]))) (fun _ i _ => n - (intOf i).toNat)
      case atStart => exact ⟨0, Nat.zero_le _, rfl, rfl, hOr⟩
      case round =>
        clear hOr
        obtain ⟨m, hm, rfl, rfl, hO⟩ := hrel
        have m0 : (0 : Int) ≤ (m : Int) := by omega
        by_cases hlm : m < n
        · as_aux_lemma =>
          have hlm' : (m : Int) < (n : Int) := by omega
          have wm : IntKind.i64.wrap ((m : Int) + 1) = (m : Int) + 1 := IntWalk.i64_in _ ⟨by omega, by omega⟩
          obtain ⟨hat, _, _, _⟩ := Own.pairs hO.out (Ps.length + 1) (HrowI _)
          obtain ⟨q, o, rfl, c1, _⟩ := at_ipair hat m (by rw [HWl.out]; exact hlm)
          have hsn : hasW W (U : Int) (m + 1) = (hasW W (U : Int) m || ((W.getD m (0, 0)).1 == (U : Int))) := by
            unfold hasW
            rw [take_snocD W m (0, 0) (by rw [HWl.out]; exact hlm), List.any_append]
            simp
          obtain ⟨Y, hY⟩ : ∃ Y, (W.getD m (0, 0)).1 = Y := ⟨_, rfl⟩
          rw [hY] at c1 hsn
          obtain ⟨f, hf⟩ : ∃ f, (Y == (U : Int)) = f := ⟨_, rfl⟩
          rw [hf] at hsn
          have hOE := Lib.hid (fun nq => hO.out.quiet (grown_drewN _ nq none))
          clear hO hat hY
          cases hb : hasW W (U : Int) m with
          | true =>
            rw [hb] at hsn
            have Hsn : Hid (hasW W (U : Int) (m + 1) = true) := Lib.hid (by rw [hsn]; rfl)
            clear hb hsn
            go_wp2
            go_roundw
            case rel => exact ⟨m + 1, by omega, by go_num, by rw [Hsn.out], by first | exact hOE.out 0 | exact Lib.hid (hOE.out _) | exact Lib.hid (hOE.out 0)⟩
            case measure => simp [intOf]; omega
          | false =>
            rw [hb] at hsn
            have Hsn : Hid (hasW W (U : Int) (m + 1) = f) := Lib.hid (by rw [hsn]; simp)
            clear hb hsn
            go_wp2
            go_roundw
            case rel => exact ⟨m + 1, by omega, by go_num, by rw [Hsn.out], by first | exact hOE.out 0 | exact Lib.hid (hOE.out _) | exact Lib.hid (hOE.out 0)⟩
            case measure => simp [intOf]; omega
        · as_aux_lemma =>
          obtain rfl : n = m := by omega
          have hlm' : ¬ (n : Int) < (n : Int) := by omega
          rw [He0.out]
          cases e0 with
          | true =>
            clear HsetI Hdrop HG
            go_wp2_with fail
            go_roundw
            case rel => exact ⟨j + 1, n, W, ad, cap, by omega, by omega, by go_num, rfl, HWl, HGW, hO⟩
            case measure => simp [intOf]; omega
          | false =>
            have HGW2 : Hid (GoodW B (W ++ [((U : Int), V)])) := Lib.hid (by
              have := HGW.out.snoc (t := s) (v := V) Hs16.out hV.out (by rw [HU.out, HWl.out]; exact He0.out)
              rw [HU.out] at this
              exact this)
            have d1 := (Hc.out wr hO.out.grown).2
            obtain ⟨ad2, cap2, w2, hr, hO2⟩ := wr_added hO.out (Ps.length + 1) (HrowI _) (U : Int) V 36 (by omega)
            rw [HsetI] at hO2
            have hO2 := Lib.hid hO2
            have HWl2 : Hid ((W ++ [((U : Int), V)]).length = n + 1) := Lib.hid (by rw [List.length_append, HWl.out]; rfl)
            clear HsetI Hdrop HG hO Hc HGW HU Hs16 hV He0 HrowI HWl
            go_wp2_with (at_builtin; refine wpList_append_run rfl _ _ _ rfl _ _ _ rfl rfl hr ?_)
            go_roundw
            case rel => exact ⟨j + 1, n + 1, W ++ [((U : Int), V)], ad2, cap2, by omega, by omega, by go_num, rfl, HWl2, HGW2, hO2⟩
            case measure => simp [intOf]; omega
    · as_aux_lemma =>
      obtain rfl : tl = j := by omega
      have hlt' : ¬ (tl : Int) < (tl : Int) := by omega
      have hO4 := Lib.hid (Hdrop.out _ _ hO.out)
      clear hO Hdrop HG HsetI HrowI
      go_wp2
      go_ret
      exact ⟨W, n, ad, cap, rfl, HWl.out, hnj, HGW.out, hO4.out⟩
end Go.Proofs.Ytpdofdloclmbdaa
end
section
/- How many steps there are, of which phases. -/
namespace Go.Proofs.Ytpdofdloclmbdaa
open Go.RowKit Go.Grommet

def phs (S : List (Nat × Cl)) : List Nat := S.map (·.1)
theorem phs_append (S T : List (Nat × Cl)) : phs (S ++ T) = phs S ++ phs T := List.map_append
theorem phs_stores (p : Nat) (Q : List (Nat × Nat)) : phs (storesS p Q) = List.replicate Q.length p := by
  unfold phs storesS; rw [List.map_map]; exact List.map_const' ..
theorem phs_settle (M p : Nat) (ps : List Nat) : phs (settleS M p ps) = List.replicate ((linesOf M ps).length + 1) p := by
  unfold settleS
  rw [phs_append, List.replicate_succ']
  congr 1
  unfold phs flushS; rw [List.map_map]; exact List.map_const' ..
theorem lines_eq (M : Nat) (ps zs : List Nat) (hz : zs.Pairwise (· < ·)) (hm : ∀ x, x ∈ zs ↔ x < M ∧ ∃ p ∈ ps, p / 8 = x) : linesOf M ps = zs := by
  have h := rising_eq ((linesOf M ps).map (fun l : Nat => (l : Int))) (zs.map (fun l : Nat => (l : Int))) (by rw [List.pairwise_map]; exact (lines_rising M ps).imp (fun h => by omega)) (by rw [List.pairwise_map]; exact hz.imp (fun h => by omega)) (fun x => by
    constructor
    · intro hx
      obtain ⟨l, hl, rfl⟩ := List.mem_map.1 hx
      exact List.mem_map.2 ⟨l, (hm l).2 (lines_mem.1 hl), rfl⟩
    · intro hx
      obtain ⟨l, hl, rfl⟩ := List.mem_map.1 hx
      exact List.mem_map.2 ⟨l, lines_mem.2 ((hm l).1 hl), rfl⟩)
  have := congrArg (List.map Int.toNat) h
  rw [List.map_map, List.map_map, show (Int.toNat ∘ fun l : Nat => (l : Int)) = id from rfl, List.map_id, List.map_id] at this
  exact this
theorem lines_one (M A : Nat) (h : A / 8 < M) : linesOf M [A] = [A / 8] :=
  lines_eq M [A] [A / 8] (by simp) (fun x => by
    simp only [List.mem_singleton]
    constructor
    · rintro rfl; exact ⟨h, A, rfl, rfl⟩
    · rintro ⟨_, p, rfl, rfl⟩; rfl)
theorem lines_seal (M A Z : Nat) (xs : List Nat) (h8 : A % 8 = 0) (h : (A + 8 + Z) / 8 < M) : linesOf M ((sealQ A xs Z).map (·.1)) = List.range' (A / 8 + 1) ((Z + 7) / 8) := by
  refine lines_eq M _ _ (List.pairwise_lt_range' ..) (fun x => ?_)
  rw [List.mem_range'_1]
  constructor
  · intro hx
    refine ⟨by omega, 8 * x, ?_, by omega⟩
    refine List.mem_map.2 ⟨(8 * x, xs.getD (8 * x - (A + 8)) 0), ?_, rfl⟩
    unfold sealQ
    refine List.mem_map.2 ⟨8 * x - (A + 8), List.mem_range.2 (by omega), ?_⟩
    rw [show A + 8 + (8 * x - (A + 8)) = 8 * x by omega]
  · rintro ⟨_, p, hp, rfl⟩
    obtain ⟨q, hq, rfl⟩ := List.mem_map.1 hp
    unfold sealQ at hq
    obtain ⟨i, hi, rfl⟩ := List.mem_map.1 hq
    have := List.mem_range.1 hi
    show A / 8 + 1 ≤ (A + 8 + i) / 8 ∧ (A + 8 + i) / 8 < A / 8 + 1 + (Z + 7) / 8
    omega
/-- The phases of a begin, one behind the other. -/
theorem phs_begin (M A : Nat) (W : List (Int × Nat)) (n L : Nat) (hn : W.length = n) (hL : (linesOf M ((wrQ W).map (·.1))).length = L) (h8 : A % 8 = 0) (hM : (A + 8 + (2 + 2 * n)) / 8 < M) :
    phs (beginS M A W) = List.replicate (2 + 2 * n) 1 ++ (List.replicate ((2 + 2 * n + 7) / 8 + 1) 2 ++ (List.replicate 3 3 ++ (List.replicate n 4 ++ (List.replicate (L + 1) 5 ++ List.replicate 3 6)))) := by
  have hR : (recR W).length = 2 + 2 * n := by rw [recR_length, hn]
  have hA : A / 8 < M := by omega
  have hm : ∀ p v, phs (markS M p A v) = List.replicate 3 p := by
    intro p v
    show p :: phs (settleS M p [A]) = _
    rw [phs_settle, lines_one M A hA]
    rfl
  unfold beginS sealS applyS
  simp only [phs_append, phs_stores, phs_settle, hm, sealQ_len, hR, hL]
  rw [lines_seal M A (2 + 2 * n) (recR W) h8 (by omega), List.length_range', show (wrQ W).length = n from by unfold wrQ; rw [List.length_map, hn]]
  simp only [List.append_assoc]
/-- What the law wants. -/
def wantL (n L : Nat) : List Nat := [0, 2 + 2 * n, (2 + 2 * n + 7) / 8 + 1, 3, n, L + 1, 3]
theorem count_rep (n p q : Nat) : (List.replicate n p).count q = if p = q then n else 0 := by
  rw [List.count_replicate]
  by_cases h : p = q
  · rw [if_pos h, if_pos (by simp [h])]
  · rw [if_neg h, if_neg (by simp [h])]
theorem phs_count {P : List Nat} {n L : Nat} (h : P = List.replicate (2 + 2 * n) 1 ++ (List.replicate ((2 + 2 * n + 7) / 8 + 1) 2 ++ (List.replicate 3 3 ++ (List.replicate n 4 ++ (List.replicate (L + 1) 5 ++ List.replicate 3 6))))) (q : Nat) (hq : q < 7) : P.count q = (wantL n L).getD q 0 := by
  subst h
  simp only [List.count_append, count_rep]
  have : q = 0 ∨ q = 1 ∨ q = 2 ∨ q = 3 ∨ q = 4 ∨ q = 5 ∨ q = 6 := by omega
  rcases this with rfl | rfl | rfl | rfl | rfl | rfl | rfl <;> simp [wantL]
theorem phs_len {P : List Nat} {n L : Nat} (h : P = List.replicate (2 + 2 * n) 1 ++ (List.replicate ((2 + 2 * n + 7) / 8 + 1) 2 ++ (List.replicate 3 3 ++ (List.replicate n 4 ++ (List.replicate (L + 1) 5 ++ List.replicate 3 6))))) : P.length = (wantL n L).sum := by
  subst h
  simp [wantL]; omega
theorem phs_rising {P : List Nat} {n L : Nat} (h : P = List.replicate (2 + 2 * n) 1 ++ (List.replicate ((2 + 2 * n + 7) / 8 + 1) 2 ++ (List.replicate 3 3 ++ (List.replicate n 4 ++ (List.replicate (L + 1) 5 ++ List.replicate 3 6))))) : P.Pairwise (· ≤ ·) ∧ ∀ p ∈ P, 1 ≤ p ∧ p ≤ 6 := by
  subst h
  have hr : ∀ (m p : Nat), (List.replicate m p).Pairwise (· ≤ ·) := fun m p => List.pairwise_replicate.2 (.inr (Nat.le_refl _))
  constructor
  · simp only [List.pairwise_append, hr, true_and, List.mem_append, List.mem_replicate]
    refine ⟨⟨⟨⟨?_, ?_⟩, ?_⟩, ?_⟩, ?_⟩ <;> · intro a ha b hb; omega
  · simp only [List.mem_append, List.mem_replicate]
    intro p hp
    omega
/-- Each call of a begin may be done. -/
theorem ok_settle (M p N : Nat) (ps : List Nat) (h : M = N / 8) : ∀ s ∈ settleS M p ps, s.2.ok N := by
  intro s hs
  unfold settleS at hs
  rcases List.mem_append.1 hs with hs | hs
  · unfold flushS at hs
    obtain ⟨l, hl, rfl⟩ := List.mem_map.1 hs
    show l < N / 8
    have := (lines_mem.1 hl).1
    omega
  · obtain rfl := List.mem_singleton.1 hs; trivial
theorem ok_stores (p N : Nat) (Q : List (Nat × Nat)) (h : ∀ q ∈ Q, q.1 < N ∧ q.2 < 18446744073709551616) : ∀ s ∈ storesS p Q, s.2.ok N := by
  intro s hs
  unfold storesS at hs
  obtain ⟨q, hq, rfl⟩ := List.mem_map.1 hs
  exact h q hq
theorem ok_begin (M A N : Nat) (W : List (Int × Nat)) (hM : M = N / 8) (hA : A + 8 + (recR W).length ≤ N) (hR : ∀ x ∈ recR W, x < 18446744073709551616) (hW : ∀ p ∈ W, p.1.toNat < N ∧ p.2 < 18446744073709551616) (hmk : markV (recR W) < 18446744073709551616) : ∀ s ∈ beginS M A W, s.2.ok N := by
  have hmark : ∀ p v, v < 18446744073709551616 → ∀ s ∈ markS M p A v, s.2.ok N := by
    intro p v hv s hs
    unfold markS at hs
    rcases List.mem_cons.1 hs with rfl | hs
    · exact ⟨by omega, hv⟩
    · exact ok_settle M p N _ hM s hs
  have hw : ∀ q ∈ wrQ W, q.1 < N ∧ q.2 < 18446744073709551616 := by
    intro q hq
    unfold wrQ at hq
    obtain ⟨p, hp, rfl⟩ := List.mem_map.1 hq
    exact hW p hp
  have hse : ∀ q ∈ sealQ A (recR W) (recR W).length, q.1 < N ∧ q.2 < 18446744073709551616 := by
    intro q hq
    unfold sealQ at hq
    obtain ⟨i, hi, rfl⟩ := List.mem_map.1 hq
    have hi := List.mem_range.1 hi
    refine ⟨by show A + 8 + i < N; omega, ?_⟩
    show (recR W).getD i 0 < _
    rw [List.getD_eq_getElem?_getD, List.getElem?_eq_getElem hi]
    exact hR _ (by simp)
  intro s hs
  unfold beginS sealS applyS at hs
  simp only [List.mem_append] at hs
  rcases hs with ((hs | hs) | hs) | (hs | hs) | hs
  · exact ok_stores 1 N _ hse s hs
  · exact ok_settle M 2 N _ hM s hs
  · exact hmark 3 _ hmk s hs
  · exact ok_stores 4 N _ hw s hs
  · exact ok_settle M 5 N _ hM s hs
  · exact hmark 6 0 (by decide) s hs
theorem markV_lt (xs : List Nat) : markV xs < 18446744073709551616 := by
  unfold markV
  split
  · exact Nat.mod_lt _ (by decide)
  · decide
/-- Writes of two blocks may be. -/
theorem good_may {a b c B : Nat} {W : List (Int × Nat)} (h : GoodW B W) (hm : mayB (a : Int) (b : Int) (c : Int) = true) (hl : W.length ≤ 96) (h1 : 280 + 208 * a + 16 * b ≤ B) (h2 : B + 16 ≤ 280 + 208 * a + 16 * b + 8 * c) : mayW (a : Int) (b : Int) (c : Int) W = true := by
  unfold mayW
  refine decide_eq_true ⟨hl, hm, fun i hi => ?_⟩
  have hmem : W.getD i (0, 0) ∈ W := getD_mem W i (0, 0) hi
  obtain ⟨t, ht, e⟩ := h.at_ _ hmem
  refine ⟨?_, fun j hj => ?_⟩
  · unfold standB
    rw [e, wh_block hm (by omega) (by omega)]
    rfl
  · have := (List.pairwise_iff_getElem.1 h.once) j i (by omega) hi hj
    rw [List.getD_eq_getElem?_getD, List.getD_eq_getElem?_getD, List.getElem?_eq_getElem hi, List.getElem?_eq_getElem (by omega : j < W.length)]
    exact this
end Go.Proofs.Ytpdofdloclmbdaa
end
section
/- What is seen, and sure, behind the steps of a begin. -/
namespace Go.Proofs.Ytpdofdloclmbdaa
open Go.RowKit Go.Grommet

def doAll (S : List (Nat × Cl)) (ws : List PW) : List PW := S.foldl (fun ws s => s.2.does ws) ws
theorem doAll_append (S T : List (Nat × Cl)) (ws : List PW) : doAll (S ++ T) ws = doAll T (doAll S ws) := List.foldl_append
theorem doAll_len (S : List (Nat × Cl)) : ∀ ws, (doAll S ws).length = ws.length := by
  induction S with
  | nil => intro ws; rfl
  | cons s S ih => intro ws; show (doAll S (s.2.does ws)).length = _; rw [ih, Cl.does_len]
def seenL (ws : List PW) : List Nat := ws.map (·.seen)
/-- What the stores make of words. -/
def putQ (ys : List Nat) (Q : List (Nat × Nat)) : List Nat := Q.foldl (fun l q => l.set q.1 q.2) ys
theorem putQ_append (ys : List Nat) (Q R : List (Nat × Nat)) : putQ ys (Q ++ R) = putQ (putQ ys Q) R := List.foldl_append
theorem putQ_len (Q : List (Nat × Nat)) : ∀ ys : List Nat, (putQ ys Q).length = ys.length := by
  induction Q with
  | nil => intro ys; rfl
  | cons q Q ih => intro ys; show (putQ (ys.set q.1 q.2) Q).length = _; rw [ih, List.length_set]
theorem putQ_miss (Q : List (Nat × Nat)) (i : Nat) : ∀ (ys : List Nat), (∀ q ∈ Q, q.1 ≠ i) → (putQ ys Q).getD i 0 = ys.getD i 0 := by
  induction Q with
  | nil => intro ys _; rfl
  | cons q Q ih =>
    intro ys h
    show (putQ (ys.set q.1 q.2) Q).getD i 0 = _
    rw [ih _ (fun r hr => h r (List.mem_cons_of_mem _ hr)), getD_set, if_neg (fun e => h q (List.mem_cons_self ..) e.1.symm)]
theorem putQ_hit (Q : List (Nat × Nat)) (i : Nat) : ∀ (ys zs : List Nat), ys.length = zs.length → (∃ q ∈ Q, q.1 = i) → (putQ ys Q).getD i 0 = (putQ zs Q).getD i 0 := by
  induction Q with
  | nil => intro ys zs _ h; obtain ⟨q, hq, _⟩ := h; cases hq
  | cons q Q ih =>
    intro ys zs hl h
    show (putQ (ys.set q.1 q.2) Q).getD i 0 = (putQ (zs.set q.1 q.2) Q).getD i 0
    by_cases hx : ∃ r ∈ Q, r.1 = i
    · exact ih _ _ (by rw [List.length_set, List.length_set, hl]) hx
    · have hm : ∀ r ∈ Q, r.1 ≠ i := fun r hr e => hx ⟨r, hr, e⟩
      rw [putQ_miss Q i _ hm, putQ_miss Q i _ hm, getD_set, getD_set]
      obtain ⟨r, hr, e⟩ := h
      rcases List.mem_cons.1 hr with rfl | hr
      · rw [hl, e]
        by_cases h3 : i < zs.length
        · rw [if_pos ⟨rfl, h3⟩, if_pos ⟨rfl, h3⟩]
        · rw [if_neg (fun e => h3 e.2), if_neg (fun e => h3 e.2), List.getD_eq_getElem?_getD, List.getD_eq_getElem?_getD, List.getElem?_eq_none (by omega), List.getElem?_eq_none (by omega)]
      · exact absurd e (hm r hr)
theorem putQ_congr (Q : List (Nat × Nat)) (i : Nat) (ys zs : List Nat) (hl : ys.length = zs.length) (h : ys.getD i 0 = zs.getD i 0) : (putQ ys Q).getD i 0 = (putQ zs Q).getD i 0 := by
  by_cases hx : ∃ r ∈ Q, r.1 = i
  · exact putQ_hit Q i ys zs hl hx
  · have hm : ∀ r ∈ Q, r.1 ≠ i := fun r hr e => hx ⟨r, hr, e⟩
    rw [putQ_miss Q i _ hm, putQ_miss Q i _ hm, h]
theorem putQ_twice (Q : List (Nat × Nat)) (m : Nat) (ys : List Nat) (i : Nat) : (putQ (putQ ys (Q.take m)) Q).getD i 0 = (putQ ys Q).getD i 0 := by
  by_cases hx : ∃ r ∈ Q, r.1 = i
  · exact putQ_hit Q i _ _ (putQ_len _ _) hx
  · have hm : ∀ r ∈ Q, r.1 ≠ i := fun r hr e => hx ⟨r, hr, e⟩
    rw [putQ_miss Q i _ hm, putQ_miss Q i _ hm, putQ_miss _ i _ (fun r hr => hm r (List.mem_of_mem_take hr))]
theorem appl_putQ (W : List (Int × Nat)) : ∀ xs : List Nat, appl xs W = putQ xs (wrQ W) := by
  induction W with
  | nil => intro xs; rfl
  | cons p W ih => intro xs; exact ih (xs.set p.1.toNat p.2)
/-- The stores among steps. -/
def stQ : List (Nat × Cl) → List (Nat × Nat)
  | [] => []
  | (_, .store a v) :: S => (a, v) :: stQ S
  | (_, .flush _) :: S => stQ S
  | (_, .fence) :: S => stQ S
theorem stQ_append : ∀ (S T : List (Nat × Cl)), stQ (S ++ T) = stQ S ++ stQ T
  | [], _ => rfl
  | (_, .store a v) :: S, T => by show (a, v) :: stQ (S ++ T) = _; rw [stQ_append S T]; rfl
  | (_, .flush _) :: S, T => stQ_append S T
  | (_, .fence) :: S, T => stQ_append S T
theorem seen_store (a v : Nat) (ws : List PW) : seenL (ws.modify a (·.store v)) = (seenL ws).set a v := by
  unfold seenL
  apply List.ext_getElem?
  intro i
  rw [List.getElem?_map, List.getElem?_modify]
  by_cases h : a = i
  · subst h
    by_cases hl : a < ws.length
    · rw [List.getElem?_set_self (by simpa using hl), List.getElem?_eq_getElem hl]; simp [PW.store]
    · rw [List.getElem?_eq_none (by omega), List.getElem?_eq_none (by simpa using (by omega : ws.length ≤ a))]; rfl
  · rw [List.getElem?_set_ne h, List.getElem?_map]; cases ws[i]? <;> simp [h]
theorem seen_flush (c : PW) : c.flush.seen = c.seen := by unfold PW.flush; split <;> rfl
theorem seen_fence (c : PW) : c.fence.seen = c.seen := by unfold PW.fence; split <;> rfl
theorem seen_does (cl : Cl) (ws : List PW) : seenL (cl.does ws) = putQ (seenL ws) (stQ [(0, cl)]) := by
  cases cl with
  | store a v => exact seen_store a v ws
  | flush l =>
    show seenL (turnFrom PW.flush (8 * l) 8 ws) = seenL ws
    unfold seenL
    apply List.ext_getElem?
    intro i
    rw [List.getElem?_map, List.getElem?_map, turnFrom_get]
    split
    · cases ws[i]? <;> simp [seen_flush]
    · rfl
  | fence =>
    show seenL (ws.map PW.fence) = seenL ws
    unfold seenL
    rw [List.map_map]
    congr 1
    funext c
    exact seen_fence c
theorem seen_all (S : List (Nat × Cl)) : ∀ ws, seenL (doAll S ws) = putQ (seenL ws) (stQ S) := by
  induction S with
  | nil => intro ws; rfl
  | cons s S ih =>
    intro ws
    show seenL (doAll S (s.2.does ws)) = _
    rw [ih, seen_does]
    obtain ⟨p, cl⟩ := s
    cases cl <;> rfl
theorem stQ_stores (p : Nat) (Q : List (Nat × Nat)) : stQ (storesS p Q) = Q := by
  induction Q with
  | nil => rfl
  | cons q Q ih => show (q.1, q.2) :: stQ (storesS p Q) = _; rw [ih]
theorem stQ_settle (M p : Nat) (ps : List Nat) : stQ (settleS M p ps) = [] := by
  unfold settleS
  rw [stQ_append]
  have : ∀ Z : List Nat, stQ (flushS p Z) = [] := by
    intro Z
    induction Z with
    | nil => rfl
    | cons z Z ih => exact ih
  rw [this]
  rfl
theorem stQ_mark (M p A v : Nat) : stQ (markS M p A v) = [(A, v)] := by
  show (A, v) :: stQ (settleS M p [A]) = _
  rw [stQ_settle]
theorem stQ_take (S : List (Nat × Cl)) (t : Nat) : ∃ m, stQ (S.take t) = (stQ S).take m := by
  have h := stQ_append (S.take t) (S.drop t)
  rw [List.take_append_drop] at h
  exact ⟨(stQ (S.take t)).length, by rw [h, List.take_left' rfl]⟩

/-! One transaction: stores, flushes of their lines, a fence. -/
def hitQ (Q : List (Nat × Nat)) (i : Nat) : Bool := Q.any (fun q => q.1 == i)
def stW (y z : Nat) (h : Bool) : PW := if h then ⟨y, z, true, false, false, 0⟩ else cleanW y
def stL (ys : List Nat) (Q : List (Nat × Nat)) : List PW := (List.range ys.length).map fun i => stW (ys.getD i 0) ((putQ ys Q).getD i 0) (hitQ Q i)
theorem stL_get (ys : List Nat) (Q : List (Nat × Nat)) (i : Nat) (h : i < ys.length) : (stL ys Q)[i]? = some (stW (ys.getD i 0) ((putQ ys Q).getD i 0) (hitQ Q i)) := by
  unfold stL; rw [List.getElem?_map, List.getElem?_range h]; rfl
theorem stL_len (ys : List Nat) (Q : List (Nat × Nat)) : (stL ys Q).length = ys.length := by simp [stL]
theorem cleanL_get (ys : List Nat) (i : Nat) (h : i < ys.length) : (cleanL ys)[i]? = some (cleanW (ys.getD i 0)) := by
  unfold cleanL; rw [List.getElem?_map, List.getElem?_eq_getElem h, List.getD_eq_getElem?_getD, List.getElem?_eq_getElem h]; rfl
theorem hitQ_not {Q : List (Nat × Nat)} {i : Nat} (h : hitQ Q i = false) : ∀ q ∈ Q, q.1 ≠ i := by
  unfold hitQ at h
  rw [List.any_eq_false] at h
  intro q hq e
  exact h q hq (by rw [e]; exact beq_self_eq_true _)
theorem stores_all (p : Nat) (ys : List Nat) (Q : List (Nat × Nat)) : ∀ j, j ≤ Q.length → doAll (storesS p (Q.take j)) (cleanL ys) = stL ys (Q.take j)
  | 0, _ => by
    refine ext_len (by rw [stL_len]; show (cleanL ys).length = _; rw [cleanL_len]) (fun i hi => ?_)
    rw [stL_len] at hi
    show (cleanL ys)[i]? = _
    rw [stL_get _ _ _ hi, cleanL_get _ _ hi]
    rfl
  | j + 1, h => by
    have hq : Q[j]? = some Q[j] := List.getElem?_eq_getElem (by omega)
    rw [take_snocN hq, storesS_snoc, doAll_append, stores_all p ys Q j (by omega)]
    show (stL ys (Q.take j)).modify Q[j].1 (·.store Q[j].2) = _
    refine ext_len (by rw [List.length_modify, stL_len, stL_len]) (fun i hi => ?_)
    rw [stL_len] at hi
    rw [List.getElem?_modify, stL_get _ _ _ hi, stL_get _ _ _ hi, putQ_append]
    have hh : hitQ (Q.take j ++ [Q[j]]) i = (hitQ (Q.take j) i || (Q[j].1 == i)) := by unfold hitQ; rw [List.any_append]; simp
    have hp : (putQ (putQ ys (Q.take j)) [Q[j]]).getD i 0 = if i = Q[j].1 ∧ Q[j].1 < ys.length then Q[j].2 else (putQ ys (Q.take j)).getD i 0 := by
      show ((putQ ys (Q.take j)).set Q[j].1 Q[j].2).getD i 0 = _
      rw [getD_set, putQ_len]
    rw [hh, hp]
    by_cases e : Q[j].1 = i
    · rw [if_pos ⟨e.symm, by omega⟩]
      simp only [e, beq_self_eq_true, Bool.or_true, if_true]
      cases hitQ (Q.take j) i <;> simp [stW, cleanW, PW.store]
    · rw [if_neg (fun x => e x.1.symm)]
      have : (Q[j].1 == i) = false := by rw [beq_eq_false_iff_ne]; exact e
      rw [this, Bool.or_false]
      simp [e]
theorem flush_all (p : Nat) : ∀ (Z : List Nat) (ws : List PW), Z.Pairwise (· < ·) → ∀ i, (doAll (flushS p Z) ws)[i]? = if i / 8 ∈ Z then (ws[i]?).map PW.flush else ws[i]?
  | [], ws, _, i => by rw [if_neg (by simp)]; rfl
  | z :: Z, ws, h, i => by
    rw [List.pairwise_cons] at h
    show (doAll (flushS p Z) (turnFrom PW.flush (8 * z) 8 ws))[i]? = _
    rw [flush_all p Z _ h.2 i, turnFrom_get]
    by_cases h1 : i / 8 = z
    · have h2 : ¬ i / 8 ∈ Z := fun hm => by have := h.1 _ hm; omega
      rw [if_neg h2, if_pos (by omega), if_pos (by rw [h1]; exact List.mem_cons_self ..)]
    · rw [if_neg (by omega : ¬ (8 * z ≤ i ∧ i < 8 * z + 8))]
      by_cases h2 : i / 8 ∈ Z
      · rw [if_pos h2, if_pos (List.mem_cons_of_mem _ h2)]
      · rw [if_neg h2, if_neg (by simp [h1, h2])]
/-- Behind a transaction all is sure. -/
theorem tx_all (M p p' : Nat) (ys : List Nat) (Q : List (Nat × Nat)) (hM : M = ys.length / 8) (h8 : ys.length % 8 = 0) : doAll (storesS p Q ++ settleS M p' (Q.map (·.1))) (cleanL ys) = cleanL (putQ ys Q) := by
  have hst := stores_all p ys Q Q.length (Nat.le_refl _)
  rw [List.take_length] at hst
  rw [doAll_append, hst]
  unfold settleS
  rw [doAll_append]
  show (doAll (flushS p' (linesOf M (Q.map (·.1)))) (stL ys Q)).map PW.fence = _
  refine ext_len (by rw [List.length_map, doAll_len, stL_len, cleanL_len, putQ_len]) (fun i hi => ?_)
  rw [cleanL_len, putQ_len] at hi
  rw [List.getElem?_map, flush_all p' _ _ (lines_rising _ _) i, stL_get _ _ _ hi, cleanL_get _ _ (by rw [putQ_len]; exact hi)]
  cases hh : hitQ Q i with
  | true =>
    have hm : i / 8 ∈ linesOf M (Q.map (·.1)) := by
      rw [lines_mem]
      unfold hitQ at hh
      rw [List.any_eq_true] at hh
      obtain ⟨q, hq, e⟩ := hh
      have e := eq_of_beq e
      exact ⟨by omega, q.1, List.mem_map.2 ⟨q, hq, rfl⟩, by rw [e]⟩
    rw [if_pos hm]
    simp [stW, PW.flush, PW.fence, cleanW]
  | false =>
    have := putQ_miss Q i ys (hitQ_not hh)
    rw [this]
    split <;> simp [stW, PW.flush, PW.fence, cleanW]
theorem tx_mark (M p A v : Nat) (ys : List Nat) (hM : M = ys.length / 8) (h8 : ys.length % 8 = 0) : doAll (markS M p A v) (cleanL ys) = cleanL (putQ ys [(A, v)]) := tx_all M p p ys [(A, v)] hM h8
/-- All steps of a begin. -/
theorem begin_all (M A : Nat) (W : List (Int × Nat)) (xs : List Nat) (hM : M = xs.length / 8) (h8 : xs.length % 8 = 0) :
    doAll (beginS M A W) (cleanL xs) = cleanL (putQ (putQ (putQ (putQ xs (sealQ A (recR W) (recR W).length)) [(A, markV (recR W))]) (wrQ W)) [(A, 0)]) := by
  unfold beginS
  rw [doAll_append, doAll_append, show doAll (sealS M A (recR W)) (cleanL xs) = cleanL (putQ xs (sealQ A (recR W) (recR W).length)) from tx_all M 1 2 xs _ hM h8, tx_mark M 3 A _ _ (by rw [putQ_len]; exact hM) (by rw [putQ_len]; exact h8)]
  unfold applyS
  rw [doAll_append, tx_all M 4 5 _ _ (by simp only [putQ_len]; exact hM) (by simp only [putQ_len]; exact h8), tx_mark M 6 A _ _ (by simp only [putQ_len]; exact hM) (by simp only [putQ_len]; exact h8)]
theorem stQ_begin (M A : Nat) (W : List (Int × Nat)) : stQ (beginS M A W) = sealQ A (recR W) (recR W).length ++ ((A, markV (recR W)) :: (wrQ W ++ [(A, 0)])) := by
  unfold beginS sealS applyS
  simp only [stQ_append, stQ_stores, stQ_settle, stQ_mark, List.append_assoc]
  rfl
end Go.Proofs.Ytpdofdloclmbdaa
end
section
/- Over of what is seen behind any step of a begin. -/
namespace Go.Proofs.Ytpdofdloclmbdaa
open Go.RowKit Go.Grommet

theorem over_one {a k : Nat} {b c : Int} {ys : List Nat} {W : List (Int × Nat)} (hl : 264 + 208 * a ≤ ys.length) (hk : k < a) (hs : ∀ j, j < a → j ≠ k → ys.getD (264 + 208 * j) 0 = 0) (hc : commB (a : Int) b c ys (264 + 208 * k) = true) (hW : commM ys (264 + 208 * k) = W) (hp : ∀ q ∈ wrQ W, 264 + 208 * a ≤ q.1) :
    ∀ j, j ≤ a → ∀ i, (overS (a : Int) b c ys j).getD i 0 = if 264 ≤ i ∧ i < 264 + 208 * j then 0 else if k < j then (putQ ys (wrQ W)).getD i 0 else ys.getD i 0
  | 0, _, i => by rw [if_neg (by omega), if_neg (by omega)]; rfl
  | j + 1, hj, i => by
    have ih := over_one hl hk hs hc hW hp j (by omega)
    have hlen : (overS (a : Int) b c ys j).length = ys.length := overS_length _ _ _ _ _
    by_cases hjk : j = k
    · subst hjk
      rw [overS, if_pos hc, hW, appl_putQ, zap_get _ _ _ _ (by rw [putQ_len, hlen]; omega)]
      by_cases h1 : 264 + 208 * j ≤ i ∧ i < 264 + 208 * j + 208
      · rw [if_pos h1, if_pos (by omega)]
      · rw [if_neg h1]
        by_cases h2 : 264 ≤ i ∧ i < 264 + 208 * j
        · rw [if_pos (by omega), putQ_miss _ _ _ (fun q hq e => by have := hp q hq; omega), ih i, if_pos h2]
        · rw [if_neg (by omega), if_pos (by omega)]
          exact putQ_congr _ _ _ _ hlen (by rw [ih i, if_neg h2, if_neg (by omega)])
    · have hn : commB (a : Int) b c ys (264 + 208 * j) = false := by unfold commB; rw [hs j (by omega) hjk]; rfl
      rw [overS, if_neg (by rw [hn]; decide), zap_get _ _ _ _ (by rw [hlen]; omega), ih i]
      by_cases h1 : 264 + 208 * j ≤ i ∧ i < 264 + 208 * j + 208
      · rw [if_pos h1, if_pos (by omega)]
      · rw [if_neg h1]
        by_cases h2 : 264 ≤ i ∧ i < 264 + 208 * j
        · rw [if_pos h2, if_pos (by omega)]
        · by_cases h3 : k < j
          · rw [if_neg h2, if_pos h3, if_neg (by omega), if_pos (by omega)]
          · rw [if_neg h2, if_neg h3, if_neg (by omega), if_neg (by omega)]
theorem seal_mem {A : Nat} {xs : List Nat} {j : Nat} {q : Nat × Nat} (h : q ∈ sealQ A xs j) : A + 8 ≤ q.1 ∧ q.1 < A + 8 + j := by
  unfold sealQ at h
  obtain ⟨i, hi, rfl⟩ := List.mem_map.1 h
  have := List.mem_range.1 hi
  exact ⟨by show A + 8 ≤ A + 8 + i; omega, by show A + 8 + i < A + 8 + j; omega⟩
theorem seal_get (A : Nat) (R xs : List Nat) (i : Nat) : ∀ j, i < j → A + 8 + j ≤ xs.length → (putQ xs (sealQ A R j)).getD (A + 8 + i) 0 = R.getD i 0
  | 0, h, _ => by omega
  | j + 1, h, hl => by
    rw [sealQ_snoc, putQ_append]
    show ((putQ xs (sealQ A R j)).set (A + 8 + j) (R.getD j 0)).getD (A + 8 + i) 0 = _
    rw [getD_set, putQ_len]
    by_cases e : i = j
    · subst e; rw [if_pos ⟨rfl, by omega⟩]
    · rw [if_neg (by omega)]
      exact seal_get A R xs i j (by omega) (by omega)
theorem rest_begins {A : Nat} {R ys : List Nat} (hl : A + 208 ≤ ys.length) (hR : R.length ≤ 200) (h : ∀ i, i < R.length → ys.getD (A + 8 + i) 0 = R.getD i 0) : ∃ B, restL ys A = R ++ B := by
  refine ⟨(restL ys A).drop R.length, ?_⟩
  have hrl : (restL ys A).length = 200 := by unfold restL; rw [List.length_take, List.length_drop]; omega
  have ht : (restL ys A).take R.length = R := by
    refine ext_len (by rw [List.length_take, hrl]; omega) (fun i hi => ?_)
    have := h i hi
    rw [List.getElem?_take, if_pos hi]
    unfold restL
    rw [List.getElem?_take, if_pos (by omega), List.getElem?_drop, List.getElem?_eq_getElem (by omega), List.getElem?_eq_getElem hi]
    rw [List.getD_eq_getElem?_getD, List.getD_eq_getElem?_getD, List.getElem?_eq_getElem (by omega), List.getElem?_eq_getElem hi] at this
    exact congrArg some this
  conv => lhs; rw [← List.take_append_drop R.length (restL ys A)]
  rw [ht]
/-- What the law's begin is: a worker, its writes, words in which all areas are 0. -/
structure QIs (a k n : Nat) (W : List (Int × Nat)) (xs : List Nat) : Prop where
  may : mayW (a : Int) 2 10 W = true
  fine : Fine W
  len : W.length = n
  ka : k < a
  n40 : n ≤ 40
  long : 264 + 208 * a ≤ xs.length
  zero : ∀ i, 264 ≤ i → i < 264 + 208 * a → xs.getD i 0 = 0
  far : ∀ q ∈ wrQ W, 264 + 208 * a ≤ q.1
variable {a k n : Nat} {W : List (Int × Nat)} {xs : List Nat}
theorem QIs.rl (h : QIs a k n W xs) : (recR W).length = 2 + 2 * n := by rw [recR_length, h.len]
/-- The record, and its mark, in place; some writes done. -/
theorem QIs.marked (h : QIs a k n W xs) (m : Nat) : overS (a : Int) 2 10 (putQ (putQ (putQ xs (sealQ (264 + 208 * k) (recR W) (recR W).length)) [(264 + 208 * k, markV (recR W))]) ((wrQ W).take m)) a = putQ xs (wrQ W) := by
  obtain ⟨A, hA⟩ : ∃ A, 264 + 208 * k = A := ⟨_, rfl⟩
  have hka := h.ka
  have hrl := h.rl
  have hn := h.n40
  have hlg := h.long
  obtain ⟨Y, hY⟩ : ∃ Y, putQ (putQ xs (sealQ A (recR W) (recR W).length)) [(A, markV (recR W))] = Y := ⟨_, rfl⟩
  rw [hA, hY]
  have hYl : Y.length = xs.length := by rw [← hY, putQ_len, putQ_len]
  have hfar : ∀ q ∈ (wrQ W).take m, 264 + 208 * a ≤ q.1 := fun q hq => h.far q (List.mem_of_mem_take hq)
  -- what stands where
  have hYA : Y.getD A 0 = markV (recR W) := by
    rw [← hY]
    show ((putQ xs (sealQ A (recR W) (recR W).length)).set A (markV (recR W))).getD A 0 = _
    rw [getD_set, if_pos ⟨rfl, by rw [putQ_len]; omega⟩]
  have hYR : ∀ i, i < (recR W).length → Y.getD (A + 8 + i) 0 = (recR W).getD i 0 := by
    intro i hi
    rw [← hY]
    show ((putQ xs (sealQ A (recR W) (recR W).length)).set A (markV (recR W))).getD (A + 8 + i) 0 = _
    rw [getD_set, if_neg (by omega)]
    exact seal_get A (recR W) xs i _ hi (by omega)
  have hYo : ∀ i, i < A ∨ A + 208 ≤ i → Y.getD i 0 = xs.getD i 0 := by
    intro i hi
    rw [← hY, putQ_miss _ _ _ (fun q hq e => by obtain rfl := List.mem_singleton.1 hq; have e : A = i := e; omega), putQ_miss _ _ _ (fun q hq e => by have := seal_mem hq; omega)]
  obtain ⟨ys, hys⟩ : ∃ ys, putQ Y ((wrQ W).take m) = ys := ⟨_, rfl⟩
  rw [hys]
  have hyl : ys.length = xs.length := by rw [← hys, putQ_len, hYl]
  have hyY : ∀ i, i < 264 + 208 * a → ys.getD i 0 = Y.getD i 0 := fun i hi => by
    rw [← hys]
    exact putQ_miss _ _ _ (fun q hq e => by have := hfar q hq; omega)
  obtain ⟨B, hB⟩ := rest_begins (A := A) (R := recR W) (ys := ys) (by omega) (by omega) (fun i hi => by rw [hyY _ (by omega)]; exact hYR i hi)
  have hb := recR_begins W B
  have hb0 := recR_begins W []
  rw [List.append_nil] at hb0
  have hmk : markV (recR W ++ B) = markV (recR W) := by rw [hb.mark h.fine.few, hb0.mark h.fine.few]
  have hc : commB (a : Int) 2 10 ys A = true := by
    unfold commB
    rw [hB, hmk, hyY A (by omega), hYA, read_back h.fine B, h.may, decide_eq_true rfl]
    have : markV (recR W) ≠ 0 := by
      rw [hb0.mark h.fine.few]
      omega
    simp [this]
  have hcm : commM ys A = W := by
    unfold commM
    rw [hB, hb.head, writes_back h.fine B]
  have hov := over_one (a := a) (k := k) (b := 2) (c := 10) (ys := ys) (W := W) (by omega) hka (fun j hj hne => by
    rw [hyY _ (by omega), hYo _ (by omega)]
    exact h.zero _ (by omega) (by omega)) (by rw [hA]; exact hc) (by rw [hA]; exact hcm) h.far a (Nat.le_refl _)
  refine list_getD_ext (by rw [overS_length, putQ_len, hyl]) (fun i => ?_)
  rw [hov i]
  by_cases hi : 264 ≤ i ∧ i < 264 + 208 * a
  · rw [if_pos hi, putQ_miss _ _ _ (fun q hq e => by have := h.far q hq; omega), h.zero i hi.1 hi.2]
  · rw [if_neg hi, if_pos hka, ← hys, putQ_twice]
    exact putQ_congr _ _ _ _ hYl (hYo i (by omega))
/-- No commit word stands; outside of the worker's area words are these. -/
theorem over_nothing {zs ys : List Nat} (h : QIs a k n W xs) (hl : ys.length = zs.length) (hz : zs.length = xs.length) (h0 : ∀ i, 264 ≤ i → i < 264 + 208 * a → zs.getD i 0 = 0) (hA : ys.getD (264 + 208 * k) 0 = 0) (ho : ∀ i, i < 264 + 208 * k ∨ 264 + 208 * k + 208 ≤ i → ys.getD i 0 = zs.getD i 0) : overS (a : Int) 2 10 ys a = zs := by
  have hka := h.ka
  have hlg := h.long
  have hst : Still a ys := fun j hj => by
    by_cases e : j = k
    · rw [e]; exact hA
    · rw [ho _ (by omega)]; exact h0 _ (by omega) (by omega)
  have hov := over_still (b := 2) (c := 10) hst (by omega) a (Nat.le_refl _)
  refine list_getD_ext (by rw [overS_length, hl]) (fun i => ?_)
  rw [hov i]
  by_cases hi : 264 ≤ i ∧ i < 264 + 208 * a
  · rw [if_pos hi, h0 i hi.1 hi.2]
  · rw [if_neg hi, ho i (by omega)]
theorem done_zero (h : QIs a k n W xs) : ∀ i, 264 ≤ i → i < 264 + 208 * a → (putQ xs (wrQ W)).getD i 0 = 0 := fun i h1 h2 => by
  rw [putQ_miss _ _ _ (fun q hq e => by have := h.far q hq; omega)]
  exact h.zero i h1 h2
/-- All stores done. -/
def fullQ (k : Nat) (W : List (Int × Nat)) (xs : List Nat) : List Nat := putQ (putQ (putQ (putQ xs (sealQ (264 + 208 * k) (recR W) (recR W).length)) [(264 + 208 * k, markV (recR W))]) (wrQ W)) [(264 + 208 * k, 0)]
theorem full_len : (fullQ k W xs).length = xs.length := by unfold fullQ; simp only [putQ_len]
theorem full_head (h : QIs a k n W xs) : (fullQ k W xs).getD (264 + 208 * k) 0 = 0 := by
  have := h.ka
  have := h.long
  unfold fullQ
  show (List.set _ (264 + 208 * k) 0).getD (264 + 208 * k) 0 = 0
  rw [getD_set]
  split
  · rfl
  · rename_i hx
    exact absurd ⟨rfl, by simp only [putQ_len]; omega⟩ hx
theorem full_out (h : QIs a k n W xs) (i : Nat) (hi : i < 264 + 208 * k ∨ 264 + 208 * k + 208 ≤ i) : (fullQ k W xs).getD i 0 = (putQ xs (wrQ W)).getD i 0 := by
  have hrl := h.rl
  have hn := h.n40
  unfold fullQ
  rw [putQ_miss _ _ _ (fun q hq e => by obtain rfl := List.mem_singleton.1 hq; have e : 264 + 208 * k = i := e; omega)]
  refine putQ_congr _ _ _ _ (by simp only [putQ_len]) ?_
  rw [putQ_miss _ _ _ (fun q hq e => by obtain rfl := List.mem_singleton.1 hq; have e : 264 + 208 * k = i := e; omega), putQ_miss _ _ _ (fun q hq e => by have := seal_mem hq; omega)]
theorem full_over (h : QIs a k n W xs) : overS (a : Int) 2 10 (fullQ k W xs) a = putQ xs (wrQ W) :=
  over_nothing h (by rw [full_len, putQ_len]) (putQ_len _ _) (done_zero h) (full_head h) (full_out h)
/-- Behind any steps Over is what it was, or all is done. -/
theorem quiet_over (h : QIs a k n W xs) (M t : Nat) : overS (a : Int) 2 10 (putQ xs (stQ ((beginS M (264 + 208 * k) W).take t))) a = xs ∨ overS (a : Int) 2 10 (putQ xs (stQ ((beginS M (264 + 208 * k) W).take t))) a = putQ xs (wrQ W) := by
  have hrl := h.rl
  have hn := h.n40
  have hka := h.ka
  obtain ⟨m, hm⟩ := stQ_take (beginS M (264 + 208 * k) W) t
  rw [hm, stQ_begin]
  have hsl := sealQ_len (264 + 208 * k) (recR W) (recR W).length
  have hwl : (wrQ W).length = n := by unfold wrQ; rw [List.length_map, h.len]
  by_cases h1 : m ≤ (recR W).length
  · refine .inl ?_
    rw [List.take_append_of_le_length (by rw [hsl]; exact h1)]
    have hmem : ∀ q ∈ (sealQ (264 + 208 * k) (recR W) (recR W).length).take m, 264 + 208 * k + 8 ≤ q.1 ∧ q.1 < 264 + 208 * k + 208 := fun q hq => by
      have := seal_mem (List.mem_of_mem_take hq); omega
    exact over_nothing h (putQ_len _ _) rfl h.zero (by rw [putQ_miss _ _ _ (fun q hq e => by have := hmem q hq; omega)]; exact h.zero _ (by omega) (by omega)) (fun i hi => putQ_miss _ _ _ (fun q hq e => by have := hmem q hq; omega))
  · refine .inr ?_
    rw [List.take_append, List.take_of_length_le (by rw [hsl]; omega), putQ_append, hsl]
    obtain ⟨r, hr⟩ : ∃ r, m - (recR W).length = r + 1 := ⟨m - (recR W).length - 1, by omega⟩
    rw [hr, List.take_succ_cons]
    change overS (a : Int) 2 10 (putQ (putQ (putQ xs (sealQ (264 + 208 * k) (recR W) (recR W).length)) [(264 + 208 * k, markV (recR W))]) (List.take r (wrQ W ++ [(264 + 208 * k, 0)]))) a = _
    by_cases h2 : r ≤ n
    · rw [List.take_append_of_le_length (by rw [hwl]; exact h2)]
      exact h.marked r
    · rw [List.take_of_length_le (by rw [List.length_append, hwl]; show n + 1 ≤ r; omega), putQ_append]
      exact full_over h
end Go.Proofs.Ytpdofdloclmbdaa
end
section
/- The law's words with writes done. -/
namespace Go.Proofs.Ytpdofdloclmbdaa
open Go.RowKit Go.Grommet

theorem get_last {Ps : List Pr} {Q : Pr} : (Ps ++ [Q])[Ps.length]? = some Q := by
  rw [List.getElem?_append_right (Nat.le_refl _)]; simp
theorem wrQ_take_snoc {W : List (Int × Nat)} {j : Nat} {x : Int × Nat} (h : W[j]? = some x) (xs : List Nat) : putQ xs (wrQ (W.take (j + 1))) = (putQ xs (wrQ (W.take j))).set x.1.toNat x.2 := by
  rw [wrQ_snoc h, putQ_append]; rfl

set_option maxRecDepth 100000 in
set_option maxHeartbeats 4000000 in
theorem doesH (m1 m2 : Nat) (q N Nc : Nat) (xs : List Nat) (ad : Option Addr) (n cap : Nat) (W : List (Int × Nat)) (w0 w : World) (Ps : List Pr) (h : Grommet.Own w0 w Ps) (h1 : Ps[m1]? = some (rowP 39 1 (.slice (some ⟨q, 0, none⟩) N Nc) N (xs.map wv))) (h2 : Ps[m2]? = some (rowP 41 2 (.slice ad n cap) n (icells W))) (hxl : xs.length = N) (hxs : ∀ n ∈ xs, n < 18446744073709551616) (hN : N ≤ 100000) (hN1 : 0 < N) (hn : W.length = n) (hn1 : n ≤ 1000) (hW : ∀ x ∈ W, 0 ≤ x.1 ∧ x.1.toNat < N) :
    Calls Try.prog 16 #[.slice (some ⟨q, 0, none⟩) N Nc, .slice ad n cap] w fun e w' => ∃ ad' cp, e = .returned (.slice ad' N cp) ∧ Grommet.Own w0 w' (Ps ++ [rowP 39 1 (.slice ad' N cp) N ((putQ xs (wrQ W)).map wv)]) := by
  have hm2 := (List.getElem?_eq_some_iff.1 h2).1
  obtain ⟨hx, _, _⟩ := Own.words h m1 h1 hxs (by omega)
  have Hxl := Lib.hid hxl
  have Hn := Lib.hid hn
  have HW := Lib.hid hW
  have HO := Lib.hid h
  clear h hxl hn hW h1
  go_enter Try.func16, Try.ntmps16
  go_wp2_with (at_builtin; refine app64 rfl _ _ rfl w.heap.size _ 0 [] rfl (own_lit w _ 1 w.heap.size (Nat.le_refl _)) (some ⟨q, 0, none⟩) N Nc xs rfl ?a1 (by simp) ?a2 ?a3 ?_)
  case a1 => exact hx.keep (World.grownBy_alloc w _ none) (by simp)
  case a2 => omega
  case a3 => simp
  intro v1 w1 hown hg
  have hg := grown_new (World.grownBy_alloc w _ none) hg (by intro g e; cases e; exact Nat.le_refl _)
  try rw [List.nil_append] at hown
  try rw [Nat.zero_add] at hown
  obtain ⟨ad1, cp, rfl, _⟩ := row_slice hown
  have hO1 := HO.out.addRow hown hg
  have hcell : ∀ (j : Nat) (ys : List Nat) (wx : World), ys.length = N → j < N → Grommet.Own w0 wx (Ps ++ [rowP 39 1 (.slice ad1 N cp) N (ys.map wv)]) → ∃ b, ad1 = some ⟨b, 0, none⟩ ∧ wx.cell? ⟨b, j, none⟩ = some (wv (ys.getD j 0)) ∧ wx.frozen? ⟨b, j, none⟩ = false := by
    intro j ys wx hyl hj hOx
    have hjx : j < ys.length := by omega
    obtain ⟨b, he, c1, c2, _⟩ := Own.cell hOx Ps.length get_last j (wv (ys.getD j 0)) (by rw [List.getElem?_map, List.getElem?_eq_getElem hjx, List.getD_eq_getElem?_getD, List.getElem?_eq_getElem hjx]; rfl)
    exact ⟨b, he, c1, c2⟩
  obtain ⟨p, rfl, _, _⟩ := hcell 0 xs w1 Hxl.out hN1 hO1
  have hz0 : Hid (Grommet.Own w0 w1 (Ps ++ [rowP 39 1 (.slice (some ⟨p, 0, none⟩) N cp) N ((putQ xs (wrQ (W.take 0))).map wv)])) := Lib.hid hO1
  have Hcell := Lib.hid hcell
  clear hown hg hO1 hcell HO hx
  go_wp2_with fail
  go_loopw [6] (fun i wr => ∃ j : Nat, j ≤ n ∧ i = .int .i64 (j : Int) ∧ Hid (Grommet.Own w0 wr (Ps ++ [rowP 39 1 (.slice (some ⟨p, 0, none⟩) N cp) N ((putQ xs (wrQ (W.take j))).map wv)]))) (fun i _ => n - (intOf i).toNat)
  case atStart => exact ⟨0, Nat.zero_le _, rfl, hz0⟩
  case round =>
    clear hz0
    obtain ⟨j, hj, rfl, hO⟩ := hrel
    have j0 : (0 : Int) ≤ (j : Int) := by omega
    by_cases hlt : j < n
    · as_aux_lemma =>
      have hlt' : (j : Int) < (n : Int) := by omega
      obtain ⟨x, hx⟩ : ∃ x, W[j]? = some x := ⟨W[j]'(by rw [Hn.out]; exact hlt), List.getElem?_eq_getElem _⟩
      obtain ⟨hx0, hxN⟩ := HW.out x (List.mem_of_getElem? hx)
      have hxD : W.getD j (0, 0) = x := by rw [List.getD_eq_getElem?_getD, hx]; rfl
      obtain ⟨hat, _, _, _⟩ := Own.pairs hO.out m2 (by rw [List.getElem?_append_left hm2]; exact h2)
      obtain ⟨qq, o, rfl, c1, c2⟩ := at_ipair hat j (by rw [Hn.out]; exact hlt)
      rw [hxD] at c1 c2
      obtain ⟨U, hU⟩ : ∃ U : Nat, x.1.toNat = U := ⟨_, rfl⟩
      obtain ⟨V, hV⟩ : ∃ V : Nat, x.2 = V := ⟨_, rfl⟩
      rw [show x.1 = (U : Int) from by omega] at c1
      rw [hV] at c2
      rw [hU] at hxN
      obtain ⟨p', he, cK, fK⟩ := Hcell.out U (putQ xs (wrQ (W.take j))) wr (by rw [putQ_len, Hxl.out]) hxN hO.out
      cases he
      have hO2 := Own.store (hO.out.quiet (grown_drew (World.grownBy.refl _ none))) Ps.length get_last U (wv V)
      rw [← List.map_set, List.set_append_right _ _ (Nat.le_refl _), Nat.sub_self, List.set_cons_zero] at hO2
      rw [show (putQ xs (wrQ (W.take j))).set U V = putQ xs (wrQ (W.take (j + 1))) from by rw [wrQ_take_snoc hx, hU, hV]] at hO2
      have hO2 := Lib.hid hO2
      obtain ⟨Y, hY⟩ : ∃ Y, (putQ xs (wrQ (W.take j))).getD U 0 = Y := ⟨_, rfl⟩
      rw [hY] at cK
      unfold wv at cK
      have U0 : (0 : Int) ≤ (U : Int) := by omega
      have UN : (U : Int) < (N : Int) := by omega
      have wj : IntKind.i64.wrap ((j : Int) + 1) = (j : Int) + 1 := IntWalk.i64_in _ ⟨by omega, by omega⟩
      clear hO hat hx hx0 hxD hU hV hY Hcell HW h2
      go_wp2_with fail
      go_still_tail 12, (by kernel_rfl)
      change wpList _ _ _ _ _ (World.drew _)
      go_wp2
      go_roundw
      case rel => exact ⟨j + 1, by omega, by go_num, hO2⟩
      case measure => simp [intOf]; omega
    · as_aux_lemma =>
      obtain rfl : n = j := by omega
      have hlt' : ¬ (n : Int) < (n : Int) := by omega
      have hO2 := hO.out
      rw [List.take_of_length_le (by rw [Hn.out]; exact Nat.le_refl _)] at hO2
      have hO2 := Lib.hid hO2
      clear hO Hcell HW
      go_wp2
      go_ret
      exact ⟨_, _, rfl, hO2.out⟩
end Go.Proofs.Ytpdofdloclmbdaa
end
section
/- All of it. -/
end
