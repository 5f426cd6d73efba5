/- Texts of ours, packed. -/
import Derived.StillTailTactics
import Derived.Deep.DeepCutAuto
import Derived.BigQuiet
import Derived.Deep.QuietTactic
import Derived.Test.YtpdofdloclmbdaaGreatPk26
import Derived.Test.YtpdofdloclmbdaaGreatPk18
import Derived.Test.YtpdofdloclmbdaaGreatPk16
import Derived.Test.YtpdofdloclmbdaaGreatPk5
import Derived.Test.YtpdofdloclmbdaaGreatPk24
section
/- The law's writes. -/
namespace Go.Proofs.YtpdofdloclmbdaaGreat
open Go.RowKit Go.Grommet

/-- The things in another order, some left out. -/
theorem own_permute {w0 w : World} {Ps Qs : List Pr} (f : Nat → Nat) (h : Grommet.Own w0 w Ps) (key : ∀ j, j < Qs.length → f j < Ps.length ∧ Qs[j]? = Ps[f j]?) (inj : ∀ i j, i < Qs.length → j < Qs.length → i ≠ j → f i ≠ f j) : Grommet.Own w0 w Qs := by
  obtain ⟨Fs, h1, h2, h3, h4⟩ := h
  exact ⟨fun j => Fs (f j), fun k P hk => h1 _ P (by rw [← (key k (List.getElem?_eq_some_iff.1 hk).1).2]; exact hk), fun j k hj hk hne => h2 _ _ (key j hj).1 (key k hk).1 (inj j k hj hk hne), fun k hk => h3 _ (key k hk).1, h4⟩
/-- Writes of places of two blocks, each once. -/
structure GoodW (B : Nat) (W : List (Int × Nat)) : Prop where
  at_ : ∀ p ∈ W, ∃ t, t < 16 ∧ p.1 = ((B + t : Nat) : Int)
  val : ∀ p ∈ W, p.2 < 18446744073709551616
  once : W.Pairwise (fun p q => p.1 ≠ q.1)
def hasW (W : List (Int × Nat)) (x : Int) (k : Nat) : Bool := (W.take k).any (fun p => p.1 == x)
theorem GoodW.nil (B : Nat) : GoodW B [] := ⟨by simp, by simp, by simp⟩
theorem GoodW.snoc {B : Nat} {W : List (Int × Nat)} (h : GoodW B W) {t v : Nat} (ht : t < 16) (hv : v < 18446744073709551616) (hn : hasW W ((B + t : Nat) : Int) W.length = false) : GoodW B (W ++ [(((B + t : Nat) : Int), v)]) := by
  have hn' : ∀ p ∈ W, p.1 ≠ ((B + t : Nat) : Int) := by
    unfold hasW at hn
    rw [List.take_length, List.any_eq_false] at hn
    intro p hp e
    exact hn p hp (by rw [e]; exact beq_self_eq_true _)
  refine ⟨fun p hp => ?_, fun p hp => ?_, ?_⟩
  · rcases List.mem_append.1 hp with hp | hp
    · exact h.at_ p hp
    · obtain rfl := List.mem_singleton.1 hp; exact ⟨t, ht, rfl⟩
  · rcases List.mem_append.1 hp with hp | hp
    · exact h.val p hp
    · obtain rfl := List.mem_singleton.1 hp; exact hv
  · rw [List.pairwise_append]
    exact ⟨h.once, by simp, fun p hp q hq => by obtain rfl := List.mem_singleton.1 hq; exact hn' p hp⟩
/-- One write more behind a row. -/
theorem wr_added {w0 w : World} {Qs : List Pr} (h : Grommet.Own w0 w Qs) (k : Nat) {ad : Option Addr} {n cap : Nat} {W : List (Int × Nat)} (hk : Qs[k]? = some (rowP 92 2 (.slice ad n cap) n (icells W))) (x : Int) (v : Nat) (ty : TypeId) (hn : n ≤ 1000000) :
    ∃ ad' cap' w2, (Builtin.append_ #[43, 43] ty #[.slice ad n cap, .slice (some ⟨w.heap.size, 0, none⟩) 1 1]).run Tryz.prog (w.alloc (.cells #[.int .i64 x, .int .u64 (v : Int)] 92)) = .ok (.slice ad' (n + 1) cap') w2 ∧ Grommet.Own w0 w2 (Qs.set k (rowP 92 2 (.slice ad' (n + 1) cap') (n + 1) (icells (W ++ [(x, v)])))) := by
  obtain ⟨i0, hi, hz0, hz1, hz2⟩ := info_parts Tryz.info92
  have hO1 := h.quiet (World.grownBy_alloc w (.cells #[.int .i64 x, .int .u64 (v : Int)] 92) none)
  have hrow := Own.row hO1 k hk
  have hnews : ∀ j u, (icells [(x, v)])[j]? = some u → (w.alloc (.cells #[.int .i64 x, .int .u64 (v : Int)] 92)).cell? ((⟨w.heap.size, 0, none⟩ : Addr).add j) = some u := (at_of_row (heap_alloc_new w (.cells #[.int .i64 x, .int .u64 (v : Int)] 92))).some
  obtain ⟨v', w', hr, h2, h3, h4⟩ := run_append_blk (P := Tryz.prog) (w.alloc (.cells #[.int .i64 x, .int .u64 (v : Int)] 92)) 0 43 ty 92 i0 (.agg #[.int .i64 0, .int .u64 0]) 2 16 Tryz.underlying43 hi hz0 hz1 hz2 rfl (by decide) (.slice ad n cap) n (icells W) hrow ⟨w.heap.size, 0, none⟩ 1 1 (icells [(x, v)]) rfl hnews (icells_oneCell _) (by unfold maxLen; omega) (by omega) (Nat.zero_le _)
  obtain ⟨ad', cap', rfl, _⟩ := row_slice h2
  refine ⟨ad', cap', w', hr, ?_⟩
  rw [icells_append]
  exact Own.append hO1 k hk h2 h3 h4
/-- What a region keeps: the geometry, a put. -/
structure SPut (G : Nat) (a b c : Int) (t o : Nat) (x v : Int) (w : World) : Prop where
  geo : GeoQ G a b c w
  d0 : w.cell? ⟨t, o, none⟩ = some (.int .u8 x)
  d1 : w.cell? ⟨t, o + 1, none⟩ = some (.int .u64 v)
theorem SPut.all {G : Nat} {a b c : Int} {t o : Nat} {x v : Int} {w : World} (h : SPut G a b c t o x v w) : w.cell? ⟨G, 0, none⟩ = some (.int .i64 a) ∧ w.cell? ⟨G, 1, none⟩ = some (.int .i64 b) ∧ w.cell? ⟨G, 2, none⟩ = some (.int .i64 c) ∧ w.cell? ⟨t, o, none⟩ = some (.int .u8 x) := ⟨h.geo.cells.1, h.geo.cells.2.1, h.geo.cells.2.2, h.d0⟩
def WrAns (B tl : Nat) (w0 : World) (Ps : List Pr) (e : Ending) (w' : World) : Prop := ∃ W n ad cap, e = .returned (.slice ad n cap) ∧ W.length = n ∧ n ≤ tl ∧ GoodW B W ∧ Grommet.Own w0 w' (Ps ++ [rowP 92 2 (.slice ad n cap) n (icells W)])

set_option maxRecDepth 100000 in
set_option maxHeartbeats 8000000 in
theorem writesH (a b c k B : Nat) (td : Option Addr) (tl tc : Nat) (T : List Cpt) (w0 w : World) (Ps : List Pr) (h : Grommet.Own w0 w Ps) (hT : CptsIn w0 td tl T) (htl : tl ≤ 40) (hB : blockV (a : Int) (b : Int) (c : Int) ((1 + 2 * k : Nat) : Int) = (B : Int)) (hk : k ≤ 100) (hBs : B ≤ 100000) :
    Calls Tryz.prog 37 #[gv (a : Int) (b : Int) (c : Int), .int .i64 (k : Int), .slice td tl tc] w (WrAns B tl w0 Ps) := by
  have HT := Lib.hid hT
  obtain ⟨w1, hw1⟩ : ∃ w1, w.alloc (.cells #[.int .i64 (a : Int), .int .i64 (b : Int), .int .i64 (c : Int)] 26) = w1 := ⟨_, rfl⟩
  obtain ⟨G, hG⟩ : ∃ G, w.heap.size = G := ⟨_, rfl⟩
  have h1 := h.addBox 26 #[.int .i64 (a : Int), .int .i64 (b : Int), .int .i64 (c : Int)]
  rw [hw1, hG] at h1
  have hz0 : Hid (Grommet.Own w0 w1 ((Ps ++ [boxP G 26 #[.int .i64 (a : Int), .int .i64 (b : Int), .int .i64 (c : Int)]]) ++ [rowP 92 2 (.slice none 0 0) 0 (icells [])])) := Lib.hid (h1.add (P := rowP 92 2 (.slice none 0 0) 0 []) (F := fun _ => False) ⟨World.ownsRow_nil _ _ _ _, ⟨fun i hi => (by cases hi), fun i hi => False.elim hi⟩⟩ (fun i hi => False.elim hi) (World.grownBy.refl _ _))
  have HGd : ∀ (wx : World) (Q : Pr), Grommet.Own w0 wx ((Ps ++ [boxP G 26 #[.int .i64 (a : Int), .int .i64 (b : Int), .int .i64 (c : Int)]]) ++ [Q]) → GeoQ G (a : Int) (b : Int) (c : Int) wx := fun wx Q hO => hO.box Ps.length (by
    rw [List.getElem?_append_left (by simp), List.getElem?_append_right (Nat.le_refl _)]; simp)
  have HG := Lib.hid HGd
  have HrowI : ∀ (Q : Pr), ((Ps ++ [boxP G 26 #[.int .i64 (a : Int), .int .i64 (b : Int), .int .i64 (c : Int)]]) ++ [Q])[Ps.length + 1]? = some Q := fun Q => by
    rw [List.getElem?_append_right (by simp)]; simp
  have HsetI : ∀ (Q Q' : Pr), ((Ps ++ [boxP G 26 #[.int .i64 (a : Int), .int .i64 (b : Int), .int .i64 (c : Int)]]) ++ [Q]).set (Ps.length + 1) Q' = (Ps ++ [boxP G 26 #[.int .i64 (a : Int), .int .i64 (b : Int), .int .i64 (c : Int)]]) ++ [Q'] := fun Q Q' => by
    rw [List.set_append_right _ _ (by simp)]; simp
  have HdropI : ∀ (wx : World) (Q : Pr), Grommet.Own w0 wx ((Ps ++ [boxP G 26 #[.int .i64 (a : Int), .int .i64 (b : Int), .int .i64 (c : Int)]]) ++ [Q]) → Grommet.Own w0 wx (Ps ++ [Q]) := by
    intro wx Q hO
    refine own_permute (fun j => if j < Ps.length then j else Ps.length + 1) hO (fun j hj => ?_) (fun i j hi hj hne => ?_)
    · have hj' : j < Ps.length + 1 := by simpa using hj
      by_cases hjl : j < Ps.length
      · simp only [if_pos hjl]
        exact ⟨by simp; omega, (List.getElem?_append_left hjl).trans (by rw [List.append_assoc]; exact (List.getElem?_append_left hjl).symm)⟩
      · simp only [if_neg hjl]
        obtain rfl : j = Ps.length := by omega
        exact ⟨by simp, by rw [HrowI, List.getElem?_append_right (Nat.le_refl _)]; simp⟩
    · have hi' : i < Ps.length + 1 := by simpa using hi
      have hj' : j < Ps.length + 1 := by simpa using hj
      by_cases hil : i < Ps.length <;> by_cases hjl : j < Ps.length <;> simp only [hil, hjl, if_true, if_false] <;> omega
  have Hdrop := Lib.hid HdropI
  have HGW : Hid (GoodW B []) := Lib.hid (GoodW.nil B)
  have HBa := Lib.hid (fun wx => BlockAt_any (a : Int) (b : Int) (c : Int) ((1 + 2 * k : Nat) : Int) wx)
  rw [hB] at HBa
  obtain ⟨K2, hK2⟩ : ∃ n, 2 * k = n := ⟨_, rfl⟩
  obtain ⟨K3, hK3⟩ : ∃ n, 1 + 2 * k = n := ⟨_, rfl⟩
  rw [hK3] at HBa
  have wk2 : IntKind.i64.wrap (2 * (k : Int)) = (K2 : Int) := by rw [IntWalk.i64_in _ ⟨by omega, by omega⟩]; omega
  have wk2' : 2 * (k : Int) = (K2 : Int) := by omega
  have wk3 : IntKind.i64.wrap (1 + (K2 : Int)) = (K3 : Int) := by rw [IntWalk.i64_in _ ⟨by omega, by omega⟩]; omega
  have wk3' : 1 + (K2 : Int) = (K3 : Int) := by omega
  have wkk : IntKind.i64.wrap (K2 : Int) = (K2 : Int) := IntWalk.i64_in _ ⟨by omega, by omega⟩
  have wkk3 : IntKind.i64.wrap (K3 : Int) = (K3 : Int) := IntWalk.i64_in _ ⟨by omega, by omega⟩
  unfold gv at HBa ⊢
  clear h h1 hT hB hk HGd HdropI hK2 hK3
  go_enter Tryz.func37, Tryz.ntmps37
  go_wp2_with fail
  clear hw1 hG
  go_loopw [7, 8, 9, 10, 11] (fun lv i _ _ _ wr => ∃ (j n : Nat) (W : List (Int × Nat)) (ad : Option Addr) (cap : Nat), j ≤ tl ∧ n ≤ j ∧ i = .int .i64 (j : Int) ∧ lv = .slice ad n cap ∧ Hid (W.length = n) ∧ Hid (GoodW B W) ∧ Hid (Grommet.Own w0 wr ((Ps ++ [boxP G 26 #[.int .i64 (a : Int), .int .i64 (b : Int), .int .i64 (c : Int)]]) ++ [rowP 92 2 (.slice ad n cap) n (icells W)]))) (fun _ i _ _ _ _ => tl - (intOf i).toNat)
  case atStart => exact ⟨0, 0, [], none, 0, Nat.zero_le _, Nat.le_refl _, rfl, rfl, Lib.hid rfl, HGW, hz0⟩
  case round =>
    clear hz0 HGW
    obtain ⟨j, n, W, ad, cap, hj, hnj, rfl, rfl, HWl, HGW, hO⟩ := hrel
    have j0 : (0 : Int) ≤ (j : Int) := by omega
    by_cases hlt : j < tl
    · as_aux_lemma =>
      have hlt' : (j : Int) < (tl : Int) := by omega
      have hn40 : n ≤ 1000 := by omega
      obtain ⟨x, hx⟩ : ∃ x, T[j]? = some x := ⟨T[j]'(by rw [HT.out.1]; exact hlt), List.getElem?_eq_getElem _⟩
      obtain ⟨tg, to', rfl, d0, d1⟩ := (HT.out.grown hO.out.grown).2.2 j x hx
      obtain ⟨ok1, ok2⟩ := HT.out.2.1 x (List.mem_of_getElem? hx)
      have b1 := bounds_u8 ok1
      have b2 := bounds_u64 ok2
      have Hc := Lib.hid (fun wx (hg : w0.grownBy wx none) => (HT.out.grown hg).at j x hx)
      obtain ⟨xa, xv⟩ := x
      dsimp only at d0 d1 b1 b2 Hc
      obtain ⟨A, rfl⟩ := Int.eq_ofNat_of_zero_le b1.1
      obtain ⟨V, rfl⟩ := Int.eq_ofNat_of_zero_le b2.1
      have hV : Hid (V < 18446744073709551616) := Lib.hid (by omega)
      obtain ⟨s, hs⟩ : ∃ s, A % 16 = s := ⟨_, rfl⟩
      have hs16 : s < 16 := by omega
      have e5 : (A : Int) % 16 = (s : Int) := by omega
      have e6 : Int.tmod (A : Int) 16 = (s : Int) := by rw [Int.tmod_eq_emod_of_nonneg (by omega)]; exact e5
      have ws : IntKind.i64.wrap (s : Int) = (s : Int) := IntWalk.i64_in _ ⟨by omega, by omega⟩
      have ws8 : IntKind.u8.wrap (s : Int) = (s : Int) := IntWalk.u8_in _ ⟨by omega, by omega⟩
      obtain ⟨U, hU⟩ : ∃ U, B + s = U := ⟨_, rfl⟩
      have wU : IntKind.i64.wrap ((B : Int) + (s : Int)) = (U : Int) := by rw [IntWalk.i64_in _ ⟨by omega, by omega⟩]; omega
      have wj : IntKind.i64.wrap ((j : Int) + 1) = (j : Int) + 1 := IntWalk.i64_in _ ⟨by omega, by omega⟩
      have hOr := Lib.hid (hO.out.quiet (grown_drew (World.grownBy.refl _ none)))
      have hz1 : Hid (SPut G (a : Int) (b : Int) (c : Int) tg (to' + j * 2) (A : Int) (V : Int) _) := Lib.hid ⟨HG.out _ _ hOr.out, (Hc.out _ hOr.out.grown).1, (Hc.out _ hOr.out.grown).2⟩
      have Hs16 := Lib.hid hs16
      have HU := Lib.hid hU
      clear hO hx ok1 ok2 d0 d1 hs b1 b2 hs16 hU HT
      go_wp2_with fail
      refine wp_region_held_drew (S := fun w' => SPut G (a : Int) (b : Int) (c : Int) tg (to' + j * 2) (A : Int) (V : Int) w') (by kernel_rfl) (hz1.out) (fun hS => ?_)
      refine wpAnyH_take (i := 0) (oi := { dst := some 18, op := Op.load 26 (Operand.tmp 3), type := 26, pos := "law.go:174", after := #[], guard := none }) (v := ?vwa37r5o0) rfl (by kernel_rfl) (by kernel_rfl) (by kernel_rfl) (fun _ _ _ h => h) (Or.inl ⟨by rfl, ?hwa37r5o0⟩) hS ?_
      case hwa37r5o0 => (intro wx hx; obtain ⟨f0, f1, f2, d0⟩ := SPut.all hx; go_simp; (try with_reducible rfl))
      try simp only [Act.put, List.setIfInBounds_toArray, List.set_cons_zero, List.set_cons_succ]
      refine wpAnyH_take (i := 1) (oi := { dst := some 19, op := Op.move (Operand.tmp 1), type := 3, pos := "law.go:174", after := #[], guard := none }) (v := ?vwa37r5o1) rfl (by kernel_rfl) (by kernel_rfl) (by kernel_rfl) (fun _ _ _ h => h) (Or.inl ⟨by rfl, ?hwa37r5o1⟩) hS ?_
      case hwa37r5o1 => (intro wx hx; skip; go_simp; (try with_reducible rfl))
      try simp only [Act.put, List.setIfInBounds_toArray, List.set_cons_zero, List.set_cons_succ]
      refine wpAnyH_take (i := 2) (oi := { dst := some 20, op := Op.binOp BinOp.mul 3 (Operand.const (Value.int IntKind.i64 2)) (Operand.tmp 19) 3, type := 3, pos := "law.go:174", after := #[{ on := 1, ground := Ground.data }], guard := none }) (v := ?vwa37r5o2) rfl (by kernel_rfl) (by kernel_rfl) (by kernel_rfl) (fun _ _ _ h => h) (Or.inl ⟨by rfl, ?hwa37r5o2⟩) hS ?_
      case hwa37r5o2 => (intro wx hx; skip; go_simp; (try with_reducible rfl))
      try simp only [Act.put, List.setIfInBounds_toArray, List.set_cons_zero, List.set_cons_succ]
      refine wpAnyH_take (i := 3) (oi := { dst := some 21, op := Op.binOp BinOp.add 3 (Operand.const (Value.int IntKind.i64 1)) (Operand.tmp 20) 3, type := 3, pos := "law.go:174", after := #[{ on := 2, ground := Ground.data }], guard := none }) (v := ?vwa37r5o3) rfl (by kernel_rfl) (by kernel_rfl) (by kernel_rfl) (fun _ _ _ h => h) (Or.inl ⟨by rfl, ?hwa37r5o3⟩) hS ?_
      case hwa37r5o3 => (intro wx hx; skip; go_simp; (try with_reducible rfl))
      try simp only [Act.put, List.setIfInBounds_toArray, List.set_cons_zero, List.set_cons_succ]
      refine wpAnyH_take (i := 5) (oi := { dst := some 23, op := Op.move (Operand.tmp 2), type := 77, pos := "law.go:174", after := #[], guard := none }) (v := ?vwa37r5o5) rfl (by kernel_rfl) (by kernel_rfl) (by kernel_rfl) (fun _ _ _ h => h) (Or.inl ⟨by rfl, ?hwa37r5o5⟩) hS ?_
      case hwa37r5o5 => (intro wx hx; skip; go_simp; (try with_reducible rfl))
      try simp only [Act.put, List.setIfInBounds_toArray, List.set_cons_zero, List.set_cons_succ]
      refine wpAnyH_take (i := 6) (oi := { dst := some 24, op := Op.move (Operand.tmp 8), type := 3, pos := "law.go:174", after := #[], guard := none }) (v := ?vwa37r5o6) rfl (by kernel_rfl) (by kernel_rfl) (by kernel_rfl) (fun _ _ _ h => h) (Or.inl ⟨by rfl, ?hwa37r5o6⟩) hS ?_
      case hwa37r5o6 => (intro wx hx; skip; go_simp; (try with_reducible rfl))
      try simp only [Act.put, List.setIfInBounds_toArray, List.set_cons_zero, List.set_cons_succ]
      refine wpAnyH_take (i := 7) (oi := { dst := some 25, op := Op.indexAddr 77 (Operand.tmp 23) (Operand.tmp 24), type := 0, pos := "law.go:174", after := #[{ on := 5, ground := Ground.data }, { on := 6, ground := Ground.data }], guard := none }) (v := ?vwa37r5o7) rfl (by kernel_rfl) (by kernel_rfl) (by kernel_rfl) (fun _ _ _ h => h) (Or.inl ⟨by rfl, ?hwa37r5o7⟩) hS ?_
      case hwa37r5o7 => (intro wx hx; skip; go_simp; (try with_reducible rfl))
      try simp only [Act.put, List.setIfInBounds_toArray, List.set_cons_zero, List.set_cons_succ]
      refine wpAnyH_take (i := 8) (oi := { dst := some 26, op := Op.fieldAddr 152 (Operand.tmp 25) 0, type := 0, pos := "law.go:174", after := #[{ on := 7, ground := Ground.data }], guard := none }) (v := ?vwa37r5o8) rfl (by kernel_rfl) (by kernel_rfl) (by kernel_rfl) (fun _ _ _ h => h) (Or.inl ⟨by rfl, ?hwa37r5o8⟩) hS ?_
      case hwa37r5o8 => (intro wx hx; skip; go_simp; (try with_reducible rfl))
      try simp only [Act.put, List.setIfInBounds_toArray, List.set_cons_zero, List.set_cons_succ]
      refine wpAnyH_take (i := 9) (oi := { dst := some 27, op := Op.load 5 (Operand.tmp 26), type := 5, pos := "law.go:174", after := #[{ on := 8, ground := Ground.data }], guard := none }) (v := ?vwa37r5o9) rfl (by kernel_rfl) (by kernel_rfl) (by kernel_rfl) (fun _ _ _ h => h) (Or.inl ⟨by rfl, ?hwa37r5o9⟩) hS ?_
      case hwa37r5o9 => (intro wx hx; obtain ⟨f0, f1, f2, d0⟩ := SPut.all hx; go_simp; (try with_reducible rfl))
      try simp only [Act.put, List.setIfInBounds_toArray, List.set_cons_zero, List.set_cons_succ]
      refine wpAnyH_take (i := 10) (oi := { dst := some 28, op := Op.binOp BinOp.rem 5 (Operand.tmp 27) (Operand.const (Value.int IntKind.u8 16)) 5, type := 5, pos := "law.go:174", after := #[{ on := 9, ground := Ground.data }], guard := none }) (v := ?vwa37r5o10) rfl (by kernel_rfl) (by kernel_rfl) (by kernel_rfl) (fun _ _ _ h => h) (Or.inl ⟨by rfl, ?hwa37r5o10⟩) hS ?_
      case hwa37r5o10 => (intro wx hx; skip; go_simp; (try with_reducible rfl))
      try simp only [Act.put, List.setIfInBounds_toArray, List.set_cons_zero, List.set_cons_succ]
      refine wpAnyH_take (i := 11) (oi := { dst := some 29, op := Op.convert 5 3 (Operand.tmp 28), type := 3, pos := "law.go:174", after := #[{ on := 10, ground := Ground.data }], guard := none }) (v := ?vwa37r5o11) rfl (by kernel_rfl) (by kernel_rfl) (by kernel_rfl) (fun _ _ _ h => h) (Or.inl ⟨by rfl, ?hwa37r5o11⟩) hS ?_
      case hwa37r5o11 => (intro wx hx; obtain ⟨f0, f1, f2, d0⟩ := SPut.all hx; go_simp; (try with_reducible rfl))
      try simp only [Act.put, List.setIfInBounds_toArray, List.set_cons_zero, List.set_cons_succ]
      refine wpAnyH_ready (rs := [4]) (by kernel_rfl) (by simp) ?_
      refine AllReadyH.cons (o := { dst := some 22, op := Op.call { callee := Callee.value (Operand.func 45), args := #[Operand.tmp 18, Operand.tmp 21], argTypes := #[26, 3] }, type := 3, pos := "law.go:174", after := #[{ on := 0, ground := Ground.data }, { on := 3, ground := Ground.data }], guard := none }) rfl (fun K hK => ?_) AllReadyH.nil
      go_simp
      refine (HBa.out _).mono ?_
      rintro e v1 ⟨rfl, hn⟩
      have hOn := Lib.hid (hOr.out.quiet hn)
      clear hOr hn
      have hOr := hOn
      clear hOn
      refine hK.out _ _ ?hswa37r5o4 (fun hS => ?_)
      case hswa37r5o4 => (exact ⟨HG.out _ _ hOr.out, (Hc.out _ hOr.out.grown).1, (Hc.out _ hOr.out.grown).2⟩)
      clear hK K
      try simp only [Act.put, List.setIfInBounds_toArray, List.set_cons_zero, List.set_cons_succ]
      refine wpAnyH_take (i := 12) (oi := { dst := some 30, op := Op.binOp BinOp.add 3 (Operand.tmp 22) (Operand.tmp 29) 3, type := 3, pos := "law.go:174", after := #[{ on := 4, ground := Ground.data }, { on := 11, ground := Ground.data }], guard := none }) (v := ?vwa37r5o12) rfl (by kernel_rfl) (by kernel_rfl) (by kernel_rfl) (fun _ _ _ h => h) (Or.inl ⟨by rfl, ?hwa37r5o12⟩) hS ?_
      case hwa37r5o12 => (intro wx hx; skip; go_simp; (try with_reducible rfl))
      try simp only [Act.put, List.setIfInBounds_toArray, List.set_cons_zero, List.set_cons_succ]
      refine wpAnyH_take (i := 13) (oi := { dst := some 9, op := Op.assign (Operand.tmp 30), type := 3, pos := "law.go:174", after := #[{ on := 12, ground := Ground.data }, { on := 4, ground := Ground.chain }, { on := 0, ground := Ground.phase }, { on := 1, ground := Ground.phase }, { on := 2, ground := Ground.phase }, { on := 3, ground := Ground.phase }, { on := 4, ground := Ground.phase }, { on := 5, ground := Ground.phase }, { on := 6, ground := Ground.phase }, { on := 7, ground := Ground.phase }, { on := 8, ground := Ground.phase }, { on := 9, ground := Ground.phase }, { on := 10, ground := Ground.phase }, { on := 11, ground := Ground.phase }, { on := 12, ground := Ground.phase }], guard := none }) (v := ?vwa37r5o13) rfl (by kernel_rfl) (by kernel_rfl) (by kernel_rfl) (fun _ _ _ h => h) (Or.inl ⟨by rfl, ?hwa37r5o13⟩) hS ?_
      case hwa37r5o13 => (intro wx hx; skip; go_simp; (try with_reducible rfl))
      try simp only [Act.put, List.setIfInBounds_toArray, List.set_cons_zero, List.set_cons_succ]
      refine wpAnyH_done (by kernel_rfl) ?_ _
      clear hz1 HBa hS wk2 wk2' wk3 wk3' wkk wkk3
      obtain ⟨e0, he0⟩ : ∃ e, hasW W (U : Int) n = e := ⟨_, rfl⟩
      have He0 := Lib.hid he0
      clear he0
      go_wp2_with fail
      go_loopw [10, 11] (fun bv i wr => ∃ (m : Nat), m ≤ n ∧ i = .int .i64 (m : Int) ∧ bv = .bool (hasW W (U : Int) m) ∧ Hid (Grommet.Own w0 wr ((Ps ++ [boxP G 26 #[.int .i64 (a : Int), .int .i64 (b : Int), .int .i64 (c : Int)]]) ++ [rowP 92 2 (.slice ad n cap) n (icells W)]))) (fun _ i _ => n - (intOf i).toNat)
      case atStart => exact ⟨0, Nat.zero_le _, rfl, rfl, hOr⟩
      case round =>
        clear hOr
        obtain ⟨m, hm, rfl, rfl, hO⟩ := hrel
        have m0 : (0 : Int) ≤ (m : Int) := by omega
        by_cases hlm : m < n
        · as_aux_lemma =>
          have hlm' : (m : Int) < (n : Int) := by omega
          have wm : IntKind.i64.wrap ((m : Int) + 1) = (m : Int) + 1 := IntWalk.i64_in _ ⟨by omega, by omega⟩
          obtain ⟨hat, _, _, _⟩ := Own.pairs hO.out (Ps.length + 1) (HrowI _)
          obtain ⟨q, o, rfl, c1, _⟩ := at_ipair hat m (by rw [HWl.out]; exact hlm)
          have hsn : hasW W (U : Int) (m + 1) = (hasW W (U : Int) m || ((W.getD m (0, 0)).1 == (U : Int))) := by
            unfold hasW
            rw [take_snocD W m (0, 0) (by rw [HWl.out]; exact hlm), List.any_append]
            simp
          obtain ⟨Y, hY⟩ : ∃ Y, (W.getD m (0, 0)).1 = Y := ⟨_, rfl⟩
          rw [hY] at c1 hsn
          obtain ⟨f, hf⟩ : ∃ f, (Y == (U : Int)) = f := ⟨_, rfl⟩
          rw [hf] at hsn
          have hOE := Lib.hid (fun nq => hO.out.quiet (grown_drewN _ nq none))
          clear hO hat hY
          cases hb : hasW W (U : Int) m with
          | true =>
            rw [hb] at hsn
            have Hsn : Hid (hasW W (U : Int) (m + 1) = true) := Lib.hid (by rw [hsn]; rfl)
            clear hb hsn
            go_wp2
            go_roundw
            case rel => exact ⟨m + 1, by omega, by go_num, by rw [Hsn.out], by first | exact hOE.out 0 | exact Lib.hid (hOE.out _) | exact Lib.hid (hOE.out 0)⟩
            case measure => simp [intOf]; omega
          | false =>
            rw [hb] at hsn
            have Hsn : Hid (hasW W (U : Int) (m + 1) = f) := Lib.hid (by rw [hsn]; simp)
            clear hb hsn
            go_wp2
            go_roundw
            case rel => exact ⟨m + 1, by omega, by go_num, by rw [Hsn.out], by first | exact hOE.out 0 | exact Lib.hid (hOE.out _) | exact Lib.hid (hOE.out 0)⟩
            case measure => simp [intOf]; omega
        · as_aux_lemma =>
          obtain rfl : n = m := by omega
          have hlm' : ¬ (n : Int) < (n : Int) := by omega
          rw [He0.out]
          cases e0 with
          | true =>
            clear HsetI Hdrop HG
            go_wp2_with fail
            go_roundw
            case rel => exact ⟨j + 1, n, W, ad, cap, by omega, by omega, by go_num, rfl, HWl, HGW, hO⟩
            case measure => simp [intOf]; omega
          | false =>
            have HGW2 : Hid (GoodW B (W ++ [((U : Int), V)])) := Lib.hid (by
              have := HGW.out.snoc (t := s) (v := V) Hs16.out hV.out (by rw [HU.out, HWl.out]; exact He0.out)
              rw [HU.out] at this
              exact this)
            have d1 := (Hc.out wr hO.out.grown).2
            obtain ⟨ad2, cap2, w2, hr, hO2⟩ := wr_added hO.out (Ps.length + 1) (HrowI _) (U : Int) V 43 (by omega)
            rw [HsetI] at hO2
            have hO2 := Lib.hid hO2
            have HWl2 : Hid ((W ++ [((U : Int), V)]).length = n + 1) := Lib.hid (by rw [List.length_append, HWl.out]; rfl)
            clear HsetI Hdrop HG hO Hc HGW HU Hs16 hV He0 HrowI HWl
            go_wp2_with (at_builtin; refine wpList_append_run rfl _ _ _ rfl _ _ _ rfl rfl hr ?_)
            go_roundw
            case rel => exact ⟨j + 1, n + 1, W ++ [((U : Int), V)], ad2, cap2, by omega, by omega, by go_num, rfl, HWl2, HGW2, hO2⟩
            case measure => simp [intOf]; omega
    · as_aux_lemma =>
      obtain rfl : tl = j := by omega
      have hlt' : ¬ (tl : Int) < (tl : Int) := by omega
      have hO4 := Lib.hid (Hdrop.out _ _ hO.out)
      clear hO Hdrop HG HsetI HrowI
      go_wp2
      go_ret
      exact ⟨W, n, ad, cap, rfl, HWl.out, hnj, HGW.out, hO4.out⟩
end Go.Proofs.YtpdofdloclmbdaaGreat
end
section
/- How many steps there are, of which phases. -/
namespace Go.Proofs.YtpdofdloclmbdaaGreat
open Go.RowKit Go.Grommet

/-- Each call of a begin may be done. -/
theorem ok_settle (M p N : Nat) (ps : List Nat) (h : M = N / 8) : ∀ s ∈ settleS M p ps, s.2.ok N := by
  intro s hs
  unfold settleS at hs
  rcases List.mem_append.1 hs with hs | hs
  · unfold flushS at hs
    obtain ⟨l, hl, rfl⟩ := List.mem_map.1 hs
    show l < N / 8
    have := (lines_mem.1 hl).1
    omega
  · obtain rfl := List.mem_singleton.1 hs; trivial
theorem ok_stores (p N : Nat) (Q : List (Nat × Nat)) (h : ∀ q ∈ Q, q.1 < N ∧ q.2 < 18446744073709551616) : ∀ s ∈ storesS p Q, s.2.ok N := by
  intro s hs
  unfold storesS at hs
  obtain ⟨q, hq, rfl⟩ := List.mem_map.1 hs
  exact h q hq
theorem ok_begin (M A N : Nat) (W : List (Int × Nat)) (hM : M = N / 8) (hA : A + 8 + (recR W).length ≤ N) (hR : ∀ x ∈ recR W, x < 18446744073709551616) (hW : ∀ p ∈ W, p.1.toNat < N ∧ p.2 < 18446744073709551616) (hmk : markV (recR W) < 18446744073709551616) : ∀ s ∈ beginS M A W, s.2.ok N := by
  have hmark : ∀ p v, v < 18446744073709551616 → ∀ s ∈ markS M p A v, s.2.ok N := by
    intro p v hv s hs
    unfold markS at hs
    rcases List.mem_cons.1 hs with rfl | hs
    · exact ⟨by omega, hv⟩
    · exact ok_settle M p N _ hM s hs
  have hw : ∀ q ∈ wrQ W, q.1 < N ∧ q.2 < 18446744073709551616 := by
    intro q hq
    unfold wrQ at hq
    obtain ⟨p, hp, rfl⟩ := List.mem_map.1 hq
    exact hW p hp
  have hse : ∀ q ∈ sealQ A (recR W) (recR W).length, q.1 < N ∧ q.2 < 18446744073709551616 := by
    intro q hq
    unfold sealQ at hq
    obtain ⟨i, hi, rfl⟩ := List.mem_map.1 hq
    have hi := List.mem_range.1 hi
    refine ⟨by show A + 8 + i < N; omega, ?_⟩
    show (recR W).getD i 0 < _
    rw [List.getD_eq_getElem?_getD, List.getElem?_eq_getElem hi]
    exact hR _ (by simp)
  intro s hs
  unfold beginS sealS applyS at hs
  simp only [List.mem_append] at hs
  rcases hs with ((hs | hs) | hs) | (hs | hs) | hs
  · exact ok_stores 1 N _ hse s hs
  · exact ok_settle M 2 N _ hM s hs
  · exact hmark 3 _ hmk s hs
  · exact ok_stores 4 N _ hw s hs
  · exact ok_settle M 5 N _ hM s hs
  · exact hmark 6 0 (by decide) s hs
theorem markV_lt (xs : List Nat) : markV xs < 18446744073709551616 := by
  unfold markV
  split
  · exact Nat.mod_lt _ (by decide)
  · decide
/-- Writes of two blocks may be. -/
theorem good_may {a b c B : Nat} {W : List (Int × Nat)} (h : GoodW B W) (hm : mayB (a : Int) (b : Int) (c : Int) = true) (hl : W.length ≤ 96) (h1 : 280 + 208 * a + 16 * b ≤ B) (h2 : B + 16 ≤ 280 + 208 * a + 16 * b + 8 * c) : mayW (a : Int) (b : Int) (c : Int) W = true := by
  unfold mayW
  refine decide_eq_true ⟨hl, hm, fun i hi => ?_⟩
  have hmem : W.getD i (0, 0) ∈ W := getD_mem W i (0, 0) hi
  obtain ⟨t, ht, e⟩ := h.at_ _ hmem
  refine ⟨?_, fun j hj => ?_⟩
  · unfold standB
    rw [e, wh_block hm (by omega) (by omega)]
    rfl
  · have := (List.pairwise_iff_getElem.1 h.once) j i (by omega) hi hj
    rw [List.getD_eq_getElem?_getD, List.getD_eq_getElem?_getD, List.getElem?_eq_getElem hi, List.getElem?_eq_getElem (by omega : j < W.length)]
    exact this
end Go.Proofs.YtpdofdloclmbdaaGreat
end
section
/- What is seen, and sure, behind the steps of a begin. -/
namespace Go.Proofs.YtpdofdloclmbdaaGreat
open Go.RowKit Go.Grommet

def seenL (ws : List PW) : List Nat := ws.map (·.seen)
/-- What the stores make of words. -/
def putQ (ys : List Nat) (Q : List (Nat × Nat)) : List Nat := Q.foldl (fun l q => l.set q.1 q.2) ys
theorem putQ_append (ys : List Nat) (Q R : List (Nat × Nat)) : putQ ys (Q ++ R) = putQ (putQ ys Q) R := List.foldl_append
theorem putQ_len (Q : List (Nat × Nat)) : ∀ ys : List Nat, (putQ ys Q).length = ys.length := by
  induction Q with
  | nil => intro ys; rfl
  | cons q Q ih => intro ys; show (putQ (ys.set q.1 q.2) Q).length = _; rw [ih, List.length_set]
theorem putQ_miss (Q : List (Nat × Nat)) (i : Nat) : ∀ (ys : List Nat), (∀ q ∈ Q, q.1 ≠ i) → (putQ ys Q).getD i 0 = ys.getD i 0 := by
  induction Q with
  | nil => intro ys _; rfl
  | cons q Q ih =>
    intro ys h
    show (putQ (ys.set q.1 q.2) Q).getD i 0 = _
    rw [ih _ (fun r hr => h r (List.mem_cons_of_mem _ hr)), getD_set, if_neg (fun e => h q (List.mem_cons_self ..) e.1.symm)]
theorem putQ_hit (Q : List (Nat × Nat)) (i : Nat) : ∀ (ys zs : List Nat), ys.length = zs.length → (∃ q ∈ Q, q.1 = i) → (putQ ys Q).getD i 0 = (putQ zs Q).getD i 0 := by
  induction Q with
  | nil => intro ys zs _ h; obtain ⟨q, hq, _⟩ := h; cases hq
  | cons q Q ih =>
    intro ys zs hl h
    show (putQ (ys.set q.1 q.2) Q).getD i 0 = (putQ (zs.set q.1 q.2) Q).getD i 0
    by_cases hx : ∃ r ∈ Q, r.1 = i
    · exact ih _ _ (by rw [List.length_set, List.length_set, hl]) hx
    · have hm : ∀ r ∈ Q, r.1 ≠ i := fun r hr e => hx ⟨r, hr, e⟩
      rw [putQ_miss Q i _ hm, putQ_miss Q i _ hm, getD_set, getD_set]
      obtain ⟨r, hr, e⟩ := h
      rcases List.mem_cons.1 hr with rfl | hr
      · rw [hl, e]
        by_cases h3 : i < zs.length
        · rw [if_pos ⟨rfl, h3⟩, if_pos ⟨rfl, h3⟩]
        · rw [if_neg (fun e => h3 e.2), if_neg (fun e => h3 e.2), List.getD_eq_getElem?_getD, List.getD_eq_getElem?_getD, List.getElem?_eq_none (by omega), List.getElem?_eq_none (by omega)]
      · exact absurd e (hm r hr)
theorem putQ_congr (Q : List (Nat × Nat)) (i : Nat) (ys zs : List Nat) (hl : ys.length = zs.length) (h : ys.getD i 0 = zs.getD i 0) : (putQ ys Q).getD i 0 = (putQ zs Q).getD i 0 := by
  by_cases hx : ∃ r ∈ Q, r.1 = i
  · exact putQ_hit Q i ys zs hl hx
  · have hm : ∀ r ∈ Q, r.1 ≠ i := fun r hr e => hx ⟨r, hr, e⟩
    rw [putQ_miss Q i _ hm, putQ_miss Q i _ hm, h]
theorem putQ_twice (Q : List (Nat × Nat)) (m : Nat) (ys : List Nat) (i : Nat) : (putQ (putQ ys (Q.take m)) Q).getD i 0 = (putQ ys Q).getD i 0 := by
  by_cases hx : ∃ r ∈ Q, r.1 = i
  · exact putQ_hit Q i _ _ (putQ_len _ _) hx
  · have hm : ∀ r ∈ Q, r.1 ≠ i := fun r hr e => hx ⟨r, hr, e⟩
    rw [putQ_miss Q i _ hm, putQ_miss Q i _ hm, putQ_miss _ i _ (fun r hr => hm r (List.mem_of_mem_take hr))]
theorem appl_putQ (W : List (Int × Nat)) : ∀ xs : List Nat, appl xs W = putQ xs (wrQ W) := by
  induction W with
  | nil => intro xs; rfl
  | cons p W ih => intro xs; exact ih (xs.set p.1.toNat p.2)
theorem seen_flush (c : PW) : c.flush.seen = c.seen := by unfold PW.flush; split <;> rfl
theorem seen_fence (c : PW) : c.fence.seen = c.seen := by unfold PW.fence; split <;> rfl
/-! One transaction: stores, flushes of their lines, a fence. -/
def hitQ (Q : List (Nat × Nat)) (i : Nat) : Bool := Q.any (fun q => q.1 == i)
theorem cleanL_get (ys : List Nat) (i : Nat) (h : i < ys.length) : (cleanL ys)[i]? = some (cleanW (ys.getD i 0)) := by
  unfold cleanL; rw [List.getElem?_map, List.getElem?_eq_getElem h, List.getD_eq_getElem?_getD, List.getElem?_eq_getElem h]; rfl
theorem hitQ_not {Q : List (Nat × Nat)} {i : Nat} (h : hitQ Q i = false) : ∀ q ∈ Q, q.1 ≠ i := by
  unfold hitQ at h
  rw [List.any_eq_false] at h
  intro q hq e
  exact h q hq (by rw [e]; exact beq_self_eq_true _)
end Go.Proofs.YtpdofdloclmbdaaGreat
end
section
/- CommitWhole: one transaction, word by word, whatever is done beside it. -/
namespace Go.Proofs.YtpdofdloclmbdaaGreat
open Go.RowKit Go.Grommet

/-- What a loss of power may leave of a word. -/
def OutW (c : PW) (v : Nat) : Prop := v = c.sure ∨ (c.loose = true ∧ (v = c.seen ∨ (c.flushed = true ∧ v = c.kept)))
structure WfW (c : PW) : Prop where
  firm : c.loose = false → c = cleanW c.seen
  last : c.flushed = true → c.again = false → c.kept = c.seen
theorem WfW.lf {c : PW} (h : WfW c) (hf : c.flushed = true) : c.loose = true := by
  cases hl : c.loose with
  | true => rfl
  | false =>
    have := h.firm hl
    rw [this] at hf
    cases hf
theorem wf_clean (v : Nat) : WfW (cleanW v) := ⟨fun _ => rfl, fun h => by cases h⟩
theorem out_clean {v u : Nat} (h : OutW (cleanW v) u) : u = v := by
  rcases h with h | ⟨h, _⟩
  · exact h
  · cases h
theorem out_seen {c : PW} (h : WfW c) : OutW c c.seen := by
  cases hl : c.loose with
  | true => exact .inr ⟨hl, .inl rfl⟩
  | false => left; have := h.firm hl; rw [this]; rfl
theorem wf_store {c : PW} (_ : WfW c) (v : Nat) : WfW (c.store v) :=
  ⟨fun hl => (by cases hl), fun h1 h2 => (by
    have h1 : c.flushed = true := h1
    have h2 : c.flushed = false := h2
    rw [h1] at h2
    cases h2)⟩
theorem wf_flush {c : PW} (h : WfW c) : WfW c.flush := by
  unfold PW.flush
  split
  · exact ⟨fun hl => (by cases hl), fun _ _ => rfl⟩
  · exact h
theorem wf_evict {c : PW} (h : WfW c) : WfW c.evict := by
  unfold PW.evict
  split
  · exact wf_clean c.seen
  · exact h
theorem wf_fence {c : PW} (h : WfW c) : WfW c.fence := by
  unfold PW.fence
  split
  · rename_i hf
    refine ⟨fun ha => ?_, fun hx => (by cases hx)⟩
    have ha : c.again = false := ha
    show (⟨c.kept, c.seen, c.again, false, false, 0⟩ : PW) = cleanW c.seen
    rw [ha, h.last hf ha]
    rfl
  · exact h
/-- What others may do to a word. -/
def SoftW (c c' : PW) : Prop := c' = c ∨ c' = c.evict ∨ c' = c.fence ∨ c' = c.flush
theorem soft_clean {v : Nat} {c' : PW} (h : SoftW (cleanW v) c') : c' = cleanW v := by
  rcases h with h | h | h | h <;> rw [h] <;> rfl
theorem soft_seen {c c' : PW} (h : SoftW c c') : c'.seen = c.seen := by
  rcases h with h | h | h | h
  · rw [h]
  · rw [h]; unfold PW.evict; split <;> rfl
  · rw [h]; exact seen_fence c
  · rw [h]; exact seen_flush c
theorem soft_wf {c c' : PW} (hw : WfW c) (h : SoftW c c') : WfW c' := by
  rcases h with h | h | h | h
  · rw [h]; exact hw
  · rw [h]; exact wf_evict hw
  · rw [h]; exact wf_fence hw
  · rw [h]; exact wf_flush hw
theorem soft_out {c c' : PW} (hw : WfW c) (h : SoftW c c') {u : Nat} (hu : OutW c' u) : OutW c u := by
  rcases h with h | h | h | h
  · rw [h] at hu; exact hu
  · rw [h] at hu
    unfold PW.evict at hu
    split at hu
    · rename_i hl
      exact .inr ⟨hl, .inl (out_clean (v := c.seen) hu)⟩
    · exact hu
  · rw [h] at hu
    unfold PW.fence at hu
    split at hu
    · rename_i hf
      rcases hu with hu | ⟨_, hu | ⟨hx, _⟩⟩
      · exact .inr ⟨hw.lf hf, .inr ⟨hf, hu⟩⟩
      · exact .inr ⟨hw.lf hf, .inl hu⟩
      · cases hx
    · exact hu
  · rw [h] at hu
    unfold PW.flush at hu
    split at hu
    · rename_i hl
      rcases hu with hu | ⟨_, hu | ⟨_, hu⟩⟩
      · exact .inl hu
      · exact .inr ⟨hl, .inl hu⟩
      · exact .inr ⟨hl, .inl hu⟩
    · exact hu
/-- A word that the next fence makes sure. -/
def FlW (c : PW) : Prop := c = cleanW c.seen ∨ (c.loose = true ∧ c.flushed = true ∧ c.again = false ∧ c.kept = c.seen)
theorem fl_flush {c : PW} (h : WfW c) : FlW c.flush := by
  cases hl : c.loose with
  | false =>
    have e := h.firm hl
    have e2 : c.flush = c := by unfold PW.flush; rw [hl]; rfl
    rw [e2]; exact .inl e
  | true =>
    unfold PW.flush
    rw [if_pos hl]
    exact .inr ⟨rfl, rfl, rfl, rfl⟩
theorem fl_fence {c : PW} (h : FlW c) : c.fence = cleanW c.seen := by
  rcases h with h | ⟨h1, h2, h3, h4⟩
  · have hf : c.flushed = false := by rw [h]; rfl
    have e2 : c.fence = c := by unfold PW.fence; rw [hf]; rfl
    rw [e2]; exact h
  · unfold PW.fence
    rw [if_pos h2, h3, h4]
    rfl
theorem fl_soft {c c' : PW} (hw : WfW c) (h : FlW c) (hs : SoftW c c') : FlW c' := by
  rcases hs with e | e | e | e
  · rw [e]; exact h
  · rw [e]
    cases hl : c.loose with
    | true =>
      have : c.evict = cleanW c.seen := by unfold PW.evict; rw [if_pos hl]; rfl
      rw [this]; exact .inl rfl
    | false =>
      have : c.evict = c := by unfold PW.evict; rw [hl]; rfl
      rw [this]; exact h
  · rw [e, fl_fence h]; exact .inl rfl
  · rw [e]; exact fl_flush hw

/-! A transaction: stores, flushes of their lines, a fence. -/
abbrev Tx := Nat × Nat × List (Nat × Nat)
def txR (M : Nat) (t : Tx) : List (Nat × Cl) := storesS t.1 t.2.2 ++ settleS M t.2.1 (t.2.2.map (·.1))
def TxA (reg : Nat → Prop) (ws : List PW) (X : List Nat) (Q : List (Nat × Nat)) (j : Nat) : Prop :=
  ∀ i, reg i → (hitQ (Q.take j) i = false → ws[i]? = some (cleanW (X.getD i 0))) ∧
    (hitQ (Q.take j) i = true → ∃ c, ws[i]? = some c ∧ WfW c ∧ c.seen = (putQ X (Q.take j)).getD i 0 ∧ ∀ u, OutW c u → u = X.getD i 0 ∨ (i, u) ∈ Q)
def TxB (reg : Nat → Prop) (ws : List PW) (X : List Nat) (Q : List (Nat × Nat)) (Z : List Nat) : Prop :=
  ∀ i, reg i → (hitQ Q i = false → ws[i]? = some (cleanW (X.getD i 0))) ∧
    (hitQ Q i = true → ∃ c, ws[i]? = some c ∧ WfW c ∧ c.seen = (putQ X Q).getD i 0 ∧ (∀ u, OutW c u → u = X.getD i 0 ∨ (i, u) ∈ Q) ∧ (i / 8 ∉ Z → FlW c))
def SoftL (reg : Nat → Prop) (ws ws' : List PW) : Prop := ∀ i, reg i → ∀ c, ws[i]? = some c → ∃ c', ws'[i]? = some c' ∧ SoftW c c'
def TxI (reg : Nat → Prop) (M : Nat) (ws : List PW) (X : List Nat) (t : Tx) (rem : List (Nat × Cl)) : Prop :=
  (∃ j, j < t.2.2.length ∧ rem = storesS t.1 (t.2.2.drop j) ++ settleS M t.2.1 (t.2.2.map (·.1)) ∧ TxA reg ws X t.2.2 j) ∨
  (∃ Z, rem = flushS t.2.1 Z ++ [(t.2.1, .fence)] ∧ TxB reg ws X t.2.2 Z)
theorem TxI.soft {reg : Nat → Prop} {M : Nat} {ws ws' : List PW} {X : List Nat} {t : Tx} {rem : List (Nat × Cl)} (h : TxI reg M ws X t rem) (hs : SoftL reg ws ws') : TxI reg M ws' X t rem := by
  rcases h with ⟨j, hj, e, hA⟩ | ⟨Z, e, hB⟩
  · refine .inl ⟨j, hj, e, fun i hi => ⟨fun hh => ?_, fun hh => ?_⟩⟩
    · obtain ⟨c', h1, h2⟩ := hs i hi _ ((hA i hi).1 hh)
      rw [h1, soft_clean h2]
    · obtain ⟨c, h1, h2, h3, h4⟩ := (hA i hi).2 hh
      obtain ⟨c', g1, g2⟩ := hs i hi _ h1
      exact ⟨c', g1, soft_wf h2 g2, (soft_seen g2).trans h3, fun u hu => h4 u (soft_out h2 g2 hu)⟩
  · refine .inr ⟨Z, e, fun i hi => ⟨fun hh => ?_, fun hh => ?_⟩⟩
    · obtain ⟨c', h1, h2⟩ := hs i hi _ ((hB i hi).1 hh)
      rw [h1, soft_clean h2]
    · obtain ⟨c, h1, h2, h3, h4, h5⟩ := (hB i hi).2 hh
      obtain ⟨c', g1, g2⟩ := hs i hi _ h1
      exact ⟨c', g1, soft_wf h2 g2, (soft_seen g2).trans h3, fun u hu => h4 u (soft_out h2 g2 hu), fun hz => fl_soft h2 (h5 hz) g2⟩
theorem hitQ_yes {Q : List (Nat × Nat)} {i : Nat} (h : hitQ Q i = true) : ∃ q ∈ Q, q.1 = i := by
  unfold hitQ at h
  obtain ⟨q, hq, e⟩ := List.any_eq_true.1 h
  exact ⟨q, hq, by simpa using e⟩
theorem settle_ne (M p : Nat) (ps : List Nat) : settleS M p ps ≠ [] := by unfold settleS; simp
theorem txR_ne (M : Nat) (t : Tx) : txR M t ≠ [] := by
  unfold txR
  intro h
  exact settle_ne _ _ _ (List.append_eq_nil_iff.1 h).2
theorem txA_full {reg : Nat → Prop} {M : Nat} {ws : List PW} {X : List Nat} {Q : List (Nat × Nat)} (hM : ∀ i, reg i → i / 8 < M) (h : TxA reg ws X Q Q.length) : TxB reg ws X Q (linesOf M (Q.map (·.1))) := by
  intro i hi
  have := h i hi
  rw [List.take_length] at this
  refine ⟨this.1, fun hh => ?_⟩
  obtain ⟨c, h1, h2, h3, h4⟩ := this.2 hh
  refine ⟨c, h1, h2, h3, h4, fun hz => ?_⟩
  obtain ⟨q, hq, e⟩ := hitQ_yes hh
  exact absurd (lines_mem.2 ⟨hM i hi, q.1, List.mem_map.2 ⟨q, hq, rfl⟩, by rw [e]⟩) hz
theorem tx_begin {reg : Nat → Prop} {M : Nat} {ws : List PW} {X : List Nat} (t : Tx) (hM : ∀ i, reg i → i / 8 < M) (h : ∀ i, reg i → ws[i]? = some (cleanW (X.getD i 0))) : TxI reg M ws X t (txR M t) := by
  have h0 : TxA reg ws X t.2.2 0 := fun i hi => ⟨fun _ => h i hi, fun hh => by simp [hitQ] at hh⟩
  by_cases hq : 0 < t.2.2.length
  · exact .inl ⟨0, hq, rfl, h0⟩
  · have hq0 : t.2.2 = [] := List.eq_nil_of_length_eq_zero (by omega)
    refine .inr ⟨linesOf M (t.2.2.map (·.1)), ?_, txA_full hM (by rw [hq0] at h0 ⊢; exact h0)⟩
    unfold txR settleS
    rw [hq0]
    rfl
theorem hit_snoc (Q : List (Nat × Nat)) (q : Nat × Nat) (i : Nat) : hitQ (Q ++ [q]) i = (hitQ Q i || (q.1 == i)) := by unfold hitQ; rw [List.any_append]; simp
theorem tx_phase {reg : Nat → Prop} {M : Nat} {ws : List PW} {X : List Nat} {t : Tx} {rem : List (Nat × Cl)} (h : TxI reg M ws X t rem) : ∀ s ∈ rem, s.1 = t.1 ∨ s.1 = t.2.1 := by
  intro s hs
  have hset : ∀ Z : List Nat, s ∈ flushS t.2.1 Z ++ [(t.2.1, Cl.fence)] → s.1 = t.2.1 := by
    intro Z hz
    rcases List.mem_append.1 hz with hz | hz
    · unfold flushS at hz
      obtain ⟨l, _, rfl⟩ := List.mem_map.1 hz
      rfl
    · obtain rfl := List.mem_singleton.1 hz; rfl
  rcases h with ⟨j, _, rfl, _⟩ | ⟨Z, rfl, _⟩
  · rcases List.mem_append.1 hs with hs | hs
    · unfold storesS at hs
      obtain ⟨q, _, rfl⟩ := List.mem_map.1 hs
      exact .inl rfl
    · exact .inr (hset _ hs)
  · exact .inr (hset _ hs)
theorem TxI.ne {reg : Nat → Prop} {M : Nat} {ws : List PW} {X : List Nat} {t : Tx} {rem : List (Nat × Cl)} (h : TxI reg M ws X t rem) : rem ≠ [] := by
  rcases h with ⟨j, _, rfl, _⟩ | ⟨Z, rfl, _⟩
  · intro e; exact settle_ne _ _ _ (List.append_eq_nil_iff.1 e).2
  · simp
/-- A step of its own. -/
theorem tx_step {reg : Nat → Prop} {M : Nat} {ws : List PW} {X : List Nat} {t : Tx} {p : Nat} {cl : Cl} {rem : List (Nat × Cl)} (hM : ∀ i, reg i → i / 8 < M) (hX : X.length = ws.length) (hl : ∀ i, reg i → i < ws.length) (h : TxI reg M ws X t ((p, cl) :: rem)) :
    (rem ≠ [] ∧ TxI reg M (cl.does ws) X t rem) ∨ (rem = [] ∧ cl = .fence ∧ ∀ i, reg i → (cl.does ws)[i]? = some (cleanW ((putQ X t.2.2).getD i 0))) := by
  obtain ⟨p1, p2, Q⟩ := t
  rcases h with ⟨j, hj, e, hA⟩ | ⟨Z, e, hB⟩
  · left
    have hj : j < Q.length := hj
    have hq : Q[j]? = some Q[j] := List.getElem?_eq_getElem hj
    obtain ⟨q, hqe⟩ : ∃ q, Q[j] = q := ⟨_, rfl⟩
    rw [hqe] at hq
    have hd : Q.drop j = q :: Q.drop (j + 1) := by rw [← hqe]; exact List.drop_eq_getElem_cons hj
    have e : (p, cl) :: rem = storesS p1 (Q.drop j) ++ settleS M p2 (Q.map (·.1)) := e
    rw [hd] at e
    have e1 : (p, cl) = (p1, Cl.store q.1 q.2) := (List.cons.inj e).1
    have e2 : rem = storesS p1 (Q.drop (j + 1)) ++ settleS M p2 (Q.map (·.1)) := (List.cons.inj e).2
    cases e1
    have hA : TxA reg ws X Q j := hA
    have hA' : TxA reg (ws.modify q.1 (·.store q.2)) X Q (j + 1) := by
      intro i hi
      have hp1 : ∀ Y : List Nat, putQ Y [q] = Y.set q.1 q.2 := fun _ => rfl
      rw [take_snocN hq, hit_snoc, putQ_append, hp1, getD_set, putQ_len]
      by_cases hqi : q.1 = i
      · have hb : (q.1 == i) = true := by simp [hqi]
        rw [hb, Bool.or_true, if_pos ⟨hqi.symm, by rw [hX, hqi]; exact hl i hi⟩]
        refine ⟨fun h => (by cases h), fun _ => ?_⟩
        have hin : (i, q.2) ∈ Q := by rw [← hqi]; exact List.mem_of_getElem? hq
        obtain ⟨c, h1, h2, h4⟩ : ∃ c, ws[i]? = some c ∧ WfW c ∧ ∀ u, OutW c u → u = X.getD i 0 ∨ (i, u) ∈ Q := by
          cases hh : hitQ (Q.take j) i with
          | false => exact ⟨_, (hA i hi).1 hh, wf_clean _, fun u hu => .inl (out_clean hu)⟩
          | true => obtain ⟨c, h1, h2, h3, h4⟩ := (hA i hi).2 hh; exact ⟨c, h1, h2, h4⟩
        refine ⟨c.store q.2, by rw [List.getElem?_modify, h1]; simp [hqi], wf_store h2 _, rfl, fun u hu => ?_⟩
        rcases hu with hu | ⟨_, hu | ⟨hf, hu⟩⟩
        · exact h4 u (.inl hu)
        · have hu : u = q.2 := hu
          rw [hu]; exact .inr hin
        · exact h4 u (.inr ⟨h2.lf hf, .inr ⟨hf, hu⟩⟩)
      · have hb : (q.1 == i) = false := by simp [hqi]
        rw [hb, Bool.or_false, if_neg (fun x => hqi x.1.symm)]
        have hm : (ws.modify q.1 (·.store q.2))[i]? = ws[i]? := by rw [List.getElem?_modify]; cases ws[i]? <;> simp [hqi]
        rw [hm]
        exact hA i hi
    refine ⟨by rw [e2]; intro x; exact settle_ne _ _ _ (List.append_eq_nil_iff.1 x).2, ?_⟩
    show TxI reg M (ws.modify q.1 (·.store q.2)) X (p, p2, Q) rem
    by_cases hj2 : j + 1 < Q.length
    · exact .inl ⟨j + 1, hj2, e2, hA'⟩
    · have hj3 : j + 1 = Q.length := by omega
      refine .inr ⟨linesOf M (Q.map (·.1)), ?_, txA_full hM (by rw [← hj3]; exact hA')⟩
      rw [e2, hj3, List.drop_length]
      rfl
  · have e : (p, cl) :: rem = flushS p2 Z ++ [(p2, Cl.fence)] := e
    have hB : TxB reg ws X Q Z := hB
    cases Z with
    | nil =>
      right
      have e1 : (p, cl) = (p2, Cl.fence) := (List.cons.inj e).1
      have e2 : rem = [] := (List.cons.inj e).2
      cases e1
      refine ⟨e2, rfl, fun i hi => ?_⟩
      show (ws.map PW.fence)[i]? = _
      rw [List.getElem?_map]
      cases hh : hitQ Q i with
      | false =>
        rw [(hB i hi).1 hh, putQ_miss Q i X (hitQ_not hh)]
        rfl
      | true =>
        obtain ⟨c, h1, h2, h3, h4, h5⟩ := (hB i hi).2 hh
        rw [h1, Option.map_some, fl_fence (h5 (by simp)), h3]
    | cons z Z =>
      left
      have e1 : (p, cl) = (p2, Cl.flush z) := (List.cons.inj e).1
      have e2 : rem = flushS p2 Z ++ [(p2, Cl.fence)] := (List.cons.inj e).2
      cases e1
      refine ⟨by rw [e2]; simp, .inr ⟨Z, e2, fun i hi => ?_⟩⟩
      show (_ → (turnFrom PW.flush (8 * z) 8 ws)[i]? = _) ∧ (_ → ∃ c, (turnFrom PW.flush (8 * z) 8 ws)[i]? = _ ∧ _)
      rw [turnFrom_get]
      by_cases hz : 8 * z ≤ i ∧ i < 8 * z + 8
      · rw [if_pos hz]
        refine ⟨fun hh => by rw [(hB i hi).1 hh]; rfl, fun hh => ?_⟩
        obtain ⟨c, h1, h2, h3, h4, h5⟩ := (hB i hi).2 hh
        exact ⟨c.flush, by rw [h1]; rfl, wf_flush h2, (seen_flush c).trans h3, fun u hu => h4 u (soft_out h2 (.inr (.inr (.inr rfl))) hu), fun _ => fl_flush h2⟩
      · rw [if_neg hz]
        refine ⟨(hB i hi).1, fun hh => ?_⟩
        obtain ⟨c, h1, h2, h3, h4, h5⟩ := (hB i hi).2 hh
        exact ⟨c, h1, h2, h3, h4, fun hn => h5 (fun hm => by
          rcases List.mem_cons.1 hm with e | e
          · omega
          · exact hn e)⟩
/-- What may be left of its words. -/
theorem tx_word {reg : Nat → Prop} {M : Nat} {ws : List PW} {X : List Nat} {t : Tx} {rem : List (Nat × Cl)} (h : TxI reg M ws X t rem) (i : Nat) (hi : reg i) :
    ∃ c, ws[i]? = some c ∧ WfW c ∧ (∀ u, OutW c u → u = X.getD i 0 ∨ (i, u) ∈ t.2.2) ∧ (hitQ t.2.2 i = false → c = cleanW (X.getD i 0)) := by
  have key : ∀ j, hitQ t.2.2 i = false → hitQ (t.2.2.take j) i = false := by
    intro j hh
    cases hx : hitQ (t.2.2.take j) i with
    | false => rfl
    | true =>
      obtain ⟨q, hq, e⟩ := hitQ_yes hx
      exact absurd e (hitQ_not hh q (List.mem_of_mem_take hq))
  rcases h with ⟨j, _, _, hA⟩ | ⟨Z, _, hB⟩
  · cases hh : hitQ (t.2.2.take j) i with
    | false => exact ⟨_, (hA i hi).1 hh, wf_clean _, fun u hu => .inl (out_clean hu), fun _ => rfl⟩
    | true =>
      obtain ⟨c, h1, h2, h3, h4⟩ := (hA i hi).2 hh
      exact ⟨c, h1, h2, h4, fun hx => by rw [key j hx] at hh; cases hh⟩
  · cases hh : hitQ t.2.2 i with
    | false => exact ⟨_, (hB i hi).1 hh, wf_clean _, fun u hu => .inl (out_clean hu), fun _ => rfl⟩
    | true =>
      obtain ⟨c, h1, h2, h3, h4, h5⟩ := (hB i hi).2 hh
      exact ⟨c, h1, h2, h4, fun hx => by cases hx⟩
end Go.Proofs.YtpdofdloclmbdaaGreat
end
section
/- Over of what is seen behind any step of a begin. -/
namespace Go.Proofs.YtpdofdloclmbdaaGreat
open Go.RowKit Go.Grommet

theorem over_one {a k : Nat} {b c : Int} {ys : List Nat} {W : List (Int × Nat)} (hl : 264 + 208 * a ≤ ys.length) (hk : k < a) (hs : ∀ j, j < a → j ≠ k → ys.getD (264 + 208 * j) 0 = 0) (hc : commB (a : Int) b c ys (264 + 208 * k) = true) (hW : commM ys (264 + 208 * k) = W) (hp : ∀ q ∈ wrQ W, 264 + 208 * a ≤ q.1) :
    ∀ j, j ≤ a → ∀ i, (overS (a : Int) b c ys j).getD i 0 = if 264 ≤ i ∧ i < 264 + 208 * j then 0 else if k < j then (putQ ys (wrQ W)).getD i 0 else ys.getD i 0
  | 0, _, i => by rw [if_neg (by omega), if_neg (by omega)]; rfl
  | j + 1, hj, i => by
    have ih := over_one hl hk hs hc hW hp j (by omega)
    have hlen : (overS (a : Int) b c ys j).length = ys.length := overS_length _ _ _ _ _
    by_cases hjk : j = k
    · subst hjk
      rw [overS, if_pos hc, hW, appl_putQ, zap_get _ _ _ _ (by rw [putQ_len, hlen]; omega)]
      by_cases h1 : 264 + 208 * j ≤ i ∧ i < 264 + 208 * j + 208
      · rw [if_pos h1, if_pos (by omega)]
      · rw [if_neg h1]
        by_cases h2 : 264 ≤ i ∧ i < 264 + 208 * j
        · rw [if_pos (by omega), putQ_miss _ _ _ (fun q hq e => by have := hp q hq; omega), ih i, if_pos h2]
        · rw [if_neg (by omega), if_pos (by omega)]
          exact putQ_congr _ _ _ _ hlen (by rw [ih i, if_neg h2, if_neg (by omega)])
    · have hn : commB (a : Int) b c ys (264 + 208 * j) = false := by unfold commB; rw [hs j (by omega) hjk]; rfl
      rw [overS, if_neg (by rw [hn]; decide), zap_get _ _ _ _ (by rw [hlen]; omega), ih i]
      by_cases h1 : 264 + 208 * j ≤ i ∧ i < 264 + 208 * j + 208
      · rw [if_pos h1, if_pos (by omega)]
      · rw [if_neg h1]
        by_cases h2 : 264 ≤ i ∧ i < 264 + 208 * j
        · rw [if_pos h2, if_pos (by omega)]
        · by_cases h3 : k < j
          · rw [if_neg h2, if_pos h3, if_neg (by omega), if_pos (by omega)]
          · rw [if_neg h2, if_neg h3, if_neg (by omega), if_neg (by omega)]
theorem seal_mem {A : Nat} {xs : List Nat} {j : Nat} {q : Nat × Nat} (h : q ∈ sealQ A xs j) : A + 8 ≤ q.1 ∧ q.1 < A + 8 + j := by
  unfold sealQ at h
  obtain ⟨i, hi, rfl⟩ := List.mem_map.1 h
  have := List.mem_range.1 hi
  exact ⟨by show A + 8 ≤ A + 8 + i; omega, by show A + 8 + i < A + 8 + j; omega⟩
theorem seal_get (A : Nat) (R xs : List Nat) (i : Nat) : ∀ j, i < j → A + 8 + j ≤ xs.length → (putQ xs (sealQ A R j)).getD (A + 8 + i) 0 = R.getD i 0
  | 0, h, _ => by omega
  | j + 1, h, hl => by
    rw [sealQ_snoc, putQ_append]
    show ((putQ xs (sealQ A R j)).set (A + 8 + j) (R.getD j 0)).getD (A + 8 + i) 0 = _
    rw [getD_set, putQ_len]
    by_cases e : i = j
    · subst e; rw [if_pos ⟨rfl, by omega⟩]
    · rw [if_neg (by omega)]
      exact seal_get A R xs i j (by omega) (by omega)
theorem rest_begins {A : Nat} {R ys : List Nat} (hl : A + 208 ≤ ys.length) (hR : R.length ≤ 200) (h : ∀ i, i < R.length → ys.getD (A + 8 + i) 0 = R.getD i 0) : ∃ B, restL ys A = R ++ B := by
  refine ⟨(restL ys A).drop R.length, ?_⟩
  have hrl : (restL ys A).length = 200 := by unfold restL; rw [List.length_take, List.length_drop]; omega
  have ht : (restL ys A).take R.length = R := by
    refine ext_len (by rw [List.length_take, hrl]; omega) (fun i hi => ?_)
    have := h i hi
    rw [List.getElem?_take, if_pos hi]
    unfold restL
    rw [List.getElem?_take, if_pos (by omega), List.getElem?_drop, List.getElem?_eq_getElem (by omega), List.getElem?_eq_getElem hi]
    rw [List.getD_eq_getElem?_getD, List.getD_eq_getElem?_getD, List.getElem?_eq_getElem (by omega), List.getElem?_eq_getElem hi] at this
    exact congrArg some this
  conv => lhs; rw [← List.take_append_drop R.length (restL ys A)]
  rw [ht]
/-- What the law's begin is: a worker, its writes, words in which all areas are 0. -/
structure QIs (a k n : Nat) (W : List (Int × Nat)) (xs : List Nat) : Prop where
  may : mayW (a : Int) 2 10 W = true
  fine : Fine W
  len : W.length = n
  ka : k < a
  n40 : n ≤ 40
  long : 264 + 208 * a ≤ xs.length
  zero : ∀ i, 264 ≤ i → i < 264 + 208 * a → xs.getD i 0 = 0
  far : ∀ q ∈ wrQ W, 264 + 208 * a ≤ q.1
variable {a k n : Nat} {W : List (Int × Nat)} {xs : List Nat}
theorem QIs.rl (h : QIs a k n W xs) : (recR W).length = 2 + 2 * n := by rw [recR_length, h.len]
/-- The record, and its mark, in place; some writes done. -/
theorem QIs.marked (h : QIs a k n W xs) (m : Nat) : overS (a : Int) 2 10 (putQ (putQ (putQ xs (sealQ (264 + 208 * k) (recR W) (recR W).length)) [(264 + 208 * k, markV (recR W))]) ((wrQ W).take m)) a = putQ xs (wrQ W) := by
  obtain ⟨A, hA⟩ : ∃ A, 264 + 208 * k = A := ⟨_, rfl⟩
  have hka := h.ka
  have hrl := h.rl
  have hn := h.n40
  have hlg := h.long
  obtain ⟨Y, hY⟩ : ∃ Y, putQ (putQ xs (sealQ A (recR W) (recR W).length)) [(A, markV (recR W))] = Y := ⟨_, rfl⟩
  rw [hA, hY]
  have hYl : Y.length = xs.length := by rw [← hY, putQ_len, putQ_len]
  have hfar : ∀ q ∈ (wrQ W).take m, 264 + 208 * a ≤ q.1 := fun q hq => h.far q (List.mem_of_mem_take hq)
  -- what stands where
  have hYA : Y.getD A 0 = markV (recR W) := by
    rw [← hY]
    show ((putQ xs (sealQ A (recR W) (recR W).length)).set A (markV (recR W))).getD A 0 = _
    rw [getD_set, if_pos ⟨rfl, by rw [putQ_len]; omega⟩]
  have hYR : ∀ i, i < (recR W).length → Y.getD (A + 8 + i) 0 = (recR W).getD i 0 := by
    intro i hi
    rw [← hY]
    show ((putQ xs (sealQ A (recR W) (recR W).length)).set A (markV (recR W))).getD (A + 8 + i) 0 = _
    rw [getD_set, if_neg (by omega)]
    exact seal_get A (recR W) xs i _ hi (by omega)
  have hYo : ∀ i, i < A ∨ A + 208 ≤ i → Y.getD i 0 = xs.getD i 0 := by
    intro i hi
    rw [← hY, putQ_miss _ _ _ (fun q hq e => by obtain rfl := List.mem_singleton.1 hq; have e : A = i := e; omega), putQ_miss _ _ _ (fun q hq e => by have := seal_mem hq; omega)]
  obtain ⟨ys, hys⟩ : ∃ ys, putQ Y ((wrQ W).take m) = ys := ⟨_, rfl⟩
  rw [hys]
  have hyl : ys.length = xs.length := by rw [← hys, putQ_len, hYl]
  have hyY : ∀ i, i < 264 + 208 * a → ys.getD i 0 = Y.getD i 0 := fun i hi => by
    rw [← hys]
    exact putQ_miss _ _ _ (fun q hq e => by have := hfar q hq; omega)
  obtain ⟨B, hB⟩ := rest_begins (A := A) (R := recR W) (ys := ys) (by omega) (by omega) (fun i hi => by rw [hyY _ (by omega)]; exact hYR i hi)
  have hb := recR_begins W B
  have hb0 := recR_begins W []
  rw [List.append_nil] at hb0
  have hmk : markV (recR W ++ B) = markV (recR W) := by rw [hb.mark h.fine.few, hb0.mark h.fine.few]
  have hc : commB (a : Int) 2 10 ys A = true := by
    unfold commB
    rw [hB, hmk, hyY A (by omega), hYA, read_back h.fine B, h.may, decide_eq_true rfl]
    have : markV (recR W) ≠ 0 := by
      rw [hb0.mark h.fine.few]
      omega
    simp [this]
  have hcm : commM ys A = W := by
    unfold commM
    rw [hB, hb.head, writes_back h.fine B]
  have hov := over_one (a := a) (k := k) (b := 2) (c := 10) (ys := ys) (W := W) (by omega) hka (fun j hj hne => by
    rw [hyY _ (by omega), hYo _ (by omega)]
    exact h.zero _ (by omega) (by omega)) (by rw [hA]; exact hc) (by rw [hA]; exact hcm) h.far a (Nat.le_refl _)
  refine list_getD_ext (by rw [overS_length, putQ_len, hyl]) (fun i => ?_)
  rw [hov i]
  by_cases hi : 264 ≤ i ∧ i < 264 + 208 * a
  · rw [if_pos hi, putQ_miss _ _ _ (fun q hq e => by have := h.far q hq; omega), h.zero i hi.1 hi.2]
  · rw [if_neg hi, if_pos hka, ← hys, putQ_twice]
    exact putQ_congr _ _ _ _ hYl (hYo i (by omega))
end Go.Proofs.YtpdofdloclmbdaaGreat
end
section
/- CommitWhole: what Over makes of what may be left of words. -/
namespace Go.Proofs.YtpdofdloclmbdaaGreat
open Go.RowKit Go.Grommet

/-- The first of the words that a worker of the law writes; those; its words. -/
def bk (a k : Nat) : Nat := 320 + 208 * a + 16 * k
def InB (a k i : Nat) : Prop := bk a k ≤ i ∧ i < bk a k + 16
def regK (a k i : Nat) : Prop := (264 + 208 * k ≤ i ∧ i < 264 + 208 * k + 208) ∨ InB a k i
theorem InB.far {a k i : Nat} (h : InB a k i) : 320 + 208 * a ≤ i := by have := h.1; unfold bk at this; omega
theorem InB.one {a k j i : Nat} (h : InB a k i) (h' : InB a j i) : k = j := by
  have h1 := h.1
  have h2 := h.2
  have h3 := h'.1
  have h4 := h'.2
  unfold bk at h1 h2 h3 h4
  omega
theorem reg_one {a k j i : Nat} (hk : k < a) (hj : j < a) (h : regK a k i) (h' : regK a j i) : k = j := by
  rcases h with h | h
  · rcases h' with h' | h'
    · omega
    · have := h'.far; omega
  · rcases h' with h' | h'
    · have := h.far; omega
    · exact h.one h'
def ovV (a : Nat) (y : List Nat) (A i : Nat) : Nat := if commB (a : Int) 2 10 y A = true then (putQ y (wrQ (commM y A))).getD i 0 else y.getD i 0
/-- All that is committed writes into its worker's own words. -/
def OwnB (a : Nat) (y : List Nat) : Prop := ∀ t, t < a → commB (a : Int) 2 10 y (264 + 208 * t) = true → ∀ q ∈ wrQ (commM y (264 + 208 * t)), InB a t q.1
theorem over_blk {a : Nat} {y : List Nat} (hl : 264 + 208 * a ≤ y.length) (hD : OwnB a y) (k i : Nat) (hi : InB a k i) : ∀ j, j ≤ a → (overS (a : Int) 2 10 y j).getD i 0 = if k < j then ovV a y (264 + 208 * k) i else y.getD i 0
  | 0, _ => rfl
  | j + 1, hj => by
    have ih := over_blk hl hD k i hi j (by omega)
    have hlen : (overS (a : Int) 2 10 y j).length = y.length := overS_length _ _ _ _ _
    have hf := hi.far
    rw [overS, zap_get _ _ _ _ (by split <;> simp only [appl_length, hlen] <;> omega), if_neg (by omega)]
    by_cases hc : commB (a : Int) 2 10 y (264 + 208 * j) = true
    · rw [if_pos hc, appl_putQ]
      by_cases e : j = k
      · subst e
        rw [if_pos (by omega)]
        unfold ovV
        rw [if_pos hc]
        exact putQ_congr _ i _ _ hlen (by rw [ih, if_neg (by omega)])
      · rw [putQ_miss _ i _ (fun q hq e' => e (((hD j (by omega) hc q hq).one (by rw [e']; exact hi)))), ih]
        by_cases h : k < j
        · rw [if_pos h, if_pos (by omega)]
        · rw [if_neg h, if_neg (by omega)]
    · rw [if_neg hc, ih]
      by_cases h : k < j
      · rw [if_pos h, if_pos (by omega)]
      · rw [if_neg h]
        by_cases e : j = k
        · subst e
          rw [if_pos (by omega)]
          unfold ovV
          rw [if_neg hc]
        · rw [if_neg (by omega)]
theorem over_else {a : Nat} {y : List Nat} (hl : 264 + 208 * a ≤ y.length) (hD : OwnB a y) (i : Nat) (hn : i < 264 ∨ 264 + 208 * a ≤ i) (hi : ∀ k, k < a → ¬ InB a k i) : ∀ j, j ≤ a → (overS (a : Int) 2 10 y j).getD i 0 = y.getD i 0
  | 0, _ => rfl
  | j + 1, hj => by
    have ih := over_else hl hD i hn hi j (by omega)
    have hlen : (overS (a : Int) 2 10 y j).length = y.length := overS_length _ _ _ _ _
    rw [overS, zap_get _ _ _ _ (by split <;> simp only [appl_length, hlen] <;> omega), if_neg (by omega)]
    by_cases hc : commB (a : Int) 2 10 y (264 + 208 * j) = true
    · rw [if_pos hc, appl_putQ, putQ_miss _ i _ (fun q hq e' => hi j (by omega) (by rw [← e']; exact hD j (by omega) hc q hq)), ih]
    · rw [if_neg hc, ih]
theorem over_area {a : Nat} {y : List Nat} (hl : 264 + 208 * a ≤ y.length) (hD : OwnB a y) (i : Nat) : ∀ j, j ≤ a → 264 ≤ i → i < 264 + 208 * j → (overS (a : Int) 2 10 y j).getD i 0 = 0
  | 0, _, _, _ => by omega
  | j + 1, hj, h1, h2 => by
    have hlen : (overS (a : Int) 2 10 y j).length = y.length := overS_length _ _ _ _ _
    rw [overS, zap_get _ _ _ _ (by split <;> simp only [appl_length, hlen] <;> omega)]
    by_cases hz : 264 + 208 * j ≤ i ∧ i < 264 + 208 * j + 208
    · rw [if_pos hz]
    · rw [if_neg hz]
      have ih := over_area hl hD i j (by omega) h1 (by omega)
      by_cases hc : commB (a : Int) 2 10 y (264 + 208 * j) = true
      · rw [if_pos hc, appl_putQ, putQ_miss _ i _ (fun q hq e' => by have := (hD j (by omega) hc q hq).far; omega), ih]
      · rw [if_neg hc, ih]

/-- A worker's writes. -/
structure WkOk (a k : Nat) (W : List (Int × Nat)) : Prop where
  good : GoodW (bk a k) W
  few : W.length ≤ 20
  may : mayW (a : Int) 2 10 W = true
  fine : Fine W
theorem WkOk.mem {a k : Nat} {W : List (Int × Nat)} (h : WkOk a k W) : ∀ q ∈ wrQ W, InB a k q.1 := by
  intro q hq
  unfold wrQ at hq
  obtain ⟨p, hp, rfl⟩ := List.mem_map.1 hq
  obtain ⟨t, ht, e⟩ := h.good.at_ p hp
  show bk a k ≤ p.1.toNat ∧ p.1.toNat < bk a k + 16
  rw [e]
  omega
theorem WkOk.rl {a k : Nat} {W : List (Int × Nat)} (h : WkOk a k W) : (recR W).length ≤ 42 := by
  have := h.few
  rw [recR_length]; omega
theorem WkOk.mk0 {a k : Nat} {W : List (Int × Nat)} (h : WkOk a k W) : markV (recR W) ≠ 0 := by
  have hb0 := recR_begins W []
  rw [List.append_nil] at hb0
  rw [hb0.mark h.fine.few]
  omega
def RecAt (A : Nat) (W : List (Int × Nat)) (y : List Nat) : Prop := ∀ i, i < (recR W).length → y.getD (A + 8 + i) 0 = (recR W).getD i 0
theorem com_yes {a k A : Nat} {W : List (Int × Nat)} {y : List Nat} (h : WkOk a k W) (hl : A + 208 ≤ y.length) (hA : y.getD A 0 = markV (recR W)) (hR : RecAt A W y) : commB (a : Int) 2 10 y A = true ∧ commM y A = W := by
  obtain ⟨B, hB⟩ := rest_begins (A := A) (R := recR W) (ys := y) hl (by have := h.rl; omega) hR
  have hb := recR_begins W B
  have hb0 := recR_begins W []
  rw [List.append_nil] at hb0
  have hmk : markV (recR W ++ B) = markV (recR W) := by rw [hb.mark h.fine.few, hb0.mark h.fine.few]
  constructor
  · unfold commB
    rw [hB, hmk, hA, read_back h.fine B, h.may, decide_eq_true rfl]
    simp [h.mk0]
  · unfold commM
    rw [hB, hb.head, writes_back h.fine B]
theorem com_no {a A : Nat} {y : List Nat} (h : y.getD A 0 = 0) : commB (a : Int) 2 10 y A = false := by unfold commB; rw [h]; rfl
theorem ov_no {a A : Nat} {y : List Nat} (h : y.getD A 0 = 0) (i : Nat) : ovV a y A i = y.getD i 0 := by unfold ovV; rw [com_no h]; rfl
theorem ov_yes {a k A : Nat} {W : List (Int × Nat)} {y : List Nat} (h : WkOk a k W) (hl : A + 208 ≤ y.length) (hA : y.getD A 0 = markV (recR W)) (hR : RecAt A W y) (i : Nat) : ovV a y A i = (putQ y (wrQ W)).getD i 0 := by
  obtain ⟨h1, h2⟩ := com_yes h hl hA hR
  unfold ovV
  rw [if_pos h1, h2]
theorem putQ_val {Q : List (Nat × Nat)} : Q.Pairwise (fun p q => p.1 ≠ q.1) → ∀ (q : Nat × Nat), q ∈ Q → ∀ X : List Nat, q.1 < X.length → (putQ X Q).getD q.1 0 = q.2 := by
  induction Q with
  | nil => intro _ q hq; cases hq
  | cons r Q ih =>
    intro h q hq X hl
    rw [List.pairwise_cons] at h
    show (putQ (X.set r.1 r.2) Q).getD q.1 0 = _
    rcases List.mem_cons.1 hq with rfl | hq
    · rw [putQ_miss Q q.1 _ (fun s hs e => h.1 s hs e.symm), getD_set, if_pos ⟨rfl, hl⟩]
    · exact ih h.2 q hq _ (by rw [List.length_set]; exact hl)
theorem wr_once {a k : Nat} {W : List (Int × Nat)} (h : WkOk a k W) : (wrQ W).Pairwise (fun p q => p.1 ≠ q.1) := by
  unfold wrQ
  rw [List.pairwise_map]
  refine h.good.once.imp_of_mem ?_
  intro p q hp hq hne e
  obtain ⟨t, _, e1⟩ := h.good.at_ p hp
  obtain ⟨s, _, e2⟩ := h.good.at_ q hq
  apply hne
  have e : p.1.toNat = q.1.toNat := e
  omega
theorem hit_no {Q : List (Nat × Nat)} {i : Nat} (h : ∀ q ∈ Q, q.1 ≠ i) : hitQ Q i = false := by
  unfold hitQ
  rw [List.any_eq_false]
  intro q hq e
  exact h q hq (by simpa using e)

/-! How far a worker is. -/
section
variable (a k M : Nat) (ws : List PW) (m : List Nat) (W : List (Int × Nat)) (X : List Nat)
def tS : Tx := (1, 2, sealQ (264 + 208 * k) (recR W) (recR W).length)
def tM : Tx := (3, 3, [(264 + 208 * k, markV (recR W))])
def tA : Tx := (4, 5, wrQ W)
def tC : Tx := (6, 6, [(264 + 208 * k, 0)])
inductive Stg : List (Nat × Cl) → Nat → List Nat → Prop
  | idle {mk : Nat} {E : List Nat} (hw : ∀ i, regK a k i → ws[i]? = some (cleanW (X.getD i 0))) (h0 : X.getD (264 + 208 * k) 0 = 0) (hk : mk ≠ 1) (hm : ∀ i, InB a k i → m.getD i 0 = X.getD i 0) : Stg [] mk E
  | stS {rem : List (Nat × Cl)} {E : List Nat} (ht : TxI (regK a k) M ws X (tS k W) rem) (h0 : X.getD (264 + 208 * k) 0 = 0) (hm : ∀ i, InB a k i → m.getD i 0 = X.getD i 0) : Stg (rem ++ (txR M (tM k W) ++ (txR M (tA W) ++ txR M (tC k)))) 0 E
  | mark0 {rem : List (Nat × Cl)} {E : List Nat} (ht : TxI (regK a k) M ws X (tM k W) rem) (h0 : X.getD (264 + 208 * k) 0 = 0) (hR : RecAt (264 + 208 * k) W X) (hm : ∀ i, InB a k i → m.getD i 0 = X.getD i 0) (hc : ws[264 + 208 * k]? = some (cleanW 0)) (hr : ∃ r, rem = (3, .store (264 + 208 * k) (markV (recR W))) :: r) : Stg (rem ++ (txR M (tA W) ++ txR M (tC k))) 0 E
  | mark1 {rem : List (Nat × Cl)} {E : List Nat} (ht : TxI (regK a k) M ws X (tM k W) rem) (h0 : X.getD (264 + 208 * k) 0 = 0) (hR : RecAt (264 + 208 * k) W X) (hm : ∀ i, InB a k i → m.getD i 0 = (putQ X (wrQ W)).getD i 0) (hs : ∃ c, ws[264 + 208 * k]? = some c ∧ c.seen = markV (recR W)) (hp : ∀ s ∈ rem, s.1 = 3) (hE : E.length = ws.length ∧ ∀ i, InB a k i → E.getD i 0 = X.getD i 0) : Stg (rem ++ (txR M (tA W) ++ txR M (tC k))) 1 E
  | stA {rem : List (Nat × Cl)} {E : List Nat} (ht : TxI (regK a k) M ws X (tA W) rem) (hA : X.getD (264 + 208 * k) 0 = markV (recR W)) (hR : RecAt (264 + 208 * k) W X) (hm : ∀ i, InB a k i → m.getD i 0 = (putQ X (wrQ W)).getD i 0) : Stg (rem ++ txR M (tC k)) 2 E
  | clear {rem : List (Nat × Cl)} {E : List Nat} (ht : TxI (regK a k) M ws X (tC k) rem) (hA : X.getD (264 + 208 * k) 0 = markV (recR W)) (hR : RecAt (264 + 208 * k) W X) (hx : ∀ i, InB a k i → (putQ X (wrQ W)).getD i 0 = X.getD i 0) (hm : ∀ i, InB a k i → m.getD i 0 = X.getD i 0) : Stg rem 2 E
end
structure Oc (ws : List PW) (y : List Nat) : Prop where
  len : y.length = ws.length
  out : ∀ (i : Nat) (c : PW), ws[i]? = some c → OutW c (y.getD i 0)
theorem oc_seen {ws : List PW} (h : ∀ c ∈ ws, WfW c) : Oc ws (seenL ws) := by
  refine ⟨by unfold seenL; rw [List.length_map], fun i c hc => ?_⟩
  have : (seenL ws).getD i 0 = c.seen := by unfold seenL; rw [List.getD_eq_getElem?_getD, List.getElem?_map, hc]; rfl
  rw [this]
  exact out_seen (h c (List.mem_of_getElem? hc))
section
variable {a k M : Nat} {ws : List PW} {m : List Nat} {W : List (Int × Nat)} {X : List Nat} {S : List (Nat × Cl)} {mk : Nat} {E y : List Nat}
theorem reg_A : regK a k (264 + 208 * k) := .inl ⟨by omega, by omega⟩
theorem reg_R (hW : WkOk a k W) {i : Nat} (hi : i < (recR W).length) : regK a k (264 + 208 * k + 8 + i) := .inl ⟨by omega, by have := hW.rl; omega⟩
theorem tx_same {t : Tx} {rem : List (Nat × Cl)} (hy : Oc ws y) (h : TxI (regK a k) M ws X t rem) (i : Nat) (hi : regK a k i) (hq : ∀ q ∈ t.2.2, q.1 ≠ i) : y.getD i 0 = X.getD i 0 := by
  obtain ⟨c, h1, h2, h3, h4⟩ := tx_word h i hi
  have := hy.out i c h1
  rw [h4 (hit_no hq)] at this
  exact out_clean this
theorem one_ne {A v i : Nat} (h : A ≠ i) : ∀ q ∈ [(A, v)], q.1 ≠ i := fun q hq => by obtain rfl := List.mem_singleton.1 hq; exact h
/-- What Over makes of a worker's own words. -/
theorem stg_out (h4 : a ≤ 4) (hk : k < a) (hW : WkOk a k W) (hX : X.length = ws.length) (hn : ws.length = 392 + 208 * a) (h : Stg a k M ws m W X S mk E) (hy : Oc ws y) :
    (y.getD (264 + 208 * k) 0 = 0 ∨ (y.getD (264 + 208 * k) 0 = markV (recR W) ∧ RecAt (264 + 208 * k) W y)) ∧
    (mk ≠ 1 → ∀ i, InB a k i → ovV a y (264 + 208 * k) i = m.getD i 0) ∧
    (mk = 1 → E.length = ws.length ∧ (∀ p ∈ W, m.getD p.1.toNat 0 = p.2) ∧ (∀ i, InB a k i → (∀ q ∈ wrQ W, q.1 ≠ i) → E.getD i 0 = m.getD i 0) ∧ (y.getD (264 + 208 * k) 0 = 0 → ∀ i, InB a k i → ovV a y (264 + 208 * k) i = E.getD i 0) ∧ (y.getD (264 + 208 * k) 0 ≠ 0 → ∀ i, InB a k i → ovV a y (264 + 208 * k) i = m.getD i 0)) := by
  have hyl := hy.len
  have hl : 264 + 208 * k + 208 ≤ y.length := by omega
  have hrl := hW.rl
  have sealM : ∀ i, InB a k i ∨ i = 264 + 208 * k → ∀ q ∈ (tS k W).2.2, q.1 ≠ i := by
    intro i hi q hq e
    have := seal_mem hq
    rcases hi with hi | hi
    · have := hi.far; omega
    · omega
  have applM : ∀ i, i < 264 + 208 * a → ∀ q ∈ (tA W).2.2, q.1 ≠ i := by
    intro i hi q hq e
    have := (hW.mem q hq).far
    omega
  have recM : ∀ t : Tx, (∀ i, i < (recR W).length → ∀ q ∈ t.2.2, q.1 ≠ 264 + 208 * k + 8 + i) → ∀ rem, TxI (regK a k) M ws X t rem → RecAt (264 + 208 * k) W X → RecAt (264 + 208 * k) W y := by
    intro t hq rem ht hR i hi
    rw [tx_same hy ht _ (reg_R hW hi) (hq i hi)]
    exact hR i hi
  have congrP : (∀ i, InB a k i → y.getD i 0 = X.getD i 0) → ∀ i, InB a k i → (putQ y (wrQ W)).getD i 0 = (putQ X (wrQ W)).getD i 0 := fun hh i hi => putQ_congr _ i _ _ (by omega) (hh i hi)
  cases h with
  | idle hw h0 hk1 hm =>
    have hyX : ∀ i, regK a k i → y.getD i 0 = X.getD i 0 := fun i hi => out_clean (hy.out i _ (hw i hi))
    have hA : y.getD (264 + 208 * k) 0 = 0 := by rw [hyX _ reg_A]; exact h0
    refine ⟨.inl hA, fun _ i hi => ?_, fun e => absurd e hk1⟩
    rw [ov_no hA, hyX i (.inr hi), hm i hi]
  | stS ht h0 hm =>
    have hA : y.getD (264 + 208 * k) 0 = 0 := by rw [tx_same hy ht _ reg_A (sealM _ (.inr rfl))]; exact h0
    refine ⟨.inl hA, fun _ i hi => ?_, fun e => (by cases e)⟩
    rw [ov_no hA, tx_same hy ht i (.inr hi) (sealM i (.inl hi)), hm i hi]
  | mark0 ht h0 hR hm hc hr =>
    have hA : y.getD (264 + 208 * k) 0 = 0 := out_clean (hy.out _ _ hc)
    refine ⟨.inl hA, fun _ i hi => ?_, fun e => (by cases e)⟩
    rw [ov_no hA, tx_same hy ht i (.inr hi) (one_ne (by have := hi.far; omega)), hm i hi]
  | mark1 ht h0 hR hm hs hp hE =>
    have hyB : ∀ i, InB a k i → y.getD i 0 = X.getD i 0 := fun i hi => tx_same hy ht i (.inr hi) (one_ne (by have := hi.far; omega))
    have hyR : RecAt (264 + 208 * k) W y := recM _ (fun i hi => one_ne (by omega)) _ ht hR
    have hA : y.getD (264 + 208 * k) 0 = 0 ∨ y.getD (264 + 208 * k) 0 = markV (recR W) := by
      obtain ⟨c, h1, h2, h3, h4⟩ := tx_word ht _ reg_A
      rcases h3 _ (hy.out _ _ h1) with e | e
      · left; rw [e]; exact h0
      · right
        have := List.mem_singleton.1 e
        exact (Prod.mk.inj this).2
    refine ⟨hA.imp id (fun e => ⟨e, hyR⟩), fun e => absurd rfl e, fun _ => ⟨hE.1, ?_, ?_, ?_, ?_⟩⟩
    · intro p hp
      have hq : (p.1.toNat, p.2) ∈ wrQ W := by unfold wrQ; exact List.mem_map.2 ⟨p, hp, rfl⟩
      have hin := hW.mem _ hq
      have h2 := hin.2
      have h2 : p.1.toNat < bk a k + 16 := h2
      unfold bk at h2
      rw [hm _ hin]
      exact putQ_val (wr_once hW) _ hq X (by show p.1.toNat < X.length; omega)
    · intro i hi hq
      rw [hE.2 i hi, hm i hi, putQ_miss _ i _ hq]
    · intro e i hi
      rw [ov_no e, hyB i hi, hE.2 i hi]
    · intro e i hi
      rcases hA with h | h
      · exact absurd h e
      · rw [ov_yes hW hl h hyR, congrP hyB i hi, hm i hi]
  | stA ht hA hR hm =>
    have hyA : y.getD (264 + 208 * k) 0 = markV (recR W) := by rw [tx_same hy ht _ reg_A (applM _ (by omega))]; exact hA
    have hyR : RecAt (264 + 208 * k) W y := recM _ (fun i hi => applM _ (by omega)) _ ht hR
    refine ⟨.inr ⟨hyA, hyR⟩, fun _ i hi => ?_, fun e => (by cases e)⟩
    rw [ov_yes hW hl hyA hyR, hm i hi]
    by_cases hx : ∃ q ∈ wrQ W, q.1 = i
    · exact putQ_hit _ i _ _ (by omega) hx
    · have hmi : ∀ q ∈ wrQ W, q.1 ≠ i := fun q hq e => hx ⟨q, hq, e⟩
      rw [putQ_miss _ i _ hmi, putQ_miss _ i _ hmi]
      exact tx_same hy ht i (.inr hi) hmi
  | clear ht hA hR hx hm =>
    have hyB : ∀ i, InB a k i → y.getD i 0 = X.getD i 0 := fun i hi => tx_same hy ht i (.inr hi) (one_ne (by have := hi.far; omega))
    have hyR : RecAt (264 + 208 * k) W y := recM _ (fun i hi => one_ne (by omega)) _ ht hR
    have hyA : y.getD (264 + 208 * k) 0 = 0 ∨ y.getD (264 + 208 * k) 0 = markV (recR W) := by
      obtain ⟨c, h1, h2, h3, h4⟩ := tx_word ht _ reg_A
      rcases h3 _ (hy.out _ _ h1) with e | e
      · right; rw [e]; exact hA
      · left
        have := List.mem_singleton.1 e
        exact (Prod.mk.inj this).2
    refine ⟨hyA.imp id (fun e => ⟨e, hyR⟩), fun _ i hi => ?_, fun e => (by cases e)⟩
    rcases hyA with e | e
    · rw [ov_no e, hyB i hi, hm i hi]
    · rw [ov_yes hW hl e hyR, congrP hyB i hi, hx i hi, hm i hi]
theorem stg_seen (hW : WkOk a k W) (h : Stg a k M ws m W X S mk E) (h1 : mk = 1) : (seenL ws).getD (264 + 208 * k) 0 ≠ 0 := by
  cases h with
  | idle hw h0 hk1 hm => exact absurd h1 hk1
  | mark1 ht h0 hR hm hs hp hE =>
    obtain ⟨c, hc, hsn⟩ := hs
    have : (seenL ws).getD (264 + 208 * k) 0 = c.seen := by unfold seenL; rw [List.getD_eq_getElem?_getD, List.getElem?_map, hc]; rfl
    rw [this, hsn]
    exact hW.mk0
  | stS _ _ _ => cases h1
  | mark0 _ _ _ _ _ _ => cases h1
  | stA _ _ _ _ => cases h1
  | clear _ _ _ _ _ => cases h1
theorem stg_wf (h : Stg a k M ws m W X S mk E) (i : Nat) (hi : regK a k i) : ∃ c, ws[i]? = some c ∧ WfW c := by
  have key : ∀ {t : Tx} {rem : List (Nat × Cl)}, TxI (regK a k) M ws X t rem → ∃ c, ws[i]? = some c ∧ WfW c := fun ht => by
    obtain ⟨c, h1, h2, _⟩ := tx_word ht i hi
    exact ⟨c, h1, h2⟩
  cases h with
  | idle hw _ _ _ => exact ⟨_, hw i hi, wf_clean _⟩
  | stS ht _ _ => exact key ht
  | mark0 ht _ _ _ _ _ => exact key ht
  | mark1 ht _ _ _ _ _ _ => exact key ht
  | stA ht _ _ _ => exact key ht
  | clear ht _ _ _ _ => exact key ht
/-- What others do. -/
theorem stg_soft {ws' : List PW} (hl : ws'.length = ws.length) (h : Stg a k M ws m W X S mk E) (hs : SoftL (regK a k) ws ws') : Stg a k M ws' m W X S mk E := by
  cases h with
  | idle hw h0 hk hm =>
    refine .idle (fun i hi => ?_) h0 hk hm
    obtain ⟨c', h1, h2⟩ := hs i hi _ (hw i hi)
    rw [h1, soft_clean h2]
  | stS ht h0 hm => exact .stS (ht.soft hs) h0 hm
  | mark0 ht h0 hR hm hc hr =>
    refine .mark0 (ht.soft hs) h0 hR hm ?_ hr
    obtain ⟨c', h1, h2⟩ := hs _ reg_A _ hc
    rw [h1, soft_clean h2]
  | mark1 ht h0 hR hm hsn hp hE =>
    refine .mark1 (ht.soft hs) h0 hR hm ?_ hp ⟨by rw [hl]; exact hE.1, hE.2⟩
    obtain ⟨c, h1, h2⟩ := hsn
    obtain ⟨c', g1, g2⟩ := hs _ reg_A _ h1
    exact ⟨c', g1, (soft_seen g2).trans h2⟩
  | stA ht hA hR hm => exact .stA (ht.soft hs) hA hR hm
  | clear ht hA hR hx hm => exact .clear (ht.soft hs) hA hR hx hm
theorem stg_model {m' : List Nat} (h : Stg a k M ws m W X S mk E) (hm' : ∀ i, InB a k i → m'.getD i 0 = m.getD i 0) : Stg a k M ws m' W X S mk E := by
  cases h with
  | idle hw h0 hk hm => exact .idle hw h0 hk (fun i hi => (hm' i hi).trans (hm i hi))
  | stS ht h0 hm => exact .stS ht h0 (fun i hi => (hm' i hi).trans (hm i hi))
  | mark0 ht h0 hR hm hc hr => exact .mark0 ht h0 hR (fun i hi => (hm' i hi).trans (hm i hi)) hc hr
  | mark1 ht h0 hR hm hsn hp hE => exact .mark1 ht h0 hR (fun i hi => (hm' i hi).trans (hm i hi)) hsn hp hE
  | stA ht hA hR hm => exact .stA ht hA hR (fun i hi => (hm' i hi).trans (hm i hi))
  | clear ht hA hR hx hm => exact .clear ht hA hR hx (fun i hi => (hm' i hi).trans (hm i hi))
end
end Go.Proofs.YtpdofdloclmbdaaGreat
end
section
/- CommitWhole: a worker's step; all workers. -/
namespace Go.Proofs.YtpdofdloclmbdaaGreat
open Go.RowKit Go.Grommet

section
variable {a k M : Nat} {ws : List PW} {m : List Nat} {W : List (Int × Nat)} {X : List Nat} {S S0 : List (Nat × Cl)} {mk : Nat} {E y : List Nat}
theorem tx_store {reg : Nat → Prop} {t : Tx} {p ad v : Nat} {rem : List (Nat × Cl)} (h : TxI reg M ws X t ((p, .store ad v) :: rem)) : (ad, v) ∈ t.2.2 := by
  rcases h with ⟨j, hj, e, _⟩ | ⟨Z, e, _⟩
  · rw [List.drop_eq_getElem_cons hj] at e
    have e1 : (p, Cl.store ad v) = (t.1, Cl.store t.2.2[j].1 t.2.2[j].2) := (List.cons.inj e).1
    simp only [Prod.mk.injEq, Cl.store.injEq] at e1
    have : (ad, v) = t.2.2[j] := by rw [e1.2.1, e1.2.2]
    rw [this]
    exact List.getElem_mem hj
  · cases Z with
    | nil => have e1 := (List.cons.inj e).1; cases e1
    | cons z Z => have e1 := (List.cons.inj e).1; cases e1
theorem tx_first {reg : Nat → Prop} {p p' A v : Nat} {r : List (Nat × Cl)} (h : TxI reg M ws X (p, p', [(A, v)]) ((p, .store A v) :: r)) : r ≠ [] ∧ ∀ s ∈ r, s.1 = p' := by
  rcases h with ⟨j, hj, e, _⟩ | ⟨Z, e, _⟩
  · have hj : j < 1 := hj
    obtain rfl : j = 0 := by omega
    have e2 : r = settleS M p' [A] := (List.cons.inj e).2
    rw [e2]
    refine ⟨settle_ne _ _ _, fun s hs => ?_⟩
    unfold settleS at hs
    rcases List.mem_append.1 hs with hs | hs
    · unfold flushS at hs
      obtain ⟨l, _, rfl⟩ := List.mem_map.1 hs
      rfl
    · obtain rfl := List.mem_singleton.1 hs; rfl
  · cases Z with
    | nil =>
      have e1 : (p, Cl.store A v) = (p', Cl.fence) := (List.cons.inj e).1
      cases (Prod.mk.inj e1).2
    | cons z Z =>
      have e1 : (p, Cl.store A v) = (p', Cl.flush z) := (List.cons.inj e).1
      cases (Prod.mk.inj e1).2
theorem does_soft {reg : Nat → Prop} {cl : Cl} (h : ∀ ad v, cl = .store ad v → ¬ reg ad) : SoftL reg ws (cl.does ws) := by
  intro i hi c hc
  cases cl with
  | store ad v =>
    have hne : ad ≠ i := fun e => h ad v rfl (by rw [e]; exact hi)
    refine ⟨c, ?_, .inl rfl⟩
    show (ws.modify ad (·.store v))[i]? = _
    rw [List.getElem?_modify, hc]
    simp [hne]
  | flush l =>
    show ∃ c', (turnFrom PW.flush (8 * l) 8 ws)[i]? = _ ∧ _
    rw [turnFrom_get, hc]
    split
    · exact ⟨c.flush, rfl, .inr (.inr (.inr rfl))⟩
    · exact ⟨c, rfl, .inl rfl⟩
  | fence =>
    show ∃ c', (ws.map PW.fence)[i]? = _ ∧ _
    rw [List.getElem?_map, hc]
    exact ⟨c.fence, rfl, .inr (.inr (.inl rfl))⟩
theorem evict_soft {reg : Nat → Prop} (l : Nat) : SoftL reg ws (turnFrom PW.evict (8 * l) 8 ws) := by
  intro i hi c hc
  rw [turnFrom_get, hc]
  split
  · exact ⟨c.evict, rfl, .inr (.inl rfl)⟩
  · exact ⟨c, rfl, .inl rfl⟩
/-- The head of what is left of a transaction. -/
theorem rem_head {rem rest : List (Nat × Cl)} {s : Nat × Cl} (hne : rem ≠ []) (e : rem ++ rest = s :: S) : ∃ rem', rem = s :: rem' ∧ S = rem' ++ rest := by
  cases rem with
  | nil => exact absurd rfl hne
  | cons r rem' =>
    have := List.cons.inj e
    exact ⟨rem', by rw [this.1], this.2.symm⟩
theorem head_of {rem rest : List (Nat × Cl)} {P : Nat → Prop} (hne : rem ≠ []) (h : ∀ s ∈ rem, P s.1) : ∃ s S', rem ++ rest = s :: S' ∧ P s.1 := by
  cases rem with
  | nil => exact absurd rfl hne
  | cons r rem' => exact ⟨r, rem' ++ rest, rfl, h r (List.mem_cons_self ..)⟩

/-- A step of a worker's own. -/
theorem stg_step {p : Nat} {cl : Cl} (h4 : a ≤ 4) (hk : k < a) (hW : WkOk a k W) (hX : X.length = ws.length) (hn : ws.length = 392 + 208 * a) (hM : M = ws.length / 8) (hml : m.length = ws.length) (h : Stg a k M ws m W X S0 mk E) (hS : S0 = (p, cl) :: S) :
    (∀ ad v, cl = .store ad v → regK a k ad) ∧ ∃ X', X'.length = X.length ∧
     ((p ≠ 3 ∧ Stg a k M (cl.does ws) m W X' S mk E) ∨
      (p = 3 ∧ mk = 0 ∧ (∃ s S', S = s :: S' ∧ s.1 = 3) ∧ Stg a k M (cl.does ws) (putQ m (wrQ W)) W X' S 1 m) ∨
      (p = 3 ∧ mk = 1 ∧ (((∃ s S', S = s :: S' ∧ s.1 = 3) ∧ Stg a k M (cl.does ws) m W X' S 1 E) ∨ ((∃ s S', S = s :: S' ∧ s.1 ≠ 3) ∧ Stg a k M (cl.does ws) m W X' S 2 E)))) := by
  have hdl := Cl.does_len cl ws
  have hreg : ∀ i, regK a k i → i < ws.length := by
    intro i hi
    rcases hi with hi | hi
    · omega
    · have h2 : i < bk a k + 16 := hi.2
      unfold bk at h2
      have := hk
      omega
  have hreg8 : ∀ i, regK a k i → i / 8 < M := by
    intro i hi
    have := hreg i hi
    omega
  have hrl := hW.rl
  have step := fun {t : Tx} {rem' : List (Nat × Cl)} (ht : TxI (regK a k) M ws X t ((p, cl) :: rem')) => tx_step hreg8 hX hreg ht
  have farB : ∀ i, InB a k i → ∀ v, ∀ q ∈ [(264 + 208 * k, v)], q.1 ≠ i := fun i hi v => one_ne (by have := hi.far; omega)
  have farW : ∀ i, i < 264 + 208 * a → ∀ q ∈ wrQ W, q.1 ≠ i := fun i hi q hq e => by have := (hW.mem q hq).far; omega
  cases h with
  | idle hw h0 hk1 hm => cases hS
  | stS ht h0 hm =>
    obtain ⟨rem', rfl, rfl⟩ := rem_head ht.ne hS
    have hp := tx_phase ht _ (List.mem_cons_self ..)
    have hp3 : p ≠ 3 := by
      rcases hp with e | e
      · have e : p = 1 := e; omega
      · have e : p = 2 := e; omega
    refine ⟨fun ad v e => ?_, ?_⟩
    · subst e
      have := seal_mem (tx_store ht)
      exact .inl ⟨by omega, by omega⟩
    · rcases step ht with ⟨_, h2⟩ | ⟨rfl, h2, h3⟩
      · exact ⟨X, rfl, .inl ⟨hp3, .stS h2 h0 hm⟩⟩
      · have hA' : (putQ X (tS k W).2.2).getD (264 + 208 * k) 0 = 0 := by
          rw [putQ_miss _ _ _ (fun q hq e => by have := seal_mem hq; omega)]; exact h0
        refine ⟨putQ X (tS k W).2.2, putQ_len _ _, .inl ⟨hp3, ?_⟩⟩
        refine .mark0 (tx_begin (tM k W) hreg8 h3) hA' (fun i hi => ?_) (fun i hi => ?_) ?_ ⟨_, rfl⟩
        · exact seal_get (264 + 208 * k) (recR W) X i _ hi (by omega)
        · rw [putQ_miss _ _ _ (fun q hq e => by have := seal_mem hq; have := hi.far; omega)]; exact hm i hi
        · rw [h3 _ reg_A, hA']
  | mark0 ht h0 hR hm hc hr =>
    obtain ⟨rem', rfl, rfl⟩ := rem_head ht.ne hS
    obtain ⟨r, hr⟩ := hr
    have e1 := (List.cons.inj hr).1
    have e1p : p = 3 := (Prod.mk.inj e1).1
    have e1c : cl = .store (264 + 208 * k) (markV (recR W)) := (Prod.mk.inj e1).2
    subst e1p e1c
    obtain ⟨hne, hph⟩ := tx_first ht
    refine ⟨fun ad v e => ?_, ?_⟩
    · cases e; exact reg_A
    · rcases step ht with ⟨_, h2⟩ | ⟨rfl, h2, h3⟩
      · refine ⟨X, rfl, .inr (.inl ⟨rfl, rfl, head_of (P := fun p => p = 3) hne hph, ?_⟩)⟩
        refine .mark1 h2 h0 hR (fun i hi => putQ_congr _ i _ _ (by omega) (hm i hi)) ?_ hph ⟨by rw [hdl]; exact hml, hm⟩
        refine ⟨(cleanW 0).store (markV (recR W)), ?_, rfl⟩
        show (ws.modify _ _)[_]? = _
        rw [List.getElem?_modify, hc]
        simp
      · cases h2
  | mark1 ht h0 hR hm hs hp hE =>
    obtain ⟨rem', rfl, rfl⟩ := rem_head ht.ne hS
    have hp3 : p = 3 := hp _ (List.mem_cons_self ..)
    have hcl : ∀ ad v, cl ≠ .store ad v := by
      intro ad v e
      subst e
      obtain ⟨c, hc, hsn⟩ := hs
      rcases ht with ⟨j, hj, e, hAA⟩ | ⟨Z, e, _⟩
      · have hj : j < 1 := hj
        obtain rfl : j = 0 := by omega
        have := (hAA _ reg_A).1 rfl
        rw [hc] at this
        have := Option.some.inj this
        rw [this] at hsn
        have hsn : X.getD (264 + 208 * k) 0 = markV (recR W) := hsn
        rw [h0] at hsn
        exact hW.mk0 hsn.symm
      · cases Z with
        | nil => have e1 := (List.cons.inj e).1; cases e1
        | cons z Z => have e1 := (List.cons.inj e).1; cases e1
    refine ⟨fun ad v e => absurd e (hcl ad v), ?_⟩
    rcases step ht with ⟨hne, h2⟩ | ⟨rfl, h2, h3⟩
    · refine ⟨X, rfl, .inr (.inr ⟨hp3, rfl, .inl ⟨head_of (P := fun p => p = 3) hne (fun s hs => hp s (List.mem_cons_of_mem _ hs)), ?_⟩⟩)⟩
      refine .mark1 h2 h0 hR hm ?_ (fun s hs => hp s (List.mem_cons_of_mem _ hs)) ⟨by rw [hdl]; exact hE.1, hE.2⟩
      obtain ⟨c, hc, hsn⟩ := hs
      obtain ⟨c', g1, g2⟩ := does_soft (reg := fun _ => True) (cl := cl) (fun ad v e => absurd e (hcl ad v)) (264 + 208 * k) trivial c hc
      exact ⟨c', g1, (soft_seen g2).trans hsn⟩
    · have hX' : ∀ i, InB a k i → (putQ X (tM k W).2.2).getD i 0 = X.getD i 0 := fun i hi => putQ_miss _ i _ (farB i hi _)
      have ht' := tx_begin (tA W) hreg8 h3
      refine ⟨putQ X (tM k W).2.2, putQ_len _ _, .inr (.inr ⟨hp3, rfl, .inr ⟨?_, ?_⟩⟩)⟩
      · show ∃ s S', txR M (tA W) ++ txR M (tC k) = s :: S' ∧ s.1 ≠ 3
        exact head_of (P := fun p => p ≠ 3) (txR_ne M (tA W)) (fun s hs => by
          rcases tx_phase ht' s hs with e | e
          · have e : s.1 = 4 := e; omega
          · have e : s.1 = 5 := e; omega)
      · refine .stA ht' ?_ (fun i hi => ?_) (fun i hi => ?_)
        · show (X.set (264 + 208 * k) (markV (recR W))).getD (264 + 208 * k) 0 = _
          rw [getD_set, if_pos ⟨rfl, by omega⟩]
        · show (putQ X [(264 + 208 * k, markV (recR W))]).getD _ 0 = _
          rw [putQ_miss _ _ _ (one_ne (by omega))]; exact hR i hi
        · rw [hm i hi]
          exact (putQ_congr _ i _ _ (by rw [putQ_len]) (hX' i hi)).symm
  | stA ht hA hR hm =>
    obtain ⟨rem', rfl, rfl⟩ := rem_head ht.ne hS
    have hp := tx_phase ht _ (List.mem_cons_self ..)
    have hp3 : p ≠ 3 := by
      rcases hp with e | e
      · have e : p = 4 := e; omega
      · have e : p = 5 := e; omega
    refine ⟨fun ad v e => ?_, ?_⟩
    · subst e
      exact .inr (hW.mem _ (tx_store ht))
    · rcases step ht with ⟨_, h2⟩ | ⟨rfl, h2, h3⟩
      · exact ⟨X, rfl, .inl ⟨hp3, .stA h2 hA hR hm⟩⟩
      · refine ⟨putQ X (tA W).2.2, putQ_len _ _, .inl ⟨hp3, ?_⟩⟩
        refine .clear (tx_begin (tC k) hreg8 h3) ?_ (fun i hi => ?_) (fun i hi => ?_) hm
        · show (putQ X (wrQ W)).getD _ 0 = _
          rw [putQ_miss _ _ _ (farW _ (by omega))]; exact hA
        · show (putQ X (wrQ W)).getD _ 0 = _
          rw [putQ_miss _ _ _ (farW _ (by omega))]; exact hR i hi
        · have := putQ_twice (wrQ W) (wrQ W).length X i
          rw [List.take_length] at this
          exact this
  | clear ht hA hR hx hm =>
    obtain ⟨rem', e1, e2⟩ := rem_head (rest := []) ht.ne (by rw [List.append_nil]; exact hS)
    rw [List.append_nil] at e2
    subst e1 e2
    have hp := tx_phase ht _ (List.mem_cons_self ..)
    have hp3 : p ≠ 3 := by
      rcases hp with e | e
      · have e : p = 6 := e; omega
      · have e : p = 6 := e; omega
    refine ⟨fun ad v e => ?_, ?_⟩
    · subst e
      have := List.mem_singleton.1 (tx_store ht)
      rw [(Prod.mk.inj this).1]
      exact reg_A
    · rcases step ht with ⟨_, h2⟩ | ⟨rfl, h2, h3⟩
      · exact ⟨X, rfl, .inl ⟨hp3, .clear h2 hA hR hx hm⟩⟩
      · refine ⟨putQ X (tC k).2.2, putQ_len _ _, .inl ⟨hp3, ?_⟩⟩
        refine .idle h3 ?_ (by decide) (fun i hi => ?_)
        · show (X.set (264 + 208 * k) 0).getD (264 + 208 * k) 0 = _
          rw [getD_set, if_pos ⟨rfl, by omega⟩]
        · show _ = (putQ X [(264 + 208 * k, 0)]).getD i 0
          rw [putQ_miss _ _ _ (farB i hi 0)]; exact hm i hi
theorem stg_none (h : Stg a k M ws m W X S0 mk E) (hS : S0 = []) : (∀ i, regK a k i → ws[i]? = some (cleanW (X.getD i 0))) ∧ X.getD (264 + 208 * k) 0 = 0 ∧ mk ≠ 1 ∧ ∀ i, InB a k i → m.getD i 0 = X.getD i 0 := by
  cases h with
  | idle hw h0 hk1 hm => exact ⟨hw, h0, hk1, hm⟩
  | stS ht _ _ => exact absurd (List.append_eq_nil_iff.1 hS).1 ht.ne
  | mark0 ht _ _ _ _ _ => exact absurd (List.append_eq_nil_iff.1 hS).1 ht.ne
  | mark1 ht _ _ _ _ _ _ => exact absurd (List.append_eq_nil_iff.1 hS).1 ht.ne
  | stA ht _ _ _ => exact absurd (List.append_eq_nil_iff.1 hS).1 ht.ne
  | clear ht _ _ _ _ => exact absurd hS ht.ne
end

/-! All workers. -/
structure Wk where
  make ::
  W : List (Int × Nat)
  X : List Nat
  S : List (Nat × Cl)
  mk : Nat
  E : List Nat
def setU (us : Nat → Wk) (k : Nat) (u : Wk) : Nat → Wk := fun j => if j = k then u else us j
theorem setU_same (us : Nat → Wk) (k : Nat) (u : Wk) : setU us k u k = u := by unfold setU; rw [if_pos rfl]
theorem setU_ne (us : Nat → Wk) {k j : Nat} (u : Wk) (h : j ≠ k) : setU us k u j = us j := by unfold setU; rw [if_neg h]
structure Crew (a M : Nat) (ws : List PW) (m : List Nat) (us : Nat → Wk) : Prop where
  few : a ≤ 4
  len : ws.length = 392 + 208 * a
  ml : m.length = ws.length
  hM : M = ws.length / 8
  ok : ∀ k, k < a → WkOk a k (us k).W
  xl : ∀ k, k < a → (us k).X.length = ws.length
  st : ∀ k, k < a → Stg a k M ws m (us k).W (us k).X (us k).S (us k).mk (us k).E
  can : ∀ k, k < a → ∀ s ∈ (us k).S, s.2.ok ws.length
  rest : ∀ i, i < ws.length → (i < 264 ∨ 264 + 208 * a ≤ i) → (∀ k, k < a → ¬ InB a k i) → ws[i]? = some (cleanW (m.getD i 0))
  area : ∀ i, 264 ≤ i → i < 264 + 208 * a → m.getD i 0 = 0
section
variable {a M : Nat} {ws : List PW} {m : List Nat} {us : Nat → Wk} {y : List Nat}
theorem where_is (a i : Nat) : (264 ≤ i ∧ i < 264 + 208 * a) ∨ (∃ k, k < a ∧ InB a k i) ∨ ((i < 264 ∨ 264 + 208 * a ≤ i) ∧ ∀ k, k < a → ¬ InB a k i) := by
  by_cases h : 264 ≤ i ∧ i < 264 + 208 * a
  · exact .inl h
  · by_cases h2 : ∃ k, k < a ∧ InB a k i
    · exact .inr (.inl h2)
    · exact .inr (.inr ⟨by omega, fun k hk hi => h2 ⟨k, hk, hi⟩⟩)
theorem area_reg {a i : Nat} (h : 264 ≤ i ∧ i < 264 + 208 * a) : ∃ k, k < a ∧ regK a k i := ⟨(i - 264) / 208, by omega, .inl ⟨by omega, by omega⟩⟩
theorem Crew.wf (h : Crew a M ws m us) : ∀ c ∈ ws, WfW c := by
  intro c hc
  obtain ⟨i, hi⟩ := List.mem_iff_getElem?.1 hc
  have hl := (List.getElem?_eq_some_iff.1 hi).1
  have key : ∀ k, k < a → regK a k i → WfW c := by
    intro k hk hr
    obtain ⟨c', h1, h2⟩ := stg_wf (h.st k hk) i hr
    rw [hi] at h1
    rw [Option.some.inj h1]
    exact h2
  rcases where_is a i with h1 | ⟨k, hk, h2⟩ | ⟨h3, h4⟩
  · obtain ⟨k, hk, hr⟩ := area_reg h1
    exact key k hk hr
  · exact key k hk (.inr h2)
  · have := h.rest i hl h3 h4
    rw [hi] at this
    rw [Option.some.inj this]
    exact wf_clean _
theorem Crew.own (h : Crew a M ws m us) (hy : Oc ws y) : OwnB a y := by
  intro t ht hc q hq
  obtain ⟨h1, _⟩ := stg_out h.few ht (h.ok t ht) (h.xl t ht) h.len (h.st t ht) hy
  have hyl := hy.len
  have hl := h.len
  rcases h1 with e | ⟨e, hR⟩
  · rw [com_no e] at hc; cases hc
  · rw [(com_yes (h.ok t ht) (by omega) e hR).2] at hq
    exact (h.ok t ht).mem q hq
theorem Crew.over (h : Crew a M ws m us) (hy : Oc ws y) : (overS (a : Int) 2 10 y a).length = ws.length ∧ (∀ i, 264 ≤ i → i < 264 + 208 * a → (overS (a : Int) 2 10 y a).getD i 0 = 0) ∧ (∀ i, i < ws.length → (i < 264 ∨ 264 + 208 * a ≤ i) → (∀ k, k < a → ¬ InB a k i) → (overS (a : Int) 2 10 y a).getD i 0 = m.getD i 0 ∧ y.getD i 0 = m.getD i 0) ∧ (∀ k, k < a → ∀ i, InB a k i → (overS (a : Int) 2 10 y a).getD i 0 = ovV a y (264 + 208 * k) i) := by
  have hyl := hy.len
  have hl := h.len
  have hD := h.own hy
  refine ⟨by rw [overS_length, hyl], fun i h1 h2 => over_area (by omega) hD i a (Nat.le_refl _) h1 h2, fun i hi h1 h2 => ?_, fun k hk i hi => ?_⟩
  · have := out_clean (hy.out i _ (h.rest i hi h1 h2))
    exact ⟨by rw [over_else (by omega) hD i h1 h2 a (Nat.le_refl _)]; exact this, this⟩
  · rw [over_blk (by omega) hD k i hi a (Nat.le_refl _), if_pos hk]
theorem past_end {xs : List Nat} {i : Nat} (h : xs.length ≤ i) : xs.getD i 0 = 0 := by rw [List.getD_eq_getElem?_getD, List.getElem?_eq_none h]; rfl
theorem Crew.seen (h : Crew a M ws m us) : overS (a : Int) 2 10 (seenL ws) a = m := by
  have hy := oc_seen h.wf
  obtain ⟨o1, o2, o3, o4⟩ := h.over hy
  refine list_getD_ext (by rw [o1, h.ml]) (fun i => ?_)
  by_cases hi : i < ws.length
  · rcases where_is a i with h1 | ⟨k, hk, h2⟩ | ⟨h3, h4⟩
    · rw [o2 i h1.1 h1.2, h.area i h1.1 h1.2]
    · rw [o4 k hk i h2]
      obtain ⟨_, s2, s3⟩ := stg_out h.few hk (h.ok k hk) (h.xl k hk) h.len (h.st k hk) hy
      by_cases e : (us k).mk = 1
      · exact (s3 e).2.2.2.2 (stg_seen (h.ok k hk) (h.st k hk) e) i h2
      · exact s2 e i h2
    · exact (o3 i hi h3 h4).1
  · rw [past_end (by rw [o1]; omega), past_end (by rw [h.ml]; omega)]
/-- What a loss of power makes of the writes. -/
theorem Crew.fates (h : Crew a M ws m us) (hy : Oc ws y) :
    (overS (a : Int) 2 10 y a).length = ws.length ∧ (∀ k, k < a → (us k).mk = 1 → (us k).E.length = ws.length ∧ (∀ p ∈ (us k).W, 0 ≤ p.1 ∧ p.1.toNat < ws.length) ∧ ((∀ p ∈ (us k).W, (overS (a : Int) 2 10 y a).getD p.1.toNat 0 = p.2) ∨ (∀ p ∈ (us k).W, (overS (a : Int) 2 10 y a).getD p.1.toNat 0 = (us k).E.getD p.1.toNat 0))) ∧
    (∀ i, i < ws.length → (∀ k, k < a → (us k).mk = 1 → ∀ p ∈ (us k).W, p.1.toNat ≠ i) → (overS (a : Int) 2 10 y a).getD i 0 = m.getD i 0) := by
  obtain ⟨o1, o2, o3, o4⟩ := h.over hy
  have hl := h.len
  have inb : ∀ k, k < a → ∀ p ∈ (us k).W, InB a k p.1.toNat := fun k hk p hp => (h.ok k hk).mem (p.1.toNat, p.2) (by unfold wrQ; exact List.mem_map.2 ⟨p, hp, rfl⟩)
  refine ⟨o1, fun k hk e => ?_, fun i hi hno => ?_⟩
  · obtain ⟨_, _, s3⟩ := stg_out h.few hk (h.ok k hk) (h.xl k hk) h.len (h.st k hk) hy
    obtain ⟨t1, t2, t3, t4, t5⟩ := s3 e
    refine ⟨t1, fun p hp => ⟨(h.ok k hk).fine.at_ p hp |>.1, ?_⟩, ?_⟩
    · have h2 : p.1.toNat < bk a k + 16 := (inb k hk p hp).2
      unfold bk at h2
      have := h.few
      omega
    · by_cases hz : y.getD (264 + 208 * k) 0 = 0
      · right; intro p hp; rw [o4 k hk _ (inb k hk p hp)]; exact t4 hz _ (inb k hk p hp)
      · left; intro p hp; rw [o4 k hk _ (inb k hk p hp), t5 hz _ (inb k hk p hp)]; exact t2 p hp
  · rcases where_is a i with h1 | ⟨k, hk, h2⟩ | ⟨h3, h4⟩
    · rw [o2 i h1.1 h1.2, h.area i h1.1 h1.2]
    · rw [o4 k hk i h2]
      obtain ⟨_, s2, s3⟩ := stg_out h.few hk (h.ok k hk) (h.xl k hk) h.len (h.st k hk) hy
      by_cases e : (us k).mk = 1
      · obtain ⟨t1, t2, t3, t4, t5⟩ := s3 e
        have hq : ∀ q ∈ wrQ (us k).W, q.1 ≠ i := fun q hq e' => by
          unfold wrQ at hq
          obtain ⟨p, hp, rfl⟩ := List.mem_map.1 hq
          exact hno k hk e p hp e'
        by_cases hz : y.getD (264 + 208 * k) 0 = 0
        · rw [t4 hz i h2, t3 i h2 hq]
        · exact t5 hz i h2
      · exact s2 e i h2
    · exact (o3 i hi h3 h4).1

/-- What is done. -/
theorem Crew.evict (h : Crew a M ws m us) (l : Nat) : Crew a M (turnFrom PW.evict (8 * l) 8 ws) m us := by
  have hl := turnFrom_len PW.evict (8 * l) ws 8
  refine ⟨h.few, by rw [hl]; exact h.len, by rw [hl]; exact h.ml, by rw [hl]; exact h.hM, h.ok, fun k hk => by rw [hl]; exact h.xl k hk, fun k hk => stg_soft hl (h.st k hk) (evict_soft l), fun k hk s hs => by rw [hl]; exact h.can k hk s hs, fun i hi h1 h2 => ?_, h.area⟩
  rw [turnFrom_get, h.rest i (by rw [hl] at hi; exact hi) h1 h2]
  split <;> rfl
theorem Crew.turn (h : Crew a M ws m us) {k : Nat} (hk : k < a) {p : Nat} {cl : Cl} {S : List (Nat × Cl)} (hS : (us k).S = (p, cl) :: S) {m' X' : List Nat} {mk' : Nat} {E' : List Nat} (hreg : ∀ ad v, cl = .store ad v → regK a k ad) (hX : X'.length = ws.length) (hm : m' = m ∨ m' = putQ m (wrQ (us k).W)) (hst : Stg a k M (cl.does ws) m' (us k).W X' S mk' E') : Crew a M (cl.does ws) m' (setU us k ⟨(us k).W, X', S, mk', E'⟩) := by
  have hl := Cl.does_len cl ws
  have hml : m'.length = m.length := by
    rcases hm with e | e
    · rw [e]
    · rw [e, putQ_len]
  have hmi : ∀ i, ¬ InB a k i → m'.getD i 0 = m.getD i 0 := by
    intro i hi
    rcases hm with e | e
    · rw [e]
    · rw [e, putQ_miss _ i _ (fun q hq e' => hi (by rw [← e']; exact (h.ok k hk).mem q hq))]
  refine ⟨h.few, by rw [hl]; exact h.len, by rw [hl, hml]; exact h.ml, by rw [hl]; exact h.hM, fun j hj => ?_, fun j hj => ?_, fun j hj => ?_, fun j hj => ?_, fun i hi h1 h2 => ?_, fun i h1 h2 => ?_⟩
  · by_cases e : j = k
    · subst e; rw [setU_same]; exact h.ok j hj
    · rw [setU_ne _ _ e]; exact h.ok j hj
  · rw [hl]
    by_cases e : j = k
    · subst e; rw [setU_same]; exact hX
    · rw [setU_ne _ _ e]; exact h.xl j hj
  · by_cases e : j = k
    · subst e; rw [setU_same]; exact hst
    · rw [setU_ne _ _ e]
      refine stg_model (stg_soft hl (h.st j hj) (does_soft (fun ad v e1 hr => e (reg_one hj hk hr (hreg ad v e1))))) (fun i hi => hmi i (fun hi' => e (hi.one hi')))
  · rw [hl]
    by_cases e : j = k
    · subst e; rw [setU_same]; exact fun s hs => h.can j hj s (by rw [hS]; exact List.mem_cons_of_mem _ hs)
    · rw [setU_ne _ _ e]; exact h.can j hj
  · rw [hl] at hi
    rw [hmi i (h2 k hk)]
    have hr : ¬ regK a k i := by
      rintro (hr | hr)
      · omega
      · exact h2 k hk hr
    obtain ⟨c', g1, g2⟩ := does_soft (reg := fun x => ¬ regK a k x) (cl := cl) (fun ad v e hx => hx (hreg ad v e)) i hr _ (h.rest i hi h1 h2)
    rw [g1, soft_clean g2]
  · rw [hmi i (fun hi => by have := hi.far; omega)]
    exact h.area i h1 h2
theorem Crew.step (h : Crew a M ws m us) {k : Nat} (hk : k < a) {p : Nat} {cl : Cl} {S : List (Nat × Cl)} (hS : (us k).S = (p, cl) :: S) :
    ∃ u, u.W = (us k).W ∧ u.S = S ∧
      ((p ≠ 3 ∧ u.mk = (us k).mk ∧ u.E = (us k).E ∧ Crew a M (cl.does ws) m (setU us k u)) ∨
       (p = 3 ∧ (us k).mk = 0 ∧ (∃ s S', S = s :: S' ∧ s.1 = 3) ∧ u.mk = 1 ∧ u.E = m ∧ Crew a M (cl.does ws) (putQ m (wrQ (us k).W)) (setU us k u)) ∨
       (p = 3 ∧ (us k).mk = 1 ∧ u.E = (us k).E ∧ (((∃ s S', S = s :: S' ∧ s.1 = 3) ∧ u.mk = 1) ∨ ((∃ s S', S = s :: S' ∧ s.1 ≠ 3) ∧ u.mk = 2)) ∧ Crew a M (cl.does ws) m (setU us k u))) := by
  obtain ⟨hreg, X', hXl, h3⟩ := stg_step h.few hk (h.ok k hk) (h.xl k hk) h.len h.hM h.ml (h.st k hk) hS
  have hX : X'.length = ws.length := hXl.trans (h.xl k hk)
  rcases h3 with ⟨h1, h2⟩ | ⟨h1, h2, h4, h5⟩ | ⟨h1, h2, ⟨h4, h5⟩ | ⟨h4, h5⟩⟩
  · exact ⟨⟨_, X', S, _, _⟩, rfl, rfl, .inl ⟨h1, rfl, rfl, h.turn hk hS hreg hX (.inl rfl) h2⟩⟩
  · exact ⟨⟨_, X', S, 1, m⟩, rfl, rfl, .inr (.inl ⟨h1, h2, h4, rfl, rfl, h.turn hk hS hreg hX (.inr rfl) h5⟩)⟩
  · exact ⟨⟨_, X', S, 1, _⟩, rfl, rfl, .inr (.inr ⟨h1, h2, rfl, .inl ⟨h4, rfl⟩, h.turn hk hS hreg hX (.inl rfl) h5⟩)⟩
  · exact ⟨⟨_, X', S, 2, _⟩, rfl, rfl, .inr (.inr ⟨h1, h2, rfl, .inr ⟨h4, rfl⟩, h.turn hk hS hreg hX (.inl rfl) h5⟩)⟩
/-- A worker that is idle is given another state. -/
theorem Crew.give (h : Crew a M ws m us) {k : Nat} (hk : k < a) {u : Wk} (hW : WkOk a k u.W) (hX : u.X.length = ws.length) (hst : Stg a k M ws m u.W u.X u.S u.mk u.E) (hc : ∀ s ∈ u.S, s.2.ok ws.length) : Crew a M ws m (setU us k u) := by
  refine ⟨h.few, h.len, h.ml, h.hM, fun j hj => ?_, fun j hj => ?_, fun j hj => ?_, fun j hj => ?_, h.rest, h.area⟩ <;> by_cases e : j = k
  · subst e; rw [setU_same]; exact hW
  · rw [setU_ne _ _ e]; exact h.ok j hj
  · subst e; rw [setU_same]; exact hX
  · rw [setU_ne _ _ e]; exact h.xl j hj
  · subst e; rw [setU_same]; exact hst
  · rw [setU_ne _ _ e]; exact h.st j hj
  · subst e; rw [setU_same]; exact hc
  · rw [setU_ne _ _ e]; exact h.can j hj
theorem WkOk.val {k : Nat} {W : List (Int × Nat)} (hW : WkOk a k W) (hk : k < a) {n : Nat} (hn : n = 392 + 208 * a) (ha : a ≤ 4) : ∀ p ∈ W, p.1.toNat < n ∧ p.2 < 18446744073709551616 := by
  intro p hp
  refine ⟨?_, hW.good.val p hp⟩
  have h2 : p.1.toNat < bk a k + 16 := (hW.mem (p.1.toNat, p.2) (by unfold wrQ; exact List.mem_map.2 ⟨p, hp, rfl⟩)).2
  unfold bk at h2
  omega
theorem Crew.begin (h : Crew a M ws m us) {k : Nat} (hk : k < a) (hS : (us k).S = []) {W : List (Int × Nat)} (hW : WkOk a k W) : Crew a M ws m (setU us k ⟨W, (us k).X, beginS M (264 + 208 * k) W, 0, []⟩) := by
  obtain ⟨hw, h0, hm1, hm⟩ := stg_none (h.st k hk) hS
  have hl := h.len
  have hM := h.hM
  have hrl := hW.rl
  have h4 := h.few
  have hv := hW.val hk hl h.few
  refine h.give hk hW (h.xl k hk) ?_ ?_
  · have hb : beginS M (264 + 208 * k) W = txR M (tS k W) ++ (txR M (tM k W) ++ (txR M (tA W) ++ txR M (tC k))) := by
      unfold beginS
      rw [List.append_assoc]
      rfl
    show Stg a k M ws m W (us k).X (beginS M (264 + 208 * k) W) 0 []
    rw [hb]
    refine .stS (tx_begin (tS k W) (fun i hi => ?_) hw) h0 hm
    have : i < ws.length := by
      rcases hi with hi | hi
      · omega
      · have h2 : i < bk a k + 16 := hi.2
        unfold bk at h2
        omega
    omega
  · exact ok_begin M (264 + 208 * k) ws.length W hM (by omega) (recR_small (fun p hp => ⟨hW.fine.at_ p hp |>.2, hW.good.val p hp⟩) hW.fine.few) hv (markV_lt _)
/-- Behind a loss of power: what is left stands, and some are to go on. -/
def afterU (us : Nat → Wk) (M : Nat) (y : List Nat) : Nat → Wk := fun k => if y.getD (264 + 208 * k) 0 = 0 then ⟨(us k).W, y, [], 0, []⟩ else ⟨(us k).W, y, applyS M (264 + 208 * k) (us k).W, 2, []⟩
theorem cleanL_at (y : List Nat) (i : Nat) (h : i < y.length) : (cleanL y)[i]? = some (cleanW (y.getD i 0)) := cleanL_get y i h
theorem Crew.crash (h : Crew a M ws m us) (hy : Oc ws y) : Crew a M (cleanL y) (overS (a : Int) 2 10 y a) (afterU us M y) := by
  obtain ⟨o1, o2, o3, o4⟩ := h.over hy
  have hyl := hy.len
  have hl := h.len
  have hM := h.hM
  have hcl : (cleanL y).length = ws.length := by rw [cleanL_len, hyl]
  have hreg : ∀ k, k < a → ∀ i, regK a k i → i < ws.length := by
    intro k hk i hi
    rcases hi with hi | hi
    · omega
    · have h2 : i < bk a k + 16 := hi.2
      unfold bk at h2
      have := h.few
      omega
  have hWe : ∀ k, (afterU us M y k).W = (us k).W := fun k => by unfold afterU; split <;> rfl
  have hXe : ∀ k, (afterU us M y k).X = y := fun k => by unfold afterU; split <;> rfl
  refine ⟨h.few, by rw [hcl]; exact hl, by rw [hcl]; exact o1, by rw [hcl]; exact hM, fun k hk => by rw [hWe]; exact h.ok k hk, fun k hk => by rw [hXe, hcl]; exact hyl, fun k hk => ?_, fun k hk => ?_, fun i hi h1 h2 => ?_, o2⟩
  · obtain ⟨s1, _⟩ := stg_out h.few hk (h.ok k hk) (h.xl k hk) h.len (h.st k hk) hy
    have hcw : ∀ i, regK a k i → (cleanL y)[i]? = some (cleanW (y.getD i 0)) := fun i hi => cleanL_at y i (by rw [hyl]; exact hreg k hk i hi)
    unfold afterU
    by_cases hz : y.getD (264 + 208 * k) 0 = 0
    · rw [if_pos hz]
      exact .idle hcw hz (show (0 : Nat) ≠ 1 by decide) (fun i hi => by rw [o4 k hk i hi, ov_no hz])
    · rw [if_neg hz]
      rcases s1 with e | ⟨e, hR⟩
      · exact absurd e hz
      · refine .stA (tx_begin (tA (us k).W) (fun i hi => ?_) hcw) e hR (fun i hi => ?_)
        · have := hreg k hk i hi; omega
        · rw [o4 k hk i hi, ov_yes (h.ok k hk) (by omega) e hR]
  · unfold afterU
    rw [hcl]
    by_cases hz : y.getD (264 + 208 * k) 0 = 0
    · rw [if_pos hz]; intro s hs; cases hs
    · rw [if_neg hz]
      have hv := (h.ok k hk).val hk hl h.few
      have hb : beginS M (264 + 208 * k) (us k).W = (sealS M (264 + 208 * k) (recR (us k).W) ++ markS M 3 (264 + 208 * k) (markV (recR (us k).W))) ++ applyS M (264 + 208 * k) (us k).W := rfl
      have hrl := (h.ok k hk).rl
      have := ok_begin M (264 + 208 * k) ws.length (us k).W hM (by omega) (recR_small (fun p hp => ⟨(h.ok k hk).fine.at_ p hp |>.2, (h.ok k hk).good.val p hp⟩) (h.ok k hk).fine.few) hv (markV_lt _)
      intro s hs
      exact this s (by rw [hb]; exact List.mem_append_right _ hs)
  · rw [hcl] at hi
    rw [cleanL_at y i (by rw [hyl]; exact hi), (o3 i hi h1 h2).1, (o3 i hi h1 h2).2]
/-- What is lost, and what is left. -/
theorem crash_oc (hw : ∀ c ∈ ws, WfW c) (ps : List Nat) : Oc ws (seenL (crash ws ps)) ∧ crash ws ps = cleanL (seenL (crash ws ps)) := by
  have key : ∀ (i : Nat) (c : PW), ws[i]? = some c → ∃ v, (crash ws ps)[i]? = some (cleanW v) ∧ OutW c v := by
    intro i c hc
    rw [crash_get, hc, Option.map_some]
    have hwc := hw c (List.mem_of_getElem? hc)
    cases hl : c.loose with
    | true =>
      rw [if_pos rfl]
      refine ⟨c.left (ps.getD (looseOf (ws.take i)) 0), rfl, ?_⟩
      unfold PW.left
      split
      · exact .inr ⟨hl, .inl rfl⟩
      · split
        · rename_i _ hx
          exact .inr ⟨hl, .inr ⟨hx.2, rfl⟩⟩
        · exact .inl rfl
    | false =>
      rw [if_neg (by decide)]
      have e := hwc.firm hl
      exact ⟨c.seen, by rw [← e], out_seen hwc⟩
  have hcl : (crash ws ps).length = ws.length := crash_len ws ps
  have hsl : (seenL (crash ws ps)).length = ws.length := by unfold seenL; rw [List.length_map, hcl]
  constructor
  · refine ⟨hsl, fun i c hc => ?_⟩
    obtain ⟨v, h1, h2⟩ := key i c hc
    have : (seenL (crash ws ps)).getD i 0 = v := by unfold seenL; rw [List.getD_eq_getElem?_getD, List.getElem?_map, h1]; rfl
    rw [this]
    exact h2
  · refine ext_len (by rw [cleanL_len, hsl, hcl]) (fun i hi => ?_)
    rw [cleanL_len, hsl] at hi
    obtain ⟨v, h1, h2⟩ := key i _ (List.getElem?_eq_getElem hi)
    rw [cleanL_at _ i (by rw [hsl]; exact hi)]
    have : (seenL (crash ws ps)).getD i 0 = v := by unfold seenL; rw [List.getD_eq_getElem?_getD, List.getElem?_map, h1]; rfl
    rw [this, h1]
/-- All are idle: all words are sure. -/
theorem Crew.clean (h : Crew a M ws m us) (hS : ∀ k, k < a → (us k).S = []) : ws = cleanL (seenL ws) ∧ ∀ k, k < a → (seenL ws).getD (264 + 208 * k) 0 = 0 := by
  have key : ∀ i, i < ws.length → ∃ v, ws[i]? = some (cleanW v) := by
    intro i hi
    rcases where_is a i with h1 | ⟨k, hk, h2⟩ | ⟨h3, h4⟩
    · obtain ⟨k, hk, hr⟩ := area_reg h1
      exact ⟨_, (stg_none (h.st k hk) (hS k hk)).1 i hr⟩
    · exact ⟨_, (stg_none (h.st k hk) (hS k hk)).1 i (.inr h2)⟩
    · exact ⟨_, h.rest i hi h3 h4⟩
  constructor
  · refine ext_len (by rw [cleanL_len]; unfold seenL; rw [List.length_map]) (fun i hi => ?_)
    have hi : i < ws.length := by rw [cleanL_len] at hi; unfold seenL at hi; rw [List.length_map] at hi; exact hi
    obtain ⟨v, hv⟩ := key i hi
    rw [cleanL_at _ i (by unfold seenL; rw [List.length_map]; exact hi)]
    have : (seenL ws).getD i 0 = v := by unfold seenL; rw [List.getD_eq_getElem?_getD, List.getElem?_map, hv]; rfl
    rw [this, hv]
  · intro k hk
    obtain ⟨h1, h2, _⟩ := stg_none (h.st k hk) (hS k hk)
    have : (seenL ws).getD (264 + 208 * k) 0 = (us k).X.getD (264 + 208 * k) 0 := by unfold seenL; rw [List.getD_eq_getElem?_getD, List.getElem?_map, h1 _ reg_A]; rfl
    rw [this, h2]
end
end Go.Proofs.YtpdofdloclmbdaaGreat
end
section
/- The law's words with writes done. -/
namespace Go.Proofs.YtpdofdloclmbdaaGreat
open Go.RowKit Go.Grommet

theorem wrQ_take_snoc {W : List (Int × Nat)} {j : Nat} {x : Int × Nat} (h : W[j]? = some x) (xs : List Nat) : putQ xs (wrQ (W.take (j + 1))) = (putQ xs (wrQ (W.take j))).set x.1.toNat x.2 := by
  rw [wrQ_snoc h, putQ_append]; rfl

end Go.Proofs.YtpdofdloclmbdaaGreat
end
section
/- CommitWhole: all workers' runs among a call's own things; runs. -/
namespace Go.Proofs.YtpdofdloclmbdaaGreat
open Go.RowKit Go.Grommet

theorem own_skip {w0 w : World} {Ps Qs : List Pr} {B : Pr} (h : Grommet.Own w0 w (Ps ++ B :: Qs)) : Grommet.Own w0 w (Ps ++ Qs) := by
  refine own_permute (fun j => if j < Ps.length then j else j + 1) h (fun j hj => ?_) (fun i j hi hj hne => ?_)
  · rw [List.length_append] at hj
    by_cases h1 : j < Ps.length
    · rw [if_pos h1]
      exact ⟨by simp; omega, by rw [List.getElem?_append_left h1, List.getElem?_append_left h1]⟩
    · rw [if_neg h1]
      exact ⟨by simp; omega, by rw [List.getElem?_append_right (by omega), List.getElem?_append_right (by omega), show j + 1 - Ps.length = (j - Ps.length) + 1 from by omega, List.getElem?_cons_succ]⟩
  · show (if i < Ps.length then i else i + 1) ≠ (if j < Ps.length then j else j + 1)
    split <;> split <;> omega
set_option maxRecDepth 100000 in
set_option maxHeartbeats 1000000 in
theorem PhaseH (k R D : Nat) (a b c : Int) (A : Nat) (Bs : List Nat) (Pn : List (Cl × Value)) (p : Nat) (cl : Cl) (S : List (Nat × Cl)) (w0 w : World) (Ps : List Pr) (h : Grommet.Own w0 w Ps) (hk : Ps[k]? = some (runP R D a b c A Bs Pn ((p, cl) :: S))) :
    Calls Tryz.prog 25 #[ptr R] w fun e w' => e = .returned (.int .u8 (p : Int)) ∧ w' = w := by
  obtain ⟨g, o, cap, _, _, _, _, hc1, c5, c0, _⟩ := run_pop h k hk
  generalize S.length = n at c5
  have n0 : ((n : Int) + 1 == 0) = false := by rw [beq_eq_false_iff_ne]; omega
  unfold ptr
  clear h hk
  go_enter Tryz.func25, Tryz.ntmps25
  go_wp2
  go_ret
  exact ⟨rfl, rfl⟩
/-- A run, whatever else stands in its memory. -/
def runE (R D : Nat) (a b c : Int) (A : Nat) (S : List (Nat × Cl)) : Pr where
  holds w F := ∃ Bs Pn, (runP R D a b c A Bs Pn S).holds w F
  turn := fun ⟨Bs, Pn, h⟩ ht hn => ⟨Bs, Pn, (runP R D a b c A Bs Pn S).turn h ht hn⟩
  old := fun ⟨Bs, Pn, h⟩ => (runP R D a b c A Bs Pn S).old h
theorem run_open {w0 w : World} {Ps : List Pr} {R D : Nat} {a b c : Int} {A : Nat} {S : List (Nat × Cl)} (h : Grommet.Own w0 w Ps) (k : Nat) (hk : Ps[k]? = some (runE R D a b c A S)) : ∃ Bs Pn, Grommet.Own w0 w (Ps.set k (runP R D a b c A Bs Pn S)) := by
  obtain ⟨F, ⟨Bs, Pn, hR⟩, h2⟩ := h.take k hk
  exact ⟨Bs, Pn, h2 w _ ⟨F, hR, fun i hi => .inl hi, Turn.refl _ _⟩⟩
theorem run_close {w0 w : World} {Ps : List Pr} {R D : Nat} {a b c : Int} {A : Nat} {Bs : List Nat} {Pn : List (Cl × Value)} {S : List (Nat × Cl)} (h : Grommet.Own w0 w Ps) (k : Nat) (hk : Ps[k]? = some (runP R D a b c A Bs Pn S)) : Grommet.Own w0 w (Ps.set k (runE R D a b c A S)) := by
  obtain ⟨F, hR, h2⟩ := h.take k hk
  exact h2 w _ ⟨F, ⟨Bs, Pn, hR⟩, fun i hi => .inl hi, Turn.refl _ _⟩
theorem LeftV (k R D : Nat) (a b c : Int) (A : Nat) (S : List (Nat × Cl)) (w0 w : World) (Ps : List Pr) (h : Grommet.Own w0 w Ps) (hk : Ps[k]? = some (runE R D a b c A S)) :
    Calls Tryz.prog 27 #[ptr R] w fun e w' => e = .returned (.int .i64 (S.length : Int)) ∧ w' = w := by
  obtain ⟨Bs, Pn, hO⟩ := run_open h k hk
  exact LeftH k R D a b c A Bs Pn S w0 w _ hO (List.getElem?_set_self (List.getElem?_eq_some_iff.1 hk).1)
theorem StepV (k j R D : Nat) (a b c : Int) (A : Nat) (p : Nat) (cl : Cl) (S : List (Nat × Cl)) (ws : List PW) (N : Nat) (w0 w : World) (Ps : List Pr) (h : Grommet.Own w0 w Ps) (hk : Ps[k]? = some (runE R D a b c A ((p, cl) :: S))) (hj : Ps[j]? = some (devP D ws)) (hjk : j ≠ k) (hN : ws.length = 8 * N) (hok : cl.ok ws.length) :
    Calls Tryz.prog 23 #[ptr R] w fun e w' => e = .returned (.tuple #[.int .u8 (p : Int), .int .i64 0]) ∧ Grommet.Own w0 w' ((Ps.set k (runE R D a b c A S)).set j (devP D (cl.does ws))) := by
  have hkl := (List.getElem?_eq_some_iff.1 hk).1
  have hjl := (List.getElem?_eq_some_iff.1 hj).1
  obtain ⟨Bs, Pn, hO⟩ := run_open h k hk
  refine (StepH k j R D a b c A Bs Pn p cl S ws N w0 w _ hO (List.getElem?_set_self hkl) (by rw [List.getElem?_set_ne (fun e => hjk e.symm)]; exact hj) hjk hN hok).mono ?_
  rintro e w' ⟨rfl, Pn', hO'⟩
  refine ⟨rfl, ?_⟩
  rw [List.set_set] at hO'
  have := run_close hO' k (by rw [List.getElem?_set_ne hjk, List.getElem?_set_self hkl])
  rw [List.set_comm _ _ hjk, List.set_set] at this
  exact this
theorem PhaseV (k R D : Nat) (a b c : Int) (A : Nat) (S : List (Nat × Cl)) (w0 w : World) (Ps : List Pr) (h : Grommet.Own w0 w Ps) (hk : Ps[k]? = some (runE R D a b c A S)) :
    Calls Tryz.prog 25 #[ptr R] w fun e w' => e = .returned (.int .u8 ((match S with | [] => 0 | s :: _ => s.1 : Nat) : Int)) ∧ w' = w := by
  have hkl := (List.getElem?_eq_some_iff.1 hk).1
  obtain ⟨Bs, Pn, hO⟩ := run_open h k hk
  have hk2 := List.getElem?_set_self (a := runP R D a b c A Bs Pn S) hkl
  cases S with
  | nil => exact PhaseE k R D a b c A Bs Pn w0 w _ hO hk2
  | cons s S => exact PhaseH k R D a b c A Bs Pn s.1 s.2 S w0 w _ hO hk2
theorem BeginV (k m R D : Nat) (a b c : Int) (A : Nat) (ad : Option Addr) (n cap : Nat) (W : List (Int × Nat)) (M : Nat) (w0 w : World) (Ps : List Pr) (h : Grommet.Own w0 w Ps) (hk : Ps[k]? = some (runE R D a b c A [])) (hm : Ps[m]? = some (rowP 92 2 (.slice ad n cap) n (icells W))) (hmk : m ≠ k)
    (hn : W.length = n) (hmay : mayW a b c W = true) (hv : ∀ x ∈ W, x.2 < 18446744073709551616) (hW : ∀ x ∈ W, 0 ≤ x.1 ∧ x.1.toNat / 8 < M ∧ x.1 < 1000000) (hA : (A + 8 + 2 + 2 * n) / 8 < M) (hsm : A + 1000 < 1000000) (hM : M ≤ 10000) :
    Calls Tryz.prog 13 #[ptr R, .slice ad n cap] w fun e w' => e = .returned (.int .i64 0) ∧ Grommet.Own w0 w' (Ps.set k (runE R D a b c A (beginS M A W))) := by
  have hkl := (List.getElem?_eq_some_iff.1 hk).1
  obtain ⟨Bs, Pn, hO⟩ := run_open h k hk
  refine (BeginH k m R D a b c A Bs Pn ad n cap W M w0 w _ hO (List.getElem?_set_self hkl) (by rw [List.getElem?_set_ne (fun e => hmk e.symm)]; exact hm) hmk hn hmay hv hW hA hsm hM).mono ?_
  rintro e w' ⟨rfl, Bs', Pn', hO'⟩
  rw [List.set_set] at hO'
  have := run_close hO' k (List.getElem?_set_self hkl)
  rw [List.set_set] at this
  exact ⟨rfl, this⟩
/-- What a run that resumes has to do. -/
def goS (M A : Nat) (a b c : Int) (xs : List Nat) : List (Nat × Cl) := if xs.getD A 0 = 0 then [] else resS M A a b c xs
theorem ResumeV (k j R D : Nat) (a b c : Nat) (A : Nat) (ws : List PW) (N M : Nat) (w0 w : World) (Ps : List Pr) (h : Grommet.Own w0 w Ps) (hk : Ps[k]? = some (runE R D (a : Int) (b : Int) (c : Int) A [])) (hj : Ps[j]? = some (devP D ws)) (hjk : j ≠ k) (hN : ws.length = 8 * N) (hf : ws.length ≤ 65536) (hx : ∀ v ∈ ws.map (·.seen), v < 18446744073709551616) (hA : A + 208 ≤ ws.length)
    (hm : mayB (a : Int) (b : Int) (c : Int) = true) (hw : 280 + 208 * a + 16 * b + 8 * c ≤ 8 * M) (hAM : A / 8 < M) (hM : M ≤ 10000) :
    Calls Tryz.prog 15 #[ptr R] w fun e w' => (∃ q, e = .returned (.tuple #[.bool q, .int .i64 0])) ∧ Grommet.Own w0 w' (Ps.set k (runE R D (a : Int) (b : Int) (c : Int) A (goS M A (a : Int) (b : Int) (c : Int) (ws.map (·.seen))))) := by
  have hkl := (List.getElem?_eq_some_iff.1 hk).1
  obtain ⟨Bs, Pn, hO⟩ := run_open h k hk
  have hk2 := List.getElem?_set_self (a := runP R D (a : Int) (b : Int) (c : Int) A Bs Pn []) hkl
  have hj2 : (Ps.set k (runP R D (a : Int) (b : Int) (c : Int) A Bs Pn []))[j]? = some (devP D ws) := by rw [List.getElem?_set_ne (fun e => hjk e.symm)]; exact hj
  unfold goS
  by_cases h0 : (ws.map (·.seen)).getD A 0 = 0
  · rw [if_pos h0]
    refine (ResumeNo k j R D a b c A Bs Pn ws N w0 w _ hO hk2 hj2 hN hf hx (by omega) h0).mono ?_
    rintro e w' ⟨rfl, hO'⟩
    have := run_close hO' k hk2
    rw [List.set_set] at this
    exact ⟨⟨_, rfl⟩, this⟩
  · rw [if_neg h0]
    unfold resS
    by_cases hB : commB (a : Int) (b : Int) (c : Int) (ws.map (·.seen)) A = true
    · rw [if_pos hB]
      refine (ResumeYes k j R D a b c A Bs Pn ws N M w0 w _ hO hk2 hj2 hN hf hx hA h0 hB (fun x hx => ?_) hAM hM).mono ?_
      · have := (comm_ok hm hB x hx).1
        omega
      · rintro e w' ⟨rfl, Bs', Pn', hO'⟩
        rw [List.set_set] at hO'
        have := run_close hO' k (List.getElem?_set_self hkl)
        rw [List.set_set] at this
        exact ⟨⟨_, rfl⟩, this⟩
    · rw [if_neg hB]
      refine (ResumeBad k j R D a b c A Bs Pn ws N M w0 w _ hO hk2 hj2 hN hf hx hA h0 (by simpa using hB) hAM hM).mono ?_
      rintro e w' ⟨rfl, Bs', Pn', hO'⟩
      rw [List.set_set] at hO'
      have := run_close hO' k (List.getElem?_set_self hkl)
      rw [List.set_set] at this
      exact ⟨⟨_, rfl⟩, this⟩

/-- The runs of the first workers. -/
def runsL (d a : Nat) (Rs : Nat → Nat) (Sv : Nat → List (Nat × Cl)) (t : Nat) : List Pr := (List.range t).map fun k => runE (Rs k) d (a : Int) 2 10 (264 + 208 * k) (Sv k)
theorem runsL_len (d a : Nat) (Rs : Nat → Nat) (Sv : Nat → List (Nat × Cl)) (t : Nat) : (runsL d a Rs Sv t).length = t := by simp [runsL]
theorem runsL_get (d a : Nat) (Rs : Nat → Nat) (Sv : Nat → List (Nat × Cl)) {t k : Nat} (hk : k < t) : (runsL d a Rs Sv t)[k]? = some (runE (Rs k) d (a : Int) 2 10 (264 + 208 * k) (Sv k)) := by
  unfold runsL; rw [List.getElem?_map, List.getElem?_range hk]; rfl
theorem runsL_set (d a : Nat) (Rs : Nat → Nat) (Sv : Nat → List (Nat × Cl)) (t k : Nat) (S : List (Nat × Cl)) : (runsL d a Rs Sv t).set k (runE (Rs k) d (a : Int) 2 10 (264 + 208 * k) S) = runsL d a Rs (fun j => if j = k then S else Sv j) t := by
  apply List.ext_getElem?
  intro i
  by_cases hi : i < t
  · rw [runsL_get _ _ _ _ hi]
    by_cases e : k = i
    · subst e
      rw [List.getElem?_set_self (by rw [runsL_len]; exact hi)]
      simp
    · rw [List.getElem?_set_ne e, runsL_get _ _ _ _ hi, if_neg (fun x => e x.symm)]
  · rw [List.getElem?_eq_none (by rw [List.length_set, runsL_len]; omega), List.getElem?_eq_none (by rw [runsL_len]; omega)]
theorem runsL_snoc (d a : Nat) (Rs : Nat → Nat) (Sv : Nat → List (Nat × Cl)) (t : Nat) : runsL d a Rs Sv (t + 1) = runsL d a Rs Sv t ++ [runE (Rs t) d (a : Int) 2 10 (264 + 208 * t) (Sv t)] := by
  unfold runsL; rw [List.range_succ, List.map_append]; rfl
theorem runsL_congr (d a : Nat) {Rs Rs' : Nat → Nat} {Sv Sv' : Nat → List (Nat × Cl)} {t : Nat} (h1 : ∀ k, k < t → Rs k = Rs' k) (h2 : ∀ k, k < t → Sv k = Sv' k) : runsL d a Rs Sv t = runsL d a Rs' Sv' t := by
  unfold runsL
  apply List.map_congr_left
  intro k hk
  have := List.mem_range.1 hk
  rw [h1 k this, h2 k this]
def ptrsL (Rs : Nat → Nat) (t : Nat) : List Value := (List.range t).map fun k => ptr (Rs k)
theorem ptrsL_snoc (Rs : Nat → Nat) (t : Nat) : ptrsL Rs (t + 1) = ptrsL Rs t ++ [ptr (Rs t)] := by unfold ptrsL; rw [List.range_succ, List.map_append]; rfl
theorem ptrsL_get (Rs : Nat → Nat) {t k : Nat} (hk : k < t) : (ptrsL Rs t)[k]? = some (ptr (Rs k)) := by unfold ptrsL; rw [List.getElem?_map, List.getElem?_range hk]; rfl
theorem ptrsL_congr {Rs Rs' : Nat → Nat} {t : Nat} (h1 : ∀ k, k < t → Rs k = Rs' k) : ptrsL Rs t = ptrsL Rs' t := by
  unfold ptrsL
  apply List.map_congr_left
  intro k hk
  rw [h1 k (List.mem_range.1 hk)]
theorem infoRun : (Tryz.prog.info? 48).map (fun i => (i.zero, i.size, i.bytes)) = some (some (.pointer none), 1, 8) := by kernel_rfl
theorem ptr_added {w0 w : World} {Qs : List Pr} (h : Grommet.Own w0 w Qs) (k : Nat) {ad : Option Addr} {n cap : Nat} {xs : List Value} (hk : Qs[k]? = some (rowP 48 1 (.slice ad n cap) n xs)) (R : Nat) (ty : TypeId) (hn : n ≤ 1000) :
    ∃ ad' cap' w2, (Builtin.append_ #[35, 35] ty #[.slice ad n cap, .slice (some ⟨w.heap.size, 0, none⟩) 1 1]).run Tryz.prog (w.alloc (.cells #[ptr R] 48)) = .ok (.slice ad' (n + 1) cap') w2 ∧ Grommet.Own w0 w2 (Qs.set k (rowP 48 1 (.slice ad' (n + 1) cap') (n + 1) (xs ++ [ptr R]))) := by
  obtain ⟨i0, hi, hz0, hz1, hz2⟩ := info_parts infoRun
  have hO1 := h.quiet (World.grownBy_alloc w (.cells #[ptr R] 48) none)
  have hrow := Own.row hO1 k hk
  have hnews : ∀ j u, [ptr R][j]? = some u → (w.alloc (.cells #[ptr R] 48)).cell? ((⟨w.heap.size, 0, none⟩ : Addr).add j) = some u := (at_of_row (heap_alloc_new w (.cells #[ptr R] 48))).some
  have h1 : ∀ u ∈ [ptr R], u.oneCell' = true := by intro u hu; simp at hu; subst hu; rfl
  obtain ⟨v', w', hr, h2, h3, h4⟩ := run_append_blk (P := Tryz.prog) (w.alloc (.cells #[ptr R] 48)) 0 35 ty 48 i0 (.pointer none) 1 8 Tryz.underlying35 hi hz0 hz1 hz2 rfl (by decide) (.slice ad n cap) n xs hrow ⟨w.heap.size, 0, none⟩ 1 1 [ptr R] rfl hnews h1 (by unfold maxLen; omega) (by omega) (Nat.zero_le _)
  obtain ⟨ad', cap', rfl, _⟩ := row_slice h2
  exact ⟨ad', cap', w', hr, Own.append hO1 k hk h2 h3 h4⟩
def RunsAns (w0 : World) (Ps : List Pr) (d a : Nat) (e : Ending) (w' : World) : Prop := ∃ Rs ad cap, e = .returned (.tuple #[.slice ad a cap, .bool true]) ∧ Grommet.Own w0 w' ((Ps ++ [rowP 48 1 (.slice ad a cap) a (ptrsL Rs a)]) ++ runsL d a Rs (fun _ => []) a)

set_option maxRecDepth 100000 in
set_option maxHeartbeats 4000000 in
theorem runsH (j d a : Nat) (ws : List PW) (w0 w : World) (Ps : List Pr) (h : Grommet.Own w0 w Ps) (hj : Ps[j]? = some (devP d ws)) (ha : 1 ≤ a ∧ a ≤ 4) (hw : 392 + 208 * a ≤ ws.length) :
    Calls Tryz.prog 11 #[ptr d, gv (a : Int) 2 10] w (RunsAns w0 Ps d a) := by
  have hjl := (List.getElem?_eq_some_iff.1 hj).1
  have hmay : mayB (a : Int) ((2 : Nat) : Int) ((10 : Nat) : Int) = true := by unfold mayB; simp; omega
  obtain ⟨G, hG⟩ : ∃ G, w.heap.size = G := ⟨_, rfl⟩
  obtain ⟨w1, hw1⟩ : ∃ w1, w.alloc (.cells #[.int .i64 (a : Int), .int .i64 2, .int .i64 10] 26) = w1 := ⟨_, rfl⟩
  have hO1 : Grommet.Own w0 w1 (Ps ++ [boxP G 26 #[.int .i64 (a : Int), .int .i64 2, .int .i64 10]]) := by rw [← hw1, ← hG]; exact h.addBox _ _
  obtain ⟨Qs, hQs⟩ : ∃ Qs, Ps ++ [boxP G 26 #[.int .i64 (a : Int), .int .i64 2, .int .i64 10]] = Qs := ⟨_, rfl⟩
  have hQl : Qs.length = Ps.length + 1 := by rw [← hQs]; simp
  have hQj : Qs[j]? = some (devP d ws) := by rw [← hQs, List.getElem?_append_left hjl]; exact hj
  have hQG : Qs[Ps.length]? = some (boxP G 26 #[.int .i64 (a : Int), .int .i64 2, .int .i64 10]) := by rw [← hQs]; exact last_get
  rw [hQs] at hO1
  have hO2 : Grommet.Own w0 w1 ((Qs ++ [rowP 48 1 (.slice none 0 0) 0 (ptrsL (fun _ => 0) 0)]) ++ runsL d a (fun _ => 0) (fun _ => []) 0) := by
    have := hO1.add (P := rowP 48 1 (.slice none 0 0) 0 []) (F := fun _ => False) ⟨World.ownsRow_nil _ _ _ _, ⟨fun i hi => (by cases hi), fun i hi => False.elim hi⟩⟩ (fun i hi => False.elim hi) (World.grownBy.refl _ _)
    rw [show runsL d a (fun _ => 0) (fun _ => []) 0 = [] from rfl, List.append_nil]
    exact this
  have HG := Lib.hid (fun wx Rs t ad cap (hO : Grommet.Own w0 wx ((Qs ++ [rowP 48 1 (.slice ad t cap) t (ptrsL Rs t)]) ++ runsL d a Rs (fun _ => []) t)) => GeoQ.cells (show GeoQ G (a : Int) 2 10 wx from hO.box Ps.length (by rw [List.append_assoc, List.getElem?_append_left (by omega)]; exact hQG)))
  have HN := Lib.hid (fun wx Rs t ad cap (ht : t < a) (hO : Grommet.Own w0 wx ((Qs ++ [rowP 48 1 (.slice ad t cap) t (ptrsL Rs t)]) ++ runsL d a Rs (fun _ => []) t)) => RNewH j d a 2 10 t (264 + 208 * t) ws w0 wx _ hO (by rw [List.append_assoc, List.getElem?_append_left (by have := (List.getElem?_eq_some_iff.1 hQj).1; omega)]; exact hQj) (by unfold areaV; rw [if_pos ⟨hmay, by omega, by omega⟩]; omega) (by rw [words_pos hmay]; omega))
  rw [show ((2 : Nat) : Int) = 2 from rfl, show ((10 : Nat) : Int) = 10 from rfl] at HN
  have HA0 : ∀ wx Rs t ad cap R, t < a → Grommet.Own w0 wx (((Qs ++ [rowP 48 1 (.slice ad t cap) t (ptrsL Rs t)]) ++ runsL d a Rs (fun _ => []) t) ++ [runP R d (a : Int) 2 10 (264 + 208 * t) [] [] []]) →
      ∃ ad' cap' w2 Rs', (Builtin.append_ #[35, 35] 35 #[.slice ad t cap, .slice (some ⟨wx.heap.size, 0, none⟩) 1 1]).run Tryz.prog (wx.alloc (.cells #[ptr R] 48)) = .ok (.slice ad' (t + 1) cap') w2 ∧ Grommet.Own w0 w2 ((Qs ++ [rowP 48 1 (.slice ad' (t + 1) cap') (t + 1) (ptrsL Rs' (t + 1))]) ++ runsL d a Rs' (fun _ => []) (t + 1)) := by
    intro wx Rs t ad cap R ht hO
    obtain ⟨Rs', hRs⟩ : ∃ Rs' : Nat → Nat, ∀ k, Rs' k = if k = t then R else Rs k := ⟨fun k => if k = t then R else Rs k, fun _ => rfl⟩
    have hR1 : ∀ k, k < t → Rs' k = Rs k := fun k hk => by rw [hRs, if_neg (by omega)]
    have hRt : Rs' t = R := by rw [hRs, if_pos rfl]
    have hO' := run_close hO ((Qs ++ [rowP 48 1 (.slice ad t cap) t (ptrsL Rs t)]) ++ runsL d a Rs (fun _ => []) t).length last_get
    rw [List.set_append_right _ _ (Nat.le_refl _), Nat.sub_self, List.set_cons_zero] at hO'
    obtain ⟨ad', cap', w2, hr, hO2⟩ := ptr_added hO' Qs.length (xs := ptrsL Rs t) (n := t) (ad := ad) (cap := cap) (by rw [List.append_assoc, List.append_assoc, List.getElem?_append_right (Nat.le_refl _), Nat.sub_self]; rfl) R 35 (by omega)
    refine ⟨ad', cap', w2, Rs', hr, ?_⟩
    rw [ptrsL_snoc, hRt, ptrsL_congr hR1, runsL_snoc, hRt, runsL_congr d a hR1 (fun _ _ => rfl), ← List.append_assoc]
    rw [List.append_assoc, List.append_assoc, List.set_append_right _ _ (Nat.le_refl _), Nat.sub_self] at hO2
    rw [List.append_assoc, List.append_assoc]
    exact hO2
  have HA := Lib.hid HA0
  have HE0 : ∀ wx Rs ad cap, Grommet.Own w0 wx ((Qs ++ [rowP 48 1 (.slice ad a cap) a (ptrsL Rs a)]) ++ runsL d a Rs (fun _ => []) a) → Grommet.Own w0 wx ((Ps ++ [rowP 48 1 (.slice ad a cap) a (ptrsL Rs a)]) ++ runsL d a Rs (fun _ => []) a) := by
    intro wx Rs ad cap hO
    rw [← hQs, List.append_assoc, List.append_assoc] at hO
    rw [List.append_assoc]
    exact own_skip hO
  have HE := Lib.hid HE0
  have hb : w1.heap[G]? = some (.cells #[.int .i64 (a : Int), .int .i64 2, .int .i64 10] 26 (0, 0)) := by rw [← hw1, ← hG]; exact heap_alloc_new w _
  have hz0 := Lib.hid hO2
  unfold gv at HN ⊢
  unfold ptr at HN HA ⊢
  clear h hj hO1 hO2 HA0 HE0 hQs hQl hQj hQG hjl hmay hb
  go_enter Tryz.func11, Tryz.ntmps11
  go_wp2_with fail
  go_loopw [6, 7, 8, 9] (fun lv i _ _ wr => ∃ (t : Nat) (Rs : Nat → Nat) (ad : Option Addr) (cap : Nat), t ≤ a ∧ i = .int .i64 (t : Int) ∧ lv = .slice ad t cap ∧ Hid (Grommet.Own w0 wr ((Qs ++ [rowP 48 1 (.slice ad t cap) t (ptrsL Rs t)]) ++ runsL d a Rs (fun _ => []) t))) (fun _ i _ _ _ => a - (intOf i).toNat)
  case atStart => exact ⟨0, _, none, 0, Nat.zero_le _, rfl, rfl, hz0⟩
  case round =>
    clear hz0
    obtain ⟨t, Rs, ad, cap, ht, rfl, rfl, hO⟩ := hrel
    have t0 : (0 : Int) ≤ (t : Int) := by omega
    obtain ⟨c0, c1, c2⟩ := HG.out _ _ _ _ _ hO.out
    by_cases hlt : t < a
    · as_aux_lemma =>
      have hlt' : (t : Int) < (a : Int) := by omega
      have wt : IntKind.i64.wrap ((t : Int) + 1) = (t : Int) + 1 := IntWalk.i64_in _ ⟨by omega, by omega⟩
      have HN2 := Lib.hid (HN.out _ _ _ _ _ hlt hO.out)
      clear HN HG HE hO
      go_wp2_with fail
      refine HN2.out.mono ?_
      rintro e w2 ⟨R, rfl, hO2⟩
      obtain ⟨ad2, cap2, w3, Rs2, hr, hO3⟩ := HA.out _ _ _ _ _ _ hlt hO2
      have hO3 := Lib.hid hO3
      clear HN2 HA hO2 c0 c1 c2
      go_wp2_with (at_builtin; refine wpList_append_run rfl _ _ _ rfl _ _ _ rfl rfl hr ?_)
      go_roundw
      case rel => exact ⟨t + 1, Rs2, ad2, cap2, by omega, by go_num, rfl, hO3⟩
      case measure => simp [intOf]; omega
    · as_aux_lemma =>
      obtain rfl : a = t := by omega
      have hlt' : ¬ (a : Int) < (a : Int) := by omega
      have hfin := Lib.hid (HE.out _ _ _ _ hO.out)
      clear HN HG HA HE hO
      go_wp2
      go_ret2
      exact ⟨_, _, _, rfl, hfin.out⟩
end Go.Proofs.YtpdofdloclmbdaaGreat
end
section
/- CommitWhole: all workers resume. -/
namespace Go.Proofs.YtpdofdloclmbdaaGreat
open Go.RowKit Go.Grommet

def Ready (a M : Nat) (us : Nat → Wk) (k : Nat) : Prop := ∀ j, k ≤ j → j < a → (us j).S = [] ∨ ((us j).S = applyS M (264 + 208 * j) (us j).W ∧ (us j).mk = 2)
def Calm (a : Nat) (us : Nat → Wk) : Prop := ∀ j, j < a → (us j).S = [] ∨ (us j).mk = 2
section
variable {a M : Nat} {ws : List PW} {m : List Nat} {us : Nat → Wk} {y : List Nat}
theorem Ready.calm (h : Ready a M us 0) : Calm a us := fun j hj => (h j (Nat.zero_le _) hj).imp id (·.2)
theorem Crew.goes (h : Crew a M ws m us) {k : Nat} (hk : k < a) (hS : (us k).S = [] ∨ ((us k).S = applyS M (264 + 208 * k) (us k).W ∧ (us k).mk = 2)) : goS M (264 + 208 * k) (a : Int) 2 10 (ws.map (·.seen)) = (us k).S := by
  have hy := oc_seen h.wf
  have hl := h.len
  have hyl := hy.len
  have hst := h.st k hk
  have hW := h.ok k hk
  have hX := h.xl k hk
  have hf := h.few
  have hso : seenL ws = ws.map (·.seen) := rfl
  rw [← hso]
  generalize (us k).W = W, (us k).X = X, (us k).S = S, (us k).mk = mk, (us k).E = E at *
  unfold goS
  cases hst with
  | idle hw h0 hk1 hm =>
    have : (seenL ws).getD (264 + 208 * k) 0 = 0 := by rw [out_clean (hy.out _ _ (hw _ reg_A))]; exact h0
    rw [if_pos this]
  | stS ht h0 hm =>
    rcases hS with e | ⟨_, e⟩
    · exact absurd (List.append_eq_nil_iff.1 e).1 ht.ne
    · cases e
  | mark0 ht h0 hR hm hc hr =>
    rcases hS with e | ⟨_, e⟩
    · exact absurd (List.append_eq_nil_iff.1 e).1 ht.ne
    · cases e
  | mark1 ht h0 hR hm hs hp hE =>
    rcases hS with e | ⟨_, e⟩
    · exact absurd (List.append_eq_nil_iff.1 e).1 ht.ne
    · cases e
  | stA ht hA hR hm =>
    rcases hS with e | ⟨e, _⟩
    · exact absurd (List.append_eq_nil_iff.1 e).1 ht.ne
    · have far : ∀ i, i < 264 + 208 * a → ∀ q ∈ (tA W).2.2, q.1 ≠ i := fun i hi q hq e => by
        have := (hW.mem q hq).far
        omega
      have hrl := hW.rl
      have hyA : (seenL ws).getD (264 + 208 * k) 0 = markV (recR W) := by rw [tx_same hy ht _ reg_A (far _ (by omega))]; exact hA
      have hyR : RecAt (264 + 208 * k) W (seenL ws) := fun i hi => by
        rw [tx_same hy ht _ (reg_R hW hi) (far _ (by omega))]; exact hR i hi
      obtain ⟨c1, c2⟩ := com_yes hW (by omega) hyA hyR
      rw [if_neg (by rw [hyA]; exact hW.mk0)]
      unfold resS
      rw [if_pos c1, c2, e]
  | clear ht hA hR hx hm =>
    rcases hS with e | ⟨e, _⟩
    · exact absurd e ht.ne
    · have hin : (5, Cl.fence) ∈ S := by
        rw [e]
        unfold applyS settleS
        simp
      rcases tx_phase ht _ hin with e | e
      · cases e
      · cases e
theorem apply_len {k : Nat} {W : List (Int × Nat)} (hW : WkOk a k W) (hM : M ≤ 160) (A : Nat) : (applyS M A W).length ≤ 400 := by
  have e3 := settleS_len M 5 ((wrQ W).map (·.1))
  have e4 := markS_len M 6 A 0
  have e5 : (wrQ W).length = W.length := by unfold wrQ; rw [List.length_map]
  have := hW.few
  unfold applyS
  simp only [List.length_append, storesS_len]
  omega
/-- Nothing is lost but what was never marked. -/
theorem Crew.calm_crash (h : Crew a M ws m us) (hc : Calm a us) (hy : Oc ws y) : Crew a M (cleanL y) m (afterU us M y) ∧ Ready a M (afterU us M y) 0 := by
  obtain ⟨f1, f2, f3⟩ := h.fates hy
  have hno : ∀ k, k < a → (us k).mk ≠ 1 := by
    intro k hk
    rcases hc k hk with e | e
    · exact (stg_none (h.st k hk) e).2.2.1
    · omega
  have e : overS (a : Int) 2 10 y a = m := by
    refine list_getD_ext (by rw [f1, h.ml]) (fun i => ?_)
    by_cases hi : i < ws.length
    · exact f3 i hi (fun k hk e => absurd e (hno k hk))
    · rw [past_end (by rw [f1]; omega), past_end (by rw [h.ml]; omega)]
  have := h.crash hy
  rw [e] at this
  refine ⟨this, fun j _ hj => ?_⟩
  unfold afterU
  split
  · exact .inl rfl
  · exact .inr ⟨rfl, rfl⟩
theorem Crew.calm_step (h : Crew a M ws m us) (hc : Calm a us) {k : Nat} (hk : k < a) {p : Nat} {cl : Cl} {S : List (Nat × Cl)} (hS : (us k).S = (p, cl) :: S) : ∃ u, u.S = S ∧ u.mk = 2 ∧ Crew a M (cl.does ws) m (setU us k u) ∧ Calm a (setU us k u) := by
  have hm : (us k).mk = 2 := by
    rcases hc k hk with e | e
    · rw [e] at hS; cases hS
    · exact e
  obtain ⟨u, _, h2, h3⟩ := h.step hk hS
  rcases h3 with ⟨_, h4, _, h5⟩ | ⟨_, h4, _⟩ | ⟨_, h4, _⟩
  · refine ⟨u, h2, h4.trans hm, h5, fun j hj => ?_⟩
    by_cases e : j = k
    · subst e; rw [setU_same]; exact .inr (h4.trans hm)
    · rw [setU_ne _ _ e]; exact hc j hj
  · omega
  · omega
end
/-- While the workers resume: so many have. -/
structure MidS (a M d j N k r : Nat) (m : List Nat) (Qs : List Pr) (row : Pr) (Rs : Nat → Nat) (w0 : World) (ws : List PW) (us : Nat → Wk) (w : World) : Prop where
  crew : Crew a M ws m us
  calm : Calm a us
  ready : Ready a M us k
  done : r = 1 → ∀ i, i < N → (us i).S = []
  own : Grommet.Own w0 w ((Qs.set j (devP d ws) ++ [row]) ++ runsL d a Rs (fun i => if i < k then (us i).S else []) a)
section
variable {a M d j N k r : Nat} {m : List Nat} {Qs : List Pr} {row : Pr} {Rs : Nat → Nat} {w0 : World} {ws : List PW} {us : Nat → Wk} {w : World}
theorem mid_get (hk : k < a) (Sv : Nat → List (Nat × Cl)) : ((Qs.set j (devP d ws) ++ [row]) ++ runsL d a Rs Sv a)[Qs.length + 1 + k]? = some (runE (Rs k) d (a : Int) 2 10 (264 + 208 * k) (Sv k)) := by
  rw [List.getElem?_append_right (by simp), show Qs.length + 1 + k - (Qs.set j (devP d ws) ++ [row]).length = k from by simp, runsL_get _ _ _ _ hk]
theorem mid_dev (hj : j < Qs.length) (Sv : Nat → List (Nat × Cl)) : ((Qs.set j (devP d ws) ++ [row]) ++ runsL d a Rs Sv a)[j]? = some (devP d ws) := by
  rw [List.append_assoc, List.getElem?_append_left (by simpa using hj), List.getElem?_set_self hj]
theorem mid_set (Sv : Nat → List (Nat × Cl)) (S : List (Nat × Cl)) : ((Qs.set j (devP d ws) ++ [row]) ++ runsL d a Rs Sv a).set (Qs.length + 1 + k) (runE (Rs k) d (a : Int) 2 10 (264 + 208 * k) S) = (Qs.set j (devP d ws) ++ [row]) ++ runsL d a Rs (fun i => if i = k then S else Sv i) a := by
  rw [List.set_append_right _ _ (by simp), show Qs.length + 1 + k - (Qs.set j (devP d ws) ++ [row]).length = k from by simp, runsL_set]
theorem mid_put (hj : j < Qs.length) (Sv : Nat → List (Nat × Cl)) (ws' : List PW) : ((Qs.set j (devP d ws) ++ [row]) ++ runsL d a Rs Sv a).set j (devP d ws') = (Qs.set j (devP d ws') ++ [row]) ++ runsL d a Rs Sv a := by
  rw [List.append_assoc, List.set_append_left _ _ (by simpa using hj), List.set_set, ← List.append_assoc]
theorem dev_small {w0 w : World} {Ps : List Pr} {k d : Nat} {ws : List PW} (h : Grommet.Own w0 w Ps) (hk : Ps[k]? = some (devP d ws)) : ∀ v ∈ ws.map (·.seen), v < 18446744073709551616 := by
  obtain ⟨g, hD, _⟩ := dev_does h hk
  intro v hv
  obtain ⟨c, hc, rfl⟩ := List.mem_map.1 hv
  exact (hD.small c hc).2.1
theorem mid_resume (hj : j < Qs.length) (hk : k < a) (h : MidS a M d j N k r m Qs row Rs w0 ws us w) : Calls Tryz.prog 15 #[ptr (Rs k)] w fun e w' => (∃ q, e = .returned (.tuple #[.bool q, .int .i64 0])) ∧ MidS a M d j N (k + 1) r m Qs row Rs w0 ws us w' ∧ (us k).S.length ≤ 400 := by
  have hl := h.crew.len
  have hM := h.crew.hM
  have hf := h.crew.few
  have hgo := h.crew.goes hk (h.ready k (Nat.le_refl _) hk)
  have hmay : mayB (a : Int) ((2 : Nat) : Int) ((10 : Nat) : Int) = true := by unfold mayB; simp; omega
  have hkk := mid_get (Qs := Qs) (row := row) (j := j) (d := d) (ws := ws) (Rs := Rs) hk (fun i => if i < k then (us i).S else [])
  rw [if_neg (by omega)] at hkk
  refine (ResumeV (Qs.length + 1 + k) j (Rs k) d a 2 10 (264 + 208 * k) ws M M w0 w _ h.own hkk (mid_dev hj _) (by omega) (by omega) (by omega) (dev_small h.own (mid_dev hj _)) (by omega) hmay (by omega) (by omega) (by omega)).mono ?_
  rintro e w' ⟨he, hO⟩
  rw [show ((2 : Nat) : Int) = 2 from rfl, show ((10 : Nat) : Int) = 10 from rfl, hgo, mid_set] at hO
  refine ⟨he, ⟨h.crew, h.calm, fun i h1 h2 => h.ready i (by omega) h2, h.done, ?_⟩, ?_⟩
  · rw [runsL_congr d a (fun _ _ => rfl) (fun i hi => ?_)] at hO
    · exact hO
    · show (if i = k then (us k).S else if i < k then (us i).S else []) = if i < k + 1 then (us i).S else []
      by_cases e : i = k
      · subst e; rw [if_pos rfl, if_pos (by omega)]
      · rw [if_neg e]
        by_cases e2 : i < k
        · rw [if_pos e2, if_pos (by omega)]
        · rw [if_neg e2, if_neg (by omega)]
  · rcases h.ready k (Nat.le_refl _) hk with e | e
    · rw [e]; simp
    · rw [e.1]; exact apply_len (h.crew.ok k hk) (by omega) _
theorem mid_left (hk : k < a) (h : MidS a M d j N (k + 1) r m Qs row Rs w0 ws us w) : Calls Tryz.prog 27 #[ptr (Rs k)] w fun e w' => e = .returned (.int .i64 ((us k).S.length : Int)) ∧ w' = w := by
  have hkk := mid_get (Qs := Qs) (row := row) (j := j) (d := d) (ws := ws) (Rs := Rs) hk (fun i => if i < k + 1 then (us i).S else [])
  rw [if_pos (by omega)] at hkk
  exact LeftV _ _ _ _ _ _ _ _ _ _ _ h.own hkk
theorem mid_step (hj : j < Qs.length) (hk : k < a) (hN : N ≤ k) (h : MidS a M d j N (k + 1) r m Qs row Rs w0 ws us w) (hne : (us k).S ≠ []) : Calls Tryz.prog 23 #[ptr (Rs k)] w fun e w' => (∃ p, e = .returned (.tuple #[.int .u8 p, .int .i64 0])) ∧ ∃ ws' us', MidS a M d j N (k + 1) r m Qs row Rs w0 ws' us' w' ∧ (us' k).S.length + 1 = (us k).S.length := by
  cases hS : (us k).S with
  | nil => exact absurd hS hne
  | cons s S =>
    obtain ⟨p, cl⟩ := s
    have hl := h.crew.len
    have hM := h.crew.hM
    have hkk := mid_get (Qs := Qs) (row := row) (j := j) (d := d) (ws := ws) (Rs := Rs) hk (fun i => if i < k + 1 then (us i).S else [])
    rw [if_pos (by omega), hS] at hkk
    have hok := h.crew.can k hk (p, cl) (by rw [hS]; exact List.mem_cons_self ..)
    refine (StepV (Qs.length + 1 + k) j (Rs k) d _ _ _ _ p cl S ws M w0 w _ h.own hkk (mid_dev hj _) (by omega) (by omega) hok).mono ?_
    rintro e w' ⟨rfl, hO⟩
    rw [mid_set, mid_put hj] at hO
    obtain ⟨u, u1, u2, u3, u4⟩ := h.crew.calm_step h.calm hk hS
    refine ⟨⟨_, rfl⟩, cl.does ws, setU us k u, ⟨u3, u4, fun i h1 h2 => ?_, fun hr i hi => ?_, ?_⟩, ?_⟩
    · rw [setU_ne _ _ (by omega)]; exact h.ready i h1 h2
    · rw [setU_ne _ _ (by omega)]; exact h.done hr i hi
    · rw [runsL_congr d a (fun _ _ => rfl) (fun i hi => ?_)] at hO
      · exact hO
      · show (if i = k then S else if i < k + 1 then (us i).S else []) = if i < k + 1 then (setU us k u i).S else []
        by_cases e : i = k
        · subst e; rw [if_pos rfl, if_pos (by omega), setU_same, u1]
        · rw [if_neg e, setU_ne _ _ e]
    · rw [setU_same, u1]; rfl
end
end Go.Proofs.YtpdofdloclmbdaaGreat
end
section
/- CommitWhole: resumed. -/
namespace Go.Proofs.YtpdofdloclmbdaaGreat
open Go.RowKit Go.Grommet
set_option linter.unusedVariables false

/-- Between the rounds. -/
structure OutS (a M d j r : Nat) (m : List Nat) (Qs : List Pr) (w0 w : World) : Prop where
  ex : ∃ ws us, Crew a M ws m us ∧ (r ≤ 1 → Ready a M us 0) ∧ (r = 2 → ∀ i, i < a → (us i).S = []) ∧ Grommet.Own w0 w (Qs.set j (devP d ws))
def ResAns (a M d j : Nat) (m : List Nat) (Ps : List Pr) (w0 : World) (e : Ending) (w' : World) : Prop := e = .returned (.bool true) ∧ ∃ ws us, Crew a M ws m us ∧ (∀ i, i < a → (us i).S = []) ∧ Grommet.Own w0 w' (Ps.set j (devP d ws))
/-- The picks of a loss of power, as they lay ahead of all. -/
structure PicksO (w0 : World) (pa : Option Addr) (pl pc : Nat) (ps : List Nat) : Prop where
  at_ : ∀ wx, w0.grownBy wx none → At wx pa (ps.map u8v)
  len : ps.length = pl
  cap : pl ≤ pc
  nil : pa = none → ps = []
  old : ps ≠ [] → ∀ a, pa = some a → a.block < w0.heap.size
  small : ∀ p ∈ ps, p < 256
  few : pl ≤ 1000000
def GoQ (q : Bool) (L r : Nat) : Prop := (q = true ∧ 0 < L) ∨ (q = false ∧ (r = 1 → L = 0))
theorem mid_row {Qs L : List Pr} {j : Nat} {P row : Pr} : ((Qs.set j P ++ [row]) ++ L)[Qs.length]? = some row := by
  rw [List.getElem?_append_left (by simp)]; exact get_snoc
theorem set_two {Qs : List Pr} {j : Nat} {P P' : Pr} : (Qs.set j P).set j P' = Qs.set j P' := List.set_set ..

set_option maxRecDepth 100000 in
set_option maxHeartbeats 8000000 in
theorem resumedH (j d a M some_ : Nat) (m : List Nat) (pa : Option Addr) (pl pc : Nat) (ps : List Nat) (ws : List PW) (us : Nat → Wk) (w0 w : World) (Ps : List Pr) (h : Grommet.Own w0 w (Ps.set j (devP d ws))) (hj : j < Ps.length) (ha : 1 ≤ a ∧ a ≤ 4) (hC : Crew a M ws m us) (hR : Ready a M us 0) (hP : PicksO w0 pa pl pc ps) (hs : some_ < 256) :
    Calls Tryz.prog 40 #[ptr d, gv (a : Int) 2 10, .int .i64 (some_ : Int), .slice pa pl pc] w (ResAns a M d j m Ps w0) := by
  obtain ⟨G, hG⟩ : ∃ G, w.heap.size = G := ⟨_, rfl⟩
  obtain ⟨w1, hw1⟩ : ∃ w1, w.alloc (.cells #[.int .i64 (a : Int), .int .i64 2, .int .i64 10] 26) = w1 := ⟨_, rfl⟩
  have hO1 : Grommet.Own w0 w1 (Ps.set j (devP d ws) ++ [boxP G 26 #[.int .i64 (a : Int), .int .i64 2, .int .i64 10]]) := by rw [← hw1, ← hG]; exact h.addBox _ _
  obtain ⟨Qs, hQs⟩ : ∃ Qs, Ps ++ [boxP G 26 #[.int .i64 (a : Int), .int .i64 2, .int .i64 10]] = Qs := ⟨_, rfl⟩
  have hQl : Qs.length = Ps.length + 1 := by rw [← hQs]; simp
  have hjQ : j < Qs.length := by omega
  have hQset : ∀ P, Qs.set j P = Ps.set j P ++ [boxP G 26 #[.int .i64 (a : Int), .int .i64 2, .int .i64 10]] := fun P => by rw [← hQs, List.set_append_left _ _ hj]
  rw [← hQset] at hO1
  have hQG : ∀ P, (Qs.set j P)[Ps.length]? = some (boxP G 26 #[.int .i64 (a : Int), .int .i64 2, .int .i64 10]) := fun P => by rw [hQset, show Ps.length = (Ps.set j P).length from by simp]; exact last_get
  have hz0 : Hid (OutS a M d j 0 m Qs w0 w1) := Lib.hid ⟨ws, us, hC, fun _ => hR, fun e => (by cases e), hO1⟩
  have HG1 := Lib.hid (fun wx P (hO : Grommet.Own w0 wx (Qs.set j P)) => GeoQ.cells (show GeoQ G (a : Int) 2 10 wx from hO.box Ps.length (hQG P)))
  have HG2 := Lib.hid (fun wx P row L (hO : Grommet.Own w0 wx ((Qs.set j P ++ [row]) ++ L)) => GeoQ.cells (show GeoQ G (a : Int) 2 10 wx from hO.box Ps.length (by rw [List.append_assoc, List.getElem?_append_left (by simp; omega)]; exact hQG P)))
  have HRu := Lib.hid (fun wx ws (hl : 392 + 208 * a ≤ ws.length) (hO : Grommet.Own w0 wx (Qs.set j (devP d ws))) => runsH j d a ws w0 wx _ hO (List.getElem?_set_self hjQ) ha hl)
  have Hptr := Lib.hid (fun wx ws ad cap Rs L k (hk : k < a) (hO : Grommet.Own w0 wx ((Qs.set j (devP d ws) ++ [rowP 48 1 (.slice ad a cap) a (ptrsL Rs a)]) ++ L)) => Own.cell hO Qs.length mid_row k (ptr (Rs k)) (ptrsL_get Rs hk))
  have HMr := Lib.hid (fun k r row Rs ws us wx (hk : k < a) (hS : MidS a M d j k k r m Qs row Rs w0 ws us wx) => mid_resume hjQ hk hS)
  have HMl := Lib.hid (fun k r row Rs ws us wx (hk : k < a) (hS : MidS a M d j k (k + 1) r m Qs row Rs w0 ws us wx) => mid_left hk hS)
  have HMs := Lib.hid (fun k r row Rs ws us wx (hk : k < a) (hS : MidS a M d j k (k + 1) r m Qs row Rs w0 ws us wx) (hne : (us k).S ≠ []) => mid_step hjQ hk (Nat.le_refl _) hS hne)
  have HMn := Lib.hid (fun k r row Rs ws us wx (hk : k < a) (hS : MidS a M d j k (k + 1) r m Qs row Rs w0 ws us wx) (he : r = 1 → (us k).S = []) => (⟨hS.crew, hS.calm, hS.ready, fun hr i hi => by
    by_cases e : i = k
    · subst e; exact he hr
    · exact hS.done hr i (by omega), hS.own⟩ : MidS a M d j (k + 1) (k + 1) r m Qs row Rs w0 ws us wx))
  have HMb := Lib.hid (fun r Rs ad cap ws us wx (hr : r ≤ 1) (hC : Crew a M ws m us) (hR : Ready a M us 0) (hO : Grommet.Own w0 wx ((Qs.set j (devP d ws) ++ [rowP 48 1 (.slice ad a cap) a (ptrsL Rs a)]) ++ runsL d a Rs (fun _ => []) a)) => (⟨hC, hR.calm, hR, fun _ i hi => (by cases hi), by
    rw [runsL_congr d a (Rs' := Rs) (Sv' := fun _ => []) (fun _ _ => rfl) (fun i hi => by rw [if_neg (by omega)])]; exact hO⟩ : MidS a M d j 0 0 r m Qs (rowP 48 1 (.slice ad a cap) a (ptrsL Rs a)) Rs w0 ws us wx))
  have HMc := Lib.hid (fun row Rs ws us wx (hS : MidS a M d j a a 0 m Qs row Rs w0 ws us wx) => (show Calls Tryz.prog 21 #[ptr d, .slice pa pl pc] wx (fun e w' => e = .returned (.int .i64 0) ∧ OutS a M d j 1 m Qs w0 w') from by
    have hO : Grommet.Own w0 wx (Qs.set j (devP d ws)) := hS.own.less.less
    have hlen := hS.crew.len
    have hM := hS.crew.hM
    obtain ⟨hy, hcr⟩ := crash_oc hS.crew.wf ps
    have := CrashOldH j d ws w0 wx _ hO (List.getElem?_set_self hjQ) M (by omega) pa pc ps (hP.at_ wx hO.grown) hP.nil (by rw [hP.len]; exact hP.cap) hP.old hP.small (by rw [hP.len]; exact hP.few)
    rw [hP.len] at this
    refine this.mono ?_
    rintro e w' ⟨rfl, hO'⟩
    rw [set_two, hcr] at hO'
    obtain ⟨c1, c2⟩ := hS.crew.calm_crash hS.calm hy
    exact ⟨rfl, ⟨_, _, c1, fun _ => c2, fun e => (by cases e), hO'⟩⟩))
  have HMe := Lib.hid (fun row Rs ws us wx (hS : MidS a M d j a a 1 m Qs row Rs w0 ws us wx) => (⟨ws, us, hS.crew, fun e => (by omega), fun _ => hS.done rfl, hS.own.less.less⟩ : OutS a M d j 2 m Qs w0 wx))
  have Hfin := Lib.hid (fun wx (hS : OutS a M d j 2 m Qs w0 wx) => (by
    obtain ⟨ws, us, h1, _, h3, hO⟩ := hS
    rw [hQset] at hO
    exact ⟨rfl, ws, us, h1, h3 rfl, hO.less⟩ : ResAns a M d j m Ps w0 (.returned (.bool true)) wx))
  have ha1 := ha.1
  have ha4 := ha.2
  have hb : w1.heap[G]? = some (.cells #[.int .i64 (a : Int), .int .i64 2, .int .i64 10] 26 (0, 0)) := by rw [← hw1, ← hG]; exact heap_alloc_new w _
  unfold RunsAns gv ptr at HRu
  unfold ptr at Hptr HMr HMl HMs HMc
  unfold gv ptr
  clear h hj hO1 hQs hQl hjQ hQset hQG hC hR hb ha hP
  go_enter Tryz.func40, Tryz.ntmps40
  go_wp2_with fail
  go_loopw [9, 10, 11, 12, 13, 14, 15, 16, 17] (fun i _ _ _ _ _ _ _ _ wr => ∃ r : Nat, r ≤ 2 ∧ i = .int .i64 (r : Int) ∧ Hid (OutS a M d j r m Qs w0 wr)) (fun i _ _ _ _ _ _ _ _ _ => 2 - (intOf i).toNat)
  case atStart => exact ⟨0, by omega, rfl, hz0⟩
  case round =>
    clear hz0
    obtain ⟨r, hr, rfl, hO⟩ := hrel
    have r0 : (0 : Int) ≤ (r : Int) := by omega
    by_cases hr2 : r = 2
    · as_aux_lemma =>
      obtain rfl := hr2
      have hlt : ¬ ((2 : Nat) : Int) < 2 := by omega
      have hf := Lib.hid (Hfin.out _ hO.out)
      clear HG1 HG2 HRu Hptr HMr HMl HMs HMn HMb HMc HMe Hfin hO
      go_wp2
      go_ret
      exact hf.out
    · have hlt : (r : Int) < 2 := by omega
      have hr1 : r ≤ 1 := by omega
      have wr1 : IntKind.i64.wrap ((r : Int) + 1) = (r : Int) + 1 := IntWalk.i64_in _ ⟨by omega, by omega⟩
      obtain ⟨ws1, us1, hC1, hR1, _, hOw⟩ := hO.out
      obtain ⟨c0, c1, c2⟩ := HG1.out _ _ hOw
      have HRu1 := Lib.hid (HRu.out _ _ (by have := hC1.len; omega) hOw)
      have HC1 := Lib.hid hC1
      have HR1 := Lib.hid (hR1 hr1)
      clear hO hOw hC1 hR1 HRu
      go_wp2_with fail
      refine HRu1.out.mono ?_
      rintro e w2 ⟨Rs, ad, cap, rfl, hO2⟩
      obtain ⟨q, rfl, _, _, _⟩ := Hptr.out _ _ _ _ _ _ 0 (by omega) hO2
      obtain ⟨row, hrow⟩ : ∃ row, rowP 48 1 (.slice (some ⟨q, 0, none⟩) a cap) a (ptrsL Rs a) = row := ⟨_, rfl⟩
      have hz1 := Lib.hid (HMb.out r Rs _ _ _ _ _ hr1 HC1.out HR1.out hO2)
      rw [hrow] at hz1
      have HP2 := Lib.hid (fun wx ws L k (hk : k < a) (hO : Grommet.Own w0 wx ((Qs.set j (devP d ws) ++ [row]) ++ L)) => by
        rw [← hrow] at hO
        obtain ⟨q', e, x1, _⟩ := Hptr.out wx ws _ cap Rs L k hk hO
        cases e
        exact (x1 : wx.cell? ⟨q, k, none⟩ = some (.pointer (some ⟨Rs k, 0, none⟩))))
      obtain ⟨c0, c1, c2⟩ := HG2.out _ _ _ _ hO2
      clear HRu1 HC1 HR1 HMb Hptr hO2 hrow HG1 Hfin
      go_wp2_with fail
      go_loopw [12, 13, 14, 15, 16, 17] (fun i _ _ _ _ _ wr => ∃ (k : Nat) (ws : List PW) (us : Nat → Wk), k ≤ a ∧ i = .int .i64 (k : Int) ∧ Hid (MidS a M d j k k r m Qs row Rs w0 ws us wr)) (fun i _ _ _ _ _ _ => a - (intOf i).toNat)
      case atStart => exact ⟨0, ws1, us1, Nat.zero_le _, rfl, hz1⟩
      case round =>
        clear hz1 c0 c1 c2
        obtain ⟨k, ws2, us2, hk, rfl, hS⟩ := hrel
        have k0 : (0 : Int) ≤ (k : Int) := by omega
        obtain ⟨c0, c1, c2⟩ := HG2.out _ _ _ _ hS.out.own
        by_cases hka : k < a
        · as_aux_lemma =>
          have hka' : (k : Int) < (a : Int) := by omega
          have wk : IntKind.i64.wrap ((k : Int) + 1) = (k : Int) + 1 := IntWalk.i64_in _ ⟨by omega, by omega⟩
          have x1 := HP2.out _ _ _ k hka hS.out.own
          have HMr1 := Lib.hid (HMr.out k r row Rs _ _ _ hka hS.out)
          clear HMr HMc HMe hS c1 c2
          go_wp2_with fail
          refine HMr1.out.mono ?_
          rintro e w3 ⟨⟨qb, rfl⟩, hS3, hlen3⟩
          have hz2 : Hid (MidS a M d j k (k + 1) r m Qs row Rs w0 ws2 us2 w3) := Lib.hid hS3
          have Hl3 := Lib.hid hlen3
          clear HMr1 hS3 hlen3 x1 c0
          go_wp2_with fail
          go_loopw [15, 16, 17] (fun i _ _ wr => ∃ (t : Nat) (ws : List PW) (us : Nat → Wk), i = .int .i64 (t : Int) ∧ Hid (t + (us k).S.length ≤ 400) ∧ Hid (MidS a M d j k (k + 1) r m Qs row Rs w0 ws us wr)) (fun i _ _ _ => 401 - (intOf i).toNat)
          case atStart => exact ⟨0, ws2, us2, rfl, Lib.hid (by rw [Nat.zero_add]; exact Hl3.out), hz2⟩
          case round =>
            clear hz2 Hl3
            obtain ⟨t, ws4, us4, rfl, Hlen, hS⟩ := hrel
            have ht := Hlen.out
            have t0 : (0 : Int) ≤ (t : Int) := by omega
            have t1 : (t : Int) ≤ 400 := by omega
            have t2 : ¬ (1000 : Int) < (t : Int) := by omega
            have wt : IntKind.i64.wrap ((t : Int) + 1) = (t : Int) + 1 := IntWalk.i64_in _ ⟨by omega, by omega⟩
            have x1 := HP2.out _ _ _ k hka hS.out.own
            have c0 := (HG2.out _ _ _ _ hS.out.own).1
            obtain ⟨L, hL⟩ : ∃ L, (us4 k).S.length = L := ⟨_, rfl⟩
            have HMl1 := Lib.hid (HMl.out k r row Rs _ _ _ hka hS.out)
            rw [hL] at HMl1
            clear ht
            go_upto_region 14 with fail
            go_cut [60] (fun v wx => ∃ q : Bool, v = .bool q ∧ wr = wx ∧ Hid (GoQ q L r))
            case first =>
              have hgo : (r = 0 ∧ ¬ t < some_) ∨ r = 1 ∨ (r = 0 ∧ t < some_) := by omega
              clear HMn HMs HP2 HG2 hS hL Hlen
              rcases hgo with ⟨e0, hts⟩ | e1 | ⟨e0, hts⟩
              · as_aux_lemma =>
                have q1 : ((r : Int) == 1) = false := by rw [beq_eq_false_iff_ne]; omega
                have q1b : ¬ (r : Int) = 1 := by omega
                have q2 : ¬ (t : Int) < (some_ : Int) := by omega
                have hres : Hid (GoQ false L r) := Lib.hid (.inr ⟨rfl, fun e => by omega⟩)
                clear HMl1 e0
                go_wp2_with fail
                go_meet
                case rel => exact ⟨false, rfl, rfl, hres⟩
              · as_aux_lemma =>
                have q1 : ((r : Int) == 1) = true := by rw [e1]; rfl
                by_cases hL0 : 0 < L
                · have hLi : (0 : Int) < (L : Int) := by omega
                  have hres : Hid (GoQ true L r) := Lib.hid (.inl ⟨rfl, hL0⟩)
                  clear e1
                  go_wp2_with fail
                  refine HMl1.out.mono ?_
                  rintro e w5 ⟨rfl, hw5⟩
                  obtain rfl := hw5.symm
                  clear HMl1
                  go_wp2_with fail
                  go_meet
                  case rel => exact ⟨true, rfl, rfl, hres⟩
                · have hLi : ¬ (0 : Int) < (L : Int) := by omega
                  have hres : Hid (GoQ false L r) := Lib.hid (.inr ⟨rfl, fun e => by omega⟩)
                  clear e1
                  go_wp2_with fail
                  refine HMl1.out.mono ?_
                  rintro e w5 ⟨rfl, hw5⟩
                  obtain rfl := hw5.symm
                  clear HMl1
                  go_wp2_with fail
                  go_meet
                  case rel => exact ⟨false, rfl, rfl, hres⟩
              · as_aux_lemma =>
                have q1 : ((r : Int) == 1) = false := by rw [beq_eq_false_iff_ne]; omega
                have q1b : ¬ (r : Int) = 1 := by omega
                have q2 : (t : Int) < (some_ : Int) := by omega
                have hr1 : ¬ r = 1 := by omega
                clear e0
                by_cases hL0 : 0 < L
                · have hLi : (0 : Int) < (L : Int) := by omega
                  have hres : Hid (GoQ true L r) := Lib.hid (.inl ⟨rfl, hL0⟩)
                  go_wp2_with fail
                  refine HMl1.out.mono ?_
                  rintro e w5 ⟨rfl, hw5⟩
                  obtain rfl := hw5.symm
                  clear HMl1
                  go_wp2_with fail
                  go_meet
                  case rel => exact ⟨true, rfl, rfl, hres⟩
                · have hLi : ¬ (0 : Int) < (L : Int) := by omega
                  have hres : Hid (GoQ false L r) := Lib.hid (.inr ⟨rfl, fun e => absurd e hr1⟩)
                  go_wp2_with fail
                  refine HMl1.out.mono ?_
                  rintro e w5 ⟨rfl, hw5⟩
                  obtain rfl := hw5.symm
                  clear HMl1
                  go_wp2_with fail
                  go_meet
                  case rel => exact ⟨false, rfl, rfl, hres⟩
            case rest =>
              clear HMl1
              obtain ⟨q, rfl, hw, hres⟩ := hcut
              obtain rfl := hw.symm
              cases q with
              | false =>
                as_aux_lemma =>
                have hS2 := Lib.hid (HMn.out k r row Rs _ _ _ hka hS.out (fun e => by
                  rcases hres.out with ⟨h, _⟩ | ⟨_, h⟩
                  · cases h
                  · exact List.eq_nil_of_length_eq_zero (hL.trans (h e))))
                clear hS HMn HMl HMs HP2 HG2 Hlen hres hL
                go_wp2_with fail
                go_roundw
                case rel => exact ⟨k + 1, ws4, us4, by omega, by go_num, hS2⟩
                case measure => simp [intOf]; omega
              | true =>
                as_aux_lemma =>
                have hLp : 0 < L := by
                  rcases hres.out with ⟨_, h⟩ | ⟨h, _⟩
                  · exact h
                  · cases h
                have HMs1 := Lib.hid (HMs.out k r row Rs _ _ _ hka hS.out (fun e => by rw [e] at hL; simp at hL; omega))
                have Hlen2 := Lib.hid (show t + (us4 k).S.length ≤ 400 from Hlen.out)
                clear hS HMn HMl HMs HP2 HG2 Hlen hL hres hLp
                go_wp2_with fail
                refine HMs1.out.mono ?_
                rintro e w6 ⟨⟨p6, rfl⟩, ws6, us6, hS6, hlen6⟩
                have hS6 := Lib.hid hS6
                have Hl6 : Hid (t + 1 + (us6 k).S.length ≤ 400) := Lib.hid (by have := Hlen2.out; omega)
                clear HMs1 hlen6 Hlen2
                go_wp2_with fail
                go_roundw
                case rel => exact ⟨t + 1, ws6, us6, by go_num, Hl6, hS6⟩
                case measure => have := Hl6.out; simp [intOf]; omega
        · obtain rfl : a = k := by omega
          have hka' : ¬ (a : Int) < (a : Int) := by omega
          by_cases e0 : r = 0
          · as_aux_lemma =>
            obtain rfl := e0
            have HMc1 := Lib.hid (HMc.out row Rs _ _ _ hS.out)
            clear hS HMn HMl HMs HP2 HG2 HMr HMe HMc c1 c2
            go_wp2_with fail
            refine HMc1.out.mono ?_
            rintro e w7 ⟨rfl, hO7⟩
            have hO7 := Lib.hid hO7
            clear HMc1
            go_wp2_with fail
            go_roundw
            case rel => exact ⟨1, by omega, by go_num, hO7⟩
            case measure => simp [intOf]
          · as_aux_lemma =>
            obtain rfl : r = 1 := by omega
            have hE := Lib.hid (HMe.out row Rs _ _ _ hS.out)
            clear hS HMn HMl HMs HP2 HG2 HMr HMe HMc c1 c2
            go_wp2_with fail
            go_roundw
            case rel => exact ⟨2, by omega, by go_num, hE⟩
            case measure => simp [intOf]
end Go.Proofs.YtpdofdloclmbdaaGreat
end
section
/- CommitWhole: fates. -/
namespace Go.Proofs.YtpdofdloclmbdaaGreat
open Go.RowKit Go.Grommet
set_option linter.unusedVariables false

theorem made_one (v : Value) (n : Nat) : (madeCells #[v] n).toList = List.replicate n v := by
  simp [madeCells, Nat.mod_one, List.map_const']
theorem Own.made {w0 w w' : World} {Ps : List Pr} (h : Grommet.Own w0 w Ps) {e n : Nat} {v : Value} (hr : w'.heap[w.heap.size]? = some (.cells (madeCells #[v] n) e (0, 0))) (hg : w.grownBy w' none) (hn : n ≤ 1000000) : Grommet.Own w0 w' (Ps ++ [rowP e 1 (.slice (some ⟨w.heap.size, 0, none⟩) n n) n (List.replicate n v)]) :=
  h.addRow ⟨by simp, .inr ⟨w.heap.size, n, _, rfl, Nat.le_refl _, hr, Nat.le_refl _, by unfold maxLen; omega, by rw [size_madeCells]; simp, by rw [made_one, Nat.mul_one]; exact List.take_of_length_le (by simp)⟩⟩ hg
theorem infoB : (Tryz.prog.info? 4).map (fun i => (i.zero, i.size, i.bytes)) = some (some (.bool false), 1, 1) := by kernel_rfl

/-- What fates is asked of, in memory. -/
structure FatS (a n pm pn qe ql qk : Nat) (m xs : List Nat) (ev lv : Nat → Option Addr × Nat × Nat) (E : Nat → List Nat) (W : Nat → List (Int × Nat)) (mk : Nat → Nat) (w : World) : Prop where
  mAt : Words w (some ⟨pm, 0, none⟩) n m
  xAt : Words w (some ⟨pn, 0, none⟩) n xs
  eC : ∀ k, k < a → w.cell? ⟨qe, k, none⟩ = some (.slice (ev k).1 (ev k).2.1 (ev k).2.2)
  lC : ∀ k, k < a → w.cell? ⟨ql, k, none⟩ = some (.slice (lv k).1 (lv k).2.1 (lv k).2.2)
  kC : ∀ k, k < a → w.cell? ⟨qk, k, none⟩ = some (.int .i64 (mk k : Int))
  lAt : ∀ k, k < a → At w (lv k).1 (icells (W k)) ∧ (W k).length = (lv k).2.1
  eAt : ∀ k, k < a → mk k = 1 → Words w (ev k).1 n (E k) ∧ (ev k).2.1 = n
theorem FatS.grown {a n pm pn qe ql qk : Nat} {m xs : List Nat} {ev lv : Nat → Option Addr × Nat × Nat} {E : Nat → List Nat} {W : Nat → List (Int × Nat)} {mk : Nat → Nat} {w w' : World} (h : FatS a n pm pn qe ql qk m xs ev lv E W mk w) (hg : w.grownBy w' none) : FatS a n pm pn qe ql qk m xs ev lv E W mk w' :=
  ⟨h.mAt.keep hg (by simp), h.xAt.keep hg (by simp), fun k hk => hg.cell (h.eC k hk) (by simp), fun k hk => hg.cell (h.lC k hk) (by simp), fun k hk => hg.cell (h.kC k hk) (by simp), fun k hk => ⟨(h.lAt k hk).1.grown hg (by simp), (h.lAt k hk).2⟩, fun k hk e => ⟨(h.eAt k hk e).1.keep hg (by simp), (h.eAt k hk e).2⟩⟩
def boolL (ob : List Bool) : List Value := ob.map .bool
theorem boolL_get {ob : List Bool} {i : Nat} (h : i < ob.length) : (boolL ob)[i]? = some (.bool (ob.getD i false)) := by
  unfold boolL; rw [List.getElem?_map, List.getElem?_eq_getElem h, List.getD_eq_getElem?_getD, List.getElem?_eq_getElem h]; rfl
theorem boolL_set (ob : List Bool) (i : Nat) (b : Bool) : (boolL ob).set i (.bool b) = boolL (ob.set i b) := by unfold boolL; rw [List.map_set]
theorem getB_set (ob : List Bool) (o i : Nat) (v : Bool) : (ob.set o v).getD i false = if i = o ∧ o < ob.length then v else ob.getD i false := by
  rw [List.getD_eq_getElem?_getD, List.getD_eq_getElem?_getD, List.getElem?_set]
  by_cases h : o = i
  · subst h
    by_cases h2 : o < ob.length
    · simp [h2]
    · simp [h2]
  · rw [if_neg h, if_neg (fun x => h x.1.symm)]
/-- All that the first workers may have lost is open. -/
def Cov (W : Nat → List (Int × Nat)) (mk : Nat → Nat) (ob : List Bool) (k : Nat) : Prop := ∀ j, j < k → mk j = 1 → ∀ p ∈ W j, ob.getD p.1.toNat false = true
def CovK (W : List (Int × Nat)) (ob : List Bool) (t : Nat) : Prop := ∀ p ∈ W.take t, ob.getD p.1.toNat false = true
/-- Whole, or none of it. -/
def WholeB (W : List (Int × Nat)) (xs E : List Nat) (bw bn : Bool) : Prop := ((∀ p ∈ W, xs.getD p.1.toNat 0 = p.2) → bw = true) ∧ ((∀ p ∈ W, xs.getD p.1.toNat 0 = E.getD p.1.toNat 0) → bn = true)
theorem WholeB.next {W : List (Int × Nat)} {xs E : List Nat} {bw bn : Bool} (h : WholeB W xs E bw bn) {p : Int × Nat} (hp : p ∈ W) : WholeB W xs E (bw && decide (xs.getD p.1.toNat 0 = p.2)) (bn && decide (xs.getD p.1.toNat 0 = E.getD p.1.toNat 0)) :=
  ⟨fun hh => by rw [h.1 hh, decide_eq_true (hh p hp)]; rfl, fun hh => by rw [h.2 hh, decide_eq_true (hh p hp)]; rfl⟩

set_option maxRecDepth 100000 in
set_option maxHeartbeats 8000000 in
theorem fatesH (a n pm pn qe ql qk cm cn ce cl ck : Nat) (m xs : List Nat) (ev lv : Nat → Option Addr × Nat × Nat) (E : Nat → List Nat) (W : Nat → List (Int × Nat)) (mk : Nat → Nat) (w : World) (h : FatS a n pm pn qe ql qk m xs ev lv E W mk w) (hn : n ≤ 100000) (ha : a ≤ 100)
    (hcap : a ≤ ce ∧ a ≤ cl ∧ a ≤ ck ∧ n ≤ cm ∧ n ≤ cn) (hW20 : ∀ k, k < a → (W k).length ≤ 1000) (hmk : ∀ k, k < a → mk k ≤ 2)
    (h1 : ∀ k, k < a → mk k = 1 → (∀ p ∈ W k, 0 ≤ p.1 ∧ p.1.toNat < n) ∧ ((∀ p ∈ W k, xs.getD p.1.toNat 0 = p.2) ∨ (∀ p ∈ W k, xs.getD p.1.toNat 0 = (E k).getD p.1.toNat 0)))
    (h2 : ∀ i, i < n → (∀ k, k < a → mk k = 1 → ∀ p ∈ W k, p.1.toNat ≠ i) → xs.getD i 0 = m.getD i 0) :
    Calls Tryz.prog 39 #[.slice (some ⟨pm, 0, none⟩) n cm, .slice (some ⟨pn, 0, none⟩) n cn, .slice (some ⟨qe, 0, none⟩) a ce, .slice (some ⟨ql, 0, none⟩) a cl, .slice (some ⟨qk, 0, none⟩) a ck] w fun e w' => e = .returned (.bool true) ∧ w.grownBy w' none := by
  obtain ⟨i0, hi0, hz0, hz1, hz2⟩ := info_parts infoB
  have hnn : ((n : Int) != (n : Int)) = false := by simp
  have HF := Lib.hid h
  have H1 := Lib.hid h1
  have H2 := Lib.hid h2
  have HW20 := Lib.hid hW20
  have Hmk := Lib.hid hmk
  clear h h1 h2 hW20 hmk
  go_enter Tryz.func39, Tryz.ntmps39
  go_wp2_with (refine wpList_make_whole _ rfl _ _ 153 rfl 4 i0 (.bool false) Tryz.underlying153 hi0 hz0 hz1 _ _ _ n rfl rfl rfl ?m1 ?m2 ?_)
  case m1 => rw [hz2]; omega
  case m2 => unfold maxLen; omega
  intro w1 hrow1 hg1
  have hO1 := Own.made (Own.nil w) hrow1 hg1 (by omega)
  obtain ⟨b, hb⟩ : ∃ b, w.heap.size = b := ⟨_, rfl⟩
  rw [hb] at hO1 ⊢
  have hz0' : Hid (Grommet.Own w w1 [rowP 4 1 (.slice (some ⟨b, 0, none⟩) n n) n (boolL (List.replicate n false))]) := Lib.hid (by unfold boolL; rw [List.map_replicate]; exact hO1)
  clear hb hrow1 hg1 hi0 hz0 hz1 hz2 hO1 i0
  go_wp2_with fail
  go_loopw [12, 13, 14, 15, 16] (fun i _ _ _ _ wr => ∃ (k : Nat) (ob : List Bool), k ≤ a ∧ i = .int .i64 (k : Int) ∧ Hid (ob.length = n) ∧ Hid (Cov W mk ob k) ∧ Hid (Grommet.Own w wr [rowP 4 1 (.slice (some ⟨b, 0, none⟩) n n) n (boolL ob)])) (fun i _ _ _ _ _ => a - (intOf i).toNat)
  case atStart => exact ⟨0, _, Nat.zero_le _, rfl, Lib.hid (by simp), Lib.hid (fun j hj => by omega), hz0'⟩
  case round =>
    clear hz0'
    obtain ⟨k, ob, hk, rfl, Hob, HC, hO⟩ := hrel
    have k0 : (0 : Int) ≤ (k : Int) := by omega
    by_cases hka : k < a
    · have hka' : (k : Int) < (a : Int) := by omega
      have wk : IntKind.i64.wrap ((k : Int) + 1) = (k : Int) + 1 := IntWalk.i64_in _ ⟨by omega, by omega⟩
      have x1 := (HF.out.grown hO.out.grown).kC k hka
      by_cases hm1 : mk k = 1
      · rw [hm1] at x1
        rw [show ((1 : Nat) : Int) = 1 from rfl] at x1
        have Hm1 := Lib.hid hm1
        have hz1 : Hid (CovK (W k) ob 0 ∧ WholeB (W k) xs (E k) true true) := Lib.hid ⟨fun p hp => by simp at hp, fun _ => rfl, fun _ => rfl⟩
        clear hm1 H2
        go_wp2_with fail
        go_loopw [13, 14, 15, 16] (fun wv nv i _ wr => ∃ (t : Nat) (ob : List Bool) (bw bn : Bool), Hid (t ≤ (W k).length) ∧ i = .int .i64 (t : Int) ∧ wv = .bool bw ∧ nv = .bool bn ∧ Hid (ob.length = n) ∧ Hid (Cov W mk ob k) ∧ Hid (CovK (W k) ob t ∧ WholeB (W k) xs (E k) bw bn) ∧ Hid (Grommet.Own w wr [rowP 4 1 (.slice (some ⟨b, 0, none⟩) n n) n (boolL ob)])) (fun _ _ i _ _ => (W k).length - (intOf i).toNat)
        case atStart => exact ⟨0, ob, true, true, Lib.hid (Nat.zero_le _), rfl, rfl, rfl, Hob, HC, hz1, hO⟩
        case round =>
          clear hz1 Hob HC hO x1 ob
          obtain ⟨t, ob, bw, bn, Ht, rfl, rfl, rfl, Hob, HC, HB, hO⟩ := hrel
          have t0 : (0 : Int) ≤ (t : Int) := by omega
          have hF := HF.out
          have x2w := hF.lC k hka
          obtain ⟨hlA, hlL⟩ := hF.lAt k hka
          obtain ⟨La, hLa⟩ : ∃ x, (lv k).1 = x := ⟨_, rfl⟩
          obtain ⟨Ln, hLn⟩ : ∃ x, (lv k).2.1 = x := ⟨_, rfl⟩
          obtain ⟨Lc, hLc⟩ : ∃ x, (lv k).2.2 = x := ⟨_, rfl⟩
          rw [hLa, hLn, hLc] at x2w
          rw [hLa] at hlA
          rw [hLn] at hlL
          have x2 := hO.out.grown.cell x2w (by simp)
          by_cases hlt : t < Ln
          · have hlt' : (t : Int) < (Ln : Int) := by omega
            have hLn1 : Ln ≤ 1000 := by rw [← hlL]; exact HW20.out k hka
            have wt : IntKind.i64.wrap ((t : Int) + 1) = (t : Int) + 1 := IntWalk.i64_in _ ⟨by omega, by omega⟩
            obtain ⟨lq, lo, rfl, y0w, y1w⟩ := at_ipair hlA t (by omega)
            have htW : t < (W k).length := by omega
            obtain ⟨p, hp⟩ : ∃ p, (W k)[t]? = some p := ⟨_, List.getElem?_eq_getElem htW⟩
            have hpD : (W k).getD t (0, 0) = p := by rw [List.getD_eq_getElem?_getD, hp]; rfl
            have hpm := List.mem_of_getElem? hp
            rw [hpD] at y0w y1w
            obtain ⟨hpr, _⟩ := H1.out k hka Hm1.out
            obtain ⟨hp0, hpn⟩ := hpr p hpm
            obtain ⟨U, hU⟩ : ∃ U : Nat, p.1.toNat = U := ⟨_, rfl⟩
            obtain ⟨V, hV⟩ : ∃ V : Nat, p.2 = V := ⟨_, rfl⟩
            have hp1 : p.1 = (U : Int) := by omega
            rw [hp1] at y0w
            rw [hV] at y1w
            rw [hU] at hpn
            have u1 : ¬ (U : Int) < 0 := by omega
            have u2 : ¬ (n : Int) ≤ (U : Int) := by omega
            have u3 : (U : Int) < (n : Int) := by omega
            have u4 : (0 : Int) ≤ (U : Int) := by omega
            obtain ⟨hEw, hEn⟩ := hF.eAt k hka Hm1.out
            have x3w := hF.eC k hka
            obtain ⟨eq, eo, hEa, z1w⟩ := hEw.cell U hpn
            rw [hEa, hEn] at x3w
            obtain ⟨Ec, hEc⟩ : ∃ x, (ev k).2.2 = x := ⟨_, rfl⟩
            rw [hEc] at x3w
            obtain ⟨_, _, ex, z2w⟩ := hF.xAt.cell U hpn
            cases ex
            rw [Nat.zero_add] at z2w
            obtain ⟨e1, he1⟩ : ∃ x, (E k).getD U 0 = x := ⟨_, rfl⟩
            obtain ⟨e2, he2⟩ : ∃ x, xs.getD U 0 = x := ⟨_, rfl⟩
            rw [he1] at z1w
            rw [he2] at z2w
            have y0 := hO.out.grown.cell y0w (by simp)
            have x3 := hO.out.grown.cell x3w (by simp)
            obtain ⟨_, hbb, o1, o2, _⟩ := Own.cell hO.out 0 rfl U _ (boolL_get (by rw [Hob.out]; exact hpn))
            cases hbb
            have hst := hO.out.store 0 rfl U (.bool true)
            rw [boolL_set] at hst
            obtain ⟨wS, hwS⟩ : ∃ x, wr.setCell ⟨b, U, none⟩ (.bool true) = x := ⟨_, rfl⟩
            rw [hwS] at hst
            have hst : Hid (Grommet.Own w wS [rowP 4 1 (.slice (some ⟨b, 0, none⟩) n n) n (boolL (ob.set U true))]) := Lib.hid hst
            have HK := Lib.hid (fun wx (hg : w.grownBy wx none) => And.intro (hg.cell x2w (by simp)) (And.intro (hg.cell y1w (by simp)) (And.intro (hg.cell x3w (by simp)) (And.intro (hg.cell z1w (by simp)) (hg.cell z2w (by simp))))))
            have hob2 : Hid ((ob.set U true).length = n) := Lib.hid (by rw [List.length_set]; exact Hob.out)
            have hC2 : Hid (Cov W mk (ob.set U true) k) := Lib.hid (fun j hj e q hq => by
              rw [getB_set]
              split
              · rfl
              · exact HC.out j hj e q hq)
            have hB2 : Hid (CovK (W k) (ob.set U true) (t + 1) ∧ WholeB (W k) xs (E k) (bw && decide (e2 = V)) (bn && decide (e2 = e1))) := Lib.hid ⟨fun q hq => by
              rw [take_snocN hp] at hq
              rw [getB_set]
              rcases List.mem_append.1 hq with hq | hq
              · split
                · rfl
                · exact HB.out.1 q hq
              · obtain rfl := List.mem_singleton.1 hq
                rw [if_pos ⟨hU, by rw [Hob.out]; exact hpn⟩], by
              have := HB.out.2.next hpm
              rw [hU, hV, he2, he1] at this
              exact this⟩
            have hlt2 : Hid (t + 1 ≤ (W k).length) := Lib.hid htW
            clear hF x2w hlA hlL hLa hLn hLc hpD hpm hpr hp0 hpn hU hV hp1 hEw hEn x3w hEa z1w hEc z2w he1 he2 y0w y1w hp htW Ht HC HB hO Hob H1 HF HW20 Hmk hcap
            go_upto_region 17 with fail
            clear hwS o1 o2 x2 y0 x3
            obtain ⟨v1, v2, v3, v4, v5⟩ := HK.out wS hst.out.grown
            go_cut [13] (fun v wx => v = .bool (bw && decide (e2 = V)) ∧ Hid (wS.grownBy wx none))
            case first =>
              clear hst hob2 hC2 hB2 hlt2 HK
              cases bw with
              | false =>
                as_aux_lemma =>
                go_quiet (fail)
                go_wp2_with fail
                go_meet
                case rel => exact ⟨rfl, Lib.hid (grown_drewN _ _ _)⟩
              | true =>
                as_aux_lemma =>
                by_cases he : e2 = V
                · have he' : ((e2 : Int) == (V : Int)) = true := by rw [he]; simp
                  have Hd := Lib.hid (decide_eq_true he)
                  clear he
                  go_quiet (fail)
                  go_wp2_with fail
                  go_meet
                  case rel => exact ⟨by rw [Hd.out]; rfl, Lib.hid (grown_drewN _ _ _)⟩
                · have he' : ((e2 : Int) == (V : Int)) = false := by rw [beq_eq_false_iff_ne]; omega
                  have Hd := Lib.hid (decide_eq_false he)
                  clear he
                  go_quiet (fail)
                  go_wp2_with fail
                  go_meet
                  case rel => exact ⟨by rw [Hd.out]; rfl, Lib.hid (grown_drewN _ _ _)⟩
            case rest =>
              obtain ⟨rfl, hg⟩ := hcut
              clear v1 v2 v3 v4 v5
              obtain ⟨v1, v2, v3, v4, v5⟩ := HK.out wc (grown_trans hst.out.grown hg.out)
              cases bn with
              | false =>
                as_aux_lemma =>
                have hB2 : Hid (CovK (W k) (ob.set U true) (t + 1) ∧ WholeB (W k) xs (E k) (bw && decide (e2 = V)) false) := Lib.hid hB2.out
                have hOe := Lib.hid (hst.out.quiet hg.out)
                clear hst hg HK
                go_wp2_with fail
                go_quiet (fail)
                go_wp2_with fail
                go_roundw
                case rel => exact ⟨t + 1, ob.set U true, _, _, hlt2, by go_num, rfl, rfl, hob2, hC2, hB2, Lib.hid (hOe.out.quiet (grown_drewN _ _ _))⟩
                case measure => have := hlt2.out; simp [intOf]; omega
              | true =>
                by_cases he : e2 = e1
                · as_aux_lemma =>
                  have he' : ((e2 : Int) == (e1 : Int)) = true := by rw [he]; simp
                  have hB2 : Hid (CovK (W k) (ob.set U true) (t + 1) ∧ WholeB (W k) xs (E k) (bw && decide (e2 = V)) true) := Lib.hid (by have := hB2.out; rw [decide_eq_true he] at this; exact this)
                  clear he
                  have hOe := Lib.hid (hst.out.quiet hg.out)
                  clear hst hg HK
                  go_wp2_with fail
                  go_quiet (fail)
                  go_wp2_with fail
                  go_roundw
                  case rel => exact ⟨t + 1, ob.set U true, _, _, hlt2, by go_num, rfl, rfl, hob2, hC2, hB2, Lib.hid (hOe.out.quiet (grown_drewN _ _ _))⟩
                  case measure => have := hlt2.out; simp [intOf]; omega
                · as_aux_lemma =>
                  have he' : ((e2 : Int) == (e1 : Int)) = false := by rw [beq_eq_false_iff_ne]; omega
                  have hB2 : Hid (CovK (W k) (ob.set U true) (t + 1) ∧ WholeB (W k) xs (E k) (bw && decide (e2 = V)) false) := Lib.hid (by have := hB2.out; rw [decide_eq_false he] at this; exact this)
                  clear he
                  have hOe := Lib.hid (hst.out.quiet hg.out)
                  clear hst hg HK
                  go_wp2_with fail
                  go_quiet (fail)
                  go_wp2_with fail
                  go_roundw
                  case rel => exact ⟨t + 1, ob.set U true, _, _, hlt2, by go_num, rfl, rfl, hob2, hC2, hB2, Lib.hid (hOe.out.quiet (grown_drewN _ _ _))⟩
                  case measure => have := hlt2.out; simp [intOf]; omega
          · have hlt' : ¬ (t : Int) < (Ln : Int) := by omega
            have htl : t = (W k).length := by have := Ht.out; omega
            have hC2 : Hid (Cov W mk ob (k + 1)) := Lib.hid (fun j hj e q hq => by
              by_cases ejk : j = k
              · subst ejk
                have := HB.out.1
                rw [htl] at this
                unfold CovK at this
                rw [List.take_length] at this
                exact this q hq
              · exact HC.out j (by omega) e q hq)
            have hor : bw = true ∨ bn = true := (H1.out k hka Hm1.out).2.imp HB.out.2.1 HB.out.2.2
            clear hF x2w hlA hlL hLa hLn hLc Ht HC HB H1 HF HW20 Hmk hcap htl
            rcases hor with rfl | rfl
            · as_aux_lemma =>
              go_wp2_with fail
              go_roundw
              case rel => exact ⟨k + 1, ob, by omega, by go_num, Hob, hC2, hO⟩
              case measure => simp [intOf]; omega
            · cases bw with
              | true =>
                as_aux_lemma =>
                go_wp2_with fail
                go_roundw
                case rel => exact ⟨k + 1, ob, by omega, by go_num, Hob, hC2, hO⟩
                case measure => simp [intOf]; omega
              | false =>
                as_aux_lemma =>
                go_wp2_with fail
                go_roundw
                case rel => exact ⟨k + 1, ob, by omega, by go_num, Hob, hC2, hO⟩
                case measure => simp [intOf]; omega
      · as_aux_lemma =>
        have q1 : ((mk k : Int) != 1) = true := by rw [bne_iff_ne]; omega
        have hC2 : Hid (Cov W mk ob (k + 1)) := Lib.hid (fun j hj e q hq => by
          by_cases ejk : j = k
          · subst ejk; exact absurd e hm1
          · exact HC.out j (by omega) e q hq)
        generalize mk k = mkk at x1 q1
        clear hm1 H1 H2 HF HC HW20 Hmk hcap
        go_wp2_with fail
        go_roundw
        case rel => exact ⟨k + 1, ob, by omega, by go_num, Hob, hC2, hO⟩
        case measure => simp [intOf]; omega
    · obtain rfl : a = k := by omega
      have hka' : ¬ (a : Int) < (a : Int) := by omega
      clear H1 HW20 Hmk
      go_wp2_with fail
      go_loopw [17] (fun i wr => ∃ t : Nat, t ≤ n ∧ i = .int .i64 (t : Int) ∧ Hid (Grommet.Own w wr [rowP 4 1 (.slice (some ⟨b, 0, none⟩) n n) n (boolL ob)])) (fun i _ => n - (intOf i).toNat)
      case atStart => exact ⟨0, Nat.zero_le _, rfl, hO⟩
      case round =>
        clear hO
        obtain ⟨t, ht, rfl, hO⟩ := hrel
        have t0 : (0 : Int) ≤ (t : Int) := by omega
        by_cases hlt : t < n
        · have hlt' : (t : Int) < (n : Int) := by omega
          have wt : IntKind.i64.wrap ((t : Int) + 1) = (t : Int) + 1 := IntWalk.i64_in _ ⟨by omega, by omega⟩
          obtain ⟨_, hbb, o1, _, _⟩ := Own.cell hO.out 0 rfl t _ (boolL_get (by rw [Hob.out]; exact hlt))
          cases hbb
          have hF := HF.out.grown hO.out.grown
          obtain ⟨_, _, ex, z1⟩ := hF.xAt.cell t hlt
          cases ex
          obtain ⟨_, _, ex, z2⟩ := hF.mAt.cell t hlt
          cases ex
          rw [Nat.zero_add] at z1 z2
          have Hq : Hid (ob.getD t false = false → xs.getD t 0 = m.getD t 0) := Lib.hid (fun e => H2.out t hlt (fun j hj em p hp ep => by
            have := HC.out j hj em p hp
            rw [ep, e] at this
            cases this))
          obtain ⟨ot, hot⟩ : ∃ x, ob.getD t false = x := ⟨_, rfl⟩
          rw [hot] at o1 Hq
          clear hF HF H2 HC hot hcap
          cases ot with
          | true =>
            as_aux_lemma =>
            clear z1 z2 Hq
            go_wp2_with fail
            go_quiet (fail)
            go_wp2_with fail
            go_roundw
            case rel => exact ⟨t + 1, by omega, by go_num, Lib.hid (hO.out.quiet (grown_drewN _ _ _))⟩
            case measure => simp [intOf]; omega
          | false =>
            as_aux_lemma =>
            rw [Hq.out rfl] at z1
            obtain ⟨M1, hM1⟩ : ∃ x, m.getD t 0 = x := ⟨_, rfl⟩
            rw [hM1] at z1 z2
            have q1 : ((M1 : Int) != (M1 : Int)) = false := by simp
            clear hM1 Hq
            go_wp2_with fail
            go_quiet (fail)
            go_wp2_with fail
            go_roundw
            case rel => exact ⟨t + 1, by omega, by go_num, Lib.hid (hO.out.quiet (grown_drewN _ _ _))⟩
            case measure => simp [intOf]; omega
        · as_aux_lemma =>
          have hlt' : ¬ (t : Int) < (n : Int) := by omega
          have hg := Lib.hid hO.out.grown
          clear hO HF H2 HC Hob hcap
          go_wp2
          go_ret
          exact ⟨rfl, hg.out⟩
end Go.Proofs.YtpdofdloclmbdaaGreat
end
section
/- CommitWhole: rows that are read alone; the law's things. -/
namespace Go.Proofs.YtpdofdloclmbdaaGreat
open Go.RowKit Go.Grommet
set_option linter.unusedVariables false

theorem own_then {w0 w w' : World} {Ps : List Pr} {P : Pr} (h : Grommet.Own w0 w Ps) (h2 : Grommet.Own w w' [P]) : Grommet.Own w0 w' (Ps ++ [P]) := by
  obtain ⟨Fs, h1, _, h3, h4⟩ := h2
  exact h.add (h1 0 P rfl) (h3 0 (by simp)) h4
/-- Things that may share blocks, and are not turned any more. -/
def poolP (L : List Pr) : Pr where
  holds w F := (∀ P ∈ L, ∃ F', P.holds w F' ∧ ∀ i, F' i → F i) ∧ ∀ i, F i → i < w.heap.size
  turn := fun h ht hn => ⟨fun P hP => by
    obtain ⟨F', h1, h2⟩ := h.1 P hP
    exact ⟨F', P.turn h1 ht (fun i hi => hn i (h2 i hi)), h2⟩, fun i hi => Nat.lt_of_lt_of_le (h.2 i hi) ht.size⟩
  old := fun h => h.2
theorem pool_add {w0 w : World} {Ps : List Pr} {Q : Pr} {L : List Pr} (h : Grommet.Own w0 w (Ps ++ [Q])) (k : Nat) (hk : Ps[k]? = some (poolP L)) : Grommet.Own w0 w (Ps.set k (poolP (Q :: L))) := by
  refine Own.absorb h k hk ?_
  rintro F G ⟨h1, h2⟩ hQ
  refine ⟨fun P hP => ?_, fun i hi => ?_⟩
  · rcases List.mem_cons.1 hP with rfl | hP
    · exact ⟨G, hQ, fun i hi => .inr hi⟩
    · obtain ⟨F', h3, h4⟩ := h1 P hP
      exact ⟨F', h3, fun i hi => .inl (h4 i hi)⟩
  · rcases hi with hi | hi
    · exact h2 i hi
    · exact Q.old hQ i hi
theorem pool_get {w0 w : World} {Ps : List Pr} {L : List Pr} (h : Grommet.Own w0 w Ps) (k : Nat) (hk : Ps[k]? = some (poolP L)) {P : Pr} (hP : P ∈ L) : ∃ F, P.holds w F := by
  obtain ⟨F, h1, _⟩ := h.get k hk
  obtain ⟨F', h2, _⟩ := h1 P hP
  exact ⟨F', h2⟩
theorem pool_row {w0 w : World} {Ps : List Pr} {L : List Pr} (h : Grommet.Own w0 w Ps) (k : Nat) (hk : Ps[k]? = some (poolP L)) {e size n : Nat} {v : Value} {xs : List Value} (hP : rowP e size v n xs ∈ L) : w.ownsRow 0 e size v n xs := by
  obtain ⟨F, hF⟩ := pool_get h k hk hP
  exact hF.1
theorem row_words {w : World} {ad : Option Addr} {n cap : Nat} {ys : List Nat} (hr : w.ownsRow 0 44 1 (.slice ad n cap) n (ys.map wv)) (hs : ∀ n ∈ ys, n < 18446744073709551616) (hf : n ≤ 549755813888) : Words w ad n ys ∧ n ≤ cap := by
  have hl := hr.1
  obtain ⟨ad', cap', he, hat, hnil, hc⟩ := row_slice hr
  cases he
  exact ⟨⟨by simpa using hl, hs, hat, by omega⟩, hc⟩
theorem own_mid {w0 w : World} (A : List Pr) : ∀ (B C : List Pr), Grommet.Own w0 w (A ++ (B ++ C)) → Grommet.Own w0 w (A ++ C)
  | [], _, h => h
  | _ :: B, C, h => own_mid A B C (own_skip h)

set_option maxRecDepth 100000 in
set_option maxHeartbeats 4000000 in
theorem doesF (q N Nc : Nat) (xs : List Nat) (ad : Option Addr) (n cap : Nat) (W : List (Int × Nat)) (w : World) (hx : Words w (some ⟨q, 0, none⟩) N xs) (h2 : At w ad (icells W)) (hN : N ≤ 100000) (hN1 : 0 < N) (hn : W.length = n) (hn1 : n ≤ 1000) (hW : ∀ x ∈ W, 0 ≤ x.1 ∧ x.1.toNat < N) :
    Calls Tryz.prog 38 #[.slice (some ⟨q, 0, none⟩) N Nc, .slice ad n cap] w fun e w' => ∃ ad' cp, e = .returned (.slice ad' N cp) ∧ Grommet.Own w w' [rowP 44 1 (.slice ad' N cp) N ((putQ xs (wrQ W)).map wv)] := by
  have hxl : xs.length = N := hx.len
  have Hxl := Lib.hid hxl
  have Hn := Lib.hid hn
  have HW := Lib.hid hW
  have HO := Lib.hid (Own.nil w)
  have H2 := Lib.hid h2
  clear hxl hn hW h2
  go_enter Tryz.func38, Tryz.ntmps38
  go_wp2_with (at_builtin; refine app64 rfl _ _ rfl w.heap.size _ 0 [] rfl (own_lit w _ 1 w.heap.size (Nat.le_refl _)) (some ⟨q, 0, none⟩) N Nc xs rfl ?a1 (by simp) ?a2 ?a3 ?_)
  case a1 => exact hx.keep (World.grownBy_alloc w _ none) (by simp)
  case a2 => omega
  case a3 => simp
  intro v1 w1 hown hg
  have hg := grown_new (World.grownBy_alloc w _ none) hg (by intro g e; cases e; exact Nat.le_refl _)
  try rw [List.nil_append] at hown
  try rw [Nat.zero_add] at hown
  obtain ⟨ad1, cp, rfl, _⟩ := row_slice hown
  have hO1 : Grommet.Own w w1 [rowP 44 1 (.slice ad1 N cp) N (xs.map wv)] := HO.out.addRow hown hg
  have hcell : ∀ (j : Nat) (ys : List Nat) (wx : World), ys.length = N → j < N → Grommet.Own w wx ([rowP 44 1 (.slice ad1 N cp) N (ys.map wv)]) → ∃ b, ad1 = some ⟨b, 0, none⟩ ∧ wx.cell? ⟨b, j, none⟩ = some (wv (ys.getD j 0)) ∧ wx.frozen? ⟨b, j, none⟩ = false := by
    intro j ys wx hyl hj hOx
    have hjx : j < ys.length := by omega
    obtain ⟨b, he, c1, c2, _⟩ := Own.cell hOx 0 rfl j (wv (ys.getD j 0)) (by rw [List.getElem?_map, List.getElem?_eq_getElem hjx, List.getD_eq_getElem?_getD, List.getElem?_eq_getElem hjx]; rfl)
    exact ⟨b, he, c1, c2⟩
  obtain ⟨p, rfl, _, _⟩ := hcell 0 xs w1 Hxl.out hN1 hO1
  have hz0 : Hid (Grommet.Own w w1 ([rowP 44 1 (.slice (some ⟨p, 0, none⟩) N cp) N ((putQ xs (wrQ (W.take 0))).map wv)])) := Lib.hid hO1
  have Hcell := Lib.hid hcell
  clear hown hg hO1 hcell HO hx
  go_wp2_with fail
  go_loopw [6] (fun i wr => ∃ j : Nat, j ≤ n ∧ i = .int .i64 (j : Int) ∧ Hid (Grommet.Own w wr ([rowP 44 1 (.slice (some ⟨p, 0, none⟩) N cp) N ((putQ xs (wrQ (W.take j))).map wv)]))) (fun i _ => n - (intOf i).toNat)
  case atStart => exact ⟨0, Nat.zero_le _, rfl, hz0⟩
  case round =>
    clear hz0
    obtain ⟨j, hj, rfl, hO⟩ := hrel
    have j0 : (0 : Int) ≤ (j : Int) := by omega
    by_cases hlt : j < n
    · as_aux_lemma =>
      have hlt' : (j : Int) < (n : Int) := by omega
      obtain ⟨x, hx⟩ : ∃ x, W[j]? = some x := ⟨W[j]'(by rw [Hn.out]; exact hlt), List.getElem?_eq_getElem _⟩
      obtain ⟨hx0, hxN⟩ := HW.out x (List.mem_of_getElem? hx)
      have hxD : W.getD j (0, 0) = x := by rw [List.getD_eq_getElem?_getD, hx]; rfl
      have hat := H2.out.grown hO.out.grown (by simp)
      obtain ⟨qq, o, rfl, c1, c2⟩ := at_ipair hat j (by rw [Hn.out]; exact hlt)
      rw [hxD] at c1 c2
      obtain ⟨U, hU⟩ : ∃ U : Nat, x.1.toNat = U := ⟨_, rfl⟩
      obtain ⟨V, hV⟩ : ∃ V : Nat, x.2 = V := ⟨_, rfl⟩
      rw [show x.1 = (U : Int) from by omega] at c1
      rw [hV] at c2
      rw [hU] at hxN
      obtain ⟨p', he, cK, fK⟩ := Hcell.out U (putQ xs (wrQ (W.take j))) wr (by rw [putQ_len, Hxl.out]) hxN hO.out
      cases he
      have hO2 := Own.store (hO.out.quiet (grown_drew (World.grownBy.refl _ none))) 0 rfl U (wv V)
      rw [← List.map_set, List.set_cons_zero] at hO2
      rw [show (putQ xs (wrQ (W.take j))).set U V = putQ xs (wrQ (W.take (j + 1))) from by rw [wrQ_take_snoc hx, hU, hV]] at hO2
      have hO2 := Lib.hid hO2
      obtain ⟨Y, hY⟩ : ∃ Y, (putQ xs (wrQ (W.take j))).getD U 0 = Y := ⟨_, rfl⟩
      rw [hY] at cK
      unfold wv at cK
      have U0 : (0 : Int) ≤ (U : Int) := by omega
      have UN : (U : Int) < (N : Int) := by omega
      have wj : IntKind.i64.wrap ((j : Int) + 1) = (j : Int) + 1 := IntWalk.i64_in _ ⟨by omega, by omega⟩
      clear hO hat hx hx0 hxD hU hV hY Hcell HW H2
      go_wp2_with fail
      go_still_tail 12, (by kernel_rfl)
      change wpList _ _ _ _ _ (World.drew _)
      go_wp2
      go_roundw
      case rel => exact ⟨j + 1, by omega, by go_num, hO2⟩
      case measure => simp [intOf]; omega
    · as_aux_lemma =>
      obtain rfl : n = j := by omega
      have hlt' : ¬ (n : Int) < (n : Int) := by omega
      have hO2 := hO.out
      rw [List.take_of_length_le (by rw [Hn.out]; exact Nat.le_refl _)] at hO2
      have hO2 := Lib.hid hO2
      clear hO Hcell HW H2
      go_wp2
      go_ret
      exact ⟨_, _, rfl, hO2.out⟩

/-- A row told by a function. -/
def mapR (g : Nat → Value) (a : Nat) : List Value := (List.range a).map g
theorem mapR_len (g : Nat → Value) (a : Nat) : (mapR g a).length = a := by simp [mapR]
theorem mapR_get (g : Nat → Value) {a k : Nat} (hk : k < a) : (mapR g a)[k]? = some (g k) := by unfold mapR; rw [List.getElem?_map, List.getElem?_range hk]; rfl
theorem mapR_set (g : Nat → Value) (a k : Nat) (v : Value) : (mapR g a).set k v = mapR (fun j => if j = k then v else g j) a := by
  apply List.ext_getElem?
  intro i
  by_cases hi : i < a
  · rw [mapR_get _ hi]
    by_cases e : k = i
    · subst e; rw [List.getElem?_set_self (by rw [mapR_len]; exact hi), if_pos rfl]
    · rw [List.getElem?_set_ne e, mapR_get _ hi, if_neg (fun x => e x.symm)]
  · rw [List.getElem?_eq_none (by rw [List.length_set, mapR_len]; omega), List.getElem?_eq_none (by rw [mapR_len]; omega)]
abbrev Slc := Option Addr × Nat × Nat
def slcV (f : Nat → Slc) (k : Nat) : Value := .slice (f k).1 (f k).2.1 (f k).2.2
def intV (f : Nat → Nat) (k : Nat) : Value := .int .i64 (f k : Int)
def setF {α : Type} (f : Nat → α) (k : Nat) (x : α) (j : Nat) : α := if j = k then x else f j
theorem setF_same {α : Type} (f : Nat → α) (k : Nat) (x : α) : setF f k x k = x := by unfold setF; rw [if_pos rfl]
theorem setF_ne {α : Type} (f : Nat → α) {k j : Nat} (x : α) (h : j ≠ k) : setF f k x j = f j := by unfold setF; rw [if_neg h]
theorem slcV_set (f : Nat → Slc) (k : Nat) (x : Slc) : (fun j => if j = k then Value.slice x.1 x.2.1 x.2.2 else slcV f j) = slcV (setF f k x) := by
  funext j; unfold slcV setF; split <;> rfl
theorem intV_set (f : Nat → Nat) (k x : Nat) : (fun j => if j = k then Value.int .i64 (x : Int) else intV f j) = intV (setF f k x) := by
  funext j; unfold intV setF; split <;> rfl

/-- What stays as it is in the law. -/
structure Kc where
  a : Nat
  M : Nat
  N : Nat
  G : Nat
  q : Nat
  d : Nat
  ql : Nat
  qe : Nat
  qk : Nat
  xs : List Nat
/-- What doesn't. -/
structure Ls where
  m : List Nat
  pm : Nat
  cm : Nat
  qr : Nat
  cr : Nat
  Rs : Nat → Nat
  us : Nat → Wk
  ws : List PW
  lf : Nat → Slc
  ef : Nat → Slc
  kf : Nat → Nat
  L : List Pr
def Kc.A (K : Kc) (s : Ls) : List Pr := [boxP K.G 26 #[.int .i64 (K.a : Int), .int .i64 2, .int .i64 10], rowP 44 1 (.slice (some ⟨K.q, 0, none⟩) K.N K.N) K.N (K.xs.map wv), devP K.d s.ws, rowP 43 1 (.slice (some ⟨K.ql, 0, none⟩) K.a K.a) K.a (mapR (slcV s.lf) K.a), rowP 33 1 (.slice (some ⟨K.qe, 0, none⟩) K.a K.a) K.a (mapR (slcV s.ef) K.a), rowP 3 1 (.slice (some ⟨K.qk, 0, none⟩) K.a K.a) K.a (mapR (intV s.kf) K.a), poolP s.L, rowP 48 1 (.slice (some ⟨s.qr, 0, none⟩) K.a s.cr) K.a (ptrsL s.Rs K.a)]
def Kc.R (K : Kc) (s : Ls) : List Pr := runsL K.d K.a s.Rs (fun k => (s.us k).S) K.a
def Kc.P (K : Kc) (s : Ls) (T : List Pr) : List Pr := K.A s ++ (K.R s ++ T)
theorem Kc.P_run (K : Kc) (s : Ls) (T : List Pr) {k : Nat} (hk : k < K.a) : (K.P s T)[8 + k]? = some (runE (s.Rs k) K.d (K.a : Int) 2 10 (264 + 208 * k) (s.us k).S) := by
  unfold Kc.P
  rw [List.getElem?_append_right (by simp [Kc.A]), show 8 + k - (K.A s).length = k from by simp [Kc.A], List.getElem?_append_left (by unfold Kc.R; rw [runsL_len]; exact hk)]
  exact runsL_get _ _ _ _ hk
theorem Kc.P_at (K : Kc) (s : Ls) (T : List Pr) (i : Nat) (h : i < 8) : (K.P s T)[i]? = (K.A s)[i]? := by
  unfold Kc.P
  rw [List.getElem?_append_left (by simp [Kc.A]; omega)]
theorem Kc.P_len (K : Kc) (s : Ls) (T : List Pr) : (K.P s T).length = 8 + K.a + T.length := by
  unfold Kc.P Kc.R
  rw [List.length_append, List.length_append, runsL_len]
  simp [Kc.A]; omega
theorem Kc.P_more (K : Kc) (s : Ls) (T U : List Pr) : K.P s T ++ U = K.P s (T ++ U) := by unfold Kc.P; simp only [List.append_assoc]
theorem Kc.set_dev (K : Kc) (s : Ls) (T : List Pr) (ws : List PW) : (K.P s T).set 2 (devP K.d ws) = K.P { s with ws := ws } T := by
  unfold Kc.P; rw [List.set_append_left _ _ (by simp [Kc.A])]; rfl
theorem Kc.set_last (K : Kc) (s : Ls) (T : List Pr) (k : Nat) (x : Slc) : (K.P s T).set 3 (rowP 43 1 (.slice (some ⟨K.ql, 0, none⟩) K.a K.a) K.a ((mapR (slcV s.lf) K.a).set k (.slice x.1 x.2.1 x.2.2))) = K.P { s with lf := setF s.lf k x } T := by
  rw [mapR_set, slcV_set]
  unfold Kc.P; rw [List.set_append_left _ _ (by simp [Kc.A])]; rfl
theorem Kc.set_eld (K : Kc) (s : Ls) (T : List Pr) (k : Nat) (x : Slc) : (K.P s T).set 4 (rowP 33 1 (.slice (some ⟨K.qe, 0, none⟩) K.a K.a) K.a ((mapR (slcV s.ef) K.a).set k (.slice x.1 x.2.1 x.2.2))) = K.P { s with ef := setF s.ef k x } T := by
  rw [mapR_set, slcV_set]
  unfold Kc.P; rw [List.set_append_left _ _ (by simp [Kc.A])]; rfl
theorem Kc.set_mark (K : Kc) (s : Ls) (T : List Pr) (k x : Nat) : (K.P s T).set 5 (rowP 3 1 (.slice (some ⟨K.qk, 0, none⟩) K.a K.a) K.a ((mapR (intV s.kf) K.a).set k (.int .i64 (x : Int)))) = K.P { s with kf := setF s.kf k x } T := by
  rw [mapR_set, intV_set]
  unfold Kc.P; rw [List.set_append_left _ _ (by simp [Kc.A])]; rfl
theorem Kc.set_pool (K : Kc) (s : Ls) (T L : List Pr) : (K.P s T).set 6 (poolP L) = K.P { s with L := L } T := by
  unfold Kc.P; rw [List.set_append_left _ _ (by simp [Kc.A])]; rfl
theorem Kc.set_run (K : Kc) (s : Ls) (T : List Pr) {k : Nat} (hk : k < K.a) (u : Wk) : (K.P s T).set (8 + k) (runE (s.Rs k) K.d (K.a : Int) 2 10 (264 + 208 * k) u.S) = K.P { s with us := setU s.us k u } T := by
  unfold Kc.P
  rw [List.set_append_right _ _ (by simp [Kc.A]), show 8 + k - (K.A s).length = k from by simp [Kc.A], List.set_append_left _ _ (by unfold Kc.R; rw [runsL_len]; exact hk)]
  unfold Kc.R
  rw [runsL_set]
  rw [runsL_congr K.d K.a (fun _ _ => rfl) (fun i _ => ?_)]
  · rfl
  · show (if i = k then u.S else (s.us i).S) = (setU s.us k u i).S
    by_cases e : i = k
    · subst e; rw [if_pos rfl, setU_same]
    · rw [if_neg e, setU_ne _ _ e]
/-- The law's state. -/
structure LwS (K : Kc) (s : Ls) (T : List Pr) (w0 w : World) : Prop where
  crew : Crew K.a K.M s.ws s.m s.us
  own : Grommet.Own w0 w (K.P s T)
  hN : K.N = 392 + 208 * K.a
  ha : 1 ≤ K.a ∧ K.a ≤ 4
  mod : rowP 44 1 (.slice (some ⟨s.pm, 0, none⟩) K.N s.cm) K.N (s.m.map wv) ∈ s.L
  msm : ∀ v ∈ s.m, v < 18446744073709551616
  last : ∀ k, k < K.a → rowP 92 2 (.slice (s.lf k).1 (s.lf k).2.1 (s.lf k).2.2) (s.lf k).2.1 (icells (s.us k).W) ∈ s.L
  eld : ∀ k, k < K.a → (s.us k).mk = 1 → (s.ef k).2.1 = K.N ∧ rowP 44 1 (.slice (s.ef k).1 K.N (s.ef k).2.2) K.N ((s.us k).E.map wv) ∈ s.L ∧ ∀ v ∈ (s.us k).E, v < 18446744073709551616
  kf : ∀ k, k < K.a → s.kf k = (s.us k).mk
  mk2 : ∀ k, k < K.a → (s.us k).mk ≤ 2
  nilL : rowP 92 2 (.slice none 0 0) 0 (icells []) ∈ s.L
section
variable {K : Kc} {s : Ls} {T : List Pr} {w0 w : World}
theorem LwS.geo (h : LwS K s T w0 w) : w.cell? ⟨K.G, 0, none⟩ = some (.int .i64 (K.a : Int)) ∧ w.cell? ⟨K.G, 1, none⟩ = some (.int .i64 2) ∧ w.cell? ⟨K.G, 2, none⟩ = some (.int .i64 10) := by
  have hb := h.own.box 0 (X := K.G) (T := 26) (cs := #[.int .i64 (K.a : Int), .int .i64 2, .int .i64 10]) (by rw [Kc.P_at _ _ _ 0 (by omega)]; rfl)
  exact GeoQ.cells (show GeoQ K.G (K.a : Int) 2 10 w from hb)
theorem LwS.ptr_ (h : LwS K s T w0 w) {k : Nat} (hk : k < K.a) : w.cell? ⟨s.qr, k, none⟩ = some (ptr (s.Rs k)) := by
  obtain ⟨b, hb, c1, _⟩ := Own.cell h.own 7 (by rw [Kc.P_at _ _ _ 7 (by omega)]; rfl) k _ (ptrsL_get s.Rs hk)
  cases hb
  exact c1
theorem LwS.lastC (h : LwS K s T w0 w) {k : Nat} (hk : k < K.a) : w.cell? ⟨K.ql, k, none⟩ = some (slcV s.lf k) ∧ w.frozen? ⟨K.ql, k, none⟩ = false := by
  obtain ⟨b, hb, c1, c2, _⟩ := Own.cell h.own 3 (by rw [Kc.P_at _ _ _ 3 (by omega)]; rfl) k _ (mapR_get (slcV s.lf) hk)
  cases hb
  exact ⟨c1, c2⟩
theorem LwS.quiet (h : LwS K s T w0 w) {w' : World} (hg : w.grownBy w' none) : LwS K s T w0 w' := ⟨h.crew, h.own.quiet hg, h.hN, h.ha, h.mod, h.msm, h.last, h.eld, h.kf, h.mk2, h.nilL⟩
theorem LwS.tail (h : LwS K s T w0 w) {w' : World} {T' : List Pr} (hO : Grommet.Own w0 w' (K.P s T')) : LwS K s T' w0 w' := ⟨h.crew, hO, h.hN, h.ha, h.mod, h.msm, h.last, h.eld, h.kf, h.mk2, h.nilL⟩
theorem LwS.wsl (h : LwS K s T w0 w) : s.ws.length = K.N ∧ K.M = K.N / 8 ∧ K.N = 8 * K.M := by
  have := h.crew.len
  have := h.crew.hM
  have := h.hN
  omega
theorem lw_left (h : LwS K s T w0 w) {k : Nat} (hk : k < K.a) : Calls Tryz.prog 27 #[ptr (s.Rs k)] w fun e w' => e = .returned (.int .i64 ((s.us k).S.length : Int)) ∧ w' = w :=
  LeftV _ _ _ _ _ _ _ _ _ _ _ h.own (Kc.P_run K s T hk)
theorem lw_phase (h : LwS K s T w0 w) {k : Nat} (hk : k < K.a) {p : Nat} {cl : Cl} {S : List (Nat × Cl)} (hS : (s.us k).S = (p, cl) :: S) : Calls Tryz.prog 25 #[ptr (s.Rs k)] w fun e w' => e = .returned (.int .u8 (p : Int)) ∧ w' = w := by
  have h1 := Kc.P_run K s T hk
  rw [hS] at h1
  exact PhaseV _ _ _ _ _ _ _ _ _ _ _ h.own h1
theorem lw_step (h : LwS K s T w0 w) {k : Nat} (hk : k < K.a) {p : Nat} {cl : Cl} {S : List (Nat × Cl)} (hS : (s.us k).S = (p, cl) :: S) (u : Wk) (hu : u.S = S) : Calls Tryz.prog 23 #[ptr (s.Rs k)] w fun e w' => e = .returned (.tuple #[.int .u8 (p : Int), .int .i64 0]) ∧ Grommet.Own w0 w' (K.P { s with us := setU s.us k u, ws := cl.does s.ws } T) := by
  have h1 := Kc.P_run K s T hk
  rw [hS] at h1
  obtain ⟨l1, l2, l3⟩ := h.wsl
  refine (StepV (8 + k) 2 _ K.d _ _ _ _ p cl S s.ws K.M w0 w _ h.own h1 (by rw [Kc.P_at _ _ _ 2 (by omega)]; rfl) (by omega) (by omega) (h.crew.can k hk (p, cl) (by rw [hS]; exact List.mem_cons_self ..))).mono ?_
  rintro e w' ⟨rfl, hO⟩
  rw [← hu, Kc.set_run K s T hk u, Kc.set_dev] at hO
  exact ⟨rfl, hO⟩
theorem lw_evict (h : LwS K s T w0 w) {l : Nat} (hl : l < K.M) : Calls Tryz.prog 19 #[ptr K.d, .int .i64 (l : Int)] w fun e w' => e = .returned (.int .i64 0) ∧ ∃ s', s'.pm = s.pm ∧ s'.cm = s.cm ∧ s'.qr = s.qr ∧ s'.cr = s.cr ∧ LwS K s' T w0 w' := by
  obtain ⟨l1, l2, l3⟩ := h.wsl
  refine (EvictH 2 K.d s.ws w0 w _ h.own (by rw [Kc.P_at _ _ _ 2 (by omega)]; rfl) l (by omega)).mono ?_
  rintro e w' ⟨rfl, hO⟩
  rw [Kc.set_dev] at hO
  exact ⟨rfl, { s with ws := turnFrom PW.evict (8 * l) 8 s.ws }, rfl, rfl, rfl, rfl, ⟨h.crew.evict l, hO, h.hN, h.ha, h.mod, h.msm, h.last, h.eld, h.kf, h.mk2, h.nilL⟩⟩
theorem LwS.model (h : LwS K s T w0 w) : Words w (some ⟨s.pm, 0, none⟩) K.N s.m ∧ K.N ≤ s.cm := by
  have := h.ha
  have := h.hN
  exact row_words (pool_row h.own 6 (by rw [Kc.P_at _ _ _ 6 (by omega)]; rfl) h.mod) h.msm (by omega)
end
end Go.Proofs.YtpdofdloclmbdaaGreat
end
section
/- CommitWhole: what the law asks of its device, step by step. -/
namespace Go.Proofs.YtpdofdloclmbdaaGreat
open Go.RowKit Go.Grommet
set_option linter.unusedVariables false

theorem putQ_small {Q : List (Nat × Nat)} (hQ : ∀ q ∈ Q, q.2 < 18446744073709551616) : ∀ ys : List Nat, (∀ n ∈ ys, n < 18446744073709551616) → ∀ n ∈ putQ ys Q, n < 18446744073709551616 := by
  induction Q with
  | nil => intro ys h; exact h
  | cons q Q ih =>
    intro ys h
    refine ih (fun r hr => hQ r (List.mem_cons_of_mem _ hr)) (ys.set q.1 q.2) (fun n hn => ?_)
    rcases List.mem_or_eq_of_mem_set hn with h' | h'
    · exact h n h'
    · rw [h']; exact hQ q (List.mem_cons_self ..)
def uRow (ad : Option Addr) (N cap : Nat) (zs : List Nat) : Pr := rowP 44 1 (.slice ad N cap) N (zs.map wv)
section
variable {K : Kc} {s : Ls} {T : List Pr} {w0 w : World}
theorem k_some {zs : List Nat} {ad : Option Addr} {cap : Nat} (hO : Grommet.Own w0 w (K.P s T ++ [uRow ad K.N cap zs])) (hl : zs.length = K.N) (hN : 0 < K.N) : ∃ b, ad = some ⟨b, 0, none⟩ := by
  obtain ⟨b, e, _⟩ := Own.cell hO (K.P s T).length last_get 0 (wv (zs.getD 0 0)) (by rw [List.getElem?_map, List.getElem?_eq_getElem (by omega), List.getD_eq_getElem?_getD, List.getElem?_eq_getElem (by omega)]; rfl)
  exact ⟨b, e⟩
theorem k_seen (hO : Grommet.Own w0 w (K.P s T)) (hl : s.ws.length = K.N) (hN : K.N = 8 * K.M) (h0 : 0 < K.N) : Calls Tryz.prog 28 #[ptr K.d] w fun e w' => ∃ b cap, e = .returned (.slice (some ⟨b, 0, none⟩) K.N cap) ∧ Grommet.Own w0 w' (K.P s T ++ [uRow (some ⟨b, 0, none⟩) K.N cap (seenL s.ws)]) := by
  refine (SeenH 2 K.d s.ws w0 w _ hO (by rw [Kc.P_at _ _ _ 2 (by omega)]; rfl) K.M (by omega)).mono ?_
  rintro e w' ⟨ad, cap, rfl, hO2⟩
  rw [hl] at hO2 ⊢
  obtain ⟨b, rfl⟩ := k_some (zs := seenL s.ws) hO2 (by unfold seenL; rw [List.length_map]; exact hl) h0
  exact ⟨b, cap, rfl, hO2⟩
theorem k_sure (hO : Grommet.Own w0 w (K.P s T)) (hl : s.ws.length = K.N) (hN : K.N = 8 * K.M) (h0 : 0 < K.N) : Calls Tryz.prog 29 #[ptr K.d] w fun e w' => ∃ b cap, e = .returned (.slice (some ⟨b, 0, none⟩) K.N cap) ∧ Grommet.Own w0 w' (K.P s T ++ [uRow (some ⟨b, 0, none⟩) K.N cap (s.ws.map (·.sure))]) := by
  refine (SureH 2 K.d s.ws w0 w _ hO (by rw [Kc.P_at _ _ _ 2 (by omega)]; rfl) K.M (by omega)).mono ?_
  rintro e w' ⟨ad, cap, rfl, hO2⟩
  rw [hl] at hO2 ⊢
  obtain ⟨b, rfl⟩ := k_some (zs := s.ws.map (·.sure)) hO2 (by rw [List.length_map]; exact hl) h0
  exact ⟨b, cap, rfl, hO2⟩
theorem k_words {zs : List Nat} {Ps : List Pr} {ad : Option Addr} {N cap : Nat} (hO : Grommet.Own w0 w (Ps ++ [uRow ad N cap zs])) (hs : ∀ v ∈ zs, v < 18446744073709551616) (hN : N ≤ 100000) : Words w ad N zs ∧ N ≤ cap := by
  obtain ⟨h1, _, h2⟩ := Own.words hO Ps.length last_get hs (by omega)
  exact ⟨h1, h2⟩
theorem k_over {zs : List Nat} {b cap : Nat} {Ps : List Pr} {a N : Nat} (hO : Grommet.Own w0 w (Ps ++ [uRow (some ⟨b, 0, none⟩) N cap zs])) (hs : ∀ v ∈ zs, v < 18446744073709551616) (hl : zs.length = N) (hN : N = 392 + 208 * a) (ha : 1 ≤ a ∧ a ≤ 4) : Calls Tryz.prog 33 #[.agg #[.int .i64 (a : Int), .int .i64 2, .int .i64 10], .slice (some ⟨b, 0, none⟩) N cap] w fun e w' => ∃ b2 cap2, e = .returned (.slice (some ⟨b2, 0, none⟩) N cap2) ∧ Grommet.Own w0 w' ((Ps ++ [uRow (some ⟨b, 0, none⟩) N cap zs]) ++ [uRow (some ⟨b2, 0, none⟩) N cap2 (overS (a : Int) 2 10 zs a)]) := by
  obtain ⟨hw, hc⟩ := k_words hO hs (by omega)
  have hmay : mayB (a : Int) ((2 : Nat) : Int) ((10 : Nat) : Int) = true := by unfold mayB; simp; omega
  have h1 := Over_yes w.heap.size a 2 10 b 0 N cap zs w hw hc hmay (by omega) (by omega) (Nat.le_refl _)
  refine Calls.mono h1 ?_
  rintro e w' ⟨ad3, cap3, rfl, hrow, hg⟩
  have hol : (overS (a : Int) ((2 : Nat) : Int) ((10 : Nat) : Int) zs a).length = N := by rw [overS_length, hl]
  rw [hol] at hrow ⊢
  have hO2 := hO.addRow hrow hg
  obtain ⟨b2, e2, _⟩ := Own.cell hO2 (Ps ++ [uRow (some ⟨b, 0, none⟩) N cap zs]).length last_get 0 (wv ((overS (a : Int) ((2 : Nat) : Int) ((10 : Nat) : Int) zs a).getD 0 0)) (by rw [List.getElem?_map, List.getElem?_eq_getElem (by omega), List.getD_eq_getElem?_getD, List.getElem?_eq_getElem (by omega)]; rfl)
  subst e2
  exact ⟨b2, cap3, rfl, hO2⟩
theorem seen_small (hO : Grommet.Own w0 w (K.P s T)) : ∀ v ∈ seenL s.ws, v < 18446744073709551616 := dev_small hO (k := 2) (d := K.d) (by rw [Kc.P_at _ _ _ 2 (by omega)]; rfl)
/-- Over of what is seen is the model. -/
theorem lw_check (h : LwS K s T w0 w) :
    (∀ wx, Grommet.Own w0 wx (K.P s T) → Calls Tryz.prog 28 #[ptr K.d] wx fun e w' => ∃ b cap, e = .returned (.slice (some ⟨b, 0, none⟩) K.N cap) ∧ Grommet.Own w0 w' (K.P s T ++ [uRow (some ⟨b, 0, none⟩) K.N cap (seenL s.ws)])) ∧
    (∀ wx b cap, Grommet.Own w0 wx (K.P s T ++ [uRow (some ⟨b, 0, none⟩) K.N cap (seenL s.ws)]) → Calls Tryz.prog 33 #[.agg #[.int .i64 (K.a : Int), .int .i64 2, .int .i64 10], .slice (some ⟨b, 0, none⟩) K.N cap] wx fun e w' => ∃ b2 cap2, e = .returned (.slice (some ⟨b2, 0, none⟩) K.N cap2) ∧ Grommet.Own w0 w' ((K.P s T ++ [uRow (some ⟨b, 0, none⟩) K.N cap (seenL s.ws)]) ++ [uRow (some ⟨b2, 0, none⟩) K.N cap2 s.m])) ∧
    (∀ wx b cap b2 cap2, Grommet.Own w0 wx ((K.P s T ++ [uRow (some ⟨b, 0, none⟩) K.N cap (seenL s.ws)]) ++ [uRow (some ⟨b2, 0, none⟩) K.N cap2 s.m]) → Calls Tryz.prog 30 #[.slice (some ⟨b2, 0, none⟩) K.N cap2, .slice (some ⟨s.pm, 0, none⟩) K.N s.cm] wx fun e w' => e = .returned (.bool true) ∧ Grommet.Own w0 w' (K.P s T)) := by
  obtain ⟨l1, l2, l3⟩ := h.wsl
  have hN := h.hN
  have ha := h.ha
  refine ⟨fun wx hO => k_seen hO l1 l3 (by omega), fun wx b cap hO => ?_, fun wx b cap b2 cap2 hO => ?_⟩
  · have := k_over hO (seen_small hO.less) (by unfold seenL; rw [List.length_map]; exact l1) hN ha
    rw [h.crew.seen] at this
    exact this
  · have hO1 : Grommet.Own w0 wx (K.P s T) := hO.less.less
    obtain ⟨h1, _⟩ := k_words hO h.msm (by omega)
    obtain ⟨h2, _⟩ := (h.tail hO1).model
    refine (Same_any (some ⟨b2, 0, none⟩) (some ⟨s.pm, 0, none⟩) K.N K.N cap2 s.cm s.m s.m wx h1 h2).mono ?_
    rintro e w' ⟨rfl, hg⟩
    exact ⟨by rw [decide_eq_true rfl], hO1.quiet hg⟩

/-- What a step of a worker makes: nothing marked; marked just now; marked before. -/
inductive StepQ (K : Kc) (s : Ls) (T : List Pr) (w0 w : World) (k : Nat) : Nat → Prop
  | quiet {p : Nat} {u : Wk} {cl : Cl} (hp : p ≠ 3) (hu : u.S.length + 1 = (s.us k).S.length) (hl : LwS K { s with us := setU s.us k u, ws := cl.does s.ws } T w0 w) : StepQ K s T w0 w k p
  | first {u : Wk} {cl : Cl} (hu : u.S.length + 1 = (s.us k).S.length) (h0 : (s.us k).mk = 0) (h3 : ∃ c S', u.S = (3, c) :: S') (hW : u.W = (s.us k).W) (h1 : u.mk = 1) (hE : u.E = s.m) (hc : Crew K.a K.M (cl.does s.ws) (putQ s.m (wrQ u.W)) (setU s.us k u)) (hO : Grommet.Own w0 w (K.P { s with us := setU s.us k u, ws := cl.does s.ws } T)) : StepQ K s T w0 w k 3
  | more {u : Wk} {cl : Cl} (hu : u.S.length + 1 = (s.us k).S.length) (h1 : (s.us k).mk = 1) (h3 : ∃ c S', u.S = (3, c) :: S') (hl : LwS K { s with us := setU s.us k u, ws := cl.does s.ws } T w0 w) : StepQ K s T w0 w k 3
  | last {u : Wk} {cl : Cl} (hu : u.S.length + 1 = (s.us k).S.length) (h1 : (s.us k).mk = 1) (h3 : ∃ p c S', u.S = (p, c) :: S' ∧ p ≠ 3) (hW : u.W = (s.us k).W) (h2 : u.mk = 2) (hc : Crew K.a K.M (cl.does s.ws) s.m (setU s.us k u)) (hO : Grommet.Own w0 w (K.P { s with us := setU s.us k u, ws := cl.does s.ws } T)) : StepQ K s T w0 w k 3
theorem lw_stepQ (h : LwS K s T w0 w) {k : Nat} (hk : k < K.a) {p : Nat} {cl : Cl} {S : List (Nat × Cl)} (hS : (s.us k).S = (p, cl) :: S) : Calls Tryz.prog 23 #[ptr (s.Rs k)] w fun e w' => e = .returned (.tuple #[.int .u8 (p : Int), .int .i64 0]) ∧ StepQ K s T w0 w' k p := by
  obtain ⟨u, u1, u2, u3⟩ := h.crew.step hk hS
  have hlen : u.S.length + 1 = (s.us k).S.length := by rw [u2, hS]; rfl
  refine (lw_step h hk hS u u2).mono ?_
  rintro e w' ⟨rfl, hO⟩
  refine ⟨rfl, ?_⟩
  have hlast : ∀ j, j < K.a → rowP 92 2 (.slice (s.lf j).1 (s.lf j).2.1 (s.lf j).2.2) (s.lf j).2.1 (icells (setU s.us k u j).W) ∈ s.L := by
    intro j hj
    by_cases e : j = k
    · subst e; rw [setU_same, u1]; exact h.last j hj
    · rw [setU_ne _ _ e]; exact h.last j hj
  have hsame : u.mk = (s.us k).mk → u.E = (s.us k).E → Crew K.a K.M (cl.does s.ws) s.m (setU s.us k u) → LwS K { s with us := setU s.us k u, ws := cl.does s.ws } T w0 w' := by
    intro e1 e2 hc
    refine ⟨hc, hO, h.hN, h.ha, h.mod, h.msm, hlast, fun j hj => ?_, fun j hj => ?_, fun j hj => ?_, h.nilL⟩
    · show (setU s.us k u j).mk = 1 → _ ∧ rowP _ _ _ _ ((setU s.us k u j).E.map wv) ∈ s.L ∧ ∀ v ∈ (setU s.us k u j).E, _
      by_cases e : j = k
      · subst e; rw [setU_same, e1, e2]; exact h.eld j hj
      · rw [setU_ne _ _ e]; exact h.eld j hj
    · show s.kf j = (setU s.us k u j).mk
      by_cases e : j = k
      · subst e; rw [setU_same, e1]; exact h.kf j hj
      · rw [setU_ne _ _ e]; exact h.kf j hj
    · show (setU s.us k u j).mk ≤ 2
      by_cases e : j = k
      · subst e; rw [setU_same, e1]; exact h.mk2 j hj
      · rw [setU_ne _ _ e]; exact h.mk2 j hj
  rcases u3 with ⟨c1, c2, c3, c4⟩ | ⟨rfl, c2, ⟨x, S', c3, c3'⟩, c4, c5, c6⟩ | ⟨rfl, c2, c3, c4, c5⟩
  · exact .quiet c1 hlen (hsame c2 c3 c4)
  · obtain ⟨xp, xc⟩ := x
    have c3' : xp = 3 := c3'
    subst c3'
    exact .first hlen c2 ⟨xc, S', by rw [u2]; exact c3⟩ u1 c4 c5 (by rw [u1]; exact c6) hO
  · rcases c4 with ⟨⟨x, S', d1, d2⟩, d3⟩ | ⟨⟨x, S', d1, d2⟩, d3⟩
    · obtain ⟨xp, xc⟩ := x
      have d2 : xp = 3 := d2
      subst d2
      exact .more hlen c2 ⟨xc, S', by rw [u2]; exact d1⟩ (hsame (d3.trans c2.symm) c3 c5)
    · obtain ⟨xp, xc⟩ := x
      exact .last hlen c2 ⟨xp, xc, S', by rw [u2]; exact d1, d2⟩ u1 d3 c5 hO
/-- .. when the mark is told. -/
theorem StepQ.told {k : Nat} {u : Wk} {cl : Cl} (h : LwS K s T w0 w) (hk : k < K.a) (hW : u.W = (s.us k).W) (h2 : u.mk = 2) (hc : Crew K.a K.M (cl.does s.ws) s.m (setU s.us k u)) {w' : World} (hO : Grommet.Own w0 w' (K.P { s with us := setU s.us k u, ws := cl.does s.ws, kf := setF s.kf k 2 } T)) : LwS K { s with us := setU s.us k u, ws := cl.does s.ws, kf := setF s.kf k 2 } T w0 w' := by
  refine ⟨hc, hO, h.hN, h.ha, h.mod, h.msm, fun j hj => ?_, fun j hj => ?_, fun j hj => ?_, fun j hj => ?_, h.nilL⟩
  · show rowP _ _ _ _ (icells (setU s.us k u j).W) ∈ s.L
    by_cases e : j = k
    · subst e; rw [setU_same, hW]; exact h.last j hj
    · rw [setU_ne _ _ e]; exact h.last j hj
  · show (setU s.us k u j).mk = 1 → _ ∧ rowP _ _ _ _ ((setU s.us k u j).E.map wv) ∈ s.L ∧ ∀ v ∈ (setU s.us k u j).E, _
    by_cases e : j = k
    · subst e; rw [setU_same, h2]; intro x; cases x
    · rw [setU_ne _ _ e]; exact h.eld j hj
  · show setF s.kf k 2 j = (setU s.us k u j).mk
    by_cases e : j = k
    · subst e; rw [setU_same, setF_same, h2]
    · rw [setU_ne _ _ e, setF_ne _ _ e]; exact h.kf j hj
  · show (setU s.us k u j).mk ≤ 2
    by_cases e : j = k
    · subst e; rw [setU_same, h2]; exact Nat.le_refl _
    · rw [setU_ne _ _ e]; exact h.mk2 j hj
/-- .. with a new model. -/
theorem StepQ.marked {k : Nat} {u : Wk} {cl : Cl} (h : LwS K s T w0 w) (hk : k < K.a) (hW : u.W = (s.us k).W) (h1 : u.mk = 1) (hE : u.E = s.m) (hc : Crew K.a K.M (cl.does s.ws) (putQ s.m (wrQ u.W)) (setU s.us k u)) (hv : ∀ p ∈ u.W, p.2 < 18446744073709551616) {p2 c2 : Nat} {w' : World} (hO : Grommet.Own w0 w' (K.P { s with us := setU s.us k u, ws := cl.does s.ws, kf := setF s.kf k 1, ef := setF s.ef k (some ⟨s.pm, 0, none⟩, K.N, s.cm) } T ++ [uRow (some ⟨p2, 0, none⟩) K.N c2 (putQ s.m (wrQ u.W))])) : LwS K { s with us := setU s.us k u, ws := cl.does s.ws, kf := setF s.kf k 1, ef := setF s.ef k (some ⟨s.pm, 0, none⟩, K.N, s.cm), pm := p2, cm := c2, m := putQ s.m (wrQ u.W), L := uRow (some ⟨p2, 0, none⟩) K.N c2 (putQ s.m (wrQ u.W)) :: s.L } T w0 w' := by
  have hO2 := pool_add hO 6 (by rw [Kc.P_at _ _ _ 6 (by omega)]; rfl)
  rw [Kc.set_pool] at hO2
  refine ⟨hc, hO2, h.hN, h.ha, List.mem_cons_self .., putQ_small (fun q hq => ?_) _ h.msm, fun j hj => List.mem_cons_of_mem _ ?_, fun j hj => ?_, fun j hj => ?_, fun j hj => ?_, List.mem_cons_of_mem _ h.nilL⟩
  · unfold wrQ at hq
    obtain ⟨p, hp, rfl⟩ := List.mem_map.1 hq
    exact hv p hp
  · show rowP _ _ _ _ (icells (setU s.us k u j).W) ∈ s.L
    by_cases e : j = k
    · subst e; rw [setU_same, hW]; exact h.last j hj
    · rw [setU_ne _ _ e]; exact h.last j hj
  · show (setU s.us k u j).mk = 1 → (setF s.ef k (some ⟨s.pm, 0, none⟩, K.N, s.cm) j).2.1 = K.N ∧ rowP _ _ (.slice (setF s.ef k (some ⟨s.pm, 0, none⟩, K.N, s.cm) j).1 _ (setF s.ef k (some ⟨s.pm, 0, none⟩, K.N, s.cm) j).2.2) _ ((setU s.us k u j).E.map wv) ∈ _ ∧ ∀ v ∈ (setU s.us k u j).E, _
    by_cases e : j = k
    · subst e; rw [setU_same, setF_same, hE]; exact fun _ => ⟨rfl, List.mem_cons_of_mem _ h.mod, h.msm⟩
    · rw [setU_ne _ _ e, setF_ne _ _ e]
      exact fun x => ⟨(h.eld j hj x).1, List.mem_cons_of_mem _ (h.eld j hj x).2.1, (h.eld j hj x).2.2⟩
  · show setF s.kf k 1 j = (setU s.us k u j).mk
    by_cases e : j = k
    · subst e; rw [setU_same, setF_same, h1]
    · rw [setU_ne _ _ e, setF_ne _ _ e]; exact h.kf j hj
  · show (setU s.us k u j).mk ≤ 2
    by_cases e : j = k
    · subst e; rw [setU_same, h1]; omega
    · rw [setU_ne _ _ e]; exact h.mk2 j hj
end
end Go.Proofs.YtpdofdloclmbdaaGreat
end
section
/- CommitWhole: a begin; a loss of power, and what comes of it. -/
namespace Go.Proofs.YtpdofdloclmbdaaGreat
open Go.RowKit Go.Grommet
set_option linter.unusedVariables false

def wRow (ad : Option Addr) (n cap : Nat) (W : List (Int × Nat)) : Pr := rowP 92 2 (.slice ad n cap) n (icells W)
theorem wkOk_of {a k : Nat} {W : List (Int × Nat)} (ha : 1 ≤ a ∧ a ≤ 4) (hk : k < a) (hg : GoodW (bk a k) W) (hn : W.length ≤ 20) : WkOk a k W := by
  have hmay : mayB (a : Int) ((2 : Nat) : Int) ((10 : Nat) : Int) = true := by unfold mayB; simp; omega
  refine ⟨hg, hn, good_may (a := a) (b := 2) (c := 10) hg hmay (by omega) (by unfold bk; omega) (by unfold bk; omega), ⟨fun p hp => ?_, hg.val, by omega⟩⟩
  obtain ⟨t, ht, e⟩ := hg.at_ p hp
  unfold bk at e
  omega
section
variable {K : Kc} {s : Ls} {T : List Pr} {w0 w : World}
theorem lw_begin (h : LwS K s T w0 w) {k : Nat} (hk : k < K.a) (hS : (s.us k).S = []) {W : List (Int × Nat)} {ad : Option Addr} {n cap : Nat} (hg : GoodW (bk K.a k) W) (hn : W.length = n) (hn2 : n ≤ 20) {wx : World} (hO : Grommet.Own w0 wx (K.P { s with lf := setF s.lf k (ad, n, cap), kf := setF s.kf k 0 } T ++ [wRow ad n cap W])) :
    Calls Tryz.prog 13 #[ptr (s.Rs k), .slice ad n cap] wx fun e w' => e = .returned (.int .i64 0) ∧ ∃ s', s'.pm = s.pm ∧ s'.cm = s.cm ∧ s'.qr = s.qr ∧ s'.cr = s.cr ∧ s'.Rs = s.Rs ∧ s'.lf = setF s.lf k (ad, n, cap) ∧ LwS K s' T w0 w' := by
  have ha := h.ha
  have hN := h.hN
  obtain ⟨l1, l2, l3⟩ := h.wsl
  have hW := wkOk_of ha hk hg (by omega)
  have hP := Kc.P_run K { s with lf := setF s.lf k (ad, n, cap), kf := setF s.kf k 0 } T hk
  have hP : (K.P { s with lf := setF s.lf k (ad, n, cap), kf := setF s.kf k 0 } T)[8 + k]? = some (runE (s.Rs k) K.d (K.a : Int) 2 10 (264 + 208 * k) []) := by rw [hP]; show some (runE _ _ _ _ _ _ (s.us k).S) = _; rw [hS]
  have hlen := Kc.P_len K { s with lf := setF s.lf k (ad, n, cap), kf := setF s.kf k 0 } T
  have hv := hW.val hk hN ha.2
  refine (BeginV (8 + k) (K.P { s with lf := setF s.lf k (ad, n, cap), kf := setF s.kf k 0 } T).length (s.Rs k) K.d (K.a : Int) 2 10 (264 + 208 * k) ad n cap W K.M w0 wx _ hO (old_get hP) last_get (by omega) hn hW.may hg.val (fun x hx => ?_) (by omega) (by omega) (by omega)).mono ?_
  · have := hW.fine.at_ x hx
    have := (hv x hx).1
    omega
  · rintro e w' ⟨rfl, hO2⟩
    rw [List.set_append_left _ _ (by omega)] at hO2
    have hu : (beginS K.M (264 + 208 * k) W) = (⟨W, (s.us k).X, beginS K.M (264 + 208 * k) W, 0, []⟩ : Wk).S := rfl
    rw [hu, show s.Rs k = ({ s with lf := setF s.lf k (ad, n, cap), kf := setF s.kf k 0 } : Ls).Rs k from rfl, Kc.set_run _ _ _ hk] at hO2
    have hO3 := pool_add hO2 6 (by rw [Kc.P_at _ _ _ 6 (by omega)]; rfl)
    rw [Kc.set_pool] at hO3
    refine ⟨rfl, { s with lf := setF s.lf k (ad, n, cap), kf := setF s.kf k 0, us := setU s.us k ⟨W, (s.us k).X, beginS K.M (264 + 208 * k) W, 0, []⟩, L := wRow ad n cap W :: s.L }, rfl, rfl, rfl, rfl, rfl, rfl, ⟨h.crew.begin hk hS hW, hO3, hN, ha, List.mem_cons_of_mem _ h.mod, h.msm, fun j hj => ?_, fun j hj => ?_, fun j hj => ?_, fun j hj => ?_, List.mem_cons_of_mem _ h.nilL⟩⟩
    · show rowP _ _ (.slice (setF s.lf k (ad, n, cap) j).1 (setF s.lf k (ad, n, cap) j).2.1 (setF s.lf k (ad, n, cap) j).2.2) (setF s.lf k (ad, n, cap) j).2.1 (icells (setU s.us k _ j).W) ∈ _
      by_cases e : j = k
      · subst e; rw [setU_same, setF_same]; exact List.mem_cons_self ..
      · rw [setU_ne _ _ e, setF_ne _ _ e]; exact List.mem_cons_of_mem _ (h.last j hj)
    · show (setU s.us k _ j).mk = 1 → (s.ef j).2.1 = K.N ∧ rowP _ _ _ _ ((setU s.us k _ j).E.map wv) ∈ _ ∧ ∀ v ∈ (setU s.us k _ j).E, _
      by_cases e : j = k
      · subst e; rw [setU_same]; intro x; cases x
      · rw [setU_ne _ _ e]
        exact fun x => ⟨(h.eld j hj x).1, List.mem_cons_of_mem _ (h.eld j hj x).2.1, (h.eld j hj x).2.2⟩
    · show setF s.kf k 0 j = (setU s.us k _ j).mk
      by_cases e : j = k
      · subst e; rw [setU_same, setF_same]
      · rw [setU_ne _ _ e, setF_ne _ _ e]; exact h.kf j hj
    · show (setU s.us k _ j).mk ≤ 2
      by_cases e : j = k
      · subst e; rw [setU_same]; exact Nat.zero_le _
      · rw [setU_ne _ _ e]; exact h.mk2 j hj
/-- The power goes. -/
theorem lw_crash (h : LwS K s T w0 w) {pa : Option Addr} {pl pc : Nat} {ps : List Nat} (hP : PicksO w0 pa pl pc ps) : Calls Tryz.prog 21 #[ptr K.d, .slice pa pl pc] w fun e w' => e = .returned (.int .i64 0) ∧ ∃ y, Oc s.ws y ∧ (∀ v ∈ y, v < 18446744073709551616) ∧ Grommet.Own w0 w' (K.P { s with ws := cleanL y } T) := by
  obtain ⟨l1, l2, l3⟩ := h.wsl
  obtain ⟨hy, hcr⟩ := crash_oc h.crew.wf ps
  have := CrashOldH 2 K.d s.ws w0 w _ h.own (by rw [Kc.P_at _ _ _ 2 (by omega)]; rfl) K.M (by omega) pa pc ps (hP.at_ w h.own.grown) hP.nil (by rw [hP.len]; exact hP.cap) hP.old hP.small (by rw [hP.len]; exact hP.few)
  rw [hP.len] at this
  refine this.mono ?_
  rintro e w' ⟨rfl, hO⟩
  rw [hcr, Kc.set_dev] at hO
  refine ⟨rfl, _, hy, ?_, hO⟩
  have := seen_small hO
  show ∀ v ∈ seenL (crash s.ws ps), _
  have e : seenL (cleanL (seenL (crash s.ws ps))) = seenL (crash s.ws ps) := cleanL_seen _
  rw [← e]
  exact this
theorem lw_fates (h : LwS K s T w0 w) {y : List Nat} (hy : Oc s.ws y) (hsm : ∀ v ∈ overS (K.a : Int) 2 10 y K.a, v < 18446744073709551616) {U : List Pr} {b c : Nat} {wx : World} (hO : Grommet.Own w0 wx (K.P { s with ws := cleanL y } U ++ [uRow (some ⟨b, 0, none⟩) K.N c (overS (K.a : Int) 2 10 y K.a)])) :
    Calls Tryz.prog 39 #[.slice (some ⟨s.pm, 0, none⟩) K.N s.cm, .slice (some ⟨b, 0, none⟩) K.N c, .slice (some ⟨K.qe, 0, none⟩) K.a K.a, .slice (some ⟨K.ql, 0, none⟩) K.a K.a, .slice (some ⟨K.qk, 0, none⟩) K.a K.a] wx fun e w' => e = .returned (.bool true) ∧ Grommet.Own w0 w' (K.P { s with ws := cleanL y } U ++ [uRow (some ⟨b, 0, none⟩) K.N c (overS (K.a : Int) 2 10 y K.a)]) := by
  have ha := h.ha
  have hN := h.hN
  obtain ⟨l1, l2, l3⟩ := h.wsl
  obtain ⟨f1, f2, f3⟩ := h.crew.fates hy
  have hp : (K.P { s with ws := cleanL y } U)[6]? = some (poolP s.L) := by rw [Kc.P_at _ _ _ 6 (by omega)]; rfl
  have hO1 := hO.less
  obtain ⟨x1, x2⟩ := k_words hO hsm (by omega)
  have hmod := row_words (pool_row hO1 6 hp h.mod) h.msm (by omega)
  have hE : ∀ k, k < K.a → (s.us k).mk = 1 → Words wx (s.ef k).1 K.N (s.us k).E ∧ (s.ef k).2.1 = K.N := fun k hk e => ⟨(row_words (pool_row hO1 6 hp (h.eld k hk e).2.1) (h.eld k hk e).2.2 (by omega)).1, (h.eld k hk e).1⟩
  have hL : ∀ k, k < K.a → At wx (s.lf k).1 (icells (s.us k).W) ∧ (s.us k).W.length = (s.lf k).2.1 := by
    intro k hk
    have hr := pool_row hO1 6 hp (h.last k hk)
    have hl := hr.1
    obtain ⟨ad', cap', he, hat, _, _⟩ := row_slice hr
    cases he
    refine ⟨hat, ?_⟩
    have : (icells (s.us k).W).length = (s.us k).W.length * 2 := icells_length _
    omega
  have hF : FatS K.a K.N s.pm b K.qe K.ql K.qk s.m (overS (K.a : Int) 2 10 y K.a) s.ef s.lf (fun k => (s.us k).E) (fun k => (s.us k).W) s.kf wx := by
    refine ⟨hmod.1, x1, fun k hk => ?_, fun k hk => ?_, fun k hk => ?_, hL, fun k hk e => hE k hk (by rw [← h.kf k hk]; exact e)⟩
    · obtain ⟨q, hq, c1, _⟩ := Own.cell hO1 4 (by rw [Kc.P_at _ _ _ 4 (by omega)]; rfl) k _ (mapR_get (slcV s.ef) hk)
      cases hq
      exact c1
    · obtain ⟨q, hq, c1, _⟩ := Own.cell hO1 3 (by rw [Kc.P_at _ _ _ 3 (by omega)]; rfl) k _ (mapR_get (slcV s.lf) hk)
      cases hq
      exact c1
    · obtain ⟨q, hq, c1, _⟩ := Own.cell hO1 5 (by rw [Kc.P_at _ _ _ 5 (by omega)]; rfl) k _ (mapR_get (intV s.kf) hk)
      cases hq
      exact c1
  refine (fatesH K.a K.N s.pm b K.qe K.ql K.qk s.cm c K.a K.a K.a s.m _ s.ef s.lf _ _ s.kf wx hF (by omega) (by omega) ⟨Nat.le_refl _, Nat.le_refl _, Nat.le_refl _, hmod.2, x2⟩ (fun k hk => ?_) (fun k hk => by rw [h.kf k hk]; exact h.mk2 k hk) (fun k hk e => ?_) (fun i hi hno => ?_)).mono ?_
  · have := (h.crew.ok k hk).few; omega
  · obtain ⟨_, g2, g3⟩ := f2 k hk (by rw [← h.kf k hk]; exact e)
    exact ⟨fun p hp => by have := g2 p hp; omega, g3⟩
  · exact f3 i (by omega) (fun k hk e p hp => hno k hk (by rw [h.kf k hk]; exact e) p hp)
  · rintro e w' ⟨rfl, hg⟩
    exact ⟨rfl, hO.quiet hg⟩
/-- All resume. -/
theorem lw_resumed (h : LwS K s T w0 w) {y : List Nat} (hy : Oc s.ws y) {some_ : Nat} (hs : some_ < 256) {pa : Option Addr} {pl pc : Nat} {ps : List Nat} (hP : PicksO w0 pa pl pc ps) {U : List Pr} {s1 : Ls} (hws : s1.ws = cleanL y) {wx : World} (hO : Grommet.Own w0 wx (K.P s1 U)) :
    Calls Tryz.prog 40 #[ptr K.d, .agg #[.int .i64 (K.a : Int), .int .i64 2, .int .i64 10], .int .i64 (some_ : Int), .slice pa pl pc] wx fun e w' => e = .returned (.bool true) ∧ ∃ z us, Crew K.a K.M (cleanL z) (overS (K.a : Int) 2 10 y K.a) us ∧ (∀ i, i < K.a → (us i).S = []) ∧ (∀ i, i < K.a → z.getD (264 + 208 * i) 0 = 0) ∧ z.length = K.N ∧ (∀ v ∈ z, v < 18446744073709551616) ∧ overS (K.a : Int) 2 10 z K.a = overS (K.a : Int) 2 10 y K.a ∧ Grommet.Own w0 w' (K.P { s1 with ws := cleanL z } U) := by
  have hC := h.crew.crash hy
  have hR : Ready K.a K.M (afterU s.us K.M y) 0 := by
    intro j _ hj
    unfold afterU
    split
    · exact .inl rfl
    · exact .inr ⟨rfl, rfl⟩
  have hset : (K.P s1 U).set 2 (devP K.d (cleanL y)) = K.P s1 U := by
    rw [Kc.set_dev, ← hws]
  refine (resumedH 2 K.d K.a K.M some_ _ pa pl pc ps (cleanL y) _ w0 wx (K.P s1 U) (by rw [hset]; exact hO) (by rw [Kc.P_len]; omega) h.ha hC hR hP hs).mono ?_
  rintro e w' ⟨rfl, ws, us, c1, c2, c3⟩
  obtain ⟨d1, d2⟩ := c1.clean c2
  rw [Kc.set_dev] at c3
  have hsm := seen_small c3
  have c4 := c1.seen
  rw [d1] at c1 c3
  refine ⟨rfl, seenL ws, us, c1, c2, d2, ?_, hsm, c4, c3⟩
  have := c1.len
  rw [cleanL_len] at this
  rw [this, h.hN]
/-- All workers are idle: their states are new ones. -/
theorem crew_reset {a M : Nat} {ws : List PW} {m : List Nat} {us : Nat → Wk} (h : Crew a M ws m us) (ha : 1 ≤ a) (hS : ∀ i, i < a → (us i).S = []) : Crew a M ws m (fun k => ⟨[], (us k).X, [], 0, []⟩) := by
  refine ⟨h.few, h.len, h.ml, h.hM, fun k hk => wkOk_of ⟨ha, h.few⟩ hk (GoodW.nil _) (Nat.zero_le _), h.xl, fun k hk => ?_, fun k hk s hs => (by cases hs), h.rest, h.area⟩
  obtain ⟨h1, h2, _, h4⟩ := stg_none (h.st k hk) (hS k hk)
  exact .idle h1 h2 (show (0 : Nat) ≠ 1 by decide) h4
/-- .. with new runs. -/
theorem lw_again {now : List Nat} (hN : K.N = 392 + 208 * K.a) (ha : 1 ≤ K.a ∧ K.a ≤ 4) {s1 : Ls} {z : List Nat} {us : Nat → Wk} {U : List Pr} (hws : s1.ws = cleanL z) (hm : s1.m = now) (hC : Crew K.a K.M (cleanL z) now us) (hS : ∀ i, i < K.a → (us i).S = []) (hsm : ∀ v ∈ now, v < 18446744073709551616) (hmod : rowP 44 1 (.slice (some ⟨s1.pm, 0, none⟩) K.N s1.cm) K.N (now.map wv) ∈ s1.L) (hnil : rowP 92 2 (.slice none 0 0) 0 (icells []) ∈ s1.L) (hlf : ∀ j, j < K.a → s1.lf j = (none, 0, 0)) (hkf : ∀ j, j < K.a → s1.kf j = 0)
    {Rs : Nat → Nat} {qr cr : Nat} (hO : Grommet.Own w0 w ((K.P s1 U ++ [rowP 48 1 (.slice (some ⟨qr, 0, none⟩) K.a cr) K.a (ptrsL Rs K.a)]) ++ runsL K.d K.a Rs (fun _ => []) K.a)) :
    LwS K { s1 with qr := qr, cr := cr, Rs := Rs, us := fun k => ⟨[], (us k).X, [], 0, []⟩ } [] w0 w := by
  have hC2 := crew_reset hC ha.1 hS
  have hO2 : Grommet.Own w0 w (K.P { s1 with qr := qr, cr := cr, Rs := Rs, us := fun k => ⟨[], (us k).X, [], 0, []⟩ } []) := by
    have : (K.P s1 U ++ [rowP 48 1 (.slice (some ⟨qr, 0, none⟩) K.a cr) K.a (ptrsL Rs K.a)]) ++ runsL K.d K.a Rs (fun _ => []) K.a = (K.A s1).take 7 ++ (((K.A s1).drop 7 ++ (K.R s1 ++ U)) ++ ([rowP 48 1 (.slice (some ⟨qr, 0, none⟩) K.a cr) K.a (ptrsL Rs K.a)] ++ runsL K.d K.a Rs (fun _ => []) K.a)) := by
      unfold Kc.P
      conv => lhs; rw [← List.take_append_drop 7 (K.A s1)]
      simp only [List.append_assoc]
    rw [this] at hO
    have := own_mid _ _ _ hO
    unfold Kc.P
    rw [List.append_nil]
    exact this
  refine ⟨?_, hO2, hN, ha, ?_, ?_, fun j hj => ?_, fun j hj e => (by cases e), fun j hj => hkf j hj, fun j hj => Nat.zero_le _, hnil⟩
  · show Crew K.a K.M s1.ws s1.m _
    rw [hws, hm]; exact hC2
  · show rowP _ _ _ _ (s1.m.map wv) ∈ s1.L
    rw [hm]; exact hmod
  · show ∀ v ∈ s1.m, _
    rw [hm]; exact hsm
  · show rowP _ _ (.slice (s1.lf j).1 (s1.lf j).2.1 (s1.lf j).2.2) (s1.lf j).2.1 (icells []) ∈ s1.L
    rw [hlf j hj]; exact hnil
end
end Go.Proofs.YtpdofdloclmbdaaGreat
end
section
/- CommitWhole: how the law begins. -/
namespace Go.Proofs.YtpdofdloclmbdaaGreat
open Go.RowKit Go.Grommet
set_option linter.unusedVariables false

theorem pool_make {w0 w : World} {Ps : List Pr} {P : Pr} (h : Grommet.Own w0 w Ps) (k : Nat) (hk : Ps[k]? = some P) (e size : Nat) : Grommet.Own w0 w (Ps.set k (poolP [P, rowP e size (.slice none 0 0) 0 []])) := by
  obtain ⟨F, h1, h2⟩ := h.take k hk
  refine h2 w _ ⟨F, ⟨fun Q hQ => ?_, P.old h1⟩, fun i hi => .inl hi, Turn.refl _ _⟩
  rcases List.mem_cons.1 hQ with rfl | hQ
  · exact ⟨F, h1, fun i hi => hi⟩
  · obtain rfl := List.mem_singleton.1 hQ
    exact ⟨fun _ => False, ⟨World.ownsRow_nil _ _ _ _, fun i hi => (by cases hi), fun i hi => False.elim hi⟩, fun i hi => False.elim hi⟩
theorem replicate_mapR (v : Value) (a : Nat) : List.replicate a v = mapR (fun _ => v) a := by unfold mapR; simp [List.map_const']
def startS (a N : Nat) (xs : List Nat) (pm cm qr cr : Nat) (Rs : Nat → Nat) : Ls := ⟨xs, pm, cm, qr, cr, Rs, fun _ => ⟨[], xs, [], 0, []⟩, cleanL xs, fun _ => (none, 0, 0), fun _ => (none, 0, 0), fun _ => 0, [uRow (some ⟨pm, 0, none⟩) N cm xs, rowP 92 2 (.slice none 0 0) 0 (icells [])]⟩
theorem own_start {w0 w : World} {K : Kc} {pm cm qr cr : Nat} {Rs : Nat → Nat}
    (h : Grommet.Own w0 w ([boxP K.G 26 #[.int .i64 (K.a : Int), .int .i64 2, .int .i64 10], uRow (some ⟨K.q, 0, none⟩) K.N K.N K.xs, devP K.d (cleanL K.xs), rowP 48 1 (.slice (some ⟨qr, 0, none⟩) K.a cr) K.a (ptrsL Rs K.a)] ++ (runsL K.d K.a Rs (fun _ => []) K.a ++ [uRow (some ⟨pm, 0, none⟩) K.N cm K.xs, rowP 43 1 (.slice (some ⟨K.ql, 0, none⟩) K.a K.a) K.a (List.replicate K.a (.slice none 0 0)), rowP 33 1 (.slice (some ⟨K.qe, 0, none⟩) K.a K.a) K.a (List.replicate K.a (.slice none 0 0)), rowP 3 1 (.slice (some ⟨K.qk, 0, none⟩) K.a K.a) K.a (List.replicate K.a (.int .i64 0))]))) :
    Grommet.Own w0 w (K.P (startS K.a K.N K.xs pm cm qr cr Rs) []) := by
  rw [replicate_mapR, replicate_mapR] at h
  have hrl : (runsL K.d K.a Rs (fun _ => []) K.a).length = K.a := runsL_len _ _ _ _ _
  have h4 : ∀ i, ([boxP K.G 26 #[.int .i64 (K.a : Int), .int .i64 2, .int .i64 10], uRow (some ⟨K.q, 0, none⟩) K.N K.N K.xs, devP K.d (cleanL K.xs), rowP 48 1 (.slice (some ⟨qr, 0, none⟩) K.a cr) K.a (ptrsL Rs K.a)] ++ (runsL K.d K.a Rs (fun _ => []) K.a ++ [uRow (some ⟨pm, 0, none⟩) K.N cm K.xs, rowP 43 1 (.slice (some ⟨K.ql, 0, none⟩) K.a K.a) K.a (mapR (fun _ => .slice none 0 0) K.a), rowP 33 1 (.slice (some ⟨K.qe, 0, none⟩) K.a K.a) K.a (mapR (fun _ => .slice none 0 0) K.a), rowP 3 1 (.slice (some ⟨K.qk, 0, none⟩) K.a K.a) K.a (mapR (fun _ => .int .i64 0) K.a)]))[4 + K.a + i]? = [uRow (some ⟨pm, 0, none⟩) K.N cm K.xs, rowP 43 1 (.slice (some ⟨K.ql, 0, none⟩) K.a K.a) K.a (mapR (fun _ => .slice none 0 0) K.a), rowP 33 1 (.slice (some ⟨K.qe, 0, none⟩) K.a K.a) K.a (mapR (fun _ => .slice none 0 0) K.a), rowP 3 1 (.slice (some ⟨K.qk, 0, none⟩) K.a K.a) K.a (mapR (fun _ => .int .i64 0) K.a)][i]? := by
    intro i
    rw [List.getElem?_append_right (by simp; omega), List.getElem?_append_right (by simp [hrl]; omega)]
    congr 1
    simp [hrl]; omega
  have h2 := pool_make h (4 + K.a) (h4 0) 92 2
  generalize hZ : [boxP K.G 26 #[.int .i64 (K.a : Int), .int .i64 2, .int .i64 10], uRow (some ⟨K.q, 0, none⟩) K.N K.N K.xs, devP K.d (cleanL K.xs), rowP 48 1 (.slice (some ⟨qr, 0, none⟩) K.a cr) K.a (ptrsL Rs K.a)] ++ (runsL K.d K.a Rs (fun _ => []) K.a ++ [uRow (some ⟨pm, 0, none⟩) K.N cm K.xs, rowP 43 1 (.slice (some ⟨K.ql, 0, none⟩) K.a K.a) K.a (mapR (fun _ => .slice none 0 0) K.a), rowP 33 1 (.slice (some ⟨K.qe, 0, none⟩) K.a K.a) K.a (mapR (fun _ => .slice none 0 0) K.a), rowP 3 1 (.slice (some ⟨K.qk, 0, none⟩) K.a K.a) K.a (mapR (fun _ => .int .i64 0) K.a)]) = Z at h4 h2
  have hZl : Z.length = 8 + K.a := by rw [← hZ]; simp [hrl]; omega
  have hlo : ∀ i, i < 4 → (Z.set (4 + K.a) (poolP [uRow (some ⟨pm, 0, none⟩) K.N cm K.xs, rowP 92 2 (.slice none 0 0) 0 []]))[i]? = [boxP K.G 26 #[.int .i64 (K.a : Int), .int .i64 2, .int .i64 10], uRow (some ⟨K.q, 0, none⟩) K.N K.N K.xs, devP K.d (cleanL K.xs), rowP 48 1 (.slice (some ⟨qr, 0, none⟩) K.a cr) K.a (ptrsL Rs K.a)][i]? := by
    intro i hi
    rw [List.getElem?_set_ne (by omega), ← hZ, List.getElem?_append_left (by simpa using hi)]
  have hmid : ∀ k, k < K.a → (Z.set (4 + K.a) (poolP [uRow (some ⟨pm, 0, none⟩) K.N cm K.xs, rowP 92 2 (.slice none 0 0) 0 []]))[4 + k]? = some (runE (Rs k) K.d (K.a : Int) 2 10 (264 + 208 * k) []) := by
    intro k hk
    rw [List.getElem?_set_ne (by omega), ← hZ, List.getElem?_append_right (by simp), List.getElem?_append_left (by simp [hrl]; omega)]
    rw [show 4 + k - ([boxP K.G 26 #[.int .i64 (K.a : Int), .int .i64 2, .int .i64 10], uRow (some ⟨K.q, 0, none⟩) K.N K.N K.xs, devP K.d (cleanL K.xs), rowP 48 1 (.slice (some ⟨qr, 0, none⟩) K.a cr) K.a (ptrsL Rs K.a)] : List Pr).length = k from by simp]
    exact runsL_get _ _ _ _ hk
  have hhi : ∀ i, (Z.set (4 + K.a) (poolP [uRow (some ⟨pm, 0, none⟩) K.N cm K.xs, rowP 92 2 (.slice none 0 0) 0 []]))[4 + K.a + (i + 1)]? = [uRow (some ⟨pm, 0, none⟩) K.N cm K.xs, rowP 43 1 (.slice (some ⟨K.ql, 0, none⟩) K.a K.a) K.a (mapR (fun _ => .slice none 0 0) K.a), rowP 33 1 (.slice (some ⟨K.qe, 0, none⟩) K.a K.a) K.a (mapR (fun _ => .slice none 0 0) K.a), rowP 3 1 (.slice (some ⟨K.qk, 0, none⟩) K.a K.a) K.a (mapR (fun _ => .int .i64 0) K.a)][i + 1]? := by
    intro i
    rw [List.getElem?_set_ne (by omega)]
    exact h4 (i + 1)
  have hpo : (Z.set (4 + K.a) (poolP [uRow (some ⟨pm, 0, none⟩) K.N cm K.xs, rowP 92 2 (.slice none 0 0) 0 []]))[4 + K.a]? = some (poolP [uRow (some ⟨pm, 0, none⟩) K.N cm K.xs, rowP 92 2 (.slice none 0 0) 0 []]) := List.getElem?_set_self (by omega)
  have hPl := Kc.P_len K (startS K.a K.N K.xs pm cm qr cr Rs) []
  obtain ⟨f, hf⟩ : ∃ f : Nat → Nat, ∀ j, f j = if j < 3 then j else if j = 3 then 4 + K.a + 1 else if j = 4 then 4 + K.a + 2 else if j = 5 then 4 + K.a + 3 else if j = 6 then 4 + K.a else if j = 7 then 3 else j - 4 := ⟨_, fun _ => rfl⟩
  refine own_permute f h2 (fun j hj => ?_) (fun i j hi hj hne => ?_)
  · rw [hPl] at hj
    have hj : j < 8 + K.a := by simpa using hj
    refine ⟨by (rw [List.length_set, hZl, hf]; (repeat' split) <;> omega), ?_⟩
    by_cases h8 : j < 8
    · rw [Kc.P_at _ _ _ j h8, hf]
      have : j = 0 ∨ j = 1 ∨ j = 2 ∨ j = 3 ∨ j = 4 ∨ j = 5 ∨ j = 6 ∨ j = 7 := by omega
      rcases this with rfl | rfl | rfl | rfl | rfl | rfl | rfl | rfl
      · exact (hlo 0 (by omega)).symm
      · exact (hlo 1 (by omega)).symm
      · exact (hlo 2 (by omega)).symm
      · exact (hhi 0).symm
      · exact (hhi 1).symm
      · exact (hhi 2).symm
      · exact hpo.symm
      · exact (hlo 3 (by omega)).symm
    · obtain ⟨k, rfl⟩ : ∃ k, j = 8 + k := ⟨j - 8, by omega⟩
      rw [Kc.P_run K _ [] (by omega), hf, if_neg (by omega), if_neg (by omega), if_neg (by omega), if_neg (by omega), if_neg (by omega), if_neg (by omega), show 8 + k - 4 = 4 + k from by omega]
      exact (hmid k (by omega)).symm
  · rw [hPl] at hi hj
    have hi : i < 8 + K.a := by simpa using hi
    have hj : j < 8 + K.a := by simpa using hj
    rw [hf, hf]
    repeat' split
    all_goals omega
theorem lw_start {w0 w : World} {K : Kc} {pm cm qr cr : Nat} {Rs : Nat → Nat} (ha : 1 ≤ K.a ∧ K.a ≤ 4) (hN : K.N = 392 + 208 * K.a) (hM : K.M = K.N / 8) (hl : K.xs.length = K.N) (hx : ∀ v ∈ K.xs, v < 18446744073709551616) (hz : ∀ i, 264 ≤ i → i < 264 + 208 * K.a → K.xs.getD i 0 = 0) (h : Grommet.Own w0 w (K.P (startS K.a K.N K.xs pm cm qr cr Rs) [])) : LwS K (startS K.a K.N K.xs pm cm qr cr Rs) [] w0 w := by
  have hcl := cleanL_len K.xs
  refine ⟨⟨ha.2, by show (cleanL K.xs).length = _; rw [hcl, hl]; exact hN, by show K.xs.length = (cleanL K.xs).length; rw [hcl], by show K.M = (cleanL K.xs).length / 8; rw [hcl, hl]; exact hM, fun k hk => wkOk_of ha hk (GoodW.nil _) (Nat.zero_le _), fun k hk => by show K.xs.length = (cleanL K.xs).length; rw [hcl], fun k hk => ?_, fun k hk s hs => (by cases hs), fun i hi h1 h2 => ?_, hz⟩, h, hN, ha, List.mem_cons_self .., hx, fun k hk => ?_, fun k hk e => (by cases e), fun k hk => rfl, fun k hk => Nat.zero_le _, List.mem_cons_of_mem _ (List.mem_cons_self ..)⟩
  · refine .idle (fun i hi => ?_) (hz _ (by omega) (by omega)) (show (0 : Nat) ≠ 1 by decide) (fun i hi => rfl)
    refine cleanL_at K.xs i ?_
    rcases hi with hi | hi
    · omega
    · have h2 : i < bk K.a k + 16 := hi.2
      unfold bk at h2
      omega
  · have hi : i < (cleanL K.xs).length := hi
    exact cleanL_at K.xs i (by omega)
  · exact List.mem_cons_of_mem _ (List.mem_cons_self ..)
theorem k_geo {w0 w : World} {K : Kc} {s : Ls} {T : List Pr} (h : Grommet.Own w0 w (K.P s T)) : GeoQ K.G (K.a : Int) 2 10 w := h.box 0 (by rw [Kc.P_at _ _ _ 0 (by omega)]; rfl)
theorem k_geo1 {w0 w : World} {K : Kc} {s : Ls} {T U : List Pr} (h : Grommet.Own w0 w (K.P s T ++ U)) : GeoQ K.G (K.a : Int) 2 10 w := k_geo h.less
theorem k_geo2 {w0 w : World} {K : Kc} {s : Ls} {T U V : List Pr} (h : Grommet.Own w0 w ((K.P s T ++ U) ++ V)) : GeoQ K.G (K.a : Int) 2 10 w := k_geo h.less.less
theorem Kc.P_tail (K : Kc) (s : Ls) (B : Pr) (U : List Pr) : (K.P s (B :: U))[8 + K.a]? = some B := by
  unfold Kc.P Kc.R
  rw [← List.append_assoc, List.getElem?_append_right (by rw [List.length_append, runsL_len]; simp [Kc.A]), List.length_append, runsL_len]
  simp [Kc.A]
/-- The law's act, in memory. -/
def actC (who : Nat) (la : Option Addr) (ll lc many : Nat) (eva : Option Addr) (evl evc : Nat) (crash : Bool) (pka : Option Addr) (pkl pkc ag : Nat) : Array Value := #[.int .u8 (who : Int), .slice la ll lc, .int .u8 (many : Int), .slice eva evl evc, .bool crash, .slice pka pkl pkc, .int .u8 (ag : Int)]
theorem act_cells {w0 w : World} {K : Kc} {s : Ls} {X : Nat} {who : Nat} {la : Option Addr} {ll lc many : Nat} {eva : Option Addr} {evl evc : Nat} {crash : Bool} {pka : Option Addr} {pkl pkc ag : Nat} (h : Grommet.Own w0 w (K.P s [boxP X 79 (actC who la ll lc many eva evl evc crash pka pkl pkc ag)])) :
    w.cell? ⟨X, 0, none⟩ = some (.int .u8 (who : Int)) ∧ w.cell? ⟨X, 1, none⟩ = some (.slice la ll lc) ∧ w.cell? ⟨X, 2, none⟩ = some (.int .u8 (many : Int)) ∧ w.cell? ⟨X, 3, none⟩ = some (.slice eva evl evc) ∧ w.cell? ⟨X, 4, none⟩ = some (.bool crash) ∧ w.cell? ⟨X, 5, none⟩ = some (.slice pka pkl pkc) ∧ w.cell? ⟨X, 6, none⟩ = some (.int .u8 (ag : Int)) := by
  have hb := h.box (8 + K.a) (Kc.P_tail K s _ [])
  unfold actC at hb
  refine ⟨?_, ?_, ?_, ?_, ?_, ?_, ?_⟩ <;> simp [World.cell?, hb]
def FitB (b : Bool) (l e p : Nat) : Prop := b = false → l ≤ 20 ∧ e ≤ 10 ∧ p ≤ 300
def GoB (b : Bool) (t m L : Nat) : Prop := b = true → t < m ∧ 0 < L
/-- Two stores ahead of a begin. -/
theorem lw_stores {w0 w : World} {K : Kc} {s : Ls} {T : List Pr} {Q : Pr} {k : Nat} (hk : k < K.a) (hO : Grommet.Own w0 w (K.P s T ++ [Q])) (ad : Option Addr) (n cap : Nat) :
    w.frozen? ⟨K.ql, k, none⟩ = false ∧ (∃ v, w.cell? ⟨K.ql, k, none⟩ = some v) ∧ (w.setCell ⟨K.ql, k, none⟩ (.slice ad n cap)).frozen? ⟨K.qk, k, none⟩ = false ∧ (∃ v, (w.setCell ⟨K.ql, k, none⟩ (.slice ad n cap)).cell? ⟨K.qk, k, none⟩ = some v) ∧ Grommet.Own w0 ((w.setCell ⟨K.ql, k, none⟩ (.slice ad n cap)).setCell ⟨K.qk, k, none⟩ (.int .i64 0)) (K.P { s with lf := setF s.lf k (ad, n, cap), kf := setF s.kf k 0 } T ++ [Q]) := by
  have hl := Kc.P_len K s T
  have i3 : (K.P s T ++ [Q])[3]? = some (rowP 43 1 (.slice (some ⟨K.ql, 0, none⟩) K.a K.a) K.a (mapR (slcV s.lf) K.a)) := by
    rw [List.getElem?_append_left (by omega), Kc.P_at _ _ _ 3 (by omega)]; rfl
  obtain ⟨b, hb, c1, c2, _⟩ := Own.cell hO 3 i3 k _ (mapR_get (slcV s.lf) hk)
  cases hb
  have h1 := hO.store 3 i3 k (.slice ad n cap)
  rw [List.set_append_left _ _ (by omega), Kc.set_last K s T k (ad, n, cap)] at h1
  have hl2 := Kc.P_len K { s with lf := setF s.lf k (ad, n, cap) } T
  have i5 : (K.P { s with lf := setF s.lf k (ad, n, cap) } T ++ [Q])[5]? = some (rowP 3 1 (.slice (some ⟨K.qk, 0, none⟩) K.a K.a) K.a (mapR (intV s.kf) K.a)) := by
    rw [List.getElem?_append_left (by omega), Kc.P_at _ _ _ 5 (by omega)]; rfl
  obtain ⟨b, hb, d1, d2, _⟩ := Own.cell h1 5 i5 k _ (mapR_get (intV s.kf) hk)
  cases hb
  have h2 := h1.store 5 i5 k (.int .i64 ((0 : Nat) : Int))
  rw [List.set_append_left _ _ (by omega)] at h2
  have e := Kc.set_mark K { s with lf := setF s.lf k (ad, n, cap) } T k 0
  have e : (K.P { s with lf := setF s.lf k (ad, n, cap) } T).set 5 (rowP 3 1 (.slice (some ⟨K.qk, 0, none⟩) K.a K.a) K.a ((mapR (intV s.kf) K.a).set k (.int .i64 ((0 : Nat) : Int)))) = _ := e
  rw [e] at h2
  exact ⟨c2, ⟨_, c1⟩, d2, ⟨_, d1⟩, h2⟩
theorem k_ptr {w0 w : World} {K : Kc} {s : Ls} {T U : List Pr} (h : Grommet.Own w0 w (K.P s T ++ U)) {k : Nat} (hk : k < K.a) : w.cell? ⟨s.qr, k, none⟩ = some (ptr (s.Rs k)) ∧ w.cell? ⟨K.ql, k, none⟩ = some (slcV s.lf k) := by
  have h := h.less
  obtain ⟨b, hb, c1, _⟩ := Own.cell h 7 (by rw [Kc.P_at _ _ _ 7 (by omega)]; rfl) k _ (ptrsL_get s.Rs hk)
  cases hb
  obtain ⟨b, hb, c2, _⟩ := Own.cell h 3 (by rw [Kc.P_at _ _ _ 3 (by omega)]; rfl) k _ (mapR_get (slcV s.lf) hk)
  cases hb
  exact ⟨c1, c2⟩
theorem lw_writes {w0 w : World} {K : Kc} {s : Ls} {T : List Pr} (h : LwS K s T w0 w) {k : Nat} (hk : k < K.a) {la : Option Addr} {ll lc : Nat} {ls : List Cpt} (hL : CptsIn w0 la ll ls) (hl : ll ≤ 20) :
    Calls Tryz.prog 37 #[.agg #[.int .i64 (K.a : Int), .int .i64 2, .int .i64 10], .int .i64 (k : Int), .slice la ll lc] w fun e w' => ∃ W n ad cap, e = .returned (.slice ad n cap) ∧ W.length = n ∧ n ≤ 20 ∧ GoodW (bk K.a k) W ∧ Grommet.Own w0 w' (K.P s T ++ [wRow ad n cap W]) := by
  have ha := h.ha
  have hmay : mayB (K.a : Int) ((2 : Nat) : Int) ((10 : Nat) : Int) = true := by unfold mayB; simp; omega
  refine (writesH K.a 2 10 k (bk K.a k) la ll lc ls w0 w _ h.own hL (by omega) (by unfold blockV; rw [if_pos ⟨hmay, by omega, by omega⟩]; unfold bk; omega) (by omega) (by unfold bk; omega)).mono ?_
  rintro e w' ⟨W, n, ad, cap, rfl, h1, h2, h3, h4⟩
  exact ⟨W, n, ad, cap, rfl, h1, by omega, h3, h4⟩
/-- What is wanted for a begin, ahead of it. -/
theorem lw_begins {w0 w : World} {K : Kc} {s : Ls} {T : List Pr} (h : LwS K s T w0 w) {k : Nat} (hk : k < K.a) (hS : (s.us k).S = []) {w3 : World} {W : List (Int × Nat)} {n : Nat} {ad : Option Addr} {cap : Nat} (hl : W.length = n) (hn : n ≤ 20) (hg : GoodW (bk K.a k) W) (hO : Grommet.Own w0 w3 (K.P s T ++ [wRow ad n cap W])) :
    w3.frozen? ⟨K.ql, k, none⟩ = false ∧ (∃ v, w3.cell? ⟨K.ql, k, none⟩ = some v) ∧ (w3.setCell ⟨K.ql, k, none⟩ (.slice ad n cap)).frozen? ⟨K.qk, k, none⟩ = false ∧ (∃ v, (w3.setCell ⟨K.ql, k, none⟩ (.slice ad n cap)).cell? ⟨K.qk, k, none⟩ = some v) ∧
      ∀ wx, World.grownBy ((w3.setCell ⟨K.ql, k, none⟩ (.slice ad n cap)).setCell ⟨K.qk, k, none⟩ (.int .i64 0)) wx none → (wx.cell? ⟨s.qr, k, none⟩ = some (.pointer (some ⟨s.Rs k, 0, none⟩)) ∧ wx.cell? ⟨K.ql, k, none⟩ = some (.slice ad n cap)) ∧ Calls Tryz.prog 13 #[.pointer (some ⟨s.Rs k, 0, none⟩), .slice ad n cap] wx fun e w' => e = .returned (.int .i64 0) ∧ (w'.cell? ⟨s.qr, k, none⟩ = some (.pointer (some ⟨s.Rs k, 0, none⟩)) ∧ w'.cell? ⟨K.ql, k, none⟩ = some (.slice ad n cap)) ∧ ∃ s', s'.pm = s.pm ∧ s'.cm = s.cm ∧ s'.qr = s.qr ∧ s'.cr = s.cr ∧ LwS K s' T w0 w' := by
  obtain ⟨a1, a2, a3, a4, a5⟩ := lw_stores hk hO ad n cap
  refine ⟨a1, a2, a3, a4, fun wx hgx => ?_⟩
  have h5 := a5.quiet hgx
  obtain ⟨b1, b2⟩ := k_ptr h5 hk
  have b2 : wx.cell? ⟨K.ql, k, none⟩ = some (slcV (setF s.lf k (ad, n, cap)) k) := b2
  unfold slcV at b2
  rw [setF_same] at b2
  refine ⟨⟨b1, b2⟩, (lw_begin h hk hS hg hl hn h5).mono ?_⟩
  rintro e w' ⟨rfl, s', e1, e2, e3, e4, e5, e6, hL⟩
  have d1 := hL.ptr_ hk
  have d2 := (hL.lastC hk).1
  unfold slcV at d2
  rw [e3, e5] at d1
  rw [e6, setF_same] at d2
  exact ⟨rfl, ⟨d1, d2⟩, s', e1, e2, e3, e4, hL⟩
end Go.Proofs.YtpdofdloclmbdaaGreat
end
section
/- CommitWhole: what the law does behind a step. -/
namespace Go.Proofs.YtpdofdloclmbdaaGreat
open Go.RowKit Go.Grommet
set_option linter.unusedVariables false

section
variable {K : Kc} {s : Ls} {T : List Pr} {w0 w : World}
/-- The same places. -/
def SameP (s s' : Ls) : Prop := s'.pm = s.pm ∧ s'.cm = s.cm ∧ s'.qr = s.qr ∧ s'.cr = s.cr
def FirstF (K : Kc) (s : Ls) (T : List Pr) (w0 : World) (k : Nat) (w3 : World) : Prop :=
  w3.cell? ⟨K.qk, k, none⟩ = some (.int .i64 0) ∧ w3.frozen? ⟨K.qk, k, none⟩ = false ∧
  (w3.setCell ⟨K.qk, k, none⟩ (.int .i64 1)).frozen? ⟨K.qe, k, none⟩ = false ∧ (∃ v, (w3.setCell ⟨K.qk, k, none⟩ (.int .i64 1)).cell? ⟨K.qe, k, none⟩ = some v) ∧
  ∃ la n c, (((w3.setCell ⟨K.qk, k, none⟩ (.int .i64 1)).setCell ⟨K.qe, k, none⟩ (.slice (some ⟨s.pm, 0, none⟩) K.N s.cm)).cell? ⟨K.ql, k, none⟩ = some (.slice la n c)) ∧
    Calls Tryz.prog 38 #[.slice (some ⟨s.pm, 0, none⟩) K.N s.cm, .slice la n c] ((w3.setCell ⟨K.qk, k, none⟩ (.int .i64 1)).setCell ⟨K.qe, k, none⟩ (.slice (some ⟨s.pm, 0, none⟩) K.N s.cm)) fun e w' => ∃ s5 R, e = .returned (.slice (some ⟨s5.pm, 0, none⟩) K.N s5.cm) ∧ s5.qr = s.qr ∧ s5.cr = s.cr ∧ LwS K s5 T w0 w' ∧ w'.cell? ⟨s.qr, k, none⟩ = some (.pointer (some ⟨R, 0, none⟩)) ∧ Calls Tryz.prog 25 #[.pointer (some ⟨R, 0, none⟩)] w' fun e w'' => e = .returned (.int .u8 3) ∧ w'' = w'
def MoreF (K : Kc) (s : Ls) (T : List Pr) (w0 : World) (k : Nat) (w3 : World) : Prop :=
  w3.cell? ⟨K.qk, k, none⟩ = some (.int .i64 1) ∧ ∃ s5 R, SameP s s5 ∧ LwS K s5 T w0 w3 ∧ w3.cell? ⟨s.qr, k, none⟩ = some (.pointer (some ⟨R, 0, none⟩)) ∧ Calls Tryz.prog 25 #[.pointer (some ⟨R, 0, none⟩)] w3 fun e w'' => e = .returned (.int .u8 3) ∧ w'' = w3
def LastF (K : Kc) (s : Ls) (T : List Pr) (w0 : World) (k : Nat) (w3 : World) : Prop :=
  w3.cell? ⟨K.qk, k, none⟩ = some (.int .i64 1) ∧ w3.frozen? ⟨K.qk, k, none⟩ = false ∧ ∃ s5 R p5, p5 ≠ 3 ∧ SameP s s5 ∧ LwS K s5 T w0 (w3.setCell ⟨K.qk, k, none⟩ (.int .i64 2)) ∧ w3.cell? ⟨s.qr, k, none⟩ = some (.pointer (some ⟨R, 0, none⟩)) ∧ Calls Tryz.prog 25 #[.pointer (some ⟨R, 0, none⟩)] w3 fun e w'' => e = .returned (.int .u8 ((p5 : Nat) : Int)) ∧ w'' = w3
inductive StepW (K : Kc) (s : Ls) (T : List Pr) (w0 : World) (k p : Nat) (w3 : World) : Prop
  | quiet (hp : p ≠ 3) {s5 : Ls} (hs : SameP s s5) (hl : LwS K s5 T w0 w3)
  | first (hp : p = 3) (hf : FirstF K s T w0 k w3)
  | more (hp : p = 3) (hf : MoreF K s T w0 k w3)
  | last (hp : p = 3) (hf : LastF K s T w0 k w3)
theorem lw_stepW (h : LwS K s T w0 w) {k : Nat} (hk : k < K.a) {p : Nat} {cl : Cl} {S : List (Nat × Cl)} (hS : (s.us k).S = (p, cl) :: S) : Calls Tryz.prog 23 #[ptr (s.Rs k)] w fun e w' => e = .returned (.tuple #[.int .u8 (p : Int), .int .i64 0]) ∧ StepW K s T w0 k p w' := by
  refine (lw_stepQ h hk hS).mono ?_
  rintro e w3 ⟨rfl, hQ⟩
  refine ⟨rfl, ?_⟩
  have ha := h.ha
  have hN := h.hN
  have markI : ∀ (s' : Ls) (hk' : s'.kf = s.kf) (hO : Grommet.Own w0 w3 (K.P s' T)), w3.cell? ⟨K.qk, k, none⟩ = some (.int .i64 (s.kf k : Int)) ∧ w3.frozen? ⟨K.qk, k, none⟩ = false ∧ ∀ x : Nat, Grommet.Own w0 (w3.setCell ⟨K.qk, k, none⟩ (.int .i64 (x : Int))) (K.P { s' with kf := setF s'.kf k x } T) := by
    intro s' hk' hO
    have i5 : (K.P s' T)[5]? = some (rowP 3 1 (.slice (some ⟨K.qk, 0, none⟩) K.a K.a) K.a (mapR (intV s'.kf) K.a)) := by rw [Kc.P_at _ _ _ 5 (by omega)]; rfl
    obtain ⟨b, hb, c1, c2, _⟩ := Own.cell hO 5 i5 k _ (mapR_get (intV s'.kf) hk)
    cases hb
    refine ⟨by rw [c1]; unfold intV; rw [hk'], c2, fun x => ?_⟩
    have := hO.store 5 i5 k (.int .i64 (x : Int))
    rw [Kc.set_mark] at this
    exact this
  cases hQ with
  | @quiet _ u cl' hp hu hl => exact .quiet (s5 := { s with us := setU s.us k u, ws := cl'.does s.ws }) hp ⟨rfl, rfl, rfl, rfl⟩ hl
  | @first u cl' hu h0 h3 hW h1 hE hc hO =>
    refine .first rfl ?_
    obtain ⟨m1, m2, m3⟩ := markI { s with us := setU s.us k u, ws := cl'.does s.ws } rfl hO
    rw [h.kf k hk, h0] at m1
    have hO4 := m3 1
    rw [show ((1 : Nat) : Int) = 1 from rfl] at hO4
    have i4 : (K.P { s with us := setU s.us k u, ws := cl'.does s.ws, kf := setF s.kf k 1 } T)[4]? = some (rowP 33 1 (.slice (some ⟨K.qe, 0, none⟩) K.a K.a) K.a (mapR (slcV s.ef) K.a)) := by rw [Kc.P_at _ _ _ 4 (by omega)]; rfl
    obtain ⟨b, hb, c1, c2, _⟩ := Own.cell hO4 4 i4 k _ (mapR_get (slcV s.ef) hk)
    cases hb
    have hO5 := hO4.store 4 i4 k (.slice (some ⟨s.pm, 0, none⟩) K.N s.cm)
    have e5 := Kc.set_eld K { s with us := setU s.us k u, ws := cl'.does s.ws, kf := setF s.kf k 1 } T k (some ⟨s.pm, 0, none⟩, K.N, s.cm)
    have e5 : (K.P { s with us := setU s.us k u, ws := cl'.does s.ws, kf := setF s.kf k 1 } T).set 4 (rowP 33 1 (.slice (some ⟨K.qe, 0, none⟩) K.a K.a) K.a ((mapR (slcV s.ef) K.a).set k (.slice (some ⟨s.pm, 0, none⟩) K.N s.cm))) = _ := e5
    rw [e5] at hO5
    have i3 : (K.P { s with us := setU s.us k u, ws := cl'.does s.ws, kf := setF s.kf k 1, ef := setF s.ef k (some ⟨s.pm, 0, none⟩, K.N, s.cm) } T)[3]? = some (rowP 43 1 (.slice (some ⟨K.ql, 0, none⟩) K.a K.a) K.a (mapR (slcV s.lf) K.a)) := by rw [Kc.P_at _ _ _ 3 (by omega)]; rfl
    obtain ⟨b, hb, d1, _⟩ := Own.cell hO5 3 i3 k _ (mapR_get (slcV s.lf) hk)
    cases hb
    refine ⟨m1, m2, c2, ⟨_, c1⟩, (s.lf k).1, (s.lf k).2.1, (s.lf k).2.2, d1, ?_⟩
    have i6 : (K.P { s with us := setU s.us k u, ws := cl'.does s.ws, kf := setF s.kf k 1, ef := setF s.ef k (some ⟨s.pm, 0, none⟩, K.N, s.cm) } T)[6]? = some (poolP s.L) := by rw [Kc.P_at _ _ _ 6 (by omega)]; rfl
    obtain ⟨hx, _⟩ := row_words (pool_row hO5 6 i6 h.mod) h.msm (by omega)
    have hr := pool_row hO5 6 i6 (h.last k hk)
    have hrl := hr.1
    obtain ⟨ad', cap', he, hat, _, _⟩ := row_slice hr
    cases he
    have hic : (icells (s.us k).W).length = (s.us k).W.length * 2 := icells_length _
    have hWl : (s.us k).W.length = (s.lf k).2.1 := by omega
    have hok := h.crew.ok k hk
    have hval := hok.val hk hN ha.2
    have hfew := hok.few
    refine (doesF s.pm K.N s.cm s.m (s.lf k).1 (s.lf k).2.1 (s.lf k).2.2 (s.us k).W _ hx hat (by omega) (by omega) hWl (by omega) (fun x hx => ⟨(hok.fine.at_ x hx).1, (hval x hx).1⟩)).mono ?_
    rintro e w' ⟨ad6, c6, rfl, hO6⟩
    have hO7 := own_then hO5 hO6
    have hml : (putQ s.m (wrQ (s.us k).W)).length = K.N := by rw [putQ_len, h.crew.ml]; exact (h.wsl).1
    obtain ⟨p6, rfl, _⟩ := Own.cell hO7 (K.P { s with us := setU s.us k u, ws := cl'.does s.ws, kf := setF s.kf k 1, ef := setF s.ef k (some ⟨s.pm, 0, none⟩, K.N, s.cm) } T).length last_get 0 (wv ((putQ s.m (wrQ (s.us k).W)).getD 0 0)) (by rw [List.getElem?_map, List.getElem?_eq_getElem (by omega), List.getD_eq_getElem?_getD, List.getElem?_eq_getElem (by omega)]; rfl)
    rw [← hW] at hO7
    have hL := StepQ.marked h hk hW h1 hE hc (fun q hq => (hval q (by rw [← hW]; exact hq)).2) hO7
    obtain ⟨c, S', h3⟩ := h3
    refine ⟨{ s with us := setU s.us k u, ws := cl'.does s.ws, kf := setF s.kf k 1, ef := setF s.ef k (some ⟨s.pm, 0, none⟩, K.N, s.cm), pm := p6, cm := c6, m := putQ s.m (wrQ u.W), L := uRow (some ⟨p6, 0, none⟩) K.N c6 (putQ s.m (wrQ u.W)) :: s.L }, s.Rs k, rfl, rfl, rfl, hL, hL.ptr_ hk, lw_phase hL hk (p := 3) (cl := c) (S := S') ?_⟩
    show (setU s.us k u k).S = _
    rw [setU_same]; exact h3
  | @more u cl' hu h1 h3 hl =>
    obtain ⟨m1, m2, m3⟩ := markI { s with us := setU s.us k u, ws := cl'.does s.ws } rfl hl.own
    rw [h.kf k hk, h1] at m1
    obtain ⟨c, S', h3⟩ := h3
    refine .more rfl ⟨m1, { s with us := setU s.us k u, ws := cl'.does s.ws }, s.Rs k, ⟨rfl, rfl, rfl, rfl⟩, hl, hl.ptr_ hk, lw_phase hl hk (p := 3) (cl := c) (S := S') ?_⟩
    show (setU s.us k u k).S = _
    rw [setU_same]; exact h3
  | @last u cl' hu h1 h3 hW h2 hc hO =>
    obtain ⟨m1, m2, m3⟩ := markI { s with us := setU s.us k u, ws := cl'.does s.ws } rfl hO
    rw [h.kf k hk, h1] at m1
    have hO4 := m3 2
    have hL := StepQ.told h hk hW h2 hc hO4
    obtain ⟨p5, c, S', h3, hp5⟩ := h3
    have i7 : (K.P { s with us := setU s.us k u, ws := cl'.does s.ws } T)[7]? = some (rowP 48 1 (.slice (some ⟨s.qr, 0, none⟩) K.a s.cr) K.a (ptrsL s.Rs K.a)) := by rw [Kc.P_at _ _ _ 7 (by omega)]; rfl
    obtain ⟨b, hb, d1, _⟩ := Own.cell hO 7 i7 k _ (ptrsL_get s.Rs hk)
    cases hb
    refine .last rfl ⟨m1, m2, { s with us := setU s.us k u, ws := cl'.does s.ws, kf := setF s.kf k 2 }, s.Rs k, p5, hp5, ⟨rfl, rfl, rfl, rfl⟩, hL, d1, ?_⟩
    have h1' := Kc.P_run K { s with us := setU s.us k u, ws := cl'.does s.ws } T hk
    have h1' : (K.P { s with us := setU s.us k u, ws := cl'.does s.ws } T)[8 + k]? = some (runE (s.Rs k) K.d (K.a : Int) 2 10 (264 + 208 * k) (setU s.us k u k).S) := h1'
    rw [setU_same, h3] at h1'
    exact PhaseV _ _ _ _ _ _ _ _ _ _ _ hO h1'
end
end Go.Proofs.YtpdofdloclmbdaaGreat
end
section
/- CommitWhole: behind a loss of power. -/
namespace Go.Proofs.YtpdofdloclmbdaaGreat
open Go.RowKit Go.Grommet
set_option linter.unusedVariables false

section
variable {K : Kc} {s : Ls} {T U : List Pr} {w0 w : World} {y : List Nat}
theorem k_sureT (hO : Grommet.Own w0 w (K.P s U)) (hws : s.ws = cleanL y) (hl : y.length = K.N) (hN : K.N = 8 * K.M) (h0 : 0 < K.N) : Calls Tryz.prog 29 #[ptr K.d] w fun e w' => ∃ b cap, e = .returned (.slice (some ⟨b, 0, none⟩) K.N cap) ∧ Grommet.Own w0 w' (K.P s (U ++ [uRow (some ⟨b, 0, none⟩) K.N cap y])) := by
  refine (k_sure hO (by rw [hws, cleanL_len, hl]) hN h0).mono ?_
  rintro e w' ⟨b, cap, rfl, hO2⟩
  rw [hws, cleanL_sure, Kc.P_more] at hO2
  exact ⟨b, cap, rfl, hO2⟩
theorem k_overT {b cap : Nat} (hO : Grommet.Own w0 w (K.P s (U ++ [uRow (some ⟨b, 0, none⟩) K.N cap y]))) (hs : ∀ v ∈ y, v < 18446744073709551616) (hl : y.length = K.N) (hN : K.N = 392 + 208 * K.a) (ha : 1 ≤ K.a ∧ K.a ≤ 4) : Calls Tryz.prog 33 #[.agg #[.int .i64 (K.a : Int), .int .i64 2, .int .i64 10], .slice (some ⟨b, 0, none⟩) K.N cap] w fun e w' => ∃ b2 cap2, e = .returned (.slice (some ⟨b2, 0, none⟩) K.N cap2) ∧ Grommet.Own w0 w' (K.P s ((U ++ [uRow (some ⟨b, 0, none⟩) K.N cap y]) ++ [uRow (some ⟨b2, 0, none⟩) K.N cap2 (overS (K.a : Int) 2 10 y K.a)])) := by
  rw [← Kc.P_more] at hO
  refine (k_over hO hs hl hN ha).mono ?_
  rintro e w' ⟨b2, cap2, rfl, hO2⟩
  rw [Kc.P_more, Kc.P_more] at hO2
  exact ⟨b2, cap2, rfl, hO2⟩
theorem k_sameT {b cap p c : Nat} (hO : Grommet.Own w0 w (K.P s (U ++ [uRow (some ⟨b, 0, none⟩) K.N cap y]))) (hs : ∀ v ∈ y, v < 18446744073709551616) (hN : K.N ≤ 100000) (hm : uRow (some ⟨p, 0, none⟩) K.N c y ∈ s.L) : Calls Tryz.prog 30 #[.slice (some ⟨b, 0, none⟩) K.N cap, .slice (some ⟨p, 0, none⟩) K.N c] w fun e w' => e = .returned (.bool true) ∧ Grommet.Own w0 w' (K.P s (U ++ [uRow (some ⟨b, 0, none⟩) K.N cap y])) := by
  have hO1 := hO
  rw [← Kc.P_more] at hO1
  obtain ⟨h1, _⟩ := k_words hO1 hs hN
  obtain ⟨h2, _⟩ := row_words (pool_row hO 6 (by rw [Kc.P_at _ _ _ 6 (by omega)]; rfl) hm) hs (by omega)
  refine (Same_any (some ⟨b, 0, none⟩) (some ⟨p, 0, none⟩) K.N K.N cap c y y w h1 h2).mono ?_
  rintro e w' ⟨rfl, hg⟩
  exact ⟨by rw [decide_eq_true rfl], hO.quiet hg⟩
theorem k_loose (hO : Grommet.Own w0 w (K.P s U)) (hws : s.ws = cleanL y) (hl : y.length = K.N) (hN : K.N = 8 * K.M) : Calls Tryz.prog 41 #[ptr K.d] w fun e w' => e = .returned (.int .i64 0) ∧ Grommet.Own w0 w' (K.P s U) := by
  refine (LooseH 2 K.d s.ws w0 w _ hO (by rw [Kc.P_at _ _ _ 2 (by omega)]; rfl) K.M (by rw [hws, cleanL_len, hl]; exact hN)).mono ?_
  rintro e w' ⟨rfl, hO2⟩
  refine ⟨?_, hO2⟩
  rw [hws, cleanL_loose]
  rfl
theorem act_cellsT {X : Nat} {who : Nat} {la : Option Addr} {ll lc many : Nat} {eva : Option Addr} {evl evc : Nat} {crash : Bool} {pka : Option Addr} {pkl pkc ag : Nat} (h : Grommet.Own w0 w (K.P s ([boxP X 79 (actC who la ll lc many eva evl evc crash pka pkl pkc ag)] ++ U))) :
    GeoQ K.G (K.a : Int) 2 10 w ∧ w.cell? ⟨X, 5, none⟩ = some (.slice pka pkl pkc) ∧ w.cell? ⟨X, 6, none⟩ = some (.int .u8 (ag : Int)) := by
  rw [← Kc.P_more] at h
  obtain ⟨_, _, _, _, _, h5, h6⟩ := act_cells h.less
  exact ⟨k_geo1 h, h5, h6⟩
/-- The first workers' writes and marks are struck. -/
def nilF (f : Nat → Slc) (t j : Nat) : Slc := if j < t then (none, 0, 0) else f j
def zeroF (f : Nat → Nat) (t j : Nat) : Nat := if j < t then 0 else f j
theorem nilF_zero (f : Nat → Slc) : nilF f 0 = f := by funext j; unfold nilF; rw [if_neg (by omega)]
theorem zeroF_zero (f : Nat → Nat) : zeroF f 0 = f := by funext j; unfold zeroF; rw [if_neg (by omega)]
theorem nilF_next (f : Nat → Slc) (t : Nat) : setF (nilF f t) t (none, 0, 0) = nilF f (t + 1) := by
  funext j; unfold setF nilF
  by_cases e : j = t
  · subst e; rw [if_pos rfl, if_pos (by omega)]
  · rw [if_neg e]
    by_cases h : j < t
    · rw [if_pos h, if_pos (by omega)]
    · rw [if_neg h, if_neg (by omega)]
theorem zeroF_next (f : Nat → Nat) (t : Nat) : setF (zeroF f t) t 0 = zeroF f (t + 1) := by
  funext j; unfold setF zeroF
  by_cases e : j = t
  · subst e; rw [if_pos rfl, if_pos (by omega)]
  · rw [if_neg e]
    by_cases h : j < t
    · rw [if_pos h, if_pos (by omega)]
    · rw [if_neg h, if_neg (by omega)]
/-- A round of striking. -/
theorem k_strike {b cap t : Nat} (ht : t < K.a) (hO : Grommet.Own w0 w (K.P { s with lf := nilF s.lf t, kf := zeroF s.kf t } U ++ [uRow (some ⟨b, 0, none⟩) K.N cap y])) (hl : y.length = K.N) (hN : K.N = 392 + 208 * K.a) :
    w.cell? ⟨b, 264 + 208 * t, none⟩ = some (.int .u64 (y.getD (264 + 208 * t) 0 : Int)) ∧ w.frozen? ⟨K.ql, t, none⟩ = false ∧ (∃ v, w.cell? ⟨K.ql, t, none⟩ = some v) ∧ (w.setCell ⟨K.ql, t, none⟩ (.slice none 0 0)).frozen? ⟨K.qk, t, none⟩ = false ∧ (∃ v, (w.setCell ⟨K.ql, t, none⟩ (.slice none 0 0)).cell? ⟨K.qk, t, none⟩ = some v) ∧
      Grommet.Own w0 ((w.setCell ⟨K.ql, t, none⟩ (.slice none 0 0)).setCell ⟨K.qk, t, none⟩ (.int .i64 0)) (K.P { s with lf := nilF s.lf (t + 1), kf := zeroF s.kf (t + 1) } U ++ [uRow (some ⟨b, 0, none⟩) K.N cap y]) := by
  obtain ⟨a1, a2, a3, a4, a5⟩ := lw_stores ht hO none 0 0
  obtain ⟨b', hb, c1, _⟩ := Own.cell hO (K.P { s with lf := nilF s.lf t, kf := zeroF s.kf t } U).length last_get (264 + 208 * t) (wv (y.getD (264 + 208 * t) 0)) (by rw [List.getElem?_map, List.getElem?_eq_getElem (by omega), List.getD_eq_getElem?_getD, List.getElem?_eq_getElem (by omega)]; rfl)
  cases hb
  have a5 : Grommet.Own w0 _ (K.P { s with lf := setF (nilF s.lf t) t (none, 0, 0), kf := setF (zeroF s.kf t) t 0 } U ++ [uRow (some ⟨b, 0, none⟩) K.N cap y]) := a5
  rw [nilF_next, zeroF_next] at a5
  exact ⟨c1, a1, a2, a3, a4, a5⟩
/-- New runs, and the law goes on. -/
theorem k_runs {now : List Nat} {us : Nat → Wk} (hN : K.N = 392 + 208 * K.a) (ha : 1 ≤ K.a ∧ K.a ≤ 4) (hws : s.ws = cleanL y) (hl : y.length = K.N) (hm : s.m = now) (hC : Crew K.a K.M (cleanL y) now us) (hS : ∀ i, i < K.a → (us i).S = []) (hsm : ∀ v ∈ now, v < 18446744073709551616) (hmod : rowP 44 1 (.slice (some ⟨s.pm, 0, none⟩) K.N s.cm) K.N (now.map wv) ∈ s.L) (hnil : rowP 92 2 (.slice none 0 0) 0 (icells []) ∈ s.L)
    (hO : Grommet.Own w0 w (K.P { s with lf := nilF s.lf K.a, kf := zeroF s.kf K.a } U)) :
    Calls Tryz.prog 11 #[ptr K.d, .agg #[.int .i64 (K.a : Int), .int .i64 2, .int .i64 10]] w fun e w' => ∃ s5, e = .returned (.tuple #[.slice (some ⟨s5.qr, 0, none⟩) K.a s5.cr, .bool true]) ∧ s5.pm = s.pm ∧ s5.cm = s.cm ∧ LwS K s5 [] w0 w' := by
  refine (runsH 2 K.d K.a s.ws w0 w _ hO (by rw [Kc.P_at _ _ _ 2 (by omega)]; rfl) ha (by rw [hws, cleanL_len, hl, hN]; exact Nat.le_refl _)).mono ?_
  rintro e w' ⟨Rs, ad, cap, rfl, hO2⟩
  obtain ⟨qr, rfl, _⟩ := Own.cell hO2 (K.P { s with lf := nilF s.lf K.a, kf := zeroF s.kf K.a } U).length (by rw [List.append_assoc, List.getElem?_append_right (Nat.le_refl _), Nat.sub_self]; rfl) 0 _ (ptrsL_get Rs (by omega : 0 < K.a))
  refine ⟨{ s with lf := nilF s.lf K.a, kf := zeroF s.kf K.a, qr := qr, cr := cap, Rs := Rs, us := fun k => ⟨[], (us k).X, [], 0, []⟩ }, rfl, rfl, rfl, lw_again (now := now) hN ha (s1 := { s with lf := nilF s.lf K.a, kf := zeroF s.kf K.a }) hws hm hC hS hsm hmod hnil (fun j hj => ?_) (fun j hj => ?_) hO2⟩
  · show nilF s.lf K.a j = _
    unfold nilF; rw [if_pos hj]
  · show zeroF s.kf K.a j = _
    unfold zeroF; rw [if_pos hj]
end
end Go.Proofs.YtpdofdloclmbdaaGreat
end
section
/- CommitWhole: all that the walk stands on. -/
end
