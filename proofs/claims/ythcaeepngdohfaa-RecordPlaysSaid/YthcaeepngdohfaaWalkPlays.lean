/- RecordPlays, walked. -/
import Derived.Test.YthcaeepngdohfaaRecJ
import Derived.Deep.DeepCutAuto
import Derived.Deep.CutBlock
namespace Go.Proofs.Ythcaeepngdohfaa.recordPlays
open Go.RowKit Go.Grommet

set_option maxRecDepth 100000 in
set_option maxHeartbeats 1000000 in
theorem walk_far1 (a b c : Int) (a0 : Option Addr) (l0 c0 : Nat) (a1 : Option Addr) (l1 c1 : Nat) (a2 a3 : Int) (w : World) (h : 200 < l0) :
    Calls Try.prog 3 #[gv a b c, .slice a0 l0 c0, .slice a1 l1 c1, .int .u16 a2, .int .u64 a3] w (WorksIs w) := by
  have g1 : (200 : Int) < (l0 : Int) := by omega
  unfold gv
  go_enter Try.func3, Try.ntmps3
  go_wp2_with fail
  refine (works_any _).mono ?_
  rintro e w5 ⟨rfl, hg⟩
  go_wp2
  go_ret
  exact ⟨rfl, grown_trans (World.grownBy_alloc w _ none) hg⟩
set_option maxRecDepth 100000 in
set_option maxHeartbeats 1000000 in
theorem walk_far2 (a b c : Int) (a0 : Option Addr) (l0 c0 : Nat) (a1 : Option Addr) (l1 c1 : Nat) (a2 a3 : Int) (w : World) (h0 : ¬ 200 < l0) (h : 400 < l1) :
    Calls Try.prog 3 #[gv a b c, .slice a0 l0 c0, .slice a1 l1 c1, .int .u16 a2, .int .u64 a3] w (WorksIs w) := by
  have g0 : ¬ (200 : Int) < (l0 : Int) := by omega
  have g1 : (400 : Int) < (l1 : Int) := by omega
  unfold gv
  go_enter Try.func3, Try.ntmps3
  go_wp2_with fail
  refine (works_any _).mono ?_
  rintro e w5 ⟨rfl, hg⟩
  go_wp2
  go_ret
  exact ⟨rfl, grown_trans (World.grownBy_alloc w _ none) hg⟩

/-- A record, or none and why. -/
def WordsU (XR : List Nat) (Z : Nat) (en : Int) (w : World) (e : Ending) (w' : World) : Prop :=
  ∃ ad cap, e = .returned (.tuple #[.slice ad Z cap, .int .i64 en]) ∧ w'.ownsRow w.heap.size 27 1 (.slice ad Z cap) Z (XR.map wv) ∧ w.grownBy w' none
theorem words_no {en : Int} {w : World} {e : Ending} {w' : World} (h : WordsNo en w e w') : WordsU [] 0 en w e w' := by
  obtain ⟨rfl, hg⟩ := h
  exact ⟨none, 0, rfl, World.ownsRow_nil _ _ _ _, hg⟩
theorem words_both (bd : Option Addr) (m c : Nat) (M : List (Int × Nat)) (w0 : World) (hM : Given w0 bd m M) :
    ∃ XR Z en, XR.length = Z ∧ Z ≤ 200 ∧ (∀ n ∈ XR, n < 18446744073709551616) ∧
      (∀ w, At w bd (icells M) → Calls Try.prog 9 #[.slice bd m c] w (WordsU XR Z en w)) ∧
      (∀ w, At w bd (icells M) → Calls Try.prog 10 #[.slice bd m c] w (WordsU XR Z en w)) := by
  by_cases h : 96 < m
  · exact ⟨[], 0, 5, rfl, by omega, by simp, fun w _ => (Words_many bd m c w h).mono (fun _ _ h => words_no h), fun w _ => (RefWords_many bd m c w h).mono (fun _ _ h => words_no h)⟩
  · cases hn : negB M with
    | true =>
      refine ⟨[], 0, 1, rfl, by omega, by simp, fun w hx => (Words_neg bd m c M w hx hM.len (by omega) hM.bd hn).mono (fun _ _ h => words_no h), fun w hx => (RefWords_few 0 bd m c M w hx hM.len (by omega) hM.bd (Nat.zero_le _)).mono ?_⟩
      rintro e w' (⟨_, h⟩ | ⟨h, _⟩)
      · exact words_no h
      · rw [hn] at h; cases h
    | false =>
      refine ⟨recR M, (recR M).length, 0, rfl, by rw [recR_length, hM.len]; omega, recR_small' (hM.fine (by omega) hn), fun w hx => (Words_yes w.heap.size bd m c M w hx hM.len (by omega) hM.bd (Nat.le_refl _) hn), fun w hx => (RefWords_few w.heap.size bd m c M w hx hM.len (by omega) hM.bd (Nat.le_refl _)).mono ?_⟩
      rintro e w' (⟨h, _⟩ | ⟨_, h⟩)
      · rw [hn] at h; cases h
      · exact h
/-- What is read, or nothing. -/
def ReadU (L : List (Int × Nat)) (en : Int) (w : World) (e : Ending) (w' : World) : Prop :=
  ∃ ad n cap, e = .returned (.tuple #[.slice ad n cap, .int .i64 en]) ∧ L.length = n ∧ n ≤ 96 ∧ At w' ad (icells L) ∧ w.grownBy w' none
theorem read_u {base : Nat} {a b c : Int} {xs : List Nat} {w : World} {e : Ending} {w' : World} (h : ReadIs base a b c xs w e w') : ReadU (readV a b c xs) (readE a b c xs) w e w' := by
  unfold readV readE
  rcases h with ⟨h, ad, cap, rfl, hr, hg⟩ | ⟨h, rfl, hg⟩
  · rw [if_pos h, if_pos h]
    obtain ⟨ad', cap', he, hat, _, _⟩ := row_slice hr
    cases he
    refine ⟨ad, _, cap, rfl, writesR_length _ _, ?_, hat, hg⟩
    have hc : cutB xs = true := by
      unfold readB at h
      cases hc : cutB xs with
      | true => rfl
      | false => rw [hc] at h; cases h
    exact (cutB_yes hc).2.1
  · rw [if_neg (by rw [h]; simp), if_neg (by rw [h]; simp)]
    exact ⟨none, 0, 0, rfl, rfl, by omega, At.nil _ _, hg⟩

set_option maxRecDepth 100000 in
set_option maxHeartbeats 1000000 in
theorem walk_at (a b c : Int) (a0 : Option Addr) (l0 c0 : Nat) (a1 : Option Addr) (l1 c1 : Nat) (ys : List Nat) (a2 a3 : Nat) (M : List (Int × Nat)) (w : World) (h0 : ¬ 200 < l0) (h1 : ¬ 400 < l1) (hM : Given w a0 l0 M) (hy : Words w a1 l1 ys) (hyc : l1 ≤ c1) (h2 : a2 < 65536) :
    Calls Try.prog 3 #[gv a b c, .slice a0 l0 c0, .slice a1 l1 c1, .int .u16 (a2 : Int), .int .u64 (a3 : Int)] w (WorksIs w) := by
  have g0 : ¬ (200 : Int) < (l0 : Int) := by omega
  have g1 : ¬ (400 : Int) < (l1 : Int) := by omega
  obtain ⟨XR, Z, en, hXl, hZ, hXs, hW, hRW⟩ := words_both a0 l0 c0 M w hM
  have HXl := Lib.hid hXl
  have HXs := Lib.hid hXs
  have HW := Lib.hid hW
  have HRW := Lib.hid hRW
  have hgw := Lib.hid (World.grownBy_alloc w (.cells #[.int .i64 a, .int .i64 b, .int .i64 c] 23) none)
  have hat := Lib.hid hM.at_
  have hl := Lib.hid hM.len
  have hwf := Lib.hid hM.wf
  have HMy := Lib.hid (fun wx (hx : At wx a0 (icells M)) => RMay0_any a b c a0 l0 c0 M wx hx hl.out hwf.out)
  have HRMy := Lib.hid (fun wx (hx : At wx a0 (icells M)) => RefMay_any a b c a0 l0 c0 M wx hx hl.out)
  generalize mayW a b c M = bm at HMy HRMy
  have ebm : (bm != bm) = false := by simp
  have een : (en != en) = false := by simp
  have Hy := Lib.hid hy
  clear hM hXl hXs hW hRW hy
  unfold gv at HMy HRMy ⊢
  go_enter Try.func3, Try.ntmps3
  go_wp2_with fail
  obtain ⟨G, HG⟩ : ∃ G, Hid (G = w.heap.size) := ⟨_, Lib.hid rfl⟩
  obtain ⟨H, HH⟩ : ∃ H, Hid (H = w.heap.size + 1) := ⟨_, Lib.hid rfl⟩
  have hO : Own w ((w.alloc (.cells #[.int .i64 a, .int .i64 b, .int .i64 c] 23)).alloc (.cells #[.int .i64 a, .int .i64 b, .int .i64 c] 29)) [boxP G 23 #[.int .i64 a, .int .i64 b, .int .i64 c], boxP H 29 #[.int .i64 a, .int .i64 b, .int .i64 c]] := by
    have h := ((Own.nil w).addBox 23 #[.int .i64 a, .int .i64 b, .int .i64 c]).addBox 29 #[.int .i64 a, .int .i64 b, .int .i64 c]
    rw [World.size_alloc, ← HH.out, ← HG.out] at h
    exact h
  refine (HW.out _ (hat.out.grown hO.grown (by simp))).mono ?_
  rintro e w1 ⟨adw, cpw, rfl, hroww, hgA⟩
  rw [← HH.out, ← HG.out]
  have hO := hO.addRow hroww hgA
  clear HW hroww hgA
  replace hO := Lib.hid hO
  go_wp2_with fail
  refine (HRW.out _ (hat.out.grown hO.out.grown (by simp))).mono ?_
  rintro e w5 ⟨adx, cpx, rfl, hrowx, hgA⟩
  have hO : Own w w5 [boxP G 23 #[.int .i64 a, .int .i64 b, .int .i64 c], boxP H 29 #[.int .i64 a, .int .i64 b, .int .i64 c], rowP 27 1 (.slice adw Z cpw) Z (XR.map wv), rowP 27 1 (.slice adx Z cpx) Z (XR.map wv)] := hO.out.addRow hrowx hgA
  clear HRW hrowx hgA
  obtain ⟨hw5, _, _⟩ := Own.words hO 2 rfl HXs.out (by omega)
  obtain ⟨hx5, hnilx, hlcx⟩ := Own.words hO 3 rfl HXs.out (by omega)
  have hGS := Lib.hid (show GeoS G a b c w5 from Own.box hO 0 rfl)
  have hGR := Lib.hid (show GeoR H a b c w5 from Own.box hO 1 rfl)
  have hat5 := Lib.hid (hat.out.grown hO.grown (by simp))
  have HSm := Lib.hid (fun wx (h1 : Words wx adw Z XR) (h2 : Words wx adx Z XR) => Same_any adw adx Z Z cpw cpx XR XR wx h1 h2)
  rw [decide_eq_true rfl] at HSm
  replace hw5 := Lib.hid hw5
  replace hx5 := Lib.hid hx5
  have Hnil := Lib.hid hnilx
  replace hO := Lib.hid hO
  clear hnilx
  go_wp2_with fail
  refine wp_region_held_drew (S := fun w' => GeoS G a b c w' ∧ GeoR H a b c w') (by kernel_rfl) (⟨hGS.out.keep (grown_drew (World.grownBy.refl _ none)), hGR.out.keep (grown_drew (World.grownBy.refl _ none))⟩) (fun hS => ?_)
  refine wpAnyH_take (i := 0) (oi := { dst := some 44, op := Op.move (Operand.tmp 13), type := 30, pos := "law.go:31", after := #[], guard := none }) (v := ?vr3r6o0) rfl (by kernel_rfl) (by kernel_rfl) (by kernel_rfl) (fun _ _ _ h => h) (Or.inl ⟨by rfl, ?hr3r6o0⟩) hS ?_
  case hr3r6o0 => (intro wx hx; skip; go_simp; (try with_reducible rfl))
  try simp only [Act.put, List.setIfInBounds_toArray, List.set_cons_zero, List.set_cons_succ]
  refine wpAnyH_take (i := 1) (oi := { dst := some 45, op := Op.move (Operand.tmp 15), type := 30, pos := "law.go:31", after := #[], guard := none }) (v := ?vr3r6o1) rfl (by kernel_rfl) (by kernel_rfl) (by kernel_rfl) (fun _ _ _ h => h) (Or.inl ⟨by rfl, ?hr3r6o1⟩) hS ?_
  case hr3r6o1 => (intro wx hx; skip; go_simp; (try with_reducible rfl))
  try simp only [Act.put, List.setIfInBounds_toArray, List.set_cons_zero, List.set_cons_succ]
  refine wpAnyH_take (i := 2) (oi := { dst := some 46, op := Op.binOp BinOp.neq 30 (Operand.tmp 44) (Operand.tmp 45) 30, type := 4, pos := "law.go:31", after := #[{ on := 0, ground := Ground.data }, { on := 1, ground := Ground.data }], guard := none }) (v := ?vr3r6o2) rfl (by kernel_rfl) (by kernel_rfl) (by kernel_rfl) (fun _ _ _ h => h) (Or.inl ⟨by rfl, ?hr3r6o2⟩) hS ?_
  case hr3r6o2 => (intro wx hx; skip; go_simp; (try with_reducible rfl))
  try simp only [Act.put, List.setIfInBounds_toArray, List.set_cons_zero, List.set_cons_succ]
  refine wpAnyH_take (i := 3) (oi := { dst := some 47, op := Op.move (Operand.tmp 46), type := 4, pos := "law.go:31", after := #[{ on := 2, ground := Ground.data }], guard := none }) (v := ?vr3r6o3) rfl (by kernel_rfl) (by kernel_rfl) (by kernel_rfl) (fun _ _ _ h => h) (Or.inl ⟨by rfl, ?hr3r6o3⟩) hS ?_
  case hr3r6o3 => (intro wx hx; skip; go_simp; (try with_reducible rfl))
  try simp only [Act.put, List.setIfInBounds_toArray, List.set_cons_zero, List.set_cons_succ]
  refine wpAnyH_take (i := 4) (oi := { dst := some 48, op := Op.move (Operand.tmp 12), type := 25, pos := "law.go:31", after := #[{ on := 3, ground := Ground.guard }], guard := some (3, false) }) (v := ?vr3r6o4) rfl (by kernel_rfl) (by kernel_rfl) (by kernel_rfl) (fun _ _ _ h => h) (Or.inl ⟨by rfl, ?hr3r6o4⟩) hS ?_
  case hr3r6o4 => (intro wx hx; skip; go_simp; (try with_reducible rfl))
  try simp only [Act.put, List.setIfInBounds_toArray, List.set_cons_zero, List.set_cons_succ]
  refine wpAnyH_take (i := 5) (oi := { dst := some 49, op := Op.move (Operand.tmp 14), type := 25, pos := "law.go:31", after := #[{ on := 3, ground := Ground.guard }], guard := some (3, false) }) (v := ?vr3r6o5) rfl (by kernel_rfl) (by kernel_rfl) (by kernel_rfl) (fun _ _ _ h => h) (Or.inl ⟨by rfl, ?hr3r6o5⟩) hS ?_
  case hr3r6o5 => (intro wx hx; skip; go_simp; (try with_reducible rfl))
  try simp only [Act.put, List.setIfInBounds_toArray, List.set_cons_zero, List.set_cons_succ]
  refine wpAnyH_ready (rs := [6]) (by kernel_rfl) (by simp) ?_
  refine AllReadyH.cons (o := { dst := some 50, op := Op.call { callee := Callee.value (Operand.func 11), args := #[Operand.tmp 48, Operand.tmp 49], argTypes := #[25, 25] }, type := 4, pos := "law.go:31", after := #[{ on := 4, ground := Ground.data }, { on := 5, ground := Ground.data }, { on := 3, ground := Ground.chain }, { on := 3, ground := Ground.guard }], guard := some (3, false) }) rfl (fun K hK => ?_) AllReadyH.nil
  go_simp
  refine (HSm.out _ (hw5.out.keep (grown_drew (World.grownBy.refl _ none)) (by simp)) (hx5.out.keep (grown_drew (World.grownBy.refl _ none)) (by simp))).mono ?_
  rintro e wA ⟨rfl, hgA⟩
  have hgA2 := grown_trans (grown_drew (World.grownBy.refl _ none)) hgA
  have hS1 := And.intro (hS.1.keep hgA) (hS.2.keep hgA)
  refine hK.out _ _ ?hsr3r6o6 (fun hS => ?_)
  case hsr3r6o6 => (exact hS1)
  clear hK K
  try simp only [Act.put, List.setIfInBounds_toArray, List.set_cons_zero, List.set_cons_succ]
  refine wpAnyH_take (i := 7) (oi := { dst := some 51, op := Op.unOp UnOp.not 4 (Operand.tmp 50), type := 4, pos := "law.go:31", after := #[{ on := 6, ground := Ground.data }, { on := 3, ground := Ground.guard }], guard := some (3, false) }) (v := ?vr3r6o7) rfl (by kernel_rfl) (by kernel_rfl) (by kernel_rfl) (fun _ _ _ h => h) (Or.inl ⟨by rfl, ?hr3r6o7⟩) hS ?_
  case hr3r6o7 => (intro wx hx; skip; go_simp; (try with_reducible rfl))
  try simp only [Act.put, List.setIfInBounds_toArray, List.set_cons_zero, List.set_cons_succ]
  refine wpAnyH_take (i := 8) (oi := { dst := some 52, op := Op.pick (Operand.tmp 47) (Operand.const (Value.bool true)) (Operand.tmp 51), type := 4, pos := "law.go:31", after := #[{ on := 3, ground := Ground.data }, { on := 7, ground := Ground.data }], guard := none }) (v := ?vr3r6o8) rfl (by kernel_rfl) (by kernel_rfl) (by kernel_rfl) (fun _ _ _ h => h) (Or.inl ⟨by rfl, ?hr3r6o8⟩) hS ?_
  case hr3r6o8 => (intro wx hx; skip; go_simp; (try with_reducible rfl))
  try simp only [Act.put, List.setIfInBounds_toArray, List.set_cons_zero, List.set_cons_succ]
  refine wpAnyH_take (i := 9) (oi := { dst := some 53, op := Op.move (Operand.tmp 52), type := 4, pos := "law.go:31", after := #[{ on := 8, ground := Ground.data }, { on := 6, ground := Ground.chain }], guard := none }) (v := ?vr3r6o9) rfl (by kernel_rfl) (by kernel_rfl) (by kernel_rfl) (fun _ _ _ h => h) (Or.inl ⟨by rfl, ?hr3r6o9⟩) hS ?_
  case hr3r6o9 => (intro wx hx; skip; go_simp; (try with_reducible rfl))
  try simp only [Act.put, List.setIfInBounds_toArray, List.set_cons_zero, List.set_cons_succ]
  refine wpAnyH_take (i := 10) (oi := { dst := some 54, op := Op.load 23 (Operand.tmp 5), type := 23, pos := "law.go:31", after := #[{ on := 9, ground := Ground.guard }], guard := some (9, false) }) (v := ?vr3r6o10) rfl (by kernel_rfl) (by kernel_rfl) (by kernel_rfl) (fun _ _ _ h => h) (Or.inl ⟨by rfl, ?hr3r6o10⟩) hS ?_
  case hr3r6o10 => (intro wx hx; obtain ⟨hx0, hx1⟩ := hx; obtain ⟨y0, y1, y2⟩ := GeoS.cells hx0; obtain ⟨z0, z1, z2⟩ := GeoR.cells hx1; go_simp; (try with_reducible rfl))
  try simp only [Act.put, List.setIfInBounds_toArray, List.set_cons_zero, List.set_cons_succ]
  refine wpAnyH_take (i := 11) (oi := { dst := some 55, op := Op.move (Operand.tmp 1), type := 24, pos := "law.go:31", after := #[{ on := 9, ground := Ground.guard }], guard := some (9, false) }) (v := ?vr3r6o11) rfl (by kernel_rfl) (by kernel_rfl) (by kernel_rfl) (fun _ _ _ h => h) (Or.inl ⟨by rfl, ?hr3r6o11⟩) hS ?_
  case hr3r6o11 => (intro wx hx; skip; go_simp; (try with_reducible rfl))
  try simp only [Act.put, List.setIfInBounds_toArray, List.set_cons_zero, List.set_cons_succ]
  refine wpAnyH_take (i := 13) (oi := { dst := some 57, op := Op.load 29 (Operand.tmp 11), type := 29, pos := "law.go:31", after := #[{ on := 9, ground := Ground.guard }], guard := some (9, false) }) (v := ?vr3r6o13) rfl (by kernel_rfl) (by kernel_rfl) (by kernel_rfl) (fun _ _ _ h => h) (Or.inl ⟨by rfl, ?hr3r6o13⟩) hS ?_
  case hr3r6o13 => (intro wx hx; obtain ⟨hx0, hx1⟩ := hx; obtain ⟨y0, y1, y2⟩ := GeoS.cells hx0; obtain ⟨z0, z1, z2⟩ := GeoR.cells hx1; go_simp; (try with_reducible rfl))
  try simp only [Act.put, List.setIfInBounds_toArray, List.set_cons_zero, List.set_cons_succ]
  refine wpAnyH_take (i := 14) (oi := { dst := some 58, op := Op.move (Operand.tmp 1), type := 24, pos := "law.go:31", after := #[{ on := 9, ground := Ground.guard }], guard := some (9, false) }) (v := ?vr3r6o14) rfl (by kernel_rfl) (by kernel_rfl) (by kernel_rfl) (fun _ _ _ h => h) (Or.inl ⟨by rfl, ?hr3r6o14⟩) hS ?_
  case hr3r6o14 => (intro wx hx; skip; go_simp; (try with_reducible rfl))
  try simp only [Act.put, List.setIfInBounds_toArray, List.set_cons_zero, List.set_cons_succ]
  refine wpAnyH_ready (rs := [12]) (by kernel_rfl) (by simp) ?_
  refine AllReadyH.cons (o := { dst := some 56, op := Op.call { callee := Callee.value (Operand.func 12), args := #[Operand.tmp 54, Operand.tmp 55], argTypes := #[23, 24] }, type := 4, pos := "law.go:31", after := #[{ on := 10, ground := Ground.data }, { on := 11, ground := Ground.data }, { on := 9, ground := Ground.chain }, { on := 9, ground := Ground.guard }], guard := some (9, false) }) rfl (fun K hK => ?_) AllReadyH.nil
  go_simp
  refine (HMy.out _ (hat5.out.grown hgA2 (by simp))).mono ?_
  rintro e wB ⟨rfl, hgB⟩
  have hgB2 := grown_trans hgA2 hgB
  have hS1 := And.intro (hS.1.keep hgB) (hS.2.keep hgB)
  refine hK.out _ _ ?hsr3r6o12 (fun hS => ?_)
  case hsr3r6o12 => (exact hS1)
  clear hK K
  try simp only [Act.put, List.setIfInBounds_toArray, List.set_cons_zero, List.set_cons_succ]
  refine wpAnyH_ready (rs := [15]) (by kernel_rfl) (by simp) ?_
  refine AllReadyH.cons (o := { dst := some 59, op := Op.call { callee := Callee.value (Operand.func 13), args := #[Operand.tmp 57, Operand.tmp 58], argTypes := #[29, 24] }, type := 4, pos := "law.go:31", after := #[{ on := 13, ground := Ground.data }, { on := 14, ground := Ground.data }, { on := 12, ground := Ground.chain }, { on := 9, ground := Ground.guard }], guard := some (9, false) }) rfl (fun K hK => ?_) AllReadyH.nil
  go_simp
  refine (HRMy.out _ (hat5.out.grown hgB2 (by simp))).mono ?_
  rintro e wC ⟨rfl, hgC⟩
  have hgC2 := grown_trans hgB2 hgC
  have hS1 := And.intro (hS.1.keep hgC) (hS.2.keep hgC)
  refine hK.out _ _ ?hsr3r6o15 (fun hS => ?_)
  case hsr3r6o15 => (exact hS1)
  clear hK K
  try simp only [Act.put, List.setIfInBounds_toArray, List.set_cons_zero, List.set_cons_succ]
  refine wpAnyH_take (i := 16) (oi := { dst := some 60, op := Op.binOp BinOp.neq 4 (Operand.tmp 56) (Operand.tmp 59) 4, type := 4, pos := "law.go:31", after := #[{ on := 12, ground := Ground.data }, { on := 15, ground := Ground.data }, { on := 9, ground := Ground.guard }], guard := some (9, false) }) (v := ?vr3r6o16) rfl (by kernel_rfl) (by kernel_rfl) (by kernel_rfl) (fun _ _ _ h => h) (Or.inl ⟨by rfl, ?hr3r6o16⟩) hS ?_
  case hr3r6o16 => (intro wx hx; skip; go_simp; (try with_reducible rfl))
  try simp only [Act.put, List.setIfInBounds_toArray, List.set_cons_zero, List.set_cons_succ]
  refine wpAnyH_take (i := 17) (oi := { dst := some 61, op := Op.pick (Operand.tmp 53) (Operand.const (Value.bool true)) (Operand.tmp 60), type := 4, pos := "law.go:31", after := #[{ on := 9, ground := Ground.data }, { on := 16, ground := Ground.data }], guard := none }) (v := ?vr3r6o17) rfl (by kernel_rfl) (by kernel_rfl) (by kernel_rfl) (fun _ _ _ h => h) (Or.inl ⟨by rfl, ?hr3r6o17⟩) hS ?_
  case hr3r6o17 => (intro wx hx; skip; go_simp; (try with_reducible rfl))
  try simp only [Act.put, List.setIfInBounds_toArray, List.set_cons_zero, List.set_cons_succ]
  refine wpAnyH_done (by kernel_rfl) ?_ _
  replace hO := hO.out.quiet hgC2
  have hx6 := hx5.out.keep hgC2 (by simp)
  clear hS hS1 hgA hgA2 hgB hgB2 hgC hgC2 hw5 hx5 hGS hGR hat5 HSm HMy HRMy
  go_wp2_with (at_builtin; refine app64 rfl _ _ rfl wC.heap.size _ 0 [] rfl (own_lit wC _ 1 _ (Nat.le_refl _)) adx Z cpx XR rfl ?a1 Hnil.out ?a2 ?a3 ?_)
  case a1 => exact hx6.keep (World.grownBy_alloc wC _ none) (by simp)
  case a2 => omega
  case a3 => simp
  intro v1 w7 hown hg4
  have hg4 := grown_new (World.grownBy_alloc wC _ none) hg4 (by intro g e; cases e; exact Nat.le_refl _)
  obtain ⟨ad2, cp2, rfl, hzz⟩ := row_slice hown
  clear hzz
  have hO : Own w w7 [boxP G 23 #[.int .i64 a, .int .i64 b, .int .i64 c], boxP H 29 #[.int .i64 a, .int .i64 b, .int .i64 c], rowP 27 1 (.slice adw Z cpw) Z (XR.map wv), rowP 27 1 (.slice adx Z cpx) Z (XR.map wv), rowP 27 1 (.slice ad2 Z cp2) Z (XR.map wv)] := hO.addRow hown hg4
  replace hO := Lib.hid hO
  clear hown hg4 hx6
  go_upto_if 67 with fail
  go_cut [] (fun wx => ∃ XS : List Nat, Hid (XS.length = Z ∧ ∀ n ∈ XS, n < 18446744073709551616) ∧ Hid (Own w wx [boxP G 23 #[.int .i64 a, .int .i64 b, .int .i64 c], boxP H 29 #[.int .i64 a, .int .i64 b, .int .i64 c], rowP 27 1 (.slice adw Z cpw) Z (XR.map wv), rowP 27 1 (.slice adx Z cpx) Z (XR.map wv), rowP 27 1 (.slice ad2 Z cp2) Z (XS.map wv)]))
  case first =>
    by_cases hz : Z = 0
    · have z0 : ¬ (0 : Int) < (Z : Int) := by omega
      clear hz
      go_wp2_with fail
      go_meet
      case rel => exact ⟨XR, Lib.hid ⟨HXl.out, HXs.out⟩, hO⟩
    · have z0 : (0 : Int) < (Z : Int) := by omega
      have zb : ((Z : Int) == 0) = false := by rw [beq_eq_false_iff_ne]; omega
      obtain ⟨C, HC⟩ : ∃ C, Hid (C = a2 % Z) := ⟨_, Lib.hid rfl⟩
      have hC : C < Z := by rw [HC.out]; exact Nat.mod_lt _ (by omega)
      have eC : (a2 : Int).tmod (Z : Int) = (C : Int) := by rw [HC.out, Int.tmod_eq_emod_of_nonneg (by omega), Int.natCast_emod]
      have eCZ : (C : Int) < (Z : Int) := by omega
      have wa : IntKind.i64.wrap (a2 : Int) = (a2 : Int) := IntWalk.i64_in _ ⟨by omega, by omega⟩
      obtain ⟨U, HU⟩ : ∃ U, Hid (U = XR.getD C 0) := ⟨_, Lib.hid rfl⟩
      obtain ⟨V, HV⟩ : ∃ V, Hid (V = (U + a3) % 18446744073709551616) := ⟨_, Lib.hid rfl⟩
      have wV : IntKind.u64.wrap ((U : Int) + (a3 : Int)) = (V : Int) := by rw [HV.out, ← Int.natCast_add, wrap_u64_nat]
      obtain ⟨b3, rfl, cK, fK, _⟩ := Own.cell hO.out 4 rfl C (wv U) (by rw [List.getElem?_map, List.getElem?_eq_getElem (by rw [HXl.out]; omega), HU.out, List.getD_eq_getElem?_getD, List.getElem?_eq_getElem (by rw [HXl.out]; omega)]; rfl)
      unfold wv at cK
      have hO2 : Own w _ [boxP G 23 #[.int .i64 a, .int .i64 b, .int .i64 c], boxP H 29 #[.int .i64 a, .int .i64 b, .int .i64 c], rowP 27 1 (.slice adw Z cpw) Z (XR.map wv), rowP 27 1 (.slice adx Z cpx) Z (XR.map wv), rowP 27 1 (.slice (some ⟨b3, 0, none⟩) Z cp2) Z ((XR.map wv).set C (wv V))] := Own.store hO.out 4 rfl C (wv V)
      rw [← List.map_set] at hO2
      have HR : Hid ((XR.set C V).length = Z ∧ ∀ n ∈ XR.set C V, n < 18446744073709551616) := Lib.hid ⟨by rw [List.length_set]; exact HXl.out, fun n hn => by
        rcases List.mem_or_eq_of_mem_set hn with h | h
        · exact HXs.out n h
        · rw [h, HV.out]; exact Nat.mod_lt _ (by decide)⟩
      unfold wv at hO2
      replace hO2 := Lib.hid hO2
      clear hO hz
      go_wp2_with fail
      go_meet
      case rel => exact ⟨XR.set C V, HR, hO2⟩
  case rest =>
  obtain ⟨XS, HXS, hO⟩ := hcut
  obtain ⟨hxc, _, _⟩ := Own.words hO.out 3 rfl HXs.out (by omega)
  go_wp2_with (at_builtin; refine app64 rfl _ _ rfl wc.heap.size _ 0 [] rfl (own_lit wc _ 1 _ (Nat.le_refl _)) adx Z cpx XR rfl ?b1 Hnil.out ?b2 ?b3 ?_)
  case b1 => exact hxc.keep (World.grownBy_alloc wc _ none) (by simp)
  case b2 => omega
  case b3 => simp
  intro v1 w8 hown8 hg8
  have hg8 := grown_new (World.grownBy_alloc wc _ none) hg8 (by intro g e; cases e; exact Nat.le_refl _)
  obtain ⟨ad8, cp8, rfl, hzz⟩ := row_slice hown8
  clear hzz
  have hs8 := hg8.size
  go_wp2_with (at_builtin; refine app64 rfl _ _ rfl wc.heap.size _ Z XR rfl (World.ownsRow.alloc hown8 _) (some ⟨w8.heap.size, 0, none⟩) 2 2 [7, 7] rfl ?d1 (by simp) ?d2 ?d3 ?_)
  case d1 => exact ⟨rfl, by decide, at_of_row (heap_alloc_new w8 _), by decide⟩
  case d2 => omega
  case d3 => simp; omega
  intro v2 w9 hown9 hg9
  have hg9 := grown_new (grown_trans hg8 (World.grownBy_alloc w8 _ none)) hg9 (fun i hi => (hown8.lt i hi).1)
  obtain ⟨ad9, cp9, rfl, hzz⟩ := row_slice hown9
  clear hzz
  have hO : Own w w9 [boxP G 23 #[.int .i64 a, .int .i64 b, .int .i64 c], boxP H 29 #[.int .i64 a, .int .i64 b, .int .i64 c], rowP 27 1 (.slice adw Z cpw) Z (XR.map wv), rowP 27 1 (.slice adx Z cpx) Z (XR.map wv), rowP 27 1 (.slice ad2 Z cp2) Z (XS.map wv), rowP 27 1 (.slice ad9 (Z + 2) cp9) (Z + 2) ((XR ++ [7, 7]).map wv)] := hO.out.addRow (by simpa using hown9) hg9
  clear hown8 hg8 hown9 hg9 hs8 hxc
  have hhd := row_head (Own.row hO 3 rfl)
  obtain ⟨hxc, hnx, hlcx⟩ := Own.words hO 3 rfl HXs.out (by omega)
  obtain ⟨k, Hk⟩ : ∃ k, Hid (k = Z - 1) := ⟨_, Lib.hid rfl⟩
  have hslx := fun wx => slice_to (P := Try.prog) 25 27 Try.underlying25 1 Try.sizeOf27 adx Z cpx k (by rw [Hk.out]; omega) hhd wx
  replace hslx := Lib.hid hslx
  obtain ⟨B, HB⟩ : ∃ B, Hid (B = w9.heap.size) := ⟨_, Lib.hid rfl⟩
  replace hO := Lib.hid hO
  have Hxc := Lib.hid hxc
  clear hhd hxc hnx
  go_upto_region 12 with fail
  go_cut [18] (fun s wx => s = .slice (some ⟨B, 0, none⟩) 5 5 ∧ wx = w9.alloc (.cells #[.slice a1 l1 c1, .slice adx Z cpx, .slice ad2 Z cp2, .slice ad9 (Z + 2) cp9, .slice adx k cpx] 25))
  case first =>
    have hsl := hslx.out
    by_cases hz : Z = 0
    · have z1 : (Z : Int) - 1 < 0 := by omega
      have zk : k = 0 := by rw [Hk.out]; omega
      subst zk
      have hsl0 := fun wx => show Sem.run Try.prog (Instr.slice 25 (Value.slice adx Z cpx) none (some (Value.int IntKind.i64 0)) none) wx = _ from hsl wx
      clear hz hsl
      go_wp2_with fail
      go_meet
      case rel => exact ⟨by rw [HB.out], rfl⟩
    · have z1 : ¬ (Z : Int) - 1 < 0 := by omega
      have ek : (Z : Int) - 1 = (k : Int) := by rw [Hk.out]; omega
      clear hz
      go_wp2_with fail
      go_meet
      case rel => exact ⟨by rw [HB.out], by first | rfl | rw [Hk.out]⟩
  case rest =>
  obtain ⟨rfl, rfl⟩ := hcut
  have hO : Own w (w9.alloc (.cells #[.slice a1 l1 c1, .slice adx Z cpx, .slice ad2 Z cp2, .slice ad9 (Z + 2) cp9, .slice adx k cpx] 25)) [boxP G 23 #[.int .i64 a, .int .i64 b, .int .i64 c], boxP H 29 #[.int .i64 a, .int .i64 b, .int .i64 c], rowP 27 1 (.slice adw Z cpw) Z (XR.map wv), rowP 27 1 (.slice adx Z cpx) Z (XR.map wv), rowP 27 1 (.slice ad2 Z cp2) Z (XS.map wv), rowP 27 1 (.slice ad9 (Z + 2) cp9) (Z + 2) ((XR ++ [7, 7]).map wv), boxP B 25 #[.slice a1 l1 c1, .slice adx Z cpx, .slice ad2 Z cp2, .slice ad9 (Z + 2) cp9, .slice adx k cpx]] := by
    rw [HB.out]
    exact hO.out.addBox _ _
  replace hO := Lib.hid hO
  have HRows : Hid (∀ wr, Own w wr [boxP G 23 #[.int .i64 a, .int .i64 b, .int .i64 c], boxP H 29 #[.int .i64 a, .int .i64 b, .int .i64 c], rowP 27 1 (.slice adw Z cpw) Z (XR.map wv), rowP 27 1 (.slice adx Z cpx) Z (XR.map wv), rowP 27 1 (.slice ad2 Z cp2) Z (XS.map wv), rowP 27 1 (.slice ad9 (Z + 2) cp9) (Z + 2) ((XR ++ [7, 7]).map wv), boxP B 25 #[.slice a1 l1 c1, .slice adx Z cpx, .slice ad2 Z cp2, .slice ad9 (Z + 2) cp9, .slice adx k cpx]] → ∀ j, j < 5 → ∃ ad l c' xs, CellS B j (.slice ad l c') wr ∧ Words wr ad l xs ∧ l ≤ c') := Lib.hid (fun wr h j hj => by
    have hbx := Own.box h 6 rfl
    have hw3 := Own.words h 3 rfl HXs.out (by omega)
    have hw4 := Own.words h 4 rfl HXS.out.2 (by omega)
    have hw5 := Own.words h 5 rfl (fun n hn => by
      rcases List.mem_append.1 hn with e | e
      · exact HXs.out n e
      · simp at e; omega) (by omega)
    have hcut : Words wr adx k (XR.take k) := ⟨by rw [List.length_take, HXl.out, Hk.out]; omega, fun n hn => HXs.out n (List.mem_of_mem_take hn), by
      have := hw3.1.at_
      rw [← List.take_append_drop k XR, List.map_append] at this
      exact at_prefix this, by have := hw3.1.fits; have := Hk.out; omega⟩
    have c0 : CellS B 0 (.slice a1 l1 c1) wr := by unfold CellS; simp [World.cell?, hbx]
    have c1' : CellS B 1 (.slice adx Z cpx) wr := by unfold CellS; simp [World.cell?, hbx]
    have c2 : CellS B 2 (.slice ad2 Z cp2) wr := by unfold CellS; simp [World.cell?, hbx]
    have c3 : CellS B 3 (.slice ad9 (Z + 2) cp9) wr := by unfold CellS; simp [World.cell?, hbx]
    have c4 : CellS B 4 (.slice adx k cpx) wr := by unfold CellS; simp [World.cell?, hbx]
    have hj5 : j = 0 ∨ j = 1 ∨ j = 2 ∨ j = 3 ∨ j = 4 := by omega
    rcases hj5 with rfl | rfl | rfl | rfl | rfl
    · exact ⟨a1, l1, c1, ys, c0, Hy.out.keep h.grown (by simp), hyc⟩
    · exact ⟨adx, Z, cpx, XR, c1', hw3.1, hw3.2.2⟩
    · exact ⟨ad2, Z, cp2, XS, c2, hw4.1, hw4.2.2⟩
    · exact ⟨ad9, Z + 2, cp9, XR ++ [7, 7], c3, hw5.1, hw5.2.2⟩
    · exact ⟨adx, k, cpx, XR.take k, c4, hcut, by have := hw3.2.2; have := Hk.out; omega⟩)
  clear hslx Hxc
  go_wp2_with fail
  go_loopw [19] (fun i wr => ∃ j : Nat, j ≤ 5 ∧ i = .int .i64 (j : Int) ∧ Hid (Own w wr [boxP G 23 #[.int .i64 a, .int .i64 b, .int .i64 c], boxP H 29 #[.int .i64 a, .int .i64 b, .int .i64 c], rowP 27 1 (.slice adw Z cpw) Z (XR.map wv), rowP 27 1 (.slice adx Z cpx) Z (XR.map wv), rowP 27 1 (.slice ad2 Z cp2) Z (XS.map wv), rowP 27 1 (.slice ad9 (Z + 2) cp9) (Z + 2) ((XR ++ [7, 7]).map wv), boxP B 25 #[.slice a1 l1 c1, .slice adx Z cpx, .slice ad2 Z cp2, .slice ad9 (Z + 2) cp9, .slice adx k cpx]])) (fun i _ => 5 - (intOf i).toNat)
  case atStart => exact ⟨0, Nat.zero_le _, rfl, hO⟩
  case round =>
    clear hO
    obtain ⟨j, hj, rfl, hO⟩ := hrel
    have j0 : (0 : Int) ≤ (j : Int) := by omega
    by_cases hlt : j < 5
    · have hlt' : (j : Int) < 5 := by omega
      obtain ⟨ad, l, c', xs, hc, hx, hlc⟩ := HRows.out wr hO.out j hlt
      have HRd := Lib.hid (fun wx (hx : Words wx ad l xs) => (Read_any wx.heap.size a b c ad l c' xs wx hx hlc (Nat.le_refl _)).mono (fun _ _ h => read_u h))
      have HRR := Lib.hid (fun wx (hx : Words wx ad l xs) => (RefRead_any wx.heap.size a b c ad l c' xs wx hx hlc (Nat.le_refl _)).mono (fun _ _ h => read_u h))
      have HMk := Lib.hid (fun wx (hx : Words wx ad l xs) => Mark_any ad l c' xs wx hx hlc)
      have HRk := Lib.hid (fun wx (hx : Words wx ad l xs) => RefMark_any ad l c' xs wx hx)
      generalize readV a b c xs = L5 at HRd HRR
      generalize readE a b c xs = e5 at HRd HRR
      generalize markV xs = T5 at HMk HRk
      have ee5 : (e5 != e5) = false := by simp
      have eT5 : ((T5 : Int) != (T5 : Int)) = false := by simp
      have hS0 := Lib.hid (And.intro (show GeoS G a b c wr from Own.box hO.out 0 rfl) (And.intro (show GeoR H a b c wr from Own.box hO.out 1 rfl) hc))
      have hx0 := Lib.hid hx
      unfold gv at HRd HRR
      clear hc hx
      go_wp2_with fail
      refine wp_region_held_drew (S := fun w' => GeoS G a b c w' ∧ GeoR H a b c w' ∧ CellS B j (.slice ad l c') w') (by kernel_rfl) (And.intro (hS0.out.1.keep (grown_drew (World.grownBy.refl _ none))) (And.intro (hS0.out.2.1.keep (grown_drew (World.grownBy.refl _ none))) (hS0.out.2.2.keep (grown_drew (World.grownBy.refl _ none))))) (fun hS => ?_)
      refine wpAnyH_take (i := 0) (oi := { dst := some 102, op := Op.load 23 (Operand.tmp 5), type := 23, pos := "law.go:41", after := #[], guard := none }) (v := ?vpa3r16o0) rfl (by kernel_rfl) (by kernel_rfl) (by kernel_rfl) (fun _ _ _ h => h) (Or.inl ⟨by rfl, ?hpa3r16o0⟩) hS ?_
      case hpa3r16o0 => (intro wx hx; obtain ⟨hx0, hx1, hx2⟩ := hx; obtain ⟨y0, y1, y2⟩ := GeoS.cells hx0; obtain ⟨z0, z1, z2⟩ := GeoR.cells hx1; unfold CellS at hx2; go_simp; (try with_reducible rfl))
      try simp only [Act.put, List.setIfInBounds_toArray, List.set_cons_zero, List.set_cons_succ]
      refine wpAnyH_take (i := 1) (oi := { dst := some 103, op := Op.move (Operand.tmp 18), type := 36, pos := "law.go:41", after := #[], guard := none }) (v := ?vpa3r16o1) rfl (by kernel_rfl) (by kernel_rfl) (by kernel_rfl) (fun _ _ _ h => h) (Or.inl ⟨by rfl, ?hpa3r16o1⟩) hS ?_
      case hpa3r16o1 => (intro wx hx; skip; go_simp; (try with_reducible rfl))
      try simp only [Act.put, List.setIfInBounds_toArray, List.set_cons_zero, List.set_cons_succ]
      refine wpAnyH_take (i := 2) (oi := { dst := some 104, op := Op.move (Operand.tmp 19), type := 3, pos := "law.go:41", after := #[], guard := none }) (v := ?vpa3r16o2) rfl (by kernel_rfl) (by kernel_rfl) (by kernel_rfl) (fun _ _ _ h => h) (Or.inl ⟨by rfl, ?hpa3r16o2⟩) hS ?_
      case hpa3r16o2 => (intro wx hx; skip; go_simp; (try with_reducible rfl))
      try simp only [Act.put, List.setIfInBounds_toArray, List.set_cons_zero, List.set_cons_succ]
      refine wpAnyH_take (i := 3) (oi := { dst := some 105, op := Op.indexAddr 36 (Operand.tmp 103) (Operand.tmp 104), type := 0, pos := "law.go:41", after := #[{ on := 1, ground := Ground.data }, { on := 2, ground := Ground.data }], guard := none }) (v := ?vpa3r16o3) rfl (by kernel_rfl) (by kernel_rfl) (by kernel_rfl) (fun _ _ _ h => h) (Or.inl ⟨by rfl, ?hpa3r16o3⟩) hS ?_
      case hpa3r16o3 => (intro wx hx; skip; go_simp; (try with_reducible rfl))
      try simp only [Act.put, List.setIfInBounds_toArray, List.set_cons_zero, List.set_cons_succ]
      refine wpAnyH_take (i := 4) (oi := { dst := some 106, op := Op.load 25 (Operand.tmp 105), type := 25, pos := "law.go:41", after := #[{ on := 3, ground := Ground.data }], guard := none }) (v := ?vpa3r16o4) rfl (by kernel_rfl) (by kernel_rfl) (by kernel_rfl) (fun _ _ _ h => h) (Or.inl ⟨by rfl, ?hpa3r16o4⟩) hS ?_
      case hpa3r16o4 => (intro wx hx; obtain ⟨hx0, hx1, hx2⟩ := hx; obtain ⟨y0, y1, y2⟩ := GeoS.cells hx0; obtain ⟨z0, z1, z2⟩ := GeoR.cells hx1; unfold CellS at hx2; go_simp; (try with_reducible rfl))
      try simp only [Act.put, List.setIfInBounds_toArray, List.set_cons_zero, List.set_cons_succ]
      refine wpAnyH_ready (rs := [5]) (by kernel_rfl) (by simp) ?_
      refine AllReadyH.cons (o := { dst := some 107, op := Op.call { callee := Callee.value (Operand.func 14), args := #[Operand.tmp 102, Operand.tmp 106], argTypes := #[23, 25] }, type := 37, pos := "law.go:41", after := #[{ on := 0, ground := Ground.data }, { on := 4, ground := Ground.data }], guard := none }) rfl (fun K hK => ?_) AllReadyH.nil
      go_simp
      refine (HRd.out _ (hx0.out.keep (grown_drew (World.grownBy.refl _ none)) (by simp))).mono ?_
      rintro e wA ⟨ad5, n5, cp5, rfl, hL5, h96, hat5, hgA⟩
      have hS1 := And.intro (hS.1.keep hgA) (And.intro (hS.2.1.keep hgA) (hS.2.2.keep hgA))
      refine hK.out _ _ ?hspa3r16o5 (fun hS => ?_)
      case hspa3r16o5 => (exact hS1)
      clear hK K
      try simp only [Act.put, List.setIfInBounds_toArray, List.set_cons_zero, List.set_cons_succ]
      refine wpAnyH_take (i := 6) (oi := { dst := some 101, op := Op.move (Operand.tmp 107), type := 37, pos := "law.go:41", after := #[{ on := 5, ground := Ground.data }], guard := none }) (v := ?vpa3r16o6) rfl (by kernel_rfl) (by kernel_rfl) (by kernel_rfl) (fun _ _ _ h => h) (Or.inl ⟨by rfl, ?hpa3r16o6⟩) hS ?_
      case hpa3r16o6 => (intro wx hx; skip; go_simp; (try with_reducible rfl))
      try simp only [Act.put, List.setIfInBounds_toArray, List.set_cons_zero, List.set_cons_succ]
      refine wpAnyH_take (i := 7) (oi := { dst := some 108, op := Op.extract (Operand.tmp 101) 0, type := 24, pos := "law.go:41", after := #[{ on := 6, ground := Ground.data }], guard := none }) (v := ?vpa3r16o7) rfl (by kernel_rfl) (by kernel_rfl) (by kernel_rfl) (fun _ _ _ h => h) (Or.inl ⟨by rfl, ?hpa3r16o7⟩) hS ?_
      case hpa3r16o7 => (intro wx hx; skip; go_simp; (try with_reducible rfl))
      try simp only [Act.put, List.setIfInBounds_toArray, List.set_cons_zero, List.set_cons_succ]
      refine wpAnyH_take (i := 8) (oi := { dst := some 109, op := Op.extract (Operand.tmp 101) 1, type := 30, pos := "law.go:41", after := #[{ on := 6, ground := Ground.data }, { on := 9, ground := Ground.gcOnly Departure.lateStores }], guard := none }) (v := ?vpa3r16o8) rfl (by kernel_rfl) (by kernel_rfl) (by kernel_rfl) (fun _ _ _ h => h) (Or.inl ⟨by rfl, ?hpa3r16o8⟩) hS ?_
      case hpa3r16o8 => (intro wx hx; skip; go_simp; (try with_reducible rfl))
      try simp only [Act.put, List.setIfInBounds_toArray, List.set_cons_zero, List.set_cons_succ]
      refine wpAnyH_take (i := 9) (oi := { dst := some 20, op := Op.assign (Operand.tmp 108), type := 24, pos := "law.go:41", after := #[{ on := 7, ground := Ground.data }, { on := 5, ground := Ground.chain }, { on := 0, ground := Ground.phase }, { on := 1, ground := Ground.phase }, { on := 2, ground := Ground.phase }, { on := 3, ground := Ground.phase }, { on := 4, ground := Ground.phase }, { on := 5, ground := Ground.phase }, { on := 6, ground := Ground.phase }, { on := 7, ground := Ground.phase }, { on := 8, ground := Ground.textOnly Departure.lateStores }], guard := none }) (v := ?vpa3r16o9) rfl (by kernel_rfl) (by kernel_rfl) (by kernel_rfl) (fun _ _ _ h => h) (Or.inl ⟨by rfl, ?hpa3r16o9⟩) hS ?_
      case hpa3r16o9 => (intro wx hx; skip; go_simp; (try with_reducible rfl))
      try simp only [Act.put, List.setIfInBounds_toArray, List.set_cons_zero, List.set_cons_succ]
      refine wpAnyH_take (i := 10) (oi := { dst := some 21, op := Op.assign (Operand.tmp 109), type := 30, pos := "law.go:41", after := #[{ on := 8, ground := Ground.data }, { on := 9, ground := Ground.chain }, { on := 0, ground := Ground.phase }, { on := 1, ground := Ground.phase }, { on := 2, ground := Ground.phase }, { on := 3, ground := Ground.phase }, { on := 4, ground := Ground.phase }, { on := 5, ground := Ground.phase }, { on := 6, ground := Ground.phase }, { on := 7, ground := Ground.phase }, { on := 8, ground := Ground.phase }, { on := 9, ground := Ground.phase }], guard := none }) (v := ?vpa3r16o10) rfl (by kernel_rfl) (by kernel_rfl) (by kernel_rfl) (fun _ _ _ h => h) (Or.inl ⟨by rfl, ?hpa3r16o10⟩) hS ?_
      case hpa3r16o10 => (intro wx hx; skip; go_simp; (try with_reducible rfl))
      try simp only [Act.put, List.setIfInBounds_toArray, List.set_cons_zero, List.set_cons_succ]
      refine wpAnyH_done (by kernel_rfl) ?_ _
      have hgA1 := grown_trans (grown_drew (World.grownBy.refl wr none)) hgA
      have hSA := Lib.hid hS
      have hxA := Lib.hid (hx0.out.keep hgA1 (by simp))
      have hatA := Lib.hid hat5
      have hOA := Lib.hid (hO.out.quiet hgA1)
      have HL5 := Lib.hid hL5
      clear hS hS1 hgA hgA1 hat5 hO hS0 hx0 HRd hL5
      go_wp2_with fail
      refine wp_region_held_drew (S := fun w' => GeoS G a b c w' ∧ GeoR H a b c w' ∧ CellS B j (.slice ad l c') w') (by kernel_rfl) (And.intro (hSA.out.1.keep (grown_drew (World.grownBy.refl _ none))) (And.intro (hSA.out.2.1.keep (grown_drew (World.grownBy.refl _ none))) (hSA.out.2.2.keep (grown_drew (World.grownBy.refl _ none))))) (fun hS => ?_)
      refine wpAnyH_take (i := 0) (oi := { dst := some 111, op := Op.load 29 (Operand.tmp 11), type := 29, pos := "law.go:42", after := #[], guard := none }) (v := ?vpb3r17o0) rfl (by kernel_rfl) (by kernel_rfl) (by kernel_rfl) (fun _ _ _ h => h) (Or.inl ⟨by rfl, ?hpb3r17o0⟩) hS ?_
      case hpb3r17o0 => (intro wx hx; obtain ⟨hx0, hx1, hx2⟩ := hx; obtain ⟨y0, y1, y2⟩ := GeoS.cells hx0; obtain ⟨z0, z1, z2⟩ := GeoR.cells hx1; unfold CellS at hx2; go_simp; (try with_reducible rfl))
      try simp only [Act.put, List.setIfInBounds_toArray, List.set_cons_zero, List.set_cons_succ]
      refine wpAnyH_take (i := 1) (oi := { dst := some 112, op := Op.move (Operand.tmp 18), type := 36, pos := "law.go:42", after := #[], guard := none }) (v := ?vpb3r17o1) rfl (by kernel_rfl) (by kernel_rfl) (by kernel_rfl) (fun _ _ _ h => h) (Or.inl ⟨by rfl, ?hpb3r17o1⟩) hS ?_
      case hpb3r17o1 => (intro wx hx; skip; go_simp; (try with_reducible rfl))
      try simp only [Act.put, List.setIfInBounds_toArray, List.set_cons_zero, List.set_cons_succ]
      refine wpAnyH_take (i := 2) (oi := { dst := some 113, op := Op.move (Operand.tmp 19), type := 3, pos := "law.go:42", after := #[], guard := none }) (v := ?vpb3r17o2) rfl (by kernel_rfl) (by kernel_rfl) (by kernel_rfl) (fun _ _ _ h => h) (Or.inl ⟨by rfl, ?hpb3r17o2⟩) hS ?_
      case hpb3r17o2 => (intro wx hx; skip; go_simp; (try with_reducible rfl))
      try simp only [Act.put, List.setIfInBounds_toArray, List.set_cons_zero, List.set_cons_succ]
      refine wpAnyH_take (i := 3) (oi := { dst := some 114, op := Op.indexAddr 36 (Operand.tmp 112) (Operand.tmp 113), type := 0, pos := "law.go:42", after := #[{ on := 1, ground := Ground.data }, { on := 2, ground := Ground.data }], guard := none }) (v := ?vpb3r17o3) rfl (by kernel_rfl) (by kernel_rfl) (by kernel_rfl) (fun _ _ _ h => h) (Or.inl ⟨by rfl, ?hpb3r17o3⟩) hS ?_
      case hpb3r17o3 => (intro wx hx; skip; go_simp; (try with_reducible rfl))
      try simp only [Act.put, List.setIfInBounds_toArray, List.set_cons_zero, List.set_cons_succ]
      refine wpAnyH_take (i := 4) (oi := { dst := some 115, op := Op.load 25 (Operand.tmp 114), type := 25, pos := "law.go:42", after := #[{ on := 3, ground := Ground.data }], guard := none }) (v := ?vpb3r17o4) rfl (by kernel_rfl) (by kernel_rfl) (by kernel_rfl) (fun _ _ _ h => h) (Or.inl ⟨by rfl, ?hpb3r17o4⟩) hS ?_
      case hpb3r17o4 => (intro wx hx; obtain ⟨hx0, hx1, hx2⟩ := hx; obtain ⟨y0, y1, y2⟩ := GeoS.cells hx0; obtain ⟨z0, z1, z2⟩ := GeoR.cells hx1; unfold CellS at hx2; go_simp; (try with_reducible rfl))
      try simp only [Act.put, List.setIfInBounds_toArray, List.set_cons_zero, List.set_cons_succ]
      refine wpAnyH_ready (rs := [5]) (by kernel_rfl) (by simp) ?_
      refine AllReadyH.cons (o := { dst := some 116, op := Op.call { callee := Callee.value (Operand.func 15), args := #[Operand.tmp 111, Operand.tmp 115], argTypes := #[29, 25] }, type := 37, pos := "law.go:42", after := #[{ on := 0, ground := Ground.data }, { on := 4, ground := Ground.data }], guard := none }) rfl (fun K hK => ?_) AllReadyH.nil
      go_simp
      refine (HRR.out _ (hxA.out.keep (grown_drew (World.grownBy.refl _ none)) (by simp))).mono ?_
      rintro e wB ⟨ad6, n6, cp6, rfl, hL6, h966, hat6, hgB⟩
      have hS1 := And.intro (hS.1.keep hgB) (And.intro (hS.2.1.keep hgB) (hS.2.2.keep hgB))
      refine hK.out _ _ ?hspb3r17o5 (fun hS => ?_)
      case hspb3r17o5 => (exact hS1)
      clear hK K
      try simp only [Act.put, List.setIfInBounds_toArray, List.set_cons_zero, List.set_cons_succ]
      refine wpAnyH_take (i := 6) (oi := { dst := some 110, op := Op.move (Operand.tmp 116), type := 37, pos := "law.go:42", after := #[{ on := 5, ground := Ground.data }], guard := none }) (v := ?vpb3r17o6) rfl (by kernel_rfl) (by kernel_rfl) (by kernel_rfl) (fun _ _ _ h => h) (Or.inl ⟨by rfl, ?hpb3r17o6⟩) hS ?_
      case hpb3r17o6 => (intro wx hx; skip; go_simp; (try with_reducible rfl))
      try simp only [Act.put, List.setIfInBounds_toArray, List.set_cons_zero, List.set_cons_succ]
      refine wpAnyH_take (i := 7) (oi := { dst := some 117, op := Op.extract (Operand.tmp 110) 0, type := 24, pos := "law.go:42", after := #[{ on := 6, ground := Ground.data }], guard := none }) (v := ?vpb3r17o7) rfl (by kernel_rfl) (by kernel_rfl) (by kernel_rfl) (fun _ _ _ h => h) (Or.inl ⟨by rfl, ?hpb3r17o7⟩) hS ?_
      case hpb3r17o7 => (intro wx hx; skip; go_simp; (try with_reducible rfl))
      try simp only [Act.put, List.setIfInBounds_toArray, List.set_cons_zero, List.set_cons_succ]
      refine wpAnyH_take (i := 8) (oi := { dst := some 118, op := Op.extract (Operand.tmp 110) 1, type := 30, pos := "law.go:42", after := #[{ on := 6, ground := Ground.data }, { on := 9, ground := Ground.gcOnly Departure.lateStores }], guard := none }) (v := ?vpb3r17o8) rfl (by kernel_rfl) (by kernel_rfl) (by kernel_rfl) (fun _ _ _ h => h) (Or.inl ⟨by rfl, ?hpb3r17o8⟩) hS ?_
      case hpb3r17o8 => (intro wx hx; skip; go_simp; (try with_reducible rfl))
      try simp only [Act.put, List.setIfInBounds_toArray, List.set_cons_zero, List.set_cons_succ]
      refine wpAnyH_take (i := 9) (oi := { dst := some 22, op := Op.assign (Operand.tmp 117), type := 24, pos := "law.go:42", after := #[{ on := 7, ground := Ground.data }, { on := 5, ground := Ground.chain }, { on := 0, ground := Ground.phase }, { on := 1, ground := Ground.phase }, { on := 2, ground := Ground.phase }, { on := 3, ground := Ground.phase }, { on := 4, ground := Ground.phase }, { on := 5, ground := Ground.phase }, { on := 6, ground := Ground.phase }, { on := 7, ground := Ground.phase }, { on := 8, ground := Ground.textOnly Departure.lateStores }], guard := none }) (v := ?vpb3r17o9) rfl (by kernel_rfl) (by kernel_rfl) (by kernel_rfl) (fun _ _ _ h => h) (Or.inl ⟨by rfl, ?hpb3r17o9⟩) hS ?_
      case hpb3r17o9 => (intro wx hx; skip; go_simp; (try with_reducible rfl))
      try simp only [Act.put, List.setIfInBounds_toArray, List.set_cons_zero, List.set_cons_succ]
      refine wpAnyH_take (i := 10) (oi := { dst := some 23, op := Op.assign (Operand.tmp 118), type := 30, pos := "law.go:42", after := #[{ on := 8, ground := Ground.data }, { on := 9, ground := Ground.chain }, { on := 0, ground := Ground.phase }, { on := 1, ground := Ground.phase }, { on := 2, ground := Ground.phase }, { on := 3, ground := Ground.phase }, { on := 4, ground := Ground.phase }, { on := 5, ground := Ground.phase }, { on := 6, ground := Ground.phase }, { on := 7, ground := Ground.phase }, { on := 8, ground := Ground.phase }, { on := 9, ground := Ground.phase }], guard := none }) (v := ?vpb3r17o10) rfl (by kernel_rfl) (by kernel_rfl) (by kernel_rfl) (fun _ _ _ h => h) (Or.inl ⟨by rfl, ?hpb3r17o10⟩) hS ?_
      case hpb3r17o10 => (intro wx hx; skip; go_simp; (try with_reducible rfl))
      try simp only [Act.put, List.setIfInBounds_toArray, List.set_cons_zero, List.set_cons_succ]
      refine wpAnyH_done (by kernel_rfl) ?_ _
      have hgB1 := grown_trans (grown_drew (World.grownBy.refl wA none)) hgB
      have hSB := Lib.hid hS
      have hxB := Lib.hid (hxA.out.keep hgB1 (by simp))
      have hatB5 := Lib.hid (hatA.out.grown hgB1 (by simp))
      have hatB6 := Lib.hid hat6
      have hOB := Lib.hid (hOA.out.quiet hgB1)
      have HSm2 := Lib.hid (fun wx (h1 : At wx ad5 (icells L5)) (h2 : At wx ad6 (icells L5)) => SameI_any ad5 ad6 n5 n6 cp5 cp6 L5 L5 wx h1 h2 HL5.out hL6 (by omega))
      rw [decide_eq_true rfl] at HSm2
      clear hS hS1 hgB hgB1 hat6 hOA hSA hxA HRR hatA hL6
      go_wp2_with fail
      refine wp_region_held_drew (S := fun w' => GeoS G a b c w' ∧ GeoR H a b c w' ∧ CellS B j (.slice ad l c') w') (by kernel_rfl) (And.intro (hSB.out.1.keep (grown_drew (World.grownBy.refl _ none))) (And.intro (hSB.out.2.1.keep (grown_drew (World.grownBy.refl _ none))) (hSB.out.2.2.keep (grown_drew (World.grownBy.refl _ none))))) (fun hS => ?_)
      refine wpAnyH_take (i := 0) (oi := { dst := some 119, op := Op.move (Operand.tmp 21), type := 30, pos := "law.go:43", after := #[], guard := none }) (v := ?vpc3r18o0) rfl (by kernel_rfl) (by kernel_rfl) (by kernel_rfl) (fun _ _ _ h => h) (Or.inl ⟨by rfl, ?hpc3r18o0⟩) hS ?_
      case hpc3r18o0 => (intro wx hx; skip; go_simp; (try with_reducible rfl))
      try simp only [Act.put, List.setIfInBounds_toArray, List.set_cons_zero, List.set_cons_succ]
      refine wpAnyH_take (i := 1) (oi := { dst := some 120, op := Op.move (Operand.tmp 23), type := 30, pos := "law.go:43", after := #[], guard := none }) (v := ?vpc3r18o1) rfl (by kernel_rfl) (by kernel_rfl) (by kernel_rfl) (fun _ _ _ h => h) (Or.inl ⟨by rfl, ?hpc3r18o1⟩) hS ?_
      case hpc3r18o1 => (intro wx hx; skip; go_simp; (try with_reducible rfl))
      try simp only [Act.put, List.setIfInBounds_toArray, List.set_cons_zero, List.set_cons_succ]
      refine wpAnyH_take (i := 2) (oi := { dst := some 121, op := Op.binOp BinOp.neq 30 (Operand.tmp 119) (Operand.tmp 120) 30, type := 4, pos := "law.go:43", after := #[{ on := 0, ground := Ground.data }, { on := 1, ground := Ground.data }], guard := none }) (v := ?vpc3r18o2) rfl (by kernel_rfl) (by kernel_rfl) (by kernel_rfl) (fun _ _ _ h => h) (Or.inl ⟨by rfl, ?hpc3r18o2⟩) hS ?_
      case hpc3r18o2 => (intro wx hx; skip; go_simp; (try with_reducible rfl))
      try simp only [Act.put, List.setIfInBounds_toArray, List.set_cons_zero, List.set_cons_succ]
      refine wpAnyH_take (i := 3) (oi := { dst := some 122, op := Op.move (Operand.tmp 121), type := 4, pos := "law.go:43", after := #[{ on := 2, ground := Ground.data }], guard := none }) (v := ?vpc3r18o3) rfl (by kernel_rfl) (by kernel_rfl) (by kernel_rfl) (fun _ _ _ h => h) (Or.inl ⟨by rfl, ?hpc3r18o3⟩) hS ?_
      case hpc3r18o3 => (intro wx hx; skip; go_simp; (try with_reducible rfl))
      try simp only [Act.put, List.setIfInBounds_toArray, List.set_cons_zero, List.set_cons_succ]
      refine wpAnyH_take (i := 4) (oi := { dst := some 123, op := Op.move (Operand.tmp 20), type := 24, pos := "law.go:43", after := #[{ on := 3, ground := Ground.guard }], guard := some (3, false) }) (v := ?vpc3r18o4) rfl (by kernel_rfl) (by kernel_rfl) (by kernel_rfl) (fun _ _ _ h => h) (Or.inl ⟨by rfl, ?hpc3r18o4⟩) hS ?_
      case hpc3r18o4 => (intro wx hx; skip; go_simp; (try with_reducible rfl))
      try simp only [Act.put, List.setIfInBounds_toArray, List.set_cons_zero, List.set_cons_succ]
      refine wpAnyH_take (i := 5) (oi := { dst := some 124, op := Op.move (Operand.tmp 22), type := 24, pos := "law.go:43", after := #[{ on := 3, ground := Ground.guard }], guard := some (3, false) }) (v := ?vpc3r18o5) rfl (by kernel_rfl) (by kernel_rfl) (by kernel_rfl) (fun _ _ _ h => h) (Or.inl ⟨by rfl, ?hpc3r18o5⟩) hS ?_
      case hpc3r18o5 => (intro wx hx; skip; go_simp; (try with_reducible rfl))
      try simp only [Act.put, List.setIfInBounds_toArray, List.set_cons_zero, List.set_cons_succ]
      refine wpAnyH_ready (rs := [6]) (by kernel_rfl) (by simp) ?_
      refine AllReadyH.cons (o := { dst := some 125, op := Op.call { callee := Callee.value (Operand.func 16), args := #[Operand.tmp 123, Operand.tmp 124], argTypes := #[24, 24] }, type := 4, pos := "law.go:43", after := #[{ on := 4, ground := Ground.data }, { on := 5, ground := Ground.data }, { on := 3, ground := Ground.chain }, { on := 3, ground := Ground.guard }], guard := some (3, false) }) rfl (fun K hK => ?_) AllReadyH.nil
      go_simp
      refine (HSm2.out _ (hatB5.out.grown (grown_drew (World.grownBy.refl _ none)) (by simp)) (hatB6.out.grown (grown_drew (World.grownBy.refl _ none)) (by simp))).mono ?_
      rintro e wX ⟨rfl, hgX⟩
      have hgX2 := grown_trans (grown_drew (World.grownBy.refl _ none)) hgX
      have hS1 := And.intro (hS.1.keep hgX) (And.intro (hS.2.1.keep hgX) (hS.2.2.keep hgX))
      refine hK.out _ _ ?hspc3r18o6 (fun hS => ?_)
      case hspc3r18o6 => (exact hS1)
      clear hK K
      try simp only [Act.put, List.setIfInBounds_toArray, List.set_cons_zero, List.set_cons_succ]
      refine wpAnyH_take (i := 7) (oi := { dst := some 126, op := Op.unOp UnOp.not 4 (Operand.tmp 125), type := 4, pos := "law.go:43", after := #[{ on := 6, ground := Ground.data }, { on := 3, ground := Ground.guard }], guard := some (3, false) }) (v := ?vpc3r18o7) rfl (by kernel_rfl) (by kernel_rfl) (by kernel_rfl) (fun _ _ _ h => h) (Or.inl ⟨by rfl, ?hpc3r18o7⟩) hS ?_
      case hpc3r18o7 => (intro wx hx; skip; go_simp; (try with_reducible rfl))
      try simp only [Act.put, List.setIfInBounds_toArray, List.set_cons_zero, List.set_cons_succ]
      refine wpAnyH_take (i := 8) (oi := { dst := some 127, op := Op.pick (Operand.tmp 122) (Operand.const (Value.bool true)) (Operand.tmp 126), type := 4, pos := "law.go:43", after := #[{ on := 3, ground := Ground.data }, { on := 7, ground := Ground.data }], guard := none }) (v := ?vpc3r18o8) rfl (by kernel_rfl) (by kernel_rfl) (by kernel_rfl) (fun _ _ _ h => h) (Or.inl ⟨by rfl, ?hpc3r18o8⟩) hS ?_
      case hpc3r18o8 => (intro wx hx; skip; go_simp; (try with_reducible rfl))
      try simp only [Act.put, List.setIfInBounds_toArray, List.set_cons_zero, List.set_cons_succ]
      refine wpAnyH_take (i := 9) (oi := { dst := some 128, op := Op.move (Operand.tmp 127), type := 4, pos := "law.go:43", after := #[{ on := 8, ground := Ground.data }, { on := 6, ground := Ground.chain }], guard := none }) (v := ?vpc3r18o9) rfl (by kernel_rfl) (by kernel_rfl) (by kernel_rfl) (fun _ _ _ h => h) (Or.inl ⟨by rfl, ?hpc3r18o9⟩) hS ?_
      case hpc3r18o9 => (intro wx hx; skip; go_simp; (try with_reducible rfl))
      try simp only [Act.put, List.setIfInBounds_toArray, List.set_cons_zero, List.set_cons_succ]
      refine wpAnyH_take (i := 10) (oi := { dst := some 129, op := Op.move (Operand.tmp 18), type := 36, pos := "law.go:43", after := #[{ on := 9, ground := Ground.guard }], guard := some (9, false) }) (v := ?vpc3r18o10) rfl (by kernel_rfl) (by kernel_rfl) (by kernel_rfl) (fun _ _ _ h => h) (Or.inl ⟨by rfl, ?hpc3r18o10⟩) hS ?_
      case hpc3r18o10 => (intro wx hx; skip; go_simp; (try with_reducible rfl))
      try simp only [Act.put, List.setIfInBounds_toArray, List.set_cons_zero, List.set_cons_succ]
      refine wpAnyH_take (i := 11) (oi := { dst := some 130, op := Op.move (Operand.tmp 19), type := 3, pos := "law.go:43", after := #[{ on := 9, ground := Ground.guard }], guard := some (9, false) }) (v := ?vpc3r18o11) rfl (by kernel_rfl) (by kernel_rfl) (by kernel_rfl) (fun _ _ _ h => h) (Or.inl ⟨by rfl, ?hpc3r18o11⟩) hS ?_
      case hpc3r18o11 => (intro wx hx; skip; go_simp; (try with_reducible rfl))
      try simp only [Act.put, List.setIfInBounds_toArray, List.set_cons_zero, List.set_cons_succ]
      refine wpAnyH_take (i := 12) (oi := { dst := some 131, op := Op.indexAddr 36 (Operand.tmp 129) (Operand.tmp 130), type := 0, pos := "law.go:43", after := #[{ on := 10, ground := Ground.data }, { on := 11, ground := Ground.data }, { on := 9, ground := Ground.guard }], guard := some (9, false) }) (v := ?vpc3r18o12) rfl (by kernel_rfl) (by kernel_rfl) (by kernel_rfl) (fun _ _ _ h => h) (Or.inl ⟨by rfl, ?hpc3r18o12⟩) hS ?_
      case hpc3r18o12 => (intro wx hx; skip; go_simp; (try with_reducible rfl))
      try simp only [Act.put, List.setIfInBounds_toArray, List.set_cons_zero, List.set_cons_succ]
      refine wpAnyH_take (i := 13) (oi := { dst := some 132, op := Op.load 25 (Operand.tmp 131), type := 25, pos := "law.go:43", after := #[{ on := 12, ground := Ground.data }, { on := 9, ground := Ground.guard }], guard := some (9, false) }) (v := ?vpc3r18o13) rfl (by kernel_rfl) (by kernel_rfl) (by kernel_rfl) (fun _ _ _ h => h) (Or.inl ⟨by rfl, ?hpc3r18o13⟩) hS ?_
      case hpc3r18o13 => (intro wx hx; obtain ⟨hx0, hx1, hx2⟩ := hx; obtain ⟨y0, y1, y2⟩ := GeoS.cells hx0; obtain ⟨z0, z1, z2⟩ := GeoR.cells hx1; unfold CellS at hx2; go_simp; (try with_reducible rfl))
      try simp only [Act.put, List.setIfInBounds_toArray, List.set_cons_zero, List.set_cons_succ]
      refine wpAnyH_take (i := 15) (oi := { dst := some 134, op := Op.move (Operand.tmp 18), type := 36, pos := "law.go:43", after := #[{ on := 9, ground := Ground.guard }], guard := some (9, false) }) (v := ?vpc3r18o15) rfl (by kernel_rfl) (by kernel_rfl) (by kernel_rfl) (fun _ _ _ h => h) (Or.inl ⟨by rfl, ?hpc3r18o15⟩) hS ?_
      case hpc3r18o15 => (intro wx hx; skip; go_simp; (try with_reducible rfl))
      try simp only [Act.put, List.setIfInBounds_toArray, List.set_cons_zero, List.set_cons_succ]
      refine wpAnyH_take (i := 16) (oi := { dst := some 135, op := Op.move (Operand.tmp 19), type := 3, pos := "law.go:43", after := #[{ on := 9, ground := Ground.guard }], guard := some (9, false) }) (v := ?vpc3r18o16) rfl (by kernel_rfl) (by kernel_rfl) (by kernel_rfl) (fun _ _ _ h => h) (Or.inl ⟨by rfl, ?hpc3r18o16⟩) hS ?_
      case hpc3r18o16 => (intro wx hx; skip; go_simp; (try with_reducible rfl))
      try simp only [Act.put, List.setIfInBounds_toArray, List.set_cons_zero, List.set_cons_succ]
      refine wpAnyH_take (i := 17) (oi := { dst := some 136, op := Op.indexAddr 36 (Operand.tmp 134) (Operand.tmp 135), type := 0, pos := "law.go:43", after := #[{ on := 15, ground := Ground.data }, { on := 16, ground := Ground.data }, { on := 9, ground := Ground.guard }], guard := some (9, false) }) (v := ?vpc3r18o17) rfl (by kernel_rfl) (by kernel_rfl) (by kernel_rfl) (fun _ _ _ h => h) (Or.inl ⟨by rfl, ?hpc3r18o17⟩) hS ?_
      case hpc3r18o17 => (intro wx hx; skip; go_simp; (try with_reducible rfl))
      try simp only [Act.put, List.setIfInBounds_toArray, List.set_cons_zero, List.set_cons_succ]
      refine wpAnyH_take (i := 18) (oi := { dst := some 137, op := Op.load 25 (Operand.tmp 136), type := 25, pos := "law.go:43", after := #[{ on := 17, ground := Ground.data }, { on := 9, ground := Ground.guard }], guard := some (9, false) }) (v := ?vpc3r18o18) rfl (by kernel_rfl) (by kernel_rfl) (by kernel_rfl) (fun _ _ _ h => h) (Or.inl ⟨by rfl, ?hpc3r18o18⟩) hS ?_
      case hpc3r18o18 => (intro wx hx; obtain ⟨hx0, hx1, hx2⟩ := hx; obtain ⟨y0, y1, y2⟩ := GeoS.cells hx0; obtain ⟨z0, z1, z2⟩ := GeoR.cells hx1; unfold CellS at hx2; go_simp; (try with_reducible rfl))
      try simp only [Act.put, List.setIfInBounds_toArray, List.set_cons_zero, List.set_cons_succ]
      refine wpAnyH_ready (rs := [14]) (by kernel_rfl) (by simp) ?_
      refine AllReadyH.cons (o := { dst := some 133, op := Op.call { callee := Callee.value (Operand.func 17), args := #[Operand.tmp 132], argTypes := #[25] }, type := 27, pos := "law.go:43", after := #[{ on := 13, ground := Ground.data }, { on := 9, ground := Ground.chain }, { on := 9, ground := Ground.guard }], guard := some (9, false) }) rfl (fun K hK => ?_) AllReadyH.nil
      go_simp
      refine (HMk.out _ (hxB.out.keep hgX2 (by simp))).mono ?_
      rintro e wY ⟨rfl, hgY⟩
      have hgY2 := grown_trans hgX2 hgY
      have hS1 := And.intro (hS.1.keep hgY) (And.intro (hS.2.1.keep hgY) (hS.2.2.keep hgY))
      refine hK.out _ _ ?hspc3r18o14 (fun hS => ?_)
      case hspc3r18o14 => (exact hS1)
      clear hK K
      try simp only [Act.put, List.setIfInBounds_toArray, List.set_cons_zero, List.set_cons_succ]
      refine wpAnyH_ready (rs := [19]) (by kernel_rfl) (by simp) ?_
      refine AllReadyH.cons (o := { dst := some 138, op := Op.call { callee := Callee.value (Operand.func 18), args := #[Operand.tmp 137], argTypes := #[25] }, type := 27, pos := "law.go:43", after := #[{ on := 18, ground := Ground.data }, { on := 14, ground := Ground.chain }, { on := 9, ground := Ground.guard }], guard := some (9, false) }) rfl (fun K hK => ?_) AllReadyH.nil
      go_simp
      refine (HRk.out _ (hxB.out.keep hgY2 (by simp))).mono ?_
      rintro e wZ ⟨rfl, hgZ⟩
      have hgZ2 := grown_trans hgY2 hgZ
      have hS1 := And.intro (hS.1.keep hgZ) (And.intro (hS.2.1.keep hgZ) (hS.2.2.keep hgZ))
      refine hK.out _ _ ?hspc3r18o19 (fun hS => ?_)
      case hspc3r18o19 => (exact hS1)
      clear hK K
      try simp only [Act.put, List.setIfInBounds_toArray, List.set_cons_zero, List.set_cons_succ]
      refine wpAnyH_take (i := 20) (oi := { dst := some 139, op := Op.binOp BinOp.neq 27 (Operand.tmp 133) (Operand.tmp 138) 27, type := 4, pos := "law.go:43", after := #[{ on := 14, ground := Ground.data }, { on := 19, ground := Ground.data }, { on := 9, ground := Ground.guard }], guard := some (9, false) }) (v := ?vpc3r18o20) rfl (by kernel_rfl) (by kernel_rfl) (by kernel_rfl) (fun _ _ _ h => h) (Or.inl ⟨by rfl, ?hpc3r18o20⟩) hS ?_
      case hpc3r18o20 => (intro wx hx; skip; go_simp; (try with_reducible rfl))
      try simp only [Act.put, List.setIfInBounds_toArray, List.set_cons_zero, List.set_cons_succ]
      refine wpAnyH_take (i := 21) (oi := { dst := some 140, op := Op.pick (Operand.tmp 128) (Operand.const (Value.bool true)) (Operand.tmp 139), type := 4, pos := "law.go:43", after := #[{ on := 9, ground := Ground.data }, { on := 20, ground := Ground.data }], guard := none }) (v := ?vpc3r18o21) rfl (by kernel_rfl) (by kernel_rfl) (by kernel_rfl) (fun _ _ _ h => h) (Or.inl ⟨by rfl, ?hpc3r18o21⟩) hS ?_
      case hpc3r18o21 => (intro wx hx; skip; go_simp; (try with_reducible rfl))
      try simp only [Act.put, List.setIfInBounds_toArray, List.set_cons_zero, List.set_cons_succ]
      refine wpAnyH_done (by kernel_rfl) ?_ _
      have hOZ := Lib.hid (hOB.out.quiet hgZ2)
      clear hS hS1 hgX hgX2 hgY hgY2 hgZ hgZ2 hOB hSB hxB hatB5 hatB6 HSm2 HMk HRk
      go_wp2
      go_roundw
      case rel => exact ⟨j + 1, by omega, by go_num, hOZ⟩
      case measure => simp [intOf]; omega
    · have hlt' : ¬ (j : Int) < 5 := by omega
      have hg := hO.out.grown
      clear hO
      go_wp2_with fail
      refine (works_any _).mono ?_
      rintro e w6 ⟨rfl, hg6⟩
      go_wp2
      go_ret
      exact ⟨rfl, grown_trans hg hg6⟩

theorem walk (a b c : Int) (a0 : Option Addr) (l0 c0 : Nat) (z0 : List Wrt) (a1 : Option Addr) (l1 c1 : Nat) (z1 : List Int) (a2 a3 : Int) (w : World) (_ : (Lit.int .i64 a).wf = true) (_ : (Lit.int .i64 b).wf = true) (_ : (Lit.int .i64 c).wf = true) (w0 : WrtsIn w a0 l0 z0) (w1 : RowIn .u64 w a1 l1 c1 z1) (w2 : (Lit.int .u16 a2).wf = true) (w3 : (Lit.int .u64 a3).wf = true) :
    Calls Try.prog 3 #[.agg #[.int .i64 a, .int .i64 b, .int .i64 c], .slice a0 l0 c0, .slice a1 l1 c1, .int .u16 a2, .int .u64 a3] w (WorksIs w) := by
  obtain ⟨M, hM⟩ := wrts_given w0
  obtain ⟨ys, hy⟩ := rowIn_words w1
  have b2 := bounds_u16 w2
  have b3 := bounds_u64 w3
  obtain ⟨v2, rfl⟩ := Int.eq_ofNat_of_zero_le b2.1
  obtain ⟨v3, rfl⟩ := Int.eq_ofNat_of_zero_le b3.1
  by_cases h0 : 200 < l0
  · exact walk_far1 a b c a0 l0 c0 a1 l1 c1 _ _ w h0
  · by_cases h1 : 400 < l1
    · exact walk_far2 a b c a0 l0 c0 a1 l1 c1 _ _ w h0 h1
    · exact walk_at a b c a0 l0 c0 a1 l1 c1 ys v2 v3 M w h0 h1 hM hy w1.2.1 (by omega)
end Go.Proofs.Ythcaeepngdohfaa.recordPlays
