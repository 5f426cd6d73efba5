/- Package inode: Put of what may not be; a new device's words. -/
import Derived.Test.YtmoddhfemejekaaInoG
import Derived.Test.YtmoddhfemejekaaLayQ2
namespace Go.Proofs.Ytmoddhfemejekaa
open Go.RowKit Go.Grommet

set_option maxRecDepth 100000 in
set_option maxHeartbeats 2000000 in
theorem PutW12 (k g : Nat) (xs : List Nat) (L : List (Nat × Nat)) (a b c n : Int) (v0 v1 v2 v3 v4 v5 v6 v7 v8 v9 : Nat) (w0 w : World) (Ps : List Pr) (h : Own w0 w Ps) (hk : Ps[k]? = some (viewP g xs L)) (hr : rightB a b c v0 v1 v2 v3 v4 v5 v6 v7 v8 v9 = false) :
    Calls Try.prog 17 #[.pointer (some ⟨g, 0, none⟩), gv a b c, .int .i64 n, .agg #[.int .u64 (v0 : Int), .int .u64 (v1 : Int), .int .u64 (v2 : Int), .int .u64 (v3 : Int), .int .u64 (v4 : Int), .int .u64 (v5 : Int), .int .u64 (v6 : Int), .int .u64 (v7 : Int), .int .u64 (v8 : Int), .int .u64 (v9 : Int)]] w fun e w' => e = .returned (.int .i64 1) ∧ Own w0 w' Ps := by
  have hkl := (List.getElem?_eq_some_iff.1 hk).1
  obtain ⟨G, HG⟩ : ∃ G, Hid (G = w.heap.size) := ⟨_, Lib.hid rfl⟩
  obtain ⟨N, HN⟩ : ∃ N, Hid (N = w.heap.size + 1) := ⟨_, Lib.hid rfl⟩
  have hO : Own w0 ((w.alloc (.cells #[.int .i64 a, .int .i64 b, .int .i64 c] 23)).alloc (.cells #[.int .u64 (v0 : Int), .int .u64 (v1 : Int), .int .u64 (v2 : Int), .int .u64 (v3 : Int), .int .u64 (v4 : Int), .int .u64 (v5 : Int), .int .u64 (v6 : Int), .int .u64 (v7 : Int), .int .u64 (v8 : Int), .int .u64 (v9 : Int)] 38)) (Ps ++ [boxP G 23 #[.int .i64 a, .int .i64 b, .int .i64 c], boxP N 38 #[.int .u64 (v0 : Int), .int .u64 (v1 : Int), .int .u64 (v2 : Int), .int .u64 (v3 : Int), .int .u64 (v4 : Int), .int .u64 (v5 : Int), .int .u64 (v6 : Int), .int .u64 (v7 : Int), .int .u64 (v8 : Int), .int .u64 (v9 : Int)]]) := by
    have h := (h.addBox 23 #[.int .i64 a, .int .i64 b, .int .i64 c]).addBox 38 #[.int .u64 (v0 : Int), .int .u64 (v1 : Int), .int .u64 (v2 : Int), .int .u64 (v3 : Int), .int .u64 (v4 : Int), .int .u64 (v5 : Int), .int .u64 (v6 : Int), .int .u64 (v7 : Int), .int .u64 (v8 : Int), .int .u64 (v9 : Int)]
    rw [World.size_alloc, ← HN.out, ← HG.out, List.append_assoc] at h
    exact h
  have Hk := Lib.hid (show ∀ Rs, (Ps ++ Rs)[k]? = some (viewP g xs L) from fun Rs => by rw [List.getElem?_append_left hkl]; exact hk)
  have Hgeo := Lib.hid (fun wx (hO : Own w0 wx (Ps ++ [boxP G 23 #[.int .i64 a, .int .i64 b, .int .i64 c], boxP N 38 #[.int .u64 (v0 : Int), .int .u64 (v1 : Int), .int .u64 (v2 : Int), .int .u64 (v3 : Int), .int .u64 (v4 : Int), .int .u64 (v5 : Int), .int .u64 (v6 : Int), .int .u64 (v7 : Int), .int .u64 (v8 : Int), .int .u64 (v9 : Int)]])) => show GeoS G a b c wx ∧ NodeS N v0 v1 v2 v3 v4 v5 v6 v7 v8 v9 wx from ⟨Own.box hO Ps.length (by rw [List.getElem?_append_right (Nat.le_refl _), Nat.sub_self]; rfl), Own.box hO (Ps.length + 1) (by rw [List.getElem?_append_right (by omega), show Ps.length + 1 - Ps.length = 1 from by omega]; rfl)⟩)
  have HR := Lib.hid (fun wx => Right_any a b c v0 v1 v2 v3 v4 v5 v6 v7 v8 v9 wx)
  rw [hr] at HR
  have Hhas := Lib.hid (fun wx (hO : Own w0 wx (Ps ++ [boxP G 23 #[.int .i64 a, .int .i64 b, .int .i64 c], boxP N 38 #[.int .u64 (v0 : Int), .int .u64 (v1 : Int), .int .u64 (v2 : Int), .int .u64 (v3 : Int), .int .u64 (v4 : Int), .int .u64 (v5 : Int), .int .u64 (v6 : Int), .int .u64 (v7 : Int), .int .u64 (v8 : Int), .int .u64 (v9 : Int)]])) => hasH k g xs L a b c n false 1 w0 wx _ hO (Hk.out _) (by unfold hasE; rw [if_pos (.inr (.inr rfl))]))
  unfold nv gv at *
  have hS0 := Hgeo.out _ hO
  replace hO := Lib.hid hO
  clear h hk hkl hr
  go_enter Try.func17, Try.ntmps17
  go_wp2_with fail
  rw [← HN.out, ← HG.out]
  refine wp_region_held_drew (S := fun w' => GeoS G a b c w' ∧ NodeS N v0 v1 v2 v3 v4 v5 v6 v7 v8 v9 w') (by kernel_rfl) (And.intro (hS0.1.keep (grown_drew (World.grownBy.refl _ none))) (hS0.2.keep (grown_drew (World.grownBy.refl _ none)))) (fun hS => ?_)
  refine wpAnyH_take (i := 0) (oi := { dst := some 10, op := Op.move (Operand.tmp 0), type := 31, pos := "inode.go:89", after := #[], guard := none }) (v := ?vp517r1o0) rfl (by kernel_rfl) (by kernel_rfl) (by kernel_rfl) (fun _ _ _ h => h) (Or.inl ⟨by rfl, ?hp517r1o0⟩) hS ?_
  case hp517r1o0 => (intro wx hx; skip; go_simp; (try with_reducible rfl))
  try simp only [Act.put, List.setIfInBounds_toArray, List.set_cons_zero, List.set_cons_succ]
  refine wpAnyH_take (i := 1) (oi := { dst := some 11, op := Op.load 23 (Operand.tmp 5), type := 23, pos := "inode.go:89", after := #[], guard := none }) (v := ?vp517r1o1) rfl (by kernel_rfl) (by kernel_rfl) (by kernel_rfl) (fun _ _ _ h => h) (Or.inl ⟨by rfl, ?hp517r1o1⟩) hS ?_
  case hp517r1o1 => (intro wx hx; obtain ⟨hx0, hx1⟩ := hx; obtain ⟨y0, y1, y2⟩ := GeoS.cells hx0; obtain ⟨z0, z1, z2, z3, z4, z5, z6, z7, z8, z9⟩ := NodeS.cells hx1; go_simp; (try with_reducible rfl))
  try simp only [Act.put, List.setIfInBounds_toArray, List.set_cons_zero, List.set_cons_succ]
  refine wpAnyH_take (i := 2) (oi := { dst := some 12, op := Op.move (Operand.tmp 2), type := 3, pos := "inode.go:89", after := #[], guard := none }) (v := ?vp517r1o2) rfl (by kernel_rfl) (by kernel_rfl) (by kernel_rfl) (fun _ _ _ h => h) (Or.inl ⟨by rfl, ?hp517r1o2⟩) hS ?_
  case hp517r1o2 => (intro wx hx; skip; go_simp; (try with_reducible rfl))
  try simp only [Act.put, List.setIfInBounds_toArray, List.set_cons_zero, List.set_cons_succ]
  refine wpAnyH_take (i := 3) (oi := { dst := some 13, op := Op.load 23 (Operand.tmp 5), type := 23, pos := "inode.go:89", after := #[], guard := none }) (v := ?vp517r1o3) rfl (by kernel_rfl) (by kernel_rfl) (by kernel_rfl) (fun _ _ _ h => h) (Or.inl ⟨by rfl, ?hp517r1o3⟩) hS ?_
  case hp517r1o3 => (intro wx hx; obtain ⟨hx0, hx1⟩ := hx; obtain ⟨y0, y1, y2⟩ := GeoS.cells hx0; obtain ⟨z0, z1, z2, z3, z4, z5, z6, z7, z8, z9⟩ := NodeS.cells hx1; go_simp; (try with_reducible rfl))
  try simp only [Act.put, List.setIfInBounds_toArray, List.set_cons_zero, List.set_cons_succ]
  refine wpAnyH_take (i := 4) (oi := { dst := some 14, op := Op.load 38 (Operand.tmp 7), type := 38, pos := "inode.go:89", after := #[], guard := none }) (v := ?vp517r1o4) rfl (by kernel_rfl) (by kernel_rfl) (by kernel_rfl) (fun _ _ _ h => h) (Or.inl ⟨by rfl, ?hp517r1o4⟩) hS ?_
  case hp517r1o4 => (intro wx hx; obtain ⟨hx0, hx1⟩ := hx; obtain ⟨y0, y1, y2⟩ := GeoS.cells hx0; obtain ⟨z0, z1, z2, z3, z4, z5, z6, z7, z8, z9⟩ := NodeS.cells hx1; go_simp; (try with_reducible rfl))
  try simp only [Act.put, List.setIfInBounds_toArray, List.set_cons_zero, List.set_cons_succ]
  refine wpAnyH_ready (rs := [5]) (by kernel_rfl) (by simp) ?_
  refine AllReadyH.cons (o := { dst := some 15, op := Op.call { callee := Callee.value (Operand.func 13), args := #[Operand.tmp 13, Operand.tmp 14], argTypes := #[23, 38] }, type := 4, pos := "inode.go:89", after := #[{ on := 3, ground := Ground.data }, { on := 4, ground := Ground.data }], guard := none }) rfl (fun K hK => ?_) AllReadyH.nil
  go_simp
  refine (HR.out _).mono ?_
  rintro e wA ⟨rfl, hgA⟩
  have hO1 := (hO.out.quiet (grown_drew (World.grownBy.refl _ none))).quiet hgA
  have hS1 := Hgeo.out _ hO1
  refine hK.out _ _ ?hsp517r1o5 (fun hS => ?_)
  case hsp517r1o5 => (exact hS1)
  clear hK K
  try simp only [Act.put, List.setIfInBounds_toArray, List.set_cons_zero, List.set_cons_succ]
  refine wpAnyH_ready (rs := [6]) (by kernel_rfl) (by simp) ?_
  refine AllReadyH.cons (o := { dst := some 16, op := Op.call { callee := Callee.value (Operand.func 31), args := #[Operand.tmp 10, Operand.tmp 11, Operand.tmp 12, Operand.tmp 15], argTypes := #[31, 23, 3, 4] }, type := 47, pos := "inode.go:89", after := #[{ on := 0, ground := Ground.data }, { on := 1, ground := Ground.data }, { on := 2, ground := Ground.data }, { on := 5, ground := Ground.data }, { on := 5, ground := Ground.chain }], guard := none }) rfl (fun K hK => ?_) AllReadyH.nil
  go_simp
  refine (Hhas.out _ hO1).mono ?_
  rintro e wB ⟨rfl, hO2⟩
  have hS1 := Hgeo.out _ hO2
  refine hK.out _ _ ?hsp517r1o6 (fun hS => ?_)
  case hsp517r1o6 => (exact hS1)
  clear hK K
  try simp only [Act.put, List.setIfInBounds_toArray, List.set_cons_zero, List.set_cons_succ]
  refine wpAnyH_take (i := 7) (oi := { dst := some 9, op := Op.assign (Operand.tmp 16), type := 47, pos := "inode.go:89", after := #[{ on := 6, ground := Ground.data }, { on := 6, ground := Ground.chain }, { on := 0, ground := Ground.phase }, { on := 1, ground := Ground.phase }, { on := 2, ground := Ground.phase }, { on := 3, ground := Ground.phase }, { on := 4, ground := Ground.phase }, { on := 5, ground := Ground.phase }, { on := 6, ground := Ground.phase }], guard := none }) (v := ?vp517r1o7) rfl (by kernel_rfl) (by kernel_rfl) (by kernel_rfl) (fun _ _ _ h => h) (Or.inl ⟨by rfl, ?hp517r1o7⟩) hS ?_
  case hp517r1o7 => (intro wx hx; skip; go_simp; (try with_reducible rfl))
  try simp only [Act.put, List.setIfInBounds_toArray, List.set_cons_zero, List.set_cons_succ]
  refine wpAnyH_done (by kernel_rfl) ?_ _
  have hOB := Lib.hid hO2
  clear hS hS1 hgA hO1 hO2 hO hS0
  go_wp2
  go_ret
  exact ⟨rfl, hOB.out.less⟩

/-- A new row, or none. -/
def RowU (XR : List Nat) (Z : Nat) (w : World) (e : Ending) (w' : World) : Prop :=
  ∃ ad cap, e = .returned (.slice ad Z cap) ∧ w'.ownsRow w.heap.size 35 1 (.slice ad Z cap) Z (XR.map wv) ∧ w.grownBy w' none
theorem rowU_none {w : World} {e : Ending} {w' : World} (h : e = .returned (.slice none 0 0) ∧ w.grownBy w' none) : RowU [] 0 w e w' := by
  obtain ⟨rfl, hg⟩ := h
  exact ⟨none, 0, rfl, World.ownsRow_nil _ _ _ _, hg⟩
theorem rowU_new {xs : List Nat} {w : World} {e : Ending} {w' : World} (h : NewWords xs w e w') (hl : xs.length ≤ 100000) : RowU xs xs.length w e w' := by
  obtain ⟨g, rfl, hh, hb, hg⟩ := h
  exact ⟨some ⟨g, 0, none⟩, xs.length, rfl, ⟨by simp, .inr ⟨g, xs.length, (xs.map wv).toArray, rfl, hb, hh, Nat.le_refl _, by unfold maxLen; omega, by simp, by rw [Nat.mul_one]; exact List.take_of_length_le (by simp)⟩⟩, hg⟩
theorem format_row (a b c : Nat) (h : mayB a b c = true) : ∃ XR Z, XR.length = Z ∧ Z = 280 + 208 * a + 16 * b + 8 * c ∧ Z ≤ 100000 ∧ (∀ n ∈ XR, n < 18446744073709551616) ∧ ∀ w, Calls Try.prog 26 #[gv a b c] w (RowU XR Z w) := by
  have hq := mayB_yes h
  have hl : (fmtL a b c (264 + 208 * a) (280 + 208 * a + 16 * b + 8 * c)).length = 280 + 208 * a + 16 * b + 8 * c := length_fmtL _ _ _ _ _
  refine ⟨fmtL a b c (264 + 208 * a) (280 + 208 * a + 16 * b + 8 * c), _, rfl, hl, by omega, fmtL_lt _ _ _ _ _ (by omega) (by omega) (by omega), fun w => (RFormat_any a b c w h).mono (fun _ _ hh => rowU_new hh (by omega))⟩
theorem small_may' (x y : Nat) : mayB ((1 : Nat) : Int) ((2 + x % 20 : Nat) : Int) ((2 + y % 60 : Nat) : Int) = true := by
  unfold mayB; rw [decide_eq_true_eq]; omega
theorem words_pos' {a b c : Int} (h : mayB a b c = true) : wordsV a b c = 280 + 208 * a + 16 * b + 8 * c := by unfold wordsV; rw [if_pos h]
end Go.Proofs.Ytmoddhfemejekaa
