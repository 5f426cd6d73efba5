/- Package inode: put. -/
import Derived.Test.YtmoddhfemejekaaInoE
import Derived.Test.YtmoddhfemejekaaInoEq
import Derived.Test.YtmoddhfemejekaaInoB
import Derived.Deep.RegionHeld
namespace Go.Grommet
/-- Words behind each other. -/
def rowS (a : Int) (vs : List Nat) : List (Int × Nat) := (List.range vs.length).map fun i : Nat => (a + (i : Int), vs.getD i 0)
theorem rowS_length (a : Int) (vs : List Nat) : (rowS a vs).length = vs.length := by simp [rowS]
theorem rowS_get (a : Int) (vs : List Nat) (j : Nat) (hj : j < vs.length) : (rowS a vs)[j]? = some (a + (j : Int), vs.getD j 0) := by simp [rowS, hj]
theorem rowS_take (a : Int) (vs : List Nat) (j : Nat) (hj : j < vs.length) : (rowS a vs).take (j + 1) = (rowS a vs).take j ++ [(a + (j : Int), vs.getD j 0)] := by
  rw [List.take_add_one, rowS_get a vs j hj]; rfl
theorem all_same {xs : List Nat} {L : List (Nat × Nat)} : ∀ (S : List (Int × Nat)), (∀ p ∈ S, setE xs L p.1 p.2 = 0 ∧ setL xs L p.1 p.2 = L) → allE xs L S = 0 ∧ allL xs L S = L
  | [], _ => ⟨rfl, rfl⟩
  | p :: t, h => by
    obtain ⟨h1, h2⟩ := h p (by simp)
    obtain ⟨i1, i2⟩ := all_same t (fun q hq => h q (by simp [hq]))
    constructor
    · show (if setE xs L p.1 p.2 = 0 then allE xs (setL xs L p.1 p.2) t else setE xs L p.1 p.2) = 0
      rw [if_pos h1, h2]; exact i1
    · show (if setE xs L p.1 p.2 = 0 then allL xs (setL xs L p.1 p.2) t else setL xs L p.1 p.2) = L
      rw [if_pos h1, h2]; exact i2
/-- The first error among the first ones ends all. -/
theorem all_stop {xs : List Nat} {L : List (Nat × Nat)} {S : List (Int × Nat)} {j : Nat} (h : allE xs L (S.take j) ≠ 0) : allE xs L S = allE xs L (S.take j) ∧ allL xs L S = allL xs L (S.take j) := by
  have := all_more xs (S.drop j) (S.take j) L h
  rw [List.take_append_drop] at this
  exact this
end Go.Grommet
namespace Go.Proofs.Ytmoddhfemejekaa
open Go.RowKit Go.Grommet

theorem same_set {xs : List Nat} {L : List (Nat × Nat)} {a : Int} {v : Nat} (ha : 0 ≤ a ∧ a < (xs.length : Int)) (h : gotI xs L a = v) : setE xs L a v = 0 ∧ setL xs L a v = L := by
  unfold gotI at h
  rw [if_pos ha] at h
  unfold setE setL
  rw [if_pos ha, if_pos ha, if_pos h, if_pos h]
  exact ⟨rfl, rfl⟩
theorem idx_0 (v0 v1 v2 v3 v4 v5 v6 v7 v8 v9 : Nat) (w : World) : (Instr.index 93 (.agg #[.int .u64 (v0 : Int), .int .u64 (v1 : Int), .int .u64 (v2 : Int), .int .u64 (v3 : Int), .int .u64 (v4 : Int), .int .u64 (v5 : Int), .int .u64 (v6 : Int), .int .u64 (v7 : Int), .int .u64 (v8 : Int), .int .u64 (v9 : Int)]) (.int .i64 0)).run Try.prog w = .ok (.int .u64 (v0 : Int)) w := by kernel_rfl
theorem idx_1 (v0 v1 v2 v3 v4 v5 v6 v7 v8 v9 : Nat) (w : World) : (Instr.index 93 (.agg #[.int .u64 (v0 : Int), .int .u64 (v1 : Int), .int .u64 (v2 : Int), .int .u64 (v3 : Int), .int .u64 (v4 : Int), .int .u64 (v5 : Int), .int .u64 (v6 : Int), .int .u64 (v7 : Int), .int .u64 (v8 : Int), .int .u64 (v9 : Int)]) (.int .i64 1)).run Try.prog w = .ok (.int .u64 (v1 : Int)) w := by kernel_rfl
theorem idx_2 (v0 v1 v2 v3 v4 v5 v6 v7 v8 v9 : Nat) (w : World) : (Instr.index 93 (.agg #[.int .u64 (v0 : Int), .int .u64 (v1 : Int), .int .u64 (v2 : Int), .int .u64 (v3 : Int), .int .u64 (v4 : Int), .int .u64 (v5 : Int), .int .u64 (v6 : Int), .int .u64 (v7 : Int), .int .u64 (v8 : Int), .int .u64 (v9 : Int)]) (.int .i64 2)).run Try.prog w = .ok (.int .u64 (v2 : Int)) w := by kernel_rfl
theorem idx_3 (v0 v1 v2 v3 v4 v5 v6 v7 v8 v9 : Nat) (w : World) : (Instr.index 93 (.agg #[.int .u64 (v0 : Int), .int .u64 (v1 : Int), .int .u64 (v2 : Int), .int .u64 (v3 : Int), .int .u64 (v4 : Int), .int .u64 (v5 : Int), .int .u64 (v6 : Int), .int .u64 (v7 : Int), .int .u64 (v8 : Int), .int .u64 (v9 : Int)]) (.int .i64 3)).run Try.prog w = .ok (.int .u64 (v3 : Int)) w := by kernel_rfl
theorem idx_4 (v0 v1 v2 v3 v4 v5 v6 v7 v8 v9 : Nat) (w : World) : (Instr.index 93 (.agg #[.int .u64 (v0 : Int), .int .u64 (v1 : Int), .int .u64 (v2 : Int), .int .u64 (v3 : Int), .int .u64 (v4 : Int), .int .u64 (v5 : Int), .int .u64 (v6 : Int), .int .u64 (v7 : Int), .int .u64 (v8 : Int), .int .u64 (v9 : Int)]) (.int .i64 4)).run Try.prog w = .ok (.int .u64 (v4 : Int)) w := by kernel_rfl
theorem idx_5 (v0 v1 v2 v3 v4 v5 v6 v7 v8 v9 : Nat) (w : World) : (Instr.index 93 (.agg #[.int .u64 (v0 : Int), .int .u64 (v1 : Int), .int .u64 (v2 : Int), .int .u64 (v3 : Int), .int .u64 (v4 : Int), .int .u64 (v5 : Int), .int .u64 (v6 : Int), .int .u64 (v7 : Int), .int .u64 (v8 : Int), .int .u64 (v9 : Int)]) (.int .i64 5)).run Try.prog w = .ok (.int .u64 (v5 : Int)) w := by kernel_rfl
theorem idx_6 (v0 v1 v2 v3 v4 v5 v6 v7 v8 v9 : Nat) (w : World) : (Instr.index 93 (.agg #[.int .u64 (v0 : Int), .int .u64 (v1 : Int), .int .u64 (v2 : Int), .int .u64 (v3 : Int), .int .u64 (v4 : Int), .int .u64 (v5 : Int), .int .u64 (v6 : Int), .int .u64 (v7 : Int), .int .u64 (v8 : Int), .int .u64 (v9 : Int)]) (.int .i64 6)).run Try.prog w = .ok (.int .u64 (v6 : Int)) w := by kernel_rfl
theorem idx_7 (v0 v1 v2 v3 v4 v5 v6 v7 v8 v9 : Nat) (w : World) : (Instr.index 93 (.agg #[.int .u64 (v0 : Int), .int .u64 (v1 : Int), .int .u64 (v2 : Int), .int .u64 (v3 : Int), .int .u64 (v4 : Int), .int .u64 (v5 : Int), .int .u64 (v6 : Int), .int .u64 (v7 : Int), .int .u64 (v8 : Int), .int .u64 (v9 : Int)]) (.int .i64 7)).run Try.prog w = .ok (.int .u64 (v7 : Int)) w := by kernel_rfl
theorem idx_8 (v0 v1 v2 v3 v4 v5 v6 v7 v8 v9 : Nat) (w : World) : (Instr.index 93 (.agg #[.int .u64 (v0 : Int), .int .u64 (v1 : Int), .int .u64 (v2 : Int), .int .u64 (v3 : Int), .int .u64 (v4 : Int), .int .u64 (v5 : Int), .int .u64 (v6 : Int), .int .u64 (v7 : Int), .int .u64 (v8 : Int), .int .u64 (v9 : Int)]) (.int .i64 8)).run Try.prog w = .ok (.int .u64 (v8 : Int)) w := by kernel_rfl
theorem idx_9 (v0 v1 v2 v3 v4 v5 v6 v7 v8 v9 : Nat) (w : World) : (Instr.index 93 (.agg #[.int .u64 (v0 : Int), .int .u64 (v1 : Int), .int .u64 (v2 : Int), .int .u64 (v3 : Int), .int .u64 (v4 : Int), .int .u64 (v5 : Int), .int .u64 (v6 : Int), .int .u64 (v7 : Int), .int .u64 (v8 : Int), .int .u64 (v9 : Int)]) (.int .i64 9)).run Try.prog w = .ok (.int .u64 (v9 : Int)) w := by kernel_rfl
theorem idx_words (v0 v1 v2 v3 v4 v5 v6 v7 v8 v9 : Nat) (j : Nat) (hj : j < 10) (w : World) : (Instr.index 93 (.agg #[.int .u64 (v0 : Int), .int .u64 (v1 : Int), .int .u64 (v2 : Int), .int .u64 (v3 : Int), .int .u64 (v4 : Int), .int .u64 (v5 : Int), .int .u64 (v6 : Int), .int .u64 (v7 : Int), .int .u64 (v8 : Int), .int .u64 (v9 : Int)]) (.int .i64 (j : Int))).run Try.prog w = .ok (.int .u64 (([v0, v1, v2, v3, v4, v5, v6, v7, v8, v9].getD j 0 : Nat) : Int)) w := by
  have h : j = 0 ∨ j = 1 ∨ j = 2 ∨ j = 3 ∨ j = 4 ∨ j = 5 ∨ j = 6 ∨ j = 7 ∨ j = 8 ∨ j = 9 := by omega
  rcases h with rfl | rfl | rfl | rfl | rfl | rfl | rfl | rfl | rfl | rfl
  · exact idx_0 v0 v1 v2 v3 v4 v5 v6 v7 v8 v9 w
  · exact idx_1 v0 v1 v2 v3 v4 v5 v6 v7 v8 v9 w
  · exact idx_2 v0 v1 v2 v3 v4 v5 v6 v7 v8 v9 w
  · exact idx_3 v0 v1 v2 v3 v4 v5 v6 v7 v8 v9 w
  · exact idx_4 v0 v1 v2 v3 v4 v5 v6 v7 v8 v9 w
  · exact idx_5 v0 v1 v2 v3 v4 v5 v6 v7 v8 v9 w
  · exact idx_6 v0 v1 v2 v3 v4 v5 v6 v7 v8 v9 w
  · exact idx_7 v0 v1 v2 v3 v4 v5 v6 v7 v8 v9 w
  · exact idx_8 v0 v1 v2 v3 v4 v5 v6 v7 v8 v9 w
  · exact idx_9 v0 v1 v2 v3 v4 v5 v6 v7 v8 v9 w

theorem setE_small (xs : List Nat) (L : List (Nat × Nat)) (a : Int) (v : Nat) : setE xs L a v ≤ 8 := by
  unfold setE putE
  split
  · split
    · omega
    · split
      · omega
      · split <;> omega
  · omega

set_option maxRecDepth 100000 in
set_option maxHeartbeats 4000000 in
theorem putH (k g : Nat) (xs : List Nat) (L : List (Nat × Nat)) (a : Int) (v0 v1 v2 v3 v4 v5 v6 v7 v8 v9 : Nat) (en : Int) (w0 w : World) (Ps Qs : List Pr) (h : Own w0 w Ps) (hk : Ps[k]? = some (viewP g xs L)) (ha : 0 ≤ a ∧ a + 10 ≤ (xs.length : Int)) (hxl : xs.length ≤ 1000000)
    (hv : ∀ x ∈ [v0, v1, v2, v3, v4, v5, v6, v7, v8, v9], x < 18446744073709551616) (he : (allE xs L (rowS a [v0, v1, v2, v3, v4, v5, v6, v7, v8, v9]) : Int) = en) (hQ : Ps.set k (viewP g xs (allL xs L (rowS a [v0, v1, v2, v3, v4, v5, v6, v7, v8, v9]))) = Qs) :
    Calls Try.prog 36 #[.pointer (some ⟨g, 0, none⟩), .int .i64 a, .agg #[.int .u64 (v0 : Int), .int .u64 (v1 : Int), .int .u64 (v2 : Int), .int .u64 (v3 : Int), .int .u64 (v4 : Int), .int .u64 (v5 : Int), .int .u64 (v6 : Int), .int .u64 (v7 : Int), .int .u64 (v8 : Int), .int .u64 (v9 : Int)]] w fun e w' => e = .returned (.int .i64 en) ∧ Own w0 w' Qs := by
  have hQs : Ps.set k (viewP g xs L) = Ps := by
    apply List.ext_getElem?
    intro i
    by_cases hi : i = k
    · subst hi; rw [List.getElem?_set_self (List.getElem?_eq_some_iff.1 hk).1, hk]
    · rw [List.getElem?_set_ne (fun e => hi e.symm)]
  obtain ⟨f, hf⟩ : ∃ f : Nat → Nat, ∀ i : Nat, gotI xs L (a + (i : Int)) = f i := ⟨fun i => gotI xs L (a + (i : Int)), fun _ => rfl⟩
  have hkl := (List.getElem?_eq_some_iff.1 hk).1
  have HSt := Lib.hid (fun wx (hO : Own w0 wx (Ps ++ [boxP w.heap.size 38 #[.int .u64 (v0 : Int), .int .u64 (v1 : Int), .int .u64 (v2 : Int), .int .u64 (v3 : Int), .int .u64 (v4 : Int), .int .u64 (v5 : Int), .int .u64 (v6 : Int), .int .u64 (v7 : Int), .int .u64 (v8 : Int), .int .u64 (v9 : Int)]])) => StandsH k g xs L a f w0 wx _ hO (by rw [List.getElem?_append_left hkl]; exact hk) ⟨ha.1, by omega⟩ hf)
  obtain ⟨N, HN⟩ : ∃ N, Hid (N = w.heap.size) := ⟨_, Lib.hid rfl⟩
  have hO : Own w0 (w.alloc (.cells #[.int .u64 (v0 : Int), .int .u64 (v1 : Int), .int .u64 (v2 : Int), .int .u64 (v3 : Int), .int .u64 (v4 : Int), .int .u64 (v5 : Int), .int .u64 (v6 : Int), .int .u64 (v7 : Int), .int .u64 (v8 : Int), .int .u64 (v9 : Int)] 38)) (Ps ++ [boxP N 38 #[.int .u64 (v0 : Int), .int .u64 (v1 : Int), .int .u64 (v2 : Int), .int .u64 (v3 : Int), .int .u64 (v4 : Int), .int .u64 (v5 : Int), .int .u64 (v6 : Int), .int .u64 (v7 : Int), .int .u64 (v8 : Int), .int .u64 (v9 : Int)]]) := by rw [HN.out]; exact h.addBox _ _
  rw [← HN.out] at HSt
  have hS0 : NodeS N v0 v1 v2 v3 v4 v5 v6 v7 v8 v9 (w.alloc (.cells #[.int .u64 (v0 : Int), .int .u64 (v1 : Int), .int .u64 (v2 : Int), .int .u64 (v3 : Int), .int .u64 (v4 : Int), .int .u64 (v5 : Int), .int .u64 (v6 : Int), .int .u64 (v7 : Int), .int .u64 (v8 : Int), .int .u64 (v9 : Int)] 38)) := by rw [HN.out]; exact heap_alloc_new w _
  have Hbox := Lib.hid (fun wx (hO : Own w0 wx (Ps ++ [boxP N 38 #[.int .u64 (v0 : Int), .int .u64 (v1 : Int), .int .u64 (v2 : Int), .int .u64 (v3 : Int), .int .u64 (v4 : Int), .int .u64 (v5 : Int), .int .u64 (v6 : Int), .int .u64 (v7 : Int), .int .u64 (v8 : Int), .int .u64 (v9 : Int)]])) => show NodeS N v0 v1 v2 v3 v4 v5 v6 v7 v8 v9 wx from Own.box hO Ps.length (by rw [List.getElem?_append_right (Nat.le_refl _), Nat.sub_self]; rfl))
  replace hO := Lib.hid hO
  by_cases hall : f 0 = v0 ∧ f 1 = v1 ∧ f 2 = v2 ∧ f 3 = v3 ∧ f 4 = v4 ∧ f 5 = v5 ∧ f 6 = v6 ∧ f 7 = v7 ∧ f 8 = v8 ∧ f 9 = v9
  · obtain ⟨h1, h2⟩ := all_same (xs := xs) (L := L) (rowS a [v0, v1, v2, v3, v4, v5, v6, v7, v8, v9]) (fun p hp => by
      obtain ⟨i, hi, rfl⟩ := List.mem_map.1 hp
      have hi := List.mem_range.1 hi
      have hi : i < 10 := hi
      refine same_set ⟨by omega, by dsimp only; omega⟩ ((hf i).trans ?_)
      match i, hi with
      | 0, _ => exact hall.1
      | 1, _ => exact hall.2.1
      | 2, _ => exact hall.2.2.1
      | 3, _ => exact hall.2.2.2.1
      | 4, _ => exact hall.2.2.2.2.1
      | 5, _ => exact hall.2.2.2.2.2.1
      | 6, _ => exact hall.2.2.2.2.2.2.1
      | 7, _ => exact hall.2.2.2.2.2.2.2.1
      | 8, _ => exact hall.2.2.2.2.2.2.2.2.1
      | 9, _ => exact hall.2.2.2.2.2.2.2.2.2
      )
    rw [h1] at he
    rw [h2, hQs] at hQ
    subst he hQ
    obtain ⟨e0, e1, e2, e3, e4, e5, e6, e7, e8, e9⟩ := hall
    rw [e0, e1, e2, e3, e4, e5, e6, e7, e8, e9] at HSt
    have heq := eql_same (v0 : Int) (v1 : Int) (v2 : Int) (v3 : Int) (v4 : Int) (v5 : Int) (v6 : Int) (v7 : Int) (v8 : Int) (v9 : Int)
    clear e0 e1 e2 e3 e4 e5 e6 e7 e8 e9 h1 h2 hf hv hk hQs h
    go_enter Try.func36, Try.ntmps36
    go_wp2_with fail
    rw [← HN.out]
    refine wp_region_held_drew (S := fun w' => NodeS N v0 v1 v2 v3 v4 v5 v6 v7 v8 v9 w') (by kernel_rfl) (hS0.keep (grown_drew (World.grownBy.refl _ none))) (fun hS => ?_)
    refine wpAnyH_take (i := 0) (oi := { dst := some 10, op := Op.move (Operand.tmp 0), type := 31, pos := "inode.go:105", after := #[], guard := none }) (v := ?vpa36r1o0) rfl (by kernel_rfl) (by kernel_rfl) (by kernel_rfl) (fun _ _ _ h => h) (Or.inl ⟨by rfl, ?hpa36r1o0⟩) hS ?_
    case hpa36r1o0 => (intro wx hx; skip; go_simp; (try with_reducible rfl))
    try simp only [Act.put, List.setIfInBounds_toArray, List.set_cons_zero, List.set_cons_succ]
    refine wpAnyH_take (i := 1) (oi := { dst := some 11, op := Op.move (Operand.tmp 1), type := 3, pos := "inode.go:105", after := #[], guard := none }) (v := ?vpa36r1o1) rfl (by kernel_rfl) (by kernel_rfl) (by kernel_rfl) (fun _ _ _ h => h) (Or.inl ⟨by rfl, ?hpa36r1o1⟩) hS ?_
    case hpa36r1o1 => (intro wx hx; skip; go_simp; (try with_reducible rfl))
    try simp only [Act.put, List.setIfInBounds_toArray, List.set_cons_zero, List.set_cons_succ]
    refine wpAnyH_take (i := 3) (oi := { dst := some 13, op := Op.load 38 (Operand.tmp 5), type := 38, pos := "inode.go:105", after := #[], guard := none }) (v := ?vpa36r1o3) rfl (by kernel_rfl) (by kernel_rfl) (by kernel_rfl) (fun _ _ _ h => h) (Or.inl ⟨by rfl, ?hpa36r1o3⟩) hS ?_
    case hpa36r1o3 => (intro wx hx; obtain ⟨z0, z1, z2, z3, z4, z5, z6, z7, z8, z9⟩ := NodeS.cells hx; go_simp; (try with_reducible rfl))
    try simp only [Act.put, List.setIfInBounds_toArray, List.set_cons_zero, List.set_cons_succ]
    refine wpAnyH_ready (rs := [2]) (by kernel_rfl) (by simp) ?_
    refine AllReadyH.cons (o := { dst := some 12, op := Op.call { callee := Callee.value (Operand.func 32), args := #[Operand.tmp 10, Operand.tmp 11], argTypes := #[31, 3] }, type := 38, pos := "inode.go:105", after := #[{ on := 0, ground := Ground.data }, { on := 1, ground := Ground.data }], guard := none }) rfl (fun K hK => ?_) AllReadyH.nil
    go_simp
    refine (HSt.out _ (hO.out.quiet (grown_drew (World.grownBy.refl _ none)))).mono ?_
    rintro e wA ⟨rfl, hOA⟩
    have hS1 := Hbox.out _ hOA
    refine hK.out _ _ ?hspa36r1o2 (fun hS => ?_)
    case hspa36r1o2 => (exact hS1)
    clear hK K
    try simp only [Act.put, List.setIfInBounds_toArray, List.set_cons_zero, List.set_cons_succ]
    refine wpAnyH_take (i := 4) (oi := { dst := some 14, op := Op.binOp BinOp.eql 38 (Operand.tmp 12) (Operand.tmp 13) 38, type := 4, pos := "inode.go:105", after := #[{ on := 2, ground := Ground.data }, { on := 3, ground := Ground.data }], guard := none }) (v := ?vpa36r1o4) rfl (by kernel_rfl) (by kernel_rfl) (by kernel_rfl) (fun _ _ _ h => h) (Or.inl ⟨by rfl, ?hpa36r1o4⟩) hS ?_
    case hpa36r1o4 => (intro wx hx; skip; go_simp; (try with_reducible rfl))
    try simp only [Act.put, List.setIfInBounds_toArray, List.set_cons_zero, List.set_cons_succ]
    refine wpAnyH_done (by kernel_rfl) ?_ _
    clear hS hS1 hO hS0 HSt Hbox
    replace hOA := Lib.hid hOA
    go_wp2
    go_ret
    exact ⟨rfl, hOA.out.less⟩
  · have heq := eql_other ((f 0 : Nat) : Int) ((f 1 : Nat) : Int) ((f 2 : Nat) : Int) ((f 3 : Nat) : Int) ((f 4 : Nat) : Int) ((f 5 : Nat) : Int) ((f 6 : Nat) : Int) ((f 7 : Nat) : Int) ((f 8 : Nat) : Int) ((f 9 : Nat) : Int) (v0 : Int) (v1 : Int) (v2 : Int) (v3 : Int) (v4 : Int) (v5 : Int) (v6 : Int) (v7 : Int) (v8 : Int) (v9 : Int)
    have Heq := Lib.hid (fun wx => heq wx (by intro e; exact hall ⟨by omega, by omega, by omega, by omega, by omega, by omega, by omega, by omega, by omega, by omega⟩))
    obtain ⟨S, HS⟩ : ∃ S, Hid (S = rowS a [v0, v1, v2, v3, v4, v5, v6, v7, v8, v9]) := ⟨_, Lib.hid rfl⟩
    have HTk := Lib.hid (fun j (hj : j < 10) => rowS_take a [v0, v1, v2, v3, v4, v5, v6, v7, v8, v9] j hj)
    have HSl : Hid (S.length = 10) := Lib.hid (by rw [HS.out, rowS_length]; rfl)
    rw [← HS.out] at he hQ HTk
    have Hv := Lib.hid hv
    have HIx := Lib.hid (fun j (hj : j < 10) => idx_words v0 v1 v2 v3 v4 v5 v6 v7 v8 v9 j hj)
    have HWo := Lib.hid (fun wx => wordsOf_any (v0 : Int) (v1 : Int) (v2 : Int) (v3 : Int) (v4 : Int) (v5 : Int) (v6 : Int) (v7 : Int) (v8 : Int) (v9 : Int) wx)
    have HSet := Lib.hid (fun (M : List (Nat × Nat)) (b : Int) (v : Nat) (wx : World) (Rs : List Pr) (hO : Own w0 wx (Ps.set k (viewP g xs M) ++ Rs)) (hv : v < 18446744073709551616) =>
      SetH k g xs M b v (setE xs M b v : Int) w0 wx _ (Ps.set k (viewP g xs (setL xs M b v)) ++ Rs) hO (by rw [List.getElem?_append_left (by rw [List.length_set]; exact hkl), List.getElem?_set_self hkl]) hv rfl (by rw [List.set_append_left _ _ (by rw [List.length_set]; exact hkl), List.set_set]))
    have HE0 : Hid (∀ M b v, setE xs M b v ≤ 8) := Lib.hid (fun M b v => setE_small xs M b v)
    have Hstop : Hid (∀ j, allE xs L (S.take j) ≠ 0 → (allE xs L (S.take j) : Int) = en ∧ Ps.set k (viewP g xs (allL xs L (S.take j))) = Qs) := Lib.hid (fun j hj => by
      obtain ⟨i1, i2⟩ := all_stop hj
      rw [← i1, ← i2]; exact ⟨he, hQ⟩)
    have Hend : Hid (allE xs L (S.take 10) = 0 → (0 : Int) = en ∧ Ps.set k (viewP g xs (allL xs L (S.take 10))) = Qs) := Lib.hid (fun h0 => by
      rw [List.take_of_length_le (by rw [HSl.out]; exact Nat.le_refl _)] at h0 ⊢
      rw [h0] at he
      exact ⟨he, hQ⟩)
    have HQs := Lib.hid hQs
    clear hall heq hf hv hk hQs h he hQ
    have heq := Heq.out
    go_enter Try.func36, Try.ntmps36
    go_wp2_with fail
    rw [← HN.out]
    refine wp_region_held_drew (S := fun w' => NodeS N v0 v1 v2 v3 v4 v5 v6 v7 v8 v9 w') (by kernel_rfl) (hS0.keep (grown_drew (World.grownBy.refl _ none))) (fun hS => ?_)
    refine wpAnyH_take (i := 0) (oi := { dst := some 10, op := Op.move (Operand.tmp 0), type := 31, pos := "inode.go:105", after := #[], guard := none }) (v := ?vpb36r1o0) rfl (by kernel_rfl) (by kernel_rfl) (by kernel_rfl) (fun _ _ _ h => h) (Or.inl ⟨by rfl, ?hpb36r1o0⟩) hS ?_
    case hpb36r1o0 => (intro wx hx; skip; go_simp; (try with_reducible rfl))
    try simp only [Act.put, List.setIfInBounds_toArray, List.set_cons_zero, List.set_cons_succ]
    refine wpAnyH_take (i := 1) (oi := { dst := some 11, op := Op.move (Operand.tmp 1), type := 3, pos := "inode.go:105", after := #[], guard := none }) (v := ?vpb36r1o1) rfl (by kernel_rfl) (by kernel_rfl) (by kernel_rfl) (fun _ _ _ h => h) (Or.inl ⟨by rfl, ?hpb36r1o1⟩) hS ?_
    case hpb36r1o1 => (intro wx hx; skip; go_simp; (try with_reducible rfl))
    try simp only [Act.put, List.setIfInBounds_toArray, List.set_cons_zero, List.set_cons_succ]
    refine wpAnyH_take (i := 3) (oi := { dst := some 13, op := Op.load 38 (Operand.tmp 5), type := 38, pos := "inode.go:105", after := #[], guard := none }) (v := ?vpb36r1o3) rfl (by kernel_rfl) (by kernel_rfl) (by kernel_rfl) (fun _ _ _ h => h) (Or.inl ⟨by rfl, ?hpb36r1o3⟩) hS ?_
    case hpb36r1o3 => (intro wx hx; obtain ⟨z0, z1, z2, z3, z4, z5, z6, z7, z8, z9⟩ := NodeS.cells hx; go_simp; (try with_reducible rfl))
    try simp only [Act.put, List.setIfInBounds_toArray, List.set_cons_zero, List.set_cons_succ]
    refine wpAnyH_ready (rs := [2]) (by kernel_rfl) (by simp) ?_
    refine AllReadyH.cons (o := { dst := some 12, op := Op.call { callee := Callee.value (Operand.func 32), args := #[Operand.tmp 10, Operand.tmp 11], argTypes := #[31, 3] }, type := 38, pos := "inode.go:105", after := #[{ on := 0, ground := Ground.data }, { on := 1, ground := Ground.data }], guard := none }) rfl (fun K hK => ?_) AllReadyH.nil
    go_simp
    refine (HSt.out _ (hO.out.quiet (grown_drew (World.grownBy.refl _ none)))).mono ?_
    rintro e wA ⟨rfl, hOA⟩
    have hS1 := Hbox.out _ hOA
    refine hK.out _ _ ?hspb36r1o2 (fun hS => ?_)
    case hspb36r1o2 => (exact hS1)
    clear hK K
    try simp only [Act.put, List.setIfInBounds_toArray, List.set_cons_zero, List.set_cons_succ]
    refine wpAnyH_take (i := 4) (oi := { dst := some 14, op := Op.binOp BinOp.eql 38 (Operand.tmp 12) (Operand.tmp 13) 38, type := 4, pos := "inode.go:105", after := #[{ on := 2, ground := Ground.data }, { on := 3, ground := Ground.data }], guard := none }) (v := ?vpb36r1o4) rfl (by kernel_rfl) (by kernel_rfl) (by kernel_rfl) (fun _ _ _ h => h) (Or.inl ⟨by rfl, ?hpb36r1o4⟩) hS ?_
    case hpb36r1o4 => (intro wx hx; skip; go_simp; (try with_reducible rfl))
    try simp only [Act.put, List.setIfInBounds_toArray, List.set_cons_zero, List.set_cons_succ]
    refine wpAnyH_done (by kernel_rfl) ?_ _
    obtain ⟨z0, z1, z2, z3, z4, z5, z6, z7, z8, z9⟩ := NodeS.cells (Hbox.out _ hOA)
    clear hS hS1 hO hS0 HSt Hbox heq Heq
    have hOA := Lib.hid hOA.less
    go_wp2_with fail
    refine (HWo.out _).mono ?_
    rintro e wB ⟨rfl, hgB⟩
    have hOB := Lib.hid (hOA.out.quiet hgB)
    clear hgB hOA z0 z1 z2 z3 z4 z5 z6 z7 z8 z9 HWo
    go_wp2_with fail
    go_loopw [17] (fun i wr => ∃ j : Nat, j ≤ 10 ∧ i = .int .i64 (j : Int) ∧ Hid (allE xs L (S.take j) = 0 ∧ Own w0 wr (Ps.set k (viewP g xs (allL xs L (S.take j)))))) (fun i _ => 10 - (intOf i).toNat)
    case atStart => exact ⟨0, Nat.zero_le _, rfl, Lib.hid ⟨rfl, by rw [show allL xs L (S.take 0) = L from rfl, HQs.out]; exact hOB.out⟩⟩
    case round =>
      clear hOB
      obtain ⟨j, hj, rfl, hR⟩ := hrel
      have j0 : (0 : Int) ≤ (j : Int) := by omega
      by_cases hlt : j < 10
      · have hlt' : (j : Int) < 10 := by omega
        have hix := HIx.out j hlt
        have hT := HTk.out j hlt
        have hvv : [v0, v1, v2, v3, v4, v5, v6, v7, v8, v9].getD j 0 < 18446744073709551616 := Hv.out _ (by rw [List.getD_eq_getElem?_getD, List.getElem?_eq_getElem (show j < 10 from hlt)]; exact List.getElem_mem _)
        generalize [v0, v1, v2, v3, v4, v5, v6, v7, v8, v9].getD j 0 = v at hix hT hvv
        have hE := allE_snoc xs (a + (j : Int), v) (S.take j) L hR.out.1
        have hL := allL_snoc xs (a + (j : Int), v) (S.take j) L hR.out.1
        rw [← hT] at hE hL
        have HC := Lib.hid (HSet.out (allL xs L (S.take j)) (a + (j : Int)) v wr [] (by rw [List.append_nil]; exact hR.out.2) hvv)
        rw [List.append_nil] at HC
        dsimp only at hE hL
        rw [← hE, ← hL] at HC
        have hstop := Hstop.out (j + 1)
        have hle : allE xs L (S.take (j + 1)) ≤ 8 := by rw [hE]; exact HE0.out _ _ _
        obtain ⟨E, HE⟩ : ∃ E, Hid (allE xs L (S.take (j + 1)) = E) := ⟨_, Lib.hid rfl⟩
        rw [HE.out] at HC hstop hle
        have HLd := Lib.hid hL
        have wa : IntKind.i64.wrap (a + (j : Int)) = a + (j : Int) := IntWalk.i64_in _ ⟨by omega, by omega⟩
        by_cases hz : E = 0
        · subst hz
          clear hE hL hT hstop hle hvv hR
          go_wp2_with fail
          refine HC.out.mono ?_
          rintro e w1 ⟨rfl, hO1⟩
          replace hO1 := Lib.hid hO1
          go_wp2
          go_roundw
          case rel => exact ⟨j + 1, by omega, by go_num, Lib.hid ⟨HE.out, hO1.out⟩⟩
          case measure => simp [intOf]; omega
        · obtain ⟨s1, s2⟩ := hstop hz
          have hne : ((E : Int) != 0) = true := by simp; omega
          have HS1 := Lib.hid s1
          have HS2 := Lib.hid s2
          clear hE hL hT hle hvv hR hz s1 s2 hstop
          go_wp2_with fail
          refine HC.out.mono ?_
          rintro e w1 ⟨rfl, hO1⟩
          replace hO1 := Lib.hid hO1
          go_wp2
          go_ret
          exact ⟨by rw [HS1.out]; rfl, by rw [← HS2.out]; exact hO1.out⟩
      · obtain rfl : j = 10 := by omega
        obtain ⟨s1, s2⟩ := Hend.out hR.out.1
        have HO := Lib.hid hR.out.2
        rw [s2] at HO
        have HS1 := Lib.hid s1
        clear s1 s2 hR
        go_wp2
        go_ret
        exact ⟨by rw [← HS1.out]; rfl, HO.out⟩
end Go.Proofs.Ytmoddhfemejekaa
