/- Package inode: has, Put. -/
import Derived.Test.YtmoddhfemejekaaInoF
namespace Go.Proofs.Ytmoddhfemejekaa
open Go.RowKit Go.Grommet

/-- What is wrong. -/
def hasE (a b c n : Int) (m : Bool) (len : Nat) : Int := if n < 1 ∨ inodeV a b c n < 0 ∨ m = false then 1 else if (len : Int) < wordsV a b c then 8 else 0

set_option maxRecDepth 100000 in
set_option maxHeartbeats 2000000 in
theorem hasH (k g : Nat) (xs : List Nat) (L : List (Nat × Nat)) (a b c n : Int) (m : Bool) (en : Int) (w0 w : World) (Ps : List Pr) (h : Own w0 w Ps) (hk : Ps[k]? = some (viewP g xs L)) (he : hasE a b c n m xs.length = en) :
    Calls Try.prog 31 #[.pointer (some ⟨g, 0, none⟩), gv a b c, .int .i64 n, .bool m] w fun e w' => e = .returned (.int .i64 en) ∧ Own w0 w' Ps := by
  have hkl := (List.getElem?_eq_some_iff.1 hk).1
  obtain ⟨G, HG⟩ : ∃ G, Hid (G = w.heap.size) := ⟨_, Lib.hid rfl⟩
  have hO : Own w0 (w.alloc (.cells #[.int .i64 a, .int .i64 b, .int .i64 c] 23)) (Ps ++ [boxP G 23 #[.int .i64 a, .int .i64 b, .int .i64 c]]) := by rw [HG.out]; exact h.addBox _ _
  have HLen := Lib.hid (fun wx (hO : Own w0 wx (Ps ++ [boxP G 23 #[.int .i64 a, .int .i64 b, .int .i64 c]])) => LenH k g xs L w0 wx _ hO (by rw [List.getElem?_append_left hkl]; exact hk))
  have Hgeo := Lib.hid (fun wx (hO : Own w0 wx (Ps ++ [boxP G 23 #[.int .i64 a, .int .i64 b, .int .i64 c]])) => show GeoS G a b c wx from Own.box hO Ps.length (by rw [List.getElem?_append_right (Nat.le_refl _), Nat.sub_self]; rfl))
  have HI := Lib.hid (fun wx => InodeAt_any a b c n wx)
  have HW := Lib.hid (fun wx => Words_any a b c wx)
  unfold hasE at he
  generalize inodeV a b c n = iv at *
  generalize wordsV a b c = wv9 at *
  generalize xs.length = len at *
  unfold gv at HI HW ⊢
  obtain ⟨y0, y1, y2⟩ := (Hgeo.out _ hO).cells
  replace hO := Lib.hid hO
  clear h hk hkl
  by_cases h1 : n < 1
  · rw [if_pos (.inl h1)] at he
    subst he
    go_enter Try.func31, Try.ntmps31
    go_wp2
    go_ret
    exact ⟨rfl, hO.out.less⟩
  · by_cases h2 : iv < 0
    · rw [if_pos (.inr (.inl h2))] at he
      subst he
      go_enter Try.func31, Try.ntmps31
      go_wp2_with fail
      refine (HI.out _).mono ?_
      rintro e w1 ⟨rfl, hg⟩
      replace hO := Lib.hid (hO.out.quiet hg)
      clear hg
      go_wp2
      go_ret
      exact ⟨rfl, hO.out.less⟩
    · cases m with
      | false =>
        rw [if_pos (.inr (.inr rfl))] at he
        subst he
        go_enter Try.func31, Try.ntmps31
        go_wp2_with fail
        refine (HI.out _).mono ?_
        rintro e w1 ⟨rfl, hg⟩
        replace hO := Lib.hid (hO.out.quiet hg)
        clear hg
        go_wp2
        go_ret
        exact ⟨rfl, hO.out.less⟩
      | true =>
        rw [if_neg (by rintro (h | h | h); exact h1 h; exact h2 h; cases h)] at he
        have d2 : decide (iv < 0) = false := by simpa using h2
        by_cases h3 : (len : Int) < wv9
        · rw [if_pos h3] at he
          subst he
          go_enter Try.func31, Try.ntmps31
          go_wp2_with fail
          refine (HI.out _).mono ?_
          rintro e w1 ⟨rfl, hg⟩
          replace hO := Lib.hid (hO.out.quiet hg)
          have hS0 := Hgeo.out _ hO.out
          clear hg y0 y1 y2
          go_wp2_with fail
          rw [← HG.out]
          refine wp_region_held_drew (S := fun w' => GeoS G a b c w') (by kernel_rfl) (hS0.keep (grown_drew (World.grownBy.refl _ none))) (fun hS => ?_)
          refine wpAnyH_take (i := 0) (oi := { dst := some 26, op := Op.move (Operand.tmp 0), type := 31, pos := "inode.go:123", after := #[], guard := none }) (v := ?vh131r5o0) rfl (by kernel_rfl) (by kernel_rfl) (by kernel_rfl) (fun _ _ _ h => h) (Or.inl ⟨by rfl, ?hh131r5o0⟩) hS ?_
          case hh131r5o0 => (intro wx hx; skip; go_simp; (try with_reducible rfl))
          try simp only [Act.put, List.setIfInBounds_toArray, List.set_cons_zero, List.set_cons_succ]
          refine wpAnyH_take (i := 2) (oi := { dst := some 28, op := Op.load 23 (Operand.tmp 5), type := 23, pos := "inode.go:123", after := #[], guard := none }) (v := ?vh131r5o2) rfl (by kernel_rfl) (by kernel_rfl) (by kernel_rfl) (fun _ _ _ h => h) (Or.inl ⟨by rfl, ?hh131r5o2⟩) hS ?_
          case hh131r5o2 => (intro wx hx; obtain ⟨z0, z1, z2⟩ := GeoS.cells hx; go_simp; (try with_reducible rfl))
          try simp only [Act.put, List.setIfInBounds_toArray, List.set_cons_zero, List.set_cons_succ]
          refine wpAnyH_ready (rs := [1]) (by kernel_rfl) (by simp) ?_
          refine AllReadyH.cons (o := { dst := some 27, op := Op.call { callee := Callee.value (Operand.func 45), args := #[Operand.tmp 26], argTypes := #[31] }, type := 3, pos := "inode.go:123", after := #[{ on := 0, ground := Ground.data }], guard := none }) rfl (fun K hK => ?_) AllReadyH.nil
          go_simp
          have hO1 := hO.out.quiet (grown_drew (World.grownBy.refl _ none))
          refine (HLen.out _ hO1).mono ?_
          rintro e wA ⟨rfl, rfl⟩
          have hS1 := hS
          refine hK.out _ _ ?hsh131r5o1 (fun hS => ?_)
          case hsh131r5o1 => (exact hS1)
          clear hK K
          try simp only [Act.put, List.setIfInBounds_toArray, List.set_cons_zero, List.set_cons_succ]
          refine wpAnyH_ready (rs := [3]) (by kernel_rfl) (by simp) ?_
          refine AllReadyH.cons (o := { dst := some 29, op := Op.call { callee := Callee.value (Operand.func 46), args := #[Operand.tmp 28], argTypes := #[23] }, type := 3, pos := "inode.go:123", after := #[{ on := 2, ground := Ground.data }, { on := 1, ground := Ground.chain }], guard := none }) rfl (fun K hK => ?_) AllReadyH.nil
          go_simp
          refine (HW.out _).mono ?_
          rintro e wB ⟨rfl, hgB⟩
          have hS1 := hS.keep hgB
          refine hK.out _ _ ?hsh131r5o3 (fun hS => ?_)
          case hsh131r5o3 => (exact hS1)
          clear hK K
          try simp only [Act.put, List.setIfInBounds_toArray, List.set_cons_zero, List.set_cons_succ]
          refine wpAnyH_take (i := 4) (oi := { dst := some 30, op := Op.binOp BinOp.lss 3 (Operand.tmp 27) (Operand.tmp 29) 3, type := 4, pos := "inode.go:123", after := #[{ on := 1, ground := Ground.data }, { on := 3, ground := Ground.data }], guard := none }) (v := ?vh131r5o4) rfl (by kernel_rfl) (by kernel_rfl) (by kernel_rfl) (fun _ _ _ h => h) (Or.inl ⟨by rfl, ?hh131r5o4⟩) hS ?_
          case hh131r5o4 => (intro wx hx; skip; go_simp; (try with_reducible rfl))
          try simp only [Act.put, List.setIfInBounds_toArray, List.set_cons_zero, List.set_cons_succ]
          refine wpAnyH_take (i := 5) (oi := { dst := some 25, op := Op.assign (Operand.tmp 30), type := 4, pos := "inode.go:123", after := #[{ on := 4, ground := Ground.data }, { on := 3, ground := Ground.chain }], guard := none }) (v := ?vh131r5o5) rfl (by kernel_rfl) (by kernel_rfl) (by kernel_rfl) (fun _ _ _ h => h) (Or.inl ⟨by rfl, ?hh131r5o5⟩) hS ?_
          case hh131r5o5 => (intro wx hx; skip; go_simp; (try with_reducible rfl))
          try simp only [Act.put, List.setIfInBounds_toArray, List.set_cons_zero, List.set_cons_succ]
          refine wpAnyH_done (by kernel_rfl) ?_ _
          have hOB := Lib.hid (hO1.quiet hgB)
          clear hS hS1 hgB hO1 hO hS0
          go_wp2
          go_ret
          exact ⟨rfl, hOB.out.less⟩
        · rw [if_neg h3] at he
          subst he
          go_enter Try.func31, Try.ntmps31
          go_wp2_with fail
          refine (HI.out _).mono ?_
          rintro e w1 ⟨rfl, hg⟩
          replace hO := Lib.hid (hO.out.quiet hg)
          have hS0 := Hgeo.out _ hO.out
          clear hg y0 y1 y2
          go_wp2_with fail
          rw [← HG.out]
          refine wp_region_held_drew (S := fun w' => GeoS G a b c w') (by kernel_rfl) (hS0.keep (grown_drew (World.grownBy.refl _ none))) (fun hS => ?_)
          refine wpAnyH_take (i := 0) (oi := { dst := some 26, op := Op.move (Operand.tmp 0), type := 31, pos := "inode.go:123", after := #[], guard := none }) (v := ?vh231r5o0) rfl (by kernel_rfl) (by kernel_rfl) (by kernel_rfl) (fun _ _ _ h => h) (Or.inl ⟨by rfl, ?hh231r5o0⟩) hS ?_
          case hh231r5o0 => (intro wx hx; skip; go_simp; (try with_reducible rfl))
          try simp only [Act.put, List.setIfInBounds_toArray, List.set_cons_zero, List.set_cons_succ]
          refine wpAnyH_take (i := 2) (oi := { dst := some 28, op := Op.load 23 (Operand.tmp 5), type := 23, pos := "inode.go:123", after := #[], guard := none }) (v := ?vh231r5o2) rfl (by kernel_rfl) (by kernel_rfl) (by kernel_rfl) (fun _ _ _ h => h) (Or.inl ⟨by rfl, ?hh231r5o2⟩) hS ?_
          case hh231r5o2 => (intro wx hx; obtain ⟨z0, z1, z2⟩ := GeoS.cells hx; go_simp; (try with_reducible rfl))
          try simp only [Act.put, List.setIfInBounds_toArray, List.set_cons_zero, List.set_cons_succ]
          refine wpAnyH_ready (rs := [1]) (by kernel_rfl) (by simp) ?_
          refine AllReadyH.cons (o := { dst := some 27, op := Op.call { callee := Callee.value (Operand.func 45), args := #[Operand.tmp 26], argTypes := #[31] }, type := 3, pos := "inode.go:123", after := #[{ on := 0, ground := Ground.data }], guard := none }) rfl (fun K hK => ?_) AllReadyH.nil
          go_simp
          have hO1 := hO.out.quiet (grown_drew (World.grownBy.refl _ none))
          refine (HLen.out _ hO1).mono ?_
          rintro e wA ⟨rfl, rfl⟩
          have hS1 := hS
          refine hK.out _ _ ?hsh231r5o1 (fun hS => ?_)
          case hsh231r5o1 => (exact hS1)
          clear hK K
          try simp only [Act.put, List.setIfInBounds_toArray, List.set_cons_zero, List.set_cons_succ]
          refine wpAnyH_ready (rs := [3]) (by kernel_rfl) (by simp) ?_
          refine AllReadyH.cons (o := { dst := some 29, op := Op.call { callee := Callee.value (Operand.func 46), args := #[Operand.tmp 28], argTypes := #[23] }, type := 3, pos := "inode.go:123", after := #[{ on := 2, ground := Ground.data }, { on := 1, ground := Ground.chain }], guard := none }) rfl (fun K hK => ?_) AllReadyH.nil
          go_simp
          refine (HW.out _).mono ?_
          rintro e wB ⟨rfl, hgB⟩
          have hS1 := hS.keep hgB
          refine hK.out _ _ ?hsh231r5o3 (fun hS => ?_)
          case hsh231r5o3 => (exact hS1)
          clear hK K
          try simp only [Act.put, List.setIfInBounds_toArray, List.set_cons_zero, List.set_cons_succ]
          refine wpAnyH_take (i := 4) (oi := { dst := some 30, op := Op.binOp BinOp.lss 3 (Operand.tmp 27) (Operand.tmp 29) 3, type := 4, pos := "inode.go:123", after := #[{ on := 1, ground := Ground.data }, { on := 3, ground := Ground.data }], guard := none }) (v := ?vh231r5o4) rfl (by kernel_rfl) (by kernel_rfl) (by kernel_rfl) (fun _ _ _ h => h) (Or.inl ⟨by rfl, ?hh231r5o4⟩) hS ?_
          case hh231r5o4 => (intro wx hx; skip; go_simp; (try with_reducible rfl))
          try simp only [Act.put, List.setIfInBounds_toArray, List.set_cons_zero, List.set_cons_succ]
          refine wpAnyH_take (i := 5) (oi := { dst := some 25, op := Op.assign (Operand.tmp 30), type := 4, pos := "inode.go:123", after := #[{ on := 4, ground := Ground.data }, { on := 3, ground := Ground.chain }], guard := none }) (v := ?vh231r5o5) rfl (by kernel_rfl) (by kernel_rfl) (by kernel_rfl) (fun _ _ _ h => h) (Or.inl ⟨by rfl, ?hh231r5o5⟩) hS ?_
          case hh231r5o5 => (intro wx hx; skip; go_simp; (try with_reducible rfl))
          try simp only [Act.put, List.setIfInBounds_toArray, List.set_cons_zero, List.set_cons_succ]
          refine wpAnyH_done (by kernel_rfl) ?_ _
          have hOB := Lib.hid (hO1.quiet hgB)
          clear hS hS1 hgB hO1 hO hS0
          go_wp2
          go_ret
          exact ⟨rfl, hOB.out.less⟩

set_option maxRecDepth 100000 in
set_option maxHeartbeats 2000000 in
/-- Put, where there is such an inode, and room. -/
theorem PutH12 (k g : Nat) (xs : List Nat) (L : List (Nat × Nat)) (a b c n at_ : Int) (v0 v1 v2 v3 v4 v5 v6 v7 v8 v9 : Nat) (en : Int) (w0 w : World) (Ps Qs : List Pr) (h : Own w0 w Ps) (hk : Ps[k]? = some (viewP g xs L)) (hn : 1 ≤ n) (hat : inodeV a b c n = at_) (ha : 0 ≤ at_ ∧ at_ + 10 ≤ (xs.length : Int)) (hxl : xs.length ≤ 1000000)
    (hwd : wordsV a b c ≤ (xs.length : Int)) (hr : rightB a b c v0 v1 v2 v3 v4 v5 v6 v7 v8 v9 = true)
    (hv : ∀ x ∈ [v0, v1, v2, v3, v4, v5, v6, v7, v8, v9], x < 18446744073709551616) (he : (allE xs L (rowS at_ [v0, v1, v2, v3, v4, v5, v6, v7, v8, v9]) : Int) = en) (hQ : Ps.set k (viewP g xs (allL xs L (rowS at_ [v0, v1, v2, v3, v4, v5, v6, v7, v8, v9]))) = Qs) :
    Calls Try.prog 17 #[.pointer (some ⟨g, 0, none⟩), gv a b c, .int .i64 n, .agg #[.int .u64 (v0 : Int), .int .u64 (v1 : Int), .int .u64 (v2 : Int), .int .u64 (v3 : Int), .int .u64 (v4 : Int), .int .u64 (v5 : Int), .int .u64 (v6 : Int), .int .u64 (v7 : Int), .int .u64 (v8 : Int), .int .u64 (v9 : Int)]] w fun e w' => e = .returned (.int .i64 en) ∧ Own w0 w' Qs := by
  have hkl := (List.getElem?_eq_some_iff.1 hk).1
  obtain ⟨G, HG⟩ : ∃ G, Hid (G = w.heap.size) := ⟨_, Lib.hid rfl⟩
  obtain ⟨N, HN⟩ : ∃ N, Hid (N = w.heap.size + 1) := ⟨_, Lib.hid rfl⟩
  have hO : Own w0 ((w.alloc (.cells #[.int .i64 a, .int .i64 b, .int .i64 c] 23)).alloc (.cells #[.int .u64 (v0 : Int), .int .u64 (v1 : Int), .int .u64 (v2 : Int), .int .u64 (v3 : Int), .int .u64 (v4 : Int), .int .u64 (v5 : Int), .int .u64 (v6 : Int), .int .u64 (v7 : Int), .int .u64 (v8 : Int), .int .u64 (v9 : Int)] 38)) (Ps ++ [boxP G 23 #[.int .i64 a, .int .i64 b, .int .i64 c], boxP N 38 #[.int .u64 (v0 : Int), .int .u64 (v1 : Int), .int .u64 (v2 : Int), .int .u64 (v3 : Int), .int .u64 (v4 : Int), .int .u64 (v5 : Int), .int .u64 (v6 : Int), .int .u64 (v7 : Int), .int .u64 (v8 : Int), .int .u64 (v9 : Int)]]) := by
    have h := (h.addBox 23 #[.int .i64 a, .int .i64 b, .int .i64 c]).addBox 38 #[.int .u64 (v0 : Int), .int .u64 (v1 : Int), .int .u64 (v2 : Int), .int .u64 (v3 : Int), .int .u64 (v4 : Int), .int .u64 (v5 : Int), .int .u64 (v6 : Int), .int .u64 (v7 : Int), .int .u64 (v8 : Int), .int .u64 (v9 : Int)]
    rw [World.size_alloc, ← HN.out, ← HG.out, List.append_assoc] at h
    exact h
  have Hk := Lib.hid (show ∀ Rs, (Ps ++ Rs)[k]? = some (viewP g xs L) from fun Rs => by rw [List.getElem?_append_left hkl]; exact hk)
  have Hgeo := Lib.hid (fun wx (hO : Own w0 wx (Ps ++ [boxP G 23 #[.int .i64 a, .int .i64 b, .int .i64 c], boxP N 38 #[.int .u64 (v0 : Int), .int .u64 (v1 : Int), .int .u64 (v2 : Int), .int .u64 (v3 : Int), .int .u64 (v4 : Int), .int .u64 (v5 : Int), .int .u64 (v6 : Int), .int .u64 (v7 : Int), .int .u64 (v8 : Int), .int .u64 (v9 : Int)]])) => show GeoS G a b c wx ∧ NodeS N v0 v1 v2 v3 v4 v5 v6 v7 v8 v9 wx from ⟨Own.box hO Ps.length (by rw [List.getElem?_append_right (Nat.le_refl _), Nat.sub_self]; rfl), Own.box hO (Ps.length + 1) (by rw [List.getElem?_append_right (by omega), show Ps.length + 1 - Ps.length = 1 from by omega]; rfl)⟩)
  have Hgeo2 := Lib.hid (fun wx (hO : Own w0 wx (Qs ++ [boxP G 23 #[.int .i64 a, .int .i64 b, .int .i64 c], boxP N 38 #[.int .u64 (v0 : Int), .int .u64 (v1 : Int), .int .u64 (v2 : Int), .int .u64 (v3 : Int), .int .u64 (v4 : Int), .int .u64 (v5 : Int), .int .u64 (v6 : Int), .int .u64 (v7 : Int), .int .u64 (v8 : Int), .int .u64 (v9 : Int)]])) => show GeoS G a b c wx ∧ NodeS N v0 v1 v2 v3 v4 v5 v6 v7 v8 v9 wx from ⟨Own.box hO Qs.length (by rw [List.getElem?_append_right (Nat.le_refl _), Nat.sub_self]; rfl), Own.box hO (Qs.length + 1) (by rw [List.getElem?_append_right (by omega), show Qs.length + 1 - Qs.length = 1 from by omega]; rfl)⟩)
  have HR := Lib.hid (fun wx => Right_any a b c v0 v1 v2 v3 v4 v5 v6 v7 v8 v9 wx)
  have HI := Lib.hid (fun wx => InodeAt_any a b c n wx)
  rw [hr] at HR
  rw [hat] at HI
  have Hhas := Lib.hid (fun wx (hO : Own w0 wx (Ps ++ [boxP G 23 #[.int .i64 a, .int .i64 b, .int .i64 c], boxP N 38 #[.int .u64 (v0 : Int), .int .u64 (v1 : Int), .int .u64 (v2 : Int), .int .u64 (v3 : Int), .int .u64 (v4 : Int), .int .u64 (v5 : Int), .int .u64 (v6 : Int), .int .u64 (v7 : Int), .int .u64 (v8 : Int), .int .u64 (v9 : Int)]])) => hasH k g xs L a b c n true 0 w0 wx _ hO (Hk.out _) (by unfold hasE; rw [if_neg (by rw [hat]; rintro (h | h | h); omega; omega; cases h), if_neg (by omega)]))
  have Hput := Lib.hid (fun wx (hO : Own w0 wx (Ps ++ [boxP G 23 #[.int .i64 a, .int .i64 b, .int .i64 c], boxP N 38 #[.int .u64 (v0 : Int), .int .u64 (v1 : Int), .int .u64 (v2 : Int), .int .u64 (v3 : Int), .int .u64 (v4 : Int), .int .u64 (v5 : Int), .int .u64 (v6 : Int), .int .u64 (v7 : Int), .int .u64 (v8 : Int), .int .u64 (v9 : Int)]])) => putH k g xs L at_ v0 v1 v2 v3 v4 v5 v6 v7 v8 v9 en w0 wx _ (Qs ++ [boxP G 23 #[.int .i64 a, .int .i64 b, .int .i64 c], boxP N 38 #[.int .u64 (v0 : Int), .int .u64 (v1 : Int), .int .u64 (v2 : Int), .int .u64 (v3 : Int), .int .u64 (v4 : Int), .int .u64 (v5 : Int), .int .u64 (v6 : Int), .int .u64 (v7 : Int), .int .u64 (v8 : Int), .int .u64 (v9 : Int)]]) hO (Hk.out _) ha hxl hv he (by rw [List.set_append_left _ _ hkl, hQ]))
  unfold nv gv at *
  have hS0 := Hgeo.out _ hO
  replace hO := Lib.hid hO
  clear h hk hkl ha hxl hwd hr hv he hQ hat hn
  go_enter Try.func17, Try.ntmps17
  go_wp2_with fail
  rw [← HN.out, ← HG.out]
  refine wp_region_held_drew (S := fun w' => GeoS G a b c w' ∧ NodeS N v0 v1 v2 v3 v4 v5 v6 v7 v8 v9 w') (by kernel_rfl) (And.intro (hS0.1.keep (grown_drew (World.grownBy.refl _ none))) (hS0.2.keep (grown_drew (World.grownBy.refl _ none)))) (fun hS => ?_)
  refine wpAnyH_take (i := 0) (oi := { dst := some 10, op := Op.move (Operand.tmp 0), type := 31, pos := "inode.go:89", after := #[], guard := none }) (v := ?vp317r1o0) rfl (by kernel_rfl) (by kernel_rfl) (by kernel_rfl) (fun _ _ _ h => h) (Or.inl ⟨by rfl, ?hp317r1o0⟩) hS ?_
  case hp317r1o0 => (intro wx hx; skip; go_simp; (try with_reducible rfl))
  try simp only [Act.put, List.setIfInBounds_toArray, List.set_cons_zero, List.set_cons_succ]
  refine wpAnyH_take (i := 1) (oi := { dst := some 11, op := Op.load 23 (Operand.tmp 5), type := 23, pos := "inode.go:89", after := #[], guard := none }) (v := ?vp317r1o1) rfl (by kernel_rfl) (by kernel_rfl) (by kernel_rfl) (fun _ _ _ h => h) (Or.inl ⟨by rfl, ?hp317r1o1⟩) hS ?_
  case hp317r1o1 => (intro wx hx; obtain ⟨hx0, hx1⟩ := hx; obtain ⟨y0, y1, y2⟩ := GeoS.cells hx0; obtain ⟨z0, z1, z2, z3, z4, z5, z6, z7, z8, z9⟩ := NodeS.cells hx1; go_simp; (try with_reducible rfl))
  try simp only [Act.put, List.setIfInBounds_toArray, List.set_cons_zero, List.set_cons_succ]
  refine wpAnyH_take (i := 2) (oi := { dst := some 12, op := Op.move (Operand.tmp 2), type := 3, pos := "inode.go:89", after := #[], guard := none }) (v := ?vp317r1o2) rfl (by kernel_rfl) (by kernel_rfl) (by kernel_rfl) (fun _ _ _ h => h) (Or.inl ⟨by rfl, ?hp317r1o2⟩) hS ?_
  case hp317r1o2 => (intro wx hx; skip; go_simp; (try with_reducible rfl))
  try simp only [Act.put, List.setIfInBounds_toArray, List.set_cons_zero, List.set_cons_succ]
  refine wpAnyH_take (i := 3) (oi := { dst := some 13, op := Op.load 23 (Operand.tmp 5), type := 23, pos := "inode.go:89", after := #[], guard := none }) (v := ?vp317r1o3) rfl (by kernel_rfl) (by kernel_rfl) (by kernel_rfl) (fun _ _ _ h => h) (Or.inl ⟨by rfl, ?hp317r1o3⟩) hS ?_
  case hp317r1o3 => (intro wx hx; obtain ⟨hx0, hx1⟩ := hx; obtain ⟨y0, y1, y2⟩ := GeoS.cells hx0; obtain ⟨z0, z1, z2, z3, z4, z5, z6, z7, z8, z9⟩ := NodeS.cells hx1; go_simp; (try with_reducible rfl))
  try simp only [Act.put, List.setIfInBounds_toArray, List.set_cons_zero, List.set_cons_succ]
  refine wpAnyH_take (i := 4) (oi := { dst := some 14, op := Op.load 38 (Operand.tmp 7), type := 38, pos := "inode.go:89", after := #[], guard := none }) (v := ?vp317r1o4) rfl (by kernel_rfl) (by kernel_rfl) (by kernel_rfl) (fun _ _ _ h => h) (Or.inl ⟨by rfl, ?hp317r1o4⟩) hS ?_
  case hp317r1o4 => (intro wx hx; obtain ⟨hx0, hx1⟩ := hx; obtain ⟨y0, y1, y2⟩ := GeoS.cells hx0; obtain ⟨z0, z1, z2, z3, z4, z5, z6, z7, z8, z9⟩ := NodeS.cells hx1; go_simp; (try with_reducible rfl))
  try simp only [Act.put, List.setIfInBounds_toArray, List.set_cons_zero, List.set_cons_succ]
  refine wpAnyH_ready (rs := [5]) (by kernel_rfl) (by simp) ?_
  refine AllReadyH.cons (o := { dst := some 15, op := Op.call { callee := Callee.value (Operand.func 13), args := #[Operand.tmp 13, Operand.tmp 14], argTypes := #[23, 38] }, type := 4, pos := "inode.go:89", after := #[{ on := 3, ground := Ground.data }, { on := 4, ground := Ground.data }], guard := none }) rfl (fun K hK => ?_) AllReadyH.nil
  go_simp
  refine (HR.out _).mono ?_
  rintro e wA ⟨rfl, hgA⟩
  have hO1 := (hO.out.quiet (grown_drew (World.grownBy.refl _ none))).quiet hgA
  have hS1 := Hgeo.out _ hO1
  refine hK.out _ _ ?hsp317r1o5 (fun hS => ?_)
  case hsp317r1o5 => (exact hS1)
  clear hK K
  try simp only [Act.put, List.setIfInBounds_toArray, List.set_cons_zero, List.set_cons_succ]
  refine wpAnyH_ready (rs := [6]) (by kernel_rfl) (by simp) ?_
  refine AllReadyH.cons (o := { dst := some 16, op := Op.call { callee := Callee.value (Operand.func 31), args := #[Operand.tmp 10, Operand.tmp 11, Operand.tmp 12, Operand.tmp 15], argTypes := #[31, 23, 3, 4] }, type := 47, pos := "inode.go:89", after := #[{ on := 0, ground := Ground.data }, { on := 1, ground := Ground.data }, { on := 2, ground := Ground.data }, { on := 5, ground := Ground.data }, { on := 5, ground := Ground.chain }], guard := none }) rfl (fun K hK => ?_) AllReadyH.nil
  go_simp
  refine (Hhas.out _ hO1).mono ?_
  rintro e wB ⟨rfl, hO2⟩
  have hS1 := Hgeo.out _ hO2
  refine hK.out _ _ ?hsp317r1o6 (fun hS => ?_)
  case hsp317r1o6 => (exact hS1)
  clear hK K
  try simp only [Act.put, List.setIfInBounds_toArray, List.set_cons_zero, List.set_cons_succ]
  refine wpAnyH_take (i := 7) (oi := { dst := some 9, op := Op.assign (Operand.tmp 16), type := 47, pos := "inode.go:89", after := #[{ on := 6, ground := Ground.data }, { on := 6, ground := Ground.chain }, { on := 0, ground := Ground.phase }, { on := 1, ground := Ground.phase }, { on := 2, ground := Ground.phase }, { on := 3, ground := Ground.phase }, { on := 4, ground := Ground.phase }, { on := 5, ground := Ground.phase }, { on := 6, ground := Ground.phase }], guard := none }) (v := ?vp317r1o7) rfl (by kernel_rfl) (by kernel_rfl) (by kernel_rfl) (fun _ _ _ h => h) (Or.inl ⟨by rfl, ?hp317r1o7⟩) hS ?_
  case hp317r1o7 => (intro wx hx; skip; go_simp; (try with_reducible rfl))
  try simp only [Act.put, List.setIfInBounds_toArray, List.set_cons_zero, List.set_cons_succ]
  refine wpAnyH_done (by kernel_rfl) ?_ _
  have hOB := Lib.hid hO2
  have hS0 := Hgeo.out _ hO2
  clear hS hS1 hgA hO1 hO2 hO Hhas HR
  go_wp2_with fail
  refine wp_region_held_drew (S := fun w' => GeoS G a b c w' ∧ NodeS N v0 v1 v2 v3 v4 v5 v6 v7 v8 v9 w') (by kernel_rfl) (And.intro (hS0.1.keep (grown_drew (World.grownBy.refl _ none))) (hS0.2.keep (grown_drew (World.grownBy.refl _ none)))) (fun hS => ?_)
  refine wpAnyH_take (i := 0) (oi := { dst := some 20, op := Op.move (Operand.tmp 0), type := 31, pos := "inode.go:92", after := #[], guard := none }) (v := ?vp417r4o0) rfl (by kernel_rfl) (by kernel_rfl) (by kernel_rfl) (fun _ _ _ h => h) (Or.inl ⟨by rfl, ?hp417r4o0⟩) hS ?_
  case hp417r4o0 => (intro wx hx; skip; go_simp; (try with_reducible rfl))
  try simp only [Act.put, List.setIfInBounds_toArray, List.set_cons_zero, List.set_cons_succ]
  refine wpAnyH_take (i := 1) (oi := { dst := some 21, op := Op.load 23 (Operand.tmp 5), type := 23, pos := "inode.go:92", after := #[], guard := none }) (v := ?vp417r4o1) rfl (by kernel_rfl) (by kernel_rfl) (by kernel_rfl) (fun _ _ _ h => h) (Or.inl ⟨by rfl, ?hp417r4o1⟩) hS ?_
  case hp417r4o1 => (intro wx hx; obtain ⟨hx0, hx1⟩ := hx; obtain ⟨y0, y1, y2⟩ := GeoS.cells hx0; obtain ⟨z0, z1, z2, z3, z4, z5, z6, z7, z8, z9⟩ := NodeS.cells hx1; go_simp; (try with_reducible rfl))
  try simp only [Act.put, List.setIfInBounds_toArray, List.set_cons_zero, List.set_cons_succ]
  refine wpAnyH_take (i := 2) (oi := { dst := some 22, op := Op.move (Operand.tmp 2), type := 3, pos := "inode.go:92", after := #[], guard := none }) (v := ?vp417r4o2) rfl (by kernel_rfl) (by kernel_rfl) (by kernel_rfl) (fun _ _ _ h => h) (Or.inl ⟨by rfl, ?hp417r4o2⟩) hS ?_
  case hp417r4o2 => (intro wx hx; skip; go_simp; (try with_reducible rfl))
  try simp only [Act.put, List.setIfInBounds_toArray, List.set_cons_zero, List.set_cons_succ]
  refine wpAnyH_take (i := 4) (oi := { dst := some 24, op := Op.load 38 (Operand.tmp 7), type := 38, pos := "inode.go:92", after := #[], guard := none }) (v := ?vp417r4o4) rfl (by kernel_rfl) (by kernel_rfl) (by kernel_rfl) (fun _ _ _ h => h) (Or.inl ⟨by rfl, ?hp417r4o4⟩) hS ?_
  case hp417r4o4 => (intro wx hx; obtain ⟨hx0, hx1⟩ := hx; obtain ⟨y0, y1, y2⟩ := GeoS.cells hx0; obtain ⟨z0, z1, z2, z3, z4, z5, z6, z7, z8, z9⟩ := NodeS.cells hx1; go_simp; (try with_reducible rfl))
  try simp only [Act.put, List.setIfInBounds_toArray, List.set_cons_zero, List.set_cons_succ]
  refine wpAnyH_ready (rs := [3]) (by kernel_rfl) (by simp) ?_
  refine AllReadyH.cons (o := { dst := some 23, op := Op.call { callee := Callee.value (Operand.func 24), args := #[Operand.tmp 21, Operand.tmp 22], argTypes := #[23, 3] }, type := 3, pos := "inode.go:92", after := #[{ on := 1, ground := Ground.data }, { on := 2, ground := Ground.data }], guard := none }) rfl (fun K hK => ?_) AllReadyH.nil
  go_simp
  refine (HI.out _).mono ?_
  rintro e wA ⟨rfl, hgA⟩
  have hO1 := (hOB.out.quiet (grown_drew (World.grownBy.refl _ none))).quiet hgA
  have hS1 := Hgeo.out _ hO1
  refine hK.out _ _ ?hsp417r4o3 (fun hS => ?_)
  case hsp417r4o3 => (exact hS1)
  clear hK K
  try simp only [Act.put, List.setIfInBounds_toArray, List.set_cons_zero, List.set_cons_succ]
  refine wpAnyH_ready (rs := [5]) (by kernel_rfl) (by simp) ?_
  refine AllReadyH.cons (o := { dst := some 25, op := Op.call { callee := Callee.value (Operand.func 36), args := #[Operand.tmp 20, Operand.tmp 23, Operand.tmp 24], argTypes := #[31, 3, 38] }, type := 47, pos := "inode.go:92", after := #[{ on := 0, ground := Ground.data }, { on := 3, ground := Ground.data }, { on := 4, ground := Ground.data }, { on := 3, ground := Ground.chain }], guard := none }) rfl (fun K hK => ?_) AllReadyH.nil
  go_simp
  refine (Hput.out _ hO1).mono ?_
  rintro e wB ⟨rfl, hO2⟩
  have hS1 := Hgeo2.out _ hO2
  refine hK.out _ _ ?hsp417r4o5 (fun hS => ?_)
  case hsp417r4o5 => (exact hS1)
  clear hK K
  try simp only [Act.put, List.setIfInBounds_toArray, List.set_cons_zero, List.set_cons_succ]
  refine wpAnyH_take (i := 6) (oi := { dst := some 8, op := Op.assign (Operand.tmp 25), type := 47, pos := "inode.go:92", after := #[{ on := 5, ground := Ground.data }, { on := 5, ground := Ground.chain }, { on := 0, ground := Ground.phase }, { on := 1, ground := Ground.phase }, { on := 2, ground := Ground.phase }, { on := 3, ground := Ground.phase }, { on := 4, ground := Ground.phase }, { on := 5, ground := Ground.phase }], guard := none }) (v := ?vp417r4o6) rfl (by kernel_rfl) (by kernel_rfl) (by kernel_rfl) (fun _ _ _ h => h) (Or.inl ⟨by rfl, ?hp417r4o6⟩) hS ?_
  case hp417r4o6 => (intro wx hx; skip; go_simp; (try with_reducible rfl))
  try simp only [Act.put, List.setIfInBounds_toArray, List.set_cons_zero, List.set_cons_succ]
  refine wpAnyH_done (by kernel_rfl) ?_ _
  have hOC := Lib.hid hO2
  clear hS hS0 hS1 hO1 hO2 hOB HI Hput
  go_wp2
  go_ret
  exact ⟨rfl, hOC.out.less⟩
end Go.Proofs.Ytmoddhfemejekaa
