import Derived.Test.YtfljlmmiiccooaaGreatDoorPk24
import Derived.Test.YtfljlmmiiccooaaGreatDoorPk21
set_option maxRecDepth 100000
set_option maxHeartbeats 4000000
section
namespace Go.Proofs.YtfljlmmiiccooaaGreatDoor
open Go.RowKit Go.Grommet
def NodeS (N : Nat) (k l o s d0 d1 d2 d3 ch p : Nat) (w : World) : Prop := w.heap[N]? = some (.cells #[.int .u64 (k : Int), .int .u64 (l : Int), .int .u64 (o : Int), .int .u64 (s : Int), .int .u64 (d0 : Int), .int .u64 (d1 : Int), .int .u64 (d2 : Int), .int .u64 (d3 : Int), .int .u64 (ch : Int), .int .u64 (p : Int)] 133 (0, 0))
theorem NodeS.keep {N : Nat} {k l o s d0 d1 d2 d3 ch p : Nat} {w w' : World} (h : NodeS N k l o s d0 d1 d2 d3 ch p w) (hg : w.grownBy w' none) : NodeS N k l o s d0 d1 d2 d3 ch p w' := (hg.block N (lt_of_block h) (by simp)).trans h
theorem NodeS.cells {N : Nat} {k l o s d0 d1 d2 d3 ch p : Nat} {w : World} (h : NodeS N k l o s d0 d1 d2 d3 ch p w) : w.cell? ⟨N, 0, none⟩ = some (.int .u64 (k : Int)) ∧ w.cell? ⟨N, 1, none⟩ = some (.int .u64 (l : Int)) ∧ w.cell? ⟨N, 2, none⟩ = some (.int .u64 (o : Int)) ∧ w.cell? ⟨N, 3, none⟩ = some (.int .u64 (s : Int)) ∧ w.cell? ⟨N, 4, none⟩ = some (.int .u64 (d0 : Int)) ∧ w.cell? ⟨N, 5, none⟩ = some (.int .u64 (d1 : Int)) ∧ w.cell? ⟨N, 6, none⟩ = some (.int .u64 (d2 : Int)) ∧ w.cell? ⟨N, 7, none⟩ = some (.int .u64 (d3 : Int)) ∧ w.cell? ⟨N, 8, none⟩ = some (.int .u64 (ch : Int)) ∧ w.cell? ⟨N, 9, none⟩ = some (.int .u64 (p : Int)) := by
 unfold NodeS at h
 refine ⟨?_, ?_, ?_, ?_, ?_, ?_, ?_, ?_, ?_, ?_⟩ <;> simp [World.cell?, h]
theorem NodeS.free {N : Nat} {k l o s d0 d1 d2 d3 ch p : Nat} {w : World} (h : NodeS N k l o s d0 d1 d2 d3 ch p w) (i : Nat) : w.frozen? ⟨N, i, none⟩ = false := by
 unfold NodeS at h
 simp [World.frozen?, h]
def GeoS (G : Nat) (a b c : Int) (w : World) : Prop := w.heap[G]? = some (.cells #[.int .i64 a, .int .i64 b, .int .i64 c] 23 (0, 0))
theorem GeoS.keep {G : Nat} {a b c : Int} {w w' : World} (h : GeoS G a b c w) (hg : w.grownBy w' none) : GeoS G a b c w' := (hg.block G (lt_of_block h) (by simp)).trans h
theorem GeoS.cells {G : Nat} {a b c : Int} {w : World} (h : GeoS G a b c w) : w.cell? ⟨G, 0, none⟩ = some (.int .i64 a) ∧ w.cell? ⟨G, 1, none⟩ = some (.int .i64 b) ∧ w.cell? ⟨G, 2, none⟩ = some (.int .i64 c) := by
 unfold GeoS at h
 refine ⟨?_, ?_, ?_⟩ <;> simp [World.cell?, h]
def hasE (a b c n : Int) (m : Bool) (len : Nat) : Int := if n < 1 ∨ inodeV a b c n < 0 ∨ m = false then 1 else if (len : Int) < wordsV a b c then 8 else 0
theorem hasH (k g : Nat) (xs : List Nat) (L : List (Nat × Nat)) (a b c n : Int) (m : Bool) (en : Int) (w0 w : World) (Ps : List Pr) (h : Own w0 w Ps) (hk : Ps[k]? = some (viewP g xs L)) (he : hasE a b c n m xs.length = en) :
  Calls Tryz.prog 101 #[.pointer (some ⟨g, 0, none⟩), gv a b c, .int .i64 n, .bool m] w fun e w' => e = .returned (.int .i64 en) ∧ Own w0 w' Ps := by
 have hkl := (List.getElem?_eq_some_iff.1 hk).1
 obtain ⟨G, HG⟩ : ∃ G, Hid (G = w.heap.size) := ⟨_, Lib.hid rfl⟩
 have hO : Own w0 (w.alloc (.cells #[.int .i64 a, .int .i64 b, .int .i64 c] 23)) (Ps ++ [boxP G 23 #[.int .i64 a, .int .i64 b, .int .i64 c]]) := by rw [HG.out]; exact h.addBox _ _
 have HLen := Lib.hid (fun wx (hO : Own w0 wx (Ps ++ [boxP G 23 #[.int .i64 a, .int .i64 b, .int .i64 c]])) => LenH k g xs L w0 wx _ hO (by rw [List.getElem?_append_left hkl]; exact hk))
 have Hgeo := Lib.hid (fun wx (hO : Own w0 wx (Ps ++ [boxP G 23 #[.int .i64 a, .int .i64 b, .int .i64 c]])) => show GeoS G a b c wx from Own.box hO Ps.length (by rw [List.getElem?_append_right (Nat.le_refl _), Nat.sub_self]; rfl))
 have HI := Lib.hid (fun wx => InodeAt_any a b c n wx)
 have HW := Lib.hid (fun wx => Words_any a b c wx)
 unfold hasE at he
 generalize inodeV a b c n = iv at *
 generalize wordsV a b c = wv9 at *
 generalize xs.length = len at *
 unfold gv at HI HW ⊢
 obtain ⟨y0, y1, y2⟩ := (Hgeo.out _ hO).cells
 replace hO := Lib.hid hO
 clear h hk hkl
 by_cases h1 : n < 1
 ·rw [if_pos (.inl h1)] at he
  subst he
  go_enter Tryz.func101, Tryz.ntmps101
  go_wp2
  go_ret
  exact ⟨rfl, hO.out.less⟩
 ·by_cases h2 : iv < 0
  ·rw [if_pos (.inr (.inl h2))] at he
   subst he
   go_enter Tryz.func101, Tryz.ntmps101
   go_wp2_with fail
   refine (HI.out _).mono ?_
   rintro e w1 ⟨rfl, hg⟩
   replace hO := Lib.hid (hO.out.quiet hg)
   clear hg
   go_wp2
   go_ret
   exact ⟨rfl, hO.out.less⟩
  ·cases m with
   | false =>
    rw [if_pos (.inr (.inr rfl))] at he
    subst he
    go_enter Tryz.func101, Tryz.ntmps101
    go_wp2_with fail
    refine (HI.out _).mono ?_
    rintro e w1 ⟨rfl, hg⟩
    replace hO := Lib.hid (hO.out.quiet hg)
    clear hg
    go_wp2
    go_ret
    exact ⟨rfl, hO.out.less⟩
   | true =>
    rw [if_neg (by rintro (h | h | h); exact h1 h; exact h2 h; cases h)] at he
    have d2 : decide (iv < 0) = false := by simpa using h2
    by_cases h3 : (len : Int) < wv9
    ·rw [if_pos h3] at he
     subst he
     go_enter Tryz.func101, Tryz.ntmps101
     go_wp2_with fail
     refine (HI.out _).mono ?_
     rintro e w1 ⟨rfl, hg⟩
     replace hO := Lib.hid (hO.out.quiet hg)
     have hS0 := Hgeo.out _ hO.out
     clear hg y0 y1 y2
     go_wp2_with fail
     rw [← HG.out]
     refine wp_region_held_drew (S := fun w' => GeoS G a b c w') (by kernel_rfl) (hS0.keep (grown_drew (World.grownBy.refl _ none))) (fun hS => ?_)
     refine wpAnyH_take (i := 0) (oi := ⟨some 26, .move (.tmp 0), 32, "inode.go:123", #[], none⟩) (v := ?vh1101r5o0) rfl (by kernel_rfl) (by kernel_rfl) (by kernel_rfl) (fun _ _ _ h => h) (Or.inl ⟨by rfl, ?hh1101r5o0⟩) hS ?_
     case hh1101r5o0 => (intro wx hx; skip; go_simp; (try with_reducible rfl))
     try simp only [Act.put, List.setIfInBounds_toArray, List.set_cons_zero, List.set_cons_succ]
     refine wpAnyH_take (i := 2) (oi := ⟨some 28, .load 23 (.tmp 5), 23, "inode.go:123", #[], none⟩) (v := ?vh1101r5o2) rfl (by kernel_rfl) (by kernel_rfl) (by kernel_rfl) (fun _ _ _ h => h) (Or.inl ⟨by rfl, ?hh1101r5o2⟩) hS ?_
     case hh1101r5o2 => (intro wx hx; obtain ⟨z0, z1, z2⟩ := GeoS.cells hx; go_simp; (try with_reducible rfl))
     try simp only [Act.put, List.setIfInBounds_toArray, List.set_cons_zero, List.set_cons_succ]
     refine wpAnyH_ready (rs := [1]) (by kernel_rfl) (by simp) ?_
     refine AllReadyH.cons (o := ⟨some 27, .call { callee := Callee.value (Operand.func 87), args := #[.tmp 26], argTypes := #[32] }, 3, "inode.go:123", #[⟨0, .data⟩], none⟩) rfl (fun K hK => ?_) AllReadyH.nil
     go_simp
     have hO1 := hO.out.quiet (grown_drew (World.grownBy.refl _ none))
     refine (HLen.out _ hO1).mono ?_
     rintro e wA ⟨rfl, rfl⟩
     have hS1 := hS
     refine hK.out _ _ ?hsh1101r5o1 (fun hS => ?_)
     case hsh1101r5o1 => (exact hS1)
     clear hK K
     try simp only [Act.put, List.setIfInBounds_toArray, List.set_cons_zero, List.set_cons_succ]
     refine wpAnyH_ready (rs := [3]) (by kernel_rfl) (by simp) ?_
     refine AllReadyH.cons (o := ⟨some 29, .call { callee := Callee.value (Operand.func 31), args := #[.tmp 28], argTypes := #[23] }, 3, "inode.go:123", #[⟨2, .data⟩, ⟨1, .chain⟩], none⟩) rfl (fun K hK => ?_) AllReadyH.nil
     go_simp
     refine (HW.out _).mono ?_
     rintro e wB ⟨rfl, hgB⟩
     have hS1 := hS.keep hgB
     refine hK.out _ _ ?hsh1101r5o3 (fun hS => ?_)
     case hsh1101r5o3 => (exact hS1)
     clear hK K
     try simp only [Act.put, List.setIfInBounds_toArray, List.set_cons_zero, List.set_cons_succ]
     refine wpAnyH_take (i := 4) (oi := ⟨some 30, .binOp BinOp.lss 3 (.tmp 27) (.tmp 29) 3, 4, "inode.go:123", #[⟨1, .data⟩, ⟨3, .data⟩], none⟩) (v := ?vh1101r5o4) rfl (by kernel_rfl) (by kernel_rfl) (by kernel_rfl) (fun _ _ _ h => h) (Or.inl ⟨by rfl, ?hh1101r5o4⟩) hS ?_
     case hh1101r5o4 => (intro wx hx; skip; go_simp; (try with_reducible rfl))
     try simp only [Act.put, List.setIfInBounds_toArray, List.set_cons_zero, List.set_cons_succ]
     refine wpAnyH_take (i := 5) (oi := ⟨some 25, .assign (.tmp 30), 4, "inode.go:123", #[⟨4, .data⟩, ⟨3, .chain⟩], none⟩) (v := ?vh1101r5o5) rfl (by kernel_rfl) (by kernel_rfl) (by kernel_rfl) (fun _ _ _ h => h) (Or.inl ⟨by rfl, ?hh1101r5o5⟩) hS ?_
     case hh1101r5o5 => (intro wx hx; skip; go_simp; (try with_reducible rfl))
     try simp only [Act.put, List.setIfInBounds_toArray, List.set_cons_zero, List.set_cons_succ]
     refine wpAnyH_done (by kernel_rfl) ?_ _
     have hOB := Lib.hid (hO1.quiet hgB)
     clear hS hS1 hgB hO1 hO hS0
     go_wp2
     go_ret
     exact ⟨rfl, hOB.out.less⟩
    ·rw [if_neg h3] at he
     subst he
     go_enter Tryz.func101, Tryz.ntmps101
     go_wp2_with fail
     refine (HI.out _).mono ?_
     rintro e w1 ⟨rfl, hg⟩
     replace hO := Lib.hid (hO.out.quiet hg)
     have hS0 := Hgeo.out _ hO.out
     clear hg y0 y1 y2
     go_wp2_with fail
     rw [← HG.out]
     refine wp_region_held_drew (S := fun w' => GeoS G a b c w') (by kernel_rfl) (hS0.keep (grown_drew (World.grownBy.refl _ none))) (fun hS => ?_)
     refine wpAnyH_take (i := 0) (oi := ⟨some 26, .move (.tmp 0), 32, "inode.go:123", #[], none⟩) (v := ?vh2101r5o0) rfl (by kernel_rfl) (by kernel_rfl) (by kernel_rfl) (fun _ _ _ h => h) (Or.inl ⟨by rfl, ?hh2101r5o0⟩) hS ?_
     case hh2101r5o0 => (intro wx hx; skip; go_simp; (try with_reducible rfl))
     try simp only [Act.put, List.setIfInBounds_toArray, List.set_cons_zero, List.set_cons_succ]
     refine wpAnyH_take (i := 2) (oi := ⟨some 28, .load 23 (.tmp 5), 23, "inode.go:123", #[], none⟩) (v := ?vh2101r5o2) rfl (by kernel_rfl) (by kernel_rfl) (by kernel_rfl) (fun _ _ _ h => h) (Or.inl ⟨by rfl, ?hh2101r5o2⟩) hS ?_
     case hh2101r5o2 => (intro wx hx; obtain ⟨z0, z1, z2⟩ := GeoS.cells hx; go_simp; (try with_reducible rfl))
     try simp only [Act.put, List.setIfInBounds_toArray, List.set_cons_zero, List.set_cons_succ]
     refine wpAnyH_ready (rs := [1]) (by kernel_rfl) (by simp) ?_
     refine AllReadyH.cons (o := ⟨some 27, .call { callee := Callee.value (Operand.func 87), args := #[.tmp 26], argTypes := #[32] }, 3, "inode.go:123", #[⟨0, .data⟩], none⟩) rfl (fun K hK => ?_) AllReadyH.nil
     go_simp
     have hO1 := hO.out.quiet (grown_drew (World.grownBy.refl _ none))
     refine (HLen.out _ hO1).mono ?_
     rintro e wA ⟨rfl, rfl⟩
     have hS1 := hS
     refine hK.out _ _ ?hsh2101r5o1 (fun hS => ?_)
     case hsh2101r5o1 => (exact hS1)
     clear hK K
     try simp only [Act.put, List.setIfInBounds_toArray, List.set_cons_zero, List.set_cons_succ]
     refine wpAnyH_ready (rs := [3]) (by kernel_rfl) (by simp) ?_
     refine AllReadyH.cons (o := ⟨some 29, .call { callee := Callee.value (Operand.func 31), args := #[.tmp 28], argTypes := #[23] }, 3, "inode.go:123", #[⟨2, .data⟩, ⟨1, .chain⟩], none⟩) rfl (fun K hK => ?_) AllReadyH.nil
     go_simp
     refine (HW.out _).mono ?_
     rintro e wB ⟨rfl, hgB⟩
     have hS1 := hS.keep hgB
     refine hK.out _ _ ?hsh2101r5o3 (fun hS => ?_)
     case hsh2101r5o3 => (exact hS1)
     clear hK K
     try simp only [Act.put, List.setIfInBounds_toArray, List.set_cons_zero, List.set_cons_succ]
     refine wpAnyH_take (i := 4) (oi := ⟨some 30, .binOp BinOp.lss 3 (.tmp 27) (.tmp 29) 3, 4, "inode.go:123", #[⟨1, .data⟩, ⟨3, .data⟩], none⟩) (v := ?vh2101r5o4) rfl (by kernel_rfl) (by kernel_rfl) (by kernel_rfl) (fun _ _ _ h => h) (Or.inl ⟨by rfl, ?hh2101r5o4⟩) hS ?_
     case hh2101r5o4 => (intro wx hx; skip; go_simp; (try with_reducible rfl))
     try simp only [Act.put, List.setIfInBounds_toArray, List.set_cons_zero, List.set_cons_succ]
     refine wpAnyH_take (i := 5) (oi := ⟨some 25, .assign (.tmp 30), 4, "inode.go:123", #[⟨4, .data⟩, ⟨3, .chain⟩], none⟩) (v := ?vh2101r5o5) rfl (by kernel_rfl) (by kernel_rfl) (by kernel_rfl) (fun _ _ _ h => h) (Or.inl ⟨by rfl, ?hh2101r5o5⟩) hS ?_
     case hh2101r5o5 => (intro wx hx; skip; go_simp; (try with_reducible rfl))
     try simp only [Act.put, List.setIfInBounds_toArray, List.set_cons_zero, List.set_cons_succ]
     refine wpAnyH_done (by kernel_rfl) ?_ _
     have hOB := Lib.hid (hO1.quiet hgB)
     clear hS hS1 hgB hO1 hO hS0
     go_wp2
     go_ret
     exact ⟨rfl, hOB.out.less⟩
end Go.Proofs.YtfljlmmiiccooaaGreatDoor
end
section
namespace Go.Proofs.YtfljlmmiiccooaaGreatDoor
open Go.RowKit Go.Grommet
theorem GetYes (k g : Nat) (xs : List Nat) (L : List (Nat × Nat)) (a b c n at_ : Int) (f0 f1 f2 f3 f4 f5 f6 f7 f8 f9 : Nat) (w0 w : World) (Ps : List Pr) (h : Own w0 w Ps) (hk : Ps[k]? = some (viewP g xs L)) (hn : 1 ≤ n) (hat : inodeV a b c n = at_) (ha : 0 ≤ at_ ∧ at_ + 10 ≤ (xs.length : Int)) (hxl : xs.length ≤ 1000000)
  (hwd : wordsV a b c ≤ (xs.length : Int)) (hf : ∀ i, i < 10 → gotI xs L (at_ + ((i : Nat) : Int)) = [f0, f1, f2, f3, f4, f5, f6, f7, f8, f9].getD i 0) (hr : rightB a b c f0 f1 f2 f3 f4 f5 f6 f7 f8 f9 = true) :
  Calls Tryz.prog 73 #[.pointer (some ⟨g, 0, none⟩), gv a b c, .int .i64 n] w fun e w' => e = .returned (.tuple #[.agg #[.int .u64 (f0 : Int), .int .u64 (f1 : Int), .int .u64 (f2 : Int), .int .u64 (f3 : Int), .int .u64 (f4 : Int), .int .u64 (f5 : Int), .int .u64 (f6 : Int), .int .u64 (f7 : Int), .int .u64 (f8 : Int), .int .u64 (f9 : Int)], .int .i64 0]) ∧ Own w0 w' Ps := by
 have hkl := (List.getElem?_eq_some_iff.1 hk).1
 obtain ⟨G, HG⟩ : ∃ G, Hid (G = w.heap.size) := ⟨_, Lib.hid rfl⟩
 obtain ⟨M, HM⟩ : ∃ M, Hid (M = w.heap.size + 1) := ⟨_, Lib.hid rfl⟩
 have hO : Own w0 ((w.alloc (.cells #[.int .i64 a, .int .i64 b, .int .i64 c] 23)).alloc (.cells #[.int .u64 0, .int .u64 0, .int .u64 0, .int .u64 0, .int .u64 0, .int .u64 0, .int .u64 0, .int .u64 0, .int .u64 0, .int .u64 0] 133)) (Ps ++ [boxP G 23 #[.int .i64 a, .int .i64 b, .int .i64 c], boxP M 133 #[.int .u64 0, .int .u64 0, .int .u64 0, .int .u64 0, .int .u64 0, .int .u64 0, .int .u64 0, .int .u64 0, .int .u64 0, .int .u64 0]]) := by
  have h := (h.addBox 23 #[.int .i64 a, .int .i64 b, .int .i64 c]).addBox 133 #[.int .u64 0, .int .u64 0, .int .u64 0, .int .u64 0, .int .u64 0, .int .u64 0, .int .u64 0, .int .u64 0, .int .u64 0, .int .u64 0]
  rw [World.size_alloc, ← HM.out, ← HG.out, List.append_assoc] at h
  exact h
 have Hk := Lib.hid (show ∀ Rs, (Ps ++ Rs)[k]? = some (viewP g xs L) from fun Rs => by rw [List.getElem?_append_left hkl]; exact hk)
 have Hgeo := Lib.hid (fun wx Rs (hO : Own w0 wx (Ps ++ (boxP G 23 #[.int .i64 a, .int .i64 b, .int .i64 c] :: Rs))) => show GeoS G a b c wx from Own.box hO Ps.length (by rw [List.getElem?_append_right (Nat.le_refl _), Nat.sub_self]; rfl))
 have HR := Lib.hid (fun wx => Right_any a b c f0 f1 f2 f3 f4 f5 f6 f7 f8 f9 wx)
 rw [hr] at HR
 have HI := Lib.hid (fun wx => InodeAt_any a b c n wx)
 rw [hat] at HI
 obtain ⟨f, hf'⟩ : ∃ f : Nat → Nat, ∀ i : Nat, gotI xs L (at_ + (i : Int)) = f i := ⟨fun i => gotI xs L (at_ + (i : Int)), fun _ => rfl⟩
 have Hhas := Lib.hid (fun wx (hO : Own w0 wx (Ps ++ [boxP G 23 #[.int .i64 a, .int .i64 b, .int .i64 c], boxP M 133 #[.int .u64 0, .int .u64 0, .int .u64 0, .int .u64 0, .int .u64 0, .int .u64 0, .int .u64 0, .int .u64 0, .int .u64 0, .int .u64 0]])) => hasH k g xs L a b c n true 0 w0 wx _ hO (Hk.out _) (by unfold hasE; rw [if_neg (by rw [hat]; rintro (h | h | h); omega; omega; cases h), if_neg (by omega)]))
 have HSt := Lib.hid (fun wx (hO : Own w0 wx (Ps ++ [boxP G 23 #[.int .i64 a, .int .i64 b, .int .i64 c], boxP M 133 #[.int .u64 0, .int .u64 0, .int .u64 0, .int .u64 0, .int .u64 0, .int .u64 0, .int .u64 0, .int .u64 0, .int .u64 0, .int .u64 0]])) => StandsH k g xs L at_ f w0 wx _ hO (Hk.out _) ⟨ha.1, by omega⟩ hf')
 rw [show f 0 = f0 from (hf' 0).symm.trans (hf 0 (by decide)), show f 1 = f1 from (hf' 1).symm.trans (hf 1 (by decide)), show f 2 = f2 from (hf' 2).symm.trans (hf 2 (by decide)), show f 3 = f3 from (hf' 3).symm.trans (hf 3 (by decide)), show f 4 = f4 from (hf' 4).symm.trans (hf 4 (by decide)), show f 5 = f5 from (hf' 5).symm.trans (hf 5 (by decide)), show f 6 = f6 from (hf' 6).symm.trans (hf 6 (by decide)), show f 7 = f7 from (hf' 7).symm.trans (hf 7 (by decide)), show f 8 = f8 from (hf' 8).symm.trans (hf 8 (by decide)), show f 9 = f9 from (hf' 9).symm.trans (hf 9 (by decide))] at HSt
 replace hO := Lib.hid hO
 obtain ⟨y0, y1, y2⟩ := (Hgeo.out _ _ hO.out).cells
 unfold nv gv at *
 clear h hk hkl ha hxl hwd hr hf hf' hat hn
 go_enter Tryz.func73, Tryz.ntmps73
 go_wp2_with fail
 rw [← HM.out, ← HG.out]
 refine (Hhas.out _ hO.out).mono ?_
 rintro e w1 ⟨rfl, hO1⟩
 clear y0 y1 y2 Hhas hO
 obtain ⟨y0, y1, y2⟩ := (Hgeo.out _ _ hO1).cells
 replace hO1 := Lib.hid hO1
 go_wp2_with fail
 refine (HI.out _).mono ?_
 rintro e w2 ⟨rfl, hg⟩
 have hO2 := Lib.hid (hO1.out.quiet hg)
 clear y0 y1 y2 HI hg hO1
 go_wp2_with fail
 refine (HSt.out _ hO2.out).mono ?_
 rintro e w3 ⟨rfl, hO3⟩
 obtain ⟨Y, HY⟩ : ∃ Y, Hid (Y = w3.heap.size) := ⟨_, Lib.hid rfl⟩
 have hO3 : Own w0 (w3.alloc (.cells #[.int .u64 (f0 : Int), .int .u64 (f1 : Int), .int .u64 (f2 : Int), .int .u64 (f3 : Int), .int .u64 (f4 : Int), .int .u64 (f5 : Int), .int .u64 (f6 : Int), .int .u64 (f7 : Int), .int .u64 (f8 : Int), .int .u64 (f9 : Int)] 133)) (Ps ++ [boxP G 23 #[.int .i64 a, .int .i64 b, .int .i64 c], boxP M 133 #[.int .u64 0, .int .u64 0, .int .u64 0, .int .u64 0, .int .u64 0, .int .u64 0, .int .u64 0, .int .u64 0, .int .u64 0, .int .u64 0], boxP Y 133 #[.int .u64 (f0 : Int), .int .u64 (f1 : Int), .int .u64 (f2 : Int), .int .u64 (f3 : Int), .int .u64 (f4 : Int), .int .u64 (f5 : Int), .int .u64 (f6 : Int), .int .u64 (f7 : Int), .int .u64 (f8 : Int), .int .u64 (f9 : Int)]]) := by
  have h := hO3.addBox 133 #[.int .u64 (f0 : Int), .int .u64 (f1 : Int), .int .u64 (f2 : Int), .int .u64 (f3 : Int), .int .u64 (f4 : Int), .int .u64 (f5 : Int), .int .u64 (f6 : Int), .int .u64 (f7 : Int), .int .u64 (f8 : Int), .int .u64 (f9 : Int)]
  rw [← HY.out, List.append_assoc] at h
  exact h
 clear HSt hO2
 obtain ⟨y0, y1, y2⟩ := (Hgeo.out _ _ hO3).cells
 obtain ⟨z0, z1, z2, z3, z4, z5, z6, z7, z8, z9⟩ := NodeS.cells (show NodeS Y f0 f1 f2 f3 f4 f5 f6 f7 f8 f9 _ from Own.box hO3 (Ps.length + 2) (by rw [List.getElem?_append_right (by omega), show Ps.length + 2 - Ps.length = 2 from by omega]; rfl))
 replace hO3 := Lib.hid hO3
 go_wp2_with fail
 rw [← HY.out]
 refine (HR.out _).mono ?_
 rintro e w4 ⟨rfl, hg⟩
 have hO4 := hO3.out.quiet hg
 clear y0 y1 y2 z0 z1 z2 z3 z4 z5 z6 z7 z8 z9 HR hg hO3
 have hz : w4.heap[M]? = some (.cells #[.int .u64 0, .int .u64 0, .int .u64 0, .int .u64 0, .int .u64 0, .int .u64 0, .int .u64 0, .int .u64 0, .int .u64 0, .int .u64 0] 133 (0, 0)) := Own.box hO4 (Ps.length + 1) (by rw [List.getElem?_append_right (by omega), show Ps.length + 1 - Ps.length = 1 from by omega]; rfl)
 obtain ⟨z0, z1, z2, z3, z4, z5, z6, z7, z8, z9⟩ := NodeS.cells (show NodeS Y f0 f1 f2 f3 f4 f5 f6 f7 f8 f9 _ from Own.box hO4 (Ps.length + 2) (by rw [List.getElem?_append_right (by omega), show Ps.length + 2 - Ps.length = 2 from by omega]; rfl))
 have hq : ∀ w5 : World, w4.grownBy w5 (some M) → Own w0 w5 Ps := fun w5 hg => by
  have h : Own w0 w4 ((Ps ++ [boxP G 23 #[.int .i64 a, .int .i64 b, .int .i64 c]]) ++ boxP M 133 #[.int .u64 0, .int .u64 0, .int .u64 0, .int .u64 0, .int .u64 0, .int .u64 0, .int .u64 0, .int .u64 0, .int .u64 0, .int .u64 0] :: [boxP Y 133 #[.int .u64 (f0 : Int), .int .u64 (f1 : Int), .int .u64 (f2 : Int), .int .u64 (f3 : Int), .int .u64 (f4 : Int), .int .u64 (f5 : Int), .int .u64 (f6 : Int), .int .u64 (f7 : Int), .int .u64 (f8 : Int), .int .u64 (f9 : Int)]]) := by rw [List.append_assoc]; exact hO4
  exact (h.forget hg).less
 have Hq := Lib.hid hq
 clear hq hO4
 have m0 : w4.cell? ⟨M, 0, none⟩ = some (.int .u64 0) := by simp [World.cell?, hz]
 have m1 : w4.cell? ⟨M, 1, none⟩ = some (.int .u64 0) := by simp [World.cell?, hz]
 have m2 : w4.cell? ⟨M, 2, none⟩ = some (.int .u64 0) := by simp [World.cell?, hz]
 have m3 : w4.cell? ⟨M, 3, none⟩ = some (.int .u64 0) := by simp [World.cell?, hz]
 have m4 : w4.cell? ⟨M, 4, none⟩ = some (.int .u64 0) := by simp [World.cell?, hz]
 have m5 : w4.cell? ⟨M, 5, none⟩ = some (.int .u64 0) := by simp [World.cell?, hz]
 have m6 : w4.cell? ⟨M, 6, none⟩ = some (.int .u64 0) := by simp [World.cell?, hz]
 have m7 : w4.cell? ⟨M, 7, none⟩ = some (.int .u64 0) := by simp [World.cell?, hz]
 have m8 : w4.cell? ⟨M, 8, none⟩ = some (.int .u64 0) := by simp [World.cell?, hz]
 have m9 : w4.cell? ⟨M, 9, none⟩ = some (.int .u64 0) := by simp [World.cell?, hz]
 have q0 : w4.frozen? ⟨M, 0, none⟩ = false := by simp [World.frozen?, hz]
 have q1 : w4.frozen? ⟨M, 1, none⟩ = false := by simp [World.frozen?, hz]
 have q2 : w4.frozen? ⟨M, 2, none⟩ = false := by simp [World.frozen?, hz]
 have q3 : w4.frozen? ⟨M, 3, none⟩ = false := by simp [World.frozen?, hz]
 have q4 : w4.frozen? ⟨M, 4, none⟩ = false := by simp [World.frozen?, hz]
 have q5 : w4.frozen? ⟨M, 5, none⟩ = false := by simp [World.frozen?, hz]
 have q6 : w4.frozen? ⟨M, 6, none⟩ = false := by simp [World.frozen?, hz]
 have q7 : w4.frozen? ⟨M, 7, none⟩ = false := by simp [World.frozen?, hz]
 have q8 : w4.frozen? ⟨M, 8, none⟩ = false := by simp [World.frozen?, hz]
 have q9 : w4.frozen? ⟨M, 9, none⟩ = false := by simp [World.frozen?, hz]
 have hz1 := heap_setCell_at (o := 0) hz (.int .u64 (f0 : Int))
 have hz2 := heap_setCell_at (o := 1) hz1 (.int .u64 (f1 : Int))
 have hz3 := heap_setCell_at (o := 2) hz2 (.int .u64 (f2 : Int))
 have hz4 := heap_setCell_at (o := 3) hz3 (.int .u64 (f3 : Int))
 have hz5 := heap_setCell_at (o := 4) hz4 (.int .u64 (f4 : Int))
 have hz6 := heap_setCell_at (o := 5) hz5 (.int .u64 (f5 : Int))
 have hz7 := heap_setCell_at (o := 6) hz6 (.int .u64 (f6 : Int))
 have hz8 := heap_setCell_at (o := 7) hz7 (.int .u64 (f7 : Int))
 have hz9 := heap_setCell_at (o := 8) hz8 (.int .u64 (f8 : Int))
 have hz10 := heap_setCell_at (o := 9) hz9 (.int .u64 (f9 : Int))
 have g1 : w4.grownBy ((((((((((w4.setCell ⟨M, 0, none⟩ (.int .u64 (f0 : Int))).setCell ⟨M, 1, none⟩ (.int .u64 (f1 : Int))).setCell ⟨M, 2, none⟩ (.int .u64 (f2 : Int))).setCell ⟨M, 3, none⟩ (.int .u64 (f3 : Int))).setCell ⟨M, 4, none⟩ (.int .u64 (f4 : Int))).setCell ⟨M, 5, none⟩ (.int .u64 (f5 : Int))).setCell ⟨M, 6, none⟩ (.int .u64 (f6 : Int))).setCell ⟨M, 7, none⟩ (.int .u64 (f7 : Int))).setCell ⟨M, 8, none⟩ (.int .u64 (f8 : Int))).setCell ⟨M, 9, none⟩ (.int .u64 (f9 : Int))) (some M) := (grown_trans (grown_trans (grown_trans (grown_trans (grown_trans (grown_trans (grown_trans (grown_trans (grown_trans (grown_setCell _ ⟨M, 0, none⟩ (.int .u64 (f0 : Int))) (grown_setCell _ ⟨M, 1, none⟩ (.int .u64 (f1 : Int)))) (grown_setCell _ ⟨M, 2, none⟩ (.int .u64 (f2 : Int)))) (grown_setCell _ ⟨M, 3, none⟩ (.int .u64 (f3 : Int)))) (grown_setCell _ ⟨M, 4, none⟩ (.int .u64 (f4 : Int)))) (grown_setCell _ ⟨M, 5, none⟩ (.int .u64 (f5 : Int)))) (grown_setCell _ ⟨M, 6, none⟩ (.int .u64 (f6 : Int)))) (grown_setCell _ ⟨M, 7, none⟩ (.int .u64 (f7 : Int)))) (grown_setCell _ ⟨M, 8, none⟩ (.int .u64 (f8 : Int)))) (grown_setCell _ ⟨M, 9, none⟩ (.int .u64 (f9 : Int))))
 obtain ⟨W3, hW3⟩ : ∃ W3, W3 = ((((((((((w4.setCell ⟨M, 0, none⟩ (.int .u64 (f0 : Int))).setCell ⟨M, 1, none⟩ (.int .u64 (f1 : Int))).setCell ⟨M, 2, none⟩ (.int .u64 (f2 : Int))).setCell ⟨M, 3, none⟩ (.int .u64 (f3 : Int))).setCell ⟨M, 4, none⟩ (.int .u64 (f4 : Int))).setCell ⟨M, 5, none⟩ (.int .u64 (f5 : Int))).setCell ⟨M, 6, none⟩ (.int .u64 (f6 : Int))).setCell ⟨M, 7, none⟩ (.int .u64 (f7 : Int))).setCell ⟨M, 8, none⟩ (.int .u64 (f8 : Int))).setCell ⟨M, 9, none⟩ (.int .u64 (f9 : Int))) := ⟨_, rfl⟩
 clear hz1 hz2 hz3 hz4 hz5 hz6 hz7 hz8 hz9
 go_wp2
 rw [← hW3] at hz10 g1 ⊢
 have Z0 : W3.cell? ⟨M, 0, none⟩ = some (.int .u64 (f0 : Int)) := by simp [World.cell?, hz10]
 have Z1 : W3.cell? ⟨M, 1, none⟩ = some (.int .u64 (f1 : Int)) := by simp [World.cell?, hz10]
 have Z2 : W3.cell? ⟨M, 2, none⟩ = some (.int .u64 (f2 : Int)) := by simp [World.cell?, hz10]
 have Z3 : W3.cell? ⟨M, 3, none⟩ = some (.int .u64 (f3 : Int)) := by simp [World.cell?, hz10]
 have Z4 : W3.cell? ⟨M, 4, none⟩ = some (.int .u64 (f4 : Int)) := by simp [World.cell?, hz10]
 have Z5 : W3.cell? ⟨M, 5, none⟩ = some (.int .u64 (f5 : Int)) := by simp [World.cell?, hz10]
 have Z6 : W3.cell? ⟨M, 6, none⟩ = some (.int .u64 (f6 : Int)) := by simp [World.cell?, hz10]
 have Z7 : W3.cell? ⟨M, 7, none⟩ = some (.int .u64 (f7 : Int)) := by simp [World.cell?, hz10]
 have Z8 : W3.cell? ⟨M, 8, none⟩ = some (.int .u64 (f8 : Int)) := by simp [World.cell?, hz10]
 have Z9 : W3.cell? ⟨M, 9, none⟩ = some (.int .u64 (f9 : Int)) := by simp [World.cell?, hz10]
 exact bodyPost_ret (v := .tuple #[.agg #[.int .u64 (f0 : Int), .int .u64 (f1 : Int), .int .u64 (f2 : Int), .int .u64 (f3 : Int), .int .u64 (f4 : Int), .int .u64 (f5 : Int), .int .u64 (f6 : Int), .int .u64 (f7 : Int), .int .u64 (f8 : Int), .int .u64 (f9 : Int)], .int .i64 0]) (by simp [results, Tryz.results73, go_sem, Z0, Z1, Z2, Z3, Z4, Z5, Z6, Z7, Z8, Z9]) rfl ⟨rfl, Hq.out _ g1⟩
end Go.Proofs.YtfljlmmiiccooaaGreatDoor
end
section
namespace Go.Proofs.YtfljlmmiiccooaaGreatDoor
open Go.RowKit Go.Grommet
theorem words_pos' {a b c : Int} (h : mayB a b c = true) : wordsV a b c = 280 + 208 * a + 16 * b + 8 * c := by unfold wordsV; rw [if_pos h]
end Go.Proofs.YtfljlmmiiccooaaGreatDoor
end
