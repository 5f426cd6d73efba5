/- RenameNil, walked. -/
import Derived.Test.YtclmgkiiegkmhaaGreatDoorCut
import Derived.Test.YtclmgkiiegkmhaaGreatDoorTabG
namespace Go.Proofs.YtclmgkiiegkmhaaGreatDoor.renameNil
open Go.Ev Go.RowKit Go.Grommet
set_option linter.unusedVariables false

def GeoT (G : Nat) (a b c : Int) (w : World) : Prop := w.heap[G]? = some (.cells #[.int .i64 a, .int .i64 b, .int .i64 c] 23 (0, 0))
theorem lt_of_block' {w : World} {G : Nat} {o : Obj} (h : w.heap[G]? = some o) : G < w.heap.size := (Array.getElem?_eq_some_iff.1 h).1
theorem GeoT.keep {G : Nat} {a b c : Int} {w w' : World} (h : GeoT G a b c w) (hg : w.grownBy w' none) : GeoT G a b c w' := (hg.block G (lt_of_block' h) (by simp)).trans h
theorem GeoT.cells {G : Nat} {a b c : Int} {w : World} (h : GeoT G a b c w) : w.cell? ⟨G, 0, none⟩ = some (.int .i64 a) ∧ w.cell? ⟨G, 1, none⟩ = some (.int .i64 b) ∧ w.cell? ⟨G, 2, none⟩ = some (.int .i64 c) := by
  unfold GeoT at h
  refine ⟨?_, ?_, ?_⟩ <;> simp [World.cell?, h]
theorem grown_tr {a b c : World} (h : a.grownBy b none) (k : b.grownBy c none) : a.grownBy c none := grown_trans' h k (by simp)
/-- A call without a view. -/
theorem nil_call {f : Nat} {args : List V} {v : V} (ht : tellable Tryz.prog f = true) (h : stepR ((evQ Tryz.prog (tabGl 0) (tellC rows) 100000).call f args (tabHp tab)) rnNil v (tabHp tab) = true) (ha : args.all (inB 1) = true) (hp : args.all V.plain = true) (hv : v.plain = true) {w : World} (hw : Lib.TabIs Tryz.prog w "math/bits.deBruijn64tab" .u8 tab) :
    Calls Tryz.prog f (args.map (V.val fun _ => ⟨0, 0, 0⟩)).toArray w fun e w' => e = .returned (v.val fun _ => ⟨0, 0, 0⟩) ∧ w.grownBy w' none := by
  have e : (args.map (V.val fun _ => (⟨0, 0, 0⟩ : Go.Ev.Loc))) = args.map (V.val fun _ => (⟨0, 0, 0⟩ : Go.Ev.Loc)) := List.map_congr_left fun a ha => V.plain_val (List.all_eq_true.1 hp a ha)
  rw [e]
  refine (step_row (by kernel_rfl) told ht (fun _ _ => rfl) h (of_decide_eq_true (by kernel_rfl)) (inBs_ok ha _) (Lives.tab gTab hw)).mono ?_
  rintro e w' ⟨ρ', rfl, hL, _⟩
  exact ⟨by rw [V.plain_val hv], Rel.grown hL⟩

theorem t_nRename (a b c n : Int) (s t : List UInt8) : stepR ((evQ Tryz.prog (tabGl 0) (tellC rows) 100000).call 7 [.nilptr, (.agg (.cons (.int .i64 a) (.cons (.int .i64 b) (.cons (.int .i64 c) .nil)))), .str s, .str t] (tabHp tab)) rnNil (.int .i64 2) (tabHp tab) = true := by kernel_rfl
theorem c_nRename (a b c n : Int) (s t : List UInt8) {w : World} (hw : Lib.TabIs Tryz.prog w "math/bits.deBruijn64tab" .u8 tab) : Calls Tryz.prog 7 #[.pointer none, .agg #[.int .i64 a, .int .i64 b, .int .i64 c], .string ⟨s.toArray⟩, .string ⟨t.toArray⟩] w fun e w' => e = .returned (.int .i64 2) ∧ w.grownBy w' none :=
  nil_call (by kernel_rfl) (t_nRename a b c n s t) rfl rfl rfl hw

theorem t_nSmall (a b c n : Int) (s t : List UInt8) : stepR ((evQ Tryz.prog (tabGl 0) (tellC rows) 100000).call 4 [.int .u8 3, .int .u8 9] (tabHp tab)) rnNil (.agg (.cons (.int .i64 1) (.cons (.int .i64 5) (.cons (.int .i64 11) .nil)))) (tabHp tab) = true := by kernel_rfl
theorem c_nSmall (a b c n : Int) (s t : List UInt8) {w : World} (hw : Lib.TabIs Tryz.prog w "math/bits.deBruijn64tab" .u8 tab) : Calls Tryz.prog 4 #[.int .u8 3, .int .u8 9] w fun e w' => e = .returned (.agg #[.int .i64 1, .int .i64 5, .int .i64 11]) ∧ w.grownBy w' none :=
  nil_call (by kernel_rfl) (t_nSmall a b c n s t) rfl rfl rfl hw

set_option maxRecDepth 100000 in
set_option maxHeartbeats 4000000 in
theorem works_any (w : World) (hw : Lib.TabIs Tryz.prog w "math/bits.deBruijn64tab" .u8 tab) : Calls Tryz.prog 9 #[] w (WorksIs w) := by
  have HF := Lib.hid (fun wx (hg : w.grownBy wx none) => c_format (entryNames.tab_grown hw hg))
  have hg0 := Lib.hid (World.grownBy_alloc w (.cells #[.int .i64 1, .int .i64 9, .int .i64 30] 23) none)
  obtain ⟨X, HX⟩ : ∃ X, Hid (w.heap.size = X) := ⟨_, Lib.hid rfl⟩
  have hG0 : GeoT X 1 9 30 (w.alloc (.cells #[.int .i64 1, .int .i64 9, .int .i64 30] 23)) := by rw [← HX.out]; exact heap_alloc_new w _
  have hXs := HX.out
  obtain ⟨w0, hw0⟩ : ∃ w0, w.alloc (.cells #[.int .i64 1, .int .i64 9, .int .i64 30] 23) = w0 := ⟨_, rfl⟩
  rw [hw0] at hG0 hg0
  obtain ⟨y0, y1, y2⟩ := hG0.cells
  have hG := Lib.hid hG0
  clear hG0 hw
  go_enter Tryz.func9, Tryz.ntmps9
  go_wp2_with fail
  try rw [hw0]
  refine (HF.out _ hg0.out).mono ?_
  rintro e w1 ⟨A, Z, rfl, h1⟩
  have hg1 : w0.grownBy w1 none := by obtain ⟨ρ, _, _, hL⟩ := h1; exact Rel.grown hL
  have HN := Lib.hid (c_new h1)
  clear h1 HF y0 y1 y2 hw0 hXs
  go_wp2_with fail
  refine HN.out.mono ?_
  rintro e w2 ⟨B, O, rfl, hL⟩
  have hL := Lib.hid hL
  clear HN hg1
  obtain ⟨y0, y1, y2⟩ := (hG.out.keep hL.out.grown).cells
  have HC := Lib.hid (c_make1 hL.out)
  clear hL
  go_wp2_with fail
  refine HC.out.mono ?_
  rintro e wn ⟨rfl, hL⟩
  have hL := Lib.hid hL
  clear HC y0 y1 y2
  obtain ⟨y0, y1, y2⟩ := (hG.out.keep hL.out.grown).cells
  have HC := Lib.hid (c_make2 hL.out)
  clear hL
  go_wp2_with fail
  refine HC.out.mono ?_
  rintro e wn ⟨rfl, hL⟩
  have hL := Lib.hid hL
  clear HC y0 y1 y2
  obtain ⟨y0, y1, y2⟩ := (hG.out.keep hL.out.grown).cells
  have HC := Lib.hid (c_make3 hL.out)
  clear hL
  go_wp2_with fail
  refine HC.out.mono ?_
  rintro e wn ⟨rfl, hL⟩
  have hL := Lib.hid hL
  clear HC y0 y1 y2
  obtain ⟨y0, y1, y2⟩ := (hG.out.keep hL.out.grown).cells
  have HC := Lib.hid (c_ren1 hL.out)
  clear hL
  go_wp2_with fail
  refine HC.out.mono ?_
  rintro e wn ⟨rfl, hL⟩
  have hL := Lib.hid hL
  clear HC y0 y1 y2
  obtain ⟨y0, y1, y2⟩ := (hG.out.keep hL.out.grown).cells
  have HC := Lib.hid (c_ren2 hL.out)
  clear hL
  go_wp2_with fail
  refine HC.out.mono ?_
  rintro e wn ⟨rfl, hL⟩
  have hL := Lib.hid hL
  clear HC y0 y1 y2
  obtain ⟨y0, y1, y2⟩ := (hG.out.keep hL.out.grown).cells
  have HC := Lib.hid (c_ren3 hL.out)
  clear hL
  go_wp2_with fail
  refine HC.out.mono ?_
  rintro e wn ⟨rfl, hL⟩
  have hL := Lib.hid hL
  clear HC y0 y1 y2
  obtain ⟨y0, y1, y2⟩ := (hG.out.keep hL.out.grown).cells
  have HC := Lib.hid (c_ren4 hL.out)
  clear hL
  go_wp2_with fail
  refine HC.out.mono ?_
  rintro e wn ⟨rfl, hL⟩
  have hL := Lib.hid hL
  clear HC y0 y1 y2
  obtain ⟨y0, y1, y2⟩ := (hG.out.keep hL.out.grown).cells
  have HC := Lib.hid (c_ren5 hL.out)
  clear hL
  go_wp2_with fail
  refine HC.out.mono ?_
  rintro e wn ⟨rfl, hL⟩
  have hL := Lib.hid hL
  clear HC y0 y1 y2
  obtain ⟨y0, y1, y2⟩ := (hG.out.keep hL.out.grown).cells
  have HC := Lib.hid (c_walk1 hL.out)
  clear hL
  go_wp2_with fail
  refine HC.out.mono ?_
  rintro e wn ⟨rfl, hL⟩
  have hL := Lib.hid hL
  clear HC y0 y1 y2
  obtain ⟨y0, y1, y2⟩ := (hG.out.keep hL.out.grown).cells
  have HC := Lib.hid (c_ren6 hL.out)
  clear hL
  go_wp2_with fail
  refine HC.out.mono ?_
  rintro e wn ⟨rfl, hL⟩
  have hL := Lib.hid hL
  clear HC y0 y1 y2
  go_wp2
  go_ret
  exact ⟨rfl, grown_tr hg0.out hL.out.grown⟩

set_option maxRecDepth 100000 in
set_option maxHeartbeats 4000000 in
theorem walk' (a b c : Int) (s t : List UInt8) (w : World) (hw : Lib.TabIs Tryz.prog w "math/bits.deBruijn64tab" .u8 tab) : Calls Tryz.prog 3 #[.agg #[.int .i64 a, .int .i64 b, .int .i64 c], .string ⟨s.toArray⟩, .string ⟨t.toArray⟩] w (WorksIs w) := by
  have HT := Lib.hid (fun wx (hg : w.grownBy wx none) => entryNames.tab_grown hw hg)
  obtain ⟨X, HX⟩ : ∃ X, Hid (w.heap.size = X) := ⟨_, Lib.hid rfl⟩
  have hg0 := Lib.hid (World.grownBy_alloc w (.cells #[.int .i64 a, .int .i64 b, .int .i64 c] 23) none)
  have hG0 : GeoT X a b c (w.alloc (.cells #[.int .i64 a, .int .i64 b, .int .i64 c] 23)) := by rw [← HX.out]; exact heap_alloc_new w _
  have hXs := HX.out
  obtain ⟨w0, hw0⟩ : ∃ w0, w.alloc (.cells #[.int .i64 a, .int .i64 b, .int .i64 c] 23) = w0 := ⟨_, rfl⟩
  rw [hw0] at hG0 hg0
  have hG := Lib.hid hG0
  have HC := Lib.hid (fun wx (hg : w.grownBy wx none) => c_nSmall a b c 0 s t (HT.out wx hg))
  clear hG0 hw
  go_enter Tryz.func3, Tryz.ntmps3
  go_wp2_with fail
  try rw [hw0]
  refine (HC.out _ hg0.out).mono ?_
  rintro e w2 ⟨rfl, hgx⟩
  have hg2 := Lib.hid (grown_tr hg0.out hgx)
  have hG := Lib.hid (hG.out.keep hgx)
  clear hgx hg0 HC hw0 hXs
  obtain ⟨Y, hYs⟩ : ∃ Y, w2.heap.size = Y := ⟨_, rfl⟩
  have hg3 := World.grownBy_alloc w2 (.cells #[.int .i64 1, .int .i64 5, .int .i64 11] 23) none
  have hM0 : GeoT Y 1 5 11 (w2.alloc (.cells #[.int .i64 1, .int .i64 5, .int .i64 11] 23)) := by rw [← hYs]; exact heap_alloc_new w2 _
  obtain ⟨w3, hw3⟩ : ∃ w3, w2.alloc (.cells #[.int .i64 1, .int .i64 5, .int .i64 11] 23) = w3 := ⟨_, rfl⟩
  rw [hw3] at hg3 hM0
  have hG := Lib.hid (hG.out.keep hg3)
  have hg3 := Lib.hid (grown_tr hg2.out hg3)
  obtain ⟨z0, z1, z2⟩ := hM0.cells
  have hM := Lib.hid hM0
  have HC := Lib.hid (c_formatS (HT.out _ hg3.out))
  clear hM0 hg2
  go_wp2_with fail
  try rw [hw3]
  refine HC.out.mono ?_
  rintro e w4 ⟨A, Z, rfl, h1⟩
  have HN := Lib.hid (c_newS h1)
  clear h1 HC z0 z1 z2 hw3 hYs
  go_wp2_with fail
  refine HN.out.mono ?_
  rintro e w5 ⟨B, O, rfl, hL⟩
  have hL := Lib.hid hL
  clear HN
  obtain ⟨y0, y1, y2⟩ := (hG.out.keep hL.out.grown).cells
  have HC := Lib.hid (c_nRename a b c 0 s t (HT.out _ (grown_tr hg3.out hL.out.grown)))
  go_wp2_with fail
  refine HC.out.mono ?_
  rintro e wn ⟨rfl, hgx⟩
  have hLn := Lib.hid (hL.out.quiet hgx)
  clear HC y0 y1 y2 hgx hL
  have hL := hLn
  clear hLn
  obtain ⟨z0, z1, z2⟩ := (hM.out.keep hL.out.grown).cells
  have HC := Lib.hid (c_ren7 hL.out)
  clear hL
  go_wp2_with fail
  refine HC.out.mono ?_
  rintro e wn ⟨rfl, hL⟩
  have hL := Lib.hid hL
  clear HC z0 z1 z2
  obtain ⟨z0, z1, z2⟩ := (hM.out.keep hL.out.grown).cells
  have HC := Lib.hid (c_ren8 hL.out)
  clear hL
  go_wp2_with fail
  refine HC.out.mono ?_
  rintro e wn ⟨rfl, hL⟩
  have hL := Lib.hid hL
  clear HC z0 z1 z2
  obtain ⟨z0, z1, z2⟩ := (hM.out.keep hL.out.grown).cells
  have HC := Lib.hid (c_ren9 hL.out)
  clear hL
  go_wp2_with fail
  refine HC.out.mono ?_
  rintro e wn ⟨rfl, hL⟩
  have hL := Lib.hid hL
  clear HC z0 z1 z2
  obtain ⟨z0, z1, z2⟩ := (hM.out.keep hL.out.grown).cells
  have HC := Lib.hid (c_writes hL.out)
  clear hL
  go_wp2_with fail
  refine HC.out.mono ?_
  rintro e wn ⟨rfl, hL⟩
  have hL := Lib.hid hL
  clear HC z0 z1 z2
  have HC := Lib.hid (works_any _ (HT.out _ (grown_tr hg3.out hL.out.grown)))
  go_wp2_with fail
  refine HC.out.mono ?_
  rintro e wn ⟨rfl, hgx⟩
  have hgf := Lib.hid (grown_tr (grown_tr hg3.out hL.out.grown) hgx)
  clear HC hgx
  go_wp2
  go_ret
  exact ⟨rfl, hgf.out⟩
theorem walk (a0_0 : Int) (a0_1 : Int) (a0_2 : Int) (a1 : ByteArray) (a2 : ByteArray) (w : World) (_ : (Lit.int .i64 a0_0).wf = true) (_ : (Lit.int .i64 a0_1).wf = true) (_ : (Lit.int .i64 a0_2).wf = true) (_ : a1.size ≤ 140737488351232) (_ : a2.size ≤ 140737488351232) (ht : Lib.TabIs Tryz.prog w "math/bits.deBruijn64tab" .u8 tab) :
    Calls Tryz.prog 3 #[.agg #[.int .i64 a0_0, .int .i64 a0_1, .int .i64 a0_2], .string a1, .string a2] w (WorksIs w) := walk' a0_0 a0_1 a0_2 a1.data.toList a2.data.toList w ht
end Go.Proofs.YtclmgkiiegkmhaaGreatDoor.renameNil
