/- Package slot: of no view. -/
import Derived.Test.YtkeghhchbdkaoaaLayC
import Derived.Test.YtkeghhchbdkaoaaWorks
import Derived.Test.YtkeghhchbdkaoaaBase6
namespace Go.Proofs.Ytkeghhchbdkaoaa
open Go.RowKit Go.Grommet

def WorksIs (w : World) (e : Ending) (w' : World) : Prop := e = .returned (.bool true) ∧ w.grownBy w' none
theorem works_any (w : World) : Calls Try.prog 9 #[] w (WorksIs w) := works_ev w
def ErrIs (v : Int) (w : World) (e : Ending) (w' : World) : Prop := e = .returned (.int .i64 v) ∧ w.grownBy w' none

set_option maxRecDepth 100000 in
set_option maxHeartbeats 1000000 in
theorem has_nil (i : Int) (m : Bool) (w : World) : Calls Try.prog 38 #[.pointer none, .int .i64 i, .bool m] w (ErrIs 2 w) := by
  have H := Lib.hid (fun wx => SessionAt_any i wx)
  go_enter Try.func38, Try.ntmps38
  go_wp2_with fail
  refine (H.out _).mono ?_
  rintro e w1 ⟨rfl, hg1⟩
  go_wp2
  go_ret
  exact ⟨rfl, hg1⟩

set_option maxRecDepth 100000 in
set_option maxHeartbeats 1000000 in
theorem Set_nil (a v : Int) (w : World) : Calls Try.prog 27 #[.pointer none, .int .i64 a, .int .u64 v] w (ErrIs 2 w) := by
  go_enter Try.func27, Try.ntmps27
  go_wp2
  go_ret
  exact ⟨rfl, World.grownBy.refl _ _⟩

set_option maxRecDepth 100000 in
set_option maxHeartbeats 1000000 in
theorem Wipe_nil (i : Int) (w : World) : Calls Try.prog 25 #[.pointer none, .int .i64 i] w (ErrIs 2 w) := by
  have H := Lib.hid (fun wx => has_nil i true wx)
  go_enter Try.func25, Try.ntmps25
  go_wp2_with fail
  refine (H.out _).mono ?_
  rintro e w1 ⟨rfl, hg1⟩
  go_wp2
  go_ret
  exact ⟨rfl, hg1⟩

set_option maxRecDepth 100000 in
set_option maxHeartbeats 1000000 in
theorem Put_nil (i : Int) (o : Bool) (gn mk : Int) (w : World) : Calls Try.prog 19 #[.pointer none, .int .i64 i, .agg #[.bool o, .int .u64 gn, .int .u64 mk]] w (ErrIs 2 w) := by
  have H := Lib.hid (fun wx => has_nil i true wx)
  go_enter Try.func19, Try.ntmps19
  go_wp2_with fail
  refine (H.out _).mono ?_
  rintro e w1 ⟨rfl, hg1⟩
  go_wp2
  go_ret
  exact ⟨rfl, grown_trans (World.grownBy_alloc w _ none) hg1⟩

def SomeBool (w : World) (e : Ending) (w' : World) : Prop := ∃ b, e = .returned (.bool b) ∧ w.grownBy w' none
set_option maxRecDepth 100000 in
set_option maxHeartbeats 1000000 in
theorem May_some (er ra rb : Int) (d : ByteArray) (w : World) : Calls Try.prog 15 #[.agg #[.int .i64 er, .int .u64 ra, .int .u64 rb, .string d]] w (SomeBool w) := by
  go_enter Try.func15, Try.ntmps15
  go_wp2
  all_goals (go_ret; exact ⟨_, rfl, World.grownBy_alloc w _ none⟩)

set_option maxRecDepth 100000 in
set_option maxHeartbeats 2000000 in
theorem Save_nil (i k sq er ra rb : Int) (d : ByteArray) (w : World) : Calls Try.prog 23 #[.pointer none, .int .i64 i, .int .i64 k, .int .u64 sq, .agg #[.int .i64 er, .int .u64 ra, .int .u64 rb, .string d]] w (ErrIs 2 w) := by
  have H := Lib.hid (fun wx m => has_nil i m wx)
  have HA := Lib.hid (fun wx => SlotAt_any i k wx)
  have HM := Lib.hid (fun wx => May_some er ra rb d wx)
  generalize slotV i k = A at HA
  go_enter Try.func23, Try.ntmps23
  go_wp2_with fail
  obtain ⟨X, HX⟩ : ∃ X, Hid (X = w.heap.size) := ⟨_, Lib.hid rfl⟩
  have hb0 : (w.alloc (.cells #[.int .i64 er, .int .u64 ra, .int .u64 rb, .string d] 41)).heap[X]? = some (.cells #[.int .i64 er, .int .u64 ra, .int .u64 rb, .string d] 41 (0, 0)) := by rw [HX.out]; exact heap_alloc_new w _
  rw [← HX.out]
  refine (HA.out _).mono ?_
  rintro e w1 ⟨rfl, hg1⟩
  have hb := (hg1.block _ (lt_of_block hb0) (by simp)).trans hb0
  have hg := Lib.hid (grown_trans (World.grownBy_alloc w _ none) hg1)
  clear hg1 hb0
  have x0 : w1.cell? ⟨X, 0, none⟩ = some (.int .i64 er) := by simp [World.cell?, hb]
  have x1 : w1.cell? ⟨X, 1, none⟩ = some (.int .u64 ra) := by simp [World.cell?, hb]
  have x2 : w1.cell? ⟨X, 2, none⟩ = some (.int .u64 rb) := by simp [World.cell?, hb]
  have x3 : w1.cell? ⟨X, 3, none⟩ = some (.string d) := by simp [World.cell?, hb]
  clear hb
  by_cases h1 : 0 ≤ A
  · by_cases h2 : 1 ≤ sq
    · by_cases h3 : sq ≤ 1099511627776
      · go_wp2_with fail
        refine (HM.out _).mono ?_
        rintro e w2 ⟨b, rfl, hg2⟩
        have hg := Lib.hid (grown_trans hg.out hg2)
        clear x0 x1 x2 x3 hg2
        go_wp2_with fail
        refine (H.out _ _).mono ?_
        rintro e w3 ⟨rfl, hg3⟩
        go_wp2
        go_ret
        exact ⟨rfl, grown_trans hg.out hg3⟩
      · have d3 : decide (sq ≤ 1099511627776) = false := by simpa using h3
        go_wp2_with fail
        refine (H.out _ _).mono ?_
        rintro e w3 ⟨rfl, hg3⟩
        go_wp2
        go_ret
        exact ⟨rfl, grown_trans hg.out hg3⟩
    · have d2 : decide (1 ≤ sq) = false := by simpa using h2
      go_wp2_with fail
      refine (H.out _ _).mono ?_
      rintro e w3 ⟨rfl, hg3⟩
      go_wp2
      go_ret
      exact ⟨rfl, grown_trans hg.out hg3⟩
  · have d1 : decide (0 ≤ A) = false := by simpa using h1
    go_wp2_with fail
    refine (H.out _ _).mono ?_
    rintro e w3 ⟨rfl, hg3⟩
    go_wp2
    go_ret
    exact ⟨rfl, grown_trans hg.out hg3⟩

set_option maxRecDepth 100000 in
set_option maxHeartbeats 1000000 in
theorem Get_nil (i : Int) (w : World) : Calls Try.prog 17 #[.pointer none, .int .i64 i] w fun e w' => e = .returned (.tuple #[.agg #[.bool false, .int .u64 0, .int .u64 0], .int .i64 2]) ∧ w.grownBy w' none := by
  have H := Lib.hid (fun wx m => has_nil i m wx)
  go_enter Try.func17, Try.ntmps17
  go_wp2_with fail
  obtain ⟨X, HX⟩ : ∃ X, Hid (X = w.heap.size) := ⟨_, Lib.hid rfl⟩
  have hz0 : (w.alloc (.cells #[.bool false, .int .u64 0, .int .u64 0] 38)).heap[X]? = some (.cells #[.bool false, .int .u64 0, .int .u64 0] 38 (0, 0)) := by rw [HX.out]; exact heap_alloc_new w _
  rw [← HX.out]
  refine (H.out _ _).mono ?_
  rintro e w1 ⟨rfl, hg1⟩
  have hz := (hg1.block _ (lt_of_block hz0) (by simp)).trans hz0
  have hg := grown_trans (World.grownBy_alloc w _ none) hg1
  have z0 : w1.cell? ⟨X, 0, none⟩ = some (.bool false) := by simp [World.cell?, hz]
  have z1 : w1.cell? ⟨X, 1, none⟩ = some (.int .u64 0) := by simp [World.cell?, hz]
  have z2 : w1.cell? ⟨X, 2, none⟩ = some (.int .u64 0) := by simp [World.cell?, hz]
  have y0 : w1.frozen? ⟨X, 0, none⟩ = false := by simp [World.frozen?, hz]
  have y1 : w1.frozen? ⟨X, 1, none⟩ = false := by simp [World.frozen?, hz]
  have y2 : w1.frozen? ⟨X, 2, none⟩ = false := by simp [World.frozen?, hz]
  have hz1 := heap_setCell_at (o := 0) hz (.bool false)
  have hz2 := heap_setCell_at (o := 1) hz1 (.int .u64 0)
  have hz3 := heap_setCell_at (o := 2) hz2 (.int .u64 0)
  have g1 := grown_new hg (grown_trans (grown_trans (grown_setCell _ ⟨X, 0, none⟩ (.bool false)) (grown_setCell _ ⟨X, 1, none⟩ (.int .u64 0))) (grown_setCell _ ⟨X, 2, none⟩ (.int .u64 0))) (by intro k e; have h1 : X = k := Option.some.inj e; have h2 := HX.out; omega)
  obtain ⟨W3, hW3⟩ : ∃ W3, W3 = (((w1.setCell ⟨X, 0, none⟩ (.bool false)).setCell ⟨X, 1, none⟩ (.int .u64 0)).setCell ⟨X, 2, none⟩ (.int .u64 0)) := ⟨_, rfl⟩
  clear hz0 hg1 hg hz1 hz2
  go_wp2
  rw [← hW3] at hz3 g1 ⊢
  have Z0 : W3.cell? ⟨X, 0, none⟩ = some (.bool false) := by simp [World.cell?, hz3]
  have Z1 : W3.cell? ⟨X, 1, none⟩ = some (.int .u64 0) := by simp [World.cell?, hz3]
  have Z2 : W3.cell? ⟨X, 2, none⟩ = some (.int .u64 0) := by simp [World.cell?, hz3]
  exact bodyPost_ret (v := .tuple #[.agg #[.bool false, .int .u64 0, .int .u64 0], .int .i64 2]) (by simp [results, Try.results17, go_sem, Z0, Z1, Z2]) rfl ⟨rfl, g1⟩

set_option maxRecDepth 100000 in
set_option maxHeartbeats 1000000 in
theorem Load_nil (i k : Int) (w : World) : Calls Try.prog 21 #[.pointer none, .int .i64 i, .int .i64 k] w fun e w' => e = .returned (.tuple #[.int .u64 0, .agg #[.int .i64 0, .int .u64 0, .int .u64 0, .string ⟨#[]⟩], .int .i64 2]) ∧ w.grownBy w' none := by
  have H := Lib.hid (fun wx m => has_nil i m wx)
  have HA := Lib.hid (fun wx => SlotAt_any i k wx)
  generalize slotV i k = A at HA
  go_enter Try.func21, Try.ntmps21
  go_wp2_with fail
  obtain ⟨X, HX⟩ : ∃ X, Hid (X = w.heap.size) := ⟨_, Lib.hid rfl⟩
  have hz0 : (w.alloc (.cells #[.int .i64 0, .int .u64 0, .int .u64 0, .string ⟨#[]⟩] 41)).heap[X]? = some (.cells #[.int .i64 0, .int .u64 0, .int .u64 0, .string ⟨#[]⟩] 41 (0, 0)) := by rw [HX.out]; exact heap_alloc_new w _
  rw [← HX.out]
  refine (HA.out _).mono ?_
  rintro e w0 ⟨rfl, hg0⟩
  have hz0 := (hg0.block _ (lt_of_block hz0) (by simp)).trans hz0
  go_wp2_with fail
  refine (H.out _ _).mono ?_
  rintro e w1 ⟨rfl, hg1⟩
  have hgx := grown_trans (grown_trans (World.grownBy_alloc w _ none) hg0) hg1
  have hz := (hg1.block _ (lt_of_block hz0) (by simp)).trans hz0
  have hg := hgx
  clear hgx hg0
  have z0 : w1.cell? ⟨X, 0, none⟩ = some (.int .i64 0) := by simp [World.cell?, hz]
  have z1 : w1.cell? ⟨X, 1, none⟩ = some (.int .u64 0) := by simp [World.cell?, hz]
  have z2 : w1.cell? ⟨X, 2, none⟩ = some (.int .u64 0) := by simp [World.cell?, hz]
  have z3 : w1.cell? ⟨X, 3, none⟩ = some (.string ⟨#[]⟩) := by simp [World.cell?, hz]
  have y0 : w1.frozen? ⟨X, 0, none⟩ = false := by simp [World.frozen?, hz]
  have y1 : w1.frozen? ⟨X, 1, none⟩ = false := by simp [World.frozen?, hz]
  have y2 : w1.frozen? ⟨X, 2, none⟩ = false := by simp [World.frozen?, hz]
  have y3 : w1.frozen? ⟨X, 3, none⟩ = false := by simp [World.frozen?, hz]
  have hz1 := heap_setCell_at (o := 0) hz (.int .i64 0)
  have hz2 := heap_setCell_at (o := 1) hz1 (.int .u64 0)
  have hz3 := heap_setCell_at (o := 2) hz2 (.int .u64 0)
  have hz4 := heap_setCell_at (o := 3) hz3 (.string ⟨#[]⟩)
  have g1 := grown_new hg (grown_trans (grown_trans (grown_trans (grown_setCell _ ⟨X, 0, none⟩ (.int .i64 0)) (grown_setCell _ ⟨X, 1, none⟩ (.int .u64 0))) (grown_setCell _ ⟨X, 2, none⟩ (.int .u64 0))) (grown_setCell _ ⟨X, 3, none⟩ (.string ⟨#[]⟩))) (by intro k e; have h1 : X = k := Option.some.inj e; have h2 := HX.out; omega)
  obtain ⟨W3, hW3⟩ : ∃ W3, W3 = ((((w1.setCell ⟨X, 0, none⟩ (.int .i64 0)).setCell ⟨X, 1, none⟩ (.int .u64 0)).setCell ⟨X, 2, none⟩ (.int .u64 0)).setCell ⟨X, 3, none⟩ (.string ⟨#[]⟩)) := ⟨_, rfl⟩
  clear hz0 hg1 hg hz1 hz2 hz3
  go_wp2
  rw [← hW3] at hz4 g1 ⊢
  have Z0 : W3.cell? ⟨X, 0, none⟩ = some (.int .i64 0) := by simp [World.cell?, hz4]
  have Z1 : W3.cell? ⟨X, 1, none⟩ = some (.int .u64 0) := by simp [World.cell?, hz4]
  have Z2 : W3.cell? ⟨X, 2, none⟩ = some (.int .u64 0) := by simp [World.cell?, hz4]
  have Z3 : W3.cell? ⟨X, 3, none⟩ = some (.string ⟨#[]⟩) := by simp [World.cell?, hz4]
  exact bodyPost_ret (v := .tuple #[.int .u64 0, .agg #[.int .i64 0, .int .u64 0, .int .u64 0, .string ⟨#[]⟩], .int .i64 2]) (by simp [results, Try.results21, go_sem, Z0, Z1, Z2, Z3]) rfl ⟨rfl, g1⟩
end Go.Proofs.Ytkeghhchbdkaoaa
