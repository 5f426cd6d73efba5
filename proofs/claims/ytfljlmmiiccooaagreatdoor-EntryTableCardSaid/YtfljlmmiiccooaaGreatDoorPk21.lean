import Derived.Test.YtfljlmmiiccooaaGreatDoorPk19
import Derived.Test.YtfljlmmiiccooaaGreatDoorPk13
set_option maxHeartbeats 1000000
set_option maxRecDepth 100000
section
namespace Go.Proofs.YtfljlmmiiccooaaGreatDoor
open Go.RowKit Go.Grommet
def nv (k l o s d0 d1 d2 d3 ch p : Nat) : Value := .agg #[.int .u64 (k : Int), .int .u64 (l : Int), .int .u64 (o : Int), .int .u64 (s : Int), .int .u64 (d0 : Int), .int .u64 (d1 : Int), .int .u64 (d2 : Int), .int .u64 (d3 : Int), .int .u64 (ch : Int), .int .u64 (p : Int)]
def rightB (a b c : Int) (k l o s d0 d1 d2 d3 ch p : Nat) : Bool :=
 decide (mayB a b c = true ∧ (k = 1 ∨ k = 2) ∧ l ≤ 65536 ∧ o ≤ 16 ∧ s ≤ 768 ∧ (ch : Int) < c ∧ (p : Int) < b ∧ (k = 1 → p = 0) ∧ (k = 2 → s = 0) ∧ (d0 : Int) < c ∧ (d1 : Int) < c ∧ (d2 : Int) < c ∧ (d3 : Int) < c)
theorem Right_none (a b c : Int) (k l o s d0 d1 d2 d3 ch p : Nat) (w : World) (h : mayB a b c = false) : Calls Tryz.prog 104 #[gv a b c, nv k l o s d0 d1 d2 d3 ch p] w (BoolIs false w) := by
 have HM := Lib.hid (fun wx => May_any a b c wx)
 rw [h] at HM
 unfold gv nv at *
 go_enter Tryz.func104, Tryz.ntmps104
 go_wp2_with fail
 refine (HM.out _).mono ?_
 rintro e w1 ⟨rfl, hg1⟩
 go_wp2
 go_ret
 exact ⟨rfl, grown_trans (grown_alloc2 w _ _) hg1⟩
theorem Right_may (a b c : Int) (k l o s d0 d1 d2 d3 ch p : Nat) (w : World) (h : mayB a b c = true) : Calls Tryz.prog 104 #[gv a b c, nv k l o s d0 d1 d2 d3 ch p] w (BoolIs (rightB a b c k l o s d0 d1 d2 d3 ch p) w) := by
 have HM := Lib.hid (fun wx => May_any a b c wx)
 rw [h] at HM
 have hq := mayB_yes h
 have wc : IntKind.u64.wrap c = c := IntWalk.u64_in _ ⟨by omega, by omega⟩
 have wb : IntKind.u64.wrap b = b := IntWalk.u64_in _ ⟨by omega, by omega⟩
 have Hq := Lib.hid hq
 have HV := Lib.hid h
 clear h hq
 unfold gv nv at *
 go_enter Tryz.func104, Tryz.ntmps104
 go_wp2_with fail
 refine (HM.out _).mono ?_
 rintro e w1 ⟨rfl, hg1⟩
 have hb := (hg1.block _ (by simp; omega) (by simp)).trans (((World.grownBy_alloc _ (.cells #[.int .u64 (k : Int), .int .u64 (l : Int), .int .u64 (o : Int), .int .u64 (s : Int), .int .u64 (d0 : Int), .int .u64 (d1 : Int), .int .u64 (d2 : Int), .int .u64 (d3 : Int), .int .u64 (ch : Int), .int .u64 (p : Int)] 133) none).block _ (by simp) (by simp)).trans (heap_alloc_new w (.cells #[.int .i64 a, .int .i64 b, .int .i64 c] 23)))
 have hc := (hg1.block _ (by simp) (by simp)).trans (heap_alloc_new2 w (.cells #[.int .i64 a, .int .i64 b, .int .i64 c] 23) (.cells #[.int .u64 (k : Int), .int .u64 (l : Int), .int .u64 (o : Int), .int .u64 (s : Int), .int .u64 (d0 : Int), .int .u64 (d1 : Int), .int .u64 (d2 : Int), .int .u64 (d3 : Int), .int .u64 (ch : Int), .int .u64 (p : Int)] 133))
 have hg := Lib.hid (grown_trans (grown_alloc2 w _ _) hg1)
 clear hg1 HM
 have f0 : w1.cell? ⟨w.heap.size, 0, none⟩ = some (.int .i64 a) := by simp [World.cell?, hb]
 have f1 : w1.cell? ⟨w.heap.size, 1, none⟩ = some (.int .i64 b) := by simp [World.cell?, hb]
 have f2 : w1.cell? ⟨w.heap.size, 2, none⟩ = some (.int .i64 c) := by simp [World.cell?, hb]
 have x0 : w1.cell? ⟨w.heap.size + 1, 0, none⟩ = some (.int .u64 (k : Int)) := by simp [World.cell?, hc]
 have x1 : w1.cell? ⟨w.heap.size + 1, 1, none⟩ = some (.int .u64 (l : Int)) := by simp [World.cell?, hc]
 have x2 : w1.cell? ⟨w.heap.size + 1, 2, none⟩ = some (.int .u64 (o : Int)) := by simp [World.cell?, hc]
 have x3 : w1.cell? ⟨w.heap.size + 1, 3, none⟩ = some (.int .u64 (s : Int)) := by simp [World.cell?, hc]
 have x4 : w1.cell? ⟨w.heap.size + 1, 4, none⟩ = some (.int .u64 (d0 : Int)) := by simp [World.cell?, hc]
 have x5 : w1.cell? ⟨w.heap.size + 1, 5, none⟩ = some (.int .u64 (d1 : Int)) := by simp [World.cell?, hc]
 have x6 : w1.cell? ⟨w.heap.size + 1, 6, none⟩ = some (.int .u64 (d2 : Int)) := by simp [World.cell?, hc]
 have x7 : w1.cell? ⟨w.heap.size + 1, 7, none⟩ = some (.int .u64 (d3 : Int)) := by simp [World.cell?, hc]
 have x8 : w1.cell? ⟨w.heap.size + 1, 8, none⟩ = some (.int .u64 (ch : Int)) := by simp [World.cell?, hc]
 have x9 : w1.cell? ⟨w.heap.size + 1, 9, none⟩ = some (.int .u64 (p : Int)) := by simp [World.cell?, hc]
 clear hb hc
 by_cases h1 : k = 1
 ·subst h1
  go_wp2_with fail
  all_goals first
   | (go_ret; exact boolIs_mk (by have hm := HV.out; unfold rightB; rw [decide_eq_false_iff_not]; omega) hg.out)
   | (go_ret; exact boolIs_mk (by have hx := bne_iff_ne.1 ‹(((p : Nat) : Int) != 0) = true›; unfold rightB; rw [decide_eq_false_iff_not]; omega) hg.out)
   | skip
  have HR : Hid (rightB a b c 1 l o s d0 d1 d2 d3 ch p = decide ((d0 : Int) < c ∧ (d1 : Int) < c ∧ (d2 : Int) < c ∧ (d3 : Int) < c)) := Lib.hid (by
   have hm := HV.out
   have hp : p = 0 := by have hx := ‹(((p : Nat) : Int) != 0) = false›; simpa using hx
   unfold rightB
   rw [decide_eq_decide]
   constructor
   ·intro hh; exact hh.2.2.2.2.2.2.2.2.2
   ·intro hh; exact ⟨hm, by omega, by omega, by omega, by omega, by omega, by omega, by omega, by omega, hh⟩)
  have i0 : ∀ w : World, (Instr.index 131 (.agg #[.int .u64 (d0 : Int), .int .u64 (d1 : Int), .int .u64 (d2 : Int), .int .u64 (d3 : Int)]) (.int .i64 0)).run Tryz.prog w = .ok (.int .u64 (d0 : Int)) w := fun _ => by kernel_rfl
  have i1 : ∀ w : World, (Instr.index 131 (.agg #[.int .u64 (d0 : Int), .int .u64 (d1 : Int), .int .u64 (d2 : Int), .int .u64 (d3 : Int)]) (.int .i64 1)).run Tryz.prog w = .ok (.int .u64 (d1 : Int)) w := fun _ => by kernel_rfl
  have i2 : ∀ w : World, (Instr.index 131 (.agg #[.int .u64 (d0 : Int), .int .u64 (d1 : Int), .int .u64 (d2 : Int), .int .u64 (d3 : Int)]) (.int .i64 2)).run Tryz.prog w = .ok (.int .u64 (d2 : Int)) w := fun _ => by kernel_rfl
  have i3 : ∀ w : World, (Instr.index 131 (.agg #[.int .u64 (d0 : Int), .int .u64 (d1 : Int), .int .u64 (d2 : Int), .int .u64 (d3 : Int)]) (.int .i64 3)).run Tryz.prog w = .ok (.int .u64 (d3 : Int)) w := fun _ => by kernel_rfl
  clear x0 x1 x2 x3 x4 x5 x6 x7 x8 x9
  go_loopw [58] (fun i wr => ∃ j : Int, (j = 0 ∨ (j = 1 ∧ (d0 : Int) < c) ∨ (j = 2 ∧ (d0 : Int) < c ∧ (d1 : Int) < c) ∨ (j = 3 ∧ (d0 : Int) < c ∧ (d1 : Int) < c ∧ (d2 : Int) < c) ∨ (j = 4 ∧ (d0 : Int) < c ∧ (d1 : Int) < c ∧ (d2 : Int) < c ∧ (d3 : Int) < c)) ∧ i = .int .i64 j ∧ wr = w1) (fun i _ => 4 - (intOf i).toNat)
  case atStart => exact ⟨0, .inl rfl, rfl, rfl⟩
  case round =>
   obtain ⟨j, hj, rfl, rfl⟩ := hrel
   rcases hj with rfl | ⟨rfl, y0⟩ | ⟨rfl, y0, y1⟩ | ⟨rfl, y0, y1, y2⟩ | ⟨rfl, y0, y1, y2, y3⟩
   ·by_cases h : (d0 : Int) < c
    ·have hh : ¬ c ≤ (d0 : Int) := by omega
     go_wp2
     go_roundw
     case rel => exact ⟨1, .inr (.inl ⟨rfl, h⟩), rfl, trivial⟩
     case measure => simp [intOf]
    ·have hh : c ≤ (d0 : Int) := by omega
     have HF := Lib.hid (show rightB a b c 1 l o s d0 d1 d2 d3 ch p = false by rw [HR.out, decide_eq_false_iff_not]; omega)
     go_wp2
     go_ret
     exact boolIs_mk HF.out hg.out
   ·by_cases h : (d1 : Int) < c
    ·have hh : ¬ c ≤ (d1 : Int) := by omega
     go_wp2
     go_roundw
     case rel => exact ⟨2, .inr (.inr (.inl ⟨rfl, y0, h⟩)), rfl, trivial⟩
     case measure => simp [intOf]
    ·have hh : c ≤ (d1 : Int) := by omega
     have HF := Lib.hid (show rightB a b c 1 l o s d0 d1 d2 d3 ch p = false by rw [HR.out, decide_eq_false_iff_not]; omega)
     go_wp2
     go_ret
     exact boolIs_mk HF.out hg.out
   ·by_cases h : (d2 : Int) < c
    ·have hh : ¬ c ≤ (d2 : Int) := by omega
     go_wp2
     go_roundw
     case rel => exact ⟨3, .inr (.inr (.inr (.inl ⟨rfl, y0, y1, h⟩))), rfl, trivial⟩
     case measure => simp [intOf]
    ·have hh : c ≤ (d2 : Int) := by omega
     have HF := Lib.hid (show rightB a b c 1 l o s d0 d1 d2 d3 ch p = false by rw [HR.out, decide_eq_false_iff_not]; omega)
     go_wp2
     go_ret
     exact boolIs_mk HF.out hg.out
   ·by_cases h : (d3 : Int) < c
    ·have hh : ¬ c ≤ (d3 : Int) := by omega
     go_wp2
     go_roundw
     case rel => exact ⟨4, .inr (.inr (.inr (.inr ⟨rfl, y0, y1, y2, h⟩))), rfl, trivial⟩
     case measure => simp [intOf]
    ·have hh : c ≤ (d3 : Int) := by omega
     have HF := Lib.hid (show rightB a b c 1 l o s d0 d1 d2 d3 ch p = false by rw [HR.out, decide_eq_false_iff_not]; omega)
     go_wp2
     go_ret
     exact boolIs_mk HF.out hg.out
   ·have HF := Lib.hid (show rightB a b c 1 l o s d0 d1 d2 d3 ch p = true by rw [HR.out, decide_eq_true_eq]; omega)
    go_wp2
    go_ret
    exact boolIs_mk HF.out hg.out
 ·by_cases h2 : k = 2
  ·subst h2
   go_wp2_with fail
   all_goals first
    | (go_ret; exact boolIs_mk (by have hm := HV.out; unfold rightB; rw [decide_eq_false_iff_not]; omega) hg.out)
    | (go_ret; exact boolIs_mk (by have hx := bne_iff_ne.1 ‹(((s : Nat) : Int) != 0) = true›; unfold rightB; rw [decide_eq_false_iff_not]; omega) hg.out)
    | skip
   have HR : Hid (rightB a b c 2 l o s d0 d1 d2 d3 ch p = decide ((d0 : Int) < c ∧ (d1 : Int) < c ∧ (d2 : Int) < c ∧ (d3 : Int) < c)) := Lib.hid (by
    have hm := HV.out
    have hp : s = 0 := by have hx := ‹(((s : Nat) : Int) != 0) = false›; simpa using hx
    unfold rightB
    rw [decide_eq_decide]
    constructor
    ·intro hh; exact hh.2.2.2.2.2.2.2.2.2
    ·intro hh; exact ⟨hm, by omega, by omega, by omega, by omega, by omega, by omega, by omega, by omega, hh⟩)
   have i0 : ∀ w : World, (Instr.index 131 (.agg #[.int .u64 (d0 : Int), .int .u64 (d1 : Int), .int .u64 (d2 : Int), .int .u64 (d3 : Int)]) (.int .i64 0)).run Tryz.prog w = .ok (.int .u64 (d0 : Int)) w := fun _ => by kernel_rfl
   have i1 : ∀ w : World, (Instr.index 131 (.agg #[.int .u64 (d0 : Int), .int .u64 (d1 : Int), .int .u64 (d2 : Int), .int .u64 (d3 : Int)]) (.int .i64 1)).run Tryz.prog w = .ok (.int .u64 (d1 : Int)) w := fun _ => by kernel_rfl
   have i2 : ∀ w : World, (Instr.index 131 (.agg #[.int .u64 (d0 : Int), .int .u64 (d1 : Int), .int .u64 (d2 : Int), .int .u64 (d3 : Int)]) (.int .i64 2)).run Tryz.prog w = .ok (.int .u64 (d2 : Int)) w := fun _ => by kernel_rfl
   have i3 : ∀ w : World, (Instr.index 131 (.agg #[.int .u64 (d0 : Int), .int .u64 (d1 : Int), .int .u64 (d2 : Int), .int .u64 (d3 : Int)]) (.int .i64 3)).run Tryz.prog w = .ok (.int .u64 (d3 : Int)) w := fun _ => by kernel_rfl
   clear x0 x1 x2 x3 x4 x5 x6 x7 x8 x9
   go_loopw [58] (fun i wr => ∃ j : Int, (j = 0 ∨ (j = 1 ∧ (d0 : Int) < c) ∨ (j = 2 ∧ (d0 : Int) < c ∧ (d1 : Int) < c) ∨ (j = 3 ∧ (d0 : Int) < c ∧ (d1 : Int) < c ∧ (d2 : Int) < c) ∨ (j = 4 ∧ (d0 : Int) < c ∧ (d1 : Int) < c ∧ (d2 : Int) < c ∧ (d3 : Int) < c)) ∧ i = .int .i64 j ∧ wr = w1) (fun i _ => 4 - (intOf i).toNat)
   case atStart => exact ⟨0, .inl rfl, rfl, rfl⟩
   case round =>
    obtain ⟨j, hj, rfl, rfl⟩ := hrel
    rcases hj with rfl | ⟨rfl, y0⟩ | ⟨rfl, y0, y1⟩ | ⟨rfl, y0, y1, y2⟩ | ⟨rfl, y0, y1, y2, y3⟩
    ·by_cases h : (d0 : Int) < c
     ·have hh : ¬ c ≤ (d0 : Int) := by omega
      go_wp2
      go_roundw
      case rel => exact ⟨1, .inr (.inl ⟨rfl, h⟩), rfl, trivial⟩
      case measure => simp [intOf]
     ·have hh : c ≤ (d0 : Int) := by omega
      have HF := Lib.hid (show rightB a b c 2 l o s d0 d1 d2 d3 ch p = false by rw [HR.out, decide_eq_false_iff_not]; omega)
      go_wp2
      go_ret
      exact boolIs_mk HF.out hg.out
    ·by_cases h : (d1 : Int) < c
     ·have hh : ¬ c ≤ (d1 : Int) := by omega
      go_wp2
      go_roundw
      case rel => exact ⟨2, .inr (.inr (.inl ⟨rfl, y0, h⟩)), rfl, trivial⟩
      case measure => simp [intOf]
     ·have hh : c ≤ (d1 : Int) := by omega
      have HF := Lib.hid (show rightB a b c 2 l o s d0 d1 d2 d3 ch p = false by rw [HR.out, decide_eq_false_iff_not]; omega)
      go_wp2
      go_ret
      exact boolIs_mk HF.out hg.out
    ·by_cases h : (d2 : Int) < c
     ·have hh : ¬ c ≤ (d2 : Int) := by omega
      go_wp2
      go_roundw
      case rel => exact ⟨3, .inr (.inr (.inr (.inl ⟨rfl, y0, y1, h⟩))), rfl, trivial⟩
      case measure => simp [intOf]
     ·have hh : c ≤ (d2 : Int) := by omega
      have HF := Lib.hid (show rightB a b c 2 l o s d0 d1 d2 d3 ch p = false by rw [HR.out, decide_eq_false_iff_not]; omega)
      go_wp2
      go_ret
      exact boolIs_mk HF.out hg.out
    ·by_cases h : (d3 : Int) < c
     ·have hh : ¬ c ≤ (d3 : Int) := by omega
      go_wp2
      go_roundw
      case rel => exact ⟨4, .inr (.inr (.inr (.inr ⟨rfl, y0, y1, y2, h⟩))), rfl, trivial⟩
      case measure => simp [intOf]
     ·have hh : c ≤ (d3 : Int) := by omega
      have HF := Lib.hid (show rightB a b c 2 l o s d0 d1 d2 d3 ch p = false by rw [HR.out, decide_eq_false_iff_not]; omega)
      go_wp2
      go_ret
      exact boolIs_mk HF.out hg.out
    ·have HF := Lib.hid (show rightB a b c 2 l o s d0 d1 d2 d3 ch p = true by rw [HR.out, decide_eq_true_eq]; omega)
     go_wp2
     go_ret
     exact boolIs_mk HF.out hg.out
  ·have e1 : ((k : Int) != 1) = true := by simp; omega
   have e2 : ((k : Int) != 2) = true := by simp; omega
   go_wp2
   go_ret
   exact boolIs_mk (by unfold rightB; rw [decide_eq_false_iff_not]; omega) hg.out
theorem Right_any (a b c : Int) (k l o s d0 d1 d2 d3 ch p : Nat) (w : World) : Calls Tryz.prog 104 #[gv a b c, nv k l o s d0 d1 d2 d3 ch p] w (BoolIs (rightB a b c k l o s d0 d1 d2 d3 ch p) w) := by
 cases h : mayB a b c with
 | true => exact Right_may a b c k l o s d0 d1 d2 d3 ch p w h
 | false => exact (Right_none a b c k l o s d0 d1 d2 d3 ch p w h).mono (fun e w' hh => by rw [show rightB a b c k l o s d0 d1 d2 d3 ch p = false from by unfold rightB; rw [decide_eq_false_iff_not, h]; simp]; exact hh)
end Go.Proofs.YtfljlmmiiccooaaGreatDoor
end
