/- '==' of two nodes. -/
import Derived.Test.YtmoddhfemejekaaEvM1
import Derived.Test.YtmoddhfemejekaaInoA
namespace Go.Proofs.Ytmoddhfemejekaa
open Go.RowKit Go.Grommet Go.Ev

theorem fl_step {P : Program} {eq : TypeId → Value → Value → Sem Bool} {xs ys : Array Value} {f : Field} {fs : List Field} {a b : Value} {r : Bool} {w : World} (hn : f.name ≠ "_") (ha : (part f.type xs f.offset).run P w = .ok a w) (hb : (part f.type ys f.offset).run P w = .ok b w) (he : (eq f.type a b).run P w = .ok r w) :
    (fieldsLoop eq xs ys (f :: fs)).run P w = if r = true then (fieldsLoop eq xs ys fs).run P w else .ok false w := by
  rw [fieldsLoop, if_pos hn]
  simp only [Sem.run_bind, ha, hb, he, Result.andThen_ok]
  cases r <;> simp
theorem el_step {P : Program} {eq : Value → Value → Sem Bool} {e n i : Nat} {xs ys : Array Value} {l : List Nat} {a b : Value} {r : Bool} {w : World} (ha : (part e xs (i * n)).run P w = .ok a w) (hb : (part e ys (i * n)).run P w = .ok b w) (he : (eq a b).run P w = .ok r w) :
    (elemsLoop eq e n xs ys (i :: l)).run P w = if r = true then (elemsLoop eq e n xs ys l).run P w else .ok false w := by
  rw [elemsLoop]
  simp only [Sem.run_bind, ha, hb, he, Result.andThen_ok]
  cases r <;> simp
theorem eq_u64 (d : Nat) (a b : Int) (w : World) : (Op.equalIn (d + 1) 35 (.int .u64 a) (.int .u64 b)).run Try.prog w = .ok (a == b) w := by
  simp [Op.equalIn, run_underlying Try.underlying35]
set_option maxRecDepth 100000 in
theorem eq_four (d : Nat) (x4 x5 x6 x7 y4 y5 y6 y7 : Int) (w : World) : (Op.equalIn (d + 2) 36 (.agg #[.int .u64 x4, .int .u64 x5, .int .u64 x6, .int .u64 x7]) (.agg #[.int .u64 y4, .int .u64 y5, .int .u64 y6, .int .u64 y7])).run Try.prog w = .ok ((x4 == y4) && (x5 == y5) && (x6 == y6) && (x7 == y7)) w := by
  rw [equalIn_array (n := 1) Try.underlying36 (by kernel_rfl)]
  show (elemsLoop (Op.equalIn (d + 1) 35) 35 1 _ _ [0, 1, 2, 3]).run Try.prog w = _
  refine (el_step (a := .int .u64 x4) (b := .int .u64 y4) (by kernel_rfl) (by kernel_rfl) (eq_u64 d x4 y4 w)).trans ?_
  cases h0 : (x4 == y4)
  · simp
  rw [if_pos rfl]
  refine (el_step (a := .int .u64 x5) (b := .int .u64 y5) (by kernel_rfl) (by kernel_rfl) (eq_u64 d x5 y5 w)).trans ?_
  cases h1 : (x5 == y5)
  · simp
  rw [if_pos rfl]
  refine (el_step (a := .int .u64 x6) (b := .int .u64 y6) (by kernel_rfl) (by kernel_rfl) (eq_u64 d x6 y6 w)).trans ?_
  cases h2 : (x6 == y6)
  · simp
  rw [if_pos rfl]
  refine (el_step (a := .int .u64 x7) (b := .int .u64 y7) (by kernel_rfl) (by kernel_rfl) (eq_u64 d x7 y7 w)).trans ?_
  cases h3 : (x7 == y7)
  · simp
  rw [if_pos rfl]
  rfl
set_option maxRecDepth 100000 in
theorem equal_node (x0 x1 x2 x3 x4 x5 x6 x7 x8 x9 y0 y1 y2 y3 y4 y5 y6 y7 y8 y9 : Int) (w : World) : (Op.equal 38 (.agg #[.int .u64 x0, .int .u64 x1, .int .u64 x2, .int .u64 x3, .int .u64 x4, .int .u64 x5, .int .u64 x6, .int .u64 x7, .int .u64 x8, .int .u64 x9]) (.agg #[.int .u64 y0, .int .u64 y1, .int .u64 y2, .int .u64 y3, .int .u64 y4, .int .u64 y5, .int .u64 y6, .int .u64 y7, .int .u64 y8, .int .u64 y9])).run Try.prog w = .ok ((x0 == y0) && (x1 == y1) && (x2 == y2) && (x3 == y3) && ((x4 == y4) && (x5 == y5) && (x6 == y6) && (x7 == y7)) && (x8 == y8) && (x9 == y9)) w := by
    show (Op.equalIn (9999 + 1) 38 (.agg #[.int .u64 x0, .int .u64 x1, .int .u64 x2, .int .u64 x3, .int .u64 x4, .int .u64 x5, .int .u64 x6, .int .u64 x7, .int .u64 x8, .int .u64 x9]) (.agg #[.int .u64 y0, .int .u64 y1, .int .u64 y2, .int .u64 y3, .int .u64 y4, .int .u64 y5, .int .u64 y6, .int .u64 y7, .int .u64 y8, .int .u64 y9])).run Try.prog w = _
    rw [equalIn_struct Try.underlying38 (by kernel_rfl)]
    simp only []
    refine (fl_step (a := .int .u64 x0) (b := .int .u64 y0) ?n ?p ?q (eq_u64 9998 x0 y0 w)).trans ?_
    case n => decide
    case p => kernel_rfl
    case q => kernel_rfl
    cases g0 : (x0 == y0)
    · simp
    rw [if_pos rfl]
    refine (fl_step (a := .int .u64 x1) (b := .int .u64 y1) ?n ?p ?q (eq_u64 9998 x1 y1 w)).trans ?_
    case n => decide
    case p => kernel_rfl
    case q => kernel_rfl
    cases g1 : (x1 == y1)
    · simp
    rw [if_pos rfl]
    refine (fl_step (a := .int .u64 x2) (b := .int .u64 y2) ?n ?p ?q (eq_u64 9998 x2 y2 w)).trans ?_
    case n => decide
    case p => kernel_rfl
    case q => kernel_rfl
    cases g2 : (x2 == y2)
    · simp
    rw [if_pos rfl]
    refine (fl_step (a := .int .u64 x3) (b := .int .u64 y3) ?n ?p ?q (eq_u64 9998 x3 y3 w)).trans ?_
    case n => decide
    case p => kernel_rfl
    case q => kernel_rfl
    cases g3 : (x3 == y3)
    · simp
    rw [if_pos rfl]
    refine (fl_step (a := .agg #[.int .u64 x4, .int .u64 x5, .int .u64 x6, .int .u64 x7]) (b := .agg #[.int .u64 y4, .int .u64 y5, .int .u64 y6, .int .u64 y7]) ?n ?p ?q (eq_four 9997 x4 x5 x6 x7 y4 y5 y6 y7 w)).trans ?_
    case n => decide
    case p => kernel_rfl
    case q => kernel_rfl
    cases g4 : ((x4 == y4) && (x5 == y5) && (x6 == y6) && (x7 == y7))
    · simp
    rw [if_pos rfl]
    refine (fl_step (a := .int .u64 x8) (b := .int .u64 y8) ?n ?p ?q (eq_u64 9998 x8 y8 w)).trans ?_
    case n => decide
    case p => kernel_rfl
    case q => kernel_rfl
    cases g5 : (x8 == y8)
    · simp
    rw [if_pos rfl]
    refine (fl_step (a := .int .u64 x9) (b := .int .u64 y9) ?n ?p ?q (eq_u64 9998 x9 y9 w)).trans ?_
    case n => decide
    case p => kernel_rfl
    case q => kernel_rfl
    cases g6 : (x9 == y9)
    · simp
    rw [if_pos rfl]
    rfl
theorem eql_node (x0 x1 x2 x3 x4 x5 x6 x7 x8 x9 y0 y1 y2 y3 y4 y5 y6 y7 y8 y9 : Int) (w : World) : (binOp .eql 38 (.agg #[.int .u64 x0, .int .u64 x1, .int .u64 x2, .int .u64 x3, .int .u64 x4, .int .u64 x5, .int .u64 x6, .int .u64 x7, .int .u64 x8, .int .u64 x9]) (.agg #[.int .u64 y0, .int .u64 y1, .int .u64 y2, .int .u64 y3, .int .u64 y4, .int .u64 y5, .int .u64 y6, .int .u64 y7, .int .u64 y8, .int .u64 y9])).run Try.prog w = .ok (.bool ((x0 == y0) && (x1 == y1) && (x2 == y2) && (x3 == y3) && ((x4 == y4) && (x5 == y5) && (x6 == y6) && (x7 == y7)) && (x8 == y8) && (x9 == y9))) w := by
  simp [binOp, equal_node]
theorem neq_same (x0 x1 x2 x3 x4 x5 x6 x7 x8 x9 : Int) (w : World) : (binOp .neq 38 (.agg #[.int .u64 x0, .int .u64 x1, .int .u64 x2, .int .u64 x3, .int .u64 x4, .int .u64 x5, .int .u64 x6, .int .u64 x7, .int .u64 x8, .int .u64 x9]) (.agg #[.int .u64 x0, .int .u64 x1, .int .u64 x2, .int .u64 x3, .int .u64 x4, .int .u64 x5, .int .u64 x6, .int .u64 x7, .int .u64 x8, .int .u64 x9])).run Try.prog w = .ok (.bool false) w := by
  simp [binOp, equal_node]
theorem eql_same (x0 x1 x2 x3 x4 x5 x6 x7 x8 x9 : Int) (w : World) : (binOp .eql 38 (.agg #[.int .u64 x0, .int .u64 x1, .int .u64 x2, .int .u64 x3, .int .u64 x4, .int .u64 x5, .int .u64 x6, .int .u64 x7, .int .u64 x8, .int .u64 x9]) (.agg #[.int .u64 x0, .int .u64 x1, .int .u64 x2, .int .u64 x3, .int .u64 x4, .int .u64 x5, .int .u64 x6, .int .u64 x7, .int .u64 x8, .int .u64 x9])).run Try.prog w = .ok (.bool true) w := by
  rw [eql_node]; simp
theorem eql_other (x0 x1 x2 x3 x4 x5 x6 x7 x8 x9 y0 y1 y2 y3 y4 y5 y6 y7 y8 y9 : Int) (w : World) (h : ¬ (x0 = y0 ∧ x1 = y1 ∧ x2 = y2 ∧ x3 = y3 ∧ x4 = y4 ∧ x5 = y5 ∧ x6 = y6 ∧ x7 = y7 ∧ x8 = y8 ∧ x9 = y9)) : (binOp .eql 38 (.agg #[.int .u64 x0, .int .u64 x1, .int .u64 x2, .int .u64 x3, .int .u64 x4, .int .u64 x5, .int .u64 x6, .int .u64 x7, .int .u64 x8, .int .u64 x9]) (.agg #[.int .u64 y0, .int .u64 y1, .int .u64 y2, .int .u64 y3, .int .u64 y4, .int .u64 y5, .int .u64 y6, .int .u64 y7, .int .u64 y8, .int .u64 y9])).run Try.prog w = .ok (.bool false) w := by
  rw [eql_node]
  congr 2
  rw [Bool.eq_false_iff]
  intro e
  simp only [Bool.and_eq_true, beq_iff_eq] at e
  exact h ⟨e.1.1.1.1.1.1, e.1.1.1.1.1.2, e.1.1.1.1.2, e.1.1.1.2, e.1.1.2.1.1.1, e.1.1.2.1.1.2, e.1.1.2.1.2, e.1.1.2.2, e.1.2, e.2⟩
end Go.Proofs.Ytmoddhfemejekaa
