/- RequestBack: two requests compared; what may be is few. -/
import Derived.Test.YtlphmpimpeekcaaBkMath2
import Derived.Test.YtlphmpimpeekcaaOthMath
namespace Go.Proofs.Ytlphmpimpeekcaa
open Go.RowKit Go.Grommet

def eqRq (a b : Rq) : Bool := a.k == b.k && (a.fl == b.fl && (a.fd == b.fd && (a.at_ == b.at_ && (a.sz == b.sz && (decide (a.p = b.p) && (decide (a.t = b.t) && decide (a.d = b.d)))))))
theorem eqRq_iff (a b : Rq) : eqRq a b = true ↔ a = b := by
  obtain ⟨k, fl, fd, at_, sz, p, t, d⟩ := a
  obtain ⟨k2, fl2, fd2, at2, sz2, p2, t2, d2⟩ := b
  unfold eqRq
  simp only [Bool.and_eq_true, beq_iff_eq, decide_eq_true_eq, Rq.mk.injEq]
theorem toList_inj {a b : ByteArray} : a.toList = b.toList ↔ a = b := by
  rw [ByteArray.toList_eq, ByteArray.toList_eq]
  constructor
  · intro h
    have : a.data = b.data := Array.toList_inj.1 h
    cases a; cases b; simp only at this; rw [this]
  · intro h; rw [h]
set_option maxRecDepth 100000 in
theorem agg_eq (a b : Rq) (w : World) : (binOp BinOp.eql 24 (.agg a.cs) (.agg b.cs)).run Try.prog w = .ok (.bool (eqRq a b)) w := by
  unfold Rq.cs eqRq
  go_simp
  repeat' split
  all_goals simp_all [toList_inj]
  all_goals first | omega | (intro q1 q2 q3 q4 q5; exfalso; omega)
set_option maxRecDepth 100000 in
theorem agg_ne (a b : Rq) (w : World) : (binOp BinOp.neq 24 (.agg a.cs) (.agg b.cs)).run Try.prog w = .ok (.bool (!eqRq a b)) w := by
  unfold Rq.cs eqRq
  go_simp
  repeat' split
  all_goals simp_all [toList_inj]
  all_goals first | omega | (intro q1 q2 q3 q4 q5; exfalso; omega)
theorem str_eq (a b : ByteArray) (w : World) : (binOp BinOp.eql 9 (.string a) (.string b)).run Try.prog w = .ok (.bool (decide (a = b))) w := by
  go_simp
  by_cases h : a = b
  · subst h; simp
  · have h2 : ¬ a.toList = b.toList := fun e => h (toList_inj.1 e)
    simp [h, h2]
theorem may_few {r : Rq} (h : mayQ r = true) : r.Few := by
  obtain ⟨h1, h2⟩ := isKind_may h
  obtain ⟨k, fl, fd, at_, sz, p, t, d⟩ := r
  simp only at h1 h2
  have hk : k = 1 ∨ k = 2 ∨ k = 3 ∨ k = 4 ∨ k = 5 ∨ k = 6 ∨ k = 7 ∨ k = 8 ∨ k = 9 ∨ k = 10 ∨ k = 11 ∨ k = 12 ∨ k = 13 := by omega
  rcases hk with rfl | rfl | rfl | rfl | rfl | rfl | rfl | rfl | rfl | rfl | rfl | rfl | rfl
  all_goals
    simp only [mayQ, awayL, flds, awayS, Rq.away, Rq.fits, Rq.bare, isKind, List.length_cons, List.length_nil, List.take_succ_cons, List.take_nil, List.foldl_cons, List.foldl_nil, Bool.and_eq_true, decide_eq_true_eq, beq_iff_eq] at h
    exact ⟨by show p.size ≤ 100000; omega, by show t.size ≤ 100000; omega, by show d.size ≤ 100000; omega⟩
theorem str_inj {a b : List UInt8} (h : str a = str b) : a = b := by
  have := congrArg bytesOf h
  rwa [bytesOf_str, bytesOf_str] at this
theorem putQ_no {r : Rq} (h : mayQ r = false) : putQ r = [] := by unfold putQ; rw [if_neg (by rw [h]; decide)]
theorem get_nil : getR [] = zeroRq ∧ getN [] = 4 := by
  have h : getB [] = false := by
    cases hx : getB [] with
    | false => rfl
    | true => have := (getB_parts hx).2.1; rw [getE_nil] at this; cases this
  unfold getR getN; rw [h]; exact ⟨rfl, rfl⟩
theorem get_no {b : List UInt8} (h : getB b = false) : getR b = zeroRq ∧ getN b = 4 := by unfold getR getN; rw [h]; exact ⟨rfl, rfl⟩
theorem get_yes {b : List UInt8} (h : getB b = true) : getR b = (getE b).r ∧ getN b = 0 := by unfold getR getN; rw [h]; exact ⟨rfl, rfl⟩
end Go.Proofs.Ytlphmpimpeekcaa
