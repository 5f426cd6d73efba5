/- RequestOthers: of each kind one or two fields can grow. -/
import Derived.Test.YtlphmpimpeekcaaReqF
namespace Go.Proofs.Ytlphmpimpeekcaa
open Go.RowKit Go.Grommet

/-- A request with one field grown. -/
def Rq.var (r : Rq) (f1 a1 s1 : Nat) : Nat → Rq
  | 0 => { r with fd := f1 }
  | 1 => { r with at_ := a1 }
  | 2 => { r with sz := s1 }
  | 3 => { r with p := r.p ++ ⟨#[120]⟩ }
  | 4 => { r with t := r.t ++ ⟨#[120]⟩ }
  | _ => { r with d := r.d ++ ⟨#[120]⟩ }
def cntV (r : Rq) (f1 a1 s1 : Nat) : Nat → Nat
  | 0 => 0
  | i + 1 => cntV r f1 a1 s1 i + (if mayQ (r.var f1 a1 s1 i) = true then 1 else 0)
theorem isKind_of_may {r : Rq} (h : mayQ r = true) : 1 ≤ r.k ∧ r.k ≤ 13 := by
  by_cases hk : isKind r.k = true
  · unfold isKind at hk; simpa using hk
  · exfalso
    have hk : isKind r.k = false := by simpa using hk
    have e : ∀ n, (awayL r n).2 = false := by
      intro n
      unfold awayL
      rw [hk]
      have : ∀ (l : List Fd) (s : Rq), (l.foldl awayS (s, false)).2 = false := by
        intro l
        induction l with
        | nil => intro s; rfl
        | cons f l ih => intro s; exact ih _
      exact this _ _
    unfold mayQ at h
    rw [e] at h; simp at h
theorem size_x (s : ByteArray) : (s ++ (⟨#[120]⟩ : ByteArray)).size = s.size + 1 := by rw [ByteArray.size_append]; rfl
theorem cnt_all (r : Rq) (f1 a1 s1 : Nat) (hr : r.Ok) (hm : mayQ r = true) (hf : f1 = (r.fd + 1) % 18446744073709551616) (ha : a1 = (r.at_ + 1) % 18446744073709551616) (hs : s1 = (r.sz + 1) % 18446744073709551616) :
    cntV r f1 a1 s1 6 ≤ 2 ∧ (r.k = 2 → cntV r f1 a1 s1 6 = 1) ∧ (r.k = 3 ∨ r.k = 5 ∨ r.k = 6 → cntV r f1 a1 s1 6 = 2) := by
  obtain ⟨h1, h2⟩ := isKind_of_may hm
  obtain ⟨k, fl, fd, at_, sz, p, t, d⟩ := r
  have b1 := hr.fd; have b2 := hr.at_; have b3 := hr.sz
  simp only at h1 h2 hf ha hs b1 b2 b3
  have c1 : f1 < 18446744073709551616 := by omega
  have c2 : a1 < 18446744073709551616 := by omega
  have c3 : s1 < 18446744073709551616 := by omega
  have hk : k = 1 ∨ k = 2 ∨ k = 3 ∨ k = 4 ∨ k = 5 ∨ k = 6 ∨ k = 7 ∨ k = 8 ∨ k = 9 ∨ k = 10 ∨ k = 11 ∨ k = 12 ∨ k = 13 := by omega
  have e1 := size_x p; have e2 := size_x t; have e3 := size_x d
  rcases hk with rfl | rfl | rfl | rfl | rfl | rfl | rfl | rfl | rfl | rfl | rfl | rfl | rfl
  all_goals
    simp [mayQ, awayL, flds, awayS, Rq.away, Rq.fits, Rq.bare, isKind] at hm
    simp only [cntV, Rq.var, mayQ, awayL, flds, awayS, Rq.away, Rq.fits, Rq.bare, isKind, List.length_cons, List.length_nil, List.take_succ_cons, List.take_nil, List.foldl_cons, List.foldl_nil, e1, e2, e3]
    refine ⟨?_, ?_, ?_⟩
    all_goals
      simp [hm]
      try omega
      try (repeat' split) <;> omega
end Go.Proofs.Ytlphmpimpeekcaa
