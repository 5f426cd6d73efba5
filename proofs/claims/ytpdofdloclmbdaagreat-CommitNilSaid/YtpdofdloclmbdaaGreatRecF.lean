/- Package record: what the laws of layer 8 share. -/
import Derived.Test.YtpdofdloclmbdaaGreatLawKit
import Derived.Test.YtpdofdloclmbdaaGreatGeo
import Derived.Laws.AppendOwnNone
namespace Go.Proofs.YtpdofdloclmbdaaGreat
open Go.RowKit Go.Grommet

theorem Words_at (bd : Option Addr) (m c : Nat) (M : List (Int × Nat)) (R : List Nat) (Z : Nat) (w : World) (hat : At w bd (icells M)) (hL : M.length = m) (hm : m ≤ 96) (hv : ∀ p ∈ M, p.1 ≤ 9223372036854775807 ∧ p.2 < 18446744073709551616) (hn : negB M = false) (hR : recR M = R) (hz : R.length = Z) :
    Calls Tryz.prog 55 #[.slice bd m c] w fun e w' => ∃ ad cap, e = .returned (.tuple #[.slice ad Z cap, .int .i64 0]) ∧ w'.ownsRow w.heap.size 44 1 (.slice ad Z cap) Z (R.map wv) ∧ w.grownBy w' none := by
  subst hR hz
  exact Words_yes _ bd m c M w hat hL hm hv (Nat.le_refl _) hn

/-- 'append' of words, at an operation of a region that draws its order. -/
theorem wp_app64 {w : World} {o : Oper} {a : Act} {K : Act → World → Prop} {Q : Exit → Act → World → Prop} (s x : Operand)
    (ho : o.op = .call { callee := .builtin .append, args := #[s, x], argTypes := #[33, 33] })
    (base : Nat) (v : Value) (n : Nat) (xs : List Nat) (hs : a.eval s = v) (hown : w.ownsRow base 44 1 v n (xs.map wv))
    (ad : Option Addr) (m c : Nat) (ys : List Nat) (hx : a.eval x = .slice ad m c) (hw : Words w ad m ys) (hnil : ad = none → m = 0 ∧ c = 0)
    (N : Nat) (hN : n + m = N) (zs : List Nat) (hz : xs ++ ys = zs)
    (hb : n + m ≤ 1099511627776) (hbase : base ≤ w.heap.size)
    (h : ∀ ad' cap' w', w'.ownsRow base 44 1 (.slice ad' N cap') N (zs.map wv) → w.grownBy w' v.ownBlock → K (a.put o.dst (.slice ad' N cap')) w') : o.wp Tryz.prog a w K Q := by
  obtain ⟨i0, hi, hz0, hz1, hz2⟩ := info_parts Tryz.info44
  subst hN hz
  cases ad with
  | none =>
    obtain ⟨rfl, rfl⟩ := hnil rfl
    have hys := List.eq_nil_of_length_eq_zero hw.len
    subst hys
    have hrun := run_append_owned_none (P := Tryz.prog) (w := w) base 33 o.type 44 i0 1 Tryz.underlying33 hi v n (xs.map wv) hown
    obtain ⟨ad', cap', rfl, _⟩ := row_slice hown
    unfold Oper.wp execOp
    simp only [ho, resolve, invoke, builtin, Sem.run_bind, Sem.run_pure, Result.andThen_ok, List.map_toArray, List.map_cons, List.map_nil, hs, hx, hrun]
    exact h ad' cap' w (by simpa using hown) (World.grownBy.refl _ _)
  | some ad =>
    obtain ⟨v', w', hr, h2, h3, _⟩ := run_append_blk (P := Tryz.prog) w base 33 o.type 44 i0 (.int .u64 0) 1 8 Tryz.underlying33 hi hz0 hz1 hz2 rfl (by decide) v n (xs.map wv) hown ad m c (ys.map wv) (by rw [List.length_map, hw.len, Nat.mul_one]) hw.at_.some (wv_oneCell ys) (by unfold maxLen; omega) (by omega) hbase
    obtain ⟨ad', cap', rfl, _⟩ := row_slice h2
    unfold Oper.wp execOp
    simp only [ho, resolve, invoke, builtin, Sem.run_bind, Sem.run_pure, Result.andThen_ok, List.map_toArray, List.map_cons, List.map_nil, hs, hx, hr]
    exact h ad' cap' w' (by rw [List.map_append]; exact h2) h3

/-- A geometry stands in a block. -/
def GeoS (G : Nat) (a b c : Int) (w : World) : Prop := w.heap[G]? = some (.cells #[.int .i64 a, .int .i64 b, .int .i64 c] 26 (0, 0))
theorem GeoS.keep {G : Nat} {a b c : Int} {w w' : World} (h : GeoS G a b c w) (hg : w.grownBy w' none) : GeoS G a b c w' := (hg.block G (lt_of_block h) (by simp)).trans h
theorem GeoS.cells {G : Nat} {a b c : Int} {w : World} (h : GeoS G a b c w) : w.cell? ⟨G, 0, none⟩ = some (.int .i64 a) ∧ w.cell? ⟨G, 1, none⟩ = some (.int .i64 b) ∧ w.cell? ⟨G, 2, none⟩ = some (.int .i64 c) := by
  unfold GeoS at h
  refine ⟨?_, ?_, ?_⟩ <;> simp [World.cell?, h]

theorem mayW_neg {a b c : Int} {M : List (Int × Nat)} (h : negB M = true) : mayW a b c M = false := by
  unfold mayW
  rw [decide_eq_false_iff_not]
  rintro ⟨_, _, hp⟩
  unfold negB at h
  rw [List.any_eq_true] at h
  obtain ⟨p, hp1, hp2⟩ := h
  obtain ⟨i, hi, rfl⟩ := List.getElem_of_mem hp1
  have := (hp i hi).1
  rw [List.getD_eq_getElem?_getD, List.getElem?_eq_getElem hi] at this
  unfold standB at this
  have hx : M[i].1 < 0 := by simpa using hp2
  rw [show ((some M[i]).getD (0, 0)) = M[i] from rfl, wh_zero (.inr (.inl hx))] at this
  simp at this
theorem mayW_many {a b c : Int} {M : List (Int × Nat)} (h : 96 < M.length) : mayW a b c M = false := by
  unfold mayW
  rw [decide_eq_false_iff_not]
  omega
end Go.Proofs.YtpdofdloclmbdaaGreat
