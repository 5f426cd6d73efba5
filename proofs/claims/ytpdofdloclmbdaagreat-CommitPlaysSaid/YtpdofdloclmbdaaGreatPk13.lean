/- Texts of ours, packed. -/
import Derived.Test.YtpdofdloclmbdaaGreatRows
import Derived.BigQuiet
import Derived.Deep.QuietTactic
import Derived.StillTailTactics
import Derived.Test.YtpdofdloclmbdaaGreatPk10
import Derived.Test.YtpdofdloclmbdaaGreatPk11
section
/- Words and writes in memory. -/
-- OPTIONAL
namespace Go.Proofs.YtpdofdloclmbdaaGreat
open Go.RowKit Go.Grommet

theorem Tryz.info44 : (Tryz.prog.info? 44).map (fun i => (i.zero, i.size, i.bytes)) = some (some (.int .u64 0), 1, 8) := by kernel_rfl
theorem Tryz.info92 : (Tryz.prog.info? 92).map (fun i => (i.zero, i.size, i.bytes)) = some (some (.agg #[.int .i64 0, .int .u64 0]), 2, 16) := by kernel_rfl

theorem app64 {w : World} {ops : Array Oper} {rest : List Oper} {o : Oper} {a : Act} {Q : Exit → Act → World → Prop} (hgd : o.guard = none) (s x : Operand)
    (ho : o.op = .call { callee := .builtin .append, args := #[s, x], argTypes := #[33, 33] })
    (base : Nat) (v : Value) (n : Nat) (xs : List Nat) (hs : a.eval s = v) (hown : w.ownsRow base 44 1 v n (xs.map wv))
    (ad : Option Addr) (m c : Nat) (ys : List Nat) (hx : a.eval x = .slice ad m c) (hw : Words w ad m ys) (hnil : ad = none → m = 0 ∧ c = 0)
    (hb : n + m ≤ 1099511627776) (hbase : base ≤ w.heap.size)
    (h : ∀ v' w', w'.ownsRow base 44 1 v' (n + m) ((xs ++ ys).map wv) → w.grownBy w' v.ownBlock → wpList Tryz.prog ops Q rest (a.put o.dst v') w') : wpList Tryz.prog ops Q (o :: rest) a w := by
  obtain ⟨i0, hi, hz0, hz1, hz2⟩ := info_parts Tryz.info44
  refine wpList_append_at hgd s x 33 ho base 44 i0 (.int .u64 0) 8 Tryz.underlying33 hi hz0 hz1 hz2 rfl v n (xs.map wv) hs hown ad m c (ys.map wv) hx (by rw [List.length_map, hw.len]) hw.at_ hnil (wv_oneCell ys) (by unfold maxLen; omega) (by omega) hbase ?_
  intro v' w' ho' hg
  exact h v' w' (by rw [List.map_append]; exact ho') hg

/-- Writes whose places are any. -/
def icells : List (Int × Nat) → List Value
  | [] => []
  | p :: t => .int .i64 p.1 :: .int .u64 (p.2 : Int) :: icells t
theorem icells_at : ∀ (L : List (Int × Nat)) (i : Nat), i < L.length → (icells L)[i * 2]? = some (.int .i64 (L.getD i (0, 0)).1) ∧ (icells L)[i * 2 + 1]? = some (.int .u64 ((L.getD i (0, 0)).2 : Int))
  | [], i, h => by simp at h
  | p :: t, 0, _ => by simp [icells]
  | p :: t, i + 1, h => by
    have := icells_at t i (by simpa using h)
    rw [show (i + 1) * 2 = i * 2 + 1 + 1 from by omega]
    simpa [icells] using this
theorem at_ipair {w : World} {bd : Option Addr} {L : List (Int × Nat)} (h : At w bd (icells L)) (k : Nat) (hk : k < L.length) :
    ∃ q o, bd = some ⟨q, o, none⟩ ∧ w.cell? ⟨q, o + k * 2, none⟩ = some (.int .i64 (L.getD k (0, 0)).1) ∧ w.cell? ⟨q, o + k * 2 + 1, none⟩ = some (.int .u64 ((L.getD k (0, 0)).2 : Int)) := by
  obtain ⟨q, o, hb, c0⟩ := h (k * 2) _ (icells_at L k hk).1
  obtain ⟨q', o', hb', c1⟩ := h (k * 2 + 1) _ (icells_at L k hk).2
  rw [hb] at hb'
  cases hb'
  exact ⟨q, o, hb, c0, by rw [Nat.add_assoc]; exact c1⟩
theorem icells_length : ∀ L : List (Int × Nat), (icells L).length = L.length * 2
  | [] => rfl
  | p :: t => by simp [icells, icells_length t]; omega
theorem icells_append : ∀ L M : List (Int × Nat), icells (L ++ M) = icells L ++ icells M
  | [], M => rfl
  | p :: t, M => by simp [icells, icells_append t M]
theorem icells_oneCell : ∀ L : List (Int × Nat), ∀ u ∈ icells L, u.oneCell' = true
  | [], u, h => by simp [icells] at h
  | p :: t, u, h => by
    simp only [icells, List.mem_cons] at h
    rcases h with rfl | rfl | h
    · rfl
    · rfl
    · exact icells_oneCell t u h
theorem getD_mem {α : Type} (L : List α) (i : Nat) (d : α) (h : i < L.length) : L.getD i d ∈ L := by simp [h]
theorem take_snocD {α : Type} (L : List α) (k : Nat) (d : α) (h : k < L.length) : L.take (k + 1) = L.take k ++ [L.getD k d] := by
  rw [List.take_succ_eq_append_getElem h]; simp [h]
theorem appI {w : World} {ops : Array Oper} {rest : List Oper} {o : Oper} {a : Act} {Q : Exit → Act → World → Prop} (hgd : o.guard = none) (s x : Operand)
    (ho : o.op = .call { callee := .builtin .append, args := #[s, x], argTypes := #[43, 43] })
    (base : Nat) (v : Value) (n : Nat) (L : List (Int × Nat)) (hs : a.eval s = v) (hown : w.ownsRow base 92 2 v n (icells L))
    (ad : Addr) (m c : Nat) (M : List (Int × Nat)) (hx : a.eval x = .slice (some ad) m c) (hl : M.length = m) (hw : At w (some ad) (icells M))
    (hb : n + m ≤ 1099511627776) (hbase : base ≤ w.heap.size)
    (h : ∀ ad' cap' w', w'.ownsRow base 92 2 (.slice ad' (n + m) cap') (n + m) (icells (L ++ M)) → w.grownBy w' v.ownBlock → (∀ g, (Value.slice ad' (n + m) cap').ownBlock = some g → v.ownBlock = some g ∨ w.heap.size ≤ g) → wpList Tryz.prog ops Q rest (a.put o.dst (.slice ad' (n + m) cap')) w') : wpList Tryz.prog ops Q (o :: rest) a w := by
  obtain ⟨i0, hi, hz0, hz1, hz2⟩ := info_parts Tryz.info92
  refine wpList_append_blk w hgd s x 43 ho base 92 i0 (.agg #[.int .i64 0, .int .u64 0]) 2 16 Tryz.underlying43 hi hz0 hz1 hz2 rfl (by decide) v n (icells L) hs hown ad m c (icells M) hx (by rw [icells_length, hl]) hw.some (icells_oneCell M) (by unfold maxLen; omega) (by omega) hbase ?_
  intro ad' cap' w' ho' hg hn
  exact h ad' cap' w' (by rw [icells_append]; exact ho') hg hn

/-- An empty literal. -/
theorem own_lit (w : World) (e : TypeId) (size base : Nat) (hb : base ≤ w.heap.size) : (w.alloc (.cells #[] e)).ownsRow base e size (.slice (some ⟨w.heap.size, 0, none⟩) 0 0) 0 [] :=
  World.ownsRow_lit (size := size) (base := base) (e := e) w #[] 0 hb (by unfold maxLen; omega) (by simp)

/-- A row of words, of the call's own. -/
def RowOf (base : Nat) (xs : List Nat) (w : World) (e : Ending) (w' : World) : Prop :=
  ∃ ad cap, e = .returned (.slice ad xs.length cap) ∧ w'.ownsRow base 44 1 (.slice ad xs.length cap) xs.length (xs.map wv) ∧ w.grownBy w' none
/-- A row of words that is owned, as words. -/
theorem Own.words {w0 w : World} {Ps : List Pr} (h : Own w0 w Ps) (k : Nat) {ad : Option Addr} {n cap : Nat} {ys : List Nat} (hk : Ps[k]? = some (rowP 44 1 (.slice ad n cap) n (ys.map wv))) (hs : ∀ n ∈ ys, n < 18446744073709551616) (hf : n ≤ 549755813888) :
    Words w ad n ys ∧ (ad = none → n = 0 ∧ cap = 0) ∧ n ≤ cap := by
  have hr := h.row k hk
  have hl := hr.1
  obtain ⟨ad', cap', he, hat, hnil, hc⟩ := row_slice hr
  cases he
  exact ⟨⟨by simpa using hl, hs, hat, by omega⟩, hnil, hc⟩
theorem Own.pairs {w0 w : World} {Ps : List Pr} (h : Own w0 w Ps) (k : Nat) {ad : Option Addr} {n cap : Nat} {L : List (Int × Nat)} (hk : Ps[k]? = some (rowP 92 2 (.slice ad n cap) n (icells L))) :
    At w ad (icells L) ∧ L.length = n ∧ (ad = none → n = 0 ∧ cap = 0) ∧ n ≤ cap := by
  have hr := h.row k hk
  have hl := hr.1
  rw [icells_length] at hl
  obtain ⟨ad', cap', he, hat, hnil, hc⟩ := row_slice hr
  cases he
  exact ⟨hat, by omega, hnil, hc⟩
end Go.Proofs.YtpdofdloclmbdaaGreat
end
