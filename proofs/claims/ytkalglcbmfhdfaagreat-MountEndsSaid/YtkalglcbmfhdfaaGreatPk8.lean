/- Texts of ours, packed. -/
import Derived.Laws.AppendOwnNone
import Derived.Test.YtkalglcbmfhdfaaGreatPk7
section
/- 'append' onto a row of the call's own, whatever is appended: nil, or cells that stand somewhere. -/
namespace Go.Grommet
open Go.RowKit

theorem wpList_append_at {P : Program} {w : World} {ops : Array Oper} {rest : List Oper} {o : Oper} {a : Act} {Q : Exit → Act → World → Prop} (hgd : o.guard = none) (s x : Operand) (t : TypeId)
    (ho : o.op = .call { callee := .builtin .append, args := #[s, x], argTypes := #[t, t] })
    (base : Nat) (e : TypeId) (i : TypeInfo) (z : Value) (bytes : Nat) (ht : P.underlying t = some (.slice e)) (hi : P.info? e = some i) (hz : i.zero = some z)
    (hsize : i.size = 1) (hby : i.bytes = bytes) (hzs : z.cells.size = 1)
    (v : Value) (n : Nat) (xs : List Value) (hs : a.eval s = v) (hown : w.ownsRow base e 1 v n xs)
    (ad : Option Addr) (m c : Nat) (news : List Value) (hx : a.eval x = .slice ad m c) (hl : news.length = m) (hat : At w ad news) (hnil : ad = none → m = 0 ∧ c = 0) (h1 : ∀ u ∈ news, u.oneCell' = true)
    (h63 : n + m ≤ maxLen) (hbytes : (n + m) * bytes ≤ 140737488355328) (hbase : base ≤ w.heap.size)
    (h : ∀ v' w', w'.ownsRow base e 1 v' (n + m) (xs ++ news) → w.grownBy w' v.ownBlock → wpList P ops Q rest (a.put o.dst v') w') : wpList P ops Q (o :: rest) a w := by
  cases ad with
  | none =>
    obtain ⟨rfl, rfl⟩ := hnil rfl
    obtain rfl := List.eq_nil_of_length_eq_zero hl
    refine wpList_append_own_none hgd s x t ho base e i 1 ht hi v n xs hs hown hx ?_
    exact h v w (by simpa using hown) (World.grownBy.refl _ _)
  | some ad =>
    exact wpList_append_own w hgd s x t ho base e i z 1 bytes ht hi hz hsize hby hzs (by decide) v n xs hs hown ad m c news hx (by omega) hat.some h1 h63 hbytes hbase (fun v' w' a b _ => h v' w' a b)

/-- One value in a new block. -/
theorem at_one (w : World) (v : Value) (e : TypeId) : At (w.alloc (.cells #[v] e)) (some ⟨w.heap.size, 0, none⟩) [v] := by
  intro j u hu
  refine ⟨_, _, rfl, ?_⟩
  have := cell_one_new w v e j u hu
  rwa [Addr.add_lit] at this

theorem one_oneCell (k : IntKind) (n : Int) : ∀ u ∈ [Value.int k n], u.oneCell' = true := by
  intro u hu; simp at hu; subst hu; rfl

/-- What is owned in the value's own words. -/
theorem owns_slice {w : World} {base e n : Nat} {v : Value} {xs : List Value} (h : w.ownsRow base e 1 v n xs) :
    ∃ ad cap, v = .slice ad n cap ∧ At w ad xs ∧ (ad = none → n = 0 ∧ cap = 0) ∧ n ≤ cap ∧ (∀ g, v.ownBlock = some g → base ≤ g) := by
  obtain ⟨ad, cap, he, ha, hn, hc⟩ := at_of_owns h
  exact ⟨ad, cap, he, ha, hn, hc, fun g hg => (h.lt g hg).1⟩
end Go.Grommet
end
section
/- make and append where the whole row is known, spare cells too. -/
namespace Go.Grommet
open Go.RowKit

/-- 'make([]T, 0, n)': a row of zero values, known whole. -/
theorem wpList_make_row {P : Program} (w : World) {ops : Array Oper} {rest : List Oper} {o : Oper} {a : Act} {Q : Exit → Act → World → Prop}
    (hg : o.guard = none) (l c : Operand) (t : TypeId) (hop : o.op = Op.makeSlice t l c)
    (e : TypeId) (i : TypeInfo) (z : Value) (h1 : P.underlying t = some (.slice e)) (h2 : P.info? e = some i) (h3 : i.zero = some z) (h4 : i.size = 1)
    (kl kc : IntKind) (C : Int) (n : Nat) (hl : a.eval l = .int kl 0) (hc : a.eval c = .int kc C) (hC : C = (n : Int)) (b2 : i.bytes * n ≤ 281474976710656) (b3 : n ≤ maxLen)
    (hK : ∀ w', w'.heap[w.heap.size]? = some (.cells (madeCells z.cells n) e (0, 0)) → w.grownBy w' none → wpList P ops Q rest (a.put o.dst (.slice (some ⟨w.heap.size, 0, none⟩) 0 n)) w') :
    wpList P ops Q (o :: rest) a w := by
  refine wpList_plain hg fun K hK' => ?_
  subst hC
  have b3' : (n : Int) ≤ 9223372036854775807 := by unfold maxLen at b3; omega
  have hrun := run_make (P := P) w t e i z h1 h2 h3 kl kc 0 n (Int.le_refl _) (by omega) (by rw [← Int.natCast_mul]; exact Int.ofNat_le.2 b2) b3'
  rw [h4, Nat.mul_one] at hrun
  unfold Oper.wp
  simp [execOp, hop, hl, hc, hrun, Result.andThen]
  exact hK' _ _ (hK _ (heap_alloc_new w _) (World.grownBy_alloc w _ none))

/-- 'append' within the capacity onto a row that is known whole. -/
theorem wpList_append_row {P : Program} (w : World) {ops : Array Oper} {rest : List Oper} {o : Oper} {a : Act} {Q : Exit → Act → World → Prop}
    (hgd : o.guard = none) (s x : Operand) (t : TypeId) (hop : o.op = Op.call { callee := Callee.builtin Builtin.append, args := #[s, x], argTypes := #[t, t] })
    (e : TypeId) (i : TypeInfo) (h1 : P.underlying t = some (.slice e)) (h2 : P.info? e = some i) (h4 : i.size = 1)
    (g k cap : Nat) (cur : List Value) (hs : a.eval s = .slice (some ⟨g, 0, none⟩) k cap) (hrow : w.heap[g]? = some (.cells cur.toArray e (0, 0))) (hcs : cur.length = cap) (hcm : cap ≤ maxLen)
    (ad : Option Addr) (m c : Nat) (news : List Value) (hx : a.eval x = .slice ad m c) (hn : news.length = m) (hat : At w ad news) (hnil : ad = none → m = 0 ∧ c = 0) (h1c : ∀ u ∈ news, u.oneCell' = true) (b1 : k + m ≤ cap)
    (hK : ∀ w', w'.heap[g]? = some (.cells (cur.take k ++ news ++ cur.drop (k + m)).toArray e (0, 0)) → w.grownBy w' (some g) → wpList P ops Q rest (a.put o.dst (.slice (some ⟨g, 0, none⟩) (k + m) cap)) w') :
    wpList P ops Q (o :: rest) a w := by
  cases ad with
  | none =>
    obtain ⟨rfl, rfl⟩ := hnil rfl
    obtain rfl := List.eq_nil_of_length_eq_zero hn
    have hown : w.ownsRow 0 e 1 (.slice (some ⟨g, 0, none⟩) k cap) k (cur.take k) :=
      ⟨by rw [List.length_take]; omega, .inr ⟨g, cap, cur.toArray, rfl, Nat.zero_le _, hrow, by omega, hcm, by simp [hcs], by simp⟩⟩
    refine wpList_append_own_none hgd s x t hop 0 e i 1 h1 h2 _ k _ hs hown hx ?_
    exact hK w (by simpa using hrow) (World.grownBy.refl _ _)
  | some ad =>
    refine wpList_plain hgd fun K hK' => ?_
    have hrun := run_append_room (P := P) w t o.type e i h1 h2 g k cap cur.toArray hrow ad m c news (by rw [h4]; omega) hat.some h1c b1 (by rw [h4]; simp; omega)
    rw [h4, Nat.mul_one, hn] at hrun
    unfold Oper.wp
    simp [execOp, hop, resolve, invoke, builtin, hs, hx, hrun, Result.andThen]
    refine hK' _ _ (hK _ ?_ ?_)
    · have := setRow_heap w g cur.toArray (cur.take k ++ news ++ cur.drop (k + m)).toArray e (0, 0) hrow
      simpa using this
    · exact ⟨rfl, rfl, rfl, by simp [World.setRow], fun j _ hj => setRow_other w g j _ (by intro e; exact hj (by rw [e]))⟩

/-- What stands in a row that is known whole. -/
theorem at_of_row {w : World} {g e : Nat} {xs : List Value} (h : w.heap[g]? = some (.cells xs.toArray e (0, 0))) : At w (some ⟨g, 0, none⟩) xs := by
  intro j u hu
  refine ⟨_, _, rfl, ?_⟩
  rw [Nat.zero_add, World.cell?]
  simpa [h] using hu

theorem at_prefix {w : World} {ad : Option Addr} {xs ys : List Value} (h : At w ad (xs ++ ys)) : At w ad xs := by
  intro j u hu
  refine h j u ?_
  rw [List.getElem?_append_left (List.getElem?_eq_some_iff.1 hu).1]
  exact hu
end Go.Grommet
end
