/- The evaluator's values in the model's; when a heap by names lies in a world. -/
import Derived.Test.YtmoddhfemejekaaEvA
import Derived.Laws.AppendOwn
namespace Go.Ev

structure Loc where
  blk : Nat
  base : Nat
  cap : Nat

def V.cv (ρ : Nat → Loc) : V → Value × List Value
  | .bool b => (.bool b, [])
  | .int k n => (.int k n, [])
  | .str s => (.string ⟨s.toArray⟩, [])
  | .nilptr => (.pointer none, [])
  | .ptr n off => (.pointer (some ⟨(ρ n).blk, (ρ n).base + off, none⟩), [])
  | .nilslice => (.slice none 0 0, [])
  | .slice n off len c ex => (.slice (some ⟨(ρ n).blk, (ρ n).base + off, none⟩) len (if ex then c else (ρ n).cap - c), [])
  | .tail n off off' c => (.slice (some ⟨(ρ n).blk, (ρ n).base + (if (ρ n).cap - c = 0 then off else off'), none⟩) 0 ((ρ n).cap - c), [])
  | .raw x _ => (x, [])
  | .nilmap => (.map none, [])
  | .map n => (.map (some (ρ n).blk), [])
  | .nilfn => (.nilFunc, [])
  | .fn f a c => (.func (.func f) (a.cv ρ).2.toArray (c.cv ρ).2.toArray, [])
  | .yield n => (.func (.yield (ρ n).blk) #[] #[], [])
  | .nil => (Go.undef, [])
  | .cons h t => (Go.undef, (h.cv ρ).1 :: (t.cv ρ).2)
  | .agg l => (.agg (l.cv ρ).2.toArray, [])
  | .tup l => (.tuple (l.cv ρ).2.toArray, [])
def V.val (ρ : Nat → Loc) (v : V) : Value := (v.cv ρ).1
def V.vals (ρ : Nat → Loc) (v : V) : List Value := (v.cv ρ).2

section
variable (ρ : Nat → Loc)
theorem V.val_bool (b : Bool) : (V.bool b).val ρ = .bool b := rfl
theorem V.val_int (k : IntKind) (n : Int) : (V.int k n).val ρ = .int k n := rfl
theorem V.val_str (s : List UInt8) : (V.str s).val ρ = .string ⟨s.toArray⟩ := rfl
theorem V.val_nilptr : V.nilptr.val ρ = .pointer none := rfl
theorem V.val_ptr (n off : Nat) : (V.ptr n off).val ρ = .pointer (some ⟨(ρ n).blk, (ρ n).base + off, none⟩) := rfl
theorem V.val_nilslice : V.nilslice.val ρ = .slice none 0 0 := rfl
theorem V.val_slice (n off len c : Nat) (ex : Bool) : (V.slice n off len c ex).val ρ = .slice (some ⟨(ρ n).blk, (ρ n).base + off, none⟩) len (if ex then c else (ρ n).cap - c) := rfl
theorem V.val_tail (n off off' c : Nat) : (V.tail n off off' c).val ρ = .slice (some ⟨(ρ n).blk, (ρ n).base + (if (ρ n).cap - c = 0 then off else off'), none⟩) 0 ((ρ n).cap - c) := rfl
theorem V.val_raw (x : Value) (h : single x = true) : (V.raw x h).val ρ = x := rfl
theorem V.val_nilmap : V.nilmap.val ρ = .map none := rfl
theorem V.val_map (n : Nat) : (V.map n).val ρ = .map (some (ρ n).blk) := rfl
theorem V.val_nilfn : V.nilfn.val ρ = .nilFunc := rfl
theorem V.val_fn (f : FuncId) (a c : V) : (V.fn f a c).val ρ = .func (.func f) (a.vals ρ).toArray (c.vals ρ).toArray := rfl
theorem V.val_yield (n : Nat) : (V.yield n).val ρ = .func (.yield (ρ n).blk) #[] #[] := rfl
theorem V.val_agg (l : V) : (V.agg l).val ρ = .agg (l.vals ρ).toArray := rfl
theorem V.val_tup (l : V) : (V.tup l).val ρ = .tuple (l.vals ρ).toArray := rfl
theorem V.val_undef : V.undef.val ρ = Go.undef := rfl
theorem V.vals_eq : ∀ v : V, v.vals ρ = v.toL.map (V.val ρ)
  | .cons h t => by
    have := V.vals_eq t
    simp only [V.vals] at this
    simp [V.vals, V.cv, V.toL, this, V.val]
  | .bool _ | .int _ _ | .str _ | .nilptr | .ptr _ _ | .nilslice | .slice _ _ _ _ _ | .tail _ _ _ _ | .raw _ _ | .nilmap | .map _ | .nilfn | .fn _ _ _ | .yield _ | .nil | .agg _ | .tup _ => rfl
theorem V.toL_ofL : ∀ l : List V, (V.ofL l).toL = l
  | [] => rfl
  | h :: t => by simp [V.ofL, V.toL, V.toL_ofL t]
theorem V.vals_ofL (l : List V) : (V.ofL l).vals ρ = l.map (V.val ρ) := by rw [V.vals_eq, V.toL_ofL]
/-- The cells of a value. -/
theorem V.val_cells (v : V) : (v.val ρ).cells.toList = v.cells.map (V.val ρ) := by
  cases v <;> simp [V.val, V.cv, Value.cells, V.cells, Go.undef]
  case agg l => exact V.vals_eq ρ l
  case raw x h => cases x <;> simp [single] at h ⊢
end

/-- All its names are such; a slice has the room that it says. -/
def V.In (D : Nat → Prop) (ρ : Nat → Loc) : V → Prop
  | .ptr n _ => D n
  | .slice n _ len c ex => D n ∧ (ex = false → len + c ≤ (ρ n).cap)
  | .tail n _ _ c => D n ∧ c ≤ (ρ n).cap
  | .map n => D n
  | .yield n => D n
  | .fn _ a c => a.In D ρ ∧ c.In D ρ
  | .cons h t => h.In D ρ ∧ t.In D ρ
  | .agg l => l.In D ρ
  | .tup l => l.In D ρ
  | _ => True
theorem V.In.mono {D E : Nat → Prop} {ρ ρ' : Nat → Loc} (h : ∀ n, D n → E n ∧ ρ' n = ρ n) : ∀ {v : V}, v.In D ρ → v.In E ρ'
  | .ptr n _, hv | .map n, hv | .yield n, hv => (h n hv).1
  | .slice n _ _ _ _, hv => ⟨(h n hv.1).1, fun e => by rw [(h n hv.1).2]; exact hv.2 e⟩
  | .tail n _ _ _, hv => ⟨(h n hv.1).1, by rw [(h n hv.1).2]; exact hv.2⟩
  | .raw _ _, _ => trivial
  | .fn _ _ _, hv => ⟨V.In.mono h hv.1, V.In.mono h hv.2⟩
  | .cons _ _, hv => ⟨V.In.mono h hv.1, V.In.mono h hv.2⟩
  | .agg l, hv => V.In.mono (v := l) h hv
  | .tup l, hv => V.In.mono (v := l) h hv
  | .bool _, _ | .int _ _, _ | .str _, _ | .nilptr, _ | .nilslice, _ | .nilmap, _ | .nilfn, _ | .nil, _ => trivial
theorem V.cv_ext {ρ ρ' σ : Nat → Loc} {D : Nat → Prop} (h : ∀ n, D n → ρ' n = ρ n) : ∀ {v : V}, v.In D σ → v.cv ρ' = v.cv ρ
  | .ptr n _, hv => by simp [V.cv, h n hv]
  | .slice n _ _ _ _, hv => by simp [V.cv, h n hv.1]
  | .tail n _ _ _, hv => by simp [V.cv, h n hv.1]
  | .raw _ _, _ => rfl
  | .map n, hv => by simp [V.cv, h n hv]
  | .yield n, hv => by simp [V.cv, h n hv]
  | .fn _ _ _, hv => by simp [V.cv, V.cv_ext h hv.1, V.cv_ext h hv.2]
  | .cons _ _, hv => by simp [V.cv, V.cv_ext h hv.1, V.cv_ext h hv.2]
  | .agg l, hv => by simp [V.cv, V.cv_ext (v := l) h hv]
  | .tup l, hv => by simp [V.cv, V.cv_ext (v := l) h hv]
  | .bool _, _ | .int _ _, _ | .str _, _ | .nilptr, _ | .nilslice, _ | .nilmap, _ | .nilfn, _ | .nil, _ => rfl
theorem V.val_ext {ρ ρ' σ : Nat → Loc} {D : Nat → Prop} (h : ∀ n, D n → ρ' n = ρ n) {v : V} (hv : v.In D σ) : v.val ρ' = v.val ρ := by
  unfold V.val; rw [V.cv_ext h hv]
theorem V.In.toL {D : Nat → Prop} {ρ : Nat → Loc} : ∀ {v : V}, v.In D ρ → ∀ u ∈ v.toL, u.In D ρ
  | .cons h t, hv, u, hu => by
    simp only [V.toL, List.mem_cons] at hu
    rcases hu with rfl | hu
    · exact hv.1
    · exact V.In.toL (v := t) hv.2 u hu
  | .bool _, _, u, hu | .int _ _, _, u, hu | .str _, _, u, hu | .nilptr, _, u, hu | .ptr _ _, _, u, hu | .nilslice, _, u, hu | .slice _ _ _ _ _, _, u, hu | .tail _ _ _ _, _, u, hu | .raw _ _, _, u, hu | .nilmap, _, u, hu | .map _, _, u, hu | .nilfn, _, u, hu | .fn _ _ _, _, u, hu | .yield _, _, u, hu | .nil, _, u, hu | .agg _, _, u, hu | .tup _, _, u, hu => by simp [V.toL] at hu
theorem V.In.ofL {D : Nat → Prop} {ρ : Nat → Loc} : ∀ {l : List V}, (∀ u ∈ l, u.In D ρ) → (V.ofL l).In D ρ
  | [], _ => trivial
  | h :: t, hl => ⟨hl h (by simp), V.In.ofL fun u hu => hl u (by simp [hu])⟩
theorem V.In.cells {D : Nat → Prop} {ρ : Nat → Loc} {v : V} (hv : v.In D ρ) : ∀ u ∈ v.cells, u.In D ρ := by
  intro u hu
  cases v <;> simp only [V.cells, List.mem_singleton] at hu <;> first | (subst hu; exact hv) | skip
  case agg l => exact V.In.toL (v := l) hv u hu
theorem map_ext {ρ ρ' σ : Nat → Loc} {D : Nat → Prop} (h : ∀ n, D n → ρ' n = ρ n) {l : List V} (hl : ∀ v ∈ l, v.In D σ) : l.map (V.val ρ') = l.map (V.val ρ) :=
  List.map_congr_left fun v hv => V.val_ext h (hl v hv)

/-! ### The tree -/
theorem T.get_lf {α : Type} (n : Nat) : (T.lf : T α).get n = none := rfl
theorem T.get_nd0 {α : Type} (v : Option α) (l r : T α) : (T.nd v l r).get 0 = v := rfl
theorem T.get_even {α : Type} (v : Option α) (l r : T α) (m : Nat) (h : m % 2 = 0) : (T.nd v l r).get (m + 1) = l.get (m / 2) := by
  simp only [T.get, h]
theorem T.get_odd {α : Type} (v : Option α) (l r : T α) (m : Nat) (h : m % 2 = 1) : (T.nd v l r).get (m + 1) = r.get (m / 2) := by
  simp only [T.get, h]
theorem T.get_put {α : Type} : ∀ (f : Nat) (t : T α) (n : Nat) (x : α) (m : Nat), n < f → (T.put f t n x).get m = if m = n then some x else t.get m
  | 0, _, _, _, _, h => absurd h (Nat.not_lt_zero _)
  | f + 1, .lf, 0, x, m, _ => by
    cases m with
    | zero => rfl
    | succ m =>
      rcases Nat.mod_two_eq_zero_or_one m with h | h
      · simp [T.put, T.get, h]
      · simp [T.put, T.get, h]
  | f + 1, .nd v l r, 0, x, m, _ => by
    cases m with
    | zero => rfl
    | succ m =>
      rcases Nat.mod_two_eq_zero_or_one m with h | h
      · simp [T.put, T.get, h]
      · simp [T.put, T.get, h]
  | f + 1, .lf, n + 1, x, m, hf => by
    have hn : n / 2 < f := by omega
    rcases Nat.mod_two_eq_zero_or_one n with h | h
    · simp only [T.put, h]
      cases m with
      | zero => simp [T.get]
      | succ m =>
        rcases Nat.mod_two_eq_zero_or_one m with h' | h'
        · rw [T.get_even _ _ _ _ h', T.get_put f _ _ _ _ hn]
          by_cases e : m = n
          · simp [e]
          · rw [if_neg (by omega), if_neg (by omega)]; rfl
        · rw [T.get_odd _ _ _ _ h', if_neg (by omega)]; rfl
    · simp only [T.put, h]
      cases m with
      | zero => simp [T.get]
      | succ m =>
        rcases Nat.mod_two_eq_zero_or_one m with h' | h'
        · rw [T.get_even _ _ _ _ h', if_neg (by omega)]; rfl
        · rw [T.get_odd _ _ _ _ h', T.get_put f _ _ _ _ hn]
          by_cases e : m = n
          · simp [e]
          · rw [if_neg (by omega), if_neg (by omega)]; rfl
  | f + 1, .nd v l r, n + 1, x, m, hf => by
    have hn : n / 2 < f := by omega
    rcases Nat.mod_two_eq_zero_or_one n with h | h
    · simp only [T.put, h]
      cases m with
      | zero => simp [T.get]
      | succ m =>
        rcases Nat.mod_two_eq_zero_or_one m with h' | h'
        · rw [T.get_even _ _ _ _ h', T.get_put f _ _ _ _ hn, T.get_even _ _ _ _ h']
          by_cases e : m = n
          · simp [e]
          · rw [if_neg (by omega), if_neg (by omega)]
        · rw [T.get_odd _ _ _ _ h', T.get_odd _ _ _ _ h', if_neg (by omega)]
    · simp only [T.put, h]
      cases m with
      | zero => simp [T.get]
      | succ m =>
        rcases Nat.mod_two_eq_zero_or_one m with h' | h'
        · rw [T.get_even _ _ _ _ h', T.get_even _ _ _ _ h', if_neg (by omega)]
        · rw [T.get_odd _ _ _ _ h', T.get_put f _ _ _ _ hn, T.get_odd _ _ _ _ h']
          by_cases e : m = n
          · simp [e]
          · rw [if_neg (by omega), if_neg (by omega)]
theorem T.get_set {α : Type} (t : T α) (n : Nat) (x : α) (m : Nat) : (t.set n x).get m = if m = n then some x else t.get m :=
  T.get_put _ t n x m (Nat.lt_succ_self n)
theorem Hp.get_lt {H : Hp} {n : Nat} {o : Ob} (h : H.get n = some o) : n < H.next := by
  unfold Hp.get at h
  split at h
  · assumption
  · cases h
theorem Hp.get_set {H : Hp} {n : Nat} (hn : n < H.next) (o : Ob) (m : Nat) : (H.set n o).get m = if m = n then some o else H.get m := by
  unfold Hp.get Hp.set
  simp only [T.get_set]
  by_cases e : m = n
  · subst e; simp [hn]
  · rw [if_neg e, if_neg e]
theorem Hp.get_push (H : Hp) (o : Ob) (m : Nat) : (H.push o).get m = if m = H.next then some o else H.get m := by
  unfold Hp.get Hp.push
  simp only [T.get_set]
  by_cases e : m = H.next
  · subst e; simp
  · rw [if_neg e, if_neg e]
    by_cases l : m < H.next
    · rw [if_pos (by omega), if_pos l]
    · rw [if_neg (by omega), if_neg l]
theorem Hp.next_set (H : Hp) (n : Nat) (o : Ob) : (H.set n o).next = H.next := rfl
theorem Hp.next_push (H : Hp) (o : Ob) : (H.push o).next = H.next + 1 := rfl

theorem get_tree : ∀ (l : List V) (i : Nat) (t : T V) (j : Nat), (tree i t l).get j = if i ≤ j ∧ j < i + l.length then l[j - i]? else t.get j
  | [], i, t, j => by rw [if_neg (by simp only [List.length_nil]; omega)]; rfl
  | v :: l, i, t, j => by
    rw [tree, get_tree l, T.get_set]
    by_cases h : i + 1 ≤ j ∧ j < i + 1 + l.length
    · rw [if_pos h, if_pos (by simp; omega)]
      rw [show j - i = (j - (i + 1)) + 1 from by omega]; rfl
    · rw [if_neg h]
      by_cases e : j = i
      · subst e; rw [if_pos rfl, if_pos (by simp)]; simp
      · rw [if_neg e, if_neg (by simp only [List.length_cons]; omega)]
theorem cellOf_new (l : List V) (i : Nat) : cellOf l.length (tree 0 .lf l) (fun _ => none) i = l[i]? := by
  unfold cellOf
  by_cases h : i < l.length
  · rw [if_pos h, get_tree, if_pos (by omega), Nat.sub_zero, List.getElem?_eq_getElem h]
  · rw [if_neg h, List.getElem?_eq_none (by omega)]
theorem putCells_one : ∀ (vs : List V) (size : Nat) (ov : T V) (off : Nat) (ov' : T V), putCells size ov off vs = some ov' →
    (∀ v ∈ vs, v.one = true) ∧ (∀ i, i < vs.length → off + i < size) ∧ ∀ j, ov'.get j = if off ≤ j ∧ j < off + vs.length then vs[j - off]? else ov.get j
  | [], size, ov, off, ov', h => by
    simp only [putCells, Option.some.injEq] at h
    subst h
    exact ⟨by simp, by simp, fun j => by rw [if_neg (by simp only [List.length_nil]; omega)]⟩
  | v :: l, size, ov, off, ov', h => by
    simp only [putCells] at h
    split at h
    · rename_i hc
      simp only [Bool.and_eq_true, decide_eq_true_eq] at hc
      obtain ⟨h1, h2, h3⟩ := putCells_one l size _ _ _ h
      refine ⟨fun u hu => ?_, fun i hi => ?_, fun j => ?_⟩
      · rcases List.mem_cons.1 hu with rfl | hu
        · exact hc.2
        · exact h1 u hu
      · cases i with
        | zero => exact hc.1
        | succ i => have := h2 i (by simpa using hi); omega
      · rw [h3, T.get_set]
        by_cases hj : off + 1 ≤ j ∧ j < off + 1 + l.length
        · rw [if_pos hj, if_pos (by simp; omega), show j - off = (j - (off + 1)) + 1 from by omega]; rfl
        · rw [if_neg hj]
          by_cases e : j = off
          · subst e; rw [if_pos rfl, if_pos (by simp)]; simp
          · rw [if_neg e, if_neg (by simp; omega)]
    · cases h

/-! ### A heap in a world -/
def Ob.own : Ob → Bool
  | .cells _ _ _ _ ro => !ro
  | .dead => false
  | _ => true
/-- What stands under a name stands in its block. -/
def ObAt (D : Nat → Prop) (ρ : Nat → Loc) (w0 w : World) (n : Nat) : Ob → Prop
  | .cells size ov base g ro => ∃ c e fz, w.heap[(ρ n).blk]? = some (.cells c e fz) ∧ (∀ i v, cellOf size ov base i = some v → c[(ρ n).base + i]? = some (v.val ρ) ∧ v.In D ρ ∧ v.one = true) ∧
      (ro = false → w0.heap.size ≤ (ρ n).blk ∧ (ρ n).base + size ≤ c.size ∧ (∀ i, i < c.size → ¬ (fz.1 ≤ i ∧ i < fz.2)) ∧ (0 < g → c.size = (ρ n).base + (ρ n).cap * g)) ∧ (ro = true → (ρ n).blk < w0.heap.size)
  | .map es => w0.heap.size ≤ (ρ n).blk ∧ ∃ ents clock, w.heap[(ρ n).blk]? = some (.map ents clock) ∧ ents.toList.map (fun e => (e.key, e.val)) = es.map (fun p => (p.1.val ρ, p.2.val ρ)) ∧ ∀ p ∈ es, p.1.In D ρ ∧ p.2.In D ρ
  | .loop st pend tm ps a b dn => w0.heap.size ≤ (ρ n).blk ∧ (∃ fn, w.heap[(ρ n).blk]? = some (.loop { state := st, pending := pend, fn := fn, tmps := (tm.map (V.val ρ)).toArray, params := ps, assign := a, body := b, defers := (ρ dn).blk })) ∧ (∀ v ∈ tm, v.In D ρ) ∧ D dn
  | .defd => w0.heap.size ≤ (ρ n).blk ∧ w.heap[(ρ n).blk]? = some (.deferred (some []))
  | .dead => True

structure Rel (gl : Nat → Option Nat) (w0 : World) (D : Nat → Prop) (ρ : Nat → Loc) (H : Hp) (w : World) : Prop where
  grown : w0.grownBy w none
  old : ∀ n, D n → n < H.next
  ob : ∀ n o, D n → H.get n = some o → ObAt D ρ w0 w n o
  inj : ∀ n m o p, D n → D m → n ≠ m → H.get n = some o → H.get m = some p → o.own = true → p.own = true → (ρ n).blk ≠ (ρ m).blk
  gl : ∀ g n, gl g = some n → D n ∧ (ρ n).blk = g ∧ (ρ n).base = 0

/-- From one heap to the next: what was mapped stays, what is new is mapped, what was not mapped has not turned. -/
structure Nx (D : Nat → Prop) (ρ : Nat → Loc) (H : Hp) (D' : Nat → Prop) (ρ' : Nat → Loc) (H' : Hp) : Prop where
  loc : ∀ n, D n → ρ' n = ρ n
  dom : ∀ n, D' n ↔ D n ∨ (H.next ≤ n ∧ n < H'.next)
  size : H.next ≤ H'.next
  rest : ∀ n, n < H.next → ¬ D n → H'.get n = H.get n
theorem Nx.refl (D : Nat → Prop) (ρ : Nat → Loc) (H : Hp) : Nx D ρ H D ρ H :=
  ⟨fun _ _ => rfl, fun n => ⟨.inl, fun h => h.elim id fun ⟨a, b⟩ => absurd b (by omega)⟩, Nat.le_refl _, fun _ _ _ => rfl⟩
theorem Nx.sub {D D' : Nat → Prop} {ρ ρ' : Nat → Loc} {H H' : Hp} (h : Nx D ρ H D' ρ' H') : ∀ n, D n → D' n := fun n hn => (h.dom n).2 (.inl hn)
theorem Nx.trans {D D' D'' : Nat → Prop} {ρ ρ' ρ'' : Nat → Loc} {H H' H'' : Hp} (h : Nx D ρ H D' ρ' H') (k : Nx D' ρ' H' D'' ρ'' H'') : Nx D ρ H D'' ρ'' H'' := by
  refine ⟨fun n hn => (k.loc n (h.sub n hn)).trans (h.loc n hn), fun n => ?_, Nat.le_trans h.size k.size, fun n hn hd => ?_⟩
  · rw [k.dom, h.dom]
    have := h.size; have := k.size
    constructor
    · rintro ((h | ⟨a, b⟩) | ⟨a, b⟩)
      · exact .inl h
      · exact .inr ⟨a, by omega⟩
      · exact .inr ⟨by omega, b⟩
    · rintro (h | ⟨a, b⟩)
      · exact .inl (.inl h)
      · by_cases c : n < H'.next
        · exact .inl (.inr ⟨a, c⟩)
        · exact .inr ⟨by omega, b⟩
  · have hs := h.size
    rw [k.rest n (by omega) (fun e => by rcases (h.dom n).1 e with e | e; exact hd e; omega), h.rest n hn hd]
theorem Nx.val {D D' : Nat → Prop} {ρ ρ' : Nat → Loc} {H H' : Hp} (h : Nx D ρ H D' ρ' H') {v : V} (hv : v.In D ρ) : v.val ρ' = v.val ρ := V.val_ext h.loc hv
theorem Nx.in {D D' : Nat → Prop} {ρ ρ' : Nat → Loc} {H H' : Hp} (h : Nx D ρ H D' ρ' H') {v : V} (hv : v.In D ρ) : v.In D' ρ' := hv.mono fun n hn => ⟨h.sub n hn, h.loc n hn⟩

theorem ObAt.heap {D : Nat → Prop} {ρ : Nat → Loc} {w0 w : World} {n : Nat} {o : Ob} (h : ObAt D ρ w0 w n o) (ho : o ≠ .dead) : (ρ n).blk < w.heap.size := by
  have key : ∀ x, w.heap[(ρ n).blk]? = some x → (ρ n).blk < w.heap.size := fun x hx => (Array.getElem?_eq_some_iff.1 hx).1
  cases o with
  | cells size ov base g ro => obtain ⟨c, e, fz, hh, _⟩ := h; exact key _ hh
  | map es => obtain ⟨_, _, _, hh, _⟩ := h; exact key _ hh
  | loop st pend tm ps a b dn => obtain ⟨_, ⟨_, hh⟩, _⟩ := h; exact key _ hh
  | defd => exact key _ h.2
  | dead => exact absurd rfl ho
theorem ObAt.own_new {D : Nat → Prop} {ρ : Nat → Loc} {w0 w : World} {n : Nat} {o : Ob} (h : ObAt D ρ w0 w n o) (ho : o.own = true) : w0.heap.size ≤ (ρ n).blk := by
  cases o with
  | cells size ov base g ro =>
    obtain ⟨c, e, fz, _, _, h1, _⟩ := h
    exact (h1 (by simpa [Ob.own] using ho)).1
  | map es => exact h.1
  | loop st pend tm ps a b dn => exact h.1
  | defd => exact h.1
  | dead => simp [Ob.own] at ho
/-- It stays where its block stays, under a greater map. -/
theorem ObAt.keep {D D' : Nat → Prop} {ρ ρ' : Nat → Loc} {w0 w w' : World} {n : Nat} {o : Ob} (h : ObAt D ρ w0 w n o) (hD : ∀ m, D m → D' m ∧ ρ' m = ρ m) (hn : D n) (hb : o ≠ .dead → w'.heap[(ρ n).blk]? = w.heap[(ρ n).blk]?) : ObAt D' ρ' w0 w' n o := by
  have hl : ∀ m, D m → ρ' m = ρ m := fun m hm => (hD m hm).2
  have hs : ∀ m, D m → D' m := fun m hm => (hD m hm).1
  cases o with
  | cells size ov base g ro =>
    obtain ⟨c, e, fz, hh, hc, h1, h2⟩ := h
    refine ⟨c, e, fz, by rw [hl n hn, hb (by simp), hh], fun i v hv => ?_, by rw [hl n hn]; exact h1, by rw [hl n hn]; exact h2⟩
    obtain ⟨a, b, one⟩ := hc i v hv
    exact ⟨by rw [hl n hn, V.val_ext hl b]; exact a, b.mono hD, one⟩
  | map es =>
    obtain ⟨h0, ents, clock, hh, he, hi⟩ := h
    refine ⟨by rw [hl n hn]; exact h0, ents, clock, by rw [hl n hn, hb (by simp), hh], ?_, fun p hp => ⟨(hi p hp).1.mono hD, (hi p hp).2.mono hD⟩⟩
    rw [he]
    refine List.map_congr_left fun p hp => ?_
    rw [V.val_ext hl (hi p hp).1, V.val_ext hl (hi p hp).2]
  | loop st pend tm ps a b dn =>
    obtain ⟨h0, ⟨fn, hh⟩, hi, hd⟩ := h
    exact ⟨by rw [hl n hn]; exact h0, ⟨fn, by rw [hl n hn, hb (by simp), hh, map_ext hl hi, hl dn hd]⟩, fun v hv => (hi v hv).mono hD, hs dn hd⟩
  | defd => exact ⟨by rw [hl n hn]; exact h.1, by rw [hl n hn, hb (by simp)]; exact h.2⟩
  | dead => trivial
theorem grown_trans' {a b c : World} {r : Option Nat} (h : a.grownBy b none) (k : b.grownBy c r) (hr : ∀ i, r = some i → a.heap.size ≤ i) : a.grownBy c none :=
  ⟨k.os.trans h.os, k.tape.trans h.tape, k.output.trans h.output, Nat.le_trans h.size k.size, fun i hi _ =>
    (k.block i (Nat.lt_of_lt_of_le hi h.size) (fun e => by have := hr i e.symm; omega)).trans (h.block i hi (by simp))⟩
/-- A world in which the same stands. -/
theorem Rel.quiet {gl : Nat → Option Nat} {w0 w w' : World} {D : Nat → Prop} {ρ : Nat → Loc} {H : Hp} (h : Rel gl w0 D ρ H w) (hg : w.grownBy w' none) : Rel gl w0 D ρ H w' :=
  ⟨grown_trans' h.grown hg (by simp), h.old, fun n o hn ho => (h.ob n o hn ho).keep (fun _ hm => ⟨hm, rfl⟩) hn (fun hd => hg.block _ ((h.ob n o hn ho).heap hd) (by simp)), h.inj, h.gl⟩
/-- One block has turned: that of a name. -/
theorem Rel.turn {gl : Nat → Option Nat} {w0 w w' : World} {D : Nat → Prop} {ρ : Nat → Loc} {H : Hp} (h : Rel gl w0 D ρ H w) {n : Nat} {o o' : Ob} (hn : D n) (ho : H.get n = some o) (hown : o.own = true) (hg : w.grownBy w' (some (ρ n).blk))
    (hat : ObAt D ρ w0 w' n o') : Rel gl w0 D ρ (H.set n o') w' := by
  have hnew := (h.ob n o hn ho).own_new hown
  refine ⟨grown_trans' h.grown hg (by rintro i ⟨rfl⟩; exact hnew), h.old, ?_, ?_, h.gl⟩
  · intro m p hm hp
    rw [Hp.get_set (h.old n hn)] at hp
    by_cases e : m = n
    · subst e
      rw [if_pos rfl] at hp
      cases hp
      exact hat
    · rw [if_neg e] at hp
      have hmp := h.ob m p hm hp
      refine hmp.keep (fun _ hm => ⟨hm, rfl⟩) hm (fun hd => hg.block _ (hmp.heap hd) ?_)
      intro e2
      cases hpo : p.own with
      | true => exact h.inj n m o p hn hm (fun e' => e e'.symm) ho hp hown hpo (by simpa using e2.symm)
      | false =>
        cases p with
        | cells size ov base g ro =>
          obtain ⟨c, el, fz, hh, hc, h1, h2⟩ := hmp
          have hro : ro = true := by simpa [Ob.own] using hpo
          have := h2 hro
          have : (ρ n).blk = (ρ m).blk := by simpa using e2.symm
          omega
        | dead => exact hd rfl
        | map es => simp [Ob.own] at hpo
        | loop => simp [Ob.own] at hpo
        | defd => simp [Ob.own] at hpo
  · intro k m p q hk hm hne hp hq hpo hqo
    rw [Hp.get_set (h.old n hn)] at hp hq
    have own_of : ∀ k p, D k → (if k = n then some o' else H.get k) = some p → p.own = true → ∃ p', H.get k = some p' ∧ p'.own = true := by
      intro k p hk hp hpo
      by_cases e : k = n
      · subst e; exact ⟨o, ho, hown⟩
      · rw [if_neg e] at hp; exact ⟨p, hp, hpo⟩
    obtain ⟨p', hp', hpo'⟩ := own_of k p hk hp hpo
    obtain ⟨q', hq', hqo'⟩ := own_of m q hm hq hqo
    exact h.inj k m p' q' hk hm hne hp' hq' hpo' hqo'
def upd (ρ : Nat → Loc) (m : Nat) (x : Loc) (n : Nat) : Loc := if n = m then x else ρ n
/-- A name that is mapped now: to a block that is new, or to the block of one that is dead. -/
theorem Rel.add {gl : Nat → Option Nat} {w0 w w' : World} {D : Nat → Prop} {ρ : Nat → Loc} {H H' : Hp} (h : Rel gl w0 D ρ H w) {m : Nat} {o : Ob} {x : Loc} (hm : ¬ D m) (hlt : m < H'.next) (hle : H.next ≤ H'.next)
    (hsame : ∀ k, D k → H'.get k = H.get k) (ho : H'.get m = some o) (hg : w.grownBy w' none) (hx : ∀ k p, D k → H.get k = some p → p.own = true → (ρ k).blk ≠ x.blk)
    (hat : ObAt (fun n => D n ∨ n = m) (upd ρ m x) w0 w' m o) : Rel gl w0 (fun n => D n ∨ n = m) (upd ρ m x) H' w' := by
  have hl : ∀ k, D k → upd ρ m x k = ρ k := fun k hk => by
    unfold upd
    rw [if_neg]
    rintro rfl
    exact hm hk
  have hxm : upd ρ m x m = x := by unfold upd; rw [if_pos rfl]
  have hq := h.quiet hg
  refine ⟨hq.grown, ?_, ?_, ?_, fun g n hn => ?_⟩
  · rintro n (hn | rfl)
    · exact Nat.lt_of_lt_of_le (h.old n hn) hle
    · exact hlt
  · rintro n p (hn | rfl) hp
    · rw [hsame n hn] at hp
      exact (hq.ob n p hn hp).keep (fun k hk => ⟨.inl hk, hl k hk⟩) hn (fun _ => rfl)
    · rw [ho] at hp; cases hp; exact hat
  · have side : ∀ n p, D n → H.get n = some p → p.own = true → (upd ρ m x n).blk ≠ x.blk := by
      intro n p hn hp hpo e
      rw [hl n hn] at e
      exact hx n p hn hp hpo e
    rintro n k p q hn hk hne hp hq' hpo hqo
    rcases hn with hn | rfl
    · rw [hsame n hn] at hp
      rcases hk with hk | rfl
      · rw [hsame k hk] at hq'
        rw [hl n hn, hl k hk]
        exact h.inj n k p q hn hk hne hp hq' hpo hqo
      · rw [hxm]; exact side n p hn hp hpo
    · rcases hk with hk | rfl
      · rw [hsame k hk] at hq'
        rw [hxm]
        exact fun e => side k q hk hq' hqo e.symm
      · exact absurd rfl hne
  · obtain ⟨a, b, c⟩ := h.gl g n hn
    exact ⟨.inl a, by rw [hl n a]; exact b, by rw [hl n a]; exact c⟩
theorem Rel.far {gl : Nat → Option Nat} {w0 w : World} {D : Nat → Prop} {ρ : Nat → Loc} {H : Hp} (h : Rel gl w0 D ρ H w) {b : Nat} (hb : w.heap.size ≤ b) : ∀ k p, D k → H.get k = some p → p.own = true → (ρ k).blk ≠ b := by
  intro k p hk hp hpo
  have := (h.ob k p hk hp).heap (by intro e2; rw [e2] at hpo; simp [Ob.own] at hpo)
  omega
end Go.Ev
