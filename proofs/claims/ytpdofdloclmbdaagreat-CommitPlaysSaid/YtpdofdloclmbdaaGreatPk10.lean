/- Texts of ours, packed. -/
import Derived.Laws.CopyOwn
import Derived.OpenShut
import Derived.Maps.OwnSet
import Derived.IntWalk
import Derived.Test.YtpdofdloclmbdaaGreatPk7
import Derived.Test.YtpdofdloclmbdaaGreatPk8
section
/- make, copy and stores where the whole row is known. -/
namespace Go.Grommet
open Go.RowKit

/-- 'make([]T, n)': a row of zero values, known whole. -/
theorem wpList_make_whole {P : Program} (w : World) {ops : Array Oper} {rest : List Oper} {o : Oper} {a : Act} {Q : Exit → Act → World → Prop}
    (hg : o.guard = none) (l c : Operand) (t : TypeId) (hop : o.op = Op.makeSlice t l c)
    (e : TypeId) (i : TypeInfo) (z : Value) (h1 : P.underlying t = some (.slice e)) (h2 : P.info? e = some i) (h3 : i.zero = some z) (h4 : i.size = 1)
    (kl kc : IntKind) (C : Int) (n : Nat) (hl : a.eval l = .int kl C) (hc : a.eval c = .int kc C) (hC : C = (n : Int)) (b2 : i.bytes * n ≤ 281474976710656) (b3 : n ≤ maxLen)
    (hK : ∀ w', w'.heap[w.heap.size]? = some (.cells (madeCells z.cells n) e (0, 0)) → w.grownBy w' none → wpList P ops Q rest (a.put o.dst (.slice (some ⟨w.heap.size, 0, none⟩) n n)) w') :
    wpList P ops Q (o :: rest) a w := by
  refine wpList_plain hg fun K hK' => ?_
  subst hC
  have b3' : (n : Int) ≤ 9223372036854775807 := by unfold maxLen at b3; omega
  have hrun := run_make (P := P) w t e i z h1 h2 h3 kl kc n n (by omega) (by omega) (by rw [← Int.natCast_mul]; exact Int.ofNat_le.2 b2) b3'
  rw [h4, Nat.mul_one] at hrun
  unfold Oper.wp
  simp [execOp, hop, hl, hc, hrun, Result.andThen]
  exact hK' _ _ (hK _ (heap_alloc_new w _) (World.grownBy_alloc w _ none))

/-- A store into a row that is known whole. -/
theorem row_set {w : World} {g e : Nat} {xs : List Value} (h : w.heap[g]? = some (.cells xs.toArray e (0, 0))) (o : Nat) (v : Value) : (w.setCell ⟨g, o, none⟩ v).heap[g]? = some (.cells (xs.set o v).toArray e (0, 0)) := by
  have := heap_setCell_at (o := o) h v
  simpa using this
theorem row_cell {w : World} {g e : Nat} {xs : List Value} (h : w.heap[g]? = some (.cells xs.toArray e (0, 0))) (o : Nat) (v : Value) (hv : xs[o]? = some v) : w.cell? ⟨g, o, none⟩ = some v := by
  simp [World.cell?, h, hv]
theorem row_free {w : World} {g e : Nat} {xs : List Value} (h : w.heap[g]? = some (.cells xs.toArray e (0, 0))) (o : Nat) : w.frozen? ⟨g, o, none⟩ = false := by
  simp [World.frozen?, h]

def wv (n : Nat) : Value := .int .u64 (n : Int)
theorem wv_oneCell (xs : List Nat) : ∀ u ∈ xs.map wv, u.oneCell' = true := by
  intro u hu
  obtain ⟨_, _, rfl⟩ := List.mem_map.1 hu
  rfl
/-- Words that came in: so many, each of 64 bits, and where they stand. -/
structure Words (w : World) (ad : Option Addr) (l : Nat) (xs : List Nat) : Prop where
  len : xs.length = l
  small : ∀ n ∈ xs, n < 18446744073709551616
  at_ : At w ad (xs.map wv)
  fits : l ≤ 140737488351232

theorem Words.keep {w w' : World} {ad : Option Addr} {l : Nat} {xs : List Nat} {row : Option Nat} (h : Words w ad l xs) (hg : w.grownBy w' row) (hne : ∀ a, ad = some a → xs ≠ [] → some a.block ≠ row) : Words w' ad l xs :=
  ⟨h.len, h.small, h.at_.grown hg (fun a ha hx => hne a ha (by intro e; rw [e] at hx; exact hx rfl)), h.fits⟩
theorem Words.cell {w : World} {ad : Option Addr} {l : Nat} {xs : List Nat} (h : Words w ad l xs) (k : Nat) (hk : k < l) :
    ∃ q o, ad = some ⟨q, o, none⟩ ∧ w.cell? ⟨q, o + k, none⟩ = some (.int .u64 ((xs.getD k 0 : Nat) : Int)) := by
  have hk' : k < xs.length := by rw [h.len]; exact hk
  obtain ⟨q, o, he, hc⟩ := h.at_ k (wv (xs.getD k 0)) (by simp [hk'])
  exact ⟨q, o, he, hc⟩
theorem Words.get {w : World} {ad : Option Addr} {l : Nat} {xs : List Nat} (h : Words w ad l xs) (k : Nat) (hk : k < l) : xs.getD k 0 < 18446744073709551616 := by
  have hk' : k < xs.length := by rw [h.len]; exact hk
  exact h.small _ (by simp [hk'])
theorem Words.nil (w : World) : Words w none 0 [] := ⟨rfl, by simp, At.nil _ _, by decide⟩
theorem old_block {w : World} {ad : Option Addr} {xs : List Value} (h : At w ad xs) (hne : xs ≠ []) : ∀ a, ad = some a → a.block < w.heap.size := by
  intro a ha
  obtain ⟨x, hx⟩ : ∃ x, xs[0]? = some x := by
    cases xs with
    | nil => exact absurd rfl hne
    | cons y t => exact ⟨y, rfl⟩
  obtain ⟨g, o, he, hc⟩ := h 0 x hx
  rw [he] at ha
  cases ha
  exact World.block_lt_of_cell? w _ hc
theorem Words.old {w : World} {ad : Option Addr} {l : Nat} {xs : List Nat} (h : Words w ad l xs) (hx : xs ≠ []) : ∀ a, ad = some a → a.block < w.heap.size :=
  old_block h.at_ (by intro e; exact hx (List.map_eq_nil_iff.1 e))
end Go.Grommet
end
section
/- What a call may turn: a set of blocks, and whatever is new. -/
namespace Go.Grommet
open Go.RowKit

/-- Of the blocks that were there only those of F may have turned. -/
structure Turn (F : Nat → Prop) (w w' : World) : Prop where
  os : w'.os = w.os
  tape : w'.tape = w.tape
  output : w'.output = w.output
  size : w.heap.size ≤ w'.heap.size
  block : ∀ k, k < w.heap.size → ¬ F k → w'.heap[k]? = w.heap[k]?

theorem Turn.refl (F : Nat → Prop) (w : World) : Turn F w w := ⟨rfl, rfl, rfl, Nat.le_refl _, fun _ _ _ => rfl⟩
theorem Turn.trans {F G : Nat → Prop} {a b c : World} (h : Turn F a b) (k : Turn G b c) (hG : ∀ i, G i → F i ∨ a.heap.size ≤ i) : Turn F a c :=
  ⟨k.os.trans h.os, k.tape.trans h.tape, k.output.trans h.output, Nat.le_trans h.size k.size, fun i hi hn =>
    (k.block i (Nat.lt_of_lt_of_le hi h.size) (fun e => by rcases hG i e with x | x; exact hn x; omega)).trans (h.block i hi hn)⟩
theorem Turn.of {F : Nat → Prop} {a b : World} {row : Option Nat} (h : a.grownBy b row) (hr : ∀ i, row = some i → F i) : Turn F a b :=
  ⟨h.os, h.tape, h.output, h.size, fun i hi hn => h.block i hi (fun e => hn (hr i e.symm))⟩
theorem Turn.grown {F : Nat → Prop} {a b c : World} {row : Option Nat} (h : Turn F a b) (k : b.grownBy c row) (hr : ∀ i, row = some i → F i ∨ a.heap.size ≤ i) : Turn F a c :=
  h.trans (Turn.of (F := fun i => row = some i) k (fun _ e => e)) hr
theorem Turn.mono {F G : Nat → Prop} {a b : World} (h : Turn F a b) (hG : ∀ i, F i → G i ∨ a.heap.size ≤ i) : Turn G a b :=
  ⟨h.os, h.tape, h.output, h.size, fun i hi hn => h.block i hi (fun e => by rcases hG i e with x | x; exact hn x; omega)⟩
theorem Turn.none {F : Nat → Prop} {a b : World} (h : Turn F a b) (hF : ∀ i, F i → a.heap.size ≤ i) : a.grownBy b none :=
  ⟨h.os, h.tape, h.output, h.size, fun i hi _ => h.block i hi (fun e => by have := hF i e; omega)⟩
/-- Behind what turned nothing old: something that turns what is new. -/
theorem grown_turn {F : Nat → Prop} {a b c : World} (h : a.grownBy b none) (k : Turn F b c) (hF : ∀ i, F i → a.heap.size ≤ i) : a.grownBy c none :=
  ((Turn.of (F := F) h (fun _ e => by cases e)).trans k (fun _ e => .inl e)).none hF
theorem Turn.obj {F : Nat → Prop} {w w' : World} {g : Nat} {o : Obj} (ht : Turn F w w') (h : w.heap[g]? = some o) (hn : ¬ F g) : w'.heap[g]? = some o :=
  (ht.block g (Array.getElem?_eq_some_iff.1 h).1 hn).trans h
theorem Turn.at {F : Nat → Prop} {w w' : World} {ad : Option Addr} {xs : List Value} (ht : Turn F w w') (h : At w ad xs) (hn : ∀ a, ad = some a → xs ≠ [] → ¬ F a.block) : At w' ad xs := by
  intro j u hu
  obtain ⟨g, o, ha, hc⟩ := h j u hu
  have hne : xs ≠ [] := by intro e; rw [e] at hu; simp at hu
  refine ⟨g, o, ha, (World.cell?_of_block ?_).trans hc⟩
  exact ht.block g (World.block_lt_of_cell? w _ hc) (hn _ ha hne)
theorem Turn.words {F : Nat → Prop} {w w' : World} {ad : Option Addr} {l : Nat} {xs : List Nat} (ht : Turn F w w') (h : Words w ad l xs) (hn : ∀ a, ad = some a → xs ≠ [] → ¬ F a.block) : Words w' ad l xs :=
  ⟨h.len, h.small, ht.at h.at_ (fun a ha hx => hn a ha (fun e => hx (by rw [e]; rfl))), h.fits⟩
theorem Turn.row {F : Nat → Prop} {w w' : World} {base e size : Nat} {v : Value} {n : Nat} {xs : List Value} (ht : Turn F w w') (h : w.ownsRow base e size v n xs) (hn : ∀ g, v.ownBlock = some g → ¬ F g) : w'.ownsRow base e size v n xs := by
  refine ⟨h.1, ?_⟩
  rcases h.2 with h | ⟨g, cap, cur, rfl, hb, hg, r⟩
  · exact .inl h
  · exact .inr ⟨g, cap, cur, rfl, hb, ht.obj hg (hn g rfl), r⟩
theorem Turn.map {H : Type} {P : Program} {k : TypeId} {R : Value → Option (DataW H × List MemPlace)} {b n : Nat} {D : DataW H} {F : Nat → Prop} {w w' : World} (ht : Turn F w w') (h : w.ownsMap P k R b n D) (hn : ¬ F b) : w'.ownsMap P k R b n D := by
  obtain ⟨es, clock, hb, r⟩ := h
  exact ⟨es, clock, ht.obj hb hn, r⟩
theorem row_old {w : World} {base e size n : Nat} {v : Value} {xs : List Value} (h : w.ownsRow base e size v n xs) : ∀ g, v.ownBlock = some g → g < w.heap.size := by
  intro g hg
  rcases h.2 with h | ⟨g', cap, cur, rfl, hb, hg', r⟩
  · rw [h.1] at hg; cases hg
  · cases hg; exact (Array.getElem?_eq_some_iff.1 hg').1
theorem row_type {w : World} {base e size n : Nat} {v : Value} {xs : List Value} (h : w.ownsRow base e size v n xs) : ∀ g, v.ownBlock = some g → ∃ cur, w.heap[g]? = some (.cells cur e (0, 0)) := by
  intro g hg
  rcases h.2 with h | ⟨g', cap, cur, rfl, hb, hg', r⟩
  · rw [h.1] at hg; cases hg
  · cases hg; exact ⟨cur, hg'⟩
theorem row_base {w : World} {base base' e size n : Nat} {v : Value} {xs : List Value} (h : w.ownsRow base e size v n xs) (hb : ∀ g, v.ownBlock = some g → base' ≤ g) : w.ownsRow base' e size v n xs := by
  refine ⟨h.1, ?_⟩
  rcases h.2 with h | ⟨g', cap, cur, rfl, _, r⟩
  · exact .inl h
  · exact .inr ⟨g', cap, cur, rfl, hb g' rfl, r⟩
/-- A row in the value's own words, of any size of elements. -/
theorem row_slice {w : World} {base e size n : Nat} {v : Value} {xs : List Value} (h : w.ownsRow base e size v n xs) :
    ∃ ad cap, v = .slice ad n cap ∧ At w ad xs ∧ (ad = none → n = 0 ∧ cap = 0) ∧ n ≤ cap := by
  obtain ⟨hl, h | ⟨g, cap, cur, rfl, _, hh, hn, hm, hc, htk⟩⟩ := h
  · obtain ⟨rfl, rfl⟩ := h
    refine ⟨none, 0, rfl, ?_, fun _ => ⟨rfl, rfl⟩, Nat.le_refl _⟩
    obtain rfl := List.eq_nil_of_length_eq_zero (l := xs) (by simpa using hl)
    exact At.nil _ _
  · refine ⟨some ⟨g, 0, none⟩, cap, rfl, ?_, by simp, hn⟩
    intro j u hu
    refine ⟨g, 0, rfl, ?_⟩
    rw [← htk] at hu
    rw [Nat.zero_add, World.cell?]
    have hj : j < n * size ∧ j < cur.size := by
      have := (List.getElem?_eq_some_iff.1 hu).1
      rw [List.length_take, Array.length_toList] at this
      omega
    rw [List.getElem?_take, if_pos hj.1, Array.getElem?_toList] at hu
    simp [hh, hu]
theorem equalIn_slice_nil {P : Program} (w : World) (d : Nat) (t e : TypeId) (a : Option Addr) (l c : Nat) (h : P.underlying t = some (.slice e)) : (Op.equalIn (d + 1) t (.slice a l c) (.slice none 0 0)).run P w = .ok a.isNone w := by
  cases a <;> simp [Op.equalIn, run_underlying h]
theorem equal_slice_nil {P : Program} (w : World) (t e : TypeId) (a : Option Addr) (l c : Nat) (h : P.underlying t = some (.slice e)) : (Op.equal t (.slice a l c) (.slice none 0 0)).run P w = .ok a.isNone w := equalIn_slice_nil w 9999 t e a l c h
/-- 'x == nil' of a slice. -/
theorem eql_slice_nil {P : Program} (w : World) (t e : TypeId) (a : Option Addr) (l c : Nat) (h : P.underlying t = some (.slice e)) : (binOp .eql t (.slice a l c) (.slice none 0 0)).run P w = .ok (.bool a.isNone) w := by
  simp [binOp, equal_slice_nil w t e a l c h]
end Go.Grommet
end
section
/- 'append' onto a row of the call's own: where the row lies then. -/
namespace Go.Grommet
open Go.RowKit

theorem run_append_blk {P : Program} (w : World) (base : Nat) (t ty e : TypeId) (i : TypeInfo) (z : Value) (size bytes : Nat) (ht : P.underlying t = some (.slice e)) (hi : P.info? e = some i) (hz : i.zero = some z)
    (hsize : i.size = size) (hby : i.bytes = bytes) (hzs : z.cells.size = size) (hsz : 0 < size)
    (v : Value) (n : Nat) (xs : List Value) (hown : w.ownsRow base e size v n xs)
    (a : Addr) (m c : Nat) (news : List Value) (hl : news.length = m * size) (hnews : ∀ j u, news[j]? = some u → w.cell? (a.add j) = some u) (h1 : ∀ u ∈ news, u.oneCell' = true)
    (h63 : n + m ≤ maxLen) (hbytes : (n + m) * bytes ≤ 140737488355328) (hbase : base ≤ w.heap.size) :
    ∃ v' w', (Builtin.append_ #[t, t] ty #[v, .slice (some a) m c]).run P w = .ok v' w' ∧ w'.ownsRow base e size v' (n + m) (xs ++ news) ∧ w.grownBy w' v.ownBlock ∧
      (∀ g, v'.ownBlock = some g → v.ownBlock = some g ∨ w.heap.size ≤ g) := by
  obtain ⟨v', w', hr, h2, h3, h4⟩ := run_append_own (P := P) w base t ty e i z size bytes ht hi hz hsize hby hzs hsz v n xs hown a m c news hl hnews h1 h63 hbytes hbase
  refine ⟨v', w', hr, h2, h3, ?_⟩
  subst hsize
  subst hby
  rcases hown.2 with ⟨rfl, rfl⟩ | ⟨g, cap, cur, rfl, hbg, hg, hnc, hcm, hcs, htake⟩
  · by_cases hm : m = 0
    · rw [(h4).2 ⟨rfl, hm⟩]
      intro g hg; cases hg
    · have hr' := run_append_nil (P := P) w t ty e i z ht hi hz a m c news hl hnews (by omega) (by simp only [maxLen] at h63; omega) (by have hb := hbytes; simp only [Nat.zero_add] at hb; omega)
      rw [hr'] at hr
      injection hr with hr _
      subst hr
      intro g hg; cases hg; exact .inr (Nat.le_refl _)
  · by_cases hroom : n + m ≤ cap
    · have hfit : n * i.size + news.length ≤ cur.size := by rw [hl, hcs, ← Nat.add_mul]; exact Nat.mul_le_mul_right _ hroom
      have hr' := run_append_room (P := P) w t ty e i ht hi g n cap cur hg a m c news hl hnews h1 hroom hfit
      rw [hr'] at hr
      injection hr with hr _
      subst hr
      intro g hg; exact .inl hg
    · have holds : ∀ j u, xs[j]? = some u → w.cell? ((⟨g, 0, none⟩ : Addr).add j) = some u := hown.cells (g := g) rfl
      have hr' := run_append_grow (P := P) w t ty e i z ht hi hz ⟨g, 0, none⟩ n cap xs hown.1 holds a m c news hl hnews (by omega) (by simp only [maxLen] at h63; omega) (growslice_fits (by omega) hbytes)
      rw [hr'] at hr
      injection hr with hr _
      subst hr
      intro g hg; cases hg; exact .inr (Nat.le_refl _)

theorem wpList_append_blk {P : Program} (w : World) {ops : Array Oper} {rest : List Oper} {o : Oper} {a : Act} {Q : Exit → Act → World → Prop} (hgd : o.guard = none) (s x : Operand) (t : TypeId)
    (ho : o.op = .call { callee := .builtin .append, args := #[s, x], argTypes := #[t, t] })
    (base : Nat) (e : TypeId) (i : TypeInfo) (z : Value) (size bytes : Nat) (ht : P.underlying t = some (.slice e)) (hi : P.info? e = some i) (hz : i.zero = some z)
    (hsize : i.size = size) (hby : i.bytes = bytes) (hzs : z.cells.size = size) (hsz : 0 < size)
    (v : Value) (n : Nat) (xs : List Value) (hs : a.eval s = v) (hown : w.ownsRow base e size v n xs)
    (ad : Addr) (m c : Nat) (news : List Value) (hx : a.eval x = .slice (some ad) m c) (hl : news.length = m * size) (hnews : ∀ j u, news[j]? = some u → w.cell? (ad.add j) = some u) (h1 : ∀ u ∈ news, u.oneCell' = true)
    (h63 : n + m ≤ maxLen) (hbytes : (n + m) * bytes ≤ 140737488355328) (hbase : base ≤ w.heap.size)
    (h : ∀ ad' cap' w', w'.ownsRow base e size (.slice ad' (n + m) cap') (n + m) (xs ++ news) → w.grownBy w' v.ownBlock → (∀ g, (Value.slice ad' (n + m) cap').ownBlock = some g → v.ownBlock = some g ∨ w.heap.size ≤ g) → wpList P ops Q rest (a.put o.dst (.slice ad' (n + m) cap')) w') : wpList P ops Q (o :: rest) a w := by
  refine wpList_plain hgd fun K hK => ?_
  obtain ⟨v', w', hr, h2, h3, h4⟩ := run_append_blk (P := P) w base t o.type e i z size bytes ht hi hz hsize hby hzs hsz v n xs hown ad m c news hl hnews h1 h63 hbytes hbase
  obtain ⟨ad', cap', rfl, _⟩ := row_slice h2
  unfold Oper.wp execOp
  simp only [ho, resolve, invoke, builtin, Sem.run_bind, Sem.run_pure, Result.andThen_ok, List.map_toArray, List.map_cons, List.map_nil, hs, hx, hr]
  exact hK _ _ (h ad' cap' w' h2 h3 h4)
end Go.Grommet
end
section
/- Things of a call's own, side by side. -/
namespace Go.Grommet
open Go.RowKit

/-- A thing in memory: what it is, in which blocks; it stays where these stay. -/
structure Pr where
  holds : World → (Nat → Prop) → Prop
  turn : ∀ {w w' : World} {F H : Nat → Prop}, holds w F → Turn H w w' → (∀ i, F i → ¬ H i) → holds w' F
  old : ∀ {w : World} {F : Nat → Prop}, holds w F → ∀ i, F i → i < w.heap.size

/-- These things were made since w0, each in blocks of its own; nothing old has turned. -/
def Own (w0 w : World) (Ps : List Pr) : Prop :=
  ∃ Fs : Nat → Nat → Prop, (∀ (k : Nat) (P : Pr), Ps[k]? = some P → P.holds w (Fs k)) ∧ (∀ j k, j < Ps.length → k < Ps.length → j ≠ k → ∀ i, Fs j i → ¬ Fs k i) ∧ (∀ k, k < Ps.length → ∀ i, Fs k i → w0.heap.size ≤ i) ∧ w0.grownBy w none

def upd (Fs : Nat → Nat → Prop) (k : Nat) (F : Nat → Prop) (j : Nat) : Nat → Prop := if j = k then F else Fs j
theorem upd_same (Fs : Nat → Nat → Prop) (k : Nat) (F : Nat → Prop) : upd Fs k F k = F := by unfold upd; rw [if_pos rfl]
theorem upd_ne (Fs : Nat → Nat → Prop) {k j : Nat} (F : Nat → Prop) (h : j ≠ k) : upd Fs k F j = Fs j := by unfold upd; rw [if_neg h]

/-- What a call does with a thing: its blocks, and new ones, alone. -/
def DoesP (F : Nat → Prop) (w w' : World) (P : Pr) : Prop := ∃ F', P.holds w' F' ∧ (∀ i, F' i → F i ∨ w.heap.size ≤ i) ∧ Turn F w w'

theorem Own.nil (w : World) : Own w w [] := ⟨fun _ _ => False, fun k P h => by simp at h, fun _ _ _ _ _ _ h => h.elim, fun _ _ _ h => h.elim, World.grownBy.refl _ _⟩
theorem Own.grown {w0 w : World} {Ps : List Pr} (h : Own w0 w Ps) : w0.grownBy w none := by obtain ⟨_, _, _, _, hg⟩ := h; exact hg
theorem Own.get {w0 w : World} {Ps : List Pr} (h : Own w0 w Ps) (k : Nat) {P : Pr} (hk : Ps[k]? = some P) : ∃ F, P.holds w F := by
  obtain ⟨Fs, h1, _⟩ := h
  exact ⟨Fs k, h1 k P hk⟩
theorem Own.quiet {w0 w w' : World} {Ps : List Pr} (h : Own w0 w Ps) (hg : w.grownBy w' none) : Own w0 w' Ps := by
  obtain ⟨Fs, h1, h2, h3, h4⟩ := h
  exact ⟨Fs, fun k P hk => P.turn (h1 k P hk) (Turn.of (F := fun _ => False) hg (fun _ e => by cases e)) (fun _ _ e => e), h2, h3, grown_trans h4 hg⟩
/-- A thing, and what becomes of all when it is turned. -/
theorem Own.take {w0 w : World} {Ps : List Pr} (h : Own w0 w Ps) (k : Nat) {P : Pr} (hk : Ps[k]? = some P) :
    ∃ F, P.holds w F ∧ ∀ w' P', DoesP F w w' P' → Own w0 w' (Ps.set k P') := by
  obtain ⟨Fs, h1, h2, h3, h4⟩ := h
  refine ⟨Fs k, h1 k P hk, ?_⟩
  rintro w' P' ⟨F', d1, d2, d3⟩
  have hkl : k < Ps.length := (List.getElem?_eq_some_iff.1 hk).1
  have hin : ∀ i, Fs k i → w0.heap.size ≤ i := h3 k hkl
  refine ⟨upd Fs k F', ?_, ?_, ?_, grown_turn h4 d3 hin⟩
  · intro j Q hQ
    by_cases hj : j = k
    · subst hj
      rw [upd_same]
      rw [List.getElem?_set_self hkl] at hQ
      cases hQ
      exact d1
    · rw [upd_ne _ _ hj]
      rw [List.getElem?_set_ne (fun e => hj e.symm)] at hQ
      exact Q.turn (h1 j Q hQ) d3 (h2 j k (List.getElem?_eq_some_iff.1 hQ).1 hkl hj)
  · intro j l hj hl hne i hi
    rw [List.length_set] at hj hl
    have oldOf : ∀ m, m < Ps.length → ∀ i, Fs m i → i < w.heap.size := fun m hm i hi => (Ps[m]).old (h1 m _ (by simp [hm])) i hi
    by_cases hjk : j = k
    · subst hjk
      rw [upd_same] at hi
      rw [upd_ne _ _ (fun e => hne e.symm)]
      rcases d2 i hi with e | e
      · exact h2 _ l hj hl hne i e
      · intro hl'; have := oldOf l hl i hl'; omega
    · rw [upd_ne _ _ hjk] at hi
      by_cases hlk : l = k
      · subst hlk
        rw [upd_same]
        intro hF
        rcases d2 i hF with e | e
        · exact h2 j _ hj hl hne i hi e
        · have := oldOf j hj i hi; omega
      · rw [upd_ne _ _ hlk]; exact h2 j l hj hl hne i hi
  · intro j hj i hi
    rw [List.length_set] at hj
    by_cases hjk : j = k
    · subst hjk
      rw [upd_same] at hi
      rcases d2 i hi with e | e
      · exact hin i e
      · exact Nat.le_trans h4.size e
    · rw [upd_ne _ _ hjk] at hi; exact h3 j hj i hi
/-- A thing that is new. -/
theorem Own.add {w0 w w' : World} {Ps : List Pr} (h : Own w0 w Ps) {P : Pr} {F : Nat → Prop} (hP : P.holds w' F) (hF : ∀ i, F i → w.heap.size ≤ i) (hg : w.grownBy w' none) : Own w0 w' (Ps ++ [P]) := by
  have hq := h.quiet hg
  obtain ⟨Fs, h1, h2, h3, h4⟩ := h
  have oldOf : ∀ m, m < Ps.length → ∀ i, Fs m i → i < w.heap.size := fun m hm i hi => (Ps[m]).old (h1 m _ (by simp [hm])) i hi
  refine ⟨upd Fs Ps.length F, ?_, ?_, ?_, hq.grown⟩
  · intro j Q hQ
    by_cases hj : j = Ps.length
    · subst hj
      rw [upd_same]
      rw [List.getElem?_append_right (Nat.le_refl _)] at hQ
      simp at hQ
      subst hQ
      exact hP
    · rw [upd_ne _ _ hj]
      have hjl : j < Ps.length := by
        have := (List.getElem?_eq_some_iff.1 hQ).1
        rw [List.length_append, List.length_singleton] at this
        omega
      rw [List.getElem?_append_left hjl] at hQ
      exact Q.turn (h1 j Q hQ) (Turn.of (F := fun _ => False) hg (fun _ e => by cases e)) (fun _ _ e => e)
  · intro j l hj hl hne i hi
    rw [List.length_append, List.length_singleton] at hj hl
    by_cases hjk : j = Ps.length
    · rw [hjk, upd_same] at hi
      rw [upd_ne _ _ (by omega)]
      intro hl'
      have := oldOf l (by omega) i hl'
      have := hF i hi
      omega
    · rw [upd_ne _ _ hjk] at hi
      by_cases hlk : l = Ps.length
      · rw [hlk, upd_same]
        intro hF'
        have := oldOf j (by omega) i hi
        have := hF i hF'
        omega
      · rw [upd_ne _ _ hlk]; exact h2 j l (by omega) (by omega) hne i hi
  · intro j hj i hi
    rw [List.length_append, List.length_singleton] at hj
    by_cases hjk : j = Ps.length
    · rw [hjk, upd_same] at hi
      exact Nat.le_trans h4.size (hF i hi)
    · rw [upd_ne _ _ hjk] at hi; exact h3 j (by omega) i hi
/-- Fewer things. -/
theorem Own.less {w0 w : World} {Ps Qs : List Pr} (h : Own w0 w (Ps ++ Qs)) : Own w0 w Ps := by
  obtain ⟨Fs, h1, h2, h3, h4⟩ := h
  refine ⟨Fs, fun k P hk => h1 k P ?_, fun j k hj hk => h2 j k (by rw [List.length_append]; omega) (by rw [List.length_append]; omega), fun k hk => h3 k (by rw [List.length_append]; omega), h4⟩
  rw [List.getElem?_append_left (List.getElem?_eq_some_iff.1 hk).1]
  exact hk

/-- A row of the call's own. -/
def rowP (e size : Nat) (v : Value) (n : Nat) (xs : List Value) : Pr where
  holds w F := w.ownsRow 0 e size v n xs ∧ (∀ i, v.ownBlock = some i → F i) ∧ ∀ i, F i → i < w.heap.size
  turn := fun h ht hn => ⟨ht.row h.1 (fun i hi => hn i (h.2.1 i hi)), h.2.1, fun i hi => Nat.lt_of_lt_of_le (h.2.2 i hi) ht.size⟩
  old := fun h => h.2.2
theorem Own.addRow {w0 w w' : World} {Ps : List Pr} (h : Own w0 w Ps) {e size n : Nat} {v : Value} {xs : List Value} (hr : w'.ownsRow w.heap.size e size v n xs) (hg : w.grownBy w' none) : Own w0 w' (Ps ++ [rowP e size v n xs]) :=
  h.add (F := fun i => v.ownBlock = some i) ⟨row_base hr (fun _ _ => Nat.zero_le _), fun _ hi => hi, fun i hi => row_old hr i hi⟩ (fun i hi => (hr.lt i hi).1) hg
theorem Own.row {w0 w : World} {Ps : List Pr} (h : Own w0 w Ps) (k : Nat) {e size n : Nat} {v : Value} {xs : List Value} (hk : Ps[k]? = some (rowP e size v n xs)) : w.ownsRow 0 e size v n xs := by
  obtain ⟨F, hF⟩ := h.get k hk
  exact hF.1

/-- A store into such a row. -/
theorem row_put' {w : World} {base e size n cap b : Nat} {xs : List Value} (h : w.ownsRow base e size (.slice (some ⟨b, 0, none⟩) n cap) n xs) (o : Nat) (u : Value) :
    (w.setCell ⟨b, o, none⟩ u).ownsRow base e size (.slice (some ⟨b, 0, none⟩) n cap) n (xs.set o u) := by
  obtain ⟨hl, h | ⟨g, cap', cur, he, hb, hh, hn, hm, hc, htk⟩⟩ := h
  · cases h.1
  · cases he
    refine ⟨by simpa using hl, .inr ⟨b, cap, cur.setIfInBounds o u, rfl, hb, heap_setCell_at hh u, hn, hm, by simpa using hc, ?_⟩⟩
    rw [Array.toList_setIfInBounds, List.take_set, htk]
theorem Own.store {w0 w : World} {Ps : List Pr} (h : Own w0 w Ps) (k : Nat) {e size n cap b : Nat} {xs : List Value} (hk : Ps[k]? = some (rowP e size (.slice (some ⟨b, 0, none⟩) n cap) n xs)) (o : Nat) (u : Value) :
    Own w0 (w.setCell ⟨b, o, none⟩ u) (Ps.set k (rowP e size (.slice (some ⟨b, 0, none⟩) n cap) n (xs.set o u))) := by
  obtain ⟨F, h1, h2⟩ := h.take k hk
  refine h2 _ _ ⟨F, ⟨row_put' h1.1 o u, h1.2.1, fun i hi => Nat.lt_of_lt_of_le (h1.2.2 i hi) (by simp [World.setCell])⟩, fun i hi => .inl hi, Turn.of (grown_setCell _ _ _) (fun i e => by cases e; exact h1.2.1 _ rfl)⟩
/-- A cell of such a row. -/
theorem Own.cell {w0 w : World} {Ps : List Pr} (h : Own w0 w Ps) (k : Nat) {e size n cap : Nat} {ad : Option Addr} {xs : List Value} (hk : Ps[k]? = some (rowP e size (.slice ad n cap) n xs)) (j : Nat) (v : Value) (hj : xs[j]? = some v) :
    ∃ b, ad = some ⟨b, 0, none⟩ ∧ w.cell? ⟨b, j, none⟩ = some v ∧ w.frozen? ⟨b, j, none⟩ = false ∧ n ≤ cap := by
  have hr := h.row k hk
  obtain ⟨hl, hr | ⟨g, cap', cur, he, _, hh, hn, hm, hc, htk⟩⟩ := hr
  · obtain ⟨_, rfl⟩ := hr
    rw [Nat.zero_mul] at hl
    obtain rfl := List.eq_nil_of_length_eq_zero hl
    simp at hj
  · cases he
    rw [← htk] at hj
    have hlt := (List.getElem?_eq_some_iff.1 hj).1
    rw [List.length_take] at hlt
    rw [List.getElem?_take, if_pos (by omega), Array.getElem?_toList] at hj
    exact ⟨g, rfl, by simp [World.cell?, hh, hj], by simp [World.frozen?, hh], hn⟩

/-- A variable of the call's own. -/
def boxP (X : Nat) (T : TypeId) (cs : Array Value) : Pr where
  holds w F := w.heap[X]? = some (.cells cs T (0, 0)) ∧ F X ∧ ∀ i, F i → i < w.heap.size
  turn := fun h ht hn => ⟨ht.obj h.1 (hn _ h.2.1), h.2.1, fun i hi => Nat.lt_of_lt_of_le (h.2.2 i hi) ht.size⟩
  old := fun h => h.2.2
theorem Own.box {w0 w : World} {Ps : List Pr} (h : Own w0 w Ps) (k : Nat) {X : Nat} {T : TypeId} {cs : Array Value} (hk : Ps[k]? = some (boxP X T cs)) : w.heap[X]? = some (.cells cs T (0, 0)) := by
  obtain ⟨F, hF⟩ := h.get k hk
  exact hF.1
theorem Own.addBox {w0 w : World} {Ps : List Pr} (h : Own w0 w Ps) (T : TypeId) (cs : Array Value) : Own w0 (w.alloc (.cells cs T)) (Ps ++ [boxP w.heap.size T cs]) :=
  h.add (P := boxP w.heap.size T cs) (F := fun i => i = w.heap.size) ⟨heap_alloc_new w _, rfl, fun i hi => by rw [hi]; simp⟩ (fun i hi => by rw [hi]; exact Nat.le_refl _) (World.grownBy_alloc w _ none)
end Go.Grommet
end
section
/- Memory that outlives the power: one word, and a row of them. -/
-- OPTIONAL
namespace Go.Grommet
open Go.RowKit

/-- A word of a device: what is sure, what is seen, its marks. -/
structure PW where
  sure : Nat
  seen : Nat
  loose : Bool
  flushed : Bool
  again : Bool
  kept : Nat

namespace PW
def nought : PW := ⟨0, 0, false, false, false, 0⟩
def vs (c : PW) : List Value := [.int .u64 (c.sure : Int), .int .u64 (c.seen : Int), .bool c.loose, .bool c.flushed, .bool c.again, .int .u64 (c.kept : Int)]
def store (c : PW) (v : Nat) : PW := { c with seen := v, loose := true, again := c.flushed }
def flush (c : PW) : PW := if c.loose then { c with loose := true, flushed := true, again := false, kept := c.seen } else c
def fence (c : PW) : PW := if c.flushed then ⟨c.kept, c.seen, c.again, false, false, 0⟩ else c
def evict (c : PW) : PW := if c.loose then ⟨c.seen, c.seen, false, false, false, 0⟩ else c
def left (c : PW) (p : Nat) : Nat := if p % 3 = 2 then c.seen else if p % 3 = 1 ∧ c.flushed = true then c.kept else c.sure
def lose (c : PW) (p : Nat) : PW := ⟨c.left p, c.left p, false, false, false, 0⟩
def Small (c : PW) : Prop := c.sure < 18446744073709551616 ∧ c.seen < 18446744073709551616 ∧ c.kept < 18446744073709551616
theorem nought_small : nought.Small := ⟨by decide, by decide, by decide⟩
theorem flush_small {c : PW} (h : c.Small) : c.flush.Small := by unfold flush; split; exact ⟨h.1, h.2.1, h.2.1⟩; exact h
theorem left_small {c : PW} (h : c.Small) (p : Nat) : c.left p < 18446744073709551616 := by
  unfold left; split; exact h.2.1; split; exact h.2.2; exact h.1
theorem lose_small {c : PW} (h : c.Small) (p : Nat) : (c.lose p).Small := ⟨left_small h p, left_small h p, by show 0 < _; decide⟩
end PW

/-- A row of words as values, one behind the other. -/
def flat (ws : List PW) : List Value := ws.flatMap PW.vs
theorem flat_len (ws : List PW) : (flat ws).length = 6 * ws.length := by
  induction ws with
  | nil => rfl
  | cons c ws ih => show (PW.vs c ++ flat ws).length = _; rw [List.length_append, ih, List.length_cons]; show 6 + _ = _; omega
theorem pm_flat_get : ∀ (ws : List PW) (k j : Nat) (c : PW), ws[k]? = some c → j < 6 → (flat ws)[k * 6 + j]? = c.vs[j]?
  | [], _, _, _, h, _ => by simp at h
  | c :: ws, 0, j, c', h, hj => by
    have h : some c = some c' := h
    cases h
    show (PW.vs c ++ flat ws)[0 * 6 + j]? = _
    rw [List.getElem?_append_left (by show 0 * 6 + j < 6; omega), Nat.zero_mul, Nat.zero_add]
  | c :: ws, k + 1, j, c', h, hj => by
    have h : ws[k]? = some c' := h
    show (PW.vs c ++ flat ws)[(k + 1) * 6 + j]? = _
    rw [List.getElem?_append_right (by show 6 ≤ _; omega), ← pm_flat_get ws k j c' h hj]
    congr 1
    show (k + 1) * 6 + j - 6 = _
    omega
theorem flat_set : ∀ (ws : List PW) (k j : Nat) (c c' : PW) (v : Value), ws[k]? = some c → j < 6 → c.vs.set j v = c'.vs → (flat ws).set (k * 6 + j) v = flat (ws.set k c')
  | [], _, _, _, _, _, h, _, _ => by simp at h
  | c :: ws, 0, j, c0, c', v, h, hj, hv => by
    have h : some c = some c0 := h
    cases h
    show (PW.vs c ++ flat ws).set (0 * 6 + j) v = PW.vs c' ++ flat ws
    rw [List.set_append_left _ _ (by show 0 * 6 + j < 6; omega), Nat.zero_mul, Nat.zero_add, hv]
  | c :: ws, k + 1, j, c0, c', v, h, hj, hv => by
    have h : ws[k]? = some c0 := h
    show (PW.vs c ++ flat ws).set ((k + 1) * 6 + j) v = PW.vs c ++ flat (ws.set k c')
    rw [List.set_append_right _ _ (by show 6 ≤ _; omega), ← flat_set ws k j c0 c' v h hj hv]
    congr 1
    show (flat ws).set ((k + 1) * 6 + j - 6) v = _
    congr 1
    omega
/-- A loss of power: picks are taken by what is loose, one each. -/
def crash : List PW → List Nat → List PW
  | [], _ => []
  | c :: cs, ps => if c.loose then c.lose (ps.headD 0) :: crash cs ps.tail else c :: crash cs ps
def looseOf (ws : List PW) : Nat := (ws.filter (·.loose)).length
theorem crash_len : ∀ (ws : List PW) (ps : List Nat), (crash ws ps).length = ws.length
  | [], _ => rfl
  | c :: cs, ps => by unfold crash; split <;> simp [crash_len]
end Go.Grommet
end
section
/- Words turned one behind the other. -/
-- OPTIONAL
namespace Go.Grommet

/-- So many words, from a place on, each turned. -/
def turnFrom (f : PW → PW) (a m : Nat) (ws : List PW) : List PW := (List.range m).foldl (fun s x => s.modify (a + x) f) ws
theorem turnFrom_succ (f : PW → PW) (a m : Nat) (ws : List PW) : turnFrom f a (m + 1) ws = (turnFrom f a m ws).modify (a + m) f := by
  unfold turnFrom; rw [List.range_succ, List.foldl_append]; rfl
theorem turnFrom_len (f : PW → PW) (a : Nat) (ws : List PW) : ∀ m, (turnFrom f a m ws).length = ws.length
  | 0 => rfl
  | m + 1 => by rw [turnFrom_succ, List.length_modify, turnFrom_len f a ws m]
theorem turnFrom_get (f : PW → PW) (a : Nat) (ws : List PW) (k : Nat) : ∀ m, (turnFrom f a m ws)[k]? = if a ≤ k ∧ k < a + m then (ws[k]?).map f else ws[k]?
  | 0 => by rw [if_neg (by omega)]; rfl
  | m + 1 => by
    rw [turnFrom_succ, List.getElem?_modify, turnFrom_get f a ws k m]
    by_cases e : a + m = k
    · rw [if_neg (by omega : ¬ (a ≤ k ∧ k < a + m)), if_pos (by omega : a ≤ k ∧ k < a + (m + 1))]; cases ws[k]? <;> simp [e]
    · by_cases h : a ≤ k ∧ k < a + m
      · rw [if_pos h, if_pos (by omega : a ≤ k ∧ k < a + (m + 1))]; cases ws[k]? <;> simp [e]
      · rw [if_neg h, if_neg (by omega : ¬ (a ≤ k ∧ k < a + (m + 1)))]; cases ws[k]? <;> simp [e]
theorem turnFrom_line (f : PW → PW) (j : Nat) (ws : List PW) : turnFrom f (8 * j) 8 (turnFrom f 0 (8 * j) ws) = turnFrom f 0 (8 * (j + 1)) ws := by
  apply List.ext_getElem?
  intro k
  rw [turnFrom_get, turnFrom_get, turnFrom_get]
  by_cases h : k < 8 * j
  · rw [if_neg (by omega), if_pos (by omega), if_pos (by omega)]
  · by_cases h2 : k < 8 * j + 8
    · rw [if_pos (by omega), if_neg (by omega), if_pos (by omega)]
    · rw [if_neg (by omega), if_neg (by omega), if_neg (by omega)]
theorem turnFrom_all (f : PW → PW) (ws : List PW) (m : Nat) (hm : ws.length ≤ m) : turnFrom f 0 m ws = ws.map f := by
  apply List.ext_getElem?
  intro k
  rw [turnFrom_get, List.getElem?_map]
  by_cases h : k < m
  · rw [if_pos (by omega)]
  · rw [if_neg (by omega), List.getElem?_eq_none (by omega)]; rfl
end Go.Grommet
namespace Go.Grommet
/-- What is gathered of so many words, from a place on. -/
def gather {σ : Type} (f : σ → PW → σ) (ws : List PW) (a m : Nat) (s : σ) : σ := (List.range m).foldl (fun s x => f s (ws.getD (a + x) PW.nought)) s
theorem gather_succ {σ : Type} (f : σ → PW → σ) (ws : List PW) (a m : Nat) (s : σ) : gather f ws a (m + 1) s = f (gather f ws a m s) (ws.getD (a + m) PW.nought) := by
  unfold gather; rw [List.range_succ, List.foldl_append]; rfl
theorem gather_add {σ : Type} (f : σ → PW → σ) (ws : List PW) (j : Nat) (s : σ) : ∀ m, gather f ws j m (gather f ws 0 j s) = gather f ws 0 (j + m) s
  | 0 => rfl
  | m + 1 => by rw [gather_succ, gather_add f ws j s m, ← Nat.add_assoc, gather_succ, Nat.zero_add]
theorem gather_line {σ : Type} (f : σ → PW → σ) (ws : List PW) (j : Nat) (s : σ) : gather f ws (8 * j) 8 (gather f ws 0 (8 * j) s) = gather f ws 0 (8 * (j + 1)) s := gather_add f ws (8 * j) s 8
theorem gather_take {σ : Type} (f : σ → PW → σ) (ws : List PW) (s : σ) : ∀ m, m ≤ ws.length → gather f ws 0 m s = (ws.take m).foldl f s
  | 0, _ => rfl
  | m + 1, h => by
    rw [gather_succ, gather_take f ws s m (by omega), List.take_add_one, List.getElem?_eq_getElem (by omega : m < ws.length), List.foldl_append, Nat.zero_add, List.getD_eq_getElem?_getD, List.getElem?_eq_getElem (by omega : m < ws.length)]
    rfl
theorem gather_all {σ : Type} (f : σ → PW → σ) (ws : List PW) (s : σ) (m : Nat) (hm : m = ws.length) : gather f ws 0 m s = ws.foldl f s := by
  rw [gather_take f ws s m (by omega), hm, List.take_length]
end Go.Grommet
namespace Go.Grommet
/-- One word's part of a loss of power; what is left of the picks. -/
def loseAt (s : List PW × List Nat) (k : Nat) : List PW × List Nat :=
  if (s.1.getD k PW.nought).loose then (s.1.set k ((s.1.getD k PW.nought).lose (s.2.headD 0)), s.2.tail) else s
def loseFrom (a m : Nat) (s : List PW × List Nat) : List PW × List Nat := (List.range m).foldl (fun s x => loseAt s (a + x)) s
theorem loseFrom_succ (a m : Nat) (s : List PW × List Nat) : loseFrom a (m + 1) s = loseAt (loseFrom a m s) (a + m) := by
  unfold loseFrom; rw [List.range_succ, List.foldl_append]; rfl
theorem loseFrom_add (j : Nat) (s : List PW × List Nat) : ∀ m, loseFrom j m (loseFrom 0 j s) = loseFrom 0 (j + m) s
  | 0 => rfl
  | m + 1 => by rw [loseFrom_succ, loseFrom_add j s m, ← Nat.add_assoc, loseFrom_succ, Nat.zero_add]
theorem loseFrom_line (j : Nat) (s : List PW × List Nat) : loseFrom (8 * j) 8 (loseFrom 0 (8 * j) s) = loseFrom 0 (8 * (j + 1)) s := loseFrom_add (8 * j) s 8
theorem loseAt_len (s : List PW × List Nat) (k : Nat) : (loseAt s k).1.length = s.1.length := by
  unfold loseAt; split
  · exact List.length_set
  · rfl
theorem loseFrom_len (a : Nat) (s : List PW × List Nat) : ∀ m, (loseFrom a m s).1.length = s.1.length
  | 0 => rfl
  | m + 1 => by rw [loseFrom_succ, loseAt_len, loseFrom_len a s m]
theorem loseFrom_crash : ∀ (ws pre : List PW) (ps : List Nat), loseFrom pre.length ws.length (pre ++ ws, ps) = (pre ++ crash ws ps, ps.drop (looseOf ws))
  | [], pre, ps => by simp [loseFrom, crash, looseOf]
  | c :: ws, pre, ps => by
    have hg : (pre ++ c :: ws).getD pre.length PW.nought = c := by simp
    have hrest : ∀ (s : List PW × List Nat), loseFrom pre.length (ws.length + 1) s = loseFrom (pre.length + 1) ws.length (loseAt s pre.length) := by
      intro s
      have : ∀ m, loseFrom pre.length (m + 1) s = loseFrom (pre.length + 1) m (loseAt s pre.length) := by
        intro m
        induction m with
        | zero => rfl
        | succ m ih => rw [loseFrom_succ, ih, loseFrom_succ, Nat.add_assoc, Nat.add_comm 1 m]
      exact this _
    rw [List.length_cons, hrest]
    unfold loseAt
    dsimp only
    rw [hg]
    cases hc : c.loose with
    | false =>
      have h1 := loseFrom_crash ws (pre ++ [c]) ps
      rw [List.append_assoc, List.length_append] at h1
      have h2 : looseOf (c :: ws) = looseOf ws := by unfold looseOf; rw [List.filter_cons_of_neg (by simp [hc])]
      have h3 : crash (c :: ws) ps = c :: crash ws ps := by rw [crash, if_neg (by simp [hc])]
      rw [if_neg (by simp), h2, h3]
      simpa using h1
    | true =>
      have h1 := loseFrom_crash ws (pre ++ [c.lose (ps.headD 0)]) ps.tail
      rw [List.append_assoc, List.length_append] at h1
      have h2 : looseOf (c :: ws) = looseOf ws + 1 := by unfold looseOf; rw [List.filter_cons_of_pos (by simp [hc]), List.length_cons]
      have h3 : crash (c :: ws) ps = c.lose (ps.headD 0) :: crash ws ps.tail := by rw [crash, if_pos hc]
      have h4 : (pre ++ c :: ws).set pre.length (c.lose (ps.headD 0)) = pre ++ c.lose (ps.headD 0) :: ws := by simp
      have h5 : ps.tail.drop (looseOf ws) = ps.drop (looseOf ws + 1) := by rw [List.drop_tail]
      rw [if_pos rfl, h2, h3, h4]
      rw [h5] at h1
      simpa using h1
theorem loseFrom_all (ws : List PW) (ps : List Nat) (m : Nat) (hm : m = ws.length) : (loseFrom 0 m (ws, ps)).1 = crash ws ps := by
  have := loseFrom_crash ws [] ps
  rw [hm]
  simpa using congrArg Prod.fst this
end Go.Grommet
end
section
/- A device of these words, all sure. -/
namespace Go.Grommet

def cleanW (v : Nat) : PW := ⟨v, v, false, false, false, 0⟩
def cleanL (xs : List Nat) : List PW := xs.map cleanW
def devS (xs : List Nat) (i : Nat) : List PW := (List.range xs.length).map fun a => if a < i then PW.nought.store (xs.getD a 0) else PW.nought
def devE (xs : List Nat) (i : Nat) : List PW := (List.range xs.length).map fun a => if a < 8 * i then cleanW (xs.getD a 0) else PW.nought.store (xs.getD a 0)
theorem devS_len (xs : List Nat) (i : Nat) : (devS xs i).length = xs.length := by simp [devS]
theorem devE_len (xs : List Nat) (i : Nat) : (devE xs i).length = xs.length := by simp [devE]
theorem devS_get (xs : List Nat) (i k : Nat) (hk : k < xs.length) : (devS xs i)[k]? = some (if k < i then PW.nought.store (xs.getD k 0) else PW.nought) := by
  unfold devS; rw [List.getElem?_map, List.getElem?_range hk]; rfl
theorem devE_get (xs : List Nat) (i k : Nat) (hk : k < xs.length) : (devE xs i)[k]? = some (if k < 8 * i then cleanW (xs.getD k 0) else PW.nought.store (xs.getD k 0)) := by
  unfold devE; rw [List.getElem?_map, List.getElem?_range hk]; rfl
theorem ext_len {α : Type} {xs ys : List α} (h : xs.length = ys.length) (hg : ∀ k, k < ys.length → xs[k]? = ys[k]?) : xs = ys := by
  apply List.ext_getElem?
  intro k
  by_cases hk : k < ys.length
  · exact hg k hk
  · rw [List.getElem?_eq_none (by omega), List.getElem?_eq_none (by omega)]
theorem devS_zero (xs : List Nat) : devS xs 0 = List.replicate xs.length PW.nought := by
  refine ext_len (by simp [devS]) (fun k hk => ?_)
  rw [List.length_replicate] at hk
  rw [devS_get _ _ _ hk, if_neg (by omega), List.getElem?_replicate, if_pos hk]
theorem devS_succ (xs : List Nat) (i : Nat) : (devS xs i).modify i (·.store (xs.getD i 0)) = devS xs (i + 1) := by
  refine ext_len (by simp [devS]) (fun k hk => ?_)
  rw [devS_len] at hk
  rw [List.getElem?_modify, devS_get _ _ _ hk, devS_get _ _ _ hk]
  by_cases e : i = k
  · subst e; rw [if_neg (by omega), if_pos (by omega)]; simp
  · by_cases h : k < i
    · rw [if_pos h, if_pos (by omega)]; simp [e]
    · rw [if_neg h, if_neg (by omega)]; simp [e]
theorem devE_zero (xs : List Nat) : devE xs 0 = devS xs xs.length := by
  refine ext_len (by simp [devS, devE]) (fun k hk => ?_)
  rw [devS_len] at hk
  rw [devS_get _ _ _ hk, devE_get _ _ _ hk, if_neg (by omega), if_pos hk]
theorem evict_stored (v : Nat) : PW.evict (PW.nought.store v) = cleanW v := by
  unfold PW.evict PW.store PW.nought cleanW; simp
theorem devE_succ (xs : List Nat) (i : Nat) : turnFrom PW.evict (8 * i) 8 (devE xs i) = devE xs (i + 1) := by
  refine ext_len (by rw [turnFrom_len, devE_len, devE_len]) (fun k hk => ?_)
  rw [devE_len] at hk
  rw [turnFrom_get, devE_get _ _ _ hk, devE_get _ _ _ hk]
  by_cases h : k < 8 * i
  · rw [if_neg (by omega), if_pos h, if_pos (by omega)]
  · by_cases h2 : k < 8 * i + 8
    · rw [if_pos (by omega), if_neg h, if_pos (by omega), Option.map_some, evict_stored]
    · rw [if_neg (by omega), if_neg h, if_neg (by omega)]
theorem devE_all (xs : List Nat) (i : Nat) (hi : 8 * i = xs.length) : devE xs i = cleanL xs := by
  refine ext_len (by simp [devE, cleanL]) (fun k hk => ?_)
  have hk : k < xs.length := by simpa [cleanL] using hk
  rw [devE_get _ _ _ hk, if_pos (by omega)]
  unfold cleanL
  rw [List.getElem?_map, List.getElem?_eq_getElem hk, List.getD_eq_getElem?_getD, List.getElem?_eq_getElem hk]
  rfl
theorem cleanL_len (xs : List Nat) : (cleanL xs).length = xs.length := by simp [cleanL]
end Go.Grommet
end
section
/- The document's words of a device, and how they go with the program's. -/
-- OPTIONAL
namespace Go.Grommet
open Go.RowKit

structure RW where
  sure : Nat
  seen : Nat
  loose : Bool
  flushed : Bool
  value : Nat
  again : Bool

namespace RW
def nought : RW := ⟨0, 0, false, false, 0, false⟩
def vs (c : RW) : List Value := [.int .u64 (c.sure : Int), .int .u64 (c.seen : Int), .bool c.loose, .bool c.flushed, .int .u64 (c.value : Int), .bool c.again]
def store (v : Nat) (c : RW) : RW := { c with seen := v, loose := true, again := true }
def flush (c : RW) : RW := if c.loose then { c with flushed := true, value := c.seen, again := false } else c
def fence (c : RW) : RW := if c.flushed then ⟨c.value, c.seen, c.again, false, 0, c.again⟩ else c
def evict (c : RW) : RW := if c.loose then ⟨c.seen, c.seen, false, false, 0, false⟩ else c
def left (c : RW) (p : Nat) : Nat := if p % 3 = 2 then c.seen else if p % 3 = 1 ∧ c.flushed = true then c.value else c.sure
def all (v : Nat) : RW := ⟨v, v, false, false, 0, false⟩
def Small (c : RW) : Prop := c.sure < 18446744073709551616 ∧ c.seen < 18446744073709551616 ∧ c.value < 18446744073709551616
theorem left_small {c : RW} (h : c.Small) (p : Nat) : c.left p < 18446744073709551616 := by
  unfold left; split; exact h.2.1; split; exact h.2.2; exact h.1
end RW

def pm_flatR (ws : List RW) : List Value := ws.flatMap RW.vs
theorem flatR_len (ws : List RW) : (pm_flatR ws).length = 6 * ws.length := by
  induction ws with
  | nil => rfl
  | cons c ws ih => show (RW.vs c ++ pm_flatR ws).length = _; rw [List.length_append, ih, List.length_cons]; show 6 + _ = _; omega
theorem flatR_get : ∀ (ws : List RW) (k j : Nat) (c : RW), ws[k]? = some c → j < 6 → (pm_flatR ws)[k * 6 + j]? = c.vs[j]?
  | [], _, _, _, h, _ => by simp at h
  | c :: ws, 0, j, c', h, hj => by
    have h : some c = some c' := h
    cases h
    show (RW.vs c ++ pm_flatR ws)[0 * 6 + j]? = _
    rw [List.getElem?_append_left (by show 0 * 6 + j < 6; omega), Nat.zero_mul, Nat.zero_add]
  | c :: ws, k + 1, j, c', h, hj => by
    have h : ws[k]? = some c' := h
    show (RW.vs c ++ pm_flatR ws)[(k + 1) * 6 + j]? = _
    rw [List.getElem?_append_right (by show 6 ≤ _; omega), ← flatR_get ws k j c' h hj]
    congr 1
    show (k + 1) * 6 + j - 6 = _
    omega
theorem flatR_set : ∀ (ws : List RW) (k j : Nat) (c c' : RW) (v : Value), ws[k]? = some c → j < 6 → c.vs.set j v = c'.vs → (pm_flatR ws).set (k * 6 + j) v = pm_flatR (ws.set k c')
  | [], _, _, _, _, _, h, _, _ => by simp at h
  | c :: ws, 0, j, c0, c', v, h, hj, hv => by
    have h : some c = some c0 := h
    cases h
    show (RW.vs c ++ pm_flatR ws).set (0 * 6 + j) v = RW.vs c' ++ pm_flatR ws
    rw [Nat.zero_mul, Nat.zero_add, List.set_append_left _ _ (by show j < 6; omega), hv]
  | c :: ws, k + 1, j, c0, c', v, h, hj, hv => by
    have h : ws[k]? = some c0 := h
    show (RW.vs c ++ pm_flatR ws).set ((k + 1) * 6 + j) v = RW.vs c ++ pm_flatR (ws.set k c')
    rw [List.set_append_right _ _ (by show 6 ≤ _; omega), ← flatR_set ws k j c0 c' v h hj hv]
    congr 2
    show (k + 1) * 6 + j - 6 = _
    omega
theorem rmodify_set {f : RW → RW} {s : List RW} {k : Nat} {c : RW} (hc : s[k]? = some c) : s.modify k f = s.set k (f c) := by
  apply List.ext_getElem?
  intro i
  rw [List.getElem?_modify, List.getElem?_set]
  by_cases h : k = i
  · subst h
    obtain ⟨hl, he⟩ := List.getElem?_eq_some_iff.1 hc
    simp [hl, he]
  · simp [h]
def rturn (f : RW → RW) (a m : Nat) (ws : List RW) : List RW := (List.range m).foldl (fun s x => s.modify (a + x) f) ws
theorem rturn_succ (f : RW → RW) (a m : Nat) (ws : List RW) : rturn f a (m + 1) ws = (rturn f a m ws).modify (a + m) f := by
  unfold rturn; rw [List.range_succ, List.foldl_append]; rfl
theorem rturn_len (f : RW → RW) (a : Nat) (ws : List RW) : ∀ m, (rturn f a m ws).length = ws.length
  | 0 => rfl
  | m + 1 => by rw [rturn_succ, List.length_modify]; exact rturn_len f a ws m
theorem rturn_get (f : RW → RW) (a : Nat) (ws : List RW) (k : Nat) : ∀ m, (rturn f a m ws)[k]? = if a ≤ k ∧ k < a + m then (ws[k]?).map f else ws[k]?
  | 0 => by rw [if_neg (by omega)]; rfl
  | m + 1 => by
    rw [rturn_succ, List.getElem?_modify, rturn_get f a ws k m]
    by_cases h : a + m = k
    · subst h
      rw [if_neg (by omega), if_pos (by omega)]
      simp
    · rw [show (fun x : RW => if a + m = k then f x else x) = id from by funext x; rw [if_neg h]; rfl]
      by_cases h2 : a ≤ k ∧ k < a + m
      · rw [if_pos h2, if_pos (by omega)]; simp
      · rw [if_neg h2, if_neg (by omega)]; simp
theorem rturn_small {f : RW → RW} (hf : ∀ c, c.Small → (f c).Small) (a : Nat) (ws : List RW) (h : ∀ c ∈ ws, c.Small) : ∀ m, ∀ c ∈ rturn f a m ws, c.Small
  | m, c, hc => by
    obtain ⟨k, hk⟩ := List.getElem?_of_mem hc
    rw [rturn_get] at hk
    split at hk
    · cases e : ws[k]? with
      | none => rw [e] at hk; cases hk
      | some r => rw [e] at hk; cases hk; exact hf r (h r (List.mem_of_getElem? e))
    · exact h c (List.mem_of_getElem? hk)

def looseR (ws : List RW) : Nat := (ws.filter (·.loose)).length
theorem looseR_snoc (ws : List RW) (c : RW) : looseR (ws ++ [c]) = looseR ws + (if c.loose then 1 else 0) := by
  unfold looseR
  rw [List.filter_append, List.length_append]
  cases h : c.loose <;> simp [h]
theorem looseOf_snoc (ws : List PW) (c : PW) : looseOf (ws ++ [c]) = looseOf ws + (if c.loose then 1 else 0) := by
  unfold looseOf
  rw [List.filter_append, List.length_append]
  cases h : c.loose <;> simp [h]
theorem looseR_le (ws : List RW) : looseR ws ≤ ws.length := List.length_filter_le _ _
/-- A loss of power, word by word. -/
def lostV (ws : List RW) (ps : List Nat) (k : Nat) (r : RW) : Nat := if r.loose then r.left (ps.getD (looseR (ws.take k)) 0) else r.sure
def rcrash (ws : List RW) (ps : List Nat) (m : Nat) : List RW := (List.range m).foldl (fun s x => s.modify x (fun r => RW.all (lostV ws ps x r))) ws
theorem rcrash_succ (ws : List RW) (ps : List Nat) (m : Nat) : rcrash ws ps (m + 1) = (rcrash ws ps m).modify m (fun r => RW.all (lostV ws ps m r)) := by
  unfold rcrash; rw [List.range_succ, List.foldl_append]; rfl
theorem rcrash_len (ws : List RW) (ps : List Nat) : ∀ m, (rcrash ws ps m).length = ws.length
  | 0 => rfl
  | m + 1 => by rw [rcrash_succ, List.length_modify]; exact rcrash_len ws ps m
theorem rcrash_get (ws : List RW) (ps : List Nat) (k : Nat) : ∀ m, (rcrash ws ps m)[k]? = if k < m then (ws[k]?).map (fun r => RW.all (lostV ws ps k r)) else ws[k]?
  | 0 => by rw [if_neg (by omega)]; rfl
  | m + 1 => by
    rw [rcrash_succ, List.getElem?_modify, rcrash_get ws ps k m]
    by_cases h : m = k
    · subst h
      rw [if_neg (by omega), if_pos (by omega)]
      simp
    · rw [show (fun x : RW => if m = k then RW.all (lostV ws ps m x) else x) = id from by funext x; rw [if_neg h]; rfl]
      by_cases h2 : k < m
      · rw [if_pos h2, if_pos (by omega)]; simp
      · rw [if_neg h2, if_neg (by omega)]; simp
theorem lostV_small {ws : List RW} {ps : List Nat} {k : Nat} {r : RW} (h : r.Small) : lostV ws ps k r < 18446744073709551616 := by
  unfold lostV; split; exact RW.left_small h _; exact h.1
theorem rcrash_small (ws : List RW) (ps : List Nat) (h : ∀ c ∈ ws, c.Small) (m : Nat) : ∀ c ∈ rcrash ws ps m, c.Small := by
  intro c hc
  obtain ⟨k, hk⟩ := List.getElem?_of_mem hc
  rw [rcrash_get] at hk
  split at hk
  · cases e : ws[k]? with
    | none => rw [e] at hk; cases hk
    | some r => rw [e] at hk; cases hk; have := lostV_small (ws := ws) (ps := ps) (k := k) (h r (List.mem_of_getElem? e)); exact ⟨this, this, by show 0 < _; decide⟩
  · exact h c (List.mem_of_getElem? hk)

/-- A word of the program's, one of the document's: the same to whoever asks. -/
structure OkW (c : PW) (r : RW) : Prop where
  sure : c.sure = r.sure
  seen : c.seen = r.seen
  loose : c.loose = r.loose
  flushed : c.flushed = r.flushed
  kept : c.flushed = true → c.kept = r.value ∧ c.again = r.again
  firm : c.loose = false → c.seen = c.sure ∧ c.flushed = false
  last : c.flushed = true → c.again = false → c.kept = c.seen
theorem OkW.nought : OkW PW.nought RW.nought := ⟨rfl, rfl, rfl, rfl, fun h => (by cases h), fun _ => ⟨rfl, rfl⟩, fun h => (by cases h)⟩
theorem OkW.store {c : PW} {r : RW} (h : OkW c r) (v : Nat) : OkW (c.store v) (r.store v) :=
  ⟨h.sure, rfl, rfl, h.flushed, fun e => ⟨(h.kept e).1, e⟩, fun e => (by cases e), fun e e2 => (by
    have e : c.flushed = true := e
    have e2 : c.flushed = false := e2
    rw [e] at e2; cases e2)⟩
theorem OkW.flush {c : PW} {r : RW} (h : OkW c r) : OkW c.flush r.flush := by
  unfold PW.flush RW.flush
  rw [h.loose]
  cases hl : r.loose with
  | false => simpa using h
  | true =>
    rw [if_pos rfl, if_pos rfl]
    exact ⟨h.sure, h.seen, rfl, rfl, fun _ => ⟨h.seen, rfl⟩, fun e => (by cases e), fun _ _ => rfl⟩
theorem OkW.fence {c : PW} {r : RW} (h : OkW c r) : OkW c.fence r.fence := by
  unfold PW.fence RW.fence
  rw [h.flushed]
  cases hl : r.flushed with
  | false => simpa using h
  | true =>
    have hf : c.flushed = true := by rw [h.flushed, hl]
    obtain ⟨k1, k2⟩ := h.kept hf
    exact ⟨k1, h.seen, k2, rfl, fun e => (by cases e), fun e => ⟨(h.last hf e).symm, rfl⟩, fun e => (by cases e)⟩
theorem OkW.evict {c : PW} {r : RW} (h : OkW c r) : OkW c.evict r.evict := by
  unfold PW.evict RW.evict
  rw [h.loose]
  cases hl : r.loose with
  | false => simpa using h
  | true => exact ⟨h.seen, h.seen, rfl, rfl, fun e => (by cases e), fun _ => ⟨rfl, rfl⟩, fun e => (by cases e)⟩
theorem OkW.left {c : PW} {r : RW} (h : OkW c r) (p : Nat) : c.left p = r.left p := by
  unfold PW.left RW.left
  rw [h.seen, h.sure, h.flushed]
  split
  · rfl
  · split
    · rename_i hx; exact (h.kept (by rw [h.flushed]; exact hx.2)).1
    · rfl
theorem okW_all {v u : Nat} (h : v = u) : OkW ⟨v, v, false, false, false, 0⟩ (RW.all u) := by
  subst h; exact ⟨rfl, rfl, rfl, rfl, fun e => (by cases e), fun _ => ⟨rfl, rfl⟩, fun e => (by cases e)⟩

structure Rel (ws : List PW) (rs : List RW) : Prop where
  len : ws.length = rs.length
  ok : ∀ (k : Nat) (c : PW) (r : RW), ws[k]? = some c → rs[k]? = some r → OkW c r
theorem Rel.turn {f : PW → PW} {g : RW → RW} (hfg : ∀ c r, OkW c r → OkW (f c) (g r)) {ws : List PW} {rs : List RW} (h : Rel ws rs) (a m : Nat) : Rel (turnFrom f a m ws) (rturn g a m rs) := by
  refine ⟨by rw [turnFrom_len, rturn_len]; exact h.len, fun k c r hc hr => ?_⟩
  rw [turnFrom_get] at hc
  rw [rturn_get] at hr
  by_cases hk : a ≤ k ∧ k < a + m
  · rw [if_pos hk] at hc hr
    cases e1 : ws[k]? with
    | none => rw [e1] at hc; cases hc
    | some c0 =>
      cases e2 : rs[k]? with
      | none => rw [e2] at hr; cases hr
      | some r0 => rw [e1] at hc; rw [e2] at hr; cases hc; cases hr; exact hfg _ _ (h.ok k c0 r0 e1 e2)
  · rw [if_neg hk] at hc hr; exact h.ok k c r hc hr
theorem Rel.map {f : PW → PW} {g : RW → RW} (hfg : ∀ c r, OkW c r → OkW (f c) (g r)) {ws : List PW} {rs : List RW} (h : Rel ws rs) (m : Nat) (hm : rs.length ≤ m) : Rel (ws.map f) (rturn g 0 m rs) := by
  have := h.turn hfg 0 m
  rwa [turnFrom_all f ws m (by rw [h.len]; exact hm)] at this
theorem Rel.modify {f : PW → PW} {g : RW → RW} (hfg : ∀ c r, OkW c r → OkW (f c) (g r)) {ws : List PW} {rs : List RW} (h : Rel ws rs) (a : Nat) : Rel (ws.modify a f) (rs.modify a g) := by
  have := h.turn hfg a 1
  rwa [turnFrom_succ, rturn_succ] at this
theorem Rel.loose {ws : List PW} {rs : List RW} (h : Rel ws rs) : ∀ k, looseOf (ws.take k) = looseR (rs.take k)
  | 0 => by simp [looseOf, looseR]
  | k + 1 => by
    cases e1 : ws[k]? with
    | none =>
      have hl : ws.length ≤ k := List.getElem?_eq_none_iff.1 e1
      have := h.loose k
      rw [List.take_of_length_le hl, List.take_of_length_le (by rw [← h.len]; exact hl)] at this
      rw [List.take_of_length_le (by omega), List.take_of_length_le (by rw [← h.len]; omega)]
      exact this
    | some c =>
      have hl := (List.getElem?_eq_some_iff.1 e1).1
      have hl2 : k < rs.length := by rw [← h.len]; exact hl
      have e2 : rs[k]? = some rs[k] := List.getElem?_eq_getElem hl2
      have ec : ws[k] = c := (List.getElem?_eq_some_iff.1 e1).2
      rw [List.take_succ_eq_append_getElem hl, List.take_succ_eq_append_getElem hl2, looseOf_snoc, looseR_snoc, h.loose k, ec, (h.ok k c _ e1 e2).loose]
theorem Rel.same {α : Type} {p : PW → α} {q : RW → α} (hpq : ∀ c r, OkW c r → p c = q r) {ws : List PW} {rs : List RW} (h : Rel ws rs) : ws.map p = rs.map q := by
  apply List.ext_getElem?
  intro k
  rw [List.getElem?_map, List.getElem?_map]
  cases e1 : ws[k]? with
  | none => rw [List.getElem?_eq_none (by have := List.getElem?_eq_none_iff.1 e1; have := h.len; omega)]; rfl
  | some c =>
    have hl := (List.getElem?_eq_some_iff.1 e1).1
    have hl3 : k < rs.length := by rw [← h.len]; exact hl
    have e2 : rs[k]? = some rs[k] := List.getElem?_eq_getElem hl3
    rw [e2]
    exact congrArg some (hpq _ _ (h.ok k c _ e1 e2))
theorem crash_get : ∀ (ws : List PW) (ps : List Nat) (k : Nat), (crash ws ps)[k]? = (ws[k]?).map (fun c => if c.loose then c.lose (ps.getD (looseOf (ws.take k)) 0) else c)
  | [], _, _ => by simp [crash]
  | c :: cs, ps, 0 => by
    unfold crash
    cases h : c.loose with
    | false => simp [h]
    | true => cases ps <;> simp [h, looseOf]
  | c :: cs, ps, k + 1 => by
    unfold crash
    cases h : c.loose with
    | false =>
      simp only [Bool.false_eq_true, if_false, List.getElem?_cons_succ, List.take_succ_cons]
      rw [crash_get cs ps k, show looseOf (c :: cs.take k) = looseOf (cs.take k) from by simp [looseOf, h]]
    | true =>
      simp only [if_true, List.getElem?_cons_succ, List.take_succ_cons]
      rw [crash_get cs ps.tail k, show looseOf (c :: cs.take k) = looseOf (cs.take k) + 1 from by simp [looseOf, h]]
      congr 1
      funext c'
      cases ps <;> simp
theorem Rel.crash {ws : List PW} {rs : List RW} (h : Rel ws rs) (ps : List Nat) (m : Nat) (hm : m = rs.length) : Rel (Go.Grommet.crash ws ps) (rcrash rs ps m) := by
  refine ⟨by rw [crash_len, rcrash_len]; exact h.len, fun k c r hc hr => ?_⟩
  rw [crash_get] at hc
  rw [rcrash_get] at hr
  cases e1 : ws[k]? with
  | none => rw [e1] at hc; cases hc
  | some c0 =>
    have hl := (List.getElem?_eq_some_iff.1 e1).1
    rw [if_pos (by rw [hm, ← h.len]; exact hl)] at hr
    cases e2 : rs[k]? with
    | none => rw [e2] at hr; cases hr
    | some r0 =>
      rw [e1] at hc
      rw [e2] at hr
      cases hc
      cases hr
      have hok := h.ok k c0 r0 e1 e2
      unfold lostV
      dsimp only
      rw [hok.loose, h.loose k]
      cases hlo : r0.loose with
      | true =>
        simp only [if_true]
        exact okW_all (hok.left _)
      | false =>
        simp only [Bool.false_eq_true, if_false]
        obtain ⟨f1, f2⟩ := hok.firm (by rw [hok.loose, hlo])
        exact ⟨hok.sure, by rw [f1]; exact hok.sure, by rw [hok.loose, hlo]; rfl, f2, fun e => (by rw [f2] at e; cases e), fun _ => ⟨f1, f2⟩, fun e => (by rw [f2] at e; cases e)⟩
end Go.Grommet
end
