import Derived.Laws.CopyOwn
import Derived.OpenShut
import Derived.Maps.OwnSet
import Derived.IntWalk
import Derived.Test.YtfljlmmiiccooaaGreatDoorPk9
import Derived.Test.YtfljlmmiiccooaaGreatDoorPk11
section
namespace Go.Grommet
open Go.RowKit
theorem wpList_make_whole {P : Program} (w : World) {ops : Array Oper} {rest : List Oper} {o : Oper} {a : Act} {Q : Exit → Act → World → Prop}
  (hg : o.guard = none) (l c : Operand) (t : TypeId) (hop : o.op = Op.makeSlice t l c)
  (e : TypeId) (i : TypeInfo) (z : Value) (h1 : P.underlying t = some (.slice e)) (h2 : P.info? e = some i) (h3 : i.zero = some z) (h4 : i.size = 1)
  (kl kc : IntKind) (C : Int) (n : Nat) (hl : a.eval l = .int kl C) (hc : a.eval c = .int kc C) (hC : C = (n : Int)) (b2 : i.bytes * n ≤ 281474976710656) (b3 : n ≤ maxLen)
  (hK : ∀ w', w'.heap[w.heap.size]? = some (.cells (madeCells z.cells n) e (0, 0)) → w.grownBy w' none → wpList P ops Q rest (a.put o.dst (.slice (some ⟨w.heap.size, 0, none⟩) n n)) w') :
  wpList P ops Q (o :: rest) a w := by
 refine wpList_plain hg fun K hK' => ?_
 subst hC
 have b3' : (n : Int) ≤ 9223372036854775807 := by unfold maxLen at b3; omega
 have hrun := run_make (P := P) w t e i z h1 h2 h3 kl kc n n (by omega) (by omega) (by rw [← Int.natCast_mul]; exact Int.ofNat_le.2 b2) b3'
 rw [h4, Nat.mul_one] at hrun
 unfold Oper.wp
 simp [execOp, hop, hl, hc, hrun, Result.andThen]
 exact hK' _ _ (hK _ (heap_alloc_new w _) (World.grownBy_alloc w _ none))
theorem row_set {w : World} {g e : Nat} {xs : List Value} (h : w.heap[g]? = some (.cells xs.toArray e (0, 0))) (o : Nat) (v : Value) : (w.setCell ⟨g, o, none⟩ v).heap[g]? = some (.cells (xs.set o v).toArray e (0, 0)) := by
 have := heap_setCell_at (o := o) h v
 simpa using this
theorem row_cell {w : World} {g e : Nat} {xs : List Value} (h : w.heap[g]? = some (.cells xs.toArray e (0, 0))) (o : Nat) (v : Value) (hv : xs[o]? = some v) : w.cell? ⟨g, o, none⟩ = some v := by
 simp [World.cell?, h, hv]
theorem row_free {w : World} {g e : Nat} {xs : List Value} (h : w.heap[g]? = some (.cells xs.toArray e (0, 0))) (o : Nat) : w.frozen? ⟨g, o, none⟩ = false := by
 simp [World.frozen?, h]
def wv (n : Nat) : Value := .int .u64 (n : Int)
theorem wv_oneCell (xs : List Nat) : ∀ u ∈ xs.map wv, u.oneCell' = true := by
 intro u hu
 obtain ⟨_, _, rfl⟩ := List.mem_map.1 hu
 rfl
structure Words (w : World) (ad : Option Addr) (l : Nat) (xs : List Nat) : Prop where
 len : xs.length = l
 small : ∀ n ∈ xs, n < 18446744073709551616
 at_ : At w ad (xs.map wv)
 fits : l ≤ 140737488351232
theorem Words.keep {w w' : World} {ad : Option Addr} {l : Nat} {xs : List Nat} {row : Option Nat} (h : Words w ad l xs) (hg : w.grownBy w' row) (hne : ∀ a, ad = some a → xs ≠ [] → some a.block ≠ row) : Words w' ad l xs :=
 ⟨h.len, h.small, h.at_.grown hg (fun a ha hx => hne a ha (by intro e; rw [e] at hx; exact hx rfl)), h.fits⟩
theorem Words.cell {w : World} {ad : Option Addr} {l : Nat} {xs : List Nat} (h : Words w ad l xs) (k : Nat) (hk : k < l) :
  ∃ q o, ad = some ⟨q, o, none⟩ ∧ w.cell? ⟨q, o + k, none⟩ = some (.int .u64 ((xs.getD k 0 : Nat) : Int)) := by
 have hk' : k < xs.length := by rw [h.len]; exact hk
 obtain ⟨q, o, he, hc⟩ := h.at_ k (wv (xs.getD k 0)) (by simp [hk'])
 exact ⟨q, o, he, hc⟩
theorem Words.get {w : World} {ad : Option Addr} {l : Nat} {xs : List Nat} (h : Words w ad l xs) (k : Nat) (hk : k < l) : xs.getD k 0 < 18446744073709551616 := by
 have hk' : k < xs.length := by rw [h.len]; exact hk
 exact h.small _ (by simp [hk'])
theorem Words.nil (w : World) : Words w none 0 [] := ⟨rfl, by simp, At.nil _ _, by decide⟩
theorem old_block {w : World} {ad : Option Addr} {xs : List Value} (h : At w ad xs) (hne : xs ≠ []) : ∀ a, ad = some a → a.block < w.heap.size := by
 intro a ha
 obtain ⟨x, hx⟩ : ∃ x, xs[0]? = some x := by
  cases xs with
  | nil => exact absurd rfl hne
  | cons y t => exact ⟨y, rfl⟩
 obtain ⟨g, o, he, hc⟩ := h 0 x hx
 rw [he] at ha
 cases ha
 exact World.block_lt_of_cell? w _ hc
theorem Words.old {w : World} {ad : Option Addr} {l : Nat} {xs : List Nat} (h : Words w ad l xs) (hx : xs ≠ []) : ∀ a, ad = some a → a.block < w.heap.size :=
 old_block h.at_ (by intro e; exact hx (List.map_eq_nil_iff.1 e))
end Go.Grommet
end
section
namespace Go.Grommet
open Go.RowKit
structure Turn (F : Nat → Prop) (w w' : World) : Prop where
 os : w'.os = w.os
 tape : w'.tape = w.tape
 output : w'.output = w.output
 size : w.heap.size ≤ w'.heap.size
 block : ∀ k, k < w.heap.size → ¬ F k → w'.heap[k]? = w.heap[k]?
theorem Turn.refl (F : Nat → Prop) (w : World) : Turn F w w := ⟨rfl, rfl, rfl, Nat.le_refl _, fun _ _ _ => rfl⟩
theorem Turn.trans {F G : Nat → Prop} {a b c : World} (h : Turn F a b) (k : Turn G b c) (hG : ∀ i, G i → F i ∨ a.heap.size ≤ i) : Turn F a c :=
 ⟨k.os.trans h.os, k.tape.trans h.tape, k.output.trans h.output, Nat.le_trans h.size k.size, fun i hi hn =>
  (k.block i (Nat.lt_of_lt_of_le hi h.size) (fun e => by rcases hG i e with x | x; exact hn x; omega)).trans (h.block i hi hn)⟩
theorem Turn.of {F : Nat → Prop} {a b : World} {row : Option Nat} (h : a.grownBy b row) (hr : ∀ i, row = some i → F i) : Turn F a b :=
 ⟨h.os, h.tape, h.output, h.size, fun i hi hn => h.block i hi (fun e => hn (hr i e.symm))⟩
theorem Turn.grown {F : Nat → Prop} {a b c : World} {row : Option Nat} (h : Turn F a b) (k : b.grownBy c row) (hr : ∀ i, row = some i → F i ∨ a.heap.size ≤ i) : Turn F a c :=
 h.trans (Turn.of (F := fun i => row = some i) k (fun _ e => e)) hr
theorem Turn.mono {F G : Nat → Prop} {a b : World} (h : Turn F a b) (hG : ∀ i, F i → G i ∨ a.heap.size ≤ i) : Turn G a b :=
 ⟨h.os, h.tape, h.output, h.size, fun i hi hn => h.block i hi (fun e => by rcases hG i e with x | x; exact hn x; omega)⟩
theorem Turn.none {F : Nat → Prop} {a b : World} (h : Turn F a b) (hF : ∀ i, F i → a.heap.size ≤ i) : a.grownBy b none :=
 ⟨h.os, h.tape, h.output, h.size, fun i hi _ => h.block i hi (fun e => by have := hF i e; omega)⟩
theorem grown_turn {F : Nat → Prop} {a b c : World} (h : a.grownBy b none) (k : Turn F b c) (hF : ∀ i, F i → a.heap.size ≤ i) : a.grownBy c none :=
 ((Turn.of (F := F) h (fun _ e => by cases e)).trans k (fun _ e => .inl e)).none hF
theorem Turn.obj {F : Nat → Prop} {w w' : World} {g : Nat} {o : Obj} (ht : Turn F w w') (h : w.heap[g]? = some o) (hn : ¬ F g) : w'.heap[g]? = some o :=
 (ht.block g (Array.getElem?_eq_some_iff.1 h).1 hn).trans h
theorem Turn.at {F : Nat → Prop} {w w' : World} {ad : Option Addr} {xs : List Value} (ht : Turn F w w') (h : At w ad xs) (hn : ∀ a, ad = some a → xs ≠ [] → ¬ F a.block) : At w' ad xs := by
 intro j u hu
 obtain ⟨g, o, ha, hc⟩ := h j u hu
 have hne : xs ≠ [] := by intro e; rw [e] at hu; simp at hu
 refine ⟨g, o, ha, (World.cell?_of_block ?_).trans hc⟩
 exact ht.block g (World.block_lt_of_cell? w _ hc) (hn _ ha hne)
theorem Turn.words {F : Nat → Prop} {w w' : World} {ad : Option Addr} {l : Nat} {xs : List Nat} (ht : Turn F w w') (h : Words w ad l xs) (hn : ∀ a, ad = some a → xs ≠ [] → ¬ F a.block) : Words w' ad l xs :=
 ⟨h.len, h.small, ht.at h.at_ (fun a ha hx => hn a ha (fun e => hx (by rw [e]; rfl))), h.fits⟩
theorem Turn.row {F : Nat → Prop} {w w' : World} {base e size : Nat} {v : Value} {n : Nat} {xs : List Value} (ht : Turn F w w') (h : w.ownsRow base e size v n xs) (hn : ∀ g, v.ownBlock = some g → ¬ F g) : w'.ownsRow base e size v n xs := by
 refine ⟨h.1, ?_⟩
 rcases h.2 with h | ⟨g, cap, cur, rfl, hb, hg, r⟩
 ·exact .inl h
 ·exact .inr ⟨g, cap, cur, rfl, hb, ht.obj hg (hn g rfl), r⟩
theorem Turn.map {H : Type} {P : Program} {k : TypeId} {R : Value → Option (DataW H × List MemPlace)} {b n : Nat} {D : DataW H} {F : Nat → Prop} {w w' : World} (ht : Turn F w w') (h : w.ownsMap P k R b n D) (hn : ¬ F b) : w'.ownsMap P k R b n D := by
 obtain ⟨es, clock, hb, r⟩ := h
 exact ⟨es, clock, ht.obj hb hn, r⟩
theorem row_old {w : World} {base e size n : Nat} {v : Value} {xs : List Value} (h : w.ownsRow base e size v n xs) : ∀ g, v.ownBlock = some g → g < w.heap.size := by
 intro g hg
 rcases h.2 with h | ⟨g', cap, cur, rfl, hb, hg', r⟩
 ·rw [h.1] at hg; cases hg
 ·cases hg; exact (Array.getElem?_eq_some_iff.1 hg').1
theorem row_type {w : World} {base e size n : Nat} {v : Value} {xs : List Value} (h : w.ownsRow base e size v n xs) : ∀ g, v.ownBlock = some g → ∃ cur, w.heap[g]? = some (.cells cur e (0, 0)) := by
 intro g hg
 rcases h.2 with h | ⟨g', cap, cur, rfl, hb, hg', r⟩
 ·rw [h.1] at hg; cases hg
 ·cases hg; exact ⟨cur, hg'⟩
theorem row_base {w : World} {base base' e size n : Nat} {v : Value} {xs : List Value} (h : w.ownsRow base e size v n xs) (hb : ∀ g, v.ownBlock = some g → base' ≤ g) : w.ownsRow base' e size v n xs := by
 refine ⟨h.1, ?_⟩
 rcases h.2 with h | ⟨g', cap, cur, rfl, _, r⟩
 ·exact .inl h
 ·exact .inr ⟨g', cap, cur, rfl, hb g' rfl, r⟩
theorem row_slice {w : World} {base e size n : Nat} {v : Value} {xs : List Value} (h : w.ownsRow base e size v n xs) :
  ∃ ad cap, v = .slice ad n cap ∧ At w ad xs ∧ (ad = none → n = 0 ∧ cap = 0) ∧ n ≤ cap := by
 obtain ⟨hl, h | ⟨g, cap, cur, rfl, _, hh, hn, hm, hc, htk⟩⟩ := h
 ·obtain ⟨rfl, rfl⟩ := h
  refine ⟨none, 0, rfl, ?_, fun _ => ⟨rfl, rfl⟩, Nat.le_refl _⟩
  obtain rfl := List.eq_nil_of_length_eq_zero (l := xs) (by simpa using hl)
  exact At.nil _ _
 ·refine ⟨some ⟨g, 0, none⟩, cap, rfl, ?_, by simp, hn⟩
  intro j u hu
  refine ⟨g, 0, rfl, ?_⟩
  rw [← htk] at hu
  rw [Nat.zero_add, World.cell?]
  have hj : j < n * size ∧ j < cur.size := by
   have := (List.getElem?_eq_some_iff.1 hu).1
   rw [List.length_take, Array.length_toList] at this
   omega
  rw [List.getElem?_take, if_pos hj.1, Array.getElem?_toList] at hu
  simp [hh, hu]
theorem slice_to {P : Program} (T e : TypeId) (hT : P.underlying T = some (.slice e)) (sz : Nat) (hsz : ∀ w, (sizeOf e).run P w = .ok sz w) (ad : Option Addr) (len cap k : Nat) (h : k ≤ cap) (hz : ∀ a, ad = some a → a = ⟨a.block, 0, none⟩) (w : World) :
  (Instr.slice T (.slice ad len cap) none (some (.int .i64 (k : Int))) none).run P w = .ok (.slice ad k cap) w := by
 have he : P.elem T = e := by simp [Program.elem, hT]
 have ht : P.underlying T = some (.slice (P.elem T)) := by rw [he]; exact hT
 rw [run_slice_h (a := ad) (ht := ht) (h0 := by omega) (h2 := by omega), he, hsz]
 simp only [Result.andThen, sliced, Int.toNat_natCast, Nat.sub_zero, Nat.zero_mul]
 split
 ·rfl
 ·cases ad with
  | none => rfl
  | some a =>
   rw [hz a rfl]
   simp [Addr.add_lit]
theorem equalIn_slice_nil {P : Program} (w : World) (d : Nat) (t e : TypeId) (a : Option Addr) (l c : Nat) (h : P.underlying t = some (.slice e)) : (Op.equalIn (d + 1) t (.slice a l c) (.slice none 0 0)).run P w = .ok a.isNone w := by
 cases a <;> simp [Op.equalIn, run_underlying h]
theorem equal_slice_nil {P : Program} (w : World) (t e : TypeId) (a : Option Addr) (l c : Nat) (h : P.underlying t = some (.slice e)) : (Op.equal t (.slice a l c) (.slice none 0 0)).run P w = .ok a.isNone w := equalIn_slice_nil w 9999 t e a l c h
theorem eql_slice_nil {P : Program} (w : World) (t e : TypeId) (a : Option Addr) (l c : Nat) (h : P.underlying t = some (.slice e)) : (binOp .eql t (.slice a l c) (.slice none 0 0)).run P w = .ok (.bool a.isNone) w := by
 simp [binOp, equal_slice_nil w t e a l c h]
end Go.Grommet
end
section
namespace Go.Grommet
open Go.RowKit
theorem run_append_blk {P : Program} (w : World) (base : Nat) (t ty e : TypeId) (i : TypeInfo) (z : Value) (size bytes : Nat) (ht : P.underlying t = some (.slice e)) (hi : P.info? e = some i) (hz : i.zero = some z)
  (hsize : i.size = size) (hby : i.bytes = bytes) (hzs : z.cells.size = size) (hsz : 0 < size)
  (v : Value) (n : Nat) (xs : List Value) (hown : w.ownsRow base e size v n xs)
  (a : Addr) (m c : Nat) (news : List Value) (hl : news.length = m * size) (hnews : ∀ j u, news[j]? = some u → w.cell? (a.add j) = some u) (h1 : ∀ u ∈ news, u.oneCell' = true)
  (h63 : n + m ≤ maxLen) (hbytes : (n + m) * bytes ≤ 140737488355328) (hbase : base ≤ w.heap.size) :
  ∃ v' w', (Builtin.append_ #[t, t] ty #[v, .slice (some a) m c]).run P w = .ok v' w' ∧ w'.ownsRow base e size v' (n + m) (xs ++ news) ∧ w.grownBy w' v.ownBlock ∧
   (∀ g, v'.ownBlock = some g → v.ownBlock = some g ∨ w.heap.size ≤ g) := by
 obtain ⟨v', w', hr, h2, h3, h4⟩ := run_append_own (P := P) w base t ty e i z size bytes ht hi hz hsize hby hzs hsz v n xs hown a m c news hl hnews h1 h63 hbytes hbase
 refine ⟨v', w', hr, h2, h3, ?_⟩
 subst hsize
 subst hby
 rcases hown.2 with ⟨rfl, rfl⟩ | ⟨g, cap, cur, rfl, hbg, hg, hnc, hcm, hcs, htake⟩
 ·by_cases hm : m = 0
  ·rw [(h4).2 ⟨rfl, hm⟩]
   intro g hg; cases hg
  ·have hr' := run_append_nil (P := P) w t ty e i z ht hi hz a m c news hl hnews (by omega) (by simp only [maxLen] at h63; omega) (by have hb := hbytes; simp only [Nat.zero_add] at hb; omega)
   rw [hr'] at hr
   injection hr with hr _
   subst hr
   intro g hg; cases hg; exact .inr (Nat.le_refl _)
 ·by_cases hroom : n + m ≤ cap
  ·have hfit : n * i.size + news.length ≤ cur.size := by rw [hl, hcs, ← Nat.add_mul]; exact Nat.mul_le_mul_right _ hroom
   have hr' := run_append_room (P := P) w t ty e i ht hi g n cap cur hg a m c news hl hnews h1 hroom hfit
   rw [hr'] at hr
   injection hr with hr _
   subst hr
   intro g hg; exact .inl hg
  ·have holds : ∀ j u, xs[j]? = some u → w.cell? ((⟨g, 0, none⟩ : Addr).add j) = some u := hown.cells (g := g) rfl
   have hr' := run_append_grow (P := P) w t ty e i z ht hi hz ⟨g, 0, none⟩ n cap xs hown.1 holds a m c news hl hnews (by omega) (by simp only [maxLen] at h63; omega) (growslice_fits (by omega) hbytes)
   rw [hr'] at hr
   injection hr with hr _
   subst hr
   intro g hg; cases hg; exact .inr (Nat.le_refl _)
theorem wpList_append_blk {P : Program} (w : World) {ops : Array Oper} {rest : List Oper} {o : Oper} {a : Act} {Q : Exit → Act → World → Prop} (hgd : o.guard = none) (s x : Operand) (t : TypeId)
  (ho : o.op = .call { callee := .builtin .append, args := #[s, x], argTypes := #[t, t] })
  (base : Nat) (e : TypeId) (i : TypeInfo) (z : Value) (size bytes : Nat) (ht : P.underlying t = some (.slice e)) (hi : P.info? e = some i) (hz : i.zero = some z)
  (hsize : i.size = size) (hby : i.bytes = bytes) (hzs : z.cells.size = size) (hsz : 0 < size)
  (v : Value) (n : Nat) (xs : List Value) (hs : a.eval s = v) (hown : w.ownsRow base e size v n xs)
  (ad : Addr) (m c : Nat) (news : List Value) (hx : a.eval x = .slice (some ad) m c) (hl : news.length = m * size) (hnews : ∀ j u, news[j]? = some u → w.cell? (ad.add j) = some u) (h1 : ∀ u ∈ news, u.oneCell' = true)
  (h63 : n + m ≤ maxLen) (hbytes : (n + m) * bytes ≤ 140737488355328) (hbase : base ≤ w.heap.size)
  (h : ∀ ad' cap' w', w'.ownsRow base e size (.slice ad' (n + m) cap') (n + m) (xs ++ news) → w.grownBy w' v.ownBlock → (∀ g, (Value.slice ad' (n + m) cap').ownBlock = some g → v.ownBlock = some g ∨ w.heap.size ≤ g) → wpList P ops Q rest (a.put o.dst (.slice ad' (n + m) cap')) w') : wpList P ops Q (o :: rest) a w := by
 refine wpList_plain hgd fun K hK => ?_
 obtain ⟨v', w', hr, h2, h3, h4⟩ := run_append_blk (P := P) w base t o.type e i z size bytes ht hi hz hsize hby hzs hsz v n xs hown ad m c news hl hnews h1 h63 hbytes hbase
 obtain ⟨ad', cap', rfl, _⟩ := row_slice h2
 unfold Oper.wp execOp
 simp only [ho, resolve, invoke, builtin, Sem.run_bind, Sem.run_pure, Result.andThen_ok, List.map_toArray, List.map_cons, List.map_nil, hs, hx, hr]
 exact hK _ _ (h ad' cap' w' h2 h3 h4)
end Go.Grommet
end
section
namespace Go.Grommet
open Go.RowKit
structure Pr where
 holds : World → (Nat → Prop) → Prop
 turn : ∀ {w w' : World} {F H : Nat → Prop}, holds w F → Turn H w w' → (∀ i, F i → ¬ H i) → holds w' F
 old : ∀ {w : World} {F : Nat → Prop}, holds w F → ∀ i, F i → i < w.heap.size
def Own (w0 w : World) (Ps : List Pr) : Prop :=
 ∃ Fs : Nat → Nat → Prop, (∀ (k : Nat) (P : Pr), Ps[k]? = some P → P.holds w (Fs k)) ∧ (∀ j k, j < Ps.length → k < Ps.length → j ≠ k → ∀ i, Fs j i → ¬ Fs k i) ∧ (∀ k, k < Ps.length → ∀ i, Fs k i → w0.heap.size ≤ i) ∧ w0.grownBy w none
def upd (Fs : Nat → Nat → Prop) (k : Nat) (F : Nat → Prop) (j : Nat) : Nat → Prop := if j = k then F else Fs j
theorem upd_same (Fs : Nat → Nat → Prop) (k : Nat) (F : Nat → Prop) : upd Fs k F k = F := by unfold upd; rw [if_pos rfl]
theorem upd_ne (Fs : Nat → Nat → Prop) {k j : Nat} (F : Nat → Prop) (h : j ≠ k) : upd Fs k F j = Fs j := by unfold upd; rw [if_neg h]
def DoesP (F : Nat → Prop) (w w' : World) (P : Pr) : Prop := ∃ F', P.holds w' F' ∧ (∀ i, F' i → F i ∨ w.heap.size ≤ i) ∧ Turn F w w'
theorem Own.nil (w : World) : Own w w [] := ⟨fun _ _ => False, fun k P h => by simp at h, fun _ _ _ _ _ _ h => h.elim, fun _ _ _ h => h.elim, World.grownBy.refl _ _⟩
theorem Own.grown {w0 w : World} {Ps : List Pr} (h : Own w0 w Ps) : w0.grownBy w none := by obtain ⟨_, _, _, _, hg⟩ := h; exact hg
theorem Own.get {w0 w : World} {Ps : List Pr} (h : Own w0 w Ps) (k : Nat) {P : Pr} (hk : Ps[k]? = some P) : ∃ F, P.holds w F := by
 obtain ⟨Fs, h1, _⟩ := h
 exact ⟨Fs k, h1 k P hk⟩
theorem Own.quiet {w0 w w' : World} {Ps : List Pr} (h : Own w0 w Ps) (hg : w.grownBy w' none) : Own w0 w' Ps := by
 obtain ⟨Fs, h1, h2, h3, h4⟩ := h
 exact ⟨Fs, fun k P hk => P.turn (h1 k P hk) (Turn.of (F := fun _ => False) hg (fun _ e => by cases e)) (fun _ _ e => e), h2, h3, grown_trans h4 hg⟩
theorem Own.take {w0 w : World} {Ps : List Pr} (h : Own w0 w Ps) (k : Nat) {P : Pr} (hk : Ps[k]? = some P) :
  ∃ F, P.holds w F ∧ ∀ w' P', DoesP F w w' P' → Own w0 w' (Ps.set k P') := by
 obtain ⟨Fs, h1, h2, h3, h4⟩ := h
 refine ⟨Fs k, h1 k P hk, ?_⟩
 rintro w' P' ⟨F', d1, d2, d3⟩
 have hkl : k < Ps.length := (List.getElem?_eq_some_iff.1 hk).1
 have hin : ∀ i, Fs k i → w0.heap.size ≤ i := h3 k hkl
 refine ⟨upd Fs k F', ?_, ?_, ?_, grown_turn h4 d3 hin⟩
 ·intro j Q hQ
  by_cases hj : j = k
  ·subst hj
   rw [upd_same]
   rw [List.getElem?_set_self hkl] at hQ
   cases hQ
   exact d1
  ·rw [upd_ne _ _ hj]
   rw [List.getElem?_set_ne (fun e => hj e.symm)] at hQ
   exact Q.turn (h1 j Q hQ) d3 (h2 j k (List.getElem?_eq_some_iff.1 hQ).1 hkl hj)
 ·intro j l hj hl hne i hi
  rw [List.length_set] at hj hl
  have oldOf : ∀ m, m < Ps.length → ∀ i, Fs m i → i < w.heap.size := fun m hm i hi => (Ps[m]).old (h1 m _ (by simp [hm])) i hi
  by_cases hjk : j = k
  ·subst hjk
   rw [upd_same] at hi
   rw [upd_ne _ _ (fun e => hne e.symm)]
   rcases d2 i hi with e | e
   ·exact h2 _ l hj hl hne i e
   ·intro hl'; have := oldOf l hl i hl'; omega
  ·rw [upd_ne _ _ hjk] at hi
   by_cases hlk : l = k
   ·subst hlk
    rw [upd_same]
    intro hF
    rcases d2 i hF with e | e
    ·exact h2 j _ hj hl hne i hi e
    ·have := oldOf j hj i hi; omega
   ·rw [upd_ne _ _ hlk]; exact h2 j l hj hl hne i hi
 ·intro j hj i hi
  rw [List.length_set] at hj
  by_cases hjk : j = k
  ·subst hjk
   rw [upd_same] at hi
   rcases d2 i hi with e | e
   ·exact hin i e
   ·exact Nat.le_trans h4.size e
  ·rw [upd_ne _ _ hjk] at hi; exact h3 j hj i hi
theorem Own.add {w0 w w' : World} {Ps : List Pr} (h : Own w0 w Ps) {P : Pr} {F : Nat → Prop} (hP : P.holds w' F) (hF : ∀ i, F i → w.heap.size ≤ i) (hg : w.grownBy w' none) : Own w0 w' (Ps ++ [P]) := by
 have hq := h.quiet hg
 obtain ⟨Fs, h1, h2, h3, h4⟩ := h
 have oldOf : ∀ m, m < Ps.length → ∀ i, Fs m i → i < w.heap.size := fun m hm i hi => (Ps[m]).old (h1 m _ (by simp [hm])) i hi
 refine ⟨upd Fs Ps.length F, ?_, ?_, ?_, hq.grown⟩
 ·intro j Q hQ
  by_cases hj : j = Ps.length
  ·subst hj
   rw [upd_same]
   rw [List.getElem?_append_right (Nat.le_refl _)] at hQ
   simp at hQ
   subst hQ
   exact hP
  ·rw [upd_ne _ _ hj]
   have hjl : j < Ps.length := by
    have := (List.getElem?_eq_some_iff.1 hQ).1
    rw [List.length_append, List.length_singleton] at this
    omega
   rw [List.getElem?_append_left hjl] at hQ
   exact Q.turn (h1 j Q hQ) (Turn.of (F := fun _ => False) hg (fun _ e => by cases e)) (fun _ _ e => e)
 ·intro j l hj hl hne i hi
  rw [List.length_append, List.length_singleton] at hj hl
  by_cases hjk : j = Ps.length
  ·rw [hjk, upd_same] at hi
   rw [upd_ne _ _ (by omega)]
   intro hl'
   have := oldOf l (by omega) i hl'
   have := hF i hi
   omega
  ·rw [upd_ne _ _ hjk] at hi
   by_cases hlk : l = Ps.length
   ·rw [hlk, upd_same]
    intro hF'
    have := oldOf j (by omega) i hi
    have := hF i hF'
    omega
   ·rw [upd_ne _ _ hlk]; exact h2 j l (by omega) (by omega) hne i hi
 ·intro j hj i hi
  rw [List.length_append, List.length_singleton] at hj
  by_cases hjk : j = Ps.length
  ·rw [hjk, upd_same] at hi
   exact Nat.le_trans h4.size (hF i hi)
  ·rw [upd_ne _ _ hjk] at hi; exact h3 j (by omega) i hi
theorem Own.less {w0 w : World} {Ps Qs : List Pr} (h : Own w0 w (Ps ++ Qs)) : Own w0 w Ps := by
 obtain ⟨Fs, h1, h2, h3, h4⟩ := h
 refine ⟨Fs, fun k P hk => h1 k P ?_, fun j k hj hk => h2 j k (by rw [List.length_append]; omega) (by rw [List.length_append]; omega), fun k hk => h3 k (by rw [List.length_append]; omega), h4⟩
 rw [List.getElem?_append_left (List.getElem?_eq_some_iff.1 hk).1]
 exact hk
def rowP (e size : Nat) (v : Value) (n : Nat) (xs : List Value) : Pr where
 holds w F := w.ownsRow 0 e size v n xs ∧ (∀ i, v.ownBlock = some i → F i) ∧ ∀ i, F i → i < w.heap.size
 turn := fun h ht hn => ⟨ht.row h.1 (fun i hi => hn i (h.2.1 i hi)), h.2.1, fun i hi => Nat.lt_of_lt_of_le (h.2.2 i hi) ht.size⟩
 old := fun h => h.2.2
theorem Own.addRow {w0 w w' : World} {Ps : List Pr} (h : Own w0 w Ps) {e size n : Nat} {v : Value} {xs : List Value} (hr : w'.ownsRow w.heap.size e size v n xs) (hg : w.grownBy w' none) : Own w0 w' (Ps ++ [rowP e size v n xs]) :=
 h.add (F := fun i => v.ownBlock = some i) ⟨row_base hr (fun _ _ => Nat.zero_le _), fun _ hi => hi, fun i hi => row_old hr i hi⟩ (fun i hi => (hr.lt i hi).1) hg
theorem Own.row {w0 w : World} {Ps : List Pr} (h : Own w0 w Ps) (k : Nat) {e size n : Nat} {v : Value} {xs : List Value} (hk : Ps[k]? = some (rowP e size v n xs)) : w.ownsRow 0 e size v n xs := by
 obtain ⟨F, hF⟩ := h.get k hk
 exact hF.1
theorem row_put' {w : World} {base e size n cap b : Nat} {xs : List Value} (h : w.ownsRow base e size (.slice (some ⟨b, 0, none⟩) n cap) n xs) (o : Nat) (u : Value) :
  (w.setCell ⟨b, o, none⟩ u).ownsRow base e size (.slice (some ⟨b, 0, none⟩) n cap) n (xs.set o u) := by
 obtain ⟨hl, h | ⟨g, cap', cur, he, hb, hh, hn, hm, hc, htk⟩⟩ := h
 ·cases h.1
 ·cases he
  refine ⟨by simpa using hl, .inr ⟨b, cap, cur.setIfInBounds o u, rfl, hb, heap_setCell_at hh u, hn, hm, by simpa using hc, ?_⟩⟩
  rw [Array.toList_setIfInBounds, List.take_set, htk]
theorem Own.store {w0 w : World} {Ps : List Pr} (h : Own w0 w Ps) (k : Nat) {e size n cap b : Nat} {xs : List Value} (hk : Ps[k]? = some (rowP e size (.slice (some ⟨b, 0, none⟩) n cap) n xs)) (o : Nat) (u : Value) :
  Own w0 (w.setCell ⟨b, o, none⟩ u) (Ps.set k (rowP e size (.slice (some ⟨b, 0, none⟩) n cap) n (xs.set o u))) := by
 obtain ⟨F, h1, h2⟩ := h.take k hk
 refine h2 _ _ ⟨F, ⟨row_put' h1.1 o u, h1.2.1, fun i hi => Nat.lt_of_lt_of_le (h1.2.2 i hi) (by simp [World.setCell])⟩, fun i hi => .inl hi, Turn.of (grown_setCell _ _ _) (fun i e => by cases e; exact h1.2.1 _ rfl)⟩
theorem Own.cell {w0 w : World} {Ps : List Pr} (h : Own w0 w Ps) (k : Nat) {e size n cap : Nat} {ad : Option Addr} {xs : List Value} (hk : Ps[k]? = some (rowP e size (.slice ad n cap) n xs)) (j : Nat) (v : Value) (hj : xs[j]? = some v) :
  ∃ b, ad = some ⟨b, 0, none⟩ ∧ w.cell? ⟨b, j, none⟩ = some v ∧ w.frozen? ⟨b, j, none⟩ = false ∧ n ≤ cap := by
 have hr := h.row k hk
 obtain ⟨hl, hr | ⟨g, cap', cur, he, _, hh, hn, hm, hc, htk⟩⟩ := hr
 ·obtain ⟨_, rfl⟩ := hr
  rw [Nat.zero_mul] at hl
  obtain rfl := List.eq_nil_of_length_eq_zero hl
  simp at hj
 ·cases he
  rw [← htk] at hj
  have hlt := (List.getElem?_eq_some_iff.1 hj).1
  rw [List.length_take] at hlt
  rw [List.getElem?_take, if_pos (by omega), Array.getElem?_toList] at hj
  exact ⟨g, rfl, by simp [World.cell?, hh, hj], by simp [World.frozen?, hh], hn⟩
def boxP (X : Nat) (T : TypeId) (cs : Array Value) : Pr where
 holds w F := w.heap[X]? = some (.cells cs T (0, 0)) ∧ F X ∧ ∀ i, F i → i < w.heap.size
 turn := fun h ht hn => ⟨ht.obj h.1 (hn _ h.2.1), h.2.1, fun i hi => Nat.lt_of_lt_of_le (h.2.2 i hi) ht.size⟩
 old := fun h => h.2.2
theorem Own.box {w0 w : World} {Ps : List Pr} (h : Own w0 w Ps) (k : Nat) {X : Nat} {T : TypeId} {cs : Array Value} (hk : Ps[k]? = some (boxP X T cs)) : w.heap[X]? = some (.cells cs T (0, 0)) := by
 obtain ⟨F, hF⟩ := h.get k hk
 exact hF.1
theorem Own.addBox {w0 w : World} {Ps : List Pr} (h : Own w0 w Ps) (T : TypeId) (cs : Array Value) : Own w0 (w.alloc (.cells cs T)) (Ps ++ [boxP w.heap.size T cs]) :=
 h.add (P := boxP w.heap.size T cs) (F := fun i => i = w.heap.size) ⟨heap_alloc_new w _, rfl, fun i hi => by rw [hi]; simp⟩ (fun i hi => by rw [hi]; exact Nat.le_refl _) (World.grownBy_alloc w _ none)
end Go.Grommet
end
