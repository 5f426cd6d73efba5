/- make, copy and stores where the whole row is known. -/
import Derived.Test.YtclmgkiiegkmhaaGreatDoorBase4
import Derived.Laws.CopyOwn
import Derived.OpenShut
import Derived.Test.YtclmgkiiegkmhaaGreatDoorBase3
namespace Go.Grommet
open Go.RowKit

/-- 'make([]T, n)': a row of zero values, known whole. -/
theorem wpList_make_whole {P : Program} (w : World) {ops : Array Oper} {rest : List Oper} {o : Oper} {a : Act} {Q : Exit → Act → World → Prop}
    (hg : o.guard = none) (l c : Operand) (t : TypeId) (hop : o.op = Op.makeSlice t l c)
    (e : TypeId) (i : TypeInfo) (z : Value) (h1 : P.underlying t = some (.slice e)) (h2 : P.info? e = some i) (h3 : i.zero = some z) (h4 : i.size = 1)
    (kl kc : IntKind) (C : Int) (n : Nat) (hl : a.eval l = .int kl C) (hc : a.eval c = .int kc C) (hC : C = (n : Int)) (b2 : i.bytes * n ≤ 281474976710656) (b3 : n ≤ maxLen)
    (hK : ∀ w', w'.heap[w.heap.size]? = some (.cells (madeCells z.cells n) e (0, 0)) → w.grownBy w' none → wpList P ops Q rest (a.put o.dst (.slice (some ⟨w.heap.size, 0, none⟩) n n)) w') :
    wpList P ops Q (o :: rest) a w := by
  refine wpList_plain hg fun K hK' => ?_
  subst hC
  have b3' : (n : Int) ≤ 9223372036854775807 := by unfold maxLen at b3; omega
  have hrun := run_make (P := P) w t e i z h1 h2 h3 kl kc n n (by omega) (by omega) (by rw [← Int.natCast_mul]; exact Int.ofNat_le.2 b2) b3'
  rw [h4, Nat.mul_one] at hrun
  unfold Oper.wp
  simp [execOp, hop, hl, hc, hrun, Result.andThen]
  exact hK' _ _ (hK _ (heap_alloc_new w _) (World.grownBy_alloc w _ none))

/-- 'copy(d, s)' into a row that is known whole. -/
theorem wpList_copy_whole {P : Program} {w : World} {ops : Array Oper} {rest : List Oper} {o : Oper} {a : Act} {Q : Exit → Act → World → Prop} (hgd : o.guard = none) (d s : Operand) (dT sT : TypeId)
    (ho : o.op = .call { callee := .builtin .copy, args := #[d, s], argTypes := #[dT, sT] }) (elem : TypeId) (hu : P.underlying dT = some (.slice elem)) (hsz : (P.info? elem).map (·.size) = some 1)
    (g off dLen dCap : Nat) (ad : Addr) (sLen sCap : Nat) (hd : a.eval d = .slice (some ⟨g, off, none⟩) dLen dCap) (hs : a.eval s = .slice (some ad) sLen sCap)
    (cur : List Value) (t : TypeId) (hg : w.heap[g]? = some (.cells cur.toArray t (0, 0))) (cs : List Value) (hn : cs.length = sLen) (hle : sLen ≤ dLen)
    (hsrc : At w (some ad) cs) (hfit : off + cs.length ≤ cur.length) (h1 : ∀ v ∈ cs, v.oneCell' = true)
    (hK : ∀ w', w'.heap[g]? = some (.cells (splice cur off cs).toArray t (0, 0)) → w.grownBy w' (some g) → wpList P ops Q rest (a.put o.dst (goInt cs.length)) w') :
    wpList P ops Q (o :: rest) a w := by
  refine wpList_copy_own hgd d s dT sT ho elem hu hsz g off dLen dCap ad sLen sCap hd hs cur.toArray t hg cs (by rw [hn]; exact (Nat.min_eq_left hle).symm) hsrc.some (by simpa using hfit) h1 ?_
  refine hK _ (by have := setRow_heap w g cur.toArray (splice cur off cs).toArray t (0, 0) hg; simpa [splice] using this) ?_
  exact ⟨rfl, rfl, rfl, by simp [World.setRow], fun j _ hj => setRow_other w g j _ (by intro e; exact hj (by rw [e]))⟩

/-- A store into a row that is known whole. -/
theorem row_set {w : World} {g e : Nat} {xs : List Value} (h : w.heap[g]? = some (.cells xs.toArray e (0, 0))) (o : Nat) (v : Value) : (w.setCell ⟨g, o, none⟩ v).heap[g]? = some (.cells (xs.set o v).toArray e (0, 0)) := by
  have := heap_setCell_at (o := o) h v
  simpa using this
theorem row_cell {w : World} {g e : Nat} {xs : List Value} (h : w.heap[g]? = some (.cells xs.toArray e (0, 0))) (o : Nat) (v : Value) (hv : xs[o]? = some v) : w.cell? ⟨g, o, none⟩ = some v := by
  simp [World.cell?, h, hv]
theorem row_free {w : World} {g e : Nat} {xs : List Value} (h : w.heap[g]? = some (.cells xs.toArray e (0, 0))) (o : Nat) : w.frozen? ⟨g, o, none⟩ = false := by
  simp [World.frozen?, h]

def wv (n : Nat) : Value := .int .u64 (n : Int)
theorem wv_oneCell (xs : List Nat) : ∀ u ∈ xs.map wv, u.oneCell' = true := by
  intro u hu
  obtain ⟨_, _, rfl⟩ := List.mem_map.1 hu
  rfl
/-- Words that came in: so many, each of 64 bits, and where they stand. -/
structure Words (w : World) (ad : Option Addr) (l : Nat) (xs : List Nat) : Prop where
  len : xs.length = l
  small : ∀ n ∈ xs, n < 18446744073709551616
  at_ : At w ad (xs.map wv)
  fits : l ≤ 140737488351232

theorem Words.keep {w w' : World} {ad : Option Addr} {l : Nat} {xs : List Nat} {row : Option Nat} (h : Words w ad l xs) (hg : w.grownBy w' row) (hne : ∀ a, ad = some a → xs ≠ [] → some a.block ≠ row) : Words w' ad l xs :=
  ⟨h.len, h.small, h.at_.grown hg (fun a ha hx => hne a ha (by intro e; rw [e] at hx; exact hx rfl)), h.fits⟩
theorem Words.cell {w : World} {ad : Option Addr} {l : Nat} {xs : List Nat} (h : Words w ad l xs) (k : Nat) (hk : k < l) :
    ∃ q o, ad = some ⟨q, o, none⟩ ∧ w.cell? ⟨q, o + k, none⟩ = some (.int .u64 ((xs.getD k 0 : Nat) : Int)) := by
  have hk' : k < xs.length := by rw [h.len]; exact hk
  obtain ⟨q, o, he, hc⟩ := h.at_ k (wv (xs.getD k 0)) (by simp [hk'])
  exact ⟨q, o, he, hc⟩
theorem Words.get {w : World} {ad : Option Addr} {l : Nat} {xs : List Nat} (h : Words w ad l xs) (k : Nat) (hk : k < l) : xs.getD k 0 < 18446744073709551616 := by
  have hk' : k < xs.length := by rw [h.len]; exact hk
  exact h.small _ (by simp [hk'])
theorem Words.nil (w : World) : Words w none 0 [] := ⟨rfl, by simp, At.nil _ _, by decide⟩
theorem old_block {w : World} {ad : Option Addr} {xs : List Value} (h : At w ad xs) (hne : xs ≠ []) : ∀ a, ad = some a → a.block < w.heap.size := by
  intro a ha
  obtain ⟨x, hx⟩ : ∃ x, xs[0]? = some x := by
    cases xs with
    | nil => exact absurd rfl hne
    | cons y t => exact ⟨y, rfl⟩
  obtain ⟨g, o, he, hc⟩ := h 0 x hx
  rw [he] at ha
  cases ha
  exact World.block_lt_of_cell? w _ hc
theorem Words.old {w : World} {ad : Option Addr} {l : Nat} {xs : List Nat} (h : Words w ad l xs) (hx : xs ≠ []) : ∀ a, ad = some a → a.block < w.heap.size :=
  old_block h.at_ (by intro e; exact hx (List.map_eq_nil_iff.1 e))
theorem row_words {w : World} {g e : Nat} {xs : List Nat} (h : w.heap[g]? = some (.cells (xs.map wv).toArray e (0, 0))) (hs : ∀ n ∈ xs, n < 18446744073709551616) (hf : xs.length ≤ 140737488351232) : Words w (some ⟨g, 0, none⟩) xs.length xs :=
  ⟨rfl, hs, at_of_row h, hf⟩
theorem rowIn_words {w : World} {a : Option Addr} {len cap : Nat} {zs : List Int} (h : RowIn .u64 w a len cap zs) : ∃ xs, Words w a len xs := by
  obtain ⟨xs, hl, hs, hat⟩ := h.nats
  exact ⟨xs, hl, hs, hat, h.small⟩
end Go.Grommet
