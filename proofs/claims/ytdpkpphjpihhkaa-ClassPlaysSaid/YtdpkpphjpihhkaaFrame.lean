/- What a call may turn: a set of blocks, and whatever is new. -/
import Derived.Test.YtdpkpphjpihhkaaBase6
import Derived.Maps.OwnSet
namespace Go.Grommet
open Go.RowKit

/-- Of the blocks that were there only those of F may have turned. -/
structure Turn (F : Nat → Prop) (w w' : World) : Prop where
  os : w'.os = w.os
  tape : w'.tape = w.tape
  output : w'.output = w.output
  size : w.heap.size ≤ w'.heap.size
  block : ∀ k, k < w.heap.size → ¬ F k → w'.heap[k]? = w.heap[k]?

theorem Turn.refl (F : Nat → Prop) (w : World) : Turn F w w := ⟨rfl, rfl, rfl, Nat.le_refl _, fun _ _ _ => rfl⟩
theorem Turn.trans {F G : Nat → Prop} {a b c : World} (h : Turn F a b) (k : Turn G b c) (hG : ∀ i, G i → F i ∨ a.heap.size ≤ i) : Turn F a c :=
  ⟨k.os.trans h.os, k.tape.trans h.tape, k.output.trans h.output, Nat.le_trans h.size k.size, fun i hi hn =>
    (k.block i (Nat.lt_of_lt_of_le hi h.size) (fun e => by rcases hG i e with x | x; exact hn x; omega)).trans (h.block i hi hn)⟩
theorem Turn.of {F : Nat → Prop} {a b : World} {row : Option Nat} (h : a.grownBy b row) (hr : ∀ i, row = some i → F i) : Turn F a b :=
  ⟨h.os, h.tape, h.output, h.size, fun i hi hn => h.block i hi (fun e => hn (hr i e.symm))⟩
theorem Turn.grown {F : Nat → Prop} {a b c : World} {row : Option Nat} (h : Turn F a b) (k : b.grownBy c row) (hr : ∀ i, row = some i → F i ∨ a.heap.size ≤ i) : Turn F a c :=
  h.trans (Turn.of (F := fun i => row = some i) k (fun _ e => e)) hr
theorem Turn.mono {F G : Nat → Prop} {a b : World} (h : Turn F a b) (hG : ∀ i, F i → G i ∨ a.heap.size ≤ i) : Turn G a b :=
  ⟨h.os, h.tape, h.output, h.size, fun i hi hn => h.block i hi (fun e => by rcases hG i e with x | x; exact hn x; omega)⟩
theorem Turn.none {F : Nat → Prop} {a b : World} (h : Turn F a b) (hF : ∀ i, F i → a.heap.size ≤ i) : a.grownBy b none :=
  ⟨h.os, h.tape, h.output, h.size, fun i hi _ => h.block i hi (fun e => by have := hF i e; omega)⟩
/-- Behind what turned nothing old: something that turns what is new. -/
theorem grown_turn {F : Nat → Prop} {a b c : World} (h : a.grownBy b none) (k : Turn F b c) (hF : ∀ i, F i → a.heap.size ≤ i) : a.grownBy c none :=
  ((Turn.of (F := F) h (fun _ e => by cases e)).trans k (fun _ e => .inl e)).none hF
theorem Turn.obj {F : Nat → Prop} {w w' : World} {g : Nat} {o : Obj} (ht : Turn F w w') (h : w.heap[g]? = some o) (hn : ¬ F g) : w'.heap[g]? = some o :=
  (ht.block g (Array.getElem?_eq_some_iff.1 h).1 hn).trans h
theorem Turn.at {F : Nat → Prop} {w w' : World} {ad : Option Addr} {xs : List Value} (ht : Turn F w w') (h : At w ad xs) (hn : ∀ a, ad = some a → xs ≠ [] → ¬ F a.block) : At w' ad xs := by
  intro j u hu
  obtain ⟨g, o, ha, hc⟩ := h j u hu
  have hne : xs ≠ [] := by intro e; rw [e] at hu; simp at hu
  refine ⟨g, o, ha, (World.cell?_of_block ?_).trans hc⟩
  exact ht.block g (World.block_lt_of_cell? w _ hc) (hn _ ha hne)
theorem Turn.words {F : Nat → Prop} {w w' : World} {ad : Option Addr} {l : Nat} {xs : List Nat} (ht : Turn F w w') (h : Words w ad l xs) (hn : ∀ a, ad = some a → xs ≠ [] → ¬ F a.block) : Words w' ad l xs :=
  ⟨h.len, h.small, ht.at h.at_ (fun a ha hx => hn a ha (fun e => hx (by rw [e]; rfl))), h.fits⟩
theorem Turn.row {F : Nat → Prop} {w w' : World} {base e size : Nat} {v : Value} {n : Nat} {xs : List Value} (ht : Turn F w w') (h : w.ownsRow base e size v n xs) (hn : ∀ g, v.ownBlock = some g → ¬ F g) : w'.ownsRow base e size v n xs := by
  refine ⟨h.1, ?_⟩
  rcases h.2 with h | ⟨g, cap, cur, rfl, hb, hg, r⟩
  · exact .inl h
  · exact .inr ⟨g, cap, cur, rfl, hb, ht.obj hg (hn g rfl), r⟩
theorem Turn.map {H : Type} {P : Program} {k : TypeId} {R : Value → Option (DataW H × List MemPlace)} {b n : Nat} {D : DataW H} {F : Nat → Prop} {w w' : World} (ht : Turn F w w') (h : w.ownsMap P k R b n D) (hn : ¬ F b) : w'.ownsMap P k R b n D := by
  obtain ⟨es, clock, hb, r⟩ := h
  exact ⟨es, clock, ht.obj hb hn, r⟩
theorem row_old {w : World} {base e size n : Nat} {v : Value} {xs : List Value} (h : w.ownsRow base e size v n xs) : ∀ g, v.ownBlock = some g → g < w.heap.size := by
  intro g hg
  rcases h.2 with h | ⟨g', cap, cur, rfl, hb, hg', r⟩
  · rw [h.1] at hg; cases hg
  · cases hg; exact (Array.getElem?_eq_some_iff.1 hg').1
theorem row_type {w : World} {base e size n : Nat} {v : Value} {xs : List Value} (h : w.ownsRow base e size v n xs) : ∀ g, v.ownBlock = some g → ∃ cur, w.heap[g]? = some (.cells cur e (0, 0)) := by
  intro g hg
  rcases h.2 with h | ⟨g', cap, cur, rfl, hb, hg', r⟩
  · rw [h.1] at hg; cases hg
  · cases hg; exact ⟨cur, hg'⟩
theorem row_base {w : World} {base base' e size n : Nat} {v : Value} {xs : List Value} (h : w.ownsRow base e size v n xs) (hb : ∀ g, v.ownBlock = some g → base' ≤ g) : w.ownsRow base' e size v n xs := by
  refine ⟨h.1, ?_⟩
  rcases h.2 with h | ⟨g', cap, cur, rfl, _, r⟩
  · exact .inl h
  · exact .inr ⟨g', cap, cur, rfl, hb g' rfl, r⟩
/-- A row in the value's own words, of any size of elements. -/
theorem row_slice {w : World} {base e size n : Nat} {v : Value} {xs : List Value} (h : w.ownsRow base e size v n xs) :
    ∃ ad cap, v = .slice ad n cap ∧ At w ad xs ∧ (ad = none → n = 0 ∧ cap = 0) ∧ n ≤ cap := by
  obtain ⟨hl, h | ⟨g, cap, cur, rfl, _, hh, hn, hm, hc, htk⟩⟩ := h
  · obtain ⟨rfl, rfl⟩ := h
    refine ⟨none, 0, rfl, ?_, fun _ => ⟨rfl, rfl⟩, Nat.le_refl _⟩
    obtain rfl := List.eq_nil_of_length_eq_zero (l := xs) (by simpa using hl)
    exact At.nil _ _
  · refine ⟨some ⟨g, 0, none⟩, cap, rfl, ?_, by simp, hn⟩
    intro j u hu
    refine ⟨g, 0, rfl, ?_⟩
    rw [← htk] at hu
    rw [Nat.zero_add, World.cell?]
    have hj : j < n * size ∧ j < cur.size := by
      have := (List.getElem?_eq_some_iff.1 hu).1
      rw [List.length_take, Array.length_toList] at this
      omega
    rw [List.getElem?_take, if_pos hj.1, Array.getElem?_toList] at hu
    simp [hh, hu]
/-- 'x[:k]' of what is nil or begins a block. -/
theorem slice_to {P : Program} (T e : TypeId) (hT : P.underlying T = some (.slice e)) (sz : Nat) (hsz : ∀ w, (sizeOf e).run P w = .ok sz w) (ad : Option Addr) (len cap k : Nat) (h : k ≤ cap) (hz : ∀ a, ad = some a → a = ⟨a.block, 0, none⟩) (w : World) :
    (Instr.slice T (.slice ad len cap) none (some (.int .i64 (k : Int))) none).run P w = .ok (.slice ad k cap) w := by
  have he : P.elem T = e := by simp [Program.elem, hT]
  have ht : P.underlying T = some (.slice (P.elem T)) := by rw [he]; exact hT
  rw [run_slice_h (a := ad) (ht := ht) (h0 := by omega) (h2 := by omega), he, hsz]
  simp only [Result.andThen, sliced, Int.toNat_natCast, Nat.sub_zero, Nat.zero_mul]
  split
  · rfl
  · cases ad with
    | none => rfl
    | some a =>
      rw [hz a rfl]
      simp [Addr.add_lit]
theorem row_head {w : World} {base e size n cap : Nat} {ad : Option Addr} {xs : List Value} (h : w.ownsRow base e size (.slice ad n cap) n xs) : ∀ a, ad = some a → a = ⟨a.block, 0, none⟩ := by
  intro a ha
  obtain ⟨_, h | ⟨g, cap', cur, he, _⟩⟩ := h
  · rw [ha] at h; cases h.1
  · cases he; cases ha; rfl
theorem equalIn_slice_nil {P : Program} (w : World) (d : Nat) (t e : TypeId) (a : Option Addr) (l c : Nat) (h : P.underlying t = some (.slice e)) : (Op.equalIn (d + 1) t (.slice a l c) (.slice none 0 0)).run P w = .ok a.isNone w := by
  cases a <;> simp [Op.equalIn, run_underlying h]
theorem equal_slice_nil {P : Program} (w : World) (t e : TypeId) (a : Option Addr) (l c : Nat) (h : P.underlying t = some (.slice e)) : (Op.equal t (.slice a l c) (.slice none 0 0)).run P w = .ok a.isNone w := equalIn_slice_nil w 9999 t e a l c h
/-- 'x == nil' of a slice. -/
theorem eql_slice_nil {P : Program} (w : World) (t e : TypeId) (a : Option Addr) (l c : Nat) (h : P.underlying t = some (.slice e)) : (binOp .eql t (.slice a l c) (.slice none 0 0)).run P w = .ok (.bool a.isNone) w := by
  simp [binOp, equal_slice_nil w t e a l c h]
end Go.Grommet
