/- Texts of ours, packed. -/
import Derived.RangeFuncNested
import Derived.RangeFuncBound
import Derived.RangeFuncCalls
import Derived.RangeFuncLeaves
import Derived.Shelf.Abstract
import Derived.Shelf.RegionOpen
import Derived.WalkKit
import Derived.OwnWalkIn
import Derived.TacticsInMore
import Derived.LoopNIn
import Derived.LoopIn
import Derived.Test.YtpdofdloclmbdaaGreatPk10
section
/- Marks of deferred calls: a function that has ranged over functions, many times, is left. -/
-- OPTIONAL
namespace Go.Grommet
open Go.RowKit

/-- The marks that a function has among its deferred calls: each of a block of its own, no call is in it. -/
def Marks (B : Nat) (w : World) : Nat → List Deferred → Prop
  | _, [] => True
  | U, d :: ds => ∃ D, d = { target := .collected D, args := #[] } ∧ B ≤ D ∧ D < U ∧ w.heap[D]? = some (.deferred (some [])) ∧ Marks B w D ds

theorem Marks.same {B : Nat} {w w' : World} : ∀ {U : Nat} {ds : List Deferred}, Marks B w U ds → (∀ D, D < U → w.heap[D]? = some (.deferred (some [])) → w'.heap[D]? = some (.deferred (some []))) → Marks B w' U ds
  | _, [], _, _ => trivial
  | _, _ :: _, ⟨D, h1, h2, h3, h4, h5⟩, hs => ⟨D, h1, h2, h3, hs D h3 h4, h5.same (fun D' hD' => hs D' (Nat.lt_trans hD' h3))⟩
theorem Marks.keeps {B : Nat} {w w' : World} {U : Nat} {ds : List Deferred} (h : Marks B w U ds) (k : KeepsOthers w w') : Marks B w' U ds := h.same (fun _ _ e => k.same _ _ e rfl)
theorem Marks.up {B : Nat} {w : World} : ∀ {U U' : Nat} {ds : List Deferred}, Marks B w U ds → U ≤ U' → Marks B w U' ds
  | _, _, [], _, _ => trivial
  | _, _, _ :: _, ⟨D, h1, h2, h3, h4, h5⟩, hu => ⟨D, h1, h2, Nat.lt_of_lt_of_le h3 hu, h4, h5⟩
theorem Marks.ownFrom {β : Type} {B U : Nat} {ds : List Deferred} : OwnFrom U (fun (_ : β) W => Marks B W U ds) := by
  intro s W W' row hs hg hr
  refine hs.same (fun D hD e => (hg.block D (Array.getElem?_eq_some_iff.1 e).1 ?_).trans e)
  intro e'
  have := (hr D e'.symm).1
  omega

/-- What a function's leaving does: marks are shut. -/
structure AllBut (B : Nat) (w w' : World) : Prop where
  os : w'.os = w.os
  tape : w'.tape = w.tape
  output : w'.output = w.output
  size : w'.heap.size = w.heap.size
  below : ∀ k, k < B → w'.heap[k]? = w.heap[k]?
  cells : ∀ (k : Nat) (cs : Array Value) (T : TypeId) (f : Nat × Nat), w.heap[k]? = some (Obj.cells cs T f) → w'.heap[k]? = some (Obj.cells cs T f)

theorem AllBut.refl (B : Nat) (w : World) : AllBut B w w := ⟨rfl, rfl, rfl, rfl, fun _ _ => rfl, fun _ _ _ _ h => h⟩
theorem AllBut.trans {B : Nat} {a b c : World} (h : AllBut B a b) (k : AllBut B b c) : AllBut B a c :=
  ⟨k.os.trans h.os, k.tape.trans h.tape, k.output.trans h.output, k.size.trans h.size, fun i hi => (k.below i hi).trans (h.below i hi), fun i cs T f e => k.cells i cs T f (h.cells i cs T f e)⟩
theorem AllBut.grown {B : Nat} {a b c : World} {row : Option Nat} (hB : a.heap.size ≤ B) (h : a.grownBy b row) (k : AllBut B b c) : a.grownBy c row :=
  ⟨k.os.trans h.os, k.tape.trans h.tape, k.output.trans h.output, by rw [k.size]; exact h.size, fun i hi hn => (k.below i (Nat.lt_of_lt_of_le hi hB)).trans (h.block i hi hn)⟩
theorem AllBut.shut {B D : Nat} {w : World} (hB : B ≤ D) (h : w.heap[D]? = some (.deferred (some []))) (o : Obj) : AllBut B w (w.putObj D o) :=
  ⟨rfl, rfl, rfl, by simp, fun k hk => World.putObj_heap_other (by omega), fun k cs T f e => (World.putObj_heap_other (by intro e'; subst e'; rw [h] at e; cases e)).trans e⟩

theorem leaves_marks {F : Fence} {n : Nat} {P : Program} {fn : Func} {tmps : Array Value} {R : Ending → World → Prop} {B : Nat} : ∀ (ds : List Deferred) (U : Nat) (w : World), Marks B w U ds →
    (∀ w', AllBut B w w' → ∃ v, (results fn tmps).run P w' = .ok v w' ∧ R (.returned v) w') → LeavesInM F n P fn tmps R ds .returning w
  | [], _, w, _, h => h w (AllBut.refl _ _)
  | _ :: ds, _, w, ⟨D, h1, h2, h3, h4, h5⟩, h => by
    subst h1
    refine ⟨by simp, .inl ⟨D, _, rfl, run_takeDeferred h4, ?_⟩⟩
    exact leaves_marks ds D _ (h5.same (fun D' hD' e => (World.putObj_heap_other (by omega)).trans e)) (fun w' hw' => h w' ((AllBut.shut h2 h4 _).trans hw'))
end Go.Grommet
end
