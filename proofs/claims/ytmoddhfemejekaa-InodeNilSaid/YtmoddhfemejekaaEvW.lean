/- A law that the evaluator yields true is true; what it does beside is seen nowhere. -/
import Derived.Test.YtmoddhfemejekaaEvU
import Derived.WalkKit
import Derived.WalkLawsBesides
namespace Go.Ev
open Go.RowKit

/-- True, and nothing that was there is turned. -/
def WorksIs (w : World) (e : Ending) (w' : World) : Prop := e = .returned (.bool true) ∧ w.grownBy w' none
theorem below_of_grown {w w' : World} (h : w.grownBy w' none) : Below w.heap.size w w' := ⟨h.os, h.tape, h.output, h.size, fun k hk => h.block k hk (by simp)⟩
def isTrue : Option (V × Hp) → Bool
  | some (.bool b, _) => b
  | _ => false
theorem isTrue_some {x : Option (V × Hp)} (h : isTrue x = true) : ∃ H, x = some (.bool true, H) := by
  match x, h with
  | some (.bool true, H), _ => exact ⟨H, rfl⟩
/-- A value of no memory. -/
def V.plain : V → Bool
  | .bool _ | .int _ _ | .str _ | .raw _ _ | .nilptr | .nilslice | .nilmap | .nilfn | .nil => true
  | .fn _ a c => a.plain && c.plain
  | .cons h t => h.plain && t.plain
  | .agg l | .tup l => l.plain
  | _ => false
theorem V.plain_in {D : Nat → Prop} {ρ : Nat → Loc} : ∀ {v : V}, v.plain = true → v.In D ρ
  | .bool _, _ | .int _ _, _ | .str _, _ | .raw _ _, _ | .nilptr, _ | .nilslice, _ | .nilmap, _ | .nilfn, _ | .nil, _ => trivial
  | .fn _ a c, h => by simp only [V.plain, Bool.and_eq_true] at h; exact ⟨V.plain_in h.1, V.plain_in h.2⟩
  | .cons a c, h => by simp only [V.plain, Bool.and_eq_true] at h; exact ⟨V.plain_in h.1, V.plain_in h.2⟩
  | .agg l, h => V.plain_in (v := l) h
  | .tup l, h => V.plain_in (v := l) h
theorem ev_true {P : Program} (hm : P.follows .mixedOrders = true) {n : Nat} {f : FuncId} (hbody : ((P.funcs[f]?).bind (·.body)).isNone = false) {args : List V} (h : isTrue (evFn P (fun _ => none) n f args Hp.empty) = true) (ha : args.all V.plain = true) (w : World) :
    Calls P f (args.map (V.val fun _ => ⟨0, 0, 0⟩)).toArray w (WorksIs w) := by
  obtain ⟨H, hH⟩ := isTrue_some h
  refine (ev_plain hm hbody hH (fun a m => V.plain_in (List.all_eq_true.1 ha a m)) w).mono ?_
  rintro e w' ⟨ρ', rfl, hg⟩
  exact ⟨rfl, hg⟩
end Go.Ev
