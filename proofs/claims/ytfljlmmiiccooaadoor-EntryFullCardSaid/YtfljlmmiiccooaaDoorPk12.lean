import Derived.Test.YtfljlmmiiccooaaDoorPk11
import Derived.Test.YtfljlmmiiccooaaDoorPk9
section
namespace Go.Grommet
open Go.RowKit
theorem elem_of {P : Program} {T e : TypeId} (hT : P.underlying T = some (.slice e)) : P.elem T = e := by
 simp [Program.elem, hT]
theorem slice_lit {P : Program} (T e : TypeId) (hT : P.underlying T = some (.slice e)) (hsz : ∀ w, (sizeOf e).run P w = .ok 1 w) (q o len cap k : Nat) (h : k ≤ len) (hc : k < cap) (w : World) :
  (Instr.slice T (.slice (some ⟨q, o, none⟩) len cap) (some (.int .i64 (k : Int))) none none).run P w = .ok (.slice (some ⟨q, o + k, none⟩) (len - k) (cap - k)) w := by
 have he := elem_of hT
 have ht : P.underlying T = some (.slice (P.elem T)) := by rw [he]; exact hT
 rw [run_slice_l (a := some ⟨q, o, none⟩) (ht := ht) (h0 := by omega) (h1 := by omega), he, hsz]
 simp [Result.andThen, sliced, Addr.add_lit]
 omega
end Go.Grommet
end
