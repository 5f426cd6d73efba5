/- Words as bytes, plainly. -/
import Derived.Test.YtingkjmbeloepaaPackMath
namespace Go.Grommet
open Go

/-- The first n bytes of words. -/
def unpackB (ws : List Nat) (n : Nat) : List UInt8 := (List.range n).map fun i => byteAt (ws.getD (i / 8) 0) (i % 8)
/-- Those below k; noughts from there on. -/
def unpackTo (ws : List Nat) (n k : Nat) : List UInt8 := (List.range n).map fun i => if i < k then byteAt (ws.getD (i / 8) 0) (i % 8) else 0

theorem length_unpackTo (ws : List Nat) (n k : Nat) : (unpackTo ws n k).length = n := by simp [unpackTo]
theorem length_unpackB (ws : List Nat) (n : Nat) : (unpackB ws n).length = n := by simp [unpackB]
theorem unpackTo_zero (ws : List Nat) (n : Nat) : unpackTo ws n 0 = List.replicate n 0 := by
  simp [unpackTo, List.map_const']
theorem unpackTo_all (ws : List Nat) (n : Nat) : unpackTo ws n n = unpackB ws n := by
  unfold unpackTo unpackB
  apply List.map_congr_left
  intro i hi
  rw [if_pos (List.mem_range.1 hi)]
theorem unpackTo_succ (ws : List Nat) (n k : Nat) : (unpackTo ws n k).set k (byteAt (ws.getD (k / 8) 0) (k % 8)) = unpackTo ws n (k + 1) := by
  apply List.ext_getElem
  · simp [unpackTo]
  · intro i h1 h2
    simp only [unpackTo, List.getElem_map, List.getElem_range, List.getElem_set]
    by_cases h : k = i
    · subst h; rw [if_pos rfl, if_pos (by omega)]
    · rw [if_neg h]
      by_cases h3 : i < k
      · rw [if_pos h3, if_pos (by omega)]
      · rw [if_neg h3, if_neg (by omega)]
theorem made_bytes (n : Nat) (ws : List Nat) : (madeCells #[Value.int .u8 0] n).toList = (unpackTo ws n 0).map bv := by
  rw [unpackTo_zero]
  simp [bv, madeCells, Nat.mod_one, List.map_const']
end Go.Grommet
