import Derived.Laws.CopyOwn
import Derived.Test.YtfljlmmiiccooaaGreatDoorPk1
section
namespace Go.Grommet
open Go
def fmtAt (a b c m : Nat) (i : Nat) : Nat :=
 if i = 0 then 32762617960297063 else if i = 1 then a else if i = 2 then b else if i = 3 then c
 else if i = m then 3 else if i = m + 8 then 1 else if i = m + 32 then 2 else if i = m + 33 then 1 else 0
def fmtL (a b c m N : Nat) : List Nat := (List.range N).map (fmtAt a b c m)
theorem length_fmtL (a b c m N : Nat) : (fmtL a b c m N).length = N := by simp [fmtL]
theorem get_fmtL (a b c m N i : Nat) (h : i < N) : (fmtL a b c m N)[i]? = some (fmtAt a b c m i) := by simp [fmtL, h]
theorem fmtAt_lt (a b c m i : Nat) (ha : a < 1000) (hb : b < 1000) (hc : c < 1000) : fmtAt a b c m i < 18446744073709551616 := by
 unfold fmtAt
 repeat' split
 all_goals omega
theorem fmtL_lt (a b c m N : Nat) (ha : a < 1000) (hb : b < 1000) (hc : c < 1000) : ∀ n ∈ fmtL a b c m N, n < 18446744073709551616 := by
 intro n hn
 obtain ⟨i, _, rfl⟩ := List.mem_map.1 hn
 exact fmtAt_lt a b c m i ha hb hc
end Go.Grommet
end
