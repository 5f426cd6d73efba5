/- Texts of ours, packed. -/
import Derived.Laws.CopyOwn
import Derived.Test.YtmamgfjnphdecaaDoorPk1
section
/- The words of a new device: plain mathematics. -/
namespace Go.Grommet
open Go

/-- The words of a new device, by their numbers: N of them; m: where the maps begin. -/
def fmtAt (a b c m : Nat) (i : Nat) : Nat :=
  if i = 0 then 32762617960297063 else if i = 1 then a else if i = 2 then b else if i = 3 then c
  else if i = m then 3 else if i = m + 8 then 1 else if i = m + 32 then 2 else if i = m + 33 then 1 else 0
def fmtL (a b c m N : Nat) : List Nat := (List.range N).map (fmtAt a b c m)

theorem length_fmtL (a b c m N : Nat) : (fmtL a b c m N).length = N := by simp [fmtL]
theorem get_fmtL (a b c m N i : Nat) (h : i < N) : (fmtL a b c m N)[i]? = some (fmtAt a b c m i) := by simp [fmtL, h]

theorem getElem?_splice {α : Type} (L cs : List α) (off i : Nat) (h : off + cs.length ≤ L.length) : (splice L off cs)[i]? = if off ≤ i ∧ i < off + cs.length then cs[i - off]? else L[i]? := by
  unfold splice
  have hlt : (L.take off).length = off := by rw [List.length_take]; omega
  by_cases h1 : i < off
  · rw [List.getElem?_append_left (by omega), List.getElem?_take, if_pos h1, if_neg (by omega)]
  · rw [List.getElem?_append_right (by omega), hlt]
    by_cases h2 : i < off + cs.length
    · rw [List.getElem?_append_left (by omega), if_pos (by omega)]
    · rw [List.getElem?_append_right (by omega), List.getElem?_drop, if_neg (by omega)]
      congr 1; omega

theorem fmt_built (a b c m N : Nat) (h4 : 4 ≤ m) (hN : m + 34 ≤ N) :
    ((splice (splice (List.replicate N 0) 0 [32762617960297063, a, b, c]) (m + 32) [2, 1]).set m 3).set (m + 8) 1 = fmtL a b c m N := by
  apply List.ext_getElem?
  intro i
  rw [List.getElem?_set, List.getElem?_set, List.length_set, length_splice _ _ _ (by rw [length_splice _ _ _ (by simp; omega)]; simp; omega), length_splice _ _ _ (by simp; omega), getElem?_splice _ _ _ _ (by rw [length_splice _ _ _ (by simp; omega)]; simp; omega), getElem?_splice _ _ _ _ (by simp; omega)]
  simp only [List.length_replicate, List.length_cons, List.length_nil]
  by_cases hi : i < N
  · rw [get_fmtL _ _ _ _ _ _ hi]
    unfold fmtAt
    by_cases e1 : i = m + 8
    · subst e1; rw [if_pos rfl, if_pos hi]; rw [if_neg (by omega), if_neg (by omega), if_neg (by omega), if_neg (by omega), if_neg (by omega), if_pos rfl]
    · rw [if_neg (by omega)]
      by_cases e2 : i = m
      · subst e2; rw [if_pos rfl, if_pos hi]; rw [if_neg (by omega), if_neg (by omega), if_neg (by omega), if_neg (by omega), if_pos rfl]
      · rw [if_neg (by omega)]
        by_cases e3 : i = m + 32
        · subst e3; rw [if_pos (by omega), Nat.sub_self, if_neg (by omega), if_neg (by omega), if_neg (by omega), if_neg (by omega), if_neg (by omega), if_neg (by omega), if_pos rfl]; rfl
        · by_cases e4 : i = m + 33
          · subst e4; rw [if_pos (by omega), show m + 33 - (m + 32) = 1 from by omega, if_neg (by omega), if_neg (by omega), if_neg (by omega), if_neg (by omega), if_neg (by omega), if_neg (by omega), if_neg (by omega), if_pos rfl]; rfl
          · rw [if_neg (by omega)]
            by_cases e5 : i < 4
            · rw [if_pos (by omega), Nat.sub_zero]
              have : i = 0 ∨ i = 1 ∨ i = 2 ∨ i = 3 := by omega
              rcases this with rfl | rfl | rfl | rfl <;> simp
            · rw [if_neg (by omega), if_neg (by omega), if_neg (by omega), if_neg (by omega), if_neg (by omega), if_neg (by omega), if_neg (by omega), if_neg (by omega), if_neg (by omega)]
              simp [hi]
  · rw [if_neg (by omega), if_neg (by omega), if_neg (by omega), if_neg (by omega), List.getElem?_eq_none (by simp; omega)]
    exact (List.getElem?_eq_none (by rw [length_fmtL]; omega)).symm

theorem fmtAt_lt (a b c m i : Nat) (ha : a < 1000) (hb : b < 1000) (hc : c < 1000) : fmtAt a b c m i < 18446744073709551616 := by
  unfold fmtAt
  repeat' split
  all_goals omega
theorem fmtL_lt (a b c m N : Nat) (ha : a < 1000) (hb : b < 1000) (hc : c < 1000) : ∀ n ∈ fmtL a b c m N, n < 18446744073709551616 := by
  intro n hn
  obtain ⟨i, _, rfl⟩ := List.mem_map.1 hn
  exact fmtAt_lt a b c m i ha hb hc

/-- The geometry that words tell, or none. -/
def ofV (ws : List Nat) : Option (Int × Int × Int) :=
  if 8 ≤ ws.length ∧ ws.getD 0 0 = 32762617960297063 ∧ mayB (ws.getD 1 0) (ws.getD 2 0) (ws.getD 3 0) = true ∧ wordsV (ws.getD 1 0) (ws.getD 2 0) (ws.getD 3 0) ≤ ws.length
  then some (ws.getD 1 0, ws.getD 2 0, ws.getD 3 0) else none

def whereV (a b c x : Int) : Int × Int × Int × Int :=
  if mayB a b c = true ∧ 0 ≤ x then
    let f := findR (placesR a b c) x
    if f.1 = 2 then let g := findR withinR f.2.2; (g.1, f.2.1, g.2.1, g.2.2) else (f.1, f.2.1, 0, f.2.2)
  else (0, 0, 0, 0)
end Go.Grommet
end
