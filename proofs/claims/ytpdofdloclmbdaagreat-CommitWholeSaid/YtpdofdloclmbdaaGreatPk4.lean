/- Texts of ours, packed. -/
import Derived.Laws.CopyOwn
import Derived.Test.YtpdofdloclmbdaaGreatPk2
section
/- The words of a new device: plain mathematics. -/
namespace Go.Grommet
open Go

/-- The words of a new device, by their numbers: N of them; m: where the maps begin. -/
def fmtAt (a b c m : Nat) (i : Nat) : Nat :=
  if i = 0 then 32762617960297063 else if i = 1 then a else if i = 2 then b else if i = 3 then c
  else if i = m then 3 else if i = m + 8 then 1 else if i = m + 32 then 2 else if i = m + 33 then 1 else 0
def fmtL (a b c m N : Nat) : List Nat := (List.range N).map (fmtAt a b c m)

theorem length_fmtL (a b c m N : Nat) : (fmtL a b c m N).length = N := by simp [fmtL]
theorem get_fmtL (a b c m N i : Nat) (h : i < N) : (fmtL a b c m N)[i]? = some (fmtAt a b c m i) := by simp [fmtL, h]

theorem getElem?_splice {α : Type} (L cs : List α) (off i : Nat) (h : off + cs.length ≤ L.length) : (splice L off cs)[i]? = if off ≤ i ∧ i < off + cs.length then cs[i - off]? else L[i]? := by
  unfold splice
  have hlt : (L.take off).length = off := by rw [List.length_take]; omega
  by_cases h1 : i < off
  · rw [List.getElem?_append_left (by omega), List.getElem?_take, if_pos h1, if_neg (by omega)]
  · rw [List.getElem?_append_right (by omega), hlt]
    by_cases h2 : i < off + cs.length
    · rw [List.getElem?_append_left (by omega), if_pos (by omega)]
    · rw [List.getElem?_append_right (by omega), List.getElem?_drop, if_neg (by omega)]
      congr 1; omega

theorem fmt_built (a b c m N : Nat) (h4 : 4 ≤ m) (hN : m + 34 ≤ N) :
    ((splice (splice (List.replicate N 0) 0 [32762617960297063, a, b, c]) (m + 32) [2, 1]).set m 3).set (m + 8) 1 = fmtL a b c m N := by
  apply List.ext_getElem?
  intro i
  rw [List.getElem?_set, List.getElem?_set, List.length_set, length_splice _ _ _ (by rw [length_splice _ _ _ (by simp; omega)]; simp; omega), length_splice _ _ _ (by simp; omega), getElem?_splice _ _ _ _ (by rw [length_splice _ _ _ (by simp; omega)]; simp; omega), getElem?_splice _ _ _ _ (by simp; omega)]
  simp only [List.length_replicate, List.length_cons, List.length_nil]
  by_cases hi : i < N
  · rw [get_fmtL _ _ _ _ _ _ hi]
    unfold fmtAt
    by_cases e1 : i = m + 8
    · subst e1; rw [if_pos rfl, if_pos hi]; rw [if_neg (by omega), if_neg (by omega), if_neg (by omega), if_neg (by omega), if_neg (by omega), if_pos rfl]
    · rw [if_neg (by omega)]
      by_cases e2 : i = m
      · subst e2; rw [if_pos rfl, if_pos hi]; rw [if_neg (by omega), if_neg (by omega), if_neg (by omega), if_neg (by omega), if_pos rfl]
      · rw [if_neg (by omega)]
        by_cases e3 : i = m + 32
        · subst e3; rw [if_pos (by omega), Nat.sub_self, if_neg (by omega), if_neg (by omega), if_neg (by omega), if_neg (by omega), if_neg (by omega), if_neg (by omega), if_pos rfl]; rfl
        · by_cases e4 : i = m + 33
          · subst e4; rw [if_pos (by omega), show m + 33 - (m + 32) = 1 from by omega, if_neg (by omega), if_neg (by omega), if_neg (by omega), if_neg (by omega), if_neg (by omega), if_neg (by omega), if_neg (by omega), if_pos rfl]; rfl
          · rw [if_neg (by omega)]
            by_cases e5 : i < 4
            · rw [if_pos (by omega), Nat.sub_zero]
              have : i = 0 ∨ i = 1 ∨ i = 2 ∨ i = 3 := by omega
              rcases this with rfl | rfl | rfl | rfl <;> simp
            · rw [if_neg (by omega), if_neg (by omega), if_neg (by omega), if_neg (by omega), if_neg (by omega), if_neg (by omega), if_neg (by omega), if_neg (by omega), if_neg (by omega)]
              simp [hi]
  · rw [if_neg (by omega), if_neg (by omega), if_neg (by omega), if_neg (by omega), List.getElem?_eq_none (by simp; omega)]
    exact (List.getElem?_eq_none (by rw [length_fmtL]; omega)).symm

theorem fmtAt_lt (a b c m i : Nat) (ha : a < 1000) (hb : b < 1000) (hc : c < 1000) : fmtAt a b c m i < 18446744073709551616 := by
  unfold fmtAt
  repeat' split
  all_goals omega
theorem fmtL_lt (a b c m N : Nat) (ha : a < 1000) (hb : b < 1000) (hc : c < 1000) : ∀ n ∈ fmtL a b c m N, n < 18446744073709551616 := by
  intro n hn
  obtain ⟨i, _, rfl⟩ := List.mem_map.1 hn
  exact fmtAt_lt a b c m i ha hb hc

def whereV (a b c x : Int) : Int × Int × Int × Int :=
  if mayB a b c = true ∧ 0 ≤ x then
    let f := findR (placesR a b c) x
    if f.1 = 2 then let g := findR withinR f.2.2; (g.1, f.2.1, g.2.1, g.2.2) else (f.1, f.2.1, 0, f.2.2)
  else (0, 0, 0, 0)
end Go.Grommet
end
section
/- To what a word belongs, kind by kind. -/
namespace Go.Grommet
open Go

theorem findR_lt {r : Row} {t : List Row} {x : Int} (h : x < r.all) : findR (r :: t) x = (r.kind, x / r.size, x % r.size) := if_pos h
theorem findR_ge {r : Row} {t : List Row} {x : Int} (h : ¬ x < r.all) : findR (r :: t) x = findR t (x - r.all) := if_neg h

theorem find_places (a b c x : Int) : findR (placesR a b c) x =
    if x < 8 then (1, x / 8, x % 8) else if x < 264 then (2, (x - 8) / 64, (x - 8) % 64) else if x < 264 + 208 * a then (5, (x - 264) / 208, (x - 264) % 208)
    else if x < 272 + 208 * a then (6, (x - 264 - 208 * a) / 8, (x - 264 - 208 * a) % 8) else if x < 280 + 208 * a then (7, (x - 272 - 208 * a) / 8, (x - 272 - 208 * a) % 8)
    else if x < 280 + 208 * a + 16 * b then (8, (x - 280 - 208 * a) / 16, (x - 280 - 208 * a) % 16) else if x < 280 + 208 * a + 16 * b + 8 * c then (9, (x - 280 - 208 * a - 16 * b) / 8, (x - 280 - 208 * a - 16 * b) % 8) else (0, 0, 0) := by
  unfold placesR
  by_cases h0 : x < 8
  · rw [if_pos h0, findR_lt (by unfold Row.all; dsimp only; omega)]
  · by_cases h1 : x < 264
    · rw [if_neg h0, if_pos h1, findR_ge (by unfold Row.all; dsimp only; omega), findR_lt (by unfold Row.all; dsimp only; omega)]
      dsimp only [Row.all]
      rw [show x - 1 * 8 = x - 8 from by omega]
    · by_cases h2 : x < 264 + 208 * a
      · rw [if_neg h0, if_neg h1, if_pos h2, findR_ge (by unfold Row.all; dsimp only; omega), findR_ge (by unfold Row.all; dsimp only; omega), findR_lt (by unfold Row.all; dsimp only; omega)]
        dsimp only [Row.all]
        rw [show x - 1 * 8 - 4 * 64 = x - 264 from by omega]
      · by_cases h3 : x < 272 + 208 * a
        · rw [if_neg h0, if_neg h1, if_neg h2, if_pos h3, findR_ge (by unfold Row.all; dsimp only; omega), findR_ge (by unfold Row.all; dsimp only; omega), findR_ge (by unfold Row.all; dsimp only; omega), findR_lt (by unfold Row.all; dsimp only; omega)]
          dsimp only [Row.all]
          rw [show x - 1 * 8 - 4 * 64 - a * 208 = x - 264 - 208 * a from by omega]
        · by_cases h4 : x < 280 + 208 * a
          · rw [if_neg h0, if_neg h1, if_neg h2, if_neg h3, if_pos h4, findR_ge (by unfold Row.all; dsimp only; omega), findR_ge (by unfold Row.all; dsimp only; omega), findR_ge (by unfold Row.all; dsimp only; omega), findR_ge (by unfold Row.all; dsimp only; omega), findR_lt (by unfold Row.all; dsimp only; omega)]
            dsimp only [Row.all]
            rw [show x - 1 * 8 - 4 * 64 - a * 208 - 1 * 8 = x - 272 - 208 * a from by omega]
          · by_cases h5 : x < 280 + 208 * a + 16 * b
            · rw [if_neg h0, if_neg h1, if_neg h2, if_neg h3, if_neg h4, if_pos h5, findR_ge (by unfold Row.all; dsimp only; omega), findR_ge (by unfold Row.all; dsimp only; omega), findR_ge (by unfold Row.all; dsimp only; omega), findR_ge (by unfold Row.all; dsimp only; omega), findR_ge (by unfold Row.all; dsimp only; omega), findR_lt (by unfold Row.all; dsimp only; omega)]
              dsimp only [Row.all]
              rw [show x - 1 * 8 - 4 * 64 - a * 208 - 1 * 8 - 1 * 8 = x - 280 - 208 * a from by omega]
            · by_cases h6 : x < 280 + 208 * a + 16 * b + 8 * c
              · rw [if_neg h0, if_neg h1, if_neg h2, if_neg h3, if_neg h4, if_neg h5, if_pos h6, findR_ge (by unfold Row.all; dsimp only; omega), findR_ge (by unfold Row.all; dsimp only; omega), findR_ge (by unfold Row.all; dsimp only; omega), findR_ge (by unfold Row.all; dsimp only; omega), findR_ge (by unfold Row.all; dsimp only; omega), findR_ge (by unfold Row.all; dsimp only; omega), findR_lt (by unfold Row.all; dsimp only; omega)]
                dsimp only [Row.all]
                rw [show x - 1 * 8 - 4 * 64 - a * 208 - 1 * 8 - 1 * 8 - b * 16 = x - 280 - 208 * a - 16 * b from by omega]
              · rw [if_neg h0, if_neg h1, if_neg h2, if_neg h3, if_neg h4, if_neg h5, if_neg h6, findR_ge (by unfold Row.all; dsimp only; omega), findR_ge (by unfold Row.all; dsimp only; omega), findR_ge (by unfold Row.all; dsimp only; omega), findR_ge (by unfold Row.all; dsimp only; omega), findR_ge (by unfold Row.all; dsimp only; omega), findR_ge (by unfold Row.all; dsimp only; omega), findR_ge (by unfold Row.all; dsimp only; omega)]
                rfl

variable {a b c x : Int}

theorem wh_zero (h : ¬ (mayB a b c = true) ∨ x < 0 ∨ 280 + 208 * a + 16 * b + 8 * c ≤ x) : whereV a b c x = (0, 0, 0, 0) := by
  unfold whereV
  by_cases hm : mayB a b c = true ∧ 0 ≤ x
  · rw [if_pos hm]
    have hb := mayB_yes hm.1
    have hx : 280 + 208 * a + 16 * b + 8 * c ≤ x := by
      rcases h with h | h | h
      · exact absurd hm.1 h
      · omega
      · exact h
    have hf : findR (placesR a b c) x = (0, 0, 0) := by
      rw [find_places, if_neg (by omega), if_neg (by omega), if_neg (by omega), if_neg (by omega), if_neg (by omega), if_neg (by omega), if_neg (by omega)]
    rw [hf]
    rfl
  · rw [if_neg hm]

theorem wh_flat (hm : mayB a b c = true) (hx : 0 ≤ x) {k i r : Int} (hf : findR (placesR a b c) x = (k, i, r)) (hk : k ≠ 2) : whereV a b c x = (k, i, 0, r) := by
  unfold whereV
  rw [if_pos ⟨hm, hx⟩, hf]
  show (if k = 2 then _ else _) = _
  rw [if_neg hk]

theorem wh_area (hm : mayB a b c = true) (i : Int) (hi : 0 ≤ i ∧ i < a) (h0 : 264 + 208 * i ≤ x) (h1 : x < 264 + 208 * i + 208) : whereV a b c x = (5, i, 0, x - (264 + 208 * i)) := by
  have := wh_flat hm (by omega) (show findR (placesR a b c) x = (5, (x - 264) / 208, (x - 264) % 208) by rw [find_places, if_neg (by omega), if_neg (by omega), if_pos (by omega)]) (by decide)
  rw [this, show (x - 264) / 208 = i by omega, show (x - 264) % 208 = x - (264 + 208 * i) by omega]
theorem wh_block (hm : mayB a b c = true) (h0 : 280 + 208 * a + 16 * b ≤ x) (h1 : x < 280 + 208 * a + 16 * b + 8 * c) : whereV a b c x = (9, (x - (280 + 208 * a + 16 * b)) / 8, 0, (x - (280 + 208 * a + 16 * b)) % 8) := by
  have := mayB_yes hm
  have := wh_flat hm (by omega) (show findR (placesR a b c) x = (9, (x - 280 - 208 * a - 16 * b) / 8, (x - 280 - 208 * a - 16 * b) % 8) by rw [find_places, if_neg (by omega), if_neg (by omega), if_neg (by omega), if_neg (by omega), if_neg (by omega), if_neg (by omega), if_pos h1]) (by decide)
  rw [this, show x - 280 - 208 * a - 16 * b = x - (280 + 208 * a + 16 * b) by omega]
end Go.Grommet
end
