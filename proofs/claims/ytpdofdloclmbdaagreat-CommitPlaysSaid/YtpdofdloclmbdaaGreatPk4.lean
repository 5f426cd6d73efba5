/- Texts of ours, packed. -/
import Derived.Laws.CopyOwn
import Derived.Test.YtpdofdloclmbdaaGreatPk2
section
/- The words of a new device: plain mathematics. -/
namespace Go.Grommet
open Go

/-- The words of a new device, by their numbers: N of them; m: where the maps begin. -/
def fmtAt (a b c m : Nat) (i : Nat) : Nat :=
  if i = 0 then 32762617960297063 else if i = 1 then a else if i = 2 then b else if i = 3 then c
  else if i = m then 3 else if i = m + 8 then 1 else if i = m + 32 then 2 else if i = m + 33 then 1 else 0
def fmtL (a b c m N : Nat) : List Nat := (List.range N).map (fmtAt a b c m)

theorem length_fmtL (a b c m N : Nat) : (fmtL a b c m N).length = N := by simp [fmtL]
theorem fmtAt_lt (a b c m i : Nat) (ha : a < 1000) (hb : b < 1000) (hc : c < 1000) : fmtAt a b c m i < 18446744073709551616 := by
  unfold fmtAt
  repeat' split
  all_goals omega
theorem fmtL_lt (a b c m N : Nat) (ha : a < 1000) (hb : b < 1000) (hc : c < 1000) : ∀ n ∈ fmtL a b c m N, n < 18446744073709551616 := by
  intro n hn
  obtain ⟨i, _, rfl⟩ := List.mem_map.1 hn
  exact fmtAt_lt a b c m i ha hb hc

def whereV (a b c x : Int) : Int × Int × Int × Int :=
  if mayB a b c = true ∧ 0 ≤ x then
    let f := findR (placesR a b c) x
    if f.1 = 2 then let g := findR withinR f.2.2; (g.1, f.2.1, g.2.1, g.2.2) else (f.1, f.2.1, 0, f.2.2)
  else (0, 0, 0, 0)
end Go.Grommet
end
section
/- To what a word belongs, kind by kind. -/
namespace Go.Grommet
open Go

theorem findR_lt {r : Row} {t : List Row} {x : Int} (h : x < r.all) : findR (r :: t) x = (r.kind, x / r.size, x % r.size) := if_pos h
theorem findR_ge {r : Row} {t : List Row} {x : Int} (h : ¬ x < r.all) : findR (r :: t) x = findR t (x - r.all) := if_neg h

theorem find_places (a b c x : Int) : findR (placesR a b c) x =
    if x < 8 then (1, x / 8, x % 8) else if x < 264 then (2, (x - 8) / 64, (x - 8) % 64) else if x < 264 + 208 * a then (5, (x - 264) / 208, (x - 264) % 208)
    else if x < 272 + 208 * a then (6, (x - 264 - 208 * a) / 8, (x - 264 - 208 * a) % 8) else if x < 280 + 208 * a then (7, (x - 272 - 208 * a) / 8, (x - 272 - 208 * a) % 8)
    else if x < 280 + 208 * a + 16 * b then (8, (x - 280 - 208 * a) / 16, (x - 280 - 208 * a) % 16) else if x < 280 + 208 * a + 16 * b + 8 * c then (9, (x - 280 - 208 * a - 16 * b) / 8, (x - 280 - 208 * a - 16 * b) % 8) else (0, 0, 0) := by
  unfold placesR
  by_cases h0 : x < 8
  · rw [if_pos h0, findR_lt (by unfold Row.all; dsimp only; omega)]
  · by_cases h1 : x < 264
    · rw [if_neg h0, if_pos h1, findR_ge (by unfold Row.all; dsimp only; omega), findR_lt (by unfold Row.all; dsimp only; omega)]
      dsimp only [Row.all]
      rw [show x - 1 * 8 = x - 8 from by omega]
    · by_cases h2 : x < 264 + 208 * a
      · rw [if_neg h0, if_neg h1, if_pos h2, findR_ge (by unfold Row.all; dsimp only; omega), findR_ge (by unfold Row.all; dsimp only; omega), findR_lt (by unfold Row.all; dsimp only; omega)]
        dsimp only [Row.all]
        rw [show x - 1 * 8 - 4 * 64 = x - 264 from by omega]
      · by_cases h3 : x < 272 + 208 * a
        · rw [if_neg h0, if_neg h1, if_neg h2, if_pos h3, findR_ge (by unfold Row.all; dsimp only; omega), findR_ge (by unfold Row.all; dsimp only; omega), findR_ge (by unfold Row.all; dsimp only; omega), findR_lt (by unfold Row.all; dsimp only; omega)]
          dsimp only [Row.all]
          rw [show x - 1 * 8 - 4 * 64 - a * 208 = x - 264 - 208 * a from by omega]
        · by_cases h4 : x < 280 + 208 * a
          · rw [if_neg h0, if_neg h1, if_neg h2, if_neg h3, if_pos h4, findR_ge (by unfold Row.all; dsimp only; omega), findR_ge (by unfold Row.all; dsimp only; omega), findR_ge (by unfold Row.all; dsimp only; omega), findR_ge (by unfold Row.all; dsimp only; omega), findR_lt (by unfold Row.all; dsimp only; omega)]
            dsimp only [Row.all]
            rw [show x - 1 * 8 - 4 * 64 - a * 208 - 1 * 8 = x - 272 - 208 * a from by omega]
          · by_cases h5 : x < 280 + 208 * a + 16 * b
            · rw [if_neg h0, if_neg h1, if_neg h2, if_neg h3, if_neg h4, if_pos h5, findR_ge (by unfold Row.all; dsimp only; omega), findR_ge (by unfold Row.all; dsimp only; omega), findR_ge (by unfold Row.all; dsimp only; omega), findR_ge (by unfold Row.all; dsimp only; omega), findR_ge (by unfold Row.all; dsimp only; omega), findR_lt (by unfold Row.all; dsimp only; omega)]
              dsimp only [Row.all]
              rw [show x - 1 * 8 - 4 * 64 - a * 208 - 1 * 8 - 1 * 8 = x - 280 - 208 * a from by omega]
            · by_cases h6 : x < 280 + 208 * a + 16 * b + 8 * c
              · rw [if_neg h0, if_neg h1, if_neg h2, if_neg h3, if_neg h4, if_neg h5, if_pos h6, findR_ge (by unfold Row.all; dsimp only; omega), findR_ge (by unfold Row.all; dsimp only; omega), findR_ge (by unfold Row.all; dsimp only; omega), findR_ge (by unfold Row.all; dsimp only; omega), findR_ge (by unfold Row.all; dsimp only; omega), findR_ge (by unfold Row.all; dsimp only; omega), findR_lt (by unfold Row.all; dsimp only; omega)]
                dsimp only [Row.all]
                rw [show x - 1 * 8 - 4 * 64 - a * 208 - 1 * 8 - 1 * 8 - b * 16 = x - 280 - 208 * a - 16 * b from by omega]
              · rw [if_neg h0, if_neg h1, if_neg h2, if_neg h3, if_neg h4, if_neg h5, if_neg h6, findR_ge (by unfold Row.all; dsimp only; omega), findR_ge (by unfold Row.all; dsimp only; omega), findR_ge (by unfold Row.all; dsimp only; omega), findR_ge (by unfold Row.all; dsimp only; omega), findR_ge (by unfold Row.all; dsimp only; omega), findR_ge (by unfold Row.all; dsimp only; omega), findR_ge (by unfold Row.all; dsimp only; omega)]
                rfl

theorem find_within (r : Int) : findR withinR r = if r < 8 then (2, r / 8, r % 8) else if r < 56 then (3, (r - 8) / 12, (r - 8) % 12) else if r < 64 then (4, (r - 56) / 2, (r - 56) % 2) else (0, 0, 0) := by
  unfold withinR
  by_cases h0 : r < 8
  · rw [if_pos h0, findR_lt (by unfold Row.all; dsimp only; omega)]
  · by_cases h1 : r < 56
    · rw [if_neg h0, if_pos h1, findR_ge (by unfold Row.all; dsimp only; omega), findR_lt (by unfold Row.all; dsimp only; omega)]
      dsimp only [Row.all]
      rw [show r - 1 * 8 = r - 8 from by omega]
    · by_cases h2 : r < 64
      · rw [if_neg h0, if_neg h1, if_pos h2, findR_ge (by unfold Row.all; dsimp only; omega), findR_ge (by unfold Row.all; dsimp only; omega), findR_lt (by unfold Row.all; dsimp only; omega)]
        dsimp only [Row.all]
        rw [show r - 1 * 8 - 4 * 12 = r - 56 from by omega]
      · rw [if_neg h0, if_neg h1, if_neg h2, findR_ge (by unfold Row.all; dsimp only; omega), findR_ge (by unfold Row.all; dsimp only; omega), findR_ge (by unfold Row.all; dsimp only; omega)]
        rfl

variable {a b c x : Int}

theorem wh_zero (h : ¬ (mayB a b c = true) ∨ x < 0 ∨ 280 + 208 * a + 16 * b + 8 * c ≤ x) : whereV a b c x = (0, 0, 0, 0) := by
  unfold whereV
  by_cases hm : mayB a b c = true ∧ 0 ≤ x
  · rw [if_pos hm]
    have hb := mayB_yes hm.1
    have hx : 280 + 208 * a + 16 * b + 8 * c ≤ x := by
      rcases h with h | h | h
      · exact absurd hm.1 h
      · omega
      · exact h
    have hf : findR (placesR a b c) x = (0, 0, 0) := by
      rw [find_places, if_neg (by omega), if_neg (by omega), if_neg (by omega), if_neg (by omega), if_neg (by omega), if_neg (by omega), if_neg (by omega)]
    rw [hf]
    rfl
  · rw [if_neg hm]

theorem wh_flat (hm : mayB a b c = true) (hx : 0 ≤ x) {k i r : Int} (hf : findR (placesR a b c) x = (k, i, r)) (hk : k ≠ 2) : whereV a b c x = (k, i, 0, r) := by
  unfold whereV
  rw [if_pos ⟨hm, hx⟩, hf]
  show (if k = 2 then _ else _) = _
  rw [if_neg hk]

theorem wh_super (hm : mayB a b c = true) (hx : 0 ≤ x) (h : x < 8) : whereV a b c x = (1, 0, 0, x) := by
  have := wh_flat hm hx (show findR (placesR a b c) x = (1, x / 8, x % 8) by rw [find_places, if_pos h]) (by decide)
  rw [this, show x / 8 = 0 by omega, show x % 8 = x by omega]

theorem wh_session (hm : mayB a b c = true) (h0 : 8 ≤ x) (h1 : x < 264) {k j r : Int} (hf : findR withinR ((x - 8) % 64) = (k, j, r)) : whereV a b c x = (k, (x - 8) / 64, j, r) := by
  have hp : findR (placesR a b c) x = (2, (x - 8) / 64, (x - 8) % 64) := by rw [find_places, if_neg (by omega), if_pos h1]
  unfold whereV
  rw [if_pos ⟨hm, by omega⟩, hp]
  show (if (2 : Int) = 2 then _ else _) = _
  rw [if_pos rfl]
  dsimp only
  rw [hf]

theorem wh_slot (hm : mayB a b c = true) (i k : Int) (hi : 0 ≤ i ∧ i < 4) (hk : 0 ≤ k ∧ k < 4) (h0 : 16 + 64 * i + 12 * k ≤ x) (h1 : x < 16 + 64 * i + 12 * k + 12) : whereV a b c x = (3, i, k, x - (16 + 64 * i + 12 * k)) := by
  obtain rfl | rfl | rfl | rfl : i = 0 ∨ i = 1 ∨ i = 2 ∨ i = 3 := by omega
  all_goals
    obtain rfl | rfl | rfl | rfl : k = 0 ∨ k = 1 ∨ k = 2 ∨ k = 3 := by omega
  all_goals
    have hf : findR withinR ((x - 8) % 64) = (3, ((x - 8) % 64 - 8) / 12, ((x - 8) % 64 - 8) % 12) := by rw [find_within, if_neg (by omega), if_pos (by omega)]
    rw [wh_session hm (by omega) (by omega) hf]
    simp only [Prod.mk.injEq, true_and]
    refine ⟨?_, ?_, ?_⟩ <;> omega
theorem wh_desc (hm : mayB a b c = true) (i k : Int) (hi : 0 ≤ i ∧ i < 4) (hk : 0 ≤ k ∧ k < 4) (h0 : 64 + 64 * i + 2 * k ≤ x) (h1 : x < 64 + 64 * i + 2 * k + 2) : whereV a b c x = (4, i, k, x - (64 + 64 * i + 2 * k)) := by
  obtain rfl | rfl | rfl | rfl : i = 0 ∨ i = 1 ∨ i = 2 ∨ i = 3 := by omega
  all_goals
    obtain rfl | rfl | rfl | rfl : k = 0 ∨ k = 1 ∨ k = 2 ∨ k = 3 := by omega
  all_goals
    have hf : findR withinR ((x - 8) % 64) = (4, ((x - 8) % 64 - 56) / 2, ((x - 8) % 64 - 56) % 2) := by rw [find_within, if_neg (by omega), if_neg (by omega), if_pos (by omega)]
    rw [wh_session hm (by omega) (by omega) hf]
    simp only [Prod.mk.injEq, true_and]
    refine ⟨?_, ?_, ?_⟩ <;> omega
theorem wh_head (hm : mayB a b c = true) (i : Int) (hi : 0 ≤ i ∧ i < 4) (h0 : 8 + 64 * i ≤ x) (h1 : x < 16 + 64 * i) : whereV a b c x = (2, i, 0, x - (8 + 64 * i)) := by
  have hf : findR withinR ((x - 8) % 64) = (2, (x - 8) % 64 / 8, (x - 8) % 64 % 8) := by rw [find_within, if_pos (by omega)]
  rw [wh_session hm (by omega) (by omega) hf, show (x - 8) / 64 = i by omega, show ((x - 8) % 64) / 8 = 0 by omega, show ((x - 8) % 64) % 8 = x - (8 + 64 * i) by omega]
theorem wh_area (hm : mayB a b c = true) (i : Int) (hi : 0 ≤ i ∧ i < a) (h0 : 264 + 208 * i ≤ x) (h1 : x < 264 + 208 * i + 208) : whereV a b c x = (5, i, 0, x - (264 + 208 * i)) := by
  have := wh_flat hm (by omega) (show findR (placesR a b c) x = (5, (x - 264) / 208, (x - 264) % 208) by rw [find_places, if_neg (by omega), if_neg (by omega), if_pos (by omega)]) (by decide)
  rw [this, show (x - 264) / 208 = i by omega, show (x - 264) % 208 = x - (264 + 208 * i) by omega]
theorem wh_imap (hm : mayB a b c = true) (h0 : 264 + 208 * a ≤ x) (h1 : x < 272 + 208 * a) : whereV a b c x = (6, 0, 0, x - (264 + 208 * a)) := by
  have := mayB_yes hm
  have := wh_flat hm (by omega) (show findR (placesR a b c) x = (6, (x - 264 - 208 * a) / 8, (x - 264 - 208 * a) % 8) by rw [find_places, if_neg (by omega), if_neg (by omega), if_neg (by omega), if_pos h1]) (by decide)
  rw [this, show (x - 264 - 208 * a) / 8 = 0 by omega, show (x - 264 - 208 * a) % 8 = x - (264 + 208 * a) by omega]
theorem wh_bmap (hm : mayB a b c = true) (h0 : 272 + 208 * a ≤ x) (h1 : x < 280 + 208 * a) : whereV a b c x = (7, 0, 0, x - (264 + 208 * a) - 8) := by
  have := mayB_yes hm
  have := wh_flat hm (by omega) (show findR (placesR a b c) x = (7, (x - 272 - 208 * a) / 8, (x - 272 - 208 * a) % 8) by rw [find_places, if_neg (by omega), if_neg (by omega), if_neg (by omega), if_neg (by omega), if_pos h1]) (by decide)
  rw [this, show (x - 272 - 208 * a) / 8 = 0 by omega, show (x - 272 - 208 * a) % 8 = x - (264 + 208 * a) - 8 by omega]
theorem wh_inode (hm : mayB a b c = true) (h0 : 280 + 208 * a ≤ x) (h1 : x < 280 + 208 * a + 16 * b) : whereV a b c x = (8, (x - (280 + 208 * a)) / 16, 0, (x - (280 + 208 * a)) % 16) := by
  have := mayB_yes hm
  have := wh_flat hm (by omega) (show findR (placesR a b c) x = (8, (x - 280 - 208 * a) / 16, (x - 280 - 208 * a) % 16) by rw [find_places, if_neg (by omega), if_neg (by omega), if_neg (by omega), if_neg (by omega), if_neg (by omega), if_pos h1]) (by decide)
  rw [this, show x - 280 - 208 * a = x - (280 + 208 * a) by omega]
theorem wh_block (hm : mayB a b c = true) (h0 : 280 + 208 * a + 16 * b ≤ x) (h1 : x < 280 + 208 * a + 16 * b + 8 * c) : whereV a b c x = (9, (x - (280 + 208 * a + 16 * b)) / 8, 0, (x - (280 + 208 * a + 16 * b)) % 8) := by
  have := mayB_yes hm
  have := wh_flat hm (by omega) (show findR (placesR a b c) x = (9, (x - 280 - 208 * a - 16 * b) / 8, (x - 280 - 208 * a - 16 * b) % 8) by rw [find_places, if_neg (by omega), if_neg (by omega), if_neg (by omega), if_neg (by omega), if_neg (by omega), if_neg (by omega), if_pos h1]) (by decide)
  rw [this, show x - 280 - 208 * a - 16 * b = x - (280 + 208 * a + 16 * b) by omega]
end Go.Grommet
end
