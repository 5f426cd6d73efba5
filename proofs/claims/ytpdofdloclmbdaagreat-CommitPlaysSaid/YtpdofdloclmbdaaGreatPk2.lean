/- Texts of ours, packed. -/
import Derived.RowKit
section
/- Where everything stands: plain mathematics. -/
namespace Go.Grommet
open Go

/-- A row of the table of places. -/
structure Row where
  kind : Int
  many : Int
  size : Int

def Row.all (r : Row) : Int := r.many * r.size
/-- Rows whose numbers are small. -/
def Row.ok (r : Row) : Prop := 0 ≤ r.kind ∧ r.kind ≤ 9 ∧ 0 ≤ r.many ∧ r.many ≤ 1000 ∧ 1 ≤ r.size ∧ r.size ≤ 1000

def sumR : List Row → Int
  | [] => 0
  | r :: t => r.all + sumR t

def startR : List Row → Int → Int → Int → Int
  | [], _, _, _ => -1
  | r :: t, k, i, acc => if r.kind = k ∧ 0 ≤ i ∧ i < r.many then acc + i * r.size else startR t k i (acc + r.all)

def findR : List Row → Int → Int × Int × Int
  | [], _ => (0, 0, 0)
  | r :: t, at_ => if at_ < r.all then (r.kind, at_ / r.size, at_ % r.size) else findR t (at_ - r.all)

theorem sumR_append (a b : List Row) : sumR (a ++ b) = sumR a + sumR b := by
  induction a with
  | nil => simp [sumR]
  | cons r t ih => simp [sumR, ih]; omega

theorem all_bd (r : Row) (h : r.ok) : 0 ≤ r.all ∧ r.all ≤ 1000000 := by
  obtain ⟨_, _, h1, h2, h3, h4⟩ := h
  unfold Row.all
  constructor
  · exact Int.mul_nonneg h1 (by omega)
  · have := Int.mul_le_mul h2 h4 (by omega) (by omega)
    omega

theorem sumR_bd (l : List Row) (h : ∀ r ∈ l, r.ok) : 0 ≤ sumR l ∧ sumR l ≤ 1000000 * (l.length : Int) := by
  induction l with
  | nil => simp [sumR]
  | cons r t ih =>
    have a := all_bd r (h r (by simp))
    have b := ih (fun x hx => h x (by simp [hx]))
    simp only [sumR, List.length_cons]
    omega

theorem sumR_snoc (l : List Row) (k : Nat) (r : Row) (h : l[k]? = some r) : sumR (l.take (k + 1)) = sumR (l.take k) + r.all := by
  rw [List.take_add_one, h, sumR_append]
  simp [sumR]

theorem startR_drop (l : List Row) (n : Nat) (r : Row) (k i : Int) (acc : Int) (h : l[n]? = some r) : startR (l.drop n) k i acc = if r.kind = k ∧ 0 ≤ i ∧ i < r.many then acc + i * r.size else startR (l.drop (n + 1)) k i (acc + r.all) := by
  have hn := (List.getElem?_eq_some_iff.1 h)
  obtain ⟨hn, he⟩ := hn
  rw [List.drop_eq_getElem_cons hn, he, startR]

theorem findR_drop (l : List Row) (n : Nat) (r : Row) (x : Int) (h : l[n]? = some r) : findR (l.drop n) x = if x < r.all then (r.kind, x / r.size, x % r.size) else findR (l.drop (n + 1)) (x - r.all) := by
  obtain ⟨hn, he⟩ := List.getElem?_eq_some_iff.1 h
  rw [List.drop_eq_getElem_cons hn, he, findR]

def placesR (a b c : Int) : List Row := [⟨1, 1, 8⟩, ⟨2, 4, 64⟩, ⟨5, a, 208⟩, ⟨6, 1, 8⟩, ⟨7, 1, 8⟩, ⟨8, b, 16⟩, ⟨9, c, 8⟩]
def withinR : List Row := [⟨2, 1, 8⟩, ⟨3, 4, 12⟩, ⟨4, 4, 2⟩]

def mayB (a b c : Int) : Bool := decide (1 ≤ a ∧ a ≤ 4 ∧ 2 ≤ b ∧ b ≤ 64 ∧ 2 ≤ c ∧ c ≤ 512)

theorem mayB_yes {a b c : Int} (h : mayB a b c = true) : 1 ≤ a ∧ a ≤ 4 ∧ 2 ≤ b ∧ b ≤ 64 ∧ 2 ≤ c ∧ c ≤ 512 := by simpa [mayB] using h

theorem places_ok {a b c : Int} (h : mayB a b c = true) : ∀ r ∈ placesR a b c, r.ok := by
  have := mayB_yes h
  intro r hr
  simp only [placesR, List.mem_cons, List.not_mem_nil, or_false] at hr
  unfold Row.ok
  rcases hr with rfl | rfl | rfl | rfl | rfl | rfl | rfl <;> dsimp only <;> omega
theorem within_ok : ∀ r ∈ withinR, r.ok := by
  intro r hr
  simp only [withinR, List.mem_cons, List.not_mem_nil, or_false] at hr
  unfold Row.ok
  rcases hr with rfl | rfl | rfl <;> dsimp only <;> omega

/-- What the calls answer. -/
def wordsV (a b c : Int) : Int := if mayB a b c = true then 280 + 208 * a + 16 * b + 8 * c else 0
def sessionV (i : Int) : Int := if 0 ≤ i ∧ i < 4 then 8 + 64 * i else -1
def slotV (i k : Int) : Int := if (0 ≤ i ∧ i < 4) ∧ 0 ≤ k ∧ k < 4 then 16 + 64 * i + 12 * k else -1
def descV (i k : Int) : Int := if (0 ≤ i ∧ i < 4) ∧ 0 ≤ k ∧ k < 4 then 64 + 64 * i + 2 * k else -1
def areaV (a b c i : Int) : Int := if mayB a b c = true ∧ 0 ≤ i ∧ i < a then 264 + 208 * i else -1
def imapV (a b c : Int) : Int := if mayB a b c = true then 264 + 208 * a else -1
def bmapV (a b c : Int) : Int := if mayB a b c = true then 272 + 208 * a else -1
def inodeV (a b c i : Int) : Int := if mayB a b c = true ∧ 0 ≤ i ∧ i < b then 280 + 208 * a + 16 * i else -1
def blockV (a b c i : Int) : Int := if mayB a b c = true ∧ 0 ≤ i ∧ i < c then 280 + 208 * a + 16 * b + 8 * i else -1

theorem sum_places (a b c : Int) : sumR (placesR a b c) = 280 + 208 * a + 16 * b + 8 * c := by
  simp [sumR, placesR, Row.all]; omega

theorem start_area (a b c i : Int) : startR (placesR a b c) 5 i 0 = if 0 ≤ i ∧ i < a then 264 + 208 * i else -1 := by
  simp only [placesR, startR, Row.all]
  by_cases h : 0 ≤ i ∧ i < a
  · simp [h]; omega
  · simp [h]
theorem start_block (a b c i : Int) : startR (placesR a b c) 9 i 0 = if 0 ≤ i ∧ i < c then 280 + 208 * a + 16 * b + 8 * i else -1 := by
  simp only [placesR, startR, Row.all]
  by_cases h : 0 ≤ i ∧ i < c
  · simp [h]; omega
  · simp [h]
end Go.Grommet
end
