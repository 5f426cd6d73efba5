/- Package layout: sums, starts, finds. -/
import Derived.Test.YthcaeepngdohfaaLayA
-- OPTIONAL
namespace Go.Proofs.Ythcaeepngdohfaa
open Go.RowKit Go.Grommet

set_option maxHeartbeats 1000000 in
theorem rowWords_any (r : Row) (w : World) (h : r.ok) : Calls Try.prog 42 #[rv r] w (IntIs r.all w) := by
  have hb := all_bd r h
  unfold Row.all at hb
  unfold Row.all rv
  obtain ⟨k, m, s⟩ := r
  dsimp only at hb ⊢
  have hw : IntKind.i64.wrap (m * s) = m * s := IntWalk.i64_in _ ⟨by omega, by omega⟩
  have HW := Lib.hid hw
  clear hb h
  go_enter Try.func42, Try.ntmps42
  go_wp2
  try rw [HW.out]
  go_ret
  exact ⟨rfl, World.grownBy_alloc w _ none⟩

/-- A table, or its beginning, in memory. -/
def Tab (w : World) (g : Nat) (l : List Row) : Prop := w.heap[g]? = some (.cells (l.flatMap rowCells).toArray 73 (0, 0))

theorem Tab.keep {w w' : World} {g : Nat} {l : List Row} (h : Tab w g l) (hg : w.grownBy w' none) : Tab w' g l :=
  (hg.block g (lt_of_block h) (by simp)).trans h

theorem flat_get (l : List Row) (k : Nat) (r : Row) (h : l[k]? = some r) : (l.flatMap rowCells)[k * 3]? = some (.int .u8 r.kind) ∧ (l.flatMap rowCells)[k * 3 + 1]? = some (.int .i64 r.many) ∧ (l.flatMap rowCells)[k * 3 + 2]? = some (.int .i64 r.size) := by
  induction l generalizing k with
  | nil => simp at h
  | cons x t ih =>
    cases k with
    | zero =>
      simp at h; subst h
      simp [rowCells]
    | succ j =>
      simp only [List.getElem?_cons_succ] at h
      obtain ⟨h0, h1, h2⟩ := ih j h
      have e : (j + 1) * 3 = j * 3 + 3 := by omega
      rw [e]
      simp only [List.flatMap_cons, rowCells, List.cons_append, List.nil_append]
      exact ⟨h0, h1, h2⟩

theorem Tab.cells {w : World} {g : Nat} {l : List Row} (h : Tab w g l) (k : Nat) (r : Row) (hk : l[k]? = some r) :
    w.cell? ⟨g, k * 3, none⟩ = some (.int .u8 r.kind) ∧ w.cell? ⟨g, k * 3 + 1, none⟩ = some (.int .i64 r.many) ∧ w.cell? ⟨g, k * 3 + 2, none⟩ = some (.int .i64 r.size) := by
  obtain ⟨h0, h1, h2⟩ := flat_get l k r hk
  unfold Tab at h
  refine ⟨?_, ?_, ?_⟩ <;> simp [World.cell?, h, h0, h1, h2]

/-- What 'start' answers. -/
theorem startR_none (k i acc : Int) : startR [] k i acc = -1 := rfl

def FindIs (v : Int × Int × Int) (w : World) (e : Ending) (w' : World) : Prop := e = .returned (.tuple #[.int .u8 v.1, .int .i64 v.2.1, .int .i64 v.2.2]) ∧ w.grownBy w' none

theorem findR_nil (x : Int) : findR [] x = (0, 0, 0) := rfl

set_option maxHeartbeats 2000000 in
theorem find_any (g : Nat) (l : List Row) (n : Nat) (x : Int) (w : World) (h : Tab w g l) (hn : l.length = n) (hl : n ≤ 10) (hok : ∀ r ∈ l, r.ok) (hx0 : 0 ≤ x) (hx1 : x ≤ 9223372036854775807) :
    Calls Try.prog 29 #[.slice (some ⟨g, 0, none⟩) n n, .int .i64 x] w (FindIs (findR l x) w) := by
  have HN := Lib.hid hn
  have hx2 : ¬ x < 0 := by omega
  have Hx1 := Lib.hid hx1
  clear hx1
  go_enter Try.func29, Try.ntmps29
  go_wp2_with fail
  go_loopw [1, 13] (fun y c wr => ∃ (k : Nat) (v : Int), k ≤ n ∧ c = .int .i64 (k : Int) ∧ y = .int .i64 v ∧ 0 ≤ v ∧ v ≤ x ∧ findR l x = findR (l.drop k) v ∧ w.grownBy wr none) (fun _ c _ => n - (intOf c).toNat)
  case atStart => exact ⟨0, x, Nat.zero_le _, rfl, rfl, hx0, Int.le_refl _, rfl, World.grownBy.refl _ _⟩
  case round =>
    obtain ⟨k, v, hk, rfl, rfl, hv0, hvx, hR, hg⟩ := hrel
    by_cases hlt : k < n
    · have hlt' : (k : Int) < (n : Int) := by omega
      have h0 : (0 : Int) ≤ (k : Int) := by omega
      obtain ⟨r, hr⟩ : ∃ r, l[k]? = some r := ⟨_, List.getElem?_eq_getElem (by omega)⟩
      obtain ⟨c0, c1, c2⟩ := (h.keep hg).cells k r hr
      have hro := hok r (List.mem_of_getElem? hr)
      rw [findR_drop l k r v hr] at hR
      have hb2 := all_bd r hro
      have HW := Lib.hid (fun wx => rowWords_any r wx hro)
      obtain ⟨_, _, hm0, hm1, hs0, hs1⟩ := hro
      by_cases hf : v < r.all
      · rw [if_pos hf] at hR
        have HR := Lib.hid hR
        have HX := Hx1.out
        have t1 : v.tdiv r.size = v / r.size := Int.tdiv_eq_ediv_of_nonneg hv0
        have t2 : v.tmod r.size = v % r.size := Int.tmod_eq_emod_of_nonneg hv0
        have q1 : 0 ≤ v / r.size := Int.ediv_nonneg hv0 (by omega)
        have q2 : v / r.size ≤ v := Int.ediv_le_self _ hv0
        have q3 : 0 ≤ v % r.size := Int.emod_nonneg _ (by omega)
        have q4 : v % r.size < r.size := Int.emod_lt_of_pos _ (by omega)
        have t3 : IntKind.i64.wrap (v / r.size) = v / r.size := IntWalk.i64_in _ ⟨by omega, by omega⟩
        have t4 : IntKind.i64.wrap (v % r.size) = v % r.size := IntWalk.i64_in _ ⟨by omega, by omega⟩
        have hz : (r.size == 0) = false := by simp; omega
        clear hR hr hm0 hm1 HX q1 q2 q3 q4
        go_wp2_with fail
        refine (HW.out _).mono ?_
        rintro e w1 ⟨rfl, hg1⟩
        have f : w1.heap[wr.heap.size]? = some (.cells #[.int .u8 r.kind, .int .i64 r.many, .int .i64 r.size] 73 (0, 0)) := (hg1.block _ (by simp) (by simp)).trans (heap_alloc_new wr _)
        have f0 : w1.cell? ⟨wr.heap.size, 0, none⟩ = some (.int .u8 r.kind) := by simp [World.cell?, f]
        have f2 : w1.cell? ⟨wr.heap.size, 2, none⟩ = some (.int .i64 r.size) := by simp [World.cell?, f]
        have hg := grown_trans hg (grown_trans (World.grownBy_alloc wr _ none) hg1)
        clear hg1 HW f
        go_wp2_with fail
        go_quiet (fail)
        go_wp2
        go_ret3
        rw [HR.out]
        exact ⟨rfl, grown_trans hg (grown_drewN _ _ _)⟩
      · rw [if_neg hf] at hR
        have HR := Lib.hid hR
        have HX := Hx1.out
        have t3 : IntKind.i64.wrap (v - r.all) = v - r.all := IntWalk.i64_in _ ⟨by omega, by omega⟩
        clear hR hr hm0 hm1 HX hs0 hs1
        go_wp2_with fail
        refine (HW.out _).mono ?_
        rintro e w1 ⟨rfl, hg1⟩
        have f : w1.heap[wr.heap.size]? = some (.cells #[.int .u8 r.kind, .int .i64 r.many, .int .i64 r.size] 73 (0, 0)) := (hg1.block _ (by simp) (by simp)).trans (heap_alloc_new wr _)
        have f0 : w1.cell? ⟨wr.heap.size, 0, none⟩ = some (.int .u8 r.kind) := by simp [World.cell?, f]
        have f1 : w1.cell? ⟨wr.heap.size, 1, none⟩ = some (.int .i64 r.many) := by simp [World.cell?, f]
        have f2 : w1.cell? ⟨wr.heap.size, 2, none⟩ = some (.int .i64 r.size) := by simp [World.cell?, f]
        have hg := grown_trans hg (grown_trans (World.grownBy_alloc wr _ none) hg1)
        clear hg1 f
        go_wp2_with fail
        refine (HW.out _).mono ?_
        rintro e w2 ⟨rfl, hg1⟩
        have hg := grown_trans hg hg1
        clear hg1 HW
        go_wp2
        go_roundw
        case rel => exact ⟨k + 1, v - r.all, by omega, by go_num, rfl, by omega, by omega, HR.out, hg⟩
        case measure => simp [intOf]; omega
    · obtain rfl : k = n := by omega
      have hlt' : ¬ (k : Int) < (k : Int) := by omega
      have hE : FindIs (findR l x) w (.returned (.tuple #[.int .u8 0, .int .i64 0, .int .i64 0])) wr := ⟨by rw [hR, List.drop_of_length_le (by rw [HN.out]; exact Nat.le_refl _)]; rfl, hg⟩
      have HE := Lib.hid hE
      clear hR hE
      go_wp2
      go_ret3
      exact HE.out
end Go.Proofs.Ythcaeepngdohfaa
