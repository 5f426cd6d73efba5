/- Package lock: a table and its queues, each a row in a block of its own: has, Holds, Index, Contains. -/
import Derived.Test.YtclicjdgkcnihaaRows
import Derived.Test.YtclicjdgkcnihaaHeap
import Derived.Test.YtclicjdgkcnihaaSame
import Derived.Test.YtclicjdgkcnihaaApp
import Derived.Test.YtclicjdgkcnihaaBase6
import Derived.Test.YtclicjdgkcnihaaBase5
import Derived.ArgAppend
import Derived.Lib.SliceRun
import Derived.BigQuiet
import Derived.Deep.QuietTactic
namespace Go.Proofs.Ytclicjdgkcnihaa
open Go.RowKit Go.Grommet

/-- The cells of a table: how many workers, who holds each lock, its queue. -/
def tcell (m : Nat) (f : Nat → Int) (q : Nat → Value) (j : Nat) : Value := if j = 0 then .int .i64 (m : Int) else if j % 2 = 1 then .int .i64 (f (j / 2)) else q (j / 2 - 1)
def tabC (m : Nat) (f : Nat → Int) (q : Nat → Value) : Array Value := ((List.range 141).map (tcell m f q)).toArray
theorem tabC_get (m : Nat) (f : Nat → Int) (q : Nat → Value) (j : Nat) (h : j < 141) : (tabC m f q)[j]? = some (tcell m f q j) := by
  unfold tabC; rw [List.getElem?_toArray, List.getElem?_map, List.getElem?_range h]; rfl
theorem tabC_size (m : Nat) (f : Nat → Int) (q : Nat → Value) : (tabC m f q).size = 141 := by unfold tabC; simp
theorem tabC_ext (m : Nat) (f : Nat → Int) (q : Nat → Value) (cs : Array Value) (hs : cs.size = 141) (h : ∀ j, j < 141 → cs[j]? = some (tcell m f q j)) : cs = tabC m f q := by
  apply Array.ext_getElem?
  intro n
  by_cases hn : n < 141
  · rw [h n hn, tabC_get m f q n hn]
  · rw [Array.getElem?_eq_none (by omega), Array.getElem?_eq_none (by rw [tabC_size]; omega)]
def seth (f : Nat → Int) (k : Nat) (v : Int) : Nat → Int := fun i => if i = k then v else f i
theorem tcell_holder (m : Nat) (f : Nat → Int) (q : Nat → Value) (k : Nat) : tcell m f q (1 + k * 2) = .int .i64 (f k) := by
  unfold tcell
  rw [if_neg (by omega), if_pos (by omega), show (1 + k * 2) / 2 = k by omega]
theorem tcell_queue (m : Nat) (f : Nat → Int) (q : Nat → Value) (k : Nat) : tcell m f q (1 + k * 2 + 1) = q k := by
  unfold tcell
  rw [if_neg (by omega), if_neg (by omega), show (1 + k * 2 + 1) / 2 - 1 = k by omega]
theorem tabC_set (m : Nat) (f : Nat → Int) (q : Nat → Value) (k : Nat) (v : Int) (h : k < 70) : (tabC m f q).setIfInBounds (1 + k * 2) (.int .i64 v) = tabC m (seth f k v) q := by
  refine tabC_ext _ _ _ _ (by simp [tabC_size]) (fun j hj => ?_)
  by_cases e : 1 + k * 2 = j
  · subst e
    rw [Array.getElem?_setIfInBounds_self_of_lt (by rw [tabC_size]; exact hj), tcell_holder]
    unfold seth; rw [if_pos rfl]
  · rw [Array.getElem?_setIfInBounds_ne e, tabC_get _ _ _ _ hj]
    unfold tcell seth
    by_cases h0 : j = 0
    · rw [if_pos h0, if_pos h0]
    · rw [if_neg h0, if_neg h0]
      by_cases h1 : j % 2 = 1
      · rw [if_pos h1, if_pos h1, if_neg (by omega)]
      · rw [if_neg h1, if_neg h1]

def setq (q : Nat → Value) (k : Nat) (v : Value) : Nat → Value := fun i => if i = k then v else q i
theorem tabC_setq (m : Nat) (f : Nat → Int) (q : Nat → Value) (k : Nat) (v : Value) (h : k < 70) : (tabC m f q).setIfInBounds (1 + k * 2 + 1) v = tabC m f (setq q k v) := by
  refine tabC_ext _ _ _ _ (by simp [tabC_size]) (fun j hj => ?_)
  by_cases e : 1 + k * 2 + 1 = j
  · subst e
    rw [Array.getElem?_setIfInBounds_self_of_lt (by rw [tabC_size]; exact hj), tcell_queue]
    unfold setq; rw [if_pos rfl]
  · rw [Array.getElem?_setIfInBounds_ne e, tabC_get _ _ _ _ hj]
    unfold tcell setq
    by_cases h0 : j = 0
    · rw [if_pos h0, if_pos h0]
    · rw [if_neg h0, if_neg h0]
      by_cases h1 : j % 2 = 1
      · rw [if_pos h1, if_pos h1]
      · rw [if_neg h1, if_neg h1, if_neg (by omega)]

def tabP (X m : Nat) (f : Nat → Int) (q : Nat → Value) : Pr := boxP X 49 (tabC m f q)
def TabIs (w : World) (X m : Nat) (f : Nat → Int) (q : Nat → Value) : Prop := w.heap[X]? = some (.cells (tabC m f q) 49 (0, 0))
theorem TabIs.cell {w : World} {X m : Nat} {f : Nat → Int} {q : Nat → Value} (h : TabIs w X m f q) (j : Nat) (hj : j < 141) : w.cell? ⟨X, j, none⟩ = some (tcell m f q j) := by
  unfold TabIs at h
  simp [World.cell?, h, tabC_get m f q j hj]
theorem TabIs.workers {w : World} {X m : Nat} {f : Nat → Int} {q : Nat → Value} (h : TabIs w X m f q) : w.cell? ⟨X, 0, none⟩ = some (.int .i64 (m : Int)) := h.cell 0 (by decide)
theorem TabIs.holder {w : World} {X m : Nat} {f : Nat → Int} {q : Nat → Value} (h : TabIs w X m f q) (k : Nat) (hk : k < 70) : w.cell? ⟨X, 1 + k * 2, none⟩ = some (.int .i64 (f k)) := by rw [h.cell _ (by omega), tcell_holder]
theorem TabIs.queue {w : World} {X m : Nat} {f : Nat → Int} {q : Nat → Value} (h : TabIs w X m f q) (k : Nat) (hk : k < 70) : w.cell? ⟨X, 1 + k * 2 + 1, none⟩ = some (q k) := by rw [h.cell _ (by omega), tcell_queue]

def tptr (X : Nat) : Value := .pointer (some ⟨X, 0, none⟩)

theorem has_yes (w : World) (X m : Nat) (f : Nat → Int) (q : Nat → Value) (h : TabIs w X m f q) (a : Nat) (ha : a < m) : Calls Try.prog 19 #[tptr X, .int .i64 (a : Int)] w fun e w' => e = .returned (.bool true) ∧ w' = w := by
  have c0 := h.workers
  have h1 : (0 : Int) ≤ (a : Int) := by omega
  have h2 : (a : Int) < (m : Int) := by omega
  unfold tptr
  clear h ha
  go_enter Try.func19, Try.ntmps19
  go_wp2
  go_ret
  exact ⟨rfl, rfl⟩

theorem Holds_yes (w : World) (X m : Nat) (f : Nat → Int) (q : Nat → Value) (h : TabIs w X m f q) (a k : Nat) (ha : a < m) (hk : k < 70) : Calls Try.prog 15 #[tptr X, .int .i64 (a : Int), .int .i64 (k : Int)] w fun e w' => e = .returned (.bool (f k == (a : Int))) ∧ w' = w := by
  have HA := Lib.hid (has_yes w X m f q h a ha)
  have c1 := h.holder k hk
  have k0 : (0 : Int) ≤ (k : Int) := by omega
  have k1 : (k : Int) < 70 := by omega
  unfold tptr at HA ⊢
  obtain ⟨u, hu⟩ : ∃ u, f k = u := ⟨_, rfl⟩
  rw [hu] at c1 ⊢
  clear h ha hk hu
  go_enter Try.func15, Try.ntmps15
  go_wp2_with fail
  refine HA.out.mono ?_
  rintro e w1 ⟨rfl, rfl⟩
  go_wp2
  go_ret
  exact ⟨rfl, rfl⟩

def iv (i : Nat) : Value := .int .i64 (i : Int)
/-- These numbers stand where a slice leads. -/
def NumsAt (w : World) (v : Value) (L : List Nat) : Prop := ∃ ad cap, v = .slice ad L.length cap ∧ At w ad (L.map iv) ∧ L.length ≤ cap
theorem NumsAt.quiet {w w' : World} {v : Value} {L : List Nat} (h : NumsAt w v L) (hg : w.grownBy w' none) : NumsAt w' v L := by
  obtain ⟨ad, cap, e, ha, hc⟩ := h
  exact ⟨ad, cap, e, ha.grown hg (by intro _ _ _ e; cases e), hc⟩
theorem NumsAt.get {w : World} {ad : Option Addr} {L : List Nat} (h : At w ad (L.map iv)) {k x : Nat} (hk : L[k]? = some x) : ∃ g o, ad = some ⟨g, o, none⟩ ∧ w.cell? ⟨g, o + k, none⟩ = some (.int .i64 (x : Int)) :=
  h k _ (by rw [List.getElem?_map, hk]; rfl)

/-- A row of workers, from some place of a block on. -/
def QRow (w : World) (v : Value) (L : List Nat) : Prop :=
  (v = .slice none 0 0 ∧ L = []) ∨ ∃ g o cap cur, v = .slice (some ⟨g, o, none⟩) L.length cap ∧ w.heap[g]? = some (.cells cur 3 (0, 0)) ∧ L.length ≤ cap ∧ o + cap ≤ cur.size ∧ ∀ j x, L[j]? = some x → cur[o + j]? = some (iv x)
theorem QRow.nums {w : World} {v : Value} {L : List Nat} (h : QRow w v L) : NumsAt w v L := by
  rcases h with ⟨rfl, rfl⟩ | ⟨g, o, cap, cur, rfl, hg, hl, hc, hx⟩
  · exact ⟨none, 0, rfl, At.nil _ _, Nat.le_refl _⟩
  · refine ⟨_, cap, rfl, ?_, hl⟩
    intro j u hu
    rw [List.getElem?_map] at hu
    match hj : L[j]? with
    | none => rw [hj] at hu; cases hu
    | some x =>
      rw [hj] at hu
      cases hu
      have := hx j x hj
      exact ⟨g, o, rfl, by simp [World.cell?, hg, this]⟩
theorem QRow.turn {w w' : World} {v : Value} {L : List Nat} {H : Nat → Prop} (h : QRow w v L) (ht : Turn H w w') (hn : ∀ g, v.ownBlock = some g → ¬ H g) : QRow w' v L := by
  rcases h with h | ⟨g, o, cap, cur, rfl, hg, r⟩
  · exact .inl h
  · exact .inr ⟨g, o, cap, cur, rfl, ht.obj hg (hn g rfl), r⟩
theorem QRow.old {w : World} {v : Value} {L : List Nat} (h : QRow w v L) : ∀ g, v.ownBlock = some g → ∃ cur, w.heap[g]? = some (.cells cur 3 (0, 0)) := by
  intro g hg
  rcases h with ⟨rfl, _⟩ | ⟨g', o, cap, cur, rfl, hg', r⟩
  · cases hg
  · cases hg; exact ⟨cur, hg'⟩
theorem QRow.of {w : World} {base n : Nat} {v : Value} {xs : List Value} {L : List Nat} (h : w.ownsRow base 3 1 v n xs) (hn : n = L.length) (hx : xs = L.map iv) : QRow w v L := by
  subst hn hx
  obtain ⟨hl, h | ⟨g, cap, cur, rfl, _, hh, hn, _, hc, htk⟩⟩ := h
  · obtain ⟨rfl, h0⟩ := h
    exact .inl ⟨rfl, List.eq_nil_of_length_eq_zero h0⟩
  · refine .inr ⟨g, 0, cap, cur, rfl, hh, hn, by omega, fun j x hj => ?_⟩
    have hu : (L.map iv)[j]? = some (iv x) := by rw [List.getElem?_map, hj]; rfl
    rw [← htk, List.getElem?_take] at hu
    split at hu
    · rw [Nat.zero_add, ← Array.getElem?_toList]; exact hu
    · cases hu
/-- Such a row, as a thing. -/
def qrowP (v : Value) (L : List Nat) : Pr where
  holds w F := QRow w v L ∧ (∀ i, v.ownBlock = some i → F i) ∧ ∀ i, F i → i < w.heap.size
  turn := fun h ht hn => ⟨h.1.turn ht (fun i hi => hn i (h.2.1 i hi)), h.2.1, fun i hi => Nat.lt_of_lt_of_le (h.2.2 i hi) ht.size⟩
  old := fun h => h.2.2
theorem own_qrow {w0 w : World} {Ps : List Pr} (h : Grommet.Own w0 w Ps) (k : Nat) {v : Value} {L : List Nat} (hk : Ps[k]? = some (qrowP v L)) : QRow w v L := by
  obtain ⟨F, hF⟩ := h.get k hk
  exact hF.1
theorem own_setQ {w0 w w' : World} {Ps : List Pr} (h : Grommet.Own w0 w Ps) (k : Nat) {v v' : Value} {L L' : List Nat} (hk : Ps[k]? = some (qrowP v L)) (hr : QRow w' v' L') (hg : w.grownBy w' v.ownBlock)
    (hnew : ∀ g, v'.ownBlock = some g → v.ownBlock = some g ∨ w.heap.size ≤ g) : Grommet.Own w0 w' (Ps.set k (qrowP v' L')) := by
  obtain ⟨F, h1, h2⟩ := h.take k hk
  refine h2 _ _ ⟨fun i => F i ∨ w.heap.size ≤ i ∧ i < w'.heap.size, ⟨hr, fun i hi => ?_, fun i hi => ?_⟩, fun i hi => hi.imp id (fun x => x.1), Turn.of hg (fun i e => h1.2.1 i e)⟩
  · rcases hnew i hi with e | e
    · exact .inl (h1.2.1 i e)
    · obtain ⟨cur, hc⟩ := hr.old i hi
      exact .inr ⟨e, lt_of_block hc⟩
  · rcases hi with hi | hi
    · exact Nat.lt_of_lt_of_le (h1.2.2 i hi) hg.size
    · exact hi.2
theorem own_store_box {w0 w : World} {Ps : List Pr} (h : Grommet.Own w0 w Ps) (k : Nat) {X : Nat} {T : TypeId} {cs : Array Value} (hk : Ps[k]? = some (boxP X T cs)) (o : Nat) (u : Value) : Grommet.Own w0 (w.setCell ⟨X, o, none⟩ u) (Ps.set k (boxP X T (cs.setIfInBounds o u))) := by
  obtain ⟨F, h1, h2⟩ := h.take k hk
  exact h2 _ _ ⟨F, ⟨heap_setCell_at h1.1 u, h1.2.1, fun i hi => Nat.lt_of_lt_of_le (h1.2.2 i hi) (by simp [World.setCell])⟩, fun i hi => .inl hi, Turn.of (grown_setCell _ _ _) (fun i e => by cases e; exact h1.2.1)⟩

theorem infoInt : (Try.prog.info? 3).map (fun i => (i.zero, i.size, i.bytes)) = some (some (.int .i64 0), 1, 8) := by kernel_rfl
/-- One more behind such a row. -/
theorem run_append_q (w : World) (ty : TypeId) (v : Value) (L : List Nat) (x tmp : Nat) (h : QRow w v L) (ht : w.heap[tmp]? = some (.cells #[iv x] 3 (0, 0))) (hl : L.length ≤ 100000) :
    ∃ ad cap w', (Builtin.append_ #[30, 30] ty #[v, .slice (some ⟨tmp, 0, none⟩) 1 1]).run Try.prog w = .ok (.slice ad (L.length + 1) cap) w' ∧ QRow w' (.slice ad (L.length + 1) cap) (L ++ [x]) ∧ w.grownBy w' v.ownBlock ∧
      (∀ g, (Value.slice ad (L.length + 1) cap).ownBlock = some g → v.ownBlock = some g ∨ w.heap.size ≤ g) := by
  obtain ⟨i0, hi, hz0, hz1, hz2⟩ := info_parts infoInt
  have hnews : ∀ j u, [iv x][j]? = some u → w.cell? ((⟨tmp, 0, none⟩ : Addr).add j) = some u := (at_of_row ht).some
  have h1 : ∀ u ∈ [iv x], u.oneCell' = true := by intro u hu; simp at hu; subst hu; rfl
  have hL1 : (L ++ [x]).length = L.length + 1 := by simp
  rcases h with ⟨rfl, rfl⟩ | ⟨g, o, cap, cur, rfl, hg, hlc, hc, hx⟩
  · have hown : w.ownsRow 0 3 1 (.slice none 0 0) 0 [] := ⟨rfl, .inl ⟨rfl, rfl⟩⟩
    obtain ⟨v', w', hr, h2, h3, h4⟩ := run_append_blk (P := Try.prog) w 0 30 ty 3 i0 (.int .i64 0) 1 8 Try.underlying30 hi hz0 hz1 hz2 rfl (by decide) _ 0 [] hown ⟨tmp, 0, none⟩ 1 1 [iv x] rfl hnews h1 (by decide) (by decide) (Nat.zero_le _)
    obtain ⟨ad', cap', rfl, _⟩ := row_slice h2
    exact ⟨ad', cap', w', hr, QRow.of h2 (by simp) (by simp), h3, h4⟩
  · have hnum : NumsAt w (.slice (some ⟨g, o, none⟩) L.length cap) L := QRow.nums (.inr ⟨g, o, cap, cur, rfl, hg, hlc, hc, hx⟩)
    by_cases hroom : L.length + 1 ≤ cap
    · have hlt : o + L.length < cur.size := by omega
      have hcell : ∀ j, j < [iv x].length → (w.cell? ⟨g, o + L.length * i0.size + j, none⟩).isSome = true := by
        intro j hj
        obtain rfl : j = 0 := by simpa using hj
        rw [hz1, Nat.mul_one, Nat.add_zero]
        simp [World.cell?, hg, hlt]
      have hfr : ∀ j, j < [iv x].length → w.frozen? ⟨g, o + L.length * i0.size + j, none⟩ = false := by
        intro j hj
        simp [World.frozen?, hg]
      have hr := run_append_room_cells (P := Try.prog) w (ty := ty) 30 3 i0 Try.underlying30 hi g o L.length cap ⟨tmp, 0, none⟩ 1 1 [iv x] (by rw [hz1]; rfl) hnews h1 hroom hcell hfr
      rw [hz1, Nat.mul_one] at hr
      refine ⟨_, _, _, hr, .inr ⟨g, o, cap, cur.setIfInBounds (o + L.length) (iv x), by rw [hL1], heap_setCell_at hg (iv x), by rw [hL1]; exact hroom, by rw [Array.size_setIfInBounds]; exact hc, fun j y hj => ?_⟩, grown_setCell _ _ _, fun g' hg' => .inl hg'⟩
      by_cases hjl : j < L.length
      · rw [List.getElem?_append_left hjl] at hj
        rw [Array.getElem?_setIfInBounds_ne (by omega)]
        exact hx j y hj
      · rw [List.getElem?_append_right (by omega)] at hj
        have : j - L.length = 0 := by
          rcases Nat.eq_zero_or_pos (j - L.length) with h0 | h0
          · exact h0
          · rw [List.getElem?_eq_none (by simp; omega)] at hj; cases hj
        rw [this] at hj
        simp at hj
        subst hj
        rw [show o + j = o + L.length by omega, Array.getElem?_setIfInBounds_self_of_lt hlt]
    · obtain ⟨ad, cap', he, ha, _⟩ := hnum
      cases he
      obtain ⟨v', w', hr, h2, h3⟩ := run_append_arg_grows (P := Try.prog) w (ty := ty) 30 3 i0 (.int .i64 0) 1 8 Try.underlying30 hi hz0 hz1 hz2 rfl (by decide) ⟨g, o, none⟩ L.length cap (L.map iv) (by simp) ha.some ⟨tmp, 0, none⟩ 1 1 [iv x] rfl hnews (by omega) (by unfold maxLen; omega) (by omega)
      obtain ⟨ad', cap2, rfl, _⟩ := row_slice h2
      exact ⟨ad', cap2, w', hr, QRow.of h2 (by simp) (by simp), grown_wide h3, fun g' hg' => .inr (h2.lt g' hg').1⟩
theorem wpList_append_q (w : World) {ops : Array Oper} {rest : List Oper} {o : Oper} {a : Act} {Q : Exit → Act → World → Prop} (hgd : o.guard = none) (s x : Operand)
    (ho : o.op = .call { callee := .builtin .append, args := #[s, x], argTypes := #[30, 30] }) (v : Value) (L : List Nat) (y tmp : Nat) (hs : a.eval s = v) (hx : a.eval x = .slice (some ⟨tmp, 0, none⟩) 1 1)
    (hv : QRow w v L) (ht : w.heap[tmp]? = some (.cells #[iv y] 3 (0, 0))) (hl : L.length ≤ 100000)
    (h : ∀ ad cap w', QRow w' (.slice ad (L.length + 1) cap) (L ++ [y]) → w.grownBy w' v.ownBlock → (∀ g, (Value.slice ad (L.length + 1) cap).ownBlock = some g → v.ownBlock = some g ∨ w.heap.size ≤ g) → wpList Try.prog ops Q rest (a.put o.dst (.slice ad (L.length + 1) cap)) w') : wpList Try.prog ops Q (o :: rest) a w := by
  refine wpList_plain hgd fun K hK => ?_
  obtain ⟨ad', cap', w', hr, h2, h3, h4⟩ := run_append_q w o.type v L y tmp hv ht hl
  unfold Oper.wp execOp
  simp only [ho, resolve, invoke, builtin, Sem.run_bind, Sem.run_pure, Result.andThen_ok, List.map_toArray, List.map_cons, List.map_nil, hs, hx, hr]
  exact hK _ _ (h ad' cap' w' h2 h3 h4)

set_option maxRecDepth 100000 in
set_option maxHeartbeats 1000000 in
theorem Index_any (w : World) (v : Value) (L : List Nat) (a : Nat) (h : NumsAt w v L) (hl : L.length ≤ 100000) : Calls Try.prog 28 #[v, .int .i64 (a : Int)] w fun e w' => ∃ i : Int, e = .returned (.int .i64 i) ∧ ((0 ≤ i) ↔ a ∈ L) ∧ w' = w := by
  obtain ⟨ad, cap, rfl, ha, _⟩ := h
  obtain ⟨n, hn⟩ : ∃ n, L.length = n := ⟨_, rfl⟩
  rw [hn] at hl ⊢
  have HA := Lib.hid ha
  have Hn := Lib.hid hn
  clear ha hn
  go_enter Try.func28, Try.ntmps28
  go_wp2_with fail
  go_loopw [8] (fun s wr => ∃ k : Nat, k ≤ n ∧ s = .int .i64 (k : Int) ∧ Hid (∀ x ∈ L.take k, x ≠ a) ∧ wr = w) (fun s _ => n - (intOf s).toNat)
  case atStart => exact ⟨0, Nat.zero_le _, rfl, Lib.hid (by simp), rfl⟩
  case round =>
    obtain ⟨k, hk, rfl, hI, rfl⟩ := hrel
    have k0 : (0 : Int) ≤ (k : Int) := by omega
    by_cases hlt : k < n
    · have hlt' : (k : Int) < (n : Int) := by omega
      obtain ⟨x, hx⟩ : ∃ x, L[k]? = some x := ⟨_, List.getElem?_eq_getElem (by have := Hn.out; omega)⟩
      obtain ⟨g, o, rfl, hc⟩ := NumsAt.get HA.out hx
      have wk : IntKind.i64.wrap ((k : Int) + 1) = (k : Int) + 1 := IntWalk.i64_in _ ⟨by omega, by omega⟩
      by_cases hxa : x = a
      · subst hxa
        have hin : Hid ((0 : Int) ≤ (k : Int) ↔ x ∈ L) := Lib.hid ⟨fun _ => List.mem_of_getElem? hx, fun _ => k0⟩
        have q1 : (((x : Nat) : Int) == ((x : Nat) : Int)) = true := by simp
        clear hx
        go_wp2
        go_ret
        exact ⟨_, rfl, hin.out, rfl⟩
      · have q1 : ((a : Int) == ((x : Nat) : Int)) = false := by rw [beq_eq_false_iff_ne]; omega
        have hI2 : Hid (∀ y ∈ L.take (k + 1), y ≠ a) := Lib.hid (fun y hy => by
          rw [List.take_add_one, hx] at hy
          rcases List.mem_append.1 hy with hy | hy
          · exact hI.out y hy
          · rw [show y = x from by simpa using hy]; exact hxa)
        clear hx hxa
        go_wp2
        go_roundw
        case rel => exact ⟨k + 1, by omega, by go_num, hI2, by first | rfl | trivial⟩
        case measure => simp [intOf]; omega
    · have hlt' : ¬ (k : Int) < (n : Int) := by omega
      have hin : Hid ((0 : Int) ≤ (-1 : Int) ↔ a ∈ L) := Lib.hid (by
        have h := hI.out
        rw [List.take_of_length_le (by have := Hn.out; omega)] at h
        exact ⟨fun h => absurd h (by decide), fun hm => absurd rfl (h a hm)⟩)
      go_wp2
      go_ret
      exact ⟨_, rfl, hin.out, rfl⟩
set_option maxRecDepth 100000 in
theorem Contains_any (w : World) (v : Value) (L : List Nat) (a : Nat) (h : NumsAt w v L) (hl : L.length ≤ 100000) : Calls Try.prog 24 #[v, .int .i64 (a : Int)] w fun e w' => e = .returned (.bool (decide (a ∈ L))) ∧ w' = w := by
  have HI := Lib.hid (Index_any w v L a h hl)
  clear h
  obtain ⟨b, hb⟩ : ∃ b, decide (a ∈ L) = b := ⟨_, rfl⟩
  rw [hb]
  replace hb := Lib.hid hb
  go_enter Try.func24, Try.ntmps24
  go_wp2_with fail
  refine HI.out.mono ?_
  rintro e w1 ⟨i, rfl, hi, rfl⟩
  have Hi := Lib.hid hi
  clear hi
  go_wp2
  go_ret
  exact ⟨by rw [← hb.out, ← decide_eq_decide.2 Hi.out]; rfl, rfl⟩
end Go.Proofs.Ytclicjdgkcnihaa
