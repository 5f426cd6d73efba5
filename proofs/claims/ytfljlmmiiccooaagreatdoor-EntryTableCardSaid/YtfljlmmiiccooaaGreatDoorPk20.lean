import Derived.Test.YtfljlmmiiccooaaGreatDoorRows
import Derived.BigQuiet
import Derived.Deep.QuietTactic
import Derived.StillTailTactics
import Derived.Laws.BitsAllLaws
import Derived.Test.YtfljlmmiiccooaaGreatDoorPk13
import Derived.Test.YtfljlmmiiccooaaGreatDoorPk1
import Derived.Test.YtfljlmmiiccooaaGreatDoorPk18
set_option maxHeartbeats 2000000
set_option maxRecDepth 100000
section
namespace Go.Proofs.YtfljlmmiiccooaaGreatDoor
open Go.RowKit Go.Grommet
theorem Tryz.info72 : (Tryz.prog.info? 72).map (fun i => (i.zero, i.size, i.bytes)) = some (some (.int .u64 0), 1, 8) := by kernel_rfl
theorem Tryz.info118 : (Tryz.prog.info? 118).map (fun i => (i.zero, i.size, i.bytes)) = some (some (.agg #[.int .i64 0, .int .u64 0]), 2, 16) := by kernel_rfl
def wcells : List (Nat × Nat) → List Value
 | [] => []
 | p :: t => .int .i64 (p.1 : Int) :: .int .u64 (p.2 : Int) :: wcells t
theorem wcells_length : ∀ L : List (Nat × Nat), (wcells L).length = L.length * 2
 | [] => rfl
 | p :: t => by simp [wcells, wcells_length t]; omega
theorem wcells_append : ∀ L M : List (Nat × Nat), wcells (L ++ M) = wcells L ++ wcells M
 | [], M => rfl
 | p :: t, M => by simp [wcells, wcells_append t M]
theorem wcells_at : ∀ (L : List (Nat × Nat)) (i : Nat), i < L.length → (wcells L)[i * 2]? = some (.int .i64 ((L.getD i (0, 0)).1 : Int)) ∧ (wcells L)[i * 2 + 1]? = some (.int .u64 ((L.getD i (0, 0)).2 : Int))
 | [], i, h => by simp at h
 | p :: t, 0, _ => by simp [wcells]
 | p :: t, i + 1, h => by
  have := wcells_at t i (by simpa using h)
  rw [show (i + 1) * 2 = i * 2 + 1 + 1 from by omega]
  simpa [wcells] using this
theorem wcells_set : ∀ (L : List (Nat × Nat)) (i a w : Nat), i < L.length → (L.getD i (0, 0)).1 = a → (wcells L).set (i * 2 + 1) (.int .u64 (w : Int)) = wcells (L.set i (a, w))
 | [], i, a, w, h, _ => by simp at h
 | p :: t, 0, a, w, _, h => by
  have : p.1 = a := by simpa using h
  simp [wcells, this]
 | p :: t, i + 1, a, w, h, e => by
  have := wcells_set t i a w (by simpa using h) (by simpa using e)
  rw [show (i + 1) * 2 + 1 = i * 2 + 1 + 1 + 1 from by omega]
  simp [wcells, this]
theorem wcells_oneCell : ∀ L : List (Nat × Nat), ∀ u ∈ wcells L, u.oneCell' = true
 | [], u, h => by simp [wcells] at h
 | p :: t, u, h => by
  simp only [wcells, List.mem_cons] at h
  rcases h with rfl | rfl | h
  ·rfl
  ·rfl
  ·exact wcells_oneCell t u h
theorem keyedInt : Maps.Keyed Tryz.prog 3 := Maps.int_keyed Tryz.underlying3
def ik (a : Nat) : Lit := .int .i64 (a : Int)
def NumIs (w : World) (mb : Nat) (L : List (Nat × Nat)) : Prop :=
 ∃ D : DataW Unit, w.ownsMap Tryz.prog 3 (plainElem Tryz.prog 3) mb L.length D ∧ ∀ a, a < 140737488355328 →
  (∀ i, fidx L a = some i → Maps.has D (ik a) = true ∧ D.atKey (ik a) (.lit (.int .i64 0)) = .lit (.int .i64 (i : Int))) ∧ (fidx L a = none → Maps.has D (ik a) = false)
structure ViewAt (w : World) (g : Nat) (F : Nat → Prop) (ws wr : Value) (mb : Nat) (xs : List Nat) (L : List (Nat × Nat)) : Prop where
 obj : w.heap[g]? = some (.cells #[ws, wr, .map (some mb)] 78 (0, 0))
 words : w.ownsRow 0 72 1 ws xs.length (xs.map wv)
 writes : w.ownsRow 0 118 2 wr L.length (wcells L)
 num : NumIs w mb L
 small : ∀ n ∈ xs, n < 18446744073709551616
 fits : xs.length ≤ 549755813888
 good : Wl xs.length L
 old : ∀ i, F i → i < w.heap.size
 fg : F g
 fm : F mb
 fw : ∀ i, ws.ownBlock = some i → F i
 fr : ∀ i, wr.ownBlock = some i → F i
def ViewIs (w : World) (g : Nat) (F : Nat → Prop) (xs : List Nat) (L : List (Nat × Nat)) : Prop := ∃ ws wr mb, ViewAt w g F ws wr mb xs L
theorem NumIs.turn {F : Nat → Prop} {w w' : World} {mb : Nat} {L : List (Nat × Nat)} (h : NumIs w mb L) (ht : Turn F w w') (hn : ¬ F mb) : NumIs w' mb L := by
 obtain ⟨D, h1, h2⟩ := h
 exact ⟨D, ht.map h1 hn, h2⟩
theorem NumIs.lt {w : World} {mb : Nat} {L : List (Nat × Nat)} (h : NumIs w mb L) : ∃ es c, w.heap[mb]? = some (.map es c) := by
 obtain ⟨D, ⟨es, clock, hb, _⟩, _⟩ := h
 exact ⟨es, clock, hb⟩
theorem ViewAt.turn {F G : Nat → Prop} {w w' : World} {g : Nat} {ws wr : Value} {mb : Nat} {xs : List Nat} {L : List (Nat × Nat)} (h : ViewAt w g F ws wr mb xs L) (ht : Turn G w w') (hn : ∀ i, F i → ¬ G i) : ViewAt w' g F ws wr mb xs L :=
 ⟨ht.obj h.obj (hn _ h.fg), ht.row h.words (fun i hi => hn i (h.fw i hi)), ht.row h.writes (fun i hi => hn i (h.fr i hi)), h.num.turn ht (hn _ h.fm), h.small, h.fits, h.good,
  fun i hi => Nat.lt_of_lt_of_le (h.old i hi) ht.size, h.fg, h.fm, h.fw, h.fr⟩
theorem ViewIs.turn {F G : Nat → Prop} {w w' : World} {g : Nat} {xs : List Nat} {L : List (Nat × Nat)} (h : ViewIs w g F xs L) (ht : Turn G w w') (hn : ∀ i, F i → ¬ G i) : ViewIs w' g F xs L := by
 obtain ⟨ws, wr, mb, h⟩ := h
 exact ⟨ws, wr, mb, h.turn ht hn⟩
theorem ViewAt.apart {F : Nat → Prop} {w : World} {g : Nat} {ws wr : Value} {mb : Nat} {xs : List Nat} {L : List (Nat × Nat)} (h : ViewAt w g F ws wr mb xs L) :
  g ≠ mb ∧ (∀ i, ws.ownBlock = some i → i ≠ g ∧ i ≠ mb) ∧ (∀ i, wr.ownBlock = some i → i ≠ g ∧ i ≠ mb) ∧ ∀ i j, ws.ownBlock = some i → wr.ownBlock = some j → i ≠ j := by
 obtain ⟨es, c, hm⟩ := h.num.lt
 have hg := h.obj
 have tw := fun i hi => row_type h.words i hi
 have tr := fun i hi => row_type h.writes i hi
 refine ⟨?_, fun i hi => ⟨?_, ?_⟩, fun i hi => ⟨?_, ?_⟩, fun i j hi hj => ?_⟩
 ·rintro rfl; rw [hg] at hm; cases hm
 ·rintro rfl; obtain ⟨cur, hc⟩ := tw _ hi; rw [hg] at hc; injection hc with hc; injection hc with _ hc _; revert hc; decide
 ·rintro rfl; obtain ⟨cur, hc⟩ := tw _ hi; rw [hm] at hc; cases hc
 ·rintro rfl; obtain ⟨cur, hc⟩ := tr _ hi; rw [hg] at hc; injection hc with hc; injection hc with _ hc _; revert hc; decide
 ·rintro rfl; obtain ⟨cur, hc⟩ := tr _ hi; rw [hm] at hc; cases hc
 ·rintro rfl; obtain ⟨cur, hc⟩ := tw _ hi; obtain ⟨cur', hc'⟩ := tr _ hj; rw [hc] at hc'; injection hc' with hc'; injection hc' with _ hc' _; revert hc'; decide
def inB (a m : Int) : Bool := decide (0 ≤ a) && decide (a < m)
theorem isIn_any (a m : Int) (w : World) : Calls Tryz.prog 116 #[.int .i64 a, .int .i64 m] w fun e w' => e = .returned (.bool (inB a m)) ∧ w = w' := by
 unfold inB
 by_cases h : 0 ≤ a
 ·by_cases h2 : a < m
  ·rw [show (decide (0 ≤ a) && decide (a < m)) = true from by simp [h, h2]]
   go_enter Tryz.func116, Tryz.ntmps116
   go_wp2
   go_ret
   exact ⟨rfl, rfl⟩
  ·rw [show (decide (0 ≤ a) && decide (a < m)) = false from by simp [h2]]
   go_enter Tryz.func116, Tryz.ntmps116
   go_wp2
   go_ret
   exact ⟨rfl, rfl⟩
 ·rw [show (decide (0 ≤ a) && decide (a < m)) = false from by simp [h]]
  go_enter Tryz.func116, Tryz.ntmps116
  go_wp2
  go_ret
  exact ⟨rfl, rfl⟩
theorem ViewAt.cells {F : Nat → Prop} {w : World} {g : Nat} {ws wr : Value} {mb : Nat} {xs : List Nat} {L : List (Nat × Nat)} (h : ViewAt w g F ws wr mb xs L) :
  w.cell? ⟨g, 0, none⟩ = some ws ∧ w.cell? ⟨g, 1, none⟩ = some wr ∧ w.cell? ⟨g, 2, none⟩ = some (.map (some mb)) := by
 have := h.obj
 simp [World.cell?, this]
theorem Len_any (g : Nat) (F : Nat → Prop) (xs : List Nat) (L : List (Nat × Nat)) (w : World) (h : ViewIs w g F xs L) :
  Calls Tryz.prog 87 #[.pointer (some ⟨g, 0, none⟩)] w fun e w' => e = .returned (.int .i64 (xs.length : Int)) ∧ w = w' := by
 obtain ⟨ws, wr, mb, h⟩ := h
 obtain ⟨c0, c1, c2⟩ := h.cells
 obtain ⟨ad, cap, rfl, _⟩ := row_slice h.words
 clear h
 generalize xs.length = l at c0
 go_enter Tryz.func87, Tryz.ntmps87
 go_wp2
 go_ret
 exact ⟨rfl, rfl⟩
end Go.Proofs.YtfljlmmiiccooaaGreatDoor
end
section
namespace Go.Proofs.YtfljlmmiiccooaaGreatDoor
open Go.RowKit Go.Grommet
theorem app64 {w : World} {ops : Array Oper} {rest : List Oper} {o : Oper} {a : Act} {Q : Exit → Act → World → Prop} (hgd : o.guard = none) (s x : Operand)
  (ho : o.op = .call { callee := .builtin .append, args := #[s, x], argTypes := #[30, 30] })
  (base : Nat) (v : Value) (n : Nat) (xs : List Nat) (hs : a.eval s = v) (hown : w.ownsRow base 72 1 v n (xs.map wv))
  (ad : Option Addr) (m c : Nat) (ys : List Nat) (hx : a.eval x = .slice ad m c) (hw : Words w ad m ys) (hnil : ad = none → m = 0 ∧ c = 0)
  (hb : n + m ≤ 1099511627776) (hbase : base ≤ w.heap.size)
  (h : ∀ v' w', w'.ownsRow base 72 1 v' (n + m) ((xs ++ ys).map wv) → w.grownBy w' v.ownBlock → wpList Tryz.prog ops Q rest (a.put o.dst v') w') : wpList Tryz.prog ops Q (o :: rest) a w := by
 obtain ⟨i0, hi, hz0, hz1, hz2⟩ := info_parts Tryz.info72
 refine wpList_append_at hgd s x 30 ho base 72 i0 (.int .u64 0) 8 Tryz.underlying30 hi hz0 hz1 hz2 rfl v n (xs.map wv) hs hown ad m c (ys.map wv) hx (by rw [List.length_map, hw.len]) hw.at_ hnil (wv_oneCell ys) (by unfold maxLen; omega) (by omega) hbase ?_
 intro v' w' ho' hg
 exact h v' w' (by rw [List.map_append]; exact ho') hg
theorem appW {w : World} {ops : Array Oper} {rest : List Oper} {o : Oper} {a : Act} {Q : Exit → Act → World → Prop} (hgd : o.guard = none) (s x : Operand)
  (ho : o.op = .call { callee := .builtin .append, args := #[s, x], argTypes := #[40, 40] })
  (base : Nat) (v : Value) (n : Nat) (L : List (Nat × Nat)) (hs : a.eval s = v) (hown : w.ownsRow base 118 2 v n (wcells L))
  (ad : Addr) (m c : Nat) (M : List (Nat × Nat)) (hx : a.eval x = .slice (some ad) m c) (hl : M.length = m) (hw : At w (some ad) (wcells M))
  (hb : n + m ≤ 1099511627776) (hbase : base ≤ w.heap.size)
  (h : ∀ ad' cap' w', w'.ownsRow base 118 2 (.slice ad' (n + m) cap') (n + m) (wcells (L ++ M)) → w.grownBy w' v.ownBlock → (∀ g, (Value.slice ad' (n + m) cap').ownBlock = some g → v.ownBlock = some g ∨ w.heap.size ≤ g) → wpList Tryz.prog ops Q rest (a.put o.dst (.slice ad' (n + m) cap')) w') : wpList Tryz.prog ops Q (o :: rest) a w := by
 obtain ⟨i0, hi, hz0, hz1, hz2⟩ := info_parts Tryz.info118
 refine wpList_append_blk w hgd s x 40 ho base 118 i0 (.agg #[.int .i64 0, .int .u64 0]) 2 16 Tryz.underlying40 hi hz0 hz1 hz2 rfl (by decide) v n (wcells L) hs hown ad m c (wcells M) hx (by rw [wcells_length, hl]) hw.some (wcells_oneCell M) (by unfold maxLen; omega) (by omega) hbase ?_
 intro ad' cap' w' ho' hg hn
 exact h ad' cap' w' (by rw [wcells_append]; exact ho') hg hn
theorem own_lit (w : World) (e : TypeId) (size base : Nat) (hb : base ≤ w.heap.size) : (w.alloc (.cells #[] e)).ownsRow base e size (.slice (some ⟨w.heap.size, 0, none⟩) 0 0) 0 [] :=
 World.ownsRow_lit (size := size) (base := base) (e := e) w #[] 0 hb (by unfold maxLen; omega) (by simp)
def RowOf (base : Nat) (xs : List Nat) (w : World) (e : Ending) (w' : World) : Prop :=
 ∃ ad cap, e = .returned (.slice ad xs.length cap) ∧ w'.ownsRow base 72 1 (.slice ad xs.length cap) xs.length (xs.map wv) ∧ w.grownBy w' none
def RowOfW (base : Nat) (L : List (Nat × Nat)) (w : World) (e : Ending) (w' : World) : Prop :=
 ∃ ad cap, e = .returned (.slice ad L.length cap) ∧ w'.ownsRow base 118 2 (.slice ad L.length cap) L.length (wcells L) ∧ w.grownBy w' none
theorem rowOf_mk {base : Nat} {xs : List Nat} {w w' : World} {v : Value} {n : Nat} (hn : n = xs.length) (h : w'.ownsRow base 72 1 v n (xs.map wv)) (hg : w.grownBy w' none) : RowOf base xs w (.returned v) w' := by
 subst hn
 obtain ⟨ad, cap, rfl, _⟩ := row_slice h
 exact ⟨ad, cap, rfl, h, hg⟩
theorem rowOfW_mk {base : Nat} {L : List (Nat × Nat)} {w w' : World} {v : Value} {n : Nat} (hn : n = L.length) (h : w'.ownsRow base 118 2 v n (wcells L)) (hg : w.grownBy w' none) : RowOfW base L w (.returned v) w' := by
 subst hn
 obtain ⟨ad, cap, rfl, _⟩ := row_slice h
 exact ⟨ad, cap, rfl, h, hg⟩
theorem Clone_any (base : Nat) (ad : Option Addr) (l c : Nat) (xs : List Nat) (w : World) (hx : Words w ad l xs) (hl : l ≤ 549755813888) (hnil : ad = none → l = 0 ∧ c = 0) (hb : base ≤ w.heap.size) :
  Calls Tryz.prog 32 #[.slice ad l c] w (RowOf base xs w) := by
 have HL := Lib.hid hx.len
 cases ad with
 | none =>
  obtain ⟨rfl, rfl⟩ := hnil rfl
  obtain rfl := List.eq_nil_of_length_eq_zero hx.len
  have hq := fun wx => eql_slice_nil (P := Tryz.prog) wx 30 _ none 0 0 Tryz.underlying30
  go_enter Tryz.func32, Tryz.ntmps32
  go_wp2
  go_ret
  exact rowOf_mk rfl (World.ownsRow_nil _ _ _ _) (World.grownBy.refl _ _)
 | some a =>
  have hq := fun wx => eql_slice_nil (P := Tryz.prog) wx 30 _ (some a) l c Tryz.underlying30
  go_enter Tryz.func32, Tryz.ntmps32
  go_wp2_with (at_builtin; refine app64 rfl _ _ rfl base _ 0 [] rfl (own_lit w _ 1 base hb) (some a) l c xs rfl ?a1 (by simp) ?a2 ?a3 ?_)
  case a1 => exact hx.keep (World.grownBy_alloc w _ none) (by simp)
  case a2 => omega
  case a3 => simp; omega
  intro v1 w1 hown hg
  have hg := grown_new (World.grownBy_alloc w _ none) hg (by intro g e; cases e; exact Nat.le_refl _)
  try rw [List.nil_append, Nat.zero_add] at hown
  have HR := Lib.hid (rowOf_mk HL.out.symm hown hg)
  clear hown hg hx
  go_wp2
  go_ret
  exact HR.out
theorem CloneW_any (base : Nat) (ad : Option Addr) (l c : Nat) (L : List (Nat × Nat)) (w : World) (hx : At w ad (wcells L)) (hL : L.length = l) (hl : l ≤ 549755813888) (hnil : ad = none → l = 0 ∧ c = 0) (hb : base ≤ w.heap.size) :
  Calls Tryz.prog 60 #[.slice ad l c] w (RowOfW base L w) := by
 have HL := Lib.hid hL
 clear hL
 cases ad with
 | none =>
  obtain ⟨rfl, rfl⟩ := hnil rfl
  obtain rfl := List.eq_nil_of_length_eq_zero HL.out
  have hq := fun wx => eql_slice_nil (P := Tryz.prog) wx 40 _ none 0 0 Tryz.underlying40
  go_enter Tryz.func60, Tryz.ntmps60
  go_wp2
  go_ret
  exact rowOfW_mk rfl (World.ownsRow_nil _ _ _ _) (World.grownBy.refl _ _)
 | some a =>
  have hq := fun wx => eql_slice_nil (P := Tryz.prog) wx 40 _ (some a) l c Tryz.underlying40
  go_enter Tryz.func60, Tryz.ntmps60
  go_wp2_with (at_builtin; refine appW rfl _ _ rfl base _ 0 [] rfl (own_lit w _ 2 base hb) a l c L rfl HL.out ?a1 ?a2 ?a3 ?_)
  case a1 => exact hx.grown (World.grownBy_alloc w _ none) (by simp)
  case a2 => omega
  case a3 => simp; omega
  intro ad1 cap1 w1 hown hg _
  have hg := grown_new (World.grownBy_alloc w _ none) hg (by intro g e; cases e; exact Nat.le_refl _)
  try rw [List.nil_append, Nat.zero_add] at hown
  have HR := Lib.hid (rowOfW_mk HL.out.symm hown hg)
  clear hown hg hx
  go_wp2
  go_ret
  exact HR.out
def NewIs (xs : List Nat) (w : World) (e : Ending) (w' : World) : Prop :=
 ∃ g F, e = .returned (.pointer (some ⟨g, 0, none⟩)) ∧ ViewIs w' g F xs [] ∧ (∀ i, F i → w.heap.size ≤ i) ∧ w.grownBy w' none
theorem New_any (ad : Option Addr) (l c : Nat) (xs : List Nat) (w : World) (hx : Words w ad l xs) (hl : l ≤ 549755813888) (hnil : ad = none → l = 0 ∧ c = 0) :
  Calls Tryz.prog 8 #[.slice ad l c] w (NewIs xs w) := by
 have HL := Lib.hid hx.len
 have HS := Lib.hid hx.small
 have HC := Lib.hid (Clone_any w.heap.size ad l c xs w hx hl hnil (Nat.le_refl _))
 clear hx
 have hmm := @run_makeMap Tryz.prog
 go_enter Tryz.func8, Tryz.ntmps8
 go_wp2_with fail
 refine HC.out.mono ?_
 rintro e w1 ⟨a1, c1, rfl, hown, hg⟩
 clear HC
 have hmk : ((w1.alloc (.map #[] 0)).alloc (.cells #[.slice a1 xs.length c1, .slice none 0 0, .map (some w1.heap.size)] 78)).ownsMap Tryz.prog 3 (plainElem (H := Unit) Tryz.prog 3) w1.heap.size 0 (.map []) := (World.ownsMap_made w1 _ _ _).alloc _
 have hw := (hown.alloc (.map #[] 0)).alloc (.cells #[.slice a1 xs.length c1, .slice none 0 0, .map (some w1.heap.size)] 78)
 have hob := heap_alloc_new (w1.alloc (.map #[] 0)) (.cells #[.slice a1 xs.length c1, .slice none 0 0, .map (some w1.heap.size)] 78)
 rw [World.size_alloc] at hob
 have hold := row_old hown
 have hbase : ∀ i, (Value.slice a1 xs.length c1).ownBlock = some i → w.heap.size ≤ i := fun i hi => (hown.lt i hi).1
 have hgs := hg.size
 have HR : NewIs xs w (.returned (.pointer (some ⟨w1.heap.size + 1, 0, none⟩))) ((w1.alloc (.map #[] 0)).alloc (.cells #[.slice a1 xs.length c1, .slice none 0 0, .map (some w1.heap.size)] 78)) := by
  refine ⟨_, fun i => i = w1.heap.size + 1 ∨ i = w1.heap.size ∨ (Value.slice a1 xs.length c1).ownBlock = some i, rfl, ⟨_, _, _, ⟨hob, row_base hw (fun _ _ => Nat.zero_le _), World.ownsRow_nil _ _ _ _, ⟨_, hmk, ?_⟩, HS.out, ?_, Wl.nil _, ?_, .inl rfl, .inr (.inl rfl), fun i hi => .inr (.inr hi), ?_⟩⟩, ?_, ?_⟩
  ·intro a ha
   exact ⟨fun i hi => by simp [fidx] at hi, fun _ => rfl⟩
  ·rw [HL.out]; omega
  ·intro i hi
   simp only [World.size_alloc]
   rcases hi with rfl | rfl | hi
   ·omega
   ·omega
   ·have := hold i hi; omega
  ·intro i hi; cases hi
  ·intro i hi
   rcases hi with rfl | rfl | hi
   ·omega
   ·omega
   ·exact hbase i hi
  ·exact grown_trans (grown_trans hg (World.grownBy_alloc w1 _ none)) (World.grownBy_alloc _ _ none)
 replace HR := Lib.hid HR
 clear hmk hw hob hold hbase hgs hg hown
 go_wp2
 go_ret
 exact HR.out
def Does (g : Nat) (F : Nat → Prop) (w w' : World) (xs : List Nat) (L : List (Nat × Nat)) : Prop := ∃ F', ViewIs w' g F' xs L ∧ (∀ i, F' i → F i ∨ w.heap.size ≤ i) ∧ Turn F w w'
theorem Writes_any (g : Nat) (F : Nat → Prop) (xs : List Nat) (L : List (Nat × Nat)) (w : World) (h : ViewIs w g F xs L) (base : Nat) (hb : base ≤ w.heap.size) :
  Calls Tryz.prog 27 #[.pointer (some ⟨g, 0, none⟩)] w (RowOfW base L w) := by
 obtain ⟨ws, wr, mb, h⟩ := h
 obtain ⟨c0, c1, c2⟩ := h.cells
 obtain ⟨ad, cap, rfl, hat, hnil, _⟩ := row_slice h.writes
 have hf := h.good.few
 have HC := Lib.hid (CloneW_any base ad L.length cap L w hat rfl (by omega) hnil hb)
 clear h hat hnil c0 c2 hf
 go_enter Tryz.func27, Tryz.ntmps27
 go_wp2_with fail
 refine HC.out.mono ?_
 rintro e w1 hr
 have HR := Lib.hid hr
 obtain ⟨a1, c1, rfl, _⟩ := hr
 clear HC
 go_wp2
 go_ret
 exact HR.out
end Go.Proofs.YtfljlmmiiccooaaGreatDoor
end
section
namespace Go.Proofs.YtfljlmmiiccooaaGreatDoor
open Go.RowKit Go.Grommet
theorem lit_ok (a : Nat) (h : a < 140737488355328) : (Lit.int .i64 (a : Int)).wf = true := by
 simp only [Lit.wf, Bool.and_eq_true, decide_eq_true_eq]
 exact ⟨by show (-9223372036854775808 : Int) ≤ _; omega, by show _ ≤ (9223372036854775807 : Int); omega⟩
def gotI (xs : List Nat) (L : List (Nat × Nat)) (a : Int) : Nat := if 0 ≤ a ∧ a < (xs.length : Int) then gotV xs L a.toNat else 0
theorem wr_cell {w : World} {base n cap : Nat} {ad : Option Addr} {L : List (Nat × Nat)} (h : w.ownsRow base 118 2 (.slice ad n cap) n (wcells L)) (hl : L.length = n) (i : Nat) (hi : i < n) :
  ∃ b, ad = some ⟨b, 0, none⟩ ∧ w.cell? ⟨b, i * 2, none⟩ = some (.int .i64 ((L.getD i (0, 0)).1 : Int)) ∧ w.cell? ⟨b, i * 2 + 1, none⟩ = some (.int .u64 ((L.getD i (0, 0)).2 : Int)) ∧ w.frozen? ⟨b, i * 2 + 1, none⟩ = false ∧ n ≤ cap ∧ base ≤ b := by
 obtain ⟨hl', h | ⟨g, cap', cur, he, hb, hh, hn, hm, hc, htk⟩⟩ := h
 ·omega
 ·cases he
  have h1 := (wcells_at L i (by omega)).1
  have h2 := (wcells_at L i (by omega)).2
  rw [← htk] at h1 h2
  rw [List.getElem?_take, if_pos (by omega), Array.getElem?_toList] at h1 h2
  exact ⟨g, rfl, by simp [World.cell?, hh, h1], by simp [World.cell?, hh, h2], by simp [World.frozen?, hh], hn, hb⟩
theorem wd_cell {w : World} {base n cap : Nat} {ad : Option Addr} {xs : List Nat} (h : w.ownsRow base 72 1 (.slice ad n cap) n (xs.map wv)) (hl : xs.length = n) (i : Nat) (hi : i < n) :
  ∃ b, ad = some ⟨b, 0, none⟩ ∧ w.cell? ⟨b, i, none⟩ = some (.int .u64 ((xs.getD i 0 : Nat) : Int)) ∧ w.frozen? ⟨b, i, none⟩ = false ∧ n ≤ cap ∧ base ≤ b := by
 obtain ⟨hl', h | ⟨g, cap', cur, he, hb, hh, hn, hm, hc, htk⟩⟩ := h
 ·omega
 ·cases he
  have h1 : (xs.map wv)[i]? = some (wv (xs.getD i 0)) := by simp [hl, hi]
  rw [← htk] at h1
  rw [List.getElem?_take, if_pos (by omega), Array.getElem?_toList] at h1
  exact ⟨g, rfl, by simp [World.cell?, hh, h1, wv], by simp [World.frozen?, hh], hn, hb⟩
theorem Get_any (g : Nat) (F : Nat → Prop) (xs : List Nat) (L : List (Nat × Nat)) (a : Int) (w : World) (h : ViewIs w g F xs L) :
  Calls Tryz.prog 88 #[.pointer (some ⟨g, 0, none⟩), .int .i64 a] w fun e w' => e = .returned (.int .u64 (gotI xs L a : Int)) ∧ w = w' := by
 have HL := Lib.hid (Len_any g F xs L w h)
 have HI := Lib.hid (isIn_any a xs.length w)
 obtain ⟨ws, wr, mb, h⟩ := h
 obtain ⟨c0, c1, c2⟩ := h.cells
 have hfit := h.fits
 by_cases hin : 0 ≤ a ∧ a < (xs.length : Int)
 ·obtain ⟨n, rfl⟩ := Int.eq_ofNat_of_zero_le hin.1
  have hn : n < xs.length := by omega
  rw [show inB (n : Int) xs.length = true from by unfold inB; simp; omega] at HI
  have HG := Lib.hid (show gotI xs L (n : Int) = gotV xs L n by unfold gotI; rw [if_pos hin, Int.toNat_natCast])
  obtain ⟨D, hown, hD⟩ := h.num
  obtain ⟨hD1, hD2⟩ := hD n (by omega)
  have hkey : keyOf Tryz.prog 3 (.int .i64 (n : Int)) = some (.int .i64 (n : Int)) := Maps.keyOf_int_mk Tryz.underlying3 (lit_ok n (by omega))
  clear hin
  cases hfi : fidx L n with
  | some i =>
   obtain ⟨hi1, hi2, _⟩ := fidx_some hfi
   obtain ⟨hh, hat0⟩ := hD1 i hfi
   unfold ik at hh hat0
   have Hat := Lib.hid hat0
   have HV := Lib.hid (show gotV xs L n = (L.getD i (0, 0)).2 by unfold gotV; rw [hfi])
   obtain ⟨ad, cap, rfl, _⟩ := row_slice h.writes
   obtain ⟨b, rfl, v0, v1, _, hcap, _⟩ := wr_cell h.writes rfl i hi1
   obtain ⟨U, HU⟩ : ∃ U, Hid (U = (L.getD i (0, 0)).2) := ⟨_, Lib.hid rfl⟩
   rw [← HU.out] at v1 HV
   obtain ⟨m, Hm⟩ : ∃ m, Hid (m = L.length) := ⟨_, Lib.hid rfl⟩
   rw [← Hm.out] at hi1 c1 hown
   obtain ⟨z, Hz⟩ : ∃ z, Hid (z = xs.length) := ⟨_, Lib.hid rfl⟩
   rw [← Hz.out] at hn HL HI
   have hms : m ≤ 96 := by rw [Hm.out]; exact h.good.few
   clear h hD hD1 hD2 hfi hat0 hi2 hcap
   go_enter Tryz.func88, Tryz.ntmps88
   go_wp2_with fail
   refine HL.out.mono ?_
   rintro e w1 ⟨rfl, rfl⟩
   go_wp2_with fail
   refine HI.out.mono ?_
   rintro e w1 ⟨rfl, rfl⟩
   clear HL HI
   go_wp2_with (at_lookup; refine wpList_lookup_own_ok_int _ rfl _ _ 76 rfl 3 3 .i64 keyedInt Tryz.underlying76 Tryz.underlying3 (Tryz.zeroValue3 _) mb m D rfl hown _ _ rfl hkey ?_)
   intro c hat hwc
   obtain rfl : c = (i : Int) := by rw [Hat.out] at hat; injection hat with hat; injection hat with _ hat; exact hat.symm
   clear hat hwc
   go_wp2
   go_ret
   exact ⟨by rw [HG.out, HV.out]; rfl, rfl⟩
  | none =>
   have hh := hD2 hfi
   unfold ik at hh
   have HV := Lib.hid (show gotV xs L n = xs.getD n 0 by unfold gotV; rw [hfi])
   obtain ⟨ad, cap, rfl, _⟩ := row_slice h.words
   obtain ⟨b, rfl, v0, _, hcap, _⟩ := wd_cell h.words rfl n hn
   obtain ⟨U, HU⟩ : ∃ U, Hid (U = xs.getD n 0) := ⟨_, Lib.hid rfl⟩
   rw [← HU.out] at v0 HV
   obtain ⟨m, Hm⟩ : ∃ m, Hid (m = L.length) := ⟨_, Lib.hid rfl⟩
   rw [← Hm.out] at hown
   obtain ⟨z, Hz⟩ : ∃ z, Hid (z = xs.length) := ⟨_, Lib.hid rfl⟩
   rw [← Hz.out] at hn HL HI c0
   clear h hD hD1 hD2 hfi hcap
   go_enter Tryz.func88, Tryz.ntmps88
   go_wp2_with fail
   refine HL.out.mono ?_
   rintro e w1 ⟨rfl, rfl⟩
   go_wp2_with fail
   refine HI.out.mono ?_
   rintro e w1 ⟨rfl, rfl⟩
   clear HL HI
   go_wp2_with (at_lookup; refine wpList_lookup_own_ok_int _ rfl _ _ 76 rfl 3 3 .i64 keyedInt Tryz.underlying76 Tryz.underlying3 (Tryz.zeroValue3 _) mb m D rfl hown _ _ rfl hkey ?_)
   intro c hat hwc
   clear hat hwc
   go_wp2
   go_ret
   exact ⟨by rw [HG.out, HV.out]; rfl, rfl⟩
 ·have HG := Lib.hid (show gotI xs L a = 0 by unfold gotI; rw [if_neg hin])
  rw [show inB a xs.length = false from by unfold inB; by_cases h0 : 0 ≤ a <;> simp [h0]; omega] at HI
  clear hin h
  go_enter Tryz.func88, Tryz.ntmps88
  go_wp2_with fail
  refine HL.out.mono ?_
  rintro e w1 ⟨rfl, rfl⟩
  go_wp2_with fail
  refine HI.out.mono ?_
  rintro e w1 ⟨rfl, rfl⟩
  go_wp2
  go_ret
  exact ⟨by rw [HG.out]; rfl, rfl⟩
end Go.Proofs.YtfljlmmiiccooaaGreatDoor
end
section
namespace Go.Proofs.YtfljlmmiiccooaaGreatDoor
open Go.RowKit Go.Grommet
theorem row_put {w : World} {base e size n cap b : Nat} {xs : List Value} (h : w.ownsRow base e size (.slice (some ⟨b, 0, none⟩) n cap) n xs) (o : Nat) (u : Value) :
  (w.setCell ⟨b, o, none⟩ u).ownsRow base e size (.slice (some ⟨b, 0, none⟩) n cap) n (xs.set o u) := by
 obtain ⟨hl, h | ⟨g, cap', cur, he, hb, hh, hn, hm, hc, htk⟩⟩ := h
 ·cases h.1
 ·cases he
  refine ⟨by simpa using hl, .inr ⟨b, cap, cur.setIfInBounds o u, rfl, hb, heap_setCell_at hh u, hn, hm, by simpa using hc, ?_⟩⟩
  rw [Array.toList_setIfInBounds, List.take_set, htk]
def putI (xs : List Nat) (L : List (Nat × Nat)) (a : Int) (v : Nat) : List (Nat × Nat) := if 0 ≤ a ∧ a < (xs.length : Int) then putL L a.toNat v else L
def putEI (xs : List Nat) (L : List (Nat × Nat)) (a : Int) : Nat := if 0 ≤ a ∧ a < (xs.length : Int) then putE L a.toNat else 8
def PutIs (g : Nat) (F : Nat → Prop) (xs : List Nat) (L : List (Nat × Nat)) (a : Int) (v : Nat) (w : World) (e : Ending) (w' : World) : Prop :=
 e = .returned (.int .i64 (putEI xs L a : Int)) ∧ Does g F w w' xs (putI xs L a v)
theorem Does.same {g : Nat} {F : Nat → Prop} {xs : List Nat} {L : List (Nat × Nat)} {w : World} (h : ViewIs w g F xs L) : Does g F w w xs L := ⟨F, h, fun _ hi => .inl hi, Turn.refl _ _⟩
theorem Does.drew {g : Nat} {F : Nat → Prop} {xs : List Nat} {L : List (Nat × Nat)} {w w' : World} {n : Nat} (h : Does g F (w.drewN n) w' xs L) : Does g F w w' xs L := by
 obtain ⟨F', h1, h2, h3⟩ := h
 exact ⟨F', h1, h2, ⟨h3.os, h3.tape, h3.output, h3.size, h3.block⟩⟩
theorem did_store {w : World} {g : Nat} {F : Nat → Prop} {mb m cap b i n v : Nat} {ws : Value} {xs : List Nat} {L : List (Nat × Nat)} (h : ViewAt w g F ws (.slice (some ⟨b, 0, none⟩) m cap) mb xs L) (hm : m = L.length) (hfi : fidx L n = some i) (hn : n < xs.length) (hv : v < 18446744073709551616) :
  Does g F w (w.setCell ⟨b, i * 2 + 1, none⟩ (.int .u64 (v : Int))) xs (L.set i (n, v)) := by
 obtain ⟨hi1, hi2, _⟩ := fidx_some hfi
 have hap := h.apart
 have t0 : Turn (fun k => k = b) w (w.setCell ⟨b, i * 2 + 1, none⟩ (.int .u64 (v : Int))) := Turn.of (grown_setCell _ _ _) (fun k e => by cases e; rfl)
 have hL : putL L n v = L.set i (n, v) := by unfold putL; rw [hfi]
 refine ⟨F, ⟨ws, .slice (some ⟨b, 0, none⟩) m cap, mb, ⟨t0.obj h.obj (fun e => (hap.2.2.1 b rfl).1 e.symm), t0.row h.words (fun k hk e => hap.2.2.2 k b hk rfl e), ?_, ?_, h.small, h.fits, ?_, fun k hk => ?_, h.fg, h.fm, h.fw, h.fr⟩⟩, fun k hk => .inl hk, t0.mono (fun k e => by subst e; exact .inl (h.fr _ rfl))⟩
 ·subst hm
  have := row_put h.writes (i * 2 + 1) (.int .u64 (v : Int))
  rw [wcells_set L i n v hi1 hi2] at this
  simpa using this
 ·obtain ⟨D, h1, h2⟩ := h.num
  refine ⟨D, ?_, fun a ha => by rw [fidx_set hi2]; exact h2 a ha⟩
  rw [List.length_set]
  exact t0.map h1 (fun e => (hap.2.2.1 b rfl).2 e.symm)
 ·rw [← hL]; exact h.good.put hn hv
 ·exact Nat.lt_of_lt_of_le (h.old k hk) t0.size
theorem did_append {w w1 w2 : World} {g : Nat} {F : Nat → Prop} {mb n v : Nat} {ws wr wr' : Value} {xs : List Nat} {L : List (Nat × Nat)} {D : DataW Unit} (h : ViewAt w g F ws wr mb xs L) (hfi : fidx L n = none) (hn : n < xs.length) (hv : v < 18446744073709551616) (hl : L.length < 96)
  (hD : ∀ a, a < 140737488355328 → (∀ i, fidx L a = some i → Maps.has D (ik a) = true ∧ D.atKey (ik a) (.lit (.int .i64 0)) = .lit (.int .i64 (i : Int))) ∧ (fidx L a = none → Maps.has D (ik a) = false))
  (hmap : w1.ownsMap Tryz.prog 3 (plainElem Tryz.prog 3) mb (L.length + 1) (D.put (ik n) (.lit (.int .i64 (L.length : Int))))) (hisMap : Maps.IsMap D) (hg1 : w.grownBy w1 (some mb))
  (hrow : w2.ownsRow 0 118 2 wr' (L.length + 1) (wcells (L ++ [(n, v)]))) (hg2 : w1.grownBy w2 wr.ownBlock) (hnew : ∀ i, wr'.ownBlock = some i → wr.ownBlock = some i ∨ w.heap.size ≤ i) :
  Does g F w (w2.setCell ⟨g, 1, none⟩ wr') xs (L ++ [(n, v)]) := by
 have hap := h.apart
 have hL : putL L n v = L ++ [(n, v)] := by unfold putL; rw [hfi]; simp; omega
 have t1 : Turn (fun k => k = mb) w w1 := Turn.of hg1 (fun k e => by cases e; rfl)
 have t2 : Turn (fun k => k = mb ∨ wr.ownBlock = some k) w w2 := (t1.mono (fun k e => .inl (.inl e))).grown hg2 (fun k e => .inl (.inr e))
 have t3 : Turn (fun k => k = mb ∨ wr.ownBlock = some k ∨ k = g) w (w2.setCell ⟨g, 1, none⟩ wr') := (t2.mono (fun k e => .inl (by rcases e with e | e; exact .inl e; exact .inr (.inl e)))).grown (grown_setCell _ _ _) (fun k e => by cases e; exact .inl (.inr (.inr rfl)))
 have hgn : ∀ k, wr'.ownBlock = some k → k ≠ g ∧ k ≠ mb := fun k hk => by
  rcases hnew k hk with e | e
  ·exact hap.2.2.1 k e
  ·have := h.old _ h.fg; have := h.old _ h.fm; omega
 have ht : Turn F w (w2.setCell ⟨g, 1, none⟩ wr') := t3.mono (fun k e => .inl (by
  rcases e with rfl | e | rfl
  ·exact h.fm
  ·exact h.fr _ e
  ·exact h.fg))
 have hob2 : w2.heap[g]? = some (.cells [ws, wr, .map (some mb)].toArray 78 (0, 0)) := t2.obj h.obj (fun e => by
  rcases e with e | e
  ·exact hap.1 e
  ·exact (hap.2.2.1 _ e).1 rfl)
 refine ⟨fun k => F k ∨ w.heap.size ≤ k ∧ k < (w2.setCell ⟨g, 1, none⟩ wr').heap.size, ⟨ws, wr', mb, ⟨row_set hob2 1 wr', t3.row h.words (fun k hk e => ?_), ?_, ?_, h.small, h.fits, ?_, fun k hk => ?_, .inl h.fg, .inl h.fm, fun k hk => .inl (h.fw k hk), fun k hk => ?_⟩⟩, fun k hk => hk.imp id (fun x => x.1), ht⟩
 ·rcases e with rfl | e | rfl
  ·exact (hap.2.1 _ hk).2 rfl
  ·exact hap.2.2.2 _ _ hk e rfl
  ·exact (hap.2.1 _ hk).1 rfl
 ·rw [List.length_append]
  exact hrow.kept (grown_setCell _ _ _) (by
   cases hw : wr'.ownBlock with
   | none => exact .inl rfl
   | some k => exact .inr (fun e => by injection e with e; exact (hgn k hw).1 e))
 ·refine ⟨D.put (ik n) (.lit (.int .i64 (L.length : Int))), ?_, ?_⟩
  ·rw [List.length_append]
   exact (hmap.kept hg2 (fun e => (hap.2.2.1 mb e.symm).2 rfl)).kept (grown_setCell _ _ _) (fun e => by injection e with e; exact hap.1 e.symm)
  ·intro a ha
   obtain ⟨d1, d2⟩ := hD a ha
   rw [fidx_snoc]
   have hk : WideAt.IsKeyLit (ik n) := trivial
   by_cases hna : n = a
   ·subst hna
    refine ⟨fun i hi => ?_, fun hi => ?_⟩
    ·rw [hfi] at hi
     simp at hi
     subst hi
     exact ⟨Maps.has_put_same hisMap hk _, Maps.atKey_put_same hisMap hk _ _⟩
    ·rw [hfi] at hi; simp at hi
   ·have hne : ik a ≠ ik n := by unfold ik; intro e; injection e with _ e; omega
    rw [Maps.has_put_other hne, Maps.atKey_put_other hne]
    refine ⟨fun i hi => ?_, fun hi => ?_⟩
    ·cases hx : fidx L a with
     | some j => rw [hx] at hi; simp at hi; subst hi; exact d1 j hx
     | none => rw [hx, if_neg hna] at hi; cases hi
    ·cases hx : fidx L a with
     | some j => rw [hx] at hi; cases hi
     | none => exact d2 hx
 ·rw [← hL]; exact h.good.put hn hv
 ·rcases hk with hk | hk
  ·exact Nat.lt_of_lt_of_le (h.old k hk) ht.size
  ·exact hk.2
 ·rcases hnew k hk with e | e
  ·exact .inl (h.fr k e)
  ·refine .inr ⟨e, ?_⟩
   have := row_old hrow k hk
   simpa [World.setCell] using this
theorem Put_any (g : Nat) (F : Nat → Prop) (xs : List Nat) (L : List (Nat × Nat)) (a : Int) (v : Nat) (w : World) (h : ViewIs w g F xs L) (hv : v < 18446744073709551616) :
  Calls Tryz.prog 89 #[.pointer (some ⟨g, 0, none⟩), .int .i64 a, .int .u64 (v : Int)] w (PutIs g F xs L a v w) := by
 have HL := Lib.hid (Len_any g F xs L w h)
 have HI := Lib.hid (isIn_any a xs.length w)
 have hsame := Does.same h
 obtain ⟨ws, wr, mb, h⟩ := h
 obtain ⟨c0, c1, c2⟩ := h.cells
 have hfit := h.fits
 by_cases hin : 0 ≤ a ∧ a < (xs.length : Int)
 ·obtain ⟨n, rfl⟩ := Int.eq_ofNat_of_zero_le hin.1
  have hn : n < xs.length := by omega
  rw [show inB (n : Int) xs.length = true from by unfold inB; simp; omega] at HI
  obtain ⟨D, hown, hD⟩ := h.num
  obtain ⟨hD1, hD2⟩ := hD n (by omega)
  have hkey : keyOf Tryz.prog 3 (.int .i64 (n : Int)) = some (.int .i64 (n : Int)) := Maps.keyOf_int_mk Tryz.underlying3 (lit_ok n (by omega))
  cases hfi : fidx L n with
  | some i =>
   obtain ⟨hi1, hi2, _⟩ := fidx_some hfi
   obtain ⟨hh, hat0⟩ := hD1 i hfi
   unfold ik at hh hat0
   have Hat := Lib.hid hat0
   obtain ⟨ad, cap, rfl, hcl⟩ := row_slice h.writes
   clear hcl
   obtain ⟨b, rfl, v0, v1, fz, hcap, _⟩ := wr_cell h.writes rfl i hi1
   have HR : PutIs g F xs L (n : Int) v w (.returned (.int .i64 0)) (w.setCell ⟨b, i * 2 + 1, none⟩ (.int .u64 (v : Int))) := by
    unfold PutIs putEI putI
    rw [if_pos hin, if_pos hin, Int.toNat_natCast]
    unfold putE putL
    rw [hfi]
    exact ⟨rfl, did_store h rfl hfi hn hv⟩
   replace HR := Lib.hid HR
   generalize (L.getD i (0, 0)).2 = U at v1
   obtain ⟨m, Hm⟩ : ∃ m, Hid (m = L.length) := ⟨_, Lib.hid rfl⟩
   rw [← Hm.out] at hi1 c1 hown
   obtain ⟨z, Hz⟩ : ∃ z, Hid (z = xs.length) := ⟨_, Lib.hid rfl⟩
   rw [← Hz.out] at hn HL HI
   have hms : m ≤ 96 := by rw [Hm.out]; exact h.good.few
   clear h hD hD1 hD2 hfi hat0 hi2 hcap hsame hin
   go_enter Tryz.func89, Tryz.ntmps89
   go_wp2_with fail
   refine HL.out.mono ?_
   rintro e w1 ⟨rfl, rfl⟩
   go_wp2_with fail
   refine HI.out.mono ?_
   rintro e w1 ⟨rfl, rfl⟩
   clear HL HI
   go_wp2_with (at_lookup; refine wpList_lookup_own_ok_int _ rfl _ _ 76 rfl 3 3 .i64 keyedInt Tryz.underlying76 Tryz.underlying3 (Tryz.zeroValue3 _) mb m D rfl hown _ _ rfl hkey ?_)
   intro c hat hwc
   obtain rfl : c = (i : Int) := by rw [Hat.out] at hat; injection hat with hat; injection hat with _ hat; exact hat.symm
   clear hat hwc
   go_wp2
   go_ret
   exact HR.out
  | none =>
   have hh := hD2 hfi
   unfold ik at hh
   obtain ⟨ad, cap, rfl, hcl⟩ := row_slice h.writes
   clear hcl
   by_cases hfull : 96 ≤ L.length
   ·have HR : PutIs g F xs L (n : Int) v w (.returned (.int .i64 5)) w := by
     unfold PutIs putEI putI
     rw [if_pos hin, if_pos hin, Int.toNat_natCast]
     unfold putE putL
     rw [hfi]
     simp only
     rw [if_pos hfull, if_pos hfull]
     exact ⟨rfl, hsame⟩
    replace HR := Lib.hid HR
    obtain ⟨m, Hm⟩ : ∃ m, Hid (m = L.length) := ⟨_, Lib.hid rfl⟩
    rw [← Hm.out] at c1 hown hfull
    obtain ⟨z, Hz⟩ : ∃ z, Hid (z = xs.length) := ⟨_, Lib.hid rfl⟩
    rw [← Hz.out] at hn HL HI
    have hfull' : (96 : Int) ≤ (m : Int) := by omega
    clear h hD hD1 hD2 hfi hsame hin
    go_enter Tryz.func89, Tryz.ntmps89
    go_wp2_with fail
    refine HL.out.mono ?_
    rintro e w1 ⟨rfl, rfl⟩
    go_wp2_with fail
    refine HI.out.mono ?_
    rintro e w1 ⟨rfl, rfl⟩
    clear HL HI
    go_wp2_with (at_lookup; refine wpList_lookup_own_ok_int _ rfl _ _ 76 rfl 3 3 .i64 keyedInt Tryz.underlying76 Tryz.underlying3 (Tryz.zeroValue3 _) mb m D rfl hown _ _ rfl hkey ?_)
    intro c hat hwc
    clear hat hwc
    go_wp2
    go_ret
    exact HR.out
   ·obtain ⟨m, Hm⟩ : ∃ m, Hid (m = L.length) := ⟨_, Lib.hid rfl⟩
    have hisMap := hown.isMap
    have HF : ∀ (w1 w2 : World) (wr' : Value), w.drew.grownBy w1 (some mb) → w1.ownsMap Tryz.prog 3 (plainElem Tryz.prog 3) mb (m + 1) (D.put (.int .i64 (n : Int)) (.lit (.int .i64 (m : Int)))) →
      w2.ownsRow 0 118 2 wr' (m + 1) (wcells (L ++ [(n, v)])) → w1.grownBy w2 (Value.slice ad m cap).ownBlock → (∀ i, wr'.ownBlock = some i → (Value.slice ad m cap).ownBlock = some i ∨ w.heap.size ≤ i) →
      PutIs g F xs L (n : Int) v w (.returned (.int .i64 0)) (w2.setCell ⟨g, 1, none⟩ wr') := by
     intro w1 w2 wr' hg1 hmap hrow hg2 hnew
     rw [Hm.out] at hmap hrow hg2 hnew
     unfold PutIs putEI putI
     rw [if_pos hin, if_pos hin, Int.toNat_natCast]
     unfold putE putL
     rw [hfi]
     simp only
     rw [if_neg hfull, if_neg hfull]
     exact ⟨rfl, did_append h hfi hn hv (by omega) hD hmap hisMap ⟨hg1.os, hg1.tape, hg1.output, hg1.size, hg1.block⟩ hrow hg2 hnew⟩
    replace HF := Lib.hid HF
    have hrow0 := h.writes
    have hfr := h.fr
    have hfm := h.fm
    have hap := h.apart
    have hob := h.obj
    rw [← Hm.out] at c1 hown hfull hrow0 hob hap
    obtain ⟨z, Hz⟩ : ∃ z, Hid (z = xs.length) := ⟨_, Lib.hid rfl⟩
    rw [← Hz.out] at hn HL HI
    have hfull' : ¬ (96 : Int) ≤ (m : Int) := by omega
    clear h hD hD1 hD2 hfi hsame hin
    go_enter Tryz.func89, Tryz.ntmps89
    go_wp2_with fail
    refine HL.out.mono ?_
    rintro e w1 ⟨rfl, rfl⟩
    go_wp2_with fail
    refine HI.out.mono ?_
    rintro e w1 ⟨rfl, rfl⟩
    clear HL HI
    go_wp2_with (at_lookup; refine wpList_lookup_own_ok_int _ rfl _ _ 76 rfl 3 3 .i64 keyedInt Tryz.underlying76 Tryz.underlying3 (Tryz.zeroValue3 _) mb m D rfl hown _ _ rfl hkey ?_)
    intro c hat hwc
    clear hat hwc
    go_wp2_with fail
    go_still_tail 10, (by kernel_rfl)
    change wpList _ _ _ _ _ w.drew
    have hval : plainElem (H := Unit) Tryz.prog 3 (.int .i64 (m : Int)) = some (.lit (.int .i64 (m : Int)), []) := plainElem_int Tryz.underlying3 (lit_ok m (by omega))
    refine wpList_mapUpdate_own _ rfl _ _ _ 76 rfl 3 3 keyedInt Tryz.underlying76 (plainElem Tryz.prog 3) mb m D rfl hown.drew (by unfold maxLen; omega) _ _ (.int .i64 (n : Int)) rfl rfl hkey (.lit (.int .i64 (m : Int))) [] hval ?_
    intro w1 hmap hg1
    have hwg : w.grownBy w1 (some mb) := ⟨hg1.os, hg1.tape, hg1.output, hg1.size, hg1.block⟩
    have hob1 : w1.heap[g]? = some (.cells [ws, .slice ad m cap, .map (some mb)].toArray 78 (0, 0)) := (hwg.block g (lt_of_block hob) (by intro e; injection e with e; exact hap.1 e)).trans hob
    have d1 := row_cell hob1 1 _ rfl
    have df := row_free hob1 1
    have hrow1 : w1.ownsRow 0 118 2 (.slice ad m cap) m (wcells L) := hrow0.kept hwg (by
     cases ad with
     | none => exact .inl rfl
     | some q => exact .inr (fun e => by injection e with e; exact (hap.2.2.1 _ rfl).2 e))
    clear c0 c1 c2 hown hh hkey hval hrow0
    go_wp2_with (at_builtin; refine appW rfl _ _ rfl 0 _ m L rfl (hrow1.alloc _) ⟨w1.heap.size, 0, none⟩ 1 1 [(n, v)] rfl rfl (at_of_row (heap_alloc_new w1 _)) ?a2 (Nat.zero_le _) ?_)
    case a2 => omega
    intro ad2 cap2 w2 hrow2 hg2 hnew2
    have hg2' : w1.grownBy w2 (Value.slice ad m cap).ownBlock := grown_trans (World.grownBy_alloc w1 _ _) hg2
    have hF := HF.out w1 w2 _ hg1 hmap hrow2 hg2' (fun i hi => by
     rcases hnew2 i hi with e | e
     ·exact .inl e
     ·have e' : w1.heap.size + 1 ≤ i := by simpa using e
      have := hwg.size; exact .inr (by omega))
    have hob2 : w2.heap[g]? = some (.cells [ws, .slice ad m cap, .map (some mb)].toArray 78 (0, 0)) := (hg2'.block g (lt_of_block hob1) (by intro e; exact (hap.2.2.1 g e.symm).1 rfl)).trans hob1
    have d2 := row_cell hob2 1 _ rfl
    have df2 := row_free hob2 1
    replace hF := Lib.hid hF
    clear HF hob1 hob2 hrow1 hrow2 hg2 hg2' hnew2 hmap hg1 hwg d1 df
    go_wp2
    go_ret
    exact hF.out
 ·have HR : PutIs g F xs L a v w (.returned (.int .i64 8)) w := by
   unfold PutIs putEI putI
   rw [if_neg hin, if_neg hin]
   exact ⟨rfl, hsame⟩
  replace HR := Lib.hid HR
  rw [show inB a xs.length = false from by unfold inB; by_cases h0 : 0 ≤ a <;> simp [h0]; omega] at HI
  clear hin h hsame
  go_enter Tryz.func89, Tryz.ntmps89
  go_wp2_with fail
  refine HL.out.mono ?_
  rintro e w1 ⟨rfl, rfl⟩
  go_wp2_with fail
  refine HI.out.mono ?_
  rintro e w1 ⟨rfl, rfl⟩
  go_wp2
  go_ret
  exact HR.out
end Go.Proofs.YtfljlmmiiccooaaGreatDoor
end
section
namespace Go.Proofs.YtfljlmmiiccooaaGreatDoor
open Go.RowKit Go.Grommet
def DoIs (base : Nat) (v : Value) (n : Nat) (ys : List Nat) (w : World) (e : Ending) (w' : World) : Prop :=
 e = .returned (.tuple #[]) ∧ w'.ownsRow base 72 1 v n (ys.map wv) ∧ w.grownBy w' v.ownBlock
theorem at_pair {w : World} {bd : Option Addr} {L : List (Nat × Nat)} (h : At w bd (wcells L)) (k : Nat) (hk : k < L.length) :
  ∃ q o, bd = some ⟨q, o, none⟩ ∧ w.cell? ⟨q, o + k * 2, none⟩ = some (.int .i64 ((L.getD k (0, 0)).1 : Int)) ∧ w.cell? ⟨q, o + k * 2 + 1, none⟩ = some (.int .u64 ((L.getD k (0, 0)).2 : Int)) := by
 obtain ⟨q, o, hb, c0⟩ := h (k * 2) _ (wcells_at L k hk).1
 obtain ⟨q', o', hb', c1⟩ := h (k * 2 + 1) _ (wcells_at L k hk).2
 rw [hb] at hb'
 cases hb'
 exact ⟨q, o, hb, c0, by rw [Nat.add_assoc]; exact c1⟩
theorem take_snocD {α : Type} (L : List α) (k : Nat) (d : α) (h : k < L.length) : L.take (k + 1) = L.take k ++ [L.getD k d] := by
 rw [List.take_succ_eq_append_getElem h]; simp [h]
theorem map_wv_set (xs : List Nat) (k v : Nat) : (xs.map wv).set k (wv v) = (xs.set k v).map wv := by rw [List.map_set]
theorem do_any (base : Nat) (ad : Option Addr) (n cap : Nat) (xs : List Nat) (bd : Option Addr) (m c : Nat) (L : List (Nat × Nat)) (w : World)
  (hown : w.ownsRow base 72 1 (.slice ad n cap) n (xs.map wv)) (hn : xs.length = n) (hat : At w bd (wcells L)) (hL : L.length = m) (hm : m ≤ 549755813888) (hok : ∀ p ∈ L, p.1 < n)
  (hne : ∀ a, bd = some a → L ≠ [] → (Value.slice ad n cap).ownBlock ≠ some a.block) :
  Calls Tryz.prog 65 #[.slice ad n cap, .slice bd m c] w (DoIs base (.slice ad n cap) n (flatV xs L) w) := by
 have HL := Lib.hid hL
 have HN := Lib.hid hn
 clear hL hn
 go_enter Tryz.func65, Tryz.ntmps65
 go_wp2_with fail
 go_loopw [8] (fun i wr => ∃ k : Nat, k ≤ m ∧ i = .int .i64 (k : Int) ∧ wr.ownsRow base 72 1 (.slice ad n cap) n ((flatV xs (L.take k)).map wv) ∧ w.grownBy wr (Value.slice ad n cap).ownBlock) (fun i _ => m - (intOf i).toNat)
 case atStart => exact ⟨0, Nat.zero_le _, rfl, hown, World.grownBy.refl _ _⟩
 case round =>
  obtain ⟨k, hk, rfl, hr, hg⟩ := hrel
  by_cases hlt : k < m
  ·have hlt' : (k : Int) < (m : Int) := by omega
   have h0 : (0 : Int) ≤ (k : Int) := by omega
   have hkL : k < L.length := by rw [HL.out]; exact hlt
   have hp := hok _ (getD_mem L k (0, 0) hkL)
   have hat' : At wr bd (wcells L) := hat.grown hg (fun a ha hx => fun e => hne a ha (by intro h; rw [h] at hx; exact hx rfl) e.symm)
   obtain ⟨q, o, rfl, v0, v1⟩ := at_pair hat' k hkL
   obtain ⟨b, rfl, c1, cf, hcap, hb⟩ := wd_cell hr (by rw [flatV_length]; exact HN.out) _ hp
   have HS := Lib.hid (take_snocD L k (0, 0) hkL)
   have hlb : b < wr.heap.size := World.block_lt_of_cell? _ _ c1
   generalize (flatV xs (L.take k)).getD (L.getD k (0, 0)).1 0 = U at c1
   have HA := Lib.hid (row_put hr (L.getD k (0, 0)).1 (.int .u64 ((L.getD k (0, 0)).2 : Int)))
   obtain ⟨A, A0⟩ : ∃ A, Hid (A = (L.getD k (0, 0)).1) := ⟨_, Lib.hid rfl⟩
   obtain ⟨V, V0⟩ : ∃ V, Hid (V = (L.getD k (0, 0)).2) := ⟨_, Lib.hid rfl⟩
   rw [← A0.out] at v0 c1 cf hp HA
   rw [← V0.out] at v1 HA
   have hA' : (A : Int) < (n : Int) := by omega
   have hA0 : (0 : Int) ≤ (A : Int) := by omega
   have hRow := Lib.hid hr
   clear hr hat'
   go_wp2
   go_roundw
   case rel =>
    refine ⟨k + 1, by omega, by go_num, ?_, ?_⟩
    ·rw [HS.out, flatV_snoc]
     rw [← V0.out, ← A0.out, ← map_wv_set]
     exact HA.out.alloc _
    ·exact grown_trans (grown_trans hg (grown_setCell wr ⟨b, A, none⟩ (.int .u64 (V : Int)))) (World.grownBy_alloc _ _ _)
   case measure => simp [intOf]; omega
  ·have HR : DoIs base (.slice ad n cap) n (flatV xs L) w (.returned (.tuple #[])) wr := ⟨rfl, by rw [List.take_of_length_le (by rw [HL.out]; omega)] at hr; exact hr, hg⟩
   replace HR := Lib.hid HR
   clear hr
   go_wp2
   go_end0
   exact HR.out
theorem Flat_any (g : Nat) (F : Nat → Prop) (xs : List Nat) (L : List (Nat × Nat)) (w : World) (h : ViewIs w g F xs L) (base : Nat) (hb : base ≤ w.heap.size) :
  Calls Tryz.prog 30 #[.pointer (some ⟨g, 0, none⟩)] w (RowOf base (flatV xs L) w) := by
 obtain ⟨ws, wr, mb, h⟩ := h
 obtain ⟨c0, c1, c2⟩ := h.cells
 obtain ⟨ad, cap, rfl, hat, hnil, hlc⟩ := row_slice h.words
 obtain ⟨bd, cap2, rfl, hat2, hnil2, _⟩ := row_slice h.writes
 have hfit := h.fits
 have hfew := h.good.few
 have hold := row_old h.writes
 have hok := h.good.at_
 have HC := Lib.hid (Clone_any w.heap.size ad xs.length cap xs w ⟨rfl, h.small, hat, by omega⟩ hfit hnil (Nat.le_refl _))
 have hob := h.obj
 clear h hat hnil c2 hlc hnil2
 obtain ⟨z, Hz⟩ : ∃ z, Hid (z = xs.length) := ⟨_, Lib.hid rfl⟩
 obtain ⟨m, Hm⟩ : ∃ m, Hid (m = L.length) := ⟨_, Lib.hid rfl⟩
 rw [← Hm.out] at c1 hob hold hfew
 rw [← Hz.out] at c0 HC hob hfit
 go_enter Tryz.func30, Tryz.ntmps30
 go_wp2_with fail
 refine HC.out.mono ?_
 rintro e w1 ⟨a1, k1, rfl, hown, hg⟩
 clear HC
 have hob1 := (hg.block g (lt_of_block hob) (by simp)).trans hob
 have d1 : w1.cell? ⟨g, 1, none⟩ = some (.slice bd m cap2) := by simp [World.cell?, hob1]
 have hlen : xs.length = z := Hz.out.symm
 rw [hlen] at hown
 have HD := Lib.hid (do_any w.heap.size a1 z k1 xs bd m cap2 L w1 hown hlen (hat2.grown hg (by simp)) Hm.out.symm (by omega) (fun p hp => by have := hok p hp; omega)
  (fun a ha hx e => by have h1 := (hown.lt _ e).1; have h2 := hold a.block (by rw [ha]; rfl); omega))
 rw [hlen]
 clear hlen hown hob hob1 c0 c1
 go_wp2_with fail
 refine HD.out.mono ?_
 rintro e w2 ⟨rfl, hown2, hg2⟩
 clear HD
 have hlt := hown2.lt
 have HR : RowOf base (flatV xs L) w (.returned (.slice a1 z k1)) w2 :=
  rowOf_mk (by rw [flatV_length]; exact Hz.out) (row_base hown2 (fun i hi => by have := (hlt i hi).1; omega)) (grown_new hg hg2 (fun i hi => (hlt i hi).1))
 replace HR := Lib.hid HR
 clear hown2 hlt hg2 hg hold hok
 go_wp2
 go_ret
 exact HR.out
def okI (n : Nat) (M : List (Int × Nat)) : Bool := M.all fun p => inB p.1 (n : Int)
end Go.Proofs.YtfljlmmiiccooaaGreatDoor
end
section
namespace Go.Proofs.YtfljlmmiiccooaaGreatDoor
open Go.RowKit Go.Grommet
def viewP (g : Nat) (xs : List Nat) (L : List (Nat × Nat)) : Pr where
 holds w F := ViewIs w g F xs L
 turn := ViewIs.turn
 old := fun h => by obtain ⟨_, _, _, h⟩ := h; exact h.old
theorem NewH (ad : Option Addr) (l c : Nat) (xs : List Nat) (w0 w : World) (Ps : List Pr) (h : Own w0 w Ps) (hx : Words w ad l xs) (hl : l ≤ 549755813888) (hnil : ad = none → l = 0 ∧ c = 0) :
  Calls Tryz.prog 8 #[.slice ad l c] w fun e w' => ∃ g, e = .returned (.pointer (some ⟨g, 0, none⟩)) ∧ Own w0 w' (Ps ++ [viewP g xs []]) := by
 refine (New_any ad l c xs w hx hl hnil).mono ?_
 rintro e w' ⟨g, F, he, hv, hF, hg⟩
 exact ⟨g, he, h.add (P := viewP g xs []) hv hF hg⟩
theorem PutH (k g : Nat) (xs : List Nat) (L : List (Nat × Nat)) (a : Int) (v : Nat) (en : Int) (w0 w : World) (Ps Qs : List Pr) (h : Own w0 w Ps) (hk : Ps[k]? = some (viewP g xs L)) (hv : v < 18446744073709551616)
  (he : (putEI xs L a : Int) = en) (hQ : Ps.set k (viewP g xs (putI xs L a v)) = Qs) :
  Calls Tryz.prog 89 #[.pointer (some ⟨g, 0, none⟩), .int .i64 a, .int .u64 (v : Int)] w fun e w' => e = .returned (.int .i64 en) ∧ Own w0 w' Qs := by
 obtain ⟨F, h1, h2⟩ := h.take k hk
 refine (Put_any g F xs L a v w h1 hv).mono ?_
 rintro e w' ⟨rfl, hd⟩
 subst he
 subst hQ
 exact ⟨rfl, h2 w' _ hd⟩
theorem GetH (k g : Nat) (xs : List Nat) (L : List (Nat × Nat)) (a : Int) (w0 w : World) (Ps : List Pr) (h : Own w0 w Ps) (hk : Ps[k]? = some (viewP g xs L)) :
  Calls Tryz.prog 88 #[.pointer (some ⟨g, 0, none⟩), .int .i64 a] w fun e w' => e = .returned (.int .u64 (gotI xs L a : Int)) ∧ w' = w := by
 obtain ⟨F, h1⟩ := h.get k hk
 exact (Get_any g F xs L a w h1).mono fun _ _ h => ⟨h.1, h.2.symm⟩
theorem LenH (k g : Nat) (xs : List Nat) (L : List (Nat × Nat)) (w0 w : World) (Ps : List Pr) (h : Own w0 w Ps) (hk : Ps[k]? = some (viewP g xs L)) :
  Calls Tryz.prog 87 #[.pointer (some ⟨g, 0, none⟩)] w fun e w' => e = .returned (.int .i64 (xs.length : Int)) ∧ w' = w := by
 obtain ⟨F, h1⟩ := h.get k hk
 exact (Len_any g F xs L w h1).mono fun _ _ h => ⟨h.1, h.2.symm⟩
theorem WritesH (k g : Nat) (xs : List Nat) (L : List (Nat × Nat)) (w0 w : World) (Ps : List Pr) (h : Own w0 w Ps) (hk : Ps[k]? = some (viewP g xs L)) :
  Calls Tryz.prog 27 #[.pointer (some ⟨g, 0, none⟩)] w fun e w' => ∃ ad cap, e = .returned (.slice ad L.length cap) ∧ Own w0 w' (Ps ++ [rowP 118 2 (.slice ad L.length cap) L.length (wcells L)]) := by
 obtain ⟨F, h1⟩ := h.get k hk
 refine (Writes_any g F xs L w h1 w.heap.size (Nat.le_refl _)).mono ?_
 rintro e w' ⟨ad, cap, he, hr, hg⟩
 exact ⟨ad, cap, he, h.addRow hr hg⟩
theorem FlatH (k g : Nat) (xs : List Nat) (L : List (Nat × Nat)) (w0 w : World) (Ps : List Pr) (h : Own w0 w Ps) (hk : Ps[k]? = some (viewP g xs L)) :
  Calls Tryz.prog 30 #[.pointer (some ⟨g, 0, none⟩)] w fun e w' => ∃ ad cap, e = .returned (.slice ad xs.length cap) ∧ Own w0 w' (Ps ++ [rowP 72 1 (.slice ad xs.length cap) xs.length ((flatV xs L).map wv)]) := by
 obtain ⟨F, h1⟩ := h.get k hk
 refine (Flat_any g F xs L w h1 w.heap.size (Nat.le_refl _)).mono ?_
 rintro e w' ⟨ad, cap, he, hr, hg⟩
 rw [flatV_length] at he hr
 exact ⟨ad, cap, he, h.addRow hr hg⟩
theorem Own.wl {w0 w : World} {Ps : List Pr} (h : Own w0 w Ps) (k : Nat) {g : Nat} {xs : List Nat} {L : List (Nat × Nat)} (hk : Ps[k]? = some (viewP g xs L)) : Wl xs.length L ∧ (∀ n ∈ xs, n < 18446744073709551616) ∧ xs.length ≤ 549755813888 := by
 obtain ⟨F, ⟨ws, wr, mb, h1⟩⟩ := h.get k hk
 exact ⟨h1.good, h1.small, h1.fits⟩
theorem Own.words {w0 w : World} {Ps : List Pr} (h : Own w0 w Ps) (k : Nat) {ad : Option Addr} {n cap : Nat} {ys : List Nat} (hk : Ps[k]? = some (rowP 72 1 (.slice ad n cap) n (ys.map wv))) (hs : ∀ n ∈ ys, n < 18446744073709551616) (hf : n ≤ 549755813888) :
  Words w ad n ys ∧ (ad = none → n = 0 ∧ cap = 0) ∧ n ≤ cap := by
 have hr := h.row k hk
 have hl := hr.1
 obtain ⟨ad', cap', he, hat, hnil, hc⟩ := row_slice hr
 cases he
 exact ⟨⟨by simpa using hl, hs, hat, by omega⟩, hnil, hc⟩
theorem Own.word {w0 w : World} {Ps : List Pr} (h : Own w0 w Ps) (k : Nat) {ad : Option Addr} {n cap : Nat} {ys : List Nat} (hk : Ps[k]? = some (rowP 72 1 (.slice ad n cap) n (ys.map wv))) (hy : ys.length = n) (i : Nat) (hi : i < n) :
  ∃ b, ad = some ⟨b, 0, none⟩ ∧ w.cell? ⟨b, i, none⟩ = some (.int .u64 ((ys.getD i 0 : Nat) : Int)) ∧ w.frozen? ⟨b, i, none⟩ = false ∧ n ≤ cap := by
 obtain ⟨b, h1, h2, h3, h4, _⟩ := wd_cell (h.row k hk) hy i hi
 exact ⟨b, h1, h2, h3, h4⟩
theorem putI_length (xs : List Nat) (L : List (Nat × Nat)) (a : Int) (v : Nat) : (putI xs L a v).length ≤ L.length + 1 := by
 unfold putI putL
 split
 ·split
  ·simp
  ·split
   ·omega
   ·simp
 ·omega
end Go.Proofs.YtfljlmmiiccooaaGreatDoor
end
section
namespace Go.Proofs.YtfljlmmiiccooaaGreatDoor
open Go.RowKit Go.Grommet
theorem SetH (k g : Nat) (xs : List Nat) (L : List (Nat × Nat)) (a : Int) (v : Nat) (en : Int) (w0 w : World) (Ps Qs : List Pr) (h : Own w0 w Ps) (hk : Ps[k]? = some (viewP g xs L)) (hv : v < 18446744073709551616)
  (he : (setE xs L a v : Int) = en) (hQ : Ps.set k (viewP g xs (setL xs L a v)) = Qs) :
  Calls Tryz.prog 53 #[.pointer (some ⟨g, 0, none⟩), .int .i64 a, .int .u64 (v : Int)] w fun e w' => e = .returned (.int .i64 en) ∧ Own w0 w' Qs := by
 have HL := Lib.hid (LenH k g xs L w0 w Ps h hk)
 have HG := Lib.hid (GetH k g xs L a w0 w Ps h hk)
 have hQs : Ps.set k (viewP g xs L) = Ps := by
  apply List.ext_getElem?
  intro i
  by_cases hi : i = k
  ·subst hi; rw [List.getElem?_set_self (List.getElem?_eq_some_iff.1 hk).1, hk]
  ·rw [List.getElem?_set_ne (fun e => hi e.symm)]
 have hfit := (Own.wl h k hk).2.2
 by_cases hr : 0 ≤ a ∧ a < (xs.length : Int)
 ·unfold setE at he
  unfold setL at hQ
  rw [if_pos hr] at he hQ
  have hgi : gotI xs L a = gotV xs L a.toNat := by unfold gotI; rw [if_pos hr]
  rw [hgi] at HG
  have a0 : ¬ a < 0 := by omega
  have a1 : ¬ (xs.length : Int) ≤ a := by omega
  by_cases hx : gotV xs L a.toNat = v
  ·rw [if_pos hx] at he hQ
   rw [hx] at HG
   rw [hQs] at hQ
   subst he hQ
   have h := Lib.hid h
   generalize xs.length = n at *
   have e1 : ((v : Int) == (v : Int)) = true := by simp
   clear hx hgi hv hQs
   go_enter Tryz.func53, Tryz.ntmps53
   go_wp2_with fail
   refine HL.out.mono ?_
   rintro e w1 ⟨rfl, rfl⟩
   go_wp2_with fail
   refine HG.out.mono ?_
   rintro e w2 ⟨rfl, rfl⟩
   go_wp2
   go_ret
   exact ⟨rfl, h.out⟩
  ·rw [if_neg hx] at he hQ
   have HP := Lib.hid (PutH k g xs L a v en w0 w Ps Qs h hk hv (by unfold putEI; rw [if_pos hr]; exact he) (by unfold putI; rw [if_pos hr]; exact hQ))
   generalize gotV xs L a.toNat = u at *
   generalize xs.length = n at *
   have e1 : ((u : Int) == (v : Int)) = false := by simp; omega
   clear hx hgi hv hQs he hQ h
   go_enter Tryz.func53, Tryz.ntmps53
   go_wp2_with fail
   refine HL.out.mono ?_
   rintro e w1 ⟨rfl, rfl⟩
   go_wp2_with fail
   refine HG.out.mono ?_
   rintro e w2 ⟨rfl, rfl⟩
   go_wp2_with fail
   refine HP.out.mono ?_
   rintro e w3 ⟨rfl, hO⟩
   go_wp2
   go_ret
   exact ⟨rfl, hO⟩
 ·unfold setE at he
  unfold setL at hQ
  rw [if_neg hr] at he hQ
  rw [hQs] at hQ
  subst he hQ
  have h := Lib.hid h
  generalize xs.length = n at *
  clear hv hQs HG
  by_cases a0 : a < 0
  ·go_enter Tryz.func53, Tryz.ntmps53
   go_wp2
   go_ret
   exact ⟨rfl, h.out⟩
  ·have a1 : (n : Int) ≤ a := by omega
   go_enter Tryz.func53, Tryz.ntmps53
   go_wp2_with fail
   refine HL.out.mono ?_
   rintro e w1 ⟨rfl, rfl⟩
   go_wp2
   go_ret
   exact ⟨rfl, h.out⟩
end Go.Proofs.YtfljlmmiiccooaaGreatDoor
end
section
namespace Go.Proofs.YtfljlmmiiccooaaGreatDoor
open Go.RowKit Go.Grommet
structure MapOk (n a m : Nat) : Prop where
 one : 1 ≤ m
 fits : a + (m - 1) / 64 + 1 ≤ n
 few : n ≤ 1000000
def mapCs (g a m : Nat) : Array Value := #[.pointer (some ⟨g, 0, none⟩), .int .i64 (a : Int), .int .i64 (m : Int)]
theorem MapOk.lt {n a m : Nat} (h : MapOk n a m) : m ≤ 64 * n ∧ a < n ∧ m ≤ 64000000 := by
 have h1 := h.one
 have h2 := h.fits
 have h3 := h.few
 have : m ≤ 64 * ((m - 1) / 64 + 1) := by omega
 omega
def mbit (xs : List Nat) (L : List (Nat × Nat)) (a i : Nat) : Bool := (gotV xs L (a + i / 64)).testBit (i % 64)
def mapP (X g a m : Nat) : Pr := boxP X 193 (mapCs g a m)
theorem wordsOf_any (m : Nat) (w : World) (h1 : 1 ≤ m) (h2 : m ≤ 9223372036854775807) : Calls Tryz.prog 130 #[.int .i64 (m : Int)] w fun e w' => e = .returned (.int .i64 (((m - 1) / 64 + 1 : Nat) : Int)) ∧ w = w' := by
 have e1 : IntKind.i64.wrap ((m : Int) - 1) = ((m - 1 : Nat) : Int) := by rw [IntWalk.i64_in _ ⟨by omega, by omega⟩]; omega
 generalize hk : m - 1 = k at e1 ⊢
 have hkl : k ≤ 9223372036854775806 := by omega
 have e2 : ((k / 64 : Nat) : Int) + 1 = ((k / 64 + 1 : Nat) : Int) := by omega
 have hm : (m : Int) - 1 = (k : Int) := by omega
 clear hk h2 h1
 go_enter Tryz.func130, Tryz.ntmps130
 go_wp2
 go_ret
 exact ⟨by congr 1, rfl⟩
end Go.Proofs.YtfljlmmiiccooaaGreatDoor
end
section
namespace Go.Proofs.YtfljlmmiiccooaaGreatDoor
open Go.RowKit Go.Grommet
theorem map_cells {w : World} {X g a m : Nat} (h : w.heap[X]? = some (.cells (mapCs g a m) 193 (0, 0))) :
  w.cell? ⟨X, 0, none⟩ = some (.pointer (some ⟨g, 0, none⟩)) ∧ w.cell? ⟨X, 1, none⟩ = some (.int .i64 (a : Int)) ∧ w.cell? ⟨X, 2, none⟩ = some (.int .i64 (m : Int)) := by
 simp [World.cell?, h, mapCs]
theorem bit_any (i : Nat) (w : World) (h : i ≤ 9223372036854775807) : Calls Tryz.prog 145 #[.int .i64 (i : Int)] w fun e w' => e = .returned (.int .u64 ((2 ^ (i % 64) : Nat) : Int)) ∧ w = w' := by
 have e0 : ((i : Int) % 64).toNat = i % 64 := by omega
 have e1 : IntKind.u64.wrap (1 * 2 ^ ((i : Int) % 64).toNat) = ((2 ^ (i % 64) : Nat) : Int) := by
  have hp := pow_lt64 (j := i % 64) (by omega)
  rw [e0, Int.one_mul, show (2 : Int) ^ (i % 64) = ((2 ^ (i % 64) : Nat) : Int) from by simp]
  generalize 2 ^ (i % 64) = p at hp
  rw [IntWalk.u64_in _ ⟨by omega, by omega⟩]
 have e2 : IntKind.u64.wrap (2 ^ ((i : Int) % 64).toNat) = ((2 ^ (i % 64) : Nat) : Int) := by rw [← e1, Int.one_mul]
 have h0 : (0 : Int) ≤ (i : Int) % 64 := by omega
 have h1 : (i : Int) % 64 ≤ 64 := by omega
 generalize ((2 ^ (i % 64) : Nat) : Int) = B at e1 e2 ⊢
 clear e0
 go_enter Tryz.func145, Tryz.ntmps145
 go_wp2
 go_ret
 exact ⟨by first | rfl | rw [e2] | rw [e1], rfl⟩
theorem has_any (X g a m : Nat) (i : Int) (w : World) (h : w.heap[X]? = some (.cells (mapCs g a m) 193 (0, 0))) : Calls Tryz.prog 144 #[.pointer (some ⟨X, 0, none⟩), .int .i64 i] w fun e w' => e = .returned (.bool (inB i m)) ∧ w = w' := by
 obtain ⟨_, _, c2⟩ := map_cells h
 clear h
 unfold inB
 by_cases h : 0 ≤ i
 ·by_cases h2 : i < m
  ·rw [show (decide (0 ≤ i) && decide (i < m)) = true from by simp [h, h2]]
   have d1 : decide (0 ≤ i) = true := by simpa using h
   have d2 : decide (i < (m : Int)) = true := by simpa using h2
   go_enter Tryz.func144, Tryz.ntmps144
   go_wp2
   go_ret
   exact ⟨rfl, rfl⟩
  ·rw [show (decide (0 ≤ i) && decide (i < m)) = false from by simp [h2]]
   have d1 : decide (0 ≤ i) = true := by simpa using h
   have d2 : decide (i < (m : Int)) = false := by simpa using h2
   go_enter Tryz.func144, Tryz.ntmps144
   go_wp2
   go_ret
   exact ⟨rfl, rfl⟩
 ·rw [show (decide (0 ≤ i) && decide (i < m)) = false from by simp [h]]
  have d1 : decide (0 ≤ i) = false := by simpa using h
  go_enter Tryz.func144, Tryz.ntmps144
  go_wp2
  go_ret
  exact ⟨rfl, rfl⟩
theorem own_any (X g a m n : Nat) (w : World) (h : w.heap[X]? = some (.cells (mapCs g a m) 193 (0, 0))) (hm : m ≤ 64000000) (hn : n * 64 < m) : Calls Tryz.prog 136 #[.pointer (some ⟨X, 0, none⟩), .int .i64 (n : Int)] w fun e w' => e = .returned (.int .u64 ((ownM m n : Nat) : Int)) ∧ w = w' := by
 obtain ⟨_, _, c2⟩ := map_cells h
 clear h
 have e0 : IntKind.i64.wrap ((n : Int) + 1) = (n : Int) + 1 := IntWalk.i64_in _ ⟨by omega, by omega⟩
 have e1 : IntKind.i64.wrap (((n : Int) + 1) * 64) = ((n : Int) + 1) * 64 := IntWalk.i64_in _ ⟨by omega, by omega⟩
 have e2 : IntKind.i64.wrap (((n : Int) + 1) * 64 - (m : Int)) = ((n : Int) + 1) * 64 - (m : Int) := IntWalk.i64_in _ ⟨by omega, by omega⟩
 by_cases hb : (n + 1) * 64 ≤ m
 ·have ho : ownM m n = 18446744073709551615 := by unfold ownM; rw [show (n + 1) * 64 - m = 0 from by omega]
  have d1 : decide (((n : Int) + 1) * 64 - (m : Int) ≤ 0) = true := by simp; omega
  have d2 : ((n : Int) + 1) * 64 - (m : Int) ≤ 0 := by omega
  rw [ho]
  go_enter Tryz.func136, Tryz.ntmps136
  go_wp2
  go_ret
  exact ⟨rfl, rfl⟩
 ·obtain ⟨b, hbe⟩ : ∃ b : Nat, ((n : Int) + 1) * 64 - (m : Int) = (b : Int) := ⟨(n + 1) * 64 - m, by omega⟩
  have hb1 : (n + 1) * 64 - m = b := by omega
  have hb0 : (0 : Int) ≤ (b : Int) := by omega
  have hb2 : (b : Int) ≤ 64 := by omega
  have hb3 : ¬ (b : Int) ≤ 0 := by omega
  have ho : Hid (((ownM m n : Nat) : Int) = 18446744073709551615 / 2 ^ b) := Lib.hid (by unfold ownM; rw [hb1]; simp)
  rw [ho.out]
  rw [hbe] at e2
  go_enter Tryz.func136, Tryz.ntmps136
  go_wp2
  go_ret
  exact ⟨by first | rfl | simp, rfl⟩
end Go.Proofs.YtfljlmmiiccooaaGreatDoor
end
