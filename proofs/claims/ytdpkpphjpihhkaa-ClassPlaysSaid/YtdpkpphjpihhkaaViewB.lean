/- Package view: New, Drop, Writes. -/
import Derived.Test.YtdpkpphjpihhkaaViewA
-- OPTIONAL
namespace Go.Proofs.Ytdpkpphjpihhkaa
open Go.RowKit Go.Grommet

theorem app64 {w : World} {ops : Array Oper} {rest : List Oper} {o : Oper} {a : Act} {Q : Exit → Act → World → Prop} (hgd : o.guard = none) (s x : Operand)
    (ho : o.op = .call { callee := .builtin .append, args := #[s, x], argTypes := #[27, 27] })
    (base : Nat) (v : Value) (n : Nat) (xs : List Nat) (hs : a.eval s = v) (hown : w.ownsRow base 36 1 v n (xs.map wv))
    (ad : Option Addr) (m c : Nat) (ys : List Nat) (hx : a.eval x = .slice ad m c) (hw : Words w ad m ys) (hnil : ad = none → m = 0 ∧ c = 0)
    (hb : n + m ≤ 1099511627776) (hbase : base ≤ w.heap.size)
    (h : ∀ v' w', w'.ownsRow base 36 1 v' (n + m) ((xs ++ ys).map wv) → w.grownBy w' v.ownBlock → wpList Try.prog ops Q rest (a.put o.dst v') w') : wpList Try.prog ops Q (o :: rest) a w := by
  obtain ⟨i0, hi, hz0, hz1, hz2⟩ := info_parts Try.info36
  refine wpList_append_at hgd s x 27 ho base 36 i0 (.int .u64 0) 8 Try.underlying27 hi hz0 hz1 hz2 rfl v n (xs.map wv) hs hown ad m c (ys.map wv) hx (by rw [List.length_map, hw.len]) hw.at_ hnil (wv_oneCell ys) (by unfold maxLen; omega) (by omega) hbase ?_
  intro v' w' ho' hg
  exact h v' w' (by rw [List.map_append]; exact ho') hg

theorem appW {w : World} {ops : Array Oper} {rest : List Oper} {o : Oper} {a : Act} {Q : Exit → Act → World → Prop} (hgd : o.guard = none) (s x : Operand)
    (ho : o.op = .call { callee := .builtin .append, args := #[s, x], argTypes := #[42, 42] })
    (base : Nat) (v : Value) (n : Nat) (L : List (Nat × Nat)) (hs : a.eval s = v) (hown : w.ownsRow base 79 2 v n (wcells L))
    (ad : Addr) (m c : Nat) (M : List (Nat × Nat)) (hx : a.eval x = .slice (some ad) m c) (hl : M.length = m) (hw : At w (some ad) (wcells M))
    (hb : n + m ≤ 1099511627776) (hbase : base ≤ w.heap.size)
    (h : ∀ ad' cap' w', w'.ownsRow base 79 2 (.slice ad' (n + m) cap') (n + m) (wcells (L ++ M)) → w.grownBy w' v.ownBlock → (∀ g, (Value.slice ad' (n + m) cap').ownBlock = some g → v.ownBlock = some g ∨ w.heap.size ≤ g) → wpList Try.prog ops Q rest (a.put o.dst (.slice ad' (n + m) cap')) w') : wpList Try.prog ops Q (o :: rest) a w := by
  obtain ⟨i0, hi, hz0, hz1, hz2⟩ := info_parts Try.info79
  refine wpList_append_blk w hgd s x 42 ho base 79 i0 (.agg #[.int .i64 0, .int .u64 0]) 2 16 Try.underlying42 hi hz0 hz1 hz2 rfl (by decide) v n (wcells L) hs hown ad m c (wcells M) hx (by rw [wcells_length, hl]) hw.some (wcells_oneCell M) (by unfold maxLen; omega) (by omega) hbase ?_
  intro ad' cap' w' ho' hg hn
  exact h ad' cap' w' (by rw [wcells_append]; exact ho') hg hn

/-- An empty literal. -/
theorem own_lit (w : World) (e : TypeId) (size base : Nat) (hb : base ≤ w.heap.size) : (w.alloc (.cells #[] e)).ownsRow base e size (.slice (some ⟨w.heap.size, 0, none⟩) 0 0) 0 [] :=
  World.ownsRow_lit (size := size) (base := base) (e := e) w #[] 0 hb (by unfold maxLen; omega) (by simp)

/-- A row of words, of the call's own. -/
def RowOf (base : Nat) (xs : List Nat) (w : World) (e : Ending) (w' : World) : Prop :=
  ∃ ad cap, e = .returned (.slice ad xs.length cap) ∧ w'.ownsRow base 36 1 (.slice ad xs.length cap) xs.length (xs.map wv) ∧ w.grownBy w' none
def RowOfW (base : Nat) (L : List (Nat × Nat)) (w : World) (e : Ending) (w' : World) : Prop :=
  ∃ ad cap, e = .returned (.slice ad L.length cap) ∧ w'.ownsRow base 79 2 (.slice ad L.length cap) L.length (wcells L) ∧ w.grownBy w' none

theorem rowOf_mk {base : Nat} {xs : List Nat} {w w' : World} {v : Value} {n : Nat} (hn : n = xs.length) (h : w'.ownsRow base 36 1 v n (xs.map wv)) (hg : w.grownBy w' none) : RowOf base xs w (.returned v) w' := by
  subst hn
  obtain ⟨ad, cap, rfl, _⟩ := row_slice h
  exact ⟨ad, cap, rfl, h, hg⟩
theorem rowOfW_mk {base : Nat} {L : List (Nat × Nat)} {w w' : World} {v : Value} {n : Nat} (hn : n = L.length) (h : w'.ownsRow base 79 2 v n (wcells L)) (hg : w.grownBy w' none) : RowOfW base L w (.returned v) w' := by
  subst hn
  obtain ⟨ad, cap, rfl, _⟩ := row_slice h
  exact ⟨ad, cap, rfl, h, hg⟩

set_option maxHeartbeats 400000 in
theorem Clone_any (base : Nat) (ad : Option Addr) (l c : Nat) (xs : List Nat) (w : World) (hx : Words w ad l xs) (hl : l ≤ 549755813888) (hnil : ad = none → l = 0 ∧ c = 0) (hb : base ≤ w.heap.size) :
    Calls Try.prog 34 #[.slice ad l c] w (RowOf base xs w) := by
  have HL := Lib.hid hx.len
  cases ad with
  | none =>
    obtain ⟨rfl, rfl⟩ := hnil rfl
    obtain rfl := List.eq_nil_of_length_eq_zero hx.len
    have hq := fun wx => eql_slice_nil (P := Try.prog) wx 27 _ none 0 0 Try.underlying27
    go_enter Try.func34, Try.ntmps34
    go_wp2
    go_ret
    exact rowOf_mk rfl (World.ownsRow_nil _ _ _ _) (World.grownBy.refl _ _)
  | some a =>
    have hq := fun wx => eql_slice_nil (P := Try.prog) wx 27 _ (some a) l c Try.underlying27
    go_enter Try.func34, Try.ntmps34
    go_wp2_with (at_builtin; refine app64 rfl _ _ rfl base _ 0 [] rfl (own_lit w _ 1 base hb) (some a) l c xs rfl ?a1 (by simp) ?a2 ?a3 ?_)
    case a1 => exact hx.keep (World.grownBy_alloc w _ none) (by simp)
    case a2 => omega
    case a3 => simp; omega
    intro v1 w1 hown hg
    have hg := grown_new (World.grownBy_alloc w _ none) hg (by intro g e; cases e; exact Nat.le_refl _)
    try rw [List.nil_append, Nat.zero_add] at hown
    have HR := Lib.hid (rowOf_mk HL.out.symm hown hg)
    clear hown hg hx
    go_wp2
    go_ret
    exact HR.out

set_option maxHeartbeats 400000 in
theorem CloneW_any (base : Nat) (ad : Option Addr) (l c : Nat) (L : List (Nat × Nat)) (w : World) (hx : At w ad (wcells L)) (hL : L.length = l) (hl : l ≤ 549755813888) (hnil : ad = none → l = 0 ∧ c = 0) (hb : base ≤ w.heap.size) :
    Calls Try.prog 46 #[.slice ad l c] w (RowOfW base L w) := by
  have HL := Lib.hid hL
  clear hL
  cases ad with
  | none =>
    obtain ⟨rfl, rfl⟩ := hnil rfl
    obtain rfl := List.eq_nil_of_length_eq_zero HL.out
    have hq := fun wx => eql_slice_nil (P := Try.prog) wx 42 _ none 0 0 Try.underlying42
    go_enter Try.func46, Try.ntmps46
    go_wp2
    go_ret
    exact rowOfW_mk rfl (World.ownsRow_nil _ _ _ _) (World.grownBy.refl _ _)
  | some a =>
    have hq := fun wx => eql_slice_nil (P := Try.prog) wx 42 _ (some a) l c Try.underlying42
    go_enter Try.func46, Try.ntmps46
    go_wp2_with (at_builtin; refine appW rfl _ _ rfl base _ 0 [] rfl (own_lit w _ 2 base hb) a l c L rfl HL.out ?a1 ?a2 ?a3 ?_)
    case a1 => exact hx.grown (World.grownBy_alloc w _ none) (by simp)
    case a2 => omega
    case a3 => simp; omega
    intro ad1 cap1 w1 hown hg _
    have hg := grown_new (World.grownBy_alloc w _ none) hg (by intro g e; cases e; exact Nat.le_refl _)
    try rw [List.nil_append, Nat.zero_add] at hown
    have HR := Lib.hid (rowOfW_mk HL.out.symm hown hg)
    clear hown hg hx
    go_wp2
    go_ret
    exact HR.out

/-- A new view. -/
def NewIs (xs : List Nat) (w : World) (e : Ending) (w' : World) : Prop :=
  ∃ g F, e = .returned (.pointer (some ⟨g, 0, none⟩)) ∧ ViewIs w' g F xs [] ∧ (∀ i, F i → w.heap.size ≤ i) ∧ w.grownBy w' none

set_option maxHeartbeats 1000000 in
theorem New_any (ad : Option Addr) (l c : Nat) (xs : List Nat) (w : World) (hx : Words w ad l xs) (hl : l ≤ 549755813888) (hnil : ad = none → l = 0 ∧ c = 0) :
    Calls Try.prog 11 #[.slice ad l c] w (NewIs xs w) := by
  have HL := Lib.hid hx.len
  have HS := Lib.hid hx.small
  have HC := Lib.hid (Clone_any w.heap.size ad l c xs w hx hl hnil (Nat.le_refl _))
  clear hx
  have hmm := @run_makeMap Try.prog
  go_enter Try.func11, Try.ntmps11
  go_wp2_with fail
  refine HC.out.mono ?_
  rintro e w1 ⟨a1, c1, rfl, hown, hg⟩
  clear HC
  have hmk : ((w1.alloc (.map #[] 0)).alloc (.cells #[.slice a1 xs.length c1, .slice none 0 0, .map (some w1.heap.size)] 85)).ownsMap Try.prog 3 (plainElem (H := Unit) Try.prog 3) w1.heap.size 0 (.map []) := (World.ownsMap_made w1 _ _ _).alloc _
  have hw := (hown.alloc (.map #[] 0)).alloc (.cells #[.slice a1 xs.length c1, .slice none 0 0, .map (some w1.heap.size)] 85)
  have hob := heap_alloc_new (w1.alloc (.map #[] 0)) (.cells #[.slice a1 xs.length c1, .slice none 0 0, .map (some w1.heap.size)] 85)
  rw [World.size_alloc] at hob
  have hold := row_old hown
  have hbase : ∀ i, (Value.slice a1 xs.length c1).ownBlock = some i → w.heap.size ≤ i := fun i hi => (hown.lt i hi).1
  have hgs := hg.size
  have HR : NewIs xs w (.returned (.pointer (some ⟨w1.heap.size + 1, 0, none⟩))) ((w1.alloc (.map #[] 0)).alloc (.cells #[.slice a1 xs.length c1, .slice none 0 0, .map (some w1.heap.size)] 85)) := by
    refine ⟨_, fun i => i = w1.heap.size + 1 ∨ i = w1.heap.size ∨ (Value.slice a1 xs.length c1).ownBlock = some i, rfl, ⟨_, _, _, ⟨hob, row_base hw (fun _ _ => Nat.zero_le _), World.ownsRow_nil _ _ _ _, ⟨_, hmk, ?_⟩, HS.out, ?_, Wl.nil _, ?_, .inl rfl, .inr (.inl rfl), fun i hi => .inr (.inr hi), ?_⟩⟩, ?_, ?_⟩
    · intro a ha
      exact ⟨fun i hi => by simp [fidx] at hi, fun _ => rfl⟩
    · rw [HL.out]; omega
    · intro i hi
      simp only [World.size_alloc]
      rcases hi with rfl | rfl | hi
      · omega
      · omega
      · have := hold i hi; omega
    · intro i hi; cases hi
    · intro i hi
      rcases hi with rfl | rfl | hi
      · omega
      · omega
      · exact hbase i hi
    · exact grown_trans (grown_trans hg (World.grownBy_alloc w1 _ none)) (World.grownBy_alloc _ _ none)
  replace HR := Lib.hid HR
  clear hmk hw hob hold hbase hgs hg hown
  go_wp2
  go_ret
  exact HR.out

/-- What a call does with a view: its blocks and new ones alone. -/
def Does (g : Nat) (F : Nat → Prop) (w w' : World) (xs : List Nat) (L : List (Nat × Nat)) : Prop := ∃ F', ViewIs w' g F' xs L ∧ (∀ i, F' i → F i ∨ w.heap.size ≤ i) ∧ Turn F w w'

def DropIs (g : Nat) (F : Nat → Prop) (xs : List Nat) (w : World) (e : Ending) (w' : World) : Prop := e = .returned (.tuple #[]) ∧ Does g F w w' xs []

set_option maxHeartbeats 1000000 in
theorem Drop_any (g : Nat) (F : Nat → Prop) (xs : List Nat) (L : List (Nat × Nat)) (w : World) (h : ViewIs w g F xs L) :
    Calls Try.prog 13 #[.pointer (some ⟨g, 0, none⟩)] w (DropIs g F xs w) := by
  obtain ⟨ws, wr, mb, h⟩ := h
  obtain ⟨c0, c1, c2⟩ := h.cells
  have hob : w.heap[g]? = some (.cells [ws, wr, .map (some mb)].toArray 85 (0, 0)) := h.obj
  have f1 := row_free hob 1
  have hob1 := row_set hob 1 (.slice none 0 0)
  have f2 := row_free hob1 2
  have hob2 := row_set hob1 2 (.map (some w.heap.size))
  have e2 := row_cell hob1 2 (.map (some mb)) rfl
  have hgl := h.old _ h.fg
  obtain ⟨W, hW⟩ : ∃ W, Hid (W = (w.setCell ⟨g, 1, none⟩ (.slice none 0 0)).setCell ⟨g, 2, none⟩ (.map (some w.heap.size))) := ⟨_, Lib.hid rfl⟩
  have hWs : W.heap.size = w.heap.size := by rw [hW.out]; simp [World.setCell]
  have t0 : Turn (fun i => i = g) w W := by
    rw [hW.out]
    exact ((Turn.refl _ _).grown (grown_setCell _ _ _) (fun i e => by cases e; exact .inl rfl)).grown (grown_setCell _ _ _) (fun i e => by cases e; exact .inl rfl)
  have t1 : Turn (fun i => i = g) w (W.alloc (.map #[] 0)) := t0.grown (World.grownBy_alloc W _ none) (fun i e => by cases e)
  have ht : Turn F w (W.alloc (.map #[] 0)) := t1.mono (fun i e => by subst e; exact .inl h.fg)
  have hap := h.apart
  have hobW : (W.alloc (.map #[] 0)).heap[g]? = some (.cells [ws, .slice none 0 0, .map (some w.heap.size)].toArray 85 (0, 0)) :=
    ((World.grownBy_alloc W _ none).block g (by omega) (by simp)).trans (by rw [hW.out]; exact hob2)
  have hmW : (W.alloc (.map #[] 0)).ownsMap Try.prog 3 (plainElem (H := Unit) Try.prog 3) w.heap.size 0 (.map []) := by
    have := World.ownsMap_made W Try.prog 3 (plainElem (H := Unit) Try.prog 3)
    rwa [hWs] at this
  have HR : DropIs g F xs w (.returned (.tuple #[])) (W.alloc (.map #[] 0)) := by
    refine ⟨rfl, fun i => F i ∨ i = w.heap.size, ⟨_, _, _, ⟨hobW, t1.row h.words (fun i hi => (hap.2.1 i hi).1), World.ownsRow_nil _ _ _ _, ⟨_, hmW, fun a _ => ⟨fun i hi => by simp [fidx] at hi, fun _ => rfl⟩⟩, h.small, h.fits, Wl.nil _, ?_, .inl h.fg, .inr rfl, fun i hi => .inl (h.fw i hi), fun i hi => by cases hi⟩⟩, ?_, ht⟩
    · intro i hi
      rw [World.size_alloc, hWs]
      rcases hi with hi | rfl
      · have := h.old i hi; omega
      · omega
    · intro i hi
      rcases hi with hi | rfl
      · exact .inl hi
      · exact .inr (Nat.le_refl _)
  rw [hW.out] at HR
  replace HR := Lib.hid HR
  clear ht hap h hob hob1 hob2 t0 t1 hobW hmW hWs hW
  have hmm := @run_makeMap Try.prog
  go_enter Try.func13, Try.ntmps13
  go_wp2
  go_end0
  exact HR.out

set_option maxHeartbeats 400000 in
theorem Writes_any (g : Nat) (F : Nat → Prop) (xs : List Nat) (L : List (Nat × Nat)) (w : World) (h : ViewIs w g F xs L) (base : Nat) (hb : base ≤ w.heap.size) :
    Calls Try.prog 24 #[.pointer (some ⟨g, 0, none⟩)] w (RowOfW base L w) := by
  obtain ⟨ws, wr, mb, h⟩ := h
  obtain ⟨c0, c1, c2⟩ := h.cells
  obtain ⟨ad, cap, rfl, hat, hnil, _⟩ := row_slice h.writes
  have hf := h.good.few
  have HC := Lib.hid (CloneW_any base ad L.length cap L w hat rfl (by omega) hnil hb)
  clear h hat hnil c0 c2 hf
  go_enter Try.func24, Try.ntmps24
  go_wp2_with fail
  refine HC.out.mono ?_
  rintro e w1 hr
  have HR := Lib.hid hr
  obtain ⟨a1, c1, rfl, _⟩ := hr
  clear HC
  go_wp2
  go_ret
  exact HR.out
end Go.Proofs.Ytdpkpphjpihhkaa
