/- The document's view. -/
import Derived.Test.YtdpkpphjpihhkaaViewE
-- OPTIONAL
namespace Go.Proofs.Ytdpkpphjpihhkaa
open Go.RowKit Go.Grommet

structure RefAt (w : World) (g : Nat) (F : Nat → Prop) (vi vl : Value) (xs : List Nat) (L : List (Nat × Nat)) (b : Bool) : Prop where
  obj : w.heap[g]? = some (.cells #[vi, vl, .bool b] 44 (0, 0))
  words : w.ownsRow 0 36 1 vi xs.length (xs.map wv)
  writes : w.ownsRow 0 79 2 vl L.length (wcells L)
  small : ∀ n ∈ xs, n < 18446744073709551616
  fits : xs.length ≤ 549755813888
  good : Wl xs.length L
  old : ∀ i, F i → i < w.heap.size
  fg : F g
  fw : ∀ i, vi.ownBlock = some i → F i
  fr : ∀ i, vl.ownBlock = some i → F i
def RefIs (w : World) (g : Nat) (F : Nat → Prop) (xs : List Nat) (L : List (Nat × Nat)) (b : Bool) : Prop := ∃ vi vl, RefAt w g F vi vl xs L b

set_option maxRecDepth 100000 in
theorem RefAt.turn {F G : Nat → Prop} {w w' : World} {g : Nat} {vi vl : Value} {xs : List Nat} {L : List (Nat × Nat)} {b : Bool} (h : RefAt w g F vi vl xs L b) (ht : Turn G w w') (hn : ∀ i, F i → ¬ G i) : RefAt w' g F vi vl xs L b :=
  ⟨ht.obj h.obj (hn _ h.fg), ht.row h.words (fun i hi => hn i (h.fw i hi)), ht.row h.writes (fun i hi => hn i (h.fr i hi)), h.small, h.fits, h.good,
    fun i hi => Nat.lt_of_lt_of_le (h.old i hi) ht.size, h.fg, h.fw, h.fr⟩
set_option maxRecDepth 100000 in
theorem RefIs.turn {F G : Nat → Prop} {w w' : World} {g : Nat} {xs : List Nat} {L : List (Nat × Nat)} {b : Bool} (h : RefIs w g F xs L b) (ht : Turn G w w') (hn : ∀ i, F i → ¬ G i) : RefIs w' g F xs L b := by
  obtain ⟨vi, vl, h⟩ := h
  exact ⟨vi, vl, h.turn ht hn⟩
set_option maxRecDepth 100000 in
theorem RefAt.apart {F : Nat → Prop} {w : World} {g : Nat} {vi vl : Value} {xs : List Nat} {L : List (Nat × Nat)} {b : Bool} (h : RefAt w g F vi vl xs L b) :
    (∀ i, vi.ownBlock = some i → i ≠ g) ∧ (∀ i, vl.ownBlock = some i → i ≠ g) ∧ ∀ i j, vi.ownBlock = some i → vl.ownBlock = some j → i ≠ j := by
  have hg := h.obj
  have tw := fun i hi => row_type h.words i hi
  have tr := fun i hi => row_type h.writes i hi
  refine ⟨fun i hi => ?_, fun i hi => ?_, fun i j hi hj => ?_⟩
  · rintro rfl; obtain ⟨cur, hc⟩ := tw _ hi; rw [hg] at hc; injection hc with hc; injection hc with _ hc _; revert hc; decide
  · rintro rfl; obtain ⟨cur, hc⟩ := tr _ hi; rw [hg] at hc; injection hc with hc; injection hc with _ hc _; revert hc; decide
  · rintro rfl; obtain ⟨cur, hc⟩ := tw _ hi; obtain ⟨cur', hc'⟩ := tr _ hj; rw [hc] at hc'; injection hc' with hc'; injection hc' with _ hc' _; revert hc'; decide
set_option maxRecDepth 100000 in
theorem RefAt.cells {F : Nat → Prop} {w : World} {g : Nat} {vi vl : Value} {xs : List Nat} {L : List (Nat × Nat)} {b : Bool} (h : RefAt w g F vi vl xs L b) :
    w.cell? ⟨g, 0, none⟩ = some vi ∧ w.cell? ⟨g, 1, none⟩ = some vl ∧ w.cell? ⟨g, 2, none⟩ = some (.bool b) := by
  have := h.obj
  simp [World.cell?, this]

def RefNewIs (xs : List Nat) (w : World) (e : Ending) (w' : World) : Prop :=
  ∃ g F, e = .returned (.pointer (some ⟨g, 0, none⟩)) ∧ RefIs w' g F xs [] false ∧ (∀ i, F i → w.heap.size ≤ i) ∧ w.grownBy w' none

set_option maxRecDepth 100000 in
set_option maxHeartbeats 1000000 in
theorem RefNew_any (ad : Option Addr) (l c : Nat) (xs : List Nat) (w : World) (hx : Words w ad l xs) (hl : l ≤ 549755813888) (hnil : ad = none → l = 0 ∧ c = 0) :
    Calls Try.prog 12 #[.slice ad l c] w (RefNewIs xs w) := by
  have HL := Lib.hid hx.len
  have HS := Lib.hid hx.small
  go_enter Try.func12, Try.ntmps12
  go_wp2_with (at_builtin; refine app64 rfl _ _ rfl w.heap.size _ 0 [] rfl (own_lit w _ 1 _ (Nat.le_refl _)) ad l c xs rfl ?a1 hnil ?a2 ?a3 ?_)
  case a1 => exact hx.keep (World.grownBy_alloc w _ none) (by simp)
  case a2 => omega
  case a3 => simp
  intro v1 w1 hown hg
  have hg := grown_new (World.grownBy_alloc w _ none) hg (by intro g e; cases e; exact Nat.le_refl _)
  try rw [List.nil_append, Nat.zero_add] at hown
  obtain ⟨a1, k1, rfl, _⟩ := row_slice hown
  have hlt := hown.lt
  have HR : RefNewIs xs w (.returned (.pointer (some ⟨w1.heap.size, 0, none⟩))) (w1.alloc (.cells #[.slice a1 l k1, .slice none 0 0, .bool false] 44)) := by
    refine ⟨_, fun i => i = w1.heap.size ∨ (Value.slice a1 l k1).ownBlock = some i, rfl, ⟨_, _, ⟨heap_alloc_new w1 _, row_base (by rw [HL.out]; exact hown.alloc _) (fun _ _ => Nat.zero_le _), World.ownsRow_nil _ _ _ _, HS.out, by rw [HL.out]; omega, Wl.nil _, ?_, .inl rfl, fun i hi => .inr hi, fun i hi => by cases hi⟩⟩, ?_, grown_trans hg (World.grownBy_alloc _ _ _)⟩
    · intro i hi
      rw [World.size_alloc]
      rcases hi with rfl | hi
      · omega
      · have := (hlt i hi).2; omega
    · intro i hi
      rcases hi with rfl | hi
      · exact hg.size
      · exact (hlt i hi).1
  replace HR := Lib.hid HR
  clear hown hlt hg hx
  go_wp2
  go_ret
  exact HR.out

/-- What find tells. -/
def fidI (L : List (Nat × Nat)) (a : Int) : Int := if 0 ≤ a then (match fidx L a.toNat with | some i => (i : Int) | none => -1) else -1

set_option maxRecDepth 100000 in
set_option maxHeartbeats 1000000 in
theorem find_any (g : Nat) (F : Nat → Prop) (xs : List Nat) (L : List (Nat × Nat)) (b : Bool) (a : Nat) (w : World) (h : RefIs w g F xs L b) :
    Calls Try.prog 80 #[.pointer (some ⟨g, 0, none⟩), .int .i64 (a : Int)] w fun e w' => e = .returned (.int .i64 (fidI L a)) ∧ w = w' := by
  obtain ⟨vi, vl, h⟩ := h
  obtain ⟨c0, c1, c2⟩ := h.cells
  obtain ⟨ad, cap, rfl, hat, hnil, hlc⟩ := row_slice h.writes
  have hrow := h.writes
  have hms := h.good.few
  obtain ⟨m, Hm⟩ : ∃ m, Hid (m = L.length) := ⟨_, Lib.hid rfl⟩
  rw [← Hm.out] at c1 hrow hms
  have HF : Hid (fidI L a = match fidx L a with | some i => (i : Int) | none => -1) := Lib.hid (by unfold fidI; rw [if_pos (by omega), Int.toNat_natCast])
  clear h hat hnil hlc c0 c2
  go_enter Try.func80, Try.ntmps80
  go_wp2_with fail
  go_loop [5] (fun i => ∃ k : Nat, k ≤ m ∧ i = .int .i64 (k : Int) ∧ Hid (∀ j, j < k → (L.getD j (0, 0)).1 ≠ a)) (fun i => m - (intOf i).toNat)
  case atStart => exact ⟨0, Nat.zero_le _, rfl, Lib.hid fun j hj => by omega⟩
  case round =>
    obtain ⟨k, hk, rfl, HP⟩ := hrel
    have h0 : (0 : Int) ≤ (k : Int) := by omega
    by_cases hlt : k < m
    · have hlt' : (k : Int) < (m : Int) := by omega
      obtain ⟨q, rfl, v0, v1, _, hcap, _⟩ := wr_cell hrow Hm.out.symm k hlt
      obtain ⟨A, A0⟩ : ∃ A, Hid (A = (L.getD k (0, 0)).1) := ⟨_, Lib.hid rfl⟩
      rw [← A0.out] at v0
      by_cases hA : A = a
      · subst hA
        have hq : ((A : Int) == (A : Int)) = true := by simp
        have HR : Hid (fidI L A = (k : Int)) := Lib.hid (by rw [HF.out, fidx_at (i := k) (by rw [← Hm.out]; exact hlt) A0.out.symm HP.out])
        go_wp2
        go_ret
        exact ⟨by rw [HR.out]; rfl, rfl⟩
      · have hq : ((A : Int) == (a : Int)) = false := by rw [beq_eq_false_iff_ne]; omega
        have HP' : Hid (∀ j, j < k + 1 → (L.getD j (0, 0)).1 ≠ a) := Lib.hid fun j hj => by
          by_cases hjk : j = k
          · subst hjk; rw [← A0.out]; exact hA
          · exact HP.out j (by omega)
        clear hA
        go_wp2
        go_round
        case rel => exact ⟨k + 1, by omega, by go_num, HP'⟩
        case measure => simp [intOf]; omega
    · have hlt' : ¬ (k : Int) < (m : Int) := by omega
      have HR : Hid (fidI L a = -1) := Lib.hid (by
        rw [HF.out, fidx_of_not]
        intro p hp
        obtain ⟨j, hj, rfl⟩ := List.getElem_of_mem hp
        have := HP.out j (by rw [← Hm.out] at hj; omega)
        rwa [List.getD_eq_getElem?_getD, List.getElem?_eq_getElem hj] at this)
      go_wp2
      go_ret
      exact ⟨by rw [HR.out]; rfl, rfl⟩
end Go.Proofs.Ytdpkpphjpihhkaa
