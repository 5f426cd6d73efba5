/- piece: so many bytes of a tape, if they are there. -/
import Derived.Test.YtlphmpimpeekcaaOctD
namespace Go.Proofs.Ytlphmpimpeekcaa
open Go.RowKit Go.Grommet

theorem TapeIs.keep {w w' : World} {base g d : Nat} {all : List UInt8} {a : Nat} {t : Bool} (H : TapeIs w base g d all a t) {row : Option Nat} (hg : w.grownBy w' row) (h1 : row ≠ some g) (h2 : row ≠ some d) : TapeIs w' base g d all a t := by
  have hlt : g < w.heap.size := by
    have := H.cells
    exact (Array.getElem?_eq_some_iff.1 this).1
  exact ⟨(hg.block g hlt (Ne.symm h1)).trans H.cells, H.bytes.kept hg (Or.inr (by simpa [Value.ownBlock] using Ne.symm h2)), H.ne, H.low, H.place, H.small⟩

theorem TapeIs.facts {w : World} {base g d : Nat} {all : List UInt8} {a : Nat} {t : Bool} (H : TapeIs w base g d all a t) :
    w.cell? ⟨g, 0, none⟩ = some (.slice (some ⟨d, 0, none⟩) all.length all.length) ∧ w.cell? ⟨g, 1, none⟩ = some (.int .i64 (a : Int)) ∧ w.cell? ⟨g, 2, none⟩ = some (.bool t) ∧
    w.frozen? ⟨g, 1, none⟩ = false ∧ w.frozen? ⟨g, 2, none⟩ = false := by
  have := H.cells
  refine ⟨?_, ?_, ?_, ?_, ?_⟩ <;> simp [World.cell?, World.frozen?, this]

/-- The place moves. -/
theorem TapeIs.move {w : World} {base g d : Nat} {all : List UInt8} {a : Nat} {t : Bool} (H : TapeIs w base g d all a t) (k : Nat) (hk : k ≤ all.length) : TapeIs (w.setCell ⟨g, 1, none⟩ (.int .i64 (k : Int))) base g d all k t :=
  ⟨by rw [heap_setCell_at H.cells]; rfl, ownsRow_setCell_other H.bytes (by simp [Value.ownBlock, H.ne]) _, H.ne, H.low, hk, H.small⟩

theorem TapeIs.tear {w : World} {base g d : Nat} {all : List UInt8} {a : Nat} {t : Bool} (H : TapeIs w base g d all a t) : TapeIs (w.setCell ⟨g, 2, none⟩ (.bool true)) base g d all a true :=
  ⟨by rw [heap_setCell_at H.cells]; rfl, ownsRow_setCell_other H.bytes (by simp [Value.ownBlock, H.ne]) _, H.ne, H.low, H.place, H.small⟩

def PieceNo (w : World) (base g d : Nat) (all : List UInt8) (a : Nat) (t : Bool) (e : Ending) (w' : World) : Prop :=
  e = .returned (.tuple #[.slice none 0 0, .bool false]) ∧ TapeIs w' base g d all a t ∧ w.grownBy w' (some g)

def PieceYes (w : World) (base g d : Nat) (all : List UInt8) (a : Nat) (t : Bool) (n : Nat) (e : Ending) (w' : World) : Prop :=
  ∃ ad c, e = .returned (.tuple #[.slice ad n c, .bool true]) ∧ At w' ad (((all.drop a).take n).map bv) ∧ ((all.drop a).take n).length = n ∧ (ad = none → n = 0) ∧ TapeIs w' base g d all (a + n) t ∧ w.grownBy w' (some g)

set_option maxHeartbeats 400000 in
theorem piece_no (base g d : Nat) (all : List UInt8) (a : Nat) (t : Bool) (n : Nat) (w : World) (H : TapeIs w base g d all a t) (hn : n < 2 ^ 64) (hlt : all.length < a + n) :
    Calls Try.prog 57 #[.pointer (some ⟨g, 0, none⟩), .int .u64 (n : Int)] w (PieceNo w base g d all a t) := by
  obtain ⟨c0, c1, c2, f1, f2⟩ := H.facts
  have hp := H.place
  have hs := H.small
  obtain ⟨L, HL⟩ : ∃ L, Hid (L = all.length) := ⟨_, Lib.hid rfl⟩
  rw [← HL.out] at hlt hp hs c0
  have i1 : (0 : Int) ≤ (a : Int) := by omega
  have i2 : (a : Int) ≤ (L : Int) := by omega
  go_enter Try.func57, Try.ntmps57
  go_wp2_with fail
  go_quiet (fail)
  go_wp2
  all_goals
    go_ret2
    exact ⟨rfl, H.keep (grown_drewN _ _ none) (by simp) (by simp), grown_drewN _ _ _⟩

theorem drop_take_len (all : List UInt8) (a n : Nat) (h : a + n ≤ all.length) : ((all.drop a).take n).length = n := by simp; omega

/-- The bytes from place a on stand at their place in the row. -/
theorem at_drop {w : World} {base d cap l : Nat} {xs : List UInt8} (ho : w.ownsRow base 5 1 (.slice (some ⟨d, 0, none⟩) l cap) l (xs.map bv)) (a n : Nat) : At w (some ⟨d, a, none⟩) (((xs.drop a).take n).map bv) := by
  intro j u hu
  refine ⟨_, _, rfl, ?_⟩
  have hu' : (xs.map bv)[a + j]? = some u := by
    rw [List.map_take, List.getElem?_take] at hu
    split at hu
    · simpa [List.map_drop, List.getElem?_drop] using hu
    · simp at hu
  have := ho.cells (g := d) rfl (a + j) u hu'
  simpa [Addr.add_lit] using this

set_option maxHeartbeats 400000 in
theorem piece_yes (base g d : Nat) (all : List UInt8) (a : Nat) (t : Bool) (n : Nat) (w : World) (H : TapeIs w base g d all a t) (hn : n < 2 ^ 64) (hlt : a + n ≤ all.length) :
    Calls Try.prog 57 #[.pointer (some ⟨g, 0, none⟩), .int .u64 (n : Int)] w (PieceYes w base g d all a t n) := by
  obtain ⟨c0, c1, c2, f1, f2⟩ := H.facts
  have hp := H.place
  have hs := H.small
  obtain ⟨L, HL⟩ : ∃ L, Hid (L = all.length) := ⟨_, Lib.hid rfl⟩
  rw [← HL.out] at hlt hp hs c0
  have i1 : (0 : Int) ≤ (a : Int) := by omega
  have i2 : (a : Int) ≤ (L : Int) := by omega
  go_enter Try.func57, Try.ntmps57
  go_wp2_with fail
  go_quiet (fail)
  go_wp2
  all_goals
    go_ret2
    have hH := (H.keep (grown_drewN w nq none) (by simp) (by simp)).move (a + n) (by rw [← HL.out]; omega)
    rw [Int.natCast_add] at hH
    have hg : w.grownBy ((w.drewN nq).setCell ⟨g, 1, none⟩ (.int .i64 ((a : Int) + (n : Int)))) (some g) := grown_trans (grown_drewN w nq _) (grown_setCell _ _ _)
    have hl := drop_take_len all a n (by rw [← HL.out]; omega)
    first
    | exact ⟨_, _, rfl, at_drop hH.bytes a n, hl, by simp, hH, hg⟩
    | (have hn0 : n = 0 := by omega
       refine ⟨_, _, rfl, ?_, hl, fun _ => hn0, hH, hg⟩
       rw [List.eq_nil_of_length_eq_zero (hl.trans hn0)]
       exact At.nil _ _)
end Go.Proofs.Ytlphmpimpeekcaa
