/- Number, Text and New: what they hand back. -/
import Derived.Test.YtlphmpimpeekcaaOctC
namespace Go.Proofs.Ytlphmpimpeekcaa
open Go.RowKit Go.Grommet

theorem made_of_owns {w w' : World} {v : Value} {bs : List UInt8} (h : w'.ownsRow w.heap.size 5 1 v bs.length (bs.map bv)) (hg : w.grownBy w' none) : MadeIs w bs (.returned v) w' := by
  obtain ⟨ad, cap, rfl, hat, hn, hc⟩ := at_of_owns h
  exact ⟨ad, cap, rfl, hat, hn, ⟨hc, fun a ha => (h.lt a.block (by rw [ha]; rfl)).1⟩, hg⟩

set_option maxHeartbeats 400000 in
theorem Number_any (ad : Option Addr) (l cap : Nat) (bs : List UInt8) (n : Nat) (w : World) (hn : n < 2 ^ 64) (hl : bs.length = l) (hat : At w ad (bs.map bv)) (hnil : ad = none → l = 0 ∧ cap = 0) (hb : l ≤ 140737488355328) :
    Calls Try.prog 34 #[.slice ad l cap, .int .u64 (n : Int)] w (MadeIs w (bs ++ num n)) := by
  have H1 := Lib.hid (room_any ad l cap 9 bs w hl hat hnil (by omega))
  have H2 := fun w1 hown1 => putNumber_any w.heap.size w.heap.size l (l + 9) bs n w1 hn hl hown1 (Nat.le_refl _)
  generalize bs ++ num n = X at H2 ⊢
  have H2 := Lib.hid H2
  go_enter Try.func34, Try.ntmps34
  go_wp2_with (go_at_call 39; refine H1.out.mono ?_; rintro e w1 ⟨rfl, hown1, hg1⟩)
  refine (H2.out w1 hown1).mono ?_
  rintro e w2 ⟨rfl, hown2, hg2⟩
  have hr := made_of_owns hown2 (grown_new hg1 hg2 (by simp))
  clear hown1 hg1 hown2 hg2 hat H1 H2
  go_wp2
  go_ret
  exact hr

set_option maxHeartbeats 400000 in
theorem Text_any (ad : Option Addr) (l cap : Nat) (bs : List UInt8) (s : ByteArray) (w : World) (hl : bs.length = l) (hat : At w ad (bs.map bv)) (hnil : ad = none → l = 0 ∧ cap = 0) (hb : l + s.size + 9 ≤ 140737488355328) :
    Calls Try.prog 36 #[.slice ad l cap, .string s] w (MadeIs w (bs ++ num s.size ++ bytesOf s)) := by
  have H1 := Lib.hid (room_any ad l cap (9 + s.size) bs w hl hat hnil (by omega))
  have hs : s.size < 2 ^ 64 := by omega
  obtain ⟨i0, hi, hz0, hz1, hz2⟩ := info_parts Try.info5
  have H2 := fun w1 hown1 => putNumber_any w.heap.size w.heap.size l (l + (9 + s.size)) bs s.size w1 hs hl hown1 (by omega)
  have hlen : (bs ++ num s.size).length + s.size ≤ 140737488355328 := by
    have := nb_le _ hs
    rw [List.length_append, length_num, hl]; omega
  generalize bs ++ num s.size = X at H2 hlen ⊢
  have H2 := Lib.hid H2
  go_enter Try.func36, Try.ntmps36
  go_wp2_with (go_at_call 39; refine H1.out.mono ?_; rintro e w1 ⟨rfl, hown1, hg1⟩)
  refine (H2.out w1 hown1).mono ?_
  rintro e w2 ⟨rfl, hown2, hg2⟩
  have hg := grown_new hg1 hg2 (by simp)
  have hsz := hg.size
  clear hown1 hg1 hg2 hat H1 H2
  go_wp2_with (at_builtin; refine Lib.wpList_append_own_string _ rfl _ _ 25 9 rfl w.heap.size 5 i0 Try.underlying25 Try.underlying9 hi hz0 hz1 hz2 _ _ _ rfl hown2 s rfl ?c1 hlen hsz ?_)
  case c1 => unfold maxLen; omega
  intro v w3 hown3 hg3 _
  have hr : MadeIs w (X ++ bytesOf s) (.returned v) w3 := by
    refine made_of_owns ?_ (grown_new hg hg3 (by simp [Value.ownBlock]))
    rw [List.map_append, ← strCells_eq, List.length_append, length_bytesOf]
    exact hown3
  clear hown2 hown3 hg3 hg hi
  go_wp2
  go_ret
  exact hr

/-- A tape in memory: its struct in block g, its bytes in block h. -/
structure TapeIs (w : World) (base g h : Nat) (all : List UInt8) (at_ : Nat) (torn : Bool) : Prop where
  cells : w.heap[g]? = some (.cells #[.slice (some ⟨h, 0, none⟩) all.length all.length, .int .i64 (at_ : Int), .bool torn] 65 (0, 0))
  bytes : w.ownsRow base 5 1 (.slice (some ⟨h, 0, none⟩) all.length all.length) all.length (all.map bv)
  ne : h ≠ g
  low : base ≤ g
  place : at_ ≤ all.length
  small : all.length ≤ 140737488355328

def NewIs (w : World) (bs : List UInt8) (e : Ending) (w' : World) : Prop :=
  ∃ g h, e = .returned (.pointer (some ⟨g, 0, none⟩)) ∧ TapeIs w' w.heap.size g h bs 0 false ∧ w.grownBy w' none

set_option maxHeartbeats 400000 in
theorem New_any (ad : Option Addr) (l cap : Nat) (bs : List UInt8) (w : World) (hl : bs.length = l) (hat : At w ad (bs.map bv)) (hnil : ad = none → l = 0 ∧ cap = 0) (hb : l ≤ 140737488355328) :
    Calls Try.prog 19 #[.slice ad l cap] w (NewIs w bs) := by
  have H1 := Lib.hid (room_any ad l cap 0 bs w hl hat hnil (by omega))
  go_enter Try.func19, Try.ntmps19
  go_wp2_with (go_at_call 39; refine H1.out.mono ?_; rintro e w1 ⟨rfl, hown1, hg1⟩)
  go_ret
  refine ⟨w1.heap.size, w.heap.size, rfl, ?_, grown_new hg1 (World.grownBy_alloc _ _ (some w1.heap.size)) (by intro g e; cases e; exact hg1.size)⟩
  subst hl
  refine ⟨heap_alloc_new _ _, hown1.alloc _, ?_, hg1.size, Nat.zero_le _, hb⟩
  have h2 : w.heap.size < w1.heap.size := (hown1.lt w.heap.size rfl).2
  omega
end Go.Proofs.Ytlphmpimpeekcaa
