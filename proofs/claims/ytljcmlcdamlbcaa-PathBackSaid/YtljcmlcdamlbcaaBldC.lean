/- strings.Builder with its bytes: WriteByte, WriteString. -/
import Derived.Test.YtljcmlcdamlbcaaBldB
namespace Go.Proofs.Ytljcmlcdamlbcaa
open Go.RowKit Go.Grommet

/-- A builder in block B that holds these bytes, in a row of its own. -/
def BldQ (B : Nat) (p : Value) (bs : List UInt8) (w : World) : Prop :=
  ∃ (ad : Option Addr) (cap : Nat), w.heap[B]? = some (.cells #[p, .slice ad bs.length cap] 53 (0, 0)) ∧ w.ownsRow (B + 1) 5 1 (.slice ad bs.length cap) bs.length (bs.map bv)
def BldT (B : Nat) (bs : List UInt8) (w : World) : Prop := ∃ p, (p = .pointer none ∨ p = .pointer (some ⟨B, 0, none⟩)) ∧ BldQ B p bs w

theorem BldT.st {B : Nat} {bs : List UInt8} {w : World} (h : BldT B bs w) : BldS B bs.length w := by
  obtain ⟨p, hp, ad, cap, h1, h2⟩ := h
  exact ⟨p, ad, cap, _, hp, h1, h2⟩
theorem BldQ.to {B : Nat} {bs : List UInt8} {w : World} (h : BldQ B (.pointer (some ⟨B, 0, none⟩)) bs w) : BldT B bs w := ⟨_, .inr rfl, h⟩
theorem BldT.quiet {B : Nat} {bs : List UInt8} {w w' : World} (h : BldT B bs w) (hg : w.grownBy w' none) : BldT B bs w' := by
  obtain ⟨p, hp, ad, cap, hb, hr⟩ := h
  exact ⟨p, hp, ad, cap, (hg.block B (lt_of_block hb) (by simp)).trans hb, Turn.row (F := fun _ => False) (Turn.of hg (fun _ e => by cases e)) hr (fun _ _ e => e)⟩

theorem check_bytes (B : Nat) (bs : List UInt8) (w : World) (h : BldT B bs w) :
    Calls Try.prog 37 #[.pointer (some ⟨B, 0, none⟩)] w fun e w' => e = .returned (.tuple #[]) ∧ BldQ B (.pointer (some ⟨B, 0, none⟩)) bs w' ∧ Turn (FromB B) w w' := by
  obtain ⟨p, hp, ad, cap, hb, hr⟩ := h
  rcases hp with rfl | rfl
  · refine (check_fresh B _ w hb).mono ?_
    rintro e w' ⟨rfl, rfl⟩
    have hT : Turn (FromB B) w (w.setCell ⟨B, 0, none⟩ (.pointer (some ⟨B, 0, none⟩))) := Turn.of (grown_setCell _ ⟨B, 0, none⟩ _) (fun i e => by cases e; exact Nat.le_refl _)
    have hT1 : Turn (fun i => i = B) w (w.setCell ⟨B, 0, none⟩ (.pointer (some ⟨B, 0, none⟩))) := Turn.of (grown_setCell _ ⟨B, 0, none⟩ _) (fun i e => by cases e; rfl)
    refine ⟨rfl, ⟨ad, cap, ?_, hT1.row hr (fun g hg => ?_)⟩, hT⟩
    · have := heap_setCell_at (o := 0) hb (.pointer (some ⟨B, 0, none⟩))
      simpa using this
    · have := (hr.lt g hg).1
      show ¬ g = B
      omega
  · refine (check_used B w (by simp [World.cell?, hb])).mono ?_
    rintro e w' ⟨rfl, rfl⟩
    exact ⟨rfl, ⟨ad, cap, hb, hr⟩, Turn.refl _ _⟩

set_option maxRecDepth 100000 in
set_option maxHeartbeats 1000000 in
theorem WriteByte_bytes (B : Nat) (bs : List UInt8) (c : UInt8) (w : World) (h : BldT B bs w) (hn : bs.length ≤ 1000) :
    Calls Try.prog 22 #[.pointer (some ⟨B, 0, none⟩), .int .u8 (c.toNat : Int)] w fun e w' => e = .returned .nilIface ∧ BldT B (bs ++ [c]) w' ∧ Turn (FromB B) w w' := by
  have H := Lib.hid (check_bytes B bs w h)
  have Hb := Lib.hid (show ∀ (ad : Option Addr) (cap : Nat) (w' : World), w'.heap[B]? = some (.cells #[.pointer (some ⟨B, 0, none⟩), .slice ad (bs.length + 1) cap] 53 (0, 0)) → w'.ownsRow (B + 1) 5 1 (.slice ad (bs.length + 1) cap) (bs.length + 1) (bs.map bv ++ [bv c]) → BldT B (bs ++ [c]) w' from fun ad cap w' h1 h2 => ⟨_, .inr rfl, ad, cap, by rw [List.length_append, List.length_singleton]; exact h1, by rw [List.length_append, List.length_singleton, List.map_append]; exact h2⟩)
  have e1 : bv c = .int .u8 (c.toNat : Int) := rfl
  clear h
  generalize hxs : bs.map bv = xs at *
  generalize hln : bs.length = n at *
  generalize hC : (c.toNat : Int) = C at *
  go_enter Try.func22, Try.ntmps22
  go_wp2_with fail
  refine H.out.mono ?_
  rintro e w1 ⟨rfl, ⟨ad, cap, hb, hr⟩, hT⟩
  rw [hln] at hb hr
  rw [hxs] at hr
  obtain ⟨i0, hi, hz0, hz1, hz2⟩ := info_parts byte_info
  have hlt := lt_of_block hb
  have c1 : w1.cell? ⟨B, 1, none⟩ = some (.slice ad n cap) := by simp [World.cell?, hb]
  go_wp2_with (at_builtin; refine wpList_append_blk _ rfl _ _ 51 rfl (B + 1) 5 i0 (.int .u8 0) 1 1 Try.underlying51 hi hz0 hz1 hz2 rfl (by decide) _ n xs rfl (World.ownsRow.alloc hr _) ⟨w1.heap.size, 0, none⟩ 1 1 [.int .u8 C] rfl rfl ?c1 ?c2 ?c3 ?c4 ?c5 ?_)
  case c1 => exact (at_of_row (heap_alloc_new w1 _)).some
  case c2 => intro u hu; simp at hu; subst hu; rfl
  case c3 => unfold maxLen; omega
  case c4 => omega
  case c5 => simp; omega
  intro ad2 cap2 w2 hr2 hg2 hn2
  have hA := World.grownBy_alloc w1 (.cells #[.int .u8 C] 5) none
  have hb2 : w2.heap[B]? = some (.cells #[.pointer (some ⟨B, 0, none⟩), .slice ad n cap] 53 (0, 0)) := by
    refine (hg2.block B (Nat.lt_of_lt_of_le hlt hA.size) (fun e => ?_)).trans ((hA.block B hlt (by simp)).trans hb)
    have := (hr.lt B e.symm).1
    omega
  have hT2 : Turn (FromB B) w w2 := (hT.grown hA (by simp)).grown hg2 (fun i e => .inl (by have := (hr.lt i e).1; unfold FromB; omega))
  have c2 : w2.cell? ⟨B, 0, none⟩ = some (.pointer (some ⟨B, 0, none⟩)) := by simp [World.cell?, hb2]
  have f2 : w2.frozen? ⟨B, 1, none⟩ = false := by simp [World.frozen?, hb2]
  have c3 : w2.cell? ⟨B, 1, none⟩ = some (.slice ad n cap) := by simp [World.cell?, hb2]
  have hT3 := Lib.hid (hT2.grown (grown_setCell w2 ⟨B, 1, none⟩ (.slice ad2 (n + 1) cap2)) (fun i e => by cases e; exact .inl (Nat.le_refl _)))
  have hb3 := Lib.hid (heap_setCell_at (o := 1) hb2 (.slice ad2 (n + 1) cap2))
  have hr3 := Lib.hid (Turn.row (F := fun i => i = B) (Turn.of (grown_setCell w2 ⟨B, 1, none⟩ (.slice ad2 (n + 1) cap2)) (fun i e => by cases e; rfl)) hr2 (fun g hg => by
    have := (hr2.lt g hg).1
    show ¬ g = B
    omega))
  clear hr hr2 hg2 hn2 hA hT hT2 hb H
  go_wp2
  go_ret
  exact ⟨rfl, Hb.out ad2 cap2 _ (by simpa using hb3.out) (by rw [e1]; exact hr3.out), hT3.out⟩

set_option maxRecDepth 100000 in
set_option maxHeartbeats 1000000 in
theorem WriteString_bytes (B : Nat) (bs : List UInt8) (s : ByteArray) (w : World) (h : BldT B bs w) (hn : bs.length ≤ 1000) (hs : s.size ≤ 1000) :
    Calls Try.prog 23 #[.pointer (some ⟨B, 0, none⟩), .string s] w fun e w' => e = .returned (.tuple #[.int .i64 s.size, .nilIface]) ∧ BldT B (bs ++ bytesOf s) w' ∧ Turn (FromB B) w w' := by
  have H := Lib.hid (check_bytes B bs w h)
  have Hb := Lib.hid (show ∀ (ad : Option Addr) (cap : Nat) (w' : World), w'.heap[B]? = some (.cells #[.pointer (some ⟨B, 0, none⟩), .slice ad (bs.length + s.size) cap] 53 (0, 0)) → w'.ownsRow (B + 1) 5 1 (.slice ad (bs.length + s.size) cap) (bs.length + s.size) (bs.map bv ++ Lib.strCells s) → BldT B (bs ++ bytesOf s) w' from fun ad cap w' h1 h2 => ⟨_, .inr rfl, ad, cap, by rw [List.length_append, length_bytesOf]; exact h1, by rw [List.length_append, length_bytesOf, List.map_append, ← strCells_eq]; exact h2⟩)
  clear h
  generalize hxs : bs.map bv = xs at *
  generalize hln : bs.length = n at *
  go_enter Try.func23, Try.ntmps23
  go_wp2_with fail
  refine H.out.mono ?_
  rintro e w1 ⟨rfl, ⟨ad, cap, hb, hr⟩, hT⟩
  rw [hln] at hb hr
  rw [hxs] at hr
  obtain ⟨i0, hi, hz0, hz1, hz2⟩ := info_parts byte_info
  have hlt := lt_of_block hb
  have c1 : w1.cell? ⟨B, 1, none⟩ = some (.slice ad n cap) := by simp [World.cell?, hb]
  go_wp2_with (at_builtin; refine Lib.wpList_append_own_string _ rfl _ _ 51 9 rfl (B + 1) 5 i0 Try.underlying51 Try.underlying9 hi hz0 hz1 hz2 _ n xs rfl hr s rfl ?c3 ?c4 ?c5 ?_)
  case c3 => unfold maxLen; omega
  case c4 => omega
  case c5 => omega
  intro v2 w2 hr2 hg2 _
  obtain ⟨ad2, cap2, rfl, _⟩ := row_slice hr2
  have hb2 : w2.heap[B]? = some (.cells #[.pointer (some ⟨B, 0, none⟩), .slice ad n cap] 53 (0, 0)) := by
    refine (hg2.block B hlt (fun e => ?_)).trans hb
    have := (hr.lt B e.symm).1
    omega
  have hT2 : Turn (FromB B) w w2 := hT.grown hg2 (fun i e => .inl (by have := (hr.lt i e).1; unfold FromB; omega))
  have c2 : w2.cell? ⟨B, 0, none⟩ = some (.pointer (some ⟨B, 0, none⟩)) := by simp [World.cell?, hb2]
  have f2 : w2.frozen? ⟨B, 1, none⟩ = false := by simp [World.frozen?, hb2]
  have c3 : w2.cell? ⟨B, 1, none⟩ = some (.slice ad n cap) := by simp [World.cell?, hb2]
  have hT3 := Lib.hid (hT2.grown (grown_setCell w2 ⟨B, 1, none⟩ (.slice ad2 (n + s.size) cap2)) (fun i e => by cases e; exact .inl (Nat.le_refl _)))
  have hb3 := Lib.hid (heap_setCell_at (o := 1) hb2 (.slice ad2 (n + s.size) cap2))
  have hr3 := Lib.hid (Turn.row (F := fun i => i = B) (Turn.of (grown_setCell w2 ⟨B, 1, none⟩ (.slice ad2 (n + s.size) cap2)) (fun i e => by cases e; rfl)) hr2 (fun g hg => by
    have := (hr2.lt g hg).1
    show ¬ g = B
    omega))
  clear hr hr2 hg2 hT hT2 hb H
  go_wp2
  go_ret2
  exact ⟨rfl, Hb.out ad2 cap2 _ (by simpa using hb3.out) hr3.out, hT3.out⟩
end Go.Proofs.Ytljcmlcdamlbcaa
