/- strings.Builder: its writers. -/
import Derived.Test.YtljcmlcdamlbcaaBld
namespace Go.Proofs.Ytljcmlcdamlbcaa
open Go.RowKit Go.Grommet

def FromB (B : Nat) : Nat → Prop := fun i => B ≤ i

theorem byte_info : (Try.prog.info? 5).map (fun i => (i.zero, i.size, i.bytes)) = some (some (.int .u8 0), 1, 1) := by kernel_rfl

theorem BldP.st {B n : Nat} {w : World} (h : BldP B n w) : BldS B n w := by
  obtain ⟨ad, cap, xs, h1, h2⟩ := h
  exact ⟨_, ad, cap, xs, .inr rfl, h1, h2⟩

theorem check_any (B n : Nat) (w : World) (h : BldS B n w) :
    Calls Try.prog 37 #[.pointer (some ⟨B, 0, none⟩)] w fun e w' => e = .returned (.tuple #[]) ∧ BldP B n w' ∧ Turn (FromB B) w w' := by
  obtain ⟨p, ad, cap, xs, hp, hb, hr⟩ := h
  rcases hp with rfl | rfl
  · refine (check_fresh B _ w hb).mono ?_
    rintro e w' ⟨rfl, rfl⟩
    have hT : Turn (FromB B) w (w.setCell ⟨B, 0, none⟩ (.pointer (some ⟨B, 0, none⟩))) := Turn.of (grown_setCell _ ⟨B, 0, none⟩ _) (fun i e => by cases e; exact Nat.le_refl _)
    have hT1 : Turn (fun i => i = B) w (w.setCell ⟨B, 0, none⟩ (.pointer (some ⟨B, 0, none⟩))) := Turn.of (grown_setCell _ ⟨B, 0, none⟩ _) (fun i e => by cases e; rfl)
    refine ⟨rfl, ⟨ad, cap, xs, ?_, hT1.row hr (fun g hg => ?_)⟩, hT⟩
    · have := heap_setCell_at (o := 0) hb (.pointer (some ⟨B, 0, none⟩))
      simpa using this
    · have := (hr.lt g hg).1
      show ¬ g = B
      omega
  · refine (check_used B w (by simp [World.cell?, hb])).mono ?_
    rintro e w' ⟨rfl, rfl⟩
    exact ⟨rfl, ⟨ad, cap, xs, hb, hr⟩, Turn.refl _ _⟩

set_option maxRecDepth 100000 in
set_option maxHeartbeats 1000000 in
theorem Len_any (B n : Nat) (w : World) (h : BldS B n w) :
    Calls Try.prog 21 #[.pointer (some ⟨B, 0, none⟩)] w fun e w' => e = .returned (.int .i64 (n : Int)) ∧ w' = w := by
  obtain ⟨p, ad, cap, xs, hp, hb, hr⟩ := h
  have c1 : w.cell? ⟨B, 1, none⟩ = some (.slice ad n cap) := by simp [World.cell?, hb]
  clear hp hr
  go_enter Try.func21, Try.ntmps21
  go_wp2
  go_ret
  exact ⟨rfl, rfl⟩

set_option maxRecDepth 100000 in
set_option maxHeartbeats 1000000 in
theorem WriteByte_any (B n : Nat) (c : Int) (w : World) (h : BldS B n w) (hn : n ≤ 1000) :
    Calls Try.prog 22 #[.pointer (some ⟨B, 0, none⟩), .int .u8 c] w fun e w' => e = .returned .nilIface ∧ BldP B (n + 1) w' ∧ Turn (FromB B) w w' := by
  have H := Lib.hid (check_any B n w h)
  clear h
  go_enter Try.func22, Try.ntmps22
  go_wp2_with fail
  refine H.out.mono ?_
  rintro e w1 ⟨rfl, ⟨ad, cap, xs, hb, hr⟩, hT⟩
  obtain ⟨i0, hi, hz0, hz1, hz2⟩ := info_parts byte_info
  have hlt := lt_of_block hb
  have c1 : w1.cell? ⟨B, 1, none⟩ = some (.slice ad n cap) := by simp [World.cell?, hb]
  go_wp2_with (at_builtin; refine wpList_append_blk _ rfl _ _ 51 rfl (B + 1) 5 i0 (.int .u8 0) 1 1 Try.underlying51 hi hz0 hz1 hz2 rfl (by decide) _ n xs rfl (World.ownsRow.alloc hr _) ⟨w1.heap.size, 0, none⟩ 1 1 [.int .u8 c] rfl rfl ?c1 ?c2 ?c3 ?c4 ?c5 ?_)
  case c1 => exact (at_of_row (heap_alloc_new w1 _)).some
  case c2 => intro u hu; simp at hu; subst hu; rfl
  case c3 => unfold maxLen; omega
  case c4 => omega
  case c5 => simp; omega
  intro ad2 cap2 w2 hr2 hg2 hn2
  have hA := World.grownBy_alloc w1 (.cells #[.int .u8 c] 5) none
  have hb2 : w2.heap[B]? = some (.cells #[.pointer (some ⟨B, 0, none⟩), .slice ad n cap] 53 (0, 0)) := by
    refine (hg2.block B (Nat.lt_of_lt_of_le hlt hA.size) (fun e => ?_)).trans ((hA.block B hlt (by simp)).trans hb)
    have := (hr.lt B e.symm).1
    omega
  have hT2 : Turn (FromB B) w w2 := (hT.grown hA (by simp)).grown hg2 (fun i e => .inl (by have := (hr.lt i e).1; unfold FromB; omega))
  have c2 : w2.cell? ⟨B, 0, none⟩ = some (.pointer (some ⟨B, 0, none⟩)) := by simp [World.cell?, hb2]
  have f2 : w2.frozen? ⟨B, 1, none⟩ = false := by simp [World.frozen?, hb2]
  have c3 : w2.cell? ⟨B, 1, none⟩ = some (.slice ad n cap) := by simp [World.cell?, hb2]
  have hT3 := Lib.hid (hT2.grown (grown_setCell w2 ⟨B, 1, none⟩ (.slice ad2 (n + 1) cap2)) (fun i e => by cases e; exact .inl (Nat.le_refl _)))
  have hb3 := Lib.hid (heap_setCell_at (o := 1) hb2 (.slice ad2 (n + 1) cap2))
  have hr3 := Lib.hid (Turn.row (F := fun i => i = B) (Turn.of (grown_setCell w2 ⟨B, 1, none⟩ (.slice ad2 (n + 1) cap2)) (fun i e => by cases e; rfl)) hr2 (fun g hg => by
    have := (hr2.lt g hg).1
    show ¬ g = B
    omega))
  clear hr hr2 hg2 hn2 hA hT hT2 hb H
  go_wp2
  go_ret
  exact ⟨rfl, ⟨ad2, cap2, _, by simpa using hb3.out, hr3.out⟩, hT3.out⟩
set_option maxRecDepth 100000 in
set_option maxHeartbeats 1000000 in
theorem WriteString_any (B n : Nat) (s : ByteArray) (w : World) (h : BldS B n w) (hn : n ≤ 1000) (hs : s.size ≤ 1000) :
    Calls Try.prog 23 #[.pointer (some ⟨B, 0, none⟩), .string s] w fun e w' => e = .returned (.tuple #[.int .i64 s.size, .nilIface]) ∧ BldP B (n + s.size) w' ∧ Turn (FromB B) w w' := by
  have H := Lib.hid (check_any B n w h)
  clear h
  go_enter Try.func23, Try.ntmps23
  go_wp2_with fail
  refine H.out.mono ?_
  rintro e w1 ⟨rfl, ⟨ad, cap, xs, hb, hr⟩, hT⟩
  obtain ⟨i0, hi, hz0, hz1, hz2⟩ := info_parts byte_info
  have hlt := lt_of_block hb
  have c1 : w1.cell? ⟨B, 1, none⟩ = some (.slice ad n cap) := by simp [World.cell?, hb]
  go_wp2_with (at_builtin; refine Lib.wpList_append_own_string _ rfl _ _ 51 9 rfl (B + 1) 5 i0 Try.underlying51 Try.underlying9 hi hz0 hz1 hz2 _ n xs rfl hr s rfl ?c3 ?c4 ?c5 ?_)
  case c3 => unfold maxLen; omega
  case c4 => omega
  case c5 => omega
  intro v2 w2 hr2 hg2 _
  obtain ⟨ad2, cap2, rfl, _⟩ := row_slice hr2
  have hb2 : w2.heap[B]? = some (.cells #[.pointer (some ⟨B, 0, none⟩), .slice ad n cap] 53 (0, 0)) := by
    refine (hg2.block B hlt (fun e => ?_)).trans hb
    have := (hr.lt B e.symm).1
    omega
  have hT2 : Turn (FromB B) w w2 := hT.grown hg2 (fun i e => .inl (by have := (hr.lt i e).1; unfold FromB; omega))
  have c2 : w2.cell? ⟨B, 0, none⟩ = some (.pointer (some ⟨B, 0, none⟩)) := by simp [World.cell?, hb2]
  have f2 : w2.frozen? ⟨B, 1, none⟩ = false := by simp [World.frozen?, hb2]
  have c3 : w2.cell? ⟨B, 1, none⟩ = some (.slice ad n cap) := by simp [World.cell?, hb2]
  have hT3 := Lib.hid (hT2.grown (grown_setCell w2 ⟨B, 1, none⟩ (.slice ad2 (n + s.size) cap2)) (fun i e => by cases e; exact .inl (Nat.le_refl _)))
  have hb3 := Lib.hid (heap_setCell_at (o := 1) hb2 (.slice ad2 (n + s.size) cap2))
  have hr3 := Lib.hid (Turn.row (F := fun i => i = B) (Turn.of (grown_setCell w2 ⟨B, 1, none⟩ (.slice ad2 (n + s.size) cap2)) (fun i e => by cases e; rfl)) hr2 (fun g hg => by
    have := (hr2.lt g hg).1
    show ¬ g = B
    omega))
  clear hr hr2 hg2 hT hT2 hb H
  go_wp2
  go_ret2
  exact ⟨rfl, ⟨ad2, cap2, _, by simpa using hb3.out, hr3.out⟩, hT3.out⟩
end Go.Proofs.Ytljcmlcdamlbcaa
