/- path.Join of "a" and "": a name that is none. -/
import Derived.Test.YtljcmlcdamlbcaaBldB
namespace Go.Proofs.Ytljcmlcdamlbcaa
open Go.RowKit Go.Grommet

theorem BldS.quiet {B n : Nat} {w w' : World} (h : BldS B n w) (hg : w.grownBy w' none) : BldS B n w' := by
  obtain ⟨p, ad, cap, xs, hp, hb, hr⟩ := h
  exact ⟨p, ad, cap, xs, hp, (hg.block B (lt_of_block hb) (by simp)).trans hb, Turn.row (F := fun _ => False) (Turn.of hg (fun _ e => by cases e)) hr (fun _ _ e => e)⟩

set_option maxRecDepth 100000 in
set_option maxHeartbeats 1000000 in
theorem JoinBad_any (K : Nat) (w : World) (hk : w.heap[K]? = some (.cells #[.string ⟨#[97]⟩, .string ⟨#[]⟩] 9 (0, 0))) :
    Calls Try.prog 10 #[.slice (some ⟨K, 0, none⟩) 2 2] w fun e w' => e = .returned (.string ⟨#[]⟩) ∧ w.grownBy w' none := by
  have HA := Lib.hid (fun wx => MayA_any wx)
  have HN := Lib.hid (fun wx => MayNo_any wx)
  have hKlt := lt_of_block hk
  go_enter Try.func10, Try.ntmps10
  go_wp2_with fail
  obtain ⟨B, HB⟩ : ∃ B, Hid (B = w.heap.size) := ⟨_, Lib.hid rfl⟩
  have hst0 : BldS B 0 (w.alloc (.cells #[.pointer none, .slice none 0 0] 53)) := ⟨_, none, 0, [], .inl rfl, by rw [HB.out]; exact heap_alloc_new w _, ⟨rfl, .inl ⟨rfl, rfl⟩⟩⟩
  rw [← HB.out]
  go_loopw [11] (fun i wr => ∃ j : Nat, j ≤ 1 ∧ i = .int .i64 (j : Int) ∧ Hid (BldS B (2 * j) wr ∧ Turn (FromB B) w wr)) (fun i _ => 2 - (intOf i).toNat)
  case atStart => exact ⟨0, by omega, rfl, Lib.hid ⟨hst0, Turn.of (World.grownBy_alloc w _ none) (by simp)⟩⟩
  case round =>
    clear hst0
    obtain ⟨j, hj, rfl, hO⟩ := hrel
    have hlt : (j : Int) < 2 := by omega
    have hkr : wr.heap[K]? = some (.cells #[.string ⟨#[97]⟩, .string ⟨#[]⟩] 9 (0, 0)) := hO.out.2.obj hk (by unfold FromB; have := HB.out; omega)
    have hj2 : j = 0 ∨ j = 1 := by omega
    rcases hj2 with rfl | rfl
    · have hc : wr.cell? ⟨K, 0, none⟩ = some (.string ⟨#[97]⟩) := by simp [World.cell?, hkr]
      go_wp2_with fail
      refine (HA.out _).mono ?_
      rintro e w1 ⟨rfl, hg1⟩
      have hO1 := Lib.hid (And.intro (BldS.quiet hO.out.1 hg1) (hO.out.2.grown hg1 (by simp)))
      have hc1 := hg1.cell hc (by simp)
      have HL := Lib.hid (Len_any B (2 * 0) w1 hO1.out.1)
      clear hkr hc hg1 hO
      go_wp2_with fail
      refine HL.out.mono ?_
      rintro e w2 ⟨rfl, rfl⟩
      have HWB := Lib.hid (WriteByte_any B (2 * 0) 47 w2 hO1.out.1 (by omega))
      clear HL
      go_wp2_with fail
      refine HWB.out.mono ?_
      rintro e w3 ⟨rfl, hP3, hT3⟩
      have HWS := Lib.hid (WriteString_any B (2 * 0 + 1) ⟨#[97]⟩ w3 hP3.st (by omega) (by decide))
      have hO3 := Lib.hid (hO1.out.2.trans hT3 (fun i h => .inl h))
      clear HWB hP3 hT3 hO1 hc1
      go_wp2_with fail
      refine HWS.out.mono ?_
      rintro e w4 ⟨rfl, hP4, hT4⟩
      have hO4 := Lib.hid (And.intro hP4.st (hO3.out.trans hT4 (fun i h => .inl h)))
      clear HWS hP4 hT4 hO3
      go_wp2
      go_roundw
      case rel => exact ⟨1, by omega, by go_num, hO4⟩
      case measure => simp [intOf]
    · have hc : wr.cell? ⟨K, 1, none⟩ = some (.string ⟨#[]⟩) := by simp [World.cell?, hkr]
      go_wp2_with fail
      refine (HN.out _).mono ?_
      rintro e w1 ⟨rfl, hg1⟩
      have hT := (hO.out.2.grown hg1 (by simp)).none (fun i hi => by unfold FromB at hi; have := HB.out; omega)
      go_wp2
      go_ret
      exact ⟨rfl, hT⟩
end Go.Proofs.Ytljcmlcdamlbcaa
