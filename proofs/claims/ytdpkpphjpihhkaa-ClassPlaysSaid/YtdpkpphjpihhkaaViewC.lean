/- Package view: Get, Put. -/
import Derived.Test.YtdpkpphjpihhkaaViewB
namespace Go.Proofs.Ytdpkpphjpihhkaa
open Go.RowKit Go.Grommet

set_option maxRecDepth 100000 in
theorem lit_ok (a : Nat) (h : a < 140737488355328) : (Lit.int .i64 (a : Int)).wf = true := by
  simp only [Lit.wf, Bool.and_eq_true, decide_eq_true_eq]
  exact ⟨by show (-9223372036854775808 : Int) ≤ _; omega, by show _ ≤ (9223372036854775807 : Int); omega⟩

def gotI (xs : List Nat) (L : List (Nat × Nat)) (a : Int) : Nat := if 0 ≤ a ∧ a < (xs.length : Int) then gotV xs L a.toNat else 0

/-- A write's two cells. -/
theorem wr_cell {w : World} {base n cap : Nat} {ad : Option Addr} {L : List (Nat × Nat)} (h : w.ownsRow base 79 2 (.slice ad n cap) n (wcells L)) (hl : L.length = n) (i : Nat) (hi : i < n) :
    ∃ b, ad = some ⟨b, 0, none⟩ ∧ w.cell? ⟨b, i * 2, none⟩ = some (.int .i64 ((L.getD i (0, 0)).1 : Int)) ∧ w.cell? ⟨b, i * 2 + 1, none⟩ = some (.int .u64 ((L.getD i (0, 0)).2 : Int)) ∧ w.frozen? ⟨b, i * 2 + 1, none⟩ = false ∧ n ≤ cap ∧ base ≤ b := by
  obtain ⟨hl', h | ⟨g, cap', cur, he, hb, hh, hn, hm, hc, htk⟩⟩ := h
  · omega
  · cases he
    have h1 := (wcells_at L i (by omega)).1
    have h2 := (wcells_at L i (by omega)).2
    rw [← htk] at h1 h2
    rw [List.getElem?_take, if_pos (by omega), Array.getElem?_toList] at h1 h2
    exact ⟨g, rfl, by simp [World.cell?, hh, h1], by simp [World.cell?, hh, h2], by simp [World.frozen?, hh], hn, hb⟩
set_option maxRecDepth 100000 in
theorem wd_cell {w : World} {base n cap : Nat} {ad : Option Addr} {xs : List Nat} (h : w.ownsRow base 36 1 (.slice ad n cap) n (xs.map wv)) (hl : xs.length = n) (i : Nat) (hi : i < n) :
    ∃ b, ad = some ⟨b, 0, none⟩ ∧ w.cell? ⟨b, i, none⟩ = some (.int .u64 ((xs.getD i 0 : Nat) : Int)) ∧ w.frozen? ⟨b, i, none⟩ = false ∧ n ≤ cap ∧ base ≤ b := by
  obtain ⟨hl', h | ⟨g, cap', cur, he, hb, hh, hn, hm, hc, htk⟩⟩ := h
  · omega
  · cases he
    have h1 : (xs.map wv)[i]? = some (wv (xs.getD i 0)) := by simp [hl, hi]
    rw [← htk] at h1
    rw [List.getElem?_take, if_pos (by omega), Array.getElem?_toList] at h1
    exact ⟨g, rfl, by simp [World.cell?, hh, h1, wv], by simp [World.frozen?, hh], hn, hb⟩

set_option maxRecDepth 100000 in
set_option maxHeartbeats 1000000 in
theorem Get_any (g : Nat) (F : Nat → Prop) (xs : List Nat) (L : List (Nat × Nat)) (a : Int) (w : World) (h : ViewIs w g F xs L) :
    Calls Try.prog 66 #[.pointer (some ⟨g, 0, none⟩), .int .i64 a] w fun e w' => e = .returned (.int .u64 (gotI xs L a : Int)) ∧ w = w' := by
  have HL := Lib.hid (Len_any g F xs L w h)
  have HI := Lib.hid (isIn_any a xs.length w)
  obtain ⟨ws, wr, mb, h⟩ := h
  obtain ⟨c0, c1, c2⟩ := h.cells
  have hfit := h.fits
  by_cases hin : 0 ≤ a ∧ a < (xs.length : Int)
  · obtain ⟨n, rfl⟩ := Int.eq_ofNat_of_zero_le hin.1
    have hn : n < xs.length := by omega
    rw [show inB (n : Int) xs.length = true from by unfold inB; simp; omega] at HI
    have HG := Lib.hid (show gotI xs L (n : Int) = gotV xs L n by unfold gotI; rw [if_pos hin, Int.toNat_natCast])
    obtain ⟨D, hown, hD⟩ := h.num
    obtain ⟨hD1, hD2⟩ := hD n (by omega)
    have hkey : keyOf Try.prog 3 (.int .i64 (n : Int)) = some (.int .i64 (n : Int)) := Maps.keyOf_int_mk Try.underlying3 (lit_ok n (by omega))
    clear hin
    cases hfi : fidx L n with
    | some i =>
      obtain ⟨hi1, hi2, _⟩ := fidx_some hfi
      obtain ⟨hh, hat0⟩ := hD1 i hfi
      unfold ik at hh hat0
      have Hat := Lib.hid hat0
      have HV := Lib.hid (show gotV xs L n = (L.getD i (0, 0)).2 by unfold gotV; rw [hfi])
      obtain ⟨ad, cap, rfl, _⟩ := row_slice h.writes
      obtain ⟨b, rfl, v0, v1, _, hcap, _⟩ := wr_cell h.writes rfl i hi1
      obtain ⟨U, HU⟩ : ∃ U, Hid (U = (L.getD i (0, 0)).2) := ⟨_, Lib.hid rfl⟩
      rw [← HU.out] at v1 HV
      obtain ⟨m, Hm⟩ : ∃ m, Hid (m = L.length) := ⟨_, Lib.hid rfl⟩
      rw [← Hm.out] at hi1 c1 hown
      obtain ⟨z, Hz⟩ : ∃ z, Hid (z = xs.length) := ⟨_, Lib.hid rfl⟩
      rw [← Hz.out] at hn HL HI
      have hms : m ≤ 96 := by rw [Hm.out]; exact h.good.few
      clear h hD hD1 hD2 hfi hat0 hi2 hcap
      go_enter Try.func66, Try.ntmps66
      go_wp2_with fail
      refine HL.out.mono ?_
      rintro e w1 ⟨rfl, rfl⟩
      go_wp2_with fail
      refine HI.out.mono ?_
      rintro e w1 ⟨rfl, rfl⟩
      clear HL HI
      go_wp2_with (at_lookup; refine wpList_lookup_own_ok_int _ rfl _ _ 83 rfl 3 3 .i64 keyedInt Try.underlying83 Try.underlying3 (Try.zeroValue3 _) mb m D rfl hown _ _ rfl hkey ?_)
      intro c hat hwc
      obtain rfl : c = (i : Int) := by rw [Hat.out] at hat; injection hat with hat; injection hat with _ hat; exact hat.symm
      clear hat hwc
      go_wp2
      go_ret
      exact ⟨by rw [HG.out, HV.out]; rfl, rfl⟩
    | none =>
      have hh := hD2 hfi
      unfold ik at hh
      have HV := Lib.hid (show gotV xs L n = xs.getD n 0 by unfold gotV; rw [hfi])
      obtain ⟨ad, cap, rfl, _⟩ := row_slice h.words
      obtain ⟨b, rfl, v0, _, hcap, _⟩ := wd_cell h.words rfl n hn
      obtain ⟨U, HU⟩ : ∃ U, Hid (U = xs.getD n 0) := ⟨_, Lib.hid rfl⟩
      rw [← HU.out] at v0 HV
      obtain ⟨m, Hm⟩ : ∃ m, Hid (m = L.length) := ⟨_, Lib.hid rfl⟩
      rw [← Hm.out] at hown
      obtain ⟨z, Hz⟩ : ∃ z, Hid (z = xs.length) := ⟨_, Lib.hid rfl⟩
      rw [← Hz.out] at hn HL HI c0
      clear h hD hD1 hD2 hfi hcap
      go_enter Try.func66, Try.ntmps66
      go_wp2_with fail
      refine HL.out.mono ?_
      rintro e w1 ⟨rfl, rfl⟩
      go_wp2_with fail
      refine HI.out.mono ?_
      rintro e w1 ⟨rfl, rfl⟩
      clear HL HI
      go_wp2_with (at_lookup; refine wpList_lookup_own_ok_int _ rfl _ _ 83 rfl 3 3 .i64 keyedInt Try.underlying83 Try.underlying3 (Try.zeroValue3 _) mb m D rfl hown _ _ rfl hkey ?_)
      intro c hat hwc
      clear hat hwc
      go_wp2
      go_ret
      exact ⟨by rw [HG.out, HV.out]; rfl, rfl⟩
  · have HG := Lib.hid (show gotI xs L a = 0 by unfold gotI; rw [if_neg hin])
    rw [show inB a xs.length = false from by unfold inB; by_cases h0 : 0 ≤ a <;> simp [h0]; omega] at HI
    clear hin h
    go_enter Try.func66, Try.ntmps66
    go_wp2_with fail
    refine HL.out.mono ?_
    rintro e w1 ⟨rfl, rfl⟩
    go_wp2_with fail
    refine HI.out.mono ?_
    rintro e w1 ⟨rfl, rfl⟩
    go_wp2
    go_ret
    exact ⟨by rw [HG.out]; rfl, rfl⟩
end Go.Proofs.Ytdpkpphjpihhkaa
