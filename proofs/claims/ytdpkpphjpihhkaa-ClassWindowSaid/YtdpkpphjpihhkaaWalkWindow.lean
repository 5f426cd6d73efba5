/- ClassWindow, walked. -/
import Derived.Test.YtdpkpphjpihhkaaWinMath
namespace Go.Proofs.Ytdpkpphjpihhkaa.classWindow
open Go.RowKit Go.Grommet

def WorksOk (w : World) (e : Ending) (w' : World) : Prop := e = .returned (.bool true) ∧ w.grownBy w' none
theorem works11 (w : World) : Calls Try.prog 8 #[] w (WorksOk w) := (works_ev w).mono fun _ _ h => h
def sfA (s0 s1 s2 s3 : Nat) (k : Nat) : Nat := [s0, s1, s2, s3].getD k 0
theorem sf_small {s0 s1 s2 s3 : Nat} (h0 : s0 < 18446744073709551616) (h1 : s1 < 18446744073709551616) (h2 : s2 < 18446744073709551616) (h3 : s3 < 18446744073709551616) (k : Nat) : sfA s0 s1 s2 s3 k < 18446744073709551616 := by
  unfold sfA
  match k with
  | 0 => exact h0
  | 1 => exact h1
  | 2 => exact h2
  | 3 => exact h3
  | k + 4 => show 0 < _; decide
/-- What is loaded of the session's slots. -/
theorem load_win (k g a gen mk : Nat) (sf : Nat → Nat) (ha : a < 4) (kk : Nat) (hkk : kk < 4) (w0 wx : World) (Qs : List Pr) (hO : Own w0 wx Qs) (hk : Qs[k]? = some (viewP g (YW a gen mk sf 4) [])) :
    Calls Try.prog 37 #[.pointer (some ⟨g, 0, none⟩), .int .i64 (a : Int), .int .i64 (kk : Int)] wx fun e w' => ∃ (ra rb : Nat) (dd : ByteArray), e = .returned (.tuple #[.int .u64 (sf kk : Int), .agg #[.int .i64 0, .int .u64 (ra : Int), .int .u64 (rb : Int), .string dd], .int .i64 0]) ∧ Own w0 w' Qs := by
  have hat : sessionV (a : Int) = ((8 + 64 * a : Nat) : Int) := by unfold sessionV; rw [if_pos ⟨by omega, by omega⟩]; omega
  have hsl : slotV (a : Int) (kk : Int) = ((16 + 64 * a + 12 * kk : Nat) : Int) := by unfold slotV; rw [if_pos ⟨⟨by omega, by omega⟩, by omega, by omega⟩]; omega
  have hl : (0 : Int) ≤ ((8 + 64 * a : Nat) : Int) ∧ ((8 + 64 * a : Nat) : Int) + 64 ≤ ((YW a gen mk sf 4).length : Int) := by rw [YW_len]; omega
  obtain ⟨s1, s2⟩ := YW_slots a gen mk sf ha kk hkk
  by_cases hz : sf kk = 0
  · rw [hz] at s1 ⊢
    refine (LoadZero k g _ [] _ _ _ _ w0 wx Qs hO hk hat hl hsl (by omega) s1).mono ?_
    rintro e w' ⟨rfl, h⟩
    exact ⟨0, 0, ⟨#[]⟩, rfl, h⟩
  · have r1 := s2 1 (by omega) (by omega)
    have r2 := s2 2 (by omega) (by omega)
    have r3 := s2 3 (by omega) (by omega)
    refine (LoadYes k g _ [] _ _ _ _ (sf kk) 0 0 0 0 0 _ w0 wx Qs hO hk hat hl hsl (by omega) s1 (by omega) (by rw [← r1]; congr 1) (by omega) (by omega) (by omega) (by rw [← r2]; congr 1) (by rw [← r3]; congr 1) rfl).mono ?_
    rintro e w' ⟨rfl, h⟩
    exact ⟨0, 0, _, rfl, h⟩

set_option maxRecDepth 100000 in
set_option maxHeartbeats 8000000 in
theorem walk_at (ix gen mk0 s0 s1 s2 s3 : Nat) (w : World) (hix : ix < 256) (hgen : gen < 18446744073709551616) (hmk0 : mk0 < 18446744073709551616) (hs0 : s0 < 18446744073709551616) (hs1 : s1 < 18446744073709551616) (hs2 : s2 < 18446744073709551616) (hs3 : s3 < 18446744073709551616) :
    Calls Try.prog 6 #[.int .u8 (ix : Int), .int .u64 (gen : Int), .int .u64 (mk0 : Int), .agg #[.int .u64 (s0 : Int), .int .u64 (s1 : Int), .int .u64 (s2 : Int), .int .u64 (s3 : Int)]] w (WorksOk w) := by
  have HS := Lib.hid (fun wx => show Calls Try.prog 10 #[.int .u8 0, .int .u8 0] wx fun e w' => e = .returned (.agg #[.int .i64 1, .int .i64 2, .int .i64 2]) ∧ wx.grownBy w' none from Small_any 0 0 (by omega) (by omega) wx)
  have HFm := Lib.hid (fun wx => show Calls Try.prog 30 #[.agg #[.int .i64 1, .int .i64 2, .int .i64 2]] wx (RowU F0 536 wx) from (RFormat_any 1 2 2 wx (by decide)).mono (fun _ _ hh => rowU_new hh (by decide)))
  obtain ⟨sf, hsf⟩ : ∃ sf, sf = sfA s0 s1 s2 s3 := ⟨_, rfl⟩
  have Hsf := Lib.hid hsf
  have Hsm := Lib.hid (fun k => sf_small hs0 hs1 hs2 hs3 k)
  rw [← hsf] at Hsm
  obtain ⟨a, Ha⟩ : ∃ a, Hid (a = ix % 4) := ⟨_, Lib.hid rfl⟩
  have ha4 : a < 4 := by rw [Ha.out]; omega
  have ea : (ix : Int) % 4 = (a : Int) := by rw [Ha.out]; omega
  have ea2 : Int.tmod (ix : Int) 4 = (a : Int) := by rw [Int.tmod_eq_emod_of_nonneg (by omega)]; exact ea
  obtain ⟨mk, Hmk⟩ : ∃ mk, Hid (mk = mk0 % 1099511627766) := ⟨_, Lib.hid rfl⟩
  have hmkl : mk < 1099511627766 := by rw [Hmk.out]; omega
  have em : (mk0 : Int) % 1099511627766 = (mk : Int) := by rw [Hmk.out]; omega
  have em2 : Int.tmod (mk0 : Int) 1099511627766 = (mk : Int) := by rw [Int.tmod_eq_emod_of_nonneg (by omega)]; exact em
  have wix : IntKind.i64.wrap (ix : Int) = (ix : Int) := IntWalk.i64_in _ ⟨by omega, by omega⟩
  have wa : IntKind.i64.wrap (a : Int) = (a : Int) := IntWalk.i64_in _ ⟨by omega, by omega⟩
  have wmk : IntKind.u64.wrap (mk : Int) = (mk : Int) := IntWalk.u64_in _ ⟨by omega, by omega⟩
  obtain ⟨A, HA⟩ : ∃ A, Hid (A = 8 + 64 * a) := ⟨_, Lib.hid rfl⟩
  have hA : A + 64 ≤ 536 := by rw [HA.out]; omega
  have hse : sessionV (a : Int) = (A : Int) := by unfold sessionV; rw [if_pos ⟨by omega, by omega⟩, HA.out]; omega
  have HRS := Lib.hid (fun wx => RSessionAt_any (a : Int) wx)
  rw [hse] at HRS
  have wA1 : IntKind.i64.wrap ((A : Int) + 1) = (A : Int) + 1 := IntWalk.i64_in _ ⟨by omega, by omega⟩
  have wA2 : IntKind.i64.wrap ((A : Int) + 2) = (A : Int) + 2 := IntWalk.i64_in _ ⟨by omega, by omega⟩
  obtain ⟨A1, hA1⟩ : ∃ A1, A + 1 = A1 := ⟨_, rfl⟩
  obtain ⟨A2, hA2⟩ : ∃ A2, A + 2 = A2 := ⟨_, rfl⟩
  have iA1 : (A : Int) + 1 = (A1 : Int) := by omega
  have iA2 : (A : Int) + 2 = (A2 : Int) := by omega
  rw [iA1] at wA1
  rw [iA2] at wA2
  have b0 : (0 : Int) ≤ (A : Int) := by omega
  have b1 : (A : Int) < 536 := by omega
  have b2 : (0 : Int) ≤ (A1 : Int) := by omega
  have b3 : (A1 : Int) < 536 := by omega
  have b4 : (0 : Int) ≤ (A2 : Int) := by omega
  have b5 : (A2 : Int) < 536 := by omega
  have Hgen := Lib.hid hgen
  have Hml := Lib.hid hmkl
  have HAs := Lib.hid (And.intro hA1 hA2)
  have Hgen2 := Lib.hid hgen
  obtain ⟨X, HX⟩ : ∃ X, Hid (X = w.heap.size) := ⟨_, Lib.hid rfl⟩
  have hO : Own w (w.alloc (.cells #[.int .u64 (s0 : Int), .int .u64 (s1 : Int), .int .u64 (s2 : Int), .int .u64 (s3 : Int)] 71)) [boxP X 71 #[.int .u64 (s0 : Int), .int .u64 (s1 : Int), .int .u64 (s2 : Int), .int .u64 (s3 : Int)]] := by rw [HX.out]; exact (Own.nil w).addBox _ _
  clear hse hgen hmk0 hs0 hs1 hs2 hs3 hsf hA1 hA2
  go_enter Try.func6, Try.ntmps6
  go_wp2_with fail
  rw [← HX.out]
  refine (HS.out _).mono ?_
  rintro e w1 ⟨rfl, hg1⟩
  have hO := hO.quiet hg1
  go_wp2_with fail
  refine (HFm.out _).mono ?_
  rintro e w2 ⟨ad, cp, rfl, hrow, hg2⟩
  have hO : Own w w2 [boxP X 71 #[.int .u64 (s0 : Int), .int .u64 (s1 : Int), .int .u64 (s2 : Int), .int .u64 (s3 : Int)], rowP 36 1 (.slice ad 536 cp) 536 (F0.map wv)] := hO.addRow hrow hg2
  obtain ⟨q, rfl, _, _, _⟩ := Own.cell hO 1 rfl 0 (wv (F0.getD 0 0)) (by rw [List.getElem?_map, List.getElem?_eq_getElem (by rw [F0_len]; omega), List.getD_eq_getElem?_getD, List.getElem?_eq_getElem (by rw [F0_len]; omega)]; rfl)
  clear hg1 hg2 hrow HS HFm
  replace hO := Lib.hid hO
  go_wp2_with fail
  refine (HRS.out _).mono ?_
  rintro e w3 ⟨rfl, hg3⟩
  have hO := hO.out.quiet hg3
  have hcellY : ∀ (wx : World) (Y : List Nat), Y.length = 536 → Own w wx [boxP X 71 #[.int .u64 (s0 : Int), .int .u64 (s1 : Int), .int .u64 (s2 : Int), .int .u64 (s3 : Int)], rowP 36 1 (.slice (some ⟨q, 0, none⟩) 536 cp) 536 ((Y).map wv)] → ∀ p, p < 536 → wx.cell? ⟨q, p, none⟩ = some (.int .u64 ((Y.getD p 0 : Nat) : Int)) ∧ wx.frozen? ⟨q, p, none⟩ = false := by
    intro wx Y hY hOx p hp
    obtain ⟨_, he, cK, fK, _⟩ := Own.cell hOx 1 rfl p (wv (Y.getD p 0)) (by rw [List.getElem?_map, List.getElem?_eq_getElem (by rw [hY]; omega), List.getD_eq_getElem?_getD, List.getElem?_eq_getElem (by rw [hY]; omega)]; rfl)
    cases he
    exact ⟨cK, fK⟩
  obtain ⟨k1, z1⟩ := hcellY w3 F0 F0_len hO A (by omega)
  have hO1 : Own w (w3.setCell ⟨q, A, none⟩ (.int .u64 1)) [boxP X 71 #[.int .u64 (s0 : Int), .int .u64 (s1 : Int), .int .u64 (s2 : Int), .int .u64 (s3 : Int)], rowP 36 1 (.slice (some ⟨q, 0, none⟩) 536 cp) 536 ((F0.set A 1).map wv)] := by
    have := hO.store 1 rfl A (wv 1)
    rw [← List.map_set] at this; exact this
  obtain ⟨k2, z2⟩ := hcellY _ _ (by rw [List.length_set, F0_len]) hO1 A1 (by omega)
  have hO2 : Own w ((w3.setCell ⟨q, A, none⟩ (.int .u64 1)).setCell ⟨q, A1, none⟩ (.int .u64 (gen : Int))) [boxP X 71 #[.int .u64 (s0 : Int), .int .u64 (s1 : Int), .int .u64 (s2 : Int), .int .u64 (s3 : Int)], rowP 36 1 (.slice (some ⟨q, 0, none⟩) 536 cp) 536 (((F0.set A 1).set A1 gen).map wv)] := by
    have := hO1.store 1 rfl A1 (wv gen)
    rw [← List.map_set] at this; exact this
  obtain ⟨k3, z3⟩ := hcellY _ _ (by rw [List.length_set, List.length_set, F0_len]) hO2 A2 (by omega)
  have hO3 : Own w (((w3.setCell ⟨q, A, none⟩ (.int .u64 1)).setCell ⟨q, A1, none⟩ (.int .u64 (gen : Int))).setCell ⟨q, A2, none⟩ (.int .u64 (mk : Int))) [boxP X 71 #[.int .u64 (s0 : Int), .int .u64 (s1 : Int), .int .u64 (s2 : Int), .int .u64 (s3 : Int)], rowP 36 1 (.slice (some ⟨q, 0, none⟩) 536 cp) 536 ((YW a gen mk sf 0).map wv)] := by
    have := hO2.store 1 rfl A2 (wv mk)
    rw [← List.map_set] at this
    have e : ((F0.set A 1).set A1 gen).set A2 mk = YW a gen mk sf 0 := by
      rw [YW_zero]; unfold Y3; rw [← HAs.out.1, ← HAs.out.2, HA.out]
    rw [e] at this; exact this
  replace hO3 := Lib.hid hO3
  have HcY := Lib.hid hcellY
  clear hO hO1 hO2 hg3 hcellY
  go_wp2_with fail
  go_loopw [12] (fun i wr => ∃ k : Nat, k ≤ 4 ∧ i = .int .i64 (k : Int) ∧ Hid (Own w wr [boxP X 71 #[.int .u64 (s0 : Int), .int .u64 (s1 : Int), .int .u64 (s2 : Int), .int .u64 (s3 : Int)], rowP 36 1 (.slice (some ⟨q, 0, none⟩) 536 cp) 536 ((YW a gen mk sf k).map wv)])) (fun i _ => 4 - (intOf i).toNat)
  case atStart => exact ⟨0, by decide, rfl, hO3⟩
  case round =>
    clear hO3 k1 z1 k2 z2 k3 z3
    obtain ⟨k, hk, rfl, hR⟩ := hrel
    have k0 : (0 : Int) ≤ (k : Int) := by omega
    by_cases hlt : k < 4
    · have hlt' : (k : Int) < 4 := by omega
      have wk : IntKind.i64.wrap ((k : Int) + 1) = (k : Int) + 1 := IntWalk.i64_in _ ⟨by omega, by omega⟩
      have hO := hR.out.quiet (grown_drew (World.grownBy.refl wr none))
      obtain ⟨sl, hsl⟩ : ∃ sl, 16 + 64 * a + 12 * k = sl := ⟨_, rfl⟩
      have hsl2 : slotV (a : Int) (k : Int) = (sl : Int) := by unfold slotV; rw [if_pos ⟨⟨by omega, by omega⟩, by omega, by omega⟩]; omega
      have HSl := Lib.hid (fun wx => RSlotAt_any (a : Int) (k : Int) wx)
      rw [hsl2] at HSl
      have s0' : (0 : Int) ≤ (sl : Int) := by omega
      have s1' : (sl : Int) < 536 := by omega
      have hbc : ∀ wx : World, wx.heap[X]? = some (.cells #[.int .u64 (s0 : Int), .int .u64 (s1 : Int), .int .u64 (s2 : Int), .int .u64 (s3 : Int)] 71 (0, 0)) → wx.cell? ⟨X, k, none⟩ = some (.int .u64 (sf k : Int)) := by
        intro wx hb
        rw [Hsf.out]
        unfold World.cell?
        rw [hb]
        have hk4 : k = 0 ∨ k = 1 ∨ k = 2 ∨ k = 3 := by omega
        rcases hk4 with e | e | e | e <;> subst e <;> rfl
      have HB2 := Lib.hid hbc
      have HC := Lib.hid (fun wx (hOx : Own w wx [boxP X 71 #[.int .u64 (s0 : Int), .int .u64 (s1 : Int), .int .u64 (s2 : Int), .int .u64 (s3 : Int)], rowP 36 1 (.slice (some ⟨q, 0, none⟩) 536 cp) 536 ((YW a gen mk sf k).map wv)]) => HcY.out wx _ (YW_len a gen mk sf k) hOx sl (by omega))
      have HN := Lib.hid (fun wx (hOx : Own w wx [boxP X 71 #[.int .u64 (s0 : Int), .int .u64 (s1 : Int), .int .u64 (s2 : Int), .int .u64 (s3 : Int)], rowP 36 1 (.slice (some ⟨q, 0, none⟩) 536 cp) 536 ((YW a gen mk sf k).map wv)]) => show Own w (wx.setCell ⟨q, sl, none⟩ (.int .u64 (sf k : Int))) [boxP X 71 #[.int .u64 (s0 : Int), .int .u64 (s1 : Int), .int .u64 (s2 : Int), .int .u64 (s3 : Int)], rowP 36 1 (.slice (some ⟨q, 0, none⟩) 536 cp) 536 ((YW a gen mk sf (k + 1)).map wv)] from by
        have := hOx.store 1 rfl sl (wv (sf k))
        rw [← List.map_set, ← hsl, ← YW_succ] at this; rw [← hsl]; exact this)
      have Hk := Lib.hid hlt
      have hSx := Own.box hO 0 rfl
      clear hR hk hlt hsl hsl2 hbc
      go_wp2_with fail
      refine wp_region_held_drew (S := fun w' => w'.heap[X]? = some (.cells #[.int .u64 (s0 : Int), .int .u64 (s1 : Int), .int .u64 (s2 : Int), .int .u64 (s3 : Int)] 71 (0, 0))) (by kernel_rfl) (hSx) (fun hS => ?_)
      refine wpAnyH_take (i := 0) (oi := { dst := some 48, op := Op.move (Operand.tmp 10), type := 27, pos := "law.go:278", after := #[], guard := none }) (v := ?vcw6r11o0) rfl (by kernel_rfl) (by kernel_rfl) (by kernel_rfl) (fun _ _ _ h => h) (Or.inl ⟨by rfl, ?hcw6r11o0⟩) hS ?_
      case hcw6r11o0 => (intro wx hx; skip; go_simp; (try with_reducible rfl))
      try simp only [Act.put, List.setIfInBounds_toArray, List.set_cons_zero, List.set_cons_succ]
      refine wpAnyH_take (i := 1) (oi := { dst := some 49, op := Op.move (Operand.tmp 9), type := 3, pos := "law.go:278", after := #[], guard := none }) (v := ?vcw6r11o1) rfl (by kernel_rfl) (by kernel_rfl) (by kernel_rfl) (fun _ _ _ h => h) (Or.inl ⟨by rfl, ?hcw6r11o1⟩) hS ?_
      case hcw6r11o1 => (intro wx hx; skip; go_simp; (try with_reducible rfl))
      try simp only [Act.put, List.setIfInBounds_toArray, List.set_cons_zero, List.set_cons_succ]
      refine wpAnyH_take (i := 2) (oi := { dst := some 50, op := Op.move (Operand.tmp 12), type := 3, pos := "law.go:278", after := #[], guard := none }) (v := ?vcw6r11o2) rfl (by kernel_rfl) (by kernel_rfl) (by kernel_rfl) (fun _ _ _ h => h) (Or.inl ⟨by rfl, ?hcw6r11o2⟩) hS ?_
      case hcw6r11o2 => (intro wx hx; skip; go_simp; (try with_reducible rfl))
      try simp only [Act.put, List.setIfInBounds_toArray, List.set_cons_zero, List.set_cons_succ]
      refine wpAnyH_take (i := 4) (oi := { dst := some 52, op := Op.move (Operand.tmp 12), type := 3, pos := "law.go:278", after := #[], guard := none }) (v := ?vcw6r11o4) rfl (by kernel_rfl) (by kernel_rfl) (by kernel_rfl) (fun _ _ _ h => h) (Or.inl ⟨by rfl, ?hcw6r11o4⟩) hS ?_
      case hcw6r11o4 => (intro wx hx; skip; go_simp; (try with_reducible rfl))
      try simp only [Act.put, List.setIfInBounds_toArray, List.set_cons_zero, List.set_cons_succ]
      refine wpAnyH_take (i := 5) (oi := { dst := some 53, op := Op.indexAddr 71 (Operand.tmp 7) (Operand.tmp 52), type := 0, pos := "law.go:278", after := #[{ on := 4, ground := Ground.data }], guard := none }) (v := ?vcw6r11o5) rfl (by kernel_rfl) (by kernel_rfl) (by kernel_rfl) (fun _ _ _ h => h) (Or.inl ⟨by rfl, ?hcw6r11o5⟩) hS ?_
      case hcw6r11o5 => (intro wx hx; skip; go_simp; (try with_reducible rfl))
      try simp only [Act.put, List.setIfInBounds_toArray, List.set_cons_zero, List.set_cons_succ]
      refine wpAnyH_take (i := 6) (oi := { dst := some 54, op := Op.load 36 (Operand.tmp 53), type := 36, pos := "law.go:278", after := #[{ on := 5, ground := Ground.data }], guard := none }) (v := ?vcw6r11o6) rfl (by kernel_rfl) (by kernel_rfl) (by kernel_rfl) (fun _ _ _ h => h) (Or.inl ⟨by rfl, ?hcw6r11o6⟩) hS ?_
      case hcw6r11o6 => (intro wx hx; have hy := HB2.out wx hx; go_simp; (try with_reducible rfl))
      try simp only [Act.put, List.setIfInBounds_toArray, List.set_cons_zero, List.set_cons_succ]
      refine wpAnyH_ready (rs := [3]) (by kernel_rfl) (by simp) ?_
      refine AllReadyH.cons (o := { dst := some 51, op := Op.call { callee := Callee.value (Operand.func 31), args := #[Operand.tmp 49, Operand.tmp 50], argTypes := #[3, 3] }, type := 3, pos := "law.go:278", after := #[{ on := 1, ground := Ground.data }, { on := 2, ground := Ground.data }], guard := none }) rfl (fun K hK => ?_) AllReadyH.nil
      go_simp
      refine (HSl.out _).mono ?_
      rintro e wA ⟨rfl, hgA⟩
      have hOA := hO.quiet hgA
      have hS1 := Own.box hOA 0 rfl
      obtain ⟨cA, zA⟩ := HC.out _ hOA
      have hNA := HN.out _ hOA
      have hS2 := Own.box hNA 0 rfl
      refine hK.out _ _ ?hscw6r11o3 (fun hS => ?_)
      case hscw6r11o3 => (exact hS1)
      clear hK K
      try simp only [Act.put, List.setIfInBounds_toArray, List.set_cons_zero, List.set_cons_succ]
      refine wpAnyH_take (i := 7) (oi := { dst := some 55, op := Op.indexAddr 27 (Operand.tmp 48) (Operand.tmp 51), type := 0, pos := "law.go:278", after := #[{ on := 0, ground := Ground.data }, { on := 3, ground := Ground.data }, { on := 0, ground := Ground.phase }, { on := 1, ground := Ground.phase }, { on := 2, ground := Ground.phase }, { on := 3, ground := Ground.phase }, { on := 4, ground := Ground.phase }, { on := 5, ground := Ground.phase }, { on := 6, ground := Ground.phase }], guard := none }) (v := ?vcw6r11o7) rfl (by kernel_rfl) (by kernel_rfl) (by kernel_rfl) (fun _ _ _ h => h) (Or.inl ⟨by rfl, ?hcw6r11o7⟩) hS ?_
      case hcw6r11o7 => (intro wx hx; skip; go_simp; (try with_reducible rfl))
      try simp only [Act.put, List.setIfInBounds_toArray, List.set_cons_zero, List.set_cons_succ]
      refine wpAnyH_ready (rs := [8]) (by kernel_rfl) (by simp) ?_
      refine AllReadyH.cons (o := { dst := none, op := Op.store 36 (Operand.tmp 55) (Operand.tmp 54), type := 0, pos := "law.go:278", after := #[{ on := 7, ground := Ground.data }, { on := 6, ground := Ground.data }, { on := 3, ground := Ground.chain }, { on := 0, ground := Ground.phase }, { on := 1, ground := Ground.phase }, { on := 2, ground := Ground.phase }, { on := 3, ground := Ground.phase }, { on := 4, ground := Ground.phase }, { on := 5, ground := Ground.phase }, { on := 6, ground := Ground.phase }], guard := none }) rfl (fun K hK => ?_) AllReadyH.nil
      go_simp
      skip
      refine hK.out _ _ ?hscw6r11o8 (fun hS => ?_)
      case hscw6r11o8 => (exact hS2)
      clear hK K
      try simp only [Act.put, List.setIfInBounds_toArray, List.set_cons_zero, List.set_cons_succ]
      refine wpAnyH_done (by kernel_rfl) ?_ _
      clear hS1 hS2 cA zA hOA hSx hO HC HN
      replace hNA := Lib.hid hNA
      go_wp2
      go_roundw
      case rel => exact ⟨k + 1, Hk.out, by go_num, hNA⟩
      case measure => have := Hk.out; simp [intOf]; omega
    · obtain rfl : k = 4 := by omega
      have hO := hR.out
      have hYs := YW_small a gen mk sf Hgen.out (by have := Hml.out; omega) Hsm.out 4
      obtain ⟨hwz, hnz, _⟩ := Own.words hO 1 rfl hYs (by decide)
      have HN := Lib.hid (NewH _ 536 cp _ w wr _ hO hwz (by decide) hnz)
      obtain ⟨hd1, hd2, hd3⟩ := YW_head a gen mk sf ha4
      have HHd := Lib.hid (And.intro hd1 (And.intro hd2 hd3))
      have HLd := Lib.hid (fun k g kk hkk w0 wx Qs hO hk => load_win k g a gen mk sf ha4 kk hkk w0 wx Qs hO hk)
      have hYl := Lib.hid (YW_len a gen mk sf 4)
      have hat : sessionV (a : Int) = ((8 + 64 * a : Nat) : Int) := by unfold sessionV; rw [if_pos ⟨by omega, by omega⟩]; omega
      have Hat := Lib.hid hat
      have Ha4 := Lib.hid ha4
      generalize YW a gen mk sf 4 = YS at hO HN HHd HLd hYl
      clear hwz hnz hO hR hlt hk hYs hd1 hd2 hd3 hat HcY HAs HRS Hgen wA1 wA2 b0 b1 b2 b3 b4 b5 iA1 iA2 hA ea ea2 em em2
      go_wp2_with fail
      refine HN.out.mono ?_
      rintro e w4 ⟨g, rfl, hO⟩
      clear HN
      have hO : Own w w4 [boxP X 71 #[.int .u64 (s0 : Int), .int .u64 (s1 : Int), .int .u64 (s2 : Int), .int .u64 (s3 : Int)], rowP 36 1 (.slice (some ⟨q, 0, none⟩) 536 cp) 536 ((YS).map wv), viewP g YS []] := hO
      have HOf := Lib.hid (fun (n : Nat) (h1 : 1 ≤ n) (h2 : n ≤ 1099511627776) (wx : World) (hO : Own w wx [boxP X 71 #[.int .u64 (s0 : Int), .int .u64 (s1 : Int), .int .u64 (s2 : Int), .int .u64 (s3 : Int)], rowP 36 1 (.slice (some ⟨q, 0, none⟩) 536 cp) 536 ((YS).map wv), viewP g YS []]) =>
        OfH 2 g YS [] (a : Int) ((8 + 64 * a : Nat) : Int) gen mk n w wx _ hO rfl Hat.out (by rw [hYl.out]; have := Ha4.out; omega) (by rw [hYl.out]; decide) HHd.out.1 (by rw [← HHd.out.2.1]; congr 1) (by rw [← HHd.out.2.2]; congr 1) h1 h2 (sf (n % 4)) (fun wx Qs hOx hk => HLd.out 2 g (n % 4) (Nat.mod_lt _ (by decide)) w wx Qs hOx hk))
      have HCl := Lib.hid (fun (G : Nat) (hG : ((gen : Int) != (G : Int)) = true) (n : Nat) (h1 : 1 ≤ n) (h2 : n ≤ 1099511627776) (wx : World) (hO : Own w wx [boxP X 71 #[.int .u64 (s0 : Int), .int .u64 (s1 : Int), .int .u64 (s2 : Int), .int .u64 (s3 : Int)], rowP 36 1 (.slice (some ⟨q, 0, none⟩) 536 cp) 536 ((YS).map wv), viewP g YS []]) =>
        OfClosed 2 g YS [] (a : Int) ((8 + 64 * a : Nat) : Int) gen mk n w wx _ hO rfl Hat.out (by rw [hYl.out]; have := Ha4.out; omega) (by rw [hYl.out]; decide) HHd.out.1 (by rw [← HHd.out.2.1]; congr 1) (by rw [← HHd.out.2.2]; congr 1) h1 h2 G hG)
      have HWr := Lib.hid (fun (wx : World) (hO : Own w wx [boxP X 71 #[.int .u64 (s0 : Int), .int .u64 (s1 : Int), .int .u64 (s2 : Int), .int .u64 (s3 : Int)], rowP 36 1 (.slice (some ⟨q, 0, none⟩) 536 cp) 536 ((YS).map wv), viewP g YS []]) => WritesH 2 g YS [] w wx _ hO rfl)
      replace hO := Lib.hid hO
      obtain ⟨n0, hn0⟩ : ∃ n0, Hid (n0 = max mk 3 - 2) := ⟨_, Lib.hid rfl⟩
      have hn0a : Hid (1 ≤ n0 ∧ n0 ≤ mk + 1) := Lib.hid (by rw [hn0.out]; omega)
      obtain ⟨mx, hmx⟩ : ∃ mx, Hid (mx = max mk 3) := ⟨_, Lib.hid rfl⟩
      have hmk9 : IntKind.u64.wrap ((mk : Int) + 9) = (mk : Int) + 9 := IntWalk.u64_in _ ⟨by omega, by omega⟩
      have hmk4 : IntKind.u64.wrap ((mk : Int) + 4) = (mk : Int) + 4 := IntWalk.u64_in _ ⟨by omega, by omega⟩
      have hmk1 : IntKind.u64.wrap ((mk : Int) + 1) = (mk : Int) + 1 := IntWalk.u64_in _ ⟨by omega, by omega⟩
      clear HHd HLd Hat hYl
      by_cases hm3 : 3 ≤ mk
      · go_wp2_with fail
        go_loopw [14, 15] (fun m i wr => ∃ n : Nat, n ≤ mk + 9 ∧ 1 ≤ n ∧ i = .int .u64 (n : Int) ∧ m = .int .i64 ((inW mk n : Nat) : Int) ∧ Hid (Own w wr [boxP X 71 #[.int .u64 (s0 : Int), .int .u64 (s1 : Int), .int .u64 (s2 : Int), .int .u64 (s3 : Int)], rowP 36 1 (.slice (some ⟨q, 0, none⟩) 536 cp) 536 ((YS).map wv), viewP g YS []])) (fun _ i _ => mk + 9 - (intOf i).toNat)
        case atStart => exact ⟨mk - 2, by omega, by omega, by congr 1 <;> omega, by unfold inW; rw [if_pos (by omega)]; rfl, hO⟩
        case round =>
          clear hO
          obtain ⟨n, hn, hn1, rfl, rfl, hR⟩ := hrel
          have hIs := inW_succ mk n (sf (n % 4))
          have hI4 : inW mk n ≤ 4 := by unfold inW; split <;> omega
          by_cases hlt : n < mk + 9
          · have hlt' : (n : Int) < (mk : Int) + 9 := by omega
            have HC := Lib.hid (HOf.out n hn1 (by omega) wr hR.out)
            obtain ⟨r, hr⟩ : ∃ r, n % 4 = r := ⟨_, rfl⟩
            have hr4 : r < 4 := by omega
            have er : (n : Int) % 4 = (r : Int) := by omega
            have er2 : Int.tmod (n : Int) 4 = (r : Int) := by rw [Int.tmod_eq_emod_of_nonneg (by omega)]; exact er
            have wr1 : IntKind.u64.wrap (r : Int) = (r : Int) := IntWalk.u64_in _ ⟨by omega, by omega⟩
            have wr2 : IntKind.i64.wrap (r : Int) = (r : Int) := IntWalk.i64_in _ ⟨by omega, by omega⟩
            have rr0 : (0 : Int) ≤ (r : Int) := by omega
            have rr1 : (r : Int) < 4 := by omega
            have wn : IntKind.u64.wrap ((n : Int) + 1) = (n : Int) + 1 := IntWalk.u64_in _ ⟨by omega, by omega⟩
            obtain ⟨I, hI⟩ : ∃ I, inW mk n = I := ⟨_, rfl⟩
            rw [hI] at hIs hI4 ⊢
            have wI : IntKind.i64.wrap ((I : Int) + 1) = (I : Int) + 1 := IntWalk.i64_in _ ⟨by omega, by omega⟩
            rw [hr] at HC hIs
            obtain ⟨S, hS⟩ : ∃ S, sf r = S := ⟨_, rfl⟩
            rw [hS] at HC hIs
            have hcell : ∀ wx : World, Own w wx [boxP X 71 #[.int .u64 (s0 : Int), .int .u64 (s1 : Int), .int .u64 (s2 : Int), .int .u64 (s3 : Int)], rowP 36 1 (.slice (some ⟨q, 0, none⟩) 536 cp) 536 ((YS).map wv), viewP g YS []] → wx.cell? ⟨X, r, none⟩ = some (.int .u64 (S : Int)) := by
              intro wx hOx
              have hb := Own.box hOx 0 rfl
              rw [← hS, Hsf.out]
              unfold World.cell?
              rw [hb]
              have hk4 : r = 0 ∨ r = 1 ∨ r = 2 ∨ r = 3 := by omega
              rcases hk4 with e | e | e | e <;> subst e <;> rfl
            have HB := Lib.hid hcell
            have Hn := Lib.hid (show n + 1 ≤ mk + 9 by omega)
            have Hn1 := Lib.hid (show 1 ≤ n + 1 by omega)
            clear hR hcell hI hr hS hI4 hr4 hn
            by_cases a1 : n ≤ mk
            · have p1 : (n : Int) ≤ (mk : Int) := by omega
              have p2 : ¬ (mk : Int) + 4 < (n : Int) := by omega
              have p3 : ¬ (mk : Int) < (n : Int) := by omega
              have hv : OfR mk n S = 2 := by unfold OfR; rw [if_pos a1]
              rw [hv] at HC hIs
              have hIs2 := Lib.hid (show inW mk (n + 1) = I by rw [hIs]; rfl)
              clear hIs hv a1 hlt
              go_wp2_with fail
              refine HC.out.mono ?_
              rintro e w6 ⟨⟨ra, rb, dd, rfl⟩, hO⟩
              have hO6 := hO.quiet (World.grownBy_alloc w6 (.cells #[.int .i64 0, .int .u64 (ra : Int), .int .u64 (rb : Int), .string dd] 39) none)
              have hcx := HB.out _ hO6
              replace hO6 := Lib.hid hO6
              clear HC hO
              go_wp2
              go_roundw
              case rel => exact ⟨n + 1, Hn.out, Hn1.out, by go_num, by rw [hIs2.out], hO6⟩
              case measure => have := Hn.out; simp [intOf]; omega
            · have p1 : ¬ (n : Int) ≤ (mk : Int) := by omega
              have p3 : (mk : Int) < (n : Int) := by omega
              by_cases a2 : 4 < n - mk
              · have p2 : (mk : Int) + 4 < (n : Int) := by omega
                have p4 : ¬ (n : Int) ≤ (mk : Int) + 4 := by omega
                have hv : OfR mk n S = 3 := by unfold OfR; rw [if_neg a1, if_pos a2]
                rw [hv] at HC hIs
                have hIs2 := Lib.hid (show inW mk (n + 1) = I by rw [hIs]; rfl)
                clear hIs hv a1 a2 hlt
                go_wp2_with fail
                refine HC.out.mono ?_
                rintro e w6 ⟨⟨ra, rb, dd, rfl⟩, hO⟩
                have hO6 := hO.quiet (World.grownBy_alloc w6 (.cells #[.int .i64 0, .int .u64 (ra : Int), .int .u64 (rb : Int), .string dd] 39) none)
                have hcx := HB.out _ hO6
                replace hO6 := Lib.hid hO6
                clear HC hO
                go_wp2
                go_roundw
                case rel => exact ⟨n + 1, Hn.out, Hn1.out, by go_num, by rw [hIs2.out], hO6⟩
                case measure => have := Hn.out; simp [intOf]; omega
              · have p2 : ¬ (mk : Int) + 4 < (n : Int) := by omega
                have p4 : (n : Int) ≤ (mk : Int) + 4 := by omega
                by_cases a3 : S = n
                · have p5 : ((S : Int) == (n : Int)) = true := by rw [a3]; simp
                  have hv : OfR mk n S = 1 := by unfold OfR; rw [if_neg a1, if_neg a2, if_pos a3]
                  rw [hv] at HC hIs
                  have hIs2 := Lib.hid (show inW mk (n + 1) = I + 1 by rw [hIs]; rfl)
                  clear hIs hv a1 a2 a3 hlt
                  go_wp2_with fail
                  refine HC.out.mono ?_
                  rintro e w6 ⟨⟨ra, rb, dd, rfl⟩, hO⟩
                  have hO6 := hO.quiet (World.grownBy_alloc w6 (.cells #[.int .i64 0, .int .u64 (ra : Int), .int .u64 (rb : Int), .string dd] 39) none)
                  have hcx := HB.out _ hO6
                  replace hO6 := Lib.hid hO6
                  clear HC hO
                  go_wp2
                  go_roundw
                  case rel => exact ⟨n + 1, Hn.out, Hn1.out, by go_num, by rw [hIs2.out]; go_num, hO6⟩
                  case measure => have := Hn.out; simp [intOf]; omega
                · have p5 : ((S : Int) == (n : Int)) = false := by rw [beq_eq_false_iff_ne]; omega
                  have hv : OfR mk n S = 0 := by unfold OfR; rw [if_neg a1, if_neg a2, if_neg a3]
                  rw [hv] at HC hIs
                  have hIs2 := Lib.hid (show inW mk (n + 1) = I + 1 by rw [hIs]; rfl)
                  clear hIs hv a1 a2 a3 hlt
                  go_wp2_with fail
                  refine HC.out.mono ?_
                  rintro e w6 ⟨⟨ra, rb, dd, rfl⟩, hO⟩
                  have hO6 := hO.quiet (World.grownBy_alloc w6 (.cells #[.int .i64 0, .int .u64 (ra : Int), .int .u64 (rb : Int), .string dd] 39) none)
                  have hcx := HB.out _ hO6
                  replace hO6 := Lib.hid hO6
                  clear HC hO
                  go_wp2
                  go_roundw
                  case rel => exact ⟨n + 1, Hn.out, Hn1.out, by go_num, by rw [hIs2.out]; go_num, hO6⟩
                  case measure => have := Hn.out; simp [intOf]; omega
          · obtain rfl : n = mk + 9 := by omega
            have hlt' : ¬ (((mk + 9 : Nat) : Int) < (mk : Int) + 9) := by omega
            have hI5 : inW mk (mk + 9) = 4 := by unfold inW; rw [if_neg (by omega)]; omega
            rw [hI5]
            obtain ⟨G, hG⟩ : ∃ G, Hid (G = (gen + 1) % 18446744073709551616) := ⟨_, Lib.hid rfl⟩
            have wG : IntKind.u64.wrap ((gen : Int) + 1) = (G : Int) := by rw [wrap_succ gen Hgen2.out, hG.out]
            have hgG : ((gen : Int) != (G : Int)) = true := by
              have h1 := Hgen2.out
              have h2 := hG.out
              have : gen ≠ G := by omega
              simp; omega
            have HC := Lib.hid (HCl.out G hgG (mk + 1) (by omega) (by omega) wr hR.out)
            rw [show ((mk + 1 : Nat) : Int) = (mk : Int) + 1 by omega] at HC
            obtain ⟨M9, hM9⟩ : ∃ M9 : Int, ((mk + 9 : Nat) : Int) = M9 := ⟨_, rfl⟩
            rw [hM9] at hlt' ⊢
            clear hR hlt hn hn1 hIs hI5 HOf hgG hM9
            go_wp2_with fail
            refine HC.out.mono ?_
            rintro e w6 ⟨rfl, hO⟩
            have hO := hO.quiet (World.grownBy_alloc w6 (.cells #[.int .i64 0, .int .u64 0, .int .u64 0, .string ⟨#[]⟩] 39) none)
            have HW := Lib.hid (HWr.out _ hO)
            clear HC hO HCl HWr
            go_wp2_with fail
            refine HW.out.mono ?_
            rintro e w7 ⟨ad7, cap7, rfl, hO⟩
            have hgo := Lib.hid hO.grown
            clear HW hO
            go_wp2_with fail
            refine (works11 _).mono ?_
            rintro e w8 ⟨rfl, hg8⟩
            have hfin := Lib.hid (grown_trans hgo.out hg8)
            clear hgo hg8
            go_wp2
            go_ret
            exact ⟨rfl, hfin.out⟩
      · go_wp2_with fail
        go_loopw [14, 15] (fun m i wr => ∃ n : Nat, n ≤ mk + 9 ∧ 1 ≤ n ∧ i = .int .u64 (n : Int) ∧ m = .int .i64 ((inW mk n : Nat) : Int) ∧ Hid (Own w wr [boxP X 71 #[.int .u64 (s0 : Int), .int .u64 (s1 : Int), .int .u64 (s2 : Int), .int .u64 (s3 : Int)], rowP 36 1 (.slice (some ⟨q, 0, none⟩) 536 cp) 536 ((YS).map wv), viewP g YS []])) (fun _ i _ => mk + 9 - (intOf i).toNat)
        case atStart => exact ⟨1, by omega, by omega, by congr 1 <;> omega, by unfold inW; rw [if_pos (by omega)]; rfl, hO⟩
        case round =>
          clear hO
          obtain ⟨n, hn, hn1, rfl, rfl, hR⟩ := hrel
          have hIs := inW_succ mk n (sf (n % 4))
          have hI4 : inW mk n ≤ 4 := by unfold inW; split <;> omega
          by_cases hlt : n < mk + 9
          · have hlt' : (n : Int) < (mk : Int) + 9 := by omega
            have HC := Lib.hid (HOf.out n hn1 (by omega) wr hR.out)
            obtain ⟨r, hr⟩ : ∃ r, n % 4 = r := ⟨_, rfl⟩
            have hr4 : r < 4 := by omega
            have er : (n : Int) % 4 = (r : Int) := by omega
            have er2 : Int.tmod (n : Int) 4 = (r : Int) := by rw [Int.tmod_eq_emod_of_nonneg (by omega)]; exact er
            have wr1 : IntKind.u64.wrap (r : Int) = (r : Int) := IntWalk.u64_in _ ⟨by omega, by omega⟩
            have wr2 : IntKind.i64.wrap (r : Int) = (r : Int) := IntWalk.i64_in _ ⟨by omega, by omega⟩
            have rr0 : (0 : Int) ≤ (r : Int) := by omega
            have rr1 : (r : Int) < 4 := by omega
            have wn : IntKind.u64.wrap ((n : Int) + 1) = (n : Int) + 1 := IntWalk.u64_in _ ⟨by omega, by omega⟩
            obtain ⟨I, hI⟩ : ∃ I, inW mk n = I := ⟨_, rfl⟩
            rw [hI] at hIs hI4 ⊢
            have wI : IntKind.i64.wrap ((I : Int) + 1) = (I : Int) + 1 := IntWalk.i64_in _ ⟨by omega, by omega⟩
            rw [hr] at HC hIs
            obtain ⟨S, hS⟩ : ∃ S, sf r = S := ⟨_, rfl⟩
            rw [hS] at HC hIs
            have hcell : ∀ wx : World, Own w wx [boxP X 71 #[.int .u64 (s0 : Int), .int .u64 (s1 : Int), .int .u64 (s2 : Int), .int .u64 (s3 : Int)], rowP 36 1 (.slice (some ⟨q, 0, none⟩) 536 cp) 536 ((YS).map wv), viewP g YS []] → wx.cell? ⟨X, r, none⟩ = some (.int .u64 (S : Int)) := by
              intro wx hOx
              have hb := Own.box hOx 0 rfl
              rw [← hS, Hsf.out]
              unfold World.cell?
              rw [hb]
              have hk4 : r = 0 ∨ r = 1 ∨ r = 2 ∨ r = 3 := by omega
              rcases hk4 with e | e | e | e <;> subst e <;> rfl
            have HB := Lib.hid hcell
            have Hn := Lib.hid (show n + 1 ≤ mk + 9 by omega)
            have Hn1 := Lib.hid (show 1 ≤ n + 1 by omega)
            clear hR hcell hI hr hS hI4 hr4 hn
            by_cases a1 : n ≤ mk
            · have p1 : (n : Int) ≤ (mk : Int) := by omega
              have p2 : ¬ (mk : Int) + 4 < (n : Int) := by omega
              have p3 : ¬ (mk : Int) < (n : Int) := by omega
              have hv : OfR mk n S = 2 := by unfold OfR; rw [if_pos a1]
              rw [hv] at HC hIs
              have hIs2 := Lib.hid (show inW mk (n + 1) = I by rw [hIs]; rfl)
              clear hIs hv a1 hlt
              go_wp2_with fail
              refine HC.out.mono ?_
              rintro e w6 ⟨⟨ra, rb, dd, rfl⟩, hO⟩
              have hO6 := hO.quiet (World.grownBy_alloc w6 (.cells #[.int .i64 0, .int .u64 (ra : Int), .int .u64 (rb : Int), .string dd] 39) none)
              have hcx := HB.out _ hO6
              replace hO6 := Lib.hid hO6
              clear HC hO
              go_wp2
              go_roundw
              case rel => exact ⟨n + 1, Hn.out, Hn1.out, by go_num, by rw [hIs2.out], hO6⟩
              case measure => have := Hn.out; simp [intOf]; omega
            · have p1 : ¬ (n : Int) ≤ (mk : Int) := by omega
              have p3 : (mk : Int) < (n : Int) := by omega
              by_cases a2 : 4 < n - mk
              · have p2 : (mk : Int) + 4 < (n : Int) := by omega
                have p4 : ¬ (n : Int) ≤ (mk : Int) + 4 := by omega
                have hv : OfR mk n S = 3 := by unfold OfR; rw [if_neg a1, if_pos a2]
                rw [hv] at HC hIs
                have hIs2 := Lib.hid (show inW mk (n + 1) = I by rw [hIs]; rfl)
                clear hIs hv a1 a2 hlt
                go_wp2_with fail
                refine HC.out.mono ?_
                rintro e w6 ⟨⟨ra, rb, dd, rfl⟩, hO⟩
                have hO6 := hO.quiet (World.grownBy_alloc w6 (.cells #[.int .i64 0, .int .u64 (ra : Int), .int .u64 (rb : Int), .string dd] 39) none)
                have hcx := HB.out _ hO6
                replace hO6 := Lib.hid hO6
                clear HC hO
                go_wp2
                go_roundw
                case rel => exact ⟨n + 1, Hn.out, Hn1.out, by go_num, by rw [hIs2.out], hO6⟩
                case measure => have := Hn.out; simp [intOf]; omega
              · have p2 : ¬ (mk : Int) + 4 < (n : Int) := by omega
                have p4 : (n : Int) ≤ (mk : Int) + 4 := by omega
                by_cases a3 : S = n
                · have p5 : ((S : Int) == (n : Int)) = true := by rw [a3]; simp
                  have hv : OfR mk n S = 1 := by unfold OfR; rw [if_neg a1, if_neg a2, if_pos a3]
                  rw [hv] at HC hIs
                  have hIs2 := Lib.hid (show inW mk (n + 1) = I + 1 by rw [hIs]; rfl)
                  clear hIs hv a1 a2 a3 hlt
                  go_wp2_with fail
                  refine HC.out.mono ?_
                  rintro e w6 ⟨⟨ra, rb, dd, rfl⟩, hO⟩
                  have hO6 := hO.quiet (World.grownBy_alloc w6 (.cells #[.int .i64 0, .int .u64 (ra : Int), .int .u64 (rb : Int), .string dd] 39) none)
                  have hcx := HB.out _ hO6
                  replace hO6 := Lib.hid hO6
                  clear HC hO
                  go_wp2
                  go_roundw
                  case rel => exact ⟨n + 1, Hn.out, Hn1.out, by go_num, by rw [hIs2.out]; go_num, hO6⟩
                  case measure => have := Hn.out; simp [intOf]; omega
                · have p5 : ((S : Int) == (n : Int)) = false := by rw [beq_eq_false_iff_ne]; omega
                  have hv : OfR mk n S = 0 := by unfold OfR; rw [if_neg a1, if_neg a2, if_neg a3]
                  rw [hv] at HC hIs
                  have hIs2 := Lib.hid (show inW mk (n + 1) = I + 1 by rw [hIs]; rfl)
                  clear hIs hv a1 a2 a3 hlt
                  go_wp2_with fail
                  refine HC.out.mono ?_
                  rintro e w6 ⟨⟨ra, rb, dd, rfl⟩, hO⟩
                  have hO6 := hO.quiet (World.grownBy_alloc w6 (.cells #[.int .i64 0, .int .u64 (ra : Int), .int .u64 (rb : Int), .string dd] 39) none)
                  have hcx := HB.out _ hO6
                  replace hO6 := Lib.hid hO6
                  clear HC hO
                  go_wp2
                  go_roundw
                  case rel => exact ⟨n + 1, Hn.out, Hn1.out, by go_num, by rw [hIs2.out]; go_num, hO6⟩
                  case measure => have := Hn.out; simp [intOf]; omega
          · obtain rfl : n = mk + 9 := by omega
            have hlt' : ¬ (((mk + 9 : Nat) : Int) < (mk : Int) + 9) := by omega
            have hI5 : inW mk (mk + 9) = 4 := by unfold inW; rw [if_neg (by omega)]; omega
            rw [hI5]
            obtain ⟨G, hG⟩ : ∃ G, Hid (G = (gen + 1) % 18446744073709551616) := ⟨_, Lib.hid rfl⟩
            have wG : IntKind.u64.wrap ((gen : Int) + 1) = (G : Int) := by rw [wrap_succ gen Hgen2.out, hG.out]
            have hgG : ((gen : Int) != (G : Int)) = true := by
              have h1 := Hgen2.out
              have h2 := hG.out
              have : gen ≠ G := by omega
              simp; omega
            have HC := Lib.hid (HCl.out G hgG (mk + 1) (by omega) (by omega) wr hR.out)
            rw [show ((mk + 1 : Nat) : Int) = (mk : Int) + 1 by omega] at HC
            obtain ⟨M9, hM9⟩ : ∃ M9 : Int, ((mk + 9 : Nat) : Int) = M9 := ⟨_, rfl⟩
            rw [hM9] at hlt' ⊢
            clear hR hlt hn hn1 hIs hI5 HOf hgG hM9
            go_wp2_with fail
            refine HC.out.mono ?_
            rintro e w6 ⟨rfl, hO⟩
            have hO := hO.quiet (World.grownBy_alloc w6 (.cells #[.int .i64 0, .int .u64 0, .int .u64 0, .string ⟨#[]⟩] 39) none)
            have HW := Lib.hid (HWr.out _ hO)
            clear HC hO HCl HWr
            go_wp2_with fail
            refine HW.out.mono ?_
            rintro e w7 ⟨ad7, cap7, rfl, hO⟩
            have hgo := Lib.hid hO.grown
            clear HW hO
            go_wp2_with fail
            refine (works11 _).mono ?_
            rintro e w8 ⟨rfl, hg8⟩
            have hfin := Lib.hid (grown_trans hgo.out hg8)
            clear hgo hg8
            go_wp2
            go_ret
            exact ⟨rfl, hfin.out⟩

theorem walk (a1 a2 a3 x0 x1 x2 x3 : Int) (w : World) (h1 : (Lit.int .u8 a1).wf = true) (h2 : (Lit.int .u64 a2).wf = true) (h3 : (Lit.int .u64 a3).wf = true) (g0 : (Lit.int .u64 x0).wf = true) (g1 : (Lit.int .u64 x1).wf = true) (g2 : (Lit.int .u64 x2).wf = true) (g3 : (Lit.int .u64 x3).wf = true) :
    Calls Try.prog 6 #[.int .u8 a1, .int .u64 a2, .int .u64 a3, .agg #[.int .u64 x0, .int .u64 x1, .int .u64 x2, .int .u64 x3]] w (WorksOk w) := by
  have b1 := bounds_u8 h1
  have b2 := bounds_u64 h2
  have b3 := bounds_u64 h3
  have c0 := bounds_u64 g0
  have c1 := bounds_u64 g1
  have c2 := bounds_u64 g2
  have c3 := bounds_u64 g3
  obtain ⟨a1, rfl⟩ := Int.eq_ofNat_of_zero_le b1.1
  obtain ⟨a2, rfl⟩ := Int.eq_ofNat_of_zero_le b2.1
  obtain ⟨a3, rfl⟩ := Int.eq_ofNat_of_zero_le b3.1
  obtain ⟨x0, rfl⟩ := Int.eq_ofNat_of_zero_le c0.1
  obtain ⟨x1, rfl⟩ := Int.eq_ofNat_of_zero_le c1.1
  obtain ⟨x2, rfl⟩ := Int.eq_ofNat_of_zero_le c2.1
  obtain ⟨x3, rfl⟩ := Int.eq_ofNat_of_zero_le c3.1
  exact walk_at a1 a2 a3 x0 x1 x2 x3 w (by omega) (by omega) (by omega) (by omega) (by omega) (by omega) (by omega)
end Go.Proofs.Ytdpkpphjpihhkaa.classWindow
