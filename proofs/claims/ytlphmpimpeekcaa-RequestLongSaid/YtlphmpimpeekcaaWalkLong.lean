/- RequestLong, walked. -/
import Derived.Test.YtlphmpimpeekcaaReqG
import Derived.Test.YtlphmpimpeekcaaWorks
namespace Go.Proofs.Ytlphmpimpeekcaa.requestLong
open Go.RowKit Go.Grommet
def WorksOk (w : World) (e : Ending) (w' : World) : Prop := e = .returned (.bool true) ∧ w.grownBy w' none

theorem may12 (p t : ByteArray) : mayQ (Rq.mk 12 0 0 0 0 p t ⟨#[]⟩) = (decide (p.size ≤ 200) && decide (t.size ≤ 200)) := by
  simp [mayQ, awayL, flds, awayS, Rq.away, Rq.fits, Rq.bare, isKind]
  try (intros; rfl)
theorem may4 (d : ByteArray) : mayQ (Rq.mk 4 0 0 0 0 ⟨#[]⟩ ⟨#[]⟩ d) = decide (d.size ≤ 128) := by
  simp [mayQ, awayL, flds, awayS, Rq.away, Rq.fits, Rq.bare, isKind]
  try (intros; rfl)
theorem may1 (f : Nat) (p : ByteArray) : mayQ (Rq.mk 1 f 0 0 0 p ⟨#[]⟩ ⟨#[]⟩) = (decide (p.size ≤ 200) && decide (f ≤ 7)) := by
  simp [mayQ, awayL, flds, awayS, Rq.away, Rq.fits, Rq.bare, isKind]
  try (intros; rfl)

set_option maxRecDepth 100000 in
set_option maxHeartbeats 8000000 in
theorem walk_n (A B C F : Nat) (hA : A < 65536) (hB : B < 65536) (hC : C < 65536) (hF : F < 256) (w : World) :
    Calls Try.prog 7 #[.int .u16 (A : Int), .int .u16 (B : Int), .int .u16 (C : Int), .int .u8 (F : Int)] w (WorksOk w) := by
  obtain ⟨P, HP⟩ : ∃ x, Hid (x = A % 300) := ⟨_, Lib.hid rfl⟩
  have hP : P < 300 := by rw [HP.out]; omega
  have eP : (A : Int) % 300 = (P : Int) := by rw [HP.out]; omega
  have fP : Int.tmod (A : Int) 300 = (P : Int) := by rw [Int.tmod_eq_emod_of_nonneg (by omega)]; exact eP
  have wP : IntKind.i64.wrap (A : Int) = (A : Int) := IntWalk.i64_in _ ⟨by omega, by omega⟩
  have vP : IntKind.i64.wrap (P : Int) = (P : Int) := IntWalk.i64_in _ ⟨by omega, by omega⟩
  have iP : decide ((P : Int) ≤ 200) = decide (P ≤ 200) := by rw [decide_eq_decide]; omega
  obtain ⟨T, HT⟩ : ∃ x, Hid (x = B % 300) := ⟨_, Lib.hid rfl⟩
  have hT : T < 300 := by rw [HT.out]; omega
  have eT : (B : Int) % 300 = (T : Int) := by rw [HT.out]; omega
  have fT : Int.tmod (B : Int) 300 = (T : Int) := by rw [Int.tmod_eq_emod_of_nonneg (by omega)]; exact eT
  have wT : IntKind.i64.wrap (B : Int) = (B : Int) := IntWalk.i64_in _ ⟨by omega, by omega⟩
  have vT : IntKind.i64.wrap (T : Int) = (T : Int) := IntWalk.i64_in _ ⟨by omega, by omega⟩
  have iT : decide ((T : Int) ≤ 200) = decide (T ≤ 200) := by rw [decide_eq_decide]; omega
  obtain ⟨D, HD⟩ : ∃ x, Hid (x = C % 300) := ⟨_, Lib.hid rfl⟩
  have hD : D < 300 := by rw [HD.out]; omega
  have eD : (C : Int) % 300 = (D : Int) := by rw [HD.out]; omega
  have fD : Int.tmod (C : Int) 300 = (D : Int) := by rw [Int.tmod_eq_emod_of_nonneg (by omega)]; exact eD
  have wD : IntKind.i64.wrap (C : Int) = (C : Int) := IntWalk.i64_in _ ⟨by omega, by omega⟩
  have vD : IntKind.i64.wrap (D : Int) = (D : Int) := IntWalk.i64_in _ ⟨by omega, by omega⟩
  have iD : decide ((D : Int) ≤ 128) = decide (D ≤ 128) := by rw [decide_eq_decide]; omega
  have iF : decide ((F : Int) ≤ 7) = decide (F ≤ 7) := by rw [decide_eq_decide]; omega
  have HTp := Lib.hid (fun wx => text_any P (by omega) wx)
  have HTt := Lib.hid (fun wx => text_any T (by omega) wx)
  have HTd := Lib.hid (fun wx => text_any D (by omega) wx)
  have HF := Lib.hid hF
  have HP := Lib.hid hP
  have HT := Lib.hid hT
  have HD := Lib.hid hD
  have I4 := Lib.hid (And.intro iP (And.intro iT (And.intro iD iF)))
  clear hA hB hC hF hP hT hD iP iT iD iF
  go_enter Try.func7, Try.ntmps7
  go_wp2_with fail
  refine (HTp.out _).mono ?_
  rintro e w1 ⟨sp, hsp, rfl, hg1⟩
  go_wp2_with fail
  refine (HTt.out _).mono ?_
  rintro e w2 ⟨st, hst, rfl, hg2⟩
  have hOa := ((Own.nil w).quiet (grown_trans hg1 hg2)).addBox 24 #[.int .u8 12, .int .u8 0, .int .u64 0, .int .u64 0, .int .u64 0, .string sp, .string st, .string ⟨#[]⟩]
  obtain ⟨X, hX⟩ : ∃ X, w2.heap.size = X := ⟨_, rfl⟩
  rw [hX] at hOa
  clear hg1 hg2 HTt
  go_upto_region 5 with fail
  generalize World.alloc _ _ = w3 at hOa ⊢
  have hOa := Lib.hid hOa
  clear hX
  go_wp2_with fail
  refine (HTd.out _).mono ?_
  rintro e w4 ⟨sd, hsd, rfl, hg3⟩
  have hOb := (hOa.out.quiet hg3).addBox 24 #[.int .u8 4, .int .u8 0, .int .u64 0, .int .u64 0, .int .u64 0, .string ⟨#[]⟩, .string ⟨#[]⟩, .string sd]
  obtain ⟨Y, hY⟩ : ∃ Y, w4.heap.size = Y := ⟨_, rfl⟩
  rw [hY] at hOb
  clear hg3 HTd hOa
  go_upto_region 6 with fail
  generalize World.alloc _ _ = w5 at hOb ⊢
  have hOb := Lib.hid hOb
  clear hY
  go_wp2_with fail
  refine (HTp.out _).mono ?_
  rintro e w6 ⟨sq, hsq, rfl, hg5⟩
  have hOc := (hOb.out.quiet hg5).addBox 24 #[.int .u8 1, .int .u8 (F : Int), .int .u64 0, .int .u64 0, .int .u64 0, .string sq, .string ⟨#[]⟩, .string ⟨#[]⟩]
  obtain ⟨Z, hZ⟩ : ∃ Z, w6.heap.size = Z := ⟨_, rfl⟩
  rw [hZ] at hOc
  clear hg5 HTp hOb
  go_upto_region 7 with fail
  generalize World.alloc _ _ = w7 at hOc ⊢
  have hO1 : Hid (Grommet.Own w w7 [boxP X 24 #[.int .u8 12, .int .u8 0, .int .u64 0, .int .u64 0, .int .u64 0, .string sp, .string st, .string ⟨#[]⟩], boxP Y 24 #[.int .u8 4, .int .u8 0, .int .u64 0, .int .u64 0, .int .u64 0, .string ⟨#[]⟩, .string ⟨#[]⟩, .string sd], boxP Z 24 #[.int .u8 1, .int .u8 (F : Int), .int .u64 0, .int .u64 0, .int .u64 0, .string sq, .string ⟨#[]⟩, .string ⟨#[]⟩]]) := Lib.hid hOc
  clear hZ hOc
  have ea := may12 sp st
  have eb := may4 sd
  have ec := may1 F sq
  rw [hsp, hst] at ea
  rw [hsd] at eb
  rw [hsq] at ec
  have HMa := fun wx => (show Calls Try.prog 13 #[.agg #[.int .u8 12, .int .u8 0, .int .u64 0, .int .u64 0, .int .u64 0, .string sp, .string st, .string ⟨#[]⟩]] wx fun e w' => e = .returned (.bool (mayQ (Rq.mk 12 0 0 0 0 sp st ⟨#[]⟩))) ∧ wx.grownBy w' none from May_any (Rq.mk 12 0 0 0 0 sp st ⟨#[]⟩) ⟨(by decide : (12 : Nat) < 256), (by decide : (0 : Nat) < 256), (by decide : (0 : Nat) < 18446744073709551616), (by decide : (0 : Nat) < 18446744073709551616), (by decide : (0 : Nat) < 18446744073709551616)⟩ wx)
  have HMb := fun wx => (show Calls Try.prog 13 #[.agg #[.int .u8 4, .int .u8 0, .int .u64 0, .int .u64 0, .int .u64 0, .string ⟨#[]⟩, .string ⟨#[]⟩, .string sd]] wx fun e w' => e = .returned (.bool (mayQ (Rq.mk 4 0 0 0 0 ⟨#[]⟩ ⟨#[]⟩ sd))) ∧ wx.grownBy w' none from May_any (Rq.mk 4 0 0 0 0 ⟨#[]⟩ ⟨#[]⟩ sd) ⟨(by decide : (4 : Nat) < 256), (by decide : (0 : Nat) < 256), (by decide : (0 : Nat) < 18446744073709551616), (by decide : (0 : Nat) < 18446744073709551616), (by decide : (0 : Nat) < 18446744073709551616)⟩ wx)
  have HMc := fun wx => (show Calls Try.prog 13 #[.agg #[.int .u8 1, .int .u8 (F : Int), .int .u64 0, .int .u64 0, .int .u64 0, .string sq, .string ⟨#[]⟩, .string ⟨#[]⟩]] wx fun e w' => e = .returned (.bool (mayQ (Rq.mk 1 F 0 0 0 sq ⟨#[]⟩ ⟨#[]⟩))) ∧ wx.grownBy w' none from May_any (Rq.mk 1 F 0 0 0 sq ⟨#[]⟩ ⟨#[]⟩) ⟨(by decide : (1 : Nat) < 256), HF.out, (by decide : (0 : Nat) < 18446744073709551616), (by decide : (0 : Nat) < 18446744073709551616), (by decide : (0 : Nat) < 18446744073709551616)⟩ wx)
  have HPu := fun wx => (show Calls Try.prog 15 #[.agg #[.int .u8 4, .int .u8 0, .int .u64 0, .int .u64 0, .int .u64 0, .string ⟨#[]⟩, .string ⟨#[]⟩, .string sd]] wx (MadeIs wx (putQ (Rq.mk 4 0 0 0 0 ⟨#[]⟩ ⟨#[]⟩ sd))) from Put_any (Rq.mk 4 0 0 0 0 ⟨#[]⟩ ⟨#[]⟩ sd) ⟨(by decide : (4 : Nat) < 256), (by decide : (0 : Nat) < 256), (by decide : (0 : Nat) < 18446744073709551616), (by decide : (0 : Nat) < 18446744073709551616), (by decide : (0 : Nat) < 18446744073709551616)⟩ ⟨(by decide : (0 : Nat) ≤ 100000), (by decide : (0 : Nat) ≤ 100000), by show sd.size ≤ _; have := HD.out; omega⟩ wx)
  obtain ⟨iP, iT, iD, iF⟩ := I4.out
  have hlen : (putQ (Rq.mk 4 0 0 0 0 ⟨#[]⟩ ⟨#[]⟩ sd)).length = 0 ↔ ¬ D ≤ 128 := by
    unfold putQ
    rw [eb]
    by_cases h : D ≤ 128
    · rw [if_pos (by simpa using h)]; simp [putL, h]
    · rw [if_neg (by simpa using h)]; simp [h]
  obtain ⟨L, hL⟩ : ∃ L, (putQ (Rq.mk 4 0 0 0 0 ⟨#[]⟩ ⟨#[]⟩ sd)).length = L := ⟨_, rfl⟩
  have HPu2 : ∀ wx, Calls Try.prog 15 #[.agg #[.int .u8 4, .int .u8 0, .int .u64 0, .int .u64 0, .int .u64 0, .string ⟨#[]⟩, .string ⟨#[]⟩, .string sd]] wx fun e w' => (∃ ad cap, e = .returned (.slice ad L cap)) ∧ wx.grownBy w' none := fun wx => (HPu wx).mono (by
    rintro e w' ⟨ad, cap, rfl, _, _, _, hg⟩
    rw [hL]
    exact ⟨⟨ad, cap, rfl⟩, hg⟩)
  rw [hL] at hlen
  rw [ea] at HMa
  rw [eb] at HMb
  rw [ec] at HMc
  clear HPu hL ea eb ec hsp hst hsd hsq HP HT HD I4
  by_cases hp : P ≤ 200 <;> by_cases ht : T ≤ 200 <;> by_cases hd : D ≤ 128 <;> by_cases hf : F ≤ 7
  all_goals
    simp only [hp, ht, hd, hf, decide_true, decide_false, Bool.and_true, Bool.and_false, iff_true, iff_false, not_true_eq_false, not_false_eq_true] at iP iT iD iF HMa HMb HMc hlen
    have HMa := Lib.hid HMa
    have HMb := Lib.hid HMb
    have HMc := Lib.hid HMc
    have HPu := Lib.hid HPu2
    clear HPu2 hp ht hd hf
    first | (have hLp : 0 < L := by omega) | (obtain rfl : L = 0 := by omega)
    clear hlen
    have c0 := (own_cellB hO1.out 0 rfl 0 (u := .int .u8 12) rfl).1
    have c1 := (own_cellB hO1.out 0 rfl 1 (u := .int .u8 0) rfl).1
    have c2 := (own_cellB hO1.out 0 rfl 2 (u := .int .u64 0) rfl).1
    have c3 := (own_cellB hO1.out 0 rfl 3 (u := .int .u64 0) rfl).1
    have c4 := (own_cellB hO1.out 0 rfl 4 (u := .int .u64 0) rfl).1
    have c5 := (own_cellB hO1.out 0 rfl 5 (u := .string sp) rfl).1
    have c6 := (own_cellB hO1.out 0 rfl 6 (u := .string st) rfl).1
    have c7 := (own_cellB hO1.out 0 rfl 7 (u := .string ⟨#[]⟩) rfl).1
    go_wp2_with fail
    refine (HMa.out _).mono ?_
    rintro e w8 ⟨rfl, hg⟩
    have hO2 := Lib.hid (hO1.out.quiet hg)
    clear hg hO1 c0 c1 c2 c3 c4 c5 c6 c7
    have c0 := (own_cellB hO2.out 1 rfl 0 (u := .int .u8 4) rfl).1
    have c1 := (own_cellB hO2.out 1 rfl 1 (u := .int .u8 0) rfl).1
    have c2 := (own_cellB hO2.out 1 rfl 2 (u := .int .u64 0) rfl).1
    have c3 := (own_cellB hO2.out 1 rfl 3 (u := .int .u64 0) rfl).1
    have c4 := (own_cellB hO2.out 1 rfl 4 (u := .int .u64 0) rfl).1
    have c5 := (own_cellB hO2.out 1 rfl 5 (u := .string ⟨#[]⟩) rfl).1
    have c6 := (own_cellB hO2.out 1 rfl 6 (u := .string ⟨#[]⟩) rfl).1
    have c7 := (own_cellB hO2.out 1 rfl 7 (u := .string sd) rfl).1
    go_wp2_with fail
    refine (HMb.out _).mono ?_
    rintro e w9 ⟨rfl, hg⟩
    have hO3 := Lib.hid (hO2.out.quiet hg)
    clear hg hO2 c0 c1 c2 c3 c4 c5 c6 c7
    have c0 := (own_cellB hO3.out 2 rfl 0 (u := .int .u8 1) rfl).1
    have c1 := (own_cellB hO3.out 2 rfl 1 (u := .int .u8 (F : Int)) rfl).1
    have c2 := (own_cellB hO3.out 2 rfl 2 (u := .int .u64 0) rfl).1
    have c3 := (own_cellB hO3.out 2 rfl 3 (u := .int .u64 0) rfl).1
    have c4 := (own_cellB hO3.out 2 rfl 4 (u := .int .u64 0) rfl).1
    have c5 := (own_cellB hO3.out 2 rfl 5 (u := .string sq) rfl).1
    have c6 := (own_cellB hO3.out 2 rfl 6 (u := .string ⟨#[]⟩) rfl).1
    have c7 := (own_cellB hO3.out 2 rfl 7 (u := .string ⟨#[]⟩) rfl).1
    go_wp2_with fail
    refine (HMc.out _).mono ?_
    rintro e w10 ⟨rfl, hg⟩
    have hO4 := Lib.hid (hO3.out.quiet hg)
    clear hg hO3 c0 c1 c2 c3 c4 c5 c6 c7
    have c0 := (own_cellB hO4.out 1 rfl 0 (u := .int .u8 4) rfl).1
    have c1 := (own_cellB hO4.out 1 rfl 1 (u := .int .u8 0) rfl).1
    have c2 := (own_cellB hO4.out 1 rfl 2 (u := .int .u64 0) rfl).1
    have c3 := (own_cellB hO4.out 1 rfl 3 (u := .int .u64 0) rfl).1
    have c4 := (own_cellB hO4.out 1 rfl 4 (u := .int .u64 0) rfl).1
    have c5 := (own_cellB hO4.out 1 rfl 5 (u := .string ⟨#[]⟩) rfl).1
    have c6 := (own_cellB hO4.out 1 rfl 6 (u := .string ⟨#[]⟩) rfl).1
    have c7 := (own_cellB hO4.out 1 rfl 7 (u := .string sd) rfl).1
    go_wp2_with fail
    refine (HPu.out _).mono ?_
    rintro e w11 ⟨⟨ad, cap, rfl⟩, hg⟩
    have hO8 := Lib.hid (hO4.out.quiet hg)
    clear c0 c1 c2 c3 c4 c5 c6 c7
    clear hg hO4 HPu HMa HMb HMc
    go_wp2_with fail
    refine (works_ev _).mono ?_
    rintro e w9 ⟨rfl, hg⟩
    go_wp2
    go_ret
    exact ⟨rfl, grown_trans hO8.out.grown hg⟩

theorem walk (a0 a1 a2 a3 : Int) (w : World) (h0 : (Lit.int .u16 a0).wf = true) (h1 : (Lit.int .u16 a1).wf = true) (h2 : (Lit.int .u16 a2).wf = true) (h3 : (Lit.int .u8 a3).wf = true) :
    Calls Try.prog 7 #[.int .u16 a0, .int .u16 a1, .int .u16 a2, .int .u8 a3] w (WorksOk w) := by
  have b0 := bounds_u16 h0
  have b1 := bounds_u16 h1
  have b2 := bounds_u16 h2
  have b3 := bounds_u8 h3
  obtain ⟨A, rfl⟩ := Int.eq_ofNat_of_zero_le b0.1
  obtain ⟨B, rfl⟩ := Int.eq_ofNat_of_zero_le b1.1
  obtain ⟨C, rfl⟩ := Int.eq_ofNat_of_zero_le b2.1
  obtain ⟨F, rfl⟩ := Int.eq_ofNat_of_zero_le b3.1
  exact walk_n A B C F (by omega) (by omega) (by omega) (by omega) w
end Go.Proofs.Ytlphmpimpeekcaa.requestLong
