/- SlotBack, walked. -/
import Derived.Test.YtkeghhchbdkaoaaSaveMath2
import Derived.Test.YtkeghhchbdkaoaaSloI
namespace Go.Proofs.Ytkeghhchbdkaoaa.slotBack
open Go.RowKit Go.Grommet

theorem FlatG9 (k g : Nat) (xs : List Nat) (L : List (Nat × Nat)) (w0 w : World) (Ps : List Pr) (h : Own w0 w Ps) (hk : Ps[k]? = some (viewP g xs L)) :
    Calls Try.prog 32 #[.pointer (some ⟨g, 0, none⟩)] w fun e w' => ∃ ad cap, e = .returned (.slice ad xs.length cap) ∧ Own w0 w' (Ps ++ [rowP 36 1 (.slice ad xs.length cap) xs.length ((flatV xs L).map wv)]) := by
  obtain ⟨F, h1⟩ := h.get k hk
  refine (Flat_any g F xs L w h1 w.heap.size (Nat.le_refl _)).mono ?_
  rintro e w' ⟨ad, cap, he, hr, hg⟩
  rw [flatV_length] at he hr
  exact ⟨ad, cap, he, h.addRow hr hg⟩
set_option maxRecDepth 100000 in
theorem res_same (en ra rb : Nat) (d : ByteArray) (wx : World) : (binOp .neq 41 (.agg #[.int .i64 (en : Int), .int .u64 (ra : Int), .int .u64 (rb : Int), .string d]) (.agg #[.int .i64 (en : Int), .int .u64 (ra : Int), .int .u64 (rb : Int), .string d])).run Try.prog wx = .ok (.bool false) wx := by
  go_simp

set_option maxRecDepth 100000 in
set_option maxHeartbeats 2000000 in
theorem walk_far (ix kx : Int) (sq er ra rb : Int) (d : ByteArray) (td : Option Addr) (tl tc : Nat) (w : World) (h : 40 < tl ∨ 1000 < d.size) :
    Calls Try.prog 4 #[.slice td tl tc, .int .u8 ix, .int .u8 kx, .int .u64 sq, .agg #[.int .i64 er, .int .u64 ra, .int .u64 rb, .string d]] w (WorksIs w) := by
  have hg0 := World.grownBy_alloc w (.cells #[.int .i64 er, .int .u64 ra, .int .u64 rb, .string d] 41) none
  have z3 : (w.alloc (.cells #[.int .i64 er, .int .u64 ra, .int .u64 rb, .string d] 41)).cell? ⟨w.heap.size, 3, none⟩ = some (.string d) := cell_new9 _ _ _ _
  obtain ⟨n, hn⟩ : ∃ n, d.size = n := ⟨_, rfl⟩
  rw [hn] at h
  by_cases h1 : 40 < tl
  · have g1 : (40 : Int) < (tl : Int) := by omega
    go_enter Try.func4, Try.ntmps4
    go_wp2_with fail
    refine (works_any _).mono ?_
    rintro e w5 ⟨rfl, hg⟩
    go_wp2
    go_ret
    exact ⟨rfl, grown_trans hg0 hg⟩
  · have g1 : ¬ (40 : Int) < (tl : Int) := by omega
    have g2 : (1000 : Int) < (n : Int) := by omega
    have g3 : (1000 : Int) < (d.size : Int) := by omega
    go_enter Try.func4, Try.ntmps4
    go_wp2_with fail
    refine (works_any _).mono ?_
    rintro e w5 ⟨rfl, hg⟩
    go_wp2
    go_ret
    exact ⟨rfl, grown_trans hg0 hg⟩

set_option maxRecDepth 100000 in
set_option maxHeartbeats 8000000 in
theorem walk_no (ix kx sq ra rb : Nat) (er : Int) (d : ByteArray) (td : Option Addr) (tl tc : Nat) (T : List Tur) (w : World) (hi : ix < 256) (hk : kx < 256) (hT : TursIn w td tl T) (htl : ¬ 40 < tl) (hd : ¬ 1000 < d.size) (hno : (seqB sq && mayR er d.size) = false) :
    Calls Try.prog 4 #[.slice td tl tc, .int .u8 (ix : Int), .int .u8 (kx : Int), .int .u64 (sq : Int), .agg #[.int .i64 er, .int .u64 (ra : Int), .int .u64 (rb : Int), .string d]] w (WorksIs w) := by
  have HNo := Lib.hid (fun g a b A SL wx hat ha hsl hs => SaveNo g a b A SL sq er (ra : Int) (rb : Int) d wx hat ha hsl hs hno)
  have HM := Lib.hid (fun wx => slotMay_any er (ra : Int) (rb : Int) d wx)
  have Hno := Lib.hid hno
  clear hno
  have gt : ¬ (40 : Int) < (tl : Int) := by omega
  have HS := Lib.hid (fun wx => show Calls Try.prog 11 #[.int .u8 0, .int .u8 0] wx fun e w' => e = .returned (.agg #[.int .i64 1, .int .i64 2, .int .i64 2]) ∧ wx.grownBy w' none from Small_any 0 0 (by omega) (by omega) wx)
  obtain ⟨Z, hZe⟩ : ∃ Z, 280 + 208 * 1 + 16 * 2 + 8 * 2 = Z := ⟨_, rfl⟩
  have HZ : Hid (Z = 536) := Lib.hid hZe.symm
  have HIm := Lib.hid (fun wx Ps (h : Own w wx Ps) => ImageH 1 2 2 (by decide) td tl tc T w wx Ps h hT (by omega))
  rw [hZe] at HIm
  rw [show gv ((1 : Nat) : Int) ((2 : Nat) : Int) ((2 : Nat) : Int) = .agg #[.int .i64 1, .int .i64 2, .int .i64 2] from rfl] at HIm
  obtain ⟨a, Ha⟩ : ∃ a, Hid (a = ix % 4) := ⟨_, Lib.hid rfl⟩
  obtain ⟨b, Hb⟩ : ∃ b, Hid (b = kx % 4) := ⟨_, Lib.hid rfl⟩
  have ea : (ix : Int) % 4 = (a : Int) := by rw [Ha.out]; omega
  have eb : (kx : Int) % 4 = (b : Int) := by rw [Hb.out]; omega
  obtain ⟨A, HA⟩ : ∃ A, Hid (A = 8 + 64 * a) := ⟨_, Lib.hid rfl⟩
  obtain ⟨SL, HSL⟩ : ∃ SL, Hid (SL = 16 + 64 * a + 12 * b) := ⟨_, Lib.hid rfl⟩
  have HAZ : Hid (A + 64 ≤ Z) := Lib.hid (by rw [HA.out, Ha.out]; omega)
  have HSLZ : Hid (SL + 12 ≤ Z ∧ SL ≤ 1000) := Lib.hid (by rw [HSL.out, Ha.out, Hb.out]; omega)
  have Hse : Hid (sessionV (a : Int) = (A : Int)) := Lib.hid (by unfold sessionV; rw [if_pos ⟨by omega, by rw [Ha.out]; omega⟩, HA.out]; omega)
  have Hsl : Hid (slotV (a : Int) (b : Int) = (SL : Int)) := Lib.hid (by unfold slotV; rw [if_pos ⟨⟨by omega, by rw [Ha.out]; omega⟩, by omega, by rw [Hb.out]; omega⟩, HSL.out]; omega)
  have hZ : Z ≤ 100000 := by omega
  obtain ⟨D, HD⟩ : ∃ D, Hid (d.size = D) := ⟨_, Lib.hid rfl⟩
  have gd : ¬ (1000 : Int) < (d.size : Int) := by omega
  clear hZe hT
  go_enter Try.func4, Try.ntmps4
  obtain ⟨X, HX⟩ : ∃ X, Hid (X = w.heap.size) := ⟨_, Lib.hid rfl⟩
  have hO : Own w (w.alloc (.cells #[.int .i64 er, .int .u64 (ra : Int), .int .u64 (rb : Int), .string d] 41)) [boxP X 41 #[.int .i64 er, .int .u64 (ra : Int), .int .u64 (rb : Int), .string d]] := by rw [HX.out]; exact (Own.nil w).addBox _ _
  have z3 : (w.alloc (.cells #[.int .i64 er, .int .u64 (ra : Int), .int .u64 (rb : Int), .string d] 41)).cell? ⟨w.heap.size, 3, none⟩ = some (.string d) := cell_new9 _ _ _ _
  go_wp2_with fail
  rw [← HX.out] at *
  refine (HS.out _).mono ?_
  rintro e w1 ⟨rfl, hg1⟩
  replace hO := Lib.hid (hO.quiet hg1)
  clear hg1 z3 HS
  go_wp2_with fail
  refine (HIm.out _ _ hO.out).mono ?_
  rintro e w2 ⟨YS, ad, cp, rfl, hYl, hYs, hO⟩
  have hO : Own w w2 [boxP X 41 #[.int .i64 er, .int .u64 (ra : Int), .int .u64 (rb : Int), .string d], rowP 36 1 (.slice ad Z cp) Z (YS.map wv)] := hO
  obtain ⟨hW, hnil, _⟩ := Own.words hO 1 rfl hYs (by omega)
  obtain ⟨q, rfl⟩ : ∃ q, ad = some ⟨q, 0, none⟩ := by
    obtain ⟨q, he, _⟩ := Own.cell hO 1 rfl 0 (wv (YS.getD 0 0)) (by rw [List.getElem?_map, List.getElem?_eq_getElem (by rw [hYl, HZ.out]; omega), List.getD_eq_getElem?_getD, List.getElem?_eq_getElem (by rw [hYl, HZ.out]; omega)]; rfl)
    exact ⟨q, he⟩
  have HNew := Lib.hid (NewH (some ⟨q, 0, none⟩) Z cp YS w _ _ hO hW (by omega) hnil)
  have HYl := Lib.hid hYl
  clear hO hW hnil hYl hYs HIm
  go_wp2_with fail
  refine HNew.out.mono ?_
  rintro e w4 ⟨g, rfl, hO⟩
  have hO : Own w w4 [boxP X 41 #[.int .i64 er, .int .u64 (ra : Int), .int .u64 (rb : Int), .string d], rowP 36 1 (.slice (some ⟨q, 0, none⟩) Z cp) Z (YS.map wv), viewP g YS []] := hO
  have HAX : Hid (0 ≤ (A : Int) ∧ (A : Int) + 64 ≤ (YS.length : Int)) := Lib.hid ⟨by omega, by rw [HYl.out]; have := HAZ.out; omega⟩
  obtain ⟨x0, x1, x2, x3⟩ := ResS.cells (show ResS X er (ra : Int) (rb : Int) d w4 from Own.box hO 0 rfl)
  replace hO := Lib.hid hO
  clear HNew
  have HSv := Lib.hid (HNo.out g (a : Int) (b : Int) (A : Int) (SL : Int) w4 Hse.out (by omega) Hsl.out (by omega))
  clear HNo
  go_wp2_with fail
  refine HSv.out.mono ?_
  rintro e w5 ⟨rfl, hg⟩
  replace hO := Lib.hid (hO.out.quiet hg)
  clear HSv hg x0 x1 x2 x3
  have hno := Hno.out
  unfold seqB at hno
  by_cases h1 : 1 ≤ sq
  · have h1' : (1 : Int) ≤ (sq : Int) := by omega
    by_cases h2 : sq ≤ 1099511627776
    · have h2' : (sq : Int) ≤ 1099511627776 := by omega
      have hm : mayR er d.size = false := by simpa [h1, h2] using hno
      rw [hm] at HM
      clear hno h1 h2 hm
      obtain ⟨x0, x1, x2, x3⟩ := ResS.cells (show ResS X er (ra : Int) (rb : Int) d w5 from Own.box hO.out 0 rfl)
      go_wp2_with fail
      refine (HM.out _).mono ?_
      rintro e w6 ⟨rfl, hg⟩
      have hO6 := hO.out.quiet hg
      have HWr := Lib.hid (WritesH 2 g YS [] w _ _ hO6 rfl)
      clear x0 x1 x2 x3 hg hO hO6
      go_wp2_with fail
      refine HWr.out.mono ?_
      rintro e w9 ⟨ad6, cp6, rfl, hO⟩
      have hgw := Lib.hid hO.grown
      clear hO HWr
      go_wp2_with fail
      refine (works_any _).mono ?_
      rintro e w15 ⟨rfl, hg⟩
      go_wp2
      go_ret
      exact ⟨rfl, grown_trans hgw.out hg⟩
    · have h2' : ¬ (sq : Int) ≤ 1099511627776 := by omega
      have HWr := Lib.hid (WritesH 2 g YS [] w _ _ hO.out rfl)
      clear hno h1 h2 hO
      go_wp2_with fail
      refine HWr.out.mono ?_
      rintro e w9 ⟨ad6, cp6, rfl, hO⟩
      have hgw := Lib.hid hO.grown
      clear hO HWr
      go_wp2_with fail
      refine (works_any _).mono ?_
      rintro e w15 ⟨rfl, hg⟩
      go_wp2
      go_ret
      exact ⟨rfl, grown_trans hgw.out hg⟩
  · have h1' : ¬ (1 : Int) ≤ (sq : Int) := by omega
    have HWr := Lib.hid (WritesH 2 g YS [] w _ _ hO.out rfl)
    clear hno h1 hO
    go_wp2_with fail
    refine HWr.out.mono ?_
    rintro e w9 ⟨ad6, cp6, rfl, hO⟩
    have hgw := Lib.hid hO.grown
    clear hO HWr
    go_wp2_with fail
    refine (works_any _).mono ?_
    rintro e w15 ⟨rfl, hg⟩
    go_wp2
    go_ret
    exact ⟨rfl, grown_trans hgw.out hg⟩

set_option maxRecDepth 100000 in
set_option maxHeartbeats 16000000 in
theorem walk_yes (ix kx sq en ra rb : Nat) (d : ByteArray) (td : Option Addr) (tl tc : Nat) (T : List Tur) (w : World) (hi : ix < 256) (hk : kx < 256) (hra : ra < 18446744073709551616) (hrb : rb < 18446744073709551616) (hT : TursIn w td tl T) (htl : ¬ 40 < tl) (hd64 : d.size ≤ 64) (hsq : 1 ≤ sq ∧ sq ≤ 1099511627776) (hen : en ≤ 24) :
    Calls Try.prog 4 #[.slice td tl tc, .int .u8 (ix : Int), .int .u8 (kx : Int), .int .u64 (sq : Int), .agg #[.int .i64 (en : Int), .int .u64 (ra : Int), .int .u64 (rb : Int), .string d]] w (WorksIs w) := by
  have hd : ¬ 1000 < d.size := by omega
  have HM := Lib.hid (fun wx => slotMay_any (en : Int) (ra : Int) (rb : Int) d wx)
  have hm : mayR (en : Int) d.size = true := by
    unfold mayR
    rw [decide_eq_true (by omega : (0 : Int) ≤ (en : Int)), decide_eq_true (by omega : (en : Int) ≤ 24), decide_eq_true hd64]; rfl
  rw [hm] at HM
  have HSY := Lib.hid (fun g xs L a b A SL wx Ps hO hk hat ha hsl hs => SaveYes 2 g xs L a b A SL sq en ra rb d w wx Ps hO hk hat ha hsl hs hsq hen hd64 hra hrb)
  have q1 : (1 : Int) ≤ (sq : Int) := by omega
  have q2 : (sq : Int) ≤ 1099511627776 := by omega
  have Hd64 := Lib.hid hd64
  have Hsq := Lib.hid hsq
  have Hen := Lib.hid hen
  clear hm hd64 hra hrb hsq hen
  have gt : ¬ (40 : Int) < (tl : Int) := by omega
  have HS := Lib.hid (fun wx => show Calls Try.prog 11 #[.int .u8 0, .int .u8 0] wx fun e w' => e = .returned (.agg #[.int .i64 1, .int .i64 2, .int .i64 2]) ∧ wx.grownBy w' none from Small_any 0 0 (by omega) (by omega) wx)
  obtain ⟨Z, hZe⟩ : ∃ Z, 280 + 208 * 1 + 16 * 2 + 8 * 2 = Z := ⟨_, rfl⟩
  have HZ : Hid (Z = 536) := Lib.hid hZe.symm
  have HIm := Lib.hid (fun wx Ps (h : Own w wx Ps) => ImageH 1 2 2 (by decide) td tl tc T w wx Ps h hT (by omega))
  rw [hZe] at HIm
  rw [show gv ((1 : Nat) : Int) ((2 : Nat) : Int) ((2 : Nat) : Int) = .agg #[.int .i64 1, .int .i64 2, .int .i64 2] from rfl] at HIm
  obtain ⟨a, Ha⟩ : ∃ a, Hid (a = ix % 4) := ⟨_, Lib.hid rfl⟩
  obtain ⟨b, Hb⟩ : ∃ b, Hid (b = kx % 4) := ⟨_, Lib.hid rfl⟩
  have ea : (ix : Int) % 4 = (a : Int) := by rw [Ha.out]; omega
  have eb : (kx : Int) % 4 = (b : Int) := by rw [Hb.out]; omega
  obtain ⟨A, HA⟩ : ∃ A, Hid (A = 8 + 64 * a) := ⟨_, Lib.hid rfl⟩
  obtain ⟨SL, HSL⟩ : ∃ SL, Hid (SL = 16 + 64 * a + 12 * b) := ⟨_, Lib.hid rfl⟩
  have HAZ : Hid (A + 64 ≤ Z) := Lib.hid (by rw [HA.out, Ha.out]; omega)
  have HSLZ : Hid (SL + 12 ≤ Z ∧ SL ≤ 1000) := Lib.hid (by rw [HSL.out, Ha.out, Hb.out]; omega)
  have Hse : Hid (sessionV (a : Int) = (A : Int)) := Lib.hid (by unfold sessionV; rw [if_pos ⟨by omega, by rw [Ha.out]; omega⟩, HA.out]; omega)
  have Hsl : Hid (slotV (a : Int) (b : Int) = (SL : Int)) := Lib.hid (by unfold slotV; rw [if_pos ⟨⟨by omega, by rw [Ha.out]; omega⟩, by omega, by rw [Hb.out]; omega⟩, HSL.out]; omega)
  have hZ : Z ≤ 100000 := by omega
  obtain ⟨D, HD⟩ : ∃ D, Hid (d.size = D) := ⟨_, Lib.hid rfl⟩
  have gd : ¬ (1000 : Int) < (d.size : Int) := by omega
  clear hZe hT
  go_enter Try.func4, Try.ntmps4
  obtain ⟨X, HX⟩ : ∃ X, Hid (X = w.heap.size) := ⟨_, Lib.hid rfl⟩
  have hO : Own w (w.alloc (.cells #[.int .i64 (en : Int), .int .u64 (ra : Int), .int .u64 (rb : Int), .string d] 41)) [boxP X 41 #[.int .i64 (en : Int), .int .u64 (ra : Int), .int .u64 (rb : Int), .string d]] := by rw [HX.out]; exact (Own.nil w).addBox _ _
  have z3 : (w.alloc (.cells #[.int .i64 (en : Int), .int .u64 (ra : Int), .int .u64 (rb : Int), .string d] 41)).cell? ⟨w.heap.size, 3, none⟩ = some (.string d) := cell_new9 _ _ _ _
  go_wp2_with fail
  rw [← HX.out] at *
  refine (HS.out _).mono ?_
  rintro e w1 ⟨rfl, hg1⟩
  replace hO := Lib.hid (hO.quiet hg1)
  clear hg1 z3 HS
  go_wp2_with fail
  refine (HIm.out _ _ hO.out).mono ?_
  rintro e w2 ⟨YS, ad, cp, rfl, hYl, hYs, hO⟩
  have hO : Own w w2 [boxP X 41 #[.int .i64 (en : Int), .int .u64 (ra : Int), .int .u64 (rb : Int), .string d], rowP 36 1 (.slice ad Z cp) Z (YS.map wv)] := hO
  obtain ⟨hW, hnil, _⟩ := Own.words hO 1 rfl hYs (by omega)
  obtain ⟨q, rfl⟩ : ∃ q, ad = some ⟨q, 0, none⟩ := by
    obtain ⟨q, he, _⟩ := Own.cell hO 1 rfl 0 (wv (YS.getD 0 0)) (by rw [List.getElem?_map, List.getElem?_eq_getElem (by rw [hYl, HZ.out]; omega), List.getD_eq_getElem?_getD, List.getElem?_eq_getElem (by rw [hYl, HZ.out]; omega)]; rfl)
    exact ⟨q, he⟩
  have HNew := Lib.hid (NewH (some ⟨q, 0, none⟩) Z cp YS w _ _ hO hW (by omega) hnil)
  have HYl := Lib.hid hYl
  clear hO hW hnil hYl hYs HIm
  go_wp2_with fail
  refine HNew.out.mono ?_
  rintro e w4 ⟨g, rfl, hO⟩
  have hO : Own w w4 [boxP X 41 #[.int .i64 (en : Int), .int .u64 (ra : Int), .int .u64 (rb : Int), .string d], rowP 36 1 (.slice (some ⟨q, 0, none⟩) Z cp) Z (YS.map wv), viewP g YS []] := hO
  have HAX : Hid (0 ≤ (A : Int) ∧ (A : Int) + 64 ≤ (YS.length : Int)) := Lib.hid ⟨by omega, by rw [HYl.out]; have := HAZ.out; omega⟩
  obtain ⟨x0, x1, x2, x3⟩ := ResS.cells (show ResS X (en : Int) (ra : Int) (rb : Int) d w4 from Own.box hO 0 rfl)
  replace hO := Lib.hid hO
  clear HNew
  obtain ⟨J, HJ⟩ : ∃ J, Hid ((d.size + 7) / 8 = J) := ⟨_, Lib.hid rfl⟩
  obtain ⟨S, HSS⟩ : ∃ S, Hid (S = saveS (SL : Int) (en + 256 * d.size) ra rb (words (bytesOf d) J) sq) := ⟨_, Lib.hid rfl⟩
  obtain ⟨m1, m2, m3, m4, m5, m6, m7, m8, m9, m10⟩ := save_all (xs := YS) (sl := (SL : Int)) (by omega) (by rw [HYl.out]; have := HSLZ.out; omega) d (en + 256 * d.size) ra rb sq J Hd64.out HJ.out S HSS.out
  have HS1 := Lib.hid (HSY.out g YS [] (a : Int) (b : Int) (A : Int) (SL : Int) w4 _ hO.out rfl Hse.out HAX.out Hsl.out ⟨by omega, by have := HSLZ.out; omega⟩)
  have HS2 := Lib.hid (fun wx hO => HSY.out g YS (allL YS [] S) (a : Int) (b : Int) (A : Int) (SL : Int) wx [boxP X 41 #[.int .i64 (en : Int), .int .u64 (ra : Int), .int .u64 (rb : Int), .string d], rowP 36 1 (.slice (some ⟨q, 0, none⟩) Z cp) Z (YS.map wv), viewP g YS (allL YS [] S)] hO rfl Hse.out HAX.out Hsl.out ⟨by omega, by have := HSLZ.out; omega⟩)
  rw [HJ.out, ← HSS.out] at HS1 HS2
  rw [m1] at HS1
  rw [m9, m10] at HS2
  obtain ⟨LL, HLe⟩ : ∃ LL, Hid (allL YS [] S = LL) := ⟨_, Lib.hid rfl⟩
  rw [HLe.out] at HS1 HS2 m2 m3 m4 m5 m6 m7 m8
  have HLL := Lib.hid m2
  have HGot := Lib.hid m3
  have HLd := Lib.hid (fun wx hO => LoadYes 2 g YS LL (a : Int) (b : Int) (A : Int) (SL : Int) sq (en + 256 * d.size) en d.size ra rb d w wx [boxP X 41 #[.int .i64 (en : Int), .int .u64 (ra : Int), .int .u64 (rb : Int), .string d], rowP 36 1 (.slice (some ⟨q, 0, none⟩) Z cp) Z (YS.map wv), viewP g YS LL] hO rfl Hse.out HAX.out Hsl.out ⟨by omega, by have := HSLZ.out; omega⟩ m4 Hsq.out.1 m5 rfl Hen.out Hd64.out m6 m7 m8)
  obtain ⟨Q, HQ⟩ : ∃ Q, Hid (Q = LL.length) := ⟨_, Lib.hid rfl⟩
  have hQ : ¬ 4 + (J : Int) < (Q : Int) := by have := HLL.out; rw [HQ.out]; omega
  have eQ : ((Q : Int) != (Q : Int)) = false := by simp
  have esq : ((sq : Int) != (sq : Int)) = false := by simp
  have eZ : ((Z : Int) == (Z : Int)) = true := by simp
  have eJ : ((d.size : Int) + 7) / 8 = (J : Int) := by have := HJ.out; omega
  have w7' : IntKind.i64.wrap ((d.size : Int) + 7) = (d.size : Int) + 7 := IntWalk.i64_in _ ⟨by have := Hd64.out; omega, by have := Hd64.out; omega⟩
  have wJ : IntKind.i64.wrap (J : Int) = (J : Int) := IntWalk.i64_in _ ⟨by omega, by have := HJ.out; have := Hd64.out; omega⟩
  have w4' : IntKind.i64.wrap (4 + (J : Int)) = 4 + (J : Int) := IntWalk.i64_in _ ⟨by omega, by have := HJ.out; have := Hd64.out; omega⟩
  have HRS := Lib.hid (fun wx => RSlotAt_any (a : Int) (b : Int) wx)
  rw [Hsl.out] at HRS
  have heq : ∀ wx : World, (binOp .neq 41 (.agg #[.int .i64 (en : Int), .int .u64 (ra : Int), .int .u64 (rb : Int), .string d]) (.agg #[.int .i64 (en : Int), .int .u64 (ra : Int), .int .u64 (rb : Int), .string d])).run Try.prog wx = .ok (.bool false) wx := fun wx => res_same en ra rb d wx
  clear m1 m2 m3 m4 m5 m6 m7 m8 m9 m10 HSY hO
  go_wp2_with fail
  refine HS1.out.mono ?_
  rintro e w5 ⟨rfl, hO⟩
  have hO : Own w w5 [boxP X 41 #[.int .i64 (en : Int), .int .u64 (ra : Int), .int .u64 (rb : Int), .string d], rowP 36 1 (.slice (some ⟨q, 0, none⟩) Z cp) Z (YS.map wv), viewP g YS LL] := hO
  clear x0 x1 x2 x3 HS1
  obtain ⟨x0, x1, x2, x3⟩ := ResS.cells (show ResS X (en : Int) (ra : Int) (rb : Int) d w5 from Own.box hO 0 rfl)
  replace hO := Lib.hid hO
  go_wp2_with fail
  refine (HM.out _).mono ?_
  rintro e w6 ⟨rfl, hg⟩
  replace hO := Lib.hid (hO.out.quiet hg)
  clear x0 x1 x2 x3 hg
  go_wp2_with fail
  refine (HLd.out _ hO.out).mono ?_
  rintro e w7 ⟨rfl, hO7⟩
  obtain ⟨Y, HY⟩ : ∃ Y, Hid (Y = w7.heap.size) := ⟨_, Lib.hid rfl⟩
  have hO8 := Own.addBox hO7 41 #[.int .i64 (en : Int), .int .u64 (ra : Int), .int .u64 (rb : Int), .string d]
  rw [← HY.out] at hO8
  have hO8 : Own w (w7.alloc (.cells #[.int .i64 (en : Int), .int .u64 (ra : Int), .int .u64 (rb : Int), .string d] 41)) [boxP X 41 #[.int .i64 (en : Int), .int .u64 (ra : Int), .int .u64 (rb : Int), .string d], rowP 36 1 (.slice (some ⟨q, 0, none⟩) Z cp) Z (YS.map wv), viewP g YS LL, boxP Y 41 #[.int .i64 (en : Int), .int .u64 (ra : Int), .int .u64 (rb : Int), .string d]] := hO8
  have HWr := Lib.hid (WritesH 2 g YS LL w _ _ hO8 rfl)
  rw [← HQ.out] at HWr
  clear hO hO7 hO8 HLd
  go_wp2_with fail
  rw [← HY.out]
  refine HWr.out.mono ?_
  rintro e w9 ⟨ad6, cp6, rfl, hO⟩
  have hO : Own w w9 ([boxP X 41 #[.int .i64 (en : Int), .int .u64 (ra : Int), .int .u64 (rb : Int), .string d], rowP 36 1 (.slice (some ⟨q, 0, none⟩) Z cp) Z (YS.map wv), viewP g YS LL] ++ [boxP Y 41 #[.int .i64 (en : Int), .int .u64 (ra : Int), .int .u64 (rb : Int), .string d]]) := hO.less
  obtain ⟨x0, x1, x2, x3⟩ := ResS.cells (show ResS X (en : Int) (ra : Int) (rb : Int) d w9 from Own.box hO 0 rfl)
  obtain ⟨y0, y1, y2, y3⟩ := ResS.cells (show ResS Y (en : Int) (ra : Int) (rb : Int) d w9 from Own.box hO 3 rfl)
  have hO3 : Own w w9 [boxP X 41 #[.int .i64 (en : Int), .int .u64 (ra : Int), .int .u64 (rb : Int), .string d], rowP 36 1 (.slice (some ⟨q, 0, none⟩) Z cp) Z (YS.map wv), viewP g YS LL] := hO.less
  have HSv := Lib.hid (HS2.out w9 hO3)
  clear hO hO3 HWr HS2
  go_wp2_with fail
  refine HSv.out.mono ?_
  rintro e w10 ⟨rfl, hO⟩
  have hO : Own w w10 [boxP X 41 #[.int .i64 (en : Int), .int .u64 (ra : Int), .int .u64 (rb : Int), .string d], rowP 36 1 (.slice (some ⟨q, 0, none⟩) Z cp) Z (YS.map wv), viewP g YS LL] := hO
  have HWr := Lib.hid (WritesH 2 g YS LL w _ _ hO rfl)
  rw [← HQ.out] at HWr
  clear x0 x1 x2 x3 y0 y1 y2 y3 hO HSv
  go_wp2_with fail
  refine HWr.out.mono ?_
  rintro e w11 ⟨ad5, cp5, rfl, hO⟩
  have hO : Own w w11 [boxP X 41 #[.int .i64 (en : Int), .int .u64 (ra : Int), .int .u64 (rb : Int), .string d], rowP 36 1 (.slice (some ⟨q, 0, none⟩) Z cp) Z (YS.map wv), viewP g YS LL] := hO.less
  obtain ⟨x0, x1, x2, x3⟩ := ResS.cells (show ResS X (en : Int) (ra : Int) (rb : Int) d w11 from Own.box hO 0 rfl)
  replace hO := Lib.hid hO
  clear HWr
  go_wp2_with fail
  refine (HRS.out _).mono ?_
  rintro e w12 ⟨rfl, hg⟩
  have hO := hO.out.quiet hg
  have HFg := Lib.hid (FlatG9 2 g YS LL w _ _ hO rfl)
  rw [HYl.out] at HFg
  clear hO hg x0 x1 x2 x3 HRS
  go_wp2_with fail
  refine HFg.out.mono ?_
  rintro e w13 ⟨ad7, cp7, rfl, hO⟩
  have hO : Own w w13 [boxP X 41 #[.int .i64 (en : Int), .int .u64 (ra : Int), .int .u64 (rb : Int), .string d], rowP 36 1 (.slice (some ⟨q, 0, none⟩) Z cp) Z (YS.map wv), viewP g YS LL, rowP 36 1 (.slice ad7 Z cp7) Z ((flatV YS LL).map wv)] := hO
  have HWl : Hid (Wl YS.length LL) := Lib.hid (Own.wl hO 2 rfl).1
  have HFlen : Hid ((flatV YS LL).length = Z) := Lib.hid (by rw [flatV_length]; exact HYl.out)
  have HGet : Hid (∀ j, j < Z → (j < SL ∨ SL + 12 ≤ j) → (flatV YS LL).getD j 0 = YS.getD j 0) := Lib.hid (fun j hj ho => by
    rw [Go.Grommet.flat_get HWl.out j (by rw [HYl.out]; exact hj)]; exact HGot.out j (by omega))
  replace hO := Lib.hid hO
  clear HFg
  have wA : IntKind.i64.wrap ((SL : Int) + 12) = (SL : Int) + 12 := IntWalk.i64_in _ ⟨by omega, by have := HSLZ.out; omega⟩
  go_wp2_with fail
  go_loopw [22] (fun i wr => ∃ j : Nat, j ≤ Z ∧ i = .int .i64 (j : Int) ∧ Hid (Own w wr [boxP X 41 #[.int .i64 (en : Int), .int .u64 (ra : Int), .int .u64 (rb : Int), .string d], rowP 36 1 (.slice (some ⟨q, 0, none⟩) Z cp) Z (YS.map wv), viewP g YS LL, rowP 36 1 (.slice ad7 Z cp7) Z ((flatV YS LL).map wv)])) (fun i _ => Z - (intOf i).toNat)
  case atStart => exact ⟨0, Nat.zero_le _, rfl, hO⟩
  case round =>
    clear hO
    obtain ⟨j, hj, rfl, hO⟩ := hrel
    have j0 : (0 : Int) ≤ (j : Int) := by omega
    by_cases hlt : j < Z
    · have hlt' : (j : Int) < (Z : Int) := by omega
      obtain ⟨q1', rfl, c1, _, _⟩ := Own.word hO.out 3 rfl HFlen.out j hlt
      obtain ⟨q2', he2, c2, _, _⟩ := Own.word hO.out 1 rfl HYl.out j hlt
      cases he2
      by_cases ho : j < SL ∨ SL + 12 ≤ j
      · rw [HGet.out j hlt ho] at c1
        generalize YS.getD j 0 = U at c1 c2
        have eU : ((U : Int) != (U : Int)) = false := by simp
        by_cases hA1 : j < SL
        · have dA' : (j : Int) < (SL : Int) := by omega
          clear ho
          go_wp2_with fail
          go_quiet (fail)
          go_wp2
          go_roundw
          case rel => exact ⟨j + 1, by omega, by go_num, Lib.hid (hO.out.quiet (grown_drewN _ _ _))⟩
          case measure => simp [intOf]; omega
        · have dA' : ¬ (j : Int) < (SL : Int) := by omega
          have dB' : (SL : Int) + 12 ≤ (j : Int) := by omega
          have n2 : SL + 12 ≤ j := by omega
          clear ho
          go_wp2_with fail
          go_quiet (fail)
          go_wp2
          go_roundw
          case rel => exact ⟨j + 1, by omega, by go_num, Lib.hid (hO.out.quiet (grown_drewN _ _ _))⟩
          case measure => simp [intOf]; omega
      · generalize YS.getD j 0 = U at c2
        generalize (flatV YS LL).getD j 0 = U2 at c1
        have dA' : ¬ (j : Int) < (SL : Int) := by omega
        have dB' : ¬ (SL : Int) + 12 ≤ (j : Int) := by omega
        have n1 : ¬ j < SL := by omega
        have n2 : ¬ SL + 12 ≤ j := by omega
        have dA : decide ((j : Int) < (SL : Int)) = false := by simp; omega
        have dB : decide ((SL : Int) + 12 ≤ (j : Int)) = false := by simp; omega
        clear ho
        go_wp2_with fail
        go_quiet (fail)
        go_wp2
        go_roundw
        case rel => exact ⟨j + 1, by omega, by go_num, Lib.hid (hO.out.quiet (grown_drewN _ _ _))⟩
        case measure => simp [intOf]; omega
    · have hlt' : ¬ (j : Int) < (Z : Int) := by omega
      have hgw := Lib.hid hO.out.grown
      clear hO
      go_wp2_with fail
      refine (works_any _).mono ?_
      rintro e w15 ⟨rfl, hg⟩
      go_wp2
      go_ret
      exact ⟨rfl, grown_trans hgw.out hg⟩

theorem walk (td : Option Addr) (tl tc : Nat) (T : List Tur) (a1 a2 a3 er ra rb : Int) (d : ByteArray) (w : World) (hT : TursIn w td tl T) (h1 : (Lit.int .u8 a1).wf = true) (h2 : (Lit.int .u8 a2).wf = true) (h3 : (Lit.int .u64 a3).wf = true) (h4 : (Lit.int .i64 er).wf = true) (h5 : (Lit.int .u64 ra).wf = true) (h6 : (Lit.int .u64 rb).wf = true) (_ : d.size ≤ 9223372036854775807) :
    Calls Try.prog 4 #[.slice td tl tc, .int .u8 a1, .int .u8 a2, .int .u64 a3, .agg #[.int .i64 er, .int .u64 ra, .int .u64 rb, .string d]] w (WorksIs w) := by
  have b1 := bounds_u8 h1
  have b2 := bounds_u8 h2
  have b3 := bounds_u64 h3
  have b5 := bounds_u64 h5
  have b6 := bounds_u64 h6
  obtain ⟨ix, rfl⟩ := Int.eq_ofNat_of_zero_le b1.1
  obtain ⟨kx, rfl⟩ := Int.eq_ofNat_of_zero_le b2.1
  obtain ⟨sq, rfl⟩ := Int.eq_ofNat_of_zero_le b3.1
  obtain ⟨ra, rfl⟩ := Int.eq_ofNat_of_zero_le b5.1
  obtain ⟨rb, rfl⟩ := Int.eq_ofNat_of_zero_le b6.1
  by_cases hfar : 40 < tl ∨ 1000 < d.size
  · exact walk_far _ _ _ _ _ _ d td tl tc w hfar
  · have htl : ¬ 40 < tl := fun h => hfar (.inl h)
    have hd : ¬ 1000 < d.size := fun h => hfar (.inr h)
    cases hno : (seqB sq && mayR er d.size) with
    | false => exact walk_no ix kx sq ra rb er d td tl tc T w (by omega) (by omega) hT htl hd hno
    | true =>
      unfold seqB mayR at hno
      simp only [Bool.and_eq_true, decide_eq_true_eq] at hno
      obtain ⟨⟨n1, n2⟩, ⟨n3, n4⟩, n5⟩ := hno
      obtain ⟨en, rfl⟩ := Int.eq_ofNat_of_zero_le n3
      exact walk_yes ix kx sq en ra rb d td tl tc T w (by omega) (by omega) (by omega) (by omega) hT htl n5 ⟨n1, n2⟩ (by omega)
end Go.Proofs.Ytkeghhchbdkaoaa.slotBack
