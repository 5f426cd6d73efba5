/- AllocRefused, walked. -/
import Derived.Test.YtdblgnccjpjabaaDoorRefMath
namespace Go.Proofs.YtdblgnccjpjabaaDoor.allocRefused
open Go.RowKit Go.Grommet

set_option maxRecDepth 100000 in
set_option maxHeartbeats 4000000 in
theorem walk_at (A : Nat) (n : Int) (w : World) (hA : A ≤ 255) (ht : Lib.TabIs Tryd.prog w "math/bits.deBruijn64tab" .u8 tab) :
    Calls Tryd.prog 7 #[.int .u8 (A : Int), .int .i64 n] w (Go.Ev.WorksIs w) := by
  have HT := Lib.hid ht
  obtain ⟨B, hB⟩ : ∃ B, 2 + A % 9 = B := ⟨_, rfl⟩
  have hB1 : 2 ≤ B := by omega
  have hB2 : B ≤ 10 := by omega
  have eA : IntKind.i64.wrap (A : Int) = (A : Int) := IntWalk.i64_in _ ⟨by omega, by omega⟩
  have e3 : IntKind.i64.wrap (2 + (A : Int) % 9) = (B : Int) := by rw [IntWalk.i64_in _ ⟨by omega, by omega⟩]; omega
  have e3' : 2 + (A : Int) % 9 = (B : Int) := by omega
  clear hB ht
  go_enter Tryd.func7, Tryd.ntmps7
  go_wp2_with fail
  have hO : Grommet.Own w (w.alloc (.cells (geoCs 1 2 B) 23)) [boxP w.heap.size 23 (geoCs 1 2 B)] := (Own.nil w).addBox _ _
  change Calls _ _ #[Value.agg #[.int .i64 1, .int .i64 2, .int .i64 (B : Int)]] (w.alloc (.cells (geoCs 1 2 B) 23)) _
  generalize w.alloc (.cells (geoCs 1 2 B) 23) = u0 at hO ⊢
  obtain ⟨G, hG⟩ : ∃ G, w.heap.size = G := ⟨_, rfl⟩
  rw [hG] at hO ⊢
  clear hG e3 e3' eA
  have hmay : mayB ((1 : Nat) : Int) ((2 : Nat) : Int) (B : Int) = true := by unfold mayB; simp; omega
  have hR := rw_fmt B hB1
  have hsm := fmt_small 1 2 B (520 + 8 * B) hmay
  obtain ⟨xs, hxs⟩ : ∃ xs, fmtL 1 2 B (264 + 208 * 1) (520 + 8 * B) = xs := ⟨_, rfl⟩
  rw [hxs] at hR hsm
  obtain ⟨N, hN⟩ : ∃ N, 520 + 8 * B = N := ⟨_, rfl⟩
  have HX : Hid (xs.length = N) := Lib.hid (by rw [← hN]; exact hR.len)
  have HF := Lib.hid (FormatH 1 2 B N xs w u0 _ hO hmay (by omega) (by rw [← hN]; exact hxs))
  rw [show ((1 : Nat) : Int) = 1 from rfl, show ((2 : Nat) : Int) = 2 from rfl] at HF
  have hNl : N ≤ 600 := by omega
  have hN2 : 520 + 8 * B ≤ N := by omega
  clear hO hxs hN
  refine HF.out.mono ?_
  rintro e u1 ⟨q, rfl, hO⟩
  clear HF
  obtain ⟨hx, hnil, _⟩ := Own.words hO 1 rfl hsm (by omega)
  have HN := Lib.hid (NewH (some ⟨q, 0, none⟩) N N xs w u1 _ hO hx (by omega) hnil)
  clear hO hx hnil
  go_wp2_with fail
  refine HN.out.mono ?_
  rintro e u2 ⟨g, rfl, hO⟩
  clear HN
  have HA := Lib.hid (ANewH 2 g 1 2 B xs [] w u2 _ hO rfl hmay (by rw [HX.out]; omega) (by rw [HX.out]; omega))
  rw [show ((1 : Nat) : Int) = 1 from rfl, show ((2 : Nat) : Int) = 2 from rfl] at HA
  have hbx := hO.box 0 rfl
  have f0 : u2.cell? ⟨G, 0, none⟩ = some (.int .i64 1) := by simp [World.cell?, hbx, geoCs]
  have f1 : u2.cell? ⟨G, 1, none⟩ = some (.int .i64 2) := by simp [World.cell?, hbx, geoCs]
  have f2 : u2.cell? ⟨G, 2, none⟩ = some (.int .i64 (B : Int)) := by simp [World.cell?, hbx, geoCs]
  clear hO hbx
  go_wp2_with fail
  refine HA.out.mono ?_
  rintro e u3 ⟨Y, XI, XB, XA, rfl, hO⟩
  clear HA f0 f1 f2
  have hO : Grommet.Own w u3 [boxP G 23 (geoCs 1 2 B), rowP 31 1 (.slice (some ⟨q, 0, none⟩) N N) N (xs.map wv), viewP g xs [], boxP Y 23 (geoCs 1 2 B), mapP XI g (264 + 208 * 1) 2, mapP XB g (272 + 208 * 1) B, allocP XA g 1 2 B XI XB] := hO
  have hAI : ∀ L, AlcIs [boxP G 23 (geoCs 1 2 B), rowP 31 1 (.slice (some ⟨q, 0, none⟩) N N) N (xs.map wv), viewP g xs L, boxP Y 23 (geoCs 1 2 B), mapP XI g (264 + 208 * 1) 2, mapP XB g (272 + 208 * 1) B, allocP XA g 1 2 B XI XB] 2 4 5 6 g 1 2 B XI XB XA xs L := fun L => ⟨rfl, rfl, rfl, rfl, hmay, by rw [HX.out]; omega, by rw [HX.out]; omega⟩
  have HT1 := Lib.hid (TakeInodeNone 2 4 5 6 g 1 2 B XI XB XA xs [] w u3 _ hO (hAI []) HT.out (clr2 hR))
  clear hO
  go_wp2_with fail
  refine HT1.out.mono ?_
  rintro e u4 ⟨rfl, hO⟩
  clear HT1
  replace hO := Lib.hid hO
  have hC3 := cases3 hR hB1 hB2 n
  replace hAI := Lib.hid hAI
  clear hR hN2 hmay
  rcases hC3 with ⟨c1, hC⟩ | ⟨c1, c2, hC⟩ | ⟨c1, hC⟩
  · subst c1
    have x1 : decide ((0 : Int) < 1) = true := rfl
    have x2 : (1 : Int) < (B : Int) := by omega
    have x3 : decide ((1 : Int) < (B : Int)) = true := by simpa using x2
    have HG := Lib.hid (GiveInodeH 2 4 5 6 g 1 2 B XI XB XA xs [] 1 0 w u4 _ _ hO.out (hAI.out []) hC.e1 rfl)
    rw [hC.l1] at HG
    go_wp2_with fail
    refine HG.out.mono ?_
    rintro e u5 ⟨rfl, hO5⟩
    clear HG hO
    have HG := Lib.hid (GiveBlockH 2 4 5 6 g 1 2 B XI XB XA xs [(472, 1)] 1 3 w u5 _ _ hO5 (hAI.out [(472, 1)]) hC.e2 rfl)
    rw [hC.l2] at HG
    clear hO5
    go_wp2_with fail
    refine HG.out.mono ?_
    rintro e u6 ⟨rfl, hO6⟩
    clear HG
    have HFr := Lib.hid (FreeH 2 4 5 6 g 1 2 B XI XB XA xs [(472, 1)] 1 ((B : Int) - 1) w u6 _ hO6 (hAI.out [(472, 1)]) hC.fx hC.fy)
    clear hO6
    go_wp2_with fail
    refine HFr.out.mono ?_
    rintro e u7 ⟨rfl, hO7⟩
    clear HFr
    have hbx := hO7.box 0 rfl
    have f2 : u7.cell? ⟨G, 2, none⟩ = some (.int .i64 (B : Int)) := by simp [World.cell?, hbx, geoCs]
    have wB : IntKind.i64.wrap ((B : Int) - 1) = (B : Int) - 1 := IntWalk.i64_in _ ⟨by omega, by omega⟩
    have HW := Lib.hid (WritesH 2 g xs [(472, 1)] w u7 _ hO7 rfl)
    clear hO7 hbx
    go_wp2_with fail
    refine HW.out.mono ?_
    rintro e u8 ⟨ad8, cp8, rfl, hO8⟩
    clear HW f2
    have hbx := hO8.box 0 rfl
    have f2 : u8.cell? ⟨G, 2, none⟩ = some (.int .i64 (B : Int)) := by simp [World.cell?, hbx, geoCs]
    clear hbx
    have hg := Lib.hid hO8.grown
    have HWk := Lib.hid (works7_tab u8 (tab_grown HT.out hg.out))
    clear hO8
    go_wp2_with fail
    refine HWk.out.mono ?_
    rintro e v3 ⟨rfl, hg3⟩
    have hfin := Lib.hid (grown_trans hg.out hg3)
    clear hg3
    go_wp2
    go_ret
    exact ⟨rfl, hfin.out⟩
  · have x0 : (n == 1) = false := by simp; omega
    have x0' : (n != 1) = true := by simp; omega
    have x1 : (0 : Int) < n := by omega
    have x1' : decide ((0 : Int) < n) = true := by simpa using x1
    have x2' : decide (n < (B : Int)) = true := by simpa using c2
    have HG := Lib.hid (GiveInodeH 2 4 5 6 g 1 2 B XI XB XA xs [] n 1 w u4 _ _ hO.out (hAI.out []) hC.e1 rfl)
    rw [hC.l1] at HG
    go_wp2_with fail
    refine HG.out.mono ?_
    rintro e u5 ⟨rfl, hO5⟩
    clear HG hO
    have HG := Lib.hid (GiveBlockH 2 4 5 6 g 1 2 B XI XB XA xs [] n 3 w u5 _ _ hO5 (hAI.out []) hC.e2 rfl)
    rw [hC.l2] at HG
    clear hO5
    go_wp2_with fail
    refine HG.out.mono ?_
    rintro e u6 ⟨rfl, hO6⟩
    clear HG
    have HFr := Lib.hid (FreeH 2 4 5 6 g 1 2 B XI XB XA xs [] 0 ((B : Int) - 1) w u6 _ hO6 (hAI.out []) hC.fx hC.fy)
    clear hO6
    go_wp2_with fail
    refine HFr.out.mono ?_
    rintro e u7 ⟨rfl, hO7⟩
    clear HFr
    have hbx := hO7.box 0 rfl
    have f2 : u7.cell? ⟨G, 2, none⟩ = some (.int .i64 (B : Int)) := by simp [World.cell?, hbx, geoCs]
    have wB : IntKind.i64.wrap ((B : Int) - 1) = (B : Int) - 1 := IntWalk.i64_in _ ⟨by omega, by omega⟩
    have HW := Lib.hid (WritesH 2 g xs [] w u7 _ hO7 rfl)
    clear hO7 hbx
    go_wp2_with fail
    refine HW.out.mono ?_
    rintro e u8 ⟨ad8, cp8, rfl, hO8⟩
    clear HW f2
    have hbx := hO8.box 0 rfl
    have f2 : u8.cell? ⟨G, 2, none⟩ = some (.int .i64 (B : Int)) := by simp [World.cell?, hbx, geoCs]
    clear hbx
    have HW := Lib.hid (WritesH 2 g xs [] w u8 _ hO8 rfl)
    clear hO8
    go_wp2_with fail
    refine HW.out.mono ?_
    rintro e u9 ⟨ad9, cp9, rfl, hO9⟩
    clear HW f2
    have HFl := Lib.hid (FlatH 2 g xs [] w u9 _ hO9 rfl)
    rw [HX.out] at HFl
    clear hO9
    go_wp2_with fail
    refine HFl.out.mono ?_
    rintro e v1 ⟨ad1, cp1, rfl, hOv⟩
    clear HFl
    have hw1 := (Own.words hOv 1 rfl hsm (by omega)).1
    have hw2 := (Own.words hOv 9 rfl (show ∀ n ∈ flatV xs [], n < 18446744073709551616 from hsm) (by omega)).1
    have HSm := Lib.hid (Same_any ad1 (some ⟨q, 0, none⟩) N N cp1 N (flatV xs []) xs v1 hw2 hw1)
    rw [show decide (flatV xs [] = xs) = true from by simp [flatV]] at HSm
    have hgv := Lib.hid hOv.grown
    clear hOv hw1 hw2
    go_wp2_with fail
    refine HSm.out.mono ?_
    rintro e v2 ⟨rfl, hg2⟩
    clear HSm
    have hg := Lib.hid (grown_trans hgv.out hg2)
    clear hg2
    have HWk := Lib.hid (works7_tab v2 (tab_grown HT.out hg.out))
    go_wp2_with fail
    refine HWk.out.mono ?_
    rintro e v3 ⟨rfl, hg3⟩
    have hfin := Lib.hid (grown_trans hg.out hg3)
    clear hg3
    go_wp2
    go_ret
    exact ⟨rfl, hfin.out⟩
  · have x0 : (n == 1) = false := by simp; omega
    have x0' : (n != 1) = true := by simp; omega
    by_cases x1 : (0 : Int) < n
    · have c2 : ¬ n < (B : Int) := by omega
      have x1' : decide ((0 : Int) < n) = true := by simpa using x1
      have x2' : decide (n < (B : Int)) = false := by simpa using c2
      have HG := Lib.hid (GiveInodeH 2 4 5 6 g 1 2 B XI XB XA xs [] n 1 w u4 _ _ hO.out (hAI.out []) hC.e1 rfl)
      rw [hC.l1] at HG
      go_wp2_with fail
      refine HG.out.mono ?_
      rintro e u5 ⟨rfl, hO5⟩
      clear HG hO
      have HG := Lib.hid (GiveBlockH 2 4 5 6 g 1 2 B XI XB XA xs [] n 1 w u5 _ _ hO5 (hAI.out []) hC.e2 rfl)
      rw [hC.l2] at HG
      clear hO5
      go_wp2_with fail
      refine HG.out.mono ?_
      rintro e u6 ⟨rfl, hO6⟩
      clear HG
      have HFr := Lib.hid (FreeH 2 4 5 6 g 1 2 B XI XB XA xs [] 0 ((B : Int) - 1) w u6 _ hO6 (hAI.out []) hC.fx hC.fy)
      clear hO6
      go_wp2_with fail
      refine HFr.out.mono ?_
      rintro e u7 ⟨rfl, hO7⟩
      clear HFr
      have hbx := hO7.box 0 rfl
      have f2 : u7.cell? ⟨G, 2, none⟩ = some (.int .i64 (B : Int)) := by simp [World.cell?, hbx, geoCs]
      have wB : IntKind.i64.wrap ((B : Int) - 1) = (B : Int) - 1 := IntWalk.i64_in _ ⟨by omega, by omega⟩
      have HW := Lib.hid (WritesH 2 g xs [] w u7 _ hO7 rfl)
      clear hO7 hbx
      go_wp2_with fail
      refine HW.out.mono ?_
      rintro e u8 ⟨ad8, cp8, rfl, hO8⟩
      clear HW f2
      have hbx := hO8.box 0 rfl
      have f2 : u8.cell? ⟨G, 2, none⟩ = some (.int .i64 (B : Int)) := by simp [World.cell?, hbx, geoCs]
      clear hbx
      have HW := Lib.hid (WritesH 2 g xs [] w u8 _ hO8 rfl)
      clear hO8
      go_wp2_with fail
      refine HW.out.mono ?_
      rintro e u9 ⟨ad9, cp9, rfl, hO9⟩
      clear HW f2
      have HFl := Lib.hid (FlatH 2 g xs [] w u9 _ hO9 rfl)
      rw [HX.out] at HFl
      clear hO9
      go_wp2_with fail
      refine HFl.out.mono ?_
      rintro e v1 ⟨ad1, cp1, rfl, hOv⟩
      clear HFl
      have hw1 := (Own.words hOv 1 rfl hsm (by omega)).1
      have hw2 := (Own.words hOv 9 rfl (show ∀ n ∈ flatV xs [], n < 18446744073709551616 from hsm) (by omega)).1
      have HSm := Lib.hid (Same_any ad1 (some ⟨q, 0, none⟩) N N cp1 N (flatV xs []) xs v1 hw2 hw1)
      rw [show decide (flatV xs [] = xs) = true from by simp [flatV]] at HSm
      have hgv := Lib.hid hOv.grown
      clear hOv hw1 hw2
      go_wp2_with fail
      refine HSm.out.mono ?_
      rintro e v2 ⟨rfl, hg2⟩
      clear HSm
      have hg := Lib.hid (grown_trans hgv.out hg2)
      clear hg2
      have HWk := Lib.hid (works7_tab v2 (tab_grown HT.out hg.out))
      go_wp2_with fail
      refine HWk.out.mono ?_
      rintro e v3 ⟨rfl, hg3⟩
      have hfin := Lib.hid (grown_trans hg.out hg3)
      clear hg3
      go_wp2
      go_ret
      exact ⟨rfl, hfin.out⟩
    · have x1' : decide ((0 : Int) < n) = false := by simpa using x1
      have HG := Lib.hid (GiveInodeH 2 4 5 6 g 1 2 B XI XB XA xs [] n 1 w u4 _ _ hO.out (hAI.out []) hC.e1 rfl)
      rw [hC.l1] at HG
      go_wp2_with fail
      refine HG.out.mono ?_
      rintro e u5 ⟨rfl, hO5⟩
      clear HG hO
      have HG := Lib.hid (GiveBlockH 2 4 5 6 g 1 2 B XI XB XA xs [] n 1 w u5 _ _ hO5 (hAI.out []) hC.e2 rfl)
      rw [hC.l2] at HG
      clear hO5
      go_wp2_with fail
      refine HG.out.mono ?_
      rintro e u6 ⟨rfl, hO6⟩
      clear HG
      have HFr := Lib.hid (FreeH 2 4 5 6 g 1 2 B XI XB XA xs [] 0 ((B : Int) - 1) w u6 _ hO6 (hAI.out []) hC.fx hC.fy)
      clear hO6
      go_wp2_with fail
      refine HFr.out.mono ?_
      rintro e u7 ⟨rfl, hO7⟩
      clear HFr
      have hbx := hO7.box 0 rfl
      have f2 : u7.cell? ⟨G, 2, none⟩ = some (.int .i64 (B : Int)) := by simp [World.cell?, hbx, geoCs]
      have wB : IntKind.i64.wrap ((B : Int) - 1) = (B : Int) - 1 := IntWalk.i64_in _ ⟨by omega, by omega⟩
      have HW := Lib.hid (WritesH 2 g xs [] w u7 _ hO7 rfl)
      clear hO7 hbx
      go_wp2_with fail
      refine HW.out.mono ?_
      rintro e u8 ⟨ad8, cp8, rfl, hO8⟩
      clear HW f2
      have hbx := hO8.box 0 rfl
      have f2 : u8.cell? ⟨G, 2, none⟩ = some (.int .i64 (B : Int)) := by simp [World.cell?, hbx, geoCs]
      clear hbx
      have HW := Lib.hid (WritesH 2 g xs [] w u8 _ hO8 rfl)
      clear hO8
      go_wp2_with fail
      refine HW.out.mono ?_
      rintro e u9 ⟨ad9, cp9, rfl, hO9⟩
      clear HW f2
      have HFl := Lib.hid (FlatH 2 g xs [] w u9 _ hO9 rfl)
      rw [HX.out] at HFl
      clear hO9
      go_wp2_with fail
      refine HFl.out.mono ?_
      rintro e v1 ⟨ad1, cp1, rfl, hOv⟩
      clear HFl
      have hw1 := (Own.words hOv 1 rfl hsm (by omega)).1
      have hw2 := (Own.words hOv 9 rfl (show ∀ n ∈ flatV xs [], n < 18446744073709551616 from hsm) (by omega)).1
      have HSm := Lib.hid (Same_any ad1 (some ⟨q, 0, none⟩) N N cp1 N (flatV xs []) xs v1 hw2 hw1)
      rw [show decide (flatV xs [] = xs) = true from by simp [flatV]] at HSm
      have hgv := Lib.hid hOv.grown
      clear hOv hw1 hw2
      go_wp2_with fail
      refine HSm.out.mono ?_
      rintro e v2 ⟨rfl, hg2⟩
      clear HSm
      have hg := Lib.hid (grown_trans hgv.out hg2)
      clear hg2
      have HWk := Lib.hid (works7_tab v2 (tab_grown HT.out hg.out))
      go_wp2_with fail
      refine HWk.out.mono ?_
      rintro e v3 ⟨rfl, hg3⟩
      have hfin := Lib.hid (grown_trans hg.out hg3)
      clear hg3
      go_wp2
      go_ret
      exact ⟨rfl, hfin.out⟩

theorem walk (a0 a1 : Int) (w : World) (w0 : (Lit.int .u8 a0).wf = true) (_ : (Lit.int .i64 a1).wf = true) (ht : Lib.TabIs Tryd.prog w "math/bits.deBruijn64tab" .u8 tab) :
    Calls Tryd.prog 7 #[.int .u8 a0, .int .i64 a1] w (Go.Ev.WorksIs w) := by
  have b1 := bounds_u8 w0
  obtain ⟨A, rfl⟩ := Int.eq_ofNat_of_zero_le b1.1
  exact walk_at A a1 w (by omega) ht
end Go.Proofs.YtdblgnccjpjabaaDoor.allocRefused
