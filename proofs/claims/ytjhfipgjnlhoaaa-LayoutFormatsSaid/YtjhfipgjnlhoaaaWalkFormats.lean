/- LayoutFormats, walked. -/
import Derived.Test.YtjhfipgjnlhoaaaFmtKit
import Derived.Test.YtjhfipgjnlhoaaaSame
import Derived.Test.YtjhfipgjnlhoaaaLayE
import Derived.Deep.DeepCutAuto
import Derived.Deep.CutBlock
namespace Go.Proofs.Ytjhfipgjnlhoaaa.layoutFormats
open Go.RowKit Go.Grommet

set_option maxRecDepth 100000 in
set_option maxHeartbeats 1000000 in
theorem walk_far (a b c : Int) (a1 : Option Addr) (l1 c1 : Nat) (a2 a3 : Int) (w : World) (h : 1000 < l1) :
    Calls Try.prog 3 #[gv a b c, .slice a1 l1 c1, .int .u16 a2, .int .u16 a3] w (WorksIs w) := by
  have g1 : (1000 : Int) < (l1 : Int) := by omega
  unfold gv
  go_enter Try.func3, Try.ntmps3
  go_wp2_with fail
  refine (works_any _).mono ?_
  rintro e w5 ⟨rfl, hg⟩
  go_wp2
  go_ret
  exact ⟨rfl, grown_trans (World.grownBy_alloc w _ none) hg⟩

set_option maxRecDepth 100000 in
set_option maxHeartbeats 1000000 in
theorem walk_at (a b c : Int) (a1 : Option Addr) (l1 c1 : Nat) (ys : List Nat) (a2 a3 : Nat) (w : World) (h1 : ¬ 1000 < l1) (hy : Words w a1 l1 ys) (hyc : l1 ≤ c1) (h2 : a2 < 65536) (h3 : a3 < 65536) :
    Calls Try.prog 3 #[gv a b c, .slice a1 l1 c1, .int .u16 (a2 : Int), .int .u16 (a3 : Int)] w (WorksIs w) := by
  have g1 : ¬ (1000 : Int) < (l1 : Int) := by omega
  obtain ⟨XR, Z, hXl, hZ, hXs, hW, hRW⟩ := formats_both a b c
  have HXl := Lib.hid hXl
  have HXs := Lib.hid hXs
  have HW := Lib.hid hW
  have HRW := Lib.hid hRW
  have Hy := Lib.hid hy
  clear hXl hXs hW hRW hy
  unfold gv at HW HRW ⊢
  go_enter Try.func3, Try.ntmps3
  go_wp2_with fail
  obtain ⟨G, HG⟩ : ∃ G, Hid (G = w.heap.size) := ⟨_, Lib.hid rfl⟩
  obtain ⟨H, HH⟩ : ∃ H, Hid (H = w.heap.size + 1) := ⟨_, Lib.hid rfl⟩
  have hO : Own w ((w.alloc (.cells #[.int .i64 a, .int .i64 b, .int .i64 c] 23)).alloc (.cells #[.int .i64 a, .int .i64 b, .int .i64 c] 27)) [boxP G 23 #[.int .i64 a, .int .i64 b, .int .i64 c], boxP H 27 #[.int .i64 a, .int .i64 b, .int .i64 c]] := by
    have h := ((Own.nil w).addBox 23 #[.int .i64 a, .int .i64 b, .int .i64 c]).addBox 27 #[.int .i64 a, .int .i64 b, .int .i64 c]
    rw [World.size_alloc, ← HH.out, ← HG.out] at h
    exact h
  refine (HW.out _).mono ?_
  rintro e w1 ⟨adw, cpw, rfl, hroww, hgA⟩
  rw [← HH.out, ← HG.out]
  have hO := hO.addRow hroww hgA
  clear HW hroww hgA
  obtain ⟨z0, z1, z2⟩ := GeoR.cells (show GeoR H a b c w1 from Own.box hO 1 rfl)
  replace hO := Lib.hid hO
  go_wp2_with fail
  refine (HRW.out _).mono ?_
  rintro e w5 ⟨adx, cpx, rfl, hrowx, hgA⟩
  have hO : Own w w5 [boxP G 23 #[.int .i64 a, .int .i64 b, .int .i64 c], boxP H 27 #[.int .i64 a, .int .i64 b, .int .i64 c], rowP 31 1 (.slice adw Z cpw) Z (XR.map wv), rowP 31 1 (.slice adx Z cpx) Z (XR.map wv)] := hO.out.addRow hrowx hgA
  clear HRW hrowx hgA z0 z1 z2
  obtain ⟨hw5, hnilw, _⟩ := Own.words hO 2 rfl HXs.out (by omega)
  obtain ⟨hx5, _, _⟩ := Own.words hO 3 rfl HXs.out (by omega)
  have HSm := Lib.hid (Same_any adw adx Z Z cpw cpx XR XR w5 hw5 hx5)
  rw [decide_eq_true rfl] at HSm
  have Hnil := Lib.hid hnilw
  have Hw5 := Lib.hid hw5
  replace hO := Lib.hid hO
  clear hnilw hw5 hx5
  go_wp2_with fail
  refine HSm.out.mono ?_
  rintro e w6 ⟨rfl, hgA⟩
  replace hO := Lib.hid (hO.out.quiet hgA)
  have Hw6 := Lib.hid (Hw5.out.keep hgA (by simp))
  clear HSm hgA Hw5
  go_wp2_with (at_builtin; refine app64 rfl _ _ rfl w6.heap.size _ 0 [] rfl (own_lit w6 _ (Nat.le_refl _)) adw Z cpw XR rfl ?a1 Hnil.out ?a2 ?a3 ?_)
  case a1 => exact Hw6.out.keep (World.grownBy_alloc w6 _ none) (by simp)
  case a2 => omega
  case a3 => simp
  intro v1 w7 hown hg4
  have hown : w7.ownsRow w6.heap.size 31 1 v1 Z (XR.map wv) := by simpa using hown
  have hg4 := grown_new (World.grownBy_alloc w6 _ none) hg4 (by intro g e; cases e; exact Nat.le_refl _)
  obtain ⟨ad2, cp2, rfl, hzz⟩ := row_slice hown
  clear hzz
  have hO : Own w w7 [boxP G 23 #[.int .i64 a, .int .i64 b, .int .i64 c], boxP H 27 #[.int .i64 a, .int .i64 b, .int .i64 c], rowP 31 1 (.slice adw Z cpw) Z (XR.map wv), rowP 31 1 (.slice adx Z cpx) Z (XR.map wv), rowP 31 1 (.slice ad2 Z cp2) Z (XR.map wv)] := hO.out.addRow hown hg4
  replace hO := Lib.hid hO
  clear hown hg4 Hw6
  go_upto_if 35 with fail
  go_cut [] (fun wx => ∃ XS : List Nat, Hid (XS.length = Z ∧ ∀ n ∈ XS, n < 18446744073709551616) ∧ Hid (Own w wx [boxP G 23 #[.int .i64 a, .int .i64 b, .int .i64 c], boxP H 27 #[.int .i64 a, .int .i64 b, .int .i64 c], rowP 31 1 (.slice adw Z cpw) Z (XR.map wv), rowP 31 1 (.slice adx Z cpx) Z (XR.map wv), rowP 31 1 (.slice ad2 Z cp2) Z (XS.map wv)]))
  case first =>
    by_cases hz : Z = 0
    · have z0 : ¬ (0 : Int) < (Z : Int) := by omega
      clear hz
      go_wp2_with fail
      go_meet
      case rel => exact ⟨XR, Lib.hid ⟨HXl.out, HXs.out⟩, hO⟩
    · have z0 : (0 : Int) < (Z : Int) := by omega
      by_cases h9 : Z ≤ 9
      · obtain ⟨C, HC⟩ : ∃ C, Hid (C = a2 % Z) := ⟨_, Lib.hid rfl⟩
        have hC : C < Z := by rw [HC.out]; exact Nat.mod_lt _ (by omega)
        have eC : (a2 : Int).tmod (Z : Int) = (C : Int) := by rw [HC.out, Int.tmod_eq_emod_of_nonneg (by omega)]; omega
        have eCZ : (C : Int) < (Z : Int) := by omega
        have zb : ((Z : Int) == 0) = false := by rw [beq_eq_false_iff_ne]; omega
        have z3 : (Z : Int) ≤ 9 := by omega
        have wa : IntKind.i64.wrap (a2 : Int) = (a2 : Int) := IntWalk.i64_in _ ⟨by omega, by omega⟩
        have wb : IntKind.u64.wrap (a3 : Int) = (a3 : Int) := IntWalk.u64_in _ ⟨by omega, by omega⟩
        obtain ⟨U, HU⟩ : ∃ U, Hid (U = XR.getD C 0) := ⟨_, Lib.hid rfl⟩
        obtain ⟨V, HV⟩ : ∃ V, Hid (V = (U + a3) % 18446744073709551616) := ⟨_, Lib.hid rfl⟩
        have wV : IntKind.u64.wrap ((U : Int) + (a3 : Int)) = (V : Int) := by rw [HV.out, ← Int.natCast_add, wrap_u64_nat]
        obtain ⟨b3, rfl, cK, fK, _⟩ := Own.cell hO.out 4 rfl C (wv U) (by rw [List.getElem?_map, List.getElem?_eq_getElem (by rw [HXl.out]; omega), HU.out, List.getD_eq_getElem?_getD, List.getElem?_eq_getElem (by rw [HXl.out]; omega)]; rfl)
        unfold wv at cK
        have hO2 : Own w _ [boxP G 23 #[.int .i64 a, .int .i64 b, .int .i64 c], boxP H 27 #[.int .i64 a, .int .i64 b, .int .i64 c], rowP 31 1 (.slice adw Z cpw) Z (XR.map wv), rowP 31 1 (.slice adx Z cpx) Z (XR.map wv), rowP 31 1 (.slice (some ⟨b3, 0, none⟩) Z cp2) Z ((XR.map wv).set C (wv V))] := Own.store hO.out 4 rfl C (wv V)
        rw [← List.map_set] at hO2
        have HR : Hid ((XR.set C V).length = Z ∧ ∀ n ∈ XR.set C V, n < 18446744073709551616) := Lib.hid ⟨by rw [List.length_set]; exact HXl.out, fun n hn => by
          rcases List.mem_or_eq_of_mem_set hn with h | h
          · exact HXs.out n h
          · rw [h, HV.out]; exact Nat.mod_lt _ (by decide)⟩
        unfold wv at hO2
        replace hO2 := Lib.hid hO2
        clear hO hz hC
        go_wp2_with fail
        go_meet
        case rel => exact ⟨XR.set C V, HR, hO2⟩
      · have hC : a2 % 9 < 9 := by omega
        have eCZ : (a2 : Int) % 9 < (Z : Int) := by omega
        have z1 : ¬ (Z : Int) ≤ 9 := by omega
        have wa : IntKind.i64.wrap (a2 : Int) = (a2 : Int) := IntWalk.i64_in _ ⟨by omega, by omega⟩
        have wb : IntKind.u64.wrap (a3 : Int) = (a3 : Int) := IntWalk.u64_in _ ⟨by omega, by omega⟩
        obtain ⟨U, HU⟩ : ∃ U, Hid (U = XR.getD (a2 % 9) 0) := ⟨_, Lib.hid rfl⟩
        obtain ⟨V, HV⟩ : ∃ V, Hid (V = (U + a3) % 18446744073709551616) := ⟨_, Lib.hid rfl⟩
        have wV : IntKind.u64.wrap ((U : Int) + (a3 : Int)) = (V : Int) := by rw [HV.out, ← Int.natCast_add, wrap_u64_nat]
        obtain ⟨b3, rfl, cK, fK, _⟩ := Own.cell hO.out 4 rfl (a2 % 9) (wv U) (by rw [List.getElem?_map, List.getElem?_eq_getElem (by rw [HXl.out]; omega), HU.out, List.getD_eq_getElem?_getD, List.getElem?_eq_getElem (by rw [HXl.out]; omega)]; rfl)
        unfold wv at cK
        have hO2 : Own w _ [boxP G 23 #[.int .i64 a, .int .i64 b, .int .i64 c], boxP H 27 #[.int .i64 a, .int .i64 b, .int .i64 c], rowP 31 1 (.slice adw Z cpw) Z (XR.map wv), rowP 31 1 (.slice adx Z cpx) Z (XR.map wv), rowP 31 1 (.slice (some ⟨b3, 0, none⟩) Z cp2) Z ((XR.map wv).set (a2 % 9) (wv V))] := Own.store hO.out 4 rfl (a2 % 9) (wv V)
        rw [← List.map_set] at hO2
        have HR : Hid ((XR.set (a2 % 9) V).length = Z ∧ ∀ n ∈ XR.set (a2 % 9) V, n < 18446744073709551616) := Lib.hid ⟨by rw [List.length_set]; exact HXl.out, fun n hn => by
          rcases List.mem_or_eq_of_mem_set hn with h | h
          · exact HXs.out n h
          · rw [h, HV.out]; exact Nat.mod_lt _ (by decide)⟩
        unfold wv at hO2
        replace hO2 := Lib.hid hO2
        clear hO hz hC
        go_wp2_with fail
        go_meet
        case rel => exact ⟨XR.set (a2 % 9) V, HR, hO2⟩
  case rest =>
  obtain ⟨XS, HXS, hO⟩ := hcut
  go_wp2_with fail
  obtain ⟨B, HB⟩ : ∃ B, Hid (B = wc.heap.size) := ⟨_, Lib.hid rfl⟩
  have hO : Own w (wc.alloc (.cells #[.slice a1 l1 c1, .slice adw Z cpw, .slice ad2 Z cp2] 24)) [boxP G 23 #[.int .i64 a, .int .i64 b, .int .i64 c], boxP H 27 #[.int .i64 a, .int .i64 b, .int .i64 c], rowP 31 1 (.slice adw Z cpw) Z (XR.map wv), rowP 31 1 (.slice adx Z cpx) Z (XR.map wv), rowP 31 1 (.slice ad2 Z cp2) Z (XS.map wv), boxP B 24 #[.slice a1 l1 c1, .slice adw Z cpw, .slice ad2 Z cp2]] := by
    rw [HB.out]
    exact hO.out.addBox _ _
  replace hO := Lib.hid hO
  have HRows : Hid (∀ wr, Own w wr [boxP G 23 #[.int .i64 a, .int .i64 b, .int .i64 c], boxP H 27 #[.int .i64 a, .int .i64 b, .int .i64 c], rowP 31 1 (.slice adw Z cpw) Z (XR.map wv), rowP 31 1 (.slice adx Z cpx) Z (XR.map wv), rowP 31 1 (.slice ad2 Z cp2) Z (XS.map wv), boxP B 24 #[.slice a1 l1 c1, .slice adw Z cpw, .slice ad2 Z cp2]] → ∀ j, j < 3 → ∃ ad l c' xs, wr.cell? ⟨B, j, none⟩ = some (.slice ad l c') ∧ Words wr ad l xs ∧ l ≤ c') := Lib.hid (fun wr h j hj => by
    have hbx := Own.box h 5 rfl
    have hw3 := Own.words h 2 rfl HXs.out (by omega)
    have hw4 := Own.words h 4 rfl HXS.out.2 (by omega)
    have hj5 : j = 0 ∨ j = 1 ∨ j = 2 := by omega
    rcases hj5 with rfl | rfl | rfl
    · exact ⟨a1, l1, c1, ys, by simp [World.cell?, hbx], Hy.out.keep h.grown (by simp), hyc⟩
    · exact ⟨adw, Z, cpw, XR, by simp [World.cell?, hbx], hw3.1, hw3.2.2⟩
    · exact ⟨ad2, Z, cp2, XS, by simp [World.cell?, hbx], hw4.1, hw4.2.2⟩)
  rw [← HB.out]
  go_loopw [13] (fun i wr => ∃ j : Nat, j ≤ 3 ∧ i = .int .i64 (j : Int) ∧ Hid (Own w wr [boxP G 23 #[.int .i64 a, .int .i64 b, .int .i64 c], boxP H 27 #[.int .i64 a, .int .i64 b, .int .i64 c], rowP 31 1 (.slice adw Z cpw) Z (XR.map wv), rowP 31 1 (.slice adx Z cpx) Z (XR.map wv), rowP 31 1 (.slice ad2 Z cp2) Z (XS.map wv), boxP B 24 #[.slice a1 l1 c1, .slice adw Z cpw, .slice ad2 Z cp2]])) (fun i _ => 3 - (intOf i).toNat)
  case atStart => exact ⟨0, Nat.zero_le _, rfl, hO⟩
  case round =>
    clear hO
    obtain ⟨j, hj, rfl, hO⟩ := hrel
    have j0 : (0 : Int) ≤ (j : Int) := by omega
    by_cases hlt : j < 3
    · have hlt' : (j : Int) < 3 := by omega
      obtain ⟨ad, l, c', xs, hc, hx, hlc⟩ := HRows.out wr hO.out j hlt
      have HOf := Lib.hid (fun wx (hx : Words wx ad l xs) => Of_same ad l c' xs wx hx)
      have HRf := Lib.hid (fun wx (hx : Words wx ad l xs) => ROf_any ad l c' xs wx hx)
      unfold ROfIs gv at HOf HRf
      generalize ((ofV xs).getD (0, 0, 0)).1 = x0 at HOf HRf
      generalize ((ofV xs).getD (0, 0, 0)).2.1 = x1 at HOf HRf
      generalize ((ofV xs).getD (0, 0, 0)).2.2 = x2 at HOf HRf
      generalize (ofV xs).isSome = S at HOf HRf
      have eS : (S != S) = false := by simp
      have Hx := Lib.hid hx
      have HcK := Lib.hid (fun wz (h : wr.grownBy wz none) => h.cell hc (by simp))
      clear hlc hx
      go_wp2_with fail
      refine (HOf.out _ Hx.out).mono ?_
      rintro e w8 ⟨rfl, hgA⟩
      have hg8 := grown_trans hgA (World.grownBy_alloc w8 (.cells #[.int .i64 x0, .int .i64 x1, .int .i64 x2] 23) none)
      have hb8 := Lib.hid (heap_alloc_new w8 (.cells #[.int .i64 x0, .int .i64 x1, .int .i64 x2] 23))
      have hc8 := HcK.out _ hg8
      have Hx8 := Lib.hid (Hx.out.keep hg8 (by simp))
      have hO8 := Lib.hid (hO.out.quiet hg8)
      obtain ⟨K, HK⟩ : ∃ K, Hid (K = w8.heap.size) := ⟨_, Lib.hid rfl⟩
      rw [← HK.out] at hb8
      clear hc hO Hx HcK HOf hgA hg8
      go_wp2_with fail
      rw [← HK.out]
      refine (HRf.out _ Hx8.out).mono ?_
      rintro e w9 ⟨rfl, hgA⟩
      have hg9 := grown_trans hgA (World.grownBy_alloc w9 (.cells #[.int .i64 x0, .int .i64 x1, .int .i64 x2] 27) none)
      have hb9 := (hg9.block _ (lt_of_block hb8.out) (by simp)).trans hb8.out
      have hb10 := heap_alloc_new w9 (.cells #[.int .i64 x0, .int .i64 x1, .int .i64 x2] 27)
      have hO9 := Lib.hid (hO8.out.quiet hg9)
      have f0 : (w9.alloc (.cells #[.int .i64 x0, .int .i64 x1, .int .i64 x2] 27)).cell? ⟨K, 0, none⟩ = some (.int .i64 x0) := by simp [World.cell?, hb9]
      have f1 : (w9.alloc (.cells #[.int .i64 x0, .int .i64 x1, .int .i64 x2] 27)).cell? ⟨K, 1, none⟩ = some (.int .i64 x1) := by simp [World.cell?, hb9]
      have f2 : (w9.alloc (.cells #[.int .i64 x0, .int .i64 x1, .int .i64 x2] 27)).cell? ⟨K, 2, none⟩ = some (.int .i64 x2) := by simp [World.cell?, hb9]
      clear hb9 hb10 hb8 hc8 Hx8 hO8 HRf hgA hg9 HK
      go_wp2
      go_roundw
      case rel => exact ⟨j + 1, by omega, by go_num, hO9⟩
      case measure => simp [intOf]; omega
    · have hlt' : ¬ (j : Int) < 3 := by omega
      have hg := hO.out.grown
      clear hO
      go_wp2_with fail
      refine (works_any _).mono ?_
      rintro e w6 ⟨rfl, hg6⟩
      go_wp2
      go_ret
      exact ⟨rfl, grown_trans hg hg6⟩

theorem walk (a b c : Int) (a1 : Option Addr) (l1 c1 : Nat) (z1 : List Int) (a2 a3 : Int) (w : World) (_ : (Lit.int .i64 a).wf = true) (_ : (Lit.int .i64 b).wf = true) (_ : (Lit.int .i64 c).wf = true) (w1 : RowIn .u64 w a1 l1 c1 z1) (w2 : (Lit.int .u16 a2).wf = true) (w3 : (Lit.int .u16 a3).wf = true) :
    Calls Try.prog 3 #[.agg #[.int .i64 a, .int .i64 b, .int .i64 c], .slice a1 l1 c1, .int .u16 a2, .int .u16 a3] w (WorksIs w) := by
  obtain ⟨ys, hy⟩ := rowIn_words w1
  have b2 := bounds_u16 w2
  have b3 := bounds_u16 w3
  obtain ⟨v2, rfl⟩ := Int.eq_ofNat_of_zero_le b2.1
  obtain ⟨v3, rfl⟩ := Int.eq_ofNat_of_zero_le b3.1
  by_cases h1 : 1000 < l1
  · exact walk_far a b c a1 l1 c1 _ _ w h1
  · exact walk_at a b c a1 l1 c1 ys v2 v3 w h1 hy w1.2.1 (by omega) (by omega)
end Go.Proofs.Ytjhfipgjnlhoaaa.layoutFormats
