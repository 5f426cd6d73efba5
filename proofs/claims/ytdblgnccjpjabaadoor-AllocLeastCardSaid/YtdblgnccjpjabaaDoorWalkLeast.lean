/- AllocLeast, walked. -/
import Derived.Test.YtdblgnccjpjabaaDoorAlcK
namespace Go.Proofs.YtdblgnccjpjabaaDoor.allocLeast
open Go.RowKit Go.Grommet

set_option maxRecDepth 100000 in
set_option maxHeartbeats 1000000 in
theorem walk_far (a0 : Int) (a1 : Option Addr) (l1 c1 : Nat) (w : World) (ht : Lib.TabIs Tryd.prog w "math/bits.deBruijn64tab" .u8 tab) (h : 30 < l1) :
    Calls Tryd.prog 6 #[.int .u8 a0, .slice a1 l1 c1] w (Go.Ev.WorksIs w) := by
  have HW := Lib.hid (works7_tab w ht)
  clear ht
  have g1 : (30 : Int) < (l1 : Int) := by omega
  go_enter Tryd.func6, Tryd.ntmps6
  go_wp2_with fail
  refine HW.out.mono ?_
  rintro e w5 ⟨rfl, hg⟩
  go_wp2
  go_ret
  exact ⟨rfl, hg⟩

theorem nof (i : Nat) : (List.replicate 32 false).getD i false = false := by
  rw [List.getD_eq_getElem?_getD, List.getElem?_replicate]; split <;> rfl
theorem fmt_dev (B : Nat) (h : 2 ≤ B) (h2 : B ≤ 31) : Dev B (fmtL 1 2 B (264 + 208 * 1) (520 + 8 * B)) (fun i => decide (i < 1)) := by
  refine ⟨length_fmtL _ _ _ _ _, fun i hi => ?_⟩
  unfold mbit
  rw [show gotV (fmtL 1 2 B (264 + 208 * 1) (520 + 8 * B)) [] (272 + 208 * 1 + i / 64) = (fmtL 1 2 B (264 + 208 * 1) (520 + 8 * B)).getD (272 + 208 * 1 + i / 64) 0 from rfl, show 272 + 208 * 1 + i / 64 = 480 from by omega, fmt_get _ _ _ _ _ _ (by omega)]
  unfold fmtAt
  simp only [Nat.mod_eq_of_lt (show i < 64 by omega)]
  show (1 : Nat).testBit i = _
  show (2 ^ 0 : Nat).testBit i = _
  rw [Nat.testBit_two_pow]
  exact decide_eq_decide.2 ⟨fun h => by omega, fun h => by omega⟩

set_option maxRecDepth 100000 in
set_option maxHeartbeats 4000000 in
theorem walk_at (A : Nat) (a1 : Option Addr) (l1 c1 : Nat) (zs : List Int) (w : World) (hA : A ≤ 255) (hz : zs.length = l1) (hat : At w a1 (zs.map (Value.int .u8))) (hzs : ∀ z ∈ zs, 0 ≤ z ∧ z ≤ 255) (h1 : l1 ≤ 30)
    (ht : Lib.TabIs Tryd.prog w "math/bits.deBruijn64tab" .u8 tab) :
    Calls Tryd.prog 6 #[.int .u8 (A : Int), .slice a1 l1 c1] w (Go.Ev.WorksIs w) := by
  have HT := Lib.hid ht
  have HZ := Lib.hid hz
  have g1 : ¬ (30 : Int) < (l1 : Int) := by omega
  obtain ⟨B, hB⟩ : ∃ B, 2 + A % 30 = B := ⟨_, rfl⟩
  have hB1 : 2 ≤ B := by omega
  have hB2 : B ≤ 31 := by omega
  have eA : IntKind.i64.wrap (A : Int) = (A : Int) := IntWalk.i64_in _ ⟨by omega, by omega⟩
  have e3 : IntKind.i64.wrap (2 + (A : Int) % 30) = (B : Int) := by rw [IntWalk.i64_in _ ⟨by omega, by omega⟩]; omega
  have e3' : 2 + (A : Int) % 30 = (B : Int) := by omega
  clear hB ht hz
  go_enter Tryd.func6, Tryd.ntmps6
  go_wp2_with fail
  have hO : Grommet.Own w (w.alloc (.cells (geoCs 1 2 B) 23)) [boxP w.heap.size 23 (geoCs 1 2 B)] := (Own.nil w).addBox _ _
  change Calls _ _ #[Value.agg #[.int .i64 1, .int .i64 2, .int .i64 (B : Int)]] (w.alloc (.cells (geoCs 1 2 B) 23)) _
  generalize w.alloc (.cells (geoCs 1 2 B) 23) = u0 at hO ⊢
  obtain ⟨G, hG⟩ : ∃ G, w.heap.size = G := ⟨_, rfl⟩
  rw [hG] at hO ⊢
  have hGe := Lib.hid hG
  clear hG e3 e3' eA
  have hmay : mayB ((1 : Nat) : Int) ((2 : Nat) : Int) (B : Int) = true := by unfold mayB; simp; omega
  obtain ⟨N, hN⟩ : ∃ N, 520 + 8 * B = N := ⟨_, rfl⟩
  have hD0 := fmt_dev B hB1 hB2
  have hsm := fmt_small 1 2 B (520 + 8 * B) hmay
  obtain ⟨xs0, hxs⟩ : ∃ xs, fmtL 1 2 B (264 + 208 * 1) (520 + 8 * B) = xs := ⟨_, rfl⟩
  rw [hxs] at hD0 hsm
  have HF := Lib.hid (FormatH 1 2 B N xs0 w u0 _ hO hmay (by omega) (by rw [← hN]; exact hxs))
  rw [show ((1 : Nat) : Int) = 1 from rfl, show ((2 : Nat) : Int) = 2 from rfl] at HF
  have hNl : N ≤ 800 := by omega
  have hN0 : 520 ≤ N := by omega
  have hNe := Lib.hid hN
  clear hO hxs hN hmay
  refine HF.out.mono ?_
  rintro e u1 ⟨q, rfl, hO⟩
  clear HF
  obtain ⟨hx1, hnil1, _⟩ := Own.words hO 1 rfl hsm (by omega)
  have hb1 := hO.box 0 rfl
  have hgr1 := hO.grown
  have hR1 : Hid (Words u1 (some ⟨q, 0, none⟩) N xs0 ∧ Dev B xs0 (fun i => decide (i < 1)) ∧ w.grownBy u1 none ∧ u1.heap[G]? = some (.cells (geoCs 1 2 B) 23 (0, 0))) := Lib.hid ⟨hx1, hD0, hgr1, hb1⟩
  clear hO hx1 hnil1 hb1 hgr1 hD0 hsm
  go_wp2_with fail
  go_loopw [6, 7] (fun sl i wr => ∃ (n : Nat) (ad : Option Addr) (cp : Nat) (xs : List Nat), 1 ≤ n ∧ n ≤ B ∧ i = .int .i64 (n : Int) ∧ sl = .slice ad N cp ∧ Hid (ad = none → N = 0 ∧ cp = 0) ∧ Hid (Words wr ad N xs ∧ Dev B xs (fun i => decide (i < n)) ∧ w.grownBy wr none ∧ wr.heap[G]? = some (.cells (geoCs 1 2 B) 23 (0, 0)))) (fun _ i _ => B - (intOf i).toNat)
  case atStart => exact ⟨1, _, _, xs0, Nat.le_refl _, by omega, rfl, rfl, Lib.hid (fun h => by cases h), hR1⟩
  case round =>
    clear hR1
    obtain ⟨n, ad, cp, xs, hn1, hn2, rfl, rfl, hnil, hR⟩ := hrel
    obtain ⟨hx, hD, hgr, hbx⟩ := hR.out
    have f0 : wr.cell? ⟨G, 0, none⟩ = some (.int .i64 1) := by simp [World.cell?, hbx, geoCs]
    have f1 : wr.cell? ⟨G, 1, none⟩ = some (.int .i64 2) := by simp [World.cell?, hbx, geoCs]
    have f2 : wr.cell? ⟨G, 2, none⟩ = some (.int .i64 (B : Int)) := by simp [World.cell?, hbx, geoCs]
    by_cases hlt : n < B
    · have hlt' : (n : Int) < (B : Int) := by omega
      have HTk := Lib.hid (taken_some B N n ad cp xs (fun i => decide (i < n)) (fun i => decide (i < n + 1)) wr hx hnil.out hB1 hB2 hNe.out hD (tab_grown HT.out hgr) hlt (by simp) (fun j hj => by simpa using hj) (fun i _ => by
        by_cases e : i = n
        · simp [e]
        · rw [if_neg e]; exact decide_eq_decide.2 ⟨fun h => by omega, fun h => by omega⟩))
      have hgr' := Lib.hid hgr
      have hbx' := Lib.hid hbx
      clear hR hx hD hgr hbx
      have wn : IntKind.i64.wrap ((n : Int) + 1) = (n : Int) + 1 := IntWalk.i64_in _ ⟨by omega, by omega⟩
      go_wp2_with fail
      refine HTk.out.mono ?_
      rintro e v1 ⟨ad', cp', ys, rfl, hx', hnil', hD', hg'⟩
      have hR' : Hid (Words v1 ad' N ys ∧ Dev B ys (fun i => decide (i < n + 1)) ∧ w.grownBy v1 none ∧ v1.heap[G]? = some (.cells (geoCs 1 2 B) 23 (0, 0))) := Lib.hid ⟨hx', hD', grown_trans hgr'.out hg', (hg'.block _ (Array.getElem?_eq_some_iff.1 hbx'.out).1 (by simp)).trans hbx'.out⟩
      have hnil' := Lib.hid hnil'
      clear HTk hx' hD' hg' f0 f1 f2
      go_wp2
      go_roundw
      case rel => exact ⟨n + 1, ad', cp', ys, by omega, by omega, by go_num, rfl, hnil', hR'⟩
      case measure => simp [intOf]; omega
    · obtain rfl : B = n := by omega
      have hlt' : ¬ (B : Int) < (B : Int) := by omega
      clear hR f0 f1
      go_wp2_with fail
      generalize hW2 : wr.alloc _ = W2
      obtain ⟨H, hH⟩ : ∃ H, wr.heap.size = H := ⟨_, rfl⟩
      have hg2 : wr.grownBy W2 none := by rw [← hW2]; exact World.grownBy_alloc _ _ none
      have hGH : G < H := by rw [← hH]; exact (Array.getElem?_eq_some_iff.1 hbx).1
      have hHw : w.heap.size ≤ H := by rw [← hH]; exact hgr.size
      have hBx : Bx G H B (List.replicate 32 false) W2 := ⟨(hg2.block _ (Array.getElem?_eq_some_iff.1 hbx).1 (by simp)).trans hbx, by rw [← hW2, ← hH]; exact heap_alloc_new wr _⟩
      have hD1 : Dev B xs (fun i => !(List.replicate 32 false).getD i false) := hD.same (fun i hi => by rw [nof]; simp [hi])
      have hR2 : Hid (Words W2 ad N xs ∧ Dev B xs (fun i => !(List.replicate 32 false).getD i false) ∧ w.grownBy W2 none ∧ Bx G H B (List.replicate 32 false) W2 ∧ (List.replicate 32 false).length = 32 ∧ (List.replicate 32 false).getD 0 false = false) :=
        Lib.hid ⟨hx.keep hg2 (by simp), hD1, grown_trans hgr hg2, hBx, by simp, by simp⟩
      clear hD1
      rw [hH]
      clear hx hD hgr hbx hg2 hBx hW2 hH f2
      go_loopw [6, 13] (fun sl i wr => ∃ (j : Nat) (ad : Option Addr) (cp : Nat) (xs : List Nat) (fl : List Bool), j ≤ l1 ∧ i = .int .i64 (j : Int) ∧ sl = .slice ad N cp ∧ Hid (ad = none → N = 0 ∧ cp = 0) ∧ Hid (Words wr ad N xs ∧ Dev B xs (fun i => !fl.getD i false) ∧ w.grownBy wr none ∧ Bx G H B fl wr ∧ fl.length = 32 ∧ fl.getD 0 false = false)) (fun _ i _ => l1 - (intOf i).toNat)
      case atStart => exact ⟨0, ad, cp, xs, _, Nat.zero_le _, rfl, rfl, hnil, hR2⟩
      case round =>
        clear hR2 hnil
        obtain ⟨j, ad, cp, xs, fl, hj, rfl, rfl, hnil, hR⟩ := hrel
        obtain ⟨hx, hD, hgr, hbx, hfl, hf0⟩ := hR.out
        clear hR
        have j0 : (0 : Int) ≤ (j : Int) := by omega
        by_cases hlt : j < l1
        · have hlt2 : (j : Int) < (l1 : Int) := by omega
          obtain ⟨z, hzj⟩ : ∃ z, zs[j]? = some z := ⟨_, List.getElem?_eq_getElem (by rw [HZ.out]; exact hlt)⟩
          have hb := hzs z (List.mem_of_getElem? hzj)
          obtain ⟨b0, o0, rfl, d0⟩ := (hat.grown hgr (by simp)) j (.int .u8 z) (by rw [List.getElem?_map, hzj]; rfl)
          obtain ⟨Z, rfl⟩ := Int.eq_ofNat_of_zero_le hb.1
          have hZ : Z ≤ 255 := by omega
          obtain ⟨M, hM⟩ : ∃ M, B - 1 = M := ⟨_, rfl⟩
          have hM0 : 0 < M := by omega
          obtain ⟨r, hr⟩ : ∃ r, Z % M = r := ⟨_, rfl⟩
          have hr1 : r < M := by rw [← hr]; exact Nat.mod_lt _ hM0
          obtain ⟨k, hk⟩ : ∃ k, 1 + r = k := ⟨_, rfl⟩
          have hk1 : 1 ≤ k := by omega
          have hkB : k < B := by omega
          have eZ : IntKind.i64.wrap (Z : Int) = (Z : Int) := IntWalk.i64_in _ ⟨by omega, by omega⟩
          have e1 : IntKind.i64.wrap ((B : Int) - 1) = (M : Int) := by rw [IntWalk.i64_in _ ⟨by omega, by omega⟩]; omega
          have e1' : (B : Int) - 1 = (M : Int) := by omega
          have e1'' : IntKind.i64.wrap (M : Int) = (M : Int) := IntWalk.i64_in _ ⟨by omega, by omega⟩
          have e2 : (Z : Int) % (M : Int) = (r : Int) := by rw [← hr]; simp
          have e2' : (Z : Int).tmod (M : Int) = (r : Int) := by rw [Int.tmod_eq_emod_of_nonneg (by omega)]; exact e2
          have e2'' : IntKind.i64.wrap (r : Int) = (r : Int) := IntWalk.i64_in _ ⟨by omega, by omega⟩
          have e3 : IntKind.i64.wrap (1 + (r : Int)) = (k : Int) := by rw [IntWalk.i64_in _ ⟨by omega, by omega⟩]; omega
          have e3' : 1 + (r : Int) = (k : Int) := by omega
          have e3'' : IntKind.i64.wrap (k : Int) = (k : Int) := IntWalk.i64_in _ ⟨by omega, by omega⟩
          have n1 : ¬ (M : Int) = 0 := by omega
          have n2 : (0 : Int) < (M : Int) := by omega
          obtain ⟨f0, f1, f2⟩ := hbx.cells
          have hM := Lib.hid hM
          have hr := Lib.hid hr
          have hk := Lib.hid hk
          have wj : IntKind.i64.wrap ((j : Int) + 1) = (j : Int) + 1 := IntWalk.i64_in _ ⟨by omega, by omega⟩
          have k0 : (0 : Int) ≤ (k : Int) := by omega
          have k32 : (k : Int) < 32 := by omega
          have hxd := fun m => hx.keep (grown_drewN wr m none) (by simp)
          cases hfk : fl.getD k false with
          | false =>
            have HGv := Lib.hid (fun m => given_used B N k ad cp xs (fun i => !fl.getD i false) (fun i => !(fl.set k true).getD i false) (wr.drewN m) (hxd m) hnil.out hB1 hB2 hNe.out hD hk1 hkB (by show (!fl.getD k false) = true; rw [hfk]; rfl) (fun i _ => by
              by_cases e : i = k
              · subst e; simp [hfl, show i < 32 by omega]
              · rw [if_neg e]; simp [List.getElem?_set_ne (fun h => e (Eq.symm h))]))
            have hbx' := Lib.hid hbx
            have hgr' := Lib.hid hgr
            have hflh := Lib.hid hfl
            have hf0h := Lib.hid hf0
            have hfkh := Lib.hid hfk
            clear hx hD hgr hbx hfl hf0 hfk hxd hb hzj
            go_wp2_with fail
            go_quiet (fail)
            clear e1 e1' e1'' e2 e2' e2'' e3 e3' e3'' n1 n2 eZ d0
            go_wp2_with fail
            refine (HGv.out _).mono ?_
            rintro e v1 ⟨ad', cp', ys, rfl, hx', hnil', hD', hg'⟩
            have hg'' : wr.grownBy v1 none := grown_trans (grown_drewN wr _ none) hg'
            have hbx2 := hbx'.out.grown hg''
            obtain ⟨q1, q2⟩ := hbx2.at k (by rw [hflh.out]; omega)
            rw [hfkh.out] at q1
            have hst := grown_setCell v1 ⟨H, k, none⟩ (.bool true)
            have hR' : Hid (Words (v1.setCell ⟨H, k, none⟩ (.bool true)) ad' N ys ∧ Dev B ys (fun i => !(fl.set k true).getD i false) ∧ w.grownBy (v1.setCell ⟨H, k, none⟩ (.bool true)) none ∧ Bx G H B (fl.set k true) (v1.setCell ⟨H, k, none⟩ (.bool true)) ∧ (fl.set k true).length = 32 ∧ (fl.set k true).getD 0 false = false) :=
              Lib.hid ⟨hx'.keep hst (words_apart hx' (by omega) hbx2.h), hD', grown_new (grown_trans hgr'.out hg'') hst (fun g e => by cases e; exact hHw), hbx2.set (by omega) k true, by rw [List.length_set]; exact hflh.out, by
                have := hf0h.out
                rw [List.getD_eq_getElem?_getD] at this ⊢
                rw [List.getElem?_set_ne (by omega)]; exact this⟩
            have hnil' := Lib.hid hnil'
            clear HGv hx' hD' hg' hg'' hbx2 hst hbx' hgr'
            go_wp2
            go_roundw
            case rel => exact ⟨j + 1, ad', cp', ys, _, by omega, by go_num, rfl, hnil', hR'⟩
            case measure => simp [intOf]; omega
          | true =>
            have HGv := Lib.hid (fun m => given_free B N k ad cp xs (fun i => !fl.getD i false) (wr.drewN m) (hxd m) hnil.out hB1 hB2 hNe.out hD hk1 hkB (by show (!fl.getD k false) = false; rw [hfk]; rfl))
            have hbx' := Lib.hid hbx
            have hgr' := Lib.hid hgr
            have hflh := Lib.hid hfl
            have hf0h := Lib.hid hf0
            have hfkh := Lib.hid hfk
            clear hx hD hgr hbx hfl hf0 hfk hxd hb hzj
            go_wp2_with fail
            go_quiet (fail)
            clear e1 e1' e1'' e2 e2' e2'' e3 e3' e3'' n1 n2 eZ d0
            go_wp2_with fail
            refine (HGv.out _).mono ?_
            rintro e v1 ⟨ad', cp', ys, rfl, hx', hnil', hD', hg'⟩
            have hg'' : wr.grownBy v1 none := grown_trans (grown_drewN wr _ none) hg'
            have hbx2 := hbx'.out.grown hg''
            obtain ⟨q1, q2⟩ := hbx2.at k (by rw [hflh.out]; omega)
            rw [hfkh.out] at q1
            have hst := grown_setCell v1 ⟨H, k, none⟩ (.bool true)
            have hR' : Hid (Words (v1.setCell ⟨H, k, none⟩ (.bool true)) ad' N ys ∧ Dev B ys (fun i => !(fl.set k true).getD i false) ∧ w.grownBy (v1.setCell ⟨H, k, none⟩ (.bool true)) none ∧ Bx G H B (fl.set k true) (v1.setCell ⟨H, k, none⟩ (.bool true)) ∧ (fl.set k true).length = 32 ∧ (fl.set k true).getD 0 false = false) :=
              Lib.hid ⟨hx'.keep hst (words_apart hx' (by omega) hbx2.h), hD'.same (fun i _ => by
                by_cases e : i = k
                · subst e
                  have := hfkh.out
                  rw [this]; simp [hflh.out, show i < 32 by omega]
                · simp [List.getElem?_set_ne (fun h => e (Eq.symm h))]), grown_new (grown_trans hgr'.out hg'') hst (fun g e => by cases e; exact hHw), hbx2.set (by omega) k true, by rw [List.length_set]; exact hflh.out, by
                have := hf0h.out
                rw [List.getD_eq_getElem?_getD] at this ⊢
                rw [List.getElem?_set_ne (by omega)]; exact this⟩
            have hnil' := Lib.hid hnil'
            clear HGv hx' hD' hg' hg'' hbx2 hst hbx' hgr'
            go_wp2
            go_roundw
            case rel => exact ⟨j + 1, ad', cp', ys, _, by omega, by go_num, rfl, hnil', hR'⟩
            case measure => simp [intOf]; omega
        · have hlt2 : ¬ (j : Int) < (l1 : Int) := by omega
          have hD3 : Dev B xs (fun i => !fl.getD i false || decide (i < 1)) := hD.same (fun i _ => by
            by_cases e : i < 1
            · obtain rfl : i = 0 := by omega
              rw [hf0]; rfl
            · simp [e])
          have hR3 : Hid (Words wr ad N xs ∧ Dev B xs (fun i => !fl.getD i false || decide (i < 1)) ∧ w.grownBy wr none ∧ Bx G H B fl wr) := Lib.hid ⟨hx, hD3, hgr, hbx⟩
          have hflh := Lib.hid hfl
          clear hx hD hgr hbx hD3 hfl
          go_wp2_with fail
          go_loopw [6, 18] (fun sl i wr => ∃ (n : Nat) (ad : Option Addr) (cp : Nat) (xs : List Nat), 1 ≤ n ∧ n ≤ B ∧ i = .int .i64 (n : Int) ∧ sl = .slice ad N cp ∧ Hid (ad = none → N = 0 ∧ cp = 0) ∧ Hid (Words wr ad N xs ∧ Dev B xs (fun i => !fl.getD i false || decide (i < n)) ∧ w.grownBy wr none ∧ Bx G H B fl wr)) (fun _ i _ => B - (intOf i).toNat)
          case atStart => exact ⟨1, ad, cp, xs, Nat.le_refl _, by omega, rfl, rfl, hnil, hR3⟩
          case round =>
            clear hR3 hnil
            obtain ⟨n, ad, cp, xs, hn1, hn2, rfl, rfl, hnil, hR⟩ := hrel
            obtain ⟨hx, hD, hgr, hbx⟩ := hR.out
            clear hR
            obtain ⟨f0, f1, f2⟩ := hbx.cells
            by_cases hnB : n < B
            · have hnB' : (n : Int) < (B : Int) := by omega
              have n32 : (n : Int) < 32 := by omega
              have nn0 : (0 : Int) ≤ (n : Int) := by omega
              have wn : IntKind.i64.wrap ((n : Int) + 1) = (n : Int) + 1 := IntWalk.i64_in _ ⟨by omega, by omega⟩
              obtain ⟨q1, _⟩ := hbx.at n (by rw [hflh.out]; omega)
              cases hfn : fl.getD n false with
              | false =>
                rw [hfn] at q1
                have hR' : Hid (Words wr ad N xs ∧ Dev B xs (fun i => !fl.getD i false || decide (i < n + 1)) ∧ w.grownBy wr none ∧ Bx G H B fl wr) := Lib.hid ⟨hx, hD.same (fun i _ => by
                  by_cases e : i = n
                  · subst e; rw [hfn]; rfl
                  · congr 1; exact decide_eq_decide.2 ⟨fun h => by omega, fun h => by omega⟩), hgr, hbx⟩
                clear hx hD hgr hbx hfn
                go_wp2
                go_roundw
                case rel => exact ⟨n + 1, ad, cp, xs, by omega, by omega, by go_num, rfl, hnil, hR'⟩
                case measure => simp [intOf]; omega
              | true =>
                rw [hfn] at q1
                have HTk := Lib.hid (taken_some B N n ad cp xs (fun i => !fl.getD i false || decide (i < n)) (fun i => !fl.getD i false || decide (i < n + 1)) wr hx hnil.out hB1 hB2 hNe.out hD (tab_grown HT.out hgr) hnB (by show (!fl.getD n false || decide (n < n)) = false; rw [hfn]; simp) (fun i hi => by show (!fl.getD i false || decide (i < n)) = true; simp [hi]) (fun i _ => by
                  by_cases e : i = n
                  · subst e; simp
                  · rw [if_neg e]; congr 1; exact decide_eq_decide.2 ⟨fun h => by omega, fun h => by omega⟩))
                have hgr' := Lib.hid hgr
                have hbx' := Lib.hid hbx
                clear hx hD hgr hbx hfn
                go_wp2_with fail
                refine HTk.out.mono ?_
                rintro e v1 ⟨ad', cp', ys, rfl, hx', hnil', hD', hg'⟩
                have hR' : Hid (Words v1 ad' N ys ∧ Dev B ys (fun i => !fl.getD i false || decide (i < n + 1)) ∧ w.grownBy v1 none ∧ Bx G H B fl v1) := Lib.hid ⟨hx', hD', grown_trans hgr'.out hg', hbx'.out.grown hg'⟩
                have hnil' := Lib.hid hnil'
                clear HTk hx' hD' hg' f0 f1 f2 q1
                go_wp2
                go_roundw
                case rel => exact ⟨n + 1, ad', cp', ys, by omega, by omega, by go_num, rfl, hnil', hR'⟩
                case measure => simp [intOf]; omega
            · obtain rfl : B = n := by omega
              have hnB' : ¬ (B : Int) < (B : Int) := by omega
              have HTk := Lib.hid (taken_none B N ad cp xs (fun i => !fl.getD i false || decide (i < B)) wr hx hnil.out hB1 hB2 hNe.out hD (tab_grown HT.out hgr) (fun i hi => by show (!fl.getD i false || decide (i < B)) = true; simp [hi]))
              have hgr' := Lib.hid hgr
              clear hx hD hgr hbx
              go_wp2_with fail
              refine HTk.out.mono ?_
              rintro e v1 ⟨ad', cp', ys, rfl, _, _, _, hg'⟩
              have hg := Lib.hid (grown_trans hgr'.out hg')
              have HWk := Lib.hid (works7_tab v1 (tab_grown HT.out hg.out))
              clear HTk hg' f0 f1 f2
              go_wp2_with fail
              refine HWk.out.mono ?_
              rintro e v2 ⟨rfl, hg2⟩
              have hfin := Lib.hid (grown_trans hg.out hg2)
              clear hg2
              go_wp2
              go_ret
              exact ⟨rfl, hfin.out⟩

theorem walk (a0 : Int) (a1 : Option Addr) (l1 c1 : Nat) (z1 : List Int) (w : World) (w0 : (Lit.int .u8 a0).wf = true) (w1 : RowIn .u8 w a1 l1 c1 z1) (ht : Lib.TabIs Tryd.prog w "math/bits.deBruijn64tab" .u8 tab) :
    Calls Tryd.prog 6 #[.int .u8 a0, .slice a1 l1 c1] w (Go.Ev.WorksIs w) := by
  have b1 := bounds_u8 w0
  obtain ⟨A, rfl⟩ := Int.eq_ofNat_of_zero_le b1.1
  obtain ⟨hl, hat, hwf⟩ := w1.at
  by_cases h : 30 < l1
  · exact walk_far A a1 l1 c1 w ht h
  · exact walk_at A a1 l1 c1 _ w (by omega) hl hat (fun z hz => bounds_u8 (hwf z hz)) (by omega) ht
end Go.Proofs.YtdblgnccjpjabaaDoor.allocLeast
