/- BlocksBack, walked. -/
import Derived.Test.YtmamgfjnphdecaaDoorPk29
import Derived.Deep.DeepCutAuto
import Derived.Deep.CutBlock
namespace Go.Proofs.YtmamgfjnphdecaaDoor.blocksBack
open Go.RowKit Go.Grommet
set_option linter.unusedVariables false

set_option maxRecDepth 100000 in
set_option maxHeartbeats 1000000 in
theorem walk_far (a0 : Int) (td : Option Addr) (tl tc : Nat) (w : World) (ht : Lib.TabIs Tryd.prog w "math/bits.deBruijn64tab" .u8 tab) (h : 30 < tl) :
    Calls Tryd.prog 5 #[.int .u8 a0, .slice td tl tc] w (Go.Ev.WorksIs w) := by
  have HW := Lib.hid (works13_tab w ht)
  clear ht
  have g1 : (30 : Int) < (tl : Int) := by omega
  go_enter Tryd.func5, Tryd.ntmps5
  go_wp2_with fail
  refine HW.out.mono ?_
  rintro e w5 ⟨rfl, hg⟩
  go_wp2
  go_ret
  exact ⟨rfl, hg⟩

/-- Where nothing is told any more the words are the first ones, up to the blocks. -/
theorem back_same {I B : Nat} {xs xs0 : List Nat} {P : Nat → Nat → Nat} (h : Bst I B (fun n => n = 1) (gotV xs0 []) xs [] P) (hz : ∀ j, j ≤ 12 → P 1 j = 0) (h0 : Bst I B (fun n => n = 1) (gotV xs0 []) xs0 [] (fun _ _ => 0)) (a : Nat) (ha : a < 488 + 16 * I) : xs.getD a 0 = xs0.getD a 0 := by
  show gotV xs [] a = gotV xs0 [] a
  by_cases e : a = 480
  · subst e
    refine Nat.eq_of_testBit_eq fun i => ?_
    by_cases hi : i < 64
    · have p := h.lk.bit i hi
      have q := h0.lk.bit i hi
      have e1 : ((gotV xs [] 480).testBit i = true) ↔ ((gotV xs0 [] 480).testBit i = true) := by
        rw [p, q]
        constructor
        · rintro (hh | ⟨n, k, hn, hk, hp⟩)
          · exact .inl hh
          · subst hn; rw [hz k hk] at hp; exact .inl hp.symm
        · rintro (hh | ⟨n, k, hn, hk, hp⟩)
          · exact .inl hh
          · exact .inl hp.symm
      exact Bool.eq_iff_iff.2 e1
    · have hlt : ∀ v, v < 18446744073709551616 → v.testBit i = false := fun v hv => bit_far hv (by omega)
      rw [hlt _ (h.got 480), hlt _ (h0.got 480)]
  · by_cases es : 492 + 16 * 1 ≤ a ∧ a ≤ 496 + 16 * 1
    · by_cases e8 : a = 496 + 16 * 1
      · subst e8
        rw [h.lk.chn 1 rfl, h0.lk.chn 1 rfl, hz 12 (by omega)]
      · have e1 := h.lk.dir 1 (a - 508) rfl (by omega)
        have e2 := h0.lk.dir 1 (a - 508) rfl (by omega)
        rw [show 492 + 16 * 1 + (a - 508) = a by omega] at e1 e2
        rw [e1, e2, hz _ (by omega)]
    · rw [h.lk.rest a ha e (fun n hn hh => by subst hn; exact es hh)]

theorem sol5 {G I B g X N cp fcp : Nat} {ad fad : Option Addr} {xs xs0 : List Nat} {L : List (Nat × Nat)} : ∀ Q ∈ [boxP G 25 (geoCs 1 I B), rowP 47 1 (.slice ad N cp) N (xs.map wv), rowP 47 1 (.slice fad N fcp) N (xs0.map wv), viewP g xs L, bmP X g 1 I B 1], Solid Q := by
  intro Q h
  simp only [List.mem_cons, List.not_mem_nil, or_false] at h
  rcases h with rfl | rfl | rfl | rfl | rfl
  · exact solid_box _ _ _
  · exact solid_row _ _ _ _ _
  · exact solid_row _ _ _ _ _
  · exact solid_view _ _ _
  · exact solid_box _ _ _
theorem own_053 {w0 w : World} {A0 A1 A2 A3 A4 A5 : Pr} (h : Grommet.Own w0 w [A0, A1, A2, A3, A4, A5]) : Grommet.Own w0 w [A0, A5, A2] :=
  h.permute (fun j => [0, 5, 2].getD j 0) (fun j hj => by
    have : j = 0 ∨ j = 1 ∨ j = 2 := by simp at hj; omega
    rcases this with rfl | rfl | rfl
    · exact ⟨by simp, rfl⟩
    · exact ⟨by simp, rfl⟩
    · exact ⟨by simp, rfl⟩) (fun i j hi hj hne => by
    have h1 : i = 0 ∨ i = 1 ∨ i = 2 := by simp at hi; omega
    have h2 : j = 0 ∨ j = 1 ∨ j = 2 := by simp at hj; omega
    rcases h1 with rfl | rfl | rfl <;> rcases h2 with rfl | rfl | rfl <;> first | exact absurd rfl hne | decide)

theorem lst_none {p : Nat → Nat} (h : ∀ j, j ≤ 12 → p j = 0) : lst p = [] := by
  unfold lst
  rw [List.filter_eq_nil_iff]
  intro x hx
  obtain ⟨j, hj, rfl⟩ := List.mem_map.1 hx
  simp [h j (by have := List.mem_range.1 hj; omega)]

set_option maxRecDepth 100000 in
set_option maxHeartbeats 8000000 in
theorem walk_at (x0 : Nat) (td : Option Addr) (tl tc : Nat) (zs : List Int) (w : World) (h0 : x0 ≤ 255) (hl : tl ≤ 30) (hz : zs.length = tl) (hat : At w td (zs.map (Value.int .u8))) (hzs : ∀ z ∈ zs, 0 ≤ z ∧ z ≤ 255)
    (ht : Lib.TabIs Tryd.prog w "math/bits.deBruijn64tab" .u8 tab) :
    Calls Tryd.prog 5 #[.int .u8 (x0 : Int), .slice td tl tc] w (Go.Ev.WorksIs w) := by
  have HTab := Lib.hid ht
  have HZ := Lib.hid hz
  have HAT := Lib.hid hat
  have HZS := Lib.hid hzs
  have g1 : ¬ (30 : Int) < (tl : Int) := by omega
  have HSm := Lib.hid (fun wx => Small_any 0 x0 wx (by omega) h0)
  obtain ⟨I, hI⟩ : ∃ I, 2 + 0 % 20 = I := ⟨_, rfl⟩
  obtain ⟨B, hB⟩ : ∃ B, 2 + x0 % 60 = B := ⟨_, rfl⟩
  rw [hI, hB] at HSm
  rw [show ((0 : Nat) : Int) = 0 from rfl] at HSm
  unfold gv at HSm
  have hI3 : I = 2 := by omega
  have hB1 : 2 ≤ B := by omega
  have hB2 : B ≤ 61 := by omega
  clear hI hB h0 ht hz hat hzs
  go_enter Tryd.func5, Tryd.ntmps5
  go_wp2_with fail
  refine (HSm.out _).mono ?_
  rintro e u0 ⟨rfl, hg0⟩
  clear HSm
  have hO : Grommet.Own w u0 [] := (Own.nil w).quiet hg0
  have hO1 : Grommet.Own w (u0.alloc (.cells (geoCs 1 I B) 25)) [boxP u0.heap.size 25 (geoCs 1 I B)] := hO.addBox _ _
  obtain ⟨G, hG⟩ : ∃ G, u0.heap.size = G := ⟨_, rfl⟩
  obtain ⟨u1, hu1⟩ : ∃ u1, u0.alloc (.cells (geoCs 1 I B) 25) = u1 := ⟨_, rfl⟩
  rw [hG, hu1] at hO1
  obtain ⟨f0, f1, f2⟩ := geoH hO1 0 rfl
  have hmay : mayB ((1 : Nat) : Int) (I : Int) (B : Int) = true := by unfold mayB; simp; omega
  obtain ⟨N, hN⟩ : ∃ N, 488 + 16 * I + 8 * B = N := ⟨_, rfl⟩
  obtain ⟨xs0, hxs⟩ : ∃ xs, fmtL 1 I B (264 + 208 * 1) N = xs := ⟨_, rfl⟩
  have hS0 := begun_one hI3 hB1 hB2 hN hxs
  have hx0l : xs0.length = N := by rw [← hxs]; exact length_fmtL _ _ _ _ _
  have hx0s : ∀ n ∈ xs0, n < 18446744073709551616 := hS0.1.small
  have HF := Lib.hid (RFormatH 1 I B N xs0 w u1 _ hO1 hmay (by omega) hxs)
  have HBa := Lib.hid (fun wx => BlockAt_any ((1 : Nat) : Int) (I : Int) (B : Int) 0 wx)
  have h520 : blockV ((1 : Nat) : Int) (I : Int) (B : Int) 0 = 520 := by unfold blockV; rw [if_pos ⟨hmay, by omega, by omega⟩]; subst hI3; rfl
  rw [h520] at HBa
  unfold gv at HF HBa
  have HS0 := Lib.hid hS0
  have HIB := Lib.hid (And.intro hI3 (And.intro hB1 hB2))
  have HNe := Lib.hid hN
  have hNl : N ≤ 1024 := by omega
  have hN0 : 536 ≤ N := by omega
  have Hl := Lib.hid hx0l
  have Hs0 := Lib.hid hx0s
  rw [show ((1 : Nat) : Int) = 1 from rfl] at *
  clear hO hO1 hg0 hS0 hmay hxs hN hI3 hB1 hB2 h520 hx0l hx0s
  unfold geoCs at hu1
  rw [show ((1 : Nat) : Int) = 1 from rfl] at hu1
  go_wp2_with fail
  refine HF.out.mono ?_
  rintro e u2 ⟨q, rfl, hO2⟩
  clear HF f0 f1 f2 hu1 hG
  have hO2 : Grommet.Own w u2 [boxP G 25 (geoCs 1 I B), rowP 47 1 (.slice (some ⟨q, 0, none⟩) N N) N (xs0.map wv)] := hO2
  obtain ⟨hW, hnil, _⟩ := Own.words hO2 1 rfl Hs0.out (by omega)
  have hO2 := Lib.hid hO2
  go_wp2_with (at_builtin; refine app64 rfl _ _ rfl u2.heap.size _ 0 [] rfl (own_lit u2 _ 1 u2.heap.size (Nat.le_refl _)) (some ⟨q, 0, none⟩) N N xs0 rfl ?a1 (by simp) ?a2 ?a3 ?_)
  case a1 => exact hW.keep (World.grownBy_alloc u2 _ none) (by simp)
  case a2 => omega
  case a3 => simp
  intro v1 u3 hown hg3
  have hg3 := grown_new (World.grownBy_alloc u2 _ none) hg3 (by intro g e; cases e; exact Nat.le_refl _)
  (try rw [List.nil_append] at hown)
  (try rw [Nat.zero_add] at hown)
  obtain ⟨fad, fcp, rfl, _⟩ := row_slice hown
  have hO3 : Hid (Grommet.Own w u3 [boxP G 25 (geoCs 1 I B), rowP 47 1 (.slice (some ⟨q, 0, none⟩) N N) N (xs0.map wv), rowP 47 1 (.slice fad N fcp) N (xs0.map wv)]) := Lib.hid (hO2.out.addRow hown hg3)
  clear hO2 hW hnil hown hg3
  go_wp2_with fail
  go_loopw [6, 8] (fun sl tv wr => ∃ (t : Nat) (ad : Option Addr) (cp : Nat) (xs : List Nat) (P : Nat → Nat → Nat), t ≤ 2 ∧ tv = .int .i64 (t : Int) ∧ sl = .slice ad N cp ∧ Hid (Bst I B (fun n => n = 1) (gotV xs0 []) xs [] P ∧ Br (fun n => n = 1) P) ∧ Hid (Grommet.Own w wr [boxP G 25 (geoCs 1 I B), rowP 47 1 (.slice ad N cp) N (xs.map wv), rowP 47 1 (.slice fad N fcp) N (xs0.map wv)])) (fun _ tv _ => 2 - (intOf tv).toNat)
  case atStart => exact ⟨0, _, _, xs0, _, by omega, rfl, rfl, Lib.hid ⟨HS0.out.1, HS0.out.2.2⟩, hO3⟩
  case round =>
    clear hO3
    obtain ⟨t, ad, cp, xs, P, ht2, rfl, rfl, HS, hO⟩ := hrel
    have t0 : (0 : Int) ≤ (t : Int) := by omega
    have wt : IntKind.i64.wrap ((t : Int) + 1) = (t : Int) + 1 := IntWalk.i64_in _ ⟨by omega, by omega⟩
    by_cases hlt : t < 2
    · have hlt' : (t : Int) < 2 := by omega
      go_wp2_with fail
      go_loopw [6, 9] (fun sl kv wr => ∃ (k : Nat) (ad : Option Addr) (cp : Nat) (xs : List Nat) (P : Nat → Nat → Nat), k ≤ tl ∧ kv = .int .i64 (k : Int) ∧ sl = .slice ad N cp ∧ Hid (Bst I B (fun n => n = 1) (gotV xs0 []) xs [] P ∧ Br (fun n => n = 1) P) ∧ Hid (Grommet.Own w wr [boxP G 25 (geoCs 1 I B), rowP 47 1 (.slice ad N cp) N (xs.map wv), rowP 47 1 (.slice fad N fcp) N (xs0.map wv)])) (fun _ kv _ => tl - (intOf kv).toNat)
      case atStart => exact ⟨0, ad, cp, xs, P, Nat.zero_le _, rfl, rfl, HS, hO⟩
      case round =>
        clear hO HS
        obtain ⟨k, ad, cp, xs, P, hk, rfl, rfl, HS, hO⟩ := hrel
        have k0 : (0 : Int) ≤ (k : Int) := by omega
        obtain ⟨hS, hBr⟩ := HS.out
        obtain ⟨hW, hnil, _⟩ := Own.words hO.out 1 rfl hS.small (by omega)
        have HNew := Lib.hid (NewH ad N cp xs w _ _ hO.out hW (by omega) hnil)
        have hS := Lib.hid hS
        have HBr := Lib.hid hBr
        by_cases hkl : k < tl
        · have hkl' : (k : Int) < (tl : Int) := by omega
          obtain ⟨z, hzk⟩ : ∃ z, zs[k]? = some z := ⟨_, List.getElem?_eq_getElem (by rw [HZ.out]; exact hkl)⟩
          have hb := HZS.out z (List.mem_of_getElem? hzk)
          obtain ⟨b0, o0, htd, d0⟩ := (HAT.out.grown hO.out.grown (by simp)) k (.int .u8 z) (by rw [List.getElem?_map, hzk]; rfl)
          subst htd
          obtain ⟨Z, rfl⟩ := Int.eq_ofNat_of_zero_le hb.1
          have Hd := Lib.hid (fun wx (hg : w.grownBy wx none) => (HAT.out.grown hg (by simp)) k (.int .u8 (Z : Int)) (by rw [List.getElem?_map, hzk]; rfl))
          have hZ : Z ≤ 255 := by omega
          obtain ⟨r, hr⟩ : ∃ r, Z % 12 = r := ⟨_, rfl⟩
          have hr1 : r < 12 := by rw [← hr]; exact Nat.mod_lt _ (by omega)
          have eZ : IntKind.i64.wrap (Z : Int) = (Z : Int) := IntWalk.i64_in _ ⟨by omega, by omega⟩
          have e5 : (Z : Int) % 12 = (r : Int) := by rw [← hr]; omega
          have e5' : Int.tmod (Z : Int) 12 = (r : Int) := by rw [Int.tmod_eq_emod_of_nonneg (by omega)]; exact e5
          have wr5 : IntKind.i64.wrap (r : Int) = (r : Int) := IntWalk.i64_in _ ⟨by omega, by omega⟩
          have wk : IntKind.i64.wrap ((k : Int) + 1) = (k : Int) + 1 := IntWalk.i64_in _ ⟨by omega, by omega⟩
          clear hO hW hnil hzk hb d0 hr
          go_wp2_with fail
          refine HNew.out.mono ?_
          rintro e w1 ⟨g, rfl, hO1⟩
          have hO1 : Grommet.Own w w1 [boxP G 25 (geoCs 1 I B), rowP 47 1 (.slice ad N cp) N (xs.map wv), rowP 47 1 (.slice fad N fcp) N (xs0.map wv), viewP g xs []] := hO1
          obtain ⟨f0, f1, f2⟩ := geoH hO1 0 rfl
          rw [show ((1 : Nat) : Int) = 1 from rfl] at f0
          have HOf := Lib.hid (hS.out.of (n := 1) rfl hO1 (kv := 3) rfl)
          unfold gv at HOf
          rw [show ((1 : Nat) : Int) = 1 from rfl] at HOf
          clear HNew hO1
          go_wp2_with fail
          refine HOf.out.mono ?_
          rintro e w2 ⟨X, rfl, hO2⟩
          clear HOf f0 f1 f2
          have hO2 : Grommet.Own w w2 [boxP G 25 (geoCs 1 I B), rowP 47 1 (.slice ad N cp) N (xs.map wv), rowP 47 1 (.slice fad N fcp) N (xs0.map wv), viewP g xs [], bmP X g 1 I B 1] := hO2
          have HTk := Lib.hid (hS.out.take (by simp) (n := 1) (k := r) rfl hr1 hO2 (kv := 3) (km := 4) rfl rfl (by omega) HTab.out)
          obtain ⟨b1, o1, hbo, d0⟩ := Hd.out w2 hO2.grown
          cases hbo
          clear hO2
          go_wp2_with fail
          refine HTk.out.mono ?_
          rintro e w3 ⟨v, en, L', P', rfl, hO3, hR⟩
          have hen : en = 0 ∨ en = 7 := by rcases hR.way with h | h | h <;> omega
          have hO3 : Grommet.Own w w3 [boxP G 25 (geoCs 1 I B), rowP 47 1 (.slice ad N cp) N (xs.map wv), rowP 47 1 (.slice fad N fcp) N (xs0.map wv), viewP g xs L', bmP X g 1 I B 1] := hO3
          have HFl := Lib.hid (FlatH 3 g xs L' w w3 _ hO3 rfl)
          have hfl := hR.st.flat
          obtain ⟨ys, hys⟩ : ∃ ys, flatV xs L' = ys := ⟨_, rfl⟩
          rw [hys] at hfl HFl
          rw [show xs.length = N by have := hS.out.len; have := HNe.out; omega] at HFl
          have HSy := Lib.hid (And.intro hfl.1 (hR.br HBr.out))
          have y1 : ((N : Int) != (N : Int)) = false := by simp
          clear HTk hO3 hR hfl hys d0
          rcases hen with rfl | rfl
          all_goals
            go_wp2_with fail
            refine HFl.out.mono ?_
            rintro e w4 ⟨ad2, cp2, rfl, hO4⟩
            have hOE : Hid (Grommet.Own w w4 [boxP G 25 (geoCs 1 I B), rowP 47 1 (.slice ad2 N cp2) N (ys.map wv), rowP 47 1 (.slice fad N fcp) N (xs0.map wv)]) := Lib.hid (own_053 (show Grommet.Own w w4 [boxP G 25 (geoCs 1 I B), rowP 47 1 (.slice ad N cp) N (xs.map wv), rowP 47 1 (.slice fad N fcp) N (xs0.map wv), viewP g xs L', bmP X g 1 I B 1, rowP 47 1 (.slice ad2 N cp2) N (ys.map wv)] from hO4))
            clear HFl hO4
            go_wp2
            go_roundw
            case rel => exact ⟨k + 1, ad2, cp2, ys, P', by omega, by go_num, rfl, HSy, hOE⟩
            case measure => simp [intOf]; omega
        · obtain rfl : tl = k := by omega
          have hkl' : ¬ (tl : Int) < (tl : Int) := by omega
          clear hO hW hnil
          go_wp2_with fail
          refine HNew.out.mono ?_
          rintro e w1 ⟨g, rfl, hO1⟩
          have hO1 : Grommet.Own w w1 [boxP G 25 (geoCs 1 I B), rowP 47 1 (.slice ad N cp) N (xs.map wv), rowP 47 1 (.slice fad N fcp) N (xs0.map wv), viewP g xs []] := hO1
          obtain ⟨f0, f1, f2⟩ := geoH hO1 0 rfl
          rw [show ((1 : Nat) : Int) = 1 from rfl] at f0
          have HOf := Lib.hid (hS.out.of (n := 1) rfl hO1 (kv := 3) rfl)
          unfold gv at HOf
          rw [show ((1 : Nat) : Int) = 1 from rfl] at HOf
          clear HNew hO1
          go_wp2_with fail
          refine HOf.out.mono ?_
          rintro e w2 ⟨X, rfl, hO2⟩
          clear HOf f0 f1 f2
          have hO2 : Grommet.Own w w2 [boxP G 25 (geoCs 1 I B), rowP 47 1 (.slice ad N cp) N (xs.map wv), rowP 47 1 (.slice fad N fcp) N (xs0.map wv), viewP g xs [], bmP X g 1 I B 1] := hO2
          obtain ⟨L', P', hR, hC⟩ := hS.out.cut (by simp) (n := 1) (k := 0) rfl (by omega)
          have HC := Lib.hid (hC 3 4 X g w w2 _ hO2 rfl rfl (by omega) sol5)
          rw [show ((0 : Nat) : Int) = 0 from rfl] at HC
          have hz : ∀ j, j ≤ 12 → P' 1 j = 0 := fun j hj => by
            by_cases e : j = 12
            · subst e
              refine Classical.byContradiction fun hne => ?_
              obtain ⟨q, q4, q12, qz⟩ := hR.br HBr.out 1 rfl hne
              exact qz (hR.zero q (by omega) q12)
            · exact hR.zero j (by omega) (by omega)
          have hfl := hR.st.flat
          obtain ⟨ys, hys⟩ : ∃ ys, flatV xs L' = ys := ⟨_, rfl⟩
          rw [hys] at hfl
          have HEq : Hid (∀ a, a < 520 → ys.getD a 0 = xs0.getD a 0) := Lib.hid (fun a ha => back_same hfl.1 hz HS0.out.1 a (by have := HIB.out.1; omega))
          have HSy := Lib.hid (And.intro hfl.1 (hR.br HBr.out))
          have Hst := Lib.hid hR.st
          have Hz := Lib.hid hz
          have Hys := Lib.hid hys
          clear hO2 hR hC hz hfl hys
          go_wp2_with fail
          refine HC.out.mono ?_
          rintro e w3 ⟨rfl, hO3⟩
          have hO3 : Grommet.Own w w3 [boxP G 25 (geoCs 1 I B), rowP 47 1 (.slice ad N cp) N (xs.map wv), rowP 47 1 (.slice fad N fcp) N (xs0.map wv), viewP g xs L', bmP X g 1 I B 1] := hO3
          have HLs := Lib.hid (Hst.out.list (n := 1) rfl hO3 (kv := 3) (km := 4) rfl rfl sol5)
          rw [lst_none Hz.out] at HLs
          clear HC hO3
          go_wp2_with fail
          refine HLs.out.mono ?_
          rintro e w4 ⟨lad, lcp, lm, rfl, hlm, hO4⟩
          obtain rfl : lm = 0 := hlm
          have hO4 : Grommet.Own w w4 [boxP G 25 (geoCs 1 I B), rowP 47 1 (.slice ad N cp) N (xs.map wv), rowP 47 1 (.slice fad N fcp) N (xs0.map wv), viewP g xs L', bmP X g 1 I B 1] := hO4.less
          have HFl := Lib.hid (FlatH 3 g xs L' w w4 _ hO4 rfl)
          rw [Hys.out] at HFl
          rw [show xs.length = N by have := hS.out.len; have := HNe.out; omega] at HFl
          have y1 : ((N : Int) != (N : Int)) = false := by simp
          clear HLs hO4
          go_wp2_with fail
          refine HFl.out.mono ?_
          rintro e w5 ⟨ad2, cp2, rfl, hO5⟩
          have hOE : Hid (Grommet.Own w w5 [boxP G 25 (geoCs 1 I B), rowP 47 1 (.slice ad2 N cp2) N (ys.map wv), rowP 47 1 (.slice fad N fcp) N (xs0.map wv)]) := Lib.hid (own_053 (show Grommet.Own w w5 [boxP G 25 (geoCs 1 I B), rowP 47 1 (.slice ad N cp) N (xs.map wv), rowP 47 1 (.slice fad N fcp) N (xs0.map wv), viewP g xs L', bmP X g 1 I B 1, rowP 47 1 (.slice ad2 N cp2) N (ys.map wv)] from hO5))
          clear HFl hO5
          go_wp2_with fail
          go_loopw [18] (fun jv wr => ∃ j : Nat, j ≤ 520 ∧ jv = .int .i64 (j : Int) ∧ w5.grownBy wr none) (fun jv _ => 520 - (intOf jv).toNat)
          case atStart => exact ⟨0, Nat.zero_le _, rfl, World.grownBy.refl _ _⟩
          case round =>
            obtain ⟨j, hj, rfl, hg⟩ := hrel
            have j0 : (0 : Int) ≤ (j : Int) := by omega
            have hO6 := hOE.out.quiet hg
            obtain ⟨f0, f1, f2⟩ := geoH hO6 0 rfl
            rw [show ((1 : Nat) : Int) = 1 from rfl] at f0
            have hO6 := Lib.hid hO6
            have hg := Lib.hid hg
            have wj : IntKind.i64.wrap ((j : Int) + 1) = (j : Int) + 1 := IntWalk.i64_in _ ⟨by omega, by omega⟩
            by_cases hjl : j < 520
            · have hjl' : (j : Int) < 520 := by omega
              go_wp2_with fail
              refine (HBa.out _).mono ?_
              rintro e w6 ⟨rfl, hg6⟩
              have hO7 := hO6.out.quiet hg6
              obtain ⟨hWy, _, _⟩ := Own.words hO7 1 rfl HSy.out.1.small (by omega)
              obtain ⟨hWx, _, _⟩ := Own.words hO7 2 rfl Hs0.out (by omega)
              obtain ⟨q1, o1, ea1, c1⟩ := hWy.cell j (by omega)
              obtain ⟨q2, o2, ea2, c2⟩ := hWx.cell j (by omega)
              rw [HEq.out j hjl] at c1
              subst ea1 ea2
              have hgE := Lib.hid (grown_trans hg.out hg6)
              generalize xs0.getD j 0 = V at c1 c2
              have x1 : ((V : Int) != (V : Int)) = false := by simp
              have jN : (j : Int) < (N : Int) := by omega
              clear hO7 hWy hWx hO6 hg hg6 f0 f1 f2
              go_wp2_with fail
              go_quiet (fail)
              go_wp2
              go_roundw
              case rel => exact ⟨j + 1, by omega, by go_num, grown_trans hgE.out (grown_drewN _ _ _)⟩
              case measure => simp [intOf]; omega
            · obtain rfl : j = 520 := by omega
              go_wp2_with fail
              refine (HBa.out _).mono ?_
              rintro e w6 ⟨rfl, hg6⟩
              have hOE2 := Lib.hid (hO6.out.quiet hg6)
              clear hO6 hg hg6 f0 f1 f2 hOE
              go_wp2
              go_roundw
              case rel => exact ⟨t + 1, ad2, cp2, ys, P', by omega, by go_num, rfl, HSy, hOE2⟩
              case measure => simp [intOf]; omega
    · obtain rfl : t = 2 := by omega
      have hlt' : ¬ ((2 : Nat) : Int) < 2 := by omega
      have HW := Lib.hid (works13_tab wr (tab_grown HTab.out hO.out.grown))
      have hgO := Lib.hid hO.out.grown
      clear hO HS
      go_wp2_with fail
      refine HW.out.mono ?_
      rintro e w5 ⟨rfl, hg⟩
      have hgE := Lib.hid (grown_trans hgO.out hg)
      go_wp2
      go_ret
      exact ⟨rfl, hgE.out⟩
theorem walk (a0 : Int) (a1 : Option Addr) (l1 c1 : Nat) (z1 : List Int) (w : World) (w0 : (Lit.int .u8 a0).wf = true) (w1 : RowIn .u8 w a1 l1 c1 z1) (ht : Lib.TabIs Tryd.prog w "math/bits.deBruijn64tab" .u8 tab) :
    Calls Tryd.prog 5 #[.int .u8 a0, .slice a1 l1 c1] w (Go.Ev.WorksIs w) := by
  have b1 := bounds_u8 w0
  obtain ⟨A, rfl⟩ := Int.eq_ofNat_of_zero_le b1.1
  obtain ⟨hl, hat, hwf⟩ := w1.at
  by_cases h : 30 < l1
  · exact walk_far _ a1 l1 c1 w ht h
  · exact walk_at A a1 l1 c1 _ w (by omega) (by omega) hl hat (fun z hz => bounds_u8 (hwf z hz)) ht
end Go.Proofs.YtmamgfjnphdecaaDoor.blocksBack
