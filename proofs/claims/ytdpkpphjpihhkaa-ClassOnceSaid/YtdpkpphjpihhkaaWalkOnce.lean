/- ClassOnce, walked. -/
import Derived.Test.YtdpkpphjpihhkaaOnceK
import Derived.Deep.DeepCutAuto
import Derived.Deep.CutBlock
namespace Go.Proofs.Ytdpkpphjpihhkaa.classOnce
open Go.RowKit Go.Grommet

def WorksOk (w : World) (e : Ending) (w' : World) : Prop := e = .returned (.bool true) ∧ w.grownBy w' none
theorem works11 (w : World) : Calls Try.prog 8 #[] w (WorksOk w) := (works_ev w).mono fun _ _ h => h
theorem own_last {w0 w : World} {a b c d e f g : Pr} (h : Own w0 w [a, b, c, d, e, f, g]) : Own w0 w [g, b, c] := by
  obtain ⟨Fs, h1, h2, h3, h4⟩ := h
  have key : ∀ j, j < [g, b, c].length → (fun j => [6, 1, 2].getD j 0) j < [a, b, c, d, e, f, g].length ∧ [g, b, c][j]? = [a, b, c, d, e, f, g][(fun j => [6, 1, 2].getD j 0) j]? := by
    intro j hj
    have hj3 : j = 0 ∨ j = 1 ∨ j = 2 := by simp at hj; omega
    rcases hj3 with rfl | rfl | rfl
    · exact ⟨by simp, rfl⟩
    · exact ⟨by simp, rfl⟩
    · exact ⟨by simp, rfl⟩
  have inj : ∀ i j, i < [g, b, c].length → j < [g, b, c].length → i ≠ j → (fun j => [6, 1, 2].getD j 0) i ≠ (fun j => [6, 1, 2].getD j 0) j := by
    intro i j hi hj hne
    have hi3 : i = 0 ∨ i = 1 ∨ i = 2 := by simp at hi; omega
    have hj3 : j = 0 ∨ j = 1 ∨ j = 2 := by simp at hj; omega
    rcases hi3 with rfl | rfl | rfl <;> rcases hj3 with rfl | rfl | rfl <;> first | exact absurd rfl hne | decide
  exact ⟨fun j => Fs ([6, 1, 2].getD j 0), fun k P hk => h1 _ P (by rw [← (key k (List.getElem?_eq_some_iff.1 hk).1).2]; exact hk), fun j k hj hk hne => h2 _ _ (key j hj).1 (key k hk).1 (inj j k hj hk hne), fun k hk => h3 _ (key k hk).1, h4⟩

set_option maxRecDepth 100000 in
set_option maxHeartbeats 8000000 in
theorem walk_at (ix : Nat) (td : Option Addr) (tl tc : Nat) (T : List Stq) (w : World) (hi : ix < 256) (hT : StqsIn w td tl T) :
    Calls Try.prog 4 #[.int .u8 (ix : Int), .slice td tl tc] w (WorksOk w) := by
  obtain ⟨a, Ha⟩ : ∃ a, Hid (a = ix % 4) := ⟨_, Lib.hid rfl⟩
  have ha4 : a < 4 := by rw [Ha.out]; omega
  have ea : (ix : Int) % 4 = (a : Int) := by rw [Ha.out]; omega
  have ea2 : Int.tmod (ix : Int) 4 = (a : Int) := by rw [Int.tmod_eq_emod_of_nonneg (by omega)]; exact ea
  have wix : IntKind.i64.wrap (ix : Int) = (ix : Int) := IntWalk.i64_in _ ⟨by omega, by omega⟩
  have wa : IntKind.i64.wrap (a : Int) = (a : Int) := IntWalk.i64_in _ ⟨by omega, by omega⟩
  obtain ⟨A, HA⟩ : ∃ A, Hid (A = 8 + 64 * a) := ⟨_, Lib.hid rfl⟩
  have HBg := Lib.hid (fun wx => begunH a A ha4 HA.out wx)
  have HGr := Lib.hid (greatH td tl tc T w hT)
  have HT := Lib.hid hT
  have Ha4 := Lib.hid ha4
  clear hT ha4
  go_enter Try.func4, Try.ntmps4
  go_wp2_with fail
  refine HGr.out.mono ?_
  rintro e w1 ⟨b, rfl, Hb, hw1⟩
  rw [hw1]
  clear hw1 HGr
  cases b with
  | true =>
    go_wp2_with fail
    refine (works11 _).mono ?_
    rintro e w5 ⟨rfl, hg⟩
    go_wp2
    go_ret
    exact ⟨rfl, hg⟩
  | false =>
  have HD := Lib.hid (Hb.out rfl)
  have htl60 : tl ≤ 60 := HD.out.1
  go_wp2_with fail
  refine (HBg.out _).mono ?_
  rintro e w2 ⟨q, cp, ys, rfl, Hs, hO⟩
  have HA2 := (hO.addBox 62 Try.zeroCells62).addBox 63 Try.zeroCells63
  obtain ⟨X, HX⟩ : ∃ X, Hid (X = w2.heap.size) := ⟨_, Lib.hid rfl⟩
  have hXs : w2.heap.size = X := HX.out.symm
  obtain ⟨Y, hY⟩ : ∃ Y, X + 1 = Y := ⟨_, rfl⟩
  have hYs : (w2.alloc (.cells Try.zeroCells62 62)).heap.size = Y := by rw [← hY, ← hXs]; simp
  rw [hXs, hYs] at HA2
  obtain ⟨w3, hw3⟩ : ∃ w3, (w2.alloc (.cells Try.zeroCells62 62)).alloc (.cells Try.zeroCells63 63) = w3 := ⟨_, rfl⟩
  rw [hw3] at HA2
  have hO3 : Hid (Own w w3 [rowP 36 1 (.slice (some ⟨q, 0, none⟩) 536 cp) 536 (ys.map wv), boxP X 62 Try.zeroCells62, boxP Y 63 Try.zeroCells63]) := Lib.hid HA2
  have HO0 := Lib.hid (Once.begun Hs.out (fun _ => zeroR))
  clear HA2 hO HBg Hb Hs
  go_wp2_with fail
  try rw [hw3]
  go_loopw [6, 7, 10] (fun fl mv i wr => ∃ (k m q cp : Nat) (ys : List Nat) (S : Nat → Nat) (R : Nat → OnceR) (isf : Nat → Bool) (hs bs : Array Value), k ≤ tl ∧ i = .int .i64 (k : Int) ∧ fl = .slice (some ⟨q, 0, none⟩) 536 cp ∧ mv = .int .u64 (m : Int) ∧ Hid (Once ys A m S R) ∧ Hid (Nums m S isf) ∧ Hid (Arrs R isf hs bs) ∧ Hid (Own w wr [rowP 36 1 (.slice (some ⟨q, 0, none⟩) 536 cp) 536 (ys.map wv), boxP X 62 hs, boxP Y 63 bs])) (fun _ _ i _ => tl - (intOf i).toNat)
  case atStart => exact ⟨0, 0, q, cp, ys, _, _, _, _, _, Nat.zero_le _, rfl, rfl, rfl, HO0, Lib.hid Nums.begun, Lib.hid (Arrs.begun _), hO3⟩
  case round =>
    clear hO3 HO0 hw3 hYs hXs hY HX
    obtain ⟨k, m, q, cp, ys, S, R, isf, hs, bs, hk, rfl, rfl, rfl, HO, HN, HA1, hO⟩ := hrel
    have k0 : (0 : Int) ≤ (k : Int) := by omega
    by_cases hlt : k < tl
    · have hlt' : (k : Int) < (tl : Int) := by omega
      obtain ⟨x, hx⟩ : ∃ x, T[k]? = some x := ⟨T[k]'(by rw [HT.out.1]; exact hlt), List.getElem?_eq_getElem _⟩
      obtain ⟨g2, o2, htd, c0, c1, c2, c3, c4, c5, c6, c7, c8⟩ := (HT.out.grown hO.out.grown).2.2 k x hx
      subst htd
      obtain ⟨ok0, ok1, ok2, ok3, ok4, ok5, ok6, ok7⟩ := HT.out.2.1 x (List.mem_of_getElem? hx)
      have hd1 := HD.out.2 k x hx
      clear hx
      obtain ⟨xdo, xi, xgen, xn, xerr, xa, xb, xd, xdrop⟩ := x
      dsimp only at c0 c1 c2 c3 c4 c5 c6 c7 c8 ok0 ok1 ok2 ok3 ok4 ok5 ok6 ok7 hd1
      have b0 := bounds_u8 ok0
      have b3 := bounds_u64 ok3
      have b5 := bounds_u64 ok5
      have b6 := bounds_u64 ok6
      obtain ⟨DO, rfl⟩ := Int.eq_ofNat_of_zero_le b0.1
      obtain ⟨N, rfl⟩ := Int.eq_ofNat_of_zero_le b3.1
      obtain ⟨RA, rfl⟩ := Int.eq_ofNat_of_zero_le b5.1
      obtain ⟨RB, rfl⟩ := Int.eq_ofNat_of_zero_le b6.1
      have HRA := Lib.hid (show RA < 18446744073709551616 by omega)
      have HRB := Lib.hid (show RB < 18446744073709551616 by omega)
      obtain ⟨r, Hr⟩ : ∃ r, Hid (r = N % 70) := ⟨_, Lib.hid rfl⟩
      have hr70 : r < 70 := by rw [Hr.out]; omega
      have e1 : (N : Int) % 70 = (r : Int) := by rw [Hr.out]; omega
      have e1' : Int.tmod (N : Int) 70 = (r : Int) := by rw [Int.tmod_eq_emod_of_nonneg (by omega)]; exact e1
      have wr1 : IntKind.u64.wrap (r : Int) = (r : Int) := IntWalk.u64_in _ ⟨by omega, by omega⟩
      obtain ⟨nn, Hne⟩ : ∃ nn, Hid (nn = 1 + r) := ⟨_, Lib.hid rfl⟩
      have Hnn : Hid (1 ≤ nn ∧ nn ≤ 70) := Lib.hid (by rw [Hne.out]; omega)
      have e2 : IntKind.u64.wrap (1 + (r : Int)) = (nn : Int) := by rw [IntWalk.u64_in _ ⟨by omega, by omega⟩, Hne.out]; omega
      obtain ⟨P, HP⟩ : ∃ P, Hid (P = DO % 2) := ⟨_, Lib.hid rfl⟩
      have hP2 : P < 2 := by rw [HP.out]; omega
      have e4 : (DO : Int) % 2 = (P : Int) := by rw [HP.out]; omega
      have e4' : Int.tmod (DO : Int) 2 = (P : Int) := by rw [Int.tmod_eq_emod_of_nonneg (by omega)]; exact e4
      have wP : IntKind.u8.wrap (P : Int) = (P : Int) := IntWalk.u8_in _ ⟨by omega, by omega⟩
      obtain ⟨Z, hZ⟩ : ∃ Z, wr.heap.size = Z := ⟨_, rfl⟩
      have hO5 := hO.out.addBox 41 #[.int .u8 (DO : Int), .int .i64 xi, .int .u64 xgen, .int .u64 (N : Int), .int .i64 xerr, .int .u64 (RA : Int), .int .u64 (RB : Int), .string xd, .bool xdrop]
      rw [hZ] at hO5
      obtain ⟨w5, hw5⟩ : ∃ w5, wr.alloc (.cells #[.int .u8 (DO : Int), .int .i64 xi, .int .u64 xgen, .int .u64 (N : Int), .int .i64 xerr, .int .u64 (RA : Int), .int .u64 (RB : Int), .string xd, .bool xdrop] 41) = w5 := ⟨_, rfl⟩
      rw [hw5] at hO5
      have hO5 : Own w w5 [rowP 36 1 (.slice (some ⟨q, 0, none⟩) 536 cp) 536 (ys.map wv), boxP X 62 hs, boxP Y 63 bs, boxP Z 41 #[.int .u8 (DO : Int), .int .i64 xi, .int .u64 xgen, .int .u64 (N : Int), .int .i64 xerr, .int .u64 (RA : Int), .int .u64 (RB : Int), .string xd, .bool xdrop]] := hO5
      have hbZ : w5.heap[Z]? = some (.cells #[.int .u8 (DO : Int), .int .i64 xi, .int .u64 xgen, .int .u64 (N : Int), .int .i64 xerr, .int .u64 (RA : Int), .int .u64 (RB : Int), .string xd, .bool xdrop] 41 (0, 0)) := Own.box hO5 3 rfl
      have z3 : w5.cell? ⟨Z, 3, none⟩ = some (.int .u64 (N : Int)) := by simp [World.cell?, hbZ]
      obtain ⟨hW, hnil, _⟩ := Own.words hO5 0 rfl HO.out.small (by decide)
      have HNew := Lib.hid (NewH (some ⟨q, 0, none⟩) 536 cp ys w _ _ hO5 hW (by decide) hnil)
      have Hlt := Lib.hid (show k + 1 ≤ tl by omega)
      have hm70 := HN.out.ml
      have wm4 : IntKind.u64.wrap ((m : Int) + 4) = (m : Int) + 4 := IntWalk.u64_in _ ⟨by omega, by omega⟩
      clear hO hO5 hbZ hW hnil ok0 ok1 ok2 ok3 ok4 ok5 ok6 ok7 b0 b3 b5 b6 hlt hk hd1 hr70 hm70
      go_wp2_with fail
      try rw [hw5]
      refine HNew.out.mono ?_
      rintro e w6 ⟨g, rfl, hO6⟩
      have hO6 : Own w w6 [rowP 36 1 (.slice (some ⟨q, 0, none⟩) 536 cp) 536 (ys.map wv), boxP X 62 hs, boxP Y 63 bs, boxP Z 41 #[.int .u8 (DO : Int), .int .i64 xi, .int .u64 xgen, .int .u64 (N : Int), .int .i64 xerr, .int .u64 (RA : Int), .int .u64 (RB : Int), .string xd, .bool xdrop], viewP g ys []] := hO6
      clear c0 c1 c2 c3 c4 c5 c6 c7 c8 z3 hZ hw5 HNew e1 e1' wr1 e2
      obtain ⟨c, hc⟩ : ∃ c, OfR m nn (S (nn % 4)) = c := ⟨_, rfl⟩
      obtain ⟨p, hp⟩ : ∃ p : OnceR, (c = 1 → p = R nn) ∧ (c ≠ 1 → p = zeroR) := by
        by_cases e : c = 1
        · exact ⟨R nn, fun _ => rfl, fun h => absurd e h⟩
        · exact ⟨zeroR, fun h => absurd h e, fun _ => rfl⟩
      have HOf := Lib.hid (HO.out.of Ha4.out HA.out 4 g nn Hnn.out.1 Hnn.out.2 c hc p hp w w6 _ hO6 rfl)
      have Hcs : Hid ((nn ≤ m ∧ c = 2) ∨ (m + 4 < nn ∧ c = 3) ∨ (m < nn ∧ nn ≤ m + 4 ∧ isf nn = true ∧ c = 1) ∨ (m < nn ∧ nn ≤ m + 4 ∧ isf nn = false ∧ c = 0)) := Lib.hid (by
        rcases OfR_cases m nn (S (nn % 4)) with ⟨h1, h2⟩ | ⟨h1, h2⟩ | ⟨h1, h2, h3, h4⟩ | ⟨h1, h2, h3, h4⟩
        · exact .inl ⟨h1, by rw [← hc, h2]⟩
        · exact .inr (.inl ⟨h1, by rw [← hc, h2]⟩)
        · exact .inr (.inr (.inl ⟨h1, h2, (HN.out.is nn h1).2 h3, by rw [← hc, h4]⟩))
        · exact .inr (.inr (.inr ⟨h1, h2, by
            cases hb : isf nn with
            | false => rfl
            | true => exact absurd ((HN.out.is nn h1).1 hb) h3, by rw [← hc, h4]⟩)))
      have Hp := Lib.hid hp
      clear hc hp hO6
      go_wp2_with fail
      refine HOf.out.mono ?_
      rintro e w7 ⟨rfl, hO7⟩
      clear HOf
      obtain ⟨V, hV⟩ : ∃ V, w7.heap.size = V := ⟨_, rfl⟩
      have hO8 := hO7.addBox 39 #[.int .i64 (p.en : Int), .int .u64 (p.ra : Int), .int .u64 (p.rb : Int), .string p.d]
      rw [hV] at hO8
      obtain ⟨w8, hw8⟩ : ∃ w8, w7.alloc (.cells #[.int .i64 (p.en : Int), .int .u64 (p.ra : Int), .int .u64 (p.rb : Int), .string p.d] 39) = w8 := ⟨_, rfl⟩
      rw [hw8] at hO8
      have hO8 : Hid (Own w w8 [rowP 36 1 (.slice (some ⟨q, 0, none⟩) 536 cp) 536 (ys.map wv), boxP X 62 hs, boxP Y 63 bs, boxP Z 41 #[.int .u8 (DO : Int), .int .i64 xi, .int .u64 xgen, .int .u64 (N : Int), .int .i64 xerr, .int .u64 (RA : Int), .int .u64 (RB : Int), .string xd, .bool xdrop], viewP g ys [], boxP V 39 #[.int .i64 (p.en : Int), .int .u64 (p.ra : Int), .int .u64 (p.rb : Int), .string p.d]]) := Lib.hid hO8
      clear hO7
      go_upto_block 2 with fail
      try rw [hw8]
      clear hw8 hV
      have nb1 : (nn : Int) < 80 := by have := Hnn.out; omega
      have nb0 : (0 : Int) ≤ (nn : Int) := by omega
      go_cut [17] (fun wt wx => wt = .int .u8 (c : Int) ∧ wx = w8)
      case first =>
        as_aux_lemma =>
        have hbY : w8.heap[Y]? = some (.cells bs 63 (0, 0)) := Own.box hO8.out 2 rfl
        have hyc := HA1.out.b nn (by omega)
        rcases Hcs.out with ⟨h1, h2⟩ | ⟨h1, h2⟩ | ⟨h1, h2, h3, h4⟩ | ⟨h1, h2, h3, h4⟩
        · have d1 : decide ((nn : Int) ≤ (m : Int)) = true := by simp; omega
          have d1' : (nn : Int) ≤ (m : Int) := by omega
          subst h2
          clear hbY hyc
          go_wp2_with fail
          go_meet
          case rel => exact ⟨rfl, rfl⟩
        · have d1 : decide ((nn : Int) ≤ (m : Int)) = false := by simp; omega
          have d1' : ¬ (nn : Int) ≤ (m : Int) := by omega
          have d2 : (m : Int) + 4 < (nn : Int) := by omega
          subst h2
          clear hbY hyc
          go_wp2_with fail
          go_meet
          case rel => exact ⟨rfl, rfl⟩
        · have d1 : decide ((nn : Int) ≤ (m : Int)) = false := by simp; omega
          have d1' : ¬ (nn : Int) ≤ (m : Int) := by omega
          have d2 : ¬ (m : Int) + 4 < (nn : Int) := by omega
          rw [h3] at hyc
          have y1 : w8.cell? ⟨Y, nn, none⟩ = some (.bool true) := by simp [World.cell?, hbY, hyc]
          subst h4
          clear hbY hyc h3
          go_wp2_with fail
          go_meet
          case rel => exact ⟨rfl, rfl⟩
        · have d1 : decide ((nn : Int) ≤ (m : Int)) = false := by simp; omega
          have d1' : ¬ (nn : Int) ≤ (m : Int) := by omega
          have d2 : ¬ (m : Int) + 4 < (nn : Int) := by omega
          rw [h3] at hyc
          have y1 : w8.cell? ⟨Y, nn, none⟩ = some (.bool false) := by simp [World.cell?, hbY, hyc]
          subst h4
          clear hbY hyc h3
          go_wp2_with fail
          go_meet
          case rel => exact ⟨rfl, rfl⟩
      case rest =>
      obtain ⟨rfl, rfl⟩ := hcut
      go_upto_region 26 with fail
      go_cut [98] (fun s wx => s = .bool false ∧ Hid (Own w wx [rowP 36 1 (.slice (some ⟨q, 0, none⟩) 536 cp) 536 (ys.map wv), boxP X 62 hs, boxP Y 63 bs, boxP Z 41 #[.int .u8 (DO : Int), .int .i64 xi, .int .u64 xgen, .int .u64 (N : Int), .int .i64 xerr, .int .u64 (RA : Int), .int .u64 (RB : Int), .string xd, .bool xdrop], viewP g ys [], boxP V 39 #[.int .i64 (p.en : Int), .int .u64 (p.ra : Int), .int .u64 (p.rb : Int), .string p.d]]))
      case first =>
        as_aux_lemma =>
        have hbV : wc.heap[V]? = some (.cells #[.int .i64 (p.en : Int), .int .u64 (p.ra : Int), .int .u64 (p.rb : Int), .string p.d] 39 (0, 0)) := Own.box hO8.out 5 rfl
        have hbX : wc.heap[X]? = some (.cells hs 62 (0, 0)) := Own.box hO8.out 1 rfl
        have qc : ((c : Int) != (c : Int)) = false := by simp
        by_cases c1 : c = 1
        · have hp := Hp.out.1 c1
          have hin : isf nn = true := by
            rcases Hcs.out with ⟨h1, h2⟩ | ⟨h1, h2⟩ | ⟨h1, h2, h3, h4⟩ | ⟨h1, h2, h3, h4⟩
            · omega
            · omega
            · exact h3
            · omega
          obtain ⟨a0, a1, a2, a3⟩ := HA1.out.h nn (by omega) hin
          rw [← hp] at a0 a1 a2 a3
          have x0 : wc.cell? ⟨X, nn * 4, none⟩ = some (.int .i64 (p.en : Int)) := by simp [World.cell?, hbX, a0]
          have x1 : wc.cell? ⟨X, nn * 4 + 1, none⟩ = some (.int .u64 (p.ra : Int)) := by simp [World.cell?, hbX, a1]
          have x2 : wc.cell? ⟨X, nn * 4 + 2, none⟩ = some (.int .u64 (p.rb : Int)) := by simp [World.cell?, hbX, a2]
          have x3 : wc.cell? ⟨X, nn * 4 + 3, none⟩ = some (.string p.d) := by simp [World.cell?, hbX, a3]
          have v0 : wc.cell? ⟨V, 0, none⟩ = some (.int .i64 (p.en : Int)) := by simp [World.cell?, hbV]
          have v1 : wc.cell? ⟨V, 1, none⟩ = some (.int .u64 (p.ra : Int)) := by simp [World.cell?, hbV]
          have v2 : wc.cell? ⟨V, 2, none⟩ = some (.int .u64 (p.rb : Int)) := by simp [World.cell?, hbV]
          have v3 : wc.cell? ⟨V, 3, none⟩ = some (.string p.d) := by simp [World.cell?, hbV]
          have heq := fun wx => res_same1 p.en p.ra p.rb p.d wx
          have q3 : ((c : Int) == 1) = true := by rw [c1]; rfl
          have q4 : ((c : Int) != 1) = false := by rw [c1]; rfl
          clear hbV hbX c1 hp hin a0 a1 a2 a3
          go_wp2_with fail
          go_quiet (fail)
          go_wp2
          go_meet
          case rel => exact ⟨rfl, Lib.hid (hO8.out.quiet (grown_drewN _ _ _))⟩
        · have hp := Hp.out.2 c1
          have v0 : wc.cell? ⟨V, 0, none⟩ = some (.int .i64 0) := by rw [hp] at hbV; simp [World.cell?, hbV]; rfl
          have v1 : wc.cell? ⟨V, 1, none⟩ = some (.int .u64 0) := by rw [hp] at hbV; simp [World.cell?, hbV]; rfl
          have v2 : wc.cell? ⟨V, 2, none⟩ = some (.int .u64 0) := by rw [hp] at hbV; simp [World.cell?, hbV]; rfl
          have v3 : wc.cell? ⟨V, 3, none⟩ = some (.string ⟨#[]⟩) := by rw [hp] at hbV; simp [World.cell?, hbV]; rfl
          have heq : ∀ wx : World, (binOp .neq 39 (.agg #[.int .i64 0, .int .u64 0, .int .u64 0, .string ⟨#[]⟩]) (.agg #[.int .i64 0, .int .u64 0, .int .u64 0, .string ⟨#[]⟩])).run Try.prog wx = .ok (.bool false) wx := fun _ => by kernel_rfl
          have q3 : ((c : Int) == 1) = false := by rw [beq_eq_false_iff_ne]; omega
          have q4 : ((c : Int) != 1) = true := by simp; omega
          clear hbV hbX c1 hp
          go_wp2_with fail
          go_quiet (fail)
          go_wp2
          go_meet
          case rel => exact ⟨rfl, Lib.hid (hO8.out.quiet (grown_drewN _ _ _))⟩
      case rest =>
      obtain ⟨rfl, hOc⟩ := hcut
      clear hO8 Hp
      by_cases hP1 : P = 1
      · as_aux_lemma =>
        have q0 : ((P : Int) == 0) = false := by rw [hP1]; rfl
        have q1 : ((P : Int) == 1) = true := by rw [hP1]; rfl
        have hbZ : wc.heap[Z]? = some (.cells #[.int .u8 (DO : Int), .int .i64 xi, .int .u64 xgen, .int .u64 (N : Int), .int .i64 xerr, .int .u64 (RA : Int), .int .u64 (RB : Int), .string xd, .bool xdrop] 41 (0, 0)) := Own.box hOc.out 3 rfl
        have z0 : wc.cell? ⟨Z, 0, none⟩ = some (.int .u8 (DO : Int)) := by simp [World.cell?, hbZ]
        have z4 : wc.cell? ⟨Z, 4, none⟩ = some (.int .i64 xerr) := by simp [World.cell?, hbZ]
        have z5 : wc.cell? ⟨Z, 5, none⟩ = some (.int .u64 (RA : Int)) := by simp [World.cell?, hbZ]
        have z6 : wc.cell? ⟨Z, 6, none⟩ = some (.int .u64 (RB : Int)) := by simp [World.cell?, hbZ]
        have z7 : wc.cell? ⟨Z, 7, none⟩ = some (.string xd) := by simp [World.cell?, hbZ]
        clear hbZ
        clear hP1
        obtain ⟨M, hM⟩ : ∃ M, ackM S (nn - m) m = M := ⟨_, rfl⟩
        have HM := Lib.hid hM
        clear hM
        go_wp2_with fail
        go_loopw [18] (fun tv wr => ∃ t : Nat, tv = .int .u64 (t : Int) ∧ Hid (m ≤ t ∧ t ≤ 70) ∧ Hid (ackM S (nn - t) t = M) ∧ Hid (Own w wr [rowP 36 1 (.slice (some ⟨q, 0, none⟩) 536 cp) 536 (ys.map wv), boxP X 62 hs, boxP Y 63 bs, boxP Z 41 #[.int .u8 (DO : Int), .int .i64 xi, .int .u64 xgen, .int .u64 (N : Int), .int .i64 xerr, .int .u64 (RA : Int), .int .u64 (RB : Int), .string xd, .bool xdrop], viewP g ys [], boxP V 39 #[.int .i64 (p.en : Int), .int .u64 (p.ra : Int), .int .u64 (p.rb : Int), .string p.d]])) (fun tv _ => nn - (intOf tv).toNat)
        case atStart => exact ⟨m, rfl, Lib.hid ⟨Nat.le_refl _, HN.out.ml⟩, HM, hOc⟩
        case round =>
          clear hOc z0 z4 z5 z6 z7
          obtain ⟨t, rfl, Ht, HMt, hOt⟩ := hrel
          obtain ⟨t1, ht1⟩ : ∃ t1, t + 1 = t1 := ⟨_, rfl⟩
          have et : (t : Int) + 1 = (t1 : Int) := by omega
          have wt : IntKind.u64.wrap (t1 : Int) = (t1 : Int) := IntWalk.u64_in _ ⟨by omega, by have := Ht.out; omega⟩
          have tb0 : (0 : Int) ≤ (t1 : Int) := by omega
          have tb1 : (t1 : Int) < 80 := by have := Ht.out; omega
          have t0 : (0 : Int) ≤ (t : Int) := by omega
          by_cases hlt2 : t < nn
          · have l2 : (t : Int) < (nn : Int) := by omega
            have hbY : wr.heap[Y]? = some (.cells bs 63 (0, 0)) := Own.box hOt.out 2 rfl
            obtain ⟨f, hf⟩ : ∃ f, nn - t = f + 1 := ⟨nn - t - 1, by omega⟩
            have hf2 : f = nn - t1 := by omega
            have hst := HMt.out
            rw [hf] at hst
            unfold ackM at hst
            rw [ht1] at hst
            have hiff := HN.out.is t1 (by have := Ht.out; omega)
            cases hib : isf t1 with
            | true =>
              have y1 : wr.cell? ⟨Y, t1, none⟩ = some (.bool true) := by
                have := HA1.out.b t1 (by omega)
                rw [hib] at this
                simp [World.cell?, hbY, this]
              rw [if_pos (hiff.1 hib), hf2] at hst
              have HM3 := Lib.hid hst
              have Ht3 : Hid (m ≤ t1 ∧ t1 ≤ 70) := Lib.hid (by have := Ht.out; have := Hnn.out; omega)
              have Hl := Lib.hid (show nn - t1 < nn - t by omega)
              clear hbY hst hiff hib hf hf2 hlt2 ht1
              go_wp2
              go_roundw
              case rel => exact ⟨t1, by go_num, Ht3, HM3, hOt⟩
              case measure => have := Hl.out; simp [intOf]; omega
            | false =>
              have y1 : wr.cell? ⟨Y, t1, none⟩ = some (.bool false) := by
                have := HA1.out.b t1 (by omega)
                rw [hib] at this
                simp [World.cell?, hbY, this]
              rw [if_neg (fun e => by have := hiff.2 e; rw [hib] at this; cases this)] at hst
              have HM2 : Hid (ackM S (nn - m) m = t) := Lib.hid (by rw [HM.out, hst])
              clear hbY hst hiff hib hf hf2 hlt2 ht1
              have HAk := Lib.hid (HO.out.ack Ha4.out HA.out HN.out.ml 4 g nn t Hnn.out.2 HM2.out w _ _ hOt.out rfl)
              have qM : ((t : Int) != (t : Int)) = false := by simp
              go_wp2_with fail
              refine HAk.out.mono ?_
              rintro e w9 ⟨L, rfl, hO9, HLx⟩
              have hOx : Hid (Own w w9 [rowP 36 1 (.slice (some ⟨q, 0, none⟩) 536 cp) 536 (ys.map wv), boxP X 62 hs, boxP Y 63 bs, boxP Z 41 #[.int .u8 (DO : Int), .int .i64 xi, .int .u64 xgen, .int .u64 (N : Int), .int .i64 xerr, .int .u64 (RA : Int), .int .u64 (RB : Int), .string xd, .bool xdrop], viewP g ys L, boxP V 39 #[.int .i64 (p.en : Int), .int .u64 (p.ra : Int), .int .u64 (p.rb : Int), .string p.d]]) := Lib.hid hO9
              clear HAk hO9 hOt
              have HN2 : Hid (Nums t S isf) := Lib.hid (by have := HN.out.ack Hnn.out.2; rwa [HM2.out] at this)
              have HFg := Lib.hid (FlatH 4 g ys L w _ _ hOx.out rfl)
              rw [HO.out.len] at HFg
              have HOz : Hid (Once (flatV ys L) A t (S) (R)) := Lib.hid (HLx.out (Own.wl hOx.out 4 rfl).1)
              generalize flatV ys L = zs at HFg HOz
              clear hOx HLx
              go_wp2_with fail
              refine HFg.out.mono ?_
              rintro e wF ⟨adF, cpF, rfl, hOF⟩
              obtain ⟨qF, rfl⟩ : ∃ qF, adF = some ⟨qF, 0, none⟩ := by
                obtain ⟨b, he, _⟩ := Own.word hOF 6 rfl HOz.out.len 0 (by decide)
                exact ⟨b, he⟩
              have hOG := Lib.hid (own_last hOF)
              clear hOF HFg
              go_wp2
              go_roundw
              case rel => exact ⟨k + 1, t, qF, cpF, zs, S, R, isf, hs, bs, Hlt.out, by go_num, rfl, rfl, HOz, HN2, HA1, hOG⟩
              case measure => have := Hlt.out; simp [intOf]; omega
          · have l2 : ¬ (t : Int) < (nn : Int) := by omega
            have HM2 : Hid (ackM S (nn - m) m = t) := Lib.hid (by
              have hst := HMt.out
              rw [show nn - t = 0 by omega] at hst
              rw [HM.out]; exact hst.symm)
            clear hlt2 ht1
            have HAk := Lib.hid (HO.out.ack Ha4.out HA.out HN.out.ml 4 g nn t Hnn.out.2 HM2.out w _ _ hOt.out rfl)
            have qM : ((t : Int) != (t : Int)) = false := by simp
            go_wp2_with fail
            refine HAk.out.mono ?_
            rintro e w9 ⟨L, rfl, hO9, HLx⟩
            have hOx : Hid (Own w w9 [rowP 36 1 (.slice (some ⟨q, 0, none⟩) 536 cp) 536 (ys.map wv), boxP X 62 hs, boxP Y 63 bs, boxP Z 41 #[.int .u8 (DO : Int), .int .i64 xi, .int .u64 xgen, .int .u64 (N : Int), .int .i64 xerr, .int .u64 (RA : Int), .int .u64 (RB : Int), .string xd, .bool xdrop], viewP g ys L, boxP V 39 #[.int .i64 (p.en : Int), .int .u64 (p.ra : Int), .int .u64 (p.rb : Int), .string p.d]]) := Lib.hid hO9
            clear HAk hO9 hOt
            have HN2 : Hid (Nums t S isf) := Lib.hid (by have := HN.out.ack Hnn.out.2; rwa [HM2.out] at this)
            have HFg := Lib.hid (FlatH 4 g ys L w _ _ hOx.out rfl)
            rw [HO.out.len] at HFg
            have HOz : Hid (Once (flatV ys L) A t (S) (R)) := Lib.hid (HLx.out (Own.wl hOx.out 4 rfl).1)
            generalize flatV ys L = zs at HFg HOz
            clear hOx HLx
            go_wp2_with fail
            refine HFg.out.mono ?_
            rintro e wF ⟨adF, cpF, rfl, hOF⟩
            obtain ⟨qF, rfl⟩ : ∃ qF, adF = some ⟨qF, 0, none⟩ := by
              obtain ⟨b, he, _⟩ := Own.word hOF 6 rfl HOz.out.len 0 (by decide)
              exact ⟨b, he⟩
            have hOG := Lib.hid (own_last hOF)
            clear hOF HFg
            go_wp2
            go_roundw
            case rel => exact ⟨k + 1, t, qF, cpF, zs, S, R, isf, hs, bs, Hlt.out, by go_num, rfl, rfl, HOz, HN2, HA1, hOG⟩
            case measure => have := Hlt.out; simp [intOf]; omega
      · have hP0 : P = 0 := by omega
        as_aux_lemma =>
        clear hP1
        have q0 : ((P : Int) == 0) = true := by rw [hP0]; rfl
        have q1 : ((P : Int) == 1) = false := by rw [hP0]; rfl
        have hbZ : wc.heap[Z]? = some (.cells #[.int .u8 (DO : Int), .int .i64 xi, .int .u64 xgen, .int .u64 (N : Int), .int .i64 xerr, .int .u64 (RA : Int), .int .u64 (RB : Int), .string xd, .bool xdrop] 41 (0, 0)) := Own.box hOc.out 3 rfl
        have z0 : wc.cell? ⟨Z, 0, none⟩ = some (.int .u8 (DO : Int)) := by simp [World.cell?, hbZ]
        have z4 : wc.cell? ⟨Z, 4, none⟩ = some (.int .i64 xerr) := by simp [World.cell?, hbZ]
        have z5 : wc.cell? ⟨Z, 5, none⟩ = some (.int .u64 (RA : Int)) := by simp [World.cell?, hbZ]
        have z6 : wc.cell? ⟨Z, 6, none⟩ = some (.int .u64 (RB : Int)) := by simp [World.cell?, hbZ]
        have z7 : wc.cell? ⟨Z, 7, none⟩ = some (.string xd) := by simp [World.cell?, hbZ]
        clear hbZ
        clear hP0
        by_cases c0 : c = 0
        · have q2 : ((c : Int) == 0) = true := by rw [c0]; rfl
          have HMy := Lib.hid (fun wx => slotMay_any xerr (RA : Int) (RB : Int) xd wx)
          cases hb : mayR xerr xd.size with
          | false =>
            rw [hb] at HMy
            clear c0 hb
            go_wp2_with fail
            refine (HMy.out _).mono ?_
            rintro e wM ⟨rfl, hgM⟩
            have hOx := Lib.hid (hOc.out.quiet hgM)
            have z0 := hgM.cell z0 (by simp)
            clear hOc hgM z4 z5 z6 z7 HMy
            have HLx : Hid (Wl ys.length [] → Once (flatV ys []) A m S R) := Lib.hid (fun _ => HO.out)
            have HFg := Lib.hid (FlatH 4 g ys [] w _ _ hOx.out rfl)
            rw [HO.out.len] at HFg
            have HOz : Hid (Once (flatV ys []) A m (S) (R)) := Lib.hid (HLx.out (Own.wl hOx.out 4 rfl).1)
            generalize flatV ys [] = zs at HFg HOz
            clear hOx HLx
            go_wp2_with fail
            refine HFg.out.mono ?_
            rintro e wF ⟨adF, cpF, rfl, hOF⟩
            obtain ⟨qF, rfl⟩ : ∃ qF, adF = some ⟨qF, 0, none⟩ := by
              obtain ⟨b, he, _⟩ := Own.word hOF 6 rfl HOz.out.len 0 (by decide)
              exact ⟨b, he⟩
            have hOG := Lib.hid (own_last hOF)
            clear hOF HFg
            go_wp2
            go_roundw
            case rel => exact ⟨k + 1, m, qF, cpF, zs, S, R, isf, hs, bs, Hlt.out, by go_num, rfl, rfl, HOz, HN, HA1, hOG⟩
            case measure => have := Hlt.out; simp [intOf]; omega
          | true =>
            rw [hb] at HMy
            obtain ⟨h1, h2, h3⟩ : 0 ≤ xerr ∧ xerr ≤ 24 ∧ xd.size ≤ 64 := by
              unfold mayR at hb
              simp only [Bool.and_eq_true, decide_eq_true_eq] at hb
              exact ⟨hb.1.1, hb.1.2, hb.2⟩
            obtain ⟨en, rfl⟩ := Int.eq_ofNat_of_zero_le h1
            have hcs : m < nn ∧ nn ≤ m + 4 := by
              have := Hcs.out
              omega
            have HN3 := Lib.hid (HN.out.save hcs.1 hcs.2)
            have HA3 := Lib.hid (HA1.out.save nn (by have := Hnn.out; omega) ⟨en, RA, RB, xd⟩)
            have HSv := Lib.hid (fun wx hOy => HO.out.save Ha4.out HA.out HN.out.mo 4 g nn Hnn.out.1 Hnn.out.2 ⟨en, RA, RB, xd⟩ (by dsimp only; omega) h3 HRA.out HRB.out w wx [rowP 36 1 (.slice (some ⟨q, 0, none⟩) 536 cp) 536 (ys.map wv), boxP X 62 hs, boxP Y 63 bs, boxP Z 41 #[.int .u8 (DO : Int), .int .i64 xi, .int .u64 xgen, .int .u64 (N : Int), .int .i64 (en : Int), .int .u64 (RA : Int), .int .u64 (RB : Int), .string xd, .bool xdrop], viewP g ys [], boxP V 39 #[.int .i64 (p.en : Int), .int .u64 (p.ra : Int), .int .u64 (p.rb : Int), .string p.d]] hOy rfl)
            obtain ⟨r4, hr4⟩ : ∃ r4, nn % 4 = r4 := ⟨_, rfl⟩
            rw [hr4] at HSv HN3
            have e5 : (nn : Int) % 4 = (r4 : Int) := by omega
            have e5' : Int.tmod (nn : Int) 4 = (r4 : Int) := by rw [Int.tmod_eq_emod_of_nonneg (by omega)]; exact e5
            have w51 : IntKind.u64.wrap (r4 : Int) = (r4 : Int) := IntWalk.u64_in _ ⟨by omega, by omega⟩
            have w52 : IntKind.i64.wrap (r4 : Int) = (r4 : Int) := IntWalk.i64_in _ ⟨by omega, by omega⟩
            have nb1 : (nn : Int) < 80 := by have := Hnn.out; omega
            have nb0 : (0 : Int) ≤ (nn : Int) := by omega
            clear c0 hb h1 h2 h3 hcs hr4
            go_wp2_with fail
            refine (HMy.out _).mono ?_
            rintro e wM ⟨rfl, hgM⟩
            have hOx := Lib.hid (hOc.out.quiet hgM)
            clear z0 z4 z5 z6 z7
            have hbZ : wM.heap[Z]? = some (.cells #[.int .u8 (DO : Int), .int .i64 xi, .int .u64 xgen, .int .u64 (N : Int), .int .i64 (en : Int), .int .u64 (RA : Int), .int .u64 (RB : Int), .string xd, .bool xdrop] 41 (0, 0)) := Own.box hOx.out 3 rfl
            have z0 : wM.cell? ⟨Z, 0, none⟩ = some (.int .u8 (DO : Int)) := by simp [World.cell?, hbZ]
            have z4 : wM.cell? ⟨Z, 4, none⟩ = some (.int .i64 (en : Int)) := by simp [World.cell?, hbZ]
            have z5 : wM.cell? ⟨Z, 5, none⟩ = some (.int .u64 (RA : Int)) := by simp [World.cell?, hbZ]
            have z6 : wM.cell? ⟨Z, 6, none⟩ = some (.int .u64 (RB : Int)) := by simp [World.cell?, hbZ]
            have z7 : wM.cell? ⟨Z, 7, none⟩ = some (.string xd) := by simp [World.cell?, hbZ]
            clear hbZ
            clear hOc hgM HMy
            go_wp2_with fail
            refine (HSv.out _ hOx.out).mono ?_
            rintro e w9 ⟨L, rfl, hO9, HLx⟩
            have hO9 : Own w w9 [rowP 36 1 (.slice (some ⟨q, 0, none⟩) 536 cp) 536 (ys.map wv), boxP X 62 hs, boxP Y 63 bs, boxP Z 41 #[.int .u8 (DO : Int), .int .i64 xi, .int .u64 xgen, .int .u64 (N : Int), .int .i64 (en : Int), .int .u64 (RA : Int), .int .u64 (RB : Int), .string xd, .bool xdrop], viewP g ys L, boxP V 39 #[.int .i64 (p.en : Int), .int .u64 (p.ra : Int), .int .u64 (p.rb : Int), .string p.d]] := hO9
            clear z0 z4 z5 z6 z7 hOx HSv
            have hbZ : w9.heap[Z]? = some (.cells #[.int .u8 (DO : Int), .int .i64 xi, .int .u64 xgen, .int .u64 (N : Int), .int .i64 (en : Int), .int .u64 (RA : Int), .int .u64 (RB : Int), .string xd, .bool xdrop] 41 (0, 0)) := Own.box hO9 3 rfl
            have z0 : w9.cell? ⟨Z, 0, none⟩ = some (.int .u8 (DO : Int)) := by simp [World.cell?, hbZ]
            have z4 : w9.cell? ⟨Z, 4, none⟩ = some (.int .i64 (en : Int)) := by simp [World.cell?, hbZ]
            have z5 : w9.cell? ⟨Z, 5, none⟩ = some (.int .u64 (RA : Int)) := by simp [World.cell?, hbZ]
            have z6 : w9.cell? ⟨Z, 6, none⟩ = some (.int .u64 (RB : Int)) := by simp [World.cell?, hbZ]
            have z7 : w9.cell? ⟨Z, 7, none⟩ = some (.string xd) := by simp [World.cell?, hbZ]
            clear hbZ
            have hbY : w9.heap[Y]? = some (.cells bs 63 (0, 0)) := Own.box hO9 2 rfl
            have hbX : w9.heap[X]? = some (.cells hs 62 (0, 0)) := Own.box hO9 1 rfl
            have hn80 : nn < 80 := by omega
            have y1 : w9.cell? ⟨Y, nn, none⟩ = some (.bool (isf nn)) := by simp [World.cell?, hbY, HA1.out.b nn hn80]
            have yf : w9.frozen? ⟨Y, nn, none⟩ = false := by simp [World.frozen?, hbY]
            have hO10 : Own w (w9.setCell ⟨Y, nn, none⟩ (.bool true)) [rowP 36 1 (.slice (some ⟨q, 0, none⟩) 536 cp) 536 (ys.map wv), boxP X 62 hs, boxP Y 63 (bs.setIfInBounds nn (.bool true)), boxP Z 41 #[.int .u8 (DO : Int), .int .i64 xi, .int .u64 xgen, .int .u64 (N : Int), .int .i64 (en : Int), .int .u64 (RA : Int), .int .u64 (RB : Int), .string xd, .bool xdrop], viewP g ys L, boxP V 39 #[.int .i64 (p.en : Int), .int .u64 (p.ra : Int), .int .u64 (p.rb : Int), .string p.d]] := own_store_box hO9 2 rfl nn (.bool true)
            obtain ⟨wA, hwA⟩ : ∃ wA, w9.setCell ⟨Y, nn, none⟩ (.bool true) = wA := ⟨_, rfl⟩
            rw [hwA] at hO10
            clear z0 z4 z5 z6 z7 hbY hbX
            have hbZ : wA.heap[Z]? = some (.cells #[.int .u8 (DO : Int), .int .i64 xi, .int .u64 xgen, .int .u64 (N : Int), .int .i64 (en : Int), .int .u64 (RA : Int), .int .u64 (RB : Int), .string xd, .bool xdrop] 41 (0, 0)) := Own.box hO10 3 rfl
            have z0 : wA.cell? ⟨Z, 0, none⟩ = some (.int .u8 (DO : Int)) := by simp [World.cell?, hbZ]
            have z4 : wA.cell? ⟨Z, 4, none⟩ = some (.int .i64 (en : Int)) := by simp [World.cell?, hbZ]
            have z5 : wA.cell? ⟨Z, 5, none⟩ = some (.int .u64 (RA : Int)) := by simp [World.cell?, hbZ]
            have z6 : wA.cell? ⟨Z, 6, none⟩ = some (.int .u64 (RB : Int)) := by simp [World.cell?, hbZ]
            have z7 : wA.cell? ⟨Z, 7, none⟩ = some (.string xd) := by simp [World.cell?, hbZ]
            clear hbZ
            have hbX : wA.heap[X]? = some (.cells hs 62 (0, 0)) := Own.box hO10 1 rfl
            have hsz := HA1.out.hl
            have hex : ∀ i, i < 320 → ∃ u, hs[i]? = some u := fun i hi => ⟨_, Array.getElem?_eq_getElem (by omega)⟩
            obtain ⟨u0, hu0⟩ := hex (nn * 4) (by omega)
            obtain ⟨u1, hu1⟩ := hex (nn * 4 + 1) (by omega)
            obtain ⟨u2, hu2⟩ := hex (nn * 4 + 2) (by omega)
            obtain ⟨u3, hu3⟩ := hex (nn * 4 + 3) (by omega)
            have m0 : wA.cell? ⟨X, nn * 4, none⟩ = some u0 := by simp [World.cell?, hbX, hu0]
            have m1 : wA.cell? ⟨X, nn * 4 + 1, none⟩ = some u1 := by simp [World.cell?, hbX, hu1]
            have m2 : wA.cell? ⟨X, nn * 4 + 2, none⟩ = some u2 := by simp [World.cell?, hbX, hu2]
            have m3 : wA.cell? ⟨X, nn * 4 + 3, none⟩ = some u3 := by simp [World.cell?, hbX, hu3]
            have f0 : wA.frozen? ⟨X, nn * 4, none⟩ = false := by simp [World.frozen?, hbX]
            have f1 : wA.frozen? ⟨X, nn * 4 + 1, none⟩ = false := by simp [World.frozen?, hbX]
            have f2 : wA.frozen? ⟨X, nn * 4 + 2, none⟩ = false := by simp [World.frozen?, hbX]
            have f3 : wA.frozen? ⟨X, nn * 4 + 3, none⟩ = false := by simp [World.frozen?, hbX]
            have hO11 : Own w ((((wA.setCell ⟨X, nn * 4, none⟩ (.int .i64 (en : Int))).setCell ⟨X, nn * 4 + 1, none⟩ (.int .u64 (RA : Int))).setCell ⟨X, nn * 4 + 2, none⟩ (.int .u64 (RB : Int))).setCell ⟨X, nn * 4 + 3, none⟩ (.string xd)) [rowP 36 1 (.slice (some ⟨q, 0, none⟩) 536 cp) 536 (ys.map wv), boxP X 62 (put4 hs nn (OnceR.mk en RA RB xd)), boxP Y 63 (bs.setIfInBounds nn (.bool true)), boxP Z 41 #[.int .u8 (DO : Int), .int .i64 xi, .int .u64 xgen, .int .u64 (N : Int), .int .i64 (en : Int), .int .u64 (RA : Int), .int .u64 (RB : Int), .string xd, .bool xdrop], viewP g ys L, boxP V 39 #[.int .i64 (p.en : Int), .int .u64 (p.ra : Int), .int .u64 (p.rb : Int), .string p.d]] := by
              unfold put4
              exact own_store_box (own_store_box (own_store_box (own_store_box hO10 1 rfl (nn * 4) (.int .i64 (en : Int))) 1 rfl (nn * 4 + 1) (.int .u64 (RA : Int))) 1 rfl (nn * 4 + 2) (.int .u64 (RB : Int))) 1 rfl (nn * 4 + 3) (.string xd)
            obtain ⟨wB, hwB⟩ : ∃ wB, (((wA.setCell ⟨X, nn * 4, none⟩ (.int .i64 (en : Int))).setCell ⟨X, nn * 4 + 1, none⟩ (.int .u64 (RA : Int))).setCell ⟨X, nn * 4 + 2, none⟩ (.int .u64 (RB : Int))).setCell ⟨X, nn * 4 + 3, none⟩ (.string xd) = wB := ⟨_, rfl⟩
            rw [hwB] at hO11
            have hbZ : wB.heap[Z]? = some (.cells #[.int .u8 (DO : Int), .int .i64 xi, .int .u64 xgen, .int .u64 (N : Int), .int .i64 (en : Int), .int .u64 (RA : Int), .int .u64 (RB : Int), .string xd, .bool xdrop] 41 (0, 0)) := Own.box hO11 3 rfl
            have zB : wB.cell? ⟨Z, 0, none⟩ = some (.int .u8 (DO : Int)) := by simp [World.cell?, hbZ]
            have hOx := Lib.hid hO11
            clear hbX hsz hex hu0 hu1 hu2 hu3 hO9 hO10 hO11 hbZ hn80
            have HFg := Lib.hid (FlatH 4 g ys L w _ _ hOx.out rfl)
            rw [HO.out.len] at HFg
            have HOz : Hid (Once (flatV ys L) A m (fun k => if k = r4 then nn else S k) (fun j => if j = nn then (OnceR.mk en RA RB xd) else R j)) := Lib.hid (HLx.out (Own.wl hOx.out 4 rfl).1)
            generalize flatV ys L = zs at HFg HOz
            clear hOx HLx
            go_wp2_with fail
            refine HFg.out.mono ?_
            rintro e wF ⟨adF, cpF, rfl, hOF⟩
            obtain ⟨qF, rfl⟩ : ∃ qF, adF = some ⟨qF, 0, none⟩ := by
              obtain ⟨b, he, _⟩ := Own.word hOF 6 rfl HOz.out.len 0 (by decide)
              exact ⟨b, he⟩
            have hOG := Lib.hid (own_last hOF)
            clear hOF HFg
            go_wp2
            go_roundw
            case rel => exact ⟨k + 1, m, qF, cpF, zs, (fun k => if k = r4 then nn else S k), (fun j => if j = nn then (OnceR.mk en RA RB xd) else R j), (fun j => if j = nn then true else isf j), (put4 hs nn (OnceR.mk en RA RB xd)), (bs.setIfInBounds nn (.bool true)), Hlt.out, by go_num, rfl, rfl, HOz, HN3, HA3, hOG⟩
            case measure => have := Hlt.out; simp [intOf]; omega
        · have q2 : ((c : Int) == 0) = false := by rw [beq_eq_false_iff_ne]; omega
          have hOx := hOc
          clear c0 z4 z5 z6 z7 hOc
          have HLx : Hid (Wl ys.length [] → Once (flatV ys []) A m S R) := Lib.hid (fun _ => HO.out)
          have HFg := Lib.hid (FlatH 4 g ys [] w _ _ hOx.out rfl)
          rw [HO.out.len] at HFg
          have HOz : Hid (Once (flatV ys []) A m (S) (R)) := Lib.hid (HLx.out (Own.wl hOx.out 4 rfl).1)
          generalize flatV ys [] = zs at HFg HOz
          clear hOx HLx
          go_wp2_with fail
          refine HFg.out.mono ?_
          rintro e wF ⟨adF, cpF, rfl, hOF⟩
          obtain ⟨qF, rfl⟩ : ∃ qF, adF = some ⟨qF, 0, none⟩ := by
            obtain ⟨b, he, _⟩ := Own.word hOF 6 rfl HOz.out.len 0 (by decide)
            exact ⟨b, he⟩
          have hOG := Lib.hid (own_last hOF)
          clear hOF HFg
          go_wp2
          go_roundw
          case rel => exact ⟨k + 1, m, qF, cpF, zs, S, R, isf, hs, bs, Hlt.out, by go_num, rfl, rfl, HOz, HN, HA1, hOG⟩
          case measure => have := Hlt.out; simp [intOf]; omega
    · have hlt' : ¬ (k : Int) < (tl : Int) := by omega
      have hgw := Lib.hid hO.out.grown
      clear hO
      go_wp2_with fail
      refine (works11 _).mono ?_
      rintro e w15 ⟨rfl, hg⟩
      go_wp2
      go_ret
      exact ⟨rfl, grown_trans hgw.out hg⟩

theorem walk (a1 : Int) (td : Option Addr) (tl tc : Nat) (T : List Stq) (w : World) (h1 : (Lit.int .u8 a1).wf = true) (hT : StqsIn w td tl T) :
    Calls Try.prog 4 #[.int .u8 a1, .slice td tl tc] w (WorksOk w) := by
  have b1 := bounds_u8 h1
  obtain ⟨ix, rfl⟩ := Int.eq_ofNat_of_zero_le b1.1
  exact walk_at ix td tl tc T w (by omega) hT
end Go.Proofs.Ytdpkpphjpihhkaa.classOnce
