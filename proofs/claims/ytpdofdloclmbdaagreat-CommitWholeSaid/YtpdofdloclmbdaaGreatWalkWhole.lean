/- CommitWhole, walked. -/
import Derived.Test.YtpdofdloclmbdaaGreatPk27
import Derived.Test.YtpdofdloclmbdaaGreatWorks
import Derived.Deep.DeepCutAuto
import Derived.BigQuiet
import Derived.Deep.QuietTactic
import Derived.Deep.RegionHeld
namespace Go.Proofs.YtpdofdloclmbdaaGreat.commitWhole
open Go.RowKit Go.Grommet
set_option linter.unusedVariables false

set_option maxRecDepth 100000 in
set_option maxHeartbeats 1000000 in
theorem walk_far (a0 : Int) (td : Option Addr) (tl tc : Nat) (w : World) (h : 40 < tl) :
    Calls Tryz.prog 4 #[.int .u8 a0, .slice td tl tc] w (Go.Ev.WorksIs w) := by
  have HW := Lib.hid (works_ev w)
  have g1 : (40 : Int) < (tl : Int) := by omega
  go_enter Tryz.func4, Tryz.ntmps4
  go_wp2_with fail
  refine HW.out.mono ?_
  rintro e w5 ⟨rfl, hg⟩
  go_wp2
  go_ret
  exact ⟨rfl, hg⟩

theorem infoLw : (Tryz.prog.info? 43).map (fun i => (i.zero, i.size, i.bytes)) = some (some (.slice none 0 0), 1, 24) := by kernel_rfl
theorem infoEl : (Tryz.prog.info? 33).map (fun i => (i.zero, i.size, i.bytes)) = some (some (.slice none 0 0), 1, 24) := by kernel_rfl
theorem infoMk : (Tryz.prog.info? 3).map (fun i => (i.zero, i.size, i.bytes)) = some (some (.int .i64 0), 1, 8) := by kernel_rfl
def At55 (K : Kc) (s : Ls) (z now : List Nat) (b q : Nat) : Prop := s.ws = cleanL z ∧ s.m = now ∧ uRow (some ⟨b, 0, none⟩) K.N q now ∈ s.L ∧ s.pm = b ∧ s.cm = q ∧ rowP 92 2 (.slice none 0 0) 0 (icells []) ∈ s.L
theorem k_runs55 {K : Kc} {s : Ls} {U : List Pr} {w0 w : World} {y now : List Nat} {b q : Nat} {us : Nat → Wk} (hE : At55 K s y now b q) (hN : K.N = 392 + 208 * K.a) (ha : 1 ≤ K.a ∧ K.a ≤ 4) (hl : y.length = K.N) (hC : Crew K.a K.M (cleanL y) now us) (hS : ∀ i, i < K.a → (us i).S = []) (hsm : ∀ v ∈ now, v < 18446744073709551616) (hO : Grommet.Own w0 w (K.P { s with lf := nilF s.lf K.a, kf := zeroF s.kf K.a } U)) :
    Calls Tryz.prog 11 #[.pointer (some ⟨K.d, 0, none⟩), .agg #[.int .i64 (K.a : Int), .int .i64 2, .int .i64 10]] w fun e w' => ∃ s5, e = .returned (.tuple #[.slice (some ⟨s5.qr, 0, none⟩) K.a s5.cr, .bool true]) ∧ s5.pm = b ∧ s5.cm = q ∧ LwS K s5 [] w0 w' := by
  obtain ⟨h1, h2, h3, h4, h5, h6⟩ := hE
  subst h4 h5
  exact k_runs (K := K) (s := s) (U := U) (w0 := w0) (w := w) (y := y) (now := now) (us := us) hN ha h1 hl h2 hC hS hsm h3 h6 hO
def StrA (X : Nat) (cs : Array Value) : Pr := boxP X 79 cs

set_option maxRecDepth 100000 in
set_option maxHeartbeats 16000000 in
theorem walk_at (x0 : Nat) (td : Option Addr) (tl tc : Nat) (L0 : List Wac) (w : World) (h0 : x0 ≤ 255) (htl : tl ≤ 40) (hT : WacsIn w td tl L0) :
    Calls Tryz.prog 4 #[.int .u8 (x0 : Int), .slice td tl tc] w (Go.Ev.WorksIs w) := by
  have g1 : ¬ (40 : Int) < (tl : Int) := by omega
  have HT := Lib.hid hT
  have HW := Lib.hid (fun wx => works_ev wx)
  obtain ⟨m4, hm4⟩ : ∃ m, x0 % 4 = m := ⟨_, rfl⟩
  obtain ⟨a, ha⟩ : ∃ a, 1 + m4 = a := ⟨_, rfl⟩
  have e1 : (x0 : Int) % 4 = (m4 : Int) := by omega
  have e2 : Int.tmod (x0 : Int) 4 = (m4 : Int) := by rw [Int.tmod_eq_emod_of_nonneg (by omega)]; exact e1
  have e3 : IntKind.i64.wrap (x0 : Int) = (x0 : Int) := IntWalk.i64_in _ ⟨by omega, by omega⟩
  have e4 : IntKind.i64.wrap (m4 : Int) = (m4 : Int) := IntWalk.i64_in _ ⟨by omega, by omega⟩
  have e5 : IntKind.i64.wrap (1 + (m4 : Int)) = (a : Int) := by rw [IntWalk.i64_in _ ⟨by omega, by omega⟩]; omega
  have e6 : 1 + (m4 : Int) = (a : Int) := by omega
  have ha1 : 1 ≤ a ∧ a ≤ 4 := by omega
  have hmay : mayB (a : Int) ((2 : Nat) : Int) ((10 : Nat) : Int) = true := by unfold mayB; simp; omega
  obtain ⟨N, hN⟩ : ∃ N, 280 + 208 * a + 16 * 2 + 8 * 10 = N := ⟨_, rfl⟩
  obtain ⟨M, hM⟩ : ∃ M, N / 8 = M := ⟨_, rfl⟩
  have hxl := length_fmtL a 2 10 (264 + 208 * a) (280 + 208 * a + 16 * 2 + 8 * 10)
  have hxs := fmtL_lt a 2 10 (264 + 208 * a) (280 + 208 * a + 16 * 2 + 8 * 10) (by omega) (by omega) (by omega)
  rw [hN] at hxl hxs
  obtain ⟨xs, hx0⟩ : ∃ xs, fmtL a 2 10 (264 + 208 * a) N = xs := ⟨_, rfl⟩
  rw [hx0] at hxl hxs
  have HF := Lib.hid (fun wx Ps hO => FormatH a 2 10 N xs w wx Ps hO hmay (by omega) hx0)
  have HD := Lib.hid (fun wx m ad cap Ps hO hm => deviceH m ad N cap xs w wx Ps hO hm hxl hxs (by omega) (by omega) (by omega))
  have HRu := Lib.hid (fun wx j d ws Ps hO hj (hl : ws.length = N) => runsH j d a ws w wx Ps hO hj ha1 (by omega))
  have HWd := Lib.hid (fun wx => Words_any (a : Int) 2 10 wx)
  rw [show wordsV (a : Int) 2 10 = (N : Int) from by rw [show (2 : Int) = ((2 : Nat) : Int) from rfl, show (10 : Int) = ((10 : Nat) : Int) from rfl, words_pos hmay]; omega] at HWd
  rw [show ((2 : Nat) : Int) = 2 from rfl, show ((10 : Nat) : Int) = 10 from rfl] at HF
  unfold gv at HRu HWd
  unfold DevAns at HD
  unfold RunsAns at HRu
  unfold ptr at HD HRu
  have Hxl := Lib.hid hxl
  have Hxs := Lib.hid hxs
  have hN2 : N = 392 + 208 * a := by omega
  have Hzero : Hid (∀ i, 264 ≤ i → i < 264 + 208 * a → xs.getD i 0 = 0) := Lib.hid (fun i hi1 hi2 => by
    rw [← hx0, List.getD_eq_getElem?_getD, get_fmtL _ _ _ _ _ _ (by omega)]
    show fmtAt a 2 10 (264 + 208 * a) i = 0
    unfold fmtAt
    repeat' (first | rw [if_neg (by omega)] | (split <;> first | omega | rfl)))
  have Hnum : Hid (1 ≤ a ∧ a ≤ 4 ∧ N = 392 + 208 * a ∧ M = N / 8) := Lib.hid ⟨ha1.1, ha1.2, hN2, hM.symm⟩
  have hNs : N ≤ 2000 := by omega
  have hNN : ((N : Int) != (N : Int)) = false := by simp
  have a4 : a ≤ 4 := ha1.2
  clear hT hm4 ha hmay hN hM hxl hxs hx0 ha1 hN2
  go_enter Tryz.func4, Tryz.ntmps4
  obtain ⟨u1, hu1⟩ : ∃ u, w.alloc (.cells #[.int .i64 (a : Int), .int .i64 2, .int .i64 10] 26) = u := ⟨_, rfl⟩
  obtain ⟨G, hG⟩ : ∃ G, w.heap.size = G := ⟨_, rfl⟩
  have hO1 : Grommet.Own w u1 [boxP G 26 #[.int .i64 (a : Int), .int .i64 2, .int .i64 10]] := by rw [← hu1, ← hG]; exact (Own.nil w).addBox _ _
  obtain ⟨c0, c1, c2⟩ := GeoQ.cells (show GeoQ G (a : Int) 2 10 u1 from hO1.box 0 rfl)
  have hO1 := Lib.hid hO1
  go_wp2_with fail
  refine (HF.out u1 _ hO1.out).mono ?_
  rintro e u2 ⟨q, rfl, hO2⟩
  have HD2 := Lib.hid (HD.out u2 1 (some ⟨q, 0, none⟩) N _ hO2 rfl)
  clear hu1 hG hO1 c0 c1 c2 HF HD hO2
  go_wp2_with fail
  refine HD2.out.mono ?_
  rintro e u3 ⟨d, r, rfl, hO3⟩
  have hO3 : Grommet.Own w u3 [boxP G 26 #[.int .i64 (a : Int), .int .i64 2, .int .i64 10], rowP 44 1 (.slice (some ⟨q, 0, none⟩) N N) N (xs.map wv), devP d (cleanL xs)] := hO3
  obtain ⟨c0, c1, c2⟩ := GeoQ.cells (show GeoQ G (a : Int) 2 10 u3 from hO3.box 0 rfl)
  have hO3 := Lib.hid hO3
  clear HD2
  go_wp2_with fail
  refine (HWd.out _).mono ?_
  rintro e u4 ⟨rfl, hg4⟩
  have hO4 := hO3.out.quiet hg4
  have HR4 := Lib.hid (HRu.out u4 2 d _ _ hO4 rfl (by rw [cleanL_len]; exact Hxl.out))
  obtain ⟨c0, c1, c2⟩ := GeoQ.cells (show GeoQ G (a : Int) 2 10 u4 from hO4.box 0 rfl)
  clear HWd hO3 hg4 HRu hO4
  go_wp2_with fail
  refine HR4.out.mono ?_
  rintro e u5 ⟨Rs, rad, cr, rfl, hO5⟩
  obtain ⟨qr, rfl, _, _, _⟩ := Own.cell hO5 3 rfl 0 _ (ptrsL_get Rs (by have := Hnum.out; omega : 0 < a))
  obtain ⟨hx5, _, _⟩ := Own.words hO5 1 rfl Hxs.out (by omega)
  have hO5 := Lib.hid hO5
  clear HR4 c0 c1 c2
  go_wp2_with (at_builtin; refine app64 rfl _ _ rfl u5.heap.size _ 0 [] rfl (own_lit u5 _ 1 u5.heap.size (Nat.le_refl _)) (some ⟨q, 0, none⟩) N N xs rfl ?a1 (by simp) ?a2 ?a3 ?_)
  case a1 => exact hx5.keep (World.grownBy_alloc u5 _ none) (by simp)
  case a2 => omega
  case a3 => simp
  intro v1 u6 hown hg
  have hg := grown_new (World.grownBy_alloc u5 _ none) hg (by intro g e; cases e; exact Nat.le_refl _)
  try rw [List.nil_append] at hown
  try rw [Nat.zero_add] at hown
  obtain ⟨mad, cm, rfl, _⟩ := row_slice hown
  have hO6 := hO5.out.addRow hown hg
  obtain ⟨pm, rfl, _, _, _⟩ := Own.cell hO6 _ last_get 0 (wv (xs.getD 0 0)) (by rw [List.getElem?_map, List.getElem?_eq_getElem (by rw [Hxl.out]; have := Hnum.out; omega), List.getD_eq_getElem?_getD, List.getElem?_eq_getElem (by rw [Hxl.out]; have := Hnum.out; omega)]; rfl)
  obtain ⟨c0, c1, c2⟩ := GeoQ.cells (show GeoQ G (a : Int) 2 10 u6 from hO6.box 0 rfl)
  have hO6 := Lib.hid hO6
  clear hown hg hx5 hO5
  obtain ⟨iL, hiL, hzL0, hzL1, hzL2⟩ := info_parts infoLw
  obtain ⟨iE, hiE, hzE0, hzE1, hzE2⟩ := info_parts infoEl
  obtain ⟨iM, hiM, hzM0, hzM1, hzM2⟩ := info_parts infoMk
  go_wp2_with (refine wpList_make_whole _ rfl _ _ 74 rfl 43 iL (.slice none 0 0) Tryz.underlying74 hiL hzL0 hzL1 _ _ _ a rfl rfl rfl ?m1 ?m2 ?_)
  case m1 => rw [hzL2]; omega
  case m2 => unfold maxLen; omega
  intro u7 hrow7 hg7
  have hO7 := Own.made hO6.out hrow7 hg7 (by omega)
  obtain ⟨ql, hql⟩ : ∃ b, u6.heap.size = b := ⟨_, rfl⟩
  rw [hql] at hO7 ⊢
  obtain ⟨c0, c1, c2⟩ := GeoQ.cells (show GeoQ G (a : Int) 2 10 u7 from hO7.box 0 rfl)
  have hO7 := Lib.hid hO7
  clear hO6 hrow7 hg7 hiL hzL0 hzL1 hzL2 hql iL
  go_wp2_with (refine wpList_make_whole _ rfl _ _ 75 rfl 33 iE (.slice none 0 0) Tryz.underlying75 hiE hzE0 hzE1 _ _ _ a rfl rfl rfl ?m1 ?m2 ?_)
  case m1 => rw [hzE2]; omega
  case m2 => unfold maxLen; omega
  intro u8 hrow8 hg8
  have hO8 := Own.made hO7.out hrow8 hg8 (by omega)
  obtain ⟨qe, hqe⟩ : ∃ b, u7.heap.size = b := ⟨_, rfl⟩
  rw [hqe] at hO8 ⊢
  obtain ⟨c0, c1, c2⟩ := GeoQ.cells (show GeoQ G (a : Int) 2 10 u8 from hO8.box 0 rfl)
  have hO8 := Lib.hid hO8
  clear hO7 hrow8 hg8 hiE hzE0 hzE1 hzE2 hqe iE
  go_wp2_with (refine wpList_make_whole _ rfl _ _ 76 rfl 3 iM (.int .i64 0) Tryz.underlying76 hiM hzM0 hzM1 _ _ _ a rfl rfl rfl ?m1 ?m2 ?_)
  case m1 => rw [hzM2]; omega
  case m2 => unfold maxLen; omega
  intro u9 hrow9 hg9
  have hO9 := Own.made hO8.out hrow9 hg9 (by omega)
  obtain ⟨qk, hqk⟩ : ∃ b, u8.heap.size = b := ⟨_, rfl⟩
  rw [hqk] at hO9 ⊢
  have hO9 := Lib.hid hO9
  clear hO8 hrow9 hg9 hiM hzM0 hzM1 hzM2 hqk iM c0 c1 c2
  obtain ⟨K, hK⟩ : ∃ K : Kc, K = ⟨a, M, N, G, q, d, ql, qe, qk, xs⟩ := ⟨_, rfl⟩
  have ka : a = K.a := by rw [hK]
  have kM : M = K.M := by rw [hK]
  have kN : N = K.N := by rw [hK]
  have kG : G = K.G := by rw [hK]
  have kq : q = K.q := by rw [hK]
  have kd : d = K.d := by rw [hK]
  have kl : ql = K.ql := by rw [hK]
  have ke : qe = K.qe := by rw [hK]
  have kk : qk = K.qk := by rw [hK]
  have kx : xs = K.xs := by rw [hK]
  clear hK
  subst ka kM kN kG kq kd kl ke kk kx
  have hz0 : Hid (LwS K (startS K.a K.N K.xs pm cm qr cr Rs) [] w u9) := Lib.hid (lw_start ⟨Hnum.out.1, Hnum.out.2.1⟩ Hnum.out.2.2.1 Hnum.out.2.2.2 Hxl.out Hxs.out Hzero.out (own_start (by
    have := hO9.out
    simp only [List.append_assoc, List.cons_append, List.nil_append] at this ⊢
    exact this)))
  clear hO9 Hxl Hxs Hzero e1 e2 e3 e4 e5 e6 h0
  obtain ⟨s0, hs0⟩ : ∃ s0, startS K.a K.N K.xs pm cm qr cr Rs = s0 := ⟨_, rfl⟩
  have hpm : pm = s0.pm := by rw [← hs0]; rfl
  have hcm : cm = s0.cm := by rw [← hs0]; rfl
  have hqr : qr = s0.qr := by rw [← hs0]; rfl
  have hcr : cr = s0.cr := by rw [← hs0]; rfl
  rw [hs0] at hz0
  clear hs0
  subst hpm hcm hqr hcr
  go_wp2_with fail
  go_loopw [10, 11, 12, 16, 17, 18, 19, 20, 21, 22, 23, 24, 25, 26, 27] (fun rv _ mv i _ _ _ _ _ _ _ _ _ _ _ wr => ∃ (j : Nat) (s : Ls), j ≤ tl ∧ rv = .slice (some ⟨s.qr, 0, none⟩) K.a s.cr ∧ mv = .slice (some ⟨s.pm, 0, none⟩) K.N s.cm ∧ i = .int .i64 (j : Int) ∧ Hid (LwS K s [] w wr)) (fun _ _ _ i _ _ _ _ _ _ _ _ _ _ _ _ => tl - (intOf i).toNat)
  case atStart => exact ⟨0, s0, Nat.zero_le _, rfl, rfl, rfl, hz0⟩
  case round =>
    clear hz0
    obtain ⟨j, s, hj, rfl, rfl, rfl, hS⟩ := hrel
    have j0 : (0 : Int) ≤ (j : Int) := by omega
    by_cases hlt : j < tl
    · have hlt' : (j : Int) < (tl : Int) := by omega
      have wj : IntKind.i64.wrap ((j : Int) + 1) = (j : Int) + 1 := IntWalk.i64_in _ ⟨by omega, by omega⟩
      obtain ⟨⟨who0, la, ll, lc, ls, many0, eva, evl, evc, evs, crash, pka, pkl, pkc, pks, again0⟩, hx⟩ : ∃ x, L0[j]? = some x := ⟨L0[j]'(by rw [HT.out.1]; exact hlt), List.getElem?_eq_getElem _⟩
      have hok := HT.out.2.1 _ (List.mem_of_getElem? hx)
      have hcl := (HT.out.grown hS.out.own.grown).2.2 j _ hx
      have hwl := HT.out.2.2 j _ hx
      dsimp only at hcl hwl
      obtain ⟨⟨tg, to_, rfl, y0, y1, y2, y3, y4, y5, y6⟩, _⟩ := hcl
      obtain ⟨_, hxL, hxE, hxP⟩ := hwl
      obtain ⟨who, rfl, hw256⟩ := u8_natA (show (Lit.int .u8 who0).wf = true from hok.who)
      obtain ⟨many, rfl, hm256⟩ := u8_natA (show (Lit.int .u8 many0).wf = true from hok.many)
      obtain ⟨ag, rfl, ha256⟩ := u8_natA (show (Lit.int .u8 again0).wf = true from hok.again)
      have Hxl := Lib.hid (And.intro hxL (show ll ≤ lc from hok.lcap))
      have Hxe := Lib.hid (And.intro hxE (And.intro (show evs.length = evl from hok.evlen) (show ∀ p ∈ evs, p < 256 from hok.evsmall)))
      have Hpk0 : Hid (pkl ≤ 300 → PicksO w pka pkl pkc pks) := Lib.hid (fun h => ⟨fun wx hg => hxP.grown hg (by simp), hok.pklen, hok.pkcap, hok.pknil, fun hne a ha => old_block hxP (by simpa using hne) a ha, hok.pksmall, by omega⟩)
      obtain ⟨X, hX⟩ : ∃ X, wr.heap.size = X := ⟨_, rfl⟩
      obtain ⟨wX, hwX⟩ : ∃ u, wr.alloc (.cells #[.int .u8 (who : Int), .slice la ll lc, .int .u8 (many : Int), .slice eva evl evc, .bool crash, .slice pka pkl pkc, .int .u8 (ag : Int)] 79) = u := ⟨_, rfl⟩
      have hSX : LwS K s [boxP X 79 (actC who la ll lc many eva evl evc crash pka pkl pkc ag)] w wX := by
        have := hS.out.own.addBox 79 (actC who la ll lc many eva evl evc crash pka pkl pkc ag)
        rw [Kc.P_more, List.nil_append, hX] at this
        have h2 : wr.alloc (.cells (actC who la ll lc many eva evl evc crash pka pkl pkc ag) 79) = wX := hwX
        rw [h2] at this
        exact hS.out.tail this
      obtain ⟨T, hT⟩ : ∃ T, [boxP X 79 (actC who la ll lc many eva evl evc crash pka pkl pkc ag)] = T := ⟨_, rfl⟩
      have HX := Lib.hid (fun wx s' (hO : Grommet.Own w wx (K.P s' T)) => act_cells (show Grommet.Own w wx (K.P s' [boxP X 79 (actC who la ll lc many eva evl evc crash pka pkl pkc ag)]) from by rw [hT]; exact hO))
      have HXT := Lib.hid (fun wx s' U (hO : Grommet.Own w wx (K.P s' (T ++ U))) => act_cellsT (show Grommet.Own w wx (K.P s' ([boxP X 79 (actC who la ll lc many eva evl evc crash pka pkl pkc ag)] ++ U)) from by rw [hT]; exact hO))
      rw [hT] at hSX
      obtain ⟨z0, z1, z2, z3, z4, z5, z6⟩ := HX.out _ _ hSX.own
      have hSX := Lib.hid hSX
      clear hx hok hxL hxE hxP hT hS
      obtain ⟨qr, hqr⟩ : ∃ v, s.qr = v := ⟨_, rfl⟩
      obtain ⟨cr, hcr⟩ : ∃ v, s.cr = v := ⟨_, rfl⟩
      obtain ⟨pm, hpm⟩ : ∃ v, s.pm = v := ⟨_, rfl⟩
      obtain ⟨cm, hcm⟩ : ∃ v, s.cm = v := ⟨_, rfl⟩
      rw [hqr, hcr, hpm, hcm]
      have Hs := Lib.hid (And.intro hqr (And.intro hcr (And.intro hpm hcm)))
      clear hqr hcr hpm hcm
      go_upto_region 19 with fail
      clear hwX hX y0 y1 y2 y3 y4 y5 y6
      go_cut [99] (fun v wx => ∃ b : Bool, v = .bool b ∧ wX = wx ∧ Hid (FitB b ll evl pkl))
      case first =>
        clear HX HXT Hxl Hxe Hpk0 Hs HT HW
        skip
        by_cases f1 : ll ≤ 20
        · have f1i : ¬ (20 : Int) < (ll : Int) := by omega
          by_cases f2 : evl ≤ 10
          · have f2i : ¬ (10 : Int) < (evl : Int) := by omega
            by_cases f3 : pkl ≤ 300
            · as_aux_lemma =>
              have f3i : ¬ (300 : Int) < (pkl : Int) := by omega
              have hf : Hid (FitB false ll evl pkl) := Lib.hid (fun _ => ⟨f1, f2, f3⟩)
              go_wp2_with fail
              go_meet
              case rel => exact ⟨false, rfl, rfl, hf⟩
            · as_aux_lemma =>
              have f3i : (300 : Int) < (pkl : Int) := by omega
              have hf : Hid (FitB true ll evl pkl) := Lib.hid (fun h => by cases h)
              go_wp2_with fail
              go_meet
              case rel => exact ⟨true, rfl, rfl, hf⟩
          · as_aux_lemma =>
            have f2i : (10 : Int) < (evl : Int) := by omega
            have hf : Hid (FitB true ll evl pkl) := Lib.hid (fun h => by cases h)
            go_wp2_with fail
            go_meet
            case rel => exact ⟨true, rfl, rfl, hf⟩
        · as_aux_lemma =>
          have f1i : (20 : Int) < (ll : Int) := by omega
          have hf : Hid (FitB true ll evl pkl) := Lib.hid (fun h => by cases h)
          go_wp2_with fail
          go_meet
          case rel => exact ⟨true, rfl, rfl, hf⟩
      case rest =>
        obtain ⟨b, rfl, hw, hfit⟩ := hcut
        obtain rfl := hw.symm
        cases b with
        | true =>
          skip
          as_aux_lemma =>
          have hgX := Lib.hid hSX.out.own.grown
          clear HX HXT Hxl Hxe Hpk0 Hs HT hSX z0 z1 z2 z3 z4 z5 z6
          go_wp2_with fail
          refine (HW.out _).mono ?_
          rintro e w5 ⟨rfl, hg⟩
          go_wp2
          go_ret
          exact ⟨rfl, grown_trans hgX.out hg⟩
        | false =>
          obtain ⟨hl20, he10, hp300⟩ := hfit.out rfl
          have HPk := Lib.hid (Hpk0.out hp300)
          obtain ⟨k, hk⟩ : ∃ k, who % K.a = k := ⟨_, rfl⟩
          have hka : k < K.a := by rw [← hk]; exact Nat.mod_lt _ (by have := Hnum.out; omega)
          have f1 : (who : Int) % (K.a : Int) = (k : Int) := by omega
          have f2 : Int.tmod (who : Int) (K.a : Int) = (k : Int) := by rw [Int.tmod_eq_emod_of_nonneg (by omega)]; exact f1
          have f3 : IntKind.i64.wrap (who : Int) = (who : Int) := IntWalk.i64_in _ ⟨by omega, by omega⟩
          have f4 : IntKind.i64.wrap (k : Int) = (k : Int) := IntWalk.i64_in _ ⟨by omega, by omega⟩
          have az : ¬ (K.a : Int) = 0 := by omega
          have azn : ¬ K.a = 0 := by omega
          have azb : ((K.a : Int) == 0) = false := by rw [beq_eq_false_iff_ne]; omega
          have k0 : (0 : Int) ≤ (k : Int) := by omega
          have hka' : (k : Int) < (K.a : Int) := by omega
          have fm : IntKind.i64.wrap (many : Int) = (many : Int) := IntWalk.i64_in _ ⟨by omega, by omega⟩
          have fa : IntKind.i64.wrap (ag : Int) = (ag : Int) := IntWalk.i64_in _ ⟨by omega, by omega⟩
          obtain ⟨c0, c1, c2⟩ := hSX.out.geo
          have x1 := hSX.out.ptr_ hka
          rw [Hs.out.1] at x1
          have HL := Lib.hid (lw_left hSX.out hka)
          obtain ⟨Lk, hLk⟩ : ∃ v, (s.us k).S.length = v := ⟨_, rfl⟩
          rw [hLk] at HL
          unfold ptr at x1 HL
          clear hk Hpk0 hfit z1 z2 z3 z4 z5 z6
          go_wp2_with fail
          refine HL.out.mono ?_
          rintro e w2 ⟨rfl, hw2⟩
          obtain rfl := hw2.symm
          clear HL f1 f2 f3 z0
          go_upto_if 112 with fail
          go_cut [] (fun wx => ∃ s', s'.pm = s.pm ∧ s'.cm = s.cm ∧ s'.qr = s.qr ∧ s'.cr = s.cr ∧ Hid (LwS K s' T w wx))
          case first =>
            by_cases hL0 : Lk = 0
            · skip
              as_aux_lemma =>
              have q1 : ((Lk : Int) == 0) = true := by rw [hL0]; rfl
              have hS0 : (s.us k).S = [] := List.eq_nil_of_length_eq_zero (hLk.trans hL0)
              have HWr := Lib.hid (lw_writes hSX.out hka (lc := lc) Hxl.out.1 hl20)
              have HBg := Lib.hid (fun w3 W n ad cap (h1 : List.length W = n) (h2 : n ≤ 20) (h3 : GoodW (bk K.a k) W) hO => lw_begins hSX.out hka hS0 (w3 := w3) (ad := ad) (cap := cap) h1 h2 h3 hO)
              have y1 := (HX.out _ _ hSX.out.own).2.1
              clear hLk hL0 hS0 hSX HX HXT HW HT Hxl Hxe HPk
              go_wp2_with fail
              refine HWr.out.mono ?_
              rintro e w3 ⟨W, n, wad, wcap, rfl, hWl, hWn, hWg, hO3⟩
              obtain ⟨fz1, ⟨v1, cz1⟩, fz2, ⟨v2, cz2⟩, hB3⟩ := HBg.out w3 W n wad wcap hWl hWn hWg hO3
              obtain ⟨w4, hw4⟩ : ∃ u, w3.setCell ⟨K.ql, k, none⟩ (.slice wad n wcap) = u := ⟨_, rfl⟩
              rw [hw4] at fz2 cz2 hB3
              obtain ⟨w5, hw5⟩ : ∃ u, w4.setCell ⟨K.qk, k, none⟩ (.int .i64 0) = u := ⟨_, rfl⟩
              rw [hw5] at hB3
              obtain ⟨e1, e2, e3, e4⟩ := Hs.out
              rw [e1] at hB3
              have HB5 := Lib.hid (hB3 w5.drew (grown_drew (World.grownBy.refl w5 none)))
              clear HWr HBg hO3 hWl hWn hWg x1 y1 c0 c1 c2 e1 e2 e3 e4 hB3
              go_upto_region 25 with fail
              clear hw4 hw5 fz1 cz1 fz2 cz2
              refine wp_region_held_drew (S := fun w' => w'.cell? ⟨qr, k, none⟩ = some (.pointer (some ⟨s.Rs k, 0, none⟩)) ∧ w'.cell? ⟨K.ql, k, none⟩ = some (.slice wad n wcap)) (by kernel_rfl) (HB5.out.1) (fun hS => ?_)
              refine wpAnyH_take (i := 0) (oi := { dst := some 124, op := Op.move (Operand.tmp 10), type := 35, pos := "law.go:225", after := #[], guard := none }) (v := ?vbg4r25o0) rfl (by kernel_rfl) (by kernel_rfl) (by kernel_rfl) (fun _ _ _ h => h) (Or.inl ⟨by rfl, ?hbg4r25o0⟩) hS ?_
              case hbg4r25o0 => (intro wx hx; skip; go_simp; (try with_reducible rfl))
              try simp only [Act.put, List.setIfInBounds_toArray, List.set_cons_zero, List.set_cons_succ]
              refine wpAnyH_take (i := 1) (oi := { dst := some 125, op := Op.move (Operand.tmp 18), type := 3, pos := "law.go:225", after := #[], guard := none }) (v := ?vbg4r25o1) rfl (by kernel_rfl) (by kernel_rfl) (by kernel_rfl) (fun _ _ _ h => h) (Or.inl ⟨by rfl, ?hbg4r25o1⟩) hS ?_
              case hbg4r25o1 => (intro wx hx; skip; go_simp; (try with_reducible rfl))
              try simp only [Act.put, List.setIfInBounds_toArray, List.set_cons_zero, List.set_cons_succ]
              refine wpAnyH_take (i := 2) (oi := { dst := some 126, op := Op.indexAddr 35 (Operand.tmp 124) (Operand.tmp 125), type := 0, pos := "law.go:225", after := #[{ on := 0, ground := Ground.data }, { on := 1, ground := Ground.data }], guard := none }) (v := ?vbg4r25o2) rfl (by kernel_rfl) (by kernel_rfl) (by kernel_rfl) (fun _ _ _ h => h) (Or.inl ⟨by rfl, ?hbg4r25o2⟩) hS ?_
              case hbg4r25o2 => (intro wx hx; skip; go_simp; (try with_reducible rfl))
              try simp only [Act.put, List.setIfInBounds_toArray, List.set_cons_zero, List.set_cons_succ]
              refine wpAnyH_take (i := 3) (oi := { dst := some 127, op := Op.load 48 (Operand.tmp 126), type := 48, pos := "law.go:225", after := #[{ on := 2, ground := Ground.data }], guard := none }) (v := ?vbg4r25o3) rfl (by kernel_rfl) (by kernel_rfl) (by kernel_rfl) (fun _ _ _ h => h) (Or.inl ⟨by rfl, ?hbg4r25o3⟩) hS ?_
              case hbg4r25o3 => (intro wx hx; obtain ⟨f0, f1⟩ := hx; go_simp; (try with_reducible rfl))
              try simp only [Act.put, List.setIfInBounds_toArray, List.set_cons_zero, List.set_cons_succ]
              refine wpAnyH_take (i := 4) (oi := { dst := some 128, op := Op.move (Operand.tmp 13), type := 74, pos := "law.go:225", after := #[], guard := none }) (v := ?vbg4r25o4) rfl (by kernel_rfl) (by kernel_rfl) (by kernel_rfl) (fun _ _ _ h => h) (Or.inl ⟨by rfl, ?hbg4r25o4⟩) hS ?_
              case hbg4r25o4 => (intro wx hx; skip; go_simp; (try with_reducible rfl))
              try simp only [Act.put, List.setIfInBounds_toArray, List.set_cons_zero, List.set_cons_succ]
              refine wpAnyH_take (i := 5) (oi := { dst := some 129, op := Op.move (Operand.tmp 18), type := 3, pos := "law.go:225", after := #[], guard := none }) (v := ?vbg4r25o5) rfl (by kernel_rfl) (by kernel_rfl) (by kernel_rfl) (fun _ _ _ h => h) (Or.inl ⟨by rfl, ?hbg4r25o5⟩) hS ?_
              case hbg4r25o5 => (intro wx hx; skip; go_simp; (try with_reducible rfl))
              try simp only [Act.put, List.setIfInBounds_toArray, List.set_cons_zero, List.set_cons_succ]
              refine wpAnyH_take (i := 6) (oi := { dst := some 130, op := Op.indexAddr 74 (Operand.tmp 128) (Operand.tmp 129), type := 0, pos := "law.go:225", after := #[{ on := 4, ground := Ground.data }, { on := 5, ground := Ground.data }], guard := none }) (v := ?vbg4r25o6) rfl (by kernel_rfl) (by kernel_rfl) (by kernel_rfl) (fun _ _ _ h => h) (Or.inl ⟨by rfl, ?hbg4r25o6⟩) hS ?_
              case hbg4r25o6 => (intro wx hx; skip; go_simp; (try with_reducible rfl))
              try simp only [Act.put, List.setIfInBounds_toArray, List.set_cons_zero, List.set_cons_succ]
              refine wpAnyH_take (i := 7) (oi := { dst := some 131, op := Op.load 43 (Operand.tmp 130), type := 43, pos := "law.go:225", after := #[{ on := 6, ground := Ground.data }], guard := none }) (v := ?vbg4r25o7) rfl (by kernel_rfl) (by kernel_rfl) (by kernel_rfl) (fun _ _ _ h => h) (Or.inl ⟨by rfl, ?hbg4r25o7⟩) hS ?_
              case hbg4r25o7 => (intro wx hx; obtain ⟨f0, f1⟩ := hx; go_simp; (try with_reducible rfl))
              try simp only [Act.put, List.setIfInBounds_toArray, List.set_cons_zero, List.set_cons_succ]
              refine wpAnyH_ready (rs := [8]) (by kernel_rfl) (by simp) ?_
              refine AllReadyH.cons (o := { dst := some 132, op := Op.call { callee := Callee.value (Operand.func 13), args := #[Operand.tmp 127, Operand.tmp 131], argTypes := #[48, 43] }, type := 40, pos := "law.go:225", after := #[{ on := 3, ground := Ground.data }, { on := 7, ground := Ground.data }], guard := none }) rfl (fun K hK => ?_) AllReadyH.nil
              go_simp
              refine HB5.out.2.mono ?_
              rintro e v1 ⟨rfl, hcz, hSe⟩
              have hSe := Lib.hid hSe
              refine hK.out _ _ ?hsbg4r25o8 (fun hS => ?_)
              case hsbg4r25o8 => (exact hcz)
              clear hK K
              try simp only [Act.put, List.setIfInBounds_toArray, List.set_cons_zero, List.set_cons_succ]
              refine wpAnyH_take (i := 9) (oi := { dst := some 133, op := Op.binOp BinOp.neq 40 (Operand.tmp 132) (Operand.const (Value.int IntKind.i64 0)) 40, type := 4, pos := "law.go:225", after := #[{ on := 8, ground := Ground.data }], guard := none }) (v := ?vbg4r25o9) rfl (by kernel_rfl) (by kernel_rfl) (by kernel_rfl) (fun _ _ _ h => h) (Or.inl ⟨by rfl, ?hbg4r25o9⟩) hS ?_
              case hbg4r25o9 => (intro wx hx; skip; go_simp; (try with_reducible rfl))
              try simp only [Act.put, List.setIfInBounds_toArray, List.set_cons_zero, List.set_cons_succ]
              refine wpAnyH_done (by kernel_rfl) ?_ _
              obtain ⟨s9, p1, p2, p3, p4, hS9⟩ := hSe.out
              have hS9 := Lib.hid hS9
              clear HB5 hS hSe hcz
              go_wp2_with fail
              go_meet
              case rel => exact ⟨s9, p1, p2, p3.trans Hs.out.1.symm, p4, hS9⟩
            · skip
              as_aux_lemma =>
              have q1 : ((Lk : Int) == 0) = false := by rw [beq_eq_false_iff_ne]; omega
              clear HX HXT HW HT Hxl Hxe HPk
              go_wp2_with fail
              go_meet
              case rel => exact ⟨s, rfl, rfl, rfl, rfl, hSX⟩
          case rest =>
            obtain ⟨s1, p1, p2, p3, p4, hS1⟩ := hcut
            obtain ⟨e1, e2, e3, e4⟩ := Hs.out
            have P1 := Lib.hid (And.intro (p3.trans e1) (And.intro (p4.trans e2) (And.intro (p1.trans e3) (p2.trans e4))))
            clear p1 p2 p3 p4 e1 e2 e3 e4 Hs hSX hLk c0 c1 c2 x1 hl20
            go_wp2_with fail
            go_loopw [12, 19, 20, 21, 22] (fun mv i _ _ _ wr => ∃ (t : Nat) (s : Ls), t ≤ many ∧ mv = .slice (some ⟨s.pm, 0, none⟩) K.N s.cm ∧ i = .int .i64 (t : Int) ∧ Hid (s.qr = qr ∧ s.cr = cr) ∧ Hid (LwS K s T w wr)) (fun _ i _ _ _ _ => many - (intOf i).toNat)
            case atStart => exact ⟨0, s1, Nat.zero_le _, by rw [P1.out.2.2.1, P1.out.2.2.2], rfl, Lib.hid ⟨P1.out.1, P1.out.2.1⟩, hS1⟩
            case round =>
              clear hS1 P1
              obtain ⟨t, s, ht, rfl, rfl, Hq, hS⟩ := hrel
              have t0 : (0 : Int) ≤ (t : Int) := by omega
              have wt : IntKind.i64.wrap ((t : Int) + 1) = (t : Int) + 1 := IntWalk.i64_in _ ⟨by omega, by omega⟩
              have z2 := (HX.out _ _ hS.out.own).2.2.1
              have x1 := hS.out.ptr_ hka
              rw [Hq.out.1] at x1
              have HL := Lib.hid (lw_left hS.out hka)
              obtain ⟨Lk, hLk⟩ : ∃ v, (s.us k).S.length = v := ⟨_, rfl⟩
              rw [hLk] at HL
              unfold ptr at x1 HL
              go_upto_region 28 with fail
              go_cut [146] (fun v wx => ∃ b : Bool, v = .bool b ∧ wr = wx ∧ Hid (GoB b t many Lk))
              case first =>
                skip
                clear hS hLk HX HXT HW HT Hxl Hxe HPk
                by_cases h1 : t < many
                · have h1i : (t : Int) < (many : Int) := by omega
                  by_cases h2 : 0 < Lk
                  · as_aux_lemma =>
                    have h2i : (0 : Int) < (Lk : Int) := by omega
                    have hf : Hid (GoB true t many Lk) := Lib.hid (fun _ => ⟨h1, h2⟩)
                    go_wp2_with fail
                    refine HL.out.mono ?_
                    rintro e w3 ⟨rfl, hw3⟩
                    obtain rfl := hw3.symm
                    clear HL
                    go_wp2_with fail
                    go_meet
                    case rel => exact ⟨true, rfl, rfl, hf⟩
                  · as_aux_lemma =>
                    have h2i : ¬ (0 : Int) < (Lk : Int) := by omega
                    have hf : Hid (GoB false t many Lk) := Lib.hid (fun h => by cases h)
                    go_wp2_with fail
                    refine HL.out.mono ?_
                    rintro e w3 ⟨rfl, hw3⟩
                    obtain rfl := hw3.symm
                    clear HL
                    go_wp2_with fail
                    go_meet
                    case rel => exact ⟨false, rfl, rfl, hf⟩
                · as_aux_lemma =>
                  have h1i : ¬ (t : Int) < (many : Int) := by omega
                  have hf : Hid (GoB false t many Lk) := Lib.hid (fun h => by cases h)
                  go_wp2_with fail
                  go_meet
                  case rel => exact ⟨false, rfl, rfl, hf⟩
              case rest =>
                obtain ⟨b, rfl, hw, hgo⟩ := hcut
                obtain rfl := hw.symm
                cases b with
                | true =>
                  obtain ⟨h1, h2⟩ := hgo.out rfl
                  obtain ⟨⟨p, cl⟩, S', hSk⟩ : ∃ c S', (s.us k).S = c :: S' := by
                    cases hSe : (s.us k).S with
                    | nil => rw [hSe] at hLk; simp at hLk; omega
                    | cons c S' => exact ⟨c, S', rfl⟩
                  have HPh := Lib.hid (lw_phase hS.out hka hSk)
                  have HSt := Lib.hid (lw_stepW hS.out hka hSk)
                  have hr1 : t + 1 ≤ many := by omega
                  have hqr2 : Hid (s.qr = qr) := Lib.hid Hq.out.1
                  have pp : ((p : Int) != (p : Int)) = false := by simp
                  unfold ptr at HPh HSt
                  clear hgo h1 h2 hSk hS hLk HL z2 HX HXT HW HT Hxl Hxe HPk ht
                  go_wp2_with fail
                  refine HPh.out.mono ?_
                  rintro e w3 ⟨rfl, hw3⟩
                  obtain rfl := hw3.symm
                  clear HPh
                  go_wp2_with fail
                  refine HSt.out.mono ?_
                  rintro e w3 ⟨rfl, hQ⟩
                  clear HSt x1
                  cases hQ with
                  | quiet hp hs hl =>
                    skip
                    as_aux_lemma =>
                    rename_i s5
                    have p3 : ((p : Int) == 3) = false := by rw [beq_eq_false_iff_ne]; omega
                    obtain ⟨e1, e2, e3, e4⟩ := hs
                    rw [← e1, ← e2]
                    have Hq5 : Hid (s5.qr = qr ∧ s5.cr = cr) := Lib.hid ⟨e3.trans Hq.out.1, e4.trans Hq.out.2⟩
                    have hS5 := Lib.hid hl
                    clear hp e1 e2 e3 e4 hl Hq hqr2
                    have hSk5 := hS5
                    obtain ⟨HSn, HOv, HSm⟩ := lw_check hS5.out
                    have HSn := Lib.hid HSn
                    have HOv := Lib.hid HOv
                    have HSm := Lib.hid HSm
                    have hOr := Lib.hid (hS5.out.own.quiet (grown_drew (World.grownBy.refl w3 none)))
                    have hzg := Lib.hid (k_geo hOr.out)
                    unfold ptr at HSn
                    go_wp2_with fail
                    refine wp_region_held_drew (S := fun w' => GeoQ K.G (K.a : Int) 2 10 w') (by kernel_rfl) (hzg.out) (fun hS => ?_)
                    refine wpAnyH_take (i := 0) (oi := { dst := some 204, op := Op.load 26 (Operand.tmp 5), type := 26, pos := "law.go:243", after := #[], guard := none }) (v := ?vckq4r40o0) rfl (by kernel_rfl) (by kernel_rfl) (by kernel_rfl) (fun _ _ _ h => h) (Or.inl ⟨by rfl, ?hckq4r40o0⟩) hS ?_
                    case hckq4r40o0 => (intro wx hx; obtain ⟨f0, f1, f2⟩ := GeoQ.cells hx; go_simp; (try with_reducible rfl))
                    try simp only [Act.put, List.setIfInBounds_toArray, List.set_cons_zero, List.set_cons_succ]
                    refine wpAnyH_take (i := 1) (oi := { dst := some 205, op := Op.move (Operand.tmp 7), type := 29, pos := "law.go:243", after := #[], guard := none }) (v := ?vckq4r40o1) rfl (by kernel_rfl) (by kernel_rfl) (by kernel_rfl) (fun _ _ _ h => h) (Or.inl ⟨by rfl, ?hckq4r40o1⟩) hS ?_
                    case hckq4r40o1 => (intro wx hx; skip; go_simp; (try with_reducible rfl))
                    try simp only [Act.put, List.setIfInBounds_toArray, List.set_cons_zero, List.set_cons_succ]
                    refine wpAnyH_take (i := 4) (oi := { dst := some 208, op := Op.move (Operand.tmp 12), type := 33, pos := "law.go:243", after := #[], guard := none }) (v := ?vckq4r40o4) rfl (by kernel_rfl) (by kernel_rfl) (by kernel_rfl) (fun _ _ _ h => h) (Or.inl ⟨by rfl, ?hckq4r40o4⟩) hS ?_
                    case hckq4r40o4 => (intro wx hx; skip; go_simp; (try with_reducible rfl))
                    try simp only [Act.put, List.setIfInBounds_toArray, List.set_cons_zero, List.set_cons_succ]
                    refine wpAnyH_ready (rs := [2]) (by kernel_rfl) (by simp) ?_
                    refine AllReadyH.cons (o := { dst := some 206, op := Op.call { callee := Callee.value (Operand.func 28), args := #[Operand.tmp 205], argTypes := #[29] }, type := 33, pos := "law.go:243", after := #[{ on := 1, ground := Ground.data }], guard := none }) rfl (fun K hK => ?_) AllReadyH.nil
                    go_simp
                    refine (HSn.out _ hOr.out).mono ?_
                    rintro e v1 ⟨b1, q1, rfl, hOn⟩
                    clear hOr HSn
                    have hOr := Lib.hid hOn
                    clear hOn
                    refine hK.out _ _ ?hsckq4r40o2 (fun hS => ?_)
                    case hsckq4r40o2 => (first | exact k_geo hOr.out | exact k_geo1 hOr.out | exact k_geo2 hOr.out)
                    clear hK K
                    try simp only [Act.put, List.setIfInBounds_toArray, List.set_cons_zero, List.set_cons_succ]
                    refine wpAnyH_ready (rs := [3]) (by kernel_rfl) (by simp) ?_
                    refine AllReadyH.cons (o := { dst := some 207, op := Op.call { callee := Callee.value (Operand.func 33), args := #[Operand.tmp 204, Operand.tmp 206], argTypes := #[26, 33] }, type := 33, pos := "law.go:243", after := #[{ on := 0, ground := Ground.data }, { on := 2, ground := Ground.data }, { on := 2, ground := Ground.chain }], guard := none }) rfl (fun K hK => ?_) AllReadyH.nil
                    go_simp
                    refine (HOv.out v1 b1 q1 hOr.out).mono ?_
                    rintro e v2 ⟨b2, q2, rfl, hOn⟩
                    clear hOr HOv
                    have hOr := Lib.hid hOn
                    clear hOn
                    refine hK.out _ _ ?hsckq4r40o3 (fun hS => ?_)
                    case hsckq4r40o3 => (first | exact k_geo hOr.out | exact k_geo1 hOr.out | exact k_geo2 hOr.out)
                    clear hK K
                    try simp only [Act.put, List.setIfInBounds_toArray, List.set_cons_zero, List.set_cons_succ]
                    refine wpAnyH_ready (rs := [5]) (by kernel_rfl) (by simp) ?_
                    refine AllReadyH.cons (o := { dst := some 209, op := Op.call { callee := Callee.value (Operand.func 30), args := #[Operand.tmp 207, Operand.tmp 208], argTypes := #[33, 33] }, type := 4, pos := "law.go:243", after := #[{ on := 3, ground := Ground.data }, { on := 4, ground := Ground.data }, { on := 3, ground := Ground.chain }], guard := none }) rfl (fun K hK => ?_) AllReadyH.nil
                    go_simp
                    refine (HSm.out v2 b1 q1 b2 q2 hOr.out).mono ?_
                    rintro e v3 ⟨rfl, hOn⟩
                    clear hOr HSm
                    have hOr := Lib.hid hOn
                    clear hOn
                    refine hK.out _ _ ?hsckq4r40o5 (fun hS => ?_)
                    case hsckq4r40o5 => (first | exact k_geo hOr.out | exact k_geo1 hOr.out | exact k_geo2 hOr.out)
                    clear hK K
                    try simp only [Act.put, List.setIfInBounds_toArray, List.set_cons_zero, List.set_cons_succ]
                    refine wpAnyH_take (i := 6) (oi := { dst := some 210, op := Op.unOp UnOp.not 4 (Operand.tmp 209), type := 4, pos := "law.go:243", after := #[{ on := 5, ground := Ground.data }], guard := none }) (v := ?vckq4r40o6) rfl (by kernel_rfl) (by kernel_rfl) (by kernel_rfl) (fun _ _ _ h => h) (Or.inl ⟨by rfl, ?hckq4r40o6⟩) hS ?_
                    case hckq4r40o6 => (intro wx hx; skip; go_simp; (try with_reducible rfl))
                    try simp only [Act.put, List.setIfInBounds_toArray, List.set_cons_zero, List.set_cons_succ]
                    refine wpAnyH_done (by kernel_rfl) ?_ _
                    clear hzg hS
                    have hS6 := Lib.hid (hSk5.out.tail hOr.out)
                    clear hOr hSk5
                    go_wp2_with fail
                    go_roundw
                    case rel => exact ⟨t + 1, s5, hr1, rfl, by go_num, Hq5, hS6⟩
                    case measure => simp [intOf]; omega
                  | first hp hf =>
                    skip
                    as_aux_lemma =>
                    have p3 : ((p : Int) == 3) = true := by rw [hp]; rfl
                    obtain ⟨f1, f2, f3, ⟨v3', f4⟩, la5, n5, c5, f5, hDo⟩ := hf
                    have HDo := Lib.hid hDo
                    obtain ⟨w4, hw4⟩ : ∃ u, w3.setCell ⟨K.qk, k, none⟩ (.int .i64 1) = u := ⟨_, rfl⟩
                    rw [hw4] at f3 f4 f5 HDo
                    obtain ⟨w5, hw5⟩ : ∃ u, w4.setCell ⟨K.qe, k, none⟩ (.slice (some ⟨s.pm, 0, none⟩) K.N s.cm) = u := ⟨_, rfl⟩
                    rw [hw5] at f5 HDo
                    clear hp hDo
                    go_wp2_with fail
                    refine HDo.out.mono ?_
                    rintro e w6 ⟨s5, R5, rfl, e3, e4, hS5, x5, hPh5⟩
                    rw [hqr2.out] at x5
                    have Hq5 : Hid (s5.qr = qr ∧ s5.cr = cr) := Lib.hid ⟨e3.trans Hq.out.1, e4.trans Hq.out.2⟩
                    have hS5 := Lib.hid hS5
                    have HPh := Lib.hid hPh5
                    clear HDo e3 e4 Hq hqr2 f1 f2 f3 f4 f5 hw4 hw5 hPh5
                    go_wp2_with fail
                    refine HPh.out.mono ?_
                    rintro e w7 ⟨rfl, hw7⟩
                    obtain rfl := hw7.symm
                    clear HPh x5
                    have hSk5 := hS5
                    obtain ⟨HSn, HOv, HSm⟩ := lw_check hS5.out
                    have HSn := Lib.hid HSn
                    have HOv := Lib.hid HOv
                    have HSm := Lib.hid HSm
                    have hOr := Lib.hid (hS5.out.own.quiet (grown_drew (World.grownBy.refl w6 none)))
                    have hzg := Lib.hid (k_geo hOr.out)
                    unfold ptr at HSn
                    go_wp2_with fail
                    refine wp_region_held_drew (S := fun w' => GeoQ K.G (K.a : Int) 2 10 w') (by kernel_rfl) (hzg.out) (fun hS => ?_)
                    refine wpAnyH_take (i := 0) (oi := { dst := some 204, op := Op.load 26 (Operand.tmp 5), type := 26, pos := "law.go:243", after := #[], guard := none }) (v := ?vckf4r40o0) rfl (by kernel_rfl) (by kernel_rfl) (by kernel_rfl) (fun _ _ _ h => h) (Or.inl ⟨by rfl, ?hckf4r40o0⟩) hS ?_
                    case hckf4r40o0 => (intro wx hx; obtain ⟨f0, f1, f2⟩ := GeoQ.cells hx; go_simp; (try with_reducible rfl))
                    try simp only [Act.put, List.setIfInBounds_toArray, List.set_cons_zero, List.set_cons_succ]
                    refine wpAnyH_take (i := 1) (oi := { dst := some 205, op := Op.move (Operand.tmp 7), type := 29, pos := "law.go:243", after := #[], guard := none }) (v := ?vckf4r40o1) rfl (by kernel_rfl) (by kernel_rfl) (by kernel_rfl) (fun _ _ _ h => h) (Or.inl ⟨by rfl, ?hckf4r40o1⟩) hS ?_
                    case hckf4r40o1 => (intro wx hx; skip; go_simp; (try with_reducible rfl))
                    try simp only [Act.put, List.setIfInBounds_toArray, List.set_cons_zero, List.set_cons_succ]
                    refine wpAnyH_take (i := 4) (oi := { dst := some 208, op := Op.move (Operand.tmp 12), type := 33, pos := "law.go:243", after := #[], guard := none }) (v := ?vckf4r40o4) rfl (by kernel_rfl) (by kernel_rfl) (by kernel_rfl) (fun _ _ _ h => h) (Or.inl ⟨by rfl, ?hckf4r40o4⟩) hS ?_
                    case hckf4r40o4 => (intro wx hx; skip; go_simp; (try with_reducible rfl))
                    try simp only [Act.put, List.setIfInBounds_toArray, List.set_cons_zero, List.set_cons_succ]
                    refine wpAnyH_ready (rs := [2]) (by kernel_rfl) (by simp) ?_
                    refine AllReadyH.cons (o := { dst := some 206, op := Op.call { callee := Callee.value (Operand.func 28), args := #[Operand.tmp 205], argTypes := #[29] }, type := 33, pos := "law.go:243", after := #[{ on := 1, ground := Ground.data }], guard := none }) rfl (fun K hK => ?_) AllReadyH.nil
                    go_simp
                    refine (HSn.out _ hOr.out).mono ?_
                    rintro e v1 ⟨b1, q1, rfl, hOn⟩
                    clear hOr HSn
                    have hOr := Lib.hid hOn
                    clear hOn
                    refine hK.out _ _ ?hsckf4r40o2 (fun hS => ?_)
                    case hsckf4r40o2 => (first | exact k_geo hOr.out | exact k_geo1 hOr.out | exact k_geo2 hOr.out)
                    clear hK K
                    try simp only [Act.put, List.setIfInBounds_toArray, List.set_cons_zero, List.set_cons_succ]
                    refine wpAnyH_ready (rs := [3]) (by kernel_rfl) (by simp) ?_
                    refine AllReadyH.cons (o := { dst := some 207, op := Op.call { callee := Callee.value (Operand.func 33), args := #[Operand.tmp 204, Operand.tmp 206], argTypes := #[26, 33] }, type := 33, pos := "law.go:243", after := #[{ on := 0, ground := Ground.data }, { on := 2, ground := Ground.data }, { on := 2, ground := Ground.chain }], guard := none }) rfl (fun K hK => ?_) AllReadyH.nil
                    go_simp
                    refine (HOv.out v1 b1 q1 hOr.out).mono ?_
                    rintro e v2 ⟨b2, q2, rfl, hOn⟩
                    clear hOr HOv
                    have hOr := Lib.hid hOn
                    clear hOn
                    refine hK.out _ _ ?hsckf4r40o3 (fun hS => ?_)
                    case hsckf4r40o3 => (first | exact k_geo hOr.out | exact k_geo1 hOr.out | exact k_geo2 hOr.out)
                    clear hK K
                    try simp only [Act.put, List.setIfInBounds_toArray, List.set_cons_zero, List.set_cons_succ]
                    refine wpAnyH_ready (rs := [5]) (by kernel_rfl) (by simp) ?_
                    refine AllReadyH.cons (o := { dst := some 209, op := Op.call { callee := Callee.value (Operand.func 30), args := #[Operand.tmp 207, Operand.tmp 208], argTypes := #[33, 33] }, type := 4, pos := "law.go:243", after := #[{ on := 3, ground := Ground.data }, { on := 4, ground := Ground.data }, { on := 3, ground := Ground.chain }], guard := none }) rfl (fun K hK => ?_) AllReadyH.nil
                    go_simp
                    refine (HSm.out v2 b1 q1 b2 q2 hOr.out).mono ?_
                    rintro e v3 ⟨rfl, hOn⟩
                    clear hOr HSm
                    have hOr := Lib.hid hOn
                    clear hOn
                    refine hK.out _ _ ?hsckf4r40o5 (fun hS => ?_)
                    case hsckf4r40o5 => (first | exact k_geo hOr.out | exact k_geo1 hOr.out | exact k_geo2 hOr.out)
                    clear hK K
                    try simp only [Act.put, List.setIfInBounds_toArray, List.set_cons_zero, List.set_cons_succ]
                    refine wpAnyH_take (i := 6) (oi := { dst := some 210, op := Op.unOp UnOp.not 4 (Operand.tmp 209), type := 4, pos := "law.go:243", after := #[{ on := 5, ground := Ground.data }], guard := none }) (v := ?vckf4r40o6) rfl (by kernel_rfl) (by kernel_rfl) (by kernel_rfl) (fun _ _ _ h => h) (Or.inl ⟨by rfl, ?hckf4r40o6⟩) hS ?_
                    case hckf4r40o6 => (intro wx hx; skip; go_simp; (try with_reducible rfl))
                    try simp only [Act.put, List.setIfInBounds_toArray, List.set_cons_zero, List.set_cons_succ]
                    refine wpAnyH_done (by kernel_rfl) ?_ _
                    clear hzg hS
                    have hS6 := Lib.hid (hSk5.out.tail hOr.out)
                    clear hOr hSk5
                    go_wp2_with fail
                    go_roundw
                    case rel => exact ⟨t + 1, s5, hr1, rfl, by go_num, Hq5, hS6⟩
                    case measure => simp [intOf]; omega
                  | more hp hf =>
                    skip
                    as_aux_lemma =>
                    have p3 : ((p : Int) == 3) = true := by rw [hp]; rfl
                    obtain ⟨f1, s5, R5, ⟨e1, e2, e3, e4⟩, hS5, x5, hPh5⟩ := hf
                    rw [hqr2.out] at x5
                    rw [← e1, ← e2]
                    have Hq5 : Hid (s5.qr = qr ∧ s5.cr = cr) := Lib.hid ⟨e3.trans Hq.out.1, e4.trans Hq.out.2⟩
                    have hS5 := Lib.hid hS5
                    have HPh := Lib.hid hPh5
                    clear e1 e2 e3 e4 Hq hqr2 hPh5 hp
                    go_wp2_with fail
                    refine HPh.out.mono ?_
                    rintro e w7 ⟨rfl, hw7⟩
                    obtain rfl := hw7.symm
                    clear HPh x5 f1
                    have hSk5 := hS5
                    obtain ⟨HSn, HOv, HSm⟩ := lw_check hS5.out
                    have HSn := Lib.hid HSn
                    have HOv := Lib.hid HOv
                    have HSm := Lib.hid HSm
                    have hOr := Lib.hid (hS5.out.own.quiet (grown_drew (World.grownBy.refl w3 none)))
                    have hzg := Lib.hid (k_geo hOr.out)
                    unfold ptr at HSn
                    go_wp2_with fail
                    refine wp_region_held_drew (S := fun w' => GeoQ K.G (K.a : Int) 2 10 w') (by kernel_rfl) (hzg.out) (fun hS => ?_)
                    refine wpAnyH_take (i := 0) (oi := { dst := some 204, op := Op.load 26 (Operand.tmp 5), type := 26, pos := "law.go:243", after := #[], guard := none }) (v := ?vckm4r40o0) rfl (by kernel_rfl) (by kernel_rfl) (by kernel_rfl) (fun _ _ _ h => h) (Or.inl ⟨by rfl, ?hckm4r40o0⟩) hS ?_
                    case hckm4r40o0 => (intro wx hx; obtain ⟨f0, f1, f2⟩ := GeoQ.cells hx; go_simp; (try with_reducible rfl))
                    try simp only [Act.put, List.setIfInBounds_toArray, List.set_cons_zero, List.set_cons_succ]
                    refine wpAnyH_take (i := 1) (oi := { dst := some 205, op := Op.move (Operand.tmp 7), type := 29, pos := "law.go:243", after := #[], guard := none }) (v := ?vckm4r40o1) rfl (by kernel_rfl) (by kernel_rfl) (by kernel_rfl) (fun _ _ _ h => h) (Or.inl ⟨by rfl, ?hckm4r40o1⟩) hS ?_
                    case hckm4r40o1 => (intro wx hx; skip; go_simp; (try with_reducible rfl))
                    try simp only [Act.put, List.setIfInBounds_toArray, List.set_cons_zero, List.set_cons_succ]
                    refine wpAnyH_take (i := 4) (oi := { dst := some 208, op := Op.move (Operand.tmp 12), type := 33, pos := "law.go:243", after := #[], guard := none }) (v := ?vckm4r40o4) rfl (by kernel_rfl) (by kernel_rfl) (by kernel_rfl) (fun _ _ _ h => h) (Or.inl ⟨by rfl, ?hckm4r40o4⟩) hS ?_
                    case hckm4r40o4 => (intro wx hx; skip; go_simp; (try with_reducible rfl))
                    try simp only [Act.put, List.setIfInBounds_toArray, List.set_cons_zero, List.set_cons_succ]
                    refine wpAnyH_ready (rs := [2]) (by kernel_rfl) (by simp) ?_
                    refine AllReadyH.cons (o := { dst := some 206, op := Op.call { callee := Callee.value (Operand.func 28), args := #[Operand.tmp 205], argTypes := #[29] }, type := 33, pos := "law.go:243", after := #[{ on := 1, ground := Ground.data }], guard := none }) rfl (fun K hK => ?_) AllReadyH.nil
                    go_simp
                    refine (HSn.out _ hOr.out).mono ?_
                    rintro e v1 ⟨b1, q1, rfl, hOn⟩
                    clear hOr HSn
                    have hOr := Lib.hid hOn
                    clear hOn
                    refine hK.out _ _ ?hsckm4r40o2 (fun hS => ?_)
                    case hsckm4r40o2 => (first | exact k_geo hOr.out | exact k_geo1 hOr.out | exact k_geo2 hOr.out)
                    clear hK K
                    try simp only [Act.put, List.setIfInBounds_toArray, List.set_cons_zero, List.set_cons_succ]
                    refine wpAnyH_ready (rs := [3]) (by kernel_rfl) (by simp) ?_
                    refine AllReadyH.cons (o := { dst := some 207, op := Op.call { callee := Callee.value (Operand.func 33), args := #[Operand.tmp 204, Operand.tmp 206], argTypes := #[26, 33] }, type := 33, pos := "law.go:243", after := #[{ on := 0, ground := Ground.data }, { on := 2, ground := Ground.data }, { on := 2, ground := Ground.chain }], guard := none }) rfl (fun K hK => ?_) AllReadyH.nil
                    go_simp
                    refine (HOv.out v1 b1 q1 hOr.out).mono ?_
                    rintro e v2 ⟨b2, q2, rfl, hOn⟩
                    clear hOr HOv
                    have hOr := Lib.hid hOn
                    clear hOn
                    refine hK.out _ _ ?hsckm4r40o3 (fun hS => ?_)
                    case hsckm4r40o3 => (first | exact k_geo hOr.out | exact k_geo1 hOr.out | exact k_geo2 hOr.out)
                    clear hK K
                    try simp only [Act.put, List.setIfInBounds_toArray, List.set_cons_zero, List.set_cons_succ]
                    refine wpAnyH_ready (rs := [5]) (by kernel_rfl) (by simp) ?_
                    refine AllReadyH.cons (o := { dst := some 209, op := Op.call { callee := Callee.value (Operand.func 30), args := #[Operand.tmp 207, Operand.tmp 208], argTypes := #[33, 33] }, type := 4, pos := "law.go:243", after := #[{ on := 3, ground := Ground.data }, { on := 4, ground := Ground.data }, { on := 3, ground := Ground.chain }], guard := none }) rfl (fun K hK => ?_) AllReadyH.nil
                    go_simp
                    refine (HSm.out v2 b1 q1 b2 q2 hOr.out).mono ?_
                    rintro e v3 ⟨rfl, hOn⟩
                    clear hOr HSm
                    have hOr := Lib.hid hOn
                    clear hOn
                    refine hK.out _ _ ?hsckm4r40o5 (fun hS => ?_)
                    case hsckm4r40o5 => (first | exact k_geo hOr.out | exact k_geo1 hOr.out | exact k_geo2 hOr.out)
                    clear hK K
                    try simp only [Act.put, List.setIfInBounds_toArray, List.set_cons_zero, List.set_cons_succ]
                    refine wpAnyH_take (i := 6) (oi := { dst := some 210, op := Op.unOp UnOp.not 4 (Operand.tmp 209), type := 4, pos := "law.go:243", after := #[{ on := 5, ground := Ground.data }], guard := none }) (v := ?vckm4r40o6) rfl (by kernel_rfl) (by kernel_rfl) (by kernel_rfl) (fun _ _ _ h => h) (Or.inl ⟨by rfl, ?hckm4r40o6⟩) hS ?_
                    case hckm4r40o6 => (intro wx hx; skip; go_simp; (try with_reducible rfl))
                    try simp only [Act.put, List.setIfInBounds_toArray, List.set_cons_zero, List.set_cons_succ]
                    refine wpAnyH_done (by kernel_rfl) ?_ _
                    clear hzg hS
                    have hS6 := Lib.hid (hSk5.out.tail hOr.out)
                    clear hOr hSk5
                    go_wp2_with fail
                    go_roundw
                    case rel => exact ⟨t + 1, s5, hr1, rfl, by go_num, Hq5, hS6⟩
                    case measure => simp [intOf]; omega
                  | last hp hf =>
                    skip
                    as_aux_lemma =>
                    have p3 : ((p : Int) == 3) = true := by rw [hp]; rfl
                    obtain ⟨f1, f2, s5, R5, p5, hp5, ⟨e1, e2, e3, e4⟩, hS5, x5, hPh5⟩ := hf
                    rw [hqr2.out] at x5
                    rw [← e1, ← e2]
                    have q5 : ((p5 : Int) != 3) = true := by rw [bne_iff_ne]; omega
                    have Hq5 : Hid (s5.qr = qr ∧ s5.cr = cr) := Lib.hid ⟨e3.trans Hq.out.1, e4.trans Hq.out.2⟩
                    obtain ⟨w5, hw5⟩ : ∃ u, w3.setCell ⟨K.qk, k, none⟩ (.int .i64 2) = u := ⟨_, rfl⟩
                    rw [hw5] at hS5
                    have hS5 := Lib.hid hS5
                    have HPh := Lib.hid hPh5
                    clear e1 e2 e3 e4 Hq hqr2 hPh5 hp hp5
                    go_wp2_with fail
                    refine HPh.out.mono ?_
                    rintro e w7 ⟨rfl, hw7⟩
                    obtain rfl := hw7.symm
                    clear HPh x5
                    go_upto_region 40 with fail
                    clear hw5 f2 f1
                    have hSk5 := hS5
                    obtain ⟨HSn, HOv, HSm⟩ := lw_check hS5.out
                    have HSn := Lib.hid HSn
                    have HOv := Lib.hid HOv
                    have HSm := Lib.hid HSm
                    have hOr := Lib.hid (hS5.out.own.quiet (grown_drew (World.grownBy.refl w5 none)))
                    have hzg := Lib.hid (k_geo hOr.out)
                    unfold ptr at HSn
                    go_wp2_with fail
                    refine wp_region_held_drew (S := fun w' => GeoQ K.G (K.a : Int) 2 10 w') (by kernel_rfl) (hzg.out) (fun hS => ?_)
                    refine wpAnyH_take (i := 0) (oi := { dst := some 204, op := Op.load 26 (Operand.tmp 5), type := 26, pos := "law.go:243", after := #[], guard := none }) (v := ?vckl4r40o0) rfl (by kernel_rfl) (by kernel_rfl) (by kernel_rfl) (fun _ _ _ h => h) (Or.inl ⟨by rfl, ?hckl4r40o0⟩) hS ?_
                    case hckl4r40o0 => (intro wx hx; obtain ⟨f0, f1, f2⟩ := GeoQ.cells hx; go_simp; (try with_reducible rfl))
                    try simp only [Act.put, List.setIfInBounds_toArray, List.set_cons_zero, List.set_cons_succ]
                    refine wpAnyH_take (i := 1) (oi := { dst := some 205, op := Op.move (Operand.tmp 7), type := 29, pos := "law.go:243", after := #[], guard := none }) (v := ?vckl4r40o1) rfl (by kernel_rfl) (by kernel_rfl) (by kernel_rfl) (fun _ _ _ h => h) (Or.inl ⟨by rfl, ?hckl4r40o1⟩) hS ?_
                    case hckl4r40o1 => (intro wx hx; skip; go_simp; (try with_reducible rfl))
                    try simp only [Act.put, List.setIfInBounds_toArray, List.set_cons_zero, List.set_cons_succ]
                    refine wpAnyH_take (i := 4) (oi := { dst := some 208, op := Op.move (Operand.tmp 12), type := 33, pos := "law.go:243", after := #[], guard := none }) (v := ?vckl4r40o4) rfl (by kernel_rfl) (by kernel_rfl) (by kernel_rfl) (fun _ _ _ h => h) (Or.inl ⟨by rfl, ?hckl4r40o4⟩) hS ?_
                    case hckl4r40o4 => (intro wx hx; skip; go_simp; (try with_reducible rfl))
                    try simp only [Act.put, List.setIfInBounds_toArray, List.set_cons_zero, List.set_cons_succ]
                    refine wpAnyH_ready (rs := [2]) (by kernel_rfl) (by simp) ?_
                    refine AllReadyH.cons (o := { dst := some 206, op := Op.call { callee := Callee.value (Operand.func 28), args := #[Operand.tmp 205], argTypes := #[29] }, type := 33, pos := "law.go:243", after := #[{ on := 1, ground := Ground.data }], guard := none }) rfl (fun K hK => ?_) AllReadyH.nil
                    go_simp
                    refine (HSn.out _ hOr.out).mono ?_
                    rintro e v1 ⟨b1, q1, rfl, hOn⟩
                    clear hOr HSn
                    have hOr := Lib.hid hOn
                    clear hOn
                    refine hK.out _ _ ?hsckl4r40o2 (fun hS => ?_)
                    case hsckl4r40o2 => (first | exact k_geo hOr.out | exact k_geo1 hOr.out | exact k_geo2 hOr.out)
                    clear hK K
                    try simp only [Act.put, List.setIfInBounds_toArray, List.set_cons_zero, List.set_cons_succ]
                    refine wpAnyH_ready (rs := [3]) (by kernel_rfl) (by simp) ?_
                    refine AllReadyH.cons (o := { dst := some 207, op := Op.call { callee := Callee.value (Operand.func 33), args := #[Operand.tmp 204, Operand.tmp 206], argTypes := #[26, 33] }, type := 33, pos := "law.go:243", after := #[{ on := 0, ground := Ground.data }, { on := 2, ground := Ground.data }, { on := 2, ground := Ground.chain }], guard := none }) rfl (fun K hK => ?_) AllReadyH.nil
                    go_simp
                    refine (HOv.out v1 b1 q1 hOr.out).mono ?_
                    rintro e v2 ⟨b2, q2, rfl, hOn⟩
                    clear hOr HOv
                    have hOr := Lib.hid hOn
                    clear hOn
                    refine hK.out _ _ ?hsckl4r40o3 (fun hS => ?_)
                    case hsckl4r40o3 => (first | exact k_geo hOr.out | exact k_geo1 hOr.out | exact k_geo2 hOr.out)
                    clear hK K
                    try simp only [Act.put, List.setIfInBounds_toArray, List.set_cons_zero, List.set_cons_succ]
                    refine wpAnyH_ready (rs := [5]) (by kernel_rfl) (by simp) ?_
                    refine AllReadyH.cons (o := { dst := some 209, op := Op.call { callee := Callee.value (Operand.func 30), args := #[Operand.tmp 207, Operand.tmp 208], argTypes := #[33, 33] }, type := 4, pos := "law.go:243", after := #[{ on := 3, ground := Ground.data }, { on := 4, ground := Ground.data }, { on := 3, ground := Ground.chain }], guard := none }) rfl (fun K hK => ?_) AllReadyH.nil
                    go_simp
                    refine (HSm.out v2 b1 q1 b2 q2 hOr.out).mono ?_
                    rintro e v3 ⟨rfl, hOn⟩
                    clear hOr HSm
                    have hOr := Lib.hid hOn
                    clear hOn
                    refine hK.out _ _ ?hsckl4r40o5 (fun hS => ?_)
                    case hsckl4r40o5 => (first | exact k_geo hOr.out | exact k_geo1 hOr.out | exact k_geo2 hOr.out)
                    clear hK K
                    try simp only [Act.put, List.setIfInBounds_toArray, List.set_cons_zero, List.set_cons_succ]
                    refine wpAnyH_take (i := 6) (oi := { dst := some 210, op := Op.unOp UnOp.not 4 (Operand.tmp 209), type := 4, pos := "law.go:243", after := #[{ on := 5, ground := Ground.data }], guard := none }) (v := ?vckl4r40o6) rfl (by kernel_rfl) (by kernel_rfl) (by kernel_rfl) (fun _ _ _ h => h) (Or.inl ⟨by rfl, ?hckl4r40o6⟩) hS ?_
                    case hckl4r40o6 => (intro wx hx; skip; go_simp; (try with_reducible rfl))
                    try simp only [Act.put, List.setIfInBounds_toArray, List.set_cons_zero, List.set_cons_succ]
                    refine wpAnyH_done (by kernel_rfl) ?_ _
                    clear hzg hS
                    have hS6 := Lib.hid (hSk5.out.tail hOr.out)
                    clear hOr hSk5
                    go_wp2_with fail
                    go_roundw
                    case rel => exact ⟨t + 1, s5, hr1, rfl, by go_num, Hq5, hS6⟩
                    case measure => simp [intOf]; omega
                | false =>
                  skip
                  clear hgo hLk HL x1 z2 t0 wt ht
                  obtain ⟨pm1, hpm1⟩ : ∃ v, s.pm = v := ⟨_, rfl⟩
                  obtain ⟨cm1, hcm1⟩ : ∃ v, s.cm = v := ⟨_, rfl⟩
                  rw [hpm1, hcm1]
                  have P2 := Lib.hid (And.intro hpm1 hcm1)
                  clear hpm1 hcm1
                  have Hq2 := Lib.hid (And.intro Hq.out P2.out)
                  clear Hq P2
                  go_wp2_with fail
                  go_loopw [23] (fun i wr => ∃ (t : Nat) (s : Ls), t ≤ evl ∧ i = .int .i64 (t : Int) ∧ Hid ((s.qr = qr ∧ s.cr = cr) ∧ s.pm = pm1 ∧ s.cm = cm1) ∧ Hid (LwS K s T w wr)) (fun i _ => evl - (intOf i).toNat)
                  case atStart => exact ⟨0, s, Nat.zero_le _, rfl, Hq2, hS⟩
                  case round =>
                    clear hS Hq2
                    obtain ⟨t, s, ht, rfl, Hq2, hS⟩ := hrel
                    have t0 : (0 : Int) ≤ (t : Int) := by omega
                    have wt : IntKind.i64.wrap ((t : Int) + 1) = (t : Int) + 1 := IntWalk.i64_in _ ⟨by omega, by omega⟩
                    have z3 := (HX.out _ _ hS.out.own).2.2.2.1
                    by_cases hlt2 : t < evl
                    · skip
                      as_aux_lemma =>
                      have hlt2' : (t : Int) < (evl : Int) := by omega
                      obtain ⟨hxA, hxn, hxs⟩ := Hxe.out
                      have hA := hxA.grown hS.out.own.grown (by simp)
                      obtain ⟨E, hE⟩ : ∃ E, evs[t]? = some E := ⟨evs[t]'(by rw [hxn]; exact hlt2), List.getElem?_eq_getElem _⟩
                      obtain ⟨eb, eo, rfl, ce⟩ := hA t (u8v E) (by rw [List.getElem?_map, hE]; rfl)
                      unfold u8v at ce
                      have hE256 := hxs E (List.mem_of_getElem? hE)
                      obtain ⟨l1, l2, l3⟩ := hS.out.wsl
                      have hNK := Hnum.out.2.2.1
                      have hMp : 0 < K.M := by omega
                      obtain ⟨R, hR⟩ : ∃ R, E % K.M = R := ⟨_, rfl⟩
                      have hRM : R < K.M := by rw [← hR]; exact Nat.mod_lt _ hMp
                      have d2 : (K.N : Int) / 8 = (K.M : Int) := by omega
                      have d1 : Int.tdiv (K.N : Int) 8 = (K.M : Int) := by rw [Int.tdiv_eq_ediv_of_nonneg (by omega)]; exact d2
                      have d3 : IntKind.i64.wrap (K.M : Int) = (K.M : Int) := IntWalk.i64_in _ ⟨by omega, by omega⟩
                      have d4 : ¬ (K.M : Int) = 0 := by omega
                      have d5 : ((K.M : Int) == 0) = false := by rw [beq_eq_false_iff_ne]; omega
                      have d6 : ¬ K.M = 0 := by omega
                      have r1 : (E : Int) % (K.M : Int) = (R : Int) := by omega
                      have r2 : Int.tmod (E : Int) (K.M : Int) = (R : Int) := by rw [Int.tmod_eq_emod_of_nonneg (by omega)]; exact r1
                      have r3 : IntKind.i64.wrap (E : Int) = (E : Int) := IntWalk.i64_in _ ⟨by omega, by omega⟩
                      have r4 : IntKind.i64.wrap (R : Int) = (R : Int) := IntWalk.i64_in _ ⟨by omega, by omega⟩
                      have HEv := Lib.hid (lw_evict hS.out hRM)
                      have hr1 : t + 1 ≤ evl := by omega
                      unfold ptr at HEv
                      clear hxA hxn hxs hA hE hE256 l1 l2 l3 hNK hMp hR hRM hS HX HXT HW HT Hxl Hxe HPk ht
                      go_wp2_with fail
                      refine HEv.out.mono ?_
                      rintro e w3 ⟨rfl, s5, e1, e2, e3, e4, hS5⟩
                      have hS5 := Lib.hid hS5
                      have Hq5 : Hid ((s5.qr = qr ∧ s5.cr = cr) ∧ s5.pm = pm1 ∧ s5.cm = cm1) := Lib.hid ⟨⟨e3.trans Hq2.out.1.1, e4.trans Hq2.out.1.2⟩, e1.trans Hq2.out.2.1, e2.trans Hq2.out.2.2⟩
                      clear HEv e1 e2 e3 e4 Hq2
                      go_wp2_with fail
                      go_roundw
                      case rel => exact ⟨t + 1, s5, hr1, by go_num, Hq5, hS5⟩
                      case measure => simp [intOf]; omega
                    · have hlt2' : ¬ (t : Int) < (evl : Int) := by omega
                      skip
                      clear ht t0 wt hlt2
                      have hS5 := hS
                      have hSk5 := hS
                      clear hS
                      obtain ⟨HSn, HOv, HSm⟩ := lw_check hS5.out
                      rw [Hq2.out.2.1, Hq2.out.2.2] at HSm
                      have HSn := Lib.hid HSn
                      have HOv := Lib.hid HOv
                      have HSm := Lib.hid HSm
                      have hOr := Lib.hid (hS5.out.own.quiet (grown_drew (World.grownBy.refl wr none)))
                      have hzg := Lib.hid (k_geo hOr.out)
                      unfold ptr at HSn
                      go_wp2_with fail
                      refine wp_region_held_drew (S := fun w' => GeoQ K.G (K.a : Int) 2 10 w') (by kernel_rfl) (hzg.out) (fun hS => ?_)
                      refine wpAnyH_take (i := 0) (oi := { dst := some 231, op := Op.load 26 (Operand.tmp 5), type := 26, pos := "law.go:252", after := #[], guard := none }) (v := ?vcl4r47o0) rfl (by kernel_rfl) (by kernel_rfl) (by kernel_rfl) (fun _ _ _ h => h) (Or.inl ⟨by rfl, ?hcl4r47o0⟩) hS ?_
                      case hcl4r47o0 => (intro wx hx; obtain ⟨f0, f1, f2⟩ := GeoQ.cells hx; go_simp; (try with_reducible rfl))
                      try simp only [Act.put, List.setIfInBounds_toArray, List.set_cons_zero, List.set_cons_succ]
                      refine wpAnyH_take (i := 1) (oi := { dst := some 232, op := Op.move (Operand.tmp 7), type := 29, pos := "law.go:252", after := #[], guard := none }) (v := ?vcl4r47o1) rfl (by kernel_rfl) (by kernel_rfl) (by kernel_rfl) (fun _ _ _ h => h) (Or.inl ⟨by rfl, ?hcl4r47o1⟩) hS ?_
                      case hcl4r47o1 => (intro wx hx; skip; go_simp; (try with_reducible rfl))
                      try simp only [Act.put, List.setIfInBounds_toArray, List.set_cons_zero, List.set_cons_succ]
                      refine wpAnyH_take (i := 4) (oi := { dst := some 235, op := Op.move (Operand.tmp 12), type := 33, pos := "law.go:252", after := #[], guard := none }) (v := ?vcl4r47o4) rfl (by kernel_rfl) (by kernel_rfl) (by kernel_rfl) (fun _ _ _ h => h) (Or.inl ⟨by rfl, ?hcl4r47o4⟩) hS ?_
                      case hcl4r47o4 => (intro wx hx; skip; go_simp; (try with_reducible rfl))
                      try simp only [Act.put, List.setIfInBounds_toArray, List.set_cons_zero, List.set_cons_succ]
                      refine wpAnyH_ready (rs := [2]) (by kernel_rfl) (by simp) ?_
                      refine AllReadyH.cons (o := { dst := some 233, op := Op.call { callee := Callee.value (Operand.func 28), args := #[Operand.tmp 232], argTypes := #[29] }, type := 33, pos := "law.go:252", after := #[{ on := 1, ground := Ground.data }], guard := none }) rfl (fun K hK => ?_) AllReadyH.nil
                      go_simp
                      refine (HSn.out _ hOr.out).mono ?_
                      rintro e v1 ⟨b1, q1, rfl, hOn⟩
                      clear hOr HSn
                      have hOr := Lib.hid hOn
                      clear hOn
                      refine hK.out _ _ ?hscl4r47o2 (fun hS => ?_)
                      case hscl4r47o2 => (first | exact k_geo hOr.out | exact k_geo1 hOr.out | exact k_geo2 hOr.out)
                      clear hK K
                      try simp only [Act.put, List.setIfInBounds_toArray, List.set_cons_zero, List.set_cons_succ]
                      refine wpAnyH_ready (rs := [3]) (by kernel_rfl) (by simp) ?_
                      refine AllReadyH.cons (o := { dst := some 234, op := Op.call { callee := Callee.value (Operand.func 33), args := #[Operand.tmp 231, Operand.tmp 233], argTypes := #[26, 33] }, type := 33, pos := "law.go:252", after := #[{ on := 0, ground := Ground.data }, { on := 2, ground := Ground.data }, { on := 2, ground := Ground.chain }], guard := none }) rfl (fun K hK => ?_) AllReadyH.nil
                      go_simp
                      refine (HOv.out v1 b1 q1 hOr.out).mono ?_
                      rintro e v2 ⟨b2, q2, rfl, hOn⟩
                      clear hOr HOv
                      have hOr := Lib.hid hOn
                      clear hOn
                      refine hK.out _ _ ?hscl4r47o3 (fun hS => ?_)
                      case hscl4r47o3 => (first | exact k_geo hOr.out | exact k_geo1 hOr.out | exact k_geo2 hOr.out)
                      clear hK K
                      try simp only [Act.put, List.setIfInBounds_toArray, List.set_cons_zero, List.set_cons_succ]
                      refine wpAnyH_ready (rs := [5]) (by kernel_rfl) (by simp) ?_
                      refine AllReadyH.cons (o := { dst := some 236, op := Op.call { callee := Callee.value (Operand.func 30), args := #[Operand.tmp 234, Operand.tmp 235], argTypes := #[33, 33] }, type := 4, pos := "law.go:252", after := #[{ on := 3, ground := Ground.data }, { on := 4, ground := Ground.data }, { on := 3, ground := Ground.chain }], guard := none }) rfl (fun K hK => ?_) AllReadyH.nil
                      go_simp
                      refine (HSm.out v2 b1 q1 b2 q2 hOr.out).mono ?_
                      rintro e v3 ⟨rfl, hOn⟩
                      clear hOr HSm
                      have hOr := Lib.hid hOn
                      clear hOn
                      refine hK.out _ _ ?hscl4r47o5 (fun hS => ?_)
                      case hscl4r47o5 => (first | exact k_geo hOr.out | exact k_geo1 hOr.out | exact k_geo2 hOr.out)
                      clear hK K
                      try simp only [Act.put, List.setIfInBounds_toArray, List.set_cons_zero, List.set_cons_succ]
                      refine wpAnyH_take (i := 6) (oi := { dst := some 237, op := Op.unOp UnOp.not 4 (Operand.tmp 236), type := 4, pos := "law.go:252", after := #[{ on := 5, ground := Ground.data }], guard := none }) (v := ?vcl4r47o6) rfl (by kernel_rfl) (by kernel_rfl) (by kernel_rfl) (fun _ _ _ h => h) (Or.inl ⟨by rfl, ?hcl4r47o6⟩) hS ?_
                      case hcl4r47o6 => (intro wx hx; skip; go_simp; (try with_reducible rfl))
                      try simp only [Act.put, List.setIfInBounds_toArray, List.set_cons_zero, List.set_cons_succ]
                      refine wpAnyH_done (by kernel_rfl) ?_ _
                      clear hzg hS5 z3 hS
                      have hS6 := Lib.hid (hSk5.out.tail hOr.out)
                      have z4 := (HX.out _ _ hOr.out).2.2.2.2.1
                      have z5 := (HX.out _ _ hOr.out).2.2.2.2.2.1
                      clear hOr hSk5
                      cases crash with
                      | false =>
                        skip
                        as_aux_lemma =>
                        have hS7 : Hid (LwS K s [] w v3) := Lib.hid (hS6.out.tail (by
                          have h1 := hS6.out.own
                          have h2 := Kc.P_more K s [] T
                          rw [List.nil_append] at h2
                          rw [← h2] at h1
                          exact h1.less))
                        obtain ⟨⟨e1, e2⟩, e3, e4⟩ := Hq2.out
                        rw [← e1, ← e2, ← e3, ← e4]
                        have hj1 : j + 1 ≤ tl := by omega
                        clear hS6 e1 e2 e3 e4 Hq2 HX HXT HW HT Hxl Hxe HPk
                        go_wp2_with fail
                        go_roundw
                        case rel => exact ⟨j + 1, s, hj1, rfl, rfl, by go_num, hS7⟩
                        case measure => simp [intOf]; omega
                      | true =>
                        skip
                        as_aux_lemma =>
                        have HCr := Lib.hid (lw_crash hS6.out HPk.out)
                        have l0 := hS6.out.wsl
                        have HNl := Lib.hid (And.intro hS6.out.hN (And.intro hS6.out.ha (And.intro l0.2.2 (show 0 < K.N by have := hS6.out.hN; omega))))
                        unfold ptr at HCr
                        clear l0
                        go_wp2_with fail
                        refine HCr.out.mono ?_
                        rintro e w8 ⟨rfl, y, hy, hys, hO8⟩
                        have hyl : y.length = K.N := by rw [hy.len]; exact hS6.out.wsl.1
                        obtain ⟨now, hnow⟩ : ∃ n, overS (K.a : Int) 2 10 y K.a = n := ⟨_, rfl⟩
                        have hnsm : ∀ v ∈ now, v < 18446744073709551616 := by rw [← hnow]; exact over_small hys _
                        have HSu := Lib.hid (fun wx (s' : Ls) U z (hws : s'.ws = cleanL z) (hl : z.length = K.N) (hO : Grommet.Own w wx (K.P s' (T ++ U))) => k_sureT hO hws hl HNl.out.2.2.1 HNl.out.2.2.2)
                        have HOv := Lib.hid (fun wx (s' : Ls) U z b cap (hz : ∀ v ∈ z, v < 18446744073709551616) (hl : z.length = K.N) (hO : Grommet.Own w wx (K.P s' ((T ++ U) ++ [uRow (some ⟨b, 0, none⟩) K.N cap z]))) => k_overT hO hz hl HNl.out.1 HNl.out.2.1)
                        have HFt := Lib.hid (lw_fates hS6.out hy (by rw [hnow]; exact hnsm) (U := T) (b := 0) (c := 0) (wx := w8))
                        have HFt2 := Lib.hid (fun wx U b c hO => lw_fates hS6.out hy (by rw [hnow]; exact hnsm) (U := U) (b := b) (c := c) (wx := wx) hO)
                        have HRe := Lib.hid (fun wx (s1 : Ls) U (hws : s1.ws = cleanL y) hO => lw_resumed hS6.out hy ha256 HPk.out (U := U) (s1 := s1) hws (wx := wx) hO)
                        rw [hnow] at HRe HFt2
                        rw [Hq2.out.2.1, Hq2.out.2.2] at HFt2
                        have hOr : Hid (Grommet.Own w w8.drew (K.P { s with ws := cleanL y } (T ++ []))) := Lib.hid (by rw [List.append_nil]; exact hO8.quiet (grown_drew (World.grownBy.refl w8 none)))
                        have hzg := Lib.hid (HXT.out _ _ _ hOr.out)
                        unfold ptr at HSu HRe
                        clear HCr hO8 z4 z5 HFt
                        go_wp2_with fail
                        refine wp_region_held_drew (S := fun w' => GeoQ K.G (K.a : Int) 2 10 w' ∧ w'.cell? ⟨X, 5, none⟩ = some (.slice pka pkl pkc) ∧ w'.cell? ⟨X, 6, none⟩ = some (.int .u8 (ag : Int))) (by kernel_rfl) (hzg.out) (fun hS => ?_)
                        refine wpAnyH_take (i := 0) (oi := { dst := some 245, op := Op.load 26 (Operand.tmp 5), type := 26, pos := "law.go:259", after := #[], guard := none }) (v := ?vnw4r51o0) rfl (by kernel_rfl) (by kernel_rfl) (by kernel_rfl) (fun _ _ _ h => h) (Or.inl ⟨by rfl, ?hnw4r51o0⟩) hS ?_
                        case hnw4r51o0 => (intro wx hx; obtain ⟨f0, f1, f2⟩ := GeoQ.cells hx.1; go_simp; (try with_reducible rfl))
                        try simp only [Act.put, List.setIfInBounds_toArray, List.set_cons_zero, List.set_cons_succ]
                        refine wpAnyH_take (i := 1) (oi := { dst := some 246, op := Op.move (Operand.tmp 7), type := 29, pos := "law.go:259", after := #[], guard := none }) (v := ?vnw4r51o1) rfl (by kernel_rfl) (by kernel_rfl) (by kernel_rfl) (fun _ _ _ h => h) (Or.inl ⟨by rfl, ?hnw4r51o1⟩) hS ?_
                        case hnw4r51o1 => (intro wx hx; skip; go_simp; (try with_reducible rfl))
                        try simp only [Act.put, List.setIfInBounds_toArray, List.set_cons_zero, List.set_cons_succ]
                        refine wpAnyH_ready (rs := [2]) (by kernel_rfl) (by simp) ?_
                        refine AllReadyH.cons (o := { dst := some 247, op := Op.call { callee := Callee.value (Operand.func 29), args := #[Operand.tmp 246], argTypes := #[29] }, type := 33, pos := "law.go:259", after := #[{ on := 1, ground := Ground.data }], guard := none }) rfl (fun K hK => ?_) AllReadyH.nil
                        go_simp
                        refine (HSu.out _ _ _ y rfl hyl hOr.out).mono ?_
                        rintro e v1 ⟨b1, q1, rfl, hOn⟩
                        clear hOr
                        have hOr := Lib.hid hOn
                        clear hOn
                        refine hK.out _ _ ?hsnw4r51o2 (fun hS => ?_)
                        case hsnw4r51o2 => (exact HXT.out _ _ _ (by have := hOr.out; simp only [List.append_assoc] at this ⊢; exact this))
                        clear hK K
                        try simp only [Act.put, List.setIfInBounds_toArray, List.set_cons_zero, List.set_cons_succ]
                        refine wpAnyH_ready (rs := [3]) (by kernel_rfl) (by simp) ?_
                        refine AllReadyH.cons (o := { dst := some 248, op := Op.call { callee := Callee.value (Operand.func 33), args := #[Operand.tmp 245, Operand.tmp 247], argTypes := #[26, 33] }, type := 33, pos := "law.go:259", after := #[{ on := 0, ground := Ground.data }, { on := 2, ground := Ground.data }, { on := 2, ground := Ground.chain }], guard := none }) rfl (fun K hK => ?_) AllReadyH.nil
                        go_simp
                        refine (HOv.out _ _ _ _ _ _ hys hyl hOr.out).mono ?_
                        rintro e v2 ⟨b2, q2, rfl, hOn⟩
                        rw [hnow] at hOn
                        clear hOr
                        have hOr := Lib.hid hOn
                        clear hOn
                        refine hK.out _ _ ?hsnw4r51o3 (fun hS => ?_)
                        case hsnw4r51o3 => (exact HXT.out _ _ _ (by have := hOr.out; simp only [List.append_assoc] at this ⊢; exact this))
                        clear hK K
                        try simp only [Act.put, List.setIfInBounds_toArray, List.set_cons_zero, List.set_cons_succ]
                        refine wpAnyH_take (i := 4) (oi := { dst := some 24, op := Op.assign (Operand.tmp 248), type := 33, pos := "law.go:259", after := #[{ on := 3, ground := Ground.data }, { on := 3, ground := Ground.chain }, { on := 0, ground := Ground.phase }, { on := 1, ground := Ground.phase }, { on := 2, ground := Ground.phase }, { on := 3, ground := Ground.phase }], guard := none }) (v := ?vnw4r51o4) rfl (by kernel_rfl) (by kernel_rfl) (by kernel_rfl) (fun _ _ _ h => h) (Or.inl ⟨by rfl, ?hnw4r51o4⟩) hS ?_
                        case hnw4r51o4 => (intro wx hx; skip; go_simp; (try with_reducible rfl))
                        try simp only [Act.put, List.setIfInBounds_toArray, List.set_cons_zero, List.set_cons_succ]
                        refine wpAnyH_done (by kernel_rfl) ?_ _
                        clear hzg hS
                        have hO9 : Grommet.Own w v2 (K.P { s with ws := cleanL y } (T ++ [uRow (some ⟨b1, 0, none⟩) K.N q1 y]) ++ [uRow (some ⟨b2, 0, none⟩) K.N q2 now]) := by
                          have := hOr.out
                          rw [Kc.P_more]
                          simp only [List.append_assoc, List.nil_append] at this ⊢
                          exact this
                        have HFt := Lib.hid (HFt2.out _ _ _ _ hO9)
                        clear hOr HFt2 hO9
                        go_wp2_with fail
                        refine HFt.out.mono ?_
                        rintro e w9 ⟨rfl, hO9⟩
                        have hOp := pool_add hO9 6 (by rw [Kc.P_at _ _ _ 6 (by omega)]; rfl)
                        rw [Kc.set_pool] at hOp
                        obtain ⟨s9, hs9⟩ : ∃ s9, ({ s with ws := cleanL y, L := uRow (some ⟨b2, 0, none⟩) K.N q2 now :: s.L, pm := b2, cm := q2, m := now } : Ls) = s9 := ⟨_, rfl⟩
                        have hOp : Grommet.Own w w9 (K.P s9 (T ++ [uRow (some ⟨b1, 0, none⟩) K.N q1 y])) := by rw [← hs9]; exact hOp
                        have e9 : s9.ws = cleanL y ∧ s9.m = now ∧ uRow (some ⟨b2, 0, none⟩) K.N q2 now ∈ s9.L ∧ s9.pm = b2 ∧ s9.cm = q2 ∧ rowP 92 2 (.slice none 0 0) 0 (icells []) ∈ s9.L := by
                          rw [← hs9]
                          exact ⟨rfl, rfl, List.mem_cons_self .., rfl, rfl, List.mem_cons_of_mem _ hS6.out.nilL⟩
                        have HRe9 := Lib.hid (fun wx hO => HRe.out wx s9 (T ++ [uRow (some ⟨b1, 0, none⟩) K.N q1 y]) e9.1 hO)
                        have hOr := Lib.hid (hOp.quiet (grown_drew (World.grownBy.refl w9 none)))
                        have hzg := Lib.hid (HXT.out _ _ _ hOr.out)
                        have HSm := Lib.hid (fun wx (s' : Ls) U b cap (hm : uRow (some ⟨b2, 0, none⟩) K.N q2 now ∈ s'.L) (hO : Grommet.Own w wx (K.P s' (U ++ [uRow (some ⟨b, 0, none⟩) K.N cap now]))) => k_sameT hO hnsm (by have := HNl.out; omega) hm)
                        have HLo := Lib.hid (fun wx (s' : Ls) U z (hws : s'.ws = cleanL z) (hl : z.length = K.N) (hO : Grommet.Own w wx (K.P s' U)) => k_loose hO hws hl HNl.out.2.2.1)
                        unfold ptr at HLo
                        have HE10 : Hid (∀ z, At55 K { s9 with ws := cleanL z } z now b2 q2) := Lib.hid (fun z => ⟨rfl, e9.2⟩)
                        clear HFt hO9 hOp hs9 HRe e9 hS6 hy hys
                        go_wp2_with fail
                        skip
                        refine wp_region_held_drew (S := fun w' => GeoQ K.G (K.a : Int) 2 10 w' ∧ w'.cell? ⟨X, 5, none⟩ = some (.slice pka pkl pkc) ∧ w'.cell? ⟨X, 6, none⟩ = some (.int .u8 (ag : Int))) (by kernel_rfl) (hzg.out) (fun hS => ?_)
                        refine wpAnyH_take (i := 0) (oi := { dst := some 257, op := Op.move (Operand.tmp 7), type := 29, pos := "law.go:264", after := #[], guard := none }) (v := ?vre4r55o0) rfl (by kernel_rfl) (by kernel_rfl) (by kernel_rfl) (fun _ _ _ h => h) (Or.inl ⟨by rfl, ?hre4r55o0⟩) hS ?_
                        case hre4r55o0 => (intro wx hx; skip; go_simp; (try with_reducible rfl))
                        try simp only [Act.put, List.setIfInBounds_toArray, List.set_cons_zero, List.set_cons_succ]
                        refine wpAnyH_take (i := 1) (oi := { dst := some 258, op := Op.load 26 (Operand.tmp 5), type := 26, pos := "law.go:264", after := #[], guard := none }) (v := ?vre4r55o1) rfl (by kernel_rfl) (by kernel_rfl) (by kernel_rfl) (fun _ _ _ h => h) (Or.inl ⟨by rfl, ?hre4r55o1⟩) hS ?_
                        case hre4r55o1 => (intro wx hx; obtain ⟨⟨f0, f1, f2⟩, f5, f6⟩ := And.intro (GeoQ.cells hx.1) hx.2; go_simp; (try with_reducible rfl))
                        try simp only [Act.put, List.setIfInBounds_toArray, List.set_cons_zero, List.set_cons_succ]
                        refine wpAnyH_take (i := 2) (oi := { dst := some 259, op := Op.fieldAddr 79 (Operand.tmp 17) 6, type := 0, pos := "law.go:264", after := #[], guard := none }) (v := ?vre4r55o2) rfl (by kernel_rfl) (by kernel_rfl) (by kernel_rfl) (fun _ _ _ h => h) (Or.inl ⟨by rfl, ?hre4r55o2⟩) hS ?_
                        case hre4r55o2 => (intro wx hx; skip; go_simp; (try with_reducible rfl))
                        try simp only [Act.put, List.setIfInBounds_toArray, List.set_cons_zero, List.set_cons_succ]
                        refine wpAnyH_take (i := 3) (oi := { dst := some 260, op := Op.load 5 (Operand.tmp 259), type := 5, pos := "law.go:264", after := #[{ on := 2, ground := Ground.data }], guard := none }) (v := ?vre4r55o3) rfl (by kernel_rfl) (by kernel_rfl) (by kernel_rfl) (fun _ _ _ h => h) (Or.inl ⟨by rfl, ?hre4r55o3⟩) hS ?_
                        case hre4r55o3 => (intro wx hx; obtain ⟨⟨f0, f1, f2⟩, f5, f6⟩ := And.intro (GeoQ.cells hx.1) hx.2; go_simp; (try with_reducible rfl))
                        try simp only [Act.put, List.setIfInBounds_toArray, List.set_cons_zero, List.set_cons_succ]
                        refine wpAnyH_take (i := 4) (oi := { dst := some 261, op := Op.convert 5 3 (Operand.tmp 260), type := 3, pos := "law.go:264", after := #[{ on := 3, ground := Ground.data }], guard := none }) (v := ?vre4r55o4) rfl (by kernel_rfl) (by kernel_rfl) (by kernel_rfl) (fun _ _ _ h => h) (Or.inl ⟨by rfl, ?hre4r55o4⟩) hS ?_
                        case hre4r55o4 => (intro wx hx; obtain ⟨⟨f0, f1, f2⟩, f5, f6⟩ := And.intro (GeoQ.cells hx.1) hx.2; go_simp; (try with_reducible rfl))
                        try simp only [Act.put, List.setIfInBounds_toArray, List.set_cons_zero, List.set_cons_succ]
                        refine wpAnyH_take (i := 5) (oi := { dst := some 262, op := Op.fieldAddr 79 (Operand.tmp 17) 5, type := 0, pos := "law.go:264", after := #[], guard := none }) (v := ?vre4r55o5) rfl (by kernel_rfl) (by kernel_rfl) (by kernel_rfl) (fun _ _ _ h => h) (Or.inl ⟨by rfl, ?hre4r55o5⟩) hS ?_
                        case hre4r55o5 => (intro wx hx; skip; go_simp; (try with_reducible rfl))
                        try simp only [Act.put, List.setIfInBounds_toArray, List.set_cons_zero, List.set_cons_succ]
                        refine wpAnyH_take (i := 6) (oi := { dst := some 263, op := Op.load 45 (Operand.tmp 262), type := 45, pos := "law.go:264", after := #[{ on := 5, ground := Ground.data }], guard := none }) (v := ?vre4r55o6) rfl (by kernel_rfl) (by kernel_rfl) (by kernel_rfl) (fun _ _ _ h => h) (Or.inl ⟨by rfl, ?hre4r55o6⟩) hS ?_
                        case hre4r55o6 => (intro wx hx; obtain ⟨⟨f0, f1, f2⟩, f5, f6⟩ := And.intro (GeoQ.cells hx.1) hx.2; go_simp; (try with_reducible rfl))
                        try simp only [Act.put, List.setIfInBounds_toArray, List.set_cons_zero, List.set_cons_succ]
                        refine wpAnyH_ready (rs := [7]) (by kernel_rfl) (by simp) ?_
                        refine AllReadyH.cons (o := { dst := some 264, op := Op.call { callee := Callee.value (Operand.func 40), args := #[Operand.tmp 257, Operand.tmp 258, Operand.tmp 261, Operand.tmp 263], argTypes := #[29, 26, 3, 45] }, type := 4, pos := "law.go:264", after := #[{ on := 0, ground := Ground.data }, { on := 1, ground := Ground.data }, { on := 4, ground := Ground.data }, { on := 6, ground := Ground.data }], guard := none }) rfl (fun K hK => ?_) AllReadyH.nil
                        go_simp
                        refine (HRe9.out _ hOr.out).mono ?_
                        rintro e v1 ⟨rfl, z, us9, hCz, hSz, hzz, hzl, hzs, hzo, hOn⟩
                        obtain ⟨s10, hs10⟩ : ∃ s10, ({ s9 with ws := cleanL z } : Ls) = s10 := ⟨_, rfl⟩
                        have E10 := HE10.out z
                        rw [hs10] at hOn E10
                        have E10 := Lib.hid E10
                        clear hOr hs10 HE10
                        have hOr := Lib.hid hOn
                        clear hOn HRe9
                        refine hK.out _ _ ?hsre4r55o7 (fun hS => ?_)
                        case hsre4r55o7 => (first | (have h9 := hOr.out; simp only [List.append_assoc] at h9; exact HXT.out _ _ _ h9) | exact HXT.out _ _ _ hOr.out)
                        clear hK K
                        try simp only [Act.put, List.setIfInBounds_toArray, List.set_cons_zero, List.set_cons_succ]
                        refine wpAnyH_take (i := 8) (oi := { dst := some 265, op := Op.unOp UnOp.not 4 (Operand.tmp 264), type := 4, pos := "law.go:264", after := #[{ on := 7, ground := Ground.data }], guard := none }) (v := ?vre4r55o8) rfl (by kernel_rfl) (by kernel_rfl) (by kernel_rfl) (fun _ _ _ h => h) (Or.inl ⟨by rfl, ?hre4r55o8⟩) hS ?_
                        case hre4r55o8 => (intro wx hx; skip; go_simp; (try with_reducible rfl))
                        try simp only [Act.put, List.setIfInBounds_toArray, List.set_cons_zero, List.set_cons_succ]
                        refine wpAnyH_take (i := 9) (oi := { dst := some 266, op := Op.move (Operand.tmp 265), type := 4, pos := "law.go:264", after := #[{ on := 8, ground := Ground.data }, { on := 7, ground := Ground.chain }], guard := none }) (v := ?vre4r55o9) rfl (by kernel_rfl) (by kernel_rfl) (by kernel_rfl) (fun _ _ _ h => h) (Or.inl ⟨by rfl, ?hre4r55o9⟩) hS ?_
                        case hre4r55o9 => (intro wx hx; skip; go_simp; (try with_reducible rfl))
                        try simp only [Act.put, List.setIfInBounds_toArray, List.set_cons_zero, List.set_cons_succ]
                        refine wpAnyH_take (i := 10) (oi := { dst := some 267, op := Op.load 26 (Operand.tmp 5), type := 26, pos := "law.go:264", after := #[{ on := 9, ground := Ground.guard }], guard := some (9, false) }) (v := ?vre4r55o10) rfl (by kernel_rfl) (by kernel_rfl) (by kernel_rfl) (fun _ _ _ h => h) (Or.inl ⟨by rfl, ?hre4r55o10⟩) hS ?_
                        case hre4r55o10 => (intro wx hx; obtain ⟨⟨f0, f1, f2⟩, f5, f6⟩ := And.intro (GeoQ.cells hx.1) hx.2; go_simp; (try with_reducible rfl))
                        try simp only [Act.put, List.setIfInBounds_toArray, List.set_cons_zero, List.set_cons_succ]
                        refine wpAnyH_take (i := 11) (oi := { dst := some 268, op := Op.move (Operand.tmp 7), type := 29, pos := "law.go:264", after := #[{ on := 9, ground := Ground.guard }], guard := some (9, false) }) (v := ?vre4r55o11) rfl (by kernel_rfl) (by kernel_rfl) (by kernel_rfl) (fun _ _ _ h => h) (Or.inl ⟨by rfl, ?hre4r55o11⟩) hS ?_
                        case hre4r55o11 => (intro wx hx; skip; go_simp; (try with_reducible rfl))
                        try simp only [Act.put, List.setIfInBounds_toArray, List.set_cons_zero, List.set_cons_succ]
                        refine wpAnyH_take (i := 14) (oi := { dst := some 271, op := Op.move (Operand.tmp 12), type := 33, pos := "law.go:264", after := #[{ on := 9, ground := Ground.guard }], guard := some (9, false) }) (v := ?vre4r55o14) rfl (by kernel_rfl) (by kernel_rfl) (by kernel_rfl) (fun _ _ _ h => h) (Or.inl ⟨by rfl, ?hre4r55o14⟩) hS ?_
                        case hre4r55o14 => (intro wx hx; skip; go_simp; (try with_reducible rfl))
                        try simp only [Act.put, List.setIfInBounds_toArray, List.set_cons_zero, List.set_cons_succ]
                        refine wpAnyH_ready (rs := [12]) (by kernel_rfl) (by simp) ?_
                        refine AllReadyH.cons (o := { dst := some 269, op := Op.call { callee := Callee.value (Operand.func 29), args := #[Operand.tmp 268], argTypes := #[29] }, type := 33, pos := "law.go:264", after := #[{ on := 11, ground := Ground.data }, { on := 9, ground := Ground.chain }, { on := 9, ground := Ground.guard }], guard := some (9, false) }) rfl (fun K hK => ?_) AllReadyH.nil
                        go_simp
                        refine (HSu.out _ s10 _ z E10.out.1 hzl hOr.out).mono ?_
                        rintro e v3 ⟨b3, q3, rfl, hOn⟩
                        clear hOr
                        have hOr := Lib.hid hOn
                        clear hOn
                        refine hK.out _ _ ?hsre4r55o12 (fun hS => ?_)
                        case hsre4r55o12 => (first | (have h9 := hOr.out; simp only [List.append_assoc] at h9; exact HXT.out _ _ _ h9) | exact HXT.out _ _ _ hOr.out)
                        clear hK K
                        try simp only [Act.put, List.setIfInBounds_toArray, List.set_cons_zero, List.set_cons_succ]
                        refine wpAnyH_ready (rs := [13]) (by kernel_rfl) (by simp) ?_
                        refine AllReadyH.cons (o := { dst := some 270, op := Op.call { callee := Callee.value (Operand.func 33), args := #[Operand.tmp 267, Operand.tmp 269], argTypes := #[26, 33] }, type := 33, pos := "law.go:264", after := #[{ on := 10, ground := Ground.data }, { on := 12, ground := Ground.data }, { on := 12, ground := Ground.chain }, { on := 9, ground := Ground.guard }], guard := some (9, false) }) rfl (fun K hK => ?_) AllReadyH.nil
                        go_simp
                        refine (HOv.out _ s10 _ z _ _ hzs hzl hOr.out).mono ?_
                        rintro e v4 ⟨b4, q4, rfl, hOn⟩
                        rw [hzo] at hOn
                        clear hOr
                        have hOr := Lib.hid hOn
                        clear hOn
                        refine hK.out _ _ ?hsre4r55o13 (fun hS => ?_)
                        case hsre4r55o13 => (first | (have h9 := hOr.out; simp only [List.append_assoc] at h9; exact HXT.out _ _ _ h9) | exact HXT.out _ _ _ hOr.out)
                        clear hK K
                        try simp only [Act.put, List.setIfInBounds_toArray, List.set_cons_zero, List.set_cons_succ]
                        refine wpAnyH_ready (rs := [15]) (by kernel_rfl) (by simp) ?_
                        refine AllReadyH.cons (o := { dst := some 272, op := Op.call { callee := Callee.value (Operand.func 30), args := #[Operand.tmp 270, Operand.tmp 271], argTypes := #[33, 33] }, type := 4, pos := "law.go:264", after := #[{ on := 13, ground := Ground.data }, { on := 14, ground := Ground.data }, { on := 13, ground := Ground.chain }, { on := 9, ground := Ground.guard }], guard := some (9, false) }) rfl (fun K hK => ?_) AllReadyH.nil
                        go_simp
                        refine (HSm.out _ s10 _ _ _ E10.out.2.2.1 hOr.out).mono ?_
                        rintro e v5 ⟨rfl, hOn⟩
                        clear hOr
                        have hOr := Lib.hid hOn
                        clear hOn
                        refine hK.out _ _ ?hsre4r55o15 (fun hS => ?_)
                        case hsre4r55o15 => (first | (have h9 := hOr.out; simp only [List.append_assoc] at h9; exact HXT.out _ _ _ h9) | exact HXT.out _ _ _ hOr.out)
                        clear hK K
                        try simp only [Act.put, List.setIfInBounds_toArray, List.set_cons_zero, List.set_cons_succ]
                        refine wpAnyH_take (i := 16) (oi := { dst := some 273, op := Op.unOp UnOp.not 4 (Operand.tmp 272), type := 4, pos := "law.go:264", after := #[{ on := 15, ground := Ground.data }, { on := 9, ground := Ground.guard }], guard := some (9, false) }) (v := ?vre4r55o16) rfl (by kernel_rfl) (by kernel_rfl) (by kernel_rfl) (fun _ _ _ h => h) (Or.inl ⟨by rfl, ?hre4r55o16⟩) hS ?_
                        case hre4r55o16 => (intro wx hx; skip; go_simp; (try with_reducible rfl))
                        try simp only [Act.put, List.setIfInBounds_toArray, List.set_cons_zero, List.set_cons_succ]
                        refine wpAnyH_take (i := 17) (oi := { dst := some 274, op := Op.pick (Operand.tmp 266) (Operand.const (Value.bool true)) (Operand.tmp 273), type := 4, pos := "law.go:264", after := #[{ on := 9, ground := Ground.data }, { on := 16, ground := Ground.data }], guard := none }) (v := ?vre4r55o17) rfl (by kernel_rfl) (by kernel_rfl) (by kernel_rfl) (fun _ _ _ h => h) (Or.inl ⟨by rfl, ?hre4r55o17⟩) hS ?_
                        case hre4r55o17 => (intro wx hx; skip; go_simp; (try with_reducible rfl))
                        try simp only [Act.put, List.setIfInBounds_toArray, List.set_cons_zero, List.set_cons_succ]
                        refine wpAnyH_take (i := 18) (oi := { dst := some 275, op := Op.move (Operand.tmp 274), type := 4, pos := "law.go:264", after := #[{ on := 17, ground := Ground.data }, { on := 15, ground := Ground.chain }], guard := none }) (v := ?vre4r55o18) rfl (by kernel_rfl) (by kernel_rfl) (by kernel_rfl) (fun _ _ _ h => h) (Or.inl ⟨by rfl, ?hre4r55o18⟩) hS ?_
                        case hre4r55o18 => (intro wx hx; skip; go_simp; (try with_reducible rfl))
                        try simp only [Act.put, List.setIfInBounds_toArray, List.set_cons_zero, List.set_cons_succ]
                        refine wpAnyH_take (i := 19) (oi := { dst := some 276, op := Op.move (Operand.tmp 7), type := 29, pos := "law.go:264", after := #[{ on := 18, ground := Ground.guard }], guard := some (18, false) }) (v := ?vre4r55o19) rfl (by kernel_rfl) (by kernel_rfl) (by kernel_rfl) (fun _ _ _ h => h) (Or.inl ⟨by rfl, ?hre4r55o19⟩) hS ?_
                        case hre4r55o19 => (intro wx hx; skip; go_simp; (try with_reducible rfl))
                        try simp only [Act.put, List.setIfInBounds_toArray, List.set_cons_zero, List.set_cons_succ]
                        refine wpAnyH_ready (rs := [20]) (by kernel_rfl) (by simp) ?_
                        refine AllReadyH.cons (o := { dst := some 277, op := Op.call { callee := Callee.value (Operand.func 41), args := #[Operand.tmp 276], argTypes := #[29] }, type := 3, pos := "law.go:264", after := #[{ on := 19, ground := Ground.data }, { on := 18, ground := Ground.chain }, { on := 18, ground := Ground.guard }], guard := some (18, false) }) rfl (fun K hK => ?_) AllReadyH.nil
                        go_simp
                        refine (HLo.out _ s10 _ z E10.out.1 hzl hOr.out).mono ?_
                        rintro e v6 ⟨rfl, hOn⟩
                        clear hOr
                        have hOr := Lib.hid hOn
                        clear hOn
                        refine hK.out _ _ ?hsre4r55o20 (fun hS => ?_)
                        case hsre4r55o20 => (first | (have h9 := hOr.out; simp only [List.append_assoc] at h9; exact HXT.out _ _ _ h9) | exact HXT.out _ _ _ hOr.out)
                        clear hK K
                        try simp only [Act.put, List.setIfInBounds_toArray, List.set_cons_zero, List.set_cons_succ]
                        refine wpAnyH_take (i := 21) (oi := { dst := some 278, op := Op.binOp BinOp.neq 3 (Operand.tmp 277) (Operand.const (Value.int IntKind.i64 0)) 3, type := 4, pos := "law.go:264", after := #[{ on := 20, ground := Ground.data }, { on := 18, ground := Ground.guard }], guard := some (18, false) }) (v := ?vre4r55o21) rfl (by kernel_rfl) (by kernel_rfl) (by kernel_rfl) (fun _ _ _ h => h) (Or.inl ⟨by rfl, ?hre4r55o21⟩) hS ?_
                        case hre4r55o21 => (intro wx hx; skip; go_simp; (try with_reducible rfl))
                        try simp only [Act.put, List.setIfInBounds_toArray, List.set_cons_zero, List.set_cons_succ]
                        refine wpAnyH_take (i := 22) (oi := { dst := some 279, op := Op.pick (Operand.tmp 275) (Operand.const (Value.bool true)) (Operand.tmp 278), type := 4, pos := "law.go:264", after := #[{ on := 18, ground := Ground.data }, { on := 21, ground := Ground.data }], guard := none }) (v := ?vre4r55o22) rfl (by kernel_rfl) (by kernel_rfl) (by kernel_rfl) (fun _ _ _ h => h) (Or.inl ⟨by rfl, ?hre4r55o22⟩) hS ?_
                        case hre4r55o22 => (intro wx hx; skip; go_simp; (try with_reducible rfl))
                        try simp only [Act.put, List.setIfInBounds_toArray, List.set_cons_zero, List.set_cons_succ]
                        refine wpAnyH_done (by kernel_rfl) ?_ _
                        skip
                        as_aux_lemma =>
                        clear hzg hS
                        have hOT : Grommet.Own w v6 (K.P s10 (T ++ [])) := by
                          have := hOr.out
                          simp only [List.append_assoc] at this
                          rw [← Kc.P_more] at this
                          rw [List.append_nil]
                          exact this.less
                        have HSu7 := Lib.hid (HSu.out v6 s10 [] z E10.out.1 hzl hOT)
                        have HRn := Lib.hid (fun wx (hO : Grommet.Own w wx (K.P { s10 with lf := nilF s10.lf K.a, kf := zeroF s10.kf K.a } T)) => k_runs55 (K := K) (s := s10) (U := T) (w0 := w) (w := wx) (y := z) (now := now) (b := b2) (q := q2) (us := us9) E10.out HNl.out.1 HNl.out.2.1 hzl hCz hSz hnsm hO)
                        have HAt := Lib.hid (fun (k : Nat) (hk : k < K.a) wx => AreaAt_any (K.a : Int) 2 10 (k : Int) wx)
                        have HAv : Hid (∀ k : Nat, k < K.a → areaV (K.a : Int) 2 10 (k : Int) = ((264 + 208 * k : Nat) : Int)) := Lib.hid (fun k hk => by
                          have hmay : mayB (K.a : Int) 2 10 = true := by unfold mayB; simp; have := Hnum.out; omega
                          unfold areaV; rw [if_pos ⟨hmay, by omega, by omega⟩]; omega)
                        have hj1 : j + 1 ≤ tl := by omega
                        have Hzz := Lib.hid hzz
                        have Hzl := Lib.hid hzl
                        unfold gv at HAt
                        clear hOr hOT HSu HOv HSm HLo hCz hSz hnsm hzo hzs hzz hzl hyl hnow
                        go_wp2_with fail
                        refine HSu7.out.mono ?_
                        rintro e v7 ⟨b5, q5, rfl, hO7⟩
                        have hz7 : Hid (Grommet.Own w v7 (K.P { s10 with lf := nilF s10.lf 0, kf := zeroF s10.kf 0 } T ++ [uRow (some ⟨b5, 0, none⟩) K.N q5 z])) := Lib.hid (by
                          rw [nilF_zero, zeroF_zero]
                          rw [List.append_nil, ← Kc.P_more] at hO7
                          exact hO7)
                        clear HSu7 hO7
                        go_wp2_with fail
                        go_loopw [26, 27] (fun i _ wr => ∃ t : Nat, t ≤ K.a ∧ i = .int .i64 (t : Int) ∧ Hid (Grommet.Own w wr (K.P { s10 with lf := nilF s10.lf t, kf := zeroF s10.kf t } T ++ [uRow (some ⟨b5, 0, none⟩) K.N q5 z]))) (fun i _ _ => K.a - (intOf i).toNat)
                        case atStart => exact ⟨0, Nat.zero_le _, rfl, hz7⟩
                        case round =>
                          clear hz7
                          obtain ⟨t, ht, rfl, hO⟩ := hrel
                          have t0 : (0 : Int) ≤ (t : Int) := by omega
                          obtain ⟨c0, c1, c2⟩ := GeoQ.cells (k_geo1 hO.out)
                          by_cases hta : t < K.a
                          · skip
                            as_aux_lemma =>
                            have hta' : (t : Int) < (K.a : Int) := by omega
                            have wt : IntKind.i64.wrap ((t : Int) + 1) = (t : Int) + 1 := IntWalk.i64_in _ ⟨by omega, by omega⟩
                            have HA1 := Lib.hid (HAt.out t hta wr)
                            rw [HAv.out t hta] at HA1
                            obtain ⟨A, hA⟩ : ∃ A, 264 + 208 * t = A := ⟨_, rfl⟩
                            have hAN : A < K.N := by have := HNl.out.1; omega
                            rw [hA] at HA1
                            have u1 : ¬ (A : Int) < 0 := by omega
                            have u2 : ¬ (K.N : Int) ≤ (A : Int) := by omega
                            have u3 : (A : Int) < (K.N : Int) := by omega
                            have u4 : (0 : Int) ≤ (A : Int) := by omega
                            have HSk := Lib.hid (fun wx (hO : Grommet.Own w wx (K.P { s10 with lf := nilF s10.lf t, kf := zeroF s10.kf t } T ++ [uRow (some ⟨b5, 0, none⟩) K.N q5 z])) => k_strike (K := K) (t := t) (w0 := w) (w := wx) (s := s10) (U := T) (y := z) (b := b5) (cap := q5) hta hO Hzl.out HNl.out.1)
                            rw [Hzz.out t hta, hA] at HSk
                            have ht1 : t + 1 ≤ K.a := by omega
                            clear HRn HAt HAv hA Hzz Hzl HX HXT HW HT Hxl Hxe HPk
                            go_wp2_with fail
                            refine HA1.out.mono ?_
                            rintro e v8 ⟨rfl, hg8⟩
                            obtain ⟨d1, d2, ⟨x2, d3⟩, d4, ⟨x5, d5⟩, hO9⟩ := HSk.out v8 (hO.out.quiet hg8)
                            rw [show ((0 : Nat) : Int) = 0 from rfl] at d1
                            obtain ⟨v9, hv9⟩ : ∃ u, v8.setCell ⟨K.ql, t, none⟩ (.slice none 0 0) = u := ⟨_, rfl⟩
                            rw [hv9] at d4 d5 hO9
                            have hO9 := Lib.hid hO9
                            clear HA1 HSk hg8 hO c0 c1 c2
                            go_wp2_with fail
                            go_roundw
                            case rel => exact ⟨t + 1, ht1, by go_num, hO9⟩
                            case measure => simp [intOf]; omega
                          · skip
                            as_aux_lemma =>
                            obtain rfl : K.a = t := by omega
                            have hta' : ¬ (K.a : Int) < (K.a : Int) := by omega
                            have HRn1 := Lib.hid (HRn.out wr hO.out.less)
                            clear HRn HAt HAv Hzz Hzl HX HXT HW HT Hxl Hxe HPk hO
                            go_wp2_with fail
                            refine HRn1.out.mono ?_
                            rintro e v8 ⟨s5, rfl, e1, e2, hS5⟩
                            rw [← e1, ← e2]
                            have hS5 := Lib.hid hS5
                            clear HRn1 c0 c1 c2 e1 e2
                            go_wp2_with fail
                            go_roundw
                            case rel => exact ⟨j + 1, s5, hj1, rfl, rfl, by go_num, hS5⟩
                            case measure => simp [intOf]; omega
    · skip
      as_aux_lemma =>
      have hlt' : ¬ (j : Int) < (tl : Int) := by omega
      have hg := Lib.hid hS.out.own.grown
      clear hS HT
      go_wp2_with fail
      refine (HW.out _).mono ?_
      rintro e w5 ⟨rfl, hg5⟩
      go_wp2
      go_ret
      exact ⟨rfl, grown_trans hg.out hg5⟩

theorem walk (a0 : Int) (td : Option Addr) (tl tc : Nat) (T : List Wac) (w : World) (w0 : (Lit.int .u8 a0).wf = true) (hT : WacsIn w td tl T) :
    Calls Tryz.prog 4 #[.int .u8 a0, .slice td tl tc] w (Go.Ev.WorksIs w) := by
  have b0 := bounds_u8 w0
  obtain ⟨A, rfl⟩ := Int.eq_ofNat_of_zero_le b0.1
  by_cases h : 40 < tl
  · exact walk_far _ td tl tc w h
  · exact walk_at A td tl tc T w (by omega) (by omega) hT
end Go.Proofs.YtpdofdloclmbdaaGreat.commitWhole