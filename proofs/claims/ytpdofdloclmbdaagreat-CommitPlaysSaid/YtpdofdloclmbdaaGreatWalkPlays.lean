/- CommitPlays, walked. -/
import Derived.Test.YtpdofdloclmbdaaGreatPk29
import Derived.Test.YtpdofdloclmbdaaGreatPk19
import Derived.Deep.DeepCutAuto
import Derived.Deep.CutBlock
import Derived.BigQuiet
import Derived.Deep.QuietTactic
import Derived.Deep.RegionHeld
namespace Go.Proofs.YtpdofdloclmbdaaGreat.commitPlays
open Go.RowKit Go.Grommet
set_option linter.unusedVariables false

theorem RFormatQ (a b c N : Nat) (xs : List Nat) (w0 w : World) (Ps : List Pr) (h : Grommet.Own w0 w Ps) (hm : mayB (a : Int) (b : Int) (c : Int) = true) (hN : 280 + 208 * a + 16 * b + 8 * c = N) (hN2 : N ≤ 100000) (hxs : fmtL a b c (264 + 208 * a) N = xs) :
    Calls Tryz.prog 10 #[.agg #[.int .i64 (a : Int), .int .i64 (b : Int), .int .i64 (c : Int)]] w fun e w' => ∃ q, e = .returned (.slice (some ⟨q, 0, none⟩) N N) ∧ Grommet.Own w0 w' (Ps ++ [rowP 44 1 (.slice (some ⟨q, 0, none⟩) N N) N (xs.map wv)]) := by
  subst hN
  have hl := length_fmtL a b c (264 + 208 * a) (280 + 208 * a + 16 * b + 8 * c)
  rw [hxs] at hl
  refine (RFormat_any a b c w hm).mono ?_
  rintro e w' ⟨q, rfl, hrow, hq, hg⟩
  rw [hxs] at hrow ⊢
  rw [hl]
  refine ⟨q, rfl, h.addRow ⟨by simp [hl], .inr ⟨q, 280 + 208 * a + 16 * b + 8 * c, _, rfl, hq, hrow, Nat.le_refl _, by unfold maxLen; omega, by simp [hl], by rw [List.take_of_length_le (by simp [hl])]⟩⟩ hg⟩
set_option maxRecDepth 100000 in
/-- A copy of writes. -/
theorem wr_copy {w0 w : World} {Ps : List Pr} (h : Grommet.Own w0 w Ps) (ad : Option Addr) (n cap : Nat) (W : List (Int × Nat)) (hn : W.length = n) (hat : At w ad (icells W)) (hnil : ad = none → n = 0 ∧ cap = 0) (hs : n ≤ 1000) (ty : TypeId) :
    ∃ ad' cap' w2, (Builtin.append_ #[43, 43] ty #[.slice (some ⟨w.heap.size, 0, none⟩) 0 0, .slice ad n cap]).run Tryz.prog (w.alloc (.cells #[] 92)) = .ok (.slice ad' n cap') w2 ∧ Grommet.Own w0 w2 (Ps ++ [rowP 92 2 (.slice ad' n cap') n (icells W)]) := by
  obtain ⟨i0, hi, hz0, hz1, hz2⟩ := info_parts Tryz.info92
  have hg := World.grownBy_alloc w (.cells #[] 92) none
  have hown := own_lit w 92 2 w.heap.size (Nat.le_refl _)
  have hO := h.addRow hown hg
  cases ad with
  | none =>
    obtain ⟨rfl, rfl⟩ := hnil rfl
    obtain rfl := List.eq_nil_of_length_eq_zero hn
    have hrun := run_append_owned_none (P := Tryz.prog) (w := w.alloc (.cells #[] 92)) w.heap.size 43 ty 92 i0 2 Tryz.underlying43 hi _ 0 [] hown
    exact ⟨_, _, _, hrun, hO⟩
  | some x =>
    obtain ⟨v', w', hr, h2, h3, h4⟩ := run_append_blk (P := Tryz.prog) (w.alloc (.cells #[] 92)) 0 43 ty 92 i0 (.agg #[.int .i64 0, .int .u64 0]) 2 16 Tryz.underlying43 hi hz0 hz1 hz2 rfl (by decide) _ 0 [] (row_base hown (fun _ _ => Nat.zero_le _)) x n cap (icells W) (by rw [icells_length, hn]) (hat.grown hg (by simp)).some (icells_oneCell _) (by unfold maxLen; omega) (by omega) (Nat.zero_le _)
    rw [Nat.zero_add] at h2
    obtain ⟨ad', cap', rfl, _⟩ := row_slice h2
    have := Own.append hO Ps.length last_get h2 h3 h4
    rw [List.set_append_right _ _ (Nat.le_refl _), Nat.sub_self, List.set_cons_zero, List.nil_append] at this
    exact ⟨ad', cap', w', hr, this⟩

theorem u64_natA {n : Int} (h : (Lit.int .u64 n).wf = true) : ∃ m : Nat, n = (m : Int) ∧ m < 18446744073709551616 := by
  simp only [Lit.wf, Bool.and_eq_true, decide_eq_true_eq] at h
  obtain ⟨m, rfl⟩ := Int.eq_ofNat_of_zero_le (show 0 ≤ n from h.1)
  refine ⟨m, rfl, ?_⟩
  have h2 : (m : Int) ≤ 18446744073709551615 := h.2
  omega
set_option maxRecDepth 100000 in
set_option maxHeartbeats 1000000 in
theorem walk_far (x y z : Int) (td : Option Addr) (tl tc : Nat) (L : List Wst) (w : World) (hT : WstsIn w td tl L) (hb : fewB tl L = false) :
    Calls Tryz.prog 3 #[.int .u8 x, .int .u8 y, .int .u8 z, .slice td tl tc] w (WorksC w) := by
  have HW := Lib.hid (works_c w)
  have HF := Lib.hid (fewP td tl tc L w hT false hb)
  clear hT hb
  go_enter Tryz.func3, Tryz.ntmps3
  go_wp2_with fail
  refine HF.out.mono ?_
  rintro e w1 ⟨rfl, hw⟩
  obtain rfl := hw.symm
  clear HF
  go_wp2_with fail
  refine HW.out.mono ?_
  rintro e w5 ⟨rfl, hg⟩
  go_wp2
  go_ret
  exact ⟨rfl, hg⟩

def S9 (X : Nat) (dd who : Nat) (la : Option Addr) (ll lc : Nat) (x : Int) (v : Nat) (pa : Option Addr) (pl pc many : Nat) (w : World) : Prop := w.cell? ⟨X, 0, none⟩ = some (.int .u8 (dd : Int)) ∧ w.cell? ⟨X, 1, none⟩ = some (.int .u8 (who : Int)) ∧ w.cell? ⟨X, 2, none⟩ = some (.slice la ll lc) ∧ w.cell? ⟨X, 3, none⟩ = some (.int .i64 x) ∧ w.cell? ⟨X, 4, none⟩ = some (.int .u64 (v : Int)) ∧ w.cell? ⟨X, 5, none⟩ = some (.slice pa pl pc) ∧ w.cell? ⟨X, 6, none⟩ = some (.int .u8 (many : Int))
def stpC (dd who : Nat) (la : Option Addr) (ll lc : Nat) (x : Int) (v : Nat) (pa : Option Addr) (pl pc many : Nat) : Array Value := #[.int .u8 (dd : Int), .int .u8 (who : Int), .slice la ll lc, .int .i64 x, .int .u64 (v : Int), .slice pa pl pc, .int .u8 (many : Int)]
theorem S9.of {K : Qc} {s : Qs} {X dd who : Nat} {la : Option Addr} {ll lc : Nat} {x : Int} {v : Nat} {pa : Option Addr} {pl pc many : Nat} {w0 w : World} {U : List Pr} (hO : Grommet.Own w0 w (K.P s ([boxP X 47 (stpC dd who la ll lc x v pa pl pc many)] ++ U))) : S9 X dd who la ll lc x v pa pl pc many w := by
  have hb := hO.box ((7 + K.a + K.a) + 0) (X := X) (T := 47) (cs := stpC dd who la ll lc x v pa pl pc many) ((q_T K s _ 0).trans rfl)
  unfold stpC at hb
  exact ⟨by simp [World.cell?, hb], by simp [World.cell?, hb], by simp [World.cell?, hb], by simp [World.cell?, hb], by simp [World.cell?, hb], by simp [World.cell?, hb], by simp [World.cell?, hb]⟩

set_option maxRecDepth 100000 in
set_option maxHeartbeats 16000000 in
theorem walk_at (x y z : Nat) (td : Option Addr) (tl tc : Nat) (L0 : List Wst) (w : World) (hx : x < 256) (hy : y < 256) (hz : z < 256) (hT : WstsIn w td tl L0) (hb : fewB tl L0 = true) :
    Calls Tryz.prog 3 #[.int .u8 (x : Int), .int .u8 (y : Int), .int .u8 (z : Int), .slice td tl tc] w (WorksC w) := by
  have HFw := Lib.hid (fewP td tl tc L0 w hT true hb)
  have hb2 : tl ≤ 60 ∧ ∀ x ∈ L0, x.ll ≤ 120 ∧ x.pkl ≤ 100 := by unfold fewB at hb; exact of_decide_eq_true hb
  have tl60 := hb2.1
  have Hb := Lib.hid hb2.2
  have HT := Lib.hid hT
  have HW := Lib.hid (fun wx => works_c wx)
  have HG := Lib.hid (geom_any x y z hx hy hz w)
  obtain ⟨a, ha⟩ : ∃ a, 1 + x % 4 = a := ⟨_, rfl⟩
  obtain ⟨b, hbb⟩ : ∃ b, 2 + y % 8 = b := ⟨_, rfl⟩
  obtain ⟨c, hc⟩ : ∃ c, 2 + z % 20 = c := ⟨_, rfl⟩
  rw [ha, hbb, hc] at HG
  unfold gv at HG
  have ha1 : 1 ≤ a ∧ a ≤ 4 := by omega
  have hb9 : 2 ≤ b ∧ b ≤ 9 := by omega
  have hc21 : 2 ≤ c ∧ c ≤ 21 := by omega
  have hmay : mayB (a : Int) (b : Int) (c : Int) = true := by unfold mayB; simp; omega
  obtain ⟨N, hN⟩ : ∃ N, 280 + 208 * a + 16 * b + 8 * c = N := ⟨_, rfl⟩
  obtain ⟨M, hM⟩ : ∃ M, N / 8 = M := ⟨_, rfl⟩
  have hNM : N = 8 * M := by omega
  have hN2 : 400 ≤ N ∧ N ≤ 2000 := by omega
  have hxl := length_fmtL a b c (264 + 208 * a) N
  have hxs := fmtL_lt a b c (264 + 208 * a) N (by omega) (by omega) (by omega)
  obtain ⟨xs, hx0⟩ : ∃ xs, fmtL a b c (264 + 208 * a) N = xs := ⟨_, rfl⟩
  rw [hx0] at hxl hxs
  have HF := Lib.hid (fun wx Ps hO => RFormatQ a b c N xs w wx Ps hO hmay hN (by omega) hx0)
  have HD := Lib.hid (fun wx m ad cap Ps hO hm => deviceQ m ad N cap xs w wx Ps hO hm hxl hxs (by omega) (by omega) (by omega))
  have HRu := Lib.hid (fun wx j d ws Ps hO hj (hl : ws.length = N) => runsBH j d a b c ws w wx Ps hO hj ha1 hmay (by omega))
  have HRn := Lib.hid (fun wx kd kr g Ps r ad cap Rs t rs hD (ht : t < a) hO => refs_new (w0 := w) (w := wx) kd kr g N Ps r a b c ad cap Rs t rs hD hmay ht (by omega) hO)
  have HRa := Lib.hid (fun wx Ps r ad cap Rs t R (ht : t ≤ 100) hO => refs_add (w0 := w) (w := wx) Ps r a b c ad cap Rs t R ht hO)
  unfold gv at HRu
  unfold DevAnsQ at HD
  unfold RunsAnsB at HRu
  unfold ptr at HD HRu HRa
  have Hxl := Lib.hid hxl
  have Hnum : Hid (1 ≤ a ∧ a ≤ 4 ∧ b ≤ 9 ∧ c ≤ 21 ∧ 280 + 208 * a + 16 * b + 8 * c = N ∧ N = 8 * M ∧ mayB (a : Int) (b : Int) (c : Int) = true) := Lib.hid ⟨ha1.1, ha1.2, by omega, by omega, hN, hNM, hmay⟩
  have a4 : a ≤ 4 := ha1.2
  have a1 : 1 ≤ a := ha1.1
  clear hT hb hb2 hx hy hz ha hbb hc hmay hM hxl hxs hx0 ha1 hb9 hc21 hN hNM
  go_enter Tryz.func3, Tryz.ntmps3
  go_wp2_with fail
  refine HFw.out.mono ?_
  rintro e w1 ⟨rfl, hw⟩
  obtain rfl := hw.symm
  clear HFw
  go_wp2_with fail
  refine HG.out.mono ?_
  rintro e w1 ⟨rfl, hg1⟩
  obtain ⟨w2, hw2⟩ : ∃ u, w1.alloc (.cells #[.int .i64 (a : Int), .int .i64 (b : Int), .int .i64 (c : Int)] 26) = u := ⟨_, rfl⟩
  obtain ⟨X9, hX9⟩ : ∃ v, w1.heap.size = v := ⟨_, rfl⟩
  obtain ⟨w3, hw3⟩ : ∃ u, w2.alloc (.cells #[.int .i64 (a : Int), .int .i64 (b : Int), .int .i64 (c : Int)] 28) = u := ⟨_, rfl⟩
  obtain ⟨X10, hX10⟩ : ∃ v, w2.heap.size = v := ⟨_, rfl⟩
  have hO2 : Grommet.Own w w2 [boxP X9 26 #[.int .i64 (a : Int), .int .i64 (b : Int), .int .i64 (c : Int)]] := by rw [← hw2, ← hX9]; exact ((Own.nil w).quiet hg1).addBox _ _
  have hO3 : Grommet.Own w w3 [boxP X9 26 #[.int .i64 (a : Int), .int .i64 (b : Int), .int .i64 (c : Int)], boxP X10 28 #[.int .i64 (a : Int), .int .i64 (b : Int), .int .i64 (c : Int)]] := by rw [← hw3, ← hX10]; exact hO2.addBox _ _
  have hGe : ∀ (wx : World) (Q : List Pr), Grommet.Own w wx ([boxP X9 26 #[.int .i64 (a : Int), .int .i64 (b : Int), .int .i64 (c : Int)], boxP X10 28 #[.int .i64 (a : Int), .int .i64 (b : Int), .int .i64 (c : Int)]] ++ Q) → GeoT X9 (a : Int) (b : Int) (c : Int) wx ∧ GeoT X10 (a : Int) (b : Int) (c : Int) wx := by
    intro wx Q hO
    have h1 := hO.box 0 (X := X9) (T := 26) (cs := #[.int .i64 (a : Int), .int .i64 (b : Int), .int .i64 (c : Int)]) rfl
    have h2 := hO.box 1 (X := X10) (T := 28) (cs := #[.int .i64 (a : Int), .int .i64 (b : Int), .int .i64 (c : Int)]) rfl
    exact ⟨⟨by simp [World.cell?, h1], by simp [World.cell?, h1], by simp [World.cell?, h1]⟩, ⟨by simp [World.cell?, h2], by simp [World.cell?, h2], by simp [World.cell?, h2]⟩⟩
  have HGe := Lib.hid hGe
  have hb2 := hO2.box 0 (X := X9) (T := 26) (cs := #[.int .i64 (a : Int), .int .i64 (b : Int), .int .i64 (c : Int)]) rfl
  have b0 : w2.cell? ⟨X9, 0, none⟩ = some (.int .i64 (a : Int)) := by simp [World.cell?, hb2]
  have b1 : w2.cell? ⟨X9, 1, none⟩ = some (.int .i64 (b : Int)) := by simp [World.cell?, hb2]
  have b2 : w2.cell? ⟨X9, 2, none⟩ = some (.int .i64 (c : Int)) := by simp [World.cell?, hb2]
  obtain ⟨⟨c0, c1, c2⟩, ⟨d0, d1, d2⟩⟩ := hGe w3 [] hO3
  have HF3 := Lib.hid (HF.out w3 _ hO3)
  clear hGe HG HF hg1 hO2 hO3 hb2
  go_wp2_with fail
  refine HF3.out.mono ?_
  rintro e w4 ⟨q, rfl, hO4⟩
  have HD4 := Lib.hid (HD.out w4 2 (some ⟨q, 0, none⟩) N _ hO4 rfl)
  clear HF3 HD hO4 b0 b1 b2 c0 c1 c2 d0 d1 d2 hw2 hw3 hX9 hX10
  go_wp2_with fail
  refine HD4.out.mono ?_
  rintro e w5 ⟨d, r, g, rs, rfl, hAQ, hO5⟩
  obtain ⟨⟨c0, c1, c2⟩, _⟩ := HGe.out w5 _ hO5
  have HR5 := Lib.hid (HRu.out w5 3 d _ _ hO5 rfl (by rw [cleanL_len]; exact Hxl.out))
  have HAQ := Lib.hid hAQ
  clear HD4 HRu hO5 hAQ
  go_wp2_with fail
  refine HR5.out.mono ?_
  rintro e w6 ⟨Rs, ada, ca, rfl, hO6⟩
  obtain ⟨qa, rfl, _⟩ := Own.cell hO6 6 rfl 0 _ (ptrsL_get Rs (by omega : 0 < a))
  obtain ⟨Bs, hBs⟩ : ∃ l, baseP X9 X10 a b c d r g N (rowP 44 1 (.slice (some ⟨q, 0, none⟩) N N) N (xs.map wv)) (cleanL xs) rs qa ca Rs = l := ⟨_, rfl⟩
  have hO6 : Grommet.Own w w6 Bs := by rw [← hBs]; exact hO6
  have hRD : RD Bs 5 4 r g N rs := by rw [← hBs]; exact ⟨rfl, rfl, by decide, HAQ.out.1.1, HAQ.out.1.2, by omega⟩
  have HBs := Lib.hid hBs
  have HRD := Lib.hid hRD
  have HGb := Lib.hid (fun wx ad cap Rq t (hO : Grommet.Own w wx (refsP Bs r a b c ad cap Rq t)) => HGe.out wx (([rowP 44 1 (.slice (some ⟨q, 0, none⟩) N N) N (xs.map wv), devP d (cleanL xs), rowR g N rs, boxR r g N, rowP 48 1 (.slice (some ⟨qa, 0, none⟩) a ca) a (ptrsL Rs a)] ++ runsB d a b c Rs (fun _ => []) a ++ [rowP 39 1 (.slice ad t cap) t (ptrsL Rq t)]) ++ refsB r a b c Rq (fun _ => []) t) (by
    rw [← hBs] at hO
    exact hO))
  have hz0 := Lib.hid (refs_zero Bs r a b c hO6)
  clear HR5 hO6 hRD hBs c0 c1 c2 HGe
  go_wp2_with fail
  go_loopw [16, 17, 18, 19] (fun bv i _ _ wr => ∃ (t : Nat) (Rq : Nat → Nat) (ad : Option Addr) (cap : Nat), t ≤ a ∧ i = .int .i64 (t : Int) ∧ bv = .slice ad t cap ∧ Hid (Grommet.Own w wr (refsP Bs r a b c ad cap Rq t))) (fun _ i _ _ _ => a - (intOf i).toNat)
  case atStart => exact ⟨0, _, none, 0, Nat.zero_le _, rfl, rfl, hz0⟩
  case round =>
    clear hz0
    obtain ⟨t, Rq, ad, cap, ht, rfl, rfl, hO⟩ := hrel
    have t0 : (0 : Int) ≤ (t : Int) := by omega
    obtain ⟨⟨c0, c1, c2⟩, ⟨d0, d1, d2⟩⟩ := HGb.out _ _ _ _ _ hO.out
    by_cases hlt : t < a
    · skip
      as_aux_lemma =>
      have hlt' : (t : Int) < (a : Int) := by omega
      have wt : IntKind.i64.wrap ((t : Int) + 1) = (t : Int) + 1 := IntWalk.i64_in _ ⟨by omega, by omega⟩
      have HN1 := Lib.hid (HRn.out wr 5 4 g Bs r ad cap Rq t rs HRD.out hlt hO.out)
      have ht1 : t + 1 ≤ a := by omega
      clear HRn HGb hO HT Hb HW
      go_wp2_with fail
      refine HN1.out.mono ?_
      rintro e w7 ⟨R9, rfl, hO7⟩
      obtain ⟨ad2, cap2, w8, Rq2, hr, hO8⟩ := HRa.out w7 Bs r ad cap Rq t R9 (by omega) hO7
      have hO8 := Lib.hid hO8
      clear HN1 HRa hO7 c0 c1 c2 d0 d1 d2
      go_wp2_with (at_builtin; refine wpList_append_run rfl _ _ _ rfl _ _ _ rfl rfl hr ?_)
      go_roundw
      case rel => exact ⟨t + 1, Rq2, ad2, cap2, ht1, by go_num, rfl, hO8⟩
      case measure => simp [intOf]; omega
    · obtain rfl : a = t := by omega
      have hlt' : ¬ (a : Int) < (a : Int) := by omega
      obtain ⟨bq, rfl, _⟩ := Own.cell hO.out Bs.length (by unfold refsP; rw [List.getElem?_append_left (by simp)]; exact last_get) 0 _ (ptrsL_get Rq (by omega : 0 < a))
      have hO9 := hO.out
      rw [← HBs.out] at hO9
      have hO9 := base_start hO9 M
      obtain ⟨K, hK⟩ : ∃ K : Qc, K = ⟨a, b, c, N, M, X9, X10, d, r, g, bq, cap, Rq⟩ := ⟨_, rfl⟩
      have ka : a = K.a := by rw [hK]
      have kb : b = K.b := by rw [hK]
      have kc : c = K.c := by rw [hK]
      have kN : N = K.N := by rw [hK]
      have kM : M = K.M := by rw [hK]
      have k9 : X9 = K.X9 := by rw [hK]
      have k10 : X10 = K.X10 := by rw [hK]
      have kd : d = K.d := by rw [hK]
      have kr : r = K.r := by rw [hK]
      have kg : g = K.g := by rw [hK]
      have kq : bq = K.bq := by rw [hK]
      have kp : cap = K.cb := by rw [hK]
      obtain ⟨s0, hs0⟩ : ∃ s0 : Qs, s0 = ⟨cleanL xs, rs, Rs, qa, ca, fun _ => [], fun _ => []⟩ := ⟨_, rfl⟩
      have sq : qa = s0.qa := by rw [hs0]
      have sc : ca = s0.ca := by rw [hs0]
      have hL0 : LwQ K s0 [] w wr := by
        obtain ⟨n1, n2, n3, n4, n5, n6, n7⟩ := Hnum.out
        rw [hs0, hK]
        exact { may := n7, ha := ⟨n1, n2⟩, hbc := ⟨n3, n4⟩, hN := n5, hM := n6, wl := by rw [cleanL_len]; exact Hxl.out, any := HAQ.out.1, rel := HAQ.out.2, eq := fun _ _ => rfl, ok := fun _ _ => OkS.nil _, own := hO9 }
      have hL0 := Lib.hid hL0
      clear hO hO9 HGb HRn HRa HRD HBs HAQ Hnum Hxl c1 c2 d0 d1 d2 hK hs0
      subst ka kb kc kN kM k9 k10 kd kr kg kq kp sq sc
      go_wp2_with fail
      clear c0
      go_loopw [14, 15, 20, 21, 22, 23, 24, 25, 26, 27, 28, 29, 30, 31, 32, 33] (fun av _ i _ _ _ _ _ _ _ _ _ _ _ _ _ wr => ∃ (j : Nat) (s : Qs), j ≤ tl ∧ av = .slice (some ⟨s.qa, 0, none⟩) K.a s.ca ∧ i = .int .i64 (j : Int) ∧ Hid (LwQ K s [] w wr)) (fun _ _ i _ _ _ _ _ _ _ _ _ _ _ _ _ _ => tl - (intOf i).toNat)
      case atStart => exact ⟨0, s0, Nat.zero_le _, rfl, rfl, hL0⟩
      case round =>
        clear hL0
        obtain ⟨j, s, hj, rfl, rfl, hS⟩ := hrel
        have j0 : (0 : Int) ≤ (j : Int) := by omega
        by_cases hlt : j < tl
        · have hlt2' : (j : Int) < (tl : Int) := by omega
          have wj : IntKind.i64.wrap ((j : Int) + 1) = (j : Int) + 1 := IntWalk.i64_in _ ⟨by omega, by omega⟩
          obtain ⟨⟨dd0, who0, la, ll, lc, ls, atx, v0, pka, pkl, pkc, pks, many0⟩, hx⟩ : ∃ x, L0[j]? = some x := ⟨L0[j]'(by rw [HT.out.1]; exact hlt), List.getElem?_eq_getElem _⟩
          have hok := HT.out.2.1 _ (List.mem_of_getElem? hx)
          have hfe := Hb.out _ (List.mem_of_getElem? hx)
          have hcl := (HT.out.grown hS.out.own.grown).2.2 j _ hx
          have hwl := HT.out.2.2 j _ hx
          dsimp only at hcl hwl hfe
          obtain ⟨⟨tg, to_, rfl, y0, y1, y2, y3, y4, y5, y6⟩, _⟩ := hcl
          obtain ⟨_, hxL, hxP⟩ := hwl
          obtain ⟨dd, rfl, hd256⟩ := u8_natA (show (Lit.int .u8 dd0).wf = true from hok.dd)
          obtain ⟨who, rfl, hw256⟩ := u8_natA (show (Lit.int .u8 who0).wf = true from hok.who)
          obtain ⟨many, rfl, hm256⟩ := u8_natA (show (Lit.int .u8 many0).wf = true from hok.many)
          obtain ⟨v, rfl, hv64⟩ := u64_natA (show (Lit.int .u64 v0).wf = true from hok.v)
          have HxL := Lib.hid (And.intro hxL (And.intro (show ll ≤ lc ∧ (la = none → ll = 0 ∧ lc = 0) from hok.lcap) hfe.1))
          have HPk : Hid ((∀ wx, w.grownBy wx none → At wx pka (pks.map u8v)) ∧ pks.length = pkl ∧ pkl ≤ pkc ∧ (pka = none → pks = []) ∧ (pks ≠ [] → ∀ a, pka = some a → a.block < w.heap.size) ∧ (∀ p ∈ pks, p < 256) ∧ pkl ≤ 1000) := Lib.hid ⟨fun wx hg => hxP.grown hg (by simp), hok.pklen, hok.pkcap, hok.pknil, fun hne a ha => old_block hxP (by simpa using hne) a ha, hok.pksmall, by omega⟩
          obtain ⟨X, hX⟩ : ∃ X, wr.heap.size = X := ⟨_, rfl⟩
          obtain ⟨wX, hwX⟩ : ∃ u, wr.alloc (.cells #[.int .u8 (dd : Int), .int .u8 (who : Int), .slice la ll lc, .int .i64 atx, .int .u64 (v : Int), .slice pka pkl pkc, .int .u8 (many : Int)] 47) = u := ⟨_, rfl⟩
          have hSX : LwQ K s [boxP X 47 (stpC dd who la ll lc atx v pka pkl pkc many)] w wX := hS.out.move (by
            have := hS.out.own.addBox 47 (stpC dd who la ll lc atx v pka pkl pkc many)
            rw [hX] at this
            have h2 : wr.alloc (.cells (stpC dd who la ll lc atx v pka pkl pkc many) 47) = wX := hwX
            rw [h2, ← q_more, List.nil_append] at this
            exact this)
          obtain ⟨T, hTe⟩ : ∃ T, [boxP X 47 (stpC dd who la ll lc atx v pka pkl pkc many)] = T := ⟨_, rfl⟩
          have HS9 := Lib.hid (fun (wx : World) (s' : Qs) (U : List Pr) (hO : Grommet.Own w wx (K.P s' (T ++ U))) => S9.of (show Grommet.Own w wx (K.P s' ([boxP X 47 (stpC dd who la ll lc atx v pka pkl pkc many)] ++ U)) from by rw [hTe]; exact hO))
          rw [hTe] at hSX
          obtain ⟨k, hk⟩ : ∃ k, who % K.a = k := ⟨_, rfl⟩
          have hka : k < K.a := by rw [← hk]; exact Nat.mod_lt _ (by omega)
          have f1 : (who : Int) % (K.a : Int) = (k : Int) := by omega
          have f2 : Int.tmod (who : Int) (K.a : Int) = (k : Int) := by rw [Int.tmod_eq_emod_of_nonneg (by omega)]; exact f1
          have f3 : IntKind.i64.wrap (who : Int) = (who : Int) := IntWalk.i64_in _ ⟨by omega, by omega⟩
          have f4 : IntKind.i64.wrap (k : Int) = (k : Int) := IntWalk.i64_in _ ⟨by omega, by omega⟩
          have az : ¬ (K.a : Int) = 0 := by omega
          have azn : ¬ K.a = 0 := by omega
          have azb : ((K.a : Int) == 0) = false := by rw [beq_eq_false_iff_ne]; omega
          have k0 : (0 : Int) ≤ (k : Int) := by omega
          have hka' : (k : Int) < (K.a : Int) := by omega
          have fm : IntKind.i64.wrap (many : Int) = (many : Int) := IntWalk.i64_in _ ⟨by omega, by omega⟩
          obtain ⟨m8, hm8⟩ : ∃ m, dd % 8 = m := ⟨_, rfl⟩
          have g1 : (dd : Int) % 8 = (m8 : Int) := by omega
          have g2 : Int.tmod (dd : Int) 8 = (m8 : Int) := by rw [Int.tmod_eq_emod_of_nonneg (by omega)]; exact g1
          have g3 : IntKind.u8.wrap (m8 : Int) = (m8 : Int) := IntWalk.u8_in _ ⟨by omega, by omega⟩
          have hm88 : m8 < 8 := by omega
          obtain ⟨⟨c0, c1, c2⟩, _⟩ := q_geo hSX.own
          obtain ⟨z0, z1, z2, z3, z4, z5, z6⟩ := HS9.out wX s [] (by rw [List.append_nil]; exact hSX.own)
          have hSX := Lib.hid hSX
          clear hx hok hfe hxL hxP hTe hS hk hm8 z2 z3 z4 z5
          go_upto_block 4 with fail
          clear hwX hX y0 y1 y2 y3 y4 y5 y6 f1 f2 f3 f4 g1 g2 g3 z0 z1
          go_cut [14, 15, 23, 24, 25, 26, 27, 28, 29, 30, 31, 32, 33] (fun av _ sm _ _ _ _ _ _ _ _ _ _ wx => ∃ s' : Qs, av = .slice (some ⟨s'.qa, 0, none⟩) K.a s'.ca ∧ sm = .bool true ∧ Hid (LwQ K s' T w wx))
          case first =>
            clear HT Hb HW
            have hr8 : m8 = 3 ∨ m8 = 4 ∨ m8 = 5 ∨ m8 = 6 ∨ m8 = 7 ∨ (m8 ≠ 3 ∧ m8 ≠ 4 ∧ m8 ≠ 5 ∧ m8 ≠ 6 ∧ m8 ≠ 7) := by omega
            clear hm88
            rcases hr8 with hr8 | hr8 | hr8 | hr8 | hr8 | hr8
            · skip
              as_aux_lemma =>
              have n3 : ((m8 : Int) == 3) = true := by rw [hr8]; rfl
              clear hr8
              obtain ⟨en, s1, s2, e1, e2, HB1, HB2⟩ := q_begin hSX.out hka (bd := la) (n := ll) (bc := lc) (W := ls.map wrt) (at_wrts HxL.out.1) (by rw [List.length_map]; exact HxL.out.1.1) (by have := HxL.out.2.2; omega) (fun p hp => by
                obtain ⟨y, hy, rfl⟩ := List.mem_map.1 hp
                exact (HxL.out.1.2.1 y hy).1) (fun p hp => by
                obtain ⟨y, hy, rfl⟩ := List.mem_map.1 hp
                obtain ⟨m, hm, hm2⟩ := u64_natA (HxL.out.1.2.1 y hy).2
                show y.vv.toNat < 18446744073709551616
                rw [hm]; omega)
              have HK := Lib.hid (fun (wx : World) (s' : Qs) (U : List Pr) (e : s'.Rs = s.Rs ∧ s'.qa = s.qa ∧ s'.ca = s.ca) (hO : Grommet.Own w wx (K.P s' (T ++ U))) => And.intro (HS9.out wx s' U hO) (show wx.cell? ⟨s.qa, k, none⟩ = some (.pointer (some ⟨s.Rs k, 0, none⟩)) ∧ wx.cell? ⟨K.bq, k, none⟩ = some (.pointer (some ⟨K.Rq k, 0, none⟩)) from by have := q_ptrs hO hka; rw [e.1, e.2.1] at this; exact this))

              have hOd := hSX.out.own.quiet (grown_drew (World.grownBy.refl wX none))
              obtain ⟨ad2, cp2, wn, hr, hOn⟩ := wr_copy hOd la ll lc (ls.map wrt) (by rw [List.length_map]; exact HxL.out.1.1) ((at_wrts HxL.out.1).grown hOd.grown (by simp)) HxL.out.2.1.2 (by have := HxL.out.2.2; omega) 43
              rw [← q_more] at hOn
              have HB1n := Lib.hid (HB1 wn ad2 cp2 hOn)
              have HB2 := Lib.hid HB2
              have hzq := Lib.hid (HK.out _ s [] ⟨rfl, rfl, rfl⟩ (by rw [List.append_nil]; exact hOd))
              have hSa := Lib.hid (HK.out _ s _ ⟨rfl, rfl, rfl⟩ hOn)
              have He1 := Lib.hid e1
              have He2 := Lib.hid e2
              have een : ((en : Int) == en) = true := by rw [beq_self_eq_true]
              unfold ptr at HB1n
              unfold S9 at HK hzq hSa
              clear HB1 hSX hOd hOn HxL HPk HS9 z6 c0 c1 c2 e1 e2
              go_wp2_with fail
              refine wp_region_held_drew (S := fun w' => (w'.cell? ⟨X, 0, none⟩ = some (.int .u8 (dd : Int)) ∧ w'.cell? ⟨X, 1, none⟩ = some (.int .u8 (who : Int)) ∧ w'.cell? ⟨X, 2, none⟩ = some (.slice la ll lc) ∧ w'.cell? ⟨X, 3, none⟩ = some (.int .i64 atx) ∧ w'.cell? ⟨X, 4, none⟩ = some (.int .u64 (v : Int)) ∧ w'.cell? ⟨X, 5, none⟩ = some (.slice pka pkl pkc) ∧ w'.cell? ⟨X, 6, none⟩ = some (.int .u8 (many : Int))) ∧ w'.cell? ⟨s.qa, k, none⟩ = some (.pointer (some ⟨s.Rs k, 0, none⟩)) ∧ w'.cell? ⟨K.bq, k, none⟩ = some (.pointer (some ⟨K.Rq k, 0, none⟩))) (by kernel_rfl) (hzq.out) (fun hS => ?_)
              refine wpAnyH_take (i := 0) (oi := { dst := some 135, op := Op.move (Operand.tmp 14), type := 35, pos := "law.go:118", after := #[], guard := none }) (v := ?vpa3r31o0) rfl (by kernel_rfl) (by kernel_rfl) (by kernel_rfl) (fun _ _ _ h => h) (Or.inl ⟨by rfl, ?hpa3r31o0⟩) hS ?_
              case hpa3r31o0 => (intro wx hx; skip; go_simp; (try with_reducible rfl))
              try simp only [Act.put, List.setIfInBounds_toArray, List.set_cons_zero, List.set_cons_succ]
              refine wpAnyH_take (i := 1) (oi := { dst := some 136, op := Op.move (Operand.tmp 22), type := 3, pos := "law.go:118", after := #[], guard := none }) (v := ?vpa3r31o1) rfl (by kernel_rfl) (by kernel_rfl) (by kernel_rfl) (fun _ _ _ h => h) (Or.inl ⟨by rfl, ?hpa3r31o1⟩) hS ?_
              case hpa3r31o1 => (intro wx hx; skip; go_simp; (try with_reducible rfl))
              try simp only [Act.put, List.setIfInBounds_toArray, List.set_cons_zero, List.set_cons_succ]
              refine wpAnyH_take (i := 2) (oi := { dst := some 137, op := Op.indexAddr 35 (Operand.tmp 135) (Operand.tmp 136), type := 0, pos := "law.go:118", after := #[{ on := 0, ground := Ground.data }, { on := 1, ground := Ground.data }], guard := none }) (v := ?vpa3r31o2) rfl (by kernel_rfl) (by kernel_rfl) (by kernel_rfl) (fun _ _ _ h => h) (Or.inl ⟨by rfl, ?hpa3r31o2⟩) hS ?_
              case hpa3r31o2 => (intro wx hx; skip; go_simp; (try with_reducible rfl))
              try simp only [Act.put, List.setIfInBounds_toArray, List.set_cons_zero, List.set_cons_succ]
              refine wpAnyH_take (i := 3) (oi := { dst := some 138, op := Op.load 48 (Operand.tmp 137), type := 48, pos := "law.go:118", after := #[{ on := 2, ground := Ground.data }], guard := none }) (v := ?vpa3r31o3) rfl (by kernel_rfl) (by kernel_rfl) (by kernel_rfl) (fun _ _ _ h => h) (Or.inl ⟨by rfl, ?hpa3r31o3⟩) hS ?_
              case hpa3r31o3 => (intro wx hx; obtain ⟨⟨y0, y1, y2, y3, y4, y5, y6⟩, y7, y8⟩ := hx; go_simp; (try with_reducible rfl))
              try simp only [Act.put, List.setIfInBounds_toArray, List.set_cons_zero, List.set_cons_succ]
              refine wpAnyH_take (i := 5) (oi := { dst := some 140, op := Op.fieldAddr 47 (Operand.tmp 21) 2, type := 0, pos := "law.go:118", after := #[], guard := none }) (v := ?vpa3r31o5) rfl (by kernel_rfl) (by kernel_rfl) (by kernel_rfl) (fun _ _ _ h => h) (Or.inl ⟨by rfl, ?hpa3r31o5⟩) hS ?_
              case hpa3r31o5 => (intro wx hx; skip; go_simp; (try with_reducible rfl))
              try simp only [Act.put, List.setIfInBounds_toArray, List.set_cons_zero, List.set_cons_succ]
              refine wpAnyH_take (i := 6) (oi := { dst := some 141, op := Op.load 43 (Operand.tmp 140), type := 43, pos := "law.go:118", after := #[{ on := 5, ground := Ground.data }], guard := none }) (v := ?vpa3r31o6) rfl (by kernel_rfl) (by kernel_rfl) (by kernel_rfl) (fun _ _ _ h => h) (Or.inl ⟨by rfl, ?hpa3r31o6⟩) hS ?_
              case hpa3r31o6 => (intro wx hx; obtain ⟨⟨y0, y1, y2, y3, y4, y5, y6⟩, y7, y8⟩ := hx; go_simp; (try with_reducible rfl))
              try simp only [Act.put, List.setIfInBounds_toArray, List.set_cons_zero, List.set_cons_succ]
              refine wpAnyH_take (i := 9) (oi := { dst := some 144, op := Op.move (Operand.tmp 16), type := 38, pos := "law.go:118", after := #[], guard := none }) (v := ?vpa3r31o9) rfl (by kernel_rfl) (by kernel_rfl) (by kernel_rfl) (fun _ _ _ h => h) (Or.inl ⟨by rfl, ?hpa3r31o9⟩) hS ?_
              case hpa3r31o9 => (intro wx hx; skip; go_simp; (try with_reducible rfl))
              try simp only [Act.put, List.setIfInBounds_toArray, List.set_cons_zero, List.set_cons_succ]
              refine wpAnyH_take (i := 10) (oi := { dst := some 145, op := Op.move (Operand.tmp 22), type := 3, pos := "law.go:118", after := #[], guard := none }) (v := ?vpa3r31o10) rfl (by kernel_rfl) (by kernel_rfl) (by kernel_rfl) (fun _ _ _ h => h) (Or.inl ⟨by rfl, ?hpa3r31o10⟩) hS ?_
              case hpa3r31o10 => (intro wx hx; skip; go_simp; (try with_reducible rfl))
              try simp only [Act.put, List.setIfInBounds_toArray, List.set_cons_zero, List.set_cons_succ]
              refine wpAnyH_take (i := 11) (oi := { dst := some 146, op := Op.indexAddr 38 (Operand.tmp 144) (Operand.tmp 145), type := 0, pos := "law.go:118", after := #[{ on := 9, ground := Ground.data }, { on := 10, ground := Ground.data }], guard := none }) (v := ?vpa3r31o11) rfl (by kernel_rfl) (by kernel_rfl) (by kernel_rfl) (fun _ _ _ h => h) (Or.inl ⟨by rfl, ?hpa3r31o11⟩) hS ?_
              case hpa3r31o11 => (intro wx hx; skip; go_simp; (try with_reducible rfl))
              try simp only [Act.put, List.setIfInBounds_toArray, List.set_cons_zero, List.set_cons_succ]
              refine wpAnyH_take (i := 12) (oi := { dst := some 147, op := Op.load 39 (Operand.tmp 146), type := 39, pos := "law.go:118", after := #[{ on := 11, ground := Ground.data }], guard := none }) (v := ?vpa3r31o12) rfl (by kernel_rfl) (by kernel_rfl) (by kernel_rfl) (fun _ _ _ h => h) (Or.inl ⟨by rfl, ?hpa3r31o12⟩) hS ?_
              case hpa3r31o12 => (intro wx hx; obtain ⟨⟨y0, y1, y2, y3, y4, y5, y6⟩, y7, y8⟩ := hx; go_simp; (try with_reducible rfl))
              try simp only [Act.put, List.setIfInBounds_toArray, List.set_cons_zero, List.set_cons_succ]
              refine wpAnyH_take (i := 13) (oi := { dst := some 148, op := Op.fieldAddr 47 (Operand.tmp 21) 2, type := 0, pos := "law.go:118", after := #[], guard := none }) (v := ?vpa3r31o13) rfl (by kernel_rfl) (by kernel_rfl) (by kernel_rfl) (fun _ _ _ h => h) (Or.inl ⟨by rfl, ?hpa3r31o13⟩) hS ?_
              case hpa3r31o13 => (intro wx hx; skip; go_simp; (try with_reducible rfl))
              try simp only [Act.put, List.setIfInBounds_toArray, List.set_cons_zero, List.set_cons_succ]
              refine wpAnyH_take (i := 14) (oi := { dst := some 149, op := Op.load 43 (Operand.tmp 148), type := 43, pos := "law.go:118", after := #[{ on := 13, ground := Ground.data }], guard := none }) (v := ?vpa3r31o14) rfl (by kernel_rfl) (by kernel_rfl) (by kernel_rfl) (fun _ _ _ h => h) (Or.inl ⟨by rfl, ?hpa3r31o14⟩) hS ?_
              case hpa3r31o14 => (intro wx hx; obtain ⟨⟨y0, y1, y2, y3, y4, y5, y6⟩, y7, y8⟩ := hx; go_simp; (try with_reducible rfl))
              try simp only [Act.put, List.setIfInBounds_toArray, List.set_cons_zero, List.set_cons_succ]
              refine wpAnyH_ready (rs := [4]) (by kernel_rfl) (by simp) ?_
              refine AllReadyH.cons (o := { dst := some 139, op := Op.buildSlice 43 0 #[], type := 43, pos := "law.go:118", after := #[], guard := none }) rfl (fun K hK => ?_) AllReadyH.nil
              go_simp
              skip
              refine hK.out _ _ ?hspa3r31o4 (fun hS => ?_)
              case hspa3r31o4 => (exact ⟨⟨(World.grownBy_alloc _ _ none).cell hS.1.1 (by simp), (World.grownBy_alloc _ _ none).cell hS.1.2.1 (by simp), (World.grownBy_alloc _ _ none).cell hS.1.2.2.1 (by simp), (World.grownBy_alloc _ _ none).cell hS.1.2.2.2.1 (by simp), (World.grownBy_alloc _ _ none).cell hS.1.2.2.2.2.1 (by simp), (World.grownBy_alloc _ _ none).cell hS.1.2.2.2.2.2.1 (by simp), (World.grownBy_alloc _ _ none).cell hS.1.2.2.2.2.2.2 (by simp)⟩, (World.grownBy_alloc _ _ none).cell hS.2.1 (by simp), (World.grownBy_alloc _ _ none).cell hS.2.2 (by simp)⟩)
              clear hK K
              try simp only [Act.put, List.setIfInBounds_toArray, List.set_cons_zero, List.set_cons_succ]
              refine wpAnyH_ready (rs := [7]) (by kernel_rfl) (by simp) ?_
              refine AllReadyH.cons (o := { dst := some 142, op := Op.call { callee := Callee.builtin Builtin.append, args := #[Operand.tmp 139, Operand.tmp 141], argTypes := #[43, 43] }, type := 43, pos := "law.go:118", after := #[{ on := 4, ground := Ground.data }, { on := 6, ground := Ground.data }], guard := none }) rfl (fun K hK => ?_) AllReadyH.nil
              refine wp_apprun _ _ _ rfl _ _ _ rfl rfl hr ?_
              refine hK.out _ _ ?_ (fun hS => ?_)
              · exact hSa.out
              clear hK K
              try simp only [Act.put, List.setIfInBounds_toArray, List.set_cons_zero, List.set_cons_succ]
              refine wpAnyH_ready (rs := [8]) (by kernel_rfl) (by simp) ?_
              refine AllReadyH.cons (o := { dst := some 143, op := Op.call { callee := Callee.value (Operand.func 13), args := #[Operand.tmp 138, Operand.tmp 142], argTypes := #[48, 43] }, type := 40, pos := "law.go:118", after := #[{ on := 3, ground := Ground.data }, { on := 7, ground := Ground.data }, { on := 7, ground := Ground.chain }], guard := none }) rfl (fun K hK => ?_) AllReadyH.nil
              go_simp
              refine HB1n.out.mono ?_
              rintro e v1 ⟨rfl, hOa⟩
              have hSb := HK.out v1 s1 [] He1.out (by rw [List.append_nil]; exact hOa)
              have HB2n := Lib.hid (HB2.out v1 hOa)
              have hOa := Lib.hid hOa
              refine hK.out _ _ ?hspa3r31o8 (fun hS => ?_)
              case hspa3r31o8 => (exact hSb)
              clear hK K
              try simp only [Act.put, List.setIfInBounds_toArray, List.set_cons_zero, List.set_cons_succ]
              refine wpAnyH_ready (rs := [15]) (by kernel_rfl) (by simp) ?_
              refine AllReadyH.cons (o := { dst := some 150, op := Op.call { callee := Callee.value (Operand.func 14), args := #[Operand.tmp 147, Operand.tmp 149], argTypes := #[39, 43] }, type := 40, pos := "law.go:118", after := #[{ on := 12, ground := Ground.data }, { on := 14, ground := Ground.data }, { on := 8, ground := Ground.chain }], guard := none }) rfl (fun K hK => ?_) AllReadyH.nil
              go_simp
              refine HB2n.out.mono ?_
              rintro e v2 ⟨rfl, hLb⟩
              have hSc := HK.out v2 s2 [] He2.out (by rw [List.append_nil]; exact hLb.own)
              have hLb := Lib.hid hLb
              refine hK.out _ _ ?hspa3r31o15 (fun hS => ?_)
              case hspa3r31o15 => (exact hSc)
              clear hK K
              try simp only [Act.put, List.setIfInBounds_toArray, List.set_cons_zero, List.set_cons_succ]
              refine wpAnyH_take (i := 16) (oi := { dst := some 151, op := Op.binOp BinOp.eql 40 (Operand.tmp 143) (Operand.tmp 150) 40, type := 4, pos := "law.go:118", after := #[{ on := 8, ground := Ground.data }, { on := 15, ground := Ground.data }], guard := none }) (v := ?vpa3r31o16) rfl (by kernel_rfl) (by kernel_rfl) (by kernel_rfl) (fun _ _ _ h => h) (Or.inl ⟨by rfl, ?hpa3r31o16⟩) hS ?_
              case hpa3r31o16 => (intro wx hx; skip; go_simp; (try with_reducible rfl))
              try simp only [Act.put, List.setIfInBounds_toArray, List.set_cons_zero, List.set_cons_succ]
              refine wpAnyH_take (i := 17) (oi := { dst := some 23, op := Op.assign (Operand.tmp 151), type := 4, pos := "law.go:118", after := #[{ on := 16, ground := Ground.data }, { on := 15, ground := Ground.chain }, { on := 0, ground := Ground.phase }, { on := 1, ground := Ground.phase }, { on := 2, ground := Ground.phase }, { on := 3, ground := Ground.phase }, { on := 4, ground := Ground.phase }, { on := 5, ground := Ground.phase }, { on := 6, ground := Ground.phase }, { on := 7, ground := Ground.phase }, { on := 8, ground := Ground.phase }, { on := 9, ground := Ground.phase }, { on := 10, ground := Ground.phase }, { on := 11, ground := Ground.phase }, { on := 12, ground := Ground.phase }, { on := 13, ground := Ground.phase }, { on := 14, ground := Ground.phase }, { on := 15, ground := Ground.phase }, { on := 16, ground := Ground.phase }], guard := none }) (v := ?vpa3r31o17) rfl (by kernel_rfl) (by kernel_rfl) (by kernel_rfl) (fun _ _ _ h => h) (Or.inl ⟨by rfl, ?hpa3r31o17⟩) hS ?_
              case hpa3r31o17 => (intro wx hx; skip; go_simp; (try with_reducible rfl))
              try simp only [Act.put, List.setIfInBounds_toArray, List.set_cons_zero, List.set_cons_succ]
              refine wpAnyH_done (by kernel_rfl) ?_ _
              clear hS hzq hSa HK HB1n HB2 hSb hSc
              go_wp2_with fail
              go_meet
              case rel => exact ⟨s2, by rw [He2.out.2.1, He2.out.2.2], rfl, hLb⟩
            · skip
              as_aux_lemma =>
              have n3 : ((m8 : Int) == 3) = false := by rw [beq_eq_false_iff_ne]; omega
              have n4 : ((m8 : Int) == 4) = true := by rw [hr8]; rfl
              clear hr8
              obtain ⟨qq, en, s1, s2, e1, e2, HB1, HB2⟩ := q_resume hSX.out hka
              obtain ⟨p1, p2⟩ := q_ptrs hSX.out.own hka
              have HP2 := Lib.hid (fun (wx : World) (hO : Grommet.Own w wx (K.P s1 T)) => (q_ptrs hO hka).2)
              have HB1 := Lib.hid HB1
              have HB2 := Lib.hid HB2
              have He2 := Lib.hid e2
              have een : ((en : Int) == en) = true := by rw [beq_self_eq_true]
              have eqq : (qq == qq) = true := by cases qq <;> rfl
              unfold ptr at HB1
              clear hSX HxL HPk HS9 z6 c0 c1 c2 e1 e2
              go_wp2_with fail
              refine HB1.out.mono ?_
              rintro e v1 ⟨rfl, hOa⟩
              have p3 := HP2.out v1 hOa
              have HB2n := Lib.hid (HB2.out v1 hOa)
              clear HB1 HB2 HP2 hOa p1 p2
              go_wp2_with fail
              refine HB2n.out.mono ?_
              rintro e v2 ⟨rfl, hLb⟩
              have hLb := Lib.hid hLb
              clear HB2n p3
              go_wp2_with fail
              go_meet
              case rel => exact ⟨s2, by rw [He2.out.2.1, He2.out.2.2], rfl, hLb⟩
            · skip
              as_aux_lemma =>
              have n3 : ((m8 : Int) == 3) = false := by rw [beq_eq_false_iff_ne]; omega
              have n4 : ((m8 : Int) == 4) = false := by rw [beq_eq_false_iff_ne]; omega
              have n5 : ((m8 : Int) == 5) = true := by rw [hr8]; rfl
              clear hr8
              obtain ⟨en, s1, s2, e1, e2, HB1, HB2⟩ := q_store hSX.out atx v hv64
              have hOd := hSX.out.own.quiet (grown_drew (World.grownBy.refl wX none))
              have HB1 := Lib.hid (HB1 _ hOd)
              have HB2 := Lib.hid HB2
              have hzq := Lib.hid (HS9.out _ s [] (by rw [List.append_nil]; exact hOd))
              have He2 := Lib.hid e2
              have een : ((en : Int) == en) = true := by rw [beq_self_eq_true]
              unfold ptr at HB1 HB2
              unfold S9 at HS9 hzq
              clear hSX hOd HxL HPk z6 c0 c1 c2 e1 e2
              go_wp2_with fail
              refine wp_region_held_drew (S := fun w' => w'.cell? ⟨X, 0, none⟩ = some (.int .u8 (dd : Int)) ∧ w'.cell? ⟨X, 1, none⟩ = some (.int .u8 (who : Int)) ∧ w'.cell? ⟨X, 2, none⟩ = some (.slice la ll lc) ∧ w'.cell? ⟨X, 3, none⟩ = some (.int .i64 atx) ∧ w'.cell? ⟨X, 4, none⟩ = some (.int .u64 (v : Int)) ∧ w'.cell? ⟨X, 5, none⟩ = some (.slice pka pkl pkc) ∧ w'.cell? ⟨X, 6, none⟩ = some (.int .u8 (many : Int))) (by kernel_rfl) (hzq.out) (fun hS => ?_)
              refine wpAnyH_take (i := 0) (oi := { dst := some 180, op := Op.move (Operand.tmp 11), type := 29, pos := "law.go:124", after := #[], guard := none }) (v := ?vps3r37o0) rfl (by kernel_rfl) (by kernel_rfl) (by kernel_rfl) (fun _ _ _ h => h) (Or.inl ⟨by rfl, ?hps3r37o0⟩) hS ?_
              case hps3r37o0 => (intro wx hx; skip; go_simp; (try with_reducible rfl))
              try simp only [Act.put, List.setIfInBounds_toArray, List.set_cons_zero, List.set_cons_succ]
              refine wpAnyH_take (i := 1) (oi := { dst := some 181, op := Op.fieldAddr 47 (Operand.tmp 21) 3, type := 0, pos := "law.go:124", after := #[], guard := none }) (v := ?vps3r37o1) rfl (by kernel_rfl) (by kernel_rfl) (by kernel_rfl) (fun _ _ _ h => h) (Or.inl ⟨by rfl, ?hps3r37o1⟩) hS ?_
              case hps3r37o1 => (intro wx hx; skip; go_simp; (try with_reducible rfl))
              try simp only [Act.put, List.setIfInBounds_toArray, List.set_cons_zero, List.set_cons_succ]
              refine wpAnyH_take (i := 2) (oi := { dst := some 182, op := Op.load 3 (Operand.tmp 181), type := 3, pos := "law.go:124", after := #[{ on := 1, ground := Ground.data }], guard := none }) (v := ?vps3r37o2) rfl (by kernel_rfl) (by kernel_rfl) (by kernel_rfl) (fun _ _ _ h => h) (Or.inl ⟨by rfl, ?hps3r37o2⟩) hS ?_
              case hps3r37o2 => (intro wx hx; obtain ⟨y0, y1, y2, y3, y4, y5, y6⟩ := hx; go_simp; (try with_reducible rfl))
              try simp only [Act.put, List.setIfInBounds_toArray, List.set_cons_zero, List.set_cons_succ]
              refine wpAnyH_take (i := 3) (oi := { dst := some 183, op := Op.fieldAddr 47 (Operand.tmp 21) 4, type := 0, pos := "law.go:124", after := #[], guard := none }) (v := ?vps3r37o3) rfl (by kernel_rfl) (by kernel_rfl) (by kernel_rfl) (fun _ _ _ h => h) (Or.inl ⟨by rfl, ?hps3r37o3⟩) hS ?_
              case hps3r37o3 => (intro wx hx; skip; go_simp; (try with_reducible rfl))
              try simp only [Act.put, List.setIfInBounds_toArray, List.set_cons_zero, List.set_cons_succ]
              refine wpAnyH_take (i := 4) (oi := { dst := some 184, op := Op.load 44 (Operand.tmp 183), type := 44, pos := "law.go:124", after := #[{ on := 3, ground := Ground.data }], guard := none }) (v := ?vps3r37o4) rfl (by kernel_rfl) (by kernel_rfl) (by kernel_rfl) (fun _ _ _ h => h) (Or.inl ⟨by rfl, ?hps3r37o4⟩) hS ?_
              case hps3r37o4 => (intro wx hx; obtain ⟨y0, y1, y2, y3, y4, y5, y6⟩ := hx; go_simp; (try with_reducible rfl))
              try simp only [Act.put, List.setIfInBounds_toArray, List.set_cons_zero, List.set_cons_succ]
              refine wpAnyH_take (i := 6) (oi := { dst := some 186, op := Op.move (Operand.tmp 12), type := 30, pos := "law.go:124", after := #[], guard := none }) (v := ?vps3r37o6) rfl (by kernel_rfl) (by kernel_rfl) (by kernel_rfl) (fun _ _ _ h => h) (Or.inl ⟨by rfl, ?hps3r37o6⟩) hS ?_
              case hps3r37o6 => (intro wx hx; skip; go_simp; (try with_reducible rfl))
              try simp only [Act.put, List.setIfInBounds_toArray, List.set_cons_zero, List.set_cons_succ]
              refine wpAnyH_take (i := 7) (oi := { dst := some 187, op := Op.fieldAddr 47 (Operand.tmp 21) 3, type := 0, pos := "law.go:124", after := #[], guard := none }) (v := ?vps3r37o7) rfl (by kernel_rfl) (by kernel_rfl) (by kernel_rfl) (fun _ _ _ h => h) (Or.inl ⟨by rfl, ?hps3r37o7⟩) hS ?_
              case hps3r37o7 => (intro wx hx; skip; go_simp; (try with_reducible rfl))
              try simp only [Act.put, List.setIfInBounds_toArray, List.set_cons_zero, List.set_cons_succ]
              refine wpAnyH_take (i := 8) (oi := { dst := some 188, op := Op.load 3 (Operand.tmp 187), type := 3, pos := "law.go:124", after := #[{ on := 7, ground := Ground.data }], guard := none }) (v := ?vps3r37o8) rfl (by kernel_rfl) (by kernel_rfl) (by kernel_rfl) (fun _ _ _ h => h) (Or.inl ⟨by rfl, ?hps3r37o8⟩) hS ?_
              case hps3r37o8 => (intro wx hx; obtain ⟨y0, y1, y2, y3, y4, y5, y6⟩ := hx; go_simp; (try with_reducible rfl))
              try simp only [Act.put, List.setIfInBounds_toArray, List.set_cons_zero, List.set_cons_succ]
              refine wpAnyH_take (i := 9) (oi := { dst := some 189, op := Op.fieldAddr 47 (Operand.tmp 21) 4, type := 0, pos := "law.go:124", after := #[], guard := none }) (v := ?vps3r37o9) rfl (by kernel_rfl) (by kernel_rfl) (by kernel_rfl) (fun _ _ _ h => h) (Or.inl ⟨by rfl, ?hps3r37o9⟩) hS ?_
              case hps3r37o9 => (intro wx hx; skip; go_simp; (try with_reducible rfl))
              try simp only [Act.put, List.setIfInBounds_toArray, List.set_cons_zero, List.set_cons_succ]
              refine wpAnyH_take (i := 10) (oi := { dst := some 190, op := Op.load 44 (Operand.tmp 189), type := 44, pos := "law.go:124", after := #[{ on := 9, ground := Ground.data }], guard := none }) (v := ?vps3r37o10) rfl (by kernel_rfl) (by kernel_rfl) (by kernel_rfl) (fun _ _ _ h => h) (Or.inl ⟨by rfl, ?hps3r37o10⟩) hS ?_
              case hps3r37o10 => (intro wx hx; obtain ⟨y0, y1, y2, y3, y4, y5, y6⟩ := hx; go_simp; (try with_reducible rfl))
              try simp only [Act.put, List.setIfInBounds_toArray, List.set_cons_zero, List.set_cons_succ]
              refine wpAnyH_ready (rs := [5]) (by kernel_rfl) (by simp) ?_
              refine AllReadyH.cons (o := { dst := some 185, op := Op.call { callee := Callee.value (Operand.func 17), args := #[Operand.tmp 180, Operand.tmp 182, Operand.tmp 184], argTypes := #[29, 3, 44] }, type := 40, pos := "law.go:124", after := #[{ on := 0, ground := Ground.data }, { on := 2, ground := Ground.data }, { on := 4, ground := Ground.data }], guard := none }) rfl (fun K hK => ?_) AllReadyH.nil
              go_simp
              refine HB1.out.mono ?_
              rintro e v1 ⟨rfl, hOa⟩
              have hSb := HS9.out v1 s1 [] (by rw [List.append_nil]; exact hOa)
              have HB2n := Lib.hid (HB2.out v1 hOa)
              clear hOa
              refine hK.out _ _ ?hsps3r37o5 (fun hS => ?_)
              case hsps3r37o5 => (exact hSb)
              clear hK K
              try simp only [Act.put, List.setIfInBounds_toArray, List.set_cons_zero, List.set_cons_succ]
              refine wpAnyH_ready (rs := [11]) (by kernel_rfl) (by simp) ?_
              refine AllReadyH.cons (o := { dst := some 191, op := Op.call { callee := Callee.value (Operand.func 18), args := #[Operand.tmp 186, Operand.tmp 188, Operand.tmp 190], argTypes := #[30, 3, 44] }, type := 40, pos := "law.go:124", after := #[{ on := 6, ground := Ground.data }, { on := 8, ground := Ground.data }, { on := 10, ground := Ground.data }, { on := 5, ground := Ground.chain }], guard := none }) rfl (fun K hK => ?_) AllReadyH.nil
              go_simp
              refine HB2n.out.mono ?_
              rintro e v2 ⟨rfl, hLb⟩
              have hSb := HS9.out v2 s2 [] (by rw [List.append_nil]; exact hLb.own)
              have hLb := Lib.hid hLb
              refine hK.out _ _ ?hsps3r37o11 (fun hS => ?_)
              case hsps3r37o11 => (exact hSb)
              clear hK K
              try simp only [Act.put, List.setIfInBounds_toArray, List.set_cons_zero, List.set_cons_succ]
              refine wpAnyH_take (i := 12) (oi := { dst := some 192, op := Op.binOp BinOp.eql 40 (Operand.tmp 185) (Operand.tmp 191) 40, type := 4, pos := "law.go:124", after := #[{ on := 5, ground := Ground.data }, { on := 11, ground := Ground.data }], guard := none }) (v := ?vps3r37o12) rfl (by kernel_rfl) (by kernel_rfl) (by kernel_rfl) (fun _ _ _ h => h) (Or.inl ⟨by rfl, ?hps3r37o12⟩) hS ?_
              case hps3r37o12 => (intro wx hx; skip; go_simp; (try with_reducible rfl))
              try simp only [Act.put, List.setIfInBounds_toArray, List.set_cons_zero, List.set_cons_succ]
              refine wpAnyH_take (i := 13) (oi := { dst := some 23, op := Op.assign (Operand.tmp 192), type := 4, pos := "law.go:124", after := #[{ on := 12, ground := Ground.data }, { on := 11, ground := Ground.chain }, { on := 0, ground := Ground.phase }, { on := 1, ground := Ground.phase }, { on := 2, ground := Ground.phase }, { on := 3, ground := Ground.phase }, { on := 4, ground := Ground.phase }, { on := 5, ground := Ground.phase }, { on := 6, ground := Ground.phase }, { on := 7, ground := Ground.phase }, { on := 8, ground := Ground.phase }, { on := 9, ground := Ground.phase }, { on := 10, ground := Ground.phase }, { on := 11, ground := Ground.phase }, { on := 12, ground := Ground.phase }], guard := none }) (v := ?vps3r37o13) rfl (by kernel_rfl) (by kernel_rfl) (by kernel_rfl) (fun _ _ _ h => h) (Or.inl ⟨by rfl, ?hps3r37o13⟩) hS ?_
              case hps3r37o13 => (intro wx hx; skip; go_simp; (try with_reducible rfl))
              try simp only [Act.put, List.setIfInBounds_toArray, List.set_cons_zero, List.set_cons_succ]
              refine wpAnyH_done (by kernel_rfl) ?_ _
              clear hS hzq HS9 HB1 HB2 hSb
              go_wp2_with fail
              go_meet
              case rel => exact ⟨s2, by rw [He2.out.2.1, He2.out.2.2], rfl, hLb⟩
            · skip
              as_aux_lemma =>
              have n3 : ((m8 : Int) == 3) = false := by rw [beq_eq_false_iff_ne]; omega
              have n4 : ((m8 : Int) == 4) = false := by rw [beq_eq_false_iff_ne]; omega
              have n5 : ((m8 : Int) == 5) = false := by rw [beq_eq_false_iff_ne]; omega
              have n6 : ((m8 : Int) == 6) = true := by rw [hr8]; rfl
              clear hr8
              obtain ⟨en, s1, s2, e1, e2, HB1, HB2⟩ := q_evict hSX.out atx
              have hOd := hSX.out.own.quiet (grown_drew (World.grownBy.refl wX none))
              have HB1 := Lib.hid (HB1 _ hOd)
              have HB2 := Lib.hid HB2
              have hzq := Lib.hid (HS9.out _ s [] (by rw [List.append_nil]; exact hOd))
              have He2 := Lib.hid e2
              have een : ((en : Int) == en) = true := by rw [beq_self_eq_true]
              unfold ptr at HB1 HB2
              unfold S9 at HS9 hzq
              clear hSX hOd HxL HPk z6 c0 c1 c2 e1 e2
              go_wp2_with fail
              refine wp_region_held_drew (S := fun w' => w'.cell? ⟨X, 0, none⟩ = some (.int .u8 (dd : Int)) ∧ w'.cell? ⟨X, 1, none⟩ = some (.int .u8 (who : Int)) ∧ w'.cell? ⟨X, 2, none⟩ = some (.slice la ll lc) ∧ w'.cell? ⟨X, 3, none⟩ = some (.int .i64 atx) ∧ w'.cell? ⟨X, 4, none⟩ = some (.int .u64 (v : Int)) ∧ w'.cell? ⟨X, 5, none⟩ = some (.slice pka pkl pkc) ∧ w'.cell? ⟨X, 6, none⟩ = some (.int .u8 (many : Int))) (by kernel_rfl) (hzq.out) (fun hS => ?_)
              refine wpAnyH_take (i := 0) (oi := { dst := some 195, op := Op.move (Operand.tmp 11), type := 29, pos := "law.go:126", after := #[], guard := none }) (v := ?vpe3r39o0) rfl (by kernel_rfl) (by kernel_rfl) (by kernel_rfl) (fun _ _ _ h => h) (Or.inl ⟨by rfl, ?hpe3r39o0⟩) hS ?_
              case hpe3r39o0 => (intro wx hx; skip; go_simp; (try with_reducible rfl))
              try simp only [Act.put, List.setIfInBounds_toArray, List.set_cons_zero, List.set_cons_succ]
              refine wpAnyH_take (i := 1) (oi := { dst := some 196, op := Op.fieldAddr 47 (Operand.tmp 21) 3, type := 0, pos := "law.go:126", after := #[], guard := none }) (v := ?vpe3r39o1) rfl (by kernel_rfl) (by kernel_rfl) (by kernel_rfl) (fun _ _ _ h => h) (Or.inl ⟨by rfl, ?hpe3r39o1⟩) hS ?_
              case hpe3r39o1 => (intro wx hx; skip; go_simp; (try with_reducible rfl))
              try simp only [Act.put, List.setIfInBounds_toArray, List.set_cons_zero, List.set_cons_succ]
              refine wpAnyH_take (i := 2) (oi := { dst := some 197, op := Op.load 3 (Operand.tmp 196), type := 3, pos := "law.go:126", after := #[{ on := 1, ground := Ground.data }], guard := none }) (v := ?vpe3r39o2) rfl (by kernel_rfl) (by kernel_rfl) (by kernel_rfl) (fun _ _ _ h => h) (Or.inl ⟨by rfl, ?hpe3r39o2⟩) hS ?_
              case hpe3r39o2 => (intro wx hx; obtain ⟨y0, y1, y2, y3, y4, y5, y6⟩ := hx; go_simp; (try with_reducible rfl))
              try simp only [Act.put, List.setIfInBounds_toArray, List.set_cons_zero, List.set_cons_succ]
              refine wpAnyH_take (i := 4) (oi := { dst := some 199, op := Op.move (Operand.tmp 12), type := 30, pos := "law.go:126", after := #[], guard := none }) (v := ?vpe3r39o4) rfl (by kernel_rfl) (by kernel_rfl) (by kernel_rfl) (fun _ _ _ h => h) (Or.inl ⟨by rfl, ?hpe3r39o4⟩) hS ?_
              case hpe3r39o4 => (intro wx hx; skip; go_simp; (try with_reducible rfl))
              try simp only [Act.put, List.setIfInBounds_toArray, List.set_cons_zero, List.set_cons_succ]
              refine wpAnyH_take (i := 5) (oi := { dst := some 200, op := Op.fieldAddr 47 (Operand.tmp 21) 3, type := 0, pos := "law.go:126", after := #[], guard := none }) (v := ?vpe3r39o5) rfl (by kernel_rfl) (by kernel_rfl) (by kernel_rfl) (fun _ _ _ h => h) (Or.inl ⟨by rfl, ?hpe3r39o5⟩) hS ?_
              case hpe3r39o5 => (intro wx hx; skip; go_simp; (try with_reducible rfl))
              try simp only [Act.put, List.setIfInBounds_toArray, List.set_cons_zero, List.set_cons_succ]
              refine wpAnyH_take (i := 6) (oi := { dst := some 201, op := Op.load 3 (Operand.tmp 200), type := 3, pos := "law.go:126", after := #[{ on := 5, ground := Ground.data }], guard := none }) (v := ?vpe3r39o6) rfl (by kernel_rfl) (by kernel_rfl) (by kernel_rfl) (fun _ _ _ h => h) (Or.inl ⟨by rfl, ?hpe3r39o6⟩) hS ?_
              case hpe3r39o6 => (intro wx hx; obtain ⟨y0, y1, y2, y3, y4, y5, y6⟩ := hx; go_simp; (try with_reducible rfl))
              try simp only [Act.put, List.setIfInBounds_toArray, List.set_cons_zero, List.set_cons_succ]
              refine wpAnyH_ready (rs := [3]) (by kernel_rfl) (by simp) ?_
              refine AllReadyH.cons (o := { dst := some 198, op := Op.call { callee := Callee.value (Operand.func 19), args := #[Operand.tmp 195, Operand.tmp 197], argTypes := #[29, 3] }, type := 40, pos := "law.go:126", after := #[{ on := 0, ground := Ground.data }, { on := 2, ground := Ground.data }], guard := none }) rfl (fun K hK => ?_) AllReadyH.nil
              go_simp
              refine HB1.out.mono ?_
              rintro e v1 ⟨rfl, hOa⟩
              have hSb := HS9.out v1 s1 [] (by rw [List.append_nil]; exact hOa)
              have HB2n := Lib.hid (HB2.out v1 hOa)
              clear hOa
              refine hK.out _ _ ?hspe3r39o3 (fun hS => ?_)
              case hspe3r39o3 => (exact hSb)
              clear hK K
              try simp only [Act.put, List.setIfInBounds_toArray, List.set_cons_zero, List.set_cons_succ]
              refine wpAnyH_ready (rs := [7]) (by kernel_rfl) (by simp) ?_
              refine AllReadyH.cons (o := { dst := some 202, op := Op.call { callee := Callee.value (Operand.func 20), args := #[Operand.tmp 199, Operand.tmp 201], argTypes := #[30, 3] }, type := 40, pos := "law.go:126", after := #[{ on := 4, ground := Ground.data }, { on := 6, ground := Ground.data }, { on := 3, ground := Ground.chain }], guard := none }) rfl (fun K hK => ?_) AllReadyH.nil
              go_simp
              refine HB2n.out.mono ?_
              rintro e v2 ⟨rfl, hLb⟩
              have hSb := HS9.out v2 s2 [] (by rw [List.append_nil]; exact hLb.own)
              have hLb := Lib.hid hLb
              refine hK.out _ _ ?hspe3r39o7 (fun hS => ?_)
              case hspe3r39o7 => (exact hSb)
              clear hK K
              try simp only [Act.put, List.setIfInBounds_toArray, List.set_cons_zero, List.set_cons_succ]
              refine wpAnyH_take (i := 8) (oi := { dst := some 203, op := Op.binOp BinOp.eql 40 (Operand.tmp 198) (Operand.tmp 202) 40, type := 4, pos := "law.go:126", after := #[{ on := 3, ground := Ground.data }, { on := 7, ground := Ground.data }], guard := none }) (v := ?vpe3r39o8) rfl (by kernel_rfl) (by kernel_rfl) (by kernel_rfl) (fun _ _ _ h => h) (Or.inl ⟨by rfl, ?hpe3r39o8⟩) hS ?_
              case hpe3r39o8 => (intro wx hx; skip; go_simp; (try with_reducible rfl))
              try simp only [Act.put, List.setIfInBounds_toArray, List.set_cons_zero, List.set_cons_succ]
              refine wpAnyH_take (i := 9) (oi := { dst := some 23, op := Op.assign (Operand.tmp 203), type := 4, pos := "law.go:126", after := #[{ on := 8, ground := Ground.data }, { on := 7, ground := Ground.chain }, { on := 0, ground := Ground.phase }, { on := 1, ground := Ground.phase }, { on := 2, ground := Ground.phase }, { on := 3, ground := Ground.phase }, { on := 4, ground := Ground.phase }, { on := 5, ground := Ground.phase }, { on := 6, ground := Ground.phase }, { on := 7, ground := Ground.phase }, { on := 8, ground := Ground.phase }], guard := none }) (v := ?vpe3r39o9) rfl (by kernel_rfl) (by kernel_rfl) (by kernel_rfl) (fun _ _ _ h => h) (Or.inl ⟨by rfl, ?hpe3r39o9⟩) hS ?_
              case hpe3r39o9 => (intro wx hx; skip; go_simp; (try with_reducible rfl))
              try simp only [Act.put, List.setIfInBounds_toArray, List.set_cons_zero, List.set_cons_succ]
              refine wpAnyH_done (by kernel_rfl) ?_ _
              clear hS hzq HS9 HB1 HB2 hSb
              go_wp2_with fail
              go_meet
              case rel => exact ⟨s2, by rw [He2.out.2.1, He2.out.2.2], rfl, hLb⟩
            · skip
              as_aux_lemma =>
              have n3 : ((m8 : Int) == 3) = false := by rw [beq_eq_false_iff_ne]; omega
              have n4 : ((m8 : Int) == 4) = false := by rw [beq_eq_false_iff_ne]; omega
              have n5 : ((m8 : Int) == 5) = false := by rw [beq_eq_false_iff_ne]; omega
              have n6 : ((m8 : Int) == 6) = false := by rw [beq_eq_false_iff_ne]; omega
              have n7 : ((m8 : Int) == 7) = true := by rw [hr8]; rfl
              clear hr8
              obtain ⟨s1, s2, e1, e2, HB1, HB2⟩ := q_crash hSX.out HPk.out.1 HPk.out.2.1 HPk.out.2.2.1 HPk.out.2.2.2.1 HPk.out.2.2.2.2.1 HPk.out.2.2.2.2.2.1 HPk.out.2.2.2.2.2.2
              have z5 := (HS9.out wX s [] (by rw [List.append_nil]; exact hSX.out.own)).2.2.2.2.2.1
              have HB1 := Lib.hid (HB1 _ hSX.out.own)
              have HB2 := Lib.hid HB2
              have HGt := Lib.hid (fun (wx : World) (t : Nat) (s' : Qs) (hO : LwT K s' T t w wx) => (q_geo hO.own).1)
              unfold ptr at HB1 HB2
              clear hSX HxL HPk z6 c0 c1 c2 e1 e2
              go_wp2_with fail
              refine HB1.out.mono ?_
              rintro e v1 ⟨rfl, hOa⟩
              have z5 := (HS9.out v1 s1 [] (by rw [List.append_nil]; exact hOa)).2.2.2.2.2.1
              have HB2n := Lib.hid (HB2.out v1 hOa)
              clear HB1 HB2 hOa
              go_wp2_with fail
              refine HB2n.out.mono ?_
              rintro e v2 ⟨rfl, hLb⟩
              obtain ⟨⟨c0, c1, c2⟩, _⟩ := q_geo hLb.own
              have HRn := Lib.hid (q_runs hLb)
              unfold ptr at HRn
              clear HB2n hLb z5 HS9
              go_wp2_with fail
              refine HRn.out.mono ?_
              rintro e v3 ⟨s3, rfl, hLt⟩
              have hLt := Lib.hid hLt
              clear HRn c0 c1 c2
              go_wp2_with fail
              go_loopw [28] (fun i wx => ∃ (t : Nat) (s4 : Qs), t ≤ K.a ∧ i = .int .i64 (t : Int) ∧ s4.qa = s3.qa ∧ s4.ca = s3.ca ∧ Hid (LwT K s4 T t w wx)) (fun i _ => K.a - (intOf i).toNat)
              case atStart => exact ⟨0, s3, Nat.zero_le _, rfl, rfl, rfl, hLt⟩
              case round =>
                clear hLt
                obtain ⟨t, s4, ht, rfl, e3, e4, hL⟩ := hrel
                have t0 : (0 : Int) ≤ (t : Int) := by omega
                obtain ⟨c0, c1, c2⟩ := HGt.out _ _ _ hL.out
                by_cases hlt4 : t < K.a
                · as_aux_lemma =>
                  have hlt4' : (t : Int) < (K.a : Int) := by omega
                  have wt : IntKind.i64.wrap ((t : Int) + 1) = (t : Int) + 1 := IntWalk.i64_in _ ⟨by omega, by omega⟩
                  obtain ⟨p1, ⟨v9, p2⟩, p3, s5, e5, e6, hL5⟩ := q_nil hL.out hlt4
                  have hL5 := Lib.hid hL5
                  have ht1 : t + 1 ≤ K.a := by omega
                  clear hL HGt
                  go_wp2_with fail
                  go_roundw
                  case rel => exact ⟨t + 1, s5, ht1, by go_num, e5.trans e3, e6.trans e4, hL5⟩
                  case measure => simp [intOf]; omega
                · as_aux_lemma =>
                  obtain rfl : K.a = t := by omega
                  have hlt4' : ¬ (K.a : Int) < (K.a : Int) := by omega
                  have hLd := Lib.hid hL.out.done
                  clear hL HGt
                  go_wp2_with fail
                  go_meet
                  case rel => exact ⟨s4, by rw [e3, e4], rfl, hLd⟩
            · skip
              as_aux_lemma =>
              have n3 : ((m8 : Int) == 3) = false := by rw [beq_eq_false_iff_ne]; omega
              have n4 : ((m8 : Int) == 4) = false := by rw [beq_eq_false_iff_ne]; omega
              have n5 : ((m8 : Int) == 5) = false := by rw [beq_eq_false_iff_ne]; omega
              have n6 : ((m8 : Int) == 6) = false := by rw [beq_eq_false_iff_ne]; omega
              have n7 : ((m8 : Int) == 7) = false := by rw [beq_eq_false_iff_ne]; omega
              clear hr8
              have HM := Lib.hid (fun (wx : World) (s' : Qs) (hO : LwQ K s' T w wx) => (HS9.out wx s' [] (by rw [List.append_nil]; exact hO.own)).2.2.2.2.2.2)
              clear HxL HPk HS9 z6 c0 c1 c2
              go_wp2_with fail
              go_loopw [23, 29, 30, 31, 32, 33] (fun sm i _ _ _ _ wx => ∃ (t : Nat) (s4 : Qs), t ≤ many + 1 ∧ sm = .bool true ∧ i = .int .i64 (t : Int) ∧ Hid (s4.Rs = s.Rs ∧ s4.qa = s.qa ∧ s4.ca = s.ca) ∧ Hid (LwQ K s4 T w wx)) (fun _ i _ _ _ _ _ => many + 1 - (intOf i).toNat)
              case atStart => exact ⟨0, s, Nat.zero_le _, rfl, rfl, Lib.hid ⟨rfl, rfl, rfl⟩, hSX⟩
              case round =>
                clear hSX
                obtain ⟨t, s4, ht, rfl, rfl, He, hL⟩ := hrel
                have t0 : (0 : Int) ≤ (t : Int) := by omega
                have z6 := HM.out _ _ hL.out
                by_cases hlt4 : t ≤ many
                · as_aux_lemma =>
                  have hlt4' : (t : Int) ≤ (many : Int) := by omega
                  have wt : IntKind.i64.wrap ((t : Int) + 1) = (t : Int) + 1 := IntWalk.i64_in _ ⟨by omega, by omega⟩
                  obtain ⟨p, en, hp6, _, s1, s2, e1, e2, HB1, HB2⟩ := q_step hL.out hka
                  obtain ⟨p1, p2⟩ := q_ptrs hL.out.own hka
                  rw [He.out.1] at HB1
                  rw [He.out.1, He.out.2.1] at p1
                  have HP2 := Lib.hid (fun (wx : World) (hO : Grommet.Own w wx (K.P s1 T)) => (q_ptrs hO hka).2)
                  have HB1 := Lib.hid HB1
                  have HB2 := Lib.hid HB2
                  have He2 : Hid (s2.Rs = s.Rs ∧ s2.qa = s.qa ∧ s2.ca = s.ca) := Lib.hid ⟨e2.1.trans He.out.1, e2.2.1.trans He.out.2.1, e2.2.2.trans He.out.2.2⟩
                  have een : ((en : Int) == en) = true := by rw [beq_self_eq_true]
                  have epp : ((p : Int) == (p : Int)) = true := by rw [beq_self_eq_true]
                  have wp : IntKind.i64.wrap (p : Int) = (p : Int) := IntWalk.i64_in _ ⟨by omega, by omega⟩
                  have ht1 : t + 1 ≤ many + 1 := by omega
                  unfold ptr at HB1
                  clear hL He HM e1 e2 hp6
                  go_wp2_with fail
                  refine HB1.out.mono ?_
                  rintro e v1 ⟨rfl, hOa⟩
                  have p3 := HP2.out v1 hOa
                  have HB2n := Lib.hid (HB2.out v1 hOa)
                  clear HB1 HB2 HP2 hOa p1 p2 z6
                  go_wp2_with fail
                  refine HB2n.out.mono ?_
                  rintro e v2 ⟨rfl, hLb⟩
                  have hLb := Lib.hid hLb
                  clear HB2n p3
                  go_wp2_with fail
                  go_roundw
                  case rel => exact ⟨t + 1, s2, ht1, rfl, by go_num, He2, hLb⟩
                  case measure => simp [intOf]; omega
                · as_aux_lemma =>
                  have hlt4' : ¬ (t : Int) ≤ (many : Int) := by omega
                  clear HM
                  go_wp2_with fail
                  go_meet
                  case rel => exact ⟨s4, by rw [He.out.2.1, He.out.2.2], rfl, hL⟩
          case rest =>
            skip
            as_aux_lemma =>
            obtain ⟨s2, rfl, rfl, hL⟩ := hcut
            obtain ⟨p, n, adL, cpL, hp6, HA1, HA2, HA3, hA4⟩ := q_ask (hL.out.move (hL.out.own.quiet (grown_drew (World.grownBy.refl wc none)))) hka
            obtain ⟨p1, p2⟩ := q_ptrs (hL.out.own.quiet (grown_drew (World.grownBy.refl wc none))) hka
            have hzq := Lib.hid (And.intro p1 (And.intro p2 hA4))
            have HA1 := Lib.hid HA1
            have HA2 := Lib.hid HA2
            have HA3 := Lib.hid HA3
            have wp : IntKind.i64.wrap (p : Int) = (p : Int) := IntWalk.i64_in _ ⟨by omega, by omega⟩
            have epp : ((p : Int) != (p : Int)) = false := by simp
            have enn : ((n : Int) != (n : Int)) = false := by simp
            have hj1 : j + 1 ≤ tl := by omega
            have hLd : Hid (LwQ K s2 [] w wc.drew) := Lib.hid (hL.out.move (by
              have := (hL.out.own.quiet (grown_drew (World.grownBy.refl wc none)))
              rw [show T = [] ++ T from rfl, q_more] at this
              exact this.less))
            unfold ptr at HA1 HA3
            clear hL hSX HxL HPk HS9 z6 c0 c1 c2 p1 p2 hA4 HT Hb HW hp6
            go_wp2_with fail
            refine wp_region_held_drew (S := fun w' => w'.cell? ⟨s2.qa, k, none⟩ = some (.pointer (some ⟨s2.Rs k, 0, none⟩)) ∧ w'.cell? ⟨K.bq, k, none⟩ = some (.pointer (some ⟨K.Rq k, 0, none⟩)) ∧ w'.cell? ⟨K.Rq k, 5, none⟩ = some (.slice adL n cpL)) (by kernel_rfl) (hzq.out) (fun hS => ?_)
            refine wpAnyH_take (i := 0) (oi := { dst := some 234, op := Op.move (Operand.tmp 23), type := 4, pos := "law.go:144", after := #[], guard := none }) (v := ?vpk3r50o0) rfl (by kernel_rfl) (by kernel_rfl) (by kernel_rfl) (fun _ _ _ h => h) (Or.inl ⟨by rfl, ?hpk3r50o0⟩) hS ?_
            case hpk3r50o0 => (intro wx hx; skip; go_simp; (try with_reducible rfl))
            try simp only [Act.put, List.setIfInBounds_toArray, List.set_cons_zero, List.set_cons_succ]
            refine wpAnyH_take (i := 1) (oi := { dst := some 235, op := Op.unOp UnOp.not 4 (Operand.tmp 234), type := 4, pos := "law.go:144", after := #[{ on := 0, ground := Ground.data }], guard := none }) (v := ?vpk3r50o1) rfl (by kernel_rfl) (by kernel_rfl) (by kernel_rfl) (fun _ _ _ h => h) (Or.inl ⟨by rfl, ?hpk3r50o1⟩) hS ?_
            case hpk3r50o1 => (intro wx hx; skip; go_simp; (try with_reducible rfl))
            try simp only [Act.put, List.setIfInBounds_toArray, List.set_cons_zero, List.set_cons_succ]
            refine wpAnyH_take (i := 2) (oi := { dst := some 236, op := Op.move (Operand.tmp 235), type := 4, pos := "law.go:144", after := #[{ on := 1, ground := Ground.data }], guard := none }) (v := ?vpk3r50o2) rfl (by kernel_rfl) (by kernel_rfl) (by kernel_rfl) (fun _ _ _ h => h) (Or.inl ⟨by rfl, ?hpk3r50o2⟩) hS ?_
            case hpk3r50o2 => (intro wx hx; skip; go_simp; (try with_reducible rfl))
            try simp only [Act.put, List.setIfInBounds_toArray, List.set_cons_zero, List.set_cons_succ]
            refine wpAnyH_take (i := 3) (oi := { dst := some 237, op := Op.move (Operand.tmp 14), type := 35, pos := "law.go:144", after := #[{ on := 2, ground := Ground.guard }], guard := some (2, false) }) (v := ?vpk3r50o3) rfl (by kernel_rfl) (by kernel_rfl) (by kernel_rfl) (fun _ _ _ h => h) (Or.inl ⟨by rfl, ?hpk3r50o3⟩) hS ?_
            case hpk3r50o3 => (intro wx hx; skip; go_simp; (try with_reducible rfl))
            try simp only [Act.put, List.setIfInBounds_toArray, List.set_cons_zero, List.set_cons_succ]
            refine wpAnyH_take (i := 4) (oi := { dst := some 238, op := Op.move (Operand.tmp 22), type := 3, pos := "law.go:144", after := #[{ on := 2, ground := Ground.guard }], guard := some (2, false) }) (v := ?vpk3r50o4) rfl (by kernel_rfl) (by kernel_rfl) (by kernel_rfl) (fun _ _ _ h => h) (Or.inl ⟨by rfl, ?hpk3r50o4⟩) hS ?_
            case hpk3r50o4 => (intro wx hx; skip; go_simp; (try with_reducible rfl))
            try simp only [Act.put, List.setIfInBounds_toArray, List.set_cons_zero, List.set_cons_succ]
            refine wpAnyH_take (i := 5) (oi := { dst := some 239, op := Op.indexAddr 35 (Operand.tmp 237) (Operand.tmp 238), type := 0, pos := "law.go:144", after := #[{ on := 3, ground := Ground.data }, { on := 4, ground := Ground.data }, { on := 2, ground := Ground.guard }], guard := some (2, false) }) (v := ?vpk3r50o5) rfl (by kernel_rfl) (by kernel_rfl) (by kernel_rfl) (fun _ _ _ h => h) (Or.inl ⟨by rfl, ?hpk3r50o5⟩) hS ?_
            case hpk3r50o5 => (intro wx hx; skip; go_simp; (try with_reducible rfl))
            try simp only [Act.put, List.setIfInBounds_toArray, List.set_cons_zero, List.set_cons_succ]
            refine wpAnyH_take (i := 6) (oi := { dst := some 240, op := Op.load 48 (Operand.tmp 239), type := 48, pos := "law.go:144", after := #[{ on := 5, ground := Ground.data }, { on := 2, ground := Ground.guard }], guard := some (2, false) }) (v := ?vpk3r50o6) rfl (by kernel_rfl) (by kernel_rfl) (by kernel_rfl) (fun _ _ _ h => h) (Or.inl ⟨by rfl, ?hpk3r50o6⟩) hS ?_
            case hpk3r50o6 => (intro wx hx; obtain ⟨y0, y1, y2⟩ := hx; go_simp; (try with_reducible rfl))
            try simp only [Act.put, List.setIfInBounds_toArray, List.set_cons_zero, List.set_cons_succ]
            refine wpAnyH_take (i := 9) (oi := { dst := some 243, op := Op.move (Operand.tmp 16), type := 38, pos := "law.go:144", after := #[{ on := 2, ground := Ground.guard }], guard := some (2, false) }) (v := ?vpk3r50o9) rfl (by kernel_rfl) (by kernel_rfl) (by kernel_rfl) (fun _ _ _ h => h) (Or.inl ⟨by rfl, ?hpk3r50o9⟩) hS ?_
            case hpk3r50o9 => (intro wx hx; skip; go_simp; (try with_reducible rfl))
            try simp only [Act.put, List.setIfInBounds_toArray, List.set_cons_zero, List.set_cons_succ]
            refine wpAnyH_take (i := 10) (oi := { dst := some 244, op := Op.move (Operand.tmp 22), type := 3, pos := "law.go:144", after := #[{ on := 2, ground := Ground.guard }], guard := some (2, false) }) (v := ?vpk3r50o10) rfl (by kernel_rfl) (by kernel_rfl) (by kernel_rfl) (fun _ _ _ h => h) (Or.inl ⟨by rfl, ?hpk3r50o10⟩) hS ?_
            case hpk3r50o10 => (intro wx hx; skip; go_simp; (try with_reducible rfl))
            try simp only [Act.put, List.setIfInBounds_toArray, List.set_cons_zero, List.set_cons_succ]
            refine wpAnyH_take (i := 11) (oi := { dst := some 245, op := Op.indexAddr 38 (Operand.tmp 243) (Operand.tmp 244), type := 0, pos := "law.go:144", after := #[{ on := 9, ground := Ground.data }, { on := 10, ground := Ground.data }, { on := 2, ground := Ground.guard }], guard := some (2, false) }) (v := ?vpk3r50o11) rfl (by kernel_rfl) (by kernel_rfl) (by kernel_rfl) (fun _ _ _ h => h) (Or.inl ⟨by rfl, ?hpk3r50o11⟩) hS ?_
            case hpk3r50o11 => (intro wx hx; skip; go_simp; (try with_reducible rfl))
            try simp only [Act.put, List.setIfInBounds_toArray, List.set_cons_zero, List.set_cons_succ]
            refine wpAnyH_take (i := 12) (oi := { dst := some 246, op := Op.load 39 (Operand.tmp 245), type := 39, pos := "law.go:144", after := #[{ on := 11, ground := Ground.data }, { on := 2, ground := Ground.guard }], guard := some (2, false) }) (v := ?vpk3r50o12) rfl (by kernel_rfl) (by kernel_rfl) (by kernel_rfl) (fun _ _ _ h => h) (Or.inl ⟨by rfl, ?hpk3r50o12⟩) hS ?_
            case hpk3r50o12 => (intro wx hx; obtain ⟨y0, y1, y2⟩ := hx; go_simp; (try with_reducible rfl))
            try simp only [Act.put, List.setIfInBounds_toArray, List.set_cons_zero, List.set_cons_succ]
            refine wpAnyH_ready (rs := [7]) (by kernel_rfl) (by simp) ?_
            refine AllReadyH.cons (o := { dst := some 241, op := Op.call { callee := Callee.value (Operand.func 25), args := #[Operand.tmp 240], argTypes := #[48] }, type := 59, pos := "law.go:144", after := #[{ on := 6, ground := Ground.data }, { on := 2, ground := Ground.chain }, { on := 2, ground := Ground.guard }], guard := some (2, false) }) rfl (fun K hK => ?_) AllReadyH.nil
            go_simp
            refine HA1.out.mono ?_
            rintro e v1 ⟨rfl, hv1⟩
            subst hv1
            refine hK.out _ _ ?hspk3r50o7 (fun hS => ?_)
            case hspk3r50o7 => (exact hzq.out)
            clear hK K
            try simp only [Act.put, List.setIfInBounds_toArray, List.set_cons_zero, List.set_cons_succ]
            refine wpAnyH_take (i := 8) (oi := { dst := some 242, op := Op.convert 59 3 (Operand.tmp 241), type := 3, pos := "law.go:144", after := #[{ on := 7, ground := Ground.data }, { on := 2, ground := Ground.guard }], guard := some (2, false) }) (v := ?vpk3r50o8) rfl (by kernel_rfl) (by kernel_rfl) (by kernel_rfl) (fun _ _ _ h => h) (Or.inl ⟨by rfl, ?hpk3r50o8⟩) hS ?_
            case hpk3r50o8 => (intro wx hx; obtain ⟨y0, y1, y2⟩ := hx; go_simp; (try with_reducible rfl))
            try simp only [Act.put, List.setIfInBounds_toArray, List.set_cons_zero, List.set_cons_succ]
            refine wpAnyH_ready (rs := [13]) (by kernel_rfl) (by simp) ?_
            refine AllReadyH.cons (o := { dst := some 247, op := Op.call { callee := Callee.value (Operand.func 26), args := #[Operand.tmp 246], argTypes := #[39] }, type := 3, pos := "law.go:144", after := #[{ on := 12, ground := Ground.data }, { on := 7, ground := Ground.chain }, { on := 2, ground := Ground.guard }], guard := some (2, false) }) rfl (fun K hK => ?_) AllReadyH.nil
            go_simp
            refine HA2.out.mono ?_
            rintro e v1 ⟨rfl, hv1⟩
            subst hv1
            refine hK.out _ _ ?hspk3r50o13 (fun hS => ?_)
            case hspk3r50o13 => (exact hzq.out)
            clear hK K
            try simp only [Act.put, List.setIfInBounds_toArray, List.set_cons_zero, List.set_cons_succ]
            refine wpAnyH_take (i := 14) (oi := { dst := some 248, op := Op.binOp BinOp.neq 3 (Operand.tmp 242) (Operand.tmp 247) 3, type := 4, pos := "law.go:144", after := #[{ on := 8, ground := Ground.data }, { on := 13, ground := Ground.data }, { on := 2, ground := Ground.guard }], guard := some (2, false) }) (v := ?vpk3r50o14) rfl (by kernel_rfl) (by kernel_rfl) (by kernel_rfl) (fun _ _ _ h => h) (Or.inl ⟨by rfl, ?hpk3r50o14⟩) hS ?_
            case hpk3r50o14 => (intro wx hx; skip; go_simp; (try with_reducible rfl))
            try simp only [Act.put, List.setIfInBounds_toArray, List.set_cons_zero, List.set_cons_succ]
            refine wpAnyH_take (i := 15) (oi := { dst := some 249, op := Op.pick (Operand.tmp 236) (Operand.const (Value.bool true)) (Operand.tmp 248), type := 4, pos := "law.go:144", after := #[{ on := 2, ground := Ground.data }, { on := 14, ground := Ground.data }], guard := none }) (v := ?vpk3r50o15) rfl (by kernel_rfl) (by kernel_rfl) (by kernel_rfl) (fun _ _ _ h => h) (Or.inl ⟨by rfl, ?hpk3r50o15⟩) hS ?_
            case hpk3r50o15 => (intro wx hx; skip; go_simp; (try with_reducible rfl))
            try simp only [Act.put, List.setIfInBounds_toArray, List.set_cons_zero, List.set_cons_succ]
            refine wpAnyH_take (i := 16) (oi := { dst := some 250, op := Op.move (Operand.tmp 249), type := 4, pos := "law.go:144", after := #[{ on := 15, ground := Ground.data }, { on := 13, ground := Ground.chain }], guard := none }) (v := ?vpk3r50o16) rfl (by kernel_rfl) (by kernel_rfl) (by kernel_rfl) (fun _ _ _ h => h) (Or.inl ⟨by rfl, ?hpk3r50o16⟩) hS ?_
            case hpk3r50o16 => (intro wx hx; skip; go_simp; (try with_reducible rfl))
            try simp only [Act.put, List.setIfInBounds_toArray, List.set_cons_zero, List.set_cons_succ]
            refine wpAnyH_take (i := 17) (oi := { dst := some 251, op := Op.move (Operand.tmp 14), type := 35, pos := "law.go:144", after := #[{ on := 16, ground := Ground.guard }], guard := some (16, false) }) (v := ?vpk3r50o17) rfl (by kernel_rfl) (by kernel_rfl) (by kernel_rfl) (fun _ _ _ h => h) (Or.inl ⟨by rfl, ?hpk3r50o17⟩) hS ?_
            case hpk3r50o17 => (intro wx hx; skip; go_simp; (try with_reducible rfl))
            try simp only [Act.put, List.setIfInBounds_toArray, List.set_cons_zero, List.set_cons_succ]
            refine wpAnyH_take (i := 18) (oi := { dst := some 252, op := Op.move (Operand.tmp 22), type := 3, pos := "law.go:144", after := #[{ on := 16, ground := Ground.guard }], guard := some (16, false) }) (v := ?vpk3r50o18) rfl (by kernel_rfl) (by kernel_rfl) (by kernel_rfl) (fun _ _ _ h => h) (Or.inl ⟨by rfl, ?hpk3r50o18⟩) hS ?_
            case hpk3r50o18 => (intro wx hx; skip; go_simp; (try with_reducible rfl))
            try simp only [Act.put, List.setIfInBounds_toArray, List.set_cons_zero, List.set_cons_succ]
            refine wpAnyH_take (i := 19) (oi := { dst := some 253, op := Op.indexAddr 35 (Operand.tmp 251) (Operand.tmp 252), type := 0, pos := "law.go:144", after := #[{ on := 17, ground := Ground.data }, { on := 18, ground := Ground.data }, { on := 16, ground := Ground.guard }], guard := some (16, false) }) (v := ?vpk3r50o19) rfl (by kernel_rfl) (by kernel_rfl) (by kernel_rfl) (fun _ _ _ h => h) (Or.inl ⟨by rfl, ?hpk3r50o19⟩) hS ?_
            case hpk3r50o19 => (intro wx hx; skip; go_simp; (try with_reducible rfl))
            try simp only [Act.put, List.setIfInBounds_toArray, List.set_cons_zero, List.set_cons_succ]
            refine wpAnyH_take (i := 20) (oi := { dst := some 254, op := Op.load 48 (Operand.tmp 253), type := 48, pos := "law.go:144", after := #[{ on := 19, ground := Ground.data }, { on := 16, ground := Ground.guard }], guard := some (16, false) }) (v := ?vpk3r50o20) rfl (by kernel_rfl) (by kernel_rfl) (by kernel_rfl) (fun _ _ _ h => h) (Or.inl ⟨by rfl, ?hpk3r50o20⟩) hS ?_
            case hpk3r50o20 => (intro wx hx; obtain ⟨y0, y1, y2⟩ := hx; go_simp; (try with_reducible rfl))
            try simp only [Act.put, List.setIfInBounds_toArray, List.set_cons_zero, List.set_cons_succ]
            refine wpAnyH_take (i := 22) (oi := { dst := some 256, op := Op.move (Operand.tmp 16), type := 38, pos := "law.go:144", after := #[{ on := 16, ground := Ground.guard }], guard := some (16, false) }) (v := ?vpk3r50o22) rfl (by kernel_rfl) (by kernel_rfl) (by kernel_rfl) (fun _ _ _ h => h) (Or.inl ⟨by rfl, ?hpk3r50o22⟩) hS ?_
            case hpk3r50o22 => (intro wx hx; skip; go_simp; (try with_reducible rfl))
            try simp only [Act.put, List.setIfInBounds_toArray, List.set_cons_zero, List.set_cons_succ]
            refine wpAnyH_take (i := 23) (oi := { dst := some 257, op := Op.move (Operand.tmp 22), type := 3, pos := "law.go:144", after := #[{ on := 16, ground := Ground.guard }], guard := some (16, false) }) (v := ?vpk3r50o23) rfl (by kernel_rfl) (by kernel_rfl) (by kernel_rfl) (fun _ _ _ h => h) (Or.inl ⟨by rfl, ?hpk3r50o23⟩) hS ?_
            case hpk3r50o23 => (intro wx hx; skip; go_simp; (try with_reducible rfl))
            try simp only [Act.put, List.setIfInBounds_toArray, List.set_cons_zero, List.set_cons_succ]
            refine wpAnyH_take (i := 24) (oi := { dst := some 258, op := Op.indexAddr 38 (Operand.tmp 256) (Operand.tmp 257), type := 0, pos := "law.go:144", after := #[{ on := 22, ground := Ground.data }, { on := 23, ground := Ground.data }, { on := 16, ground := Ground.guard }], guard := some (16, false) }) (v := ?vpk3r50o24) rfl (by kernel_rfl) (by kernel_rfl) (by kernel_rfl) (fun _ _ _ h => h) (Or.inl ⟨by rfl, ?hpk3r50o24⟩) hS ?_
            case hpk3r50o24 => (intro wx hx; skip; go_simp; (try with_reducible rfl))
            try simp only [Act.put, List.setIfInBounds_toArray, List.set_cons_zero, List.set_cons_succ]
            refine wpAnyH_take (i := 25) (oi := { dst := some 259, op := Op.load 39 (Operand.tmp 258), type := 39, pos := "law.go:144", after := #[{ on := 24, ground := Ground.data }, { on := 16, ground := Ground.guard }], guard := some (16, false) }) (v := ?vpk3r50o25) rfl (by kernel_rfl) (by kernel_rfl) (by kernel_rfl) (fun _ _ _ h => h) (Or.inl ⟨by rfl, ?hpk3r50o25⟩) hS ?_
            case hpk3r50o25 => (intro wx hx; obtain ⟨y0, y1, y2⟩ := hx; go_simp; (try with_reducible rfl))
            try simp only [Act.put, List.setIfInBounds_toArray, List.set_cons_zero, List.set_cons_succ]
            refine wpAnyH_take (i := 26) (oi := { dst := some 260, op := Op.nilCheck (Operand.tmp 259), type := 0, pos := "law.go:144", after := #[{ on := 25, ground := Ground.data }, { on := 16, ground := Ground.guard }], guard := some (16, false) }) (v := ?vpk3r50o26) rfl (by kernel_rfl) (by kernel_rfl) (by kernel_rfl) (fun _ _ _ h => h) (Or.inl ⟨by rfl, ?hpk3r50o26⟩) hS ?_
            case hpk3r50o26 => (intro wx hx; skip; go_simp; (try with_reducible rfl))
            try simp only [Act.put, List.setIfInBounds_toArray, List.set_cons_zero, List.set_cons_succ]
            refine wpAnyH_take (i := 27) (oi := { dst := some 261, op := Op.fieldAddr 58 (Operand.tmp 260) 3, type := 0, pos := "law.go:144", after := #[{ on := 26, ground := Ground.data }, { on := 16, ground := Ground.guard }], guard := some (16, false) }) (v := ?vpk3r50o27) rfl (by kernel_rfl) (by kernel_rfl) (by kernel_rfl) (fun _ _ _ h => h) (Or.inl ⟨by rfl, ?hpk3r50o27⟩) hS ?_
            case hpk3r50o27 => (intro wx hx; skip; go_simp; (try with_reducible rfl))
            try simp only [Act.put, List.setIfInBounds_toArray, List.set_cons_zero, List.set_cons_succ]
            refine wpAnyH_take (i := 28) (oi := { dst := some 262, op := Op.load 56 (Operand.tmp 261), type := 56, pos := "law.go:144", after := #[{ on := 27, ground := Ground.data }, { on := 16, ground := Ground.guard }], guard := some (16, false) }) (v := ?vpk3r50o28) rfl (by kernel_rfl) (by kernel_rfl) (by kernel_rfl) (fun _ _ _ h => h) (Or.inl ⟨by rfl, ?hpk3r50o28⟩) hS ?_
            case hpk3r50o28 => (intro wx hx; obtain ⟨y0, y1, y2⟩ := hx; go_simp; (try with_reducible rfl))
            try simp only [Act.put, List.setIfInBounds_toArray, List.set_cons_zero, List.set_cons_succ]
            refine wpAnyH_take (i := 29) (oi := { dst := some 263, op := Op.call { callee := Callee.builtin Builtin.len, args := #[Operand.tmp 262], argTypes := #[56] }, type := 3, pos := "law.go:144", after := #[{ on := 28, ground := Ground.data }, { on := 16, ground := Ground.guard }], guard := some (16, false) }) (v := ?vpk3r50o29) rfl (by kernel_rfl) (by kernel_rfl) (by kernel_rfl) (fun _ _ _ h => h) (Or.inl ⟨by rfl, ?hpk3r50o29⟩) hS ?_
            case hpk3r50o29 => (intro wx hx; skip; go_simp; (try with_reducible rfl))
            try simp only [Act.put, List.setIfInBounds_toArray, List.set_cons_zero, List.set_cons_succ]
            refine wpAnyH_ready (rs := [21]) (by kernel_rfl) (by simp) ?_
            refine AllReadyH.cons (o := { dst := some 255, op := Op.call { callee := Callee.value (Operand.func 27), args := #[Operand.tmp 254], argTypes := #[48] }, type := 3, pos := "law.go:144", after := #[{ on := 20, ground := Ground.data }, { on := 16, ground := Ground.chain }, { on := 16, ground := Ground.guard }], guard := some (16, false) }) rfl (fun K hK => ?_) AllReadyH.nil
            go_simp
            refine HA3.out.mono ?_
            rintro e v1 ⟨rfl, hv1⟩
            subst hv1
            refine hK.out _ _ ?hspk3r50o21 (fun hS => ?_)
            case hspk3r50o21 => (exact hzq.out)
            clear hK K
            try simp only [Act.put, List.setIfInBounds_toArray, List.set_cons_zero, List.set_cons_succ]
            refine wpAnyH_take (i := 30) (oi := { dst := some 264, op := Op.binOp BinOp.neq 3 (Operand.tmp 255) (Operand.tmp 263) 3, type := 4, pos := "law.go:144", after := #[{ on := 21, ground := Ground.data }, { on := 29, ground := Ground.data }, { on := 16, ground := Ground.guard }], guard := some (16, false) }) (v := ?vpk3r50o30) rfl (by kernel_rfl) (by kernel_rfl) (by kernel_rfl) (fun _ _ _ h => h) (Or.inl ⟨by rfl, ?hpk3r50o30⟩) hS ?_
            case hpk3r50o30 => (intro wx hx; skip; go_simp; (try with_reducible rfl))
            try simp only [Act.put, List.setIfInBounds_toArray, List.set_cons_zero, List.set_cons_succ]
            refine wpAnyH_take (i := 31) (oi := { dst := some 265, op := Op.pick (Operand.tmp 250) (Operand.const (Value.bool true)) (Operand.tmp 264), type := 4, pos := "law.go:144", after := #[{ on := 16, ground := Ground.data }, { on := 30, ground := Ground.data }], guard := none }) (v := ?vpk3r50o31) rfl (by kernel_rfl) (by kernel_rfl) (by kernel_rfl) (fun _ _ _ h => h) (Or.inl ⟨by rfl, ?hpk3r50o31⟩) hS ?_
            case hpk3r50o31 => (intro wx hx; skip; go_simp; (try with_reducible rfl))
            try simp only [Act.put, List.setIfInBounds_toArray, List.set_cons_zero, List.set_cons_succ]
            refine wpAnyH_done (by kernel_rfl) ?_ _
            clear hS hzq HA1 HA2 HA3
            go_wp2_with fail
            go_roundw
            case rel => exact ⟨j + 1, s2, hj1, rfl, by go_num, hLd⟩
            case measure => simp [intOf]; omega
        · skip
          as_aux_lemma =>
          have hlt2' : ¬ (j : Int) < (tl : Int) := by omega
          obtain ⟨zs, hzs⟩ : ∃ l, s.ws.map (·.seen) = l := ⟨_, rfl⟩
          obtain ⟨us, hus⟩ : ∃ l, s.ws.map (·.sure) = l := ⟨_, rfl⟩
          have Hzs := Lib.hid (show ∀ v ∈ zs, v < 18446744073709551616 by rw [← hzs]; exact hS.out.small)
          have Hus := Lib.hid (show ∀ v ∈ us, v < 18446744073709551616 by rw [← hus]; exact hS.out.smallS)
          obtain ⟨oz, hoz⟩ : ∃ l, overS (K.a : Int) (K.b : Int) (K.c : Int) zs K.a = l := ⟨_, rfl⟩
          obtain ⟨ou, hou⟩ : ∃ l, overS (K.a : Int) (K.b : Int) (K.c : Int) us K.a = l := ⟨_, rfl⟩
          have Hoz := Lib.hid (show ∀ v ∈ oz, v < 18446744073709551616 by rw [← hoz]; exact over_small Hzs.out _)
          have Hou := Lib.hid (show ∀ v ∈ ou, v < 18446744073709551616 by rw [← hou]; exact over_small Hus.out _)
          have HSe := Lib.hid (fun (wx : World) T (hO : Grommet.Own w wx (K.P s T)) => q_seen hS.out T hO)
          have HSu := Lib.hid (fun (wx : World) T (hO : Grommet.Own w wx (K.P s T)) => q_sure hS.out T hO)
          have HQe := Lib.hid (fun (wx : World) T (hO : Grommet.Own w wx (K.P s T)) => q_rseen hS.out T hO)
          have HQu := Lib.hid (fun (wx : World) T (hO : Grommet.Own w wx (K.P s T)) => q_rsure hS.out T hO)
          have HSm := Lib.hid (fun (wx : World) T i j q1 c1 q2 c2 xs hi hj hs (hO : Grommet.Own w wx (K.P s T)) => q_same hS.out T hO i j (q1 := q1) (c1 := c1) (q2 := q2) (c2 := c2) (xs := xs) hi hj hs)
          have HOz := Lib.hid (fun (wx : World) T i q1 c1 hi (hO : Grommet.Own w wx (K.P s T)) => q_over hS.out T hO i (q1 := q1) (c1 := c1) (xs := zs) hi Hzs.out)
          have HOu := Lib.hid (fun (wx : World) T i q1 c1 hi (hO : Grommet.Own w wx (K.P s T)) => q_over hS.out T hO i (q1 := q1) (c1 := c1) (xs := us) hi Hus.out)
          have HPz := Lib.hid (fun (wx : World) T i q1 c1 hi (hO : Grommet.Own w wx (K.P s T)) => q_rover hS.out T hO i (q1 := q1) (c1 := c1) (xs := zs) hi Hzs.out)
          have HPu := Lib.hid (fun (wx : World) T i q1 c1 hi (hO : Grommet.Own w wx (K.P s T)) => q_rover hS.out T hO i (q1 := q1) (c1 := c1) (xs := us) hi Hus.out)
          rw [hzs] at HSe HQe
          rw [hus] at HSu HQu
          rw [hoz] at HOz HPz
          rw [hou] at HOu HPu
          have HGt := Lib.hid (fun (wx : World) T (hO : Grommet.Own w wx (K.P s T)) => q_geo hO)
          have HSe0 := Lib.hid (HSe.out wr [] hS.out.own)
          unfold NewRow at HSe0 HSu HQe HQu HOz HOu HPz HPu
          unfold ptr at HSe0 HSu HQe HQu
          unfold GeoT at HGt
          clear hS HT Hb hzs hus hoz hou HSe
          go_wp2_with fail
          refine HSe0.out.mono ?_
          rintro e v1 ⟨q1, c1, rfl, hO1⟩
          have HSu1 := Lib.hid (HSu.out v1 _ hO1)
          clear HSe0 HSu hO1
          go_wp2_with fail
          refine HSu1.out.mono ?_
          rintro e v2 ⟨q2, c2, rfl, hO2⟩
          have hOr := Lib.hid (hO2.quiet (grown_drew (World.grownBy.refl v2 none)))
          have hzq := Lib.hid (HGt.out _ _ hOr.out)
          clear HSu1 hO2
          go_wp2_with fail
          refine wp_region_held_drew (S := fun w' => (w'.cell? ⟨K.X9, 0, none⟩ = some (.int .i64 (K.a : Int)) ∧ w'.cell? ⟨K.X9, 1, none⟩ = some (.int .i64 (K.b : Int)) ∧ w'.cell? ⟨K.X9, 2, none⟩ = some (.int .i64 (K.c : Int))) ∧ w'.cell? ⟨K.X10, 0, none⟩ = some (.int .i64 (K.a : Int)) ∧ w'.cell? ⟨K.X10, 1, none⟩ = some (.int .i64 (K.b : Int)) ∧ w'.cell? ⟨K.X10, 2, none⟩ = some (.int .i64 (K.c : Int))) (by kernel_rfl) (hzq.out) (fun hS => ?_)
          refine wpAnyH_take (i := 0) (oi := { dst := some 270, op := Op.move (Operand.tmp 34), type := 33, pos := "law.go:150", after := #[], guard := none }) (v := ?vpz3r54o0) rfl (by kernel_rfl) (by kernel_rfl) (by kernel_rfl) (fun _ _ _ h => h) (Or.inl ⟨by rfl, ?hpz3r54o0⟩) hS ?_
          case hpz3r54o0 => (intro wx hx; skip; go_simp; (try with_reducible rfl))
          try simp only [Act.put, List.setIfInBounds_toArray, List.set_cons_zero, List.set_cons_succ]
          refine wpAnyH_take (i := 1) (oi := { dst := some 271, op := Op.move (Operand.tmp 12), type := 30, pos := "law.go:150", after := #[], guard := none }) (v := ?vpz3r54o1) rfl (by kernel_rfl) (by kernel_rfl) (by kernel_rfl) (fun _ _ _ h => h) (Or.inl ⟨by rfl, ?hpz3r54o1⟩) hS ?_
          case hpz3r54o1 => (intro wx hx; skip; go_simp; (try with_reducible rfl))
          try simp only [Act.put, List.setIfInBounds_toArray, List.set_cons_zero, List.set_cons_succ]
          refine wpAnyH_ready (rs := [2]) (by kernel_rfl) (by simp) ?_
          refine AllReadyH.cons (o := { dst := some 272, op := Op.call { callee := Callee.value (Operand.func 31), args := #[Operand.tmp 271], argTypes := #[30] }, type := 33, pos := "law.go:150", after := #[{ on := 1, ground := Ground.data }], guard := none }) rfl (fun K hK => ?_) AllReadyH.nil
          go_simp
          refine (HQe.out _ _ hOr.out).mono ?_
          rintro e v3 ⟨q3, c3, rfl, hOn⟩
          clear hOr
          have hOr := Lib.hid hOn
          clear hOn
          refine hK.out _ _ ?hspz3r54o2 (fun hS => ?_)
          case hspz3r54o2 => (exact HGt.out _ _ hOr.out)
          clear hK K
          try simp only [Act.put, List.setIfInBounds_toArray, List.set_cons_zero, List.set_cons_succ]
          refine wpAnyH_ready (rs := [3]) (by kernel_rfl) (by simp) ?_
          refine AllReadyH.cons (o := { dst := some 273, op := Op.call { callee := Callee.value (Operand.func 30), args := #[Operand.tmp 270, Operand.tmp 272], argTypes := #[33, 33] }, type := 4, pos := "law.go:150", after := #[{ on := 0, ground := Ground.data }, { on := 2, ground := Ground.data }, { on := 2, ground := Ground.chain }], guard := none }) rfl (fun K hK => ?_) AllReadyH.nil
          go_simp
          refine (HSm.out _ _ 0 2 _ _ _ _ zs rfl rfl Hzs.out hOr.out).mono ?_
          rintro e v4 ⟨rfl, hOn⟩
          clear hOr
          have hOr := Lib.hid hOn
          clear hOn
          refine hK.out _ _ ?hspz3r54o3 (fun hS => ?_)
          case hspz3r54o3 => (exact HGt.out _ _ hOr.out)
          clear hK K
          try simp only [Act.put, List.setIfInBounds_toArray, List.set_cons_zero, List.set_cons_succ]
          refine wpAnyH_take (i := 4) (oi := { dst := some 274, op := Op.move (Operand.tmp 273), type := 4, pos := "law.go:150", after := #[{ on := 3, ground := Ground.data }, { on := 3, ground := Ground.chain }], guard := none }) (v := ?vpz3r54o4) rfl (by kernel_rfl) (by kernel_rfl) (by kernel_rfl) (fun _ _ _ h => h) (Or.inl ⟨by rfl, ?hpz3r54o4⟩) hS ?_
          case hpz3r54o4 => (intro wx hx; skip; go_simp; (try with_reducible rfl))
          try simp only [Act.put, List.setIfInBounds_toArray, List.set_cons_zero, List.set_cons_succ]
          refine wpAnyH_take (i := 5) (oi := { dst := some 275, op := Op.move (Operand.tmp 35), type := 33, pos := "law.go:150", after := #[{ on := 4, ground := Ground.guard }], guard := some (4, true) }) (v := ?vpz3r54o5) rfl (by kernel_rfl) (by kernel_rfl) (by kernel_rfl) (fun _ _ _ h => h) (Or.inl ⟨by rfl, ?hpz3r54o5⟩) hS ?_
          case hpz3r54o5 => (intro wx hx; skip; go_simp; (try with_reducible rfl))
          try simp only [Act.put, List.setIfInBounds_toArray, List.set_cons_zero, List.set_cons_succ]
          refine wpAnyH_take (i := 6) (oi := { dst := some 276, op := Op.move (Operand.tmp 12), type := 30, pos := "law.go:150", after := #[{ on := 4, ground := Ground.guard }], guard := some (4, true) }) (v := ?vpz3r54o6) rfl (by kernel_rfl) (by kernel_rfl) (by kernel_rfl) (fun _ _ _ h => h) (Or.inl ⟨by rfl, ?hpz3r54o6⟩) hS ?_
          case hpz3r54o6 => (intro wx hx; skip; go_simp; (try with_reducible rfl))
          try simp only [Act.put, List.setIfInBounds_toArray, List.set_cons_zero, List.set_cons_succ]
          refine wpAnyH_ready (rs := [7]) (by kernel_rfl) (by simp) ?_
          refine AllReadyH.cons (o := { dst := some 277, op := Op.call { callee := Callee.value (Operand.func 32), args := #[Operand.tmp 276], argTypes := #[30] }, type := 33, pos := "law.go:150", after := #[{ on := 6, ground := Ground.data }, { on := 4, ground := Ground.chain }, { on := 4, ground := Ground.guard }], guard := some (4, true) }) rfl (fun K hK => ?_) AllReadyH.nil
          go_simp
          refine (HQu.out _ _ hOr.out).mono ?_
          rintro e v5 ⟨q5, c5, rfl, hOn⟩
          clear hOr
          have hOr := Lib.hid hOn
          clear hOn
          refine hK.out _ _ ?hspz3r54o7 (fun hS => ?_)
          case hspz3r54o7 => (exact HGt.out _ _ hOr.out)
          clear hK K
          try simp only [Act.put, List.setIfInBounds_toArray, List.set_cons_zero, List.set_cons_succ]
          refine wpAnyH_ready (rs := [8]) (by kernel_rfl) (by simp) ?_
          refine AllReadyH.cons (o := { dst := some 278, op := Op.call { callee := Callee.value (Operand.func 30), args := #[Operand.tmp 275, Operand.tmp 277], argTypes := #[33, 33] }, type := 4, pos := "law.go:150", after := #[{ on := 5, ground := Ground.data }, { on := 7, ground := Ground.data }, { on := 7, ground := Ground.chain }, { on := 4, ground := Ground.guard }], guard := some (4, true) }) rfl (fun K hK => ?_) AllReadyH.nil
          go_simp
          refine (HSm.out _ _ 1 3 _ _ _ _ us rfl rfl Hus.out hOr.out).mono ?_
          rintro e v6 ⟨rfl, hOn⟩
          clear hOr
          have hOr := Lib.hid hOn
          clear hOn
          refine hK.out _ _ ?hspz3r54o8 (fun hS => ?_)
          case hspz3r54o8 => (exact HGt.out _ _ hOr.out)
          clear hK K
          try simp only [Act.put, List.setIfInBounds_toArray, List.set_cons_zero, List.set_cons_succ]
          refine wpAnyH_take (i := 9) (oi := { dst := some 279, op := Op.pick (Operand.tmp 274) (Operand.tmp 278) (Operand.const (Value.bool false)), type := 4, pos := "law.go:150", after := #[{ on := 4, ground := Ground.data }, { on := 8, ground := Ground.data }], guard := none }) (v := ?vpz3r54o9) rfl (by kernel_rfl) (by kernel_rfl) (by kernel_rfl) (fun _ _ _ h => h) (Or.inl ⟨by rfl, ?hpz3r54o9⟩) hS ?_
          case hpz3r54o9 => (intro wx hx; skip; go_simp; (try with_reducible rfl))
          try simp only [Act.put, List.setIfInBounds_toArray, List.set_cons_zero, List.set_cons_succ]
          refine wpAnyH_take (i := 10) (oi := { dst := some 280, op := Op.move (Operand.tmp 279), type := 4, pos := "law.go:150", after := #[{ on := 9, ground := Ground.data }, { on := 8, ground := Ground.chain }], guard := none }) (v := ?vpz3r54o10) rfl (by kernel_rfl) (by kernel_rfl) (by kernel_rfl) (fun _ _ _ h => h) (Or.inl ⟨by rfl, ?hpz3r54o10⟩) hS ?_
          case hpz3r54o10 => (intro wx hx; skip; go_simp; (try with_reducible rfl))
          try simp only [Act.put, List.setIfInBounds_toArray, List.set_cons_zero, List.set_cons_succ]
          refine wpAnyH_take (i := 11) (oi := { dst := some 281, op := Op.load 26 (Operand.tmp 9), type := 26, pos := "law.go:150", after := #[{ on := 10, ground := Ground.guard }], guard := some (10, true) }) (v := ?vpz3r54o11) rfl (by kernel_rfl) (by kernel_rfl) (by kernel_rfl) (fun _ _ _ h => h) (Or.inl ⟨by rfl, ?hpz3r54o11⟩) hS ?_
          case hpz3r54o11 => (intro wx hx; obtain ⟨⟨y0, y1, y2⟩, y3, y4, y5⟩ := hx; go_simp; (try with_reducible rfl))
          try simp only [Act.put, List.setIfInBounds_toArray, List.set_cons_zero, List.set_cons_succ]
          refine wpAnyH_take (i := 12) (oi := { dst := some 282, op := Op.move (Operand.tmp 34), type := 33, pos := "law.go:150", after := #[{ on := 10, ground := Ground.guard }], guard := some (10, true) }) (v := ?vpz3r54o12) rfl (by kernel_rfl) (by kernel_rfl) (by kernel_rfl) (fun _ _ _ h => h) (Or.inl ⟨by rfl, ?hpz3r54o12⟩) hS ?_
          case hpz3r54o12 => (intro wx hx; skip; go_simp; (try with_reducible rfl))
          try simp only [Act.put, List.setIfInBounds_toArray, List.set_cons_zero, List.set_cons_succ]
          refine wpAnyH_take (i := 14) (oi := { dst := some 284, op := Op.load 28 (Operand.tmp 10), type := 28, pos := "law.go:150", after := #[{ on := 10, ground := Ground.guard }], guard := some (10, true) }) (v := ?vpz3r54o14) rfl (by kernel_rfl) (by kernel_rfl) (by kernel_rfl) (fun _ _ _ h => h) (Or.inl ⟨by rfl, ?hpz3r54o14⟩) hS ?_
          case hpz3r54o14 => (intro wx hx; obtain ⟨⟨y0, y1, y2⟩, y3, y4, y5⟩ := hx; go_simp; (try with_reducible rfl))
          try simp only [Act.put, List.setIfInBounds_toArray, List.set_cons_zero, List.set_cons_succ]
          refine wpAnyH_take (i := 15) (oi := { dst := some 285, op := Op.move (Operand.tmp 34), type := 33, pos := "law.go:150", after := #[{ on := 10, ground := Ground.guard }], guard := some (10, true) }) (v := ?vpz3r54o15) rfl (by kernel_rfl) (by kernel_rfl) (by kernel_rfl) (fun _ _ _ h => h) (Or.inl ⟨by rfl, ?hpz3r54o15⟩) hS ?_
          case hpz3r54o15 => (intro wx hx; skip; go_simp; (try with_reducible rfl))
          try simp only [Act.put, List.setIfInBounds_toArray, List.set_cons_zero, List.set_cons_succ]
          refine wpAnyH_ready (rs := [13]) (by kernel_rfl) (by simp) ?_
          refine AllReadyH.cons (o := { dst := some 283, op := Op.call { callee := Callee.value (Operand.func 33), args := #[Operand.tmp 281, Operand.tmp 282], argTypes := #[26, 33] }, type := 33, pos := "law.go:150", after := #[{ on := 11, ground := Ground.data }, { on := 12, ground := Ground.data }, { on := 10, ground := Ground.chain }, { on := 10, ground := Ground.guard }], guard := some (10, true) }) rfl (fun K hK => ?_) AllReadyH.nil
          go_simp
          refine (HOz.out _ _ 0 _ _ rfl hOr.out).mono ?_
          rintro e v7 ⟨q7, c7, rfl, hOn⟩
          clear hOr
          have hOr := Lib.hid hOn
          clear hOn
          refine hK.out _ _ ?hspz3r54o13 (fun hS => ?_)
          case hspz3r54o13 => (exact HGt.out _ _ hOr.out)
          clear hK K
          try simp only [Act.put, List.setIfInBounds_toArray, List.set_cons_zero, List.set_cons_succ]
          refine wpAnyH_ready (rs := [16]) (by kernel_rfl) (by simp) ?_
          refine AllReadyH.cons (o := { dst := some 286, op := Op.call { callee := Callee.value (Operand.func 34), args := #[Operand.tmp 284, Operand.tmp 285], argTypes := #[28, 33] }, type := 33, pos := "law.go:150", after := #[{ on := 14, ground := Ground.data }, { on := 15, ground := Ground.data }, { on := 13, ground := Ground.chain }, { on := 10, ground := Ground.guard }], guard := some (10, true) }) rfl (fun K hK => ?_) AllReadyH.nil
          go_simp
          refine (HPz.out _ _ 0 _ _ rfl hOr.out).mono ?_
          rintro e v8 ⟨q8, c8, rfl, hOn⟩
          clear hOr
          have hOr := Lib.hid hOn
          clear hOn
          refine hK.out _ _ ?hspz3r54o16 (fun hS => ?_)
          case hspz3r54o16 => (exact HGt.out _ _ hOr.out)
          clear hK K
          try simp only [Act.put, List.setIfInBounds_toArray, List.set_cons_zero, List.set_cons_succ]
          refine wpAnyH_ready (rs := [17]) (by kernel_rfl) (by simp) ?_
          refine AllReadyH.cons (o := { dst := some 287, op := Op.call { callee := Callee.value (Operand.func 30), args := #[Operand.tmp 283, Operand.tmp 286], argTypes := #[33, 33] }, type := 4, pos := "law.go:150", after := #[{ on := 13, ground := Ground.data }, { on := 16, ground := Ground.data }, { on := 16, ground := Ground.chain }, { on := 10, ground := Ground.guard }], guard := some (10, true) }) rfl (fun K hK => ?_) AllReadyH.nil
          go_simp
          refine (HSm.out _ _ 4 5 _ _ _ _ oz rfl rfl Hoz.out hOr.out).mono ?_
          rintro e v9 ⟨rfl, hOn⟩
          clear hOr
          have hOr := Lib.hid hOn
          clear hOn
          refine hK.out _ _ ?hspz3r54o17 (fun hS => ?_)
          case hspz3r54o17 => (exact HGt.out _ _ hOr.out)
          clear hK K
          try simp only [Act.put, List.setIfInBounds_toArray, List.set_cons_zero, List.set_cons_succ]
          refine wpAnyH_take (i := 18) (oi := { dst := some 288, op := Op.pick (Operand.tmp 280) (Operand.tmp 287) (Operand.const (Value.bool false)), type := 4, pos := "law.go:150", after := #[{ on := 10, ground := Ground.data }, { on := 17, ground := Ground.data }], guard := none }) (v := ?vpz3r54o18) rfl (by kernel_rfl) (by kernel_rfl) (by kernel_rfl) (fun _ _ _ h => h) (Or.inl ⟨by rfl, ?hpz3r54o18⟩) hS ?_
          case hpz3r54o18 => (intro wx hx; skip; go_simp; (try with_reducible rfl))
          try simp only [Act.put, List.setIfInBounds_toArray, List.set_cons_zero, List.set_cons_succ]
          refine wpAnyH_take (i := 19) (oi := { dst := some 289, op := Op.move (Operand.tmp 288), type := 4, pos := "law.go:150", after := #[{ on := 18, ground := Ground.data }, { on := 17, ground := Ground.chain }], guard := none }) (v := ?vpz3r54o19) rfl (by kernel_rfl) (by kernel_rfl) (by kernel_rfl) (fun _ _ _ h => h) (Or.inl ⟨by rfl, ?hpz3r54o19⟩) hS ?_
          case hpz3r54o19 => (intro wx hx; skip; go_simp; (try with_reducible rfl))
          try simp only [Act.put, List.setIfInBounds_toArray, List.set_cons_zero, List.set_cons_succ]
          refine wpAnyH_take (i := 20) (oi := { dst := some 290, op := Op.load 26 (Operand.tmp 9), type := 26, pos := "law.go:150", after := #[{ on := 19, ground := Ground.guard }], guard := some (19, true) }) (v := ?vpz3r54o20) rfl (by kernel_rfl) (by kernel_rfl) (by kernel_rfl) (fun _ _ _ h => h) (Or.inl ⟨by rfl, ?hpz3r54o20⟩) hS ?_
          case hpz3r54o20 => (intro wx hx; obtain ⟨⟨y0, y1, y2⟩, y3, y4, y5⟩ := hx; go_simp; (try with_reducible rfl))
          try simp only [Act.put, List.setIfInBounds_toArray, List.set_cons_zero, List.set_cons_succ]
          refine wpAnyH_take (i := 21) (oi := { dst := some 291, op := Op.move (Operand.tmp 35), type := 33, pos := "law.go:150", after := #[{ on := 19, ground := Ground.guard }], guard := some (19, true) }) (v := ?vpz3r54o21) rfl (by kernel_rfl) (by kernel_rfl) (by kernel_rfl) (fun _ _ _ h => h) (Or.inl ⟨by rfl, ?hpz3r54o21⟩) hS ?_
          case hpz3r54o21 => (intro wx hx; skip; go_simp; (try with_reducible rfl))
          try simp only [Act.put, List.setIfInBounds_toArray, List.set_cons_zero, List.set_cons_succ]
          refine wpAnyH_take (i := 23) (oi := { dst := some 293, op := Op.load 28 (Operand.tmp 10), type := 28, pos := "law.go:150", after := #[{ on := 19, ground := Ground.guard }], guard := some (19, true) }) (v := ?vpz3r54o23) rfl (by kernel_rfl) (by kernel_rfl) (by kernel_rfl) (fun _ _ _ h => h) (Or.inl ⟨by rfl, ?hpz3r54o23⟩) hS ?_
          case hpz3r54o23 => (intro wx hx; obtain ⟨⟨y0, y1, y2⟩, y3, y4, y5⟩ := hx; go_simp; (try with_reducible rfl))
          try simp only [Act.put, List.setIfInBounds_toArray, List.set_cons_zero, List.set_cons_succ]
          refine wpAnyH_take (i := 24) (oi := { dst := some 294, op := Op.move (Operand.tmp 35), type := 33, pos := "law.go:150", after := #[{ on := 19, ground := Ground.guard }], guard := some (19, true) }) (v := ?vpz3r54o24) rfl (by kernel_rfl) (by kernel_rfl) (by kernel_rfl) (fun _ _ _ h => h) (Or.inl ⟨by rfl, ?hpz3r54o24⟩) hS ?_
          case hpz3r54o24 => (intro wx hx; skip; go_simp; (try with_reducible rfl))
          try simp only [Act.put, List.setIfInBounds_toArray, List.set_cons_zero, List.set_cons_succ]
          refine wpAnyH_ready (rs := [22]) (by kernel_rfl) (by simp) ?_
          refine AllReadyH.cons (o := { dst := some 292, op := Op.call { callee := Callee.value (Operand.func 33), args := #[Operand.tmp 290, Operand.tmp 291], argTypes := #[26, 33] }, type := 33, pos := "law.go:150", after := #[{ on := 20, ground := Ground.data }, { on := 21, ground := Ground.data }, { on := 19, ground := Ground.chain }, { on := 19, ground := Ground.guard }], guard := some (19, true) }) rfl (fun K hK => ?_) AllReadyH.nil
          go_simp
          refine (HOu.out _ _ 1 _ _ rfl hOr.out).mono ?_
          rintro e v10 ⟨q10, c10, rfl, hOn⟩
          clear hOr
          have hOr := Lib.hid hOn
          clear hOn
          refine hK.out _ _ ?hspz3r54o22 (fun hS => ?_)
          case hspz3r54o22 => (exact HGt.out _ _ hOr.out)
          clear hK K
          try simp only [Act.put, List.setIfInBounds_toArray, List.set_cons_zero, List.set_cons_succ]
          refine wpAnyH_ready (rs := [25]) (by kernel_rfl) (by simp) ?_
          refine AllReadyH.cons (o := { dst := some 295, op := Op.call { callee := Callee.value (Operand.func 34), args := #[Operand.tmp 293, Operand.tmp 294], argTypes := #[28, 33] }, type := 33, pos := "law.go:150", after := #[{ on := 23, ground := Ground.data }, { on := 24, ground := Ground.data }, { on := 22, ground := Ground.chain }, { on := 19, ground := Ground.guard }], guard := some (19, true) }) rfl (fun K hK => ?_) AllReadyH.nil
          go_simp
          refine (HPu.out _ _ 1 _ _ rfl hOr.out).mono ?_
          rintro e v11 ⟨q11, c11, rfl, hOn⟩
          clear hOr
          have hOr := Lib.hid hOn
          clear hOn
          refine hK.out _ _ ?hspz3r54o25 (fun hS => ?_)
          case hspz3r54o25 => (exact HGt.out _ _ hOr.out)
          clear hK K
          try simp only [Act.put, List.setIfInBounds_toArray, List.set_cons_zero, List.set_cons_succ]
          refine wpAnyH_ready (rs := [26]) (by kernel_rfl) (by simp) ?_
          refine AllReadyH.cons (o := { dst := some 296, op := Op.call { callee := Callee.value (Operand.func 30), args := #[Operand.tmp 292, Operand.tmp 295], argTypes := #[33, 33] }, type := 4, pos := "law.go:150", after := #[{ on := 22, ground := Ground.data }, { on := 25, ground := Ground.data }, { on := 25, ground := Ground.chain }, { on := 19, ground := Ground.guard }], guard := some (19, true) }) rfl (fun K hK => ?_) AllReadyH.nil
          go_simp
          refine (HSm.out _ _ 6 7 _ _ _ _ ou rfl rfl Hou.out hOr.out).mono ?_
          rintro e v12 ⟨rfl, hOn⟩
          clear hOr
          have hOr := Lib.hid hOn
          clear hOn
          refine hK.out _ _ ?hspz3r54o26 (fun hS => ?_)
          case hspz3r54o26 => (exact HGt.out _ _ hOr.out)
          clear hK K
          try simp only [Act.put, List.setIfInBounds_toArray, List.set_cons_zero, List.set_cons_succ]
          refine wpAnyH_take (i := 27) (oi := { dst := some 297, op := Op.pick (Operand.tmp 289) (Operand.tmp 296) (Operand.const (Value.bool false)), type := 4, pos := "law.go:150", after := #[{ on := 19, ground := Ground.data }, { on := 26, ground := Ground.data }], guard := none }) (v := ?vpz3r54o27) rfl (by kernel_rfl) (by kernel_rfl) (by kernel_rfl) (fun _ _ _ h => h) (Or.inl ⟨by rfl, ?hpz3r54o27⟩) hS ?_
          case hpz3r54o27 => (intro wx hx; skip; go_simp; (try with_reducible rfl))
          try simp only [Act.put, List.setIfInBounds_toArray, List.set_cons_zero, List.set_cons_succ]
          refine wpAnyH_take (i := 28) (oi := { dst := some 298, op := Op.move (Operand.tmp 297), type := 4, pos := "law.go:150", after := #[{ on := 27, ground := Ground.data }, { on := 26, ground := Ground.chain }], guard := none }) (v := ?vpz3r54o28) rfl (by kernel_rfl) (by kernel_rfl) (by kernel_rfl) (fun _ _ _ h => h) (Or.inl ⟨by rfl, ?hpz3r54o28⟩) hS ?_
          case hpz3r54o28 => (intro wx hx; skip; go_simp; (try with_reducible rfl))
          try simp only [Act.put, List.setIfInBounds_toArray, List.set_cons_zero, List.set_cons_succ]
          refine wpAnyH_ready (rs := [29]) (by kernel_rfl) (by simp) ?_
          refine AllReadyH.cons (o := { dst := some 299, op := Op.call { callee := Callee.value (Operand.func 7), args := #[], argTypes := #[] }, type := 4, pos := "law.go:150", after := #[{ on := 28, ground := Ground.chain }, { on := 28, ground := Ground.guard }], guard := some (28, true) }) rfl (fun K hK => ?_) AllReadyH.nil
          go_simp
          refine (HW.out _).mono ?_
          rintro e v13 ⟨rfl, hg13⟩
          have hOn := Lib.hid (hOr.out.quiet hg13)
          clear hOr hg13
          have hOr := hOn
          clear hOn
          refine hK.out _ _ ?hspz3r54o29 (fun hS => ?_)
          case hspz3r54o29 => (exact HGt.out _ _ hOr.out)
          clear hK K
          try simp only [Act.put, List.setIfInBounds_toArray, List.set_cons_zero, List.set_cons_succ]
          refine wpAnyH_take (i := 30) (oi := { dst := some 300, op := Op.pick (Operand.tmp 298) (Operand.tmp 299) (Operand.const (Value.bool false)), type := 4, pos := "law.go:150", after := #[{ on := 28, ground := Ground.data }, { on := 29, ground := Ground.data }], guard := none }) (v := ?vpz3r54o30) rfl (by kernel_rfl) (by kernel_rfl) (by kernel_rfl) (fun _ _ _ h => h) (Or.inl ⟨by rfl, ?hpz3r54o30⟩) hS ?_
          case hpz3r54o30 => (intro wx hx; skip; go_simp; (try with_reducible rfl))
          try simp only [Act.put, List.setIfInBounds_toArray, List.set_cons_zero, List.set_cons_succ]
          refine wpAnyH_take (i := 31) (oi := { dst := some 8, op := Op.assign (Operand.tmp 300), type := 4, pos := "law.go:150", after := #[{ on := 30, ground := Ground.data }, { on := 29, ground := Ground.chain }, { on := 0, ground := Ground.phase }, { on := 1, ground := Ground.phase }, { on := 2, ground := Ground.phase }, { on := 3, ground := Ground.phase }, { on := 4, ground := Ground.phase }, { on := 5, ground := Ground.phase }, { on := 6, ground := Ground.phase }, { on := 7, ground := Ground.phase }, { on := 8, ground := Ground.phase }, { on := 9, ground := Ground.phase }, { on := 10, ground := Ground.phase }, { on := 11, ground := Ground.phase }, { on := 12, ground := Ground.phase }, { on := 13, ground := Ground.phase }, { on := 14, ground := Ground.phase }, { on := 15, ground := Ground.phase }, { on := 16, ground := Ground.phase }, { on := 17, ground := Ground.phase }, { on := 18, ground := Ground.phase }, { on := 19, ground := Ground.phase }, { on := 20, ground := Ground.phase }, { on := 21, ground := Ground.phase }, { on := 22, ground := Ground.phase }, { on := 23, ground := Ground.phase }, { on := 24, ground := Ground.phase }, { on := 25, ground := Ground.phase }, { on := 26, ground := Ground.phase }, { on := 27, ground := Ground.phase }, { on := 28, ground := Ground.phase }, { on := 29, ground := Ground.phase }, { on := 30, ground := Ground.phase }], guard := none }) (v := ?vpz3r54o31) rfl (by kernel_rfl) (by kernel_rfl) (by kernel_rfl) (fun _ _ _ h => h) (Or.inl ⟨by rfl, ?hpz3r54o31⟩) hS ?_
          case hpz3r54o31 => (intro wx hx; skip; go_simp; (try with_reducible rfl))
          try simp only [Act.put, List.setIfInBounds_toArray, List.set_cons_zero, List.set_cons_succ]
          refine wpAnyH_done (by kernel_rfl) ?_ _
          have hgr := Lib.hid hOr.out.grown
          clear hS hzq hOr HQe HQu HSm HOz HOu HPz HPu HGt HW
          go_wp2_with fail
          go_ret
          exact ⟨rfl, hgr.out⟩
theorem walk (a0 a1 a2 : Int) (td : Option Addr) (tl tc : Nat) (T : List Wst) (w : World) (w0 : (Lit.int .u8 a0).wf = true) (w1 : (Lit.int .u8 a1).wf = true) (w2 : (Lit.int .u8 a2).wf = true) (hT : WstsIn w td tl T) :
    Calls Tryz.prog 3 #[.int .u8 a0, .int .u8 a1, .int .u8 a2, .slice td tl tc] w (WorksC w) := by
  obtain ⟨x, rfl, hx⟩ := u8_natA w0
  obtain ⟨y, rfl, hy⟩ := u8_natA w1
  obtain ⟨z, rfl, hz⟩ := u8_natA w2
  by_cases hb : fewB tl T = true
  · exact walk_at x y z td tl tc T w hx hy hz hT hb
  · exact walk_far _ _ _ td tl tc T w hT (by simpa using hb)
end Go.Proofs.YtpdofdloclmbdaaGreat.commitPlays
