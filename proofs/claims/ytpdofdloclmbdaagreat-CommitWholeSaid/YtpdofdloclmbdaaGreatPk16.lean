/- Texts of ours, packed. -/
import Derived.Deep.DeepCutAuto
import Derived.BigQuiet
import Derived.Deep.QuietTactic
import Derived.StillTailTactics
import Derived.Test.YtpdofdloclmbdaaGreatPk15
import Derived.Test.YtpdofdloclmbdaaGreatPk4
section
/- Package commit: committed. -/
-- OPTIONAL
namespace Go.Proofs.YtpdofdloclmbdaaGreat
open Go.RowKit Go.Grommet

def restL (xs : List Nat) (A : Nat) : List Nat := (xs.drop (A + 8)).take 200
/-- Is an area committed? -/
def commB (a b c : Int) (xs : List Nat) (A : Nat) : Bool := !decide (xs.getD A 0 = 0) && decide (xs.getD A 0 = markV (restL xs A)) && readB a b c (restL xs A)
def commM (xs : List Nat) (A : Nat) : List (Int × Nat) := writesR (restL xs A) ((restL xs A).getD 0 0)
theorem words_mid {w : World} {q o l F K : Nat} {xs : List Nat} (h : Words w (some ⟨q, o, none⟩) l xs) (lo : Nat) (hF : o + lo = F) (hK : lo + K ≤ l) : Words w (some ⟨q, F, none⟩) K ((xs.drop lo).take K) := by
  refine ⟨by rw [List.length_take, List.length_drop, h.len]; omega, fun m hm => h.small m (List.mem_of_mem_drop (List.mem_of_mem_take hm)), ?_, by have := h.fits; omega⟩
  intro j u hu
  rw [List.map_take, List.getElem?_take, List.map_drop, List.getElem?_drop] at hu
  by_cases hj : j < K
  · rw [if_pos hj] at hu
    obtain ⟨g, o', he, hc⟩ := h.at_ (lo + j) u hu
    cases he
    exact ⟨q, F, rfl, by rw [← hF, Nat.add_assoc]; exact hc⟩
  · rw [if_neg hj] at hu; cases hu
def CommIs (base : Nat) (a b c : Int) (xs : List Nat) (A : Nat) (w : World) (e : Ending) (w' : World) : Prop :=
  (commB a b c xs A = true ∧ ∃ ad cap n, e = .returned (.tuple #[.slice ad n cap, .bool true]) ∧ n = (commM xs A).length ∧ w'.ownsRow base 92 2 (.slice ad n cap) n (icells (commM xs A)) ∧ w.grownBy w' none) ∨
  (commB a b c xs A = false ∧ e = .returned (.tuple #[.slice none 0 0, .bool false]) ∧ w.grownBy w' none)
def GeoQ (G : Nat) (a b c : Int) (w : World) : Prop := w.heap[G]? = some (.cells #[.int .i64 a, .int .i64 b, .int .i64 c] 26 (0, 0))
theorem GeoQ.keep {G : Nat} {a b c : Int} {w w' : World} (h : GeoQ G a b c w) (hg : w.grownBy w' none) : GeoQ G a b c w' := (hg.block G (lt_of_block h) (by simp)).trans h
theorem GeoQ.cells {G : Nat} {a b c : Int} {w : World} (h : GeoQ G a b c w) : w.cell? ⟨G, 0, none⟩ = some (.int .i64 a) ∧ w.cell? ⟨G, 1, none⟩ = some (.int .i64 b) ∧ w.cell? ⟨G, 2, none⟩ = some (.int .i64 c) := by
  unfold GeoQ at h
  simp [World.cell?, h]

set_option maxRecDepth 100000 in
set_option maxHeartbeats 2000000 in
theorem committed_any (base : Nat) (a b c : Int) (q o l cap : Nat) (xs : List Nat) (A : Nat) (w : World) (hx : Words w (some ⟨q, o, none⟩) l xs) (hlc : l ≤ cap) (hA : A + 208 ≤ l) (hl : l ≤ 1000000) (hb : base ≤ w.heap.size) :
    Calls Tryz.prog 66 #[gv a b c, .slice (some ⟨q, o, none⟩) l cap, .int .i64 (A : Int)] w (CommIs base a b c xs A w) := by
  obtain ⟨w1, hw1⟩ : ∃ w1, w.alloc (.cells #[.int .i64 a, .int .i64 b, .int .i64 c] 26) = w1 := ⟨_, rfl⟩
  obtain ⟨G, hG⟩ : ∃ G, w.heap.size = G := ⟨_, rfl⟩
  have hg1 : w.grownBy w1 none := by rw [← hw1]; exact World.grownBy_alloc _ _ _
  have hgq : GeoQ G a b c w1 := by rw [← hw1, ← hG]; exact heap_alloc_new w _
  have hx1 := hx.keep hg1 (by simp)
  obtain ⟨lo, hlo⟩ : ∃ lo, A + 8 = lo := ⟨_, rfl⟩
  obtain ⟨hi, hhi⟩ : ∃ hi, A + 208 = hi := ⟨_, rfl⟩
  obtain ⟨C, hC⟩ : ∃ C, cap = lo + C := ⟨cap - lo, by omega⟩
  obtain ⟨F, hF⟩ : ∃ F, o + lo = F := ⟨_, rfl⟩
  have hsl := fun wx => slice_mid (P := Tryz.prog) 33 44 Tryz.underlying33 Tryz.sizeOf44 q o l cap lo hi 200 C F (by omega) hC (by omega) (by omega) hF wx
  have hr1 : Words w1 (some ⟨q, F, none⟩) 200 (restL xs A) := by
    unfold restL
    rw [hlo]
    exact words_mid hx1 lo hF (by omega)
  obtain ⟨q', o', he, hc0⟩ := hx1.cell A (by omega)
  cases he
  have wlo : IntKind.i64.wrap ((A : Int) + 8) = (lo : Int) := by rw [IntWalk.i64_in _ ⟨by omega, by omega⟩]; omega
  have whi : IntKind.i64.wrap ((A : Int) + 208) = (hi : Int) := by rw [IntWalk.i64_in _ ⟨by omega, by omega⟩]; omega
  have A0 : (0 : Int) ≤ (A : Int) := by omega
  have Al : (A : Int) < (l : Int) := by omega
  obtain ⟨m, Hm⟩ : ∃ m, Hid (m = xs.getD A 0) := ⟨_, Lib.hid rfl⟩
  rw [← Hm.out] at hc0
  obtain ⟨mk, Hmk⟩ : ∃ mk, Hid (mk = markV (restL xs A)) := ⟨_, Lib.hid rfl⟩
  have HMk := Lib.hid (fun wx (hg : w1.grownBy wx none) => Mark_any (some ⟨q, F, none⟩) 200 C (restL xs A) wx (hr1.keep hg (by simp)) (by omega))
  have HRd := Lib.hid (fun wx (hg : w1.grownBy wx none) => Read_any base a b c (some ⟨q, F, none⟩) 200 C (restL xs A) wx (hr1.keep hg (by simp)) (by omega) (Nat.le_trans hb (grown_trans hg1 hg).size))
  rw [← Hmk.out] at HMk
  have Hb : Hid (commB a b c xs A = (!decide (m = 0) && decide (m = mk) && readB a b c (restL xs A))) := Lib.hid (by rw [Hm.out, Hmk.out]; rfl)
  have HGq := Lib.hid hgq
  have Hg1 := Lib.hid hg1
  clear hx hx1 hr1 hgq hg1 hlo hhi hC hlc hA hb hF
  unfold gv at HRd ⊢
  go_enter Tryz.func66, Tryz.ntmps66
  go_upto_region 1 with fail
  clear hw1 hG
  go_wp2_with fail
  go_quiet (fail)
  by_cases hm0 : m = 0
  · have q0 : ((m : Int) == 0) = true := by rw [hm0]; rfl
    have hbf : commB a b c xs A = false := by rw [Hb.out, hm0]; rfl
    clear hm0
    go_wp2
    go_ret2
    exact .inr ⟨hbf, rfl, grown_trans Hg1.out (grown_drewN _ _ _)⟩
  · have q0 : ((m : Int) == 0) = false := by rw [beq_eq_false_iff_ne]; omega
    go_wp2_with fail
    refine (HMk.out _ (grown_drewN _ _ _)).mono ?_
    rintro e w2 ⟨rfl, hg2⟩
    have hgw := Lib.hid (grown_trans (grown_drewN w1 _ none) hg2)
    clear hg2 HMk
    by_cases hmk : m = mk
    · have q1 : ((m : Int) != (mk : Int)) = false := by rw [hmk]; simp
      have HRd2 := Lib.hid (HRd.out _ hgw.out)
      obtain ⟨f0, f1, f2⟩ := (HGq.out.keep hgw.out).cells
      have Hd : Hid (commB a b c xs A = readB a b c (restL xs A)) := Lib.hid (by rw [Hb.out]; simp [hmk]; omega)
      clear hmk
      go_wp2_with fail
      refine HRd2.out.mono ?_
      rintro e w3 hR
      have hg13 := fun (hg : w2.grownBy w3 none) => grown_trans Hg1.out (grown_trans hgw.out hg)
      clear f0 f1 f2 HRd2 HRd
      rcases hR with ⟨hy, ad, cp, rfl, hrow, hg3⟩ | ⟨hn, rfl, hg3⟩
      · have hfin : CommIs base a b c xs A w (.returned (.tuple #[.slice ad ((restL xs A).getD 0 0) cp, .bool true])) w3 := .inl ⟨by rw [Hd.out]; exact hy, ad, cp, _, rfl, by unfold commM; rw [writesR_length], hrow, hg13 hg3⟩
        have hfin := Lib.hid hfin
        obtain ⟨n, hn⟩ : ∃ n, (restL xs A).getD 0 0 = n := ⟨_, rfl⟩
        rw [hn] at hfin ⊢
        clear hrow hg3 hg13 hy hn
        go_wp2
        go_ret2
        exact hfin.out
      · have hfin : CommIs base a b c xs A w (.returned (.tuple #[.slice none 0 0, .bool false])) w3 := .inr ⟨by rw [Hd.out]; exact hn, rfl, hg13 hg3⟩
        have hfin := Lib.hid hfin
        clear hg3 hg13 hn
        go_wp2
        go_ret2
        exact hfin.out
    · have q1 : ((m : Int) != (mk : Int)) = true := by rw [bne_iff_ne]; omega
      have hfin : CommIs base a b c xs A w (.returned (.tuple #[.slice none 0 0, .bool false])) w2 := .inr ⟨by rw [Hb.out]; simp [hmk], rfl, grown_trans Hg1.out hgw.out⟩
      have hfin := Lib.hid hfin
      clear hmk hgw
      go_wp2
      go_ret2
      exact hfin.out
end Go.Proofs.YtpdofdloclmbdaaGreat
end
section
/- Package commit: Over. -/
-- OPTIONAL
namespace Go.Proofs.YtpdofdloclmbdaaGreat
open Go.RowKit Go.Grommet

theorem stand_in {a b c x : Int} (hm : mayB a b c = true) (h : standB a b c x = true) : (0 ≤ x ∧ x < 280 + 208 * a + 16 * b + 8 * c) ∧ ¬ (264 ≤ x ∧ x < 264 + 208 * a) := by
  unfold standB at h
  have h' := of_decide_eq_true h
  refine ⟨?_, ?_⟩
  · by_cases hx : x < 0 ∨ 280 + 208 * a + 16 * b + 8 * c ≤ x
    · rw [wh_zero (.inr hx)] at h'
      exact absurd rfl h'.1
    · omega
  · intro hx
    rw [wh_area hm ((x - 264) / 208) (by omega) (by omega) (by omega)] at h'
    exact absurd rfl h'.2.2
theorem getD_small {xs : List Nat} (h : ∀ n ∈ xs, n < 18446744073709551616) (i : Nat) : xs.getD i 0 < 18446744073709551616 := by
  rw [List.getD_eq_getElem?_getD]
  cases e : xs[i]? with
  | none => simp
  | some v => exact h v (List.mem_of_getElem? e)
theorem comm_ok {a b c : Int} {xs : List Nat} {A : Nat} (hm : mayB a b c = true) (h : commB a b c xs A = true) : ∀ p ∈ commM xs A, (0 ≤ p.1 ∧ p.1 < 280 + 208 * a + 16 * b + 8 * c) ∧ ¬ (264 ≤ p.1 ∧ p.1 < 264 + 208 * a) := by
  unfold commB readB mayW at h
  simp only [Bool.and_eq_true, decide_eq_true_eq] at h
  have hp := h.2.2.2.2
  intro p hq
  obtain ⟨i, hi, rfl⟩ := List.getElem_of_mem hq
  have := (hp i hi).1
  unfold commM at *
  rw [List.getD_eq_getElem?_getD, List.getElem?_eq_getElem hi] at this
  exact stand_in hm this
theorem comm_small {xs : List Nat} (A : Nat) (h : ∀ n ∈ xs, n < 18446744073709551616) : ∀ p ∈ commM xs A, p.2 < 18446744073709551616 := by
  intro p hp
  unfold commM writesR at hp
  obtain ⟨i, _, rfl⟩ := List.mem_map.1 hp
  exact getD_small (fun n hn => h n (List.mem_of_mem_drop (List.mem_of_mem_take hn))) _

/-- What Over makes, worker by worker. -/
def overS (a b c : Int) (xs : List Nat) : Nat → List Nat
  | 0 => xs
  | k + 1 => zap (if commB a b c xs (264 + 208 * k) = true then appl (overS a b c xs k) (commM xs (264 + 208 * k)) else overS a b c xs k) (264 + 208 * k) 208
theorem overS_length (a b c : Int) (xs : List Nat) : ∀ k, (overS a b c xs k).length = xs.length
  | 0 => rfl
  | k + 1 => by
    rw [overS, zap_length]
    split
    · rw [appl_length]; exact overS_length a b c xs k
    · exact overS_length a b c xs k

set_option maxRecDepth 100000 in
set_option maxHeartbeats 4000000 in
theorem Over_yes (base : Nat) (a b c : Nat) (q o l cap : Nat) (xs : List Nat) (w : World) (hx : Words w (some ⟨q, o, none⟩) l xs) (hlc : l ≤ cap) (hm : mayB (a : Int) (b : Int) (c : Int) = true) (hN : 280 + 208 * a + 16 * b + 8 * c ≤ l) (hl : l ≤ 100000) (hb : base ≤ w.heap.size) :
    Calls Tryz.prog 33 #[gv (a : Int) (b : Int) (c : Int), .slice (some ⟨q, o, none⟩) l cap] w (RowOf base (overS a b c xs a) w) := by
  have HX := Lib.hid hx
  have Hm := Lib.hid hm
  have HN := Lib.hid hN
  have hmb := mayB_yes hm
  have HM := Lib.hid (fun wx => May_any (a : Int) (b : Int) (c : Int) wx)
  rw [hm] at HM
  have HW := Lib.hid (fun wx => Words_any (a : Int) (b : Int) (c : Int) wx)
  obtain ⟨wv0, hwv⟩ : ∃ v, wordsV (a : Int) (b : Int) (c : Int) = v := ⟨_, rfl⟩
  have hlw : ¬ (l : Int) < wv0 := by rw [← hwv, words_pos hm]; omega
  rw [hwv] at HW
  have HC := Lib.hid (fun wx (hg : w.grownBy wx none) => Clone_any wx.heap.size q o l cap xs wx (hx.keep hg (by simp)) (by omega) (Nat.le_refl _))
  have hal : a ≤ 4 := by omega
  have hxl := hx.len
  obtain ⟨w1, hw1⟩ : ∃ w1, w.alloc (.cells #[.int .i64 (a : Int), .int .i64 (b : Int), .int .i64 (c : Int)] 26) = w1 := ⟨_, rfl⟩
  obtain ⟨G, hG⟩ : ∃ G, w.heap.size = G := ⟨_, rfl⟩
  have hO1 : Own w w1 [boxP G 26 #[.int .i64 (a : Int), .int .i64 (b : Int), .int .i64 (c : Int)]] := by rw [← hw1, ← hG]; exact (Own.nil w).addBox _ _
  obtain ⟨f0, f1, f2⟩ := GeoQ.cells (show GeoQ G (a : Int) (b : Int) (c : Int) w1 from hO1.box 0 rfl)
  have HO1 := Lib.hid hO1
  have Hb := Lib.hid hb
  have Hxl := Lib.hid hxl
  clear hx hm hN hmb hwv hO1 hb hxl
  unfold gv at HM HW ⊢
  go_enter Tryz.func33, Tryz.ntmps33
  go_wp2_with fail
  refine (HM.out _).mono ?_
  rintro e w2 ⟨rfl, hg2⟩
  have hO2 := Lib.hid (HO1.out.quiet hg2)
  clear f0 f1 f2 hw1 hG hg2 HM HO1
  obtain ⟨f0, f1, f2⟩ := GeoQ.cells (show GeoQ G (a : Int) (b : Int) (c : Int) w2 from hO2.out.box 0 rfl)
  go_wp2_with fail
  refine (HW.out _).mono ?_
  rintro e w3 ⟨rfl, hg3⟩
  have hO3 := Lib.hid (hO2.out.quiet hg3)
  have HC3 := Lib.hid (HC.out w3 hO3.out.grown)
  clear f0 f1 f2 hg3 HW hO2 HC
  go_wp2_with fail
  refine HC3.out.mono ?_
  rintro e w4 ⟨ad, cp, rfl, hrow, hg4⟩
  rw [Hxl.out] at hrow ⊢
  have hO4 : Own w w4 [boxP G 26 #[.int .i64 (a : Int), .int .i64 (b : Int), .int .i64 (c : Int)], rowP 44 1 (.slice ad l cp) l (xs.map wv)] := hO3.out.addRow hrow hg4
  have h0l : 0 < xs.length := by rw [Hxl.out]; have := HN.out; omega
  obtain ⟨p, rfl, e1, e2, hlcp⟩ := Own.cell hO4 1 rfl 0 (wv xs[0]) (by rw [List.getElem?_map, List.getElem?_eq_getElem h0l]; rfl)
  have hO4 := Lib.hid hO4
  clear e1 e2
  clear hrow hg4 HC3 hO3 h0l
  obtain ⟨f0, _, _⟩ := GeoQ.cells (show GeoQ G (a : Int) (b : Int) (c : Int) w4 from hO4.out.box 0 rfl)
  go_wp2_with fail
  clear f0
  go_loopw [24] (fun i wr => ∃ k : Nat, k ≤ a ∧ i = .int .i64 (k : Int) ∧ Hid (Own w wr [boxP G 26 #[.int .i64 (a : Int), .int .i64 (b : Int), .int .i64 (c : Int)], rowP 44 1 (.slice (some ⟨p, 0, none⟩) l cp) l ((overS a b c xs k).map wv)])) (fun i _ => a - (intOf i).toNat)
  case atStart => exact ⟨0, Nat.zero_le _, rfl, hO4⟩
  case round =>
    clear hO4
    obtain ⟨k, hk, rfl, hO⟩ := hrel
    have k0 : (0 : Int) ≤ (k : Int) := by omega
    by_cases hlt : k < a
    · have hlt' : (k : Int) < (a : Int) := by omega
      obtain ⟨A, hA⟩ : ∃ A, 264 + 208 * k = A := ⟨_, rfl⟩
      have HAt := Lib.hid (fun wx => AreaAt_any (a : Int) (b : Int) (c : Int) (k : Int) wx)
      rw [show areaV (a : Int) (b : Int) (c : Int) (k : Int) = (A : Int) from by unfold areaV; rw [if_pos ⟨Hm.out, by omega, by omega⟩]; omega] at HAt
      unfold gv at HAt
      have hAl : A + 208 ≤ l := by have := HN.out; omega
      obtain ⟨hi, hhi⟩ : ∃ hi, A + 208 = hi := ⟨_, rfl⟩
      obtain ⟨C2, hC2⟩ : ∃ C, cp = A + C := ⟨cp - A, by omega⟩
      have hsl := fun wx => slice_mid (P := Tryz.prog) 33 44 Tryz.underlying33 Tryz.sizeOf44 p 0 l cp A hi 208 C2 A (by omega) hC2 (by omega) (by omega) (by omega) wx
      have whi : IntKind.i64.wrap ((A : Int) + 208) = (hi : Int) := by rw [IntWalk.i64_in _ ⟨by omega, by omega⟩]; omega
      have wk : IntKind.i64.wrap ((k : Int) + 1) = (k : Int) + 1 := IntWalk.i64_in _ ⟨by omega, by omega⟩
      have HCm := Lib.hid (fun wx (hg : w.grownBy wx none) => committed_any wx.heap.size (a : Int) (b : Int) (c : Int) q o l cap xs A wx (HX.out.keep hg (by simp)) hlc hAl (by omega) (Nat.le_refl _))
      unfold gv at HCm
      obtain ⟨ys, hys⟩ : ∃ ys, overS (a : Int) (b : Int) (c : Int) xs k = ys := ⟨_, rfl⟩
      have hyl : ys.length = l := by rw [← hys, overS_length, Hxl.out]
      have Hnx : Hid (overS (a : Int) (b : Int) (c : Int) xs (k + 1) = zap (if commB (a : Int) (b : Int) (c : Int) xs A = true then appl ys (commM xs A) else ys) A 208) := Lib.hid (by rw [overS, hA, hys])
      rw [hys] at hO
      have hcl : ∀ (zs : List Nat) (wx : World) (Qs : List Pr), zs.length = l → Own w wx ([boxP G 26 #[.int .i64 (a : Int), .int .i64 (b : Int), .int .i64 (c : Int)], rowP 44 1 (.slice (some ⟨p, 0, none⟩) l cp) l (zs.map wv)] ++ Qs) →
          (∀ ty, (Builtin.clear_ #[33] ty #[.slice (some ⟨p, A, none⟩) 208 C2]).run Tryz.prog wx = .ok (.tuple #[]) (wx.setCells p A (List.replicate 208 (.int .u64 0)))) ∧
          Own w (wx.setCells p A (List.replicate 208 (.int .u64 0))) [boxP G 26 #[.int .i64 (a : Int), .int .i64 (b : Int), .int .i64 (c : Int)], rowP 44 1 (.slice (some ⟨p, 0, none⟩) l cp) l ((zap zs A 208).map wv)] := by
        intro zs wx Qs hz hOx
        have hcell : ∀ j, j < 208 → ∃ v, wx.cell? ⟨p, A + j, none⟩ = some v ∧ wx.frozen? ⟨p, A + j, none⟩ = false := fun j hj => by
          obtain ⟨b', he, h1, h2, _⟩ := Own.cell hOx 1 rfl (A + j) (wv (zs[A + j]'(by omega))) (by rw [List.getElem?_map, List.getElem?_eq_getElem (by omega)]; rfl)
          cases he
          exact ⟨_, h1, h2⟩
        refine ⟨fun ty => Lib.run_clear_slice wx _ _ ty _ Tryz.underlying33 Tryz.zeroValue44 rfl rfl p A 208 C2 (by omega) (fun j hj => by obtain ⟨v, h1, _⟩ := hcell j hj; rw [h1]; rfl) (fun j hj => (hcell j hj).elim fun v h => h.2), ?_⟩
        have hst := Own.stores (List.replicate 208 0) A wx zs _ hOx (k := 1) rfl
        rw [List.map_replicate] at hst
        exact Own.less (Qs := Qs) hst
      have Hcl := Lib.hid hcl
      clear hA hC2 hys hcl hhi
      obtain ⟨f0, f1, f2⟩ := GeoQ.cells (show GeoQ G (a : Int) (b : Int) (c : Int) _ from hO.out.box 0 rfl)
      go_wp2_with fail
      refine (HAt.out _).mono ?_
      rintro e w5 ⟨rfl, hg5⟩
      have hO5 := Lib.hid (hO.out.quiet hg5)
      clear f0 f1 f2 hg5 hO HAt
      obtain ⟨f0, f1, f2⟩ := GeoQ.cells (show GeoQ G (a : Int) (b : Int) (c : Int) w5 from hO5.out.box 0 rfl)
      have HCm5 := Lib.hid (HCm.out w5 hO5.out.grown)
      clear HCm
      go_wp2_with fail
      refine HCm5.out.mono ?_
      rintro e w6 hR
      clear f0 f1 f2 HCm5
      rcases hR with ⟨hy, ad, cpw, n, rfl, hn, hrow, hg6⟩ | ⟨hno, rfl, hg6⟩
      · as_aux_lemma =>
        have hp5 : p < w5.heap.size := by
          obtain ⟨b', he, h1, _, _⟩ := Own.cell hO5.out 1 rfl A (wv (ys[A]'(by omega))) (by rw [List.getElem?_map, List.getElem?_eq_getElem (by omega)]; rfl)
          cases he
          exact World.block_lt_of_cell? _ _ h1
        have hO6 := hO5.out.addRow hrow hg6
        obtain ⟨ad', cp', he, hat, _, _⟩ := row_slice hrow
        cases he
        have hML : (commM xs A).length = n := hn.symm
        have hn96 : n ≤ 1000 := by
          unfold commB readB mayW at hy
          simp only [Bool.and_eq_true, decide_eq_true_eq] at hy
          have := hy.2.2.1
          unfold commM at hn
          omega
        have HAp := Lib.hid (ApplyH 1 p l cp ys ad n cpw (commM xs A) w w6 _ hO6 rfl hyl (fun wx ht => ht.at hat (fun aa ha _ => fun e => by
            have h1 := (hrow.lt aa.block (by rw [ha]; rfl)).1
            have e' : aa.block = p := e
            omega)) hML (by omega) (fun r hr => by
            have := (comm_ok Hm.out hy r hr).1
            have := HN.out
            omega))
        have Hz := Hnx.out
        rw [if_pos hy] at Hz
        have Hz := Lib.hid Hz
        obtain ⟨zs, hzs⟩ : ∃ zs, appl ys (commM xs A) = zs := ⟨_, rfl⟩
        have hzl : zs.length = l := by rw [← hzs, appl_length, hyl]
        rw [hzs] at HAp Hz
        clear hrow hat hO6 hn hML hy hO5 hg6 hzs hp5 Hnx
        go_wp2_with fail
        refine HAp.out.mono ?_
        rintro e w7 ⟨rfl, hO7⟩
        obtain ⟨c1, c2⟩ := Hcl.out zs w7 _ hzl hO7
        have c2 := Lib.hid c2
        clear HAp hO7
        go_wp2
        go_roundw
        case rel => exact ⟨k + 1, by omega, by go_num, by rw [Hz.out]; exact c2⟩
        case measure => simp [intOf]; omega
      · as_aux_lemma =>
        have hO6 := hO5.out.quiet hg6
        have Hz := Hnx.out
        rw [if_neg (by rw [hno]; decide)] at Hz
        have Hz := Lib.hid Hz
        obtain ⟨c1, c2⟩ := Hcl.out ys w6 [] hyl hO6
        have c2 := Lib.hid c2
        clear hO6 hO5 hno hg6 Hnx
        go_wp2
        go_roundw
        case rel => exact ⟨k + 1, by omega, by go_num, by rw [Hz.out]; exact c2⟩
        case measure => simp [intOf]; omega
    · have hlt' : ¬ (k : Int) < (a : Int) := by omega
      obtain rfl : a = k := by omega
      have hrow := Own.row hO.out 1 rfl
      have hnew := Own.rowNew hO.out 1 rfl
      have hfin : RowOf base (overS (a : Int) (b : Int) (c : Int) xs a) w (.returned (.slice (some ⟨p, 0, none⟩) l cp)) _ := ⟨some ⟨p, 0, none⟩, cp, by rw [overS_length, Hxl.out], by rw [overS_length, Hxl.out]; exact row_base hrow (fun i hi => Nat.le_trans Hb.out (hnew i hi)), hO.out.grown⟩
      have hfin := Lib.hid hfin
      clear hrow hnew hO
      go_wp2
      go_ret
      exact hfin.out
end Go.Proofs.YtpdofdloclmbdaaGreat
end
section
/- CommitOver: what is so of the words. -/
-- OPTIONAL
namespace Go.Proofs.YtpdofdloclmbdaaGreat
open Go.RowKit Go.Grommet

theorem list_getD_ext {xs ys : List Nat} (hl : xs.length = ys.length) (h : ∀ i, xs.getD i 0 = ys.getD i 0) : xs = ys := by
  apply List.ext_getElem? 
  intro i
  have := h i
  rw [List.getD_eq_getElem?_getD, List.getD_eq_getElem?_getD] at this
  by_cases hi : i < xs.length
  · rw [List.getElem?_eq_getElem hi, List.getElem?_eq_getElem (by omega)] at this ⊢
    exact congrArg some this
  · rw [List.getElem?_eq_none (by omega), List.getElem?_eq_none (by omega)]
theorem over_small {a b c : Int} {xs : List Nat} (h : ∀ n ∈ xs, n < 18446744073709551616) : ∀ k, ∀ n ∈ overS a b c xs k, n < 18446744073709551616
  | 0 => h
  | k + 1 => by
    have ih := over_small (a := a) (b := b) (c := c) h k
    have hz : ∀ (ys : List Nat), (∀ n ∈ ys, n < 18446744073709551616) → ∀ n ∈ zap ys (264 + 208 * k) 208, n < 18446744073709551616 := by
      intro ys hy
      unfold zap
      generalize 264 + 208 * k = o
      generalize 208 = m
      clear ih h
      induction m generalizing ys o with
      | zero => exact hy
      | succ m ihm =>
        rw [List.replicate_succ, putL]
        exact ihm _ (fun n hn => by
          rcases List.mem_or_eq_of_mem_set hn with e | e
          · exact hy n e
          · omega) _
    rw [overS]
    apply hz
    split
    · exact appl_small _ _ ih (comm_small _ h)
    · exact ih
theorem FormatH (a b c N : Nat) (xs : List Nat) (w0 w : World) (Ps : List Pr) (h : Own w0 w Ps) (hm : mayB (a : Int) (b : Int) (c : Int) = true) (hN : 280 + 208 * a + 16 * b + 8 * c = N) (hxs : fmtL a b c (264 + 208 * a) N = xs) :
    Calls Tryz.prog 35 #[.agg #[.int .i64 (a : Int), .int .i64 (b : Int), .int .i64 (c : Int)]] w fun e w' => ∃ q, e = .returned (.slice (some ⟨q, 0, none⟩) N N) ∧ Own w0 w' (Ps ++ [rowP 44 1 (.slice (some ⟨q, 0, none⟩) N N) N (xs.map wv)]) := by
  subst hN
  have hl := length_fmtL a b c (264 + 208 * a) (280 + 208 * a + 16 * b + 8 * c)
  rw [hxs] at hl
  have hmN := mayB_yes hm
  refine (Format_any a b c w hm).mono ?_
  rintro e w' ⟨q, rfl, hrow, hq, hg⟩
  rw [hxs] at hrow ⊢
  rw [hl]
  refine ⟨q, rfl, h.addRow ⟨by simp [hl], .inr ⟨q, 280 + 208 * a + 16 * b + 8 * c, _, rfl, hq, hrow, Nat.le_refl _, by unfold maxLen; omega, by simp [hl], by rw [List.take_of_length_le (by simp [hl])]⟩⟩ hg⟩
end Go.Proofs.YtpdofdloclmbdaaGreat
end
