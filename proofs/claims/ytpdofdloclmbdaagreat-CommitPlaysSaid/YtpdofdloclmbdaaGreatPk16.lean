/- Texts of ours, packed. -/
import Derived.Deep.DeepCutAuto
import Derived.BigQuiet
import Derived.Deep.QuietTactic
import Derived.StillTailTactics
import Derived.Deep.RegionHeld
import Derived.Test.YtpdofdloclmbdaaGreatPk15
import Derived.Test.YtpdofdloclmbdaaGreatPk4
section
/- Package commit: committed. -/
-- OPTIONAL
namespace Go.Proofs.YtpdofdloclmbdaaGreat
open Go.RowKit Go.Grommet

def restL (xs : List Nat) (A : Nat) : List Nat := (xs.drop (A + 8)).take 200
/-- Is an area committed? -/
def commB (a b c : Int) (xs : List Nat) (A : Nat) : Bool := !decide (xs.getD A 0 = 0) && decide (xs.getD A 0 = markV (restL xs A)) && readB a b c (restL xs A)
def commM (xs : List Nat) (A : Nat) : List (Int × Nat) := writesR (restL xs A) ((restL xs A).getD 0 0)
theorem words_mid {w : World} {q o l F K : Nat} {xs : List Nat} (h : Words w (some ⟨q, o, none⟩) l xs) (lo : Nat) (hF : o + lo = F) (hK : lo + K ≤ l) : Words w (some ⟨q, F, none⟩) K ((xs.drop lo).take K) := by
  refine ⟨by rw [List.length_take, List.length_drop, h.len]; omega, fun m hm => h.small m (List.mem_of_mem_drop (List.mem_of_mem_take hm)), ?_, by have := h.fits; omega⟩
  intro j u hu
  rw [List.map_take, List.getElem?_take, List.map_drop, List.getElem?_drop] at hu
  by_cases hj : j < K
  · rw [if_pos hj] at hu
    obtain ⟨g, o', he, hc⟩ := h.at_ (lo + j) u hu
    cases he
    exact ⟨q, F, rfl, by rw [← hF, Nat.add_assoc]; exact hc⟩
  · rw [if_neg hj] at hu; cases hu
def CommIs (base : Nat) (a b c : Int) (xs : List Nat) (A : Nat) (w : World) (e : Ending) (w' : World) : Prop :=
  (commB a b c xs A = true ∧ ∃ ad cap n, e = .returned (.tuple #[.slice ad n cap, .bool true]) ∧ n = (commM xs A).length ∧ w'.ownsRow base 92 2 (.slice ad n cap) n (icells (commM xs A)) ∧ w.grownBy w' none) ∨
  (commB a b c xs A = false ∧ e = .returned (.tuple #[.slice none 0 0, .bool false]) ∧ w.grownBy w' none)
def GeoQ (G : Nat) (a b c : Int) (w : World) : Prop := w.heap[G]? = some (.cells #[.int .i64 a, .int .i64 b, .int .i64 c] 26 (0, 0))
theorem GeoQ.keep {G : Nat} {a b c : Int} {w w' : World} (h : GeoQ G a b c w) (hg : w.grownBy w' none) : GeoQ G a b c w' := (hg.block G (lt_of_block h) (by simp)).trans h
theorem GeoQ.cells {G : Nat} {a b c : Int} {w : World} (h : GeoQ G a b c w) : w.cell? ⟨G, 0, none⟩ = some (.int .i64 a) ∧ w.cell? ⟨G, 1, none⟩ = some (.int .i64 b) ∧ w.cell? ⟨G, 2, none⟩ = some (.int .i64 c) := by
  unfold GeoQ at h
  simp [World.cell?, h]

set_option maxRecDepth 100000 in
set_option maxHeartbeats 2000000 in
theorem committed_any (base : Nat) (a b c : Int) (q o l cap : Nat) (xs : List Nat) (A : Nat) (w : World) (hx : Words w (some ⟨q, o, none⟩) l xs) (hlc : l ≤ cap) (hA : A + 208 ≤ l) (hl : l ≤ 1000000) (hb : base ≤ w.heap.size) :
    Calls Tryz.prog 66 #[gv a b c, .slice (some ⟨q, o, none⟩) l cap, .int .i64 (A : Int)] w (CommIs base a b c xs A w) := by
  obtain ⟨w1, hw1⟩ : ∃ w1, w.alloc (.cells #[.int .i64 a, .int .i64 b, .int .i64 c] 26) = w1 := ⟨_, rfl⟩
  obtain ⟨G, hG⟩ : ∃ G, w.heap.size = G := ⟨_, rfl⟩
  have hg1 : w.grownBy w1 none := by rw [← hw1]; exact World.grownBy_alloc _ _ _
  have hgq : GeoQ G a b c w1 := by rw [← hw1, ← hG]; exact heap_alloc_new w _
  have hx1 := hx.keep hg1 (by simp)
  obtain ⟨lo, hlo⟩ : ∃ lo, A + 8 = lo := ⟨_, rfl⟩
  obtain ⟨hi, hhi⟩ : ∃ hi, A + 208 = hi := ⟨_, rfl⟩
  obtain ⟨C, hC⟩ : ∃ C, cap = lo + C := ⟨cap - lo, by omega⟩
  obtain ⟨F, hF⟩ : ∃ F, o + lo = F := ⟨_, rfl⟩
  have hsl := fun wx => slice_mid (P := Tryz.prog) 33 44 Tryz.underlying33 Tryz.sizeOf44 q o l cap lo hi 200 C F (by omega) hC (by omega) (by omega) hF wx
  have hr1 : Words w1 (some ⟨q, F, none⟩) 200 (restL xs A) := by
    unfold restL
    rw [hlo]
    exact words_mid hx1 lo hF (by omega)
  obtain ⟨q', o', he, hc0⟩ := hx1.cell A (by omega)
  cases he
  have wlo : IntKind.i64.wrap ((A : Int) + 8) = (lo : Int) := by rw [IntWalk.i64_in _ ⟨by omega, by omega⟩]; omega
  have whi : IntKind.i64.wrap ((A : Int) + 208) = (hi : Int) := by rw [IntWalk.i64_in _ ⟨by omega, by omega⟩]; omega
  have A0 : (0 : Int) ≤ (A : Int) := by omega
  have Al : (A : Int) < (l : Int) := by omega
  obtain ⟨m, Hm⟩ : ∃ m, Hid (m = xs.getD A 0) := ⟨_, Lib.hid rfl⟩
  rw [← Hm.out] at hc0
  obtain ⟨mk, Hmk⟩ : ∃ mk, Hid (mk = markV (restL xs A)) := ⟨_, Lib.hid rfl⟩
  have HMk := Lib.hid (fun wx (hg : w1.grownBy wx none) => Mark_any (some ⟨q, F, none⟩) 200 C (restL xs A) wx (hr1.keep hg (by simp)) (by omega))
  have HRd := Lib.hid (fun wx (hg : w1.grownBy wx none) => Read_any base a b c (some ⟨q, F, none⟩) 200 C (restL xs A) wx (hr1.keep hg (by simp)) (by omega) (Nat.le_trans hb (grown_trans hg1 hg).size))
  rw [← Hmk.out] at HMk
  have Hb : Hid (commB a b c xs A = (!decide (m = 0) && decide (m = mk) && readB a b c (restL xs A))) := Lib.hid (by rw [Hm.out, Hmk.out]; rfl)
  have HGq := Lib.hid hgq
  have Hg1 := Lib.hid hg1
  clear hx hx1 hr1 hgq hg1 hlo hhi hC hlc hA hb hF
  unfold gv at HRd ⊢
  go_enter Tryz.func66, Tryz.ntmps66
  go_upto_region 1 with fail
  clear hw1 hG
  go_wp2_with fail
  go_quiet (fail)
  by_cases hm0 : m = 0
  · have q0 : ((m : Int) == 0) = true := by rw [hm0]; rfl
    have hbf : commB a b c xs A = false := by rw [Hb.out, hm0]; rfl
    clear hm0
    go_wp2
    go_ret2
    exact .inr ⟨hbf, rfl, grown_trans Hg1.out (grown_drewN _ _ _)⟩
  · have q0 : ((m : Int) == 0) = false := by rw [beq_eq_false_iff_ne]; omega
    go_wp2_with fail
    refine (HMk.out _ (grown_drewN _ _ _)).mono ?_
    rintro e w2 ⟨rfl, hg2⟩
    have hgw := Lib.hid (grown_trans (grown_drewN w1 _ none) hg2)
    clear hg2 HMk
    by_cases hmk : m = mk
    · have q1 : ((m : Int) != (mk : Int)) = false := by rw [hmk]; simp
      have HRd2 := Lib.hid (HRd.out _ hgw.out)
      obtain ⟨f0, f1, f2⟩ := (HGq.out.keep hgw.out).cells
      have Hd : Hid (commB a b c xs A = readB a b c (restL xs A)) := Lib.hid (by rw [Hb.out]; simp [hmk]; omega)
      clear hmk
      go_wp2_with fail
      refine HRd2.out.mono ?_
      rintro e w3 hR
      have hg13 := fun (hg : w2.grownBy w3 none) => grown_trans Hg1.out (grown_trans hgw.out hg)
      clear f0 f1 f2 HRd2 HRd
      rcases hR with ⟨hy, ad, cp, rfl, hrow, hg3⟩ | ⟨hn, rfl, hg3⟩
      · have hfin : CommIs base a b c xs A w (.returned (.tuple #[.slice ad ((restL xs A).getD 0 0) cp, .bool true])) w3 := .inl ⟨by rw [Hd.out]; exact hy, ad, cp, _, rfl, by unfold commM; rw [writesR_length], hrow, hg13 hg3⟩
        have hfin := Lib.hid hfin
        obtain ⟨n, hn⟩ : ∃ n, (restL xs A).getD 0 0 = n := ⟨_, rfl⟩
        rw [hn] at hfin ⊢
        clear hrow hg3 hg13 hy hn
        go_wp2
        go_ret2
        exact hfin.out
      · have hfin : CommIs base a b c xs A w (.returned (.tuple #[.slice none 0 0, .bool false])) w3 := .inr ⟨by rw [Hd.out]; exact hn, rfl, hg13 hg3⟩
        have hfin := Lib.hid hfin
        clear hg3 hg13 hn
        go_wp2
        go_ret2
        exact hfin.out
    · have q1 : ((m : Int) != (mk : Int)) = true := by rw [bne_iff_ne]; omega
      have hfin : CommIs base a b c xs A w (.returned (.tuple #[.slice none 0 0, .bool false])) w2 := .inr ⟨by rw [Hb.out]; simp [hmk], rfl, grown_trans Hg1.out hgw.out⟩
      have hfin := Lib.hid hfin
      clear hmk hgw
      go_wp2
      go_ret2
      exact hfin.out
end Go.Proofs.YtpdofdloclmbdaaGreat
end
section
/- Package commit: Over. -/
-- OPTIONAL
namespace Go.Proofs.YtpdofdloclmbdaaGreat
open Go.RowKit Go.Grommet

theorem stand_in {a b c x : Int} (hm : mayB a b c = true) (h : standB a b c x = true) : (0 ≤ x ∧ x < 280 + 208 * a + 16 * b + 8 * c) ∧ ¬ (264 ≤ x ∧ x < 264 + 208 * a) := by
  unfold standB at h
  have h' := of_decide_eq_true h
  refine ⟨?_, ?_⟩
  · by_cases hx : x < 0 ∨ 280 + 208 * a + 16 * b + 8 * c ≤ x
    · rw [wh_zero (.inr hx)] at h'
      exact absurd rfl h'.1
    · omega
  · intro hx
    rw [wh_area hm ((x - 264) / 208) (by omega) (by omega) (by omega)] at h'
    exact absurd rfl h'.2.2
theorem getD_small {xs : List Nat} (h : ∀ n ∈ xs, n < 18446744073709551616) (i : Nat) : xs.getD i 0 < 18446744073709551616 := by
  rw [List.getD_eq_getElem?_getD]
  cases e : xs[i]? with
  | none => simp
  | some v => exact h v (List.mem_of_getElem? e)
theorem comm_ok {a b c : Int} {xs : List Nat} {A : Nat} (hm : mayB a b c = true) (h : commB a b c xs A = true) : ∀ p ∈ commM xs A, (0 ≤ p.1 ∧ p.1 < 280 + 208 * a + 16 * b + 8 * c) ∧ ¬ (264 ≤ p.1 ∧ p.1 < 264 + 208 * a) := by
  unfold commB readB mayW at h
  simp only [Bool.and_eq_true, decide_eq_true_eq] at h
  have hp := h.2.2.2.2
  intro p hq
  obtain ⟨i, hi, rfl⟩ := List.getElem_of_mem hq
  have := (hp i hi).1
  unfold commM at *
  rw [List.getD_eq_getElem?_getD, List.getElem?_eq_getElem hi] at this
  exact stand_in hm this
theorem comm_small {xs : List Nat} (A : Nat) (h : ∀ n ∈ xs, n < 18446744073709551616) : ∀ p ∈ commM xs A, p.2 < 18446744073709551616 := by
  intro p hp
  unfold commM writesR at hp
  obtain ⟨i, _, rfl⟩ := List.mem_map.1 hp
  exact getD_small (fun n hn => h n (List.mem_of_mem_drop (List.mem_of_mem_take hn))) _

/-- What Over makes, worker by worker. -/
def overS (a b c : Int) (xs : List Nat) : Nat → List Nat
  | 0 => xs
  | k + 1 => zap (if commB a b c xs (264 + 208 * k) = true then appl (overS a b c xs k) (commM xs (264 + 208 * k)) else overS a b c xs k) (264 + 208 * k) 208
theorem overS_length (a b c : Int) (xs : List Nat) : ∀ k, (overS a b c xs k).length = xs.length
  | 0 => rfl
  | k + 1 => by
    rw [overS, zap_length]
    split
    · rw [appl_length]; exact overS_length a b c xs k
    · exact overS_length a b c xs k

set_option maxRecDepth 100000 in
set_option maxHeartbeats 4000000 in
theorem Over_yes (base : Nat) (a b c : Nat) (q o l cap : Nat) (xs : List Nat) (w : World) (hx : Words w (some ⟨q, o, none⟩) l xs) (hlc : l ≤ cap) (hm : mayB (a : Int) (b : Int) (c : Int) = true) (hN : 280 + 208 * a + 16 * b + 8 * c ≤ l) (hl : l ≤ 100000) (hb : base ≤ w.heap.size) :
    Calls Tryz.prog 33 #[gv (a : Int) (b : Int) (c : Int), .slice (some ⟨q, o, none⟩) l cap] w (RowOf base (overS a b c xs a) w) := by
  have HX := Lib.hid hx
  have Hm := Lib.hid hm
  have HN := Lib.hid hN
  have hmb := mayB_yes hm
  have HM := Lib.hid (fun wx => May_any (a : Int) (b : Int) (c : Int) wx)
  rw [hm] at HM
  have HW := Lib.hid (fun wx => Words_any (a : Int) (b : Int) (c : Int) wx)
  obtain ⟨wv0, hwv⟩ : ∃ v, wordsV (a : Int) (b : Int) (c : Int) = v := ⟨_, rfl⟩
  have hlw : ¬ (l : Int) < wv0 := by rw [← hwv, words_pos hm]; omega
  rw [hwv] at HW
  have HC := Lib.hid (fun wx (hg : w.grownBy wx none) => Clone_any wx.heap.size q o l cap xs wx (hx.keep hg (by simp)) (by omega) (Nat.le_refl _))
  have hal : a ≤ 4 := by omega
  have hxl := hx.len
  obtain ⟨w1, hw1⟩ : ∃ w1, w.alloc (.cells #[.int .i64 (a : Int), .int .i64 (b : Int), .int .i64 (c : Int)] 26) = w1 := ⟨_, rfl⟩
  obtain ⟨G, hG⟩ : ∃ G, w.heap.size = G := ⟨_, rfl⟩
  have hO1 : Own w w1 [boxP G 26 #[.int .i64 (a : Int), .int .i64 (b : Int), .int .i64 (c : Int)]] := by rw [← hw1, ← hG]; exact (Own.nil w).addBox _ _
  obtain ⟨f0, f1, f2⟩ := GeoQ.cells (show GeoQ G (a : Int) (b : Int) (c : Int) w1 from hO1.box 0 rfl)
  have HO1 := Lib.hid hO1
  have Hb := Lib.hid hb
  have Hxl := Lib.hid hxl
  clear hx hm hN hmb hwv hO1 hb hxl
  unfold gv at HM HW ⊢
  go_enter Tryz.func33, Tryz.ntmps33
  go_wp2_with fail
  refine (HM.out _).mono ?_
  rintro e w2 ⟨rfl, hg2⟩
  have hO2 := Lib.hid (HO1.out.quiet hg2)
  clear f0 f1 f2 hw1 hG hg2 HM HO1
  obtain ⟨f0, f1, f2⟩ := GeoQ.cells (show GeoQ G (a : Int) (b : Int) (c : Int) w2 from hO2.out.box 0 rfl)
  go_wp2_with fail
  refine (HW.out _).mono ?_
  rintro e w3 ⟨rfl, hg3⟩
  have hO3 := Lib.hid (hO2.out.quiet hg3)
  have HC3 := Lib.hid (HC.out w3 hO3.out.grown)
  clear f0 f1 f2 hg3 HW hO2 HC
  go_wp2_with fail
  refine HC3.out.mono ?_
  rintro e w4 ⟨ad, cp, rfl, hrow, hg4⟩
  rw [Hxl.out] at hrow ⊢
  have hO4 : Own w w4 [boxP G 26 #[.int .i64 (a : Int), .int .i64 (b : Int), .int .i64 (c : Int)], rowP 44 1 (.slice ad l cp) l (xs.map wv)] := hO3.out.addRow hrow hg4
  have h0l : 0 < xs.length := by rw [Hxl.out]; have := HN.out; omega
  obtain ⟨p, rfl, e1, e2, hlcp⟩ := Own.cell hO4 1 rfl 0 (wv xs[0]) (by rw [List.getElem?_map, List.getElem?_eq_getElem h0l]; rfl)
  have hO4 := Lib.hid hO4
  clear e1 e2
  clear hrow hg4 HC3 hO3 h0l
  obtain ⟨f0, _, _⟩ := GeoQ.cells (show GeoQ G (a : Int) (b : Int) (c : Int) w4 from hO4.out.box 0 rfl)
  go_wp2_with fail
  clear f0
  go_loopw [24] (fun i wr => ∃ k : Nat, k ≤ a ∧ i = .int .i64 (k : Int) ∧ Hid (Own w wr [boxP G 26 #[.int .i64 (a : Int), .int .i64 (b : Int), .int .i64 (c : Int)], rowP 44 1 (.slice (some ⟨p, 0, none⟩) l cp) l ((overS a b c xs k).map wv)])) (fun i _ => a - (intOf i).toNat)
  case atStart => exact ⟨0, Nat.zero_le _, rfl, hO4⟩
  case round =>
    clear hO4
    obtain ⟨k, hk, rfl, hO⟩ := hrel
    have k0 : (0 : Int) ≤ (k : Int) := by omega
    by_cases hlt : k < a
    · have hlt' : (k : Int) < (a : Int) := by omega
      obtain ⟨A, hA⟩ : ∃ A, 264 + 208 * k = A := ⟨_, rfl⟩
      have HAt := Lib.hid (fun wx => AreaAt_any (a : Int) (b : Int) (c : Int) (k : Int) wx)
      rw [show areaV (a : Int) (b : Int) (c : Int) (k : Int) = (A : Int) from by unfold areaV; rw [if_pos ⟨Hm.out, by omega, by omega⟩]; omega] at HAt
      unfold gv at HAt
      have hAl : A + 208 ≤ l := by have := HN.out; omega
      obtain ⟨hi, hhi⟩ : ∃ hi, A + 208 = hi := ⟨_, rfl⟩
      obtain ⟨C2, hC2⟩ : ∃ C, cp = A + C := ⟨cp - A, by omega⟩
      have hsl := fun wx => slice_mid (P := Tryz.prog) 33 44 Tryz.underlying33 Tryz.sizeOf44 p 0 l cp A hi 208 C2 A (by omega) hC2 (by omega) (by omega) (by omega) wx
      have whi : IntKind.i64.wrap ((A : Int) + 208) = (hi : Int) := by rw [IntWalk.i64_in _ ⟨by omega, by omega⟩]; omega
      have wk : IntKind.i64.wrap ((k : Int) + 1) = (k : Int) + 1 := IntWalk.i64_in _ ⟨by omega, by omega⟩
      have HCm := Lib.hid (fun wx (hg : w.grownBy wx none) => committed_any wx.heap.size (a : Int) (b : Int) (c : Int) q o l cap xs A wx (HX.out.keep hg (by simp)) hlc hAl (by omega) (Nat.le_refl _))
      unfold gv at HCm
      obtain ⟨ys, hys⟩ : ∃ ys, overS (a : Int) (b : Int) (c : Int) xs k = ys := ⟨_, rfl⟩
      have hyl : ys.length = l := by rw [← hys, overS_length, Hxl.out]
      have Hnx : Hid (overS (a : Int) (b : Int) (c : Int) xs (k + 1) = zap (if commB (a : Int) (b : Int) (c : Int) xs A = true then appl ys (commM xs A) else ys) A 208) := Lib.hid (by rw [overS, hA, hys])
      rw [hys] at hO
      have hcl : ∀ (zs : List Nat) (wx : World) (Qs : List Pr), zs.length = l → Own w wx ([boxP G 26 #[.int .i64 (a : Int), .int .i64 (b : Int), .int .i64 (c : Int)], rowP 44 1 (.slice (some ⟨p, 0, none⟩) l cp) l (zs.map wv)] ++ Qs) →
          (∀ ty, (Builtin.clear_ #[33] ty #[.slice (some ⟨p, A, none⟩) 208 C2]).run Tryz.prog wx = .ok (.tuple #[]) (wx.setCells p A (List.replicate 208 (.int .u64 0)))) ∧
          Own w (wx.setCells p A (List.replicate 208 (.int .u64 0))) [boxP G 26 #[.int .i64 (a : Int), .int .i64 (b : Int), .int .i64 (c : Int)], rowP 44 1 (.slice (some ⟨p, 0, none⟩) l cp) l ((zap zs A 208).map wv)] := by
        intro zs wx Qs hz hOx
        have hcell : ∀ j, j < 208 → ∃ v, wx.cell? ⟨p, A + j, none⟩ = some v ∧ wx.frozen? ⟨p, A + j, none⟩ = false := fun j hj => by
          obtain ⟨b', he, h1, h2, _⟩ := Own.cell hOx 1 rfl (A + j) (wv (zs[A + j]'(by omega))) (by rw [List.getElem?_map, List.getElem?_eq_getElem (by omega)]; rfl)
          cases he
          exact ⟨_, h1, h2⟩
        refine ⟨fun ty => Lib.run_clear_slice wx _ _ ty _ Tryz.underlying33 Tryz.zeroValue44 rfl rfl p A 208 C2 (by omega) (fun j hj => by obtain ⟨v, h1, _⟩ := hcell j hj; rw [h1]; rfl) (fun j hj => (hcell j hj).elim fun v h => h.2), ?_⟩
        have hst := Own.stores (List.replicate 208 0) A wx zs _ hOx (k := 1) rfl
        rw [List.map_replicate] at hst
        exact Own.less (Qs := Qs) hst
      have Hcl := Lib.hid hcl
      clear hA hC2 hys hcl hhi
      obtain ⟨f0, f1, f2⟩ := GeoQ.cells (show GeoQ G (a : Int) (b : Int) (c : Int) _ from hO.out.box 0 rfl)
      go_wp2_with fail
      refine (HAt.out _).mono ?_
      rintro e w5 ⟨rfl, hg5⟩
      have hO5 := Lib.hid (hO.out.quiet hg5)
      clear f0 f1 f2 hg5 hO HAt
      obtain ⟨f0, f1, f2⟩ := GeoQ.cells (show GeoQ G (a : Int) (b : Int) (c : Int) w5 from hO5.out.box 0 rfl)
      have HCm5 := Lib.hid (HCm.out w5 hO5.out.grown)
      clear HCm
      go_wp2_with fail
      refine HCm5.out.mono ?_
      rintro e w6 hR
      clear f0 f1 f2 HCm5
      rcases hR with ⟨hy, ad, cpw, n, rfl, hn, hrow, hg6⟩ | ⟨hno, rfl, hg6⟩
      · as_aux_lemma =>
        have hp5 : p < w5.heap.size := by
          obtain ⟨b', he, h1, _, _⟩ := Own.cell hO5.out 1 rfl A (wv (ys[A]'(by omega))) (by rw [List.getElem?_map, List.getElem?_eq_getElem (by omega)]; rfl)
          cases he
          exact World.block_lt_of_cell? _ _ h1
        have hO6 := hO5.out.addRow hrow hg6
        obtain ⟨ad', cp', he, hat, _, _⟩ := row_slice hrow
        cases he
        have hML : (commM xs A).length = n := hn.symm
        have hn96 : n ≤ 1000 := by
          unfold commB readB mayW at hy
          simp only [Bool.and_eq_true, decide_eq_true_eq] at hy
          have := hy.2.2.1
          unfold commM at hn
          omega
        have HAp := Lib.hid (ApplyH 1 p l cp ys ad n cpw (commM xs A) w w6 _ hO6 rfl hyl (fun wx ht => ht.at hat (fun aa ha _ => fun e => by
            have h1 := (hrow.lt aa.block (by rw [ha]; rfl)).1
            have e' : aa.block = p := e
            omega)) hML (by omega) (fun r hr => by
            have := (comm_ok Hm.out hy r hr).1
            have := HN.out
            omega))
        have Hz := Hnx.out
        rw [if_pos hy] at Hz
        have Hz := Lib.hid Hz
        obtain ⟨zs, hzs⟩ : ∃ zs, appl ys (commM xs A) = zs := ⟨_, rfl⟩
        have hzl : zs.length = l := by rw [← hzs, appl_length, hyl]
        rw [hzs] at HAp Hz
        clear hrow hat hO6 hn hML hy hO5 hg6 hzs hp5 Hnx
        go_wp2_with fail
        refine HAp.out.mono ?_
        rintro e w7 ⟨rfl, hO7⟩
        obtain ⟨c1, c2⟩ := Hcl.out zs w7 _ hzl hO7
        have c2 := Lib.hid c2
        clear HAp hO7
        go_wp2
        go_roundw
        case rel => exact ⟨k + 1, by omega, by go_num, by rw [Hz.out]; exact c2⟩
        case measure => simp [intOf]; omega
      · as_aux_lemma =>
        have hO6 := hO5.out.quiet hg6
        have Hz := Hnx.out
        rw [if_neg (by rw [hno]; decide)] at Hz
        have Hz := Lib.hid Hz
        obtain ⟨c1, c2⟩ := Hcl.out ys w6 [] hyl hO6
        have c2 := Lib.hid c2
        clear hO6 hO5 hno hg6 Hnx
        go_wp2
        go_roundw
        case rel => exact ⟨k + 1, by omega, by go_num, by rw [Hz.out]; exact c2⟩
        case measure => simp [intOf]; omega
    · have hlt' : ¬ (k : Int) < (a : Int) := by omega
      obtain rfl : a = k := by omega
      have hrow := Own.row hO.out 1 rfl
      have hnew := Own.rowNew hO.out 1 rfl
      have hfin : RowOf base (overS (a : Int) (b : Int) (c : Int) xs a) w (.returned (.slice (some ⟨p, 0, none⟩) l cp)) _ := ⟨some ⟨p, 0, none⟩, cp, by rw [overS_length, Hxl.out], by rw [overS_length, Hxl.out]; exact row_base hrow (fun i hi => Nat.le_trans Hb.out (hnew i hi)), hO.out.grown⟩
      have hfin := Lib.hid hfin
      clear hrow hnew hO
      go_wp2
      go_ret
      exact hfin.out
end Go.Proofs.YtpdofdloclmbdaaGreat
end
section
/- CommitOver: what is so of the words. -/
-- OPTIONAL
namespace Go.Proofs.YtpdofdloclmbdaaGreat
open Go.RowKit Go.Grommet

theorem over_small {a b c : Int} {xs : List Nat} (h : ∀ n ∈ xs, n < 18446744073709551616) : ∀ k, ∀ n ∈ overS a b c xs k, n < 18446744073709551616
  | 0 => h
  | k + 1 => by
    have ih := over_small (a := a) (b := b) (c := c) h k
    have hz : ∀ (ys : List Nat), (∀ n ∈ ys, n < 18446744073709551616) → ∀ n ∈ zap ys (264 + 208 * k) 208, n < 18446744073709551616 := by
      intro ys hy
      unfold zap
      generalize 264 + 208 * k = o
      generalize 208 = m
      clear ih h
      induction m generalizing ys o with
      | zero => exact hy
      | succ m ihm =>
        rw [List.replicate_succ, putL]
        exact ihm _ (fun n hn => by
          rcases List.mem_or_eq_of_mem_set hn with e | e
          · exact hy n e
          · omega) _
    rw [overS]
    apply hz
    split
    · exact appl_small _ _ ih (comm_small _ h)
    · exact ih
set_option maxHeartbeats 1000000 in
theorem geom_any (x y z : Nat) (hx : x < 256) (hy : y < 256) (hz : z < 256) (w : World) : Calls Tryz.prog 8 #[.int .u8 (x : Int), .int .u8 (y : Int), .int .u8 (z : Int)] w
    fun e w' => e = .returned (gv ((1 + x % 4 : Nat) : Int) ((2 + y % 8 : Nat) : Int) ((2 + z % 20 : Nat) : Int)) ∧ w.grownBy w' none := by
  unfold gv
  have e1 : (x : Int) % 4 = ((x % 4 : Nat) : Int) := by omega
  have e2 : (y : Int) % 8 = ((y % 8 : Nat) : Int) := by omega
  have e3 : (z : Int) % 20 = ((z % 20 : Nat) : Int) := by omega
  have c1 : ((1 + x % 4 : Nat) : Int) = 1 + ((x % 4 : Nat) : Int) := by omega
  have c2 : ((2 + y % 8 : Nat) : Int) = 2 + ((y % 8 : Nat) : Int) := by omega
  have c3 : ((2 + z % 20 : Nat) : Int) = 2 + ((z % 20 : Nat) : Int) := by omega
  rw [c1, c2, c3]
  have b1 : x % 4 < 4 := by omega
  have b2 : y % 8 < 8 := by omega
  have b3 : z % 20 < 20 := by omega
  generalize x % 4 = X at e1 b1
  generalize y % 8 = Y at e2 b2
  generalize z % 20 = Z at e3 b3
  clear c1 c2 c3
  go_enter Tryz.func8, Tryz.ntmps8
  go_wp2
  exact bodyPost_ret (v := .agg #[.int .i64 (1 + (X : Int)), .int .i64 (2 + (Y : Int)), .int .i64 (2 + (Z : Int))]) (by simp [results, Tryz.results8, go_sem]) rfl ⟨rfl, World.grownBy_alloc w _ none⟩
end Go.Proofs.YtpdofdloclmbdaaGreat
end
section
/- CommitNil: the document's Over is the program's. -/
-- OPTIONAL
namespace Go.Proofs.YtpdofdloclmbdaaGreat
open Go.RowKit Go.Grommet

theorem set_getD_ne {xs : List Nat} {o v i : Nat} (h : i ≠ o) : (xs.set o v).getD i 0 = xs.getD i 0 := by rw [getD_set, if_neg (fun e => h e.1)]
/-- What the document does first: all writes. -/
def aplS (a b c : Int) (xs : List Nat) : Nat → List Nat
  | 0 => xs
  | k + 1 => if commB a b c xs (264 + 208 * k) = true then appl (aplS a b c xs k) (commM xs (264 + 208 * k)) else aplS a b c xs k
/-- And then: all areas are 0. -/
def zapS (ys : List Nat) : Nat → List Nat
  | 0 => ys
  | k + 1 => zap (zapS ys k) (264 + 208 * k) 208
theorem aplS_length (a b c : Int) (xs : List Nat) : ∀ k, (aplS a b c xs k).length = xs.length
  | 0 => rfl
  | k + 1 => by
    rw [aplS]
    split
    · rw [appl_length]; exact aplS_length a b c xs k
    · exact aplS_length a b c xs k
theorem zapS_length (ys : List Nat) : ∀ k, (zapS ys k).length = ys.length
  | 0 => rfl
  | k + 1 => by rw [zapS, zap_length]; exact zapS_length ys k
theorem zapS_get (ys : List Nat) (i : Nat) : ∀ k, 264 + 208 * k ≤ ys.length → (zapS ys k).getD i 0 = if 264 ≤ i ∧ i < 264 + 208 * k then 0 else ys.getD i 0
  | 0, _ => by rw [if_neg (by omega)]; rfl
  | k + 1, h => by
    rw [zapS, zap_get _ _ _ _ (by rw [zapS_length]; omega), zapS_get ys i k (by omega)]
    by_cases h1 : 264 + 208 * k ≤ i ∧ i < 264 + 208 * k + 208
    · rw [if_pos h1, if_pos (by omega)]
    · rw [if_neg h1]
      by_cases h2 : 264 ≤ i ∧ i < 264 + 208 * k
      · rw [if_pos h2, if_pos (by omega)]
      · rw [if_neg h2, if_neg (by omega)]
theorem appl_zone {i : Nat} : ∀ (M : List (Int × Nat)) (ys : List Nat), (∀ p ∈ M, p.1.toNat ≠ i) → (appl ys M).getD i 0 = ys.getD i 0
  | [], _, _ => rfl
  | p :: t, ys, h => by
    have := appl_zone t (ys.set p.1.toNat p.2) (fun r hr => h r (List.mem_cons_of_mem _ hr))
    rw [set_getD_ne (fun e => h p (List.mem_cons_self ..) e.symm)] at this
    exact this
theorem appl_agree {Z : Nat → Prop} : ∀ (M : List (Int × Nat)) (ys zs : List Nat), ys.length = zs.length → (∀ i, ¬ Z i → ys.getD i 0 = zs.getD i 0) → ∀ i, ¬ Z i → (appl ys M).getD i 0 = (appl zs M).getD i 0
  | [], _, _, _, h, i, hi => h i hi
  | p :: t, ys, zs, hl, h, i, hi => by
    refine appl_agree t (ys.set p.1.toNat p.2) (zs.set p.1.toNat p.2) (by rw [List.length_set, List.length_set]; exact hl) (fun j hj => ?_) i hi
    rw [getD_set, getD_set, hl]
    split
    · rfl
    · exact h j hj
theorem over_apl {a : Nat} {b c : Int} {xs : List Nat} (hm : mayB (a : Int) b c = true) (hl : 264 + 208 * a ≤ xs.length) : ∀ k, k ≤ a → ∀ i, (overS (a : Int) b c xs k).getD i 0 = if 264 ≤ i ∧ i < 264 + 208 * k then 0 else (aplS (a : Int) b c xs k).getD i 0
  | 0, _, i => by rw [if_neg (by omega)]; rfl
  | k + 1, hk, i => by
    have ih := over_apl hm hl k (by omega)
    have hstep : (if commB (a : Int) b c xs (264 + 208 * k) = true then appl (overS (a : Int) b c xs k) (commM xs (264 + 208 * k)) else overS (a : Int) b c xs k).getD i 0 = if 264 ≤ i ∧ i < 264 + 208 * k then 0 else (aplS (a : Int) b c xs (k + 1)).getD i 0 := by
      rw [aplS]
      by_cases hc : commB (a : Int) b c xs (264 + 208 * k) = true
      · rw [if_pos hc, if_pos hc]
        have hok := comm_ok hm hc
        by_cases hz : 264 ≤ i ∧ i < 264 + 208 * k
        · rw [if_pos hz, appl_zone _ _ (fun p hp e => by have := hok p hp; omega), ih i, if_pos hz]
        · rw [if_neg hz]
          exact appl_agree (Z := fun i => 264 ≤ i ∧ i < 264 + 208 * k) _ _ _ (by rw [overS_length, aplS_length]) (fun j hj => by rw [ih j, if_neg hj]) i hz
      · rw [if_neg hc, if_neg hc]
        exact ih i
    have hlen : (if commB (a : Int) b c xs (264 + 208 * k) = true then appl (overS (a : Int) b c xs k) (commM xs (264 + 208 * k)) else overS (a : Int) b c xs k).length = xs.length := by
      split
      · rw [appl_length, overS_length]
      · rw [overS_length]
    rw [overS, zap_get _ _ _ _ (by rw [hlen]; omega), hstep]
    by_cases h1 : 264 + 208 * k ≤ i ∧ i < 264 + 208 * k + 208
    · rw [if_pos h1, if_pos (by omega)]
    · rw [if_neg h1]
      by_cases h2 : 264 ≤ i ∧ i < 264 + 208 * k
      · rw [if_pos h2, if_pos (by omega)]
      · rw [if_neg h2, if_neg (by omega)]
theorem list_getD_extN {xs ys : List Nat} (hl : xs.length = ys.length) (h : ∀ i, xs.getD i 0 = ys.getD i 0) : xs = ys := by
  apply List.ext_getElem?
  intro i
  have := h i
  rw [List.getD_eq_getElem?_getD, List.getD_eq_getElem?_getD] at this
  by_cases hi : i < xs.length
  · rw [List.getElem?_eq_getElem hi, List.getElem?_eq_getElem (by omega)] at this ⊢
    exact congrArg some this
  · rw [List.getElem?_eq_none (by omega), List.getElem?_eq_none (by omega)]
/-- Both make the same words. -/
theorem over_same {a : Nat} {b c : Int} {xs : List Nat} (hm : mayB (a : Int) b c = true) (hl : 264 + 208 * a ≤ xs.length) : overS (a : Int) b c xs a = zapS (aplS (a : Int) b c xs a) a :=
  list_getD_extN (by rw [overS_length, zapS_length, aplS_length]) (fun i => by rw [over_apl hm hl a (Nat.le_refl _) i, zapS_get _ _ _ (by rw [aplS_length]; exact hl)])
theorem zap_succ (ys : List Nat) (o : Nat) : ∀ n, zap ys o (n + 1) = (zap ys o n).set (o + n) 0
  | 0 => by simp [zap, putL]
  | n + 1 => by
    have := zap_succ (ys.set o 0) (o + 1) n
    unfold zap at *
    rw [List.replicate_succ, putL, this, show o + 1 + n = o + (n + 1) from by omega, List.replicate_succ, putL]
end Go.Proofs.YtpdofdloclmbdaaGreat
end
section
/- The document's Committed and Over. -/
-- OPTIONAL
namespace Go.Proofs.YtpdofdloclmbdaaGreat
open Go.RowKit Go.Grommet

def RCommIs (base : Nat) (a b c : Int) (xs : List Nat) (A : Nat) (w : World) (e : Ending) (w' : World) : Prop :=
  (commB a b c xs A = true ∧ ∃ ad cap n, e = .returned (.tuple #[.slice ad n cap, .bool true]) ∧ n = (commM xs A).length ∧ w'.ownsRow base 92 2 (.slice ad n cap) n (icells (commM xs A)) ∧ w.grownBy w' none) ∨
  (commB a b c xs A = false ∧ ∃ ad n cap, e = .returned (.tuple #[.slice ad n cap, .bool false]) ∧ w.grownBy w' none)

set_option maxRecDepth 100000 in
set_option maxHeartbeats 4000000 in
theorem RComm_any (base : Nat) (a b c k : Int) (q o l cap : Nat) (xs : List Nat) (A : Nat) (w : World) (hk : areaV a b c k = (A : Int)) (hx : Words w (some ⟨q, o, none⟩) l xs) (hlc : l ≤ cap) (hA : A + 208 ≤ l) (hl : l ≤ 1000000) (hb : base ≤ w.heap.size) :
    Calls Tryz.prog 67 #[gv a b c, .int .i64 k, .slice (some ⟨q, o, none⟩) l cap] w (RCommIs base a b c xs A w) := by
  obtain ⟨w1, hw1⟩ : ∃ w1, w.alloc (.cells #[.int .i64 a, .int .i64 b, .int .i64 c] 28) = w1 := ⟨_, rfl⟩
  obtain ⟨G, hG⟩ : ∃ G, w.heap.size = G := ⟨_, rfl⟩
  have hg1 : w.grownBy w1 none := by rw [← hw1]; exact World.grownBy_alloc _ _ _
  have hgq : GeoR G a b c w1 := by rw [← hw1, ← hG]; exact heap_alloc_new w _
  have hx1 := hx.keep hg1 (by simp)
  have HAt := Lib.hid (fun wx => RAreaAt_any a b c k wx)
  rw [hk] at HAt
  obtain ⟨lo, hlo⟩ : ∃ lo, A + 8 = lo := ⟨_, rfl⟩
  obtain ⟨hi, hhi⟩ : ∃ hi, A + 208 = hi := ⟨_, rfl⟩
  obtain ⟨C, hC⟩ : ∃ C, cap = lo + C := ⟨cap - lo, by omega⟩
  obtain ⟨F, hF⟩ : ∃ F, o + lo = F := ⟨_, rfl⟩
  have hsl := fun wx => slice_mid (P := Tryz.prog) 33 44 Tryz.underlying33 Tryz.sizeOf44 q o l cap lo hi 200 C F (by omega) hC (by omega) (by omega) hF wx
  have hr1 : Words w1 (some ⟨q, F, none⟩) 200 (restL xs A) := by
    unfold restL
    rw [hlo]
    exact words_mid hx1 lo hF (by omega)
  obtain ⟨q', o', he, hc0⟩ := hx1.cell A (by omega)
  cases he
  have wlo : IntKind.i64.wrap ((A : Int) + 8) = (lo : Int) := by rw [IntWalk.i64_in _ ⟨by omega, by omega⟩]; omega
  have whi : IntKind.i64.wrap ((A : Int) + 208) = (hi : Int) := by rw [IntWalk.i64_in _ ⟨by omega, by omega⟩]; omega
  have A0 : (0 : Int) ≤ (A : Int) := by omega
  have Al : (A : Int) < (l : Int) := by omega
  obtain ⟨m, Hm⟩ : ∃ m, Hid (m = xs.getD A 0) := ⟨_, Lib.hid rfl⟩
  rw [← Hm.out] at hc0
  obtain ⟨mk, Hmk⟩ : ∃ mk, Hid (mk = markV (restL xs A)) := ⟨_, Lib.hid rfl⟩
  have HMk := Lib.hid (fun wx (hg : w1.grownBy wx none) => RefMark_any (some ⟨q, F, none⟩) 200 C (restL xs A) wx (hr1.keep hg (by simp)))
  have HRd := Lib.hid (fun wx (hg : w1.grownBy wx none) => RefRead_any base a b c (some ⟨q, F, none⟩) 200 C (restL xs A) wx (hr1.keep hg (by simp)) (by omega) (Nat.le_trans hb (grown_trans hg1 hg).size))
  rw [← Hmk.out] at HMk
  have Hb : Hid (commB a b c xs A = (!decide (m = 0) && decide (m = mk) && readB a b c (restL xs A))) := Lib.hid (by rw [Hm.out, Hmk.out]; rfl)
  have HGq := Lib.hid hgq
  have Hg1 := Lib.hid hg1
  have Hc0 := Lib.hid hc0
  obtain ⟨f0, f1, f2⟩ := hgq.cells
  clear hx hx1 hr1 hgq hg1 hlo hhi hC hlc hA hb hk hc0 hF
  unfold gv at HRd HAt ⊢
  go_enter Tryz.func67, Tryz.ntmps67
  go_wp2_with fail
  refine (HAt.out _).mono ?_
  rintro e w2 ⟨rfl, hg2⟩
  have hg2 := Lib.hid hg2
  clear f0 f1 f2 hw1 hG HAt
  obtain ⟨f0, f1, f2⟩ := (HGq.out.keep hg2.out).cells
  have HRd2 := Lib.hid (HRd.out _ hg2.out)
  clear HRd
  go_wp2_with fail
  refine HRd2.out.mono ?_
  rintro e w3 hR
  clear f0 f1 f2 HRd2
  rcases hR with ⟨hy, ad, cp, rfl, hrow, hg3⟩ | ⟨hn, rfl, hg3⟩
  · have hgx := Lib.hid (grown_drew (grown_trans hg2.out hg3))
    have hz : Hid (World.cell? _ ⟨q, o + A, none⟩ = some (.int .u64 (m : Int))) := Lib.hid (hgx.out.cell Hc0.out (by simp))
    have hgr := Lib.hid hg3
    have hrow := Lib.hid hrow
    have Hd : Hid (commB a b c xs A = (!decide (m = 0) && decide (m = mk))) := Lib.hid (by rw [Hb.out, hy, Bool.and_true])
    obtain ⟨n, hn⟩ : ∃ n, (restL xs A).getD 0 0 = n := ⟨_, rfl⟩
    have Hn : Hid (n = (commM xs A).length) := Lib.hid (by unfold commM; rw [writesR_length, hn])
    have Hrow : Hid (w3.ownsRow base 92 2 (.slice ad n cp) n (icells (commM xs A))) := Lib.hid (by unfold commM; rw [← hn]; exact hrow.out)
    rw [hn]
    clear hrow hg3 hy hn hg2
    by_cases hm0 : m = 0
    · have q0 : ((m : Int) != 0) = false := by rw [hm0]; rfl
      have hbf : Hid (commB a b c xs A = false) := Lib.hid (by rw [Hd.out, hm0]; rfl)
      clear hm0 Hd Hb Hrow Hn
      go_wp2_with fail
      refine wp_region_held_drew (S := fun w' => w'.cell? ⟨q, o + A, none⟩ = some (.int .u64 (m : Int))) (by kernel_rfl) (hz.out) (fun hS => ?_)
      refine wpAnyH_take (i := 0) (oi := { dst := some 27, op := Op.move (Operand.tmp 10), type := 43, pos := "ref.go:125", after := #[], guard := none }) (v := ?vrb67r4o0) rfl (by kernel_rfl) (by kernel_rfl) (by kernel_rfl) (fun _ _ _ h => h) (Or.inl ⟨by rfl, ?hrb67r4o0⟩) hS ?_
      case hrb67r4o0 => (intro wx hx; skip; go_simp; (try with_reducible rfl))
      try simp only [Act.put, List.setIfInBounds_toArray, List.set_cons_zero, List.set_cons_succ]
      refine wpAnyH_take (i := 1) (oi := { dst := some 28, op := Op.move (Operand.tmp 11), type := 40, pos := "ref.go:125", after := #[], guard := none }) (v := ?vrb67r4o1) rfl (by kernel_rfl) (by kernel_rfl) (by kernel_rfl) (fun _ _ _ h => h) (Or.inl ⟨by rfl, ?hrb67r4o1⟩) hS ?_
      case hrb67r4o1 => (intro wx hx; skip; go_simp; (try with_reducible rfl))
      try simp only [Act.put, List.setIfInBounds_toArray, List.set_cons_zero, List.set_cons_succ]
      refine wpAnyH_take (i := 2) (oi := { dst := some 29, op := Op.binOp BinOp.eql 40 (Operand.tmp 28) (Operand.const (Value.int IntKind.i64 0)) 40, type := 4, pos := "ref.go:125", after := #[{ on := 1, ground := Ground.data }], guard := none }) (v := ?vrb67r4o2) rfl (by kernel_rfl) (by kernel_rfl) (by kernel_rfl) (fun _ _ _ h => h) (Or.inl ⟨by rfl, ?hrb67r4o2⟩) hS ?_
      case hrb67r4o2 => (intro wx hx; skip; go_simp; (try with_reducible rfl))
      try simp only [Act.put, List.setIfInBounds_toArray, List.set_cons_zero, List.set_cons_succ]
      refine wpAnyH_take (i := 3) (oi := { dst := some 30, op := Op.move (Operand.tmp 29), type := 4, pos := "ref.go:125", after := #[{ on := 2, ground := Ground.data }], guard := none }) (v := ?vrb67r4o3) rfl (by kernel_rfl) (by kernel_rfl) (by kernel_rfl) (fun _ _ _ h => h) (Or.inl ⟨by rfl, ?hrb67r4o3⟩) hS ?_
      case hrb67r4o3 => (intro wx hx; skip; go_simp; (try with_reducible rfl))
      try simp only [Act.put, List.setIfInBounds_toArray, List.set_cons_zero, List.set_cons_succ]
      refine wpAnyH_take (i := 4) (oi := { dst := some 31, op := Op.move (Operand.tmp 2), type := 33, pos := "ref.go:125", after := #[{ on := 3, ground := Ground.guard }], guard := some (3, true) }) (v := ?vrb67r4o4) rfl (by kernel_rfl) (by kernel_rfl) (by kernel_rfl) (fun _ _ _ h => h) (Or.inl ⟨by rfl, ?hrb67r4o4⟩) hS ?_
      case hrb67r4o4 => (intro wx hx; skip; go_simp; (try with_reducible rfl))
      try simp only [Act.put, List.setIfInBounds_toArray, List.set_cons_zero, List.set_cons_succ]
      refine wpAnyH_take (i := 5) (oi := { dst := some 32, op := Op.move (Operand.tmp 8), type := 3, pos := "ref.go:125", after := #[{ on := 3, ground := Ground.guard }], guard := some (3, true) }) (v := ?vrb67r4o5) rfl (by kernel_rfl) (by kernel_rfl) (by kernel_rfl) (fun _ _ _ h => h) (Or.inl ⟨by rfl, ?hrb67r4o5⟩) hS ?_
      case hrb67r4o5 => (intro wx hx; skip; go_simp; (try with_reducible rfl))
      try simp only [Act.put, List.setIfInBounds_toArray, List.set_cons_zero, List.set_cons_succ]
      refine wpAnyH_take (i := 6) (oi := { dst := some 33, op := Op.indexAddr 33 (Operand.tmp 31) (Operand.tmp 32), type := 0, pos := "ref.go:125", after := #[{ on := 4, ground := Ground.data }, { on := 5, ground := Ground.data }, { on := 3, ground := Ground.guard }], guard := some (3, true) }) (v := ?vrb67r4o6) rfl (by kernel_rfl) (by kernel_rfl) (by kernel_rfl) (fun _ _ _ h => h) (Or.inl ⟨by rfl, ?hrb67r4o6⟩) hS ?_
      case hrb67r4o6 => (intro wx hx; skip; go_simp; (try with_reducible rfl))
      try simp only [Act.put, List.setIfInBounds_toArray, List.set_cons_zero, List.set_cons_succ]
      refine wpAnyH_take (i := 7) (oi := { dst := some 34, op := Op.load 44 (Operand.tmp 33), type := 44, pos := "ref.go:125", after := #[{ on := 6, ground := Ground.data }, { on := 3, ground := Ground.guard }], guard := some (3, true) }) (v := ?vrb67r4o7) rfl (by kernel_rfl) (by kernel_rfl) (by kernel_rfl) (fun _ _ _ h => h) (Or.inl ⟨by rfl, ?hrb67r4o7⟩) hS ?_
      case hrb67r4o7 => (intro wx hx; have c0 := hx; go_simp; (try with_reducible rfl))
      try simp only [Act.put, List.setIfInBounds_toArray, List.set_cons_zero, List.set_cons_succ]
      refine wpAnyH_take (i := 8) (oi := { dst := some 35, op := Op.binOp BinOp.neq 44 (Operand.tmp 34) (Operand.const (Value.int IntKind.u64 0)) 44, type := 4, pos := "ref.go:125", after := #[{ on := 7, ground := Ground.data }, { on := 3, ground := Ground.guard }], guard := some (3, true) }) (v := ?vrb67r4o8) rfl (by kernel_rfl) (by kernel_rfl) (by kernel_rfl) (fun _ _ _ h => h) (Or.inl ⟨by rfl, ?hrb67r4o8⟩) hS ?_
      case hrb67r4o8 => (intro wx hx; skip; go_simp; (try with_reducible rfl))
      try simp only [Act.put, List.setIfInBounds_toArray, List.set_cons_zero, List.set_cons_succ]
      refine wpAnyH_take (i := 9) (oi := { dst := some 36, op := Op.pick (Operand.tmp 30) (Operand.tmp 35) (Operand.const (Value.bool false)), type := 4, pos := "ref.go:125", after := #[{ on := 3, ground := Ground.data }, { on := 8, ground := Ground.data }], guard := none }) (v := ?vrb67r4o9) rfl (by kernel_rfl) (by kernel_rfl) (by kernel_rfl) (fun _ _ _ h => h) (Or.inl ⟨by rfl, ?hrb67r4o9⟩) hS ?_
      case hrb67r4o9 => (intro wx hx; skip; go_simp; (try with_reducible rfl))
      try simp only [Act.put, List.setIfInBounds_toArray, List.set_cons_zero, List.set_cons_succ]
      refine wpAnyH_take (i := 10) (oi := { dst := some 37, op := Op.move (Operand.tmp 36), type := 4, pos := "ref.go:125", after := #[{ on := 9, ground := Ground.data }, { on := 3, ground := Ground.chain }], guard := none }) (v := ?vrb67r4o10) rfl (by kernel_rfl) (by kernel_rfl) (by kernel_rfl) (fun _ _ _ h => h) (Or.inl ⟨by rfl, ?hrb67r4o10⟩) hS ?_
      case hrb67r4o10 => (intro wx hx; skip; go_simp; (try with_reducible rfl))
      try simp only [Act.put, List.setIfInBounds_toArray, List.set_cons_zero, List.set_cons_succ]
      refine wpAnyH_take (i := 11) (oi := { dst := some 38, op := Op.move (Operand.tmp 2), type := 33, pos := "ref.go:125", after := #[{ on := 10, ground := Ground.guard }, { on := 19, ground := Ground.gcOnly Departure.lateStores }], guard := some (10, true) }) (v := undef) rfl (by kernel_rfl) (by kernel_rfl) (by kernel_rfl) (fun _ _ _ h => h) (Or.inr ⟨by rfl, rfl⟩) hS ?_
      try simp only [Act.put, List.setIfInBounds_toArray, List.set_cons_zero, List.set_cons_succ]
      refine wpAnyH_take (i := 12) (oi := { dst := some 39, op := Op.move (Operand.tmp 8), type := 3, pos := "ref.go:125", after := #[{ on := 10, ground := Ground.guard }, { on := 19, ground := Ground.gcOnly Departure.lateStores }], guard := some (10, true) }) (v := undef) rfl (by kernel_rfl) (by kernel_rfl) (by kernel_rfl) (fun _ _ _ h => h) (Or.inr ⟨by rfl, rfl⟩) hS ?_
      try simp only [Act.put, List.setIfInBounds_toArray, List.set_cons_zero, List.set_cons_succ]
      refine wpAnyH_take (i := 13) (oi := { dst := some 40, op := Op.indexAddr 33 (Operand.tmp 38) (Operand.tmp 39), type := 0, pos := "ref.go:125", after := #[{ on := 11, ground := Ground.data }, { on := 12, ground := Ground.data }, { on := 10, ground := Ground.guard }, { on := 19, ground := Ground.gcOnly Departure.lateStores }], guard := some (10, true) }) (v := undef) rfl (by kernel_rfl) (by kernel_rfl) (by kernel_rfl) (fun _ _ _ h => h) (Or.inr ⟨by rfl, rfl⟩) hS ?_
      try simp only [Act.put, List.setIfInBounds_toArray, List.set_cons_zero, List.set_cons_succ]
      refine wpAnyH_take (i := 14) (oi := { dst := some 41, op := Op.load 44 (Operand.tmp 40), type := 44, pos := "ref.go:125", after := #[{ on := 13, ground := Ground.data }, { on := 10, ground := Ground.guard }, { on := 19, ground := Ground.gcOnly Departure.lateStores }], guard := some (10, true) }) (v := undef) rfl (by kernel_rfl) (by kernel_rfl) (by kernel_rfl) (fun _ _ _ h => h) (Or.inr ⟨by rfl, rfl⟩) hS ?_
      try simp only [Act.put, List.setIfInBounds_toArray, List.set_cons_zero, List.set_cons_succ]
      refine wpAnyH_take (i := 15) (oi := { dst := some 42, op := Op.move (Operand.tmp 9), type := 33, pos := "ref.go:125", after := #[{ on := 10, ground := Ground.guard }], guard := some (10, true) }) (v := undef) rfl (by kernel_rfl) (by kernel_rfl) (by kernel_rfl) (fun _ _ _ h => h) (Or.inr ⟨by rfl, rfl⟩) hS ?_
      try simp only [Act.put, List.setIfInBounds_toArray, List.set_cons_zero, List.set_cons_succ]
      refine wpAnyH_take (i := 16) (oi := { dst := some 43, op := Op.call { callee := Callee.value (Operand.func 64), args := #[Operand.tmp 42], argTypes := #[33] }, type := 44, pos := "ref.go:125", after := #[{ on := 15, ground := Ground.data }, { on := 10, ground := Ground.chain }, { on := 10, ground := Ground.guard }], guard := some (10, true) }) (v := undef) rfl (by kernel_rfl) (by kernel_rfl) (by kernel_rfl) (fun _ _ _ h => h) (Or.inr ⟨by rfl, rfl⟩) hS ?_
      try simp only [Act.put, List.setIfInBounds_toArray, List.set_cons_zero, List.set_cons_succ]
      refine wpAnyH_take (i := 17) (oi := { dst := some 44, op := Op.binOp BinOp.eql 44 (Operand.tmp 41) (Operand.tmp 43) 44, type := 4, pos := "ref.go:125", after := #[{ on := 14, ground := Ground.data }, { on := 16, ground := Ground.data }, { on := 10, ground := Ground.guard }, { on := 19, ground := Ground.gcOnly Departure.lateStores }], guard := some (10, true) }) (v := undef) rfl (by kernel_rfl) (by kernel_rfl) (by kernel_rfl) (fun _ _ _ h => h) (Or.inr ⟨by rfl, rfl⟩) hS ?_
      try simp only [Act.put, List.setIfInBounds_toArray, List.set_cons_zero, List.set_cons_succ]
      refine wpAnyH_take (i := 18) (oi := { dst := some 45, op := Op.pick (Operand.tmp 37) (Operand.tmp 44) (Operand.const (Value.bool false)), type := 4, pos := "ref.go:125", after := #[{ on := 10, ground := Ground.data }, { on := 17, ground := Ground.data }, { on := 19, ground := Ground.gcOnly Departure.lateStores }], guard := none }) (v := ?vrb67r4o18) rfl (by kernel_rfl) (by kernel_rfl) (by kernel_rfl) (fun _ _ _ h => h) (Or.inl ⟨by rfl, ?hrb67r4o18⟩) hS ?_
      case hrb67r4o18 => (intro wx hx; skip; go_simp; (try with_reducible rfl))
      try simp only [Act.put, List.setIfInBounds_toArray, List.set_cons_zero, List.set_cons_succ]
      refine wpAnyH_take (i := 19) (oi := { dst := some 6, op := Op.assign (Operand.tmp 27), type := 43, pos := "ref.go:125", after := #[{ on := 0, ground := Ground.data }, { on := 16, ground := Ground.chain }, { on := 0, ground := Ground.phase }, { on := 1, ground := Ground.textOnly Departure.lateStores }, { on := 2, ground := Ground.textOnly Departure.lateStores }, { on := 3, ground := Ground.textOnly Departure.lateStores }, { on := 4, ground := Ground.textOnly Departure.lateStores }, { on := 5, ground := Ground.textOnly Departure.lateStores }, { on := 6, ground := Ground.textOnly Departure.lateStores }, { on := 7, ground := Ground.textOnly Departure.lateStores }, { on := 8, ground := Ground.textOnly Departure.lateStores }, { on := 9, ground := Ground.textOnly Departure.lateStores }, { on := 10, ground := Ground.textOnly Departure.lateStores }, { on := 11, ground := Ground.textOnly Departure.lateStores }, { on := 12, ground := Ground.textOnly Departure.lateStores }, { on := 13, ground := Ground.textOnly Departure.lateStores }, { on := 14, ground := Ground.textOnly Departure.lateStores }, { on := 15, ground := Ground.textOnly Departure.lateStores }, { on := 16, ground := Ground.textOnly Departure.lateStoresUnsure }, { on := 17, ground := Ground.textOnly Departure.lateStores }, { on := 18, ground := Ground.textOnly Departure.lateStores }], guard := none }) (v := ?vrb67r4o19) rfl (by kernel_rfl) (by kernel_rfl) (by kernel_rfl) (fun _ _ _ h => h) (Or.inl ⟨by rfl, ?hrb67r4o19⟩) hS ?_
      case hrb67r4o19 => (intro wx hx; skip; go_simp; (try with_reducible rfl))
      try simp only [Act.put, List.setIfInBounds_toArray, List.set_cons_zero, List.set_cons_succ]
      refine wpAnyH_take (i := 20) (oi := { dst := some 7, op := Op.assign (Operand.tmp 45), type := 4, pos := "ref.go:125", after := #[{ on := 18, ground := Ground.data }, { on := 19, ground := Ground.chain }, { on := 0, ground := Ground.phase }, { on := 1, ground := Ground.phase }, { on := 2, ground := Ground.phase }, { on := 3, ground := Ground.phase }, { on := 4, ground := Ground.phase }, { on := 5, ground := Ground.phase }, { on := 6, ground := Ground.phase }, { on := 7, ground := Ground.phase }, { on := 8, ground := Ground.phase }, { on := 9, ground := Ground.phase }, { on := 10, ground := Ground.phase }, { on := 11, ground := Ground.phase }, { on := 12, ground := Ground.phase }, { on := 13, ground := Ground.phase }, { on := 14, ground := Ground.phase }, { on := 15, ground := Ground.phase }, { on := 16, ground := Ground.phase }, { on := 17, ground := Ground.phase }, { on := 18, ground := Ground.phase }, { on := 19, ground := Ground.phase }], guard := none }) (v := ?vrb67r4o20) rfl (by kernel_rfl) (by kernel_rfl) (by kernel_rfl) (fun _ _ _ h => h) (Or.inl ⟨by rfl, ?hrb67r4o20⟩) hS ?_
      case hrb67r4o20 => (intro wx hx; skip; go_simp; (try with_reducible rfl))
      try simp only [Act.put, List.setIfInBounds_toArray, List.set_cons_zero, List.set_cons_succ]
      refine wpAnyH_done (by kernel_rfl) ?_ _
      go_wp2
      go_ret2
      exact .inr ⟨hbf.out, ad, n, cp, rfl, grown_trans Hg1.out hgx.out⟩
    · have q0 : ((m : Int) != 0) = true := by rw [bne_iff_ne]; omega
      by_cases hmk : m = mk
      · have q1 : ((m : Int) == (mk : Int)) = true := by rw [hmk]; simp
        have hbt : Hid (commB a b c xs A = true) := Lib.hid (by rw [Hd.out]; simp [hmk]; omega)
        clear hm0 hmk Hd Hb
        go_wp2_with fail
        refine wp_region_held_drew (S := fun w' => w'.cell? ⟨q, o + A, none⟩ = some (.int .u64 (m : Int))) (by kernel_rfl) (hz.out) (fun hS => ?_)
        refine wpAnyH_take (i := 0) (oi := { dst := some 27, op := Op.move (Operand.tmp 10), type := 43, pos := "ref.go:125", after := #[], guard := none }) (v := ?vrc67r4o0) rfl (by kernel_rfl) (by kernel_rfl) (by kernel_rfl) (fun _ _ _ h => h) (Or.inl ⟨by rfl, ?hrc67r4o0⟩) hS ?_
        case hrc67r4o0 => (intro wx hx; skip; go_simp; (try with_reducible rfl))
        try simp only [Act.put, List.setIfInBounds_toArray, List.set_cons_zero, List.set_cons_succ]
        refine wpAnyH_take (i := 1) (oi := { dst := some 28, op := Op.move (Operand.tmp 11), type := 40, pos := "ref.go:125", after := #[], guard := none }) (v := ?vrc67r4o1) rfl (by kernel_rfl) (by kernel_rfl) (by kernel_rfl) (fun _ _ _ h => h) (Or.inl ⟨by rfl, ?hrc67r4o1⟩) hS ?_
        case hrc67r4o1 => (intro wx hx; skip; go_simp; (try with_reducible rfl))
        try simp only [Act.put, List.setIfInBounds_toArray, List.set_cons_zero, List.set_cons_succ]
        refine wpAnyH_take (i := 2) (oi := { dst := some 29, op := Op.binOp BinOp.eql 40 (Operand.tmp 28) (Operand.const (Value.int IntKind.i64 0)) 40, type := 4, pos := "ref.go:125", after := #[{ on := 1, ground := Ground.data }], guard := none }) (v := ?vrc67r4o2) rfl (by kernel_rfl) (by kernel_rfl) (by kernel_rfl) (fun _ _ _ h => h) (Or.inl ⟨by rfl, ?hrc67r4o2⟩) hS ?_
        case hrc67r4o2 => (intro wx hx; skip; go_simp; (try with_reducible rfl))
        try simp only [Act.put, List.setIfInBounds_toArray, List.set_cons_zero, List.set_cons_succ]
        refine wpAnyH_take (i := 3) (oi := { dst := some 30, op := Op.move (Operand.tmp 29), type := 4, pos := "ref.go:125", after := #[{ on := 2, ground := Ground.data }], guard := none }) (v := ?vrc67r4o3) rfl (by kernel_rfl) (by kernel_rfl) (by kernel_rfl) (fun _ _ _ h => h) (Or.inl ⟨by rfl, ?hrc67r4o3⟩) hS ?_
        case hrc67r4o3 => (intro wx hx; skip; go_simp; (try with_reducible rfl))
        try simp only [Act.put, List.setIfInBounds_toArray, List.set_cons_zero, List.set_cons_succ]
        refine wpAnyH_take (i := 4) (oi := { dst := some 31, op := Op.move (Operand.tmp 2), type := 33, pos := "ref.go:125", after := #[{ on := 3, ground := Ground.guard }], guard := some (3, true) }) (v := ?vrc67r4o4) rfl (by kernel_rfl) (by kernel_rfl) (by kernel_rfl) (fun _ _ _ h => h) (Or.inl ⟨by rfl, ?hrc67r4o4⟩) hS ?_
        case hrc67r4o4 => (intro wx hx; skip; go_simp; (try with_reducible rfl))
        try simp only [Act.put, List.setIfInBounds_toArray, List.set_cons_zero, List.set_cons_succ]
        refine wpAnyH_take (i := 5) (oi := { dst := some 32, op := Op.move (Operand.tmp 8), type := 3, pos := "ref.go:125", after := #[{ on := 3, ground := Ground.guard }], guard := some (3, true) }) (v := ?vrc67r4o5) rfl (by kernel_rfl) (by kernel_rfl) (by kernel_rfl) (fun _ _ _ h => h) (Or.inl ⟨by rfl, ?hrc67r4o5⟩) hS ?_
        case hrc67r4o5 => (intro wx hx; skip; go_simp; (try with_reducible rfl))
        try simp only [Act.put, List.setIfInBounds_toArray, List.set_cons_zero, List.set_cons_succ]
        refine wpAnyH_take (i := 6) (oi := { dst := some 33, op := Op.indexAddr 33 (Operand.tmp 31) (Operand.tmp 32), type := 0, pos := "ref.go:125", after := #[{ on := 4, ground := Ground.data }, { on := 5, ground := Ground.data }, { on := 3, ground := Ground.guard }], guard := some (3, true) }) (v := ?vrc67r4o6) rfl (by kernel_rfl) (by kernel_rfl) (by kernel_rfl) (fun _ _ _ h => h) (Or.inl ⟨by rfl, ?hrc67r4o6⟩) hS ?_
        case hrc67r4o6 => (intro wx hx; skip; go_simp; (try with_reducible rfl))
        try simp only [Act.put, List.setIfInBounds_toArray, List.set_cons_zero, List.set_cons_succ]
        refine wpAnyH_take (i := 7) (oi := { dst := some 34, op := Op.load 44 (Operand.tmp 33), type := 44, pos := "ref.go:125", after := #[{ on := 6, ground := Ground.data }, { on := 3, ground := Ground.guard }], guard := some (3, true) }) (v := ?vrc67r4o7) rfl (by kernel_rfl) (by kernel_rfl) (by kernel_rfl) (fun _ _ _ h => h) (Or.inl ⟨by rfl, ?hrc67r4o7⟩) hS ?_
        case hrc67r4o7 => (intro wx hx; have c0 := hx; go_simp; (try with_reducible rfl))
        try simp only [Act.put, List.setIfInBounds_toArray, List.set_cons_zero, List.set_cons_succ]
        refine wpAnyH_take (i := 8) (oi := { dst := some 35, op := Op.binOp BinOp.neq 44 (Operand.tmp 34) (Operand.const (Value.int IntKind.u64 0)) 44, type := 4, pos := "ref.go:125", after := #[{ on := 7, ground := Ground.data }, { on := 3, ground := Ground.guard }], guard := some (3, true) }) (v := ?vrc67r4o8) rfl (by kernel_rfl) (by kernel_rfl) (by kernel_rfl) (fun _ _ _ h => h) (Or.inl ⟨by rfl, ?hrc67r4o8⟩) hS ?_
        case hrc67r4o8 => (intro wx hx; skip; go_simp; (try with_reducible rfl))
        try simp only [Act.put, List.setIfInBounds_toArray, List.set_cons_zero, List.set_cons_succ]
        refine wpAnyH_take (i := 9) (oi := { dst := some 36, op := Op.pick (Operand.tmp 30) (Operand.tmp 35) (Operand.const (Value.bool false)), type := 4, pos := "ref.go:125", after := #[{ on := 3, ground := Ground.data }, { on := 8, ground := Ground.data }], guard := none }) (v := ?vrc67r4o9) rfl (by kernel_rfl) (by kernel_rfl) (by kernel_rfl) (fun _ _ _ h => h) (Or.inl ⟨by rfl, ?hrc67r4o9⟩) hS ?_
        case hrc67r4o9 => (intro wx hx; skip; go_simp; (try with_reducible rfl))
        try simp only [Act.put, List.setIfInBounds_toArray, List.set_cons_zero, List.set_cons_succ]
        refine wpAnyH_take (i := 10) (oi := { dst := some 37, op := Op.move (Operand.tmp 36), type := 4, pos := "ref.go:125", after := #[{ on := 9, ground := Ground.data }, { on := 3, ground := Ground.chain }], guard := none }) (v := ?vrc67r4o10) rfl (by kernel_rfl) (by kernel_rfl) (by kernel_rfl) (fun _ _ _ h => h) (Or.inl ⟨by rfl, ?hrc67r4o10⟩) hS ?_
        case hrc67r4o10 => (intro wx hx; skip; go_simp; (try with_reducible rfl))
        try simp only [Act.put, List.setIfInBounds_toArray, List.set_cons_zero, List.set_cons_succ]
        refine wpAnyH_take (i := 11) (oi := { dst := some 38, op := Op.move (Operand.tmp 2), type := 33, pos := "ref.go:125", after := #[{ on := 10, ground := Ground.guard }, { on := 19, ground := Ground.gcOnly Departure.lateStores }], guard := some (10, true) }) (v := ?vrc67r4o11) rfl (by kernel_rfl) (by kernel_rfl) (by kernel_rfl) (fun _ _ _ h => h) (Or.inl ⟨by rfl, ?hrc67r4o11⟩) hS ?_
        case hrc67r4o11 => (intro wx hx; skip; go_simp; (try with_reducible rfl))
        try simp only [Act.put, List.setIfInBounds_toArray, List.set_cons_zero, List.set_cons_succ]
        refine wpAnyH_take (i := 12) (oi := { dst := some 39, op := Op.move (Operand.tmp 8), type := 3, pos := "ref.go:125", after := #[{ on := 10, ground := Ground.guard }, { on := 19, ground := Ground.gcOnly Departure.lateStores }], guard := some (10, true) }) (v := ?vrc67r4o12) rfl (by kernel_rfl) (by kernel_rfl) (by kernel_rfl) (fun _ _ _ h => h) (Or.inl ⟨by rfl, ?hrc67r4o12⟩) hS ?_
        case hrc67r4o12 => (intro wx hx; skip; go_simp; (try with_reducible rfl))
        try simp only [Act.put, List.setIfInBounds_toArray, List.set_cons_zero, List.set_cons_succ]
        refine wpAnyH_take (i := 13) (oi := { dst := some 40, op := Op.indexAddr 33 (Operand.tmp 38) (Operand.tmp 39), type := 0, pos := "ref.go:125", after := #[{ on := 11, ground := Ground.data }, { on := 12, ground := Ground.data }, { on := 10, ground := Ground.guard }, { on := 19, ground := Ground.gcOnly Departure.lateStores }], guard := some (10, true) }) (v := ?vrc67r4o13) rfl (by kernel_rfl) (by kernel_rfl) (by kernel_rfl) (fun _ _ _ h => h) (Or.inl ⟨by rfl, ?hrc67r4o13⟩) hS ?_
        case hrc67r4o13 => (intro wx hx; skip; go_simp; (try with_reducible rfl))
        try simp only [Act.put, List.setIfInBounds_toArray, List.set_cons_zero, List.set_cons_succ]
        refine wpAnyH_take (i := 14) (oi := { dst := some 41, op := Op.load 44 (Operand.tmp 40), type := 44, pos := "ref.go:125", after := #[{ on := 13, ground := Ground.data }, { on := 10, ground := Ground.guard }, { on := 19, ground := Ground.gcOnly Departure.lateStores }], guard := some (10, true) }) (v := ?vrc67r4o14) rfl (by kernel_rfl) (by kernel_rfl) (by kernel_rfl) (fun _ _ _ h => h) (Or.inl ⟨by rfl, ?hrc67r4o14⟩) hS ?_
        case hrc67r4o14 => (intro wx hx; have c0 := hx; go_simp; (try with_reducible rfl))
        try simp only [Act.put, List.setIfInBounds_toArray, List.set_cons_zero, List.set_cons_succ]
        refine wpAnyH_take (i := 15) (oi := { dst := some 42, op := Op.move (Operand.tmp 9), type := 33, pos := "ref.go:125", after := #[{ on := 10, ground := Ground.guard }], guard := some (10, true) }) (v := ?vrc67r4o15) rfl (by kernel_rfl) (by kernel_rfl) (by kernel_rfl) (fun _ _ _ h => h) (Or.inl ⟨by rfl, ?hrc67r4o15⟩) hS ?_
        case hrc67r4o15 => (intro wx hx; skip; go_simp; (try with_reducible rfl))
        try simp only [Act.put, List.setIfInBounds_toArray, List.set_cons_zero, List.set_cons_succ]
        refine wpAnyH_ready (rs := [16]) (by kernel_rfl) (by simp) ?_
        refine AllReadyH.cons (o := { dst := some 43, op := Op.call { callee := Callee.value (Operand.func 64), args := #[Operand.tmp 42], argTypes := #[33] }, type := 44, pos := "ref.go:125", after := #[{ on := 15, ground := Ground.data }, { on := 10, ground := Ground.chain }, { on := 10, ground := Ground.guard }], guard := some (10, true) }) rfl (fun K hK => ?_) AllReadyH.nil
        go_simp
        refine (HMk.out _ hgx.out).mono ?_
        rintro e v1 ⟨rfl, hn⟩
        have hS1 := hn.cell hS (by simp)
        have hgr2 := Lib.hid (grown_trans (grown_drew (World.grownBy.refl w3 none)) hn)
        have hgn := Lib.hid (grown_trans hgx.out hn)
        clear hgx hn
        have hgx := hgn
        clear hgn
        refine hK.out _ _ ?hsrc67r4o16 (fun hS => ?_)
        case hsrc67r4o16 => (exact hS1)
        clear hK K
        try simp only [Act.put, List.setIfInBounds_toArray, List.set_cons_zero, List.set_cons_succ]
        refine wpAnyH_take (i := 17) (oi := { dst := some 44, op := Op.binOp BinOp.eql 44 (Operand.tmp 41) (Operand.tmp 43) 44, type := 4, pos := "ref.go:125", after := #[{ on := 14, ground := Ground.data }, { on := 16, ground := Ground.data }, { on := 10, ground := Ground.guard }, { on := 19, ground := Ground.gcOnly Departure.lateStores }], guard := some (10, true) }) (v := ?vrc67r4o17) rfl (by kernel_rfl) (by kernel_rfl) (by kernel_rfl) (fun _ _ _ h => h) (Or.inl ⟨by rfl, ?hrc67r4o17⟩) hS ?_
        case hrc67r4o17 => (intro wx hx; skip; go_simp; (try with_reducible rfl))
        try simp only [Act.put, List.setIfInBounds_toArray, List.set_cons_zero, List.set_cons_succ]
        refine wpAnyH_take (i := 18) (oi := { dst := some 45, op := Op.pick (Operand.tmp 37) (Operand.tmp 44) (Operand.const (Value.bool false)), type := 4, pos := "ref.go:125", after := #[{ on := 10, ground := Ground.data }, { on := 17, ground := Ground.data }, { on := 19, ground := Ground.gcOnly Departure.lateStores }], guard := none }) (v := ?vrc67r4o18) rfl (by kernel_rfl) (by kernel_rfl) (by kernel_rfl) (fun _ _ _ h => h) (Or.inl ⟨by rfl, ?hrc67r4o18⟩) hS ?_
        case hrc67r4o18 => (intro wx hx; skip; go_simp; (try with_reducible rfl))
        try simp only [Act.put, List.setIfInBounds_toArray, List.set_cons_zero, List.set_cons_succ]
        refine wpAnyH_take (i := 19) (oi := { dst := some 6, op := Op.assign (Operand.tmp 27), type := 43, pos := "ref.go:125", after := #[{ on := 0, ground := Ground.data }, { on := 16, ground := Ground.chain }, { on := 0, ground := Ground.phase }, { on := 1, ground := Ground.textOnly Departure.lateStores }, { on := 2, ground := Ground.textOnly Departure.lateStores }, { on := 3, ground := Ground.textOnly Departure.lateStores }, { on := 4, ground := Ground.textOnly Departure.lateStores }, { on := 5, ground := Ground.textOnly Departure.lateStores }, { on := 6, ground := Ground.textOnly Departure.lateStores }, { on := 7, ground := Ground.textOnly Departure.lateStores }, { on := 8, ground := Ground.textOnly Departure.lateStores }, { on := 9, ground := Ground.textOnly Departure.lateStores }, { on := 10, ground := Ground.textOnly Departure.lateStores }, { on := 11, ground := Ground.textOnly Departure.lateStores }, { on := 12, ground := Ground.textOnly Departure.lateStores }, { on := 13, ground := Ground.textOnly Departure.lateStores }, { on := 14, ground := Ground.textOnly Departure.lateStores }, { on := 15, ground := Ground.textOnly Departure.lateStores }, { on := 16, ground := Ground.textOnly Departure.lateStoresUnsure }, { on := 17, ground := Ground.textOnly Departure.lateStores }, { on := 18, ground := Ground.textOnly Departure.lateStores }], guard := none }) (v := ?vrc67r4o19) rfl (by kernel_rfl) (by kernel_rfl) (by kernel_rfl) (fun _ _ _ h => h) (Or.inl ⟨by rfl, ?hrc67r4o19⟩) hS ?_
        case hrc67r4o19 => (intro wx hx; skip; go_simp; (try with_reducible rfl))
        try simp only [Act.put, List.setIfInBounds_toArray, List.set_cons_zero, List.set_cons_succ]
        refine wpAnyH_take (i := 20) (oi := { dst := some 7, op := Op.assign (Operand.tmp 45), type := 4, pos := "ref.go:125", after := #[{ on := 18, ground := Ground.data }, { on := 19, ground := Ground.chain }, { on := 0, ground := Ground.phase }, { on := 1, ground := Ground.phase }, { on := 2, ground := Ground.phase }, { on := 3, ground := Ground.phase }, { on := 4, ground := Ground.phase }, { on := 5, ground := Ground.phase }, { on := 6, ground := Ground.phase }, { on := 7, ground := Ground.phase }, { on := 8, ground := Ground.phase }, { on := 9, ground := Ground.phase }, { on := 10, ground := Ground.phase }, { on := 11, ground := Ground.phase }, { on := 12, ground := Ground.phase }, { on := 13, ground := Ground.phase }, { on := 14, ground := Ground.phase }, { on := 15, ground := Ground.phase }, { on := 16, ground := Ground.phase }, { on := 17, ground := Ground.phase }, { on := 18, ground := Ground.phase }, { on := 19, ground := Ground.phase }], guard := none }) (v := ?vrc67r4o20) rfl (by kernel_rfl) (by kernel_rfl) (by kernel_rfl) (fun _ _ _ h => h) (Or.inl ⟨by rfl, ?hrc67r4o20⟩) hS ?_
        case hrc67r4o20 => (intro wx hx; skip; go_simp; (try with_reducible rfl))
        try simp only [Act.put, List.setIfInBounds_toArray, List.set_cons_zero, List.set_cons_succ]
        refine wpAnyH_done (by kernel_rfl) ?_ _
        have Hrow2 := Lib.hid (Hrow.out.kept (hgr2.out) (by
          cases (Value.slice ad n cp).ownBlock with
          | none => exact .inl rfl
          | some q => exact .inr (by simp)))
        go_wp2
        go_ret2
        exact .inl ⟨hbt.out, ad, cp, n, rfl, Hn.out, Hrow2.out, grown_trans Hg1.out hgx.out⟩
      · have q1 : ((m : Int) == (mk : Int)) = false := by rw [beq_eq_false_iff_ne]; omega
        have hbf : Hid (commB a b c xs A = false) := Lib.hid (by rw [Hd.out]; simp [hmk])
        clear hm0 hmk Hd Hb Hrow Hn
        go_wp2_with fail
        refine wp_region_held_drew (S := fun w' => w'.cell? ⟨q, o + A, none⟩ = some (.int .u64 (m : Int))) (by kernel_rfl) (hz.out) (fun hS => ?_)
        refine wpAnyH_take (i := 0) (oi := { dst := some 27, op := Op.move (Operand.tmp 10), type := 43, pos := "ref.go:125", after := #[], guard := none }) (v := ?vrd67r4o0) rfl (by kernel_rfl) (by kernel_rfl) (by kernel_rfl) (fun _ _ _ h => h) (Or.inl ⟨by rfl, ?hrd67r4o0⟩) hS ?_
        case hrd67r4o0 => (intro wx hx; skip; go_simp; (try with_reducible rfl))
        try simp only [Act.put, List.setIfInBounds_toArray, List.set_cons_zero, List.set_cons_succ]
        refine wpAnyH_take (i := 1) (oi := { dst := some 28, op := Op.move (Operand.tmp 11), type := 40, pos := "ref.go:125", after := #[], guard := none }) (v := ?vrd67r4o1) rfl (by kernel_rfl) (by kernel_rfl) (by kernel_rfl) (fun _ _ _ h => h) (Or.inl ⟨by rfl, ?hrd67r4o1⟩) hS ?_
        case hrd67r4o1 => (intro wx hx; skip; go_simp; (try with_reducible rfl))
        try simp only [Act.put, List.setIfInBounds_toArray, List.set_cons_zero, List.set_cons_succ]
        refine wpAnyH_take (i := 2) (oi := { dst := some 29, op := Op.binOp BinOp.eql 40 (Operand.tmp 28) (Operand.const (Value.int IntKind.i64 0)) 40, type := 4, pos := "ref.go:125", after := #[{ on := 1, ground := Ground.data }], guard := none }) (v := ?vrd67r4o2) rfl (by kernel_rfl) (by kernel_rfl) (by kernel_rfl) (fun _ _ _ h => h) (Or.inl ⟨by rfl, ?hrd67r4o2⟩) hS ?_
        case hrd67r4o2 => (intro wx hx; skip; go_simp; (try with_reducible rfl))
        try simp only [Act.put, List.setIfInBounds_toArray, List.set_cons_zero, List.set_cons_succ]
        refine wpAnyH_take (i := 3) (oi := { dst := some 30, op := Op.move (Operand.tmp 29), type := 4, pos := "ref.go:125", after := #[{ on := 2, ground := Ground.data }], guard := none }) (v := ?vrd67r4o3) rfl (by kernel_rfl) (by kernel_rfl) (by kernel_rfl) (fun _ _ _ h => h) (Or.inl ⟨by rfl, ?hrd67r4o3⟩) hS ?_
        case hrd67r4o3 => (intro wx hx; skip; go_simp; (try with_reducible rfl))
        try simp only [Act.put, List.setIfInBounds_toArray, List.set_cons_zero, List.set_cons_succ]
        refine wpAnyH_take (i := 4) (oi := { dst := some 31, op := Op.move (Operand.tmp 2), type := 33, pos := "ref.go:125", after := #[{ on := 3, ground := Ground.guard }], guard := some (3, true) }) (v := ?vrd67r4o4) rfl (by kernel_rfl) (by kernel_rfl) (by kernel_rfl) (fun _ _ _ h => h) (Or.inl ⟨by rfl, ?hrd67r4o4⟩) hS ?_
        case hrd67r4o4 => (intro wx hx; skip; go_simp; (try with_reducible rfl))
        try simp only [Act.put, List.setIfInBounds_toArray, List.set_cons_zero, List.set_cons_succ]
        refine wpAnyH_take (i := 5) (oi := { dst := some 32, op := Op.move (Operand.tmp 8), type := 3, pos := "ref.go:125", after := #[{ on := 3, ground := Ground.guard }], guard := some (3, true) }) (v := ?vrd67r4o5) rfl (by kernel_rfl) (by kernel_rfl) (by kernel_rfl) (fun _ _ _ h => h) (Or.inl ⟨by rfl, ?hrd67r4o5⟩) hS ?_
        case hrd67r4o5 => (intro wx hx; skip; go_simp; (try with_reducible rfl))
        try simp only [Act.put, List.setIfInBounds_toArray, List.set_cons_zero, List.set_cons_succ]
        refine wpAnyH_take (i := 6) (oi := { dst := some 33, op := Op.indexAddr 33 (Operand.tmp 31) (Operand.tmp 32), type := 0, pos := "ref.go:125", after := #[{ on := 4, ground := Ground.data }, { on := 5, ground := Ground.data }, { on := 3, ground := Ground.guard }], guard := some (3, true) }) (v := ?vrd67r4o6) rfl (by kernel_rfl) (by kernel_rfl) (by kernel_rfl) (fun _ _ _ h => h) (Or.inl ⟨by rfl, ?hrd67r4o6⟩) hS ?_
        case hrd67r4o6 => (intro wx hx; skip; go_simp; (try with_reducible rfl))
        try simp only [Act.put, List.setIfInBounds_toArray, List.set_cons_zero, List.set_cons_succ]
        refine wpAnyH_take (i := 7) (oi := { dst := some 34, op := Op.load 44 (Operand.tmp 33), type := 44, pos := "ref.go:125", after := #[{ on := 6, ground := Ground.data }, { on := 3, ground := Ground.guard }], guard := some (3, true) }) (v := ?vrd67r4o7) rfl (by kernel_rfl) (by kernel_rfl) (by kernel_rfl) (fun _ _ _ h => h) (Or.inl ⟨by rfl, ?hrd67r4o7⟩) hS ?_
        case hrd67r4o7 => (intro wx hx; have c0 := hx; go_simp; (try with_reducible rfl))
        try simp only [Act.put, List.setIfInBounds_toArray, List.set_cons_zero, List.set_cons_succ]
        refine wpAnyH_take (i := 8) (oi := { dst := some 35, op := Op.binOp BinOp.neq 44 (Operand.tmp 34) (Operand.const (Value.int IntKind.u64 0)) 44, type := 4, pos := "ref.go:125", after := #[{ on := 7, ground := Ground.data }, { on := 3, ground := Ground.guard }], guard := some (3, true) }) (v := ?vrd67r4o8) rfl (by kernel_rfl) (by kernel_rfl) (by kernel_rfl) (fun _ _ _ h => h) (Or.inl ⟨by rfl, ?hrd67r4o8⟩) hS ?_
        case hrd67r4o8 => (intro wx hx; skip; go_simp; (try with_reducible rfl))
        try simp only [Act.put, List.setIfInBounds_toArray, List.set_cons_zero, List.set_cons_succ]
        refine wpAnyH_take (i := 9) (oi := { dst := some 36, op := Op.pick (Operand.tmp 30) (Operand.tmp 35) (Operand.const (Value.bool false)), type := 4, pos := "ref.go:125", after := #[{ on := 3, ground := Ground.data }, { on := 8, ground := Ground.data }], guard := none }) (v := ?vrd67r4o9) rfl (by kernel_rfl) (by kernel_rfl) (by kernel_rfl) (fun _ _ _ h => h) (Or.inl ⟨by rfl, ?hrd67r4o9⟩) hS ?_
        case hrd67r4o9 => (intro wx hx; skip; go_simp; (try with_reducible rfl))
        try simp only [Act.put, List.setIfInBounds_toArray, List.set_cons_zero, List.set_cons_succ]
        refine wpAnyH_take (i := 10) (oi := { dst := some 37, op := Op.move (Operand.tmp 36), type := 4, pos := "ref.go:125", after := #[{ on := 9, ground := Ground.data }, { on := 3, ground := Ground.chain }], guard := none }) (v := ?vrd67r4o10) rfl (by kernel_rfl) (by kernel_rfl) (by kernel_rfl) (fun _ _ _ h => h) (Or.inl ⟨by rfl, ?hrd67r4o10⟩) hS ?_
        case hrd67r4o10 => (intro wx hx; skip; go_simp; (try with_reducible rfl))
        try simp only [Act.put, List.setIfInBounds_toArray, List.set_cons_zero, List.set_cons_succ]
        refine wpAnyH_take (i := 11) (oi := { dst := some 38, op := Op.move (Operand.tmp 2), type := 33, pos := "ref.go:125", after := #[{ on := 10, ground := Ground.guard }, { on := 19, ground := Ground.gcOnly Departure.lateStores }], guard := some (10, true) }) (v := ?vrd67r4o11) rfl (by kernel_rfl) (by kernel_rfl) (by kernel_rfl) (fun _ _ _ h => h) (Or.inl ⟨by rfl, ?hrd67r4o11⟩) hS ?_
        case hrd67r4o11 => (intro wx hx; skip; go_simp; (try with_reducible rfl))
        try simp only [Act.put, List.setIfInBounds_toArray, List.set_cons_zero, List.set_cons_succ]
        refine wpAnyH_take (i := 12) (oi := { dst := some 39, op := Op.move (Operand.tmp 8), type := 3, pos := "ref.go:125", after := #[{ on := 10, ground := Ground.guard }, { on := 19, ground := Ground.gcOnly Departure.lateStores }], guard := some (10, true) }) (v := ?vrd67r4o12) rfl (by kernel_rfl) (by kernel_rfl) (by kernel_rfl) (fun _ _ _ h => h) (Or.inl ⟨by rfl, ?hrd67r4o12⟩) hS ?_
        case hrd67r4o12 => (intro wx hx; skip; go_simp; (try with_reducible rfl))
        try simp only [Act.put, List.setIfInBounds_toArray, List.set_cons_zero, List.set_cons_succ]
        refine wpAnyH_take (i := 13) (oi := { dst := some 40, op := Op.indexAddr 33 (Operand.tmp 38) (Operand.tmp 39), type := 0, pos := "ref.go:125", after := #[{ on := 11, ground := Ground.data }, { on := 12, ground := Ground.data }, { on := 10, ground := Ground.guard }, { on := 19, ground := Ground.gcOnly Departure.lateStores }], guard := some (10, true) }) (v := ?vrd67r4o13) rfl (by kernel_rfl) (by kernel_rfl) (by kernel_rfl) (fun _ _ _ h => h) (Or.inl ⟨by rfl, ?hrd67r4o13⟩) hS ?_
        case hrd67r4o13 => (intro wx hx; skip; go_simp; (try with_reducible rfl))
        try simp only [Act.put, List.setIfInBounds_toArray, List.set_cons_zero, List.set_cons_succ]
        refine wpAnyH_take (i := 14) (oi := { dst := some 41, op := Op.load 44 (Operand.tmp 40), type := 44, pos := "ref.go:125", after := #[{ on := 13, ground := Ground.data }, { on := 10, ground := Ground.guard }, { on := 19, ground := Ground.gcOnly Departure.lateStores }], guard := some (10, true) }) (v := ?vrd67r4o14) rfl (by kernel_rfl) (by kernel_rfl) (by kernel_rfl) (fun _ _ _ h => h) (Or.inl ⟨by rfl, ?hrd67r4o14⟩) hS ?_
        case hrd67r4o14 => (intro wx hx; have c0 := hx; go_simp; (try with_reducible rfl))
        try simp only [Act.put, List.setIfInBounds_toArray, List.set_cons_zero, List.set_cons_succ]
        refine wpAnyH_take (i := 15) (oi := { dst := some 42, op := Op.move (Operand.tmp 9), type := 33, pos := "ref.go:125", after := #[{ on := 10, ground := Ground.guard }], guard := some (10, true) }) (v := ?vrd67r4o15) rfl (by kernel_rfl) (by kernel_rfl) (by kernel_rfl) (fun _ _ _ h => h) (Or.inl ⟨by rfl, ?hrd67r4o15⟩) hS ?_
        case hrd67r4o15 => (intro wx hx; skip; go_simp; (try with_reducible rfl))
        try simp only [Act.put, List.setIfInBounds_toArray, List.set_cons_zero, List.set_cons_succ]
        refine wpAnyH_ready (rs := [16]) (by kernel_rfl) (by simp) ?_
        refine AllReadyH.cons (o := { dst := some 43, op := Op.call { callee := Callee.value (Operand.func 64), args := #[Operand.tmp 42], argTypes := #[33] }, type := 44, pos := "ref.go:125", after := #[{ on := 15, ground := Ground.data }, { on := 10, ground := Ground.chain }, { on := 10, ground := Ground.guard }], guard := some (10, true) }) rfl (fun K hK => ?_) AllReadyH.nil
        go_simp
        refine (HMk.out _ hgx.out).mono ?_
        rintro e v1 ⟨rfl, hn⟩
        have hS1 := hn.cell hS (by simp)
        have hgn := Lib.hid (grown_trans hgx.out hn)
        clear hgx hn
        have hgx := hgn
        clear hgn
        refine hK.out _ _ ?hsrd67r4o16 (fun hS => ?_)
        case hsrd67r4o16 => (exact hS1)
        clear hK K
        try simp only [Act.put, List.setIfInBounds_toArray, List.set_cons_zero, List.set_cons_succ]
        refine wpAnyH_take (i := 17) (oi := { dst := some 44, op := Op.binOp BinOp.eql 44 (Operand.tmp 41) (Operand.tmp 43) 44, type := 4, pos := "ref.go:125", after := #[{ on := 14, ground := Ground.data }, { on := 16, ground := Ground.data }, { on := 10, ground := Ground.guard }, { on := 19, ground := Ground.gcOnly Departure.lateStores }], guard := some (10, true) }) (v := ?vrd67r4o17) rfl (by kernel_rfl) (by kernel_rfl) (by kernel_rfl) (fun _ _ _ h => h) (Or.inl ⟨by rfl, ?hrd67r4o17⟩) hS ?_
        case hrd67r4o17 => (intro wx hx; skip; go_simp; (try with_reducible rfl))
        try simp only [Act.put, List.setIfInBounds_toArray, List.set_cons_zero, List.set_cons_succ]
        refine wpAnyH_take (i := 18) (oi := { dst := some 45, op := Op.pick (Operand.tmp 37) (Operand.tmp 44) (Operand.const (Value.bool false)), type := 4, pos := "ref.go:125", after := #[{ on := 10, ground := Ground.data }, { on := 17, ground := Ground.data }, { on := 19, ground := Ground.gcOnly Departure.lateStores }], guard := none }) (v := ?vrd67r4o18) rfl (by kernel_rfl) (by kernel_rfl) (by kernel_rfl) (fun _ _ _ h => h) (Or.inl ⟨by rfl, ?hrd67r4o18⟩) hS ?_
        case hrd67r4o18 => (intro wx hx; skip; go_simp; (try with_reducible rfl))
        try simp only [Act.put, List.setIfInBounds_toArray, List.set_cons_zero, List.set_cons_succ]
        refine wpAnyH_take (i := 19) (oi := { dst := some 6, op := Op.assign (Operand.tmp 27), type := 43, pos := "ref.go:125", after := #[{ on := 0, ground := Ground.data }, { on := 16, ground := Ground.chain }, { on := 0, ground := Ground.phase }, { on := 1, ground := Ground.textOnly Departure.lateStores }, { on := 2, ground := Ground.textOnly Departure.lateStores }, { on := 3, ground := Ground.textOnly Departure.lateStores }, { on := 4, ground := Ground.textOnly Departure.lateStores }, { on := 5, ground := Ground.textOnly Departure.lateStores }, { on := 6, ground := Ground.textOnly Departure.lateStores }, { on := 7, ground := Ground.textOnly Departure.lateStores }, { on := 8, ground := Ground.textOnly Departure.lateStores }, { on := 9, ground := Ground.textOnly Departure.lateStores }, { on := 10, ground := Ground.textOnly Departure.lateStores }, { on := 11, ground := Ground.textOnly Departure.lateStores }, { on := 12, ground := Ground.textOnly Departure.lateStores }, { on := 13, ground := Ground.textOnly Departure.lateStores }, { on := 14, ground := Ground.textOnly Departure.lateStores }, { on := 15, ground := Ground.textOnly Departure.lateStores }, { on := 16, ground := Ground.textOnly Departure.lateStoresUnsure }, { on := 17, ground := Ground.textOnly Departure.lateStores }, { on := 18, ground := Ground.textOnly Departure.lateStores }], guard := none }) (v := ?vrd67r4o19) rfl (by kernel_rfl) (by kernel_rfl) (by kernel_rfl) (fun _ _ _ h => h) (Or.inl ⟨by rfl, ?hrd67r4o19⟩) hS ?_
        case hrd67r4o19 => (intro wx hx; skip; go_simp; (try with_reducible rfl))
        try simp only [Act.put, List.setIfInBounds_toArray, List.set_cons_zero, List.set_cons_succ]
        refine wpAnyH_take (i := 20) (oi := { dst := some 7, op := Op.assign (Operand.tmp 45), type := 4, pos := "ref.go:125", after := #[{ on := 18, ground := Ground.data }, { on := 19, ground := Ground.chain }, { on := 0, ground := Ground.phase }, { on := 1, ground := Ground.phase }, { on := 2, ground := Ground.phase }, { on := 3, ground := Ground.phase }, { on := 4, ground := Ground.phase }, { on := 5, ground := Ground.phase }, { on := 6, ground := Ground.phase }, { on := 7, ground := Ground.phase }, { on := 8, ground := Ground.phase }, { on := 9, ground := Ground.phase }, { on := 10, ground := Ground.phase }, { on := 11, ground := Ground.phase }, { on := 12, ground := Ground.phase }, { on := 13, ground := Ground.phase }, { on := 14, ground := Ground.phase }, { on := 15, ground := Ground.phase }, { on := 16, ground := Ground.phase }, { on := 17, ground := Ground.phase }, { on := 18, ground := Ground.phase }, { on := 19, ground := Ground.phase }], guard := none }) (v := ?vrd67r4o20) rfl (by kernel_rfl) (by kernel_rfl) (by kernel_rfl) (fun _ _ _ h => h) (Or.inl ⟨by rfl, ?hrd67r4o20⟩) hS ?_
        case hrd67r4o20 => (intro wx hx; skip; go_simp; (try with_reducible rfl))
        try simp only [Act.put, List.setIfInBounds_toArray, List.set_cons_zero, List.set_cons_succ]
        refine wpAnyH_done (by kernel_rfl) ?_ _
        go_wp2
        go_ret2
        exact .inr ⟨hbf.out, ad, n, cp, rfl, grown_trans Hg1.out hgx.out⟩
  · have hgx := Lib.hid (grown_drew (grown_trans hg2.out hg3))
    have hz : Hid (World.cell? _ ⟨q, o + A, none⟩ = some (.int .u64 (m : Int))) := Lib.hid (hgx.out.cell Hc0.out (by simp))
    have hbf : Hid (commB a b c xs A = false) := Lib.hid (by rw [Hb.out, hn, Bool.and_false])
    clear hg3 hn hg2 Hb
    go_wp2_with fail
    refine wp_region_held_drew (S := fun w' => w'.cell? ⟨q, o + A, none⟩ = some (.int .u64 (m : Int))) (by kernel_rfl) (hz.out) (fun hS => ?_)
    refine wpAnyH_take (i := 0) (oi := { dst := some 27, op := Op.move (Operand.tmp 10), type := 43, pos := "ref.go:125", after := #[], guard := none }) (v := ?vra67r4o0) rfl (by kernel_rfl) (by kernel_rfl) (by kernel_rfl) (fun _ _ _ h => h) (Or.inl ⟨by rfl, ?hra67r4o0⟩) hS ?_
    case hra67r4o0 => (intro wx hx; skip; go_simp; (try with_reducible rfl))
    try simp only [Act.put, List.setIfInBounds_toArray, List.set_cons_zero, List.set_cons_succ]
    refine wpAnyH_take (i := 1) (oi := { dst := some 28, op := Op.move (Operand.tmp 11), type := 40, pos := "ref.go:125", after := #[], guard := none }) (v := ?vra67r4o1) rfl (by kernel_rfl) (by kernel_rfl) (by kernel_rfl) (fun _ _ _ h => h) (Or.inl ⟨by rfl, ?hra67r4o1⟩) hS ?_
    case hra67r4o1 => (intro wx hx; skip; go_simp; (try with_reducible rfl))
    try simp only [Act.put, List.setIfInBounds_toArray, List.set_cons_zero, List.set_cons_succ]
    refine wpAnyH_take (i := 2) (oi := { dst := some 29, op := Op.binOp BinOp.eql 40 (Operand.tmp 28) (Operand.const (Value.int IntKind.i64 0)) 40, type := 4, pos := "ref.go:125", after := #[{ on := 1, ground := Ground.data }], guard := none }) (v := ?vra67r4o2) rfl (by kernel_rfl) (by kernel_rfl) (by kernel_rfl) (fun _ _ _ h => h) (Or.inl ⟨by rfl, ?hra67r4o2⟩) hS ?_
    case hra67r4o2 => (intro wx hx; skip; go_simp; (try with_reducible rfl))
    try simp only [Act.put, List.setIfInBounds_toArray, List.set_cons_zero, List.set_cons_succ]
    refine wpAnyH_take (i := 3) (oi := { dst := some 30, op := Op.move (Operand.tmp 29), type := 4, pos := "ref.go:125", after := #[{ on := 2, ground := Ground.data }], guard := none }) (v := ?vra67r4o3) rfl (by kernel_rfl) (by kernel_rfl) (by kernel_rfl) (fun _ _ _ h => h) (Or.inl ⟨by rfl, ?hra67r4o3⟩) hS ?_
    case hra67r4o3 => (intro wx hx; skip; go_simp; (try with_reducible rfl))
    try simp only [Act.put, List.setIfInBounds_toArray, List.set_cons_zero, List.set_cons_succ]
    refine wpAnyH_take (i := 4) (oi := { dst := some 31, op := Op.move (Operand.tmp 2), type := 33, pos := "ref.go:125", after := #[{ on := 3, ground := Ground.guard }], guard := some (3, true) }) (v := undef) rfl (by kernel_rfl) (by kernel_rfl) (by kernel_rfl) (fun _ _ _ h => h) (Or.inr ⟨by rfl, rfl⟩) hS ?_
    try simp only [Act.put, List.setIfInBounds_toArray, List.set_cons_zero, List.set_cons_succ]
    refine wpAnyH_take (i := 5) (oi := { dst := some 32, op := Op.move (Operand.tmp 8), type := 3, pos := "ref.go:125", after := #[{ on := 3, ground := Ground.guard }], guard := some (3, true) }) (v := undef) rfl (by kernel_rfl) (by kernel_rfl) (by kernel_rfl) (fun _ _ _ h => h) (Or.inr ⟨by rfl, rfl⟩) hS ?_
    try simp only [Act.put, List.setIfInBounds_toArray, List.set_cons_zero, List.set_cons_succ]
    refine wpAnyH_take (i := 6) (oi := { dst := some 33, op := Op.indexAddr 33 (Operand.tmp 31) (Operand.tmp 32), type := 0, pos := "ref.go:125", after := #[{ on := 4, ground := Ground.data }, { on := 5, ground := Ground.data }, { on := 3, ground := Ground.guard }], guard := some (3, true) }) (v := undef) rfl (by kernel_rfl) (by kernel_rfl) (by kernel_rfl) (fun _ _ _ h => h) (Or.inr ⟨by rfl, rfl⟩) hS ?_
    try simp only [Act.put, List.setIfInBounds_toArray, List.set_cons_zero, List.set_cons_succ]
    refine wpAnyH_take (i := 7) (oi := { dst := some 34, op := Op.load 44 (Operand.tmp 33), type := 44, pos := "ref.go:125", after := #[{ on := 6, ground := Ground.data }, { on := 3, ground := Ground.guard }], guard := some (3, true) }) (v := undef) rfl (by kernel_rfl) (by kernel_rfl) (by kernel_rfl) (fun _ _ _ h => h) (Or.inr ⟨by rfl, rfl⟩) hS ?_
    try simp only [Act.put, List.setIfInBounds_toArray, List.set_cons_zero, List.set_cons_succ]
    refine wpAnyH_take (i := 8) (oi := { dst := some 35, op := Op.binOp BinOp.neq 44 (Operand.tmp 34) (Operand.const (Value.int IntKind.u64 0)) 44, type := 4, pos := "ref.go:125", after := #[{ on := 7, ground := Ground.data }, { on := 3, ground := Ground.guard }], guard := some (3, true) }) (v := undef) rfl (by kernel_rfl) (by kernel_rfl) (by kernel_rfl) (fun _ _ _ h => h) (Or.inr ⟨by rfl, rfl⟩) hS ?_
    try simp only [Act.put, List.setIfInBounds_toArray, List.set_cons_zero, List.set_cons_succ]
    refine wpAnyH_take (i := 9) (oi := { dst := some 36, op := Op.pick (Operand.tmp 30) (Operand.tmp 35) (Operand.const (Value.bool false)), type := 4, pos := "ref.go:125", after := #[{ on := 3, ground := Ground.data }, { on := 8, ground := Ground.data }], guard := none }) (v := ?vra67r4o9) rfl (by kernel_rfl) (by kernel_rfl) (by kernel_rfl) (fun _ _ _ h => h) (Or.inl ⟨by rfl, ?hra67r4o9⟩) hS ?_
    case hra67r4o9 => (intro wx hx; skip; go_simp; (try with_reducible rfl))
    try simp only [Act.put, List.setIfInBounds_toArray, List.set_cons_zero, List.set_cons_succ]
    refine wpAnyH_take (i := 10) (oi := { dst := some 37, op := Op.move (Operand.tmp 36), type := 4, pos := "ref.go:125", after := #[{ on := 9, ground := Ground.data }, { on := 3, ground := Ground.chain }], guard := none }) (v := ?vra67r4o10) rfl (by kernel_rfl) (by kernel_rfl) (by kernel_rfl) (fun _ _ _ h => h) (Or.inl ⟨by rfl, ?hra67r4o10⟩) hS ?_
    case hra67r4o10 => (intro wx hx; skip; go_simp; (try with_reducible rfl))
    try simp only [Act.put, List.setIfInBounds_toArray, List.set_cons_zero, List.set_cons_succ]
    refine wpAnyH_take (i := 11) (oi := { dst := some 38, op := Op.move (Operand.tmp 2), type := 33, pos := "ref.go:125", after := #[{ on := 10, ground := Ground.guard }, { on := 19, ground := Ground.gcOnly Departure.lateStores }], guard := some (10, true) }) (v := undef) rfl (by kernel_rfl) (by kernel_rfl) (by kernel_rfl) (fun _ _ _ h => h) (Or.inr ⟨by rfl, rfl⟩) hS ?_
    try simp only [Act.put, List.setIfInBounds_toArray, List.set_cons_zero, List.set_cons_succ]
    refine wpAnyH_take (i := 12) (oi := { dst := some 39, op := Op.move (Operand.tmp 8), type := 3, pos := "ref.go:125", after := #[{ on := 10, ground := Ground.guard }, { on := 19, ground := Ground.gcOnly Departure.lateStores }], guard := some (10, true) }) (v := undef) rfl (by kernel_rfl) (by kernel_rfl) (by kernel_rfl) (fun _ _ _ h => h) (Or.inr ⟨by rfl, rfl⟩) hS ?_
    try simp only [Act.put, List.setIfInBounds_toArray, List.set_cons_zero, List.set_cons_succ]
    refine wpAnyH_take (i := 13) (oi := { dst := some 40, op := Op.indexAddr 33 (Operand.tmp 38) (Operand.tmp 39), type := 0, pos := "ref.go:125", after := #[{ on := 11, ground := Ground.data }, { on := 12, ground := Ground.data }, { on := 10, ground := Ground.guard }, { on := 19, ground := Ground.gcOnly Departure.lateStores }], guard := some (10, true) }) (v := undef) rfl (by kernel_rfl) (by kernel_rfl) (by kernel_rfl) (fun _ _ _ h => h) (Or.inr ⟨by rfl, rfl⟩) hS ?_
    try simp only [Act.put, List.setIfInBounds_toArray, List.set_cons_zero, List.set_cons_succ]
    refine wpAnyH_take (i := 14) (oi := { dst := some 41, op := Op.load 44 (Operand.tmp 40), type := 44, pos := "ref.go:125", after := #[{ on := 13, ground := Ground.data }, { on := 10, ground := Ground.guard }, { on := 19, ground := Ground.gcOnly Departure.lateStores }], guard := some (10, true) }) (v := undef) rfl (by kernel_rfl) (by kernel_rfl) (by kernel_rfl) (fun _ _ _ h => h) (Or.inr ⟨by rfl, rfl⟩) hS ?_
    try simp only [Act.put, List.setIfInBounds_toArray, List.set_cons_zero, List.set_cons_succ]
    refine wpAnyH_take (i := 15) (oi := { dst := some 42, op := Op.move (Operand.tmp 9), type := 33, pos := "ref.go:125", after := #[{ on := 10, ground := Ground.guard }], guard := some (10, true) }) (v := undef) rfl (by kernel_rfl) (by kernel_rfl) (by kernel_rfl) (fun _ _ _ h => h) (Or.inr ⟨by rfl, rfl⟩) hS ?_
    try simp only [Act.put, List.setIfInBounds_toArray, List.set_cons_zero, List.set_cons_succ]
    refine wpAnyH_take (i := 16) (oi := { dst := some 43, op := Op.call { callee := Callee.value (Operand.func 64), args := #[Operand.tmp 42], argTypes := #[33] }, type := 44, pos := "ref.go:125", after := #[{ on := 15, ground := Ground.data }, { on := 10, ground := Ground.chain }, { on := 10, ground := Ground.guard }], guard := some (10, true) }) (v := undef) rfl (by kernel_rfl) (by kernel_rfl) (by kernel_rfl) (fun _ _ _ h => h) (Or.inr ⟨by rfl, rfl⟩) hS ?_
    try simp only [Act.put, List.setIfInBounds_toArray, List.set_cons_zero, List.set_cons_succ]
    refine wpAnyH_take (i := 17) (oi := { dst := some 44, op := Op.binOp BinOp.eql 44 (Operand.tmp 41) (Operand.tmp 43) 44, type := 4, pos := "ref.go:125", after := #[{ on := 14, ground := Ground.data }, { on := 16, ground := Ground.data }, { on := 10, ground := Ground.guard }, { on := 19, ground := Ground.gcOnly Departure.lateStores }], guard := some (10, true) }) (v := undef) rfl (by kernel_rfl) (by kernel_rfl) (by kernel_rfl) (fun _ _ _ h => h) (Or.inr ⟨by rfl, rfl⟩) hS ?_
    try simp only [Act.put, List.setIfInBounds_toArray, List.set_cons_zero, List.set_cons_succ]
    refine wpAnyH_take (i := 18) (oi := { dst := some 45, op := Op.pick (Operand.tmp 37) (Operand.tmp 44) (Operand.const (Value.bool false)), type := 4, pos := "ref.go:125", after := #[{ on := 10, ground := Ground.data }, { on := 17, ground := Ground.data }, { on := 19, ground := Ground.gcOnly Departure.lateStores }], guard := none }) (v := ?vra67r4o18) rfl (by kernel_rfl) (by kernel_rfl) (by kernel_rfl) (fun _ _ _ h => h) (Or.inl ⟨by rfl, ?hra67r4o18⟩) hS ?_
    case hra67r4o18 => (intro wx hx; skip; go_simp; (try with_reducible rfl))
    try simp only [Act.put, List.setIfInBounds_toArray, List.set_cons_zero, List.set_cons_succ]
    refine wpAnyH_take (i := 19) (oi := { dst := some 6, op := Op.assign (Operand.tmp 27), type := 43, pos := "ref.go:125", after := #[{ on := 0, ground := Ground.data }, { on := 16, ground := Ground.chain }, { on := 0, ground := Ground.phase }, { on := 1, ground := Ground.textOnly Departure.lateStores }, { on := 2, ground := Ground.textOnly Departure.lateStores }, { on := 3, ground := Ground.textOnly Departure.lateStores }, { on := 4, ground := Ground.textOnly Departure.lateStores }, { on := 5, ground := Ground.textOnly Departure.lateStores }, { on := 6, ground := Ground.textOnly Departure.lateStores }, { on := 7, ground := Ground.textOnly Departure.lateStores }, { on := 8, ground := Ground.textOnly Departure.lateStores }, { on := 9, ground := Ground.textOnly Departure.lateStores }, { on := 10, ground := Ground.textOnly Departure.lateStores }, { on := 11, ground := Ground.textOnly Departure.lateStores }, { on := 12, ground := Ground.textOnly Departure.lateStores }, { on := 13, ground := Ground.textOnly Departure.lateStores }, { on := 14, ground := Ground.textOnly Departure.lateStores }, { on := 15, ground := Ground.textOnly Departure.lateStores }, { on := 16, ground := Ground.textOnly Departure.lateStoresUnsure }, { on := 17, ground := Ground.textOnly Departure.lateStores }, { on := 18, ground := Ground.textOnly Departure.lateStores }], guard := none }) (v := ?vra67r4o19) rfl (by kernel_rfl) (by kernel_rfl) (by kernel_rfl) (fun _ _ _ h => h) (Or.inl ⟨by rfl, ?hra67r4o19⟩) hS ?_
    case hra67r4o19 => (intro wx hx; skip; go_simp; (try with_reducible rfl))
    try simp only [Act.put, List.setIfInBounds_toArray, List.set_cons_zero, List.set_cons_succ]
    refine wpAnyH_take (i := 20) (oi := { dst := some 7, op := Op.assign (Operand.tmp 45), type := 4, pos := "ref.go:125", after := #[{ on := 18, ground := Ground.data }, { on := 19, ground := Ground.chain }, { on := 0, ground := Ground.phase }, { on := 1, ground := Ground.phase }, { on := 2, ground := Ground.phase }, { on := 3, ground := Ground.phase }, { on := 4, ground := Ground.phase }, { on := 5, ground := Ground.phase }, { on := 6, ground := Ground.phase }, { on := 7, ground := Ground.phase }, { on := 8, ground := Ground.phase }, { on := 9, ground := Ground.phase }, { on := 10, ground := Ground.phase }, { on := 11, ground := Ground.phase }, { on := 12, ground := Ground.phase }, { on := 13, ground := Ground.phase }, { on := 14, ground := Ground.phase }, { on := 15, ground := Ground.phase }, { on := 16, ground := Ground.phase }, { on := 17, ground := Ground.phase }, { on := 18, ground := Ground.phase }, { on := 19, ground := Ground.phase }], guard := none }) (v := ?vra67r4o20) rfl (by kernel_rfl) (by kernel_rfl) (by kernel_rfl) (fun _ _ _ h => h) (Or.inl ⟨by rfl, ?hra67r4o20⟩) hS ?_
    case hra67r4o20 => (intro wx hx; skip; go_simp; (try with_reducible rfl))
    try simp only [Act.put, List.setIfInBounds_toArray, List.set_cons_zero, List.set_cons_succ]
    refine wpAnyH_done (by kernel_rfl) ?_ _
    go_wp2
    go_ret2
    exact .inr ⟨hbf.out, none, 0, 0, rfl, grown_trans Hg1.out hgx.out⟩
end Go.Proofs.YtpdofdloclmbdaaGreat
end
section
/- The document's Over. -/
-- OPTIONAL
namespace Go.Proofs.YtpdofdloclmbdaaGreat
open Go.RowKit Go.Grommet

theorem cell_atE {w0 w : World} {Ps : List Pr} {q N cap : Nat} {xs : List Nat} (h : Own w0 w Ps) (k : Nat) (hk : Ps[k]? = some (rowP 44 1 (.slice (some ⟨q, 0, none⟩) N cap) N (xs.map wv))) (hl : xs.length = N) (i : Nat) (hi : i < N) : w.cell? ⟨q, i, none⟩ = some (.int .u64 ((xs.getD i 0 : Nat) : Int)) ∧ w.frozen? ⟨q, i, none⟩ = false := by
  have hi' : i < xs.length := by omega
  obtain ⟨b', he, h1, h2, _⟩ := Own.cell h k hk i (wv (xs.getD i 0)) (by rw [List.getElem?_map, List.getElem?_eq_getElem hi', List.getD_eq_getElem?_getD, List.getElem?_eq_getElem hi']; rfl)
  cases he
  exact ⟨h1, h2⟩

set_option maxRecDepth 100000 in
set_option maxHeartbeats 8000000 in
theorem ROver_yes (base : Nat) (a b c : Nat) (q o l cap : Nat) (xs : List Nat) (w : World) (hx : Words w (some ⟨q, o, none⟩) l xs) (hlc : l ≤ cap) (hm : mayB (a : Int) (b : Int) (c : Int) = true) (hN : 280 + 208 * a + 16 * b + 8 * c ≤ l) (hl : l ≤ 100000) (hb : base ≤ w.heap.size) :
    Calls Tryz.prog 34 #[gv (a : Int) (b : Int) (c : Int), .slice (some ⟨q, o, none⟩) l cap] w (RowOf base (zapS (aplS a b c xs a) a) w) := by
  have HX := Lib.hid hx
  have Hm := Lib.hid hm
  have HN := Lib.hid hN
  have hmb := mayB_yes hm
  have HM := Lib.hid (fun wx => RMay_any (a : Int) (b : Int) (c : Int) wx)
  rw [hm] at HM
  have HW := Lib.hid (fun wx => RWords_any (a : Int) (b : Int) (c : Int) wx)
  obtain ⟨wv0, hwv⟩ : ∃ v, wordsV (a : Int) (b : Int) (c : Int) = v := ⟨_, rfl⟩
  have hlw : ¬ (l : Int) < wv0 := by rw [← hwv, words_pos hm]; omega
  rw [hwv] at HW
  have hal : a ≤ 4 := by omega
  have hxl := hx.len
  obtain ⟨w1, hw1⟩ : ∃ w1, w.alloc (.cells #[.int .i64 (a : Int), .int .i64 (b : Int), .int .i64 (c : Int)] 28) = w1 := ⟨_, rfl⟩
  obtain ⟨G, hG⟩ : ∃ G, w.heap.size = G := ⟨_, rfl⟩
  have hO1 : Own w w1 [boxP G 28 #[.int .i64 (a : Int), .int .i64 (b : Int), .int .i64 (c : Int)]] := by rw [← hw1, ← hG]; exact (Own.nil w).addBox _ _
  obtain ⟨f0, f1, f2⟩ := GeoR.cells (show GeoR G (a : Int) (b : Int) (c : Int) w1 from hO1.box 0 rfl)
  have HO1 := Lib.hid hO1
  have Hb := Lib.hid hb
  have Hxl := Lib.hid hxl
  clear hx hm hN hmb hwv hO1 hb hxl
  unfold gv at HM HW ⊢
  go_enter Tryz.func34, Tryz.ntmps34
  go_wp2_with fail
  refine (HM.out _).mono ?_
  rintro e w2 ⟨rfl, hg2⟩
  have hO2 := Lib.hid (HO1.out.quiet hg2)
  clear f0 f1 f2 hw1 hG hg2 HM HO1
  obtain ⟨f0, f1, f2⟩ := GeoR.cells (show GeoR G (a : Int) (b : Int) (c : Int) w2 from hO2.out.box 0 rfl)
  go_wp2_with fail
  refine (HW.out _).mono ?_
  rintro e w3 ⟨rfl, hg3⟩
  have hO3 := Lib.hid (hO2.out.quiet hg3)
  have hX3 := HX.out.keep hO3.out.grown (by simp)
  clear f0 f1 f2 hg3 HW hO2
  go_wp2_with (at_builtin; refine app64 rfl _ _ rfl w3.heap.size _ 0 [] rfl (own_lit w3 _ 1 w3.heap.size (Nat.le_refl _)) (some ⟨q, o, none⟩) l cap xs rfl ?a1 (by simp) ?a2 ?a3 ?_)
  case a1 => exact hX3.keep (World.grownBy_alloc w3 _ none) (by simp)
  case a2 => omega
  case a3 => simp
  intro v1 w4 hown hg
  have hg := grown_new (World.grownBy_alloc w3 _ none) hg (by intro g e; cases e; exact Nat.le_refl _)
  try rw [List.nil_append, Nat.zero_add] at hown
  obtain ⟨ad, cp, rfl, _⟩ := row_slice hown
  have hO4 : Own w w4 [boxP G 28 #[.int .i64 (a : Int), .int .i64 (b : Int), .int .i64 (c : Int)], rowP 44 1 (.slice ad l cp) l (xs.map wv)] := hO3.out.addRow hown hg
  have h0l : 0 < xs.length := by rw [Hxl.out]; have := HN.out; omega
  obtain ⟨p, rfl, e1, e2, hlcp⟩ := Own.cell hO4 1 rfl 0 (wv (xs.getD 0 0)) (by rw [List.getElem?_map, List.getD_eq_getElem?_getD, List.getElem?_eq_getElem h0l]; rfl)
  clear e1 e2
  have hO4 := Lib.hid hO4
  clear hown hg hO3 h0l hX3
  obtain ⟨f0, _, _⟩ := GeoR.cells (show GeoR G (a : Int) (b : Int) (c : Int) w4 from hO4.out.box 0 rfl)
  go_wp2_with fail
  clear f0
  go_loopw [6] (fun i wr => ∃ k : Nat, k ≤ a ∧ i = .int .i64 (k : Int) ∧ Hid (Own w wr [boxP G 28 #[.int .i64 (a : Int), .int .i64 (b : Int), .int .i64 (c : Int)], rowP 44 1 (.slice (some ⟨p, 0, none⟩) l cp) l ((aplS a b c xs k).map wv)])) (fun i _ => a - (intOf i).toNat)
  case atStart => exact ⟨0, Nat.zero_le _, rfl, hO4⟩
  case round =>
    clear hO4
    obtain ⟨k, hk, rfl, hO⟩ := hrel
    have k0 : (0 : Int) ≤ (k : Int) := by omega
    obtain ⟨f0, f1, f2⟩ := GeoR.cells (show GeoR G (a : Int) (b : Int) (c : Int) _ from hO.out.box 0 rfl)
    by_cases hlt : k < a
    · as_aux_lemma =>
      have hlt' : (k : Int) < (a : Int) := by omega
      obtain ⟨A, hA⟩ : ∃ A, 264 + 208 * k = A := ⟨_, rfl⟩
      have hAl : A + 208 ≤ l := by have := HN.out; omega
      have wk : IntKind.i64.wrap ((k : Int) + 1) = (k : Int) + 1 := IntWalk.i64_in _ ⟨by omega, by omega⟩
      have HCm := Lib.hid (fun wx (hg : w.grownBy wx none) => RComm_any wx.heap.size (a : Int) (b : Int) (c : Int) (k : Int) q o l cap xs A wx (by unfold areaV; rw [if_pos ⟨Hm.out, by omega, by omega⟩]; omega) (HX.out.keep hg (by simp)) hlc hAl (by omega) (Nat.le_refl _))
      unfold gv at HCm
      obtain ⟨ys, hys⟩ : ∃ ys, aplS (a : Int) (b : Int) (c : Int) xs k = ys := ⟨_, rfl⟩
      have hyl : Hid (ys.length = l) := Lib.hid (by rw [← hys, aplS_length, Hxl.out])
      have Hnx : Hid (aplS (a : Int) (b : Int) (c : Int) xs (k + 1) = if commB (a : Int) (b : Int) (c : Int) xs A = true then appl ys (commM xs A) else ys) := Lib.hid (by rw [aplS, hA, hys])
      rw [hys] at hO
      clear hA hys
      have HCm5 := Lib.hid (HCm.out _ hO.out.grown)
      clear HCm
      go_wp2_with fail
      refine HCm5.out.mono ?_
      rintro e w6 hR
      clear f0 f1 f2 HCm5
      rcases hR with ⟨hy, ad, cpw, n, rfl, hn, hrow, hg6⟩ | ⟨hno, ad, n, cpw, rfl, hg6⟩
      · as_aux_lemma =>
        have hO6 := hO.out.addRow hrow hg6
        have Hhn := Lib.hid hn
        have hn96 : n ≤ 1000 := by
          unfold commB readB mayW at hy
          simp only [Bool.and_eq_true, decide_eq_true_eq] at hy
          have := hy.2.2.1
          have := Hhn.out
          unfold commM at this
          omega
        have HOk := Lib.hid (comm_ok Hm.out hy)
        have Hz := Hnx.out
        rw [if_pos hy] at Hz
        have Hz := Lib.hid Hz
        obtain ⟨M, hM⟩ : ∃ M, commM xs A = M := ⟨_, rfl⟩
        rw [hM] at HOk Hz Hhn hO6
        have hO7 : Hid (Own w w6 [boxP G 28 #[.int .i64 (a : Int), .int .i64 (b : Int), .int .i64 (c : Int)], rowP 44 1 (.slice (some ⟨p, 0, none⟩) l cp) l ((appl ys (M.take 0)).map wv), rowP 92 2 (.slice ad n cpw) n (icells M)]) := Lib.hid hO6
        clear hrow hO6 hn hy hO hg6 hM Hnx
        go_wp2_with fail
        go_loopw [9] (fun i wr => ∃ j : Nat, j ≤ n ∧ i = .int .i64 (j : Int) ∧ Hid (Own w wr [boxP G 28 #[.int .i64 (a : Int), .int .i64 (b : Int), .int .i64 (c : Int)], rowP 44 1 (.slice (some ⟨p, 0, none⟩) l cp) l ((appl ys (M.take j)).map wv), rowP 92 2 (.slice ad n cpw) n (icells M)])) (fun i _ => n - (intOf i).toNat)
        case atStart => exact ⟨0, Nat.zero_le _, rfl, hO7⟩
        case round =>
          clear hO7
          obtain ⟨j, hj, rfl, hO⟩ := hrel
          have j0 : (0 : Int) ≤ (j : Int) := by omega
          by_cases hjn : j < n
          · as_aux_lemma =>
            have hjn' : (j : Int) < (n : Int) := by omega
            have hkL : j < M.length := by rw [← Hhn.out]; exact hjn
            have hp := HOk.out _ (getD_mem M j (0, 0) hkL)
            obtain ⟨ad', cp', he, hat, _, _⟩ := row_slice (hO.out.row 2 rfl)
            cases he
            obtain ⟨q5, o, rfl, v0, v1⟩ := at_ipair hat j hkL
            have HS := Lib.hid (take_snocD M j (0, 0) hkL)
            obtain ⟨B, B0⟩ : ∃ B, Hid (B = (M.getD j (0, 0)).1.toNat) := ⟨_, Lib.hid rfl⟩
            obtain ⟨V, V0⟩ : ∃ V, Hid (V = (M.getD j (0, 0)).2) := ⟨_, Lib.hid rfl⟩
            have hB1 : (M.getD j (0, 0)).1 = (B : Int) := by rw [B0.out]; omega
            rw [hB1] at v0 hp
            rw [← V0.out] at v1
            have hBl : B < l := by have := HN.out; omega
            have hB' : (B : Int) < (l : Int) := by omega
            have hB0 : (0 : Int) ≤ (B : Int) := by omega
            obtain ⟨cK, fK⟩ := cell_atE hO.out 1 rfl (by rw [appl_length, hyl.out]) B hBl
            obtain ⟨U, hU⟩ : ∃ U, (appl ys (M.take j)).getD B 0 = U := ⟨_, rfl⟩
            rw [hU] at cK
            have hO2 := (hO.out.quiet (grown_drew (World.grownBy.refl _ none))).store 1 rfl B (.int .u64 (V : Int))
            rw [show (Value.int .u64 (V : Int)) = wv V from rfl, ← List.map_set, B0.out, V0.out, ← appl_snoc, ← HS.out, ← B0.out, ← V0.out] at hO2
            have HO2 := Lib.hid hO2
            have wj : IntKind.i64.wrap ((j : Int) + 1) = (j : Int) + 1 := IntWalk.i64_in _ ⟨by omega, by omega⟩
            clear hO hO2 hp hat hB1 hU hkL
            go_wp2_with fail
            go_still_tail 12, (by kernel_rfl)
            change wpList _ _ _ _ _ (World.drew _)
            go_wp2
            go_roundw
            case rel => exact ⟨j + 1, by omega, by go_num, HO2⟩
            case measure => simp [intOf]; omega
          · as_aux_lemma =>
            have hjn' : ¬ (j : Int) < (n : Int) := by omega
            have hfin := hO.out
            rw [List.take_of_length_le (by rw [← Hhn.out]; omega), ← Hz.out] at hfin
            have hfin := Lib.hid (Own.less (Ps := [boxP G 28 #[.int .i64 (a : Int), .int .i64 (b : Int), .int .i64 (c : Int)], rowP 44 1 (.slice (some ⟨p, 0, none⟩) l cp) l ((aplS (a : Int) (b : Int) (c : Int) xs (k + 1)).map wv)]) (Qs := [rowP 92 2 (.slice ad n cpw) n (icells M)]) hfin)
            clear hO hj hjn
            go_wp2
            go_roundw
            case rel => exact ⟨k + 1, by omega, by go_num, hfin⟩
            case measure => simp [intOf]; omega
      · as_aux_lemma =>
        have hO6 := hO.out.quiet hg6
        have Hz := Hnx.out
        rw [if_neg (by rw [hno]; decide)] at Hz
        rw [← Hz] at hO6
        have hO6 := Lib.hid hO6
        clear hO hno hg6 Hz Hnx
        go_wp2_with fail
        go_loopw [9] (fun i wr => i = .int .i64 0 ∧ Hid (Own w wr [boxP G 28 #[.int .i64 (a : Int), .int .i64 (b : Int), .int .i64 (c : Int)], rowP 44 1 (.slice (some ⟨p, 0, none⟩) l cp) l ((aplS (a : Int) (b : Int) (c : Int) xs (k + 1)).map wv)])) (fun _ _ => 0)
        case atStart => exact ⟨rfl, hO6⟩
        case round =>
          clear hO6
          obtain ⟨rfl, hO⟩ := hrel
          go_wp2
          go_roundw
          case rel => exact ⟨k + 1, by omega, by go_num, hO⟩
          case measure => simp [intOf]; omega
    · have hlt' : ¬ (k : Int) < (a : Int) := by omega
      obtain rfl : a = k := by omega
      obtain ⟨ys, hys⟩ : ∃ ys, aplS (a : Int) (b : Int) (c : Int) xs a = ys := ⟨_, rfl⟩
      have hyl : Hid (ys.length = l) := Lib.hid (by rw [← hys, aplS_length, Hxl.out])
      rw [hys] at hO
      have Hys := Lib.hid hys
      have hO5 : Hid (Own w _ [boxP G 28 #[.int .i64 (a : Int), .int .i64 (b : Int), .int .i64 (c : Int)], rowP 44 1 (.slice (some ⟨p, 0, none⟩) l cp) l ((zapS ys 0).map wv)]) := hO
      clear hys hO hlt hk k0
      go_wp2_with fail
      clear f0 f1 f2 hlt'
      go_loopw [10] (fun i wr => ∃ k : Nat, k ≤ a ∧ i = .int .i64 (k : Int) ∧ Hid (Own w wr [boxP G 28 #[.int .i64 (a : Int), .int .i64 (b : Int), .int .i64 (c : Int)], rowP 44 1 (.slice (some ⟨p, 0, none⟩) l cp) l ((zapS ys k).map wv)])) (fun i _ => a - (intOf i).toNat)
      case atStart => exact ⟨0, Nat.zero_le _, rfl, hO5⟩
      case round =>
        clear hO5
        obtain ⟨k, hk, rfl, hO⟩ := hrel
        have k0 : (0 : Int) ≤ (k : Int) := by omega
        obtain ⟨f0, f1, f2⟩ := GeoR.cells (show GeoR G (a : Int) (b : Int) (c : Int) _ from hO.out.box 0 rfl)
        by_cases hlt : k < a
        · as_aux_lemma =>
          have hlt' : (k : Int) < (a : Int) := by omega
          obtain ⟨A, hA⟩ : ∃ A, 264 + 208 * k = A := ⟨_, rfl⟩
          have hAl : A + 208 ≤ l := by have := HN.out; omega
          have wk : IntKind.i64.wrap ((k : Int) + 1) = (k : Int) + 1 := IntWalk.i64_in _ ⟨by omega, by omega⟩
          have HAt := Lib.hid (fun wx => RAreaAt_any (a : Int) (b : Int) (c : Int) (k : Int) wx)
          rw [show areaV (a : Int) (b : Int) (c : Int) (k : Int) = (A : Int) from by unfold areaV; rw [if_pos ⟨Hm.out, by omega, by omega⟩]; omega] at HAt
          unfold gv at HAt
          obtain ⟨zs, hzs⟩ : ∃ zs, zapS ys k = zs := ⟨_, rfl⟩
          have hzl : Hid (zs.length = l) := Lib.hid (by rw [← hzs, zapS_length, hyl.out])
          have Hnx : Hid (zapS ys (k + 1) = zap zs A 208) := Lib.hid (by rw [zapS, hA, hzs])
          rw [hzs] at hO
          clear hA hzs
          go_wp2_with fail
          refine (HAt.out _).mono ?_
          rintro e w5 ⟨rfl, hg5⟩
          have hO5 : Hid (Own w w5 [boxP G 28 #[.int .i64 (a : Int), .int .i64 (b : Int), .int .i64 (c : Int)], rowP 44 1 (.slice (some ⟨p, 0, none⟩) l cp) l ((zap zs A 0).map wv)]) := Lib.hid (hO.out.quiet hg5)
          clear f0 f1 f2 hg5 hO HAt
          go_wp2_with fail
          go_loopw [12] (fun i wr => ∃ j : Nat, j ≤ 208 ∧ i = .int .i64 (j : Int) ∧ Hid (Own w wr [boxP G 28 #[.int .i64 (a : Int), .int .i64 (b : Int), .int .i64 (c : Int)], rowP 44 1 (.slice (some ⟨p, 0, none⟩) l cp) l ((zap zs A j).map wv)])) (fun i _ => 208 - (intOf i).toNat)
          case atStart => exact ⟨0, Nat.zero_le _, rfl, hO5⟩
          case round =>
            clear hO5
            obtain ⟨j, hj, rfl, hO⟩ := hrel
            have j0 : (0 : Int) ≤ (j : Int) := by omega
            by_cases hjn : j < 208
            · as_aux_lemma =>
              have hjn' : (j : Int) < 208 := by omega
              obtain ⟨t, ht⟩ : ∃ t, A + j = t := ⟨_, rfl⟩
              have et : (A : Int) + (j : Int) = (t : Int) := by omega
              have wt : IntKind.i64.wrap (t : Int) = (t : Int) := IntWalk.i64_in _ ⟨by omega, by omega⟩
              have t0 : (0 : Int) ≤ (t : Int) := by omega
              have tl' : (t : Int) < (l : Int) := by omega
              have htl : t < l := by omega
              obtain ⟨cK, fK⟩ := cell_atE hO.out 1 rfl (by rw [zap_length, hzl.out]) t htl
              obtain ⟨U, hU⟩ : ∃ U, (zap zs A j).getD t 0 = U := ⟨_, rfl⟩
              rw [hU] at cK
              have hO2 := hO.out.store 1 rfl t (.int .u64 0)
              rw [show (Value.int .u64 0) = wv 0 from rfl, ← List.map_set, ← ht, ← zap_succ, ht] at hO2
              have HO2 := Lib.hid hO2
              have wj : IntKind.i64.wrap ((j : Int) + 1) = (j : Int) + 1 := IntWalk.i64_in _ ⟨by omega, by omega⟩
              clear hO hO2 hU ht
              go_wp2
              go_roundw
              case rel => exact ⟨j + 1, by omega, by go_num, HO2⟩
              case measure => simp [intOf]; omega
            · as_aux_lemma =>
              have hjn' : ¬ (j : Int) < 208 := by omega
              have hfin := hO.out
              rw [show j = 208 from by omega, ← Hnx.out] at hfin
              have hfin := Lib.hid hfin
              clear hO hj hjn
              go_wp2
              go_roundw
              case rel => exact ⟨k + 1, by omega, by go_num, hfin⟩
              case measure => simp [intOf]; omega
        · have hlt' : ¬ (k : Int) < (a : Int) := by omega
          obtain rfl : a = k := by omega
          have hrow := Own.row hO.out 1 rfl
          have hnew := Own.rowNew hO.out 1 rfl
          have hfin : RowOf base (zapS (aplS (a : Int) (b : Int) (c : Int) xs a) a) w (.returned (.slice (some ⟨p, 0, none⟩) l cp)) wr := by rw [Hys.out]; exact ⟨some ⟨p, 0, none⟩, cp, by rw [zapS_length, hyl.out], by rw [zapS_length, hyl.out]; exact row_base hrow (fun i hi => Nat.le_trans Hb.out (hnew i hi)), hO.out.grown⟩
          have hfin := Lib.hid hfin
          clear hrow hnew hO
          go_wp2
          go_ret
          exact hfin.out
end Go.Proofs.YtpdofdloclmbdaaGreat
end
