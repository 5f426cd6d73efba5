/- Texts of ours, packed. -/
import Derived.Deep.DeepCutAuto
import Derived.BigQuiet
import Derived.Deep.QuietTactic
import Derived.StillTailTactics
import Derived.Test.YtkalglcbmfhdfaaPk16
import Derived.Test.YtkalglcbmfhdfaaPk4
section
/- Package commit: committed. -/
-- OPTIONAL
namespace Go.Proofs.Ytkalglcbmfhdfaa
open Go.RowKit Go.Grommet

def restL (xs : List Nat) (A : Nat) : List Nat := (xs.drop (A + 8)).take 200
/-- Is an area committed? -/
def commB (a b c : Int) (xs : List Nat) (A : Nat) : Bool := !decide (xs.getD A 0 = 0) && decide (xs.getD A 0 = markV (restL xs A)) && readB a b c (restL xs A)
def commM (xs : List Nat) (A : Nat) : List (Int × Nat) := writesR (restL xs A) ((restL xs A).getD 0 0)
theorem words_mid {w : World} {q o l F K : Nat} {xs : List Nat} (h : Words w (some ⟨q, o, none⟩) l xs) (lo : Nat) (hF : o + lo = F) (hK : lo + K ≤ l) : Words w (some ⟨q, F, none⟩) K ((xs.drop lo).take K) := by
  refine ⟨by rw [List.length_take, List.length_drop, h.len]; omega, fun m hm => h.small m (List.mem_of_mem_drop (List.mem_of_mem_take hm)), ?_, by have := h.fits; omega⟩
  intro j u hu
  rw [List.map_take, List.getElem?_take, List.map_drop, List.getElem?_drop] at hu
  by_cases hj : j < K
  · rw [if_pos hj] at hu
    obtain ⟨g, o', he, hc⟩ := h.at_ (lo + j) u hu
    cases he
    exact ⟨q, F, rfl, by rw [← hF, Nat.add_assoc]; exact hc⟩
  · rw [if_neg hj] at hu; cases hu
def CommIs (base : Nat) (a b c : Int) (xs : List Nat) (A : Nat) (w : World) (e : Ending) (w' : World) : Prop :=
  (commB a b c xs A = true ∧ ∃ ad cap n, e = .returned (.tuple #[.slice ad n cap, .bool true]) ∧ n = (commM xs A).length ∧ w'.ownsRow base 62 2 (.slice ad n cap) n (icells (commM xs A)) ∧ w.grownBy w' none) ∨
  (commB a b c xs A = false ∧ e = .returned (.tuple #[.slice none 0 0, .bool false]) ∧ w.grownBy w' none)
def GeoQ (G : Nat) (a b c : Int) (w : World) : Prop := w.heap[G]? = some (.cells #[.int .i64 a, .int .i64 b, .int .i64 c] 23 (0, 0))
theorem GeoQ.keep {G : Nat} {a b c : Int} {w w' : World} (h : GeoQ G a b c w) (hg : w.grownBy w' none) : GeoQ G a b c w' := (hg.block G (lt_of_block h) (by simp)).trans h
theorem GeoQ.cells {G : Nat} {a b c : Int} {w : World} (h : GeoQ G a b c w) : w.cell? ⟨G, 0, none⟩ = some (.int .i64 a) ∧ w.cell? ⟨G, 1, none⟩ = some (.int .i64 b) ∧ w.cell? ⟨G, 2, none⟩ = some (.int .i64 c) := by
  unfold GeoQ at h
  simp [World.cell?, h]

set_option maxRecDepth 100000 in
set_option maxHeartbeats 2000000 in
theorem committed_any (base : Nat) (a b c : Int) (q o l cap : Nat) (xs : List Nat) (A : Nat) (w : World) (hx : Words w (some ⟨q, o, none⟩) l xs) (hlc : l ≤ cap) (hA : A + 208 ≤ l) (hl : l ≤ 1000000) (hb : base ≤ w.heap.size) :
    Calls Try.prog 54 #[gv a b c, .slice (some ⟨q, o, none⟩) l cap, .int .i64 (A : Int)] w (CommIs base a b c xs A w) := by
  obtain ⟨w1, hw1⟩ : ∃ w1, w.alloc (.cells #[.int .i64 a, .int .i64 b, .int .i64 c] 23) = w1 := ⟨_, rfl⟩
  obtain ⟨G, hG⟩ : ∃ G, w.heap.size = G := ⟨_, rfl⟩
  have hg1 : w.grownBy w1 none := by rw [← hw1]; exact World.grownBy_alloc _ _ _
  have hgq : GeoQ G a b c w1 := by rw [← hw1, ← hG]; exact heap_alloc_new w _
  have hx1 := hx.keep hg1 (by simp)
  obtain ⟨lo, hlo⟩ : ∃ lo, A + 8 = lo := ⟨_, rfl⟩
  obtain ⟨hi, hhi⟩ : ∃ hi, A + 208 = hi := ⟨_, rfl⟩
  obtain ⟨C, hC⟩ : ∃ C, cap = lo + C := ⟨cap - lo, by omega⟩
  obtain ⟨F, hF⟩ : ∃ F, o + lo = F := ⟨_, rfl⟩
  have hsl := fun wx => slice_mid (P := Try.prog) 52 55 Try.underlying52 Try.sizeOf55 q o l cap lo hi 200 C F (by omega) hC (by omega) (by omega) hF wx
  have hr1 : Words w1 (some ⟨q, F, none⟩) 200 (restL xs A) := by
    unfold restL
    rw [hlo]
    exact words_mid hx1 lo hF (by omega)
  obtain ⟨q', o', he, hc0⟩ := hx1.cell A (by omega)
  cases he
  have wlo : IntKind.i64.wrap ((A : Int) + 8) = (lo : Int) := by rw [IntWalk.i64_in _ ⟨by omega, by omega⟩]; omega
  have whi : IntKind.i64.wrap ((A : Int) + 208) = (hi : Int) := by rw [IntWalk.i64_in _ ⟨by omega, by omega⟩]; omega
  have A0 : (0 : Int) ≤ (A : Int) := by omega
  have Al : (A : Int) < (l : Int) := by omega
  obtain ⟨m, Hm⟩ : ∃ m, Hid (m = xs.getD A 0) := ⟨_, Lib.hid rfl⟩
  rw [← Hm.out] at hc0
  obtain ⟨mk, Hmk⟩ : ∃ mk, Hid (mk = markV (restL xs A)) := ⟨_, Lib.hid rfl⟩
  have HMk := Lib.hid (fun wx (hg : w1.grownBy wx none) => Mark_any (some ⟨q, F, none⟩) 200 C (restL xs A) wx (hr1.keep hg (by simp)) (by omega))
  have HRd := Lib.hid (fun wx (hg : w1.grownBy wx none) => Read_any base a b c (some ⟨q, F, none⟩) 200 C (restL xs A) wx (hr1.keep hg (by simp)) (by omega) (Nat.le_trans hb (grown_trans hg1 hg).size))
  rw [← Hmk.out] at HMk
  have Hb : Hid (commB a b c xs A = (!decide (m = 0) && decide (m = mk) && readB a b c (restL xs A))) := Lib.hid (by rw [Hm.out, Hmk.out]; rfl)
  have HGq := Lib.hid hgq
  have Hg1 := Lib.hid hg1
  clear hx hx1 hr1 hgq hg1 hlo hhi hC hlc hA hb hF
  unfold gv at HRd ⊢
  go_enter Try.func54, Try.ntmps54
  go_upto_region 1 with fail
  clear hw1 hG
  go_wp2_with fail
  go_quiet (fail)
  by_cases hm0 : m = 0
  · have q0 : ((m : Int) == 0) = true := by rw [hm0]; rfl
    have hbf : commB a b c xs A = false := by rw [Hb.out, hm0]; rfl
    clear hm0
    go_wp2
    go_ret2
    exact .inr ⟨hbf, rfl, grown_trans Hg1.out (grown_drewN _ _ _)⟩
  · have q0 : ((m : Int) == 0) = false := by rw [beq_eq_false_iff_ne]; omega
    go_wp2_with fail
    refine (HMk.out _ (grown_drewN _ _ _)).mono ?_
    rintro e w2 ⟨rfl, hg2⟩
    have hgw := Lib.hid (grown_trans (grown_drewN w1 _ none) hg2)
    clear hg2 HMk
    by_cases hmk : m = mk
    · have q1 : ((m : Int) != (mk : Int)) = false := by rw [hmk]; simp
      have HRd2 := Lib.hid (HRd.out _ hgw.out)
      obtain ⟨f0, f1, f2⟩ := (HGq.out.keep hgw.out).cells
      have Hd : Hid (commB a b c xs A = readB a b c (restL xs A)) := Lib.hid (by rw [Hb.out]; simp [hmk]; omega)
      clear hmk
      go_wp2_with fail
      refine HRd2.out.mono ?_
      rintro e w3 hR
      have hg13 := fun (hg : w2.grownBy w3 none) => grown_trans Hg1.out (grown_trans hgw.out hg)
      clear f0 f1 f2 HRd2 HRd
      rcases hR with ⟨hy, ad, cp, rfl, hrow, hg3⟩ | ⟨hn, rfl, hg3⟩
      · have hfin : CommIs base a b c xs A w (.returned (.tuple #[.slice ad ((restL xs A).getD 0 0) cp, .bool true])) w3 := .inl ⟨by rw [Hd.out]; exact hy, ad, cp, _, rfl, by unfold commM; rw [writesR_length], hrow, hg13 hg3⟩
        have hfin := Lib.hid hfin
        obtain ⟨n, hn⟩ : ∃ n, (restL xs A).getD 0 0 = n := ⟨_, rfl⟩
        rw [hn] at hfin ⊢
        clear hrow hg3 hg13 hy hn
        go_wp2
        go_ret2
        exact hfin.out
      · have hfin : CommIs base a b c xs A w (.returned (.tuple #[.slice none 0 0, .bool false])) w3 := .inr ⟨by rw [Hd.out]; exact hn, rfl, hg13 hg3⟩
        have hfin := Lib.hid hfin
        clear hg3 hg13 hn
        go_wp2
        go_ret2
        exact hfin.out
    · have q1 : ((m : Int) != (mk : Int)) = true := by rw [bne_iff_ne]; omega
      have hfin : CommIs base a b c xs A w (.returned (.tuple #[.slice none 0 0, .bool false])) w2 := .inr ⟨by rw [Hb.out]; simp [hmk], rfl, grown_trans Hg1.out hgw.out⟩
      have hfin := Lib.hid hfin
      clear hmk hgw
      go_wp2
      go_ret2
      exact hfin.out
end Go.Proofs.Ytkalglcbmfhdfaa
end
section
/- Package commit: Over. -/
-- OPTIONAL
namespace Go.Proofs.Ytkalglcbmfhdfaa
open Go.RowKit Go.Grommet

theorem stand_in {a b c x : Int} (hm : mayB a b c = true) (h : standB a b c x = true) : (0 ≤ x ∧ x < 280 + 208 * a + 16 * b + 8 * c) ∧ ¬ (264 ≤ x ∧ x < 264 + 208 * a) := by
  unfold standB at h
  have h' := of_decide_eq_true h
  refine ⟨?_, ?_⟩
  · by_cases hx : x < 0 ∨ 280 + 208 * a + 16 * b + 8 * c ≤ x
    · rw [wh_zero (.inr hx)] at h'
      exact absurd rfl h'.1
    · omega
  · intro hx
    rw [wh_area hm ((x - 264) / 208) (by omega) (by omega) (by omega)] at h'
    exact absurd rfl h'.2.2
theorem getD_small {xs : List Nat} (h : ∀ n ∈ xs, n < 18446744073709551616) (i : Nat) : xs.getD i 0 < 18446744073709551616 := by
  rw [List.getD_eq_getElem?_getD]
  cases e : xs[i]? with
  | none => simp
  | some v => exact h v (List.mem_of_getElem? e)
theorem comm_ok {a b c : Int} {xs : List Nat} {A : Nat} (hm : mayB a b c = true) (h : commB a b c xs A = true) : ∀ p ∈ commM xs A, (0 ≤ p.1 ∧ p.1 < 280 + 208 * a + 16 * b + 8 * c) ∧ ¬ (264 ≤ p.1 ∧ p.1 < 264 + 208 * a) := by
  unfold commB readB mayW at h
  simp only [Bool.and_eq_true, decide_eq_true_eq] at h
  have hp := h.2.2.2.2
  intro p hq
  obtain ⟨i, hi, rfl⟩ := List.getElem_of_mem hq
  have := (hp i hi).1
  unfold commM at *
  rw [List.getD_eq_getElem?_getD, List.getElem?_eq_getElem hi] at this
  exact stand_in hm this
theorem comm_small {xs : List Nat} (A : Nat) (h : ∀ n ∈ xs, n < 18446744073709551616) : ∀ p ∈ commM xs A, p.2 < 18446744073709551616 := by
  intro p hp
  unfold commM writesR at hp
  obtain ⟨i, _, rfl⟩ := List.mem_map.1 hp
  exact getD_small (fun n hn => h n (List.mem_of_mem_drop (List.mem_of_mem_take hn))) _

/-- What Over makes, worker by worker. -/
def overS (a b c : Int) (xs : List Nat) : Nat → List Nat
  | 0 => xs
  | k + 1 => zap (if commB a b c xs (264 + 208 * k) = true then appl (overS a b c xs k) (commM xs (264 + 208 * k)) else overS a b c xs k) (264 + 208 * k) 208
theorem overS_length (a b c : Int) (xs : List Nat) : ∀ k, (overS a b c xs k).length = xs.length
  | 0 => rfl
  | k + 1 => by
    rw [overS, zap_length]
    split
    · rw [appl_length]; exact overS_length a b c xs k
    · exact overS_length a b c xs k

end Go.Proofs.Ytkalglcbmfhdfaa
end
