/- ViewApplies, walked. -/
import Derived.Test.YtdohnfiaiganbaaViewK
import Derived.Test.YtdohnfiaiganbaaWrts
namespace Go.Proofs.Ytdohnfiaiganbaa.viewApplies
open Go.RowKit Go.Grommet

def wrt (s : Wrt) : Int × Nat := (s.ad, s.vv.toNat)
theorem icells_length : ∀ L : List (Int × Nat), (icells L).length = L.length * 2
  | [] => rfl
  | p :: t => by simp [icells, icells_length t]; omega
theorem at_wrts {w : World} {a : Option Addr} {len : Nat} {L : List Wrt} (h : WrtsIn w a len L) : At w a (icells (L.map wrt)) := by
  intro j u hu
  have hj := (List.getElem?_eq_some_iff.1 hu).1
  rw [icells_length, List.length_map] at hj
  obtain ⟨s, hs⟩ : ∃ s, L[j / 2]? = some s := ⟨_, List.getElem?_eq_getElem (by omega)⟩
  obtain ⟨g, o, ha, h0, h1⟩ := h.2.2 _ s hs
  have bv := bounds_u64 (h.2.1 s (List.mem_of_getElem? hs)).2
  have hi := icells_at (L.map wrt) (j / 2) (by rw [List.length_map]; omega)
  have hd : (L.map wrt).getD (j / 2) (0, 0) = wrt s := by rw [List.getD_eq_getElem?_getD, List.getElem?_map, hs]; rfl
  rw [hd] at hi
  refine ⟨g, o, ha, ?_⟩
  rcases Nat.mod_two_eq_zero_or_one j with e | e
  · have ej : j = j / 2 * 2 := by omega
    rw [ej, hi.1] at hu
    cases hu
    rw [ej]
    exact h0
  · have ej : j = j / 2 * 2 + 1 := by omega
    rw [ej, hi.2] at hu
    cases hu
    rw [ej, ← Nat.add_assoc, h1]
    show _ = some (Value.int .u64 (s.vv.toNat : Int))
    rw [Int.toNat_of_nonneg bv.1]

set_option maxHeartbeats 1000000 in
theorem walk_far1 (a0 : Option Addr) (l0 c0 : Nat) (a1 : Option Addr) (l1 c1 : Nat) (w : World) (h : 1000 < l0) :
    Calls Try.prog 4 #[.slice a0 l0 c0, .slice a1 l1 c1] w (WorksIs w) := by
  have g1 : (1000 : Int) < (l0 : Int) := by omega
  go_enter Try.func4, Try.ntmps4
  go_wp2_with fail
  refine (works_any _).mono ?_
  rintro e w5 ⟨rfl, hg⟩
  go_wp2
  go_ret
  exact ⟨rfl, hg⟩
set_option maxHeartbeats 1000000 in
theorem walk_far2 (a0 : Option Addr) (l0 c0 : Nat) (a1 : Option Addr) (l1 c1 : Nat) (w : World) (h0 : ¬ 1000 < l0) (h : 300 < l1) :
    Calls Try.prog 4 #[.slice a0 l0 c0, .slice a1 l1 c1] w (WorksIs w) := by
  have g0 : ¬ (1000 : Int) < (l0 : Int) := by omega
  have g1 : (300 : Int) < (l1 : Int) := by omega
  go_enter Try.func4, Try.ntmps4
  go_wp2_with fail
  refine (works_any _).mono ?_
  rintro e w5 ⟨rfl, hg⟩
  go_wp2
  go_ret
  exact ⟨rfl, hg⟩

set_option maxRecDepth 100000 in
set_option maxHeartbeats 4000000 in
theorem walk_at (a0 : Option Addr) (l0 c0 : Nat) (xs : List Nat) (a1 : Option Addr) (l1 c1 : Nat) (M : List (Int × Nat)) (w : World) (hx : Words w a0 l0 xs) (hnil : a0 = none → l0 = 0 ∧ c0 = 0) (hat : At w a1 (icells M)) (hM : M.length = l1) (hv : ∀ p ∈ M, p.2 < 18446744073709551616)
    (h0 : ¬ 1000 < l0) (h1 : ¬ 300 < l1) :
    Calls Try.prog 4 #[.slice a0 l0 c0, .slice a1 l1 c1] w (WorksIs w) := by
  have b0 : ¬ (1000 : Int) < (l0 : Int) := by omega
  have b1 : ¬ (300 : Int) < (l1 : Int) := by omega
  have HX := Lib.hid hx.len
  have HM := Lib.hid hM
  have hold : ∀ a, a1 = some a → M ≠ [] → a.block < w.heap.size := fun a ha hx => old_block hat (fun e => hx (by cases M with | nil => rfl | cons p t => simp [icells] at e)) a ha
  clear hM
  go_enter Try.func4, Try.ntmps4
  go_wp2_with (at_builtin; refine app64 rfl _ _ rfl w.heap.size _ 0 [] rfl (own_lit w _ 1 _ (Nat.le_refl _)) a0 l0 c0 xs rfl ?a1 hnil ?a2 ?a3 ?_)
  case a1 => exact hx.keep (World.grownBy_alloc w _ none) (by simp)
  case a2 => omega
  try case a3 => simp
  intro v1 u1 hown hg
  have hg := grown_new (World.grownBy_alloc w _ none) hg (by intro g e; cases e; exact Nat.le_refl _)
  try rw [List.nil_append, Nat.zero_add] at hown
  obtain ⟨ad2, cp2, rfl, hcl⟩ := row_slice hown
  clear hcl
  have hO : Own w u1 [rowP 29 1 (.slice ad2 l0 cp2) l0 (xs.map wv)] := (Own.nil w).addRow hown hg
  clear hown hg
  go_wp2_with (at_builtin; refine app64 rfl _ _ rfl u1.heap.size _ 0 [] rfl (own_lit u1 _ 1 _ (Nat.le_refl _)) a0 l0 c0 xs rfl ?b1 hnil ?b2 ?b3 ?_)
  case b1 => exact (hx.keep hO.grown (by simp)).keep (World.grownBy_alloc u1 _ none) (by simp)
  case b2 => omega
  try case b3 => simp
  intro v1 u2 hown hg
  have hg := grown_new (World.grownBy_alloc u1 _ none) hg (by intro g e; cases e; exact Nat.le_refl _)
  try rw [List.nil_append, Nat.zero_add] at hown
  obtain ⟨ad3, cp3, rfl, hcl⟩ := row_slice hown
  clear hcl
  have hO : Own w u2 [rowP 29 1 (.slice ad2 l0 cp2) l0 (xs.map wv), rowP 29 1 (.slice ad3 l0 cp3) l0 (xs.map wv)] := hO.addRow hown hg
  clear hown hg
  have hs := Lib.hid hx.small
  cases hok : okI l0 M with
  | true =>
    have HO := Lib.hid hok
    clear hok
    have HA := Lib.hid (ApplyH 0 ad2 l0 cp2 xs a1 l1 c1 M w u2 _ _ hO rfl HX.out (hat.grown hO.grown (by simp)) HM.out (by omega) HO.out (fun a ha hx e => by have := Own.rowNew hO 0 rfl _ e; have := hold a ha hx; omega) rfl)
    clear hO
    go_wp2_with fail
    refine HA.out.mono ?_
    rintro e u3 ⟨rfl, hO⟩
    clear HA
    have hO : Own w u3 [rowP 29 1 (.slice ad2 l0 cp2) l0 ((flatV xs (natL M)).map wv), rowP 29 1 (.slice ad3 l0 cp3) l0 (xs.map wv)] := hO
    have HA := Lib.hid (RefApplyH 1 ad3 l0 cp3 xs a1 l1 c1 M w u3 _ _ hO rfl HX.out (hat.grown hO.grown (by simp)) HM.out (by omega) HO.out (fun a ha hx e => by have := Own.rowNew hO 1 rfl _ e; have := hold a ha hx; omega) rfl)
    clear hO
    go_wp2_with fail
    refine HA.out.mono ?_
    rintro e u4 ⟨rfl, hO⟩
    clear HA
    have hO : Own w u4 [rowP 29 1 (.slice ad2 l0 cp2) l0 ((flatV xs (natL M)).map wv), rowP 29 1 (.slice ad3 l0 cp3) l0 ((flatV xs (natL M)).map wv)] := hO
    have hsm : ∀ n ∈ flatV xs (natL M), n < 18446744073709551616 := flatV_small hs.out (fun p hp => by obtain ⟨q, hq, rfl⟩ := List.mem_map.1 hp; exact hv q hq)
    obtain ⟨hwa, _, _⟩ := Own.words hO 0 rfl hsm (by omega)
    obtain ⟨hwb, _, _⟩ := Own.words hO 1 rfl hsm (by omega)
    have HS := Lib.hid (Same_any ad2 ad3 l0 l0 cp2 cp3 _ _ u4 hwa hwb)
    rw [decide_eq_true rfl] at HS
    have hg := hO.grown
    clear hwa hwb hO hsm
    go_wp2_with fail
    refine HS.out.mono ?_
    rintro e u5 ⟨rfl, hg8⟩
    have hg := grown_trans hg hg8
    clear HS hg8
    go_wp2_with fail
    refine (works_any _).mono ?_
    rintro e u7 ⟨rfl, hg7⟩
    go_wp2
    go_ret
    exact ⟨rfl, grown_trans hg hg7⟩
  | false =>
    have HO := Lib.hid hok
    clear hok
    have HA := Lib.hid (Apply_no ad2 l0 cp2 a1 l1 c1 M u2 (hat.grown hO.grown (by simp)) HM.out (by omega) HO.out)
    replace hO := Lib.hid hO
    go_wp2_with fail
    refine HA.out.mono ?_
    rintro e u3 ⟨rfl, hg3⟩
    clear HA
    replace hO := hO.out.quiet hg3
    have HA := Lib.hid (RefApply_no ad3 l0 cp3 a1 l1 c1 M u3 (hat.grown hO.grown (by simp)) HM.out (by omega) HO.out)
    replace hO := Lib.hid hO
    clear hg3
    go_wp2_with fail
    refine HA.out.mono ?_
    rintro e u4 ⟨rfl, hg4⟩
    clear HA
    replace hO := hO.out.quiet hg4
    obtain ⟨hwa, _, _⟩ := Own.words hO 0 rfl hs.out (by omega)
    obtain ⟨hwb, _, _⟩ := Own.words hO 1 rfl hs.out (by omega)
    have HS := Lib.hid (Same_any ad2 ad3 l0 l0 cp2 cp3 _ _ u4 hwa hwb)
    rw [decide_eq_true rfl] at HS
    have hg := hO.grown
    clear hwa hwb hO hg4
    go_wp2_with fail
    refine HS.out.mono ?_
    rintro e u5 ⟨rfl, hg8⟩
    have hg := grown_trans hg hg8
    clear HS hg8
    go_wp2_with fail
    refine (works_any _).mono ?_
    rintro e u7 ⟨rfl, hg7⟩
    go_wp2
    go_ret
    exact ⟨rfl, grown_trans hg hg7⟩

theorem walk (a0 : Option Addr) (l0 c0 : Nat) (z0 : List Int) (a1 : Option Addr) (l1 c1 : Nat) (z1 : List Wrt) (w : World) (w0 : RowIn .u64 w a0 l0 c0 z0) (w1 : WrtsIn w a1 l1 z1) :
    Calls Try.prog 4 #[.slice a0 l0 c0, .slice a1 l1 c1] w (WorksIs w) := by
  obtain ⟨xs, hx⟩ := rowIn_words w0
  by_cases h0 : 1000 < l0
  · exact walk_far1 a0 l0 c0 a1 l1 c1 w h0
  · by_cases h1 : 300 < l1
    · exact walk_far2 a0 l0 c0 a1 l1 c1 w h0 h1
    · exact walk_at a0 l0 c0 xs a1 l1 c1 (z1.map wrt) w hx (fun e => w0.nil e) (at_wrts w1) (by rw [List.length_map]; exact w1.1)
        (fun p hp => by obtain ⟨q, hq, rfl⟩ := List.mem_map.1 hp; have := bounds_u64 (w1.2.1 q hq).2; show q.vv.toNat < _; omega) h0 h1
end Go.Proofs.Ytdohnfiaiganbaa.viewApplies
