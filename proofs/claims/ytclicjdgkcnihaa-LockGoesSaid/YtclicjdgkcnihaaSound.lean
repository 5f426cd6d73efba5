/- LockGoes: what the law asks of a table at any time holds. -/
import Derived.Test.YtclicjdgkcnihaaLoqW
import Derived.Test.YtclicjdgkcnihaaSndA
import Derived.Test.YtclicjdgkcnihaaSndB
import Derived.Test.YtclicjdgkcnihaaSndC
import Derived.Test.YtclicjdgkcnihaaSndD
import Derived.Deep.RegionHeld
import Derived.Deep.CutBlock
import Derived.Deep.DeepCutAuto
import Derived.BigQuiet
import Derived.Deep.QuietTactic
namespace Go.Proofs.Ytclicjdgkcnihaa
open Go.RowKit Go.Grommet

def hboxP (H : Nat) (g : Nat → Int) : Pr := boxP H 56 (arrH g)
theorem hold_cell {w0 w : World} {X m H i : Nat} {f g : Nat → Int} {q : Nat → Value} {ql : Nat → List Nat} {Rs Qs : List Pr} (h : Grommet.Own w0 w (TQ X m f q ql (Rs ++ [hboxP H g] ++ Qs))) (hi : i < 70) :
    w.cell? ⟨H, i, none⟩ = some (.int .i64 (g i)) ∧ w.frozen? ⟨H, i, none⟩ = false := by
  have hb := h.box (71 + Rs.length) (by rw [TQ_rest, List.append_assoc, List.getElem?_append_right (Nat.le_refl _), Nat.sub_self]; rfl)
  have := arrH_get g i hi
  exact ⟨by simp [World.cell?, hb, this], by simp [World.frozen?, hb]⟩
theorem hold_put {w0 w : World} {X m H i : Nat} {f g : Nat → Int} {q : Nat → Value} {ql : Nat → List Nat} {Rs Qs : List Pr} (h : Grommet.Own w0 w (TQ X m f q ql (Rs ++ [hboxP H g] ++ Qs))) (v : Int) :
    Grommet.Own w0 (w.setCell ⟨H, i, none⟩ (.int .i64 v)) (TQ X m f q ql (Rs ++ [hboxP H (seth g i v)] ++ Qs)) := by
  have hs := own_store_box h (71 + Rs.length) (by rw [TQ_rest, List.append_assoc, List.getElem?_append_right (Nat.le_refl _), Nat.sub_self]; rfl) i (.int .i64 v)
  rw [arrH_set, TQ_setR, List.append_assoc, List.set_append_right _ _ (Nat.le_refl _), Nat.sub_self] at hs
  rw [List.append_assoc]
  exact hs
theorem row_at (X m : Nat) (f : Nat → Int) (q : Nat → Value) (ql : Nat → List Nat) (Rs : List Pr) (H : Nat) (g : Nat → Int) (P : Pr) : (TQ X m f q ql (Rs ++ [hboxP H g] ++ [P]))[71 + (Rs.length + 1)]? = some P := by
  rw [TQ_rest, List.getElem?_append_right (by simp)]
  simp
/-- What stands in the law's array when it has gone through the workers below a. -/
def SeenBy (f : Nat → Int) (a : Nat) (g : Nat → Int) : Prop := ∀ i, i < 70 → g i = if 0 ≤ f i ∧ f i < (a : Int) then f i + 1 else 0
/-- .. and through the first k locks of worker a. -/
def SeenIn (f : Nat → Int) (a k : Nat) (g : Nat → Int) : Prop := ∀ i, i < 70 → g i = if i ∈ (heldL f a 70).take k then (a : Int) + 1 else if 0 ≤ f i ∧ f i < (a : Int) then f i + 1 else 0
theorem SeenIn.start {f : Nat → Int} {a : Nat} {g : Nat → Int} (h : SeenBy f a g) : SeenIn f a 0 g := fun i hi => by rw [List.take_zero, if_neg (by simp)]; exact h i hi
theorem SeenIn.done {f : Nat → Int} {a k : Nat} {g : Nat → Int} (h : SeenIn f a k g) (hk : (heldL f a 70).length ≤ k) : SeenBy f (a + 1) g := fun i hi => by
  rw [h i hi, List.take_of_length_le hk]
  by_cases e : f i = (a : Int)
  · rw [if_pos (mem_heldL.2 ⟨hi, e⟩), if_pos ⟨by omega, by omega⟩, e]
  · rw [if_neg (fun hm => e (mem_heldL.1 hm).2)]
    by_cases c : 0 ≤ f i ∧ f i < (a : Int)
    · rw [if_pos c, if_pos ⟨c.1, by omega⟩]
    · rw [if_neg c, if_neg (fun c' => c ⟨c'.1, by omega⟩)]
theorem SeenIn.zero {f : Nat → Int} {a k x : Nat} {g : Nat → Int} (h : SeenIn f a k g) (hx : (heldL f a 70)[k]? = some x) : g x = 0 := by
  obtain ⟨h1, h2⟩ := heldL_get hx
  rw [h x h1, if_neg, if_neg (by omega)]
  intro hm
  obtain ⟨j, hj⟩ := List.getElem?_of_mem hm
  have hjl := (List.getElem?_eq_some_iff.1 hj).1
  rw [List.length_take] at hjl
  rw [List.getElem?_take, if_pos (by omega)] at hj
  have := heldL_lt hj hx (by omega)
  omega
theorem SeenIn.step {f : Nat → Int} {a k x : Nat} {g : Nat → Int} (h : SeenIn f a k g) (hx : (heldL f a 70)[k]? = some x) : SeenIn f a (k + 1) (seth g x ((a : Int) + 1)) := fun i hi => by
  rw [List.take_add_one, hx]
  unfold seth
  by_cases e : i = x
  · subst e; rw [if_pos rfl, if_pos (by simp)]
  · rw [if_neg e, h i hi]
    by_cases c : i ∈ (heldL f a 70).take k
    · rw [if_pos c, if_pos (List.mem_append_left _ c)]
    · have hn : ¬ i ∈ (heldL f a 70).take k ++ (some x).toList := by
        intro hm
        rcases List.mem_append.1 hm with hm | hm
        · exact c hm
        · exact e (by simpa using hm)
      rw [if_neg c, if_neg hn]
def SomeW (ql : Nat → List Nat) (a : Nat) (S : Bool) : Prop := S = true ↔ ∃ b, b < a ∧ (waitF ql b).isSome = true
def GoesW (f : Nat → Int) (ql : Nat → List Nat) (a : Nat) (G : Bool) : Prop := G = true ↔ ∃ b, b < a ∧ waitF ql b = none ∧ heldL f b 70 ≠ []
theorem some_goes {m : Nat} {f : Nat → Int} {ql : Nat → List Nat} (h : Inv m f ql) {S G : Bool} (hS : SomeW ql m S) (hG : GoesW f ql m G) : S = true → G = true := by
  intro hs
  obtain ⟨b, _, hw⟩ := hS.1 hs
  obtain ⟨k, hk, hin⟩ := waits_iff.1 hw
  obtain ⟨g, k', _, h2, h3, h4, _, h6⟩ := h.pend hk (by intro e; rw [e] at hin; cases hin)
  exact hG.2 ⟨g, h2, h6, fun e => by have := mem_heldL.2 ⟨h3, h4⟩; rw [e] at this; cases this⟩
theorem SomeW.step {ql : Nat → List Nat} {a : Nat} {S : Bool} (h : SomeW ql a S) : SomeW ql (a + 1) (S || (waitF ql a).isSome) := by
  unfold SomeW at *
  rw [Bool.or_eq_true, h]
  constructor
  · rintro (⟨b, h1, h2⟩ | h2)
    · exact ⟨b, by omega, h2⟩
    · exact ⟨a, by omega, h2⟩
  · rintro ⟨b, h1, h2⟩
    rcases Nat.lt_succ_iff_lt_or_eq.1 h1 with h3 | rfl
    · exact .inl ⟨b, h3, h2⟩
    · exact .inr h2
theorem GoesW.step {f : Nat → Int} {ql : Nat → List Nat} {a : Nat} {G : Bool} (h : GoesW f ql a G) : GoesW f ql (a + 1) (G || (!(waitF ql a).isSome && decide (0 < (heldL f a 70).length))) := by
  unfold GoesW at *
  rw [Bool.or_eq_true, h, Bool.and_eq_true, Bool.not_eq_true', decide_eq_true_eq]
  constructor
  · rintro (⟨b, h1, h2⟩ | ⟨h2, h3⟩)
    · exact ⟨b, by omega, h2⟩
    · exact ⟨a, by omega, by simpa using h2, by intro e; rw [e] at h3; simp at h3⟩
  · rintro ⟨b, h1, h2, h3⟩
    rcases Nat.lt_succ_iff_lt_or_eq.1 h1 with h4 | rfl
    · exact .inl ⟨b, h4, h2, h3⟩
    · exact .inr ⟨by rw [h2]; rfl, List.length_pos_iff.2 h3⟩

set_option maxRecDepth 100000 in
set_option maxHeartbeats 8000000 in
theorem Sound_any (X m : Nat) (f : Nat → Int) (q : Nat → Value) (ql : Nat → List Nat) (w0 w : World) (Rs : List Pr) (h : Grommet.Own w0 w (TQ X m f q ql Rs)) (hI : Inv m f ql) (hm : m ≤ 4) :
    Calls Try.prog 11 #[tptr X, .int .i64 (m : Int)] w fun e w' => e = .returned (.bool true) ∧ Grommet.Own w0 w' (TQ X m f q ql Rs) := by
  have hO1 : Hid (Grommet.Own w0 (w.alloc (.cells (arrH (fun _ => 0)) 56)) (TQ X m f q ql (Rs ++ [hboxP w.heap.size (fun _ => 0)]))) := Lib.hid (by
    have := h.addBox 56 (arrH (fun _ => 0))
    rw [TQ_app] at this
    exact this)
  obtain ⟨H, hH⟩ : ∃ H, w.heap.size = H := ⟨_, rfl⟩
  rw [hH] at hO1
  have HI := Lib.hid hI
  have Hm := Lib.hid hm
  have HW := Lib.hid (fun (wx : World) (Qs : List Pr) (hO : Grommet.Own w0 wx (TQ X m f q ql Qs)) a (ha : a < m) => WaitsInv X m a f q ql w0 wx Qs hO hI ha hm)
  have HH := Lib.hid (fun (wx : World) (Qs : List Pr) (hO : Grommet.Own w0 wx (TQ X m f q ql Qs)) a (ha : a < m) => HeldH 0 X m a f q w0 wx _ hO rfl ha)
  have m4 : (m : Int) ≤ 4 := by omega
  unfold tptr at HW HH ⊢
  clear h hI
  go_enter Try.func11, Try.ntmps11
  go_upto_region 4 with fail
  obtain ⟨Z, hZ0, hZ⟩ : ∃ Z, Z = arrH (fun _ => 0) ∧ Sem.run Try.prog (zeroValue 56) w = .ok (.agg Z) w := ⟨_, rfl, zeroH w⟩
  have hne : ¬ Z = #[] := by intro e; have := congrArg Array.size e; rw [hZ0, arrH_size] at this; simp at this
  have hsz : Z.size = 70 := by rw [hZ0, arrH_size]
  rw [hZ]
  clear hZ
  go_upto_region 4 with fail
  generalize hW3 : World.alloc _ _ = W3
  have hO3 : Hid (Grommet.Own w0 W3 (TQ X m f q ql (Rs ++ [hboxP H (fun _ => 0)]))) := Lib.hid (by rw [← hW3]; exact hO1.out)
  clear hO1 hW3 hH hne hsz hZ0 Z
  go_wp2_with fail
  go_loopw [5, 6, 8] (fun s t c wr => ∃ (a : Nat) (S G : Bool) (g : Nat → Int), a ≤ m ∧ c = .int .i64 (a : Int) ∧ s = .bool S ∧ t = .bool G ∧ Hid (SomeW ql a S) ∧ Hid (GoesW f ql a G) ∧ Hid (SeenBy f a g) ∧ Hid (Grommet.Own w0 wr (TQ X m f q ql (Rs ++ [hboxP H g])))) (fun _ _ c _ => m - (intOf c).toNat)
  case atStart => exact ⟨0, false, false, fun _ => 0, Nat.zero_le _, rfl, rfl, rfl, Lib.hid ⟨(fun h => by cases h), (fun ⟨b, h, _⟩ => absurd h (Nat.not_lt_zero b))⟩, Lib.hid ⟨(fun h => by cases h), (fun ⟨b, h, _⟩ => absurd h (Nat.not_lt_zero b))⟩, Lib.hid (fun i hi => by rw [if_neg (by omega)]), hO3⟩
  case round =>
    clear hO3
    obtain ⟨a, S, G, g, ha, rfl, rfl, rfl, HS, HG, HSe, hO⟩ := hrel
    have a0 : (0 : Int) ≤ (a : Int) := by omega
    by_cases hlt : a < m
    · have hlt' : (a : Int) < (m : Int) := by omega
      have wa : IntKind.i64.wrap ((a : Int) + 1) = (a : Int) + 1 := IntWalk.i64_in _ ⟨by omega, by omega⟩
      have HWa := Lib.hid (HW.out wr _ hO.out a hlt)
      have HHa := Lib.hid (HH.out wr _ hO.out a hlt)
      have Hlt := Lib.hid hlt
      have Hst := Lib.hid HS.out.step
      have Hgt := Lib.hid HG.out.step
      have Hle := Lib.hid (heldL_le f a 70)
      obtain ⟨L, hL⟩ : ∃ L, heldL f a 70 = L := ⟨_, rfl⟩
      rw [hL] at HHa Hle Hgt
      have HL := Lib.hid hL
      obtain ⟨n, hn⟩ : ∃ n, L.length = n := ⟨_, rfl⟩
      rw [hn] at HHa Hle Hgt
      have Hn := Lib.hid hn
      obtain ⟨o, ho⟩ : ∃ o, waitF ql a = o := ⟨_, rfl⟩
      rw [ho] at HWa Hst Hgt
      have Ho := Lib.hid ho
      clear hlt ha hO hL hn ho HS HG
      cases o with
      | none =>
        simp only [Option.isSome_none, Bool.or_false, Bool.not_false, Bool.true_and, Option.getD_none] at HWa Hst Hgt
        go_wp2_with fail
        refine HWa.out.mono ?_
        rintro e w1 ⟨rfl, rfl⟩
        clear HWa
        go_wp2_with fail
        refine HHa.out.mono ?_
        rintro e w2 ⟨ad, cap, rfl, hO2⟩
        rw [TQ_app] at hO2
        have HO2 := Lib.hid hO2
        clear HHa hO2
        go_upto_region 9 with fail
        go_cut [5] (fun s wx => s = .bool S ∧ wx = w2)
        case first =>
          cases S with
          | true =>
            go_wp2_with fail
            go_meet
            case rel => exact ⟨rfl, rfl⟩
          | false =>
            go_wp2_with fail
            go_meet
            case rel => exact ⟨rfl, rfl⟩
        case rest =>
        obtain ⟨rfl, rfl⟩ := hcut
        go_upto_region 10 with fail
        go_cut [6] (fun s wx => s = .bool (G || decide (0 < n)) ∧ wx = wc)
        case first =>
          cases G with
          | true =>
            go_wp2_with fail
            go_meet
            case rel => exact ⟨rfl, rfl⟩
          | false =>
            by_cases hn0 : 0 < n
            · have n0 : (0 : Int) < (n : Int) := by omega
              have Hd : Hid (decide (0 < n) = true) := Lib.hid (decide_eq_true hn0)
              clear hn0
              go_wp2_with fail
              go_meet
              case rel => exact ⟨by rw [Hd.out]; rfl, rfl⟩
            · have n0 : ¬ (0 : Int) < (n : Int) := by omega
              have Hd : Hid (decide (0 < n) = false) := Lib.hid (decide_eq_false hn0)
              clear hn0
              go_wp2_with fail
              go_meet
              case rel => exact ⟨by rw [Hd.out]; rfl, rfl⟩
        case rest =>
        obtain ⟨rfl, rfl⟩ := hcut
        have HSe0 := Lib.hid (SeenIn.start HSe.out)
        go_wp2_with fail
        go_loopw [12] (fun c w3 => ∃ (k : Nat) (g : Nat → Int), k ≤ n ∧ c = .int .i64 (k : Int) ∧ Hid (SeenIn f a k g) ∧ Hid (Grommet.Own w0 w3 (TQ X m f q ql (Rs ++ [hboxP H g] ++ [rowP 3 1 (.slice ad n cap) n (L.map iv)])))) (fun c _ => n - (intOf c).toNat)
        case atStart => exact ⟨0, g, Nat.zero_le _, rfl, HSe0, HO2⟩
        case round =>
          clear HSe0 HO2 HSe
          obtain ⟨k, g, hk, rfl, HSe, hO⟩ := hrel
          have k0 : (0 : Int) ≤ (k : Int) := by omega
          by_cases hkn : k < n
          · have hkn' : (k : Int) < (n : Int) := by omega
            have hL0 := Hle.out
            have n70 : (n : Int) ≤ 70 := by omega
            have wk : IntKind.i64.wrap ((k : Int) + 1) = (k : Int) + 1 := IntWalk.i64_in _ ⟨by omega, by omega⟩
            obtain ⟨x, hx⟩ : ∃ x, L[k]? = some x := ⟨_, List.getElem?_eq_getElem (by have := Hn.out; omega)⟩
            obtain ⟨hx70, hxa⟩ := heldL_get (f := f) (a := a) (k := k) (x := x) (by rw [HL.out]; exact hx)
            obtain ⟨b, rfl, d1, _, _⟩ := Own.cell hO.out (71 + (Rs.length + 1)) (row_at X m f q ql Rs H g _) k (iv x) (by rw [List.getElem?_map, hx]; rfl)
            have Hx70 := Lib.hid hx70
            unfold iv at d1
            obtain ⟨hc2, hz2⟩ := hold_cell (Qs := [rowP 3 1 (.slice (some ⟨b, 0, none⟩) n cap) n (L.map iv)]) hO.out hx70
            rw [HSe.out.zero (by rw [HL.out]; exact hx)] at hc2
            have c2 : wr.cell? ⟨H, x, none⟩ = some (.int .i64 0) := hc2
            have Hse := Lib.hid (HSe.out.step (x := x) (by rw [HL.out]; exact hx))
            have x0 : ¬ (x : Int) < 0 := by omega
            have x00 : (0 : Int) ≤ (x : Int) := by omega
            have x1 : ¬ (70 : Int) ≤ (x : Int) := by omega
            have x2 : (x : Int) < 70 := by omega
            have Hk := Lib.hid hkn
            by_cases hk0 : k = 0
            · have e11 : k = 0 := hk0
              clear hk0
              have e10 : ¬ (0 : Int) < (k : Int) := by omega
              have e10n : ¬ 0 < k := by omega
              have e10d : decide (0 < k) = false := decide_eq_false e10n
              clear e11 hx hkn hk hx70 hxa hc2 hL0
              go_wp2_with fail
              refine sndA wr H b n cap k x d1 c2 (by omega) (by omega) (by omega) (by omega) (by omega) (by omega) (by omega) (by omega) (decide_eq_false (by omega)) (fun _ _ _ _ _ h => h) ?_
              iterate 47 (intro _)
              intro w8 hg8
              have hO8 := hO.out.quiet hg8
              obtain ⟨c8, z8⟩ := hold_cell (Qs := [rowP 3 1 (.slice (some ⟨b, 0, none⟩) n cap) n (L.map iv)]) hO8 Hx70.out
              have d8 := hg8.cell d1 (by simp)
              have HS8 := Lib.hid (hold_put (X := X) (m := m) (H := H) (i := x) (f := f) (g := g) (q := q) (ql := ql) (Rs := Rs) (Qs := [rowP 3 1 (.slice (some ⟨b, 0, none⟩) n cap) n (L.map iv)]) hO8 ((a : Int) + 1))
              clear hO8 hg8 d1 c2 hO
              go_wp2
              go_roundw
              case rel => exact ⟨k + 1, _, by have := Hk.out; omega, by go_num, Hse.out, HS8⟩
              case measure => have := Hk.out; simp [intOf]; omega
            · obtain ⟨y, hy⟩ : ∃ y, L[k - 1]? = some y := ⟨_, List.getElem?_eq_getElem (by have := Hn.out; omega)⟩
              have hyx : y < x := heldL_lt (f := f) (a := a) (by rw [HL.out]; exact hy) (by rw [HL.out]; exact hx) (by omega)
              obtain ⟨b2, he2, d2, _, _⟩ := Own.cell hO.out (71 + (Rs.length + 1)) (row_at X m f q ql Rs H g _) (k - 1) (iv y) (by rw [List.getElem?_map, hy]; rfl)
              cases he2
              unfold iv at d2
              obtain ⟨k1, hk1⟩ : ∃ k1, k - 1 = k1 := ⟨_, rfl⟩
              rw [hk1] at d2
              have e5 : (k : Int) - 1 = (k1 : Int) := by omega
              have e6 : IntKind.i64.wrap (k1 : Int) = (k1 : Int) := IntWalk.i64_in _ ⟨by omega, by omega⟩
              have e7 : (0 : Int) ≤ (k1 : Int) := by omega
              have e8 : (k1 : Int) < (n : Int) := by omega
              have e9 : ¬ (x : Int) ≤ (y : Int) := by omega
              have e10 : (0 : Int) < (k : Int) := by omega
              have e10n : 0 < k := by omega
              have e10d : decide (0 < k) = true := decide_eq_true e10n
              clear hy hyx hk1
              clear hx hkn hk hx70 hxa hc2 hL0
              go_wp2_with fail
              refine sndB wr H b n cap k x k1 y d1 c2 (by omega) (by omega) (by omega) (by omega) (by omega) (by omega) (by omega) (by omega) (decide_eq_true (by omega)) d2 (by omega) e6 (by omega) (by omega) (by omega) (fun _ _ _ _ _ h => h) ?_
              iterate 47 (intro _)
              intro w8 hg8
              have hO8 := hO.out.quiet hg8
              obtain ⟨c8, z8⟩ := hold_cell (Qs := [rowP 3 1 (.slice (some ⟨b, 0, none⟩) n cap) n (L.map iv)]) hO8 Hx70.out
              have d8 := hg8.cell d1 (by simp)
              have HS8 := Lib.hid (hold_put (X := X) (m := m) (H := H) (i := x) (f := f) (g := g) (q := q) (ql := ql) (Rs := Rs) (Qs := [rowP 3 1 (.slice (some ⟨b, 0, none⟩) n cap) n (L.map iv)]) hO8 ((a : Int) + 1))
              clear hO8 hg8 d1 c2 hO
              go_wp2
              go_roundw
              case rel => exact ⟨k + 1, _, by have := Hk.out; omega, by go_num, Hse.out, HS8⟩
              case measure => have := Hk.out; simp [intOf]; omega
          · have hkn' : ¬ (k : Int) < (n : Int) := by omega
            have HSd := Lib.hid (HSe.out.done (by rw [HL.out, Hn.out]; omega))
            have HOd := Lib.hid (show Grommet.Own w0 wr (TQ X m f q ql (Rs ++ [hboxP H g])) from Own.less (Qs := [rowP 3 1 (.slice ad n cap) n (L.map iv)]) (by rw [TQ_app]; exact hO.out))
            clear hO HSe hkn hk
            go_wp2
            go_roundw
            case rel => exact ⟨a + 1, _, _, g, by have := Hlt.out; omega, by go_num, rfl, rfl, Hst, Hgt, HSd, HOd⟩
            case measure => have := Hlt.out; simp [intOf]; omega
      | some at_ =>
        simp only [Option.isSome_some, Bool.or_true, Bool.not_true, Bool.false_and, Bool.or_false, Option.getD_some] at HWa Hst Hgt
        obtain ⟨hat70, hatin⟩ := waitF_at Ho.out
        have t0 : ¬ (at_ : Int) < 0 := by omega
        have t1 : ¬ (70 : Int) ≤ (at_ : Int) := by omega
        have Hup := Lib.hid (fun i (hi : i < 70) (e : f i = (a : Int)) => HI.out.up at_ hat70 a hatin i hi e)
        clear hat70 hatin
        go_wp2_with fail
        refine HWa.out.mono ?_
        rintro e w1 ⟨rfl, rfl⟩
        clear HWa
        go_wp2_with fail
        refine HHa.out.mono ?_
        rintro e w2 ⟨ad, cap, rfl, hO2⟩
        rw [TQ_app] at hO2
        have HO2 := Lib.hid hO2
        clear HHa hO2
        go_upto_region 9 with fail
        go_cut [5] (fun s wx => s = .bool true ∧ wx = w2)
        case first =>
          cases S with
          | true =>
            go_wp2_with fail
            go_meet
            case rel => exact ⟨rfl, rfl⟩
          | false =>
            go_wp2_with fail
            go_meet
            case rel => exact ⟨rfl, rfl⟩
        case rest =>
        obtain ⟨rfl, rfl⟩ := hcut
        go_upto_region 10 with fail
        go_cut [6] (fun s wx => s = .bool G ∧ wx = wc)
        case first =>
          cases G with
          | true =>
            go_wp2_with fail
            go_meet
            case rel => exact ⟨rfl, rfl⟩
          | false =>
            go_wp2_with fail
            go_meet
            case rel => exact ⟨rfl, rfl⟩
        case rest =>
        obtain ⟨rfl, rfl⟩ := hcut
        have HSe0 := Lib.hid (SeenIn.start HSe.out)
        go_wp2_with fail
        go_loopw [12] (fun c w3 => ∃ (k : Nat) (g : Nat → Int), k ≤ n ∧ c = .int .i64 (k : Int) ∧ Hid (SeenIn f a k g) ∧ Hid (Grommet.Own w0 w3 (TQ X m f q ql (Rs ++ [hboxP H g] ++ [rowP 3 1 (.slice ad n cap) n (L.map iv)])))) (fun c _ => n - (intOf c).toNat)
        case atStart => exact ⟨0, g, Nat.zero_le _, rfl, HSe0, HO2⟩
        case round =>
          clear HSe0 HO2 HSe
          obtain ⟨k, g, hk, rfl, HSe, hO⟩ := hrel
          have k0 : (0 : Int) ≤ (k : Int) := by omega
          by_cases hkn : k < n
          · have hkn' : (k : Int) < (n : Int) := by omega
            have hL0 := Hle.out
            have n70 : (n : Int) ≤ 70 := by omega
            have wk : IntKind.i64.wrap ((k : Int) + 1) = (k : Int) + 1 := IntWalk.i64_in _ ⟨by omega, by omega⟩
            obtain ⟨x, hx⟩ : ∃ x, L[k]? = some x := ⟨_, List.getElem?_eq_getElem (by have := Hn.out; omega)⟩
            obtain ⟨hx70, hxa⟩ := heldL_get (f := f) (a := a) (k := k) (x := x) (by rw [HL.out]; exact hx)
            obtain ⟨b, rfl, d1, _, _⟩ := Own.cell hO.out (71 + (Rs.length + 1)) (row_at X m f q ql Rs H g _) k (iv x) (by rw [List.getElem?_map, hx]; rfl)
            have Hx70 := Lib.hid hx70
            unfold iv at d1
            obtain ⟨hc2, hz2⟩ := hold_cell (Qs := [rowP 3 1 (.slice (some ⟨b, 0, none⟩) n cap) n (L.map iv)]) hO.out hx70
            rw [HSe.out.zero (by rw [HL.out]; exact hx)] at hc2
            have c2 : wr.cell? ⟨H, x, none⟩ = some (.int .i64 0) := hc2
            have Hse := Lib.hid (HSe.out.step (x := x) (by rw [HL.out]; exact hx))
            have x0 : ¬ (x : Int) < 0 := by omega
            have x00 : (0 : Int) ≤ (x : Int) := by omega
            have x1 : ¬ (70 : Int) ≤ (x : Int) := by omega
            have x2 : (x : Int) < 70 := by omega
            have t2 : ¬ (at_ : Int) ≤ (x : Int) := by have := Hup.out x hx70 hxa; omega
            have Hk := Lib.hid hkn
            by_cases hk0 : k = 0
            · have e11 : k = 0 := hk0
              clear hk0
              have e10 : ¬ (0 : Int) < (k : Int) := by omega
              have e10n : ¬ 0 < k := by omega
              have e10d : decide (0 < k) = false := decide_eq_false e10n
              clear e11 hx hkn hk hx70 hxa hc2 hL0
              go_wp2_with fail
              refine sndC wr H b n cap k x at_ d1 c2 (by omega) (by omega) (by omega) (by omega) (by omega) (by omega) (by omega) (by omega) (decide_eq_false (by omega)) (by omega) (fun _ _ _ _ _ h => h) ?_
              iterate 47 (intro _)
              intro w8 hg8
              have hO8 := hO.out.quiet hg8
              obtain ⟨c8, z8⟩ := hold_cell (Qs := [rowP 3 1 (.slice (some ⟨b, 0, none⟩) n cap) n (L.map iv)]) hO8 Hx70.out
              have d8 := hg8.cell d1 (by simp)
              have HS8 := Lib.hid (hold_put (X := X) (m := m) (H := H) (i := x) (f := f) (g := g) (q := q) (ql := ql) (Rs := Rs) (Qs := [rowP 3 1 (.slice (some ⟨b, 0, none⟩) n cap) n (L.map iv)]) hO8 ((a : Int) + 1))
              clear hO8 hg8 d1 c2 hO
              go_wp2
              go_roundw
              case rel => exact ⟨k + 1, _, by have := Hk.out; omega, by go_num, Hse.out, HS8⟩
              case measure => have := Hk.out; simp [intOf]; omega
            · obtain ⟨y, hy⟩ : ∃ y, L[k - 1]? = some y := ⟨_, List.getElem?_eq_getElem (by have := Hn.out; omega)⟩
              have hyx : y < x := heldL_lt (f := f) (a := a) (by rw [HL.out]; exact hy) (by rw [HL.out]; exact hx) (by omega)
              obtain ⟨b2, he2, d2, _, _⟩ := Own.cell hO.out (71 + (Rs.length + 1)) (row_at X m f q ql Rs H g _) (k - 1) (iv y) (by rw [List.getElem?_map, hy]; rfl)
              cases he2
              unfold iv at d2
              obtain ⟨k1, hk1⟩ : ∃ k1, k - 1 = k1 := ⟨_, rfl⟩
              rw [hk1] at d2
              have e5 : (k : Int) - 1 = (k1 : Int) := by omega
              have e6 : IntKind.i64.wrap (k1 : Int) = (k1 : Int) := IntWalk.i64_in _ ⟨by omega, by omega⟩
              have e7 : (0 : Int) ≤ (k1 : Int) := by omega
              have e8 : (k1 : Int) < (n : Int) := by omega
              have e9 : ¬ (x : Int) ≤ (y : Int) := by omega
              have e10 : (0 : Int) < (k : Int) := by omega
              have e10n : 0 < k := by omega
              have e10d : decide (0 < k) = true := decide_eq_true e10n
              clear hy hyx hk1
              clear hx hkn hk hx70 hxa hc2 hL0
              go_wp2_with fail
              refine sndD wr H b n cap k x k1 y at_ d1 c2 (by omega) (by omega) (by omega) (by omega) (by omega) (by omega) (by omega) (by omega) (decide_eq_true (by omega)) d2 (by omega) e6 (by omega) (by omega) (by omega) (by omega) (fun _ _ _ _ _ h => h) ?_
              iterate 47 (intro _)
              intro w8 hg8
              have hO8 := hO.out.quiet hg8
              obtain ⟨c8, z8⟩ := hold_cell (Qs := [rowP 3 1 (.slice (some ⟨b, 0, none⟩) n cap) n (L.map iv)]) hO8 Hx70.out
              have d8 := hg8.cell d1 (by simp)
              have HS8 := Lib.hid (hold_put (X := X) (m := m) (H := H) (i := x) (f := f) (g := g) (q := q) (ql := ql) (Rs := Rs) (Qs := [rowP 3 1 (.slice (some ⟨b, 0, none⟩) n cap) n (L.map iv)]) hO8 ((a : Int) + 1))
              clear hO8 hg8 d1 c2 hO
              go_wp2
              go_roundw
              case rel => exact ⟨k + 1, _, by have := Hk.out; omega, by go_num, Hse.out, HS8⟩
              case measure => have := Hk.out; simp [intOf]; omega
          · have hkn' : ¬ (k : Int) < (n : Int) := by omega
            have HSd := Lib.hid (HSe.out.done (by rw [HL.out, Hn.out]; omega))
            have HOd := Lib.hid (show Grommet.Own w0 wr (TQ X m f q ql (Rs ++ [hboxP H g])) from Own.less (Qs := [rowP 3 1 (.slice ad n cap) n (L.map iv)]) (by rw [TQ_app]; exact hO.out))
            clear hO HSe hkn hk
            go_wp2
            go_roundw
            case rel => exact ⟨a + 1, _, _, g, by have := Hlt.out; omega, by go_num, rfl, rfl, Hst, Hgt, HSd, HOd⟩
            case measure => have := Hlt.out; simp [intOf]; omega
    · have hlt' : ¬ (a : Int) < (m : Int) := by omega
      obtain rfl : a = m := by omega
      have Hfin := Lib.hid (some_goes HI.out HS.out HG.out)
      clear hlt ha HS HG HH
      go_wp2_with fail
      go_loopw [13] (fun c w3 => ∃ b : Nat, b ≤ a ∧ c = .int .i64 (b : Int) ∧ w3 = wr) (fun c _ => a - (intOf c).toNat)
      case atStart => exact ⟨0, Nat.zero_le _, rfl, rfl⟩
      case round =>
        obtain ⟨b, hb, rfl, rfl⟩ := hrel
        have b0 : (0 : Int) ≤ (b : Int) := by omega
        by_cases hba : b < a
        · have hba' : (b : Int) < (a : Int) := by omega
          have wb : IntKind.i64.wrap ((b : Int) + 1) = (b : Int) + 1 := IntWalk.i64_in _ ⟨by omega, by omega⟩
          have HWb := Lib.hid (HW.out wr _ hO.out b hba)
          have Hba := Lib.hid hba
          obtain ⟨o, ho⟩ : ∃ o, waitF ql b = o := ⟨_, rfl⟩
          rw [ho] at HWb
          have Ho := Lib.hid ho
          clear hba hb ho
          cases o with
          | none =>
            simp only [Option.isSome_none, Option.getD_none] at HWb
            go_wp2_with fail
            refine HWb.out.mono ?_
            rintro e w4 ⟨rfl, rfl⟩
            go_wp2
            go_roundw
            case rel => exact ⟨b + 1, by have := Hba.out; omega, by go_num, by first | rfl | trivial⟩
            case measure => have := Hba.out; simp [intOf]; omega
          | some at_ =>
            simp only [Option.isSome_some, Option.getD_some] at HWb
            obtain ⟨hat70, hatin⟩ := waitF_at Ho.out
            have hof : ∃ d : Nat, d < a ∧ f at_ = (d : Int) := by
              rcases HI.out.hold at_ hat70 with e | e
              · have := HI.out.free at_ hat70 e
                rw [this] at hatin
                cases hatin
              · exact e
            obtain ⟨d, hd, hfd⟩ := hof
            have hdb : d ≠ b := by
              rintro rfl
              exact absurd (HI.out.up at_ hat70 d hatin at_ hat70 hfd) (Nat.lt_irrefl _)
            obtain ⟨hc, _⟩ := hold_cell (Qs := []) (by rw [List.append_nil]; exact hO.out) hat70
            have hg : g at_ = (d : Int) + 1 := by rw [HSe.out at_ hat70, hfd, if_pos ⟨by omega, by omega⟩]
            rw [hg] at hc
            obtain ⟨d1, hd1⟩ : ∃ d1, d + 1 = d1 := ⟨_, rfl⟩
            have hde : (d : Int) + 1 = (d1 : Int) := by omega
            rw [hde] at hc
            have t0 : (0 : Int) ≤ (at_ : Int) := by omega
            have t1 : (at_ : Int) < 70 := by omega
            have q1 : ((d1 : Int) == 0) = false := by rw [beq_eq_false_iff_ne]; omega
            have q2 : ((d1 : Int) == (b : Int) + 1) = false := by rw [beq_eq_false_iff_ne]; omega
            clear hat70 hatin hd hfd hdb hg hde hd1
            go_wp2_with fail
            refine HWb.out.mono ?_
            rintro e w4 ⟨rfl, rfl⟩
            go_wp2
            go_roundw
            case rel => exact ⟨b + 1, by have := Hba.out; omega, by go_num, by first | rfl | trivial⟩
            case measure => have := Hba.out; simp [intOf]; omega
        · have hba' : ¬ (b : Int) < (a : Int) := by omega
          have HOd := Lib.hid (show Grommet.Own w0 wr (TQ X a f q ql Rs) from Own.less (Qs := [hboxP H g]) (by rw [TQ_app]; exact hO.out))
          clear hO HW hba hb
          cases S with
          | true =>
            have hG1 : G = true := Hfin.out rfl
            subst hG1
            go_wp2
            go_ret
            exact ⟨rfl, HOd.out⟩
          | false =>
            go_wp2
            go_ret
            exact ⟨rfl, HOd.out⟩
end Go.Proofs.Ytclicjdgkcnihaa
