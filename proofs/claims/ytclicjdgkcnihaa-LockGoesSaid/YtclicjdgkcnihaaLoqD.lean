/- Package lock: Want. -/
import Derived.Test.YtclicjdgkcnihaaLoqC
namespace Go.Proofs.Ytclicjdgkcnihaa
open Go.RowKit Go.Grommet

set_option maxRecDepth 100000 in
set_option maxHeartbeats 1000000 in
theorem WantNo (j X m a k : Nat) (f : Nat → Int) (q : Nat → Value) (w0 w : World) (Ps : List Pr) (h : Grommet.Own w0 w Ps) (hk : Ps[j]? = some (tabP X m f q)) (ha : a < m) (h70 : k < 70) (hl : (k : Int) ≤ highV (heldL f a 70)) :
    Calls Try.prog 10 #[tptr X, .int .i64 (a : Int), .int .i64 (k : Int)] w fun e w' => e = .returned (.tuple #[.bool false, .int .i64 1]) ∧ Grommet.Own w0 w' Ps := by
  have HA := Lib.hid (has_yes w X m f q (h.box j hk) a ha)
  have HH := Lib.hid (highestH j X m a f q w0 w Ps h hk ha)
  have k0 : (0 : Int) ≤ (k : Int) := by omega
  have k1 : (k : Int) < 70 := by omega
  have k2 : ¬ (k : Int) < 0 := by omega
  have k3 : ¬ (70 : Int) ≤ (k : Int) := by omega
  obtain ⟨v, hv⟩ : ∃ v, highV (heldL f a 70) = v := ⟨_, rfl⟩
  rw [hv] at HH hl
  unfold tptr at HA HH ⊢
  clear h hk ha h70 hv
  go_enter Try.func10, Try.ntmps10
  go_wp2_with fail
  refine HA.out.mono ?_
  rintro e w1 ⟨rfl, rfl⟩
  clear HA
  go_wp2_with fail
  refine HH.out.mono ?_
  rintro e w2 ⟨rfl, hO⟩
  have hO := Lib.hid hO
  clear HH
  go_wp2
  go_ret2
  exact ⟨rfl, hO.out⟩

set_option maxRecDepth 100000 in
set_option maxHeartbeats 1000000 in
theorem WantYes (j X m a k : Nat) (f : Nat → Int) (q : Nat → Value) (w0 w : World) (Ps : List Pr) (h : Grommet.Own w0 w Ps) (hk : Ps[j]? = some (tabP X m f q)) (ha : a < m) (h70 : k < 70) (hl : highV (heldL f a 70) < (k : Int)) (hf : f k = -1) (p : Nat) (ql : Nat → List Nat) (hQ : ∀ k, k < 70 → Ps[p + k]? = some (qrowP (q k) (ql k))) (hqn : ∀ k, k < 70 → (ql k).length ≤ 100000) (hw : waitF ql a = none) :
    Calls Try.prog 10 #[tptr X, .int .i64 (a : Int), .int .i64 (k : Int)] w fun e w' => e = .returned (.tuple #[.bool true, .int .i64 0]) ∧ Grommet.Own w0 w' (Ps.set j (tabP X m (seth f k (a : Int)) q)) := by
  have HA := Lib.hid (has_yes w X m f q (h.box j hk) a ha)
  have HH := Lib.hid (highestH j X m a f q w0 w Ps h hk ha)
  have HW := Lib.hid (fun wx (hO : Grommet.Own w0 wx Ps) => Waits_any wx X m f q ql (hO.box j hk) (fun k hk => (own_qrow hO _ (hQ k hk)).nums) hqn a ha)
  rw [hw] at HW
  have HC := Lib.hid (fun wx (hO : Grommet.Own w0 wx Ps) => (show TabIs wx X m f q from hO.box j hk).holder k h70)
  have HS := Lib.hid (fun wx (hO : Grommet.Own w0 wx Ps) => (show Grommet.Own w0 (wx.setCell ⟨X, 1 + k * 2, none⟩ (.int .i64 (a : Int))) (Ps.set j (tabP X m (seth f k (a : Int)) q)) by
    have := own_store_box hO j hk (1 + k * 2) (.int .i64 (a : Int)); rw [tabC_set m f q k (a : Int) h70] at this; exact this))
  rw [hf] at HC
  have HF := Lib.hid (fun wx (hO : Grommet.Own w0 wx Ps) => (show wx.frozen? ⟨X, 1 + k * 2, none⟩ = false by have := hO.box j hk; simp [World.frozen?, this]))
  have k0 : (0 : Int) ≤ (k : Int) := by omega
  have k1 : (k : Int) < 70 := by omega
  have k2 : ¬ (k : Int) < 0 := by omega
  have k3 : ¬ (70 : Int) ≤ (k : Int) := by omega
  obtain ⟨v, hv⟩ : ∃ v, highV (heldL f a 70) = v := ⟨_, rfl⟩
  rw [hv] at HH hl
  have hl2 : ¬ (k : Int) ≤ v := by omega
  unfold tptr at HA HH HW ⊢
  clear h hk ha h70 hv hf hw hQ hqn
  go_enter Try.func10, Try.ntmps10
  go_wp2_with fail
  refine HA.out.mono ?_
  rintro e w1 ⟨rfl, rfl⟩
  clear HA
  go_wp2_with fail
  refine HH.out.mono ?_
  rintro e w2 ⟨rfl, hO⟩
  have HW2 := Lib.hid (HW.out w2 hO)
  have c1 := HC.out w2 hO
  have z1 := HF.out w2 hO
  have hS := Lib.hid (HS.out w2 hO)
  clear HH HW HC HF HS hO
  go_wp2_with fail
  refine HW2.out.mono ?_
  rintro e w3 ⟨rfl, rfl⟩
  clear HW2
  go_wp2
  go_ret2
  exact ⟨rfl, hS.out⟩
set_option maxRecDepth 100000 in
set_option maxHeartbeats 1000000 in
theorem WantState (j X m a k : Nat) (f : Nat → Int) (q : Nat → Value) (w0 w : World) (Ps : List Pr) (h : Grommet.Own w0 w Ps) (hk : Ps[j]? = some (tabP X m f q)) (ha : a < m) (h70 : k < 70) (hl : highV (heldL f a 70) < (k : Int)) (p : Nat) (ql : Nat → List Nat) (hQ : ∀ k, k < 70 → Ps[p + k]? = some (qrowP (q k) (ql k))) (hqn : ∀ k, k < 70 → (ql k).length ≤ 100000) (i : Nat) (hw : waitF ql a = some i) :
    Calls Try.prog 10 #[tptr X, .int .i64 (a : Int), .int .i64 (k : Int)] w fun e w' => e = .returned (.tuple #[.bool false, .int .i64 3]) ∧ Grommet.Own w0 w' Ps := by
  have HA := Lib.hid (has_yes w X m f q (h.box j hk) a ha)
  have HH := Lib.hid (highestH j X m a f q w0 w Ps h hk ha)
  have HW := Lib.hid (fun wx (hO : Grommet.Own w0 wx Ps) => Waits_any wx X m f q ql (hO.box j hk) (fun k hk => (own_qrow hO _ (hQ k hk)).nums) hqn a ha)
  rw [hw] at HW
  have k0 : (0 : Int) ≤ (k : Int) := by omega
  have k1 : (k : Int) < 70 := by omega
  have k2 : ¬ (k : Int) < 0 := by omega
  have k3 : ¬ (70 : Int) ≤ (k : Int) := by omega
  obtain ⟨v, hv⟩ : ∃ v, highV (heldL f a 70) = v := ⟨_, rfl⟩
  rw [hv] at HH hl
  have hl2 : ¬ (k : Int) ≤ v := by omega
  unfold tptr at HA HH HW ⊢
  clear h hk ha h70 hv hw hQ hqn
  go_enter Try.func10, Try.ntmps10
  go_wp2_with fail
  refine HA.out.mono ?_
  rintro e w1 ⟨rfl, rfl⟩
  clear HA
  go_wp2_with fail
  refine HH.out.mono ?_
  rintro e w2 ⟨rfl, hO⟩
  have HW2 := Lib.hid (HW.out w2 hO)
  have hO2 := Lib.hid hO
  clear HH HW hO
  go_wp2_with fail
  refine HW2.out.mono ?_
  rintro e w3 ⟨rfl, rfl⟩
  clear HW2
  go_wp2
  go_ret2
  exact ⟨rfl, hO2.out⟩
set_option maxRecDepth 100000 in
set_option maxHeartbeats 1000000 in
theorem WantQ (j X m a k : Nat) (f : Nat → Int) (q : Nat → Value) (w0 w : World) (Ps : List Pr) (h : Grommet.Own w0 w Ps) (hk : Ps[j]? = some (tabP X m f q)) (ha : a < m) (h70 : k < 70) (hl : highV (heldL f a 70) < (k : Int)) (hf : f k ≠ -1) (p : Nat) (ql : Nat → List Nat) (hQ : ∀ k, k < 70 → Ps[p + k]? = some (qrowP (q k) (ql k))) (hqn : ∀ k, k < 70 → (ql k).length ≤ 100000) (hw : waitF ql a = none) (hne : ∀ k, k < 70 → p + k ≠ j) :
    Calls Try.prog 10 #[tptr X, .int .i64 (a : Int), .int .i64 (k : Int)] w fun e w' => ∃ v, e = .returned (.tuple #[.bool false, .int .i64 0]) ∧ Grommet.Own w0 w' ((Ps.set (p + k) (qrowP v (ql k ++ [a]))).set j (tabP X m f (setq q k v))) := by
  have HA := Lib.hid (has_yes w X m f q (h.box j hk) a ha)
  have HH := Lib.hid (highestH j X m a f q w0 w Ps h hk ha)
  have HW := Lib.hid (fun wx (hO : Grommet.Own w0 wx Ps) => Waits_any wx X m f q ql (hO.box j hk) (fun k hk => (own_qrow hO _ (hQ k hk)).nums) hqn a ha)
  rw [hw] at HW
  have HC := Lib.hid (fun wx (hO : Grommet.Own w0 wx Ps) => (show TabIs wx X m f q from hO.box j hk).holder k h70)
  have HD := Lib.hid (fun wx (hO : Grommet.Own w0 wx Ps) => (show TabIs wx X m f q from hO.box j hk).queue k h70)
  have HR := Lib.hid (fun wx (hO : Grommet.Own w0 wx Ps) => own_qrow hO _ (hQ k h70))
  have HS := Lib.hid (fun wx wy (v : Value) (hO : Grommet.Own w0 wx Ps) (hr : QRow wy v (ql k ++ [a])) (hg : (wx.alloc (.cells #[.int .i64 (a : Int)] 3)).grownBy wy (q k).ownBlock) (hnew : ∀ g, v.ownBlock = some g → (q k).ownBlock = some g ∨ (wx.alloc (.cells #[.int .i64 (a : Int)] 3)).heap.size ≤ g) => (show wy.frozen? ⟨X, 1 + k * 2 + 1, none⟩ = false ∧ (wy.cell? ⟨X, 1 + k * 2 + 1, none⟩).isSome = true ∧ Grommet.Own w0 (wy.setCell ⟨X, 1 + k * 2 + 1, none⟩ v) ((Ps.set (p + k) (qrowP v (ql k ++ [a]))).set j (tabP X m f (setq q k v))) from by
    have h1 := own_setQ (hO.quiet (World.grownBy_alloc wx _ none)) (p + k) (hQ k h70) hr hg hnew
    have hj : (Ps.set (p + k) (qrowP v (ql k ++ [a])))[j]? = some (tabP X m f q) := by rw [List.getElem?_set_ne (hne k h70)]; exact hk
    have h2 := own_store_box h1 j hj (1 + k * 2 + 1) v
    rw [tabC_setq m f q k v h70] at h2
    have h3 := (show TabIs wy X m f q from h1.box j hj)
    have h4 := h3.queue k h70
    unfold TabIs at h3
    exact ⟨by simp [World.frozen?, h3], by rw [h4]; rfl, h2⟩))
  have k0 : (0 : Int) ≤ (k : Int) := by omega
  have k1 : (k : Int) < 70 := by omega
  have k2 : ¬ (k : Int) < 0 := by omega
  have k3 : ¬ (70 : Int) ≤ (k : Int) := by omega
  obtain ⟨v, hv⟩ : ∃ v, highV (heldL f a 70) = v := ⟨_, rfl⟩
  rw [hv] at HH hl
  have hl2 : ¬ (k : Int) ≤ v := by omega
  obtain ⟨u, hu⟩ : ∃ u, f k = u := ⟨_, rfl⟩
  rw [hu] at HC hf
  have hu2 : (u == -1) = false := by rw [beq_eq_false_iff_ne]; exact hf
  obtain ⟨v0, hv0⟩ : ∃ v0, q k = v0 := ⟨_, rfl⟩
  obtain ⟨L, hL⟩ : ∃ L, ql k = L := ⟨_, rfl⟩
  have hln := hqn k h70
  rw [hL] at hln HS HR
  rw [hv0] at HD HS HR
  unfold tptr at HA HH HW ⊢
  have HL2 := Lib.hid hL
  clear h hk ha h70 hv hf hw hQ hqn hu hv0 hne hL
  go_enter Try.func10, Try.ntmps10
  go_wp2_with fail
  refine HA.out.mono ?_
  rintro e w1 ⟨rfl, rfl⟩
  clear HA
  go_wp2_with fail
  refine HH.out.mono ?_
  rintro e w2 ⟨rfl, hO⟩
  have HW2 := Lib.hid (HW.out w2 hO)
  have c1 := HC.out w2 hO
  have c2 := HD.out w2 hO
  have hr := HR.out w2 hO
  have hO2 := Lib.hid hO
  clear HH HW HC HD HR hO
  go_wp2_with fail
  refine HW2.out.mono ?_
  rintro e w3 ⟨rfl, rfl⟩
  clear HW2
  go_wp2_with (at_builtin; refine wpList_append_q _ rfl _ _ rfl v0 L a w3.heap.size rfl rfl (hr.turn (H := fun _ => False) (Turn.of (World.grownBy_alloc w3 _ none) (fun _ e => by cases e)) (fun _ _ e => e)) (heap_alloc_new w3 _) hln ?_)
  intro ad cap w4 hr4 hg4 hn4
  obtain ⟨z4, c4, hS⟩ := HS.out w3 w4 _ hO2.out hr4 hg4 (fun g hg => by have := hn4 g hg; rw [World.size_alloc]; exact this)
  obtain ⟨y4, d4⟩ := Option.isSome_iff_exists.1 c4
  have hS := Lib.hid hS
  clear hr4 hg4 hn4 HS hO2 hr c4
  go_wp2
  go_ret2
  exact ⟨_, rfl, by rw [HL2.out]; exact hS.out⟩
end Go.Proofs.Ytclicjdgkcnihaa
