/- Package lock: Queue. -/
import Derived.Test.YtclicjdgkcnihaaLoqF
namespace Go.Proofs.Ytclicjdgkcnihaa
open Go.RowKit Go.Grommet

theorem own_litN (w : World) (e : TypeId) (size base : Nat) (hb : base ≤ w.heap.size) : (w.alloc (.cells #[] e)).ownsRow base e size (.slice (some ⟨w.heap.size, 0, none⟩) 0 0) 0 [] :=
  World.ownsRow_lit (size := size) (base := base) (e := e) w #[] 0 hb (by unfold maxLen; omega) (by simp)
theorem iv_oneCell (L : List Nat) : ∀ u ∈ L.map iv, u.oneCell' = true := by
  intro u hu
  obtain ⟨_, _, rfl⟩ := List.mem_map.1 hu
  rfl

set_option maxRecDepth 100000 in
set_option maxHeartbeats 1000000 in
theorem Clone_any (w : World) (v : Value) (L : List Nat) (h : NumsAt w v L) (hl : L.length ≤ 100000) :
    Calls Try.prog 25 #[v] w fun e w' => ∃ v', e = .returned v' ∧ NumsAt w' v' L ∧ w.grownBy w' none := by
  obtain ⟨ad, cap, rfl, ha, hc⟩ := h
  have hq := fun wx => eql_slice_nil (P := Try.prog) wx 30 _ ad L.length cap Try.underlying30
  obtain ⟨i0, hi, hz0, hz1, hz2⟩ := info_parts infoInt
  cases ad with
  | none =>
    have hL : L = [] := by
      match L with
      | [] => rfl
      | x :: M =>
        obtain ⟨_, _, e, _⟩ := NumsAt.get ha (k := 0) (x := x) rfl
        cases e
    subst hL
    simp only [List.length_nil] at hq ⊢
    clear ha hc hi hz0 hz1 hz2
    go_enter Try.func25, Try.ntmps25
    go_wp2
    go_ret
    exact ⟨_, rfl, ⟨none, 0, rfl, At.nil _ _, Nat.le_refl _⟩, World.grownBy.refl _ _⟩
  | some x =>
    have HL : Hid (∀ n, L.length = n → n = L.length) := Lib.hid (fun _ e => e.symm)
    obtain ⟨n, hn⟩ : ∃ n, L.length = n := ⟨_, rfl⟩
    have Hn := Lib.hid hn
    rw [hn] at hl hc hq ⊢
    have hmap : (L.map iv).length = n := by rw [List.length_map]; exact hn
    have hone := iv_oneCell L
    have hne := Lib.hid (show ∀ w', w.grownBy w' none → At w' (some x) (L.map iv) from fun w' hg => ha.grown hg (by intro _ _ _ e; cases e))
    clear ha hn HL
    go_enter Try.func25, Try.ntmps25
    go_wp2_with (at_builtin; refine wpList_append_at rfl _ _ 30 rfl w.heap.size 3 i0 (.int .i64 0) 8 Try.underlying30 hi hz0 hz1 hz2 rfl _ 0 [] rfl (own_litN w _ 1 w.heap.size (Nat.le_refl _)) (some x) n cap (L.map iv) rfl hmap (hne.out _ (World.grownBy_alloc w _ none)) (by simp) hone ?a1 ?a2 ?a3 ?_)
    case a1 => unfold maxLen; omega
    case a2 => omega
    case a3 => simp
    intro v1 w1 hown hg
    have hg := grown_new (World.grownBy_alloc w _ none) hg (by intro g e; cases e; exact Nat.le_refl _)
    try rw [List.nil_append] at hown
    try rw [Nat.zero_add] at hown
    obtain ⟨ad1, cap1, rfl, ha1, _, hc1⟩ := at_of_owns hown
    have HR := Lib.hid (show NumsAt w1 (.slice ad1 n cap1) L from ⟨ad1, cap1, by rw [Hn.out], ha1, by rw [Hn.out]; exact hc1⟩)
    have HG := Lib.hid hg
    clear hown hg ha1 hc1 hne
    go_wp2
    go_ret
    exact ⟨_, rfl, HR.out, HG.out⟩

set_option maxRecDepth 100000 in
theorem Queue_any (w : World) (X m k : Nat) (f : Nat → Int) (q : Nat → Value) (L : List Nat) (h : TabIs w X m f q) (hk : k < 70) (hv : NumsAt w (q k) L) (hl : L.length ≤ 100000) :
    Calls Try.prog 14 #[tptr X, .int .i64 (k : Int)] w fun e w' => ∃ v', e = .returned v' ∧ NumsAt w' v' L ∧ w.grownBy w' none := by
  have HC := Lib.hid (Clone_any w (q k) L hv hl)
  have c1 := h.queue k hk
  have k0 : (0 : Int) ≤ (k : Int) := by omega
  have k1 : (k : Int) < 70 := by omega
  have k2 : ¬ (k : Int) < 0 := by omega
  have k3 : ¬ (70 : Int) ≤ (k : Int) := by omega
  obtain ⟨v, hv'⟩ : ∃ v, q k = v := ⟨_, rfl⟩
  rw [hv'] at c1 HC
  unfold tptr
  clear h hv hk hv'
  go_enter Try.func14, Try.ntmps14
  go_wp2_with fail
  refine HC.out.mono ?_
  rintro e w1 ⟨v1, rfl, hv1, hg1⟩
  have H1 := Lib.hid (And.intro hv1 hg1)
  clear hv1 hg1
  go_wp2
  go_ret
  exact ⟨_, rfl, H1.out⟩
end Go.Proofs.Ytclicjdgkcnihaa
