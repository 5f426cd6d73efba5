/- Package lock: Want and Give, what always holds kept. -/
import Derived.Test.YtclicjdgkcnihaaLoqI2
import Derived.Test.YtclicjdgkcnihaaLoqD
namespace Go.Proofs.Ytclicjdgkcnihaa
open Go.RowKit Go.Grommet

theorem without_len : ∀ (L : List Nat) (b : Nat), L.Nodup → L.length ≤ (without L b).length + 1
  | [], _, _ => Nat.zero_le _
  | x :: T, b, h => by
    obtain ⟨h1, h2⟩ := List.nodup_cons.1 h
    by_cases e : x = b
    · subst e
      have : without (x :: T) x = without T x := by unfold without; rw [List.filter_cons_of_neg (by simp)]
      rw [this, without_none h1, List.length_cons]; omega
    · have : without (x :: T) b = x :: without T b := by unfold without; rw [List.filter_cons_of_pos (by simpa using e)]
      rw [this, List.length_cons, List.length_cons]
      have := without_len T b h2
      omega
theorem nodup_len : ∀ (m : Nat) (L : List Nat), L.Nodup → (∀ x ∈ L, x < m) → L.length ≤ m
  | 0, L, _, h => by
    match L with
    | [] => exact Nat.le_refl _
    | x :: T => exact absurd (h x (List.mem_cons_self ..)) (Nat.not_lt_zero _)
  | m + 1, L, hn, h => by
    have h1 := without_len L m hn
    have h2 := nodup_len m (without L m) (hn.sublist (without_sub L m)) (fun x hx => by
      obtain ⟨h3, h4⟩ := mem_without.1 hx
      have := h x h3
      omega)
    omega
theorem Inv.len {m : Nat} {f : Nat → Int} {ql : Nat → List Nat} (h : Inv m f ql) (hm : m ≤ 4) : ∀ k, k < 70 → (ql k).length ≤ 100000 := fun k hk => by
  have := nodup_len m (ql k) (h.nodup k hk) (h.who k hk)
  omega

set_option maxRecDepth 100000 in
set_option maxHeartbeats 1000000 in
theorem WantOut (X m a : Nat) (k : Int) (f : Nat → Int) (q : Nat → Value) (w : World) (h : TabIs w X m f q) (ha : a < m) (hk : k < 0 ∨ 70 ≤ k) :
    Calls Try.prog 10 #[tptr X, .int .i64 (a : Int), .int .i64 k] w fun e w' => e = .returned (.tuple #[.bool false, .int .i64 1]) ∧ w' = w := by
  have HA := Lib.hid (has_yes w X m f q h a ha)
  unfold tptr at HA ⊢
  clear h ha
  by_cases h0 : k < 0
  · clear hk
    go_enter Try.func10, Try.ntmps10
    go_wp2_with fail
    refine HA.out.mono ?_
    rintro e w1 ⟨rfl, rfl⟩
    go_wp2
    go_ret2
    exact ⟨rfl, rfl⟩
  · have h1 : (70 : Int) ≤ k := by omega
    clear hk
    go_enter Try.func10, Try.ntmps10
    go_wp2_with fail
    refine HA.out.mono ?_
    rintro e w1 ⟨rfl, rfl⟩
    go_wp2
    go_ret2
    exact ⟨rfl, rfl⟩

theorem WantInv (X m a : Nat) (k : Int) (f : Nat → Int) (q : Nat → Value) (ql : Nat → List Nat) (w0 w : World) (Rs : List Pr) (h : Grommet.Own w0 w (TQ X m f q ql Rs)) (hI : Inv m f ql) (ha : a < m) (hm : m ≤ 4) :
    Calls Try.prog 10 #[tptr X, .int .i64 (a : Int), .int .i64 k] w fun e w' => ∃ v f' q' ql', e = .returned v ∧ Inv m f' ql' ∧ Grommet.Own w0 w' (TQ X m f' q' ql' Rs) := by
  by_cases hk : k < 0 ∨ 70 ≤ k
  · refine (WantOut X m a k f q w (h.box 0 rfl) ha hk).mono ?_
    rintro e w' ⟨rfl, rfl⟩
    exact ⟨_, f, q, ql, rfl, hI, h⟩
  · obtain ⟨k, rfl⟩ := Int.eq_ofNat_of_zero_le (show 0 ≤ k by omega)
    have hk70 : k < 70 := by omega
    have hQ : ∀ i, i < 70 → (TQ X m f q ql Rs)[1 + i]? = some (qrowP (q i) (ql i)) := fun i hi => TQ_get X m f q ql Rs i hi
    by_cases hl : (k : Int) ≤ highV (heldL f a 70)
    · refine (WantNo 0 X m a k f q w0 w _ h rfl ha hk70 hl).mono ?_
      rintro e w' ⟨rfl, hO⟩
      exact ⟨_, f, q, ql, rfl, hI, hO⟩
    · have hl' : highV (heldL f a 70) < (k : Int) := by omega
      cases hw : waitF ql a with
      | some i =>
        refine (WantState 0 X m a k f q w0 w _ h rfl ha hk70 hl' 1 ql hQ (hI.len hm) i hw).mono ?_
        rintro e w' ⟨rfl, hO⟩
        exact ⟨_, f, q, ql, rfl, hI, hO⟩
      | none =>
        by_cases hf : f k = -1
        · refine (WantYes 0 X m a k f q w0 w _ h rfl ha hk70 hl' hf 1 ql hQ (hI.len hm) hw).mono ?_
          rintro e w' ⟨rfl, hO⟩
          exact ⟨_, _, q, ql, rfl, hI.take ha hk70 hf hw, hO⟩
        · refine (WantQ 0 X m a k f q w0 w _ h rfl ha hk70 hl' hf 1 ql hQ (hI.len hm) hw (fun i _ => by omega)).mono ?_
          rintro e w' ⟨v, rfl, hO⟩
          rw [TQ_queue X m f q ql Rs k hk70] at hO
          exact ⟨_, f, _, _, rfl, hI.wait ha hk70 hf hw hl', hO⟩
theorem GiveInv (X m a : Nat) (f : Nat → Int) (q : Nat → Value) (ql : Nat → List Nat) (w0 w : World) (Rs : List Pr) (h : Grommet.Own w0 w (TQ X m f q ql Rs)) (hI : Inv m f ql) (ha : a < m) (hm : m ≤ 4) :
    Calls Try.prog 9 #[tptr X, .int .i64 (a : Int)] w fun e w' => ∃ v q', e = .returned v ∧ Inv m (giveG f q' ql a).f (giveG f q' ql a).ql ∧ Grommet.Own w0 w' (TQ X m (giveG f q' ql a).f (giveG f q' ql a).q (giveG f q' ql a).ql Rs) := by
  refine (GiveAny X m a f q ql w0 w Rs h ha (hI.len hm)).mono ?_
  rintro e w' ⟨v, q', rfl, hO⟩
  exact ⟨v, q', rfl, hI.give q' a, hO⟩
theorem WaitsInv (X m a : Nat) (f : Nat → Int) (q : Nat → Value) (ql : Nat → List Nat) (w0 w : World) (Rs : List Pr) (h : Grommet.Own w0 w (TQ X m f q ql Rs)) (hI : Inv m f ql) (ha : a < m) (hm : m ≤ 4) :
    Calls Try.prog 12 #[tptr X, .int .i64 (a : Int)] w fun e w' => e = .returned (.tuple #[.int .i64 (((waitF ql a).getD 0 : Nat) : Int), .bool (waitF ql a).isSome]) ∧ w' = w :=
  Waits_any w X m f q ql (h.box 0 rfl) (fun k hk => (own_qrow h _ (TQ_get X m f q ql Rs k hk)).nums) (hI.len hm) a ha

/-- What a worker holds rises. -/
theorem heldL_rise (f : Nat → Int) (a : Nat) : ∀ n, (heldL f a n).Pairwise (· < ·)
  | 0 => by unfold heldL; exact List.Pairwise.nil
  | n + 1 => by
    have ih := heldL_rise f a n
    cases hb : (f n == (a : Int)) with
    | true =>
      rw [heldL_yes hb, List.pairwise_append]
      exact ⟨ih, List.pairwise_singleton _ _, fun x hx y hy => by rw [List.mem_singleton.1 hy]; exact (mem_heldL.1 hx).1⟩
    | false => rw [heldL_no hb]; exact ih
theorem heldL_get {f : Nat → Int} {a k x : Nat} (h : (heldL f a 70)[k]? = some x) : x < 70 ∧ f x = (a : Int) := mem_heldL.1 (List.mem_of_getElem? h)
theorem heldL_lt {f : Nat → Int} {a j k x y : Nat} (hj : (heldL f a 70)[j]? = some y) (hk : (heldL f a 70)[k]? = some x) (h : j < k) : y < x := by
  obtain ⟨h1, e1⟩ := List.getElem?_eq_some_iff.1 hj
  obtain ⟨h2, e2⟩ := List.getElem?_eq_some_iff.1 hk
  have := List.pairwise_iff_getElem.1 (heldL_rise f a 70) j k h1 h2 h
  rwa [e1, e2] at this
/-- An array of numbers, one for each lock. -/
def arrH (g : Nat → Int) : Array Value := ((List.range 70).map fun i => Value.int .i64 (g i)).toArray
theorem arrH_size (g : Nat → Int) : (arrH g).size = 70 := by unfold arrH; simp
theorem arrH_get (g : Nat → Int) (j : Nat) (h : j < 70) : (arrH g)[j]? = some (.int .i64 (g j)) := by
  unfold arrH; rw [List.getElem?_toArray, List.getElem?_map, List.getElem?_range h]; rfl
theorem arrH_set (g : Nat → Int) (k : Nat) (v : Int) : (arrH g).setIfInBounds k (.int .i64 v) = arrH (seth g k v) := by
  apply Array.ext_getElem?
  intro n
  by_cases hn : n < 70
  · rw [arrH_get _ _ hn]
    by_cases e : k = n
    · subst e
      rw [Array.getElem?_setIfInBounds_self_of_lt (by rw [arrH_size]; exact hn)]
      unfold seth; rw [if_pos rfl]
    · rw [Array.getElem?_setIfInBounds_ne e, arrH_get _ _ hn]
      unfold seth; rw [if_neg (fun h => e h.symm)]
  · rw [Array.getElem?_eq_none (by rw [Array.size_setIfInBounds, arrH_size]; omega), Array.getElem?_eq_none (by rw [arrH_size]; omega)]
theorem zeroH (w : World) : Sem.run Try.prog (zeroValue 56) w = .ok (.agg (arrH (fun _ => 0))) w := by kernel_rfl
end Go.Proofs.Ytclicjdgkcnihaa
