/- LockGoes: what always holds of a table of locks; all come. -/
import Derived.Test.YtclicjdgkcnihaaLoqQ
namespace Go.Proofs.Ytclicjdgkcnihaa
open Go.RowKit Go.Grommet

theorem mem_without {L : List Nat} {a x : Nat} : x ∈ without L a ↔ x ∈ L ∧ x ≠ a := by
  unfold without; rw [List.mem_filter, decide_eq_true_eq]
theorem without_sub (L : List Nat) (a : Nat) : (without L a).Sublist L := by unfold without; exact List.filter_sublist

/-- What always holds: who may hold, who may wait; nobody waits for a free lock; who waits, waits for one lock, above all that it holds. -/
structure Inv (m : Nat) (f : Nat → Int) (ql : Nat → List Nat) : Prop where
  hold : ∀ k, k < 70 → f k = -1 ∨ ∃ a : Nat, a < m ∧ f k = (a : Int)
  free : ∀ k, k < 70 → f k = -1 → ql k = []
  who : ∀ k, k < 70 → ∀ a ∈ ql k, a < m
  one : ∀ k k', k < 70 → k' < 70 → ∀ a, a ∈ ql k → a ∈ ql k' → k = k'
  nodup : ∀ k, k < 70 → (ql k).Nodup
  up : ∀ k, k < 70 → ∀ a ∈ ql k, ∀ i, i < 70 → f i = (a : Int) → i < k

theorem inv_new (m : Nat) : Inv m (fun _ => -1) (fun _ => []) :=
  ⟨fun _ _ => .inl rfl, fun _ _ _ => rfl, fun _ _ _ h => absurd h (by simp), fun _ _ _ _ _ h => absurd h (by simp), fun _ _ => List.nodup_nil, fun _ _ _ h => absurd h (by simp)⟩
theorem waitF_none_iff {ql : Nat → List Nat} {a : Nat} : waitF ql a = none ↔ ∀ k, k < 70 → a ∉ ql k := by
  constructor
  · intro h k hk hin
    unfold waitF at h
    rw [List.find?_eq_none] at h
    exact h k (List.mem_range.2 hk) (decide_eq_true hin)
  · exact waitF_none
theorem waitF_at {ql : Nat → List Nat} {a k : Nat} (h : waitF ql a = some k) : k < 70 ∧ a ∈ ql k := by
  unfold waitF at h
  have h1 := List.find?_some h
  have h2 := List.mem_of_find?_eq_some h
  exact ⟨List.mem_range.1 h2, of_decide_eq_true h1⟩
theorem Inv.take {m : Nat} {f : Nat → Int} {ql : Nat → List Nat} (h : Inv m f ql) {a k : Nat} (ha : a < m) (hk : k < 70) (hf : f k = -1) (hw : waitF ql a = none) : Inv m (seth f k (a : Int)) ql := by
  have hno := waitF_none_iff.1 hw
  refine ⟨fun i hi => ?_, fun i hi e => ?_, h.who, h.one, h.nodup, fun i hi b hb j hj e => ?_⟩
  · unfold seth
    by_cases c : i = k
    · rw [if_pos c]; exact .inr ⟨a, ha, rfl⟩
    · rw [if_neg c]; exact h.hold i hi
  · by_cases c : i = k
    · subst c; exact h.free i hi hf
    · unfold seth at e; rw [if_neg c] at e; exact h.free i hi e
  · by_cases c : j = k
    · unfold seth at e
      rw [if_pos c] at e
      have : b = a := by omega
      subst this
      exact absurd hb (hno i hi)
    · unfold seth at e
      rw [if_neg c] at e
      exact h.up i hi b hb j hj e
theorem Inv.wait {m : Nat} {f : Nat → Int} {ql : Nat → List Nat} (h : Inv m f ql) {a k : Nat} (ha : a < m) (hk : k < 70) (hf : f k ≠ -1) (hw : waitF ql a = none) (hl : highV (heldL f a 70) < (k : Int)) : Inv m f (setl ql k (ql k ++ [a])) := by
  have hno := waitF_none_iff.1 hw
  have hmem : ∀ i b, b ∈ setl ql k (ql k ++ [a]) i → b ∈ ql i ∨ (i = k ∧ b = a) := fun i b hb => by
    unfold setl at hb
    by_cases c : i = k
    · rw [if_pos c] at hb
      rcases List.mem_append.1 hb with hb | hb
      · exact .inl (c ▸ hb)
      · exact .inr ⟨c, List.mem_singleton.1 hb⟩
    · rw [if_neg c] at hb; exact .inl hb
  refine ⟨h.hold, fun i hi e => ?_, fun i hi b hb => ?_, fun i j hi hj b hb hb' => ?_, fun i hi => ?_, fun i hi b hb j hj e => ?_⟩
  · unfold setl
    rw [if_neg (by rintro rfl; exact hf e)]
    exact h.free i hi e
  · rcases hmem i b hb with h1 | ⟨_, rfl⟩
    · exact h.who i hi b h1
    · exact ha
  · rcases hmem i b hb with h1 | ⟨e1, rfl⟩
    · rcases hmem j b hb' with h2 | ⟨e2, rfl⟩
      · exact h.one i j hi hj b h1 h2
      · exact absurd h1 (hno i hi)
    · rcases hmem j b hb' with h2 | ⟨e2, _⟩
      · exact absurd h2 (hno j hj)
      · omega
  · unfold setl
    by_cases c : i = k
    · rw [if_pos c, List.nodup_append]
      exact ⟨h.nodup k hk, by simp, fun x hx y hy e => by rw [List.mem_singleton.1 hy] at e; exact hno k hk (e ▸ hx)⟩
    · rw [if_neg c]; exact h.nodup i hi
  · rcases hmem i b hb with h1 | ⟨rfl, rfl⟩
    · exact h.up i hi b h1 j hj e
    · have := le_highV f b 70 j (mem_heldL.2 ⟨hj, e⟩)
      omega

/-- One lock behind 'Give': if it is free, the first one that waits holds it. -/
def popF (f : Int) (L : List Nat) : Int := if f = -1 then (match L with | [] => -1 | y :: _ => (y : Int)) else f
def popL (f : Int) (L : List Nat) : List Nat := if f = -1 then L.tail else L
theorem runS_val (s : St) : ∀ (j : Nat), j ≤ 70 → ∀ k, k < 70 → (runS s (freeL s.f j)).f k = (if k < j then popF (s.f k) (s.ql k) else s.f k) ∧ (runS s (freeL s.f j)).ql k = (if k < j then popL (s.f k) (s.ql k) else s.ql k)
  | 0, _, k, _ => by rw [if_neg (Nat.not_lt_zero k), if_neg (Nat.not_lt_zero k)]; exact ⟨rfl, rfl⟩
  | j + 1, hj, k, hk => by
    have ih := runS_val s j (by omega)
    have hjl : j < 70 := by omega
    cases hb : (s.f j == -1) with
    | true =>
      have hf : s.f j = -1 := by simpa using hb
      rw [freeL_yes hb hjl, runS_snoc]
      show (stepS (runS s (freeL s.f j)) j).f k = _ ∧ (stepS (runS s (freeL s.f j)) j).ql k = _
      have hq := (ih j hjl).2
      have hff := (ih j hjl).1
      rw [if_neg (Nat.lt_irrefl j)] at hq hff
      by_cases e : k = j
      · subst e
        rw [if_pos (Nat.lt_succ_self k), if_pos (Nat.lt_succ_self k)]
        unfold popF popL
        rw [if_pos hf, if_pos hf]
        match hL : s.ql k with
        | [] => rw [stepS_nil (hq.trans hL)]; exact ⟨hff.trans hf, hq.trans hL⟩
        | y :: L =>
          rw [stepS_cons (hq.trans hL)]
          refine ⟨?_, ?_⟩
          · show seth _ k (y : Int) k = _; unfold seth; rw [if_pos rfl]
          · show setl _ k L k = _; unfold setl; rw [if_pos rfl]; rfl
      · have ho := stepS_other (s := runS s (freeL s.f j)) (x := j) (k := k) e
        rw [ho.1, ho.2.2, (ih k hk).1, (ih k hk).2]
        by_cases h1 : k < j
        · rw [if_pos h1, if_pos h1, if_pos (by omega), if_pos (by omega)]; exact ⟨rfl, rfl⟩
        · rw [if_neg h1, if_neg h1, if_neg (by omega), if_neg (by omega)]; exact ⟨rfl, rfl⟩
    | false =>
      have hf : s.f j ≠ -1 := by simpa using hb
      rw [freeL_no hb hjl, (ih k hk).1, (ih k hk).2]
      by_cases e : k = j
      · subst e
        rw [if_neg (Nat.lt_irrefl k), if_neg (Nat.lt_irrefl k), if_pos (Nat.lt_succ_self k), if_pos (Nat.lt_succ_self k)]
        unfold popF popL
        rw [if_neg hf, if_neg hf]; exact ⟨rfl, rfl⟩
      · by_cases h1 : k < j
        · rw [if_pos h1, if_pos h1, if_pos (by omega), if_pos (by omega)]; exact ⟨rfl, rfl⟩
        · rw [if_neg h1, if_neg h1, if_neg (by omega), if_neg (by omega)]; exact ⟨rfl, rfl⟩
/-- What Give leaves, of any worker. -/
def giveG (f : Nat → Int) (q : Nat → Value) (ql : Nat → List Nat) (a : Nat) : St := runS { f := gh f a 70, q, ql := fun k => without (ql k) a, nx := [] } (freeL (gh f a 70) 70)
theorem giveG_val (f : Nat → Int) (q : Nat → Value) (ql : Nat → List Nat) (a : Nat) (k : Nat) (hk : k < 70) :
    (giveG f q ql a).f k = popF (gh f a 70 k) (without (ql k) a) ∧ (giveG f q ql a).ql k = popL (gh f a 70 k) (without (ql k) a) := by
  have h := runS_val { f := gh f a 70, q, ql := fun k => without (ql k) a, nx := [] } 70 (Nat.le_refl _) k hk
  rw [if_pos hk, if_pos hk] at h
  exact h
theorem popL_sub (f : Int) (L : List Nat) : (popL f L).Sublist L := by
  unfold popL
  split
  · exact List.tail_sublist L
  · exact List.Sublist.refl L
theorem gh_cases (f : Nat → Int) (a k : Nat) (hk : k < 70) : (f k = (a : Int) ∧ gh f a 70 k = -1) ∨ (f k ≠ (a : Int) ∧ gh f a 70 k = f k) := by
  unfold gh
  by_cases h : f k = (a : Int)
  · exact .inl ⟨h, if_pos ⟨hk, h⟩⟩
  · exact .inr ⟨h, if_neg (fun c => h c.2)⟩
theorem give_mem {f : Nat → Int} {q : Nat → Value} {ql : Nat → List Nat} {a k b : Nat} (hk : k < 70) (h : b ∈ (giveG f q ql a).ql k) : b ∈ ql k ∧ b ≠ a := by
  rw [(giveG_val f q ql a k hk).2] at h
  exact mem_without.1 ((popL_sub _ _).subset h)
theorem Inv.give {m : Nat} {f : Nat → Int} {ql : Nat → List Nat} (h : Inv m f ql) (q : Nat → Value) (a : Nat) : Inv m (giveG f q ql a).f (giveG f q ql a).ql := by
  have hv := giveG_val f q ql a
  have hsub : ∀ k, k < 70 → ((giveG f q ql a).ql k).Sublist (ql k) := fun k hk => by
    rw [(hv k hk).2]; exact (popL_sub _ _).trans (without_sub _ _)
  refine ⟨fun k hk => ?_, fun k hk e => ?_, fun k hk b hb => h.who k hk b ((hsub k hk).subset hb), fun k k' hk hk' b hb hb' => h.one k k' hk hk' b ((hsub k hk).subset hb) ((hsub k' hk').subset hb'), fun k hk => (h.nodup k hk).sublist (hsub k hk), fun k hk b hb i hi e => ?_⟩
  · rw [(hv k hk).1]
    unfold popF
    by_cases c : gh f a 70 k = -1
    · rw [if_pos c]
      match hL : without (ql k) a with
      | [] => exact .inl rfl
      | y :: L => exact .inr ⟨y, h.who k hk y (mem_without.1 (hL ▸ List.mem_cons_self ..)).1, rfl⟩
    · rw [if_neg c]
      rcases gh_cases f a k hk with ⟨_, e⟩ | ⟨_, e⟩
      · exact absurd e c
      · rw [e]; exact h.hold k hk
  · rw [(hv k hk).1] at e
    rw [(hv k hk).2]
    unfold popF at e
    unfold popL
    by_cases c : gh f a 70 k = -1
    · rw [if_pos c] at e ⊢
      match hL : without (ql k) a with
      | [] => rfl
      | y :: L =>
        rw [hL] at e
        have : (y : Int) = -1 := e
        omega
    · rw [if_neg c] at e; exact absurd e c
  · rw [(hv i hi).1] at e
    have hbk := (hsub k hk).subset hb
    unfold popF at e
    by_cases c : gh f a 70 i = -1
    · rw [if_pos c] at e
      match hL : without (ql i) a with
      | [] => rw [hL] at e; have : (-1 : Int) = (b : Int) := e; omega
      | y :: L =>
        rw [hL] at e
        have e' : (y : Int) = (b : Int) := e
        have hyb : y = b := by omega
        subst hyb
        have hyi : y ∈ ql i := (mem_without.1 (hL ▸ List.mem_cons_self ..)).1
        have hik := h.one i k hi hk y hyi hbk
        subst hik
        rw [(hv i hi).2] at hb
        unfold popL at hb
        rw [if_pos c, hL, List.tail_cons] at hb
        have hnd := (h.nodup i hi).sublist (without_sub (ql i) a)
        rw [hL] at hnd
        exact absurd hb (List.nodup_cons.1 hnd).1
    · rw [if_neg c] at e
      rcases gh_cases f a i hi with ⟨_, e2⟩ | ⟨_, e2⟩
      · exact absurd e2 c
      · rw [e2] at e; exact h.up k hk b hbk i hi e

/-- How many wait. -/
def cnt (m : Nat) (ql : Nat → List Nat) : Nat := ((List.range m).filter fun a => (waitF ql a).isSome).length
theorem filter_le {p r : Nat → Bool} : ∀ (l : List Nat), (∀ x ∈ l, p x = true → r x = true) → (l.filter p).length ≤ (l.filter r).length
  | [], _ => Nat.le_refl _
  | x :: l, h => by
    have ih := filter_le l (fun y hy => h y (List.mem_cons_of_mem _ hy))
    have hx := h x (List.mem_cons_self ..)
    cases hp : p x with
    | true => rw [List.filter_cons_of_pos hp, List.filter_cons_of_pos (hx hp), List.length_cons, List.length_cons]; omega
    | false =>
      rw [List.filter_cons_of_neg (by rw [hp]; simp)]
      cases hr : r x with
      | true => rw [List.filter_cons_of_pos hr, List.length_cons]; omega
      | false => rw [List.filter_cons_of_neg (by rw [hr]; simp)]; exact ih
theorem filter_lt {p r : Nat → Bool} : ∀ (l : List Nat), (∀ x ∈ l, p x = true → r x = true) → (∃ x ∈ l, r x = true ∧ p x = false) → (l.filter p).length < (l.filter r).length
  | [], _, ⟨x, hx, _⟩ => by cases hx
  | x :: l, h, ⟨y, hy, hr, hp⟩ => by
    have hsub : ∀ z ∈ l, p z = true → r z = true := fun z hz => h z (List.mem_cons_of_mem _ hz)
    have h1 := filter_le l hsub
    rcases List.mem_cons.1 hy with rfl | hy
    · rw [List.filter_cons_of_neg (by rw [hp]; simp), List.filter_cons_of_pos hr, List.length_cons]; omega
    · have ih := filter_lt l hsub ⟨y, hy, hr, hp⟩
      cases hpx : p x with
      | true => rw [List.filter_cons_of_pos hpx, List.filter_cons_of_pos (h x (List.mem_cons_self ..) hpx), List.length_cons, List.length_cons]; omega
      | false =>
        rw [List.filter_cons_of_neg (by rw [hpx]; simp)]
        cases hrx : r x with
        | true => rw [List.filter_cons_of_pos hrx, List.length_cons]; omega
        | false => rw [List.filter_cons_of_neg (by rw [hrx]; simp)]; exact ih
theorem cnt_le (m : Nat) (ql : Nat → List Nat) : cnt m ql ≤ m := by
  have := List.length_filter_le (fun a => (waitF ql a).isSome) (List.range m)
  rw [List.length_range] at this
  exact this
theorem waits_iff {ql : Nat → List Nat} {a : Nat} : (waitF ql a).isSome = true ↔ ∃ k, k < 70 ∧ a ∈ ql k := by
  constructor
  · intro h
    obtain ⟨k, hk⟩ := Option.isSome_iff_exists.1 h
    exact ⟨k, waitF_at hk⟩
  · rintro ⟨k, hk, hin⟩
    cases hw : waitF ql a with
    | none => exact absurd hin (waitF_none_iff.1 hw k hk)
    | some _ => rfl
theorem give_waits {f : Nat → Int} {q : Nat → Value} {ql : Nat → List Nat} {a b : Nat} (h : (waitF (giveG f q ql a).ql b).isSome = true) : (waitF ql b).isSome = true := by
  obtain ⟨k, hk, hin⟩ := waits_iff.1 h
  exact waits_iff.2 ⟨k, hk, (give_mem hk hin).1⟩
theorem cnt_give (m : Nat) (f : Nat → Int) (q : Nat → Value) (ql : Nat → List Nat) (a : Nat) : cnt m (giveG f q ql a).ql ≤ cnt m ql :=
  filter_le _ (fun _ _ h => give_waits h)
/-- Somebody who does not wait, from w on, holds what somebody waits for. -/
def Pend (m w : Nat) (f : Nat → Int) (ql : Nat → List Nat) : Prop := ∃ g k, w ≤ g ∧ g < m ∧ k < 70 ∧ f k = (g : Int) ∧ ql k ≠ [] ∧ waitF ql g = none
theorem max_below {p : Nat → Prop} [DecidablePred p] : ∀ n, (∃ k, k < n ∧ p k) → ∃ k, k < n ∧ p k ∧ ∀ j, j < n → p j → j ≤ k
  | 0, ⟨_, h, _⟩ => absurd h (Nat.not_lt_zero _)
  | n + 1, ⟨k, hk, hp⟩ => by
    by_cases hn : p n
    · exact ⟨n, Nat.lt_succ_self n, hn, fun j hj _ => Nat.le_of_lt_succ hj⟩
    · obtain ⟨k', h1, h2, h3⟩ := max_below n ⟨k, by rcases Nat.lt_succ_iff_lt_or_eq.1 hk with h | rfl; exact h; exact absurd hp hn, hp⟩
      exact ⟨k', by omega, h2, fun j hj hpj => h3 j (by rcases Nat.lt_succ_iff_lt_or_eq.1 hj with h | rfl; exact h; exact absurd hpj hn) hpj⟩
theorem Inv.pend {m : Nat} {f : Nat → Int} {ql : Nat → List Nat} (h : Inv m f ql) {k : Nat} (hk : k < 70) (hne : ql k ≠ []) : Pend m 0 f ql := by
  obtain ⟨k, hk, hne, hmax⟩ := max_below (p := fun k => ql k ≠ []) 70 ⟨k, hk, hne⟩
  rcases h.hold k hk with e | ⟨g, hg, e⟩
  · exact absurd (h.free k hk e) hne
  · refine ⟨g, k, Nat.zero_le _, hg, hk, e, hne, waitF_none (fun i hi hin => ?_)⟩
    have h1 := h.up i hi g hin k hk e
    have h2 := hmax i hi (by intro e; rw [e] at hin; cases hin)
    omega
theorem cnt_pos {m : Nat} {f : Nat → Int} {ql : Nat → List Nat} (h : Inv m f ql) (hc : cnt m ql ≠ 0) : Pend m 0 f ql := by
  unfold cnt at hc
  obtain ⟨a, ha⟩ := List.exists_mem_of_length_pos (Nat.pos_of_ne_zero hc)
  obtain ⟨k, hk, hin⟩ := waits_iff.1 (List.mem_filter.1 ha).2
  exact h.pend hk (by intro e; rw [e] at hin; cases hin)
/-- How a round goes on. -/
def Going (m w C : Nat) (f : Nat → Int) (ql : Nat → List Nat) : Prop := cnt m ql ≤ C ∧ (C = 0 ∨ cnt m ql < C ∨ Pend m w f ql)
theorem Going.start {m : Nat} {f : Nat → Int} {ql : Nat → List Nat} (h : Inv m f ql) : Going m 0 (cnt m ql) f ql :=
  ⟨Nat.le_refl _, by
    by_cases hc : cnt m ql = 0
    · exact .inl hc
    · exact .inr (.inr (cnt_pos h hc))⟩
theorem Going.skip {m w C : Nat} {f : Nat → Int} {ql : Nat → List Nat} (h : Going m w C f ql) (hw : waitF ql w ≠ none) : Going m (w + 1) C f ql :=
  ⟨h.1, by
    rcases h.2 with h | h | ⟨g, k, h1, h2, h3, h4, h5, h6⟩
    · exact .inl h
    · exact .inr (.inl h)
    · refine .inr (.inr ⟨g, k, ?_, h2, h3, h4, h5, h6⟩)
      rcases Nat.lt_or_ge w g with h | h
      · exact h
      · obtain rfl : g = w := by omega
        exact absurd h6 hw⟩
theorem Going.step {m w C : Nat} {f : Nat → Int} {ql : Nat → List Nat} (h : Going m w C f ql) (hI : Inv m f ql) (q : Nat → Value) (hw : waitF ql w = none) : Going m (w + 1) C (giveG f q ql w).f (giveG f q ql w).ql := by
  have hle := cnt_give m f q ql w
  refine ⟨Nat.le_trans hle h.1, ?_⟩
  rcases h.2 with h2 | h2 | ⟨g, k, h1, h2, h3, h4, h5, h6⟩
  · exact .inl h2
  · exact .inr (.inl (Nat.lt_of_le_of_lt hle h2))
  · have hno := waitF_none_iff.1 hw
    have hwo : without (ql k) w = ql k := without_none (hno k h3)
    have hv := giveG_val f q ql w k h3
    by_cases e : g = w
    · subst e
      refine .inr (.inl (Nat.lt_of_lt_of_le ?_ h.1))
      obtain ⟨y, L, hL⟩ := List.exists_cons_of_ne_nil h5
      have hg : gh f g 70 k = -1 := by
        rcases gh_cases f g k h3 with ⟨_, e⟩ | ⟨e, _⟩
        · exact e
        · exact absurd h4 e
      refine filter_lt _ (fun _ _ h => give_waits h) ⟨y, List.mem_range.2 (hI.who k h3 y (hL ▸ List.mem_cons_self ..)), waits_iff.2 ⟨k, h3, hL ▸ List.mem_cons_self ..⟩, ?_⟩
      rw [← Bool.not_eq_true]
      intro hs
      obtain ⟨i, hi, hin⟩ := waits_iff.1 hs
      have h7 := (give_mem hi hin).1
      have hik := hI.one i k hi h3 y h7 (hL ▸ List.mem_cons_self ..)
      subst hik
      rw [hv.2] at hin
      unfold popL at hin
      rw [if_pos hg, hwo, hL, List.tail_cons] at hin
      have hnd := hI.nodup i h3
      rw [hL] at hnd
      exact (List.nodup_cons.1 hnd).1 hin
    · refine .inr (.inr ⟨g, k, by omega, h2, h3, ?_, ?_, ?_⟩)
      · rw [hv.1]
        rcases gh_cases f w k h3 with ⟨e2, _⟩ | ⟨_, e2⟩
        · rw [h4] at e2; exact absurd e2 (by omega)
        · rw [e2, h4]; unfold popF; rw [if_neg (by omega)]
      · rw [hv.2, hwo]
        rcases gh_cases f w k h3 with ⟨e2, _⟩ | ⟨_, e2⟩
        · rw [h4] at e2; exact absurd e2 (by omega)
        · rw [e2, h4]; unfold popL; rw [if_neg (by omega)]; exact h5
      · refine waitF_none (fun i hi hin => ?_)
        exact waitF_none_iff.1 h6 i hi (give_mem hi hin).1
theorem Going.done {m C : Nat} {f : Nat → Int} {ql : Nat → List Nat} (h : Going m m C f ql) : cnt m ql ≤ C - 1 := by
  rcases h.2 with h2 | h2 | ⟨g, k, h1, h2, _⟩
  · have := h.1; omega
  · omega
  · omega
theorem cnt_zero {m : Nat} {ql : Nat → List Nat} (h : cnt m ql = 0) {a : Nat} (ha : a < m) : waitF ql a = none := by
  cases hw : waitF ql a with
  | none => rfl
  | some k =>
    unfold cnt at h
    have := List.eq_nil_of_length_eq_zero h
    have hin : a ∈ (List.range m).filter fun a => (waitF ql a).isSome := List.mem_filter.2 ⟨List.mem_range.2 ha, by rw [hw]; rfl⟩
    rw [this] at hin
    cases hin
end Go.Proofs.Ytclicjdgkcnihaa
