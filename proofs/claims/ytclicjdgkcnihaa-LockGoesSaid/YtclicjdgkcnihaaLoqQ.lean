/- LockQueue: one lock, its holder, its queue. -/
import Derived.Test.YtclicjdgkcnihaaLoqI
import Derived.Test.YtclicjdgkcnihaaLoqJ
import Derived.Test.YtclicjdgkcnihaaLoqE
import Derived.Test.YtclicjdgkcnihaaLoqD
namespace Go.Proofs.Ytclicjdgkcnihaa
open Go.RowKit Go.Grommet

/-- Of those that came to a lock the first one holds it, the others wait. -/
def fC (k : Nat) : List Nat → Nat → Int
  | [] => fun _ => -1
  | c :: _ => seth (fun _ => -1) k (c : Int)
def qlC (k : Nat) (C : List Nat) : Nat → List Nat := setl (fun _ => []) k C.tail
theorem qlC_at (k : Nat) (C : List Nat) : qlC k C k = C.tail := by unfold qlC setl; rw [if_pos rfl]
theorem qlC_ne (k : Nat) (C : List Nat) {i : Nat} (h : i ≠ k) : qlC k C i = [] := by unfold qlC setl; rw [if_neg h]
theorem qlC_nil (k : Nat) : qlC k [] = fun _ => [] := by
  funext i; unfold qlC setl; split <;> rfl
theorem qlC_one (k a : Nat) : qlC k [a] = qlC k [] := rfl
theorem qlC_more (k : Nat) (c : Nat) (T : List Nat) (a : Nat) : setl (qlC k (c :: T)) k (T ++ [a]) = qlC k (c :: (T ++ [a])) := by
  funext i; unfold qlC setl
  by_cases h : i = k
  · rw [if_pos h, if_pos h]; rfl
  · rw [if_neg h, if_neg h, if_neg h]
theorem qlC_len (k : Nat) (C : List Nat) (h : C.length ≤ 100000) : ∀ i, i < 70 → (qlC k C i).length ≤ 100000 := by
  intro i _
  by_cases e : i = k
  · subst e; rw [qlC_at, List.length_tail]; omega
  · rw [qlC_ne k C e]; exact Nat.zero_le _
theorem held_nobody (a : Nat) : heldL (fun _ => -1) a 70 = [] := by
  refine List.eq_nil_iff_forall_not_mem.2 (fun i hi => ?_)
  obtain ⟨_, h2⟩ := mem_heldL.1 hi
  omega
theorem held_head (c k : Nat) (hk : k < 70) : heldL (seth (fun _ => -1) k (c : Int)) c 70 = [k] := by
  rw [heldL_take hk rfl (by rw [held_nobody]; show (-1 : Int) < (k : Int); omega), held_nobody]; rfl
theorem held_oth {b c : Nat} (k : Nat) (h : b ≠ c) : heldL (seth (fun _ => -1) k (c : Int)) b 70 = [] := by
  rw [heldL_other (f := fun _ => -1) (k := k) h rfl, held_nobody]
theorem high_head (k c : Nat) (T : List Nat) (hk : k < 70) : (k : Int) ≤ highV (heldL (fC k (c :: T)) c 70) := by
  show (k : Int) ≤ highV (heldL (seth (fun _ => -1) k (c : Int)) c 70)
  rw [held_head c k hk]; exact Int.le_refl _
theorem high_oth (k a : Nat) (C : List Nat) (h : ∀ c T, C = c :: T → a ≠ c) : highV (heldL (fC k C) a 70) < (k : Int) := by
  match C with
  | [] => show highV (heldL (fun _ => -1) a 70) < _; rw [held_nobody]; show (-1 : Int) < (k : Int); omega
  | c :: T =>
    show highV (heldL (seth (fun _ => -1) k (c : Int)) a 70) < _
    rw [held_oth k (h c T rfl)]; show (-1 : Int) < (k : Int); omega
theorem wait_in {k a : Nat} {C : List Nat} (hk : k < 70) (h : a ∈ C.tail) : waitF (qlC k C) a = some k :=
  waitF_some hk (by rw [qlC_at]; exact h) (fun i hi => by rw [qlC_ne k C (by omega)]; simp)
theorem wait_out {k a : Nat} {C : List Nat} (h : a ∉ C.tail) : waitF (qlC k C) a = none :=
  waitF_none (fun i _ => by
    by_cases e : i = k
    · subst e; rw [qlC_at]; exact h
    · rw [qlC_ne k C e]; simp)

theorem own_nils {w0 w : World} {Ps : List Pr} (h : Grommet.Own w0 w Ps) : ∀ n, Grommet.Own w0 w (Ps ++ List.replicate n (qrowP (.slice none 0 0) []))
  | 0 => by rw [List.replicate_zero, List.append_nil]; exact h
  | n + 1 => by
    rw [List.replicate_succ', ← List.append_assoc]
    exact (own_nils h n).add (F := fun _ => False) ⟨.inl ⟨rfl, rfl⟩, (by intro i e; cases e), fun _ h => h.elim⟩ (fun _ h => h.elim) (World.grownBy.refl _ _)
theorem own_fresh {w0 w : World} {X m k : Nat} (h : Grommet.Own w0 w ([] ++ [tabP X m (fun _ => -1) nilq])) : Grommet.Own w0 w (TQ X m (fC k []) nilq (qlC k []) [qrowP (.slice none 0 0) []]) := by
  have h2 := own_nils h 71
  have e : QS nilq (qlC k []) = List.replicate 70 (qrowP (.slice none 0 0) []) := by
    rw [qlC_nil, List.eq_replicate_iff]
    refine ⟨QS_len _ _, fun b hb => ?_⟩
    unfold QS at hb
    obtain ⟨i, _, rfl⟩ := List.mem_map.1 hb
    rfl
  unfold TQ
  rw [e]
  rw [show (71 : Nat) = 70 + 1 from rfl, List.replicate_succ'] at h2
  exact h2

theorem gh_all (k c : Nat) (hk : k < 70) : gh (seth (fun _ => -1) k (c : Int)) c 70 = fun _ => -1 := by
  funext i
  unfold gh seth
  by_cases e : i = k
  · rw [if_pos e, if_pos ⟨by omega, rfl⟩]
  · rw [if_neg e]
    split <;> rfl
theorem runS_one (s : St) (k : Nat) (h : ∀ i, i < 70 → i ≠ k → s.ql i = []) : ∀ j, j ≤ 70 → runS s (freeL (fun _ => -1) j) = if j ≤ k then s else stepS s k
  | 0, _ => by rw [if_pos (Nat.zero_le _)]; rfl
  | j + 1, hj => by
    have ih := runS_one s k h j (by omega)
    rw [freeL_yes (by rfl) (by omega : j < 70), runS_snoc, ih]
    by_cases h1 : j < k
    · rw [if_pos (by omega), if_pos (by omega)]
      exact stepS_nil (h j (by omega) (by omega))
    · by_cases h2 : j = k
      · subst h2; rw [if_pos (Nat.le_refl _), if_neg (by omega)]
      · rw [if_neg (by omega), if_neg (by omega)]
        refine stepS_nil ?_
        show (stepS s k).ql j = []
        rw [(stepS_other (s := s) (x := k) (k := j) h2).2.2]
        exact h j (by omega) h2
/-- What Give leaves, of a lock's holder: the next one holds it. -/
theorem giveS_eq (k c : Nat) (T : List Nat) (q : Nat → Value) (hk : k < 70) :
    (giveS (fC k (c :: T)) q (qlC k (c :: T)) c).f = fC k T ∧ (giveS (fC k (c :: T)) q (qlC k (c :: T)) c).ql = qlC k T ∧ (giveS (fC k (c :: T)) q (qlC k (c :: T)) c).nx = T.take 1 := by
  have e : giveS (fC k (c :: T)) q (qlC k (c :: T)) c = stepS { f := fun _ => -1, q, ql := qlC k (c :: T), nx := [] } k := by
    unfold giveS
    show runS { f := gh (seth (fun _ => -1) k (c : Int)) c 70, q, ql := qlC k (c :: T), nx := [] } (freeL (gh (seth (fun _ => -1) k (c : Int)) c 70) 70) = _
    rw [gh_all k c hk, runS_one _ k (fun i _ hne => qlC_ne k _ hne) 70 (Nat.le_refl _), if_neg (by omega)]
  rw [e]
  match T with
  | [] =>
    rw [stepS_nil (by show qlC k [c] k = []; rw [qlC_at]; rfl)]
    exact ⟨rfl, rfl, rfl⟩
  | d :: T =>
    rw [stepS_cons (y := d) (L := T) (by show qlC k (c :: d :: T) k = _; rw [qlC_at]; rfl)]
    refine ⟨rfl, ?_, rfl⟩
    show setl (qlC k (c :: d :: T)) k T = qlC k (d :: T)
    funext i; unfold qlC setl
    by_cases h : i = k
    · rw [if_pos h, if_pos h]; rfl
    · rw [if_neg h, if_neg h, if_neg h]
/-- The first of a row, sliced off. -/
theorem own_tail {w0 w : World} {X m : Nat} {f : Nat → Int} {q : Nat → Value} {ql : Nat → List Nat} {v : Value} {c : Nat} {T : List Nat} (h : Grommet.Own w0 w (TQ X m f q ql [qrowP v (c :: T)])) : Grommet.Own w0 w (TQ X m f q ql [qrowP (tailV v) T]) := by
  refine own_map h (by rw [TQ_len, TQ_len]; rfl) (fun i P Q hP hQ F hF => ?_)
  by_cases hi : i < 71
  · have e : (TQ X m f q ql [qrowP v (c :: T)])[i]? = (TQ X m f q ql [qrowP (tailV v) T])[i]? := by
      unfold TQ
      cases i with
      | zero => rfl
      | succ i => rw [List.getElem?_cons_succ, List.getElem?_cons_succ, List.getElem?_append_left (by rw [QS_len]; omega), List.getElem?_append_left (by rw [QS_len]; omega)]
    rw [e, hQ] at hP
    cases hP
    exact hF
  · obtain ⟨j, rfl⟩ : ∃ j, i = 71 + j := ⟨i - 71, by omega⟩
    rw [TQ_rest] at hP hQ
    cases j with
    | succ j => cases hP
    | zero =>
      cases hP
      cases hQ
      obtain ⟨h1, h2⟩ := qrow_tail hF.1
      exact ⟨h1, fun i hi => hF.2.1 i (h2 i hi), hF.2.2⟩
theorem nums_lit {w : World} {ad : Option Addr} {n cap : Nat} {L : List Nat} (h : NumsAt w (.slice ad n cap) L) : At w ad (L.map iv) ∧ L.length = n ∧ n ≤ cap := by
  obtain ⟨ad', cap', he, ha, hc⟩ := h
  injection he with h1 h2 h3
  subst h1 h2 h3
  exact ⟨ha, rfl, hc⟩
theorem came_nums {w0 w : World} {X m : Nat} {f : Nat → Int} {q : Nat → Value} {ql : Nat → List Nat} {v : Value} {C : List Nat} (h : Grommet.Own w0 w (TQ X m f q ql [qrowP v C])) : NumsAt w v C :=
  (own_qrow h (71 + 0) (by rw [TQ_rest]; rfl)).nums
end Go.Proofs.Ytclicjdgkcnihaa
