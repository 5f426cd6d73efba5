/- Words that are set one behind the other, up to the first error. -/
import Derived.Test.YtdpkpphjpihhkaaViewMath2
namespace Go.Grommet

def setE (xs : List Nat) (L : List (Nat × Nat)) (a : Int) (v : Nat) : Nat :=
  if 0 ≤ a ∧ a < (xs.length : Int) then (if gotV xs L a.toNat = v then 0 else putE L a.toNat) else 8
def setL (xs : List Nat) (L : List (Nat × Nat)) (a : Int) (v : Nat) : List (Nat × Nat) :=
  if 0 ≤ a ∧ a < (xs.length : Int) then (if gotV xs L a.toNat = v then L else putL L a.toNat v) else L
/-- All of a row, up to the first error. -/
def allL (xs : List Nat) : List (Nat × Nat) → List (Int × Nat) → List (Nat × Nat)
  | L, [] => L
  | L, p :: t => if setE xs L p.1 p.2 = 0 then allL xs (setL xs L p.1 p.2) t else setL xs L p.1 p.2
def allE (xs : List Nat) : List (Nat × Nat) → List (Int × Nat) → Nat
  | _, [] => 0
  | L, p :: t => if setE xs L p.1 p.2 = 0 then allE xs (setL xs L p.1 p.2) t else setE xs L p.1 p.2
theorem allE_snoc (xs : List Nat) (p : Int × Nat) : ∀ (S : List (Int × Nat)) (L : List (Nat × Nat)), allE xs L S = 0 → allE xs L (S ++ [p]) = setE xs (allL xs L S) p.1 p.2
  | [], L, _ => by
    show (if setE xs L p.1 p.2 = 0 then allE xs (setL xs L p.1 p.2) [] else setE xs L p.1 p.2) = setE xs L p.1 p.2
    split
    · rename_i h; rw [h]; rfl
    · rfl
  | q :: t, L, h => by
    show (if setE xs L q.1 q.2 = 0 then allE xs (setL xs L q.1 q.2) (t ++ [p]) else setE xs L q.1 q.2) = _
    have h' : (if setE xs L q.1 q.2 = 0 then allE xs (setL xs L q.1 q.2) t else setE xs L q.1 q.2) = 0 := h
    by_cases hq : setE xs L q.1 q.2 = 0
    · rw [if_pos hq] at h' ⊢
      rw [allE_snoc xs p t _ h']
      show _ = setE xs (if setE xs L q.1 q.2 = 0 then allL xs (setL xs L q.1 q.2) t else setL xs L q.1 q.2) p.1 p.2
      rw [if_pos hq]
    · rw [if_neg hq] at h'; exact absurd h' hq
theorem allL_snoc (xs : List Nat) (p : Int × Nat) : ∀ (S : List (Int × Nat)) (L : List (Nat × Nat)), allE xs L S = 0 → allL xs L (S ++ [p]) = setL xs (allL xs L S) p.1 p.2
  | [], L, _ => by
    show (if setE xs L p.1 p.2 = 0 then allL xs (setL xs L p.1 p.2) [] else setL xs L p.1 p.2) = setL xs L p.1 p.2
    split <;> rfl
  | q :: t, L, h => by
    show (if setE xs L q.1 q.2 = 0 then allL xs (setL xs L q.1 q.2) (t ++ [p]) else setL xs L q.1 q.2) = _
    have h' : (if setE xs L q.1 q.2 = 0 then allE xs (setL xs L q.1 q.2) t else setE xs L q.1 q.2) = 0 := h
    by_cases hq : setE xs L q.1 q.2 = 0
    · rw [if_pos hq] at h' ⊢
      rw [allL_snoc xs p t _ h']
      show _ = setL xs (if setE xs L q.1 q.2 = 0 then allL xs (setL xs L q.1 q.2) t else setL xs L q.1 q.2) p.1 p.2
      rw [if_pos hq]
    · rw [if_neg hq] at h'; exact absurd h' hq
/-- An error stays, whatever stands behind. -/
theorem all_more (xs : List Nat) (R : List (Int × Nat)) : ∀ (S : List (Int × Nat)) (L : List (Nat × Nat)), allE xs L S ≠ 0 → allE xs L (S ++ R) = allE xs L S ∧ allL xs L (S ++ R) = allL xs L S
  | [], L, h => absurd rfl h
  | q :: t, L, h => by
    have h' : (if setE xs L q.1 q.2 = 0 then allE xs (setL xs L q.1 q.2) t else setE xs L q.1 q.2) ≠ 0 := h
    show (if setE xs L q.1 q.2 = 0 then allE xs (setL xs L q.1 q.2) (t ++ R) else setE xs L q.1 q.2) = (if setE xs L q.1 q.2 = 0 then allE xs (setL xs L q.1 q.2) t else setE xs L q.1 q.2) ∧
      (if setE xs L q.1 q.2 = 0 then allL xs (setL xs L q.1 q.2) (t ++ R) else setL xs L q.1 q.2) = (if setE xs L q.1 q.2 = 0 then allL xs (setL xs L q.1 q.2) t else setL xs L q.1 q.2)
    by_cases hq : setE xs L q.1 q.2 = 0
    · rw [if_pos hq] at h'
      simp only [if_pos hq]
      exact all_more xs R t _ h'
    · simp only [if_neg hq, and_self]
theorem setL_length (xs : List Nat) (L : List (Nat × Nat)) (a : Int) (v : Nat) : (setL xs L a v).length ≤ L.length + 1 := by
  unfold setL putL
  split
  · split
    · omega
    · split
      · simp
      · split
        · omega
        · simp
  · omega
theorem allL_length (xs : List Nat) : ∀ (S : List (Int × Nat)) (L : List (Nat × Nat)), (allL xs L S).length ≤ L.length + S.length
  | [], L => Nat.le_refl _
  | q :: t, L => by
    show (if setE xs L q.1 q.2 = 0 then allL xs (setL xs L q.1 q.2) t else setL xs L q.1 q.2).length ≤ L.length + (t.length + 1)
    have h1 := setL_length xs L q.1 q.2
    split
    · have h2 := allL_length xs t (setL xs L q.1 q.2)
      omega
    · omega
/-- In range, and where there is room: no error, and just that word is another one. -/
theorem setE_ok {xs : List Nat} {L : List (Nat × Nat)} {a : Nat} {v : Nat} (ha : a < xs.length) (hl : L.length < 96) : setE xs L (a : Int) v = 0 := by
  unfold setE
  rw [if_pos ⟨by omega, by omega⟩]
  split
  · rfl
  · unfold putE
    split
    · rfl
    · rw [if_neg (by omega)]
theorem setL_got {xs : List Nat} {L : List (Nat × Nat)} {a : Nat} {v : Nat} (ha : a < xs.length) (hl : L.length < 96) (b : Nat) : gotV xs (setL xs L (a : Int) v) b = if b = a then v else gotV xs L b := by
  unfold setL
  rw [if_pos ⟨by omega, by omega⟩, Int.toNat_natCast]
  by_cases h : gotV xs L a = v
  · rw [if_pos h]
    by_cases hb : b = a
    · rw [if_pos hb, hb, h]
    · rw [if_neg hb]
  · rw [if_neg h, got_put (.inl hl) b]
theorem all_ok (xs : List Nat) : ∀ (vs : List Nat) (L : List (Nat × Nat)) (a : Nat), a + vs.length ≤ xs.length → L.length + vs.length ≤ 96 →
    allE xs L ((List.range vs.length).map fun i => (((a + i : Nat) : Int), vs.getD i 0)) = 0 ∧ ∀ b, gotV xs (allL xs L ((List.range vs.length).map fun i => (((a + i : Nat) : Int), vs.getD i 0))) b = if a ≤ b ∧ b < a + vs.length then vs.getD (b - a) 0 else gotV xs L b := by
  intro vs
  induction vs with
  | nil => intro L a _ _; exact ⟨rfl, fun b => by rw [if_neg (by simp)]; rfl⟩
  | cons v t ih =>
    intro L a ha hl
    have hr : (List.range (v :: t).length).map (fun i => (((a + i : Nat) : Int), (v :: t).getD i 0)) = ((a : Int), v) :: (List.range t.length).map (fun i => (((a + 1 + i : Nat) : Int), t.getD i 0)) := by
      rw [List.length_cons, List.range_succ_eq_map, List.map_cons, List.map_map]
      congr 1
      apply List.map_congr_left
      intro i _
      simp [Nat.add_comm, Nat.add_left_comm]
    rw [hr]
    rw [List.length_cons] at ha hl
    have h0 : setE xs L (a : Int) v = 0 := setE_ok (by omega) (by omega)
    have hl1 := setL_length xs L (a : Int) v
    obtain ⟨i1, i2⟩ := ih (setL xs L (a : Int) v) (a + 1) (by omega) (by omega)
    constructor
    · show (if setE xs L (a : Int) v = 0 then _ else _) = 0
      rw [if_pos h0]; exact i1
    · intro b
      show gotV xs (if setE xs L (a : Int) v = 0 then _ else _) b = _
      rw [if_pos h0, i2 b, setL_got (by omega) (by omega) b, List.length_cons]
      by_cases hb : b = a
      · subst hb
        rw [if_neg (by omega), if_pos rfl, if_pos ⟨Nat.le_refl _, by omega⟩, Nat.sub_self]; rfl
      · by_cases hb2 : a + 1 ≤ b ∧ b < a + 1 + t.length
        · rw [if_pos hb2, if_pos ⟨by omega, by omega⟩, show b - a = (b - (a + 1)) + 1 from by omega]; rfl
        · rw [if_neg hb2, if_neg hb, if_neg (by omega)]
end Go.Grommet
