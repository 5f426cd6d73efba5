/- Words turned one behind the other. -/
import Derived.Test.YtimihchklecabaaPmMath
namespace Go.Grommet

/-- So many words, from a place on, each turned. -/
def turnFrom (f : PW → PW) (a m : Nat) (ws : List PW) : List PW := (List.range m).foldl (fun s x => s.modify (a + x) f) ws
theorem turnFrom_succ (f : PW → PW) (a m : Nat) (ws : List PW) : turnFrom f a (m + 1) ws = (turnFrom f a m ws).modify (a + m) f := by
  unfold turnFrom; rw [List.range_succ, List.foldl_append]; rfl
theorem turnFrom_len (f : PW → PW) (a : Nat) (ws : List PW) : ∀ m, (turnFrom f a m ws).length = ws.length
  | 0 => rfl
  | m + 1 => by rw [turnFrom_succ, List.length_modify, turnFrom_len f a ws m]
theorem turnFrom_get (f : PW → PW) (a : Nat) (ws : List PW) (k : Nat) : ∀ m, (turnFrom f a m ws)[k]? = if a ≤ k ∧ k < a + m then (ws[k]?).map f else ws[k]?
  | 0 => by rw [if_neg (by omega)]; rfl
  | m + 1 => by
    rw [turnFrom_succ, List.getElem?_modify, turnFrom_get f a ws k m]
    by_cases e : a + m = k
    · rw [if_neg (by omega : ¬ (a ≤ k ∧ k < a + m)), if_pos (by omega : a ≤ k ∧ k < a + (m + 1))]; cases ws[k]? <;> simp [e]
    · by_cases h : a ≤ k ∧ k < a + m
      · rw [if_pos h, if_pos (by omega : a ≤ k ∧ k < a + (m + 1))]; cases ws[k]? <;> simp [e]
      · rw [if_neg h, if_neg (by omega : ¬ (a ≤ k ∧ k < a + (m + 1)))]; cases ws[k]? <;> simp [e]
theorem turnFrom_line (f : PW → PW) (j : Nat) (ws : List PW) : turnFrom f (8 * j) 8 (turnFrom f 0 (8 * j) ws) = turnFrom f 0 (8 * (j + 1)) ws := by
  apply List.ext_getElem?
  intro k
  rw [turnFrom_get, turnFrom_get, turnFrom_get]
  by_cases h : k < 8 * j
  · rw [if_neg (by omega), if_pos (by omega), if_pos (by omega)]
  · by_cases h2 : k < 8 * j + 8
    · rw [if_pos (by omega), if_neg (by omega), if_pos (by omega)]
    · rw [if_neg (by omega), if_neg (by omega), if_neg (by omega)]
theorem turnFrom_all (f : PW → PW) (ws : List PW) (m : Nat) (hm : ws.length ≤ m) : turnFrom f 0 m ws = ws.map f := by
  apply List.ext_getElem?
  intro k
  rw [turnFrom_get, List.getElem?_map]
  by_cases h : k < m
  · rw [if_pos (by omega)]
  · rw [if_neg (by omega), List.getElem?_eq_none (by omega)]; rfl
end Go.Grommet
namespace Go.Grommet
/-- What is gathered of so many words, from a place on. -/
def gather {σ : Type} (f : σ → PW → σ) (ws : List PW) (a m : Nat) (s : σ) : σ := (List.range m).foldl (fun s x => f s (ws.getD (a + x) PW.nought)) s
theorem gather_succ {σ : Type} (f : σ → PW → σ) (ws : List PW) (a m : Nat) (s : σ) : gather f ws a (m + 1) s = f (gather f ws a m s) (ws.getD (a + m) PW.nought) := by
  unfold gather; rw [List.range_succ, List.foldl_append]; rfl
theorem gather_add {σ : Type} (f : σ → PW → σ) (ws : List PW) (j : Nat) (s : σ) : ∀ m, gather f ws j m (gather f ws 0 j s) = gather f ws 0 (j + m) s
  | 0 => rfl
  | m + 1 => by rw [gather_succ, gather_add f ws j s m, ← Nat.add_assoc, gather_succ, Nat.zero_add]
theorem gather_line {σ : Type} (f : σ → PW → σ) (ws : List PW) (j : Nat) (s : σ) : gather f ws (8 * j) 8 (gather f ws 0 (8 * j) s) = gather f ws 0 (8 * (j + 1)) s := gather_add f ws (8 * j) s 8
theorem gather_take {σ : Type} (f : σ → PW → σ) (ws : List PW) (s : σ) : ∀ m, m ≤ ws.length → gather f ws 0 m s = (ws.take m).foldl f s
  | 0, _ => rfl
  | m + 1, h => by
    rw [gather_succ, gather_take f ws s m (by omega), List.take_add_one, List.getElem?_eq_getElem (by omega : m < ws.length), List.foldl_append, Nat.zero_add, List.getD_eq_getElem?_getD, List.getElem?_eq_getElem (by omega : m < ws.length)]
    rfl
theorem gather_all {σ : Type} (f : σ → PW → σ) (ws : List PW) (s : σ) (m : Nat) (hm : m = ws.length) : gather f ws 0 m s = ws.foldl f s := by
  rw [gather_take f ws s m (by omega), hm, List.take_length]
end Go.Grommet
namespace Go.Grommet
/-- One word's part of a loss of power; what is left of the picks. -/
def loseAt (s : List PW × List Nat) (k : Nat) : List PW × List Nat :=
  if (s.1.getD k PW.nought).loose then (s.1.set k ((s.1.getD k PW.nought).lose (s.2.headD 0)), s.2.tail) else s
def loseFrom (a m : Nat) (s : List PW × List Nat) : List PW × List Nat := (List.range m).foldl (fun s x => loseAt s (a + x)) s
theorem loseFrom_succ (a m : Nat) (s : List PW × List Nat) : loseFrom a (m + 1) s = loseAt (loseFrom a m s) (a + m) := by
  unfold loseFrom; rw [List.range_succ, List.foldl_append]; rfl
theorem loseFrom_add (j : Nat) (s : List PW × List Nat) : ∀ m, loseFrom j m (loseFrom 0 j s) = loseFrom 0 (j + m) s
  | 0 => rfl
  | m + 1 => by rw [loseFrom_succ, loseFrom_add j s m, ← Nat.add_assoc, loseFrom_succ, Nat.zero_add]
theorem loseFrom_line (j : Nat) (s : List PW × List Nat) : loseFrom (8 * j) 8 (loseFrom 0 (8 * j) s) = loseFrom 0 (8 * (j + 1)) s := loseFrom_add (8 * j) s 8
theorem loseAt_len (s : List PW × List Nat) (k : Nat) : (loseAt s k).1.length = s.1.length := by
  unfold loseAt; split
  · exact List.length_set
  · rfl
theorem loseFrom_len (a : Nat) (s : List PW × List Nat) : ∀ m, (loseFrom a m s).1.length = s.1.length
  | 0 => rfl
  | m + 1 => by rw [loseFrom_succ, loseAt_len, loseFrom_len a s m]
theorem loseFrom_crash : ∀ (ws pre : List PW) (ps : List Nat), loseFrom pre.length ws.length (pre ++ ws, ps) = (pre ++ crash ws ps, ps.drop (looseOf ws))
  | [], pre, ps => by simp [loseFrom, crash, looseOf]
  | c :: ws, pre, ps => by
    have hg : (pre ++ c :: ws).getD pre.length PW.nought = c := by simp
    have hrest : ∀ (s : List PW × List Nat), loseFrom pre.length (ws.length + 1) s = loseFrom (pre.length + 1) ws.length (loseAt s pre.length) := by
      intro s
      have : ∀ m, loseFrom pre.length (m + 1) s = loseFrom (pre.length + 1) m (loseAt s pre.length) := by
        intro m
        induction m with
        | zero => rfl
        | succ m ih => rw [loseFrom_succ, ih, loseFrom_succ, Nat.add_assoc, Nat.add_comm 1 m]
      exact this _
    rw [List.length_cons, hrest]
    unfold loseAt
    dsimp only
    rw [hg]
    cases hc : c.loose with
    | false =>
      have h1 := loseFrom_crash ws (pre ++ [c]) ps
      rw [List.append_assoc, List.length_append] at h1
      have h2 : looseOf (c :: ws) = looseOf ws := by unfold looseOf; rw [List.filter_cons_of_neg (by simp [hc])]
      have h3 : crash (c :: ws) ps = c :: crash ws ps := by rw [crash, if_neg (by simp [hc])]
      rw [if_neg (by simp), h2, h3]
      simpa using h1
    | true =>
      have h1 := loseFrom_crash ws (pre ++ [c.lose (ps.headD 0)]) ps.tail
      rw [List.append_assoc, List.length_append] at h1
      have h2 : looseOf (c :: ws) = looseOf ws + 1 := by unfold looseOf; rw [List.filter_cons_of_pos (by simp [hc]), List.length_cons]
      have h3 : crash (c :: ws) ps = c.lose (ps.headD 0) :: crash ws ps.tail := by rw [crash, if_pos hc]
      have h4 : (pre ++ c :: ws).set pre.length (c.lose (ps.headD 0)) = pre ++ c.lose (ps.headD 0) :: ws := by simp
      have h5 : ps.tail.drop (looseOf ws) = ps.drop (looseOf ws + 1) := by rw [List.drop_tail]
      rw [if_pos rfl, h2, h3, h4]
      rw [h5] at h1
      simpa using h1
theorem loseFrom_all (ws : List PW) (ps : List Nat) (m : Nat) (hm : m = ws.length) : (loseFrom 0 m (ws, ps)).1 = crash ws ps := by
  have := loseFrom_crash ws [] ps
  rw [hm]
  simpa using congrArg Prod.fst this
end Go.Grommet
