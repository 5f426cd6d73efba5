/- Package slot: Wipe, over a view. -/
import Derived.Test.YtdpkpphjpihhkaaSloE
namespace Go.Proofs.Ytdpkpphjpihhkaa
open Go.RowKit Go.Grommet

theorem func_info : (Try.prog.info? 105).map (fun i => (i.zero, i.size, i.bytes)) = some (some .nilFunc, 1, 8) := by kernel_rfl

theorem Own.append {w0 w w' : World} {Ps : List Pr} (h : Own w0 w Ps) (k : Nat) {e sz n n' : Nat} {v v' : Value} {xs ys : List Value} (hk : Ps[k]? = some (rowP e sz v n xs)) (hr : w'.ownsRow 0 e sz v' n' ys) (hg : w.grownBy w' v.ownBlock)
    (hnew : ∀ g, v'.ownBlock = some g → v.ownBlock = some g ∨ w.heap.size ≤ g) : Own w0 w' (Ps.set k (rowP e sz v' n' ys)) := by
  obtain ⟨F, h1, h2⟩ := h.take k hk
  refine h2 _ _ ⟨fun i => F i ∨ w.heap.size ≤ i ∧ i < w'.heap.size, ⟨hr, fun i hi => ?_, fun i hi => ?_⟩, fun i hi => hi.imp id (fun x => x.1), Turn.of hg (fun i e => h1.2.1 i e)⟩
  · rcases hnew i hi with e | e
    · exact .inl (h1.2.1 i e)
    · exact .inr ⟨e, row_old hr i hi⟩
  · rcases hi with hi | hi
    · exact Nat.lt_of_lt_of_le (h1.2.2 i hi) hg.size
    · exact hi.2

theorem set_mid {α : Type} (A : List α) (x y : α) (B : List α) : (A ++ x :: B).set A.length y = A ++ y :: B := by
  rw [List.set_append_right _ _ (Nat.le_refl _), Nat.sub_self]; rfl
theorem get_mid {α : Type} (A : List α) (x : α) (B : List α) : (A ++ x :: B)[A.length]? = some x := by
  rw [List.getElem?_append_right (Nat.le_refl _), Nat.sub_self]; rfl

/-- Closures, each of its own place and word. -/
def cls (g : Nat) : List Nat → List (Int × Nat) → List Pr
  | b :: bs, s :: S => closP b g s.1 s.2 :: cls g bs S
  | _, _ => []
theorem cls_snoc (g b : Nat) (s : Int × Nat) : ∀ (bs : List Nat) (S : List (Int × Nat)), bs.length = S.length → cls g (bs ++ [b]) (S ++ [s]) = cls g bs S ++ [closP b g s.1 s.2]
  | [], [], _ => rfl
  | [], _ :: _, h => by simp at h
  | _ :: _, [], h => by simp at h
  | c :: bs, t :: S, h => by
    show closP c g t.1 t.2 :: cls g (bs ++ [b]) (S ++ [s]) = _
    rw [cls_snoc g b s bs S (by simpa using h)]
    rfl
theorem cls_get (g : Nat) : ∀ (bs : List Nat) (S : List (Int × Nat)) (j : Nat), bs.length = S.length → j < S.length → (cls g bs S)[j]? = some (closP (bs.getD j 0) g (S.getD j (0, 0)).1 (S.getD j (0, 0)).2)
  | [], [], j, _, h => by simp at h
  | [], _ :: _, _, h, _ => by simp at h
  | _ :: _, [], _, h, _ => by simp at h
  | c :: bs, t :: S, 0, _, _ => rfl
  | c :: bs, t :: S, j + 1, h, hj => by
    show (cls g bs S)[j]? = _
    rw [cls_get g bs S j (by simpa using h) (by simpa using hj)]
    rfl

def slotsS (i : Int) : Nat → List (Int × Nat)
  | 0 => []
  | k + 1 => slotsS i k ++ [(slotV i (k : Int), 0)]
def descS (i : Int) : Nat → List (Int × Nat)
  | 0 => []
  | k + 1 => descS i k ++ [(descV i (k : Int), 0)] ++ [(descV i (k : Int) + 1, 0)]
theorem slotsS_length (i : Int) : ∀ k, (slotsS i k).length = k
  | 0 => rfl
  | k + 1 => by simp [slotsS, slotsS_length i k]
theorem descS_length (i : Int) : ∀ k, (descS i k).length = 2 * k
  | 0 => rfl
  | k + 1 => by simp [descS, descS_length i k]; omega
def wipeS (i : Int) : List (Int × Nat) := slotsS i 4 ++ descS i 4

theorem appF {w : World} {ops : Array Oper} {rest : List Oper} {o : Oper} {a : Act} {Q : Exit → Act → World → Prop} (hgd : o.guard = none) (s x : Operand)
    (ho : o.op = .call { callee := .builtin .append, args := #[s, x], argTypes := #[107, 107] })
    (v : Value) (n : Nat) (L : List Nat) (hs : a.eval s = v) (hown : w.ownsRow 0 105 1 v n (L.map fv))
    (ad : Addr) (m c : Nat) (M : List Nat) (hx : a.eval x = .slice (some ad) m c) (hl : M.length = m) (hw : At w (some ad) (M.map fv))
    (hb : n + m ≤ 1099511627776)
    (h : ∀ ad' cap' w', w'.ownsRow 0 105 1 (.slice ad' (n + m) cap') (n + m) ((L ++ M).map fv) → w.grownBy w' v.ownBlock → (∀ g, (Value.slice ad' (n + m) cap').ownBlock = some g → v.ownBlock = some g ∨ w.heap.size ≤ g) → wpList Try.prog ops Q rest (a.put o.dst (.slice ad' (n + m) cap')) w') : wpList Try.prog ops Q (o :: rest) a w := by
  obtain ⟨i0, hi, hz0, hz1, hz2⟩ := info_parts func_info
  refine wpList_append_blk w hgd s x 107 ho 0 105 i0 .nilFunc 1 8 Try.underlying107 hi hz0 hz1 hz2 rfl (by decide) v n (L.map fv) hs hown ad m c (M.map fv) hx (by simp [hl]) hw.some ?_ (by unfold maxLen; omega) (by omega) (Nat.zero_le _) ?_
  · intro u hu
    obtain ⟨b, _, rfl⟩ := List.mem_map.1 hu
    rfl
  · intro ad' cap' w' ho' hg hn
    exact h ad' cap' w' (by rw [List.map_append]; exact ho') hg hn
end Go.Proofs.Ytdpkpphjpihhkaa
