/- Package slot: Save, over a view. -/
import Derived.Test.YtdpkpphjpihhkaaSloK
namespace Go.Proofs.Ytdpkpphjpihhkaa
open Go.RowKit Go.Grommet

/-- A row of closures, what lies behind it, and closures that are told in it or will be. -/
def WY (w0 : World) (P : List Pr) (g n : Nat) (ad : Option Addr) (cap : Nat) (bs : List Nat) (Ms : List Pr) (cs : List Nat) (S : List (Int × Nat)) (w : World) : Prop :=
  Own w0 w (P ++ rowP 105 1 (.slice ad n cap) n (bs.map fv) :: (Ms ++ cls g cs S))
section
variable {w0 w w' : World} {P Ms : List Pr} {g n cap : Nat} {ad : Option Addr} {bs cs : List Nat} {S : List (Int × Nat)}
theorem WY.row (h : WY w0 P g n ad cap bs Ms cs S w) : w.ownsRow 0 105 1 (.slice ad n cap) n (bs.map fv) := Own.row h P.length (get_mid _ _ _)
theorem WY.quiet (h : WY w0 P g n ad cap bs Ms cs S w) (hg : w.grownBy w' none) : WY w0 P g n ad cap bs Ms cs S w' := Own.quiet h hg
theorem setY (h : WY w0 P g n ad cap bs Ms cs S w) (hl : cs.length = S.length) (a : Int) (v : Nat) :
    Calls Try.prog 49 #[.pointer (some ⟨g, 0, none⟩), .int .i64 a, .int .u64 (v : Int)] w fun e w' => ∃ b, e = .returned (.func (.func 74) #[] #[.pointer (some ⟨b, 0, none⟩), .pointer (some ⟨b + 1, 0, none⟩), .pointer (some ⟨b + 2, 0, none⟩)]) ∧ WY w0 P g n ad cap bs Ms (cs ++ [b]) (S ++ [(a, v)]) w' := by
  refine (setH' g a v w0 w _ h).mono ?_
  rintro e w' ⟨b, rfl, hO⟩
  refine ⟨b, rfl, ?_⟩
  unfold WY
  rw [cls_snoc g b (a, v) cs S hl]
  rw [List.append_assoc, List.cons_append, List.append_assoc] at hO
  exact hO
theorem WY.app {n' cap' : Nat} {ad' : Option Addr} {bs' : List Nat} (h : WY w0 P g n ad cap bs Ms cs S w)
    (hr : w'.ownsRow 0 105 1 (.slice ad' n' cap') n' (bs'.map fv)) (hg : w.grownBy w' (Value.slice ad n cap).ownBlock) (hn : ∀ g, (Value.slice ad' n' cap').ownBlock = some g → (Value.slice ad n cap).ownBlock = some g ∨ w.heap.size ≤ g) : WY w0 P g n' ad' cap' bs' Ms cs S w' := by
  have := Own.append h P.length (get_mid _ _ _) hr hg hn
  rw [set_mid] at this
  exact this
end

def wordsT (sl : Int) (ws : List Nat) : Nat → List (Int × Nat)
  | 0 => []
  | j + 1 => wordsT sl ws j ++ [(sl + 4 + (j : Int), ws.getD j 0)]
theorem wordsT_length (sl : Int) (ws : List Nat) : ∀ j, (wordsT sl ws j).length = j
  | 0 => rfl
  | j + 1 => by simp [wordsT, wordsT_length sl ws j]
theorem wordsT_small (sl : Int) (ws : List Nat) (h : ∀ n ∈ ws, n < 18446744073709551616) : ∀ j, ∀ s ∈ wordsT sl ws j, s.2 < 18446744073709551616
  | 0, s, hs => by cases hs
  | j + 1, s, hs => by
    rcases List.mem_append.1 hs with hs | hs
    · exact wordsT_small sl ws h j s hs
    · rw [List.mem_singleton.1 hs]
      show ws.getD j 0 < _
      by_cases hj : j < ws.length
      · exact h _ (getD_mem ws j 0 hj)
      · rw [List.getD_eq_getElem?_getD, List.getElem?_eq_none (by omega)]; decide
def saveS (sl : Int) (C ra rb : Nat) (ws : List Nat) (sq : Nat) : List (Int × Nat) := [(sl + 1, C), (sl + 2, ra), (sl + 3, rb)] ++ (wordsT sl ws ws.length ++ [(sl, sq)])

/-- All that was told, done. -/
theorem saveOrd (k g : Nat) (xs : List Nat) (L : List (Nat × Nat)) (Ps : List Pr) (B W : Pr) (b1 b2 b3 : Nat) (s1 s2 s3 : Int × Nat) (cs : List Nat) (S : List (Int × Nat)) (ad : Option Addr) (N cap : Nat) (w0 w : World) (hk : Ps[k]? = some (viewP g xs L))
    (hl : cs.length = S.length) (hN : N = 3 + S.length) (hb : N ≤ 1000) (hv : ∀ s ∈ [s1, s2, s3] ++ S, s.2 < 18446744073709551616)
    (h : WY w0 (Ps ++ [B, closP b1 g s1.1 s1.2, closP b2 g s2.1 s2.2, closP b3 g s3.1 s3.2]) g N ad cap ([b1, b2, b3] ++ cs) [W] cs S w) :
    Calls Try.prog 51 #[.slice ad N cap] w fun e w' => e = .returned (.int .i64 (allE xs L ([s1, s2, s3] ++ S) : Int)) ∧ Own w0 w' (Ps.set k (viewP g xs (allL xs L ([s1, s2, s3] ++ S)))) := by
  have hkl := (List.getElem?_eq_some_iff.1 hk).1
  refine (inOrderH k (Ps.length + 4) g xs L ([s1, s2, s3] ++ S) ([b1, b2, b3] ++ cs) ad N cap w0 w _ h ?_ ?_ (by omega) ?_ ?_ (by omega) ?_ ?_).mono ?_
  · rw [List.append_assoc, List.getElem?_append_left hkl]; exact hk
  · rw [List.append_assoc, List.getElem?_append_right (by omega), show Ps.length + 4 - Ps.length = 4 from by omega]; rfl
  · simp; omega
  · simp; omega
  · intro j hj
    by_cases h3 : j < 3
    · refine ⟨Ps.length + (j + 1), by omega, ?_⟩
      rw [List.append_assoc, List.getElem?_append_right (by omega), show Ps.length + (j + 1) - Ps.length = j + 1 from by omega]
      have h4 : j = 0 ∨ j = 1 ∨ j = 2 := by omega
      rcases h4 with rfl | rfl | rfl <;> rfl
    · obtain ⟨i, rfl⟩ : ∃ i, j = 3 + i := ⟨j - 3, by omega⟩
      refine ⟨Ps.length + (6 + i), by omega, ?_⟩
      rw [List.append_assoc, List.getElem?_append_right (by omega), show Ps.length + (6 + i) - Ps.length = i + 1 + 1 + 1 + 1 + 1 + 1 from by omega]
      have e1 : ([b1, b2, b3] ++ cs).getD (3 + i) 0 = cs.getD i 0 := by rw [show 3 + i = i + 1 + 1 + 1 from by omega]; rfl
      have e2 : ([s1, s2, s3] ++ S).getD (3 + i) (0, 0) = S.getD i (0, 0) := by rw [show 3 + i = i + 1 + 1 + 1 from by omega]; rfl
      rw [e1, e2]
      exact cls_get g cs S i hl (by omega)
  · intro j hj
    exact hv _ (getD_mem _ j (0, 0) (by simp; omega))
  · rintro e w' ⟨he, hO⟩
    rw [List.append_assoc, List.set_append_left _ _ hkl] at hO
    exact ⟨he, hO.less⟩
end Go.Proofs.Ytdpkpphjpihhkaa
