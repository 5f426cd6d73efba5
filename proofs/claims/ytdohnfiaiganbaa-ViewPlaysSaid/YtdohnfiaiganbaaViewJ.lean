/- Apply beside other things; the document's view beside other things. -/
import Derived.Test.YtdohnfiaiganbaaViewI
import Derived.Test.YtdohnfiaiganbaaViewMath2
namespace Go.Proofs.Ytdohnfiaiganbaa
open Go.RowKit Go.Grommet

theorem Own.apart {w0 w : World} {Ps : List Pr} (h : Own w0 w Ps) (j k : Nat) (hne : j ≠ k) {e e' s s' n n' : Nat} {v v' : Value} {xs ys : List Value} (hj : Ps[j]? = some (rowP e s v n xs)) (hk : Ps[k]? = some (rowP e' s' v' n' ys)) :
    ∀ i, v.ownBlock = some i → v'.ownBlock ≠ some i := by
  obtain ⟨Fs, h1, h2, _, _⟩ := h
  intro i hi hi'
  exact h2 j k (List.getElem?_eq_some_iff.1 hj).1 (List.getElem?_eq_some_iff.1 hk).1 hne i ((h1 j _ hj).2.1 i hi) ((h1 k _ hk).2.1 i hi')
theorem Own.rowNew {w0 w : World} {Ps : List Pr} (h : Own w0 w Ps) (k : Nat) {e s n : Nat} {v : Value} {xs : List Value} (hk : Ps[k]? = some (rowP e s v n xs)) : ∀ i, v.ownBlock = some i → w0.heap.size ≤ i := by
  obtain ⟨Fs, h1, _, h3, _⟩ := h
  intro i hi
  exact h3 k (List.getElem?_eq_some_iff.1 hk).1 i ((h1 k _ hk).2.1 i hi)

def intL (L : List (Nat × Nat)) : List (Int × Nat) := L.map fun p => ((p.1 : Int), p.2)
theorem icells_intL : ∀ L : List (Nat × Nat), icells (intL L) = wcells L
  | [] => rfl
  | p :: t => by
    have := icells_intL t
    simp only [intL] at this
    simp [intL, icells, wcells, this]
theorem natL_intL (L : List (Nat × Nat)) : natL (intL L) = L := by
  unfold natL intL
  rw [List.map_map]
  have : ((fun p : Int × Nat => (p.1.toNat, p.2)) ∘ fun p : Nat × Nat => ((p.1 : Int), p.2)) = id := by
    funext p; simp
  rw [this, List.map_id]
theorem okI_intL {n : Nat} {L : List (Nat × Nat)} (h : ∀ p ∈ L, p.1 < n) : okI n (intL L) = true := by
  unfold okI intL
  rw [List.all_eq_true]
  intro p hp
  obtain ⟨q, hq, rfl⟩ := List.mem_map.1 hp
  have := h q hq
  simp [inB]
  omega

theorem ApplyH (k : Nat) (ad : Option Addr) (n cap : Nat) (xs : List Nat) (bd : Option Addr) (m c : Nat) (M : List (Int × Nat)) (w0 w : World) (Ps Qs : List Pr) (h : Own w0 w Ps) (hk : Ps[k]? = some (rowP 29 1 (.slice ad n cap) n (xs.map wv))) (hn : xs.length = n)
    (hat : At w bd (icells M)) (hL : M.length = m) (hm : m ≤ 549755813888) (hok : okI n M = true) (hne : ∀ a, bd = some a → M ≠ [] → (Value.slice ad n cap).ownBlock ≠ some a.block)
    (hQ : Ps.set k (rowP 29 1 (.slice ad n cap) n ((flatV xs (natL M)).map wv)) = Qs) :
    Calls Try.prog 23 #[.slice ad n cap, .slice bd m c] w fun e w' => e = .returned (.int .i64 0) ∧ Own w0 w' Qs := by
  obtain ⟨F, h1, h2⟩ := h.take k hk
  refine (Apply_yes 0 ad n cap xs bd m c M w h1.1 hn hat hL hm hok hne).mono ?_
  rintro e w' ⟨rfl, hr, hg⟩
  subst hQ
  exact ⟨rfl, h2 w' _ ⟨F, ⟨hr, h1.2.1, fun i hi => Nat.lt_of_lt_of_le (h1.2.2 i hi) hg.size⟩, fun i hi => .inl hi, Turn.of hg (fun i e => h1.2.1 i e)⟩⟩
end Go.Proofs.Ytdohnfiaiganbaa
