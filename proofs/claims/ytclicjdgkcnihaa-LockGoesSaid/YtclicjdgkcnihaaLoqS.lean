/- Package lock: a table and its queues as things; what Give does while it goes through the free locks. -/
import Derived.Test.YtclicjdgkcnihaaLoqH
namespace Go.Proofs.Ytclicjdgkcnihaa
open Go.RowKit Go.Grommet

theorem ab_cell {B : Nat} {w w' : World} (h : AllBut B w w') {a : Addr} {u : Value} (hc : w.cell? a = some u) : w'.cell? a = some u := by
  unfold World.cell? at hc ⊢
  rcases hb : w.heap[a.block]? with _ | o
  · rw [hb] at hc; cases hc
  · cases o with
    | cells cs T f => rw [hb] at hc; rw [h.cells _ _ _ _ hb]; exact hc
    | _ => rw [hb] at hc; cases hc
def QS (q : Nat → Value) (ql : Nat → List Nat) : List Pr := (List.range 70).map fun k => qrowP (q k) (ql k)
def TQ (X m : Nat) (f : Nat → Int) (q : Nat → Value) (ql : Nat → List Nat) (Rs : List Pr) : List Pr := tabP X m f q :: (QS q ql ++ Rs)
theorem QS_len (q : Nat → Value) (ql : Nat → List Nat) : (QS q ql).length = 70 := by unfold QS; simp
theorem TQ_get (X m : Nat) (f : Nat → Int) (q : Nat → Value) (ql : Nat → List Nat) (Rs : List Pr) (k : Nat) (hk : k < 70) : (TQ X m f q ql Rs)[1 + k]? = some (qrowP (q k) (ql k)) := by
  unfold TQ
  rw [show 1 + k = k + 1 by omega, List.getElem?_cons_succ, List.getElem?_append_left (by rw [QS_len]; exact hk)]
  unfold QS
  rw [List.getElem?_map, List.getElem?_range hk]
  rfl
theorem TQ_tab (X m : Nat) (f : Nat → Int) (q : Nat → Value) (ql : Nat → List Nat) (Rs : List Pr) : (TQ X m f q ql Rs)[0]? = some (tabP X m f q) := rfl
theorem TQ_set (X m : Nat) (f g : Nat → Int) (q : Nat → Value) (ql : Nat → List Nat) (Rs : List Pr) : (TQ X m f q ql Rs).set 0 (tabP X m g q) = TQ X m g q ql Rs := rfl
theorem TQ_rest (X m : Nat) (f : Nat → Int) (q : Nat → Value) (ql : Nat → List Nat) (Rs : List Pr) (k : Nat) : (TQ X m f q ql Rs)[71 + k]? = Rs[k]? := by
  unfold TQ
  rw [show 71 + k = (70 + k) + 1 by omega, List.getElem?_cons_succ, List.getElem?_append_right (by rw [QS_len]; omega), QS_len, Nat.add_sub_cancel_left]
theorem TQ_len (X m : Nat) (f : Nat → Int) (q : Nat → Value) (ql : Nat → List Nat) (Rs : List Pr) : (TQ X m f q ql Rs).length = 71 + Rs.length := by
  unfold TQ; rw [List.length_cons, List.length_append, QS_len]; omega
theorem TQ_app (X m : Nat) (f : Nat → Int) (q : Nat → Value) (ql : Nat → List Nat) (Rs Qs : List Pr) : TQ X m f q ql Rs ++ Qs = TQ X m f q ql (Rs ++ Qs) := by
  unfold TQ; rw [List.cons_append, List.append_assoc]
theorem TQ_setR (X m : Nat) (f : Nat → Int) (q : Nat → Value) (ql : Nat → List Nat) (Rs : List Pr) (k : Nat) (P : Pr) : (TQ X m f q ql Rs).set (71 + k) P = TQ X m f q ql (Rs.set k P) := by
  unfold TQ
  rw [show 71 + k = (70 + k) + 1 by omega, List.set_cons_succ, List.set_append_right _ _ (by rw [QS_len]; omega), QS_len, Nat.add_sub_cancel_left]
theorem TQ_queue (X m : Nat) (f : Nat → Int) (q : Nat → Value) (ql : Nat → List Nat) (Rs : List Pr) (k : Nat) (hk : k < 70) (v : Value) (L : List Nat) :
    ((TQ X m f q ql Rs).set (1 + k) (qrowP v L)).set 0 (tabP X m f (setq q k v)) = TQ X m f (setq q k v) (setl ql k L) Rs := by
  unfold TQ
  rw [show 1 + k = k + 1 by omega, List.set_cons_succ, List.set_cons_zero, List.set_append_left _ _ (by rw [QS_len]; exact hk)]
  congr 2
  unfold QS
  apply List.ext_getElem?
  intro i
  by_cases e : k = i
  · subst e
    rw [List.getElem?_set_self (by simp; exact hk), List.getElem?_map, List.getElem?_range hk]
    show _ = some (qrowP (setq q k v k) (setl ql k L k))
    unfold setq setl
    rw [if_pos rfl, if_pos rfl]
  · rw [List.getElem?_set_ne e]
    by_cases hi : i < 70
    · rw [List.getElem?_map, List.getElem?_map, List.getElem?_range hi]
      show some (qrowP (q i) (ql i)) = some (qrowP (setq q k v i) (setl ql k L i))
      unfold setq setl
      rw [if_neg (fun h => e h.symm), if_neg (fun h => e h.symm)]
    · rw [List.getElem?_eq_none (by simp; omega), List.getElem?_eq_none (by simp; omega)]

theorem own_apart {w0 w : World} {Ps : List Pr} (h : Grommet.Own w0 w Ps) {i k X : Nat} {T : TypeId} {cs : Array Value} {v : Value} {L : List Nat} (hi : Ps[i]? = some (boxP X T cs)) (hk : Ps[k]? = some (qrowP v L)) (hne : i ≠ k) : ∀ g, v.ownBlock = some g → g ≠ X := by
  intro g hg e
  obtain ⟨Fs, h1, h2, _⟩ := h
  have a := h1 i _ hi
  have b := h1 k _ hk
  exact h2 i k (List.getElem?_eq_some_iff.1 hi).1 (List.getElem?_eq_some_iff.1 hk).1 hne X a.2.1 (e ▸ b.2.1 g hg)
theorem own_map {w0 w : World} {Ps Qs : List Pr} (h : Grommet.Own w0 w Ps) (hl : Ps.length = Qs.length) (hm : ∀ (k : Nat) (P Q : Pr), Ps[k]? = some P → Qs[k]? = some Q → ∀ F, P.holds w F → Q.holds w F) : Grommet.Own w0 w Qs := by
  obtain ⟨Fs, h1, h2, h3, h4⟩ := h
  refine ⟨Fs, fun k Q hQ => ?_, fun j k hj hk => h2 j k (by omega) (by omega), fun k hk => h3 k (by omega), h4⟩
  have hk := (List.getElem?_eq_some_iff.1 hQ).1
  exact hm k (Ps[k]'(by omega)) Q (List.getElem?_eq_getElem (by omega)) hQ _ (h1 k _ (List.getElem?_eq_getElem (by omega)))

theorem tailV_slice (ad : Option Addr) (n c : Nat) : tailV (.slice ad n c) = .slice (if c = 1 then ad else ad.map (·.add 1)) (n - 1) (c - 1) := rfl
theorem qrow_tail {w : World} {v : Value} {y : Nat} {L : List Nat} (h : QRow w v (y :: L)) : QRow w (tailV v) L ∧ ∀ g, (tailV v).ownBlock = some g → v.ownBlock = some g := by
  rcases h with ⟨_, h⟩ | ⟨g, o, cap, cur, rfl, hg, hl, hc, hx⟩
  · cases h
  · rw [List.length_cons] at hl
    by_cases h1 : cap = 1
    · have hL : L = [] := List.eq_nil_of_length_eq_zero (by omega)
      subst hL
      have e : tailV (.slice (some ⟨g, o, none⟩) (y :: ([] : List Nat)).length cap) = .slice (some ⟨g, o, none⟩) 0 0 := by
        rw [tailV_slice, if_pos h1, h1]; rfl
      rw [e]
      exact ⟨.inr ⟨g, o, 0, cur, rfl, hg, Nat.le_refl _, by omega, fun j x hj => by simp at hj⟩, fun i hi => hi⟩
    · have e : tailV (.slice (some ⟨g, o, none⟩) (y :: L).length cap) = .slice (some ⟨g, o + 1, none⟩) L.length (cap - 1) := by
        rw [tailV_slice, if_neg h1, Option.map_some, Addr.add_lit, List.length_cons, Nat.add_sub_cancel]
      rw [e]
      refine ⟨.inr ⟨g, o + 1, cap - 1, cur, rfl, hg, by omega, by omega, fun j x hj => ?_⟩, fun i hi => hi⟩
      rw [show o + 1 + j = o + (j + 1) by omega]
      exact hx (j + 1) x (by rw [List.getElem?_cons_succ]; exact hj)
theorem slice_tail (w : World) (g o n c : Nat) (h : 1 ≤ n) : (Instr.slice 30 (.slice (some ⟨g, o, none⟩) n c) (some (.int .i64 1)) none none).run Try.prog w = .ok (tailV (.slice (some ⟨g, o, none⟩) n c)) w := by
  have he := elem_of (P := Try.prog) Try.underlying30
  have ht : Try.prog.underlying 30 = some (.slice (Try.prog.elem 30)) := by rw [he]; exact Try.underlying30
  rw [run_slice_l (a := some ⟨g, o, none⟩) (ht := ht) (h0 := by omega) (h1 := by omega), he]
  rw [show (sizeOf 3).run Try.prog w = .ok 1 w from Try.sizeOf3 w]
  simp [Result.andThen, sliced, tailV]
theorem runS_len (s : St) : ∀ (pre : List (Fin 70)), (runS s pre).nx.length ≤ s.nx.length + pre.length := by
  intro pre
  induction pre generalizing s with
  | nil => exact Nat.le_refl _
  | cons x pre ih =>
    have h1 := ih (stepS s x.1)
    have h2 : (stepS s x.1).nx.length ≤ s.nx.length + 1 := by
      match hq : s.ql x.1 with
      | [] => rw [stepS_nil hq]; omega
      | y :: L => rw [stepS_cons hq]; simp
    show (runS (stepS s x.1) pre).nx.length ≤ _
    rw [List.length_cons]; omega

/-- The world while the free locks are gone through: the table turned, whom to tell in a row of the call's own; w1: the world before. -/
structure GvI (w1 : World) (X m B : Nat) (q : Nat → Value) (s : St) (W : World) : Prop where
  tab : TabIs W X m s.f s.q
  next : ∃ ad cap, W.heap[B]? = some (.cells #[.slice ad s.nx.length cap] 30 (0, 0)) ∧ W.ownsRow (B + 2) 3 1 (.slice ad s.nx.length cap) s.nx.length (s.nx.map iv)
  turn : Turn (fun i => i = X) w1 W
  size : B + 2 ≤ W.heap.size
  rows : ∀ k, k < 70 → QRow w1 (s.q k) (s.ql k) ∧ ∀ g, (s.q k).ownBlock = some g → (q k).ownBlock = some g

theorem GvI.own {w1 : World} {X m B : Nat} {q : Nat → Value} {s0 : St} (hB : w1.heap.size = B) (hX : X < B) : OwnFrom (B + 2) (fun (pre : List (Fin 70)) => GvI w1 X m B q (runS s0 pre)) := by
  intro pre W W' row hs hgr hr
  have hb : ∀ k, k < B + 2 → W'.heap[k]? = W.heap[k]? := fun k hk => hgr.block _ (by have := hs.size; omega) (by intro e; have := (hr _ e.symm).1; omega)
  obtain ⟨ad, cap, h1, h2⟩ := hs.next
  refine ⟨(hb X (by omega)).trans hs.tab, ⟨ad, cap, (hb _ (by omega)).trans h1, Turn.row (F := fun i => row = some i) (Turn.of hgr (fun i e => e)) h2 (fun g hg he => ?_)⟩, hs.turn.grown hgr (fun i e => .inr (by have := (hr i e).1; omega)), Nat.le_trans hs.size hgr.size, hs.rows⟩
  obtain ⟨cur, hc⟩ := row_type h2 g hg
  obtain ⟨_, o, ho, hn⟩ := hr g he
  rw [hc] at ho
  cases ho
  cases hn
theorem GvI.drew {w1 W : World} {X m B : Nat} {q : Nat → Value} {s : St} (h : GvI w1 X m B q s W) : GvI w1 X m B q s W.drew :=
  ⟨h.tab, h.next, h.turn.grown (grown_drew (World.grownBy.refl W none)) (fun _ e => by cases e), h.size, h.rows⟩
theorem GvI.turn1 {w1 W : World} {X m B : Nat} {q : Nat → Value} {s : St} (h : GvI w1 X m B q s W) (hX : X < B) {x y : Nat} {L : List Nat} (hx : x < 70) (hq : s.ql x = y :: L) :
    GvI w1 X m B q { s with f := seth s.f x (y : Int), q := setq s.q x (tailV (s.q x)), ql := setl s.ql x L } ((W.setCell ⟨X, 1 + x * 2, none⟩ (.int .i64 (y : Int))).setCell ⟨X, 1 + x * 2 + 1, none⟩ (tailV (s.q x))) := by
  have g1 := grown_setCell W ⟨X, 1 + x * 2, none⟩ (.int .i64 (y : Int))
  have g2 := grown_setCell (W.setCell ⟨X, 1 + x * 2, none⟩ (.int .i64 (y : Int))) ⟨X, 1 + x * 2 + 1, none⟩ (tailV (s.q x))
  have hsz := h.size
  have hb : ∀ k, k ≠ X → k < W.heap.size → ((W.setCell ⟨X, 1 + x * 2, none⟩ (.int .i64 (y : Int))).setCell ⟨X, 1 + x * 2 + 1, none⟩ (tailV (s.q x))).heap[k]? = W.heap[k]? := fun k hk hl => (g2.block k (Nat.lt_of_lt_of_le hl g1.size) (by simpa using hk)).trans (g1.block k hl (by simpa using hk))
  obtain ⟨ad, cap, h1, h2⟩ := h.next
  refine ⟨?_, ⟨ad, cap, (hb B (by omega) (by omega)).trans h1, Turn.row (F := fun i => i = X) ((Turn.of g1 (fun i e => by cases e; rfl)).grown g2 (fun i e => by cases e; exact .inl rfl)) h2 (fun g hg he => by have := (h2.lt g hg).1; omega)⟩, ((h.turn.grown g1 (fun i e => by cases e; exact .inl rfl)).grown g2 (fun i e => by cases e; exact .inl rfl)), Nat.le_trans hsz (Nat.le_trans g1.size g2.size), fun k hk => ?_⟩
  · have e1 := heap_setCell_at (o := 1 + x * 2) h.tab (.int .i64 (y : Int))
    rw [tabC_set m s.f s.q x (y : Int) hx] at e1
    have e2 := heap_setCell_at (o := 1 + x * 2 + 1) e1 (tailV (s.q x))
    rw [tabC_setq m (seth s.f x (y : Int)) s.q x _ hx] at e2
    exact e2
  · show QRow w1 (setq s.q x (tailV (s.q x)) k) (setl s.ql x L k) ∧ _
    have hr := h.rows k hk
    by_cases e : k = x
    · subst e
      have ht := qrow_tail (hq ▸ hr.1)
      refine ⟨by unfold setq setl; rw [if_pos rfl, if_pos rfl]; exact ht.1, fun g hg => hr.2 g (ht.2 g ?_)⟩
      have hg : (setq s.q k (tailV (s.q k)) k).ownBlock = some g := hg
      unfold setq at hg
      rwa [if_pos rfl] at hg
    · refine ⟨by unfold setq setl; rw [if_neg e, if_neg e]; exact hr.1, fun g hg => hr.2 g ?_⟩
      have hg : (setq s.q x (tailV (s.q x)) k).ownBlock = some g := hg
      unfold setq at hg
      rwa [if_neg e] at hg
theorem GvI.turn2 {w1 W w4 : World} {X m B : Nat} {q : Nat → Value} {s : St} (h : GvI w1 X m B q s W) (hB : w1.heap.size = B) (hX : X < B) {y : Nat} {ad ad2 : Option Addr} {cap cap2 : Nat}
    (hl : W.heap[B]? = some (.cells #[.slice ad s.nx.length cap] 30 (0, 0))) (hr : W.ownsRow (B + 2) 3 1 (.slice ad s.nx.length cap) s.nx.length (s.nx.map iv))
    (hg : (W.alloc (.cells #[.int .i64 (y : Int)] 3)).grownBy w4 (Value.slice ad s.nx.length cap).ownBlock) (hr2 : w4.ownsRow (B + 2) 3 1 (.slice ad2 (s.nx.length + 1) cap2) (s.nx.length + 1) (s.nx.map iv ++ [.int .i64 (y : Int)])) :
    w4.heap[B]? = some (.cells #[.slice ad s.nx.length cap] 30 (0, 0)) ∧ KeepsOthers W (w4.setCell ⟨B, 0, none⟩ (.slice ad2 (s.nx.length + 1) cap2)) ∧ KeptB (B + 1) W (w4.setCell ⟨B, 0, none⟩ (.slice ad2 (s.nx.length + 1) cap2)) ∧
      GvI w1 X m B q { s with nx := s.nx ++ [y] } (w4.setCell ⟨B, 0, none⟩ (.slice ad2 (s.nx.length + 1) cap2)) := by
  have hsz := h.size
  have hA := World.grownBy_alloc W (.cells #[.int .i64 (y : Int)] 3) none
  have hlt : ∀ g, (Value.slice ad s.nx.length cap).ownBlock = some g → B + 2 ≤ g := fun g hg => (hr.lt g hg).1
  have h2 : ∀ k, k < B + 2 → w4.heap[k]? = W.heap[k]? := fun k hk => (hg.block k (by have := hA.size; omega) (fun e => by have := hlt k e.symm; omega)).trans (hA.block k (by omega) (by simp))
  have hs2 : B + 2 ≤ w4.heap.size := by have := hA.size; have := hg.size; omega
  have hg3 := grown_setCell w4 ⟨B, 0, none⟩ (.slice ad2 (s.nx.length + 1) cap2)
  have h3 : ∀ k, k < B + 2 → k ≠ B → (w4.setCell ⟨B, 0, none⟩ (.slice ad2 (s.nx.length + 1) cap2)).heap[k]? = W.heap[k]? := fun k hk hn => (hg3.block k (by omega) (by simpa using hn)).trans (h2 k hk)
  have hl2 := (h2 B (by omega)).trans hl
  refine ⟨hl2, (KeepsOthers.alloc W _).trans ((KeepsOthers.of_grownBy hg (fun j o ej hj => ?_)).trans (KeepsOthers.setCell _ _ _)), h3 (B + 1) (by omega) (by omega), (h3 X (by omega) (by omega)).trans h.tab, ⟨ad2, cap2, ?_, ?_⟩, ?_, Nat.le_trans hs2 hg3.size, h.rows⟩
  · obtain ⟨cur, hc⟩ := row_type (World.ownsRow.alloc hr _) j ej
    rw [hc] at hj
    cases hj
    rfl
  · have := heap_setCell_at (o := 0) hl2 (.slice ad2 (s.nx.length + 1) cap2)
    show _ = some (Obj.cells #[.slice ad2 (s.nx ++ [y]).length cap2] _ _)
    rw [List.length_append, List.length_singleton]
    simpa using this
  · show World.ownsRow _ _ _ _ (.slice ad2 (s.nx ++ [y]).length cap2) (s.nx ++ [y]).length ((s.nx ++ [y]).map iv)
    rw [List.length_append, List.length_singleton, List.map_append]
    exact Turn.row (F := fun i => i = B) (Turn.of hg3 (fun i e => by cases e; rfl)) hr2 (fun g hg he => by have := (hr2.lt g hg).1; omega)
  · exact ((h.turn.grown hA (fun i e => by cases e)).grown hg (fun i e => .inr (by have := hlt i e; omega))).grown hg3 (fun i e => by cases e; exact .inr (by show w1.heap.size ≤ B; omega))
/-- What is left of it when the call is over. -/
theorem GvI.done {w0 w1 W : World} {X m B : Nat} {f : Nat → Int} {q : Nat → Value} {ql : Nat → List Nat} {s : St} {Rs : List Pr} (h : GvI w1 X m B q s W) (hO : Grommet.Own w0 w1 (TQ X m f q ql Rs)) :
    Grommet.Own w0 W (TQ X m s.f s.q s.ql Rs) := by
  obtain ⟨F, h1, h2⟩ := hO.take 0 (TQ_tab X m f q ql Rs)
  have hA := h2 W (tabP X m s.f s.q) ⟨F, ⟨h.tab, h1.2.1, fun i hi => Nat.lt_of_lt_of_le (h1.2.2 i hi) h.turn.size⟩, fun i hi => .inl hi, h.turn.mono (fun i hi => .inl (by rw [hi]; exact h1.2.1))⟩
  rw [show (TQ X m f q ql Rs).set 0 (tabP X m s.f s.q) = tabP X m s.f s.q :: (QS q ql ++ Rs) from rfl] at hA
  refine own_map hA (by unfold TQ; rw [List.length_cons, List.length_cons, List.length_append, List.length_append, QS_len, QS_len]) (fun k P Q hP hQ F hF => ?_)
  match k with
  | 0 => cases hP; cases hQ; exact hF
  | k + 1 =>
    by_cases hk : k < 70
    · have eP : (QS q ql ++ Rs)[k]? = some (qrowP (q k) (ql k)) := by have := TQ_get X m f q ql Rs k hk; rw [show 1 + k = k + 1 by omega] at this; exact this
      have eQ : (QS s.q s.ql ++ Rs)[k]? = some (qrowP (s.q k) (s.ql k)) := by have := TQ_get X m f s.q s.ql Rs k hk; rw [show 1 + k = k + 1 by omega] at this; exact this
      rw [List.getElem?_cons_succ, eP] at hP
      unfold TQ at hQ
      rw [List.getElem?_cons_succ, eQ] at hQ
      cases hP
      cases hQ
      obtain ⟨hr, hb⟩ := h.rows k hk
      refine ⟨hr.turn h.turn (fun g hg e => ?_), fun i hi => hF.2.1 i (hb i hi), hF.2.2⟩
      exact own_apart hO (i := 0) (k := 1 + k) (TQ_tab X m f q ql Rs) (TQ_get X m f q ql Rs k hk) (by omega) g (hb g hg) e
    · unfold TQ at hQ
      rw [List.getElem?_cons_succ, List.getElem?_append_right (by rw [QS_len]; omega)] at hP hQ
      rw [QS_len] at hP hQ
      rw [hP] at hQ
      cases hQ
      exact hF
end Go.Proofs.Ytclicjdgkcnihaa
