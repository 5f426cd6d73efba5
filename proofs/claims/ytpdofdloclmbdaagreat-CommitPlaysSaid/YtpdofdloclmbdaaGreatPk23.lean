/- Texts of ours, packed. -/
import Derived.ArgAppend
import Derived.BigQuiet
import Derived.Deep.QuietTactic
import Derived.StillTailTactics
import Derived.Test.YtpdofdloclmbdaaGreatPk16
import Derived.Test.YtpdofdloclmbdaaGreatPk20
section
/- Package commit: the steps of a run, in memory. -/
namespace Go.Proofs.YtpdofdloclmbdaaGreat
open Go.RowKit Go.Grommet

/-- A call of a device. -/
inductive Cl where
  | store (a v : Nat)
  | flush (l : Nat)
  | fence
/-- A closure that does it; its variables stand among these blocks. -/
def CloIs (w : World) (F : Nat → Prop) (R D : Nat) : Cl → Value → Prop
  | .store a v, cv => ∃ br ba bv, cv = .func (.func 112) #[] #[ptr br, ptr ba, ptr bv] ∧ w.heap[br]? = some (.cells #[ptr R] 48 (0, 0)) ∧ w.heap[ba]? = some (.cells #[.int .i64 (a : Int)] 3 (0, 0)) ∧ w.heap[bv]? = some (.cells #[.int .u64 (v : Int)] 44 (0, 0)) ∧ F br ∧ F ba ∧ F bv
  | .flush l, cv => ∃ br bl, cv = .func (.func 115) #[] #[ptr br, ptr bl] ∧ w.heap[br]? = some (.cells #[ptr R] 48 (0, 0)) ∧ w.heap[bl]? = some (.cells #[.int .i64 (l : Int)] 3 (0, 0)) ∧ F br ∧ F bl
  | .fence, cv => cv = .func (.func 117) #[ptr D] #[]
theorem CloIs.turn {w w' : World} {F H : Nat → Prop} {R D : Nat} {c : Cl} {cv : Value} (h : CloIs w F R D c cv) (ht : Turn H w w') (hn : ∀ i, F i → ¬ H i) : CloIs w' F R D c cv := by
  cases c with
  | store a v =>
    obtain ⟨br, ba, bv, e, h1, h2, h3, f1, f2, f3⟩ := h
    exact ⟨br, ba, bv, e, ht.obj h1 (hn _ f1), ht.obj h2 (hn _ f2), ht.obj h3 (hn _ f3), f1, f2, f3⟩
  | flush l =>
    obtain ⟨br, bl, e, h1, h2, f1, f2⟩ := h
    exact ⟨br, bl, e, ht.obj h1 (hn _ f1), ht.obj h2 (hn _ f2), f1, f2⟩
  | fence => exact h
theorem CloIs.wider {w : World} {F G : Nat → Prop} {R D : Nat} {c : Cl} {cv : Value} (h : CloIs w F R D c cv) (hF : ∀ i, F i → G i) : CloIs w G R D c cv := by
  cases c with
  | store a v =>
    obtain ⟨br, ba, bv, e, h1, h2, h3, f1, f2, f3⟩ := h
    exact ⟨br, ba, bv, e, h1, h2, h3, hF _ f1, hF _ f2, hF _ f3⟩
  | flush l =>
    obtain ⟨br, bl, e, h1, h2, f1, f2⟩ := h
    exact ⟨br, bl, e, h1, h2, hF _ f1, hF _ f2⟩
  | fence => exact h
/-- .. where only steps and runs have turned. -/
theorem CloIs.past {w w' : World} {F H : Nat → Prop} {R D : Nat} {c : Cl} {cv : Value} (h : CloIs w F R D c cv) (ht : Turn H w w') (hH : ∀ i, H i → ∃ cs T f, w.heap[i]? = some (.cells cs T f) ∧ (T = 142 ∨ T = 105)) : CloIs w' F R D c cv := by
  have key : ∀ (i : Nat) (cs : Array Value) (T : TypeId), w.heap[i]? = some (.cells cs T (0, 0)) → T ≠ 142 → T ≠ 105 → ¬ H i := by
    intro i cs T hi n1 n2 hh
    obtain ⟨cs', T', f, h1, h2⟩ := hH i hh
    rw [hi] at h1
    cases h1
    rcases h2 with e | e
    · exact n1 e
    · exact n2 e
  cases c with
  | store a v =>
    obtain ⟨br, ba, bv, e, h1, h2, h3, f1, f2, f3⟩ := h
    exact ⟨br, ba, bv, e, ht.obj h1 (key _ _ _ h1 (by decide) (by decide)), ht.obj h2 (key _ _ _ h2 (by decide) (by decide)), ht.obj h3 (key _ _ _ h3 (by decide) (by decide)), f1, f2, f3⟩
  | flush l =>
    obtain ⟨br, bl, e, h1, h2, f1, f2⟩ := h
    exact ⟨br, bl, e, ht.obj h1 (key _ _ _ h1 (by decide) (by decide)), ht.obj h2 (key _ _ _ h2 (by decide) (by decide)), f1, f2⟩
  | fence => exact h
theorem CloIs.func {w : World} {F : Nat → Prop} {R D : Nat} {c : Cl} {cv : Value} (h : CloIs w F R D c cv) : ∃ fn fi ca, cv = .func fn fi ca := by
  cases c with
  | store a v => obtain ⟨br, ba, bv, e, _⟩ := h; exact ⟨_, _, _, e⟩
  | flush l => obtain ⟨br, bl, e, _⟩ := h; exact ⟨_, _, _, e⟩
  | fence => exact ⟨_, _, _, h⟩
theorem CloIs.one {w : World} {F : Nat → Prop} {R D : Nat} {c : Cl} {cv : Value} (h : CloIs w F R D c cv) : cv.oneCell' = true := by
  cases c with
  | store a v => obtain ⟨br, ba, bv, e, _⟩ := h; rw [e]; rfl
  | flush l => obtain ⟨br, bl, e, _⟩ := h; rw [e]; rfl
  | fence => rw [show cv = _ from h]; rfl

/-- A row of steps, from some place of a block on. -/
def Row2 (w : World) (v : Value) (n : Nat) (xs : List Value) : Prop :=
  xs.length = n * 2 ∧ ((v = .slice none 0 0 ∧ n = 0) ∨ ∃ g o cap cur, v = .slice (some ⟨g, o, none⟩) n cap ∧ w.heap[g]? = some (.cells cur 142 (0, 0)) ∧ n ≤ cap ∧ o + cap * 2 ≤ cur.size ∧ ∀ (j : Nat) (x : Value), xs[j]? = some x → cur[o + j]? = some x)
theorem Row2.turn {w w' : World} {v : Value} {n : Nat} {xs : List Value} {H : Nat → Prop} (h : Row2 w v n xs) (ht : Turn H w w') (hn : ∀ g, v.ownBlock = some g → ¬ H g) : Row2 w' v n xs := by
  refine ⟨h.1, ?_⟩
  rcases h.2 with h | ⟨g, o, cap, cur, rfl, hg, r⟩
  · exact .inl h
  · exact .inr ⟨g, o, cap, cur, rfl, ht.obj hg (hn g rfl), r⟩
theorem Row2.block {w : World} {v : Value} {n : Nat} {xs : List Value} (h : Row2 w v n xs) : ∀ g, v.ownBlock = some g → ∃ cur, w.heap[g]? = some (.cells cur 142 (0, 0)) := by
  intro g hg
  rcases h.2 with ⟨rfl, _⟩ | ⟨g', o, cap, cur, rfl, hg', r⟩
  · cases hg
  · cases hg; exact ⟨cur, hg'⟩
theorem Row2.of {w : World} {base n : Nat} {v : Value} {xs : List Value} (h : w.ownsRow base 142 2 v n xs) : Row2 w v n xs := by
  obtain ⟨hl, h | ⟨g, cap, cur, rfl, _, hh, hn, _, hc, htk⟩⟩ := h
  · exact ⟨hl, .inl h⟩
  · refine ⟨hl, .inr ⟨g, 0, cap, cur, rfl, hh, hn, by omega, fun j x hj => ?_⟩⟩
    have hj' := hj
    rw [← htk, List.getElem?_take] at hj'
    split at hj'
    · rw [Nat.zero_add, ← Array.getElem?_toList]; exact hj'
    · cases hj'
theorem infoStep : (Tryz.prog.info? 142).map (fun i => (i.zero, i.size, i.bytes)) = some (some (.agg #[.int .u8 0, .nilFunc]), 2, 16) := by kernel_rfl
set_option maxHeartbeats 2000000 in
/-- One more behind such a row. -/
theorem run_append2 (w : World) (ty : TypeId) (v : Value) (n : Nat) (xs : List Value) (u1 u2 : Value) (tmp : Nat) (h : Row2 w v n xs) (ht : w.heap[tmp]? = some (.cells #[u1, u2] 142 (0, 0))) (o1 : u1.oneCell' = true) (o2 : u2.oneCell' = true) (hn : n ≤ 100000) :
    ∃ ad cap w', (Builtin.append_ #[103, 103] ty #[v, .slice (some ⟨tmp, 0, none⟩) 1 1]).run Tryz.prog w = .ok (.slice ad (n + 1) cap) w' ∧ Row2 w' (.slice ad (n + 1) cap) (n + 1) (xs ++ [u1, u2]) ∧ w.grownBy w' v.ownBlock ∧
      (∀ g, (Value.slice ad (n + 1) cap).ownBlock = some g → v.ownBlock = some g ∨ w.heap.size ≤ g) := by
  obtain ⟨i0, hi, hz0, hz1, hz2⟩ := info_parts infoStep
  have hnews : ∀ j u, [u1, u2][j]? = some u → w.cell? ((⟨tmp, 0, none⟩ : Addr).add j) = some u := (at_of_row ht).some
  have h1 : ∀ u ∈ [u1, u2], u.oneCell' = true := by
    intro u hu
    simp only [List.mem_cons, List.not_mem_nil, or_false] at hu
    rcases hu with rfl | rfl
    · exact o1
    · exact o2
  obtain ⟨hl, h⟩ := h
  have hL1 : (xs ++ [u1, u2]).length = (n + 1) * 2 := by simp [hl]; omega
  rcases h with ⟨rfl, rfl⟩ | ⟨g, o, cap, cur, rfl, hg, hlc, hc, hx⟩
  · obtain rfl := List.eq_nil_of_length_eq_zero (l := xs) (by simpa using hl)
    have hown : w.ownsRow 0 142 2 (.slice none 0 0) 0 [] := ⟨rfl, .inl ⟨rfl, rfl⟩⟩
    obtain ⟨v', w', hr, h2, h3, h4⟩ := run_append_blk (P := Tryz.prog) w 0 103 ty 142 i0 (.agg #[.int .u8 0, .nilFunc]) 2 16 Tryz.underlying103 hi hz0 hz1 hz2 rfl (by decide) _ 0 [] hown ⟨tmp, 0, none⟩ 1 1 [u1, u2] rfl hnews h1 (by decide) (by decide) (Nat.zero_le _)
    obtain ⟨ad', cap', rfl, _⟩ := row_slice h2
    exact ⟨ad', cap', w', hr, Row2.of h2, h3, h4⟩
  · by_cases hroom : n + 1 ≤ cap
    · have hlt : o + n * 2 + 1 < cur.size := by omega
      have hcell : ∀ j, j < [u1, u2].length → (w.cell? ⟨g, o + n * i0.size + j, none⟩).isSome = true := by
        intro j hj
        rw [hz1]
        have : j < 2 := by simpa using hj
        have hj2 : o + n * 2 + j < cur.size := by omega
        simp [World.cell?, hg, hj2]
      have hfr : ∀ j, j < [u1, u2].length → w.frozen? ⟨g, o + n * i0.size + j, none⟩ = false := by
        intro j hj
        simp [World.frozen?, hg]
      have hr := run_append_room_cells (P := Tryz.prog) w (ty := ty) 103 142 i0 Tryz.underlying103 hi g o n cap ⟨tmp, 0, none⟩ 1 1 [u1, u2] (by rw [hz1]; rfl) hnews h1 hroom hcell hfr
      rw [hz1] at hr
      obtain ⟨o2, ho2⟩ : ∃ o2, o + n * 2 = o2 := ⟨_, rfl⟩
      rw [ho2, show w.setCells g o2 [u1, u2] = (w.setCell ⟨g, o2, none⟩ u1).setCell ⟨g, o2 + 1, none⟩ u2 from rfl] at hr
      have hw1 := heap_setCell_at (w := w) (b := g) (o := o2) hg u1
      have hw2 := heap_setCell_at (o := o2 + 1) hw1 u2
      refine ⟨_, _, _, hr, ⟨hL1, .inr ⟨g, o, cap, (cur.setIfInBounds o2 u1).setIfInBounds (o2 + 1) u2, rfl, hw2, hroom, by rw [Array.size_setIfInBounds, Array.size_setIfInBounds]; exact hc, fun j y hj => ?_⟩⟩, grown_trans (grown_setCell w ⟨g, o2, none⟩ u1) (grown_setCell _ ⟨g, o2 + 1, none⟩ u2), fun g' hg' => .inl hg'⟩
      by_cases hjl : j < xs.length
      · rw [List.getElem?_append_left hjl] at hj
        rw [Array.getElem?_setIfInBounds_ne (by omega), Array.getElem?_setIfInBounds_ne (by omega)]
        exact hx j y hj
      · rw [List.getElem?_append_right (by omega)] at hj
        have hj2 : j - xs.length = 0 ∨ j - xs.length = 1 := by
          have := (List.getElem?_eq_some_iff.1 hj).1
          simp at this; omega
        rcases hj2 with e | e
        · rw [e] at hj
          cases hj
          rw [Array.getElem?_setIfInBounds_ne (by omega), show o + j = o2 by omega, Array.getElem?_setIfInBounds_self_of_lt (by omega)]
        · rw [e] at hj
          cases hj
          rw [show o + j = o2 + 1 by omega, Array.getElem?_setIfInBounds_self_of_lt (by rw [Array.size_setIfInBounds]; omega)]
    · have ha : ∀ j u, xs[j]? = some u → w.cell? ((⟨g, o, none⟩ : Addr).add j) = some u := by
        intro j u hj
        rw [Addr.add_lit]
        have := hx j u hj
        simp [World.cell?, hg, this]
      obtain ⟨v', w', hr, h2, h3⟩ := run_append_arg_grows (P := Tryz.prog) w (ty := ty) 103 142 i0 (.agg #[.int .u8 0, .nilFunc]) 2 16 Tryz.underlying103 hi hz0 hz1 hz2 rfl (by decide) ⟨g, o, none⟩ n cap xs hl ha ⟨tmp, 0, none⟩ 1 1 [u1, u2] rfl hnews (by omega) (by unfold maxLen; omega) (by omega)
      obtain ⟨ad', cap2, rfl, _⟩ := row_slice h2
      exact ⟨ad', cap2, w', hr, Row2.of h2, grown_wide h3, fun g' hg' => .inr (h2.lt g' hg').1⟩
/-- The first one goes. -/
theorem Row2.tail {w : World} {ad : Option Addr} {n cap : Nat} {u1 u2 : Value} {xs : List Value} (h : Row2 w (.slice ad (n + 1) cap) (n + 1) (u1 :: u2 :: xs)) :
    ∃ g o, ad = some ⟨g, o, none⟩ ∧ n + 1 ≤ cap ∧ w.cell? ⟨g, o, none⟩ = some u1 ∧ w.cell? ⟨g, o + 1, none⟩ = some u2 ∧ (∃ cur, w.heap[g]? = some (.cells cur 142 (0, 0))) ∧
      ∀ (ad' : Option Addr), (ad' = some ⟨g, o, none⟩ ∧ cap = 1) ∨ ad' = some ⟨g, o + 2, none⟩ → Row2 w (.slice ad' n (cap - 1)) n xs := by
  obtain ⟨hl, ⟨h0, _⟩ | ⟨g, o, cap', cur, he, hg, hlc, hc, hx⟩⟩ := h
  · cases h0
  · cases he
    have hl' : xs.length = n * 2 := by simp at hl; omega
    have x0 := hx 0 u1 rfl
    have x1 := hx 1 u2 rfl
    refine ⟨g, o, rfl, hlc, by simp [World.cell?, hg, ← x0], by simp [World.cell?, hg, ← x1], ⟨cur, hg⟩, ?_⟩
    rintro ad' (⟨rfl, rfl⟩ | rfl)
    · obtain rfl : n = 0 := by omega
      obtain rfl := List.eq_nil_of_length_eq_zero (l := xs) (by simpa using hl')
      exact ⟨rfl, .inr ⟨g, o, 0, cur, rfl, hg, Nat.le_refl _, by omega, fun j x hj => by simp at hj⟩⟩
    · refine ⟨hl', .inr ⟨g, o + 2, cap - 1, cur, rfl, hg, by omega, by omega, fun j x hj => ?_⟩⟩
      rw [show o + 2 + j = o + (j + 2) by omega]
      exact hx (j + 2) x hj
/-- 'append' by what it comes to. -/
theorem wpList_append_run {P : Program} {w w' : World} {ops : Array Oper} {rest : List Oper} {o : Oper} {a : Act} {Q : Exit → Act → World → Prop} (hgd : o.guard = none) (s x : Operand) (t : TypeId)
    (ho : o.op = .call { callee := .builtin .append, args := #[s, x], argTypes := #[t, t] }) (v vs vx : Value) (hs : a.eval s = vs) (hx : a.eval x = vx) (hr : (Builtin.append_ #[t, t] o.type #[vs, vx]).run P w = .ok v w')
    (h : wpList P ops Q rest (a.put o.dst v) w') : wpList P ops Q (o :: rest) a w := by
  refine wpList_plain hgd fun K hK => ?_
  unfold Oper.wp execOp
  simp only [ho, resolve, invoke, builtin, Sem.run_bind, Sem.run_pure, Result.andThen_ok, List.map_toArray, List.map_cons, List.map_nil, hs, hx, hr]
  exact hK _ _ h

/-- A step: its phase, its call. -/
def cellsS : List (Nat × Cl) → List Value → List Value
  | s :: S, cv :: cvs => .int .u8 (s.1 : Int) :: cv :: cellsS S cvs
  | _, _ => []
theorem cellsS_snoc : ∀ (S : List (Nat × Cl)) (cvs : List Value) (s : Nat × Cl) (cv : Value), cvs.length = S.length → cellsS (S ++ [s]) (cvs ++ [cv]) = cellsS S cvs ++ [.int .u8 (s.1 : Int), cv]
  | [], [], _, _, _ => rfl
  | [], _ :: _, _, _, h => by simp at h
  | _ :: _, [], _, _, h => by simp at h
  | t :: S, c :: cvs, s, cv, h => by
    have := cellsS_snoc S cvs s cv (by simpa using h)
    simp [cellsS, this]
/-- A run's memory: its device, its geometry, its area, its steps; boxes that lead to it; closures of which no step is made. -/
structure RunIs (R D : Nat) (a b c : Int) (A : Nat) (Bs : List Nat) (Pn : List (Cl × Value)) (S : List (Nat × Cl)) (w : World) (F : Nat → Prop) (ad : Option Addr) (cap : Nat) (cvs : List Value) : Prop where
  box : w.heap[R]? = some (.cells #[ptr D, .int .i64 a, .int .i64 b, .int .i64 c, .int .i64 (A : Int), .slice ad S.length cap] 105 (0, 0))
  row : Row2 w (.slice ad S.length cap) S.length (cellsS S cvs)
  own : F R
  ownRow : ∀ g, (Value.slice ad S.length cap).ownBlock = some g → F g
  len : cvs.length = S.length
  clo : ∀ (i : Nat) (s : Nat × Cl) (cv : Value), S[i]? = some s → cvs[i]? = some cv → CloIs w F R D s.2 cv
  pend : ∀ x ∈ Pn, CloIs w F R D x.1 x.2
  boxes : ∀ x ∈ Bs, w.heap[x]? = some (.cells #[ptr R] 48 (0, 0)) ∧ F x
  old : ∀ i, F i → i < w.heap.size
def runP (R D : Nat) (a b c : Int) (A : Nat) (Bs : List Nat) (Pn : List (Cl × Value)) (S : List (Nat × Cl)) : Pr where
  holds w F := ∃ ad cap cvs, RunIs R D a b c A Bs Pn S w F ad cap cvs
  turn := fun ⟨ad, cap, cvs, h⟩ ht hn => ⟨ad, cap, cvs, ht.obj h.box (hn _ h.own), h.row.turn ht (fun g hg => hn _ (h.ownRow g hg)), h.own, h.ownRow, h.len, fun i s cv h1 h2 => (h.clo i s cv h1 h2).turn ht hn, fun x hx => (h.pend x hx).turn ht hn, fun x hx => ⟨ht.obj (h.boxes x hx).1 (hn _ (h.boxes x hx).2), (h.boxes x hx).2⟩, fun i hi => Nat.lt_of_lt_of_le (h.old i hi) ht.size⟩
  old := fun ⟨_, _, _, h⟩ => h.old
/-- One of the things is taken into another one. -/
theorem Own.absorb {w0 w : World} {Ps : List Pr} {Q : Pr} (h : Grommet.Own w0 w (Ps ++ [Q])) (k : Nat) {P P' : Pr} (hk : Ps[k]? = some P) (hP : ∀ F G, P.holds w F → Q.holds w G → P'.holds w (fun i => F i ∨ G i)) : Grommet.Own w0 w (Ps.set k P') := by
  obtain ⟨Fs, h1, h2, h3, h4⟩ := h
  have hkl := (List.getElem?_eq_some_iff.1 hk).1
  have hlen : (Ps ++ [Q]).length = Ps.length + 1 := by simp
  refine ⟨upd Fs k (fun i => Fs k i ∨ Fs Ps.length i), ?_, ?_, ?_, h4⟩
  · intro j X hX
    by_cases hj : j = k
    · subst hj
      rw [upd_same]
      rw [List.getElem?_set_self hkl] at hX
      cases hX
      exact hP _ _ (h1 j P (by rw [List.getElem?_append_left hkl]; exact hk)) (h1 Ps.length Q (by simp))
    · rw [upd_ne _ _ hj]
      rw [List.getElem?_set_ne (fun e => hj e.symm)] at hX
      exact h1 j X (by rw [List.getElem?_append_left (List.getElem?_eq_some_iff.1 hX).1]; exact hX)
  · intro j l hj hl hne i hi
    rw [List.length_set] at hj hl
    by_cases hjk : j = k
    · subst hjk
      rw [upd_same] at hi
      rw [upd_ne _ _ (fun e => hne e.symm)]
      rcases hi with hi | hi
      · exact h2 _ l (by omega) (by omega) hne i hi
      · exact h2 _ l (by omega) (by omega) (by omega) i hi
    · rw [upd_ne _ _ hjk] at hi
      by_cases hlk : l = k
      · subst hlk
        rw [upd_same]
        rintro (hF | hF)
        · exact h2 j _ (by omega) (by omega) hne i hi hF
        · exact h2 j _ (by omega) (by omega) (by omega) i hi hF
      · rw [upd_ne _ _ hlk]; exact h2 j l (by omega) (by omega) hne i hi
  · intro j hj i hi
    rw [List.length_set] at hj
    by_cases hjk : j = k
    · subst hjk
      rw [upd_same] at hi
      rcases hi with hi | hi
      · exact h3 _ (by omega) i hi
      · exact h3 _ (by omega) i hi
    · rw [upd_ne _ _ hjk] at hi; exact h3 j (by omega) i hi
end Go.Proofs.YtpdofdloclmbdaaGreat
end
section
/- Package commit: add; the closures' calls. -/
namespace Go.Proofs.YtpdofdloclmbdaaGreat
open Go.RowKit Go.Grommet

theorem RunIs.widen {R D : Nat} {a b c : Int} {A : Nat} {Bs : List Nat} {Pn : List (Cl × Value)} {S : List (Nat × Cl)} {w : World} {F G : Nat → Prop} {ad : Option Addr} {cap : Nat} {cvs : List Value} (h : RunIs R D a b c A Bs Pn S w F ad cap cvs) (hF : ∀ i, F i → G i) (hG : ∀ i, G i → i < w.heap.size) : RunIs R D a b c A Bs Pn S w G ad cap cvs :=
  ⟨h.box, h.row, hF _ h.own, fun g hg => hF _ (h.ownRow g hg), h.len, fun i s cv h1 h2 => (h.clo i s cv h1 h2).wider hF, fun x hx => (h.pend x hx).wider hF, fun x hx => ⟨(h.boxes x hx).1, hF _ (h.boxes x hx).2⟩, hG⟩
/-- A box that leads to the run. -/
theorem run_box {w0 w : World} {Ps : List Pr} {R D : Nat} {a b c : Int} {A : Nat} {Bs : List Nat} {Pn : List (Cl × Value)} {S : List (Nat × Cl)} {x : Nat} (h : Grommet.Own w0 w (Ps ++ [boxP x 48 #[ptr R]])) (k : Nat) (hk : Ps[k]? = some (runP R D a b c A Bs Pn S)) : Grommet.Own w0 w (Ps.set k (runP R D a b c A (x :: Bs) Pn S)) := by
  refine Own.absorb h k hk ?_
  rintro F G ⟨ad, cap, cvs, hR⟩ ⟨g1, g2, g3⟩
  have hW := hR.widen (G := fun i => F i ∨ G i) (fun i hi => .inl hi) (fun i hi => hi.elim (hR.old i) (g3 i))
  exact ⟨ad, cap, cvs, hW.box, hW.row, hW.own, hW.ownRow, hW.len, hW.clo, hW.pend, fun y hy => by
    rcases List.mem_cons.1 hy with rfl | hy
    · exact ⟨g1, .inr g2⟩
    · exact hW.boxes y hy, hW.old⟩
/-- A closure that flushes, of such a box and a new one. -/
theorem run_flush {w0 w : World} {Ps : List Pr} {R D : Nat} {a b c : Int} {A : Nat} {Bs : List Nat} {Pn : List (Cl × Value)} {S : List (Nat × Cl)} {x l z : Nat} (h : Grommet.Own w0 w (Ps ++ [boxP l 3 #[.int .i64 (z : Int)]])) (k : Nat) (hk : Ps[k]? = some (runP R D a b c A Bs Pn S)) (hx : x ∈ Bs) : Grommet.Own w0 w (Ps.set k (runP R D a b c A Bs [(.flush z, .func (.func 115) #[] #[ptr x, ptr l])] S)) := by
  refine Own.absorb h k hk ?_
  rintro F G ⟨ad, cap, cvs, hR⟩ ⟨g1, g2, g3⟩
  have hW := hR.widen (G := fun i => F i ∨ G i) (fun i hi => .inl hi) (fun i hi => hi.elim (hR.old i) (g3 i))
  refine ⟨ad, cap, cvs, hW.box, hW.row, hW.own, hW.ownRow, hW.len, hW.clo, fun y hy => ?_, hW.boxes, hW.old⟩
  obtain rfl := List.mem_singleton.1 hy
  exact ⟨x, l, rfl, (hW.boxes x hx).1, g1, (hW.boxes x hx).2, .inr g2⟩
/-- A closure that stores, of three new boxes. -/
theorem run_store {w0 w : World} {Ps : List Pr} {R D : Nat} {a b c : Int} {A : Nat} {Bs : List Nat} {Pn : List (Cl × Value)} {S : List (Nat × Cl)} {x y z : Nat} {at_ v : Nat} (h : Grommet.Own w0 w (Ps ++ [boxP x 48 #[ptr R], boxP y 3 #[.int .i64 (at_ : Int)], boxP z 44 #[.int .u64 (v : Int)]])) (k : Nat) (hk : Ps[k]? = some (runP R D a b c A Bs Pn S)) : Grommet.Own w0 w (Ps.set k (runP R D a b c A Bs [(.store at_ v, .func (.func 112) #[] #[ptr x, ptr y, ptr z])] S)) := by
  have hkl := (List.getElem?_eq_some_iff.1 hk).1
  let P1 : Pr := { holds := fun w F => (∃ ad cap cvs, RunIs R D a b c A Bs Pn S w F ad cap cvs) ∧ w.heap[z]? = some (.cells #[.int .u64 (v : Int)] 44 (0, 0)) ∧ F z, turn := fun h ht hn => ⟨(runP R D a b c A Bs Pn S).turn h.1 ht hn, ht.obj h.2.1 (hn _ h.2.2), h.2.2⟩, old := fun h => (runP R D a b c A Bs Pn S).old h.1 }
  let P2 : Pr := { holds := fun w F => P1.holds w F ∧ w.heap[y]? = some (.cells #[.int .i64 (at_ : Int)] 3 (0, 0)) ∧ F y, turn := fun h ht hn => ⟨P1.turn h.1 ht hn, ht.obj h.2.1 (hn _ h.2.2), h.2.2⟩, old := fun h => P1.old h.1 }
  have h1 : Grommet.Own w0 w ((Ps ++ [boxP x 48 #[ptr R], boxP y 3 #[.int .i64 (at_ : Int)]]).set k P1) := by
    refine Own.absorb (Q := boxP z 44 #[.int .u64 (v : Int)]) (by simpa using h) k (P := runP R D a b c A Bs Pn S) (by rw [List.getElem?_append_left hkl]; exact hk) ?_
    rintro F G ⟨ad, cap, cvs, hR⟩ ⟨g1, g2, g3⟩
    exact ⟨⟨ad, cap, cvs, hR.widen (fun i hi => .inl hi) (fun i hi => hi.elim (hR.old i) (g3 i))⟩, g1, .inr g2⟩
  rw [List.set_append_left _ _ hkl] at h1
  have h2 : Grommet.Own w0 w (((Ps.set k P1) ++ [boxP x 48 #[ptr R]]).set k P2) := by
    refine Own.absorb (Q := boxP y 3 #[.int .i64 (at_ : Int)]) (by simpa using h1) k (P := P1) (by rw [List.getElem?_append_left (by simpa using hkl), List.getElem?_set_self hkl]) ?_
    rintro F G ⟨⟨ad, cap, cvs, hR⟩, q1, q2⟩ ⟨g1, g2, g3⟩
    exact ⟨⟨⟨ad, cap, cvs, hR.widen (fun i hi => .inl hi) (fun i hi => hi.elim (hR.old i) (g3 i))⟩, q1, .inl q2⟩, g1, .inr g2⟩
  rw [List.set_append_left _ _ (by simpa using hkl), List.set_set] at h2
  have h3 := Own.absorb (Q := boxP x 48 #[ptr R]) h2 k (P := P2) (P' := runP R D a b c A Bs [(.store at_ v, .func (.func 112) #[] #[ptr x, ptr y, ptr z])] S) (by rw [List.getElem?_set_self hkl]) (by
    rintro F G ⟨⟨⟨ad, cap, cvs, hR⟩, q1, q2⟩, r1, r2⟩ ⟨g1, g2, g3⟩
    have hW := hR.widen (G := fun i => F i ∨ G i) (fun i hi => .inl hi) (fun i hi => hi.elim (hR.old i) (g3 i))
    refine ⟨ad, cap, cvs, hW.box, hW.row, hW.own, hW.ownRow, hW.len, hW.clo, fun u hu => ?_, hW.boxes, hW.old⟩
    obtain rfl := List.mem_singleton.1 hu
    exact ⟨x, y, z, rfl, g1, r1, q1, .inr g2, .inl r2, .inl q2⟩)
  rw [List.set_set] at h3
  exact h3
/-- A closure that fences. -/
theorem run_fence {w0 w : World} {Ps : List Pr} {R D : Nat} {a b c : Int} {A : Nat} {Bs : List Nat} {Pn : List (Cl × Value)} {S : List (Nat × Cl)} (h : Grommet.Own w0 w Ps) (k : Nat) (hk : Ps[k]? = some (runP R D a b c A Bs Pn S)) : Grommet.Own w0 w (Ps.set k (runP R D a b c A Bs [(.fence, .func (.func 117) #[ptr D] #[])] S)) := by
  obtain ⟨F, ⟨ad, cap, cvs, hR⟩, h2⟩ := h.take k hk
  refine h2 w _ ⟨F, ⟨ad, cap, cvs, hR.box, hR.row, hR.own, hR.ownRow, hR.len, hR.clo, fun u hu => ?_, hR.boxes, hR.old⟩, fun i hi => .inl hi, Turn.refl _ _⟩
  obtain rfl := List.mem_singleton.1 hu
  exact rfl
/-- The run's own cells. -/
theorem run_cells {w0 w : World} {Ps : List Pr} {R D : Nat} {a b c : Int} {A : Nat} {Bs : List Nat} {Pn : List (Cl × Value)} {S : List (Nat × Cl)} (h : Grommet.Own w0 w Ps) (k : Nat) (hk : Ps[k]? = some (runP R D a b c A Bs Pn S)) :
    w.cell? ⟨R, 0, none⟩ = some (ptr D) ∧ w.cell? ⟨R, 1, none⟩ = some (.int .i64 a) ∧ w.cell? ⟨R, 2, none⟩ = some (.int .i64 b) ∧ w.cell? ⟨R, 3, none⟩ = some (.int .i64 c) ∧ w.cell? ⟨R, 4, none⟩ = some (.int .i64 (A : Int)) ∧ (∃ ad cap, w.cell? ⟨R, 5, none⟩ = some (.slice ad S.length cap)) ∧ w.frozen? ⟨R, 5, none⟩ = false ∧ ∀ x ∈ Bs, w.cell? ⟨x, 0, none⟩ = some (ptr R) := by
  obtain ⟨F, ad, cap, cvs, hR⟩ := h.get k hk
  have hb := hR.box
  refine ⟨by simp [World.cell?, hb], by simp [World.cell?, hb], by simp [World.cell?, hb], by simp [World.cell?, hb], by simp [World.cell?, hb], ⟨ad, cap, by simp [World.cell?, hb]⟩, by simp [World.frozen?, hb], fun x hx => ?_⟩
  have := (hR.boxes x hx).1
  simp [World.cell?, this]
/-- One step more, in memory. -/
theorem run_added {w0 w : World} {Ps : List Pr} {R D : Nat} {a b c : Int} {A : Nat} {Bs : List Nat} {Pn : List (Cl × Value)} {S : List (Nat × Cl)} (h : Grommet.Own w0 w Ps) (k : Nat) (hk : Ps[k]? = some (runP R D a b c A Bs Pn S)) (p : Nat) (cl : Cl) (cv : Value) (hc : (cl, cv) ∈ Pn) (hl : S.length ≤ 100000) (ty : TypeId) :
    ∃ ad cap ad' cap' w2, w.cell? ⟨R, 5, none⟩ = some (.slice ad S.length cap) ∧ (Builtin.append_ #[103, 103] ty #[.slice ad S.length cap, .slice (some ⟨w.heap.size, 0, none⟩) 1 1]).run Tryz.prog (w.alloc (.cells #[.int .u8 (p : Int), cv] 142)) = .ok (.slice ad' (S.length + 1) cap') w2 ∧ w2.cell? ⟨R, 5, none⟩ = some (.slice ad S.length cap) ∧ w2.frozen? ⟨R, 5, none⟩ = false ∧
      Grommet.Own w0 (w2.setCell ⟨R, 5, none⟩ (.slice ad' (S.length + 1) cap')) (Ps.set k (runP R D a b c A Bs Pn (S ++ [(p, cl)]))) := by
  have hg1 := World.grownBy_alloc w (.cells #[.int .u8 (p : Int), cv] 142) none
  have h1 := h.quiet hg1
  obtain ⟨F0, ad0, cap0, cvs0, hR0⟩ := h.get k hk
  obtain ⟨F, ⟨ad, cap, cvs, hR⟩, hback⟩ := h1.take k hk
  have hbx := hR.box
  have he : (Value.slice ad0 S.length cap0) = .slice ad S.length cap := by
    have e1 := hR0.box
    have e2 := (hg1.block R (Array.getElem?_eq_some_iff.1 e1).1 (by simp)).trans e1
    rw [hbx] at e2
    simp only [Option.some.injEq, Obj.cells.injEq, Array.mk.injEq, List.cons.injEq] at e2
    exact e2.1.2.2.2.2.2.1.symm
  have hone := (hR.pend _ hc).one
  obtain ⟨ad', cap', w2, hr, hrow, hg, hnew⟩ := run_append2 (w.alloc (.cells #[.int .u8 (p : Int), cv] 142)) ty (.slice ad S.length cap) S.length (cellsS S cvs) (.int .u8 (p : Int)) cv w.heap.size hR.row (heap_alloc_new w _) rfl hone hl
  have hRg : ∀ g, (Value.slice ad S.length cap).ownBlock = some g → g ≠ R := by
    intro g hg' e
    subst e
    obtain ⟨cur, hc⟩ := hR.row.block _ hg'
    rw [hbx] at hc
    simp at hc
  have hb2 : w2.heap[R]? = some (.cells #[ptr D, .int .i64 a, .int .i64 b, .int .i64 c, .int .i64 (A : Int), .slice ad S.length cap] 105 (0, 0)) := (hg.block R (Array.getElem?_eq_some_iff.1 hbx).1 (fun e => hRg R e.symm rfl)).trans hbx
  have hlt2 := (Array.getElem?_eq_some_iff.1 hb2).1
  have hb3 := heap_setCell_at (o := 5) hb2 (.slice ad' (S.length + 1) cap')
  have hRlt := (Array.getElem?_eq_some_iff.1 hbx).1
  have hRn : ∀ g, (Value.slice ad' (S.length + 1) cap').ownBlock = some g → g ≠ R := by
    intro g hg' e
    rcases hnew g hg' with e2 | e2
    · exact hRg g e2 e
    · omega
  have ht2 : Turn (fun i => (Value.slice ad S.length cap).ownBlock = some i ∨ i = R) (w.alloc (.cells #[.int .u8 (p : Int), cv] 142)) (w2.setCell ⟨R, 5, none⟩ (.slice ad' (S.length + 1) cap')) := (Turn.of (F := fun i => (Value.slice ad S.length cap).ownBlock = some i ∨ i = R) hg (fun i e => .inl e)).trans (Turn.of (F := fun i => i = R) (grown_setCell w2 ⟨R, 5, none⟩ _) (fun i e => by cases e; rfl)) (fun i e => .inl (.inr e))
  have hpast : ∀ {cc : Cl} {cvx : Value} {G : Nat → Prop}, CloIs (w.alloc (.cells #[.int .u8 (p : Int), cv] 142)) G R D cc cvx → CloIs (w2.setCell ⟨R, 5, none⟩ (.slice ad' (S.length + 1) cap')) G R D cc cvx := fun hC => hC.past ht2 (fun i hi => by
    rcases hi with hi | rfl
    · obtain ⟨cur, hcur⟩ := hR.row.block _ hi
      exact ⟨_, _, _, hcur, .inl rfl⟩
    · exact ⟨_, _, _, hbx, .inr rfl⟩)
  refine ⟨ad0, cap0, ad', cap', w2, by simp [World.cell?, hR0.box], by rw [he]; exact hr, by rw [he]; simp [World.cell?, hb2], by simp [World.frozen?, hb2], ?_⟩
  refine hback _ _ ⟨fun i => F i ∨ (w.heap.size + 1 ≤ i ∧ i < w2.heap.size), ⟨ad', cap', cvs ++ [cv], ?_⟩, fun i hi => hi.imp id (fun x => by simpa using x.1), ht2.mono (fun i hi => by
    rcases hi with hi | rfl
    · exact .inl (hR.ownRow i hi)
    · exact .inl hR.own)⟩
  have hsz : (w2.setCell ⟨R, 5, none⟩ (.slice ad' (S.length + 1) cap')).heap.size = w2.heap.size := by simp [World.setCell]
  have hsn : (S ++ [(p, cl)]).length = S.length + 1 := by simp
  refine ⟨?_, ?_, .inl hR.own, ?_, by rw [hsn, List.length_append, hR.len]; rfl, ?_, fun x hx => (hpast (hR.pend x hx)).wider (fun i hi => .inl hi), fun x hx => ⟨?_, .inl (hR.boxes x hx).2⟩, ?_⟩
  · rw [hsn]; exact hb3
  · rw [hsn, cellsS_snoc S cvs (p, cl) cv hR.len]
    exact hrow.turn (Turn.of (F := fun i => i = R) (grown_setCell w2 ⟨R, 5, none⟩ _) (fun i e => by cases e; rfl)) (fun g hg' e => hRn g hg' e)
  · rw [hsn]
    intro g hg'
    rcases hnew g hg' with e | e
    · exact .inl (hR.ownRow g e)
    · obtain ⟨cur, hcur⟩ := hrow.block g hg'
      exact .inr ⟨by simpa using e, (Array.getElem?_eq_some_iff.1 hcur).1⟩
  · intro i s cvi hs hcv
    by_cases hi : i < S.length
    · rw [List.getElem?_append_left hi] at hs
      rw [List.getElem?_append_left (by rw [hR.len]; exact hi)] at hcv
      exact (hpast (hR.clo i s cvi hs hcv)).wider (fun i hi => .inl hi)
    · have hi2 : i = S.length := by
        have := (List.getElem?_eq_some_iff.1 hs).1
        rw [hsn] at this; omega
      subst hi2
      rw [List.getElem?_append_right (Nat.le_refl _)] at hs
      rw [List.getElem?_append_right (by rw [hR.len]; exact Nat.le_refl _)] at hcv
      simp at hs
      rw [hR.len] at hcv
      simp at hcv
      subst hs hcv
      exact (hpast (hR.pend _ hc)).wider (fun i hi => .inl hi)
  · have hx1 := (hR.boxes x hx).1
    refine ht2.obj hx1 ?_
    rintro (hi | rfl)
    · obtain ⟨cur, hcur⟩ := hR.row.block _ hi
      rw [hx1] at hcur
      simp at hcur
    · rw [hbx] at hx1
      simp at hx1
  · intro i hi
    rw [hsz]
    rcases hi with hi | hi
    · exact Nat.lt_of_lt_of_le (hR.old i hi) hg.size
    · exact hi.2

set_option maxRecDepth 100000 in
set_option maxHeartbeats 1000000 in
theorem addH (k R D : Nat) (a b c : Int) (A : Nat) (Bs : List Nat) (Pn : List (Cl × Value)) (S : List (Nat × Cl)) (p : Nat) (cl : Cl) (cv : Value) (w0 w : World) (Ps : List Pr) (h : Grommet.Own w0 w Ps) (hk : Ps[k]? = some (runP R D a b c A Bs Pn S)) (hc : (cl, cv) ∈ Pn) (hl : S.length ≤ 100000) :
    Calls Tryz.prog 111 #[ptr R, .int .u8 (p : Int), cv] w fun e w' => e = .returned (.tuple #[]) ∧ Grommet.Own w0 w' (Ps.set k (runP R D a b c A Bs Pn (S ++ [(p, cl)]))) := by
  obtain ⟨fn, fi, ca, rfl⟩ : ∃ fn fi ca, cv = .func fn fi ca := by
    obtain ⟨F, ad, cap, cvs, hR⟩ := h.get k hk
    exact (hR.pend _ hc).func
  obtain ⟨ad, cap, ad', cap', w2, c0, hr, s2, f2, hO⟩ := run_added h k hk p cl (.func fn fi ca) hc hl 103
  have HO := Lib.hid hO
  generalize S.length = n at c0 hr s2 f2 HO
  unfold ptr
  clear h hk hc hl hO
  go_enter Tryz.func111, Tryz.ntmps111
  go_wp2_with (at_builtin; refine wpList_append_run rfl _ _ _ rfl _ _ _ rfl rfl hr ?_)
  go_end0
  exact ⟨rfl, HO.out⟩
end Go.Proofs.YtpdofdloclmbdaaGreat
end
section
/- Package commit: store; what the closures do; Step, Phase, Left. -/
namespace Go.Proofs.YtpdofdloclmbdaaGreat
open Go.RowKit Go.Grommet

set_option maxRecDepth 100000 in
set_option maxHeartbeats 1000000 in
theorem storeH (k R D : Nat) (a b c : Int) (A : Nat) (Bs : List Nat) (Pn : List (Cl × Value)) (S : List (Nat × Cl)) (p at_ v : Nat) (w0 w : World) (Ps : List Pr) (h : Grommet.Own w0 w Ps) (hk : Ps[k]? = some (runP R D a b c A Bs Pn S)) (hl : S.length ≤ 100000) :
    Calls Tryz.prog 96 #[ptr R, .int .u8 (p : Int), .int .i64 (at_ : Int), .int .u64 (v : Int)] w fun e w' => e = .returned (.tuple #[]) ∧ ∃ Pn', Grommet.Own w0 w' (Ps.set k (runP R D a b c A Bs Pn' (S ++ [(p, .store at_ v)]))) := by
  have hkl := (List.getElem?_eq_some_iff.1 hk).1
  obtain ⟨w1, hw1⟩ : ∃ w1, ((w.alloc (.cells #[ptr R] 48)).alloc (.cells #[.int .i64 (at_ : Int)] 3)).alloc (.cells #[.int .u64 (v : Int)] 44) = w1 := ⟨_, rfl⟩
  have h1 := ((h.addBox 48 #[ptr R]).addBox 3 #[.int .i64 (at_ : Int)]).addBox 44 #[.int .u64 (v : Int)]
  rw [hw1] at h1
  simp only [World.size_alloc] at h1
  obtain ⟨X, hX⟩ : ∃ X, w.heap.size = X := ⟨_, rfl⟩
  rw [hX] at h1
  have h2 := run_store (x := X) (y := X + 1) (z := X + 1 + 1) (at_ := at_) (v := v) (by simpa using h1) k hk
  have c0 : w1.cell? ⟨X, 0, none⟩ = some (ptr R) := by
    have := h1.box Ps.length (X := X) (T := 48) (cs := #[ptr R]) (by simp)
    simp [World.cell?, this]
  have HA := Lib.hid (addH k R D a b c A Bs _ _ p (.store at_ v) _ w0 w1 _ h2 (List.getElem?_set_self hkl) (List.mem_singleton.2 rfl) hl)
  rw [List.set_set] at HA
  unfold ptr at HA c0 hw1 ⊢
  have hX2 : w.heap.size + 1 = X + 1 := by rw [hX]
  have hX3 : w.heap.size + 1 + 1 = X + 1 + 1 := by rw [hX]
  clear h hk hl h1 h2 hkl
  go_enter Tryz.func96, Tryz.ntmps96
  go_wp2_with fail
  refine HA.out.mono ?_
  rintro e w2 ⟨rfl, hO⟩
  have hO := Lib.hid hO
  go_wp2
  go_end0
  exact ⟨rfl, _, hO.out⟩

/-- What a call does to a device. -/
def Cl.ok (n : Nat) : Cl → Prop
  | .store a v => a < n ∧ v < 18446744073709551616
  | .flush l => l < n / 8
  | .fence => True
def Cl.does : Cl → List PW → List PW
  | .store a v, ws => ws.modify a (·.store v)
  | .flush l, ws => turnFrom PW.flush (8 * l) 8 ws
  | .fence, ws => ws.map PW.fence
theorem Cl.does_len (c : Cl) (ws : List PW) : (c.does ws).length = ws.length := by
  cases c with
  | store a v => exact List.length_modify ..
  | flush l => exact turnFrom_len _ _ _ _
  | fence => exact List.length_map _

set_option maxRecDepth 100000 in
set_option maxHeartbeats 1000000 in
theorem doStore (j d R br ba bv at_ v : Nat) (ws : List PW) (w0 w : World) (Ps : List Pr) (h : Grommet.Own w0 w Ps) (hj : Ps[j]? = some (devP d ws)) (h1 : w.heap[br]? = some (.cells #[ptr R] 48 (0, 0))) (h2 : w.heap[ba]? = some (.cells #[.int .i64 (at_ : Int)] 3 (0, 0))) (h3 : w.heap[bv]? = some (.cells #[.int .u64 (v : Int)] 44 (0, 0)))
    (h4 : w.cell? ⟨R, 0, none⟩ = some (ptr d)) (hat : at_ < ws.length) (hv : v < 18446744073709551616) :
    Calls Tryz.prog 112 #[ptr br, ptr ba, ptr bv] w fun e w' => e = .returned (.int .i64 0) ∧ Grommet.Own w0 w' (Ps.set j (devP d (ws.modify at_ (·.store v)))) := by
  have HS := Lib.hid (fun wx (hO : Grommet.Own w0 wx Ps) => StoreH j d ws w0 wx Ps hO hj at_ ws[at_] (List.getElem?_eq_getElem hat) v hv)
  have c1 : w.cell? ⟨br, 0, none⟩ = some (ptr R) := by simp [World.cell?, h1]
  have c2 : w.cell? ⟨ba, 0, none⟩ = some (.int .i64 (at_ : Int)) := by simp [World.cell?, h2]
  have c3 : w.cell? ⟨bv, 0, none⟩ = some (.int .u64 (v : Int)) := by simp [World.cell?, h3]
  have hO := Lib.hid (h.quiet (grown_drew (World.grownBy.refl w none)))
  unfold ptr at HS c1 h4 ⊢
  clear h hj h1 h2 h3 hat hv
  go_enter Tryz.func112, Tryz.ntmps112
  go_wp2_with fail
  go_still_tail 6, (by kernel_rfl)
  change wpList _ _ _ _ _ (World.drew _)
  go_wp2_with fail
  refine (HS.out _ hO.out).mono ?_
  rintro e w2 ⟨rfl, hO2⟩
  have hO2 := Lib.hid hO2
  go_wp2
  go_ret
  exact ⟨rfl, hO2.out⟩
set_option maxRecDepth 100000 in
set_option maxHeartbeats 1000000 in
theorem doFlush (j d R br bl l : Nat) (ws : List PW) (w0 w : World) (Ps : List Pr) (h : Grommet.Own w0 w Ps) (hj : Ps[j]? = some (devP d ws)) (h1 : w.heap[br]? = some (.cells #[ptr R] 48 (0, 0))) (h2 : w.heap[bl]? = some (.cells #[.int .i64 (l : Int)] 3 (0, 0)))
    (h4 : w.cell? ⟨R, 0, none⟩ = some (ptr d)) (hl : l < ws.length / 8) :
    Calls Tryz.prog 115 #[ptr br, ptr bl] w fun e w' => e = .returned (.int .i64 0) ∧ Grommet.Own w0 w' (Ps.set j (devP d (turnFrom PW.flush (8 * l) 8 ws))) := by
  have HS := Lib.hid (fun wx (hO : Grommet.Own w0 wx Ps) => FlushH j d ws w0 wx Ps hO hj l hl)
  have c1 : w.cell? ⟨br, 0, none⟩ = some (ptr R) := by simp [World.cell?, h1]
  have c2 : w.cell? ⟨bl, 0, none⟩ = some (.int .i64 (l : Int)) := by simp [World.cell?, h2]
  have hO := Lib.hid (h.quiet (grown_drew (World.grownBy.refl w none)))
  unfold ptr at HS c1 h4 ⊢
  clear h hj h1 h2 hl
  go_enter Tryz.func115, Tryz.ntmps115
  go_wp2_with fail
  go_still_tail 5, (by kernel_rfl)
  change wpList _ _ _ _ _ (World.drew _)
  go_wp2_with fail
  refine (HS.out _ hO.out).mono ?_
  rintro e w2 ⟨rfl, hO2⟩
  have hO2 := Lib.hid hO2
  go_wp2
  go_ret
  exact ⟨rfl, hO2.out⟩
end Go.Proofs.YtpdofdloclmbdaaGreat
end
