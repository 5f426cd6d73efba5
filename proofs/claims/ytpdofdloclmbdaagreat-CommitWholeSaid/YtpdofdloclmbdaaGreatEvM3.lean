/- EvM, EvN, EvO, EvP, EvQ, EvR, EvS, EvT, EvU, EvW in one. -/
import Derived.Test.YtpdofdloclmbdaaGreatEvM1
import Derived.Laws.Append
import Derived.OrdersIn
import Derived.RangeFuncIn
import Derived.Lib.Bytealg
import Derived.RangeFuncLeaves
import Derived.WalkKit
import Derived.WalkLawsBesides
section
/- What turns memory: as the model does it (3): append. -/
namespace Go.Ev

section
variable {P : Program} {gl : Nat → Option Nat} {w0 w : World} {D : Nat → Prop} {ρ : Nat → Loc} {H : Hp}
theorem r_cap (n c : Nat) (e : TypeId) (w : World) : (choose (.appendCap n c e)).run P w = .ok (grownCap w n c e) w.drew := rfl
theorem room_ok (b : Nat) (w : World) : (askRoom b).run P w = .ok () w := by unfold askRoom; split <;> rfl
theorem r_append_room {t u ty e : TypeId} {d : TypeDesc} (ht : P.underlying t = some (.slice e)) (hu : P.underlying u = some d) (hd : notInt d = true) {esz m : Nat} (hs : sizeV P e = some esz) {X : Value} {new : Array Value} (hl : ∀ w, (Builtin.lenOf X).run P w = .ok m w)
    (base : Option Addr) (len cap : Nat) (hc : len + m ≤ cap) (hn : (Builtin.firstCells esz m X).run P w = .ok new w) {w' : World} (hst : (match base with | some a => storeCells (a.add (len * esz)) new.toList | none => pure ()).run P w = .ok () w') :
    (Builtin.append_ #[t, u] ty #[.slice base len cap, X]).run P w = .ok (.slice base (len + m) cap) w' := by
  have key : (Builtin.append_ #[t, u] ty #[.slice base len cap, X]).run P w = ((Builtin.firstCells esz m X).run P w).andThen fun new w1 => ((match base with | some a => storeCells (a.add (len * esz)) new.toList | none => pure ()).run P w1).andThen fun _ w2 => .ok (.slice base (len + m) cap) w2 := by
    cases d <;> first | (cases hd; done) | skip
    all_goals
      simp only [Builtin.append_, List.getElem?_toArray, List.getElem?_cons_zero, List.getElem?_cons_succ, Sem.run_bind, run_underlying ht, run_underlying hu, Result.andThen_ok, r_size hs, Sem.run_pure, Bool.false_eq_true, if_false, hl, Bool.not_false, if_true]
      rw [if_pos hc]
      cases base <;> simp only [Sem.run_bind, Sem.run_pure, Result.andThen_ok]
  rw [key, hn]
  simp only [Result.andThen_ok, hst]
theorem r_append_grow {t u ty e : TypeId} {d : TypeDesc} (ht : P.underlying t = some (.slice e)) (hu : P.underlying u = some d) (hd : notInt d = true) {esz m by_ : Nat} (hs : sizeV P e = some esz) (hby : bytesV P e = some by_) {z : V} (hz : zeroV P e = some z) (hzl : z.cells.length = esz) (hb64 : by_ ≤ 64) {X : Value} {old new : List Value} (hl : ∀ w, (Builtin.lenOf X).run P w = .ok m w)
    (base : Option Addr) (len cap : Nat) (hc : cap < len + m) (hmost : len + m ≤ 1099511627776) (ho : ∀ w', w.grownBy w' none → (Builtin.firstCells esz len (.slice base len cap)).run P w' = .ok old.toArray w') (hn : ∀ w', w.grownBy w' none → (Builtin.firstCells esz m X).run P w' = .ok new.toArray w') :
    ∃ ncap rest, len + m ≤ ncap ∧ rest.length = (ncap - (len + m)) * esz ∧ (Builtin.append_ #[t, u] ty #[.slice base len cap, X]).run P w = .ok (.slice (some ⟨w.heap.size, 0, none⟩) (len + m) ncap) (w.drew.alloc (.cells (old ++ new ++ rest).toArray e)) := by
  obtain ⟨i, hi, hib⟩ := r_bytes hby
  obtain ⟨_, z2⟩ := r_zero hz (fun _ => ⟨0, 0, 0⟩) (fun _ => True)
  have hfit : ¬ Builtin.nextslicecap (len + m) cap * by_ > 2 ^ 48 := by
    have := growslice_fits (need := len + m) (old := cap) (bytes := by_) hc (Nat.le_trans (Nat.mul_le_mul hmost hb64) (by decide))
    omega
  have hg : w.grownBy w.drew none := ⟨rfl, rfl, rfl, Nat.le_refl _, fun _ _ _ => rfl⟩
  have hcap : len + m ≤ grownCap w (len + m) cap e := by
    unfold grownCap Question.cut
    exact Nat.le_add_right _ _
  have hzc : ((z.val fun _ => ⟨0, 0, 0⟩).cells).size = esz := by rw [← Array.length_toList, V.val_cells, List.length_map, hzl]
  refine ⟨grownCap w (len + m) cap e, (Builtin.zeroCells (z.val fun _ => ⟨0, 0, 0⟩).cells (grownCap w (len + m) cap e - (len + m))).toList, hcap, ?_, ?_⟩
  · simp [Builtin.zeroCells, hzc]
  · have h63 : ¬ (((len + m : Nat) : Int) > IntKind.i64.max ∧ (False ∨ by_ = 0)) := by
      have hm : IntKind.max .i64 = 9223372036854775807 := rfl
      rw [hm]; omega
    have zz2 : ∀ w, (zeroValue e).run P w = .ok (z.val fun _ => ⟨0, 0, 0⟩) w := z2
    cases d <;> first | (cases hd; done) | skip
    all_goals
      simp only [Builtin.append_, List.getElem?_toArray, List.getElem?_cons_zero, List.getElem?_cons_succ, Sem.run_bind, run_underlying ht, run_underlying hu, Result.andThen_ok, r_size hs, Sem.run_pure, Bool.false_eq_true, if_false, hl, Bool.not_false, if_true]
      rw [if_neg (by omega)]
      simp only [Sem.run_bind, r_info hi, Result.andThen_ok, hib]
      rw [if_neg h63]
      simp only [Sem.run_bind, r_info hi, Result.andThen_ok, hib]
      rw [if_neg hfit]
      simp only [Sem.run_bind, r_cap, Result.andThen_ok, r_info hi, room_ok, ho _ hg, hn _ hg, zz2, newRow, r_newObj, Sem.run_pure]
      congr 3
      apply Array.ext'
      simp
theorem rel_drew (hR : Rel gl w0 D ρ H w) : Rel gl w0 D ρ H w.drew := hR.quiet ⟨rfl, rfl, rfl, Nat.le_refl _, fun _ _ _ => rfl⟩
/-- A row that has grown: it stands in a block of its own. -/
theorem grow_done (hR : Rel gl w0 D ρ H w) {e : TypeId} {cs : List V} (hcs : ∀ u ∈ cs, u.In D ρ ∧ u.one = true) {esz len ncap : Nat} {rest : List Value} (hl : cs.length = len * esz) (hn : len ≤ ncap) (hr : rest.length = (ncap - len) * esz) :
    ∃ D' ρ' w', (Result.ok (Value.slice (some ⟨w.heap.size, 0, none⟩) len ncap) (w.drew.alloc (.cells (cs.map (V.val ρ) ++ rest).toArray e)) : Result Value) = .ok ((V.slice H.next 0 len 0 false).val ρ') w' ∧ Nx D ρ H D' ρ' (H.push (newCells cs esz)) ∧ Rel gl w0 D' ρ' (H.push (newCells cs esz)) w' ∧ (V.slice H.next 0 len 0 false).In D' ρ' := by
  have hu := upd_self ρ H.next ⟨w.heap.size, 0, ncap⟩
  have hsz : w0.heap.size ≤ w.drew.heap.size := (rel_drew hR).grown.size
  have hat := newRow_in (w := w.drew) hcs (not_next hR) hsz e esz ncap rest (by rw [hl, hr, ← Nat.add_mul]; congr 1; omega)
  refine ⟨_, upd ρ H.next ⟨w.heap.size, 0, ncap⟩, _, ?_, nx_push hR _ _, rel_push (rel_drew hR) rfl hat, .inr rfl, fun _ => by rw [hu]; exact hn⟩
  rw [V.val_slice, hu]
  rfl
theorem append_sound0 {t u ty e : TypeId} {d : TypeDesc} (hR : Rel gl w0 D ρ H w) (ht : P.underlying t = some (.slice e)) (hu : P.underlying u = some d) (hd : notInt d = true) {s x v : V} {H' : Hp} (hnt : ∀ n a b c, s ≠ .tail n a b c) (h : appendV P e H s x = some (v, H')) (hs : s.In D ρ) (hx : x.In D ρ) :
    ∃ D' ρ' w', (Builtin.append_ #[t, u] ty #[s.val ρ, x.val ρ]).run P w = .ok (v.val ρ') w' ∧ Nx D ρ H D' ρ' H' ∧ Rel gl w0 D' ρ' H' w' ∧ v.In D' ρ' := by
  unfold appendV at h
  split at h
  · rename_i esz by_ z m hsz hby hz hm
    split at h
    · rename_i hc
      obtain ⟨hb64, hzl, hpos⟩ := hc
      split at h
      · cases h
      · rename_i new hnew
        obtain ⟨n1, n2, n3⟩ := rowCells_sound (P := P) hR hnew hx
        have hlen := fun w => rowLen_sound (P := P) hm ρ w
        have hnew' : ∀ w', w.grownBy w' none → (Builtin.firstCells esz m (x.val ρ)).run P w' = .ok (new.map (V.val ρ)).toArray w' := fun w' hg => (rowCells_sound (P := P) (hR.quiet hg) hnew hx).2.1
        split at h
        · split at h
          · rename_i hm0
            simp only [Option.some.injEq, Prod.mk.injEq] at h
            obtain ⟨rfl, rfl⟩ := h
            refine ⟨D, ρ, w, ?_, Nx.refl _ _ _, hR, trivial⟩
            rw [V.val_nilslice]
            have := r_append_room (P := P) (ty := ty) ht hu hd hsz hlen none 0 0 (by omega) n2 rfl
            rw [hm0] at this
            exact this
          · rename_i hm0
            split at h
            · rename_i hmost
              simp only [Option.some.injEq, Prod.mk.injEq] at h
              obtain ⟨rfl, rfl⟩ := h
              obtain ⟨ncap, rest, g1, g2, g3⟩ := r_append_grow (P := P) (ty := ty) (old := []) ht hu hd hsz hby hz hzl hb64 hlen none 0 0 (by omega) (by unfold mostRow at hmost; omega) (fun w' _ => rfl) hnew'
              rw [Nat.zero_add] at g1 g2 g3
              obtain ⟨D', ρ', w', e1, e2, e3, e4⟩ := grow_done hR (e := e) n1 n3 g1 g2
              refine ⟨D', ρ', w', ?_, e2, e3, e4⟩
              rw [V.val_nilslice, g3, ← e1]
              rfl
            · cases h
        · rename_i n off len c ex
          have hroom : len ≤ (if ex then c else (ρ n).cap - c) ∨ ex = true := by
            cases ex with
            | true => exact .inr rfl
            | false => have := hs.2 rfl; exact .inl (by simp only [Bool.false_eq_true, if_false]; omega)
          split at h
          · rename_i hm0
            split at h
            · rename_i hcap
              simp only [Option.some.injEq, Prod.mk.injEq] at h
              obtain ⟨rfl, rfl⟩ := h
              refine ⟨D, ρ, w, ?_, Nx.refl _ _ _, hR, hs⟩
              rw [V.val_slice]
              have hn0 : new = [] := List.eq_nil_of_length_eq_zero (by rw [n3, hm0, Nat.zero_mul])
              have := r_append_room (P := P) (ty := ty) ht hu hd hsz hlen (some ⟨(ρ n).blk, (ρ n).base + off, none⟩) len (if ex then c else (ρ n).cap - c) (by
                rw [hm0]
                rcases hroom with h | h
                · exact h
                · subst h; simp only [if_true]; rcases hcap with h | h
                  · cases h
                  · exact h) n2 (w' := w) (by rw [hn0]; rfl)
              rw [hm0] at this
              exact this
            · cases h
          · rename_i hm0
            split at h
            · rename_i hin
              obtain ⟨hex, hcap⟩ := hin
              subst hex
              split at h
              · rename_i H1 hst
                simp only [Option.some.injEq, Prod.mk.injEq] at h
                obtain ⟨rfl, rfl⟩ := h
                obtain ⟨s1, s2, w', s3, s4⟩ := store_sound (P := P) hR hst hs.1 (fun v hv => (n1 v hv).1)
                refine ⟨D, ρ, w', ?_, nx_same s1 hs.1 s2, s4, hs.1, by simp⟩
                rw [V.val_slice, V.val_slice]
                simp only [if_true]
                exact r_append_room (P := P) (ty := ty) ht hu hd hsz hlen (some ⟨(ρ n).blk, (ρ n).base + off, none⟩) len c hcap n2 (w' := w') (by
                  simp only [Addr_add]
                  rw [show (ρ n).base + off + len * esz = (ρ n).base + (off + len * esz) from by omega]
                  exact s3)
              · cases h
            · rename_i hin
              split at h
              · rename_i hmost
                split at h
                · cases h
                · rename_i old hold
                  obtain ⟨o1, o2, o3⟩ := cellsAt_sound hR hs.1 hold
                  have hold' : ∀ cap w', w.grownBy w' none → (Builtin.firstCells esz len (.slice (some ⟨(ρ n).blk, (ρ n).base + off, none⟩) len cap)).run P w' = .ok (old.map (V.val ρ)).toArray w' := fun cap w' hg => load_cells (hR.quiet hg) hs.1 hold
                  have hall : ∀ u ∈ old ++ new, u.In D ρ ∧ u.one = true := fun u hu => by
                    rcases List.mem_append.1 hu with h | h
                    · exact o2 u h
                    · exact n1 u h
                  have hlall : (old ++ new).length = (len + m) * esz := by rw [List.length_append, o1, n3, Nat.add_mul]
                  split at h
                  · rename_i hex
                    subst hex
                    simp only [Option.some.injEq, Prod.mk.injEq] at h
                    obtain ⟨rfl, rfl⟩ := h
                    obtain ⟨ncap, rest, g1, g2, g3⟩ := r_append_grow (P := P) (ty := ty) ht hu hd hsz hby hz hzl hb64 hlen (some ⟨(ρ n).blk, (ρ n).base + off, none⟩) len c (by simp only [true_and] at hin; omega) (by unfold mostRow at hmost; omega) (hold' c) hnew'
                    obtain ⟨D', ρ', w', e1, e2, e3, e4⟩ := grow_done hR (e := e) hall hlall g1 g2
                    refine ⟨D', ρ', w', ?_, e2, e3, e4⟩
                    rw [V.val_slice]
                    simp only [if_true]
                    rw [g3, ← e1, List.map_append]
                  · rename_i hex
                    split at h
                    · rename_i size ov base g hg
                      split at h
                      · rename_i hgs
                        simp only [Option.some.injEq, Prod.mk.injEq] at h
                        obtain ⟨rfl, rfl⟩ := h
                        obtain ⟨rfl, hoff, hsize⟩ := hgs
                        have hexf : ex = false := by simpa using hex
                        subst hexf
                        have hroom := hs.2 rfl
                        have hdead : ∀ {w'}, w.grownBy w' (some (ρ n).blk) → Rel gl w0 D ρ (H.set n .dead) w' := fun hg' => hR.turn hs.1 hg rfl hg' trivial
                        have hnx : Nx D ρ H D ρ (H.set n .dead) := nx_same rfl hs.1 (fun m hm => by rw [Hp.get_set (Hp.get_lt hg), if_neg hm])
                        by_cases hfits : len + m ≤ (ρ n).cap - c
                        · obtain ⟨c0, el, fz, hh, hcell, hw, _⟩ := hR.ob n _ hs.1 hg
                          obtain ⟨w1, w2, w3, w4⟩ := hw rfl
                          have hc0 := w4 hpos
                          have hmul : (c + (len + m)) * g ≤ (ρ n).cap * g := Nat.mul_le_mul_right _ (by omega)
                          have hmul2 : (ρ n).cap * g = c * g + ((ρ n).cap - c) * g := by rw [← Nat.add_mul]; congr 1; omega
                          have hdist : (c + (len + m)) * g = c * g + (len * g + m * g) := by rw [Nat.add_mul, Nat.add_mul]
                          obtain ⟨w', c', a1, a2, a3, a4, a5⟩ := r_storeCells (P := P) (ρ n).blk ((ρ n).base + off + len * g) el fz ρ new 0 c0 w hh w3 (fun v hv => (n1 v hv).2) (by rw [n3]; omega)
                          have hR1 := hdead a5
                          have hx1 := upd_self ρ H.next ⟨(ρ n).blk, (ρ n).base + off, (ρ n).cap - c⟩
                          have hni := not_next hR
                          have hat : ObAt (fun k => D k ∨ k = H.next) (upd ρ H.next ⟨(ρ n).blk, (ρ n).base + off, (ρ n).cap - c⟩) w0 w' H.next (newCells (old ++ new) g) := by
                            refine ⟨c', el, fz, by rw [hx1]; exact a2, fun i v hv => ?_, fun _ => ⟨by rw [hx1]; exact w1, by rw [hx1]; simp only [hlall, a3, Nat.add_mul]; omega, fun i hi => w3 i (by omega), fun _ => by rw [hx1]; simp only [a3]; omega⟩, by simp⟩
                            rw [cellOf_new] at hv
                            have hmem := List.mem_of_getElem? hv
                            refine ⟨?_, (hall v hmem).1.mono (upd_old hni), (hall v hmem).2⟩
                            rw [hx1, V.val_ext (fun n hn => (upd_old hni n hn).2) (hall v hmem).1, a4]
                            by_cases hi : i < old.length
                            · rw [List.getElem?_append_left hi] at hv
                              rw [if_neg (by simp only []; omega)]
                              have hc := o3 i (v.val ρ) (by rw [List.getElem?_map, hv]; rfl)
                              simp only [World.cell?, hh] at hc
                              simpa using hc
                            · rw [List.getElem?_append_right (by omega)] at hv
                              have hl2 := (List.getElem?_eq_some_iff.1 hv).1
                              rw [if_pos (by simp only []; omega), List.getElem?_map, show (ρ n).base + off + i - ((ρ n).base + off + len * g + 0) = i - old.length from by omega, hv]
                              rfl
                          refine ⟨_, upd ρ H.next ⟨(ρ n).blk, (ρ n).base + off, (ρ n).cap - c⟩, w', ?_, hnx.trans (nx_push hR1 _ _), hR1.add (H' := (H.set n .dead).push _) (not_next hR1) (by rw [Hp.next_push, Hp.next_set]; omega) (by rw [Hp.next_push, Hp.next_set]; omega) (fun k hk => by
                            rw [Hp.get_push, if_neg]
                            rintro rfl
                            exact not_next hR1 hk) (by rw [Hp.get_push, Hp.next_set, if_pos rfl]) (World.grownBy.refl _ _) ?_ hat, .inr rfl, fun _ => by rw [hx1]; simp only []; omega⟩
                          · rw [V.val_slice, V.val_slice, hx1]
                            simp only [Bool.false_eq_true, if_false]
                            exact r_append_room (P := P) (ty := ty) ht hu hd hsz hlen (some ⟨(ρ n).blk, (ρ n).base + off, none⟩) len ((ρ n).cap - c) hfits n2 (w' := w') (by
                              simp only [Addr_add]
                              exact a1)
                          · intro k p hk hp hpo e
                            rw [Hp.get_set (Hp.get_lt hg)] at hp
                            by_cases ek : k = n
                            · subst ek
                              rw [if_pos rfl] at hp
                              cases hp
                              simp [Ob.own] at hpo
                            · rw [if_neg ek] at hp
                              exact hR.inj k n p _ hk hs.1 ek hp hg hpo rfl e
                        · have hR1 := hdead (World.grownBy.refl w (some (ρ n).blk))
                          obtain ⟨ncap, rest, g1, g2, g3⟩ := r_append_grow (P := P) (ty := ty) ht hu hd hsz hby hz hzl hb64 hlen (some ⟨(ρ n).blk, (ρ n).base + off, none⟩) len ((ρ n).cap - c) (by omega) (by unfold mostRow at hmost; omega) (hold' _) hnew'
                          obtain ⟨D', ρ', w', e1, e2, e3, e4⟩ := grow_done hR1 (e := e) hall hlall g1 g2
                          refine ⟨D', ρ', w', ?_, hnx.trans e2, e3, e4⟩
                          rw [V.val_slice]
                          simp only [Bool.false_eq_true, if_false]
                          rw [g3]
                          rw [Hp.next_set] at e1
                          rw [← e1, List.map_append]
                      · cases h
                    · cases h
              · cases h
        · exact absurd rfl (hnt _ _ _ _)
        · cases h
    · cases h
  · cases h
theorem append_sound {t u ty e : TypeId} {d : TypeDesc} (hR : Rel gl w0 D ρ H w) (ht : P.underlying t = some (.slice e)) (hu : P.underlying u = some d) (hd : notInt d = true) {s x v : V} {H' : Hp} (h : appendV P e H s x = some (v, H')) (hs : s.In D ρ) (hx : x.In D ρ) :
    ∃ D' ρ' w', (Builtin.append_ #[t, u] ty #[s.val ρ, x.val ρ]).run P w = .ok (v.val ρ') w' ∧ Nx D ρ H D' ρ' H' ∧ Rel gl w0 D' ρ' H' w' ∧ v.In D' ρ' := by
  by_cases hnt : ∀ n a b c, s ≠ .tail n a b c
  · exact append_sound0 hR ht hu hd hnt h hs hx
  · have : ∃ n a b c, s = .tail n a b c := by
      cases s <;> first | exact ⟨_, _, _, _, rfl⟩ | exact absurd (by intros; simp) hnt
    obtain ⟨n, off, off', c, rfl⟩ := this
    clear hnt
    obtain ⟨hD, hcap⟩ := hs
    unfold appendV at h
    split at h
    · rename_i esz by_ z m hsz hby hz hm
      split at h
      · rename_i hc
        obtain ⟨hb64, hzl, hpos⟩ := hc
        split at h
        · cases h
        · rename_i new hnew
          obtain ⟨n1, n2, n3⟩ := rowCells_sound (P := P) hR hnew hx
          have hlen := fun w => rowLen_sound (P := P) hm ρ w
          simp only at h
          split at h
          · rename_i hm0
            simp only [Option.some.injEq, Prod.mk.injEq] at h
            obtain ⟨rfl, rfl⟩ := h
            refine ⟨D, ρ, w, ?_, Nx.refl _ _ _, hR, hD, hcap⟩
            rw [V.val_tail]
            have hn0 : new = [] := List.eq_nil_of_length_eq_zero (by rw [n3, hm0, Nat.zero_mul])
            have := r_append_room (P := P) (ty := ty) ht hu hd hsz hlen (some ⟨(ρ n).blk, (ρ n).base + (if (ρ n).cap - c = 0 then off else off'), none⟩) 0 ((ρ n).cap - c) (by omega) n2 (w' := w) (by rw [hn0]; rfl)
            rw [hm0] at this
            exact this
          · rename_i hm0
            split at h
            · rename_i hmost
              split at h
              · rename_i size ov base g hg
                split at h
                · rename_i hgs
                  obtain ⟨rfl, hoff, hsize⟩ := hgs
                  simp only [Option.some.injEq, Prod.mk.injEq] at h
                  obtain ⟨rfl, rfl⟩ := h
                  by_cases hz0 : (ρ n).cap - c = 0
                  · have hdead : Rel gl w0 D ρ (H.set n .dead) w := hR.turn hD hg rfl (World.grownBy.refl w (some (ρ n).blk)) trivial
                    have hnx : Nx D ρ H D ρ (H.set n .dead) := nx_same rfl hD (fun m hm => by rw [Hp.get_set (Hp.get_lt hg), if_neg hm])
                    have hnew' : ∀ w', w.grownBy w' none → (Builtin.firstCells g m (x.val ρ)).run P w' = .ok (new.map (V.val ρ)).toArray w' := fun w' hg => (rowCells_sound (P := P) (hR.quiet hg) hnew hx).2.1
                    obtain ⟨ncap, rest, g1, g2, g3⟩ := r_append_grow (P := P) (ty := ty) (old := []) ht hu hd hsz hby hz hzl hb64 hlen (some ⟨(ρ n).blk, (ρ n).base + off, none⟩) 0 0 (by omega) (by unfold mostRow at hmost; omega) (fun w' _ => by simp only [Builtin.firstCells, Nat.zero_mul]; rfl) hnew'
                    rw [Nat.zero_add] at g1 g2 g3
                    obtain ⟨D', ρ', w', e1, e2, e3, e4⟩ := grow_done hdead (e := e) n1 n3 g1 g2
                    refine ⟨D', ρ', w', ?_, hnx.trans e2, e3, e4⟩
                    rw [V.val_tail, hz0, if_pos rfl, g3]
                    rw [Hp.next_set] at e1
                    rw [← e1]
                    rfl
                  · have hv : (V.tail n off off' c).val ρ = (V.slice n off' 0 c false).val ρ := by
                      rw [V.val_tail, V.val_slice, if_neg hz0]
                      simp
                    rw [hv]
                    refine append_sound0 hR ht hu hd (by intros; simp) ?_ (s := .slice n off' 0 c false) ⟨hD, fun _ => by omega⟩ hx
                    unfold appendV
                    simp only [hsz, hby, hz, hm]
                    rw [if_pos ⟨hb64, hzl, hpos⟩]
                    simp only [hnew]
                    rw [if_neg hm0, if_neg (by simp), if_pos (by omega)]
                    simp only [Nat.zero_mul, Hp.cellsAt, hg, Bool.false_eq_true, if_false, Nat.zero_add, Nat.add_zero, List.nil_append]
                    rw [if_pos ⟨trivial, hoff, hsize⟩]
                · cases h
              · cases h
            · cases h
      · cases h
    · cases h
end
end Go.Ev
end
section
/- What turns memory: as the model does it (4). -/
namespace Go.Ev

section
variable {P : Program} {gl : Nat → Option Nat} {w0 w : World} {D : Nat → Prop} {ρ : Nat → Loc} {H : Hp}
theorem eff_sound {tm : List V} {o : Oper} {v : V} {H' : Hp} (hR : Rel gl w0 D ρ H w) (h : effV P gl tm H o.op = some (v, H')) {ev : Operand → Value} (he : Opnds gl tm ρ D ev o.op.operands) :
    Does gl w0 D ρ H v H' ((execOp ev o).run P w) := by
  obtain ⟨dst, op, type, pos, after, guard⟩ := o
  simp only at h he
  unfold Opnds at he
  unfold effV at h
  split at h
  · rename_i t x y
    split at h
    · rename_i n off v1 s hx hy hs
      split at h
      · rename_i hsz
        split at h
        · rename_i H1 hst
          simp only [Option.some.injEq, Prod.mk.injEq] at h
          obtain ⟨rfl, rfl⟩ := h
          obtain ⟨a1, a2⟩ := he x (by simp [Op.operands]) _ hx
          obtain ⟨b1, b2⟩ := he y (by simp [Op.operands]) _ hy
          obtain ⟨s1, s2, w', s3, s4⟩ := store_sound (P := P) hR hst a2 (V.In.cells b2)
          refine ⟨D, ρ, w', .skip, ?_, .inr ⟨rfl, rfl⟩, nx_same s1 a2 s2, s4, trivial⟩
          have hc : (v1.val ρ).cells.toList = v1.cells.map (V.val ρ) := V.val_cells ρ v1
          have hcs : (v1.val ρ).cells.size = s := by rw [← Array.length_toList, hc, List.length_map, hsz]
          simp only [execOp, Instr.storeAt, a1, b1, V.val_ptr, Instr.sureAddr, Sem.run_bind, Sem.run_pure, Result.andThen_ok, storeVar, r_size hs, hcs]
          rw [if_neg (by simp)]
          rw [hc, s3]
          rfl
        · cases h
      · cases h
    · cases h
  · rename_i t m k y
    split at h
    · rename_i kt et n kv v1 hu hm hk hy
      split at h
      · rename_i hkk
        split at h
        · rename_i es hg
          obtain ⟨a1, a2⟩ := he m (by simp [Op.operands]) _ hm
          obtain ⟨b1, b2⟩ := he k (by simp [Op.operands]) _ hk
          obtain ⟨c1, c2⟩ := he y (by simp [Op.operands]) _ hy
          split at h
          · rename_i i u hf
            simp only [Option.some.injEq, Prod.mk.injEq] at h
            obtain ⟨rfl, rfl⟩ := h
            obtain ⟨w', s3, s4⟩ := update_sound hR hu hkk a2 hg hf b2 c2
            exact ⟨D, ρ, w', .skip, by simp only [execOp, a1, b1, c1, V.val_map, Sem.run_bind, s3, Result.andThen_ok, Sem.run_pure], .inr ⟨rfl, rfl⟩, nx_same rfl a2 (fun m hm => by rw [Hp.get_set (Hp.get_lt hg), if_neg hm]), s4, trivial⟩
          · rename_i hf
            simp only [Option.some.injEq, Prod.mk.injEq] at h
            obtain ⟨rfl, rfl⟩ := h
            obtain ⟨w', s3, s4⟩ := update_sound hR hu hkk a2 hg hf b2 c2
            exact ⟨D, ρ, w', .skip, by simp only [execOp, a1, b1, c1, V.val_map, Sem.run_bind, s3, Result.andThen_ok, Sem.run_pure], .inr ⟨rfl, rfl⟩, nx_same rfl a2 (fun m hm => by rw [Hp.get_set (Hp.get_lt hg), if_neg hm]), s4, trivial⟩
          · cases h
        · cases h
      · cases h
    · cases h
  · rename_i t m k y
    split at h
    · rename_i kt et n kv v1 hu hm hk hy
      split at h
      · rename_i hkk
        split at h
        · rename_i es hg
          obtain ⟨a1, a2⟩ := he m (by simp [Op.operands]) _ hm
          obtain ⟨b1, b2⟩ := he k (by simp [Op.operands]) _ hk
          obtain ⟨c1, c2⟩ := he y (by simp [Op.operands]) _ hy
          split at h
          · rename_i i u hf
            simp only [Option.some.injEq, Prod.mk.injEq] at h
            obtain ⟨rfl, rfl⟩ := h
            obtain ⟨w', s3, s4⟩ := update_sound hR hu hkk a2 hg hf b2 c2
            exact ⟨D, ρ, w', .skip, by simp only [execOp, a1, b1, c1, V.val_map, Sem.run_bind, s3, Result.andThen_ok, Sem.run_pure], .inr ⟨rfl, rfl⟩, nx_same rfl a2 (fun m hm => by rw [Hp.get_set (Hp.get_lt hg), if_neg hm]), s4, trivial⟩
          · rename_i hf
            simp only [Option.some.injEq, Prod.mk.injEq] at h
            obtain ⟨rfl, rfl⟩ := h
            obtain ⟨w', s3, s4⟩ := update_sound hR hu hkk a2 hg hf b2 c2
            exact ⟨D, ρ, w', .skip, by simp only [execOp, a1, b1, c1, V.val_map, Sem.run_bind, s3, Result.andThen_ok, Sem.run_pure], .inr ⟨rfl, rfl⟩, nx_same rfl a2 (fun m hm => by rw [Hp.get_set (Hp.get_lt hg), if_neg hm]), s4, trivial⟩
          · cases h
        · cases h
      · cases h
    · cases h
  · rename_i s x t u
    split at h
    · rename_i e ud sv xv ht hu hs hx
      split at h
      · rename_i hd
        obtain ⟨a1, a2⟩ := he s (by simp [Op.operands, Call.operands]) _ hs
        obtain ⟨b1, b2⟩ := he x (by simp [Op.operands, Call.operands]) _ hx
        obtain ⟨D', ρ', w', c1, c2, c3, c4⟩ := append_sound (ty := type) hR ht hu hd h a2 b2
        refine ⟨D', ρ', w', .value (v.val ρ'), ?_, .inl rfl, c2, c3, c4⟩
        simp only [execOp, resolve, invoke, builtin, Sem.run_bind, Sem.run_pure, Result.andThen_ok, List.map_toArray, List.map_cons, List.map_nil, a1, b1, c1]
      · cases h
    · cases h
  · rename_i dd x t u
    split at h
    · rename_i e dv xv ht hd hx
      obtain ⟨a1, a2⟩ := he dd (by simp [Op.operands, Call.operands]) _ hd
      obtain ⟨b1, b2⟩ := he x (by simp [Op.operands, Call.operands]) _ hx
      split at h
      · rename_i esz m hsz hm
        simp only [Option.some.injEq, Prod.mk.injEq] at h
        obtain ⟨rfl, rfl⟩ := h
        refine ⟨D, ρ, w, .value (.int .i64 0), ?_, .inl rfl, Nx.refl _ _ _, hR, trivial⟩
        have h0 : (Builtin.firstCells esz 0 (xv.val ρ)).run P w = .ok #[] w := by
          unfold rowLen at hm
          split at hm
          · rfl
          · simp [Builtin.firstCells, V.val_tail, loadCells, loadCellsFrom]
          · simp [Builtin.firstCells, V.val_slice, loadCells, loadCellsFrom]
          · simp [Builtin.firstCells, V.val_str]
          · cases hm
        simp only [execOp, resolve, invoke, builtin, Builtin.copy_, List.getElem?_toArray, List.getElem?_cons_zero, List.getElem?_cons_succ, Sem.run_bind, Sem.run_pure, Result.andThen_ok, List.map_toArray, List.map_cons, List.map_nil, a1, b1, V.val_nilslice, run_underlying ht, rowLen_sound hm, r_size hsz, Nat.min_zero, h0, goInt]
        simp
      · rename_i esz m n0 o0 o1 c0 hsz hm
        simp only [Option.some.injEq, Prod.mk.injEq] at h
        obtain ⟨rfl, rfl⟩ := h
        refine ⟨D, ρ, w, .value (.int .i64 0), ?_, .inl rfl, Nx.refl _ _ _, hR, trivial⟩
        have h0 : (Builtin.firstCells esz 0 (xv.val ρ)).run P w = .ok #[] w := by
          unfold rowLen at hm
          split at hm
          · rfl
          · simp [Builtin.firstCells, V.val_tail, loadCells, loadCellsFrom]
          · simp [Builtin.firstCells, V.val_slice, loadCells, loadCellsFrom]
          · simp [Builtin.firstCells, V.val_str]
          · cases hm
        simp only [execOp, resolve, invoke, builtin, Builtin.copy_, List.getElem?_toArray, List.getElem?_cons_zero, List.getElem?_cons_succ, Sem.run_bind, Sem.run_pure, Result.andThen_ok, List.map_toArray, List.map_cons, List.map_nil, a1, b1, V.val_tail, run_underlying ht, rowLen_sound hm, r_size hsz, Nat.min_zero, h0, goInt]
        simp [storeCells]
      · rename_i esz m n off len c ex hsz hm
        split at h
        · rename_i cs hcs
          split at h
          · rename_i H1 hst
            simp only [Option.some.injEq, Prod.mk.injEq] at h
            obtain ⟨rfl, rfl⟩ := h
            obtain ⟨n1, n2, n3⟩ := rowCells_sound (P := P) hR hcs b2
            obtain ⟨s1, s2, w', s3, s4⟩ := store_sound (P := P) hR hst a2.1 (fun v hv => (n1 v hv).1)
            refine ⟨D, ρ, w', .value (.int .i64 (min m len : Nat)), ?_, .inl rfl, nx_same s1 a2.1 s2, s4, trivial⟩
            simp only [execOp, resolve, invoke, builtin, Builtin.copy_, List.getElem?_toArray, List.getElem?_cons_zero, List.getElem?_cons_succ, Sem.run_bind, Sem.run_pure, Result.andThen_ok, List.map_toArray, List.map_cons, List.map_nil, a1, b1, V.val_slice, run_underlying ht, rowLen_sound hm, r_size hsz, goInt]
            have n2' : (Builtin.firstCells esz (m.min len) (xv.val ρ)).run P w = .ok (cs.map (V.val ρ)).toArray w := n2
            simp only [n2', Result.andThen_ok, s3]
          · cases h
        · cases h
      · cases h
    · cases h
  · rename_i dd t
    split at h
    · rename_i e ht hd
      simp only [Option.some.injEq, Prod.mk.injEq] at h
      obtain ⟨rfl, rfl⟩ := h
      obtain ⟨a1, a2⟩ := he dd (by simp [Op.operands, Call.operands]) _ hd
      refine ⟨D, ρ, w, .value undef, ?_, .inl rfl, Nx.refl _ _ _, hR, trivial⟩
      simp [execOp, resolve, invoke, builtin, Builtin.clear_, a1, V.val_nilslice, run_underlying ht, undef]
    · rename_i e n off len c ex ht hd
      split at h
      · rename_i s z hs hz
        split at h
        · rename_i hzl
          split at h
          · rename_i H1 hst
            simp only [Option.some.injEq, Prod.mk.injEq] at h
            obtain ⟨rfl, rfl⟩ := h
            obtain ⟨a1, a2⟩ := he dd (by simp [Op.operands, Call.operands]) _ hd
            obtain ⟨z1, z2⟩ := r_zero hz ρ D
            obtain ⟨s1, s2, w', s3, s4⟩ := store_sound (P := P) hR hst a2.1 (zerosL_in (V.In.cells z1))
            refine ⟨D, ρ, w', .value undef, ?_, .inl rfl, nx_same s1 a2.1 s2, s4, trivial⟩
            have hzc : (z.val ρ).cells = (z.cells.map (V.val ρ)).toArray := by apply Array.ext'; simpa using V.val_cells ρ z
            cases len with
            | zero =>
              have hw : w' = w := by
                rw [Nat.zero_mul] at s3
                have : (zerosL z.cells 0).map (V.val ρ) = [] := rfl
                rw [this] at s3
                injection s3 with _ hw
                exact hw.symm
              subst hw
              simp [execOp, resolve, invoke, builtin, Builtin.clear_, a1, V.val_slice, run_underlying ht, undef]
            | succ k =>
              have hz0 : (k + 1) * s = 0 ∨ 0 < z.cells.length := by
                rw [hzl]
                rcases Nat.eq_zero_or_pos s with h | h
                · left; rw [h, Nat.mul_zero]
                · exact .inr h
              have hcl : (Builtin.zeroCells (z.val ρ).cells (k + 1)).toList = (zerosL z.cells ((k + 1) * s)).map (V.val ρ) := by
                rw [zerosL_map ρ _ _ hz0, hzc]
                simp [Builtin.zeroCells, hzl]
              simp only [execOp, resolve, invoke, builtin, Builtin.clear_, List.getElem?_toArray, List.getElem?_cons_zero, Sem.run_bind, Sem.run_pure, Result.andThen_ok, List.map_toArray, List.map_cons, List.map_nil, a1, V.val_slice, run_underlying ht, z2, hcl, s3]
              rfl
          · cases h
        · cases h
      · cases h
    · cases h
  · cases h
end
end Go.Ev
end
section
/- Operations, one after the other: as the model does them. -/
namespace Go.Ev

/-- The fence of a frame: no bound; in a round, which. -/
def Fr (rb : Option Nat) : Fence := { fn := fun _ => True, depth := none, alive := false, round := rb }

section
variable (P : Program) (gl : Nat → Option Nat) (w0 : World)
/-- What is asked of a call's end. -/
def Ends (D : Nat → Prop) (ρ : Nat → Loc) (H : Hp) (v : V) (H' : Hp) (e : Ending) (w' : World) : Prop :=
  ∃ D' ρ', e = .returned (v.val ρ') ∧ Nx D ρ H D' ρ' H' ∧ Rel gl w0 D' ρ' H' w' ∧ v.In D' ρ'
def CallOk (call : Call) : Prop :=
  ∀ f args H v H', call f args H = some (v, H') → ∀ D ρ w, Rel gl w0 D ρ H w → (∀ a ∈ args, a.In D ρ) →
    ((∀ A w, (callFunc f A).run P w = .ok (.enter f A) w) ∧ CallsIn (Fr none) 0 P f (args.map (V.val ρ)).toArray w (Ends gl w0 D ρ H v H')) ∨
    (((P.funcs[f]?).bind (·.body)).isNone = true ∧ H' = H ∧ v.In D ρ ∧ (callFunc f (args.map (V.val ρ)).toArray).run P w = .ok (.value (v.val ρ)) w)
def YldOk (yld : Nat → List V → Hp → Option (V × Hp)) : Prop :=
  ∀ l args H v H', yld l args H = some (v, H') → ∀ D ρ w, Rel gl w0 D ρ H w → D l → (∀ a ∈ args, a.In D ρ) →
    ∃ f tmps assign body, (Instr.yield (ρ l).blk (args.map (V.val ρ)).toArray).run P w = .ok (.round (ρ l).blk f tmps assign body) w ∧
      RoundIn (Fr none) 0 P (ρ l).blk f tmps assign body w (Ends gl w0 D ρ H v H')
end

section
variable {P : Program} {gl : Nat → Option Nat} {w0 w : World} {D : Nat → Prop} {ρ : Nat → Loc} {H : Hp} {call : Call} {yld : Nat → List V → Hp → Option (V × Hp)} {rb : Option Nat}
theorem value_in {F : Fence} {n : Nat} {o : Oper} {a : Act} {K : Act → World → Prop} {Q : Exit → Act → World → Prop} {v : Value} {w' : World} (hF : F = Fr rb) (hd : ∀ c, o.op ≠ .defer c) (h : (execOp a.eval o).run P w = .ok (.value v) w') (hk : K (a.put o.dst v) w') : o.wpIn F n P a w K Q := by
  subst hF
  refine ⟨fun _ _ => trivial, ?_⟩
  rw [Oper.semAt_eq _ _ _ hd, h]
  exact hk
theorem no_defer {tm : List V} {o : Op} {v : V} {H' : Hp} (h : opV P gl call yld tm H o = some (v, H')) : ∀ c, o ≠ .defer c := by
  rintro c rfl
  simp [opV, isEff, neV, pureV, readV, allocV] at h
theorem op_sound (hc : CallOk P gl w0 call) (hy : YldOk P gl w0 yld) {tm : List V} {o : Oper} {v : V} {H' : Hp} (h : opV P gl call yld tm H o.op = some (v, H')) (hR : Rel gl w0 D ρ H w) {a : Act} (he : Opnds gl tm ρ D a.eval o.op.operands)
    {K : Act → World → Prop} {Q : Exit → Act → World → Prop} (hk : ∀ D' ρ' w', Nx D ρ H D' ρ' H' → Rel gl w0 D' ρ' H' w' → v.In D' ρ' → K (a.put o.dst (v.val ρ')) w') : o.wpIn (Fr rb) 0 P a w K Q := by
  have hd := no_defer h
  unfold opV at h
  split at h
  · rename_i hEff
    split at h
    · rename_i f args hcal
      -- a call
      obtain ⟨dst, op, type, pos, after, guard⟩ := o
      simp only at h he hcal hd hk
      unfold calleeV at hcal
      split at hcal
      · rename_i fo as ts
        split at hcal
        · rename_i f' l hf hl
          simp only [Option.some.injEq, Prod.mk.injEq] at hcal
          obtain ⟨rfl, rfl⟩ := hcal
          obtain ⟨f1, f2⟩ := he fo (by simp [Op.operands, Call.operands]) _ hf
          obtain ⟨l1, l2⟩ := r_opnds hl (fun x hx u hu => he x (by simp [Op.operands, Call.operands]; exact .inr (Array.mem_toList_iff.1 hx)) u hu)
          have hargs : as.map a.eval = (l.map (V.val ρ)).toArray := by
            apply Array.ext'; simpa using l1
          unfold callV at h
          split at h
          · rename_i g x y
            rcases hc _ _ _ _ _ h D ρ w hR (by
              intro u hu
              rcases List.mem_append.1 hu with hu | hu
              · rcases List.mem_append.1 hu with hu | hu
                · exact V.In.toL (v := x) f2.1 u hu
                · exact l2 u hu
              · exact V.In.toL (v := y) f2.2 u hu) with ⟨c1, c2⟩ | ⟨_, rfl, c3, c4⟩
            case inr =>
              refine value_in rfl hd ?_ (hk D ρ w (Nx.refl _ _ _) hR c3)
              simp only [execOp, resolve, hargs, f1, V.val_fn, Deferred.ofValue, Sem.run_bind, Sem.run_pure, Result.andThen_ok, invoke, V.vals_eq]
              rw [← c4]
              congr 2
              simp
            refine ⟨fun _ _ => trivial, ?_⟩
            have hrun : (execOp a.eval { dst, op := .call { callee := .value fo, args := as, argTypes := ts }, type, pos, after, guard }).run P w = .ok (.enter g ((x.toL ++ l ++ y.toL).map (V.val ρ)).toArray) w := by
              simp only [execOp, resolve, hargs, f1, V.val_fn, Deferred.ofValue, Sem.run_bind, Sem.run_pure, Result.andThen_ok, invoke, V.vals_eq, c1]
              simp
            rw [Oper.semAt_eq _ _ _ hd, hrun]
            refine ⟨by simp [Fr], ?_⟩
            refine CallsIn.mono (F := Fr none) c2 ?_
            rintro e w' ⟨D', ρ', rfl, n1, n2, n3⟩
            exact hk D' ρ' w' n1 n2 n3
          · rename_i ln
            obtain ⟨g, tmps, assign, body, y1, y2⟩ := hy _ _ _ _ _ h D ρ w hR f2 l2
            refine ⟨fun _ _ => trivial, ?_⟩
            have hrun : (execOp a.eval { dst, op := .call { callee := .value fo, args := as, argTypes := ts }, type, pos, after, guard }).run P w = .ok (.round (ρ ln).blk g tmps assign body) w := by
              simp only [execOp, resolve, hargs, f1, V.val_yield, Deferred.ofValue, Sem.run_bind, Sem.run_pure, Result.andThen_ok, invoke]
              simpa using y1
            rw [Oper.semAt_eq _ _ _ hd, hrun]
            refine ⟨by simp [Fr], ?_⟩
            refine RoundIn.mono (F := Fr none) y2 ?_
            rintro e w' ⟨D', ρ', rfl, n1, n2, n3⟩
            exact hk D' ρ' w' n1 n2 n3
          · cases h
        · cases hcal
      · cases hcal
    · obtain ⟨D', ρ', w', x, hr, hx, n1, n2, n3⟩ := eff_sound (P := P) hR h he
      refine ⟨fun _ _ => trivial, ?_⟩
      rw [Oper.semAt_eq _ _ _ hd, hr]
      have := hk D' ρ' w' n1 n2 n3
      rcases hx with rfl | ⟨rfl, rfl⟩
      · exact this
      · exact this
  · split at h
    · rename_i u hne
      simp only [Option.some.injEq, Prod.mk.injEq] at h
      obtain ⟨rfl, rfl⟩ := h
      unfold neV at hne
      split at hne
      · rename_i u' hp
        simp only [Option.some.injEq] at hne
        subst hne
        obtain ⟨p1, p2⟩ := pure_sound hp he
        exact value_in rfl hd (p2 w) (hk D ρ w (Nx.refl _ _ _) hR p1)
      · obtain ⟨p1, p2⟩ := read_sound hR hne he
        exact value_in rfl hd p2 (hk D ρ w (Nx.refl _ _ _) hR p1)
    · split at h
      · rename_i ob mk hal
        simp only [Option.some.injEq, Prod.mk.injEq] at h
        obtain ⟨rfl, rfl⟩ := h
        obtain ⟨cap, w', o1, o2, o3, o4⟩ := alloc_sound (P := P) (w0 := w0) hal he H.next (not_next hR) w hR.grown.size
        exact value_in rfl hd o1 (hk _ _ _ (nx_push hR _ _) (rel_push' hR rfl o2 o3) o4)
      · cases h

/-! ### Temporaries -/
structure Tm (D : Nat → Prop) (ρ : Nat → Loc) (tm : List V) (a : Act) : Prop where
  eq : a.tmps = (tm.map (V.val ρ)).toArray
  in_ : ∀ v ∈ tm, v.In D ρ
theorem Tm.opnd {tm : List V} {a : Act} (h : Tm D ρ tm a) (hR : Rel gl w0 D ρ H w) (x : Operand) (u : V) (hu : opnd gl tm x = some u) : a.eval x = u.val ρ ∧ u.In D ρ := by
  unfold Ev.opnd at hu
  split at hu
  · rename_i t
    simp only [Option.some.injEq] at hu
    subst hu
    refine ⟨?_, ?_⟩
    · simp only [Act.eval, h.eq]
      rw [List.getD_eq_getElem?_getD, Array.getD_eq_getD_getElem?]
      cases ht : tm[t]? with
      | none => simp [ht, V.val_undef]
      | some v => simp [ht]
    · rw [List.getD_eq_getElem?_getD]
      cases ht : tm[t]? with
      | none => exact trivial
      | some v => exact h.in_ v (List.mem_of_getElem? ht)
  · obtain ⟨p, q⟩ := ofConst_sound hu ρ D
    exact ⟨p.symm, q⟩
  · rename_i g
    split at hu
    · rename_i n hg
      simp only [Option.some.injEq] at hu
      subst hu
      obtain ⟨p, q, r⟩ := hR.gl g n hg
      exact ⟨by simp [Act.eval, V.val_ptr, q, r], p⟩
    · cases hu
  · simp only [Option.some.injEq] at hu
    subst hu
    exact ⟨rfl, trivial, trivial⟩
theorem Tm.put {tm : List V} {a : Act} (h : Tm D ρ tm a) (d : Option Tmp) {v : V} (hv : v.In D ρ) : Tm D ρ (putV tm d v) (a.put d (v.val ρ)) := by
  cases d with
  | none => exact h
  | some t =>
    refine ⟨?_, fun u hu => ?_⟩
    · simp only [Act.put, putV, h.eq]
      apply Array.ext'
      simp [List.map_set]
    · simp only [putV] at hu
      rcases List.mem_or_eq_of_mem_set hu with hu | rfl
      · exact h.in_ u hu
      · exact hv
theorem Tm.nx {tm : List V} {a : Act} {D' : Nat → Prop} {ρ' : Nat → Loc} {H' : Hp} (h : Tm D ρ tm a) (hn : Nx D ρ H D' ρ' H') : Tm D' ρ' tm a :=
  ⟨by rw [h.eq, map_ext hn.loc h.in_], fun v hv => hn.in (h.in_ v hv)⟩
theorem Tm.yield {ops : Array Oper} {tm : List V} {a : Act} (h : Tm D ρ tm a) (j : Nat) : yielded ops a.tmps j = boolAt ops tm j := by
  unfold boolAt yielded
  cases ht : (ops[j]?).bind (·.dst) with
  | none => rfl
  | some t =>
    simp only [Option.bind_some, h.eq, List.getElem?_toArray, List.getElem?_map]
    cases hv : tm[t]? with
    | none => rfl
    | some v =>
      cases v
      case raw x hx => cases x <;> first | rfl | (cases hx; done)
      all_goals rfl
theorem Tm.wanted {ops : Array Oper} {tm : List V} {a : Act} (h : Tm D ρ tm a) (o : Oper) : Region.wanted o (yielded ops a.tmps) = wantedV ops tm o := by
  unfold Region.wanted wantedV
  cases o.guard with
  | none => rfl
  | some g => simp only [h.yield]
theorem put_defers (a : Act) (d : Option Tmp) (v : Value) : (a.put d v).defers = a.defers := by cases d <;> rfl

theorem ops_sound (hc : CallOk P gl w0 call) (hy : YldOk P gl w0 yld) {ops : Array Oper} {Q : Exit → Act → World → Prop} : ∀ (k i : Nat) {tm tm' : List V} {H H' : Hp} {D : Nat → Prop} {ρ : Nat → Loc} {w : World} {a : Act}, i + k = ops.size →
    opsV P gl call yld ops (ops.toList.drop i) tm H = some (tm', H') → Rel gl w0 D ρ H w → Tm D ρ tm a →
    (∀ D' ρ' a' w', Nx D ρ H D' ρ' H' → Rel gl w0 D' ρ' H' w' → Tm D' ρ' tm' a' → a'.defers = a.defers → Q .normal a' w') → wpOpsIn (Fr rb) 0 P ops Q (List.range' i k) a w
  | 0, i, tm, tm', H, H', D, ρ, w, a, hi, h, hR, hT, hQ => by
    rw [List.drop_of_length_le (by simp; omega)] at h
    simp only [opsV, Option.some.injEq, Prod.mk.injEq] at h
    obtain ⟨rfl, rfl⟩ := h
    exact hQ D ρ a w (Nx.refl _ _ _) hR hT rfl
  | k + 1, i, tm, tm', H, H', D, ρ, w, a, hi, h, hR, hT, hQ => by
    have hlt : i < ops.toList.length := by simp; omega
    rw [List.drop_eq_getElem_cons hlt] at h
    have ho : ops[i]? = some ops.toList[i] := by simp
    generalize ops.toList[i] = o at h ho
    rw [List.range'_succ]
    simp only [wpOpsIn, ho]
    unfold opsV at h
    rw [hT.wanted]
    split at h
    · rename_i hw
      rw [if_pos hw]
      split at h
      · rename_i v H1 hop
        refine op_sound hc hy hop hR (fun x _ u hu => hT.opnd hR x u hu) fun D' ρ' w' hn hR' hv => ?_
        exact ops_sound hc hy k (i + 1) (by omega) h hR' ((hT.nx hn).put o.dst hv) fun D2 ρ2 a2 w2 n2 r2 t2 d2 => hQ D2 ρ2 a2 w2 (hn.trans n2) r2 t2 (d2.trans (put_defers _ _ _))
      · cases h
    · rename_i hw
      rw [if_neg hw]
      refine ⟨fun _ _ => trivial, ?_⟩
      have hT' := hT.put o.dst (v := .undef) trivial
      exact ops_sound hc hy k (i + 1) (by omega) h hR hT' fun D2 ρ2 a2 w2 n2 r2 t2 d2 => hQ D2 ρ2 a2 w2 n2 r2 t2 (d2.trans (put_defers _ _ _))
theorem region_sound (hc : CallOk P gl w0 call) (hy : YldOk P gl w0 yld) {id : Nat} {ops : Array Oper} {Q : Exit → Act → World → Prop} {tm tm' : List V} {H' : Hp} {a : Act} (h : opsV P gl call yld ops ops.toList tm H = some (tm', H')) (hR : Rel gl w0 D ρ H w) (hT : Tm D ρ tm a)
    (hQ : ∀ D' ρ' a' w', Nx D ρ H D' ρ' H' → Rel gl w0 D' ρ' H' w' → Tm D' ρ' tm' a' → a'.defers = a.defers → Q .normal a' w') : (Code.region id ops false).wpIn (Fr rb) 0 P Q a w := by
  refine wpIn_region ?_
  rw [List.range_eq_range']
  exact ops_sound hc hy ops.size 0 (by omega) (by simpa using h) hR hT hQ
end
end Go.Ev
end
section
/- A region that draws its order: whatever the order, what the plan comes to. -/
namespace Go.Ev

/-- Directly ahead. -/
def Dir (ops : Array Oper) (i j : Nat) : Prop := ∃ o, ops[j]? = some o ∧ ∃ e ∈ o.after, Region.binds .any e = true ∧ e.on = i
inductive Bef (ops : Array Oper) : Nat → Nat → Prop where
  | one {i j : Nat} (h : Dir ops i j) : Bef ops i j
  | more {i k j : Nat} (h : Dir ops k j) (hk : Bef ops i k) : Bef ops i j
theorem maskEdges_spec (acc : Array Nat) (i : Nat) : ∀ l : List Edge, (maskEdges acc l).testBit i = true → ∃ e ∈ l, Region.binds .any e = true ∧ (e.on = i ∨ (acc.getD e.on 0).testBit i = true)
  | [], h => by simp [maskEdges] at h
  | e :: l, h => by
    unfold maskEdges at h
    split at h
    · rename_i hb
      simp only [Nat.testBit_or, Bool.or_eq_true, Nat.testBit_two_pow, decide_eq_true_eq] at h
      rcases h with (h | h) | h
      · exact ⟨e, by simp, hb, .inl h⟩
      · exact ⟨e, by simp, hb, .inr h⟩
      · obtain ⟨e', h1, h2⟩ := maskEdges_spec acc i l h
        exact ⟨e', by simp [h1], h2⟩
    · obtain ⟨e', h1, h2⟩ := maskEdges_spec acc i l h
      exact ⟨e', by simp [h1], h2⟩
theorem masksGo_spec (ops : Array Oper) : ∀ (l pre : List Oper) (acc : Array Nat), ops.toList = pre ++ l → acc.size = pre.length → (∀ j i, (acc.getD j 0).testBit i = true → Bef ops i j) → ∀ j i, ((masksGo l acc).getD j 0).testBit i = true → Bef ops i j
  | [], pre, acc, _, _, h => h
  | o :: l, pre, acc, he, hs, h => by
    unfold masksGo
    refine masksGo_spec ops l (pre ++ [o]) _ (by simp [he]) (by simp [hs]) ?_
    intro j i hj
    by_cases e : j = acc.size
    · subst e
      rw [Array.getD_eq_getD_getElem?, Array.getElem?_push_size] at hj
      obtain ⟨ed, h1, h2, h3⟩ := maskEdges_spec _ _ _ hj
      have hd : ∀ k, ed.on = k → Dir ops k acc.size := fun k hk => ⟨o, by rw [← Array.getElem?_toList, he, hs]; simp, ed, by simpa using h1, h2, hk⟩
      rcases h3 with h3 | h3
      · exact .one (hd i h3)
      · exact .more (hd _ rfl) (h _ _ h3)
    · have : (acc.push (maskEdges acc o.after.toList)).getD j 0 = acc.getD j 0 := by
        rw [Array.getD_eq_getD_getElem?, Array.getD_eq_getD_getElem?, Array.getElem?_push, if_neg e]
      rw [this] at hj
      exact h j i hj
theorem masks_spec {ops : Array Oper} {j i : Nat} (h : ((masks ops).getD j 0).testBit i = true) : Bef ops i j :=
  masksGo_spec ops ops.toList [] #[] (by simp) rfl (fun j i h => by simp at h) j i h
theorem bef_closed {ops : Array Oper} {l : Array Bool} (hcl : ∀ j, l.getD j false = true → ∀ i, Dir ops i j → l.getD i false = true) {i j : Nat} (h : Bef ops i j) (hj : ∀ i, Dir ops i j → l.getD i false = true) : l.getD i false = true := by
  induction h with
  | one h => exact hj _ h
  | more h _ ih => exact ih (fun i hi => hcl _ (hj _ h) i hi)
theorem ready_iff {ops : Array Oper} {l : Array Bool} (hs : l.size = ops.size) {j : Nat} : j ∈ Region.ready .any ops l ↔ j < ops.size ∧ l.getD j false = false ∧ ∀ i, Dir ops i j → l.getD i false = true := by
  rw [mem_ready]
  constructor
  · rintro ⟨h1, o, h2, h3⟩
    have hl : j < ops.size := (Array.getElem?_eq_some_iff.1 h2).1
    refine ⟨hl, ?_, ?_⟩
    · rw [Array.getD_eq_getD_getElem?] at h1 ⊢
      rw [Array.getElem?_eq_getElem (by omega)] at h1 ⊢
      exact h1
    · rintro i ⟨o', h4, e, h5, h6, rfl⟩
      rw [h2] at h4
      cases h4
      exact h3 e h5 h6
  · rintro ⟨hl, h1, h3⟩
    refine ⟨?_, ops[j], Array.getElem?_eq_getElem hl, fun e he hb => h3 e.on ⟨ops[j], Array.getElem?_eq_getElem hl, e, he, hb, rfl⟩⟩
    rw [Array.getD_eq_getD_getElem?] at h1 ⊢
    rw [Array.getElem?_eq_getElem (by omega)] at h1 ⊢
    exact h1
theorem set_getD {l : Array Bool} {i j : Nat} (hi : i < l.size) : (l.setIfInBounds i true).getD j false = true ↔ j = i ∨ l.getD j false = true := by
  rw [Array.getD_eq_getD_getElem?, Array.getD_eq_getD_getElem?, Array.getElem?_setIfInBounds]
  by_cases e : i = j
  · subst e; simp [hi]
  · rw [if_neg e]
    constructor
    · exact .inr
    · rintro (h | h)
      · exact absurd h.symm e
      · exact h

/-! ### What is read stays read where more is made -/
section
variable {P : Program} {gl : Nat → Option Nat}
theorem cell_mono {H H' : Hp} (h : ∀ n o, H.get n = some o → H'.get n = some o) {n off : Nat} {v : V} (hc : H.cell n off = some v) : H'.cell n off = some v := by
  unfold Hp.cell at hc ⊢
  split at hc
  · rename_i hg; rw [h _ _ hg]; exact hc
  · cases hc
theorem cellsAt_mono {H H' : Hp} (h : ∀ n o, H.get n = some o → H'.get n = some o) {n : Nat} : ∀ {k off : Nat} {l : List V}, H.cellsAt n off k = some l → H'.cellsAt n off k = some l
  | 0, _, _, hc => hc
  | k + 1, off, l, hc => by
    unfold Hp.cellsAt at hc ⊢
    split at hc
    · rename_i v hv
      rw [cell_mono h hv]
      simp only
      split at hc
      · rename_i l' hl
        rw [cellsAt_mono h hl]
        exact hc
      · cases hc
    · cases hc
theorem loadV_mono {H H' : Hp} (h : ∀ n o, H.get n = some o → H'.get n = some o) {t : TypeId} {n off : Nat} {v : V} (hc : loadV P H t n off = some v) : loadV P H' t n off = some v := by
  unfold loadV at hc ⊢
  split at hc
  · split at hc
    · split at hc
      · rename_i l hl
        rw [cellsAt_mono h hl]
        exact hc
      · cases hc
    · cases hc
  · exact cell_mono h hc
  · cases hc
theorem readV_mono {H H' : Hp} (h : ∀ n o, H.get n = some o → H'.get n = some o) {tm : List V} {o : Op} {v : V} (hc : readV P gl tm H o = some v) : readV P gl tm H' o = some v := by
  unfold readV at hc ⊢
  split at hc
  · split at hc
    · exact loadV_mono h hc
    · cases hc
  · split at hc
    · exact hc
    · split at hc
      · rename_i hg; rw [h _ _ hg]; exact hc
      · cases hc
    · cases hc
  · split at hc
    · exact hc
    · rename_i n off len c ex _ _ _
      cases hl : H.cellsAt n off len with
      | none =>
        rw [hl] at hc
        split at hc <;> simp at hc
      | some l =>
        rw [hl] at hc
        rw [cellsAt_mono h hl]
        exact hc
    · cases hc
  · split at hc
    · split at hc
      · rename_i hg; rw [h _ _ hg]; exact hc
      · cases hc
    · cases hc
  · cases hc
theorem sameV_eq : ∀ {a b : V}, sameV a b = true → a = b := by
  intro a
  induction a <;> intro b h <;> cases b <;> simp only [sameV, Bool.and_eq_true, beq_iff_eq, Bool.false_eq_true] at h
  all_goals first | rfl | skip
  all_goals simp_all
  case fn.fn f x y ihx ihy g c d => exact ⟨ihx h.1.2, ihy h.2⟩
  case cons.cons x y ihx ihy c d => exact ⟨ihx h.1, ihy h.2⟩
  case agg.agg x ih c => exact ih h
  case tup.tup x ih c => exact ih h
theorem still_spec {ms : Array Nat} {j : Nat} {H : Hp} : ∀ {l : List Read}, stillV P gl ms j H l = true → ∀ r ∈ l, (ms.getD j 0).testBit r.i = true ∨ readV P gl r.tm H r.o = some r.v
  | [], _, r, hr => by simp at hr
  | x :: l, h, r, hr => by
    simp only [stillV, Bool.and_eq_true, Bool.or_eq_true] at h
    rcases List.mem_cons.1 hr with rfl | hr
    · rcases h.1 with h1 | h1
      · exact .inl h1
      · right
        split at h1
        · rename_i v hv
          rw [hv, sameV_eq h1]
        · cases h1
    · exact still_spec h.2 r hr
end
end Go.Ev
end
section
/- A region that draws its order: whatever the order, what the plan comes to (2). -/
namespace Go.Ev

/-- What the plan has done and the machine has not yet. -/
structure Pend where
  i : Nat
  o : Oper
  tm : List V
  v : V
  al : Option (Nat × Ob)

section
variable (P : Program) (gl : Nat → Option Nat) (w0 : World) (ops : Array Oper)
def Sem1 (H : Hp) (rd : List Read) (p : Pend) : Prop :=
  (wantedV ops p.tm p.o = false ∧ p.v = .undef ∧ p.al = none) ∨
  (wantedV ops p.tm p.o = true ∧ p.al = none ∧ pureV P gl p.tm p.o.op = some p.v) ∨
  (wantedV ops p.tm p.o = true ∧ p.al = none ∧ readV P gl p.tm H p.o.op = some p.v ∧ ⟨p.i, p.o.op, p.tm, p.v⟩ ∈ rd ∧ pureV P gl p.tm p.o.op = none) ∨
  (wantedV ops p.tm p.o = true ∧ ∃ mk n ob, allocV P gl p.tm p.o.op = some (ob, mk) ∧ p.al = some (n, ob) ∧ p.v = mk n)
structure Inv (D0 : Nat → Prop) (ρ0 : Nat → Loc) (H0 : Hp) (E : List Pend) (le : Array Bool) (tm : List V) (H : Hp) (rd : List Read) (lc : Array Bool) (a : Act) (w : World) (D : Nat → Prop) (ρ : Nat → Loc) : Prop where
  sze : le.size = ops.size
  szc : lc.size = ops.size
  lcs : ∀ j, lc.getD j false = true ↔ le.getD j false = true ∧ ∀ p ∈ E, p.i ≠ j
  cle : ∀ j, le.getD j false = true → ∀ i, Dir ops i j → le.getD i false = true
  clc : ∀ j, lc.getD j false = true → ∀ i, Dir ops i j → lc.getD i false = true
  rel : Rel gl w0 D ρ H w
  loc : ∀ n, D0 n → ρ n = ρ0 n
  dom : ∀ n, (D n ∨ ∃ p ∈ E, ∃ ob, p.al = some (n, ob)) ↔ D0 n ∨ (H0.next ≤ n ∧ n < H.next)
  off : ∀ p ∈ E, ∀ n ob, p.al = some (n, ob) → ¬ D n ∧ H.get n = some ob ∧ ¬ D0 n
  uni : ∀ p ∈ E, ∀ q ∈ E, ∀ n ob ob', p.al = some (n, ob) → q.al = some (n, ob') → p.i = q.i
  rest : ∀ n, n < H0.next → ¬ D0 n → H.get n = H0.get n
  nxt : H0.next ≤ H.next
  tms : a.tmps.size = tm.length
  tmp : ∀ t, (∀ p ∈ E, p.o.dst ≠ some t) → ∀ v, tm[t]? = some v → a.tmps[t]? = some (v.val ρ) ∧ v.In D ρ
  mem : ∀ p ∈ E, ops[p.i]? = some p.o ∧ le.getD p.i false = true
  dst : ∀ p ∈ E, ∀ t, p.o.dst = some t → t < tm.length → tm[t]? = some p.v
  lone : ∀ p ∈ E, loneDst ops p.i p.o = true
  len : ∀ p ∈ E, p.tm.length = tm.length
  nod : E.Pairwise (fun p q => p.i ≠ q.i)
  ord : E.Pairwise (fun p q => ¬ Dir ops q.i p.i)
  op1 : ∀ p ∈ E, ∀ q ∈ E, Dir ops q.i p.i → ∀ t, q.o.dst = some t → t ∈ p.o.looksAt ops → t < tm.length → p.tm[t]? = some q.v
  op2 : ∀ p ∈ E, ∀ t ∈ p.o.looksAt ops, (∀ q ∈ E, Dir ops q.i p.i → q.o.dst ≠ some t) → ∀ v, p.tm[t]? = some v → a.tmps[t]? = some (v.val ρ) ∧ v.In D ρ
  exc : ∀ p ∈ E, ∀ q ∈ E, p.i ≠ q.i → ∀ t, q.o.dst = some t → t ∈ p.o.looksAt ops → Dir ops q.i p.i ∨ Dir ops p.i q.i
  free : ∀ p ∈ E, ∀ j oj, ops[j]? = some oj → j ≠ p.i → le.getD j false = false → Dir ops p.i j ∨ p.o.apart ops oj = true
  eff : ∀ p ∈ E, isEff p.o.op = false
  slf : ∀ p ∈ E, ¬ Dir ops p.i p.i
  sem : ∀ p ∈ E, Sem1 P gl ops H rd p
end

section
variable {P : Program} {gl : Nat → Option Nat} {w0 w : World} {ops : Array Oper} {D0 : Nat → Prop} {ρ0 : Nat → Loc} {H0 : Hp} {E : List Pend} {le : Array Bool} {tm : List V} {H : Hp} {rd : List Read} {lc : Array Bool} {a : Act} {D : Nat → Prop} {ρ : Nat → Loc}
theorem loneDst_spec {i : Nat} {o : Oper} (h : loneDst ops i o = true) {d : Tmp} (hd : o.dst = some d) {j : Nat} {p : Oper} (hj : ops[j]? = some p) (hne : j ≠ i) : p.dst ≠ some d := by
  unfold loneDst at h
  rw [hd] at h
  simp only [List.all_eq_true, List.mem_range] at h
  have := h j (Array.getElem?_eq_some_iff.1 hj).1
  simp only [hj, Bool.or_eq_true, beq_iff_eq, hne, false_or, bne_iff_ne] at this
  exact this
/-- Operands that stand in the temporaries. -/
theorem opnds_of {tm : List V} {a : Act} (hR : Rel gl w0 D ρ H w) (hl : a.tmps.size = tm.length) {xs : Array Operand} (h : ∀ t, .tmp t ∈ xs → ∀ v, tm[t]? = some v → a.tmps[t]? = some (v.val ρ) ∧ v.In D ρ) : Opnds gl tm ρ D a.eval xs := by
  intro x hx u hu
  unfold opnd at hu
  split at hu
  · rename_i t
    simp only [Option.some.injEq] at hu
    subst hu
    simp only [Act.eval]
    rw [List.getD_eq_getElem?_getD, Array.getD_eq_getD_getElem?]
    cases ht : tm[t]? with
    | none =>
      have : a.tmps[t]? = none := by
        rw [List.getElem?_eq_none_iff] at ht
        rw [Array.getElem?_eq_none_iff]
        omega
      rw [this]
      exact ⟨V.val_undef ρ, trivial⟩
    | some v =>
      obtain ⟨p, q⟩ := h t hx v ht
      rw [p]
      exact ⟨rfl, q⟩
  · obtain ⟨p, q⟩ := ofConst_sound hu ρ D
    exact ⟨p.symm, q⟩
  · rename_i g
    split at hu
    · rename_i n hg
      simp only [Option.some.injEq] at hu
      subst hu
      obtain ⟨p, q, r⟩ := hR.gl g n hg
      exact ⟨by simp [Act.eval, V.val_ptr, q, r], p⟩
    · cases hu
  · simp only [Option.some.injEq] at hu
    subst hu
    exact ⟨rfl, trivial, trivial⟩
theorem wanted_of {tm : List V} {a : Act} (hl : a.tmps.size = tm.length) {o : Oper} (h : ∀ t ∈ o.looksAt ops, ∀ v, tm[t]? = some v → a.tmps[t]? = some (v.val ρ) ∧ v.In D ρ) : Region.wanted o (yielded ops a.tmps) = wantedV ops tm o := by
  unfold Region.wanted wantedV
  cases hg : o.guard with
  | none => rfl
  | some g =>
    obtain ⟨j, want⟩ := g
    simp only
    have : yielded ops a.tmps j = boolAt ops tm j := by
      unfold boolAt yielded
      cases ht : (ops[j]?).bind (·.dst) with
      | none => rfl
      | some t =>
        simp only [Option.bind_some]
        cases hv : tm[t]? with
        | none =>
          have : a.tmps[t]? = none := by
            rw [List.getElem?_eq_none_iff] at hv
            rw [Array.getElem?_eq_none_iff]
            omega
          rw [this]
        | some v =>
          have hm : t ∈ o.looksAt ops := by
            unfold Oper.looksAt
            rw [hg]
            simp [ht]
          rw [(h t hm v hv).1]
          cases v
          case raw x hx => cases x <;> first | rfl | (cases hx; done)
          all_goals rfl
    rw [this]
theorem mem_looks {o : Oper} {t : Tmp} (h : .tmp t ∈ o.op.operands) : t ∈ o.looksAt ops :=
  List.mem_append_left _ (List.mem_filterMap.2 ⟨.tmp t, by simpa using h, rfl⟩)
theorem apart_dst {x y : Oper} (h : x.apart ops y = true) : (∀ d, x.dst = some d → d ∉ y.looksAt ops) ∧ (∀ d, x.dst = some d → y.dst ≠ some d) ∧ (∀ d, y.dst = some d → d ∉ x.looksAt ops) := Oper.apart_spec h

/-- One that is ready stands where all that it looks at has come. -/
theorem Inv.looks (hI : Inv P gl w0 ops D0 ρ0 H0 E le tm H rd lc a w D ρ) {p : Pend} (hp : p ∈ E) (hr : p.i ∈ Region.ready .any ops lc) : ∀ t ∈ p.o.looksAt ops, ∀ v, p.tm[t]? = some v → a.tmps[t]? = some (v.val ρ) ∧ v.In D ρ := by
  intro t ht v hv
  refine hI.op2 p hp t ht (fun q hq hd _ => ?_) v hv
  have := ((ready_iff hI.szc).1 hr).2.2 q.i hd
  exact ((hI.lcs _).1 this).2 q hq rfl
theorem a_put_get {a : Act} {d : Option Tmp} {v : Value} {t : Nat} (h : d ≠ some t) : (a.put d v).tmps[t]? = a.tmps[t]? := by
  cases d with
  | none => rfl
  | some d =>
    simp only [Act.put, Array.getElem?_setIfInBounds]
    rw [if_neg (fun e => h (by rw [e]))]
theorem a_put_self {a : Act} {t : Tmp} {v : Value} (h : t < a.tmps.size) : (a.put (some t) v).tmps[t]? = some v := by
  simp [Act.put, h]
theorem a_put_size (a : Act) (d : Option Tmp) (v : Value) : (a.put d v).tmps.size = a.tmps.size := by
  cases d <;> simp [Act.put]
theorem putV_length (tm : List V) (d : Option Tmp) (v : V) : (putV tm d v).length = tm.length := by
  cases d <;> simp [putV]
theorem putV_get {tm : List V} {d : Option Tmp} {v : V} {t : Nat} (h : d ≠ some t) : (putV tm d v)[t]? = tm[t]? := by
  cases d with
  | none => rfl
  | some d =>
    simp only [putV]
    rw [List.getElem?_set_ne (fun e => h (by rw [e]))]
theorem putV_self {tm : List V} {t : Nat} {v : V} (h : t < tm.length) : (putV tm (some t) v)[t]? = some v := by
  simp [putV, h]
/-- The machine does what the plan had done ahead: common part. -/
theorem Inv.drop (hI : Inv P gl w0 ops D0 ρ0 H0 E le tm H rd lc a w D ρ) {p : Pend} (hp : p ∈ E) (hr : p.i ∈ Region.ready .any ops lc) {D' : Nat → Prop} {ρ' : Nat → Loc} {w' : World}
    (hR : Rel gl w0 D' ρ' H w') (hD : ∀ n, D n → D' n ∧ ρ' n = ρ n) (hal : ∀ n, D' n ↔ D n ∨ ∃ ob, p.al = some (n, ob)) (hv : p.v.In D' ρ') :
    Inv P gl w0 ops D0 ρ0 H0 (E.filter fun q => q.i != p.i) le tm H rd (lc.setIfInBounds p.i true) (a.put p.o.dst (p.v.val ρ')) w' D' ρ' := by
  have hrr := (ready_iff hI.szc).1 hr
  have sub : ∀ q, q ∈ E.filter (fun q => q.i != p.i) → q ∈ E ∧ q.i ≠ p.i := fun q hq => by simpa using hq
  have inE : ∀ q, q ∈ E → q.i ≠ p.i → q ∈ E.filter (fun q => q.i != p.i) := fun q hq hne => by simpa using ⟨hq, hne⟩
  have same : ∀ q ∈ E, q.i = p.i → q = p := by
    intro q hq e
    have hn := hI.nod
    have : ∀ (l : List Pend), l.Pairwise (fun p q => p.i ≠ q.i) → q ∈ l → p ∈ l → q = p := by
      intro l hl
      induction hl with
      | nil => intro h; cases h
      | cons h1 _ ih =>
        intro hq hp
        rcases List.mem_cons.1 hq with eq | mq
        · rcases List.mem_cons.1 hp with ep | mp
          · rw [eq, ep]
          · rw [eq] at e
            exact absurd e (h1 _ mp)
        · rcases List.mem_cons.1 hp with ep | mp
          · rw [ep] at e
            exact absurd e.symm (h1 _ mq)
          · exact ih mq mp
    exact this E hn hq hp
  have vext : ∀ {v : V}, v.In D ρ → v.val ρ' = v.val ρ := fun hv => V.val_ext (fun n hn => (hD n hn).2) hv
  have up : ∀ (t : Nat) (v : V), a.tmps[t]? = some (V.val ρ v) ∧ v.In D ρ → a.tmps[t]? = some (v.val ρ') ∧ v.In D' ρ' := fun t v h => ⟨by rw [vext h.2]; exact h.1, h.2.mono hD⟩
  refine ⟨hI.sze, by simp [hI.szc], fun j => ?_, hI.cle, fun j hj i hi => ?_, hR, fun n hn => ?_, fun n => ?_, fun q hq n ob hal' => ?_, fun q hq r hr n ob ob' h1 h2 => hI.uni q (sub q hq).1 r (sub r hr).1 n ob ob' h1 h2, hI.rest, hI.nxt, by rw [a_put_size]; exact hI.tms, ?_, fun q hq => hI.mem q (sub q hq).1, fun q hq => hI.dst q (sub q hq).1, fun q hq => hI.lone q (sub q hq).1, fun q hq => hI.len q (sub q hq).1, hI.nod.filter _, hI.ord.filter _, fun q hq r hr => hI.op1 q (sub q hq).1 r (sub r hr).1, ?_, fun q hq r hr => hI.exc q (sub q hq).1 r (sub r hr).1, fun q hq => hI.free q (sub q hq).1, fun q hq => hI.eff q (sub q hq).1, fun q hq => hI.slf q (sub q hq).1, fun q hq => hI.sem q (sub q hq).1⟩
  · rw [set_getD (by rw [hI.szc]; exact hrr.1), hI.lcs]
    constructor
    · rintro (rfl | ⟨h1, h2⟩)
      · exact ⟨(hI.mem p hp).2, fun q hq => (sub q hq).2⟩
      · exact ⟨h1, fun q hq => h2 q (sub q hq).1⟩
    · rintro ⟨h1, h2⟩
      by_cases e : j = p.i
      · exact .inl e
      · refine .inr ⟨h1, fun q hq e2 => ?_⟩
        by_cases e3 : q.i = p.i
        · exact e (by rw [← e2, e3])
        · exact h2 q (inE q hq e3) e2
  · rw [set_getD (by rw [hI.szc]; exact hrr.1)] at hj ⊢
    rcases hj with rfl | hj
    · exact .inr (hrr.2.2 i hi)
    · exact .inr (hI.clc j hj i hi)
  · by_cases hd : D n
    · rw [(hD n hd).2]; exact hI.loc n hn
    · have := (hI.dom n).2 (.inl hn)
      rcases this with h | ⟨q, hq, ob, hqa⟩
      · exact absurd h hd
      · exact absurd hn (hI.off q hq n ob hqa).2.2
  · rw [← hI.dom, hal]
    constructor
    · rintro ((h | ⟨ob, h⟩) | ⟨q, hq, ob, h⟩)
      · exact .inl h
      · exact .inr ⟨p, hp, ob, h⟩
      · exact .inr ⟨q, (sub q hq).1, ob, h⟩
    · rintro (h | ⟨q, hq, ob, h⟩)
      · exact .inl (.inl h)
      · by_cases e : q.i = p.i
        · rw [same q hq e] at h; exact .inl (.inr ⟨ob, h⟩)
        · exact .inr ⟨q, inE q hq e, ob, h⟩
  · obtain ⟨h1, h2, h3⟩ := hI.off q (sub q hq).1 n ob hal'
    refine ⟨fun hd => ?_, h2, h3⟩
    rcases (hal n).1 hd with h | ⟨ob', h⟩
    · exact h1 h
    · exact (sub q hq).2 (hI.uni q (sub q hq).1 p hp n ob ob' hal' h)
  · intro t ht v htv
    by_cases e : p.o.dst = some t
    · have hlt : t < tm.length := (List.getElem?_eq_some_iff.1 htv).1
      have := hI.dst p hp t e hlt
      rw [this] at htv
      cases htv
      rw [e]
      exact ⟨a_put_self (by rw [hI.tms]; exact hlt), hv⟩
    · rw [a_put_get e]
      refine up t v (hI.tmp t (fun q hq e2 => ?_) v htv)
      by_cases e3 : q.i = p.i
      · rw [same q hq e3] at e2; exact e e2
      · exact ht q (inE q hq e3) e2
  · intro q hq t ht hall v htv
    obtain ⟨hqE, hne⟩ := sub q hq
    by_cases e : p.o.dst = some t
    · have hlt : t < tm.length := by rw [← hI.len q hqE]; exact (List.getElem?_eq_some_iff.1 htv).1
      rcases hI.exc q hqE p hp hne t e ht with h | h
      · have := hI.op1 q hqE p hp h t e ht hlt
        rw [this] at htv
        cases htv
        rw [e]
        exact ⟨a_put_self (by rw [hI.tms]; exact hlt), hv⟩
      · have := hrr.2.2 q.i h
        exact absurd rfl (((hI.lcs _).1 this).2 q hqE)
    · rw [a_put_get e]
      refine up t v (hI.op2 q hqE t ht (fun r hrE hd e2 => ?_) v htv)
      by_cases e3 : r.i = p.i
      · rw [same r hrE e3] at e2; exact e e2
      · exact hall r (inE r hrE e3) hd e2
end
end Go.Ev
end
section
/- A region that draws its order: whatever the order, what the plan comes to (3). -/
namespace Go.Ev

section
variable {P : Program} {gl : Nat → Option Nat} {w0 w : World} {ops : Array Oper} {D0 : Nat → Prop} {ρ0 : Nat → Loc} {H0 : Hp} {E : List Pend} {le : Array Bool} {tm : List V} {H : Hp} {rd : List Read} {lc : Array Bool} {a : Act} {D : Nat → Prop} {ρ : Nat → Loc} {call : Call} {yld : Nat → List V → Hp → Option (V × Hp)} {rb : Option Nat}
theorem no_defer_pure {tm : List V} {o : Op} {v : V} (h : pureV P gl tm o = some v) : ∀ c, o ≠ .defer c := by
  rintro c rfl; simp [pureV] at h
theorem no_defer_read {tm : List V} {o : Op} {v : V} (h : readV P gl tm H o = some v) : ∀ c, o ≠ .defer c := by
  rintro c rfl; simp [readV] at h
theorem no_defer_alloc {tm : List V} {o : Op} {v : Ob × (Nat → V)} (h : allocV P gl tm o = some v) : ∀ c, o ≠ .defer c := by
  rintro c rfl; simp [allocV] at h
theorem Inv.exec (hI : Inv P gl w0 ops D0 ρ0 H0 E le tm H rd lc a w D ρ) {p : Pend} (hp : p ∈ E) (hr : p.i ∈ Region.ready .any ops lc) {K : Act → World → Prop} {Q : Exit → Act → World → Prop}
    (hK : ∀ D' ρ' a' w', Inv P gl w0 ops D0 ρ0 H0 (E.filter fun q => q.i != p.i) le tm H rd (lc.setIfInBounds p.i true) a' w' D' ρ' → a'.defers = a.defers → K a' w') : wpOpIn (Fr rb) 0 P ops Q p.i K a w := by
  have hlook := hI.looks hp hr
  have hsz : a.tmps.size = p.tm.length := by rw [hI.tms, hI.len p hp]
  have hw := wanted_of (ops := ops) (o := p.o) hsz hlook
  have hop : Opnds gl p.tm ρ D a.eval p.o.op.operands := opnds_of hI.rel hsz fun t ht => hlook t (mem_looks ht)
  have hsame : ∀ n, D n → D n ∧ ρ n = ρ n := fun n h => ⟨h, rfl⟩
  have halnone : p.al = none → ∀ n, D n ↔ D n ∨ ∃ ob, p.al = some (n, ob) := fun e n => ⟨.inl, fun h => h.elim id fun ⟨ob, h⟩ => by rw [e] at h; cases h⟩
  unfold wpOpIn
  rw [(hI.mem p hp).1]
  simp only [hw]
  rcases hI.sem p hp with ⟨h1, h2, h3⟩ | ⟨h1, h2, h3⟩ | ⟨h1, h2, h3, h4, _⟩ | ⟨h1, mk, n, ob, h3, h4, h5⟩
  · rw [if_neg (by simp [h1])]
    refine ⟨fun _ _ => trivial, ?_⟩
    have := hI.drop hp hr hI.rel hsame (halnone h3) (by rw [h2]; trivial)
    rw [h2] at this
    exact hK _ _ _ _ this (put_defers _ _ _)
  · rw [if_pos h1]
    obtain ⟨p1, p2⟩ := pure_sound h3 hop
    exact value_in rfl (no_defer_pure h3) (p2 w) (hK _ _ _ _ (hI.drop hp hr hI.rel hsame (halnone h2) p1) (put_defers _ _ _))
  · rw [if_pos h1]
    obtain ⟨p1, p2⟩ := read_sound hI.rel h3 hop
    exact value_in rfl (no_defer_read h3) p2 (hK _ _ _ _ (hI.drop hp hr hI.rel hsame (halnone h2) p1) (put_defers _ _ _))
  · rw [if_pos h1]
    obtain ⟨o1, o2, o3⟩ := hI.off p hp n ob h4
    obtain ⟨cap, w', q1, q0, q2, q3⟩ := alloc_sound (P := P) (w0 := w0) h3 hop n o1 w hI.rel.grown.size
    have hR' := hI.rel.add o1 (Hp.get_lt o2) (Nat.le_refl _) (fun _ _ => rfl) o2 q0 (hI.rel.far (Nat.le_refl _)) q2
    have := hI.drop hp hr hR' (upd_old o1) (fun m => by
      constructor
      · rintro (h | rfl)
        · exact .inl h
        · exact .inr ⟨ob, h4⟩
      · rintro (h | ⟨ob', h⟩)
        · exact .inl h
        · rw [h4] at h; cases h; exact .inr rfl) (by rw [h5]; exact q3)
    rw [h5] at this
    exact value_in rfl (no_defer_alloc h3) q1 (hK _ _ _ _ this (put_defers _ _ _))
theorem Rel.ghost (hR : Rel gl w0 D ρ H w) {H' : Hp} (hn : H.next ≤ H'.next) (h : ∀ k, D k → H'.get k = H.get k) : Rel gl w0 D ρ H' w :=
  ⟨hR.grown, fun n hd => Nat.lt_of_lt_of_le (hR.old n hd) hn, fun n o hd ho => hR.ob n o hd (by rw [← h n hd]; exact ho), fun n m o p hn hm hne ho hp => hR.inj n m o p hn hm hne (by rw [← h n hn]; exact ho) (by rw [← h m hm]; exact hp), hR.gl⟩
theorem Sem1.mono {H H' : Hp} {rd rd' : List Read} {p : Pend} (h : Sem1 P gl ops H rd p) (hH : ∀ n o, H.get n = some o → H'.get n = some o) (hr : ∀ r ∈ rd, r ∈ rd') : Sem1 P gl ops H' rd' p := by
  rcases h with h | h | ⟨h1, h2, h3, h4, h5⟩ | h
  · exact .inl h
  · exact .inr (.inl h)
  · exact .inr (.inr (.inl ⟨h1, h2, readV_mono hH h3, hr _ h4, h5⟩))
  · exact .inr (.inr (.inr h))
theorem floats_spec {s : Nat} {o : Oper} (ho : ops[s]? = some o) (h : floats ops le s = true) : isEff o.op = false ∧ loneDst ops s o = true ∧ Region.free .any ops le s = true := by
  unfold floats at h
  rw [ho] at h
  simp only [Bool.and_eq_true, Bool.not_eq_true'] at h
  exact ⟨h.1.1, h.2, h.1.2⟩
theorem free_dir {s j : Nat} {o oj : Oper} (ho : ops[s]? = some o) (h : Region.free .any ops le s = true) (hj : ops[j]? = some oj) (hne : j ≠ s) (hs : le.size = ops.size) (hun : le.getD j false = false) : Dir ops s j ∨ o.apart ops oj = true := by
  by_cases hd : Dir ops s j
  · exact .inl hd
  · refine .inr (Region.free_spec ho h j oj hj hne ?_ fun e he hb hon => hd ⟨oj, hj, e, he, hb, hon⟩)
    have hl : j < ops.size := (Array.getElem?_eq_some_iff.1 hj).1
    rw [Array.getD_eq_getD_getElem?] at hun ⊢
    rw [Array.getElem?_eq_getElem (by omega)] at hun ⊢
    exact hun
/-- The plan goes ahead by one that turns no memory. -/
theorem Inv.add (hI : Inv P gl w0 ops D0 ρ0 H0 E le tm H rd lc a w D ρ) {s : Nat} {o : Oper} (ho : ops[s]? = some o) (hs : s ∈ Region.ready .any ops le) (hfl : floats ops le s = true) {v : V} {al : Option (Nat × Ob)} {H' : Hp} {rd' : List Read}
    (hH : (H' = H ∧ al = none) ∨ ∃ ob, al = some (H.next, ob) ∧ H' = H.push ob) (hrd : ∀ r ∈ rd, r ∈ rd') (hsem : Sem1 P gl ops H' rd' ⟨s, o, tm, v, al⟩) :
    Inv P gl w0 ops D0 ρ0 H0 (E ++ [⟨s, o, tm, v, al⟩]) (le.setIfInBounds s true) (putV tm o.dst v) H' rd' lc a w D ρ := by
  have hsr := (ready_iff hI.sze).1 hs
  obtain ⟨f1, f2, f3⟩ := floats_spec ho hfl
  have hset : ∀ j, (le.setIfInBounds s true).getD j false = true ↔ j = s ∨ le.getD j false = true := fun j => set_getD (by rw [hI.sze]; exact hsr.1)
  have hne : ∀ p ∈ E, p.i ≠ s := fun p hp e => by
    have := (hI.mem p hp).2
    rw [e, hsr.2.1] at this
    cases this
  have mem2 : ∀ q, q ∈ E ++ [⟨s, o, tm, v, al⟩] ↔ q ∈ E ∨ q = ⟨s, o, tm, v, al⟩ := fun q => by simp
  have hnext : H.next ≤ H'.next := by
    rcases hH with ⟨rfl, _⟩ | ⟨ob, _, rfl⟩
    · exact Nat.le_refl _
    · rw [Hp.next_push]; omega
  have hget : ∀ n, n < H.next → H'.get n = H.get n := fun n hn => by
    rcases hH with ⟨rfl, _⟩ | ⟨ob, _, rfl⟩
    · rfl
    · rw [Hp.get_push, if_neg (by omega)]
  have hmono : ∀ n o, H.get n = some o → H'.get n = some o := fun n o h => by rw [hget n (Hp.get_lt h)]; exact h
  have d0lt : ∀ n, D0 n → n < H.next := fun n hn => by
    rcases (hI.dom n).2 (.inl hn) with h | ⟨p, hp, ob, h⟩
    · exact hI.rel.old n h
    · exact Hp.get_lt (hI.off p hp n ob h).2.1
  have nodir : ∀ p ∈ E, ¬ Dir ops s p.i := fun p hp hd => by
    have := hI.cle p.i (hI.mem p hp).2 s hd
    rw [hsr.2.1] at this
    cases this
  have frE : ∀ p ∈ E, Dir ops p.i s ∨ p.o.apart ops o = true := fun p hp => hI.free p hp s o ho (fun e => hne p hp e.symm) hsr.2.1
  have unl : ∀ j, (le.setIfInBounds s true).getD j false = false → le.getD j false = false ∧ j ≠ s := fun j hj => by
    constructor
    · cases h : le.getD j false with
      | false => rfl
      | true => rw [(hset j).2 (.inr h)] at hj; cases hj
    · rintro rfl
      rw [(hset j).2 (.inl rfl)] at hj; cases hj
  have alnew : ∀ n ob, al = some (n, ob) → n = H.next ∧ H'.next = H.next + 1 ∧ H'.get n = some ob := by
    intro n ob h
    rcases hH with ⟨_, rfl⟩ | ⟨ob', rfl, rfl⟩
    · cases h
    · cases h
      exact ⟨rfl, rfl, by rw [Hp.get_push, if_pos rfl]⟩
  refine ⟨by simp [hI.sze], hI.szc, fun j => ?_, fun j hj i hi => ?_, hI.clc, hI.rel.ghost hnext (fun k hk => hget k (hI.rel.old k hk)), hI.loc, fun n => ?_, fun q hq n ob hal' => ?_, fun q hq r hr n ob ob' h1 h2 => ?_, fun n hn hd => by rw [hget n (by have := hI.nxt; omega)]; exact hI.rest n hn hd, Nat.le_trans hI.nxt hnext, by rw [putV_length]; exact hI.tms, ?_, fun q hq => ?_, fun q hq t hqt hlt => ?_, fun q hq => ?_, fun q hq => ?_, ?_, ?_, ?_, ?_, ?_, ?_, ?_, ?_, ?_⟩
  · rw [hset, hI.lcs]
    constructor
    · rintro ⟨h1, h2⟩
      refine ⟨.inr h1, fun q hq => ?_⟩
      rcases (mem2 q).1 hq with hq | rfl
      · exact h2 q hq
      · rintro rfl
        rw [hsr.2.1] at h1; cases h1
    · rintro ⟨h1, h2⟩
      have hjs : j ≠ s := fun e => h2 _ ((mem2 _).2 (.inr rfl)) e.symm
      exact ⟨h1.resolve_left hjs, fun q hq => h2 q ((mem2 q).2 (.inl hq))⟩
  · rw [hset] at hj ⊢
    rcases hj with rfl | hj
    · exact .inr (hsr.2.2 i hi)
    · exact .inr (hI.cle j hj i hi)
  · constructor
    · rintro (h | ⟨q, hq, ob, h⟩)
      · rcases (hI.dom n).1 (.inl h) with h | ⟨h1, h2⟩
        · exact .inl h
        · exact .inr ⟨h1, by omega⟩
      · rcases (mem2 q).1 hq with hq | rfl
        · rcases (hI.dom n).1 (.inr ⟨q, hq, ob, h⟩) with h | ⟨h1, h2⟩
          · exact .inl h
          · exact .inr ⟨h1, by omega⟩
        · obtain ⟨e1, e2, _⟩ := alnew n ob h
          have := hI.nxt
          exact .inr ⟨by omega, by omega⟩
    · rintro h
      have old : (D0 n ∨ H0.next ≤ n ∧ n < H.next) → (D n ∨ ∃ p, p ∈ E ++ [⟨s, o, tm, v, al⟩] ∧ ∃ ob, p.al = some (n, ob)) := fun h => by
        rcases (hI.dom n).2 h with h | ⟨p, hp, ob, h⟩
        · exact .inl h
        · exact .inr ⟨p, (mem2 p).2 (.inl hp), ob, h⟩
      rcases h with h | ⟨h1, h2⟩
      · exact old (.inl h)
      · by_cases e : n < H.next
        · exact old (.inr ⟨h1, e⟩)
        · rcases hH with ⟨rfl, _⟩ | ⟨ob, rfl, rfl⟩
          · exact absurd h2 e
          · rw [Hp.next_push] at h2
            have : n = H.next := by omega
            subst this
            exact .inr ⟨_, (mem2 _).2 (.inr rfl), ob, rfl⟩
  · rcases (mem2 q).1 hq with hq | rfl
    · obtain ⟨h1, h2, h3⟩ := hI.off q hq n ob hal'
      exact ⟨h1, hmono n ob h2, h3⟩
    · obtain ⟨rfl, _, e3⟩ := alnew n ob hal'
      exact ⟨not_next hI.rel, e3, fun h => Nat.lt_irrefl _ (d0lt _ h)⟩
  · rcases (mem2 q).1 hq with hq | rfl
    · rcases (mem2 r).1 hr with hr | rfl
      · exact hI.uni q hq r hr n ob ob' h1 h2
      · obtain ⟨rfl, _, _⟩ := alnew n ob' h2
        exact absurd (Hp.get_lt (hI.off q hq _ ob h1).2.1) (Nat.lt_irrefl _)
    · rcases (mem2 r).1 hr with hr | rfl
      · obtain ⟨rfl, _, _⟩ := alnew n ob h1
        exact absurd (Hp.get_lt (hI.off r hr _ ob' h2).2.1) (Nat.lt_irrefl _)
      · rfl
  · intro t ht u hu
    have hot : o.dst ≠ some t := ht _ ((mem2 _).2 (.inr rfl))
    rw [putV_get hot] at hu
    exact hI.tmp t (fun q hq => ht q ((mem2 q).2 (.inl hq))) u hu
  · rw [hset]
    rcases (mem2 q).1 hq with hq | rfl
    · exact ⟨(hI.mem q hq).1, .inr (hI.mem q hq).2⟩
    · exact ⟨ho, .inl rfl⟩
  · rw [putV_length] at hlt
    rcases (mem2 q).1 hq with hq | rfl
    · have := loneDst_spec (hI.lone q hq) hqt ho (fun e => hne q hq e.symm)
      rw [putV_get this]
      exact hI.dst q hq t hqt hlt
    · simp only at hqt
      rw [hqt]
      exact putV_self hlt
  · rcases (mem2 q).1 hq with hq | rfl
    · exact hI.lone q hq
    · exact f2
  · rw [putV_length]
    rcases (mem2 q).1 hq with hq | rfl
    · exact hI.len q hq
    · rfl
  · refine List.pairwise_append.2 ⟨hI.nod, List.pairwise_singleton _ _, fun p hp q hq => ?_⟩
    simp only [List.mem_singleton] at hq
    subst hq
    exact hne p hp
  · refine List.pairwise_append.2 ⟨hI.ord, List.pairwise_singleton _ _, fun p hp q hq => ?_⟩
    simp only [List.mem_singleton] at hq
    subst hq
    exact nodir p hp
  · intro p hp q hq hd t hqt ht hlt
    rw [putV_length] at hlt
    rcases (mem2 p).1 hp with hp | rfl
    · rcases (mem2 q).1 hq with hq | rfl
      · exact hI.op1 p hp q hq hd t hqt ht hlt
      · exact absurd hd (nodir p hp)
    · rcases (mem2 q).1 hq with hq | rfl
      · exact hI.dst q hq t hqt hlt
      · have := hsr.2.2 s hd
        rw [hsr.2.1] at this; cases this
  · intro p hp t ht hall u hu
    rcases (mem2 p).1 hp with hp | rfl
    · exact hI.op2 p hp t ht (fun q hq => hall q ((mem2 q).2 (.inl hq))) u hu
    · refine hI.tmp t (fun q hq e => ?_) u hu
      rcases frE q hq with h | h
      · exact hall q ((mem2 q).2 (.inl hq)) h e
      · exact (apart_dst h).1 t e ht
  · intro p hp q hq hpq t hqt ht
    rcases (mem2 p).1 hp with hp | rfl
    · rcases (mem2 q).1 hq with hq | rfl
      · exact hI.exc p hp q hq hpq t hqt ht
      · rcases frE p hp with h | h
        · exact .inr h
        · exact absurd ht ((apart_dst h).2.2 t hqt)
    · rcases (mem2 q).1 hq with hq | rfl
      · rcases frE q hq with h | h
        · exact .inl h
        · exact absurd ht ((apart_dst h).1 t hqt)
      · exact absurd rfl hpq
  · intro p hp j oj hj hjne hun
    obtain ⟨u1, u2⟩ := unl j hun
    rcases (mem2 p).1 hp with hp | rfl
    · exact hI.free p hp j oj hj hjne u1
    · exact free_dir ho f3 hj u2 hI.sze u1
  · intro p hp
    rcases (mem2 p).1 hp with hp | rfl
    · exact hI.eff p hp
    · exact f1
  · intro p hp
    rcases (mem2 p).1 hp with hp | rfl
    · exact hI.slf p hp
    · intro hd
      have := hsr.2.2 s hd
      rw [hsr.2.1] at this; cases this
  · intro p hp
    rcases (mem2 p).1 hp with hp | rfl
    · exact (hI.sem p hp).mono hmono hrd
    · exact hsem
/-- Where what turns memory is ready, nothing that is pending stands in its way. -/
theorem Inv.clear (hI : Inv P gl w0 ops D0 ρ0 H0 E le tm H rd lc a w D ρ) {j : Nat} {o : Oper} (ho : ops[j]? = some o) (hjc : j ∈ Region.ready .any ops lc) (hje : le.getD j false = false) {q : Pend} (hq : q ∈ E) : q.i ≠ j ∧ q.o.apart ops o = true := by
  have hr := (ready_iff hI.szc).1 hjc
  have hne : q.i ≠ j := fun e => by
    have := (hI.mem q hq).2
    rw [e, hje] at this
    cases this
  refine ⟨hne, (hI.free q hq j o ho (fun e => hne e.symm) hje).resolve_left fun hd => ?_⟩
  have := hr.2.2 q.i hd
  exact absurd rfl (((hI.lcs _).1 this).2 q hq)
theorem Inv.step (hI : Inv P gl w0 ops D0 ρ0 H0 E le tm H rd lc a w D ρ) {j : Nat} {o : Oper} (ho : ops[j]? = some o) (hjc : j ∈ Region.ready .any ops lc) (hje : le.getD j false = false) {D' : Nat → Prop} {ρ' : Nat → Loc} {H' : Hp} {w' : World} {v : V}
    (hn : Nx D ρ H D' ρ' H') (hR : Rel gl w0 D' ρ' H' w') (hv : v.In D' ρ') (hst : ∀ p ∈ E, readV P gl p.tm H p.o.op = some p.v → ⟨p.i, p.o.op, p.tm, p.v⟩ ∈ rd → Bef ops p.i j ∨ readV P gl p.tm H' p.o.op = some p.v) :
    Inv P gl w0 ops D0 ρ0 H0 E (le.setIfInBounds j true) (putV tm o.dst v) H' rd (lc.setIfInBounds j true) (a.put o.dst (v.val ρ')) w' D' ρ' := by
  have hr := (ready_iff hI.szc).1 hjc
  have hclear := fun q hq => hI.clear (q := q) ho hjc hje hq
  have sete : ∀ k, (le.setIfInBounds j true).getD k false = true ↔ k = j ∨ le.getD k false = true := fun k => set_getD (by rw [hI.sze]; exact hr.1)
  have setc : ∀ k, (lc.setIfInBounds j true).getD k false = true ↔ k = j ∨ lc.getD k false = true := fun k => set_getD (by rw [hI.szc]; exact hr.1)
  have ce : ∀ k, lc.getD k false = true → le.getD k false = true := fun k hk => ((hI.lcs k).1 hk).1
  have up : ∀ (t : Nat) (u : V), a.tmps[t]? = some (u.val ρ) ∧ u.In D ρ → a.tmps[t]? = some (u.val ρ') ∧ u.In D' ρ' := fun t u h => ⟨by rw [hn.val h.2]; exact h.1, hn.in h.2⟩
  have d0 : ∀ n, D0 n → D n := fun n h => by
    rcases (hI.dom n).2 (.inl h) with h' | ⟨p, hp, ob, h'⟩
    · exact h'
    · exact absurd h (hI.off p hp n ob h').2.2
  have keepOff : ∀ p ∈ E, ∀ n ob, p.al = some (n, ob) → ¬ D' n ∧ H'.get n = some ob ∧ ¬ D0 n := fun p hp n ob h => by
    obtain ⟨h1, h2, h3⟩ := hI.off p hp n ob h
    have hlt := Hp.get_lt h2
    refine ⟨fun hd => ?_, by rw [hn.rest n hlt h1]; exact h2, h3⟩
    rcases (hn.dom n).1 hd with e | ⟨e, _⟩
    · exact h1 e
    · omega
  refine ⟨by simp [hI.sze], by simp [hI.szc], fun k => ?_, fun k hk i hi => ?_, fun k hk i hi => ?_, hR, fun n h => by rw [hn.loc n (d0 n h)]; exact hI.loc n h, fun n => ?_, keepOff, hI.uni, fun n h1 h2 => ?_, Nat.le_trans hI.nxt hn.size, by rw [a_put_size, putV_length]; exact hI.tms, ?_, fun p hp => ⟨(hI.mem p hp).1, (sete _).2 (.inr (hI.mem p hp).2)⟩, fun p hp t hpt hlt => ?_, hI.lone, fun p hp => by rw [putV_length]; exact hI.len p hp, hI.nod, hI.ord, fun p hp q hq hd t h1 h2 h3 => hI.op1 p hp q hq hd t h1 h2 (by rwa [putV_length] at h3), ?_, hI.exc, fun p hp k ok hk hne hun => hI.free p hp k ok hk hne ?_, hI.eff, hI.slf, fun p hp => ?_⟩
  · rw [sete, setc, hI.lcs]
    constructor
    · rintro (rfl | ⟨h1, h2⟩)
      · exact ⟨.inl rfl, fun p hp => (hclear p hp).1⟩
      · exact ⟨.inr h1, h2⟩
    · rintro ⟨h1 | h1, h2⟩
      · exact .inl h1
      · exact .inr ⟨h1, h2⟩
  · rw [sete] at hk ⊢
    rcases hk with rfl | hk
    · exact .inr (ce i (hr.2.2 i hi))
    · exact .inr (hI.cle k hk i hi)
  · rw [setc] at hk ⊢
    rcases hk with rfl | hk
    · exact .inr (hr.2.2 i hi)
    · exact .inr (hI.clc k hk i hi)
  · rw [hn.dom]
    have hs := hn.size
    have hx := hI.nxt
    constructor
    · rintro ((h | ⟨h1, h2⟩) | ⟨p, hp, ob, h⟩)
      · rcases (hI.dom n).1 (.inl h) with h | ⟨h1, h2⟩
        · exact .inl h
        · exact .inr ⟨h1, by omega⟩
      · exact .inr ⟨by omega, h2⟩
      · rcases (hI.dom n).1 (.inr ⟨p, hp, ob, h⟩) with h | ⟨h1, h2⟩
        · exact .inl h
        · exact .inr ⟨h1, by omega⟩
    · rintro (h | ⟨h1, h2⟩)
      · exact .inl (.inl (d0 n h))
      · by_cases e : n < H.next
        · rcases (hI.dom n).2 (.inr ⟨h1, e⟩) with h | h
          · exact .inl (.inl h)
          · exact .inr h
        · exact .inl (.inr ⟨by omega, h2⟩)
  · have hx := hI.nxt
    by_cases hd : D n
    · rcases (hI.dom n).1 (.inl hd) with h | ⟨h, _⟩
      · exact absurd h h2
      · omega
    · rw [hn.rest n (by omega) hd]; exact hI.rest n h1 h2
  · intro t ht u hu
    by_cases e : o.dst = some t
    · rw [e] at hu ⊢
      have hlt : t < tm.length := by
        have := (List.getElem?_eq_some_iff.1 hu).1
        rwa [putV_length] at this
      rw [putV_self hlt] at hu
      cases hu
      exact ⟨a_put_self (by rw [hI.tms]; exact hlt), hv⟩
    · rw [putV_get e] at hu
      rw [a_put_get e]
      exact up t u (hI.tmp t ht u hu)
  · rw [putV_length] at hlt
    have := loneDst_spec (hI.lone p hp) hpt ho (fun e => (hclear p hp).1 e.symm)
    rw [putV_get this]
    exact hI.dst p hp t hpt hlt
  · intro p hp t ht hall u hu
    have e : o.dst ≠ some t := fun e => (apart_dst (hclear p hp).2).2.2 t e ht
    rw [a_put_get e]
    exact up t u (hI.op2 p hp t ht hall u hu)
  · cases h : le.getD k false with
    | false => rfl
    | true => rw [(sete k).2 (.inr h)] at hun; cases hun
  · rcases hI.sem p hp with h | h | ⟨h1, h2, h3, h4, h5⟩ | h
    · exact .inl h
    · exact .inr (.inl h)
    · refine .inr (.inr (.inl ⟨h1, h2, ?_, h4, h5⟩))
      rcases hst p hp h3 h4 with h | h
      · have := bef_closed hI.clc h hr.2.2
        exact absurd rfl (((hI.lcs _).1 this).2 p hp)
      · exact h
    · exact .inr (.inr (.inr h))
theorem Inv.eff_ (hc : CallOk P gl w0 call) (hy : YldOk P gl w0 yld) (hI : Inv P gl w0 ops D0 ρ0 H0 E le tm H rd lc a w D ρ) {j : Nat} {o : Oper} (ho : ops[j]? = some o) (hjc : j ∈ Region.ready .any ops lc) (hje : le.getD j false = false) {H' : Hp} {v : V}
    (hop : (wantedV ops tm o = true ∧ opV P gl call yld tm H o.op = some (v, H')) ∨ (wantedV ops tm o = false ∧ v = .undef ∧ H' = H)) (hst : ∀ p ∈ E, readV P gl p.tm H p.o.op = some p.v → ⟨p.i, p.o.op, p.tm, p.v⟩ ∈ rd → Bef ops p.i j ∨ readV P gl p.tm H' p.o.op = some p.v)
    {K : Act → World → Prop} {Q : Exit → Act → World → Prop}
    (hK : ∀ D' ρ' a' w', Inv P gl w0 ops D0 ρ0 H0 E (le.setIfInBounds j true) (putV tm o.dst v) H' rd (lc.setIfInBounds j true) a' w' D' ρ' → a'.defers = a.defers → K a' w') : wpOpIn (Fr rb) 0 P ops Q j K a w := by
  have hlook : ∀ t ∈ o.looksAt ops, ∀ v, tm[t]? = some v → a.tmps[t]? = some (v.val ρ) ∧ v.In D ρ := fun t ht v hv => hI.tmp t (fun q hq e => (apart_dst (hI.clear ho hjc hje hq).2).1 t e ht) v hv
  have hw := wanted_of (ops := ops) (o := o) hI.tms hlook
  have hopn : Opnds gl tm ρ D a.eval o.op.operands := opnds_of hI.rel hI.tms fun t ht => hlook t (mem_looks ht)
  unfold wpOpIn
  rw [ho]
  simp only [hw]
  rcases hop with ⟨h1, h2⟩ | ⟨h1, rfl, rfl⟩
  · rw [if_pos h1]
    exact op_sound hc hy h2 hI.rel hopn fun D' ρ' w' n1 n2 n3 => hK _ _ _ _ (hI.step ho hjc hje n1 n2 n3 hst) (put_defers _ _ _)
  · rw [if_neg (by simp [h1])]
    exact ⟨fun _ _ => trivial, hK _ _ _ _ (hI.step ho hjc hje (Nx.refl _ _ _) hI.rel (v := .undef) trivial hst) (put_defers _ _ _)⟩
theorem still_of {j : Nat} {H' : Hp} (hst : stillV P gl (masks ops) j H' rd = true) : ∀ p ∈ E, readV P gl p.tm H p.o.op = some p.v → ⟨p.i, p.o.op, p.tm, p.v⟩ ∈ rd → Bef ops p.i j ∨ readV P gl p.tm H' p.o.op = some p.v :=
  fun _ _ _ h => (still_spec hst _ h).imp masks_spec id
theorem Inv.more (hI : Inv P gl w0 ops D0 ρ0 H0 E le tm H rd lc a w D ρ) {rd' : List Read} (h : ∀ r ∈ rd, r ∈ rd') : Inv P gl w0 ops D0 ρ0 H0 E le tm H rd' lc a w D ρ :=
  { hI with sem := fun p hp => (hI.sem p hp).mono (fun _ _ h => h) h }
theorem alloc_ne {tm : List V} {o : Op} {v : Ob × (Nat → V)} (h : allocV P gl tm o = some v) : neV P gl tm H o = none := by
  unfold neV
  cases o
  case convert s d x =>
    simp only [allocV] at h
    split at h
    · rename_i e b hs hd hx
      simp [pureV, readV, convertV, hs, hd, hx]
    · cases h
  all_goals first | rfl | (simp [allocV] at h; done)
theorem op_of_sem {s : Nat} {o : Oper} {v : V} {al : Option (Nat × Ob)} {H' : Hp} {rd' : List Read} (he : isEff o.op = false) (hH : (H' = H ∧ al = none) ∨ ∃ ob, al = some (H.next, ob) ∧ H' = H.push ob) (hsem : Sem1 P gl ops H' rd' ⟨s, o, tm, v, al⟩) :
    (wantedV ops tm o = true ∧ opV P gl call yld tm H o.op = some (v, H')) ∨ (wantedV ops tm o = false ∧ v = .undef ∧ H' = H) := by
  have hala : ∀ v, allocV P gl tm o.op = some v → neV P gl tm H o.op = none := fun v h => alloc_ne h
  rcases hsem with ⟨h1, h2, h3⟩ | ⟨h1, h2, h3⟩ | ⟨h1, h2, h3, h4, h5⟩ | ⟨h1, mk, n, ob, h3, h4, h5⟩
  · simp only at h1 h2 h3
    rcases hH with ⟨h, _⟩ | ⟨ob, h, _⟩
    · exact .inr ⟨h1, h2, h⟩
    · rw [h3] at h; cases h
  · simp only at h1 h2 h3
    rcases hH with ⟨rfl, _⟩ | ⟨ob, h, _⟩
    · refine .inl ⟨h1, ?_⟩
      simp [opV, he, neV, h3]
    · rw [h2] at h; cases h
  · simp only at h1 h2 h3 h5
    rcases hH with ⟨rfl, _⟩ | ⟨ob, h, _⟩
    · refine .inl ⟨h1, ?_⟩
      simp [opV, he, neV, h3, h5]
    · rw [h2] at h; cases h
  · simp only at h1 h3 h4 h5
    rcases hH with ⟨_, h⟩ | ⟨ob', h, rfl⟩
    · rw [h] at h4; cases h4
    · rw [h] at h4
      cases h4
      refine .inl ⟨h1, ?_⟩
      simp [opV, he, hala _ h3, h3, h5]
end
end Go.Ev
end
section
/- A region that draws its order: whatever the order, what the plan comes to (4). -/
namespace Go.Ev

section
variable {P : Program} {gl : Nat → Option Nat} {w0 : World} {ops : Array Oper} {D0 : Nat → Prop} {ρ0 : Nat → Loc} {H0 : Hp} {call : Call} {yld : Nat → List V → Hp → Option (V × Hp)} {rb : Option Nat}
theorem plan_next {k : Nat} {le : Array Bool} {pl : List Nat} (h : planV ops (k + 1) le = some pl) : ∃ s pl', pl = s :: pl' ∧ planV ops k (le.setIfInBounds s true) = some pl' ∧ s ∈ Region.ready .any ops le ∧ (floats ops le s = true ∨ Region.ready .any ops le = [s]) := by
  unfold planV at h
  split at h
  · rename_i s hs
    split at h
    · rename_i l hl
      simp only [Option.some.injEq] at h
      exact ⟨s, l, h.symm, hl, List.mem_of_find?_eq_some hs, .inl (List.find?_some hs)⟩
    · cases h
  · split at h
    · rename_i s hr
      split at h
      · rename_i l hl
        simp only [Option.some.injEq] at h
        exact ⟨s, l, h.symm, hl, by rw [hr]; simp, .inr hr⟩
      · cases h
    · cases h
theorem ready_same {l l' : Array Bool} (h1 : l.size = ops.size) (h2 : l'.size = ops.size) (h : ∀ j, l.getD j false = true ↔ l'.getD j false = true) (s : Nat) : s ∈ Region.ready .any ops l ↔ s ∈ Region.ready .any ops l' := by
  have hb : ∀ j, l.getD j false = l'.getD j false := fun j => by rw [Bool.eq_iff_iff]; exact h j
  rw [ready_iff h1, ready_iff h2]
  simp only [hb]
theorem Inv.all_done {E : List Pend} {le : Array Bool} {tm : List V} {H : Hp} {rd : List Read} {lc : Array Bool} {a : Act} {w : World} {D : Nat → Prop} {ρ : Nat → Loc} (hI : Inv P gl w0 ops D0 ρ0 H0 E le tm H rd lc a w D ρ) {k : Nat} {pl : List Nat} (hp : planV ops k le = some pl) (hr : Region.ready .any ops lc = []) : E = [] ∧ pl = [] := by
  have hE : E = [] := by
    cases hE : E with
    | nil => rfl
    | cons p E' =>
      subst hE
      have hmem := hI.mem p (by simp)
      have : p.i ∈ Region.ready .any ops lc := by
        rw [ready_iff hI.szc]
        refine ⟨(Array.getElem?_eq_some_iff.1 hmem.1).1, ?_, fun i hi => ?_⟩
        · cases h : lc.getD p.i false with
          | false => rfl
          | true => exact absurd rfl (((hI.lcs _).1 h).2 p (by simp))
        · rw [hI.lcs]
          refine ⟨hI.cle _ hmem.2 i hi, fun q hq e => ?_⟩
          subst e
          rcases List.mem_cons.1 hq with rfl | hq
          · exact hI.slf q (by simp) hi
          · exact (List.pairwise_cons.1 hI.ord).1 q hq hi
      rw [hr] at this
      cases this
  subst hE
  refine ⟨rfl, ?_⟩
  cases k with
  | zero =>
    unfold planV at hp
    split at hp
    · simp only [Option.some.injEq] at hp; exact hp.symm
    · cases hp
  | succ k =>
    obtain ⟨s, pl', _, _, h, _⟩ := plan_next hp
    have := (ready_same hI.sze hI.szc (fun j => by rw [hI.lcs]; simp) s).1 h
    rw [hr] at this
    cases this
theorem draw_next {s : Nat} {pl : List Nat} {rd : List Read} {tm tmf : List V} {H Hf : Hp} (h : drawV P gl call yld ops (masks ops) (s :: pl) rd tm H = some (tmf, Hf)) : ∃ o, ops[s]? = some o ∧
    ((isEff o.op = true ∧ ∃ v H', ((wantedV ops tm o = true ∧ opV P gl call yld tm H o.op = some (v, H')) ∨ (wantedV ops tm o = false ∧ v = .undef ∧ H' = H)) ∧ stillV P gl (masks ops) s H' rd = true ∧ drawV P gl call yld ops (masks ops) pl rd (putV tm o.dst v) H' = some (tmf, Hf)) ∨
     (isEff o.op = false ∧ ∃ v al H' rd', ((H' = H ∧ al = none) ∨ ∃ ob, al = some (H.next, ob) ∧ H' = H.push ob) ∧ (∀ r ∈ rd, r ∈ rd') ∧ Sem1 P gl ops H' rd' ⟨s, o, tm, v, al⟩ ∧ drawV P gl call yld ops (masks ops) pl rd' (putV tm o.dst v) H' = some (tmf, Hf))) := by
  unfold drawV at h
  split at h
  · cases h
  · rename_i o ho
    refine ⟨o, ho, ?_⟩
    split at h
    · rename_i hw
      split at h
      · rename_i he
        split at h
        · rename_i v H' hop
          split at h
          · rename_i hst
            exact .inl ⟨he, v, H', .inl ⟨hw, hop⟩, hst, h⟩
          · cases h
        · cases h
      · rename_i he
        have he : isEff o.op = false := by simpa using he
        split at h
        · rename_i v hp
          exact .inr ⟨he, v, none, H, rd, .inl ⟨rfl, rfl⟩, fun _ h => h, .inr (.inl ⟨hw, rfl, hp⟩), h⟩
        · rename_i hpn
          split at h
          · rename_i v hr
            exact .inr ⟨he, v, none, H, _, .inl ⟨rfl, rfl⟩, fun r hr => List.mem_cons_of_mem _ hr, .inr (.inr (.inl ⟨hw, rfl, hr, by simp, hpn⟩)), h⟩
          · split at h
            · rename_i ob mk hal
              exact .inr ⟨he, mk H.next, some (H.next, ob), H.push ob, rd, .inr ⟨ob, rfl, rfl⟩, fun _ h => h, .inr (.inr (.inr ⟨hw, mk, H.next, ob, hal, rfl, rfl⟩)), h⟩
            · cases h
    · rename_i hw
      have hw : wantedV ops tm o = false := by simpa using hw
      split at h
      · rename_i hst
        simp only [Bool.or_eq_true, Bool.not_eq_true'] at hst
        cases he : isEff o.op with
        | true =>
          refine .inl ⟨rfl, .undef, H, .inr ⟨hw, rfl, rfl⟩, ?_, h⟩
          rcases hst with h | h
          · rw [he] at h; cases h
          · exact h
        | false => exact .inr ⟨rfl, .undef, none, H, rd, .inl ⟨rfl, rfl⟩, fun _ h => h, .inl ⟨hw, rfl, rfl⟩, h⟩
      · cases h
theorem drawn (hc : CallOk P gl w0 call) (hy : YldOk P gl w0 yld) {Q : Exit → Act → World → Prop} {tmf : List V} {Hf : Hp} {ds : List Deferred} (hQ : ∀ D ρ a w, Nx D0 ρ0 H0 D ρ Hf → Rel gl w0 D ρ Hf w → Tm D ρ tmf a → a.defers = ds → Q .normal a w) :
    ∀ (c : Nat) {E : List Pend} {le : Array Bool} {tm : List V} {H : Hp} {rd : List Read} {lc : Array Bool} {a : Act} {w : World} {D : Nat → Prop} {ρ : Nat → Loc} {k : Nat} {pl : List Nat}, Inv P gl w0 ops D0 ρ0 H0 E le tm H rd lc a w D ρ → a.defers = ds →
      planV ops k le = some pl → drawV P gl call yld ops (masks ops) pl rd tm H = some (tmf, Hf) → E.length + k ≤ c → wpAnyIn (Fr rb) 0 P .any ops Q c lc a w := by
  -- the end
  have fin : ∀ {E : List Pend} {le : Array Bool} {tm : List V} {H : Hp} {rd : List Read} {lc : Array Bool} {a : Act} {w : World} {D : Nat → Prop} {ρ : Nat → Loc} {k : Nat} {pl : List Nat}, Inv P gl w0 ops D0 ρ0 H0 E le tm H rd lc a w D ρ → a.defers = ds →
      planV ops k le = some pl → drawV P gl call yld ops (masks ops) pl rd tm H = some (tmf, Hf) → Region.ready .any ops lc = [] → Q .normal a w := by
    intro E le tm H rd lc a w D ρ k pl hI hd hp hdr hr
    obtain ⟨rfl, rfl⟩ := hI.all_done hp hr
    simp only [drawV, Option.some.injEq, Prod.mk.injEq] at hdr
    obtain ⟨rfl, rfl⟩ := hdr
    refine hQ D ρ a w ⟨hI.loc, fun n => ?_, hI.nxt, hI.rest⟩ hI.rel ⟨?_, fun v hv => ?_⟩ hd
    · have := hI.dom n
      simpa using this
    · apply Array.ext'
      apply List.ext_getElem?
      intro t
      rw [List.toList_toArray, List.getElem?_map, Array.getElem?_toList]
      cases ht : tm[t]? with
      | none =>
        rw [List.getElem?_eq_none_iff] at ht
        simp [hI.tms, ht]
      | some v => rw [(hI.tmp t (by simp) v ht).1]; rfl
    · obtain ⟨t, ht⟩ := List.getElem?_of_mem hv
      exact (hI.tmp t (by simp) v ht).2
  intro c
  induction c with
  | zero =>
    intro E le tm H rd lc a w D ρ k pl hI hd hp hdr hm
    have hE : E = [] := List.eq_nil_of_length_eq_zero (by omega)
    have hk : k = 0 := by omega
    subst hE hk
    have hr : Region.ready .any ops lc = [] := by
      unfold planV at hp
      split at hp
      · rename_i h
        cases hl : Region.ready .any ops lc with
        | nil => rfl
        | cons s l =>
          have := (ready_same hI.szc hI.sze (fun j => by rw [hI.lcs]; simp) s).1 (by rw [hl]; simp)
          rw [h] at this
          cases this
      · cases hp
    exact ⟨hr, fin hI hd hp hdr hr⟩
  | succ c ih =>
    intro E le tm H rd lc a w D ρ k pl hI hd hp hdr hm
    refine ⟨fun hr => fin hI hd hp hdr hr, fun i hi => ?_⟩
    -- the plan goes ahead till what is ready has come
    revert E le tm H rd pl
    induction k with
    | zero =>
      intro E le tm H rd pl hI hp hdr hm
      by_cases hE : ∃ p ∈ E, p.i = i
      · obtain ⟨p, hpE, rfl⟩ := hE
        refine hI.exec hpE hi fun D' ρ' a' w' hI' hd' => ih hI' (hd'.trans hd) hp hdr ?_
        have : (E.filter fun q => q.i != p.i).length < E.length := List.length_filter_lt_length_iff_exists.2 ⟨p, hpE, by simp⟩
        omega
      · exfalso
        have hri := (ready_iff hI.szc).1 hi
        have hle : le.getD i false = false := by
          cases h : le.getD i false with
          | false => rfl
          | true =>
            have := (hI.lcs i).2 ⟨h, fun p hp e => hE ⟨p, hp, e⟩⟩
            rw [hri.2.1] at this
            cases this
        have : i ∈ Region.ready .any ops le := (ready_iff hI.sze).2 ⟨hri.1, hle, fun j hj => ((hI.lcs j).1 (hri.2.2 j hj)).1⟩
        unfold planV at hp
        split at hp
        · rename_i h; rw [h] at this; cases this
        · cases hp
    | succ k ihk =>
      intro E le tm H rd pl hI hp hdr hm
      by_cases hE : ∃ p ∈ E, p.i = i
      · obtain ⟨p, hpE, rfl⟩ := hE
        refine hI.exec hpE hi fun D' ρ' a' w' hI' hd' => ih hI' (hd'.trans hd) hp hdr ?_
        have : (E.filter fun q => q.i != p.i).length < E.length := List.length_filter_lt_length_iff_exists.2 ⟨p, hpE, by simp⟩
        omega
      · have hri := (ready_iff hI.szc).1 hi
        have hle : le.getD i false = false := by
          cases h : le.getD i false with
          | false => rfl
          | true =>
            have := (hI.lcs i).2 ⟨h, fun p hp e => hE ⟨p, hp, e⟩⟩
            rw [hri.2.1] at this
            cases this
        have hin : i ∈ Region.ready .any ops le := (ready_iff hI.sze).2 ⟨hri.1, hle, fun j hj => ((hI.lcs j).1 (hri.2.2 j hj)).1⟩
        obtain ⟨s, pl', rfl, hp', hs, hfl⟩ := plan_next hp
        obtain ⟨o, ho, hcase⟩ := draw_next hdr
        rcases hcase with ⟨he, v, H', hop, hst, hrest⟩ | ⟨he, v, al, H', rd', hH, hrd, hsem, hrest⟩
        · have his : i = s := by
            rcases hfl with h | h
            · rw [(floats_spec ho h).1] at he; cases he
            · rw [h] at hin; simpa using hin
          subst his
          exact hI.eff_ hc hy ho hi hle hop (still_of hst) fun D' ρ' a' w' hI' hd' => ih hI' (hd'.trans hd) hp' hrest (by omega)
        · rcases hfl with h | h
          · exact ihk (hI.add ho hs h hH hrd hsem) hp' hrest (by simp only [List.length_append, List.length_singleton]; omega)
          · have his : i = s := by rw [h] at hin; simpa using hin
            subst his
            refine hI.eff_ hc hy ho hi hle (op_of_sem he hH hsem) (fun p _ h1 _ => .inr (readV_mono ?_ h1)) fun D' ρ' a' w' hI' hd' => ih (hI'.more hrd) (hd'.trans hd) hp' hrest (by omega)
            intro n ob hn
            rcases hH with ⟨rfl, _⟩ | ⟨ob', _, rfl⟩
            · exact hn
            · rw [Hp.get_push, if_neg (by have := Hp.get_lt hn; omega)]; exact hn
end
end Go.Ev
end
section
/- Code: as the model does it. -/
namespace Go.Ev

def Ex.exit' : Ex → Exit
  | .normal => .normal
  | .exit id => .exit id
  | .ret => .ret
/-- A frame stands as the evaluator has it. -/
structure FrOk (D : Nat → Prop) (ρ : Nat → Loc) (s : St) (a : Act) : Prop where
  tm : Tm D ρ s.tm a
  ds : a.defers = s.marks.map fun r => { target := .collected (ρ r).blk, args := #[] }
  mks : ∀ r ∈ s.marks, D r
/-- Which round a frame is of. -/
def RndOk (D : Nat → Prop) (ρ : Nat → Loc) (rnd rb : Option Nat) : Prop :=
  match rnd with
  | none => rb = none
  | some l => D l ∧ rb = some (ρ l).blk

section
variable {P : Program} {gl : Nat → Option Nat} {w0 : World} {call : Call} {yld : Nat → List V → Hp → Option (V × Hp)}
theorem FrOk.nx {D D' : Nat → Prop} {ρ ρ' : Nat → Loc} {H H' : Hp} {s : St} {a : Act} (h : FrOk D ρ s a) (hn : Nx D ρ H D' ρ' H') : FrOk D' ρ' s a :=
  ⟨h.tm.nx hn, by rw [h.ds]; exact List.map_congr_left fun r hr => by rw [hn.loc r (h.mks r hr)], fun r hr => hn.sub r (h.mks r hr)⟩
theorem RndOk.nx {D D' : Nat → Prop} {ρ ρ' : Nat → Loc} {H H' : Hp} {rnd rb : Option Nat} (h : RndOk D ρ rnd rb) (hn : Nx D ρ H D' ρ' H') : RndOk D' ρ' rnd rb := by
  cases rnd with
  | none => exact h
  | some l => exact ⟨hn.sub l h.1, by rw [hn.loc l h.1]; exact h.2⟩
theorem region_draw_sound (hm : P.follows .mixedOrders = true) (hc : CallOk P gl w0 call) (hy : YldOk P gl w0 yld) {rb : Option Nat} {id : Nat} {ops : Array Oper} {pl : List Nat} {Q : Exit → Act → World → Prop} {tm tm' : List V} {H H' : Hp} {D : Nat → Prop} {ρ : Nat → Loc} {w : World} {a : Act}
    (hp : planV ops ops.size (Array.replicate ops.size false) = some pl) (h : drawV P gl call yld ops (masks ops) pl [] tm H = some (tm', H')) (hR : Rel gl w0 D ρ H w) (hT : Tm D ρ tm a)
    (hQ : ∀ D' ρ' a' w', Nx D ρ H D' ρ' H' → Rel gl w0 D' ρ' H' w' → Tm D' ρ' tm' a' → a'.defers = a.defers → Q .normal a' w') : (Code.region id ops true).wpIn (Fr rb) 0 P Q a w := by
  refine wpIn_region_any hm ?_
  have nof : ∀ j, ¬ (Array.replicate ops.size false).getD j false = true := fun j => by
    rw [Array.getD_eq_getD_getElem?]
    rw [Array.getElem?_replicate]
    split <;> simp
  refine drawn (D0 := D) (ρ0 := ρ) (H0 := H) (ds := a.defers) hc hy (fun D' ρ' a' w' n r t d => hQ D' ρ' a' w' n r t d) ops.size (E := []) (D := D) (ρ := ρ) ?_ rfl hp h (by simp)
  refine ⟨by simp, by simp, fun j => by simp, fun j hj => absurd hj (nof j), fun j hj => absurd hj (nof j), hR.quiet ⟨rfl, rfl, rfl, Nat.le_refl _, fun _ _ _ => rfl⟩, fun _ _ => rfl, fun n => ?_, by simp, by simp, fun _ _ _ => rfl, Nat.le_refl _, by rw [hT.eq]; simp, fun t _ v hv => ?_, by simp, by simp, by simp, by simp, List.Pairwise.nil, List.Pairwise.nil, by simp, by simp, by simp, by simp, by simp, by simp, by simp⟩
  · simp only [List.not_mem_nil, false_and, exists_false, or_false]
    exact ⟨.inl, fun h => h.elim (fun x => x) fun ⟨a, b⟩ => absurd b (by omega)⟩
  · exact ⟨by rw [hT.eq]; simp [hv], hT.in_ v (List.mem_of_getElem? hv)⟩

/-- What is asked of a piece of code. -/
def CodeOk (P : Program) (gl : Nat → Option Nat) (w0 : World) (rnd : Option Nat) (f : St → Hp → Option (Ex × St × Hp)) (c : Code) : Prop :=
  ∀ (s : St) (H : Hp) (ex : Ex) (s' : St) (H' : Hp), f s H = some (ex, s', H') → ∀ (D : Nat → Prop) (ρ : Nat → Loc) (w : World) (a : Act) (rb : Option Nat), Rel gl w0 D ρ H w → FrOk D ρ s a → RndOk D ρ rnd rb →
    ∀ (Q : Exit → Act → World → Prop), (∀ D' ρ' a' w', Nx D ρ H D' ρ' H' → Rel gl w0 D' ρ' H' w' → FrOk D' ρ' s' a' → Q ex.exit' a' w') → c.wpIn (Fr rb) 0 P Q a w
theorem CodeOk.go {rnd : Option Nat} {f : St → Hp → Option (Ex × St × Hp)} {c : Code} (hf : CodeOk P gl w0 rnd f c) {s : St} {H : Hp} {ex : Ex} {s' : St} {H' : Hp} (h : f s H = some (ex, s', H')) {D : Nat → Prop} {ρ : Nat → Loc} {w : World} {a : Act} {rb : Option Nat} (hR : Rel gl w0 D ρ H w) (hF : FrOk D ρ s a) (hr : RndOk D ρ rnd rb)
    {Q : Exit → Act → World → Prop} (hQ : ∀ D' ρ' a' w', Nx D ρ H D' ρ' H' → Rel gl w0 D' ρ' H' w' → FrOk D' ρ' s' a' → Q ex.exit' a' w') : c.wpIn (Fr rb) 0 P Q a w := hf s H ex s' H' h D ρ w a rb hR hF hr Q hQ
theorem loop_sound {rnd : Option Nat} {f : St → Hp → Option (Ex × St × Hp)} {c : Code} (hf : CodeOk P gl w0 rnd f c) : ∀ (n : Nat) {s : St} {H : Hp} {ex : Ex} {s' : St} {H' : Hp}, loopV f n s H = some (ex, s', H') → ∀ {D : Nat → Prop} {ρ : Nat → Loc} {w : World} {a : Act} {rb : Option Nat}, Rel gl w0 D ρ H w → FrOk D ρ s a → RndOk D ρ rnd rb →
    ∀ {Q : Exit → Act → World → Prop}, (∀ D' ρ' a' w', Nx D ρ H D' ρ' H' → Rel gl w0 D' ρ' H' w' → FrOk D' ρ' s' a' → Q ex.exit' a' w') →
      ∀ (b : Frame) (k : List Item) (cs : List Frame), b.roundOf = rb → ∃ e a' w', Q e a' w' ∧ ArrivesIn (Machine.fenced P (Fr rb)) P (lone (b.atR a (.code c :: .inLoop c :: k)) cs w) b k cs e a' w'
  | 0, s, H, ex, s', H', h, _, _, _, _, _, _, _, _, _, _, _, _, _, _ => by simp [loopV] at h
  | n + 1, s, H, ex, s', H', h, D, ρ, w, a, rb, hR, hF, hrn, Q, hQ, b, k, cs, hb => by
    have hroom : (Fr rb).room (cs.length + 1 + 0) := fun d hd => by simp [Fr] at hd
    unfold loopV at h
    split at h
    · rename_i s1 H1 h1
      obtain ⟨e, a1, w1, hq, harr⟩ := hf.go h1 hR hF hrn (Q := fun e a1 w1 => e = .normal ∧ ∃ D1 ρ1, Nx D ρ H D1 ρ1 H1 ∧ Rel gl w0 D1 ρ1 H1 w1 ∧ FrOk D1 ρ1 s1 a1) (fun D' ρ' a' w' n r f => ⟨rfl, D', ρ', n, r, f⟩) b (.inLoop c :: k) cs hb trivial hroom
      obtain ⟨rfl, D1, ρ1, n1, r1, f1⟩ := hq
      obtain ⟨e2, a2, w2, hq2, harr2⟩ := loop_sound hf n h r1 f1 (hrn.nx n1) (Q := Q) (fun D' ρ' a' w' n r f => hQ D' ρ' a' w' (n1.trans n) r f) b k cs hb
      exact ⟨e2, a2, w2, hq2, .of_steps (StepsIn.trans harr (.one (fenced_calm trivial hroom rfl) stepR_inLoop)) harr2⟩
    · rename_i hne
      have hex : ex ≠ .normal := fun e => by subst e; exact hne _ _ h
      obtain ⟨e, a1, w1, hq, harr⟩ := hf.go h hR hF hrn (Q := fun e a1 w1 => e = ex.exit' ∧ Q e a1 w1) (fun D' ρ' a' w' n r f => ⟨rfl, hQ D' ρ' a' w' n r f⟩) b (.inLoop c :: k) cs hb trivial hroom
      obtain ⟨rfl, hq⟩ := hq
      refine ⟨_, a1, w1, hq, .pass (x := .inLoop c) rfl (fun _ _ => .inl ?_) harr⟩
      cases ex <;> simp [Ex.exit'] at hex ⊢
theorem getLoop_run {w : World} {l : Nat} {r : Loop} (h : w.heap[l]? = some (.loop r)) : (Instr.getLoop l).run P w = .ok r w := by
  simp [Instr.getLoop, getObj, Sem.run, h]
theorem push_loop {D : Nat → Prop} {ρ : Nat → Loc} {H : Hp} {w : World} (hR : Rel gl w0 D ρ H w) {tm : List V} (htm : ∀ v ∈ tm, v.In D ρ) {dn : Nat} (hdn : D dn) (st : LoopState) (pend : Option Code) (fn : FuncId) (ps : Array Tmp) (x y : Code) :
    Rel gl w0 (fun n => D n ∨ n = H.next) (upd ρ H.next ⟨w.heap.size, 0, 0⟩) (H.push (.loop st pend tm ps x y dn)) (w.alloc (.loop { state := st, pending := pend, fn := fn, tmps := (tm.map (V.val ρ)).toArray, params := ps, assign := x, body := y, defers := (ρ dn).blk })) := by
  have hni := not_next hR
  refine rel_push hR rfl ⟨by rw [upd_self]; exact hR.grown.size, ⟨fn, ?_⟩, fun v hv => (htm v hv).mono (upd_old hni), .inl hdn⟩
  rw [upd_self, heap_alloc_size, map_ext (fun n hn => (upd_old hni n hn).2) htm, (upd_old hni dn hdn).2]
theorem Hp.get_next (H : Hp) : H.get H.next = none := by unfold Hp.get; rw [if_neg (Nat.lt_irrefl _)]
/-- Entering a loop over a function. -/
theorem enter_sound {D : Nat → Prop} {ρ : Nat → Loc} {H : Hp} {w : World} {a : Act} {s : St} {rnd rb : Option Nat} (hR : Rel gl w0 D ρ H w) (hF : FrOk D ρ s a) (hrn : RndOk D ρ rnd rb) {dn : Nat} {mk : List Nat} {H1 : Hp} (h : dnOf H rnd = some (dn, mk, H1)) (fn : FuncId) (ps : Array Tmp) (x y : Code) :
    ∃ l mark w₁ D' ρ', (Instr.enterLoop fn a.tmps ps x y rb).run P w = .ok (l, mark) w₁ ∧ Nx D ρ H D' ρ' (H1.push (.loop .ready none s.tm ps x y dn)) ∧ Rel gl w0 D' ρ' (H1.push (.loop .ready none s.tm ps x y dn)) w₁ ∧
      D' H1.next ∧ (ρ' H1.next).blk = l ∧ FrOk D' ρ' ⟨s.tm, mk ++ s.marks⟩ { a with defers := mark ++ a.defers } := by
  unfold dnOf at h
  split at h
  · rename_i l0
    split at h
    · rename_i st pend tm' ps' x' y' dn' hg
      simp only [Option.some.injEq, Prod.mk.injEq] at h
      obtain ⟨rfl, rfl, rfl⟩ := h
      obtain ⟨hD, rfl⟩ := hrn
      obtain ⟨_, ⟨fn0, hl0⟩, _, hdn⟩ := hR.ob l0 _ hD hg
      have hR1 := push_loop hR hF.tm.in_ hdn .ready none fn ps x y
      have hn1 := nx_push hR (.loop .ready none s.tm ps x y dn') ⟨w.heap.size, 0, 0⟩
      refine ⟨w.heap.size, [], _, _, _, ?_, hn1, hR1, .inr rfl, by rw [upd_self], ?_⟩
      · simp only [Instr.enterLoop, Sem.run_bind, getLoop_run hl0, Result.andThen_ok, Sem.run_pure, r_newObj, hF.tm.eq]
      · have := hF.nx hn1
        exact ⟨⟨this.tm.eq, this.tm.in_⟩, by simpa using this.ds, by simpa using this.mks⟩
    · cases h
  · simp only [Option.some.injEq, Prod.mk.injEq] at h
    obtain ⟨rfl, rfl, rfl⟩ := h
    have hrb : rb = none := hrn
    subst hrb
    have hR0 : Rel gl w0 (fun n => D n ∨ n = H.next) (upd ρ H.next ⟨w.heap.size, 0, 0⟩) (H.push .defd) (w.alloc (.deferred (some []))) :=
      rel_push hR rfl ⟨by rw [upd_self]; exact hR.grown.size, by rw [upd_self]; exact heap_alloc_size _ _⟩
    have hn0 := nx_push hR .defd ⟨w.heap.size, 0, 0⟩
    have hF0 := hF.nx hn0
    have hR1 := push_loop hR0 hF0.tm.in_ (dn := H.next) (.inr rfl) .ready none fn ps x y
    have hn1 := nx_push hR0 (.loop .ready none s.tm ps x y H.next) ⟨(w.alloc (.deferred (some []))).heap.size, 0, 0⟩
    have hF1 := hF0.nx hn1
    refine ⟨(w.alloc (.deferred (some []))).heap.size, [{ target := .collected w.heap.size, args := #[] }], _, _, _, ?_, hn0.trans hn1, hR1, .inr rfl, by rw [upd_self], ?_⟩
    · simp only [Instr.enterLoop, Sem.run_bind, Result.andThen_ok, Sem.run_pure, r_newObj, hF0.tm.eq, upd_self]
    · refine ⟨⟨hF1.tm.eq, hF1.tm.in_⟩, ?_, ?_⟩
      · simp only [List.cons_append, List.nil_append, List.map_cons, hF1.ds]
        congr 3
        rw [hn1.loc H.next (.inr rfl), upd_self]
      · intro r hr
        rcases List.mem_cons.1 hr with rfl | hr
        · exact .inl (.inr rfl)
        · exact hF1.mks r hr
theorem endLoop_sound {D : Nat → Prop} {ρ : Nat → Loc} {H : Hp} {w : World} (hR : Rel gl w0 D ρ H w) {l : Nat} (hl : D l) {st : LoopState} {pend : Option Code} {tm : List V} {ps : Array Tmp} {x y : Code} {dn : Nat} (hg : H.get l = some (.loop st pend tm ps x y dn)) (hst : st ≠ .busy) :
    ∃ w', (Instr.endLoop (ρ l).blk).run P w = .ok pend w' ∧ Rel gl w0 D ρ (H.set l (.loop .exhausted pend tm ps x y dn)) w' := by
  obtain ⟨hw, ⟨fn, hh⟩, hi, hd⟩ := hR.ob l _ hl hg
  obtain ⟨w', s1, s2, s3⟩ := setObj_run (P := P) (w := w) (.loop { state := .exhausted, pending := pend, fn := fn, tmps := (tm.map (V.val ρ)).toArray, params := ps, assign := x, body := y, defers := (ρ dn).blk }) hh (by simp)
  refine ⟨w', ?_, hR.turn hl hg rfl s3 ⟨hw, ⟨fn, s2⟩, hi, hd⟩⟩
  simp only [Instr.endLoop, Sem.run_bind, getLoop_run hh, Result.andThen_ok]
  rw [if_neg (by simpa using hst)]
  simp only [Sem.run_bind, s1, Result.andThen_ok, Sem.run_pure]
theorem code_sound (hm : P.follows .mixedOrders = true) (hc : CallOk P gl w0 call) (hy : YldOk P gl w0 yld) (rnd : Option Nat) (k : Nat) : ∀ c : Code, CodeOk P gl w0 rnd (codeV P gl call yld rnd k c) c
  | .skip => by
    intro s H ex s' H' h D ρ w a rb hR hF hrn Q hQ
    simp only [codeV, Option.some.injEq, Prod.mk.injEq] at h
    obtain ⟨rfl, rfl, rfl⟩ := h
    exact wpIn_skip (hQ D ρ a w (Nx.refl _ _ _) hR hF)
  | .exit id => by
    intro s H ex s' H' h D ρ w a rb hR hF hrn Q hQ
    simp only [codeV, Option.some.injEq, Prod.mk.injEq] at h
    obtain ⟨rfl, rfl, rfl⟩ := h
    exact wpIn_exit (hQ D ρ a w (Nx.refl _ _ _) hR hF)
  | .ret => by
    intro s H ex s' H' h D ρ w a rb hR hF hrn Q hQ
    simp only [codeV, Option.some.injEq, Prod.mk.injEq] at h
    obtain ⟨rfl, rfl, rfl⟩ := h
    exact wpIn_ret (hQ D ρ a w (Nx.refl _ _ _) hR hF)
  | .region id ops false => by
    intro s H ex s' H' h D ρ w a rb hR hF hrn Q hQ
    simp only [codeV] at h
    split at h
    · rename_i tm H1 ho
      simp only [Option.some.injEq, Prod.mk.injEq] at h
      obtain ⟨rfl, rfl, rfl⟩ := h
      exact region_sound hc hy ho hR hF.tm fun D' ρ' a' w' n r t d => hQ D' ρ' a' w' n r ⟨t, by rw [d]; exact (hF.nx n).ds, (hF.nx n).mks⟩
    · cases h
  | .region id ops true => by
    intro s H ex s' H' h D ρ w a rb hR hF hrn Q hQ
    simp only [codeV] at h
    split at h
    · rename_i pl hp
      split at h
      · rename_i tm H1 ho
        simp only [Option.some.injEq, Prod.mk.injEq] at h
        obtain ⟨rfl, rfl, rfl⟩ := h
        exact region_draw_sound hm hc hy hp ho hR hF.tm fun D' ρ' a' w' n r t d => hQ D' ρ' a' w' n r ⟨t, by rw [d]; exact (hF.nx n).ds, (hF.nx n).mks⟩
      · cases h
    · cases h
  | .seq x y => by
    intro s H ex s' H' h D ρ w a rb hR hF hrn Q hQ
    have ihx := code_sound hm hc hy rnd k x
    have ihy := code_sound hm hc hy rnd k y
    simp only [codeV] at h
    refine wpIn_seq ?_
    split at h
    · rename_i s1 H1 h1
      refine ihx.go h1 hR hF hrn fun D1 ρ1 a1 w1 n1 r1 f1 => ?_
      exact ihy.go h r1 f1 (hrn.nx n1) fun D' ρ' a' w' n r f => hQ D' ρ' a' w' (n1.trans n) r f
    · rename_i hne
      refine ihx.go h hR hF hrn fun D1 ρ1 a1 w1 n1 r1 f1 => ?_
      have := hQ D1 ρ1 a1 w1 n1 r1 f1
      cases ex with
      | normal => exact absurd h (hne _ _)
      | exit id => exact this
      | ret => exact this
  | .cond x y z => by
    intro s H ex s' H' h D ρ w a rb hR hF hrn Q hQ
    have ihy := code_sound hm hc hy rnd k y
    have ihz := code_sound hm hc hy rnd k z
    simp only [codeV] at h
    split at h
    · rename_i hx
      exact wpIn_cond_true (hF.tm.opnd hR x _ hx).1 (ihy.go h hR hF hrn hQ)
    · rename_i hx
      exact wpIn_cond_false (hF.tm.opnd hR x _ hx).1 (ihz.go h hR hF hrn hQ)
    · cases h
  | .block id c => by
    intro s H ex s' H' h D ρ w a rb hR hF hrn Q hQ
    have ih := code_sound hm hc hy rnd k c
    simp only [codeV] at h
    refine wpIn_block ?_
    split at h
    · rename_i id' s1 H1 h1
      refine ih.go h1 hR hF hrn fun D1 ρ1 a1 w1 n1 r1 f1 => ?_
      simp only [Ex.exit', Exit.inBlock]
      split at h
      · rename_i e
        simp only [Option.some.injEq, Prod.mk.injEq] at h
        obtain ⟨rfl, rfl, rfl⟩ := h
        rw [if_pos e]
        exact hQ D1 ρ1 a1 w1 n1 r1 f1
      · rename_i e
        simp only [Option.some.injEq, Prod.mk.injEq] at h
        obtain ⟨rfl, rfl, rfl⟩ := h
        rw [if_neg e]
        exact hQ D1 ρ1 a1 w1 n1 r1 f1
    · rename_i hne
      refine ih.go h hR hF hrn fun D1 ρ1 a1 w1 n1 r1 f1 => ?_
      have := hQ D1 ρ1 a1 w1 n1 r1 f1
      cases ex with
      | exit id => exact absurd h (hne _ _ _)
      | normal => exact this
      | ret => exact this
  | .loop c => by
    intro s H ex s' H' h D ρ w a rb hR hF hrn Q hQ
    have ih := code_sound hm hc hy rnd k c
    simp only [codeV] at h
    intro b kk cs hb _ hr
    obtain ⟨e, a', w', q, r⟩ := loop_sound ih k h hR hF hrn hQ b kk cs hb
    exact ⟨e, a', w', q, .of_steps (.one (fenced_calm trivial hr rfl) stepR_loop) r⟩
  | .rangeFunc f ps x y => by
    intro s H ex s' H' h D ρ w a rb hR hF hrn Q hQ
    simp only [codeV] at h
    split at h
    · rename_i g u v hf
      split at h
      · cases h
      rename_i hbody
      split at h
      · rename_i dn mk H1 hdn
        split at h
        · rename_i rv H2 hcall
          split at h
          · rename_i st pend tm' ps' x' y' dn' hg2
            split at h
            · cases h
            · rename_i hst
              refine wpIn_rangeFunc fun fn _ => ?_
              obtain ⟨l, mark, w₁, D1, ρ1, e1, n1, r1, d1, b1, f1⟩ := enter_sound (P := P) hR hF hrn hdn fn ps x y
              obtain ⟨fe, fi⟩ := hF.tm.opnd hR f _ hf
              have hfi := n1.in fi
              rcases hc _ _ _ _ _ hcall D1 ρ1 w₁ r1 (by
                intro z hz
                rcases List.mem_append.1 hz with hz | hz
                · rcases List.mem_append.1 hz with hz | hz
                  · exact V.In.toL (v := u) hfi.1 z hz
                  · simp only [List.mem_singleton] at hz; subst hz; exact d1
                · exact V.In.toL (v := v) hfi.2 z hz) with ⟨c1, c2⟩ | ⟨hnb, _⟩
              case inr => exact absurd hnb hbody
              have hfe : a.eval f = .func (.func g) (u.toL.map (V.val ρ1)).toArray (v.toL.map (V.val ρ1)).toArray := by
                rw [fe, ← n1.val fi, V.val_fn, V.vals_eq, V.vals_eq]
              refine ⟨l, mark, w₁, { target := .fn (.func g) (v.toL.map (V.val ρ1)).toArray, args := (u.toL.map (V.val ρ1)).toArray ++ #[.func (.yield l) #[] #[]] }, w₁, g, ((u.toL ++ [V.yield H1.next] ++ v.toL).map (V.val ρ1)).toArray, w₁, e1, ?_, fun _ _ => trivial, ?_, by simp [Fr], ?_⟩
              · simp only [resolve, hfe, Deferred.ofValue, Sem.run_pure, List.map_toArray, List.map_cons, List.map_nil]
                rfl
              · simp only [invoke, c1]
                simp [V.val_yield, b1]
              · refine CallsIn.mono (F := Fr none) c2 ?_
                rintro e w₂ ⟨D2, ρ2, rfl, n2, r2, i2⟩
                have d2 := n2.sub _ d1
                obtain ⟨w₃, q1, q2⟩ := endLoop_sound (P := P) r2 d2 hg2 hst
                have hbl : (ρ2 H1.next).blk = l := by rw [n2.loc _ d1]; exact b1
                have n3 : Nx D ρ H D2 ρ2 (H2.set H1.next (.loop .exhausted pend tm' ps' x' y' dn')) := (n1.trans n2).trans (nx_same rfl d2 fun m hm => by rw [Hp.get_set (Hp.get_lt hg2), if_neg hm])
                have f2 := f1.nx n2
                refine ⟨pend, w₃, by rw [← hbl]; exact q1, ?_⟩
                split at h
                · simp only [Option.some.injEq, Prod.mk.injEq] at h
                  obtain ⟨rfl, rfl, rfl⟩ := h
                  exact hQ D2 ρ2 _ w₃ n3 q2 f2
                · simp only [Option.some.injEq, Prod.mk.injEq] at h
                  obtain ⟨rfl, rfl, rfl⟩ := h
                  exact wpIn_ret (hQ D2 ρ2 _ w₃ n3 q2 f2)
                · simp only [Option.some.injEq, Prod.mk.injEq] at h
                  obtain ⟨rfl, rfl, rfl⟩ := h
                  exact wpIn_exit (hQ D2 ρ2 _ w₃ n3 q2 f2)
                · cases h
          · cases h
        · cases h
      · cases h
    · cases h
  | .scope c => by intro s H ex s' H' h; simp [codeV] at h
  | .label l => by intro s H ex s' H' h; simp [codeV] at h
  | .goto l => by intro s H ex s' H' h; simp [codeV] at h
  | .refuse w => by intro s H ex s' H' h; simp [codeV] at h
end
end Go.Ev
end
section
/- Functions and rounds: as the model does them; so does the evaluator tell what a call comes to. -/
namespace Go.Ev

section
variable {P : Program} {gl : Nat → Option Nat} {w0 : World}
theorem unmark_sound {fn : Func} {tmps : Array Value} {R : Ending → World → Prop} : ∀ {l : List Nat} {H H' : Hp} {D : Nat → Prop} {ρ : Nat → Loc} {w : World}, unmark l H = some H' → Rel gl w0 D ρ H w → (∀ r ∈ l, D r) →
    (∀ w', Nx D ρ H D ρ H' → Rel gl w0 D ρ H' w' → ∃ v, (results fn tmps).run P w' = .ok v w' ∧ R (.returned v) w') → LeavesInM (Fr none) 0 P fn tmps R (l.map fun r => { target := .collected (ρ r).blk, args := #[] }) .returning w
  | [], H, H', D, ρ, w, h, hR, _, hk => by
    simp only [unmark, Option.some.injEq] at h
    subst h
    exact hk w (Nx.refl _ _ _) hR
  | r :: l, H, H', D, ρ, w, h, hR, hD, hk => by
    unfold unmark at h
    split at h
    · rename_i hg
      have hr := hD r (by simp)
      obtain ⟨hw, hh⟩ := hR.ob r _ hr hg
      obtain ⟨w', s1, s2, s3⟩ := setObj_run (P := P) (w := w) (.deferred none) hh (by simp)
      have hR' := hR.turn hr hg rfl s3 (o' := .dead) trivial
      have hn := nx_same (ρ := ρ) (H := H) (H' := H.set r .dead) rfl hr (fun m hm => by rw [Hp.get_set (Hp.get_lt hg), if_neg hm])
      refine ⟨by simp, .inl ⟨(ρ r).blk, w', rfl, ?_, unmark_sound h hR' (fun x hx => hD x (by simp [hx])) fun w2 n r2 => hk w2 (hn.trans n) r2⟩⟩
      simp only [Instr.takeDeferred, Sem.run_bind]
      have : (getObj (ρ r).blk).run P w = .ok (.deferred (some [])) w := by simp [getObj, Sem.run, hh]
      simp only [this, Result.andThen_ok, Sem.run_bind, s1, Sem.run_pure]
    · cases h
def resM (tmps : Array Value) : ResultVar → Sem Value
  | .tmp t => pure (tmps.getD t undef)
  | .cell x t => do loadVar t (← asAddr (tmps.getD x undef))
theorem results_eq (fn : Func) (tmps : Array Value) : results fn tmps = (do let vs ← fn.results.mapM (resM tmps); pure (if h : vs.size = 1 then vs[0] else .tuple vs)) := by
  unfold results
  congr 1
theorem result_sound {D : Nat → Prop} {ρ : Nat → Loc} {H : Hp} {w : World} {a : Act} {tm : List V} (hR : Rel gl w0 D ρ H w) (hT : Tm D ρ tm a) : ∀ {l : List ResultVar} {vs : List V}, resultsV P H tm l = some vs →
    (∀ v ∈ vs, v.In D ρ) ∧ (l.mapM (resM a.tmps)).run P w = .ok (vs.map (V.val ρ)) w
  | [], vs, h => by simp only [resultsV, Option.some.injEq] at h; subst h; exact ⟨by simp, rfl⟩
  | r :: l, vs, h => by
    have get : ∀ t, a.tmps.getD t undef = (tm.getD t .undef).val ρ ∧ (tm.getD t .undef).In D ρ := fun t => by
      have := hT.opnd (gl := gl) hR (.tmp t) _ rfl
      exact this
    unfold resultsV at h
    split at h
    · rename_i v hv
      split at h
      · rename_i m hm
        simp only [Option.some.injEq] at h
        subst h
        obtain ⟨i1, i2⟩ := result_sound hR hT hm
        have key : v.In D ρ ∧ (resM a.tmps r).run P w = .ok (v.val ρ) w := by
          cases r with
          | tmp t =>
            simp only [resultV, Option.some.injEq] at hv
            subst hv
            exact ⟨(get t).2, by rw [← (get t).1]; rfl⟩
          | cell x t =>
            unfold resultV at hv
            simp only at hv
            split at hv
            · rename_i n off hx
              have hg := get x
              rw [hx] at hg
              obtain ⟨q1, q2⟩ := loadVar_sound (P := P) hR hg.2 hv
              refine ⟨q1, ?_⟩
              simp only [resM, hg.1, V.val_ptr, asAddr, Sem.run_bind, Sem.run_pure, Result.andThen_ok, q2]
            · cases hv
        refine ⟨fun u hu => ?_, ?_⟩
        · rcases List.mem_cons.1 hu with rfl | hu
          · exact key.1
          · exact i1 u hu
        · rw [List.mapM_cons]
          simp only [Sem.run_bind, key.2, Result.andThen_ok, i2, Sem.run_pure, List.map_cons]
      · cases h
    · cases h
theorem results_sound {D : Nat → Prop} {ρ : Nat → Loc} {H : Hp} {w : World} {a : Act} {tm : List V} (hR : Rel gl w0 D ρ H w) (hT : Tm D ρ tm a) {fn : Func} {vs : List V} (h : resultsV P H tm fn.results.toList = some vs) :
    (packV vs).In D ρ ∧ (results fn a.tmps).run P w = .ok ((packV vs).val ρ) w := by
  obtain ⟨i1, i2⟩ := result_sound hR hT h
  refine ⟨?_, ?_⟩
  · unfold packV
    split
    · exact i1 _ (by simp)
    · exact V.In.ofL i1
  · rw [results_eq]
    simp only [Array.mapM_eq_mapM_toList, Sem.run_bind, Sem.run_map]
    rw [i2]
    simp only [Result.andThen_ok, Sem.run_pure]
    congr 1
    unfold packV
    split
    · rename_i hs
      split
      · rename_i v
        simp
      · rename_i hne
        exfalso
        simp only [List.size_toArray, List.length_map] at hs
        match vs, hs with
        | [v], _ => exact hne v rfl
    · rename_i hs
      split
      · rename_i v
        simp at hs
      · rw [V.val_tup, V.vals_ofL]
theorem findByte_eq (c : UInt8) : ∀ (l : List UInt8) (i : Nat), findByte c l i = if Lib.indexByte l c = -1 then -1 else (i : Int) + Lib.indexByte l c
  | [], i => rfl
  | b :: l, i => by
    unfold findByte Lib.indexByte
    have hge := Lib.indexByte_ge l c
    by_cases hb : (b == c) = true
    · rw [if_pos hb, if_pos hb]; simp
    · rw [if_neg hb, if_neg hb, findByte_eq c l]
      by_cases he : Lib.indexByte l c = -1
      · simp [he]
      · have hb2 : (Lib.indexByte l c == -1) = false := by simpa using he
        rw [if_neg he, hb2]
        simp only [Bool.false_eq_true, if_false]
        rw [if_neg (by omega)]
        omega
theorem ext_sound {fn : Func} {f : FuncId} {args : List V} {v : V} (h : extV fn.name args = some v) (ho : fn.origin = "") (hb : fn.body = none) (hf : P.funcs[f]? = some fn) (hn : ¬ fn.name = "runtime.NumGoroutine") (D : Nat → Prop) (ρ : Nat → Loc) :
    v.In D ρ ∧ ∀ w, (callFunc f (args.map (V.val ρ)).toArray).run P w = .ok (.value (v.val ρ)) w := by
  unfold extV at h
  split at h
  · rename_i hname
    split at h
    · rename_i s c
      simp only [Option.some.injEq] at h
      subst h
      refine ⟨trivial, fun w => ?_⟩
      have h1 : Extern.findNext fn = none := by
        unfold Extern.findNext
        rw [hname, ho]
        have a1 : Extern.allNextRows.lookup "internal/bytealg.IndexByteString" = none := by decide +kernel
        have a2 : Extern.allNextRows.lookup "" = none := by decide +kernel
        simp only [a1, a2]
        rfl
      have h2 : Extern.find fn = some Extern.BytealgIndexByte.indexByte := by
        unfold Extern.find
        rw [hname]
        kernel_rfl
      have hi := Lib.run_indexByteString (P := P) ⟨s.toArray⟩ c w
      have hq : findByte c.toNat.toUInt8 s 0 = Lib.indexByte s c.toNat.toUInt8 := by
        rw [findByte_eq]
        split
        · rename_i e; rw [e]
        · simp
      simp only [callFunc, Sem.run_bind, program, Sem.run, Result.andThen_ok, hf]
      rw [if_neg (by simpa using hn), if_pos (by simp [hb])]
      simp only [mark, Sem.run_bind, Sem.run, Result.andThen_ok, h1, h2, List.map_cons, List.map_nil, V.val_str, V.val_int, hi, Sem.run_pure, hq]
    · cases h
  · cases h
theorem fn_sound (hm : P.follows .mixedOrders = true) {n : Nat} {call : Call} {yld : Nat → List V → Hp → Option (V × Hp)} (hc : CallOk P gl w0 call) (hy : YldOk P gl w0 yld) : CallOk P gl w0 (fnV P gl call yld n) := by
  intro f args H v H' h D ρ w hR ha
  simp only [fnV] at h
  split at h
  · rename_i fn hf
    split at h
    · cases h
    · rename_i hname
      split at h
      · rename_i c hb
        split at h
        · rename_i ex s H1 hcode
          have hrun : ∀ A w, (callFunc f A).run P w = .ok (.enter f A) w := fun A w => by
            simp only [callFunc, Sem.run_bind, program, Sem.run, Result.andThen_ok, hf]
            rw [if_neg (by simpa using hname)]
            simp [hb]
          refine .inl ⟨hrun, ?_⟩
          refine callsIn_of_wp_marks hf hb trivial ?_ rfl
          have hT0 : Tm D ρ (args ++ List.replicate (fn.ntmps - args.length) .undef) { tmps := (args.map (V.val ρ)).toArray ++ Array.replicate (fn.ntmps - (args.map (V.val ρ)).toArray.size) undef, defers := [] } := by
            refine ⟨?_, fun u hu => ?_⟩
            · apply Array.ext'
              simp [V.val_undef]
            · rcases List.mem_append.1 hu with hu | hu
              · exact ha u hu
              · rw [(List.mem_replicate.1 hu).2]; exact trivial
          refine (code_sound hm hc hy none n c).go hcode hR ⟨hT0, rfl, by simp⟩ (rb := none) rfl fun D1 ρ1 a1 w1 n1 r1 f1 => ?_
          have key : (∀ id, ex ≠ .exit id) → unmark s.marks H1 ≠ none → LeavesInM (Fr none) 0 P fn a1.tmps (Ends gl w0 D ρ H v H') a1.defers .returning w1 := by
            intro hne _
            have h2 : ∃ H2 vs, unmark s.marks H1 = some H2 ∧ resultsV P H2 s.tm fn.results.toList = some vs ∧ packV vs = v ∧ H2 = H' := by
              cases ex with
              | exit id => exact absurd rfl (hne id)
              | normal =>
                simp only at h
                split at h
                · rename_i H2 hu
                  split at h
                  · rename_i vs hvs
                    simp only [Option.some.injEq, Prod.mk.injEq] at h
                    exact ⟨H2, vs, hu, hvs, h.1, h.2⟩
                  · cases h
                · cases h
              | ret =>
                simp only at h
                split at h
                · rename_i H2 hu
                  split at h
                  · rename_i vs hvs
                    simp only [Option.some.injEq, Prod.mk.injEq] at h
                    exact ⟨H2, vs, hu, hvs, h.1, h.2⟩
                  · cases h
                · cases h
            obtain ⟨H2, vs, hu, hvs, rfl, rfl⟩ := h2
            rw [f1.ds]
            refine unmark_sound hu r1 f1.mks fun w2 n2 r2 => ?_
            obtain ⟨q1, q2⟩ := results_sound (P := P) r2 f1.tm hvs
            exact ⟨_, q2, D1, ρ1, rfl, n1.trans n2, r2, q1⟩
          cases ex with
          | exit id => cases h
          | normal =>
            refine key (by simp) fun e => ?_
            simp only [e] at h
            cases h
          | ret =>
            refine key (by simp) fun e => ?_
            simp only [e] at h
            cases h
        · cases h
      · rename_i hb
        split at h
        · rename_i ho
          split at h
          · rename_i u hx
            simp only [Option.some.injEq, Prod.mk.injEq] at h
            obtain ⟨rfl, rfl⟩ := h
            obtain ⟨x1, x2⟩ := ext_sound hx ho hb hf (by simpa using hname) D ρ
            exact .inr ⟨by simp [hf, hb], rfl, x1, x2 w⟩
          · cases h
        · cases h
  · cases h
theorem putAll_sound (ρ : Nat → Loc) : ∀ (l : List (Tmp × V)) (tm : List V), ((putAllV tm l).map (V.val ρ)).toArray = (l.map fun p => (p.1, p.2.val ρ)).foldl (fun tmps (p : Tmp × Value) => tmps.setIfInBounds p.1 p.2) (tm.map (V.val ρ)).toArray
  | [], tm => rfl
  | (t, v) :: l, tm => by
    rw [putAllV, putAll_sound ρ l]
    simp only [List.map_cons, List.foldl_cons]
    congr 1
    apply Array.ext'
    simp [List.map_set]
theorem putAll_in {D : Nat → Prop} {ρ : Nat → Loc} : ∀ {l : List (Tmp × V)} {tm : List V}, (∀ v ∈ tm, v.In D ρ) → (∀ p ∈ l, p.2.In D ρ) → ∀ v ∈ putAllV tm l, v.In D ρ
  | [], tm, h, _ => h
  | (t, v) :: l, tm, h, hl => by
    rw [putAllV]
    refine putAll_in (fun u hu => ?_) (fun p hp => hl p (by simp [hp]))
    rcases List.mem_or_eq_of_mem_set hu with hu | rfl
    · exact h u hu
    · exact hl (t, u) (by simp)
theorem setLoop {D : Nat → Prop} {ρ : Nat → Loc} {H : Hp} {w : World} (hR : Rel gl w0 D ρ H w) {l : Nat} (hl : D l) {st : LoopState} {pend : Option Code} {tm : List V} {ps : Array Tmp} {x y : Code} {dn : Nat} (hg : H.get l = some (.loop st pend tm ps x y dn)) (st' : LoopState) (pend' : Option Code) :
    ∃ (r : Loop) (w' : World), (Instr.getLoop (ρ l).blk).run P w = .ok r w ∧ r.state = st ∧ r.pending = pend ∧ (setObj (ρ l).blk (.loop { r with state := st', pending := pend' })).run P w = .ok () w' ∧ Rel gl w0 D ρ (H.set l (.loop st' pend' tm ps x y dn)) w' := by
  obtain ⟨hw, ⟨fn, hh⟩, hi, hd⟩ := hR.ob l _ hl hg
  obtain ⟨w', s1, s2, s3⟩ := setObj_run (P := P) (w := w) (.loop { state := st', pending := pend', fn := fn, tmps := (tm.map (V.val ρ)).toArray, params := ps, assign := x, body := y, defers := (ρ dn).blk }) hh (by simp)
  exact ⟨_, w', getLoop_run hh, rfl, rfl, s1, hR.turn hl hg rfl s3 ⟨hw, ⟨fn, s2⟩, hi, hd⟩⟩
theorem round_sound (hm : P.follows .mixedOrders = true) {n : Nat} {call : Call} {yld : Nat → List V → Hp → Option (V × Hp)} (hc : CallOk P gl w0 call) (hy : YldOk P gl w0 yld) : YldOk P gl w0 (roundV P gl call yld n) := by
  intro l args H v H' h D ρ w hR hl ha
  simp only [roundV] at h
  split at h
  · rename_i st pend tm ps x y dn hg
    split at h
    · rename_i hlen
      obtain ⟨hw, ⟨fn, hh⟩, hi, hd⟩ := hR.ob l _ hl hg
      refine ⟨fn, ((putAllV tm (ps.toList.zip args)).map (V.val ρ)).toArray, x, y, ?_, ?_⟩
      · simp only [Instr.yield, Sem.run_bind, getLoop_run hh, Result.andThen_ok]
        rw [if_neg (by simp [hlen])]
        simp only [Sem.run_pure]
        congr 2
        rw [putAll_sound]
        rw [← Array.foldl_toList]
        congr 1
        simp only [Array.toList_zip, List.zip_map_right]
        rfl
      · refine roundIn_of_wpIn trivial ?_
        split at h
        · rename_i s H1 hx
          split at h
          · rename_i pend1 tm1 ps1 x1 y1 dn1 hg1
            split at h
            · rename_i ex s2 H2 hy2
              split at h
              · rename_i hmk
                split at h
                · rename_i st2 pend2 tm2 ps2 x2 y2 dn2 hg2
                  have hF0 : FrOk D ρ ⟨putAllV tm (ps.toList.zip args), []⟩ { tmps := ((putAllV tm (ps.toList.zip args)).map (V.val ρ)).toArray, defers := [] } :=
                    ⟨⟨rfl, putAll_in hi fun p hp => ha p.2 (List.of_mem_zip hp).2⟩, rfl, by simp⟩
                  refine (code_sound hm hc hy (some l) n x).go hx hR hF0 (rb := some (ρ l).blk) ⟨hl, rfl⟩ fun D1 ρ1 a1 w1 n1 r1 f1 => ?_
                  have l1 := n1.sub l hl
                  obtain ⟨r, w2, g1, g2, g3, g4, g5⟩ := setLoop (P := P) r1 l1 hg1 .busy pend1
                  refine ⟨w2, ?_, ?_⟩
                  · rw [← n1.loc l hl]
                    have hrr : ({ r with state := .busy } : Loop) = { r with state := .busy, pending := pend1 } := by rw [← g3]
                    simp only [Instr.beginRound, Sem.run_bind, g1, Result.andThen_ok, hrr, g4, g2, Sem.run_pure]
                  · have nset : Nx D1 ρ1 H1 D1 ρ1 (H1.set l (.loop .busy pend1 tm1 ps1 x1 y1 dn1)) := nx_same rfl l1 fun m hm => by rw [Hp.get_set (Hp.get_lt hg1), if_neg hm]
                    refine (code_sound hm hc hy (some l) n y).go hy2 g5 f1 (rb := some (ρ l).blk) ⟨l1, by rw [n1.loc l hl]⟩ fun D3 ρ3 a3 w3 n3 r3 f3 => ?_
                    have l3 := n3.sub l l1
                    have hbl : (ρ3 l).blk = (ρ l).blk := by rw [n3.loc l l1, n1.loc l hl]
                    have fin : ∀ (st' : LoopState) (jump : Option Code), st' = (if jump.isNone then .ready else .done) → ∃ v w', (Instr.endRound (ρ l).blk jump).run P w3 = .ok v w' ∧ v = .bool jump.isNone ∧ Rel gl w0 D3 ρ3 (H2.set l (.loop st' jump tm2 ps2 x2 y2 dn2)) w' := by
                      intro st' jump hst'
                      subst hst'
                      obtain ⟨r', w4, k1, k2, k3, k4, k5⟩ := setLoop (P := P) r3 l3 hg2 (if jump.isNone then .ready else .done) jump
                      rw [hbl] at k1 k4
                      exact ⟨_, w4, by simp only [Instr.endRound, Sem.run_bind, k1, Result.andThen_ok, k4, Sem.run_pure], rfl, k5⟩
                    have nall : ∀ st' jump, Nx D ρ H D3 ρ3 (H2.set l (.loop st' jump tm2 ps2 x2 y2 dn2)) := fun st' jump => ((n1.trans nset).trans n3).trans (nx_same rfl l3 fun m hm => by rw [Hp.get_set (Hp.get_lt hg2), if_neg hm])
                    cases ex with
                    | normal =>
                      simp only [Option.some.injEq, Prod.mk.injEq] at h
                      obtain ⟨rfl, rfl⟩ := h
                      obtain ⟨v, w', e1, e2, e3⟩ := fin .ready none rfl
                      exact ⟨v, w', e1, D3, ρ3, by rw [e2]; rfl, nall _ _, e3, trivial⟩
                    | ret =>
                      simp only [Option.some.injEq, Prod.mk.injEq] at h
                      obtain ⟨rfl, rfl⟩ := h
                      obtain ⟨v, w', e1, e2, e3⟩ := fin .done (some .ret) rfl
                      exact ⟨v, w', e1, D3, ρ3, by rw [e2]; rfl, nall _ _, e3, trivial⟩
                    | exit id =>
                      simp only [Option.some.injEq, Prod.mk.injEq] at h
                      obtain ⟨rfl, rfl⟩ := h
                      obtain ⟨v, w', e1, e2, e3⟩ := fin .done (some (.exit id)) rfl
                      exact ⟨v, w', e1, D3, ρ3, by rw [e2]; rfl, nall _ _, e3, trivial⟩
                · cases h
              · cases h
            · cases h
          · cases h
        · cases h
    · cases h
  · cases h
theorem go_sound (hm : P.follows .mixedOrders = true) : ∀ n, CallOk P gl w0 (fun g a H => evGo P gl n (false, g) a H) ∧ YldOk P gl w0 (fun l a H => evGo P gl n (true, l) a H)
  | 0 => ⟨fun f args H v H' h => by simp [evGo] at h, fun l args H v H' h => by simp [evGo] at h⟩
  | n + 1 => by
    obtain ⟨a, b⟩ := go_sound hm n
    exact ⟨fn_sound hm a b, round_sound hm a b⟩
/-- What the evaluator yields a call comes to. -/
theorem ev_calls (hm : P.follows .mixedOrders = true) {n : Nat} {f : FuncId} (hbody : ((P.funcs[f]?).bind (·.body)).isNone = false) {args : List V} {H : Hp} {v : V} {H' : Hp} (h : evFn P gl n f args H = some (v, H')) {D : Nat → Prop} {ρ : Nat → Loc} {w : World} (hR : Rel gl w0 D ρ H w) (ha : ∀ a ∈ args, a.In D ρ) :
    Calls P f (args.map (V.val ρ)).toArray w fun e w' => ∃ D' ρ', e = .returned (v.val ρ') ∧ Nx D ρ H D' ρ' H' ∧ Rel gl w0 D' ρ' H' w' ∧ v.In D' ρ' := by
  rcases (go_sound hm n).1 f args H v H' h D ρ w hR ha with ⟨_, h2⟩ | ⟨h2, _⟩
  · exact callsIn_wide.1 h2
  · rw [hbody] at h2; cases h2
end
/-- No name. -/
theorem Rel.start (w : World) : Rel (fun _ => none) w (fun _ => False) (fun _ => ⟨0, 0, 0⟩) Hp.empty w :=
  ⟨World.grownBy.refl _ _, fun _ h => h.elim, fun _ _ h => h.elim, fun _ _ _ _ h => h.elim, fun _ _ h => by cases h⟩
/-- A call without memory: of numbers, texts and nothings. -/
theorem ev_plain {P : Program} (hm : P.follows .mixedOrders = true) {n : Nat} {f : FuncId} (hbody : ((P.funcs[f]?).bind (·.body)).isNone = false) {args : List V} {v : V} {H' : Hp} (h : evFn P (fun _ => none) n f args Hp.empty = some (v, H')) (ha : ∀ a ∈ args, a.In (fun _ => False) (fun _ => ⟨0, 0, 0⟩)) (w : World) :
    Calls P f (args.map (V.val fun _ => ⟨0, 0, 0⟩)).toArray w fun e w' => ∃ ρ', e = .returned (v.val ρ') ∧ w.grownBy w' none :=
  (ev_calls hm hbody h (Rel.start w) ha).mono fun _ _ ⟨_, ρ', h1, _, h3, _⟩ => ⟨ρ', h1, h3.grown⟩
end Go.Ev
end
section
/- A law that the evaluator yields true is true; what it does beside is seen nowhere. -/
namespace Go.Ev
open Go.RowKit

/-- True, and nothing that was there is turned. -/
def WorksIs (w : World) (e : Ending) (w' : World) : Prop := e = .returned (.bool true) ∧ w.grownBy w' none
theorem below_of_grown {w w' : World} (h : w.grownBy w' none) : Below w.heap.size w w' := ⟨h.os, h.tape, h.output, h.size, fun k hk => h.block k hk (by simp)⟩
def isTrue : Option (V × Hp) → Bool
  | some (.bool b, _) => b
  | _ => false
theorem isTrue_some {x : Option (V × Hp)} (h : isTrue x = true) : ∃ H, x = some (.bool true, H) := by
  match x, h with
  | some (.bool true, H), _ => exact ⟨H, rfl⟩
/-- A value of no memory. -/
def V.plain : V → Bool
  | .bool _ | .int _ _ | .str _ | .raw _ _ | .nilptr | .nilslice | .nilmap | .nilfn | .nil => true
  | .fn _ a c => a.plain && c.plain
  | .cons h t => h.plain && t.plain
  | .agg l | .tup l => l.plain
  | _ => false
theorem V.plain_in {D : Nat → Prop} {ρ : Nat → Loc} : ∀ {v : V}, v.plain = true → v.In D ρ
  | .bool _, _ | .int _ _, _ | .str _, _ | .raw _ _, _ | .nilptr, _ | .nilslice, _ | .nilmap, _ | .nilfn, _ | .nil, _ => trivial
  | .fn _ a c, h => by simp only [V.plain, Bool.and_eq_true] at h; exact ⟨V.plain_in h.1, V.plain_in h.2⟩
  | .cons a c, h => by simp only [V.plain, Bool.and_eq_true] at h; exact ⟨V.plain_in h.1, V.plain_in h.2⟩
  | .agg l, h => V.plain_in (v := l) h
  | .tup l, h => V.plain_in (v := l) h
theorem ev_true {P : Program} (hm : P.follows .mixedOrders = true) {n : Nat} {f : FuncId} (hbody : ((P.funcs[f]?).bind (·.body)).isNone = false) {args : List V} (h : isTrue (evFn P (fun _ => none) n f args Hp.empty) = true) (ha : args.all V.plain = true) (w : World) :
    Calls P f (args.map (V.val fun _ => ⟨0, 0, 0⟩)).toArray w (WorksIs w) := by
  obtain ⟨H, hH⟩ := isTrue_some h
  refine (ev_plain hm hbody hH (fun a m => V.plain_in (List.all_eq_true.1 ha a m)) w).mono ?_
  rintro e w' ⟨ρ', rfl, hg⟩
  exact ⟨rfl, hg⟩
end Go.Ev
end
