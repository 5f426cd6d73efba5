/- What turns memory: as the model does it (3): append. -/
import Derived.Test.YtmoddhfemejekaaEvL
import Derived.Laws.Append
namespace Go.Ev

section
variable {P : Program} {gl : Nat → Option Nat} {w0 w : World} {D : Nat → Prop} {ρ : Nat → Loc} {H : Hp}
theorem r_cap (n c : Nat) (e : TypeId) (w : World) : (choose (.appendCap n c e)).run P w = .ok (grownCap w n c e) w.drew := rfl
theorem room_ok (b : Nat) (w : World) : (askRoom b).run P w = .ok () w := by unfold askRoom; split <;> rfl
theorem r_append_room {t u ty e : TypeId} {d : TypeDesc} (ht : P.underlying t = some (.slice e)) (hu : P.underlying u = some d) (hd : notInt d = true) {esz m : Nat} (hs : sizeV P e = some esz) {X : Value} {new : Array Value} (hl : ∀ w, (Builtin.lenOf X).run P w = .ok m w)
    (base : Option Addr) (len cap : Nat) (hc : len + m ≤ cap) (hn : (Builtin.firstCells esz m X).run P w = .ok new w) {w' : World} (hst : (match base with | some a => storeCells (a.add (len * esz)) new.toList | none => pure ()).run P w = .ok () w') :
    (Builtin.append_ #[t, u] ty #[.slice base len cap, X]).run P w = .ok (.slice base (len + m) cap) w' := by
  have key : (Builtin.append_ #[t, u] ty #[.slice base len cap, X]).run P w = ((Builtin.firstCells esz m X).run P w).andThen fun new w1 => ((match base with | some a => storeCells (a.add (len * esz)) new.toList | none => pure ()).run P w1).andThen fun _ w2 => .ok (.slice base (len + m) cap) w2 := by
    cases d <;> first | (cases hd; done) | skip
    all_goals
      simp only [Builtin.append_, List.getElem?_toArray, List.getElem?_cons_zero, List.getElem?_cons_succ, Sem.run_bind, run_underlying ht, run_underlying hu, Result.andThen_ok, r_size hs, Sem.run_pure, Bool.false_eq_true, if_false, hl, Bool.not_false, if_true]
      rw [if_pos hc]
      cases base <;> simp only [Sem.run_bind, Sem.run_pure, Result.andThen_ok]
  rw [key, hn]
  simp only [Result.andThen_ok, hst]
theorem r_append_grow {t u ty e : TypeId} {d : TypeDesc} (ht : P.underlying t = some (.slice e)) (hu : P.underlying u = some d) (hd : notInt d = true) {esz m by_ : Nat} (hs : sizeV P e = some esz) (hby : bytesV P e = some by_) {z : V} (hz : zeroV P e = some z) (hzl : z.cells.length = esz) (hb64 : by_ ≤ 64) {X : Value} {old new : List Value} (hl : ∀ w, (Builtin.lenOf X).run P w = .ok m w)
    (base : Option Addr) (len cap : Nat) (hc : cap < len + m) (hmost : len + m ≤ 1099511627776) (ho : ∀ w', w.grownBy w' none → (Builtin.firstCells esz len (.slice base len cap)).run P w' = .ok old.toArray w') (hn : ∀ w', w.grownBy w' none → (Builtin.firstCells esz m X).run P w' = .ok new.toArray w') :
    ∃ ncap rest, len + m ≤ ncap ∧ rest.length = (ncap - (len + m)) * esz ∧ (Builtin.append_ #[t, u] ty #[.slice base len cap, X]).run P w = .ok (.slice (some ⟨w.heap.size, 0, none⟩) (len + m) ncap) (w.drew.alloc (.cells (old ++ new ++ rest).toArray e)) := by
  obtain ⟨i, hi, hib⟩ := r_bytes hby
  obtain ⟨_, z2⟩ := r_zero hz (fun _ => ⟨0, 0, 0⟩) (fun _ => True)
  have hfit : ¬ Builtin.nextslicecap (len + m) cap * by_ > 2 ^ 48 := by
    have := growslice_fits (need := len + m) (old := cap) (bytes := by_) hc (Nat.le_trans (Nat.mul_le_mul hmost hb64) (by decide))
    omega
  have hg : w.grownBy w.drew none := ⟨rfl, rfl, rfl, Nat.le_refl _, fun _ _ _ => rfl⟩
  have hcap : len + m ≤ grownCap w (len + m) cap e := by
    unfold grownCap Question.cut
    exact Nat.le_add_right _ _
  have hzc : ((z.val fun _ => ⟨0, 0, 0⟩).cells).size = esz := by rw [← Array.length_toList, V.val_cells, List.length_map, hzl]
  refine ⟨grownCap w (len + m) cap e, (Builtin.zeroCells (z.val fun _ => ⟨0, 0, 0⟩).cells (grownCap w (len + m) cap e - (len + m))).toList, hcap, ?_, ?_⟩
  · simp [Builtin.zeroCells, hzc]
  · have h63 : ¬ (((len + m : Nat) : Int) > IntKind.i64.max ∧ (False ∨ by_ = 0)) := by
      have hm : IntKind.max .i64 = 9223372036854775807 := rfl
      rw [hm]; omega
    have zz2 : ∀ w, (zeroValue e).run P w = .ok (z.val fun _ => ⟨0, 0, 0⟩) w := z2
    cases d <;> first | (cases hd; done) | skip
    all_goals
      simp only [Builtin.append_, List.getElem?_toArray, List.getElem?_cons_zero, List.getElem?_cons_succ, Sem.run_bind, run_underlying ht, run_underlying hu, Result.andThen_ok, r_size hs, Sem.run_pure, Bool.false_eq_true, if_false, hl, Bool.not_false, if_true]
      rw [if_neg (by omega)]
      simp only [Sem.run_bind, r_info hi, Result.andThen_ok, hib]
      rw [if_neg h63]
      simp only [Sem.run_bind, r_info hi, Result.andThen_ok, hib]
      rw [if_neg hfit]
      simp only [Sem.run_bind, r_cap, Result.andThen_ok, r_info hi, room_ok, ho _ hg, hn _ hg, zz2, newRow, r_newObj, Sem.run_pure]
      congr 3
      apply Array.ext'
      simp
theorem rel_drew (hR : Rel gl w0 D ρ H w) : Rel gl w0 D ρ H w.drew := hR.quiet ⟨rfl, rfl, rfl, Nat.le_refl _, fun _ _ _ => rfl⟩
/-- A row that has grown: it stands in a block of its own. -/
theorem grow_done (hR : Rel gl w0 D ρ H w) {e : TypeId} {cs : List V} (hcs : ∀ u ∈ cs, u.In D ρ ∧ u.one = true) {esz len ncap : Nat} {rest : List Value} (hl : cs.length = len * esz) (hn : len ≤ ncap) (hr : rest.length = (ncap - len) * esz) :
    ∃ D' ρ' w', (Result.ok (Value.slice (some ⟨w.heap.size, 0, none⟩) len ncap) (w.drew.alloc (.cells (cs.map (V.val ρ) ++ rest).toArray e)) : Result Value) = .ok ((V.slice H.next 0 len 0 false).val ρ') w' ∧ Nx D ρ H D' ρ' (H.push (newCells cs esz)) ∧ Rel gl w0 D' ρ' (H.push (newCells cs esz)) w' ∧ (V.slice H.next 0 len 0 false).In D' ρ' := by
  have hu := upd_self ρ H.next ⟨w.heap.size, 0, ncap⟩
  have hsz : w0.heap.size ≤ w.drew.heap.size := (rel_drew hR).grown.size
  have hat := newRow_in (w := w.drew) hcs (not_next hR) hsz e esz ncap rest (by rw [hl, hr, ← Nat.add_mul]; congr 1; omega)
  refine ⟨_, upd ρ H.next ⟨w.heap.size, 0, ncap⟩, _, ?_, nx_push hR _ _, rel_push (rel_drew hR) rfl hat, .inr rfl, fun _ => by rw [hu]; exact hn⟩
  rw [V.val_slice, hu]
  rfl
theorem append_sound0 {t u ty e : TypeId} {d : TypeDesc} (hR : Rel gl w0 D ρ H w) (ht : P.underlying t = some (.slice e)) (hu : P.underlying u = some d) (hd : notInt d = true) {s x v : V} {H' : Hp} (hnt : ∀ n a b c, s ≠ .tail n a b c) (h : appendV P e H s x = some (v, H')) (hs : s.In D ρ) (hx : x.In D ρ) :
    ∃ D' ρ' w', (Builtin.append_ #[t, u] ty #[s.val ρ, x.val ρ]).run P w = .ok (v.val ρ') w' ∧ Nx D ρ H D' ρ' H' ∧ Rel gl w0 D' ρ' H' w' ∧ v.In D' ρ' := by
  unfold appendV at h
  split at h
  · rename_i esz by_ z m hsz hby hz hm
    split at h
    · rename_i hc
      obtain ⟨hb64, hzl, hpos⟩ := hc
      split at h
      · cases h
      · rename_i new hnew
        obtain ⟨n1, n2, n3⟩ := rowCells_sound (P := P) hR hnew hx
        have hlen := fun w => rowLen_sound (P := P) hm ρ w
        have hnew' : ∀ w', w.grownBy w' none → (Builtin.firstCells esz m (x.val ρ)).run P w' = .ok (new.map (V.val ρ)).toArray w' := fun w' hg => (rowCells_sound (P := P) (hR.quiet hg) hnew hx).2.1
        split at h
        · split at h
          · rename_i hm0
            simp only [Option.some.injEq, Prod.mk.injEq] at h
            obtain ⟨rfl, rfl⟩ := h
            refine ⟨D, ρ, w, ?_, Nx.refl _ _ _, hR, trivial⟩
            rw [V.val_nilslice]
            have := r_append_room (P := P) (ty := ty) ht hu hd hsz hlen none 0 0 (by omega) n2 rfl
            rw [hm0] at this
            exact this
          · rename_i hm0
            split at h
            · rename_i hmost
              simp only [Option.some.injEq, Prod.mk.injEq] at h
              obtain ⟨rfl, rfl⟩ := h
              obtain ⟨ncap, rest, g1, g2, g3⟩ := r_append_grow (P := P) (ty := ty) (old := []) ht hu hd hsz hby hz hzl hb64 hlen none 0 0 (by omega) (by unfold mostRow at hmost; omega) (fun w' _ => rfl) hnew'
              rw [Nat.zero_add] at g1 g2 g3
              obtain ⟨D', ρ', w', e1, e2, e3, e4⟩ := grow_done hR (e := e) n1 n3 g1 g2
              refine ⟨D', ρ', w', ?_, e2, e3, e4⟩
              rw [V.val_nilslice, g3, ← e1]
              rfl
            · cases h
        · rename_i n off len c ex
          have hroom : len ≤ (if ex then c else (ρ n).cap - c) ∨ ex = true := by
            cases ex with
            | true => exact .inr rfl
            | false => have := hs.2 rfl; exact .inl (by simp only [Bool.false_eq_true, if_false]; omega)
          split at h
          · rename_i hm0
            split at h
            · rename_i hcap
              simp only [Option.some.injEq, Prod.mk.injEq] at h
              obtain ⟨rfl, rfl⟩ := h
              refine ⟨D, ρ, w, ?_, Nx.refl _ _ _, hR, hs⟩
              rw [V.val_slice]
              have hn0 : new = [] := List.eq_nil_of_length_eq_zero (by rw [n3, hm0, Nat.zero_mul])
              have := r_append_room (P := P) (ty := ty) ht hu hd hsz hlen (some ⟨(ρ n).blk, (ρ n).base + off, none⟩) len (if ex then c else (ρ n).cap - c) (by
                rw [hm0]
                rcases hroom with h | h
                · exact h
                · subst h; simp only [if_true]; rcases hcap with h | h
                  · cases h
                  · exact h) n2 (w' := w) (by rw [hn0]; rfl)
              rw [hm0] at this
              exact this
            · cases h
          · rename_i hm0
            split at h
            · rename_i hin
              obtain ⟨hex, hcap⟩ := hin
              subst hex
              split at h
              · rename_i H1 hst
                simp only [Option.some.injEq, Prod.mk.injEq] at h
                obtain ⟨rfl, rfl⟩ := h
                obtain ⟨s1, s2, w', s3, s4⟩ := store_sound (P := P) hR hst hs.1 (fun v hv => (n1 v hv).1)
                refine ⟨D, ρ, w', ?_, nx_same s1 hs.1 s2, s4, hs.1, by simp⟩
                rw [V.val_slice, V.val_slice]
                simp only [if_true]
                exact r_append_room (P := P) (ty := ty) ht hu hd hsz hlen (some ⟨(ρ n).blk, (ρ n).base + off, none⟩) len c hcap n2 (w' := w') (by
                  simp only [Addr_add]
                  rw [show (ρ n).base + off + len * esz = (ρ n).base + (off + len * esz) from by omega]
                  exact s3)
              · cases h
            · rename_i hin
              split at h
              · rename_i hmost
                split at h
                · cases h
                · rename_i old hold
                  obtain ⟨o1, o2, o3⟩ := cellsAt_sound hR hs.1 hold
                  have hold' : ∀ cap w', w.grownBy w' none → (Builtin.firstCells esz len (.slice (some ⟨(ρ n).blk, (ρ n).base + off, none⟩) len cap)).run P w' = .ok (old.map (V.val ρ)).toArray w' := fun cap w' hg => load_cells (hR.quiet hg) hs.1 hold
                  have hall : ∀ u ∈ old ++ new, u.In D ρ ∧ u.one = true := fun u hu => by
                    rcases List.mem_append.1 hu with h | h
                    · exact o2 u h
                    · exact n1 u h
                  have hlall : (old ++ new).length = (len + m) * esz := by rw [List.length_append, o1, n3, Nat.add_mul]
                  split at h
                  · rename_i hex
                    subst hex
                    simp only [Option.some.injEq, Prod.mk.injEq] at h
                    obtain ⟨rfl, rfl⟩ := h
                    obtain ⟨ncap, rest, g1, g2, g3⟩ := r_append_grow (P := P) (ty := ty) ht hu hd hsz hby hz hzl hb64 hlen (some ⟨(ρ n).blk, (ρ n).base + off, none⟩) len c (by simp only [true_and] at hin; omega) (by unfold mostRow at hmost; omega) (hold' c) hnew'
                    obtain ⟨D', ρ', w', e1, e2, e3, e4⟩ := grow_done hR (e := e) hall hlall g1 g2
                    refine ⟨D', ρ', w', ?_, e2, e3, e4⟩
                    rw [V.val_slice]
                    simp only [if_true]
                    rw [g3, ← e1, List.map_append]
                  · rename_i hex
                    split at h
                    · rename_i size ov base g hg
                      split at h
                      · rename_i hgs
                        simp only [Option.some.injEq, Prod.mk.injEq] at h
                        obtain ⟨rfl, rfl⟩ := h
                        obtain ⟨rfl, hoff, hsize⟩ := hgs
                        have hexf : ex = false := by simpa using hex
                        subst hexf
                        have hroom := hs.2 rfl
                        have hdead : ∀ {w'}, w.grownBy w' (some (ρ n).blk) → Rel gl w0 D ρ (H.set n .dead) w' := fun hg' => hR.turn hs.1 hg rfl hg' trivial
                        have hnx : Nx D ρ H D ρ (H.set n .dead) := nx_same rfl hs.1 (fun m hm => by rw [Hp.get_set (Hp.get_lt hg), if_neg hm])
                        by_cases hfits : len + m ≤ (ρ n).cap - c
                        · obtain ⟨c0, el, fz, hh, hcell, hw, _⟩ := hR.ob n _ hs.1 hg
                          obtain ⟨w1, w2, w3, w4⟩ := hw rfl
                          have hc0 := w4 hpos
                          have hmul : (c + (len + m)) * g ≤ (ρ n).cap * g := Nat.mul_le_mul_right _ (by omega)
                          have hmul2 : (ρ n).cap * g = c * g + ((ρ n).cap - c) * g := by rw [← Nat.add_mul]; congr 1; omega
                          have hdist : (c + (len + m)) * g = c * g + (len * g + m * g) := by rw [Nat.add_mul, Nat.add_mul]
                          obtain ⟨w', c', a1, a2, a3, a4, a5⟩ := r_storeCells (P := P) (ρ n).blk ((ρ n).base + off + len * g) el fz ρ new 0 c0 w hh w3 (fun v hv => (n1 v hv).2) (by rw [n3]; omega)
                          have hR1 := hdead a5
                          have hx1 := upd_self ρ H.next ⟨(ρ n).blk, (ρ n).base + off, (ρ n).cap - c⟩
                          have hni := not_next hR
                          have hat : ObAt (fun k => D k ∨ k = H.next) (upd ρ H.next ⟨(ρ n).blk, (ρ n).base + off, (ρ n).cap - c⟩) w0 w' H.next (newCells (old ++ new) g) := by
                            refine ⟨c', el, fz, by rw [hx1]; exact a2, fun i v hv => ?_, fun _ => ⟨by rw [hx1]; exact w1, by rw [hx1]; simp only [hlall, a3, Nat.add_mul]; omega, fun i hi => w3 i (by omega), fun _ => by rw [hx1]; simp only [a3]; omega⟩, by simp⟩
                            rw [cellOf_new] at hv
                            have hmem := List.mem_of_getElem? hv
                            refine ⟨?_, (hall v hmem).1.mono (upd_old hni), (hall v hmem).2⟩
                            rw [hx1, V.val_ext (fun n hn => (upd_old hni n hn).2) (hall v hmem).1, a4]
                            by_cases hi : i < old.length
                            · rw [List.getElem?_append_left hi] at hv
                              rw [if_neg (by simp only []; omega)]
                              have hc := o3 i (v.val ρ) (by rw [List.getElem?_map, hv]; rfl)
                              simp only [World.cell?, hh] at hc
                              simpa using hc
                            · rw [List.getElem?_append_right (by omega)] at hv
                              have hl2 := (List.getElem?_eq_some_iff.1 hv).1
                              rw [if_pos (by simp only []; omega), List.getElem?_map, show (ρ n).base + off + i - ((ρ n).base + off + len * g + 0) = i - old.length from by omega, hv]
                              rfl
                          refine ⟨_, upd ρ H.next ⟨(ρ n).blk, (ρ n).base + off, (ρ n).cap - c⟩, w', ?_, hnx.trans (nx_push hR1 _ _), hR1.add (H' := (H.set n .dead).push _) (not_next hR1) (by rw [Hp.next_push, Hp.next_set]; omega) (by rw [Hp.next_push, Hp.next_set]; omega) (fun k hk => by
                            rw [Hp.get_push, if_neg]
                            rintro rfl
                            exact not_next hR1 hk) (by rw [Hp.get_push, Hp.next_set, if_pos rfl]) (World.grownBy.refl _ _) ?_ hat, .inr rfl, fun _ => by rw [hx1]; simp only []; omega⟩
                          · rw [V.val_slice, V.val_slice, hx1]
                            simp only [Bool.false_eq_true, if_false]
                            exact r_append_room (P := P) (ty := ty) ht hu hd hsz hlen (some ⟨(ρ n).blk, (ρ n).base + off, none⟩) len ((ρ n).cap - c) hfits n2 (w' := w') (by
                              simp only [Addr_add]
                              exact a1)
                          · intro k p hk hp hpo e
                            rw [Hp.get_set (Hp.get_lt hg)] at hp
                            by_cases ek : k = n
                            · subst ek
                              rw [if_pos rfl] at hp
                              cases hp
                              simp [Ob.own] at hpo
                            · rw [if_neg ek] at hp
                              exact hR.inj k n p _ hk hs.1 ek hp hg hpo rfl e
                        · have hR1 := hdead (World.grownBy.refl w (some (ρ n).blk))
                          obtain ⟨ncap, rest, g1, g2, g3⟩ := r_append_grow (P := P) (ty := ty) ht hu hd hsz hby hz hzl hb64 hlen (some ⟨(ρ n).blk, (ρ n).base + off, none⟩) len ((ρ n).cap - c) (by omega) (by unfold mostRow at hmost; omega) (hold' _) hnew'
                          obtain ⟨D', ρ', w', e1, e2, e3, e4⟩ := grow_done hR1 (e := e) hall hlall g1 g2
                          refine ⟨D', ρ', w', ?_, hnx.trans e2, e3, e4⟩
                          rw [V.val_slice]
                          simp only [Bool.false_eq_true, if_false]
                          rw [g3]
                          rw [Hp.next_set] at e1
                          rw [← e1, List.map_append]
                      · cases h
                    · cases h
              · cases h
        · exact absurd rfl (hnt _ _ _ _)
        · cases h
    · cases h
  · cases h
theorem append_sound {t u ty e : TypeId} {d : TypeDesc} (hR : Rel gl w0 D ρ H w) (ht : P.underlying t = some (.slice e)) (hu : P.underlying u = some d) (hd : notInt d = true) {s x v : V} {H' : Hp} (h : appendV P e H s x = some (v, H')) (hs : s.In D ρ) (hx : x.In D ρ) :
    ∃ D' ρ' w', (Builtin.append_ #[t, u] ty #[s.val ρ, x.val ρ]).run P w = .ok (v.val ρ') w' ∧ Nx D ρ H D' ρ' H' ∧ Rel gl w0 D' ρ' H' w' ∧ v.In D' ρ' := by
  by_cases hnt : ∀ n a b c, s ≠ .tail n a b c
  · exact append_sound0 hR ht hu hd hnt h hs hx
  · have : ∃ n a b c, s = .tail n a b c := by
      cases s <;> first | exact ⟨_, _, _, _, rfl⟩ | exact absurd (by intros; simp) hnt
    obtain ⟨n, off, off', c, rfl⟩ := this
    clear hnt
    obtain ⟨hD, hcap⟩ := hs
    unfold appendV at h
    split at h
    · rename_i esz by_ z m hsz hby hz hm
      split at h
      · rename_i hc
        obtain ⟨hb64, hzl, hpos⟩ := hc
        split at h
        · cases h
        · rename_i new hnew
          obtain ⟨n1, n2, n3⟩ := rowCells_sound (P := P) hR hnew hx
          have hlen := fun w => rowLen_sound (P := P) hm ρ w
          simp only at h
          split at h
          · rename_i hm0
            simp only [Option.some.injEq, Prod.mk.injEq] at h
            obtain ⟨rfl, rfl⟩ := h
            refine ⟨D, ρ, w, ?_, Nx.refl _ _ _, hR, hD, hcap⟩
            rw [V.val_tail]
            have hn0 : new = [] := List.eq_nil_of_length_eq_zero (by rw [n3, hm0, Nat.zero_mul])
            have := r_append_room (P := P) (ty := ty) ht hu hd hsz hlen (some ⟨(ρ n).blk, (ρ n).base + (if (ρ n).cap - c = 0 then off else off'), none⟩) 0 ((ρ n).cap - c) (by omega) n2 (w' := w) (by rw [hn0]; rfl)
            rw [hm0] at this
            exact this
          · rename_i hm0
            split at h
            · rename_i hmost
              split at h
              · rename_i size ov base g hg
                split at h
                · rename_i hgs
                  obtain ⟨rfl, hoff, hsize⟩ := hgs
                  simp only [Option.some.injEq, Prod.mk.injEq] at h
                  obtain ⟨rfl, rfl⟩ := h
                  by_cases hz0 : (ρ n).cap - c = 0
                  · have hdead : Rel gl w0 D ρ (H.set n .dead) w := hR.turn hD hg rfl (World.grownBy.refl w (some (ρ n).blk)) trivial
                    have hnx : Nx D ρ H D ρ (H.set n .dead) := nx_same rfl hD (fun m hm => by rw [Hp.get_set (Hp.get_lt hg), if_neg hm])
                    have hnew' : ∀ w', w.grownBy w' none → (Builtin.firstCells g m (x.val ρ)).run P w' = .ok (new.map (V.val ρ)).toArray w' := fun w' hg => (rowCells_sound (P := P) (hR.quiet hg) hnew hx).2.1
                    obtain ⟨ncap, rest, g1, g2, g3⟩ := r_append_grow (P := P) (ty := ty) (old := []) ht hu hd hsz hby hz hzl hb64 hlen (some ⟨(ρ n).blk, (ρ n).base + off, none⟩) 0 0 (by omega) (by unfold mostRow at hmost; omega) (fun w' _ => by simp only [Builtin.firstCells, Nat.zero_mul]; rfl) hnew'
                    rw [Nat.zero_add] at g1 g2 g3
                    obtain ⟨D', ρ', w', e1, e2, e3, e4⟩ := grow_done hdead (e := e) n1 n3 g1 g2
                    refine ⟨D', ρ', w', ?_, hnx.trans e2, e3, e4⟩
                    rw [V.val_tail, hz0, if_pos rfl, g3]
                    rw [Hp.next_set] at e1
                    rw [← e1]
                    rfl
                  · have hv : (V.tail n off off' c).val ρ = (V.slice n off' 0 c false).val ρ := by
                      rw [V.val_tail, V.val_slice, if_neg hz0]
                      simp
                    rw [hv]
                    refine append_sound0 hR ht hu hd (by intros; simp) ?_ (s := .slice n off' 0 c false) ⟨hD, fun _ => by omega⟩ hx
                    unfold appendV
                    simp only [hsz, hby, hz, hm]
                    rw [if_pos ⟨hb64, hzl, hpos⟩]
                    simp only [hnew]
                    rw [if_neg hm0, if_neg (by simp), if_pos (by omega)]
                    simp only [Nat.zero_mul, Hp.cellsAt, hg, Bool.false_eq_true, if_false, Nat.zero_add, Nat.add_zero, List.nil_append]
                    rw [if_pos ⟨trivial, hoff, hsize⟩]
                · cases h
              · cases h
            · cases h
      · cases h
    · cases h
end
end Go.Ev
