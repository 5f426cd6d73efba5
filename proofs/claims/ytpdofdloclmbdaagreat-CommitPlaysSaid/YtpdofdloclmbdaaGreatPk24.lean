/- Texts of ours, packed. -/
import Derived.Laws.EntriesVeiled
import Derived.Test.YtpdofdloclmbdaaGreatPk23
section
/- Package commit: Step, Phase, Left. -/
namespace Go.Proofs.YtpdofdloclmbdaaGreat
open Go.RowKit Go.Grommet

theorem slice_tail2 (q o n cap : Nat) : ∃ ad', ((ad' = some (⟨q, o, none⟩ : Addr) ∧ cap = 1) ∨ ad' = some ⟨q, o + 2, none⟩) ∧ ∀ w, (Instr.slice 103 (.slice (some ⟨q, o, none⟩) (n + 1) cap) (some (.int .i64 1)) none none).run Tryz.prog w = .ok (.slice ad' n (cap - 1)) w := by
  have hT := Tryz.underlying103
  have he : Tryz.prog.elem 103 = 142 := elem_of hT
  refine ⟨if cap = 1 then some ⟨q, o, none⟩ else some ⟨q, o + 2, none⟩, ?_, ?_⟩
  · by_cases h : cap = 1
    · rw [if_pos h]; exact .inl ⟨rfl, h⟩
    · rw [if_neg h]; exact .inr rfl
  · intro w
    have ht : Tryz.prog.underlying 103 = some (.slice (Tryz.prog.elem 103)) := by rw [he]; exact hT
    rw [run_slice_l (a := some ⟨q, o, none⟩) (ht := ht) (h0 := by omega) (h1 := by omega), he, Tryz.sizeOf142]
    by_cases h : cap = 1
    · simp [Result.andThen, sliced, h]
    · simp [Result.andThen, sliced, h, Addr.add_lit]

/-- The first step goes. -/
theorem run_pop {w0 w : World} {Ps : List Pr} {R D : Nat} {a b c : Int} {A : Nat} {Bs : List Nat} {Pn : List (Cl × Value)} {S : List (Nat × Cl)} {p : Nat} {cl : Cl} (h : Grommet.Own w0 w Ps) (k : Nat) (hk : Ps[k]? = some (runP R D a b c A Bs Pn ((p, cl) :: S))) :
    ∃ g o cap ad' fn fi ca, 1 ≤ cap ∧ w.cell? ⟨R, 5, none⟩ = some (.slice (some ⟨g, o, none⟩) (S.length + 1) cap) ∧ w.cell? ⟨g, o, none⟩ = some (.int .u8 (p : Int)) ∧ w.cell? ⟨g, o + 1, none⟩ = some (.func fn fi ca) ∧
      (∀ wx, (Instr.slice 103 (.slice (some ⟨g, o, none⟩) (S.length + 1) cap) (some (.int .i64 1)) none none).run Tryz.prog wx = .ok (.slice ad' S.length (cap - 1)) wx) ∧
      ∀ wx Qs, w.grownBy wx none → Grommet.Own w0 wx Qs → Qs[k]? = some (runP R D a b c A Bs Pn ((p, cl) :: S)) → wx.frozen? ⟨R, 5, none⟩ = false ∧ wx.cell? ⟨R, 5, none⟩ = some (.slice (some ⟨g, o, none⟩) (S.length + 1) cap) ∧ Grommet.Own w0 (wx.setCell ⟨R, 5, none⟩ (.slice ad' S.length (cap - 1))) (Qs.set k (runP R D a b c A Bs [(cl, .func fn fi ca)] S)) := by
  obtain ⟨F, ad, cap, cvs, hR⟩ := h.get k hk
  obtain ⟨cv, cvs, rfl⟩ : ∃ cv t, cvs = cv :: t := by
    cases cvs with
    | nil => have := hR.len; simp at this
    | cons cv t => exact ⟨cv, t, rfl⟩
  obtain ⟨fn, fi, ca, rfl⟩ := (hR.clo 0 (p, cl) cv rfl rfl).func
  obtain ⟨g, o, rfl, hcap, c1, c2, ⟨cur, hcur⟩, _⟩ := Row2.tail hR.row
  obtain ⟨ad', had, hsl⟩ := slice_tail2 g o S.length cap
  refine ⟨g, o, cap, ad', fn, fi, ca, by omega, by simp [World.cell?, hR.box], c1, c2, hsl, ?_⟩
  intro wx Qs hg hO hq
  obtain ⟨Fx, ⟨adx, capx, cvx, hX⟩, hback⟩ := hO.take k hq
  have hb1 := hR.box
  have hbx := (hg.block R (Array.getElem?_eq_some_iff.1 hb1).1 (by simp)).trans hb1
  have hbx0 := hX.box
  have he : Value.slice adx ((p, cl) :: S).length capx = .slice (some ⟨g, o, none⟩) ((p, cl) :: S).length cap := by
    rw [hbx] at hbx0
    simp only [Option.some.injEq, Obj.cells.injEq, Array.mk.injEq, List.cons.injEq] at hbx0
    exact hbx0.1.2.2.2.2.2.1.symm
  rw [Value.slice.injEq] at he
  obtain ⟨rfl, _, rfl⟩ := he
  obtain ⟨cv, cvx, rfl⟩ : ∃ cv t, cvx = cv :: t := by
    cases cvx with
    | nil => have := hX.len; simp at this
    | cons cv t => exact ⟨cv, t, rfl⟩
  obtain ⟨g', o', he', _, x1, x2, _, hrow⟩ := Row2.tail hX.row
  cases he'
  have hc2 := hg.cell c2 (by simp)
  rw [x2] at hc2
  cases hc2
  have hrow' := hrow ad' had
  have hRg : g ≠ R := by
    intro e
    subst e
    have := (hg.block g (Array.getElem?_eq_some_iff.1 hcur).1 (by simp)).trans hcur
    rw [hbx] at this
    simp at this
  have ht : Turn (fun i => i = R) wx (wx.setCell ⟨R, 5, none⟩ (.slice ad' S.length (capx - 1))) := Turn.of (grown_setCell wx ⟨R, 5, none⟩ _) (fun i e => by cases e; rfl)
  have hown : ∀ i, (Value.slice ad' S.length (capx - 1)).ownBlock = some i → i = g := by
    intro i hi
    rcases had with ⟨rfl, _⟩ | rfl
    · cases hi; rfl
    · cases hi; rfl
  have hpast : ∀ {cc : Cl} {cvy : Value} {G : Nat → Prop}, CloIs wx G R D cc cvy → CloIs (wx.setCell ⟨R, 5, none⟩ (.slice ad' S.length (capx - 1))) G R D cc cvy := fun hC => hC.past ht (fun i hi => by
    subst hi; exact ⟨_, _, _, hbx, .inr rfl⟩)
  refine ⟨by simp [World.frozen?, hbx], by simp [World.cell?, hbx], ?_⟩
  refine hback _ _ ⟨Fx, ⟨ad', capx - 1, cvx, heap_setCell_at (o := 5) hbx _, hrow'.turn ht (fun i hi e => hRg ((hown i hi).symm.trans e)), hX.own, fun i hi => ?_, by have := hX.len; simpa using this, fun i s cvi hs hcv => hpast (hX.clo (i + 1) s cvi hs hcv), fun x hx => ?_, fun x hx => ⟨?_, (hX.boxes x hx).2⟩, fun i hi => by have := hX.old i hi; simpa [World.setCell] using this⟩, fun i hi => .inl hi, ht.mono (fun i e => .inl (by subst e; exact hX.own))⟩
  · rw [hown i hi]; exact hX.ownRow g rfl
  · obtain rfl := List.mem_singleton.1 hx
    exact hpast (hX.clo 0 (p, cl) _ rfl rfl)
  · have hx1 := (hX.boxes x hx).1
    refine ht.obj hx1 ?_
    rintro rfl
    rw [hbx] at hx1
    simp at hx1

/-- What a closure looks like. -/
def CloF (D : Nat) (fn : Fn) (fi ca : Array Value) : Prop :=
  (∃ x y z, fn = .func 112 ∧ fi = #[] ∧ ca = #[ptr x, ptr y, ptr z]) ∨ (∃ x y, fn = .func 115 ∧ fi = #[] ∧ ca = #[ptr x, ptr y]) ∨ (fn = .func 117 ∧ fi = #[ptr D] ∧ ca = #[])
/-- A closure that waits is called. -/
theorem do_any (k j R D : Nat) (a b c : Int) (A : Nat) (Bs : List Nat) (cl : Cl) (fn : Fn) (fi ca : Array Value) (S : List (Nat × Cl)) (ws : List PW) (N : Nat) (w0 w : World) (Ps : List Pr) (h : Grommet.Own w0 w Ps) (hk : Ps[k]? = some (runP R D a b c A Bs [(cl, .func fn fi ca)] S)) (hj : Ps[j]? = some (devP D ws)) (hN : ws.length = 8 * N) (hok : cl.ok ws.length) :
    CloF D fn fi ca ∧ ∃ f, fn = .func f ∧ Calls Tryz.prog f (fi ++ ca) w fun e w' => e = .returned (.int .i64 0) ∧ Grommet.Own w0 w' (Ps.set j (devP D (cl.does ws))) := by
  obtain ⟨F, ad, cap, cvs, hR⟩ := h.get k hk
  have hc : CloIs w F R D cl (.func fn fi ca) := hR.pend (cl, .func fn fi ca) (List.mem_singleton.2 rfl)
  have hc0 := (run_cells h k hk).1
  cases cl with
  | store at_ v =>
    obtain ⟨br, ba, bv, e, h1, h2, h3, _⟩ := hc
    cases e
    exact ⟨.inl ⟨br, ba, bv, rfl, rfl, rfl⟩, _, rfl, doStore j D R br ba bv at_ v ws w0 w Ps h hj h1 h2 h3 hc0 hok.1 hok.2⟩
  | flush l =>
    obtain ⟨br, bl, e, h1, h2, _⟩ := hc
    cases e
    exact ⟨.inr (.inl ⟨br, bl, rfl, rfl, rfl⟩), _, rfl, doFlush j D R br bl l ws w0 w Ps h hj h1 h2 hc0 hok⟩
  | fence =>
    cases hc
    exact ⟨.inr (.inr ⟨rfl, rfl, rfl⟩), _, rfl, FenceH j D ws w0 w Ps h hj N hN⟩

set_option maxRecDepth 100000 in
set_option maxHeartbeats 2000000 in
theorem StepH (k j R D : Nat) (a b c : Int) (A : Nat) (Bs : List Nat) (Pn : List (Cl × Value)) (p : Nat) (cl : Cl) (S : List (Nat × Cl)) (ws : List PW) (N : Nat) (w0 w : World) (Ps : List Pr) (h : Grommet.Own w0 w Ps) (hk : Ps[k]? = some (runP R D a b c A Bs Pn ((p, cl) :: S))) (hj : Ps[j]? = some (devP D ws)) (hjk : j ≠ k) (hN : ws.length = 8 * N) (hok : cl.ok ws.length) :
    Calls Tryz.prog 23 #[ptr R] w fun e w' => e = .returned (.tuple #[.int .u8 (p : Int), .int .i64 0]) ∧ ∃ Pn', Grommet.Own w0 w' ((Ps.set k (runP R D a b c A Bs Pn' S)).set j (devP D (cl.does ws))) := by
  have hkl := (List.getElem?_eq_some_iff.1 hk).1
  have hjl := (List.getElem?_eq_some_iff.1 hj).1
  obtain ⟨g, o, cap, ad', fn, fi, ca, hc1, c0, c1, c2, hsl, hnext⟩ := run_pop h k hk
  have hD : ∀ wx, Grommet.Own w0 wx ((Ps ++ [boxP w.heap.size 142 #[.int .u8 (p : Int), .func fn fi ca]]).set k (runP R D a b c A Bs [(cl, .func fn fi ca)] S)) → CloF D fn fi ca ∧ ∃ f, fn = .func f ∧ Calls Tryz.prog f (fi ++ ca) wx fun e w' => e = .returned (.int .i64 0) ∧ w'.cell? ⟨w.heap.size, 0, none⟩ = some (.int .u8 (p : Int)) ∧ Grommet.Own w0 w' ((Ps.set k (runP R D a b c A Bs [(cl, .func fn fi ca)] S)).set j (devP D (cl.does ws))) := by
    intro wx hO
    rw [List.set_append_left _ _ hkl] at hO
    obtain ⟨hF, f, rfl, hC⟩ := do_any k j R D a b c A Bs cl fn fi ca S ws N w0 wx _ hO (by rw [List.getElem?_append_left (by simpa using hkl), List.getElem?_set_self hkl]) (by rw [List.getElem?_append_left (by simpa using hjl), List.getElem?_set_ne (fun e => hjk e.symm)]; exact hj) hN hok
    refine ⟨hF, f, rfl, hC.mono ?_⟩
    rintro e w' ⟨rfl, hO'⟩
    rw [List.set_append_left _ _ (by simpa using hjl)] at hO'
    have hb := hO'.box ((Ps.set k (runP R D a b c A Bs [(cl, .func (.func f) fi ca)] S)).set j (devP D (cl.does ws))).length (X := w.heap.size) (T := 142) (cs := #[.int .u8 (p : Int), .func (.func f) fi ca]) (by simp)
    exact ⟨rfl, by simp [World.cell?, hb], hO'.less⟩
  have hbx : Grommet.Own w0 (w.alloc (.cells #[.int .u8 (p : Int), .func fn fi ca] 142)) (Ps ++ [boxP w.heap.size 142 #[.int .u8 (p : Int), .func fn fi ca]]) := h.addBox _ _
  obtain ⟨w1, hw1⟩ : ∃ w1, w.alloc (.cells #[.int .u8 (p : Int), .func fn fi ca] 142) = w1 := ⟨_, rfl⟩
  obtain ⟨X, hX⟩ : ∃ X, w.heap.size = X := ⟨_, rfl⟩
  rw [hw1, hX] at hbx
  rw [hX] at hD
  have hg1 : w.grownBy w1 none := by rw [← hw1]; exact World.grownBy_alloc _ _ none
  obtain ⟨z1, c5, hO2⟩ := hnext w1 _ hg1 hbx (by rw [List.getElem?_append_left hkl]; exact hk)
  obtain ⟨hF, f, hf, hC⟩ := hD _ hO2
  have hb1 := hbx.box Ps.length (X := X) (T := 142) (cs := #[.int .u8 (p : Int), .func fn fi ca]) (by simp)
  have hRX : R ≠ X := by
    intro e
    subst e
    rw [World.cell?, hb1] at c5
    simp at c5
  have d1 : (w1.setCell ⟨R, 5, none⟩ (.slice ad' S.length (cap - 1))).cell? ⟨X, 1, none⟩ = some (.func fn fi ca) := by
    have := ((grown_setCell w1 ⟨R, 5, none⟩ (.slice ad' S.length (cap - 1))).block X (Array.getElem?_eq_some_iff.1 hb1).1 (by intro e; cases e; exact hRX rfl)).trans hb1
    simp [World.cell?, this]
  subst hf
  have HC := Lib.hid hC
  obtain ⟨w2, hw2⟩ : ∃ w2, w1.setCell ⟨R, 5, none⟩ (.slice ad' S.length (cap - 1)) = w2 := ⟨_, rfl⟩
  rw [hw2] at d1 HC
  obtain ⟨K, hK⟩ : ∃ K, cap - 1 = K := ⟨_, rfl⟩
  rw [hK] at hsl hw2
  have q0 : ((S.length + 1 : Nat) : Int) ≠ 0 := by omega
  have q1 : (((S.length : Nat) : Int) + 1 == 0) = false := by rw [beq_eq_false_iff_ne]; omega
  have q2 : (((S.length + 1 : Nat) : Int) == 0) = false := by rw [beq_eq_false_iff_ne]; omega
  have q3 : (0 : Int) < ((S.length + 1 : Nat) : Int) := by omega
  generalize S.length = n at c0 hsl q0 q1 q2 q3 c5 hw2
  unfold ptr
  clear h hk hj hN hok hD hbx hnext hO2 hC hb1 hjl hg1 hjk hK
  rcases hF with ⟨x, y, z, e1, rfl, rfl⟩ | ⟨x, y, e1, rfl, rfl⟩ | ⟨e1, rfl, rfl⟩
  · cases e1
    simp only [Array.empty_append, ptr] at HC d1 c2 hw1
    go_enter Tryz.func23, Tryz.ntmps23
    go_wp2_with fail
    refine HC.out.mono ?_
    rintro e w3 ⟨rfl, d2, hO⟩
    have hO := Lib.hid hO
    go_wp2
    go_ret2
    exact ⟨rfl, _, hO.out⟩
  · cases e1
    simp only [Array.empty_append, ptr] at HC d1 c2 hw1
    go_enter Tryz.func23, Tryz.ntmps23
    go_wp2_with fail
    refine HC.out.mono ?_
    rintro e w3 ⟨rfl, d2, hO⟩
    have hO := Lib.hid hO
    go_wp2
    go_ret2
    exact ⟨rfl, _, hO.out⟩
  · cases e1
    simp only [Array.append_empty, ptr] at HC d1 c2 hw1
    go_enter Tryz.func23, Tryz.ntmps23
    go_wp2_with fail
    refine HC.out.mono ?_
    rintro e w3 ⟨rfl, d2, hO⟩
    have hO := Lib.hid hO
    go_wp2
    go_ret2
    exact ⟨rfl, _, hO.out⟩
end Go.Proofs.YtpdofdloclmbdaaGreat
end
