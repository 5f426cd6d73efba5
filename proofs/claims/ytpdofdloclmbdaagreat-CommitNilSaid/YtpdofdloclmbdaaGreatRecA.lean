/- Package record: Words. -/
import Derived.Test.YtpdofdloclmbdaaGreatWr
import Derived.Test.YtpdofdloclmbdaaGreatSumB
import Derived.Test.YtpdofdloclmbdaaGreatRecMath
import Derived.Test.YtpdofdloclmbdaaGreatLayW
namespace Go.Proofs.YtpdofdloclmbdaaGreat
open Go.RowKit Go.Grommet

set_option maxHeartbeats 400000 in
theorem sizeOf_any (n : Int) (w : World) (h0 : 0 ≤ n) (h1 : n ≤ 1000) : Calls Tryz.prog 93 #[.int .i64 n] w fun e w' => e = .returned (.int .i64 (2 + 2 * n)) ∧ w = w' := by
  go_enter Tryz.func93, Tryz.ntmps93
  go_wp2
  go_ret
  exact ⟨rfl, rfl⟩

/-- A variable that holds a row of words. -/
structure VarAt (w : World) (X : Nat) (F : Nat → Prop) (ad : Option Addr) (cap : Nat) (xs : List Nat) : Prop where
  box : w.heap[X]? = some (.cells [.slice ad xs.length cap].toArray 33 (0, 0))
  row : w.ownsRow 0 44 1 (.slice ad xs.length cap) xs.length (xs.map wv)
  few : xs.length ≤ 1000
  fx : F X
  fr : ∀ i, (Value.slice ad xs.length cap).ownBlock = some i → F i ∧ i ≠ X
  old : ∀ i, F i → i < w.heap.size
def varP (X : Nat) (xs : List Nat) : Pr where
  holds w F := ∃ ad cap, VarAt w X F ad cap xs
  turn := fun h ht hn => by
    obtain ⟨ad, cap, h⟩ := h
    exact ⟨ad, cap, ht.obj h.box (hn _ h.fx), ht.row h.row (fun i hi => hn i (h.fr i hi).1), h.few, h.fx, h.fr, fun i hi => Nat.lt_of_lt_of_le (h.old i hi) ht.size⟩
  old := fun h => by obtain ⟨_, _, h⟩ := h; exact h.old

def PutIs (X : Nat) (F : Nat → Prop) (xs : List Nat) (w : World) (e : Ending) (w' : World) : Prop := e = .returned (.tuple #[]) ∧ DoesP F w w' (varP X xs)

theorem app64b {w : World} {ops : Array Oper} {rest : List Oper} {o : Oper} {a : Act} {Q : Exit → Act → World → Prop} (hgd : o.guard = none) (s x : Operand)
    (ho : o.op = .call { callee := .builtin .append, args := #[s, x], argTypes := #[33, 33] })
    (base : Nat) (v : Value) (n : Nat) (xs : List Nat) (hs : a.eval s = v) (hown : w.ownsRow base 44 1 v n (xs.map wv))
    (ad : Addr) (m c : Nat) (ys : List Nat) (hx : a.eval x = .slice (some ad) m c) (hl : ys.length = m) (hw : At w (some ad) (ys.map wv))
    (hb : n + m ≤ 1099511627776) (hbase : base ≤ w.heap.size)
    (h : ∀ ad' cap' w', w'.ownsRow base 44 1 (.slice ad' (n + m) cap') (n + m) ((xs ++ ys).map wv) → w.grownBy w' v.ownBlock → (∀ g, (Value.slice ad' (n + m) cap').ownBlock = some g → v.ownBlock = some g ∨ w.heap.size ≤ g) → wpList Tryz.prog ops Q rest (a.put o.dst (.slice ad' (n + m) cap')) w') : wpList Tryz.prog ops Q (o :: rest) a w := by
  obtain ⟨i0, hi, hz0, hz1, hz2⟩ := info_parts Tryz.info44
  refine wpList_append_blk w hgd s x 33 ho base 44 i0 (.int .u64 0) 1 8 Tryz.underlying33 hi hz0 hz1 hz2 rfl (by decide) v n (xs.map wv) hs hown ad m c (ys.map wv) hx (by rw [List.length_map, hl, Nat.mul_one]) hw.some (wv_oneCell ys) (by unfold maxLen; omega) (by omega) hbase ?_
  intro ad' cap' w' ho' hg hn
  exact h ad' cap' w' (by rw [List.map_append]; exact ho') hg hn

set_option maxHeartbeats 1000000 in
theorem put_any (X : Nat) (F : Nat → Prop) (xs : List Nat) (u : Nat) (w : World) (h : (varP X xs).holds w F) (hf : xs.length ≤ 999) :
    Calls Tryz.prog 94 #[.int .u64 (u : Int), .pointer (some ⟨X, 0, none⟩)] w (PutIs X F (xs ++ [u]) w) := by
  obtain ⟨ad, cap, h⟩ := h
  have hb := h.box
  have c0 := row_cell h.box 0 _ rfl
  have hX := h.old _ h.fx
  have hrow := h.row
  have hfr := h.fr
  have hfx := h.fx
  have hold := h.old
  obtain ⟨n, Hn⟩ : ∃ n, Hid (n = xs.length) := ⟨_, Lib.hid rfl⟩
  rw [← Hn.out] at c0 hrow hb hfr hf
  clear h
  go_enter Tryz.func94, Tryz.ntmps94
  go_wp2_with (at_builtin; refine app64b rfl _ _ rfl 0 _ n xs rfl (hrow.alloc _) ⟨w.heap.size, 0, none⟩ 1 1 [u] rfl rfl (at_of_row (heap_alloc_new w _)) ?a2 (Nat.zero_le _) ?_)
  case a2 => omega
  intro ad2 cap2 w2 hrow2 hg2 hnew2
  have hrow2 : w2.ownsRow 0 44 1 (.slice ad2 (n + 1) cap2) (n + 1) ((xs ++ [u]).map wv) := by simpa using hrow2
  have hg2' : w.grownBy w2 (Value.slice ad n cap).ownBlock := grown_trans (World.grownBy_alloc w _ _) hg2
  have hb2 : w2.heap[X]? = some (.cells [.slice ad n cap].toArray 33 (0, 0)) := (hg2'.block X hX (fun e => (hfr X e.symm).2 rfl)).trans hb
  have hnx : ∀ i, (Value.slice ad2 (n + 1) cap2).ownBlock = some i → (F i ∨ w.heap.size ≤ i) ∧ i ≠ X := fun i hi => by
    rcases hnew2 i hi with e | e
    · exact ⟨.inl (hfr i e).1, (hfr i e).2⟩
    · have e' : w.heap.size + 1 ≤ i := by simpa using e
      exact ⟨.inr (by omega), by omega⟩
  have t2 : Turn F w w2 := Turn.of hg2' (fun i e => (hfr i e).1)
  have t3 : Turn F w (w2.setCell ⟨X, 0, none⟩ (.slice ad2 (n + 1) cap2)) := t2.grown (grown_setCell _ _ _) (fun i e => by cases e; exact .inl hfx)
  have hr3 : (w2.setCell ⟨X, 0, none⟩ (.slice ad2 (n + 1) cap2)).ownsRow 0 44 1 (.slice ad2 (n + 1) cap2) (n + 1) ((xs ++ [u]).map wv) := hrow2.kept (grown_setCell w2 ⟨X, 0, none⟩ (.slice ad2 (n + 1) cap2)) (by
    cases hw : (Value.slice ad2 (n + 1) cap2).ownBlock with
    | none => exact .inl rfl
    | some k => exact .inr (fun e => by injection e with e; exact (hnx k hw).2 e))
  have hln : (xs ++ [u]).length = n + 1 := by rw [List.length_append, Hn.out]; rfl
  have HR : PutIs X F (xs ++ [u]) w (.returned (.tuple #[])) (w2.setCell ⟨X, 0, none⟩ (.slice ad2 (n + 1) cap2)) := by
    refine ⟨rfl, fun i => F i ∨ w.heap.size ≤ i ∧ i < (w2.setCell ⟨X, 0, none⟩ (.slice ad2 (n + 1) cap2)).heap.size, ⟨ad2, cap2, ?_, ?_, by rw [hln]; omega, .inl hfx, ?_, ?_⟩, fun i hi => hi.imp id (fun x => x.1), t3⟩
    · rw [hln]; exact row_set hb2 0 _
    · rw [hln]; exact hr3
    · intro i hi
      rw [hln] at hi
      refine ⟨?_, (hnx i hi).2⟩
      rcases (hnx i hi).1 with e | e
      · exact .inl e
      · exact .inr ⟨e, by have := row_old hr3 i hi; exact this⟩
    · intro i hi
      rcases hi with hi | hi
      · exact Nat.lt_of_lt_of_le (hold i hi) t3.size
      · exact hi.2
  replace HR := Lib.hid HR
  have d2 := row_cell hb2 0 _ rfl
  have df2 := row_free hb2 0
  clear hb2 hr3 hrow2 hg2 hg2' hnew2 hnx t2 t3 hln hrow hb hold hfr c0
  go_wp2
  go_end0
  exact HR.out

theorem putH (k X : Nat) (xs : List Nat) (u : Nat) (w0 w : World) (Ps Qs : List Pr) (h : Own w0 w Ps) (hk : Ps[k]? = some (varP X xs)) (hf : xs.length ≤ 999) (hQ : Ps.set k (varP X (xs ++ [u])) = Qs) :
    Calls Tryz.prog 94 #[.int .u64 (u : Int), .pointer (some ⟨X, 0, none⟩)] w fun e w' => e = .returned (.tuple #[]) ∧ Own w0 w' Qs := by
  obtain ⟨F, h1, h2⟩ := h.take k hk
  refine (put_any X F xs u w h1 hf).mono ?_
  rintro e w' ⟨rfl, hd⟩
  subst hQ
  exact ⟨rfl, h2 w' _ hd⟩

theorem Own.var {w0 w : World} {Ps : List Pr} (h : Own w0 w Ps) (k : Nat) {X : Nat} {xs : List Nat} (hk : Ps[k]? = some (varP X xs)) :
    ∃ ad cap, w.cell? ⟨X, 0, none⟩ = some (.slice ad xs.length cap) ∧ w.ownsRow 0 44 1 (.slice ad xs.length cap) xs.length (xs.map wv) ∧ (∀ i, (Value.slice ad xs.length cap).ownBlock = some i → w0.heap.size ≤ i) := by
  obtain ⟨Fs, h1, _, h3, _⟩ := h
  obtain ⟨ad, cap, hv⟩ := h1 k _ hk
  exact ⟨ad, cap, row_cell hv.box 0 _ rfl, hv.row, fun i hi => h3 k (List.getElem?_eq_some_iff.1 hk).1 i (hv.fr i hi).1⟩

def negB (M : List (Int × Nat)) : Bool := M.any fun p => decide (p.1 < 0)
def WordsNo (en : Int) (w : World) (e : Ending) (w' : World) : Prop := e = .returned (.tuple #[.slice none 0 0, .int .i64 en]) ∧ w.grownBy w' none
def WordsYes (base : Nat) (xs : List Nat) (w : World) (e : Ending) (w' : World) : Prop :=
  ∃ ad cap, e = .returned (.tuple #[.slice ad xs.length cap, .int .i64 0]) ∧ w'.ownsRow base 44 1 (.slice ad xs.length cap) xs.length (xs.map wv) ∧ w.grownBy w' none

set_option maxHeartbeats 400000 in
theorem Words_many (ad : Option Addr) (l c : Nat) (w : World) (h : 96 < l) : Calls Tryz.prog 55 #[.slice ad l c] w (WordsNo 5 w) := by
  have h' : (96 : Int) < (l : Int) := by omega
  go_enter Tryz.func55, Tryz.ntmps55
  go_wp2
  go_ret2
  exact ⟨rfl, World.grownBy.refl _ _⟩

def WordsAny (base : Nat) (M : List (Int × Nat)) (w : World) (e : Ending) (w' : World) : Prop := (negB M = true ∧ WordsNo 1 w e w') ∨ (negB M = false ∧ WordsYes base (recR M) w e w')

theorem u64_of_nat (n : Nat) (h : n ≤ 9223372036854775807) : IntKind.u64.wrap (n : Int) = (n : Int) := IntWalk.u64_in _ ⟨by omega, by omega⟩

set_option maxRecDepth 100000 in
set_option maxHeartbeats 4000000 in
theorem Words_few (base : Nat) (bd : Option Addr) (m c : Nat) (M : List (Int × Nat)) (w : World) (hat : At w bd (icells M)) (hL : M.length = m) (hm : m ≤ 96) (hv : ∀ p ∈ M, p.1 ≤ 9223372036854775807 ∧ p.2 < 18446744073709551616) (hb : base ≤ w.heap.size) :
    Calls Tryz.prog 55 #[.slice bd m c] w (WordsAny base M w) := by
  have HL := Lib.hid hL
  have HV := Lib.hid hv
  clear hL hv
  obtain ⟨i0, hi, hz0, hz1, hz2⟩ := info_parts Tryz.info44
  have h96 : ¬ (96 : Int) < (m : Int) := by omega
  have HS := Lib.hid (sizeOf_any (m : Int) w (by omega) (by omega))
  rw [show (2 : Int) + 2 * (m : Int) = ((2 + 2 * m : Nat) : Int) from by omega] at HS
  obtain ⟨N, HN⟩ : ∃ N, Hid (N = 2 + 2 * m) := ⟨_, Lib.hid rfl⟩
  rw [← HN.out] at HS
  have hN : N ≤ 194 := by rw [HN.out]; omega
  go_enter Tryz.func55, Tryz.ntmps55
  go_wp2_with fail
  refine HS.out.mono ?_
  rintro e u1 ⟨rfl, rfl⟩
  clear HS
  go_wp2_with (refine wpList_make_row _ rfl _ _ 33 rfl 44 i0 (.int .u64 0) Tryz.underlying33 hi hz0 hz1 _ _ _ N rfl rfl rfl ?m1 ?m2 ?_)
  case m1 => rw [hz2]; omega
  case m2 => unfold maxLen; omega
  intro u2 hrow hg
  have hcells : u2.heap[w.heap.size]? = some (.cells (madeCells #[.int .u64 0] N) 44 (0, 0)) := hrow
  have hms : (madeCells #[Value.int .u64 0] N).size = N := by simp [madeCells]
  have hown0 : u2.ownsRow 0 44 1 (.slice (some ⟨w.heap.size, 0, none⟩) 0 N) 0 [] := ⟨rfl, .inr ⟨w.heap.size, N, _, rfl, Nat.zero_le _, hcells, Nat.zero_le _, by unfold maxLen; omega, by rw [hms, Nat.mul_one], by simp⟩⟩
  have hgs := hg.size
  have hlt0 : w.heap.size < u2.heap.size := lt_of_block hcells
  have hO : Own w (u2.alloc (.cells #[.slice (some ⟨w.heap.size, 0, none⟩) 0 N] 33)) [varP u2.heap.size []] := by
    refine (Own.nil w).add (P := varP u2.heap.size []) (F := fun i => i = u2.heap.size ∨ i = w.heap.size) ⟨some ⟨w.heap.size, 0, none⟩, N, heap_alloc_new u2 _, hown0.alloc _, by simp, .inl rfl, ?_, ?_⟩ ?_ (grown_trans hg (World.grownBy_alloc _ _ _))
    · intro i hi
      cases hi
      exact ⟨.inr rfl, by show w.heap.size ≠ u2.heap.size; omega⟩
    · intro i hi
      rw [World.size_alloc]
      rcases hi with rfl | rfl <;> omega
    · intro i hi
      rcases hi with rfl | rfl <;> omega
  clear hown0 hcells hms hrow hi hz0 hz1 hz2 i0
  obtain ⟨X, HX⟩ : ∃ X, Hid (X = u2.heap.size) := ⟨_, Lib.hid rfl⟩
  rw [← HX.out] at hO
  have hwm := u64_of_nat m (by omega)
  have HP := Lib.hid (putH 0 X [] m w _ _ _ hO rfl (by simp) rfl)
  rw [HX.out] at HP
  clear hO
  go_wp2_with fail
  refine HP.out.mono ?_
  rintro e u3 ⟨rfl, hO⟩
  clear HP
  rw [← HX.out] at hO
  rw [← HX.out]
  have hO : Own w u3 [varP X (m :: flatR (M.take 0))] := hO
  replace hO := Lib.hid hO
  clear hg hgs hlt0 HX
  go_wp2_with fail
  go_loopw [23] (fun i wr => ∃ k : Nat, k ≤ m ∧ i = .int .i64 (k : Int) ∧ Hid ((∀ p ∈ M.take k, 0 ≤ p.1) ∧ Own w wr [varP X (m :: flatR (M.take k))])) (fun i _ => m - (intOf i).toNat)
  case atStart => exact ⟨0, Nat.zero_le _, rfl, Lib.hid ⟨by simp, hO.out⟩⟩
  case round =>
    clear hO
    obtain ⟨k, hk, rfl, HO⟩ := hrel
    have k0 : (0 : Int) ≤ (k : Int) := by omega
    by_cases hlt : k < m
    · have hlt' : (k : Int) < (m : Int) := by omega
      have hkL : k < M.length := by rw [HL.out]; exact hlt
      obtain ⟨q, o, rfl, v0, v1⟩ := at_ipair (hat.grown HO.out.2.grown (by simp)) k hkL
      have hpv := HV.out _ (getD_mem M k (0, 0) hkL)
      have HT := Lib.hid (take_snocD M k (0, 0) hkL)
      have HM := Lib.hid (getD_mem M k (0, 0) hkL)
      obtain ⟨A, A0⟩ : ∃ A, Hid (A = (M.getD k (0, 0)).1) := ⟨_, Lib.hid rfl⟩
      obtain ⟨V, V0⟩ : ∃ V, Hid (V = (M.getD k (0, 0)).2) := ⟨_, Lib.hid rfl⟩
      rw [← A0.out] at v0 hpv
      rw [← V0.out] at v1 hpv
      obtain ⟨hp1, hp2⟩ := hpv
      have HNn := Lib.hid HO.out.1
      by_cases hA : A < 0
      · have hg := HO.out.2.grown
        have HR : WordsAny base M w (.returned (.tuple #[.slice none 0 0, .int .i64 1])) (wr.alloc (.cells #[.int .i64 A, .int .u64 (V : Int)] 92)) :=
          .inl ⟨by unfold negB; rw [List.any_eq_true]; exact ⟨_, HM.out, by rw [← A0.out]; simpa using hA⟩, rfl, grown_trans hg (World.grownBy_alloc _ _ _)⟩
        replace HR := Lib.hid HR
        clear HO hg
        go_wp2
        go_ret2
        exact HR.out
      · obtain ⟨a, ha⟩ := Int.eq_ofNat_of_zero_le (show 0 ≤ A by omega)
        rw [ha] at v0
        have A1 : Hid (A = (a : Int)) := Lib.hid ha
        have hwa := u64_of_nat a (by omega)
        have ha0 : ¬ (a : Int) < 0 := by omega
        have hlen : (m :: flatR (M.take k)).length = 1 + 2 * k := by rw [List.length_cons, flatR_length, List.length_take, HL.out]; omega
        have HP := Lib.hid (putH 0 X (m :: flatR (M.take k)) a w _ _ _ (HO.out.2.addBox 92 #[.int .i64 (a : Int), .int .u64 (V : Int)]) rfl (by rw [hlen]; omega) rfl)
        clear HO
        go_wp2_with fail
        refine HP.out.mono ?_
        rintro e u4 ⟨rfl, hO⟩
        clear HP
        have hO : Own w u4 [varP X (m :: flatR (M.take k) ++ [a]), boxP wr.heap.size 92 #[.int .i64 (a : Int), .int .u64 (V : Int)]] := hO
        have hbx := Own.box hO 1 rfl
        have d1 : u4.cell? ⟨wr.heap.size, 1, none⟩ = some (.int .u64 (V : Int)) := by simp [World.cell?, hbx]
        have HP := Lib.hid (putH 0 X (m :: flatR (M.take k) ++ [a]) V w _ _ _ hO rfl (by rw [List.length_append, hlen]; simp; omega) rfl)
        clear hO hbx
        go_wp2_with fail
        refine HP.out.mono ?_
        rintro e u5 ⟨rfl, hO⟩
        clear HP d1
        have hO : Own w u5 ([varP X (m :: flatR (M.take k) ++ [a] ++ [V])] ++ [boxP wr.heap.size 92 #[.int .i64 (a : Int), .int .u64 (V : Int)]]) := hO
        have hO := hO.less
        have HS : Hid ((∀ p ∈ M.take (k + 1), 0 ≤ p.1) ∧ Own w u5 [varP X (m :: flatR (M.take (k + 1)))]) := Lib.hid (by
          rw [HT.out]
          refine ⟨?_, ?_⟩
          · intro p hp
            rcases List.mem_append.1 hp with h | h
            · exact HNn.out p h
            · rw [List.mem_singleton.1 h, ← A0.out]; omega
          · rw [flatR_append]
            have e1 : flatR [M.getD k (0, 0)] = [a, V] := by
              simp only [flatR, ← A0.out, ← V0.out, A1.out, Int.toNat_natCast]
            rw [e1]
            rw [List.append_assoc, List.singleton_append, List.cons_append] at hO
            exact hO)
        clear hO
        go_wp2
        go_roundw
        case rel => exact ⟨k + 1, by omega, by go_num, HS⟩
        case measure => simp [intOf]; omega
    · have hlt' : ¬ (k : Int) < (m : Int) := by omega
      have hM := HO.out
      rw [List.take_of_length_le (by rw [HL.out]; omega)] at hM
      obtain ⟨hno, hO⟩ := hM
      have Hno := Lib.hid hno
      have Hm : Hid (m :: flatR M = bodyR M) := Lib.hid (by unfold bodyR; rw [HL.out])
      rw [Hm.out] at hO
      have hbl : (bodyR M).length = 1 + 2 * m := by rw [bodyR_length, HL.out]
      obtain ⟨ad, cap, d0, hr, hnew⟩ := Own.var hO 0 rfl
      have hsm : ∀ n ∈ bodyR M, n < 18446744073709551616 := fun n hn => recR_small HV.out (by rw [HL.out]; exact hm) n (by unfold recR; exact List.mem_append_left _ hn)
      obtain ⟨ad', cap', he, hat2, hnil2, hc2⟩ := row_slice hr
      cases he
      have HS := Lib.hid (Of_any ad (bodyR M).length cap (bodyR M) wr ⟨rfl, hsm, hat2, by omega⟩)
      have HP := Lib.hid (fun wx (h : Own w wx [varP X (bodyR M)]) => putH 0 X (bodyR M) (sumN (bodyR M)) w wx _ _ h rfl (by omega) rfl)
      replace hO := Lib.hid hO
      clear hno HO hr hnew hsm hat2 hnil2 hc2
      obtain ⟨z, Hz⟩ : ∃ z, Hid (z = (bodyR M).length) := ⟨_, Lib.hid rfl⟩
      rw [← Hz.out] at d0 HS hbl
      obtain ⟨U, HU⟩ : ∃ U, Hid (U = sumN (bodyR M)) := ⟨_, Lib.hid rfl⟩
      rw [← HU.out] at HS HP
      clear hbl
      go_wp2_with fail
      refine HS.out.mono ?_
      rintro e u4 ⟨rfl, hg4⟩
      clear HS d0
      go_wp2_with fail
      refine (HP.out _ (hO.out.quiet hg4)).mono ?_
      rintro e u5 ⟨rfl, hO5⟩
      clear HP hO hg4
      obtain ⟨ad5, cap5, d5, hr5, hnew5⟩ := Own.var hO5 0 rfl
      have hrec : bodyR M ++ [U] = recR M := by unfold recR; rw [HU.out]
      rw [hrec] at d5 hr5 hnew5
      have HR : WordsAny base M w (.returned (.tuple #[.slice ad5 (recR M).length cap5, .int .i64 0])) u5 := by
        refine .inr ⟨?_, ad5, cap5, rfl, row_base hr5 (fun i hi => Nat.le_trans hb (hnew5 i hi)), hO5.grown⟩
        unfold negB
        rw [List.any_eq_false]
        intro p hp
        have := Hno.out p hp
        simpa using this
      replace HR := Lib.hid HR
      generalize (recR M).length = Z at d5 HR
      clear hr5 hnew5 hO5 hrec
      go_wp2
      go_ret2
      exact HR.out
end Go.Proofs.YtpdofdloclmbdaaGreat
