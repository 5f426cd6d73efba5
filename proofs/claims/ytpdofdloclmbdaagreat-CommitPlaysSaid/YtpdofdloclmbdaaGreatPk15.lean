/- Texts of ours, packed. -/
import Derived.Carry
import Derived.Deep.RegionHeld
import Derived.Lib.SliceRun
import Derived.Laws.AppendOwnNone
import Derived.Test.YtpdofdloclmbdaaGreatPk13
import Derived.Test.YtpdofdloclmbdaaGreatPk11
import Derived.Test.YtpdofdloclmbdaaGreatPk5
import Derived.Test.YtpdofdloclmbdaaGreatPk14
import Derived.Test.YtpdofdloclmbdaaGreatPk10
import Derived.Test.YtpdofdloclmbdaaGreatPk12
import Derived.Test.YtpdofdloclmbdaaGreatPk4
section
/- Package record: Words. -/
namespace Go.Proofs.YtpdofdloclmbdaaGreat
open Go.RowKit Go.Grommet

set_option maxHeartbeats 400000 in
theorem sizeOf_any (n : Int) (w : World) (h0 : 0 ≤ n) (h1 : n ≤ 1000) : Calls Tryz.prog 93 #[.int .i64 n] w fun e w' => e = .returned (.int .i64 (2 + 2 * n)) ∧ w = w' := by
  go_enter Tryz.func93, Tryz.ntmps93
  go_wp2
  go_ret
  exact ⟨rfl, rfl⟩

/-- A variable that holds a row of words. -/
structure VarAt (w : World) (X : Nat) (F : Nat → Prop) (ad : Option Addr) (cap : Nat) (xs : List Nat) : Prop where
  box : w.heap[X]? = some (.cells [.slice ad xs.length cap].toArray 33 (0, 0))
  row : w.ownsRow 0 44 1 (.slice ad xs.length cap) xs.length (xs.map wv)
  few : xs.length ≤ 1000
  fx : F X
  fr : ∀ i, (Value.slice ad xs.length cap).ownBlock = some i → F i ∧ i ≠ X
  old : ∀ i, F i → i < w.heap.size
def varP (X : Nat) (xs : List Nat) : Pr where
  holds w F := ∃ ad cap, VarAt w X F ad cap xs
  turn := fun h ht hn => by
    obtain ⟨ad, cap, h⟩ := h
    exact ⟨ad, cap, ht.obj h.box (hn _ h.fx), ht.row h.row (fun i hi => hn i (h.fr i hi).1), h.few, h.fx, h.fr, fun i hi => Nat.lt_of_lt_of_le (h.old i hi) ht.size⟩
  old := fun h => by obtain ⟨_, _, h⟩ := h; exact h.old

def PutIs (X : Nat) (F : Nat → Prop) (xs : List Nat) (w : World) (e : Ending) (w' : World) : Prop := e = .returned (.tuple #[]) ∧ DoesP F w w' (varP X xs)

theorem app64b {w : World} {ops : Array Oper} {rest : List Oper} {o : Oper} {a : Act} {Q : Exit → Act → World → Prop} (hgd : o.guard = none) (s x : Operand)
    (ho : o.op = .call { callee := .builtin .append, args := #[s, x], argTypes := #[33, 33] })
    (base : Nat) (v : Value) (n : Nat) (xs : List Nat) (hs : a.eval s = v) (hown : w.ownsRow base 44 1 v n (xs.map wv))
    (ad : Addr) (m c : Nat) (ys : List Nat) (hx : a.eval x = .slice (some ad) m c) (hl : ys.length = m) (hw : At w (some ad) (ys.map wv))
    (hb : n + m ≤ 1099511627776) (hbase : base ≤ w.heap.size)
    (h : ∀ ad' cap' w', w'.ownsRow base 44 1 (.slice ad' (n + m) cap') (n + m) ((xs ++ ys).map wv) → w.grownBy w' v.ownBlock → (∀ g, (Value.slice ad' (n + m) cap').ownBlock = some g → v.ownBlock = some g ∨ w.heap.size ≤ g) → wpList Tryz.prog ops Q rest (a.put o.dst (.slice ad' (n + m) cap')) w') : wpList Tryz.prog ops Q (o :: rest) a w := by
  obtain ⟨i0, hi, hz0, hz1, hz2⟩ := info_parts Tryz.info44
  refine wpList_append_blk w hgd s x 33 ho base 44 i0 (.int .u64 0) 1 8 Tryz.underlying33 hi hz0 hz1 hz2 rfl (by decide) v n (xs.map wv) hs hown ad m c (ys.map wv) hx (by rw [List.length_map, hl, Nat.mul_one]) hw.some (wv_oneCell ys) (by unfold maxLen; omega) (by omega) hbase ?_
  intro ad' cap' w' ho' hg hn
  exact h ad' cap' w' (by rw [List.map_append]; exact ho') hg hn

set_option maxHeartbeats 1000000 in
theorem put_any (X : Nat) (F : Nat → Prop) (xs : List Nat) (u : Nat) (w : World) (h : (varP X xs).holds w F) (hf : xs.length ≤ 999) :
    Calls Tryz.prog 94 #[.int .u64 (u : Int), .pointer (some ⟨X, 0, none⟩)] w (PutIs X F (xs ++ [u]) w) := by
  obtain ⟨ad, cap, h⟩ := h
  have hb := h.box
  have c0 := row_cell h.box 0 _ rfl
  have hX := h.old _ h.fx
  have hrow := h.row
  have hfr := h.fr
  have hfx := h.fx
  have hold := h.old
  obtain ⟨n, Hn⟩ : ∃ n, Hid (n = xs.length) := ⟨_, Lib.hid rfl⟩
  rw [← Hn.out] at c0 hrow hb hfr hf
  clear h
  go_enter Tryz.func94, Tryz.ntmps94
  go_wp2_with (at_builtin; refine app64b rfl _ _ rfl 0 _ n xs rfl (hrow.alloc _) ⟨w.heap.size, 0, none⟩ 1 1 [u] rfl rfl (at_of_row (heap_alloc_new w _)) ?a2 (Nat.zero_le _) ?_)
  case a2 => omega
  intro ad2 cap2 w2 hrow2 hg2 hnew2
  have hrow2 : w2.ownsRow 0 44 1 (.slice ad2 (n + 1) cap2) (n + 1) ((xs ++ [u]).map wv) := by simpa using hrow2
  have hg2' : w.grownBy w2 (Value.slice ad n cap).ownBlock := grown_trans (World.grownBy_alloc w _ _) hg2
  have hb2 : w2.heap[X]? = some (.cells [.slice ad n cap].toArray 33 (0, 0)) := (hg2'.block X hX (fun e => (hfr X e.symm).2 rfl)).trans hb
  have hnx : ∀ i, (Value.slice ad2 (n + 1) cap2).ownBlock = some i → (F i ∨ w.heap.size ≤ i) ∧ i ≠ X := fun i hi => by
    rcases hnew2 i hi with e | e
    · exact ⟨.inl (hfr i e).1, (hfr i e).2⟩
    · have e' : w.heap.size + 1 ≤ i := by simpa using e
      exact ⟨.inr (by omega), by omega⟩
  have t2 : Turn F w w2 := Turn.of hg2' (fun i e => (hfr i e).1)
  have t3 : Turn F w (w2.setCell ⟨X, 0, none⟩ (.slice ad2 (n + 1) cap2)) := t2.grown (grown_setCell _ _ _) (fun i e => by cases e; exact .inl hfx)
  have hr3 : (w2.setCell ⟨X, 0, none⟩ (.slice ad2 (n + 1) cap2)).ownsRow 0 44 1 (.slice ad2 (n + 1) cap2) (n + 1) ((xs ++ [u]).map wv) := hrow2.kept (grown_setCell w2 ⟨X, 0, none⟩ (.slice ad2 (n + 1) cap2)) (by
    cases hw : (Value.slice ad2 (n + 1) cap2).ownBlock with
    | none => exact .inl rfl
    | some k => exact .inr (fun e => by injection e with e; exact (hnx k hw).2 e))
  have hln : (xs ++ [u]).length = n + 1 := by rw [List.length_append, Hn.out]; rfl
  have HR : PutIs X F (xs ++ [u]) w (.returned (.tuple #[])) (w2.setCell ⟨X, 0, none⟩ (.slice ad2 (n + 1) cap2)) := by
    refine ⟨rfl, fun i => F i ∨ w.heap.size ≤ i ∧ i < (w2.setCell ⟨X, 0, none⟩ (.slice ad2 (n + 1) cap2)).heap.size, ⟨ad2, cap2, ?_, ?_, by rw [hln]; omega, .inl hfx, ?_, ?_⟩, fun i hi => hi.imp id (fun x => x.1), t3⟩
    · rw [hln]; exact row_set hb2 0 _
    · rw [hln]; exact hr3
    · intro i hi
      rw [hln] at hi
      refine ⟨?_, (hnx i hi).2⟩
      rcases (hnx i hi).1 with e | e
      · exact .inl e
      · exact .inr ⟨e, by have := row_old hr3 i hi; exact this⟩
    · intro i hi
      rcases hi with hi | hi
      · exact Nat.lt_of_lt_of_le (hold i hi) t3.size
      · exact hi.2
  replace HR := Lib.hid HR
  have d2 := row_cell hb2 0 _ rfl
  have df2 := row_free hb2 0
  clear hb2 hr3 hrow2 hg2 hg2' hnew2 hnx t2 t3 hln hrow hb hold hfr c0
  go_wp2
  go_end0
  exact HR.out

theorem putH (k X : Nat) (xs : List Nat) (u : Nat) (w0 w : World) (Ps Qs : List Pr) (h : Own w0 w Ps) (hk : Ps[k]? = some (varP X xs)) (hf : xs.length ≤ 999) (hQ : Ps.set k (varP X (xs ++ [u])) = Qs) :
    Calls Tryz.prog 94 #[.int .u64 (u : Int), .pointer (some ⟨X, 0, none⟩)] w fun e w' => e = .returned (.tuple #[]) ∧ Own w0 w' Qs := by
  obtain ⟨F, h1, h2⟩ := h.take k hk
  refine (put_any X F xs u w h1 hf).mono ?_
  rintro e w' ⟨rfl, hd⟩
  subst hQ
  exact ⟨rfl, h2 w' _ hd⟩

theorem Own.var {w0 w : World} {Ps : List Pr} (h : Own w0 w Ps) (k : Nat) {X : Nat} {xs : List Nat} (hk : Ps[k]? = some (varP X xs)) :
    ∃ ad cap, w.cell? ⟨X, 0, none⟩ = some (.slice ad xs.length cap) ∧ w.ownsRow 0 44 1 (.slice ad xs.length cap) xs.length (xs.map wv) ∧ (∀ i, (Value.slice ad xs.length cap).ownBlock = some i → w0.heap.size ≤ i) := by
  obtain ⟨Fs, h1, _, h3, _⟩ := h
  obtain ⟨ad, cap, hv⟩ := h1 k _ hk
  exact ⟨ad, cap, row_cell hv.box 0 _ rfl, hv.row, fun i hi => h3 k (List.getElem?_eq_some_iff.1 hk).1 i (hv.fr i hi).1⟩

def negB (M : List (Int × Nat)) : Bool := M.any fun p => decide (p.1 < 0)
def WordsNo (en : Int) (w : World) (e : Ending) (w' : World) : Prop := e = .returned (.tuple #[.slice none 0 0, .int .i64 en]) ∧ w.grownBy w' none
def WordsYes (base : Nat) (xs : List Nat) (w : World) (e : Ending) (w' : World) : Prop :=
  ∃ ad cap, e = .returned (.tuple #[.slice ad xs.length cap, .int .i64 0]) ∧ w'.ownsRow base 44 1 (.slice ad xs.length cap) xs.length (xs.map wv) ∧ w.grownBy w' none

def WordsAny (base : Nat) (M : List (Int × Nat)) (w : World) (e : Ending) (w' : World) : Prop := (negB M = true ∧ WordsNo 1 w e w') ∨ (negB M = false ∧ WordsYes base (recR M) w e w')

theorem u64_of_nat (n : Nat) (h : n ≤ 9223372036854775807) : IntKind.u64.wrap (n : Int) = (n : Int) := IntWalk.u64_in _ ⟨by omega, by omega⟩

set_option maxRecDepth 100000 in
set_option maxHeartbeats 4000000 in
theorem Words_few (base : Nat) (bd : Option Addr) (m c : Nat) (M : List (Int × Nat)) (w : World) (hat : At w bd (icells M)) (hL : M.length = m) (hm : m ≤ 96) (hv : ∀ p ∈ M, p.1 ≤ 9223372036854775807 ∧ p.2 < 18446744073709551616) (hb : base ≤ w.heap.size) :
    Calls Tryz.prog 55 #[.slice bd m c] w (WordsAny base M w) := by
  have HL := Lib.hid hL
  have HV := Lib.hid hv
  clear hL hv
  obtain ⟨i0, hi, hz0, hz1, hz2⟩ := info_parts Tryz.info44
  have h96 : ¬ (96 : Int) < (m : Int) := by omega
  have HS := Lib.hid (sizeOf_any (m : Int) w (by omega) (by omega))
  rw [show (2 : Int) + 2 * (m : Int) = ((2 + 2 * m : Nat) : Int) from by omega] at HS
  obtain ⟨N, HN⟩ : ∃ N, Hid (N = 2 + 2 * m) := ⟨_, Lib.hid rfl⟩
  rw [← HN.out] at HS
  have hN : N ≤ 194 := by rw [HN.out]; omega
  go_enter Tryz.func55, Tryz.ntmps55
  go_wp2_with fail
  refine HS.out.mono ?_
  rintro e u1 ⟨rfl, rfl⟩
  clear HS
  go_wp2_with (refine wpList_make_row _ rfl _ _ 33 rfl 44 i0 (.int .u64 0) Tryz.underlying33 hi hz0 hz1 _ _ _ N rfl rfl rfl ?m1 ?m2 ?_)
  case m1 => rw [hz2]; omega
  case m2 => unfold maxLen; omega
  intro u2 hrow hg
  have hcells : u2.heap[w.heap.size]? = some (.cells (madeCells #[.int .u64 0] N) 44 (0, 0)) := hrow
  have hms : (madeCells #[Value.int .u64 0] N).size = N := by simp [madeCells]
  have hown0 : u2.ownsRow 0 44 1 (.slice (some ⟨w.heap.size, 0, none⟩) 0 N) 0 [] := ⟨rfl, .inr ⟨w.heap.size, N, _, rfl, Nat.zero_le _, hcells, Nat.zero_le _, by unfold maxLen; omega, by rw [hms, Nat.mul_one], by simp⟩⟩
  have hgs := hg.size
  have hlt0 : w.heap.size < u2.heap.size := lt_of_block hcells
  have hO : Own w (u2.alloc (.cells #[.slice (some ⟨w.heap.size, 0, none⟩) 0 N] 33)) [varP u2.heap.size []] := by
    refine (Own.nil w).add (P := varP u2.heap.size []) (F := fun i => i = u2.heap.size ∨ i = w.heap.size) ⟨some ⟨w.heap.size, 0, none⟩, N, heap_alloc_new u2 _, hown0.alloc _, by simp, .inl rfl, ?_, ?_⟩ ?_ (grown_trans hg (World.grownBy_alloc _ _ _))
    · intro i hi
      cases hi
      exact ⟨.inr rfl, by show w.heap.size ≠ u2.heap.size; omega⟩
    · intro i hi
      rw [World.size_alloc]
      rcases hi with rfl | rfl <;> omega
    · intro i hi
      rcases hi with rfl | rfl <;> omega
  clear hown0 hcells hms hrow hi hz0 hz1 hz2 i0
  obtain ⟨X, HX⟩ : ∃ X, Hid (X = u2.heap.size) := ⟨_, Lib.hid rfl⟩
  rw [← HX.out] at hO
  have hwm := u64_of_nat m (by omega)
  have HP := Lib.hid (putH 0 X [] m w _ _ _ hO rfl (by simp) rfl)
  rw [HX.out] at HP
  clear hO
  go_wp2_with fail
  refine HP.out.mono ?_
  rintro e u3 ⟨rfl, hO⟩
  clear HP
  rw [← HX.out] at hO
  rw [← HX.out]
  have hO : Own w u3 [varP X (m :: flatR (M.take 0))] := hO
  replace hO := Lib.hid hO
  clear hg hgs hlt0 HX
  go_wp2_with fail
  go_loopw [23] (fun i wr => ∃ k : Nat, k ≤ m ∧ i = .int .i64 (k : Int) ∧ Hid ((∀ p ∈ M.take k, 0 ≤ p.1) ∧ Own w wr [varP X (m :: flatR (M.take k))])) (fun i _ => m - (intOf i).toNat)
  case atStart => exact ⟨0, Nat.zero_le _, rfl, Lib.hid ⟨by simp, hO.out⟩⟩
  case round =>
    clear hO
    obtain ⟨k, hk, rfl, HO⟩ := hrel
    have k0 : (0 : Int) ≤ (k : Int) := by omega
    by_cases hlt : k < m
    · have hlt' : (k : Int) < (m : Int) := by omega
      have hkL : k < M.length := by rw [HL.out]; exact hlt
      obtain ⟨q, o, rfl, v0, v1⟩ := at_ipair (hat.grown HO.out.2.grown (by simp)) k hkL
      have hpv := HV.out _ (getD_mem M k (0, 0) hkL)
      have HT := Lib.hid (take_snocD M k (0, 0) hkL)
      have HM := Lib.hid (getD_mem M k (0, 0) hkL)
      obtain ⟨A, A0⟩ : ∃ A, Hid (A = (M.getD k (0, 0)).1) := ⟨_, Lib.hid rfl⟩
      obtain ⟨V, V0⟩ : ∃ V, Hid (V = (M.getD k (0, 0)).2) := ⟨_, Lib.hid rfl⟩
      rw [← A0.out] at v0 hpv
      rw [← V0.out] at v1 hpv
      obtain ⟨hp1, hp2⟩ := hpv
      have HNn := Lib.hid HO.out.1
      by_cases hA : A < 0
      · have hg := HO.out.2.grown
        have HR : WordsAny base M w (.returned (.tuple #[.slice none 0 0, .int .i64 1])) (wr.alloc (.cells #[.int .i64 A, .int .u64 (V : Int)] 92)) :=
          .inl ⟨by unfold negB; rw [List.any_eq_true]; exact ⟨_, HM.out, by rw [← A0.out]; simpa using hA⟩, rfl, grown_trans hg (World.grownBy_alloc _ _ _)⟩
        replace HR := Lib.hid HR
        clear HO hg
        go_wp2
        go_ret2
        exact HR.out
      · obtain ⟨a, ha⟩ := Int.eq_ofNat_of_zero_le (show 0 ≤ A by omega)
        rw [ha] at v0
        have A1 : Hid (A = (a : Int)) := Lib.hid ha
        have hwa := u64_of_nat a (by omega)
        have ha0 : ¬ (a : Int) < 0 := by omega
        have hlen : (m :: flatR (M.take k)).length = 1 + 2 * k := by rw [List.length_cons, flatR_length, List.length_take, HL.out]; omega
        have HP := Lib.hid (putH 0 X (m :: flatR (M.take k)) a w _ _ _ (HO.out.2.addBox 92 #[.int .i64 (a : Int), .int .u64 (V : Int)]) rfl (by rw [hlen]; omega) rfl)
        clear HO
        go_wp2_with fail
        refine HP.out.mono ?_
        rintro e u4 ⟨rfl, hO⟩
        clear HP
        have hO : Own w u4 [varP X (m :: flatR (M.take k) ++ [a]), boxP wr.heap.size 92 #[.int .i64 (a : Int), .int .u64 (V : Int)]] := hO
        have hbx := Own.box hO 1 rfl
        have d1 : u4.cell? ⟨wr.heap.size, 1, none⟩ = some (.int .u64 (V : Int)) := by simp [World.cell?, hbx]
        have HP := Lib.hid (putH 0 X (m :: flatR (M.take k) ++ [a]) V w _ _ _ hO rfl (by rw [List.length_append, hlen]; simp; omega) rfl)
        clear hO hbx
        go_wp2_with fail
        refine HP.out.mono ?_
        rintro e u5 ⟨rfl, hO⟩
        clear HP d1
        have hO : Own w u5 ([varP X (m :: flatR (M.take k) ++ [a] ++ [V])] ++ [boxP wr.heap.size 92 #[.int .i64 (a : Int), .int .u64 (V : Int)]]) := hO
        have hO := hO.less
        have HS : Hid ((∀ p ∈ M.take (k + 1), 0 ≤ p.1) ∧ Own w u5 [varP X (m :: flatR (M.take (k + 1)))]) := Lib.hid (by
          rw [HT.out]
          refine ⟨?_, ?_⟩
          · intro p hp
            rcases List.mem_append.1 hp with h | h
            · exact HNn.out p h
            · rw [List.mem_singleton.1 h, ← A0.out]; omega
          · rw [flatR_append]
            have e1 : flatR [M.getD k (0, 0)] = [a, V] := by
              simp only [flatR, ← A0.out, ← V0.out, A1.out, Int.toNat_natCast]
            rw [e1]
            rw [List.append_assoc, List.singleton_append, List.cons_append] at hO
            exact hO)
        clear hO
        go_wp2
        go_roundw
        case rel => exact ⟨k + 1, by omega, by go_num, HS⟩
        case measure => simp [intOf]; omega
    · have hlt' : ¬ (k : Int) < (m : Int) := by omega
      have hM := HO.out
      rw [List.take_of_length_le (by rw [HL.out]; omega)] at hM
      obtain ⟨hno, hO⟩ := hM
      have Hno := Lib.hid hno
      have Hm : Hid (m :: flatR M = bodyR M) := Lib.hid (by unfold bodyR; rw [HL.out])
      rw [Hm.out] at hO
      have hbl : (bodyR M).length = 1 + 2 * m := by rw [bodyR_length, HL.out]
      obtain ⟨ad, cap, d0, hr, hnew⟩ := Own.var hO 0 rfl
      have hsm : ∀ n ∈ bodyR M, n < 18446744073709551616 := fun n hn => recR_small HV.out (by rw [HL.out]; exact hm) n (by unfold recR; exact List.mem_append_left _ hn)
      obtain ⟨ad', cap', he, hat2, hnil2, hc2⟩ := row_slice hr
      cases he
      have HS := Lib.hid (Of_any ad (bodyR M).length cap (bodyR M) wr ⟨rfl, hsm, hat2, by omega⟩)
      have HP := Lib.hid (fun wx (h : Own w wx [varP X (bodyR M)]) => putH 0 X (bodyR M) (sumN (bodyR M)) w wx _ _ h rfl (by omega) rfl)
      replace hO := Lib.hid hO
      clear hno HO hr hnew hsm hat2 hnil2 hc2
      obtain ⟨z, Hz⟩ : ∃ z, Hid (z = (bodyR M).length) := ⟨_, Lib.hid rfl⟩
      rw [← Hz.out] at d0 HS hbl
      obtain ⟨U, HU⟩ : ∃ U, Hid (U = sumN (bodyR M)) := ⟨_, Lib.hid rfl⟩
      rw [← HU.out] at HS HP
      clear hbl
      go_wp2_with fail
      refine HS.out.mono ?_
      rintro e u4 ⟨rfl, hg4⟩
      clear HS d0
      go_wp2_with fail
      refine (HP.out _ (hO.out.quiet hg4)).mono ?_
      rintro e u5 ⟨rfl, hO5⟩
      clear HP hO hg4
      obtain ⟨ad5, cap5, d5, hr5, hnew5⟩ := Own.var hO5 0 rfl
      have hrec : bodyR M ++ [U] = recR M := by unfold recR; rw [HU.out]
      rw [hrec] at d5 hr5 hnew5
      have HR : WordsAny base M w (.returned (.tuple #[.slice ad5 (recR M).length cap5, .int .i64 0])) u5 := by
        refine .inr ⟨?_, ad5, cap5, rfl, row_base hr5 (fun i hi => Nat.le_trans hb (hnew5 i hi)), hO5.grown⟩
        unfold negB
        rw [List.any_eq_false]
        intro p hp
        have := Hno.out p hp
        simpa using this
      replace HR := Lib.hid HR
      generalize (recR M).length = Z at d5 HR
      clear hr5 hnew5 hO5 hrec
      go_wp2
      go_ret2
      exact HR.out
end Go.Proofs.YtpdofdloclmbdaaGreat
end
section
/- Package record: cut, Mark, mayStand. -/
namespace Go.Proofs.YtpdofdloclmbdaaGreat
open Go.RowKit Go.Grommet

/-- 'words[:k]' of a row that is there. -/
theorem slice_to_lit {P : Program} (T e : TypeId) (hT : P.underlying T = some (.slice e)) (hsz : ∀ w, (sizeOf e).run P w = .ok 1 w) (q o len cap k : Nat) (h : k ≤ cap) (w : World) :
    (Instr.slice T (.slice (some ⟨q, o, none⟩) len cap) none (some (.int .i64 (k : Int))) none).run P w = .ok (.slice (some ⟨q, o, none⟩) k cap) w := by
  have he : P.elem T = e := by simp [Program.elem, hT]
  have ht : P.underlying T = some (.slice (P.elem T)) := by rw [he]; exact hT
  rw [run_slice_h (a := some ⟨q, o, none⟩) (ht := ht) (h0 := by omega) (h2 := by omega), he, hsz]
  simp [Result.andThen, sliced, Addr.add_lit]

theorem cutB_yes {xs : List Nat} (h : cutB xs = true) : 0 < xs.length ∧ xs.getD 0 0 ≤ 96 ∧ 2 + 2 * xs.getD 0 0 ≤ xs.length := by simpa [cutB] using h

set_option maxHeartbeats 1000000 in
theorem cut_yes (q o l c : Nat) (xs : List Nat) (w : World) (hx : Words w (some ⟨q, o, none⟩) l xs) (hlc : l ≤ c) (h : cutB xs = true) :
    Calls Tryz.prog 98 #[.slice (some ⟨q, o, none⟩) l c] w fun e w' => e = .returned (.tuple #[.slice (some ⟨q, o, none⟩) (2 + 2 * xs.getD 0 0) c, .bool true]) ∧ w = w' := by
  obtain ⟨h0, h1, h2⟩ := cutB_yes h
  have HX := Lib.hid hx.len
  rw [HX.out] at h0 h2
  obtain ⟨q', o', he, c0⟩ := hx.cell 0 h0
  cases he
  rw [Nat.add_zero] at c0
  obtain ⟨n, Hn⟩ : ∃ n, Hid (n = xs.getD 0 0) := ⟨_, Lib.hid rfl⟩
  rw [← Hn.out] at c0 h1 h2
  rw [← Hn.out]
  have hS := Lib.hid (fun wx => sizeOf_any (n : Int) wx (by omega) (by omega))
  rw [show (2 : Int) + 2 * (n : Int) = ((2 + 2 * n : Nat) : Int) from by omega] at hS
  have hsl := fun wx => slice_to_lit (P := Tryz.prog) 33 44 Tryz.underlying33 Tryz.sizeOf44 q o l c (2 + 2 * n) (by omega) wx
  obtain ⟨k, Hk⟩ : ∃ k, Hid (k = 2 + 2 * n) := ⟨_, Lib.hid rfl⟩
  rw [← Hk.out] at hS hsl h2
  rw [← Hk.out]
  have e1 : ((l : Int) == 0) = false := by rw [beq_eq_false_iff_ne]; omega
  have e2 : ¬ (96 : Int) < (n : Int) := by omega
  have e3 : ¬ (l : Int) < (k : Int) := by omega
  have e4 : IntKind.i64.wrap (n : Int) = (n : Int) := IntWalk.i64_in _ ⟨by omega, by omega⟩
  have e5 : (0 : Int) < (l : Int) := by omega
  clear h hx
  go_enter Tryz.func98, Tryz.ntmps98
  go_wp2_with fail
  refine (hS.out _).mono ?_
  rintro e w1 ⟨rfl, rfl⟩
  go_wp2_with fail
  refine (hS.out _).mono ?_
  rintro e w1 ⟨rfl, rfl⟩
  go_wp2
  go_ret2
  exact ⟨rfl, rfl⟩

set_option maxHeartbeats 1000000 in
theorem cut_no (ad : Option Addr) (l c : Nat) (xs : List Nat) (w : World) (hx : Words w ad l xs) (h : cutB xs = false) :
    Calls Tryz.prog 98 #[.slice ad l c] w fun e w' => e = .returned (.tuple #[.slice none 0 0, .bool false]) ∧ w = w' := by
  have HX := Lib.hid hx.len
  have h' : ¬ (0 < l ∧ xs.getD 0 0 ≤ 96 ∧ 2 + 2 * xs.getD 0 0 ≤ l) := by
    rw [← HX.out]
    unfold cutB at h
    rwa [decide_eq_false_iff_not] at h
  by_cases h0 : 0 < l
  · obtain ⟨q, o, rfl, c0⟩ := hx.cell 0 h0
    rw [Nat.add_zero] at c0
    have hs := hx.get 0 h0
    have hf := hx.fits
    obtain ⟨n, Hn⟩ : ∃ n, Hid (n = xs.getD 0 0) := ⟨_, Lib.hid rfl⟩
    rw [← Hn.out] at c0 h' hs
    have e1 : ((l : Int) == 0) = false := by rw [beq_eq_false_iff_ne]; omega
    have e5 : (0 : Int) < (l : Int) := by omega
    have N0 := Lib.hid hs
    clear h hx hs
    by_cases h1 : n ≤ 96
    · have hS := Lib.hid (fun wx => sizeOf_any (n : Int) wx (by omega) (by omega))
      rw [show (2 : Int) + 2 * (n : Int) = ((2 + 2 * n : Nat) : Int) from by omega] at hS
      have e3 : (l : Int) < ((2 + 2 * n : Nat) : Int) := by omega
      obtain ⟨k, Hk⟩ : ∃ k, Hid (k = 2 + 2 * n) := ⟨_, Lib.hid rfl⟩
      rw [← Hk.out] at hS e3
      have e2 : ¬ (96 : Int) < (n : Int) := by omega
      have e4 : IntKind.i64.wrap (n : Int) = (n : Int) := IntWalk.i64_in _ ⟨by omega, by omega⟩
      clear h'
      go_enter Tryz.func98, Tryz.ntmps98
      go_wp2_with fail
      refine (hS.out _).mono ?_
      rintro e w1 ⟨rfl, rfl⟩
      go_wp2
      go_ret2
      exact ⟨rfl, rfl⟩
    · have e2 : (96 : Int) < (n : Int) := by omega
      clear h'
      go_enter Tryz.func98, Tryz.ntmps98
      go_wp2
      go_ret2
      exact ⟨rfl, rfl⟩
  · obtain rfl : l = 0 := by omega
    clear h hx h' h0
    go_enter Tryz.func98, Tryz.ntmps98
    go_wp2
    go_ret2
    exact ⟨rfl, rfl⟩

/-- Words that hold something lead somewhere. -/
theorem Words.lit {w : World} {ad : Option Addr} {l : Nat} {xs : List Nat} (h : Words w ad l xs) (hl : 0 < l) : ∃ q o, ad = some ⟨q, o, none⟩ := by
  obtain ⟨q, o, he, _⟩ := h.cell 0 hl
  exact ⟨q, o, he⟩

theorem mark_bits (s n : Nat) (hn : n ≤ 96) : (s * 65536 % 18446744073709551616) ||| (n * 256) ||| 1 = (s * 65536 + n * 256 + 1) % 18446744073709551616 := by
  have e1 : s * 65536 % 18446744073709551616 = (s % 281474976710656) * 65536 := by omega
  rw [e1]
  obtain ⟨t, ht⟩ : ∃ t, t = s % 281474976710656 := ⟨_, rfl⟩
  rw [← ht]
  have e2 : t * 65536 ||| n * 256 = t * 65536 + n * 256 := by
    have h : t * 65536 = t <<< 16 := by rw [Nat.shiftLeft_eq]
    rw [h, ← Nat.shiftLeft_add_eq_or_of_lt (by omega)]
  have e3 : (t * 65536 + n * 256) ||| 1 = t * 65536 + n * 256 + 1 := by
    have h : t * 65536 + n * 256 = (t * 256 + n) <<< 8 := by rw [Nat.shiftLeft_eq]; omega
    rw [h, ← Nat.shiftLeft_add_eq_or_of_lt (by omega)]
  rw [e2, e3]
  omega

theorem mark_int (s n : Nat) (hn : n ≤ 96) : bits .or .u64 (bits .or .u64 (IntKind.u64.wrap ((s : Int) * 65536)) ((n : Int) * 256)) 1 = (((s * 65536 + n * 256 + 1) % 18446744073709551616 : Nat) : Int) := by
  rw [← mark_bits s n hn]
  rw [show (s : Int) * 65536 = ((s * 65536 : Nat) : Int) from by omega, wrap_u64_nat, show (n : Int) * 256 = ((n * 256 : Nat) : Int) from by omega, show (1 : Int) = ((1 : Nat) : Int) from rfl]
  have h0 : s * 65536 % 18446744073709551616 < 18446744073709551616 := Nat.mod_lt _ (by decide)
  have h1 : (s * 65536 % 18446744073709551616 ||| n * 256) < 18446744073709551616 := by
    have : (s * 65536 % 18446744073709551616 ||| n * 256) < 2 ^ 64 := Nat.or_lt_two_pow (by omega) (by omega)
    omega
  rw [bits_or_u64_nat _ _ h0 (by omega), bits_or_u64_nat _ _ h1 (by omega)]

set_option maxHeartbeats 1000000 in
theorem Mark_any (ad : Option Addr) (l c : Nat) (xs : List Nat) (w : World) (hx : Words w ad l xs) (hlc : l ≤ c) :
    Calls Tryz.prog 58 #[.slice ad l c] w fun e w' => e = .returned (.int .u64 (markV xs : Int)) ∧ w.grownBy w' none := by
  cases hb : cutB xs with
  | true =>
    obtain ⟨h0, h1, h2⟩ := cutB_yes hb
    have hl := hx.len
    obtain ⟨q, o, rfl⟩ := Words.lit hx (by omega)
    have HC := Lib.hid (cut_yes q o l c xs w hx hlc hb)
    obtain ⟨n, Hn⟩ : ∃ n, Hid (n = xs.getD 0 0) := ⟨_, Lib.hid rfl⟩
    obtain ⟨q', o', he, c0⟩ := hx.cell 0 (by omega)
    cases he
    rw [Nat.add_zero] at c0
    obtain ⟨q', o', he, c1⟩ := hx.cell (1 + 2 * n) (by rw [Hn.out]; omega)
    cases he
    have hs := hx.get (1 + 2 * n) (by rw [Hn.out]; omega)
    have HM : Hid (markV xs = (xs.getD (1 + 2 * n) 0 * 65536 + n * 256 + 1) % 18446744073709551616) := Lib.hid (by unfold markV; rw [if_pos hb, ← Hn.out])
    rw [← Hn.out] at c0 HC h1
    obtain ⟨S, HS⟩ : ∃ S, Hid (S = xs.getD (1 + 2 * n) 0) := ⟨_, Lib.hid rfl⟩
    rw [← HS.out] at c1 HM hs
    obtain ⟨k, Hk⟩ : ∃ k, Hid (k = 1 + 2 * n) := ⟨_, Lib.hid rfl⟩
    rw [show 2 + 2 * n = (1 + 2 * n) + 1 from by omega, ← Hk.out] at HC
    rw [← Hk.out] at c1
    have hkk : k ≤ 200 := by rw [Hk.out]; omega
    clear hx hb h0 h2 hl hs
    go_enter Tryz.func58, Tryz.ntmps58
    go_wp2_with fail
    refine HC.out.mono ?_
    rintro e w1 ⟨rfl, rfl⟩
    clear HC
    go_wp2_with fail
    go_quiet (fail)
    go_wp2
    go_ret
    exact ⟨by rw [HM.out, ← mark_int S n h1]; rfl, grown_drewN _ _ _⟩
  | false =>
    have HC := Lib.hid (cut_no ad l c xs w hx hb)
    have HM : Hid (markV xs = 0) := Lib.hid (by unfold markV; rw [if_neg (by rw [hb]; simp)])
    clear hx hb
    go_enter Tryz.func58, Tryz.ntmps58
    go_wp2_with fail
    refine HC.out.mono ?_
    rintro e w1 ⟨rfl, rfl⟩
    go_wp2
    go_ret
    exact ⟨by rw [HM.out]; rfl, World.grownBy.refl _ _⟩

set_option maxHeartbeats 1000000 in
theorem mayStand_any (a b c x : Int) (w : World) (hx1 : x ≤ 9223372036854775807) : Calls Tryz.prog 92 #[gv a b c, .int .i64 x] w (BoolIs (standB a b c x) w) := by
  have HW := Lib.hid (fun wx => Where_any a b c x wx hx1)
  have HV : Hid (standB a b c x = decide ((whereV a b c x).1 ≠ 0 ∧ (whereV a b c x).1 ≠ 1 ∧ (whereV a b c x).1 ≠ 5)) := Lib.hid rfl
  generalize whereV a b c x = V at HW HV
  obtain ⟨k, i, j, r⟩ := V
  unfold WhereIs gv at HW
  unfold gv
  dsimp only at HW HV
  by_cases h0 : k = 0
  · subst h0
    have HR : Hid (standB a b c x = false) := Lib.hid (by rw [HV.out]; simp)
    go_enter Tryz.func92, Tryz.ntmps92
    go_wp2_with fail
    refine (HW.out _).mono ?_
    rintro e w1 ⟨rfl, hg⟩
    go_wp2
    go_ret
    exact boolIs_mk HR.out (grown_trans (World.grownBy_alloc w _ none) hg)
  · by_cases h1 : k = 1
    · subst h1
      have HR : Hid (standB a b c x = false) := Lib.hid (by rw [HV.out]; simp)
      go_enter Tryz.func92, Tryz.ntmps92
      go_wp2_with fail
      refine (HW.out _).mono ?_
      rintro e w1 ⟨rfl, hg⟩
      go_wp2
      go_ret
      exact boolIs_mk HR.out (grown_trans (World.grownBy_alloc w _ none) hg)
    · by_cases h5 : k = 5
      · subst h5
        have HR : Hid (standB a b c x = false) := Lib.hid (by rw [HV.out]; simp)
        go_enter Tryz.func92, Tryz.ntmps92
        go_wp2_with fail
        refine (HW.out _).mono ?_
        rintro e w1 ⟨rfl, hg⟩
        go_wp2
        go_ret
        exact boolIs_mk HR.out (grown_trans (World.grownBy_alloc w _ none) hg)
      · have HR : Hid (standB a b c x = true) := Lib.hid (by rw [HV.out]; simp [h0, h1, h5])
        have e0 : (k == 0) = false := by simpa using h0
        have e1 : (k == 1) = false := by simpa using h1
        have e5 : (k == 5) = false := by simpa using h5
        clear h0 h1 h5
        go_enter Tryz.func92, Tryz.ntmps92
        go_wp2_with fail
        refine (HW.out _).mono ?_
        rintro e w1 ⟨rfl, hg⟩
        go_wp2
        go_ret
        exact boolIs_mk HR.out (grown_trans (World.grownBy_alloc w _ none) hg)
end Go.Proofs.YtpdofdloclmbdaaGreat
end
section
/- Package record: May. -/
namespace Go.Proofs.YtpdofdloclmbdaaGreat
open Go.RowKit Go.Grommet

theorem plainElem_bool_inv {H : Type} {P : Program} {e : TypeId} (he : P.underlying e = some .bool) {v : Value} {z : DataW H × List MemPlace} (h : plainElem P e v = some z) : ∃ x, v = .bool x ∧ z = (.lit (.bool x), []) := by
  unfold plainElem at h
  rw [he] at h
  cases v <;> simp at h
  exact ⟨_, rfl, h.symm⟩

theorem wpList_lookup_bool {H : Type} {P : Program} (w : World) {ops : Array Oper} {rest : List Oper} {o : Oper} {a : Act} {Q : Exit → Act → World → Prop}
    (hg : o.guard = none) (m x : Operand) (t : TypeId) (hop : o.op = Op.lookup t m x false)
    (k e : TypeId) (K : Maps.Keyed P k) (ht : P.underlying t = some (.map k e)) (he : P.underlying e = some .bool) (hz : (zeroValue e).run P w = .ok (.bool false) w) (b n : Nat) (D : DataW H)
    (hm : a.eval m = .map (some b)) (hown : w.ownsMap P k (plainElem P e) b n D) (key : Value) (kl : Lit) (hx : a.eval x = key) (hkey : keyOf P k key = some kl) (c : Bool) (hat : D.atKey kl (.lit (.bool false)) = .lit (.bool c))
    (hK : wpList P ops Q rest (a.put o.dst (.bool c)) w) :
    wpList P ops Q (o :: rest) a w := by
  refine wpList_plain hg fun K' hK' => ?_
  obtain ⟨v, ps, hrun, hv⟩ := hown.lookup K ht hz (plainElem_bool he false) hkey
  obtain ⟨y, rfl, hy⟩ := plainElem_bool_inv he hv
  have hyc : y = c := by
    have := congrArg Prod.fst hy
    rw [hat] at this
    injection this with this
    injection this with this
    exact this.symm
  subst hyc
  unfold Oper.wp
  simp [execOp, hop, hm, hx, hrun, Result.andThen]
  exact hK' _ _ hK

theorem keyedInt : Maps.Keyed Tryz.prog 3 := Maps.int_keyed Tryz.underlying3
/-- Which numbers have come. -/
def CameIs (w : World) (mb : Nat) (S : List Int) : Prop :=
  ∃ D : DataW Unit, w.ownsMap Tryz.prog 3 (plainElem Tryz.prog 4) mb S.length D ∧ ∀ x : Int, D.atKey (.int .i64 x) (.lit (.bool false)) = .lit (.bool (decide (x ∈ S)))
def cameP (mb : Nat) (S : List Int) : Pr where
  holds w F := CameIs w mb S ∧ F mb ∧ ∀ i, F i → i < w.heap.size
  turn := fun h ht hn => by
    obtain ⟨⟨D, h1, h2⟩, h3, h4⟩ := h
    exact ⟨⟨D, ht.map h1 (hn _ h3), h2⟩, h3, fun i hi => Nat.lt_of_lt_of_le (h4 i hi) ht.size⟩
  old := fun h => h.2.2
theorem Own.came {w0 w : World} {Ps : List Pr} (h : Own w0 w Ps) (k : Nat) {mb : Nat} {S : List Int} (hk : Ps[k]? = some (cameP mb S)) : CameIs w mb S := by
  obtain ⟨F, hF⟩ := h.get k hk
  exact hF.1
theorem Own.newMap {w0 w : World} {Ps : List Pr} (h : Own w0 w Ps) : Own w0 (w.alloc (.map #[] 0)) (Ps ++ [cameP w.heap.size []]) :=
  h.add (P := cameP w.heap.size []) (F := fun i => i = w.heap.size) ⟨⟨.map [], World.ownsMap_made w _ _ _, fun x => by simp [DataW.atKey]⟩, rfl, fun i hi => by rw [hi]; simp⟩ (fun i hi => by rw [hi]; exact Nat.le_refl _) (World.grownBy_alloc w _ none)
theorem Own.putMap {w0 w w' : World} {Ps : List Pr} (h : Own w0 w Ps) (k : Nat) {mb : Nat} {S : List Int} (hk : Ps[k]? = some (cameP mb S)) {D : DataW Unit} (hD : ∀ x : Int, D.atKey (.int .i64 x) (.lit (.bool false)) = .lit (.bool (decide (x ∈ S)))) (hi : Maps.IsMap D) (y : Int)
    (hm : w'.ownsMap Tryz.prog 3 (plainElem Tryz.prog 4) mb (S.length + 1) (D.put (.int .i64 y) (.lit (.bool true)))) (hg : w.grownBy w' (some mb)) : Own w0 w' (Ps.set k (cameP mb (S ++ [y]))) := by
  obtain ⟨F, ⟨_, h1, h2⟩, h3⟩ := h.take k hk
  refine h3 _ (cameP mb (S ++ [y])) ⟨F, ⟨⟨_, by rw [List.length_append]; exact hm, fun x => ?_⟩, h1, fun i hi => Nat.lt_of_lt_of_le (h2 i hi) hg.size⟩, fun i hi => .inl hi, Turn.of hg (fun i e => by cases e; exact h1)⟩
  have hk : WideAt.IsKeyLit (Lit.int .i64 y) := trivial
  by_cases hxy : x = y
  · subst hxy
    rw [Maps.atKey_put_same hi hk]
    simp
  · have hne : Lit.int .i64 x ≠ Lit.int .i64 y := by intro e; injection e with _ e; exact hxy e
    rw [Maps.atKey_put_other hne, hD x]
    simp [hxy]

def firsts (M : List (Int × Nat)) : List Int := M.map Prod.fst
theorem mem_firsts {M : List (Int × Nat)} {k : Nat} {x : Int} (hk : k ≤ M.length) : x ∈ firsts (M.take k) ↔ ∃ j, j < k ∧ (M.getD j (0, 0)).1 = x := by
  unfold firsts
  rw [List.mem_map]
  constructor
  · rintro ⟨p, hp, rfl⟩
    obtain ⟨j, hj, rfl⟩ := List.getElem_of_mem hp
    have hj' : j < k ∧ j < M.length := by rw [List.length_take] at hj; omega
    exact ⟨j, hj'.1, by simp [hj'.2]⟩
  · rintro ⟨j, hj, rfl⟩
    have hj' : j < M.length := by omega
    exact ⟨M[j], by rw [List.mem_take_iff_getElem]; exact ⟨j, by omega, rfl⟩, by simp [hj']⟩

set_option maxHeartbeats 1000000 in
theorem May_many (a b c : Int) (bd : Option Addr) (m cc : Nat) (w : World) (h : 96 < m) : Calls Tryz.prog 54 #[gv a b c, .slice bd m cc] w (BoolIs false w) := by
  have h' : (96 : Int) < (m : Int) := by omega
  unfold gv
  go_enter Tryz.func54, Tryz.ntmps54
  go_wp2
  go_ret
  exact ⟨rfl, World.grownBy_alloc w _ none⟩
set_option maxHeartbeats 1000000 in
theorem May_geo (a b c : Int) (bd : Option Addr) (m cc : Nat) (w : World) (h : ¬ 96 < m) (hb : mayB a b c = false) : Calls Tryz.prog 54 #[gv a b c, .slice bd m cc] w (BoolIs false w) := by
  have h' : ¬ (96 : Int) < (m : Int) := by omega
  have HM := Lib.hid (fun wx => May_any a b c wx)
  rw [hb] at HM
  unfold gv at HM ⊢
  go_enter Tryz.func54, Tryz.ntmps54
  go_wp2_with fail
  refine (HM.out _).mono ?_
  rintro e w1 ⟨rfl, hg⟩
  go_wp2
  go_ret
  exact ⟨rfl, grown_trans (World.grownBy_alloc w _ none) hg⟩

set_option maxRecDepth 100000 in
set_option maxHeartbeats 4000000 in
theorem May_at (a b c : Int) (bd : Option Addr) (m cc : Nat) (M : List (Int × Nat)) (w : World) (hat : At w bd (icells M)) (hL : M.length = m) (hm : ¬ 96 < m) (hb : mayB a b c = true) (hw : ∀ p ∈ M, (Lit.int .i64 p.1).wf = true) :
    Calls Tryz.prog 54 #[gv a b c, .slice bd m cc] w (BoolIs (decide (preB a b c M m)) w) := by
  have h' : ¬ (96 : Int) < (m : Int) := by omega
  have HM := Lib.hid (fun wx => May_any a b c wx)
  rw [hb] at HM
  have HL := Lib.hid hL
  have HW := Lib.hid hw
  have hmm := @run_makeMap Tryz.prog
  unfold gv at HM ⊢
  clear hL hw
  go_enter Tryz.func54, Tryz.ntmps54
  go_wp2_with fail
  refine (HM.out _).mono ?_
  rintro e w1 ⟨rfl, hg⟩
  clear HM
  have hO : Own w (w1.alloc (.map #[] 0)) [boxP w.heap.size 26 #[.int .i64 a, .int .i64 b, .int .i64 c], cameP w1.heap.size (firsts (M.take 0))] := Own.newMap (((Own.nil w).addBox 26 #[.int .i64 a, .int .i64 b, .int .i64 c]).quiet hg)
  obtain ⟨G, hG⟩ : ∃ G, Hid (G = w.heap.size) := ⟨_, Lib.hid rfl⟩
  obtain ⟨B, hB⟩ : ∃ B, Hid (B = w1.heap.size) := ⟨_, Lib.hid rfl⟩
  rw [← hG.out, ← hB.out] at hO
  rw [← hG.out]
  replace hO := Lib.hid hO
  clear hg
  go_wp2_with fail
  rw [← hB.out]
  go_loopw [19] (fun i wr => ∃ k : Nat, k ≤ m ∧ i = .int .i64 (k : Int) ∧ Hid (preB a b c M k) ∧ Hid (Own w wr [boxP G 26 #[.int .i64 a, .int .i64 b, .int .i64 c], cameP B (firsts (M.take k))])) (fun i _ => m - (intOf i).toNat)
  case atStart => exact ⟨0, Nat.zero_le _, rfl, Lib.hid (fun i hi => by omega), hO⟩
  case round =>
    clear hO
    obtain ⟨k, hk, rfl, HP, HO⟩ := hrel
    have k0 : (0 : Int) ≤ (k : Int) := by omega
    by_cases hlt : k < m
    · have hlt' : (k : Int) < (m : Int) := by omega
      have hkL : k < M.length := by rw [HL.out]; exact hlt
      obtain ⟨q, o, rfl, v0, v1⟩ := at_ipair (hat.grown HO.out.grown (by simp)) k hkL
      have hwf := HW.out _ (getD_mem M k (0, 0) hkL)
      have HT := Lib.hid (take_snocD M k (0, 0) hkL)
      have HMem := Lib.hid (fun x => mem_firsts (M := M) (k := k) (x := x) (by omega))
      obtain ⟨A, A0⟩ : ∃ A, Hid (A = (M.getD k (0, 0)).1) := ⟨_, Lib.hid rfl⟩
      obtain ⟨V, V0⟩ : ∃ V, Hid (V = (M.getD k (0, 0)).2) := ⟨_, Lib.hid rfl⟩
      rw [← A0.out] at v0 hwf
      rw [← V0.out] at v1
      have hA1 : A ≤ 9223372036854775807 := by have := bounds_i64 hwf; omega
      have hkey : keyOf Tryz.prog 3 (.int .i64 A) = some (.int .i64 A) := Maps.keyOf_int_mk Tryz.underlying3 hwf
      obtain ⟨D, hown, hD⟩ := Own.came HO.out 1 rfl
      have hisMap := Lib.hid hown.isMap
      have HD := Lib.hid hD
      have hbx := Own.box HO.out 0 rfl
      have g0 : wr.cell? ⟨G, 0, none⟩ = some (.int .i64 a) := by simp [World.cell?, hbx]
      have g1 : wr.cell? ⟨G, 1, none⟩ = some (.int .i64 b) := by simp [World.cell?, hbx]
      have g2 : wr.cell? ⟨G, 2, none⟩ = some (.int .i64 c) := by simp [World.cell?, hbx]
      have hGl : G < wr.heap.size := lt_of_block hbx
      clear hbx hwf hD
      by_cases hin : A ∈ firsts (M.take k)
      · have hc := HD.out A
        rw [decide_eq_true hin] at hc
        have HR : Hid (decide (preB a b c M m) = false) := Lib.hid (by
          rw [decide_eq_false_iff_not]
          intro h
          obtain ⟨j, hj, he⟩ := (HMem.out A).1 hin
          exact (h k hlt).2 j hj (by rw [he, A0.out]))
        have hg := HO.out.grown
        clear HO hin HMem
        go_wp2_with (at_lookup; refine wpList_lookup_bool _ rfl _ _ 156 rfl 3 4 keyedInt Tryz.underlying156 Tryz.underlying4 (Tryz.zeroValue4 _) B _ D rfl (hown.alloc _) _ _ rfl hkey true hc ?_)
        go_ret
        exact boolIs_mk HR.out (grown_trans hg (World.grownBy_alloc _ _ _))
      · have hc := HD.out A
        rw [decide_eq_false hin] at hc
        have HS := Lib.hid (fun wx => mayStand_any a b c A wx hA1)
        unfold gv at HS
        cases hst : standB a b c A with
        | false =>
          rw [hst] at HS
          have HR : Hid (decide (preB a b c M m) = false) := Lib.hid (by
            rw [decide_eq_false_iff_not]
            intro h
            have := (h k hlt).1
            rw [← A0.out, hst] at this
            cases this)
          have hg := HO.out.grown
          clear HO hin HMem hst
          go_wp2_with (at_lookup; refine wpList_lookup_bool _ rfl _ _ 156 rfl 3 4 keyedInt Tryz.underlying156 Tryz.underlying4 (Tryz.zeroValue4 _) B _ D rfl (hown.alloc _) _ _ rfl hkey false hc ?_)
          go_wp2_with fail
          refine (HS.out _).mono ?_
          rintro e w2 ⟨rfl, hg2⟩
          go_wp2
          go_ret
          exact boolIs_mk HR.out (grown_trans (grown_trans hg (World.grownBy_alloc _ _ _)) hg2)
        | true =>
          rw [hst] at HS
          have HP' : Hid (preB a b c M (k + 1)) := Lib.hid (by
            intro i hi
            by_cases hik : i = k
            · subst hik
              refine ⟨by rw [← A0.out]; exact hst, fun j hj he => hin ((HMem.out A).2 ⟨j, hj, by rw [he, A0.out]⟩)⟩
            · exact HP.out i (by omega))
          have hOb := HO.out.addBox 92 #[.int .i64 A, .int .u64 (V : Int)]
          have HU := Lib.hid (fun (wx wy : World) (hox : Own w wx [boxP G 26 #[.int .i64 a, .int .i64 b, .int .i64 c], cameP B (firsts (M.take k)), boxP wr.heap.size 92 #[.int .i64 A, .int .u64 (V : Int)]]) (hm : wy.ownsMap Tryz.prog 3 (plainElem Tryz.prog 4) B ((firsts (M.take k)).length + 1) (D.put (.int .i64 A) (.lit (.bool true)))) (hgx : wx.grownBy wy (some B)) => Own.putMap hox 1 rfl HD.out hisMap.out A hm hgx)
          replace hOb := Lib.hid hOb
          have hfl : (firsts (M.take k)).length < 100 := by unfold firsts; rw [List.length_map, List.length_take]; omega
          clear HO hin HMem hst
          go_wp2_with (at_lookup; refine wpList_lookup_bool _ rfl _ _ 156 rfl 3 4 keyedInt Tryz.underlying156 Tryz.underlying4 (Tryz.zeroValue4 _) B _ D rfl (hown.alloc _) _ _ rfl hkey false hc ?_)
          go_wp2_with fail
          refine (HS.out _).mono ?_
          rintro e w2 ⟨rfl, hg2⟩
          have hO2 : Own w w2 [boxP G 26 #[.int .i64 a, .int .i64 b, .int .i64 c], cameP B (firsts (M.take k)), boxP wr.heap.size 92 #[.int .i64 A, .int .u64 (V : Int)]] := hOb.out.quiet hg2
          have hbx := Own.box hO2 2 rfl
          have d0 : w2.cell? ⟨wr.heap.size, 0, none⟩ = some (.int .i64 A) := by simp [World.cell?, hbx]
          have hown2 := (hown.alloc (.cells #[.int .i64 A, .int .u64 (V : Int)] 92)).kept hg2 (by simp)
          have hval : plainElem (H := Unit) Tryz.prog 4 (.bool true) = some (.lit (.bool true), []) := plainElem_bool Tryz.underlying4 true
          replace hO2 := Lib.hid hO2
          clear hbx hg2 hown hOb HS hc g0 g1 g2 v0 v1
          go_wp2_with (at_mapUpdate; refine wpList_mapUpdate_own _ rfl _ _ _ 156 rfl 3 4 keyedInt Tryz.underlying156 (plainElem Tryz.prog 4) B _ D rfl hown2 ?m9 _ _ (.int .i64 A) rfl rfl hkey (.lit (.bool true)) [] hval ?_)
          case m9 => unfold maxLen; omega
          intro w3 hmap hg3
          have hO3 := HU.out _ _ hO2.out hmap hg3
          have HO3 : Hid (Own w w3 [boxP G 26 #[.int .i64 a, .int .i64 b, .int .i64 c], cameP B (firsts (M.take (k + 1)))]) := Lib.hid (by
            have e1 : firsts (M.take (k + 1)) = firsts (M.take k) ++ [A] := by rw [HT.out]; unfold firsts; rw [List.map_append]; rw [A0.out]; rfl
            rw [e1]
            exact Own.less (Qs := [boxP wr.heap.size 92 #[.int .i64 A, .int .u64 (V : Int)]]) hO3)
          clear hmap hg3 hO3 hown2 d0 HU hO2
          go_wp2
          go_roundw
          case rel => exact ⟨k + 1, by omega, by go_num, HP', HO3⟩
          case measure => simp [intOf]; omega
    · have hlt' : ¬ (k : Int) < (m : Int) := by omega
      obtain rfl : k = m := by omega
      have hg := HO.out.grown
      clear HO
      have HR : Hid (decide (preB a b c M k) = true) := Lib.hid (decide_eq_true HP.out)
      go_wp2
      go_ret
      exact boolIs_mk HR.out hg

theorem RMay0_any (a b c : Int) (bd : Option Addr) (m cc : Nat) (M : List (Int × Nat)) (w : World) (hat : At w bd (icells M)) (hL : M.length = m) (hw : ∀ p ∈ M, (Lit.int .i64 p.1).wf = true) :
    Calls Tryz.prog 54 #[gv a b c, .slice bd m cc] w (BoolIs (mayW a b c M) w) := by
  by_cases h : 96 < m
  · have : mayW a b c M = false := by unfold mayW; rw [decide_eq_false_iff_not]; omega
    rw [this]
    exact May_many a b c bd m cc w h
  · cases hb : mayB a b c with
    | false =>
      have : mayW a b c M = false := by unfold mayW; rw [decide_eq_false_iff_not, hb]; simp
      rw [this]
      exact May_geo a b c bd m cc w h hb
    | true =>
      have : mayW a b c M = decide (preB a b c M m) := by
        unfold mayW
        rw [hL, hb]
        simp
        omega
      rw [this]
      exact May_at a b c bd m cc M w hat hL h hb hw
end Go.Proofs.YtpdofdloclmbdaaGreat
end
section
/- Package record: Read. -/
namespace Go.Proofs.YtpdofdloclmbdaaGreat
open Go.RowKit Go.Grommet

theorem Own.append {w0 w w' : World} {Ps : List Pr} (h : Own w0 w Ps) (k : Nat) {e sz n n' : Nat} {v v' : Value} {xs ys : List Value} (hk : Ps[k]? = some (rowP e sz v n xs)) (hr : w'.ownsRow 0 e sz v' n' ys) (hg : w.grownBy w' v.ownBlock)
    (hnew : ∀ g, v'.ownBlock = some g → v.ownBlock = some g ∨ w.heap.size ≤ g) : Own w0 w' (Ps.set k (rowP e sz v' n' ys)) := by
  obtain ⟨F, h1, h2⟩ := h.take k hk
  refine h2 _ _ ⟨fun i => F i ∨ w.heap.size ≤ i ∧ i < w'.heap.size, ⟨hr, fun i hi => ?_, fun i hi => ?_⟩, fun i hi => hi.imp id (fun x => x.1), Turn.of hg (fun i e => h1.2.1 i e)⟩
  · rcases hnew i hi with e | e
    · exact .inl (h1.2.1 i e)
    · exact .inr ⟨e, row_old hr i hi⟩
  · rcases hi with hi | hi
    · exact Nat.lt_of_lt_of_le (h1.2.2 i hi) hg.size
    · exact hi.2

theorem Own.rowNew {w0 w : World} {Ps : List Pr} (h : Own w0 w Ps) (k : Nat) {e s n : Nat} {v : Value} {xs : List Value} (hk : Ps[k]? = some (rowP e s v n xs)) : ∀ i, v.ownBlock = some i → w0.heap.size ≤ i := by
  obtain ⟨Fs, h1, _, h3, _⟩ := h
  intro i hi
  exact h3 k (List.getElem?_eq_some_iff.1 hk).1 i ((h1 k _ hk).2.1 i hi)

theorem si_wrap (v : Nat) (hv : v < 18446744073709551616) : IntKind.i64.wrap (v : Int) = si v := by
  unfold si
  split
  · exact IntWalk.i64_in _ ⟨by omega, by omega⟩
  · simp only [IntKind.wrap, IntKind.bits, IntKind.signed]
    simp
    omega
theorem si_wf (v : Nat) (hv : v < 18446744073709551616) : (Lit.int .i64 (si v)).wf = true := by
  simp only [Lit.wf, Bool.and_eq_true, decide_eq_true_eq]
  unfold si
  exact ⟨by show (-9223372036854775808 : Int) ≤ _; split <;> omega, by show _ ≤ (9223372036854775807 : Int); split <;> omega⟩

theorem wp_appI {w : World} {o : Oper} {a : Act} {K : Act → World → Prop} {Q : Exit → Act → World → Prop} (s x : Operand)
    (ho : o.op = .call { callee := .builtin .append, args := #[s, x], argTypes := #[43, 43] })
    (base : Nat) (v : Value) (n : Nat) (L : List (Int × Nat)) (hs : a.eval s = v) (hown : w.ownsRow base 92 2 v n (icells L))
    (ad : Addr) (m c : Nat) (M : List (Int × Nat)) (hx : a.eval x = .slice (some ad) m c) (hl : M.length = m) (hw : At w (some ad) (icells M))
    (hb : n + m ≤ 1099511627776) (hbase : base ≤ w.heap.size)
    (h : ∀ ad' cap' w', w'.ownsRow base 92 2 (.slice ad' (n + m) cap') (n + m) (icells (L ++ M)) → w.grownBy w' v.ownBlock → (∀ g, (Value.slice ad' (n + m) cap').ownBlock = some g → v.ownBlock = some g ∨ w.heap.size ≤ g) → K (a.put o.dst (.slice ad' (n + m) cap')) w') : o.wp Tryz.prog a w K Q := by
  obtain ⟨i0, hi, hz0, hz1, hz2⟩ := info_parts Tryz.info92
  obtain ⟨v', w', hr, h2, h3, h4⟩ := run_append_blk (P := Tryz.prog) w base 43 o.type 92 i0 (.agg #[.int .i64 0, .int .u64 0]) 2 16 Tryz.underlying43 hi hz0 hz1 hz2 rfl (by decide) v n (icells L) hown ad m c (icells M) (by rw [icells_length, hl]) hw.some (icells_oneCell M) (by unfold maxLen; omega) (by omega) hbase
  obtain ⟨ad', cap', rfl, _⟩ := row_slice h2
  unfold Oper.wp execOp
  simp only [ho, resolve, invoke, builtin, Sem.run_bind, Sem.run_pure, Result.andThen_ok, List.map_toArray, List.map_cons, List.map_nil, hs, hx, hr]
  exact h ad' cap' w' (by rw [icells_append]; exact h2) h3 h4

/-- One cell stands. -/
def CellS (q o : Nat) (v : Value) (w : World) : Prop := w.cell? ⟨q, o, none⟩ = some v
theorem CellS.keep {q o : Nat} {v : Value} {w w' : World} (h : CellS q o v w) (hg : w.grownBy w' none) : CellS q o v w' := hg.cell h (by simp)

def ReadIs (base : Nat) (a b c : Int) (xs : List Nat) (w : World) (e : Ending) (w' : World) : Prop :=
  (readB a b c xs = true ∧ ∃ ad cap, e = .returned (.tuple #[.slice ad (xs.getD 0 0) cap, .int .i64 0]) ∧ w'.ownsRow base 92 2 (.slice ad (xs.getD 0 0) cap) (xs.getD 0 0) (icells (writesR xs (xs.getD 0 0))) ∧ w.grownBy w' none) ∨
  (readB a b c xs = false ∧ e = .returned (.tuple #[.slice none 0 0, .int .i64 4]) ∧ w.grownBy w' none)

set_option maxHeartbeats 1000000 in
theorem Read_cut (base : Nat) (a b c : Int) (ad : Option Addr) (l cc : Nat) (xs : List Nat) (w : World) (hx : Words w ad l xs) (h : cutB xs = false) :
    Calls Tryz.prog 101 #[gv a b c, .slice ad l cc] w (ReadIs base a b c xs w) := by
  have HC := Lib.hid (fun wx (h' : Words wx ad l xs) => cut_no ad l cc xs wx h' h)
  have HR : ∀ w', w.grownBy w' none → ReadIs base a b c xs w (.returned (.tuple #[.slice none 0 0, .int .i64 4])) w' := fun w' hg => .inr ⟨by unfold readB; rw [h]; rfl, rfl, hg⟩
  replace HR := Lib.hid HR
  unfold gv
  have hg := World.grownBy_alloc w (.cells #[.int .i64 a, .int .i64 b, .int .i64 c] 26) none
  have hx1 := Lib.hid (hx.keep hg (by simp))
  clear hx h
  go_enter Tryz.func101, Tryz.ntmps101
  go_wp2_with fail
  refine (HC.out _ hx1.out).mono ?_
  rintro e w1 ⟨rfl, rfl⟩
  clear HC hx1
  go_wp2
  go_ret2
  exact HR.out _ hg

set_option maxRecDepth 100000 in
set_option maxHeartbeats 4000000 in
theorem Read_at (base : Nat) (a b c : Int) (q o l cc : Nat) (xs : List Nat) (w : World) (hx : Words w (some ⟨q, o, none⟩) l xs) (hlc : l ≤ cc) (h : cutB xs = true) (hb : base ≤ w.heap.size) :
    Calls Tryz.prog 101 #[gv a b c, .slice (some ⟨q, o, none⟩) l cc] w (ReadIs base a b c xs w) := by
  obtain ⟨h0, h1, h2⟩ := cutB_yes h
  have hl := hx.len
  have HC := Lib.hid (fun wx (h' : Words wx (some ⟨q, o, none⟩) l xs) => cut_yes q o l cc xs wx h' hlc h)
  obtain ⟨n, Hn⟩ : ∃ n, Hid (n = xs.getD 0 0) := ⟨_, Lib.hid rfl⟩
  rw [← Hn.out] at HC h1 h2
  have HX := Lib.hid hx
  have hsm := Lib.hid hx.small
  obtain ⟨k, Hk⟩ : ∃ k, Hid (k = 1 + 2 * n) := ⟨_, Lib.hid rfl⟩
  obtain ⟨K, HK⟩ : ∃ K, Hid (K = k + 1) := ⟨_, Lib.hid rfl⟩
  rw [show 2 + 2 * n = (1 + 2 * n) + 1 from by omega, ← Hk.out, ← HK.out] at HC
  have hK1 : (K : Int) - 1 = (k : Int) := by rw [HK.out]; omega
  have hK2 : (k : Int) < (K : Int) := by rw [HK.out]; omega
  have hkl : k < l := by rw [Hk.out]; omega
  obtain ⟨q', o', he, c1⟩ := hx.cell k hkl
  cases he
  have hs := hx.get k hkl
  have hRB : Hid (readB a b c xs = (decide (xs.getD k 0 = sumN (xs.take k)) && mayW a b c (writesR xs n))) := Lib.hid (by unfold readB; rw [h, ← Hn.out, ← Hk.out]; rfl)
  obtain ⟨S, HS⟩ : ∃ S, Hid (S = xs.getD k 0) := ⟨_, Lib.hid rfl⟩
  rw [← HS.out] at c1 hs hRB
  obtain ⟨U, HU⟩ : ∃ U, Hid (U = sumN (xs.take k)) := ⟨_, Lib.hid rfl⟩
  rw [← HU.out] at hRB
  have hWk : Words w (some ⟨q, o, none⟩) k (xs.take k) := ⟨by rw [List.length_take, hl]; omega, fun n hn => hx.small n (List.mem_of_mem_take hn), by
    have := hx.at_
    rw [← List.take_append_drop k xs, List.map_append] at this
    exact at_prefix this, by have := hx.fits; omega⟩
  have HWk := Lib.hid hWk
  have hsl := fun wx => slice_to_lit (P := Tryz.prog) 33 44 Tryz.underlying33 Tryz.sizeOf44 q o K cc k (by omega) wx
  have hkk : k ≤ 200 := by rw [Hk.out]; omega
  have hg := World.grownBy_alloc w (.cells #[.int .i64 a, .int .i64 b, .int .i64 c] 26) none
  have hx1 := Lib.hid (hx.keep hg (by simp))
  have hO : Own w (w.alloc (.cells #[.int .i64 a, .int .i64 b, .int .i64 c] 26)) [boxP w.heap.size 26 #[.int .i64 a, .int .i64 b, .int .i64 c]] := (Own.nil w).addBox _ _
  have HO := Lib.hid hO
  have hcS : CellS q (o + k) (.int .u64 (S : Int)) (w.alloc (.cells #[.int .i64 a, .int .i64 b, .int .i64 c] 26)) := hg.cell c1 (by simp)
  have HOf := Lib.hid (fun wx (h' : Words wx (some ⟨q, o, none⟩) k (xs.take k)) => Of_any (some ⟨q, o, none⟩) k cc (xs.take k) wx h')
  rw [← HU.out] at HOf
  obtain ⟨G, hG⟩ : ∃ G, Hid (G = w.heap.size) := ⟨_, Lib.hid rfl⟩
  rw [← hG.out] at HO
  unfold gv
  clear hx h hWk hO c1 hl h2
  go_enter Tryz.func101, Tryz.ntmps101
  go_wp2_with fail
  refine (HC.out _ hx1.out).mono ?_
  rintro e w1 ⟨rfl, rfl⟩
  clear HC hx1
  rw [← hG.out]
  go_wp2_with fail
  refine wp_region_held_drew (S := fun w' => CellS q (o + k) (.int .u64 (S : Int)) w') (by kernel_rfl) (hcS) (fun hS => ?_)
  refine wpAnyH_take (i := 0) (oi := { dst := some 20, op := Op.move (Operand.tmp 1), type := 33, pos := "record.go:77", after := #[], guard := none }) (v := ?vr101r5o0) rfl (by kernel_rfl) (by kernel_rfl) (by kernel_rfl) (fun _ _ _ h => h) (Or.inl ⟨by rfl, ?hr101r5o0⟩) hS ?_
  case hr101r5o0 => (intro wx hx; skip; go_simp; (try with_reducible rfl))
  try simp only [Act.put, List.setIfInBounds_toArray, List.set_cons_zero, List.set_cons_succ]
  refine wpAnyH_take (i := 1) (oi := { dst := some 21, op := Op.move (Operand.tmp 7), type := 3, pos := "record.go:77", after := #[], guard := none }) (v := ?vr101r5o1) rfl (by kernel_rfl) (by kernel_rfl) (by kernel_rfl) (fun _ _ _ h => h) (Or.inl ⟨by rfl, ?hr101r5o1⟩) hS ?_
  case hr101r5o1 => (intro wx hx; skip; go_simp; (try with_reducible rfl))
  try simp only [Act.put, List.setIfInBounds_toArray, List.set_cons_zero, List.set_cons_succ]
  refine wpAnyH_take (i := 2) (oi := { dst := some 22, op := Op.indexAddr 33 (Operand.tmp 20) (Operand.tmp 21), type := 0, pos := "record.go:77", after := #[{ on := 0, ground := Ground.data }, { on := 1, ground := Ground.data }], guard := none }) (v := ?vr101r5o2) rfl (by kernel_rfl) (by kernel_rfl) (by kernel_rfl) (fun _ _ _ h => h) (Or.inl ⟨by rfl, ?hr101r5o2⟩) hS ?_
  case hr101r5o2 => (intro wx hx; skip; go_simp; (try with_reducible rfl))
  try simp only [Act.put, List.setIfInBounds_toArray, List.set_cons_zero, List.set_cons_succ]
  refine wpAnyH_take (i := 3) (oi := { dst := some 23, op := Op.load 44 (Operand.tmp 22), type := 44, pos := "record.go:77", after := #[{ on := 2, ground := Ground.data }], guard := none }) (v := ?vr101r5o3) rfl (by kernel_rfl) (by kernel_rfl) (by kernel_rfl) (fun _ _ _ h => h) (Or.inl ⟨by rfl, ?hr101r5o3⟩) hS ?_
  case hr101r5o3 => (intro wx hx; have x0 : wx.cell? ⟨q, o + k, none⟩ = some (.int .u64 (S : Int)) := hx; go_simp; (try with_reducible rfl))
  try simp only [Act.put, List.setIfInBounds_toArray, List.set_cons_zero, List.set_cons_succ]
  refine wpAnyH_take (i := 4) (oi := { dst := some 24, op := Op.move (Operand.tmp 1), type := 33, pos := "record.go:77", after := #[], guard := none }) (v := ?vr101r5o4) rfl (by kernel_rfl) (by kernel_rfl) (by kernel_rfl) (fun _ _ _ h => h) (Or.inl ⟨by rfl, ?hr101r5o4⟩) hS ?_
  case hr101r5o4 => (intro wx hx; skip; go_simp; (try with_reducible rfl))
  try simp only [Act.put, List.setIfInBounds_toArray, List.set_cons_zero, List.set_cons_succ]
  refine wpAnyH_take (i := 5) (oi := { dst := some 25, op := Op.move (Operand.tmp 7), type := 3, pos := "record.go:77", after := #[], guard := none }) (v := ?vr101r5o5) rfl (by kernel_rfl) (by kernel_rfl) (by kernel_rfl) (fun _ _ _ h => h) (Or.inl ⟨by rfl, ?hr101r5o5⟩) hS ?_
  case hr101r5o5 => (intro wx hx; skip; go_simp; (try with_reducible rfl))
  try simp only [Act.put, List.setIfInBounds_toArray, List.set_cons_zero, List.set_cons_succ]
  refine wpAnyH_take (i := 6) (oi := { dst := some 26, op := Op.slice 33 (Operand.tmp 24) none (some (Operand.tmp 25)) none, type := 33, pos := "record.go:77", after := #[{ on := 4, ground := Ground.data }, { on := 5, ground := Ground.data }], guard := none }) (v := ?vr101r5o6) rfl (by kernel_rfl) (by kernel_rfl) (by kernel_rfl) (fun _ _ _ h => h) (Or.inl ⟨by rfl, ?hr101r5o6⟩) hS ?_
  case hr101r5o6 => (intro wx hx; have x0 : wx.cell? ⟨q, o + k, none⟩ = some (.int .u64 (S : Int)) := hx; go_simp; (try with_reducible rfl))
  try simp only [Act.put, List.setIfInBounds_toArray, List.set_cons_zero, List.set_cons_succ]
  refine wpAnyH_ready (rs := [7]) (by kernel_rfl) (by simp) ?_
  refine AllReadyH.cons (o := { dst := some 27, op := Op.call { callee := Callee.value (Operand.func 95), args := #[Operand.tmp 26], argTypes := #[33] }, type := 44, pos := "record.go:77", after := #[{ on := 6, ground := Ground.data }], guard := none }) rfl (fun K hK => ?_) AllReadyH.nil
  go_simp
  refine (HOf.out _ (HWk.out.keep (grown_trans hg (grown_drew (World.grownBy.refl _ none))) (by simp))).mono ?_
  rintro e wA ⟨rfl, hgA⟩
  have hS1 := CellS.keep hS hgA
  have hgA2 := grown_trans (grown_drew (World.grownBy.refl _ none)) hgA
  refine hK.out _ _ ?hsr101r5o7 (fun hS => ?_)
  case hsr101r5o7 => (exact hS1)
  clear hK K
  try simp only [Act.put, List.setIfInBounds_toArray, List.set_cons_zero, List.set_cons_succ]
  refine wpAnyH_take (i := 8) (oi := { dst := some 28, op := Op.binOp BinOp.neq 44 (Operand.tmp 23) (Operand.tmp 27) 44, type := 4, pos := "record.go:77", after := #[{ on := 3, ground := Ground.data }, { on := 7, ground := Ground.data }], guard := none }) (v := ?vr101r5o8) rfl (by kernel_rfl) (by kernel_rfl) (by kernel_rfl) (fun _ _ _ h => h) (Or.inl ⟨by rfl, ?hr101r5o8⟩) hS ?_
  case hr101r5o8 => (intro wx hx; skip; go_simp; (try with_reducible rfl))
  try simp only [Act.put, List.setIfInBounds_toArray, List.set_cons_zero, List.set_cons_succ]
  refine wpAnyH_done (by kernel_rfl) ?_ _
  have HO1 := Lib.hid (HO.out.quiet hgA2)
  clear HO HOf hgA hgA2 hcS hS hS1 hsl
  by_cases hSU : S = U
  · subst hSU
    have e1 : ((S : Int) != (S : Int)) = false := by simp
    replace HO1 := Lib.hid (show Own w wA ([boxP G 26 #[.int .i64 a, .int .i64 b, .int .i64 c]] ++ [rowP 92 2 (.slice none 0 0) 0 (icells (writesR xs 0))]) from HO1.out.add (P := rowP 92 2 (.slice none 0 0) 0 (icells (writesR xs 0))) (F := fun _ => False) ⟨World.ownsRow_nil _ _ _ _, ⟨fun i hi => (by cases hi), fun i hi => False.elim hi⟩⟩ (fun i hi => False.elim hi) (World.grownBy.refl _ _))
    go_wp2_with fail
    go_loopw [8, 9] (fun lv i wr => ∃ j : Nat, j ≤ n ∧ i = .int .i64 ((1 + 2 * j : Nat) : Int) ∧ ∃ (ad : Option Addr) (cap : Nat), lv = .slice ad j cap ∧ Hid (Own w wr [boxP G 26 #[.int .i64 a, .int .i64 b, .int .i64 c], rowP 92 2 (.slice ad j cap) j (icells (writesR xs j))])) (fun _ i _ => k - (intOf i).toNat)
    case atStart => exact ⟨0, Nat.zero_le _, rfl, none, 0, rfl, HO1⟩
    case round =>
      clear HO1 e1
      obtain ⟨j, hj, rfl, ad, cap, rfl, HO⟩ := hrel
      obtain ⟨i, Hi⟩ : ∃ i, Hid (i = 1 + 2 * j) := ⟨_, Lib.hid rfl⟩
      rw [← Hi.out]
      have i0 : (0 : Int) ≤ (i : Int) := by omega
      have ik : i ≤ k := by rw [Hi.out, Hk.out]; omega
      by_cases hlt : j < n
      · have hik : i + 1 < k := by rw [Hi.out, Hk.out]; omega
        have hlt' : (i : Int) < (k : Int) := by omega
        have x1 : (i : Int) < (K : Int) := by omega
        have x2 : (i : Int) + 1 < (K : Int) := by omega
        have hWr := HX.out.keep HO.out.grown (by simp)
        obtain ⟨q', o', he, c1⟩ := hWr.cell i (by omega)
        cases he
        obtain ⟨q', o', he, c2⟩ := hWr.cell (i + 1) (by omega)
        cases he
        have s1 := hWr.get i (by omega)
        have s2 := hWr.get (i + 1) (by omega)
        have HT : Hid (writesR xs (j + 1) = writesR xs j ++ [(si (xs.getD i 0), xs.getD (i + 1) 0)]) := Lib.hid (by rw [writesR_succ, Hi.out, show 1 + 2 * j + 1 = 2 + 2 * j from by omega])
        have wq1 := si_wrap _ s1
        obtain ⟨A, HA⟩ : ∃ A, Hid (A = xs.getD i 0) := ⟨_, Lib.hid rfl⟩
        obtain ⟨V, HV⟩ : ∃ V, Hid (V = xs.getD (i + 1) 0) := ⟨_, Lib.hid rfl⟩
        rw [← HA.out] at c1 wq1 HT
        rw [← HV.out] at c2 HT
        have wq2 : IntKind.i64.wrap ((i : Int) + 1) = (i : Int) + 1 := IntWalk.i64_in _ ⟨by omega, by omega⟩
        have hrow := (Own.row HO.out 1 rfl)
        obtain ⟨B, HB⟩ : ∃ B, Hid (B = si A) := ⟨_, Lib.hid rfl⟩
        rw [← HB.out] at wq1 HT
        have i1 : (0 : Int) ≤ (i : Int) + 1 := by omega
        clear s1 s2 hWr
        go_wp2_with fail
        refine wp_region_held_drew (S := fun w' => (w'.cell? ⟨q, o + i, none⟩ = some (.int .u64 (A : Int)) ∧ w'.cell? ⟨q, o + (i + 1), none⟩ = some (.int .u64 (V : Int)))) (by kernel_rfl) (⟨c1, c2⟩) (fun hS => ?_)
        refine wpAnyH_take (i := 0) (oi := { dst := some 34, op := Op.move (Operand.tmp 8), type := 43, pos := "record.go:82", after := #[], guard := none }) (v := ?vr101r11o0) rfl (by kernel_rfl) (by kernel_rfl) (by kernel_rfl) (fun _ _ _ h => h) (Or.inl ⟨by rfl, ?hr101r11o0⟩) hS ?_
        case hr101r11o0 => (intro wx hx; skip; go_simp; (try with_reducible rfl))
        try simp only [Act.put, List.setIfInBounds_toArray, List.set_cons_zero, List.set_cons_succ]
        refine wpAnyH_take (i := 1) (oi := { dst := some 35, op := Op.move (Operand.tmp 1), type := 33, pos := "record.go:82", after := #[], guard := none }) (v := ?vr101r11o1) rfl (by kernel_rfl) (by kernel_rfl) (by kernel_rfl) (fun _ _ _ h => h) (Or.inl ⟨by rfl, ?hr101r11o1⟩) hS ?_
        case hr101r11o1 => (intro wx hx; skip; go_simp; (try with_reducible rfl))
        try simp only [Act.put, List.setIfInBounds_toArray, List.set_cons_zero, List.set_cons_succ]
        refine wpAnyH_take (i := 2) (oi := { dst := some 36, op := Op.move (Operand.tmp 9), type := 3, pos := "record.go:82", after := #[], guard := none }) (v := ?vr101r11o2) rfl (by kernel_rfl) (by kernel_rfl) (by kernel_rfl) (fun _ _ _ h => h) (Or.inl ⟨by rfl, ?hr101r11o2⟩) hS ?_
        case hr101r11o2 => (intro wx hx; skip; go_simp; (try with_reducible rfl))
        try simp only [Act.put, List.setIfInBounds_toArray, List.set_cons_zero, List.set_cons_succ]
        refine wpAnyH_take (i := 3) (oi := { dst := some 37, op := Op.indexAddr 33 (Operand.tmp 35) (Operand.tmp 36), type := 0, pos := "record.go:82", after := #[{ on := 1, ground := Ground.data }, { on := 2, ground := Ground.data }], guard := none }) (v := ?vr101r11o3) rfl (by kernel_rfl) (by kernel_rfl) (by kernel_rfl) (fun _ _ _ h => h) (Or.inl ⟨by rfl, ?hr101r11o3⟩) hS ?_
        case hr101r11o3 => (intro wx hx; skip; go_simp; (try with_reducible rfl))
        try simp only [Act.put, List.setIfInBounds_toArray, List.set_cons_zero, List.set_cons_succ]
        refine wpAnyH_take (i := 4) (oi := { dst := some 38, op := Op.load 44 (Operand.tmp 37), type := 44, pos := "record.go:82", after := #[{ on := 3, ground := Ground.data }], guard := none }) (v := ?vr101r11o4) rfl (by kernel_rfl) (by kernel_rfl) (by kernel_rfl) (fun _ _ _ h => h) (Or.inl ⟨by rfl, ?hr101r11o4⟩) hS ?_
        case hr101r11o4 => (intro wx hx; obtain ⟨y0, y1⟩ := hx; go_simp; (try with_reducible rfl))
        try simp only [Act.put, List.setIfInBounds_toArray, List.set_cons_zero, List.set_cons_succ]
        refine wpAnyH_take (i := 5) (oi := { dst := some 39, op := Op.convert 44 3 (Operand.tmp 38), type := 3, pos := "record.go:82", after := #[{ on := 4, ground := Ground.data }], guard := none }) (v := ?vr101r11o5) rfl (by kernel_rfl) (by kernel_rfl) (by kernel_rfl) (fun _ _ _ h => h) (Or.inl ⟨by rfl, ?hr101r11o5⟩) hS ?_
        case hr101r11o5 => (intro wx hx; obtain ⟨y0, y1⟩ := hx; go_simp; (try with_reducible rfl))
        try simp only [Act.put, List.setIfInBounds_toArray, List.set_cons_zero, List.set_cons_succ]
        refine wpAnyH_take (i := 6) (oi := { dst := some 40, op := Op.move (Operand.tmp 1), type := 33, pos := "record.go:82", after := #[], guard := none }) (v := ?vr101r11o6) rfl (by kernel_rfl) (by kernel_rfl) (by kernel_rfl) (fun _ _ _ h => h) (Or.inl ⟨by rfl, ?hr101r11o6⟩) hS ?_
        case hr101r11o6 => (intro wx hx; skip; go_simp; (try with_reducible rfl))
        try simp only [Act.put, List.setIfInBounds_toArray, List.set_cons_zero, List.set_cons_succ]
        refine wpAnyH_take (i := 7) (oi := { dst := some 41, op := Op.move (Operand.tmp 9), type := 3, pos := "record.go:82", after := #[], guard := none }) (v := ?vr101r11o7) rfl (by kernel_rfl) (by kernel_rfl) (by kernel_rfl) (fun _ _ _ h => h) (Or.inl ⟨by rfl, ?hr101r11o7⟩) hS ?_
        case hr101r11o7 => (intro wx hx; skip; go_simp; (try with_reducible rfl))
        try simp only [Act.put, List.setIfInBounds_toArray, List.set_cons_zero, List.set_cons_succ]
        refine wpAnyH_take (i := 8) (oi := { dst := some 42, op := Op.binOp BinOp.add 3 (Operand.tmp 41) (Operand.const (Value.int IntKind.i64 1)) 3, type := 3, pos := "record.go:82", after := #[{ on := 7, ground := Ground.data }], guard := none }) (v := ?vr101r11o8) rfl (by kernel_rfl) (by kernel_rfl) (by kernel_rfl) (fun _ _ _ h => h) (Or.inl ⟨by rfl, ?hr101r11o8⟩) hS ?_
        case hr101r11o8 => (intro wx hx; skip; go_simp; (try with_reducible rfl))
        try simp only [Act.put, List.setIfInBounds_toArray, List.set_cons_zero, List.set_cons_succ]
        refine wpAnyH_take (i := 9) (oi := { dst := some 43, op := Op.indexAddr 33 (Operand.tmp 40) (Operand.tmp 42), type := 0, pos := "record.go:82", after := #[{ on := 6, ground := Ground.data }, { on := 8, ground := Ground.data }], guard := none }) (v := ?vr101r11o9) rfl (by kernel_rfl) (by kernel_rfl) (by kernel_rfl) (fun _ _ _ h => h) (Or.inl ⟨by rfl, ?hr101r11o9⟩) hS ?_
        case hr101r11o9 => (intro wx hx; skip; go_simp; (try with_reducible rfl))
        try simp only [Act.put, List.setIfInBounds_toArray, List.set_cons_zero, List.set_cons_succ]
        refine wpAnyH_take (i := 10) (oi := { dst := some 44, op := Op.load 44 (Operand.tmp 43), type := 44, pos := "record.go:82", after := #[{ on := 9, ground := Ground.data }], guard := none }) (v := ?vr101r11o10) rfl (by kernel_rfl) (by kernel_rfl) (by kernel_rfl) (fun _ _ _ h => h) (Or.inl ⟨by rfl, ?hr101r11o10⟩) hS ?_
        case hr101r11o10 => (intro wx hx; obtain ⟨y0, y1⟩ := hx; go_simp; (try with_reducible rfl))
        try simp only [Act.put, List.setIfInBounds_toArray, List.set_cons_zero, List.set_cons_succ]
        refine wpAnyH_take (i := 11) (oi := { dst := some 45, op := Op.build 92 #[(0, Operand.tmp 39), (1, Operand.tmp 44)], type := 92, pos := "record.go:82", after := #[{ on := 5, ground := Ground.data }, { on := 10, ground := Ground.data }], guard := none }) (v := ?vr101r11o11) rfl (by kernel_rfl) (by kernel_rfl) (by kernel_rfl) (fun _ _ _ h => h) (Or.inl ⟨by rfl, ?hr101r11o11⟩) hS ?_
        case hr101r11o11 => (intro wx hx; skip; go_simp; (try with_reducible rfl))
        try simp only [Act.put, List.setIfInBounds_toArray, List.set_cons_zero, List.set_cons_succ]
        refine wpAnyH_ready (rs := [12]) (by kernel_rfl) (by simp) ?_
        refine AllReadyH.cons (o := { dst := some 46, op := Op.buildSlice 43 1 #[(0, Operand.tmp 45)], type := 43, pos := "record.go:82", after := #[{ on := 11, ground := Ground.data }], guard := none }) rfl (fun K hK => ?_) AllReadyH.nil
        go_simp
        skip
        refine hK.out _ _ ?hsr101r11o12 (fun hS => ?_)
        case hsr101r11o12 => (exact ⟨(World.grownBy_alloc _ _ none).cell hS.1 (by simp), (World.grownBy_alloc _ _ none).cell hS.2 (by simp)⟩)
        clear hK K
        try simp only [Act.put, List.setIfInBounds_toArray, List.set_cons_zero, List.set_cons_succ]
        refine wpAnyH_ready (rs := [13]) (by kernel_rfl) (by simp) ?_
        refine AllReadyH.cons (o := { dst := some 47, op := Op.call { callee := Callee.builtin Builtin.append, args := #[Operand.tmp 34, Operand.tmp 46], argTypes := #[43, 43] }, type := 43, pos := "record.go:82", after := #[{ on := 0, ground := Ground.data }, { on := 12, ground := Ground.data }], guard := none }) rfl (fun K hK => ?_) AllReadyH.nil
        refine wp_appI _ _ rfl 0 _ j (writesR xs j) rfl (show (wr.drew.alloc (.cells #[.int .i64 B, .int .u64 (V : Int)] 92)).ownsRow 0 92 2 (.slice ad j cap) j (icells (writesR xs j)) from World.ownsRow.alloc hrow _) ⟨wr.heap.size, 0, none⟩ 1 1 [(B, V)] rfl rfl (at_of_row (heap_alloc_new wr.drew _)) ?gl (Nat.zero_le _) ?_
        case gl => omega
        intro ad2 cap2 w2 hrow2 hg2 hnew2
        have hOx := Own.append (Own.quiet HO.out (grown_trans (grown_drew (World.grownBy.refl _ none)) (World.grownBy_alloc wr.drew (.cells #[.int .i64 B, .int .u64 (V : Int)] 92) none))) 1 rfl hrow2 hg2 hnew2
        have hcx := Own.grown hOx
        have hyy := HX.out.keep hcx (by simp)
        obtain ⟨q1, o1, he1, z1⟩ := hyy.cell i (by omega)
        cases he1
        obtain ⟨q1, o1, he1, z2⟩ := hyy.cell (i + 1) (by omega)
        cases he1
        rw [← HA.out] at z1
        rw [← HV.out] at z2
        refine hK.out _ _ ?hsq (fun hS => ?_)
        case hsq => exact ⟨z1, z2⟩
        clear hK K
        try simp only [Act.put, List.setIfInBounds_toArray, List.set_cons_zero, List.set_cons_succ]
        refine wpAnyH_take (i := 14) (oi := { dst := some 8, op := Op.assign (Operand.tmp 47), type := 43, pos := "record.go:82", after := #[{ on := 13, ground := Ground.data }, { on := 13, ground := Ground.chain }, { on := 0, ground := Ground.phase }, { on := 1, ground := Ground.phase }, { on := 2, ground := Ground.phase }, { on := 3, ground := Ground.phase }, { on := 4, ground := Ground.phase }, { on := 5, ground := Ground.phase }, { on := 6, ground := Ground.phase }, { on := 7, ground := Ground.phase }, { on := 8, ground := Ground.phase }, { on := 9, ground := Ground.phase }, { on := 10, ground := Ground.phase }, { on := 11, ground := Ground.phase }, { on := 12, ground := Ground.phase }, { on := 13, ground := Ground.phase }], guard := none }) (v := ?vr101r11o14) rfl (by kernel_rfl) (by kernel_rfl) (by kernel_rfl) (fun _ _ _ h => h) (Or.inl ⟨by rfl, ?hr101r11o14⟩) hS ?_
        case hr101r11o14 => (intro wx hx; skip; go_simp; (try with_reducible rfl))
        try simp only [Act.put, List.setIfInBounds_toArray, List.set_cons_zero, List.set_cons_succ]
        refine wpAnyH_done (by kernel_rfl) ?_ _
        have hOy : Hid (Own w w2 [boxP G 26 #[.int .i64 a, .int .i64 b, .int .i64 c], rowP 92 2 (.slice ad2 (j + 1) cap2) (j + 1) (icells (writesR xs (j + 1)))]) := Lib.hid (by rw [HT.out]; exact hOx)
        clear hOx hcx hyy z1 z2 hS hrow2 hg2 hnew2 hrow c1 c2 wq1 wq2
        go_wp2
        go_roundw
        case rel =>
          have he : Value.int .i64 ((i : Int) + 2) = .int .i64 ((1 + 2 * (j + 1) : Nat) : Int) := by rw [Hi.out]; congr 1
          exact ⟨j + 1, by omega, he, ad2, cap2, rfl, hOy⟩
        case measure => simp [intOf]; omega
      · obtain rfl : j = n := by omega
        have hik : i = k := by rw [Hi.out, Hk.out]
        have hlt' : ¬ (i : Int) < (k : Int) := by omega
        have hbx := Own.box HO.out 0 rfl
        have g0 : wr.cell? ⟨G, 0, none⟩ = some (.int .i64 a) := by simp [World.cell?, hbx]
        have g1 : wr.cell? ⟨G, 1, none⟩ = some (.int .i64 b) := by simp [World.cell?, hbx]
        have g2 : wr.cell? ⟨G, 2, none⟩ = some (.int .i64 c) := by simp [World.cell?, hbx]
        obtain ⟨hat, hLn, _⟩ := Own.pairs HO.out 1 rfl
        have HM := Lib.hid (RMay0_any a b c ad j cap (writesR xs j) wr hat hLn (fun p hp => by
          obtain ⟨t, ht, rfl⟩ := List.mem_map.1 hp
          refine si_wf _ ?_
          have := List.mem_range.1 ht
          exact HX.out.get _ (by have := Hk.out; omega)))
        have hrow := Own.row HO.out 1 rfl
        have hnew := Own.rowNew HO.out 1 rfl
        have hgr := HO.out.grown
        unfold gv at HM
        cases hmw : mayW a b c (writesR xs j) with
        | true =>
          rw [hmw] at HM
          have HR : ∀ w', wr.grownBy w' none → ReadIs base a b c xs w (.returned (.tuple #[.slice ad j cap, .int .i64 0])) w' := fun w' hg' => .inl ⟨by rw [hRB.out, hmw]; simp, ad, cap, by rw [← Hn.out], by
            rw [← Hn.out]
            exact row_base (hrow.kept hg' (by
              cases (Value.slice ad j cap).ownBlock with
              | none => exact .inl rfl
              | some t => exact .inr (by simp))) (fun i hi => Nat.le_trans hb (hnew i hi)), grown_trans hgr hg'⟩
          replace HR := Lib.hid HR
          clear hbx hat hLn hrow hnew hgr hmw HO hik
          go_wp2_with fail
          refine HM.out.mono ?_
          rintro e w5 ⟨rfl, hg5⟩
          clear HM
          go_wp2
          go_ret2
          exact HR.out _ hg5
        | false =>
          rw [hmw] at HM
          have HR : ∀ w', wr.grownBy w' none → ReadIs base a b c xs w (.returned (.tuple #[.slice none 0 0, .int .i64 4])) w' := fun w' hg' => .inr ⟨by rw [hRB.out, hmw, Bool.and_false], rfl, grown_trans hgr hg'⟩
          replace HR := Lib.hid HR
          clear hbx hat hLn hrow hnew hgr hmw HO hik
          go_wp2_with fail
          refine HM.out.mono ?_
          rintro e w5 ⟨rfl, hg5⟩
          clear HM
          go_wp2
          go_ret2
          exact HR.out _ hg5
  · have e1 : ((S : Int) != (U : Int)) = true := by simp; omega
    have HR : ReadIs base a b c xs w (.returned (.tuple #[.slice none 0 0, .int .i64 4])) wA := .inr ⟨by rw [hRB.out, decide_eq_false hSU]; rfl, rfl, HO1.out.grown⟩
    replace HR := Lib.hid HR
    clear HO1 hSU
    go_wp2
    go_ret2
    exact HR.out

theorem Read_any (base : Nat) (a b c : Int) (ad : Option Addr) (l cc : Nat) (xs : List Nat) (w : World) (hx : Words w ad l xs) (hlc : l ≤ cc) (hb : base ≤ w.heap.size) :
    Calls Tryz.prog 101 #[gv a b c, .slice ad l cc] w (ReadIs base a b c xs w) := by
  cases h : cutB xs with
  | false => exact Read_cut base a b c ad l cc xs w hx h
  | true =>
    have h0 := (cutB_yes h).1
    have hl := hx.len
    obtain ⟨q, o, rfl⟩ := Words.lit hx (by omega)
    exact Read_at base a b c q o l cc xs w hx hlc h hb
end Go.Proofs.YtpdofdloclmbdaaGreat
end
section
/- Package commit's helpers: clear, Clone, Apply. -/
-- OPTIONAL
namespace Go.Proofs.YtpdofdloclmbdaaGreat
open Go.RowKit Go.Grommet

/-- Words laid one behind the other from a place on. -/
def putL : List Nat → Nat → List Nat → List Nat
  | xs, _, [] => xs
  | xs, o, v :: t => putL (xs.set o v) (o + 1) t
theorem putL_length : ∀ (vs xs : List Nat) (o : Nat), (putL xs o vs).length = xs.length
  | [], _, _ => rfl
  | v :: t, xs, o => by rw [putL, putL_length t, List.length_set]
theorem getD_set (xs : List Nat) (o v i : Nat) : (xs.set o v).getD i 0 = if i = o ∧ o < xs.length then v else xs.getD i 0 := by
  rw [List.getD_eq_getElem?_getD, List.getD_eq_getElem?_getD]
  by_cases h : i = o
  · subst h
    by_cases hl : i < xs.length
    · rw [if_pos ⟨rfl, hl⟩, List.getElem?_set_self hl]; rfl
    · rw [if_neg (fun e => hl e.2), List.getElem?_eq_none (by simpa using hl), List.getElem?_eq_none (by omega)]
  · rw [if_neg (fun e => h e.1), List.getElem?_set_ne (fun e => h e.symm)]
theorem putL_get : ∀ (vs xs : List Nat) (o i : Nat), o + vs.length ≤ xs.length → (putL xs o vs).getD i 0 = if o ≤ i ∧ i < o + vs.length then vs.getD (i - o) 0 else xs.getD i 0
  | [], xs, o, i, _ => by rw [if_neg (by simp)]; rfl
  | v :: t, xs, o, i, h => by
    rw [List.length_cons] at h
    rw [putL, putL_get t (xs.set o v) (o + 1) i (by rw [List.length_set]; omega), getD_set, List.length_cons]
    by_cases h1 : o + 1 ≤ i ∧ i < o + 1 + t.length
    · rw [if_pos h1, if_pos ⟨by omega, by omega⟩, show i - o = (i - (o + 1)) + 1 from by omega, List.getD_cons_succ]
    · rw [if_neg h1]
      by_cases h2 : i = o
      · rw [if_pos ⟨h2, by omega⟩, if_pos ⟨by omega, by omega⟩, show i - o = 0 from by omega, List.getD_cons_zero]
      · rw [if_neg (fun e => h2 e.1), if_neg (by omega)]
/-- Words from a place on are 0. -/
def zap (xs : List Nat) (o n : Nat) : List Nat := putL xs o (List.replicate n 0)
theorem zap_length (xs : List Nat) (o n : Nat) : (zap xs o n).length = xs.length := putL_length _ _ _
theorem zap_get (xs : List Nat) (o n i : Nat) (h : o + n ≤ xs.length) : (zap xs o n).getD i 0 = if o ≤ i ∧ i < o + n then 0 else xs.getD i 0 := by
  unfold zap
  rw [putL_get _ _ _ _ (by simpa using h), List.length_replicate]
  by_cases h1 : o ≤ i ∧ i < o + n
  · rw [if_pos h1, if_pos h1, List.getD_eq_getElem?_getD, List.getElem?_replicate]; split <;> rfl
  · rw [if_neg h1, if_neg h1]

theorem set_selfC {Ps : List Pr} {k : Nat} {Q : Pr} (hk : Ps[k]? = some Q) : Ps.set k Q = Ps := by
  apply List.ext_getElem?
  intro i
  by_cases hi : i = k
  · subst hi; rw [List.getElem?_set_self (List.getElem?_eq_some_iff.1 hk).1, hk]
  · rw [List.getElem?_set_ne (fun e => hi e.symm)]
theorem Own.stores {w0 : World} {n cap b k : Nat} : ∀ (vs : List Nat) (o : Nat) (w : World) (xs : List Nat) (Ps : List Pr), Own w0 w Ps → Ps[k]? = some (rowP 44 1 (.slice (some ⟨b, 0, none⟩) n cap) n (xs.map wv)) →
    Own w0 (w.setCells b o (vs.map wv)) (Ps.set k (rowP 44 1 (.slice (some ⟨b, 0, none⟩) n cap) n ((putL xs o vs).map wv)))
  | [], o, w, xs, Ps, h, hk => by
    rw [List.map_nil, putL, set_selfC hk]
    exact h
  | v :: t, o, w, xs, Ps, h, hk => by
    have h1 := Own.store h k hk o (wv v)
    rw [← List.map_set] at h1
    have hkl := (List.getElem?_eq_some_iff.1 hk).1
    have h2 := Own.stores t (o + 1) _ _ _ h1 (List.getElem?_set_self hkl)
    rw [List.set_set] at h2
    exact h2

/-- 'x[lo:hi]'. -/
theorem slice_mid {P : Program} (T e : TypeId) (hT : P.underlying T = some (.slice e)) (hsz : ∀ w, (sizeOf e).run P w = .ok 1 w) (q o len cap lo hi K C F : Nat) (h1 : hi = lo + K) (h2 : cap = lo + C) (h3 : K ≤ C) (h4 : 0 < C) (h5 : o + lo = F) (w : World) :
    (Instr.slice T (.slice (some ⟨q, o, none⟩) len cap) (some (.int .i64 (lo : Int))) (some (.int .i64 (hi : Int))) none).run P w = .ok (.slice (some ⟨q, F, none⟩) K C) w := by
  have he : P.elem T = e := by simp [Program.elem, hT]
  have ht : P.underlying T = some (.slice (P.elem T)) := by rw [he]; exact hT
  rw [run_slice_lh (a := some ⟨q, o, none⟩) (ht := ht) (h0 := by omega) (h1 := by omega) (h2 := by omega), he, hsz]
  subst h1 h2 h5
  simp only [Result.andThen, sliced, Int.toNat_natCast, Nat.add_sub_cancel_left, Nat.mul_one]
  rw [if_neg (by omega)]
  simp [Addr.add_lit]

set_option maxHeartbeats 400000 in
theorem Clone_any (base : Nat) (q o l c : Nat) (xs : List Nat) (w : World) (hx : Words w (some ⟨q, o, none⟩) l xs) (hl : l ≤ 549755813888) (hb : base ≤ w.heap.size) :
    Calls Tryz.prog 82 #[.slice (some ⟨q, o, none⟩) l c] w (RowOf base xs w) := by
  have HL := Lib.hid hx.len
  have hq := fun wx => eql_slice_nil (P := Tryz.prog) wx 33 _ (some ⟨q, o, none⟩) l c Tryz.underlying33
  go_enter Tryz.func82, Tryz.ntmps82
  go_wp2_with (at_builtin; refine app64 rfl _ _ rfl base _ 0 [] rfl (own_lit w _ 1 base hb) (some ⟨q, o, none⟩) l c xs rfl ?a1 (by simp) ?a2 ?a3 ?_)
  case a1 => exact hx.keep (World.grownBy_alloc w _ none) (by simp)
  case a2 => omega
  case a3 => simp; omega
  intro v1 w1 hown hg
  have hg := grown_new (World.grownBy_alloc w _ none) hg (by intro g e; cases e; exact Nat.le_refl _)
  try rw [List.nil_append, Nat.zero_add] at hown
  obtain ⟨ad, cap, rfl, _⟩ := row_slice hown
  have HR : Hid (RowOf base xs w (.returned (.slice ad l cap)) w1) := Lib.hid ⟨ad, cap, by rw [HL.out], by rw [HL.out]; exact hown, hg⟩
  clear hown hg hx
  go_wp2
  go_ret
  exact HR.out

/-- Writes, done. -/
def appl (xs : List Nat) (M : List (Int × Nat)) : List Nat := M.foldl (fun l p => l.set p.1.toNat p.2) xs
theorem appl_snoc (xs : List Nat) (M : List (Int × Nat)) (p : Int × Nat) : appl xs (M ++ [p]) = (appl xs M).set p.1.toNat p.2 := by simp [appl, List.foldl_append]
theorem appl_length : ∀ (M : List (Int × Nat)) (xs : List Nat), (appl xs M).length = xs.length
  | [], _ => rfl
  | p :: t, xs => by
    have := appl_length t (xs.set p.1.toNat p.2)
    simpa [appl] using this
theorem appl_small : ∀ (M : List (Int × Nat)) (xs : List Nat), (∀ n ∈ xs, n < 18446744073709551616) → (∀ p ∈ M, p.2 < 18446744073709551616) → ∀ n ∈ appl xs M, n < 18446744073709551616
  | [], _, h, _ => h
  | p :: t, xs, h, hM => by
    refine appl_small t (xs.set p.1.toNat p.2) (fun n hn => ?_) (fun r hr => hM r (List.mem_cons_of_mem _ hr))
    rcases List.mem_or_eq_of_mem_set hn with e | e
    · exact h n e
    · rw [e]; exact hM p (List.mem_cons_self ..)

set_option maxHeartbeats 400000 in
theorem isIn_any (a m : Int) (w : World) (h : 0 ≤ a ∧ a < m) : Calls Tryz.prog 104 #[.int .i64 a, .int .i64 m] w fun e w' => e = .returned (.bool true) ∧ w = w' := by
  obtain ⟨h1, h2⟩ := h
  go_enter Tryz.func104, Tryz.ntmps104
  go_wp2
  go_ret
  exact ⟨rfl, rfl⟩

set_option maxHeartbeats 1000000 in
theorem do_H (k : Nat) (b n cap : Nat) (xs : List Nat) (bd : Option Addr) (m c : Nat) (M : List (Int × Nat)) (w0 w : World) (Ps : List Pr) (h : Own w0 w Ps) (hk : Ps[k]? = some (rowP 44 1 (.slice (some ⟨b, 0, none⟩) n cap) n (xs.map wv))) (hn : xs.length = n)
    (hat : ∀ wx, Turn (fun i => i = b) w wx → At wx bd (icells M)) (hL : M.length = m) (hm : m ≤ 549755813888) (hok : ∀ p ∈ M, 0 ≤ p.1 ∧ p.1 < (n : Int)) :
    Calls Tryz.prog 105 #[.slice (some ⟨b, 0, none⟩) n cap, .slice bd m c] w fun e w' => e = .returned (.tuple #[]) ∧ Own w0 w' (Ps.set k (rowP 44 1 (.slice (some ⟨b, 0, none⟩) n cap) n ((appl xs M).map wv))) ∧ Turn (fun i => i = b) w w' := by
  have HL := Lib.hid hL
  have HN := Lib.hid hn
  have HO := Lib.hid hok
  have HA := Lib.hid hat
  have hkl := (List.getElem?_eq_some_iff.1 hk).1
  have h0 : Hid (Own w0 w (Ps.set k (rowP 44 1 (.slice (some ⟨b, 0, none⟩) n cap) n ((appl xs (M.take 0)).map wv)))) := Lib.hid (by rw [List.take_zero, show appl xs [] = xs from rfl, set_selfC hk]; exact h)
  have t0 : Hid (Turn (fun i => i = b) w w) := Lib.hid (Turn.refl _ _)
  clear hL hn hok hat h
  go_enter Tryz.func105, Tryz.ntmps105
  go_wp2_with fail
  go_loopw [8] (fun i wr => ∃ j : Nat, j ≤ m ∧ i = .int .i64 (j : Int) ∧ Hid (Own w0 wr (Ps.set k (rowP 44 1 (.slice (some ⟨b, 0, none⟩) n cap) n ((appl xs (M.take j)).map wv)))) ∧ Hid (Turn (fun i => i = b) w wr)) (fun i _ => m - (intOf i).toNat)
  case atStart => exact ⟨0, Nat.zero_le _, rfl, h0, t0⟩
  case round =>
    clear h0 t0
    obtain ⟨j, hj, rfl, hO, hT⟩ := hrel
    by_cases hlt : j < m
    · have hlt' : (j : Int) < (m : Int) := by omega
      have j0 : (0 : Int) ≤ (j : Int) := by omega
      have hkL : j < M.length := by rw [HL.out]; exact hlt
      have hp := HO.out _ (getD_mem M j (0, 0) hkL)
      obtain ⟨q, o, rfl, v0, v1⟩ := at_ipair (HA.out wr hT.out) j hkL
      have HS := Lib.hid (take_snocD M j (0, 0) hkL)
      obtain ⟨A, A0⟩ : ∃ A, Hid (A = (M.getD j (0, 0)).1.toNat) := ⟨_, Lib.hid rfl⟩
      obtain ⟨V, V0⟩ : ∃ V, Hid (V = (M.getD j (0, 0)).2) := ⟨_, Lib.hid rfl⟩
      have hA1 : (M.getD j (0, 0)).1 = (A : Int) := by rw [A0.out]; omega
      rw [hA1] at v0 hp
      rw [← V0.out] at v1
      have hA' : (A : Int) < (n : Int) := hp.2
      have hA0 : (0 : Int) ≤ (A : Int) := hp.1
      have hAn : A < (appl xs (M.take j)).length := by rw [appl_length, HN.out]; omega
      obtain ⟨U, HU⟩ : ∃ U, Hid (U = (appl xs (M.take j)).getD A 0) := ⟨_, Lib.hid rfl⟩
      obtain ⟨b', he, cK, fK, _⟩ := Own.cell hO.out k (List.getElem?_set_self hkl) A (wv U) (by rw [List.getElem?_map, List.getElem?_eq_getElem hAn, HU.out, List.getD_eq_getElem?_getD, List.getElem?_eq_getElem hAn]; rfl)
      cases he
      unfold wv at cK
      have hO2 := Own.store hO.out k (List.getElem?_set_self hkl) A (.int .u64 (V : Int))
      rw [List.set_set, show (Value.int .u64 (V : Int)) = wv V from rfl, ← List.map_set, A0.out, V0.out, ← appl_snoc, ← HS.out, ← A0.out] at hO2
      have HO2 : Hid (Own w0 (wr.setCell ⟨b, A, none⟩ (.int .u64 (V : Int))) (Ps.set k (rowP 44 1 (.slice (some ⟨b, 0, none⟩) n cap) n ((appl xs (M.take (j + 1))).map wv)))) := Lib.hid (by rw [V0.out]; exact hO2)
      have HT2 : Hid (Turn (fun i => i = b) w (wr.setCell ⟨b, A, none⟩ (.int .u64 (V : Int)))) := Lib.hid (hT.out.trans (Turn.of (F := fun i => i = b) (grown_setCell wr ⟨b, A, none⟩ (.int .u64 (V : Int))) (fun i e => by cases e; rfl)) (fun i e => .inl e))
      have hlb : b < wr.heap.size := World.block_lt_of_cell? _ _ cK
      clear hO hT hO2 hp hA1 hAn
      go_wp2
      go_roundw
      case rel => exact ⟨j + 1, by omega, by go_num, Lib.hid (HO2.out.quiet (World.grownBy_alloc _ _ _)), Lib.hid (HT2.out.grown (World.grownBy_alloc _ _ none) (fun i e => by cases e))⟩
      case measure => simp [intOf]; omega
    · have hfin := hO.out
      rw [List.take_of_length_le (by rw [HL.out]; omega)] at hfin
      have hfin := Lib.hid hfin
      clear hO
      go_wp2
      go_end0
      exact ⟨rfl, hfin.out, hT.out⟩

set_option maxHeartbeats 1000000 in
theorem ApplyH (k : Nat) (b n cap : Nat) (xs : List Nat) (bd : Option Addr) (m c : Nat) (M : List (Int × Nat)) (w0 w : World) (Ps : List Pr) (h : Own w0 w Ps) (hk : Ps[k]? = some (rowP 44 1 (.slice (some ⟨b, 0, none⟩) n cap) n (xs.map wv))) (hn : xs.length = n)
    (hat : ∀ wx, Turn (fun i => i = b) w wx → At wx bd (icells M)) (hL : M.length = m) (hm : m ≤ 549755813888) (hok : ∀ p ∈ M, 0 ≤ p.1 ∧ p.1 < (n : Int)) :
    Calls Tryz.prog 83 #[.slice (some ⟨b, 0, none⟩) n cap, .slice bd m c] w fun e w' => e = .returned (.int .i64 0) ∧ Own w0 w' (Ps.set k (rowP 44 1 (.slice (some ⟨b, 0, none⟩) n cap) n ((appl xs M).map wv))) := by
  have HL := Lib.hid hL
  have HO := Lib.hid hok
  have HA := Lib.hid hat
  have h0 := Lib.hid h
  have HD := Lib.hid (fun wx (hO : Own w0 wx Ps) (hT : w.grownBy wx none) => do_H k b n cap xs bd m c M w0 wx Ps hO hk hn (fun wy ht => hat wy ((Turn.of (F := fun i => i = b) hT (fun i e => by cases e)).trans ht (fun i e => .inl e))) hL hm hok)
  clear hL hn hok hat h hk
  go_enter Tryz.func83, Tryz.ntmps83
  go_wp2_with fail
  go_loopw [9] (fun i wr => ∃ j : Nat, j ≤ m ∧ i = .int .i64 (j : Int) ∧ Hid (w.grownBy wr none)) (fun i _ => m - (intOf i).toNat)
  case atStart => exact ⟨0, Nat.zero_le _, rfl, Lib.hid (World.grownBy.refl _ _)⟩
  case round =>
    obtain ⟨j, hj, rfl, hg⟩ := hrel
    by_cases hlt : j < m
    · have hlt' : (j : Int) < (m : Int) := by omega
      have j0 : (0 : Int) ≤ (j : Int) := by omega
      have hkL : j < M.length := by rw [HL.out]; exact hlt
      obtain ⟨q, o, rfl, v0, v1⟩ := at_ipair (HA.out wr (Turn.of (F := fun i => i = b) hg.out (fun i e => by cases e))) j hkL
      have HI := Lib.hid (fun wx => isIn_any (M.getD j (0, 0)).1 n wx (HO.out _ (getD_mem M j (0, 0) hkL)))
      obtain ⟨A, A0⟩ : ∃ A, Hid (A = (M.getD j (0, 0)).1) := ⟨_, Lib.hid rfl⟩
      obtain ⟨V, V0⟩ : ∃ V, Hid (V = (M.getD j (0, 0)).2) := ⟨_, Lib.hid rfl⟩
      rw [← A0.out] at v0 HI
      rw [← V0.out] at v1
      have hg2 := Lib.hid (grown_trans hg.out (World.grownBy_alloc wr (.cells #[.int .i64 A, .int .u64 (V : Int)] 92) none))
      clear hg
      go_wp2_with fail
      refine (HI.out _).mono ?_
      rintro e w2 ⟨rfl, rfl⟩
      clear HI
      go_wp2
      go_roundw
      case rel => exact ⟨j + 1, by omega, by go_num, hg2⟩
      case measure => simp [intOf]; omega
    · have HD2 := Lib.hid (HD.out wr (h0.out.quiet hg.out) hg.out)
      clear hg HD
      go_wp2_with fail
      refine HD2.out.mono ?_
      rintro e w2 ⟨rfl, hO, _⟩
      have hO := Lib.hid hO
      go_wp2
      go_ret
      exact ⟨rfl, hO.out⟩
end Go.Proofs.YtpdofdloclmbdaaGreat
end
section
/- Package layout: a new device's words. -/
-- OPTIONAL
namespace Go.Proofs.YtpdofdloclmbdaaGreat
open Go.RowKit Go.Grommet

/-- New words, known whole. -/
def NewWords (xs : List Nat) (w : World) (e : Ending) (w' : World) : Prop :=
  ∃ g, e = .returned (.slice (some ⟨g, 0, none⟩) xs.length xs.length) ∧ w'.heap[g]? = some (.cells (xs.map wv).toArray 44 (0, 0)) ∧ w.heap.size ≤ g ∧ w.grownBy w' none

theorem made_wv (n : Nat) : madeCells #[Value.int .u64 0] n = ((List.replicate n 0).map wv).toArray := by
  apply Array.toList_inj.1
  simp [wv, madeCells, Nat.mod_one, List.map_const']

theorem map_wv_get (L : List Nat) (k : Nat) (h : k < L.length) : (L.map wv)[k]? = some (wv (L.getD k 0)) := by simp [h]

theorem words_pos {a b c : Int} (h : mayB a b c = true) : wordsV a b c = 280 + 208 * a + 16 * b + 8 * c := by unfold wordsV; rw [if_pos h]

end Go.Proofs.YtpdofdloclmbdaaGreat
end
section
/- The anchor of layer 8. -/
-- OPTIONAL
namespace Go.Proofs.YtpdofdloclmbdaaGreat
open Go.RowKit Go.Grommet

theorem negB_fine {M : List (Int × Nat)} (h : negB M = false) : ∀ p ∈ M, 0 ≤ p.1 := by
  unfold negB at h
  rw [List.any_eq_false] at h
  intro p hp
  have := h p hp
  simpa using this
end Go.Proofs.YtpdofdloclmbdaaGreat
end
section
/- Package record: what the laws of layer 8 share. -/
namespace Go.Proofs.YtpdofdloclmbdaaGreat
open Go.RowKit Go.Grommet

/-- A geometry stands in a block. -/
def GeoS (G : Nat) (a b c : Int) (w : World) : Prop := w.heap[G]? = some (.cells #[.int .i64 a, .int .i64 b, .int .i64 c] 26 (0, 0))
theorem GeoS.keep {G : Nat} {a b c : Int} {w w' : World} (h : GeoS G a b c w) (hg : w.grownBy w' none) : GeoS G a b c w' := (hg.block G (lt_of_block h) (by simp)).trans h
theorem GeoS.cells {G : Nat} {a b c : Int} {w : World} (h : GeoS G a b c w) : w.cell? ⟨G, 0, none⟩ = some (.int .i64 a) ∧ w.cell? ⟨G, 1, none⟩ = some (.int .i64 b) ∧ w.cell? ⟨G, 2, none⟩ = some (.int .i64 c) := by
  unfold GeoS at h
  refine ⟨?_, ?_, ?_⟩ <;> simp [World.cell?, h]

theorem mayW_many {a b c : Int} {M : List (Int × Nat)} (h : 96 < M.length) : mayW a b c M = false := by
  unfold mayW
  rw [decide_eq_false_iff_not]
  omega
end Go.Proofs.YtpdofdloclmbdaaGreat
end
section
/- To what a word belongs: the document's own answer, walked. -/
-- OPTIONAL
namespace Go.Proofs.YtpdofdloclmbdaaGreat
open Go.RowKit Go.Grommet

def RWhereIs (v : Int × Int × Int × Int) (w : World) (e : Ending) (w' : World) : Prop := e = .returned (.tuple #[.int .i64 v.1, .int .i64 v.2.1, .int .i64 v.2.2.1, .int .i64 v.2.2.2]) ∧ w.grownBy w' none

set_option maxHeartbeats 2000000 in
theorem RWhere_zero (a b c x : Int) (w : World) (h : ¬ (mayB a b c = true) ∨ x < 0 ∨ 280 + 208 * a + 16 * b + 8 * c ≤ x) : Calls Tryz.prog 99 #[gv a b c, .int .i64 x] w (RWhereIs (0, 0, 0, 0) w) := by
  have H1 := Lib.hid (fun wx => RMay_any a b c wx)
  have H2 := Lib.hid (fun wx => RWords_any a b c wx)
  unfold gv at H1 H2 ⊢
  have hb : (w.alloc (.cells #[.int .i64 a, .int .i64 b, .int .i64 c] 28)).heap[w.heap.size]? = some (.cells #[.int .i64 a, .int .i64 b, .int .i64 c] 28 (0, 0)) := heap_alloc_new w _
  have hg := World.grownBy_alloc w (.cells #[.int .i64 a, .int .i64 b, .int .i64 c] 28) none
  by_cases hm : mayB a b c = true
  · rw [hm] at H1
    rw [words_pos hm] at H2
    obtain ⟨q1, q2, q3, q4, q5, q6⟩ := mayB_yes hm
    by_cases h0 : x < 0
    · clear h hm
      go_enter Tryz.func99, Tryz.ntmps99
      go_wp2_with fail
      refine (H1.out _).mono ?_
      rintro e w1 ⟨rfl, hgx⟩
      have hb := (hgx.block _ (lt_of_block hb) (by simp)).trans hb
      have hg := grown_trans hg hgx
      clear hgx
      have f0 : w1.cell? ⟨w.heap.size, 0, none⟩ = some (.int .i64 a) := by simp [World.cell?, hb]
      have f1 : w1.cell? ⟨w.heap.size, 1, none⟩ = some (.int .i64 b) := by simp [World.cell?, hb]
      have f2 : w1.cell? ⟨w.heap.size, 2, none⟩ = some (.int .i64 c) := by simp [World.cell?, hb]
      go_wp2
      exact bodyPost_ret (v := .tuple #[.int .i64 0, .int .i64 0, .int .i64 0, .int .i64 0]) (by simp [results, Tryz.results99, go_sem]) rfl ⟨rfl, hg⟩
    · have h1 : 280 + 208 * a + 16 * b + 8 * c ≤ x := by
        rcases h with h | h | h
        · exact absurd hm h
        · omega
        · exact h
      have h0' : ¬ x < 0 := h0
      generalize 280 + 208 * a + 16 * b + 8 * c = T at H2 h1
      clear h hm h0
      go_enter Tryz.func99, Tryz.ntmps99
      go_wp2_with fail
      refine (H1.out _).mono ?_
      rintro e w1 ⟨rfl, hgx⟩
      have hb := (hgx.block _ (lt_of_block hb) (by simp)).trans hb
      have hg := grown_trans hg hgx
      clear hgx
      have f0 : w1.cell? ⟨w.heap.size, 0, none⟩ = some (.int .i64 a) := by simp [World.cell?, hb]
      have f1 : w1.cell? ⟨w.heap.size, 1, none⟩ = some (.int .i64 b) := by simp [World.cell?, hb]
      have f2 : w1.cell? ⟨w.heap.size, 2, none⟩ = some (.int .i64 c) := by simp [World.cell?, hb]
      go_wp2_with fail
      refine (H2.out _).mono ?_
      rintro e w2 ⟨rfl, hgx⟩
      have hb := (hgx.block _ (lt_of_block hb) (by simp)).trans hb
      have hg := grown_trans hg hgx
      clear hgx f0 f1 f2
      have f0 : w2.cell? ⟨w.heap.size, 0, none⟩ = some (.int .i64 a) := by simp [World.cell?, hb]
      have f1 : w2.cell? ⟨w.heap.size, 1, none⟩ = some (.int .i64 b) := by simp [World.cell?, hb]
      have f2 : w2.cell? ⟨w.heap.size, 2, none⟩ = some (.int .i64 c) := by simp [World.cell?, hb]
      go_wp2
      exact bodyPost_ret (v := .tuple #[.int .i64 0, .int .i64 0, .int .i64 0, .int .i64 0]) (by simp [results, Tryz.results99, go_sem]) rfl ⟨rfl, hg⟩
  · have hm' : mayB a b c = false := by simpa using hm
    rw [hm'] at H1
    clear h hm hm'
    go_enter Tryz.func99, Tryz.ntmps99
    go_wp2_with fail
    refine (H1.out _).mono ?_
    rintro e w1 ⟨rfl, hgx⟩
    have hb := (hgx.block _ (lt_of_block hb) (by simp)).trans hb
    have hg := grown_trans hg hgx
    clear hgx
    have f0 : w1.cell? ⟨w.heap.size, 0, none⟩ = some (.int .i64 a) := by simp [World.cell?, hb]
    have f1 : w1.cell? ⟨w.heap.size, 1, none⟩ = some (.int .i64 b) := by simp [World.cell?, hb]
    have f2 : w1.cell? ⟨w.heap.size, 2, none⟩ = some (.int .i64 c) := by simp [World.cell?, hb]
    go_wp2
    exact bodyPost_ret (v := .tuple #[.int .i64 0, .int .i64 0, .int .i64 0, .int .i64 0]) (by simp [results, Tryz.results99, go_sem]) rfl ⟨rfl, hg⟩

set_option maxRecDepth 100000 in
set_option maxHeartbeats 16000000 in
theorem RWhere_at (a b c x : Int) (w : World) (hm : mayB a b c = true) (hx0 : 0 ≤ x) (hx1 : x < 280 + 208 * a + 16 * b + 8 * c) : Calls Tryz.prog 99 #[gv a b c, .int .i64 x] w (RWhereIs (whereV a b c x) w) := by
  have H1 := Lib.hid (fun wx => RMay_any a b c wx)
  have H2 := Lib.hid (fun wx => RWords_any a b c wx)
  rw [hm] at H1
  rw [words_pos hm] at H2
  obtain ⟨q1, q2, q3, q4, q5, q6⟩ := mayB_yes hm
  have A1 : Hid (∀ i : Int, 0 ≤ i ∧ i < 4 → ∀ wx, Calls Tryz.prog 120 #[.int .i64 i] wx (IntIs (8 + 64 * i) wx)) := fun i hi wx => by
    have := RSessionAt_any i wx; unfold sessionV at this; rwa [if_pos hi] at this
  have A2 : Hid (∀ i k : Int, 0 ≤ i ∧ i < 4 → 0 ≤ k ∧ k < 4 → ∀ wx, Calls Tryz.prog 118 #[.int .i64 i, .int .i64 k] wx (IntIs (16 + 64 * i + 12 * k) wx)) := fun i k hi hk wx => by
    have := RSlotAt_any i k wx; unfold slotV at this; rwa [if_pos ⟨hi, hk⟩] at this
  have A3 : Hid (∀ i k : Int, 0 ≤ i ∧ i < 4 → 0 ≤ k ∧ k < 4 → ∀ wx, Calls Tryz.prog 119 #[.int .i64 i, .int .i64 k] wx (IntIs (64 + 64 * i + 2 * k) wx)) := fun i k hi hk wx => by
    have := RDescriptorAt_any i k wx; unfold descV at this; rwa [if_pos ⟨hi, hk⟩] at this
  have A4 : Hid (∀ i : Int, 0 ≤ i ∧ i < a → ∀ wx, Calls Tryz.prog 53 #[.agg #[.int .i64 a, .int .i64 b, .int .i64 c], .int .i64 i] wx (IntIs (264 + 208 * i) wx)) := fun i hi wx => by
    have := RAreaAt_any a b c i wx; unfold areaV gv at this; rwa [if_pos ⟨hm, hi⟩] at this
  have A5 := Lib.hid (fun wx => RInodeMapAt_any a b c wx)
  have A7 := Lib.hid (fun wx => RInodeAt_any a b c 0 wx)
  have A8 := Lib.hid (fun wx => RBlockAt_any a b c 0 wx)
  rw [show imapV a b c = 264 + 208 * a from by unfold imapV; rw [if_pos hm]] at A5
  rw [show inodeV a b c 0 = 280 + 208 * a from by unfold inodeV; rw [if_pos ⟨hm, by omega, by omega⟩]; omega] at A7
  rw [show blockV a b c 0 = 280 + 208 * a + 16 * b from by unfold blockV; rw [if_pos ⟨hm, by omega, by omega⟩]; omega] at A8
  unfold gv at H1 H2 A5 A7 A8 ⊢
  have Hm := Lib.hid hm
  have hxt : ¬ 280 + 208 * a + 16 * b + 8 * c ≤ x := by omega
  have hx0' : ¬ x < 0 := by omega
  clear hm
  have hb : (w.alloc (.cells #[.int .i64 a, .int .i64 b, .int .i64 c] 28)).heap[w.heap.size]? = some (.cells #[.int .i64 a, .int .i64 b, .int .i64 c] 28 (0, 0)) := heap_alloc_new w _
  have hg := World.grownBy_alloc w (.cells #[.int .i64 a, .int .i64 b, .int .i64 c] 28) none
  by_cases h8 : x < 8
  · have hv := wh_super Hm.out hx0 h8
    rw [hv]
    clear hv
    go_enter Tryz.func99, Tryz.ntmps99
    go_wp2_with fail
    refine (H1.out _).mono ?_
    rintro e w1 ⟨rfl, hgx⟩
    have hb := (hgx.block _ (lt_of_block hb) (by simp)).trans hb
    have hg := grown_trans hg hgx
    clear hgx
    have f0 : w1.cell? ⟨w.heap.size, 0, none⟩ = some (.int .i64 a) := by simp [World.cell?, hb]
    have f1 : w1.cell? ⟨w.heap.size, 1, none⟩ = some (.int .i64 b) := by simp [World.cell?, hb]
    have f2 : w1.cell? ⟨w.heap.size, 2, none⟩ = some (.int .i64 c) := by simp [World.cell?, hb]
    go_wp2_with fail
    refine (H2.out _).mono ?_
    rintro e w2 ⟨rfl, hgx⟩
    have hb := (hgx.block _ (lt_of_block hb) (by simp)).trans hb
    have hg := grown_trans hg hgx
    clear hgx f0 f1 f2
    have f0 : w2.cell? ⟨w.heap.size, 0, none⟩ = some (.int .i64 a) := by simp [World.cell?, hb]
    have f1 : w2.cell? ⟨w.heap.size, 1, none⟩ = some (.int .i64 b) := by simp [World.cell?, hb]
    have f2 : w2.cell? ⟨w.heap.size, 2, none⟩ = some (.int .i64 c) := by simp [World.cell?, hb]
    go_wp2
    exact bodyPost_ret (v := .tuple #[.int .i64 1, .int .i64 0, .int .i64 0, .int .i64 x]) (by simp [results, Tryz.results99, go_sem]) rfl ⟨rfl, hg⟩
  have h8' : 8 ≤ x := by omega
  go_enter Tryz.func99, Tryz.ntmps99
  go_wp2_with fail
  refine (H1.out _).mono ?_
  rintro e w1 ⟨rfl, hgx⟩
  have hb := (hgx.block _ (lt_of_block hb) (by simp)).trans hb
  have hg := grown_trans hg hgx
  clear hgx
  have f0 : w1.cell? ⟨w.heap.size, 0, none⟩ = some (.int .i64 a) := by simp [World.cell?, hb]
  have f1 : w1.cell? ⟨w.heap.size, 1, none⟩ = some (.int .i64 b) := by simp [World.cell?, hb]
  have f2 : w1.cell? ⟨w.heap.size, 2, none⟩ = some (.int .i64 c) := by simp [World.cell?, hb]
  go_wp2_with fail
  refine (H2.out _).mono ?_
  rintro e w2 ⟨rfl, hgx⟩
  have hb := (hgx.block _ (lt_of_block hb) (by simp)).trans hb
  have hg := grown_trans hg hgx
  clear hgx f0 f1 f2
  go_wp2_with fail
  go_loopw [8] (fun i wr => ∃ k : Nat, k ≤ 4 ∧ i = .int .i64 (k : Int) ∧ 8 + 64 * (k : Int) ≤ x ∧ wr.heap[w.heap.size]? = some (.cells #[.int .i64 a, .int .i64 b, .int .i64 c] 28 (0, 0)) ∧ w.grownBy wr none) (fun i _ => 4 - (intOf i).toNat)
  case atStart => exact ⟨0, by omega, rfl, by omega, hb, hg⟩
  case round =>
    clear hb hg
    obtain ⟨i, hi, rfl, hix, hb, hg⟩ := hrel
    have i0 : (0 : Int) ≤ (i : Int) := by omega
    by_cases hi4 : i < 4
    · have hi4' : (i : Int) < 4 := by omega
      go_wp2_with fail
      go_loopw [9, 10] (fun kk _ wr => ∃ k : Nat, k ≤ 4 ∧ kk = .int .i64 (k : Int) ∧ (x < 16 + 64 * (i : Int) ∨ 16 + 64 * (i : Int) + 12 * (k : Int) ≤ x) ∧ wr.heap[w.heap.size]? = some (.cells #[.int .i64 a, .int .i64 b, .int .i64 c] 28 (0, 0)) ∧ w.grownBy wr none) (fun kk _ _ => 4 - (intOf kk).toNat)
      case atStart => exact ⟨0, by omega, rfl, by omega, hb, hg⟩
      case round =>
        clear hb hg
        obtain ⟨k, hk, rfl, hkx, hb, hg⟩ := hrel
        have k0 : (0 : Int) ≤ (k : Int) := by omega
        by_cases hk4 : k < 4
        · have hk4' : (k : Int) < 4 := by omega
          have hw : IntKind.i64.wrap (x - (16 + 64 * (i : Int) + 12 * (k : Int))) = x - (16 + 64 * (i : Int) + 12 * (k : Int)) := IntWalk.i64_in _ ⟨by omega, by omega⟩
          have B := Lib.hid (A2.out i k ⟨i0, hi4'⟩ ⟨k0, hk4'⟩)
          by_cases hin : 16 + 64 * (i : Int) + 12 * (k : Int) ≤ x
          · by_cases hin2 : x < 16 + 64 * (i : Int) + 12 * (k : Int) + 12
            · have hv := wh_slot Hm.out i k ⟨i0, hi4'⟩ ⟨k0, hk4'⟩ hin hin2
              have HV := Lib.hid hv
              generalize 16 + 64 * (i : Int) + 12 * (k : Int) = s at hw B hin hin2 HV
              have t0 : 0 ≤ x - s := by omega
              have t1 : x - s < 12 := by omega
              clear hv hkx
              go_wp2_with fail
              refine (B.out _).mono ?_
              rintro e w3 ⟨rfl, hgx⟩
              have hg := grown_trans hg hgx
              go_wp2
              rw [HV.out]
              exact bodyPost_ret (v := .tuple #[.int .i64 3, .int .i64 (i : Int), .int .i64 (k : Int), .int .i64 (x - s)]) (by simp [results, Tryz.results99, go_sem]) rfl ⟨rfl, hg⟩
            · have hnew : x < 16 + 64 * (i : Int) ∨ 16 + 64 * (i : Int) + 12 * ((k + 1 : Nat) : Int) ≤ x := by omega
              have HN := Lib.hid hnew
              generalize 16 + 64 * (i : Int) + 12 * (k : Int) = s at hw B hin hin2
              have t0 : 0 ≤ x - s := by omega
              have t1 : decide (x - s < 12) = false := by simp; omega
              clear hnew hkx
              go_wp2_with fail
              refine (B.out _).mono ?_
              rintro e w3 ⟨rfl, hgx⟩
              have hb := (hgx.block _ (lt_of_block hb) (by simp)).trans hb
              have hg := grown_trans hg hgx
              clear hgx
              go_wp2
              go_roundw
              case rel => exact ⟨k + 1, by omega, by go_num, HN.out, hb, hg⟩
              case measure => simp [intOf]; omega
          · have hnew : x < 16 + 64 * (i : Int) ∨ 16 + 64 * (i : Int) + 12 * ((k + 1 : Nat) : Int) ≤ x := by omega
            have HN := Lib.hid hnew
            generalize 16 + 64 * (i : Int) + 12 * (k : Int) = s at hw B hin
            have t0 : decide (0 ≤ x - s) = false := by simp; omega
            clear hnew hkx
            go_wp2_with fail
            refine (B.out _).mono ?_
            rintro e w3 ⟨rfl, hgx⟩
            have hb := (hgx.block _ (lt_of_block hb) (by simp)).trans hb
            have hg := grown_trans hg hgx
            clear hgx
            go_wp2
            go_roundw
            case rel => exact ⟨k + 1, by omega, by go_num, HN.out, hb, hg⟩
            case measure => simp [intOf]; omega
        · have hk4' : ¬ (k : Int) < 4 := by omega
          have HKx := Lib.hid (show x < 16 + 64 * (i : Int) ∨ 64 + 64 * (i : Int) ≤ x by omega)
          clear hk hkx
          go_wp2_with fail
          go_loopw [11, 12] (fun kk _ wr => ∃ k : Nat, k ≤ 4 ∧ kk = .int .i64 (k : Int) ∧ (x < 64 + 64 * (i : Int) ∨ 64 + 64 * (i : Int) + 2 * (k : Int) ≤ x) ∧ wr.heap[w.heap.size]? = some (.cells #[.int .i64 a, .int .i64 b, .int .i64 c] 28 (0, 0)) ∧ w.grownBy wr none) (fun kk _ _ => 4 - (intOf kk).toNat)
          case atStart => exact ⟨0, by omega, rfl, by omega, hb, hg⟩
          case round =>
            clear hb hg
            obtain ⟨l, hl, rfl, hlx, hb, hg⟩ := hrel
            have l0 : (0 : Int) ≤ (l : Int) := by omega
            by_cases hl4 : l < 4
            · have hl4' : (l : Int) < 4 := by omega
              have hw : IntKind.i64.wrap (x - (64 + 64 * (i : Int) + 2 * (l : Int))) = x - (64 + 64 * (i : Int) + 2 * (l : Int)) := IntWalk.i64_in _ ⟨by omega, by omega⟩
              have B := Lib.hid (A3.out i l ⟨i0, hi4'⟩ ⟨l0, hl4'⟩)
              by_cases hin : 64 + 64 * (i : Int) + 2 * (l : Int) ≤ x
              · by_cases hin2 : x < 64 + 64 * (i : Int) + 2 * (l : Int) + 2
                · have hv := wh_desc Hm.out i l ⟨i0, hi4'⟩ ⟨l0, hl4'⟩ hin hin2
                  have HV := Lib.hid hv
                  generalize 64 + 64 * (i : Int) + 2 * (l : Int) = s at hw B hin hin2 HV
                  have t0 : 0 ≤ x - s := by omega
                  have t1 : x - s < 2 := by omega
                  clear hv hlx
                  go_wp2_with fail
                  refine (B.out _).mono ?_
                  rintro e w3 ⟨rfl, hgx⟩
                  have hg := grown_trans hg hgx
                  go_wp2
                  rw [HV.out]
                  exact bodyPost_ret (v := .tuple #[.int .i64 4, .int .i64 (i : Int), .int .i64 (l : Int), .int .i64 (x - s)]) (by simp [results, Tryz.results99, go_sem]) rfl ⟨rfl, hg⟩
                · have hnew : x < 64 + 64 * (i : Int) ∨ 64 + 64 * (i : Int) + 2 * ((l + 1 : Nat) : Int) ≤ x := by omega
                  have HN := Lib.hid hnew
                  generalize 64 + 64 * (i : Int) + 2 * (l : Int) = s at hw B hin hin2
                  have t0 : 0 ≤ x - s := by omega
                  have t1 : decide (x - s < 2) = false := by simp; omega
                  clear hnew hlx
                  go_wp2_with fail
                  refine (B.out _).mono ?_
                  rintro e w3 ⟨rfl, hgx⟩
                  have hb := (hgx.block _ (lt_of_block hb) (by simp)).trans hb
                  have hg := grown_trans hg hgx
                  clear hgx
                  go_wp2
                  go_roundw
                  case rel => exact ⟨l + 1, by omega, by go_num, HN.out, hb, hg⟩
                  case measure => simp [intOf]; omega
              · have hnew : x < 64 + 64 * (i : Int) ∨ 64 + 64 * (i : Int) + 2 * ((l + 1 : Nat) : Int) ≤ x := by omega
                have HN := Lib.hid hnew
                generalize 64 + 64 * (i : Int) + 2 * (l : Int) = s at hw B hin
                have t0 : decide (0 ≤ x - s) = false := by simp; omega
                clear hnew hlx
                go_wp2_with fail
                refine (B.out _).mono ?_
                rintro e w3 ⟨rfl, hgx⟩
                have hb := (hgx.block _ (lt_of_block hb) (by simp)).trans hb
                have hg := grown_trans hg hgx
                clear hgx
                go_wp2
                go_roundw
                case rel => exact ⟨l + 1, by omega, by go_num, HN.out, hb, hg⟩
                case measure => simp [intOf]; omega
            · have hl4' : ¬ (l : Int) < 4 := by omega
              have hor : x < 16 + 64 * (i : Int) ∨ 72 + 64 * (i : Int) ≤ x := by have := HKx.out; omega
              have hw : IntKind.i64.wrap (x - (8 + 64 * (i : Int))) = x - (8 + 64 * (i : Int)) := IntWalk.i64_in _ ⟨by omega, by omega⟩
              have B := Lib.hid (A1.out i ⟨i0, hi4'⟩)
              clear hl hlx
              by_cases hin : x < 16 + 64 * (i : Int)
              · have hv := wh_head Hm.out i ⟨i0, hi4'⟩ hix hin
                have HV := Lib.hid hv
                have t0 : 0 ≤ x - (8 + 64 * (i : Int)) := by omega
                have t1 : x - (8 + 64 * (i : Int)) < 64 := by omega
                generalize 8 + 64 * (i : Int) = s at hw B HV t0 t1 hix
                clear hv hor
                go_wp2_with fail
                refine (B.out _).mono ?_
                rintro e w3 ⟨rfl, hgx⟩
                have hg := grown_trans hg hgx
                go_wp2
                rw [HV.out]
                exact bodyPost_ret (v := .tuple #[.int .i64 2, .int .i64 (i : Int), .int .i64 0, .int .i64 (x - s)]) (by simp [results, Tryz.results99, go_sem]) rfl ⟨rfl, hg⟩
              · have HN := Lib.hid (show 8 + 64 * ((i + 1 : Nat) : Int) ≤ x by omega)
                have t0 : 0 ≤ x - (8 + 64 * (i : Int)) := by omega
                have t1 : decide (x - (8 + 64 * (i : Int)) < 64) = false := by simp; omega
                generalize 8 + 64 * (i : Int) = s at hw B t0 t1 hix
                clear hor hin
                go_wp2_with fail
                refine (B.out _).mono ?_
                rintro e w3 ⟨rfl, hgx⟩
                have hb := (hgx.block _ (lt_of_block hb) (by simp)).trans hb
                have hg := grown_trans hg hgx
                clear hgx
                go_wp2
                go_roundw
                case rel => exact ⟨i + 1, by omega, by go_num, HN.out, hb, hg⟩
                case measure => simp [intOf]; omega
    · have hi4' : ¬ (i : Int) < 4 := by omega
      have h264 : 264 ≤ x := by omega
      clear hi hix
      have f0 : wr.cell? ⟨w.heap.size, 0, none⟩ = some (.int .i64 a) := by simp [World.cell?, hb]
      have f1 : wr.cell? ⟨w.heap.size, 1, none⟩ = some (.int .i64 b) := by simp [World.cell?, hb]
      have f2 : wr.cell? ⟨w.heap.size, 2, none⟩ = some (.int .i64 c) := by simp [World.cell?, hb]
      go_wp2_with fail
      go_loopw [14, 15] (fun kk _ wr => ∃ k : Nat, (k : Int) ≤ a ∧ kk = .int .i64 (k : Int) ∧ 264 + 208 * (k : Int) ≤ x ∧ wr.heap[w.heap.size]? = some (.cells #[.int .i64 a, .int .i64 b, .int .i64 c] 28 (0, 0)) ∧ w.grownBy wr none) (fun kk _ _ => a.toNat - (intOf kk).toNat)
      case atStart => exact ⟨0, by omega, rfl, by omega, hb, hg⟩
      case round =>
        clear hb hg f0 f1 f2
        obtain ⟨k, hk, rfl, hkx, hb, hg⟩ := hrel
        have k0 : (0 : Int) ≤ (k : Int) := by omega
        have f0 : wr.cell? ⟨w.heap.size, 0, none⟩ = some (.int .i64 a) := by simp [World.cell?, hb]
        have f1 : wr.cell? ⟨w.heap.size, 1, none⟩ = some (.int .i64 b) := by simp [World.cell?, hb]
        have f2 : wr.cell? ⟨w.heap.size, 2, none⟩ = some (.int .i64 c) := by simp [World.cell?, hb]
        by_cases hka : (k : Int) < a
        · have hw : IntKind.i64.wrap (x - (264 + 208 * (k : Int))) = x - (264 + 208 * (k : Int)) := IntWalk.i64_in _ ⟨by omega, by omega⟩
          have B := Lib.hid (A4.out k ⟨k0, hka⟩)
          by_cases hin : x < 264 + 208 * (k : Int) + 208
          · have hv := wh_area Hm.out k ⟨k0, hka⟩ hkx hin
            have HV := Lib.hid hv
            have t0 : 0 ≤ x - (264 + 208 * (k : Int)) := by omega
            have t1 : x - (264 + 208 * (k : Int)) < 208 := by omega
            generalize 264 + 208 * (k : Int) = s at hw B HV t0 t1 hkx
            clear hv hin
            go_wp2_with fail
            refine (B.out _).mono ?_
            rintro e w3 ⟨rfl, hgx⟩
            have hg := grown_trans hg hgx
            go_wp2
            rw [HV.out]
            exact bodyPost_ret (v := .tuple #[.int .i64 5, .int .i64 (k : Int), .int .i64 0, .int .i64 (x - s)]) (by simp [results, Tryz.results99, go_sem]) rfl ⟨rfl, hg⟩
          · have HN := Lib.hid (show 264 + 208 * ((k + 1 : Nat) : Int) ≤ x by omega)
            have t0 : 0 ≤ x - (264 + 208 * (k : Int)) := by omega
            have t1 : decide (x - (264 + 208 * (k : Int)) < 208) = false := by simp; omega
            generalize 264 + 208 * (k : Int) = s at hw B t0 t1 hkx
            clear hin
            go_wp2_with fail
            refine (B.out _).mono ?_
            rintro e w3 ⟨rfl, hgx⟩
            have hb := (hgx.block _ (lt_of_block hb) (by simp)).trans hb
            have hg := grown_trans hg hgx
            clear hgx f0 f1 f2
            go_wp2
            go_roundw
            case rel => exact ⟨k + 1, by omega, by go_num, HN.out, hb, hg⟩
            case measure => simp [intOf]; omega
        · have hax : 264 + 208 * a ≤ x := by omega
          have hw : IntKind.i64.wrap (x - (264 + 208 * a)) = x - (264 + 208 * a) := IntWalk.i64_in _ ⟨by omega, by omega⟩
          clear hk hkx
          by_cases h6 : x < 272 + 208 * a
          · have hv := wh_imap Hm.out hax h6
            have HV := Lib.hid hv
            have t1 : x - (264 + 208 * a) < 8 := by omega
            generalize 264 + 208 * a = s at hw A5 HV t1 hax
            clear hv
            go_wp2_with fail
            refine (A5.out _).mono ?_
            rintro e w3 ⟨rfl, hgx⟩
            have hb := (hgx.block _ (lt_of_block hb) (by simp)).trans hb
            have hg := grown_trans hg hgx
            clear hgx f0 f1 f2
            go_wp2
            rw [HV.out]
            exact bodyPost_ret (v := .tuple #[.int .i64 6, .int .i64 0, .int .i64 0, .int .i64 (x - s)]) (by simp [results, Tryz.results99, go_sem]) rfl ⟨rfl, hg⟩
          by_cases h7 : x < 280 + 208 * a
          · have hv := wh_bmap Hm.out (by omega) h7
            have HV := Lib.hid hv
            have t0 : ¬ x - (264 + 208 * a) < 8 := by omega
            have t1 : x - (264 + 208 * a) < 16 := by omega
            have hw2 : IntKind.i64.wrap (x - (264 + 208 * a) - 8) = x - (264 + 208 * a) - 8 := IntWalk.i64_in _ ⟨by omega, by omega⟩
            generalize 264 + 208 * a = s at hw hw2 A5 HV t0 t1 hax
            clear hv
            go_wp2_with fail
            refine (A5.out _).mono ?_
            rintro e w3 ⟨rfl, hgx⟩
            have hb := (hgx.block _ (lt_of_block hb) (by simp)).trans hb
            have hg := grown_trans hg hgx
            clear hgx f0 f1 f2
            go_wp2
            rw [HV.out]
            exact bodyPost_ret (v := .tuple #[.int .i64 7, .int .i64 0, .int .i64 0, .int .i64 (x - s - 8)]) (by simp [results, Tryz.results99, go_sem]) rfl ⟨rfl, hg⟩
          have u0 : ¬ x - (264 + 208 * a) < 8 := by omega
          have u1 : ¬ x - (264 + 208 * a) < 16 := by omega
          have hw3 : IntKind.i64.wrap (x - (280 + 208 * a)) = x - (280 + 208 * a) := IntWalk.i64_in _ ⟨by omega, by omega⟩
          have hw4 : IntKind.i64.wrap (16 * b) = 16 * b := IntWalk.i64_in _ ⟨by omega, by omega⟩
          have u2 : 0 ≤ x - (280 + 208 * a) := by omega
          by_cases h9 : x < 280 + 208 * a + 16 * b
          · have hv := wh_inode Hm.out (by omega) h9
            have HV := Lib.hid hv
            have t1 : x - (280 + 208 * a) < 16 * b := by omega
            have t2 : x - (280 + 208 * a) ≤ 2000 := by omega
            generalize 264 + 208 * a = s at hw A5 u0 u1
            generalize 280 + 208 * a = r at hw3 A7 HV t1 t2 u2
            clear hv hax h6 h7 h9 hx1 hxt
            go_wp2_with fail
            refine (A5.out _).mono ?_
            rintro e w3 ⟨rfl, hgx⟩
            have hb := (hgx.block _ (lt_of_block hb) (by simp)).trans hb
            have hg := grown_trans hg hgx
            clear hgx f0 f1 f2
            have f0 : w3.cell? ⟨w.heap.size, 0, none⟩ = some (.int .i64 a) := by simp [World.cell?, hb]
            have f1 : w3.cell? ⟨w.heap.size, 1, none⟩ = some (.int .i64 b) := by simp [World.cell?, hb]
            have f2 : w3.cell? ⟨w.heap.size, 2, none⟩ = some (.int .i64 c) := by simp [World.cell?, hb]
            go_wp2_with fail
            refine (A7.out _).mono ?_
            rintro e w4 ⟨rfl, hgx⟩
            have hb := (hgx.block _ (lt_of_block hb) (by simp)).trans hb
            have hg := grown_trans hg hgx
            clear hgx f0 f1 f2
            have f0 : w4.cell? ⟨w.heap.size, 0, none⟩ = some (.int .i64 a) := by simp [World.cell?, hb]
            have f1 : w4.cell? ⟨w.heap.size, 1, none⟩ = some (.int .i64 b) := by simp [World.cell?, hb]
            have f2 : w4.cell? ⟨w.heap.size, 2, none⟩ = some (.int .i64 c) := by simp [World.cell?, hb]
            go_wp2
            rw [HV.out]
            exact bodyPost_ret (v := .tuple #[.int .i64 8, .int .i64 ((x - r) / 16), .int .i64 0, .int .i64 ((x - r) % 16)]) (by simp [results, Tryz.results99, go_sem]) rfl ⟨rfl, hg⟩
          · have hv := wh_block Hm.out (by omega) hx1
            have HV := Lib.hid hv
            have t1 : ¬ x - (280 + 208 * a) < 16 * b := by omega
            have hw5 : IntKind.i64.wrap (x - (280 + 208 * a + 16 * b)) = x - (280 + 208 * a + 16 * b) := IntWalk.i64_in _ ⟨by omega, by omega⟩
            have t2 : 0 ≤ x - (280 + 208 * a + 16 * b) := by omega
            have t3 : x - (280 + 208 * a + 16 * b) ≤ 5000 := by omega
            generalize 264 + 208 * a = s at hw A5 u0 u1
            generalize 280 + 208 * a + 16 * b = v at hw5 A8 HV t2 t3
            generalize 280 + 208 * a = r at hw3 A7 t1 u2
            clear hv hax h6 h7 h9 hx1 hxt
            go_wp2_with fail
            refine (A5.out _).mono ?_
            rintro e w3 ⟨rfl, hgx⟩
            have hb := (hgx.block _ (lt_of_block hb) (by simp)).trans hb
            have hg := grown_trans hg hgx
            clear hgx f0 f1 f2
            have f0 : w3.cell? ⟨w.heap.size, 0, none⟩ = some (.int .i64 a) := by simp [World.cell?, hb]
            have f1 : w3.cell? ⟨w.heap.size, 1, none⟩ = some (.int .i64 b) := by simp [World.cell?, hb]
            have f2 : w3.cell? ⟨w.heap.size, 2, none⟩ = some (.int .i64 c) := by simp [World.cell?, hb]
            go_wp2_with fail
            refine (A7.out _).mono ?_
            rintro e w4 ⟨rfl, hgx⟩
            have hb := (hgx.block _ (lt_of_block hb) (by simp)).trans hb
            have hg := grown_trans hg hgx
            clear hgx f0 f1 f2
            have f0 : w4.cell? ⟨w.heap.size, 0, none⟩ = some (.int .i64 a) := by simp [World.cell?, hb]
            have f1 : w4.cell? ⟨w.heap.size, 1, none⟩ = some (.int .i64 b) := by simp [World.cell?, hb]
            have f2 : w4.cell? ⟨w.heap.size, 2, none⟩ = some (.int .i64 c) := by simp [World.cell?, hb]
            go_wp2_with fail
            refine (A8.out _).mono ?_
            rintro e w5 ⟨rfl, hgx⟩
            have hb := (hgx.block _ (lt_of_block hb) (by simp)).trans hb
            have hg := grown_trans hg hgx
            clear hgx f0 f1 f2
            have f0 : w5.cell? ⟨w.heap.size, 0, none⟩ = some (.int .i64 a) := by simp [World.cell?, hb]
            have f1 : w5.cell? ⟨w.heap.size, 1, none⟩ = some (.int .i64 b) := by simp [World.cell?, hb]
            have f2 : w5.cell? ⟨w.heap.size, 2, none⟩ = some (.int .i64 c) := by simp [World.cell?, hb]
            go_wp2
            rw [HV.out]
            exact bodyPost_ret (v := .tuple #[.int .i64 9, .int .i64 ((x - v) / 8), .int .i64 0, .int .i64 ((x - v) % 8)]) (by simp [results, Tryz.results99, go_sem]) rfl ⟨rfl, hg⟩

theorem RWhere_any (a b c x : Int) (w : World) : Calls Tryz.prog 99 #[gv a b c, .int .i64 x] w (RWhereIs (whereV a b c x) w) := by
  by_cases h : ¬ (mayB a b c = true) ∨ x < 0 ∨ 280 + 208 * a + 16 * b + 8 * c ≤ x
  · rw [wh_zero h]; exact RWhere_zero a b c x w h
  · have hm : mayB a b c = true := by
      by_cases hm : mayB a b c = true
      · exact hm
      · exact absurd (Or.inl hm) h
    have h0 : 0 ≤ x := by
      by_cases h0 : x < 0
      · exact absurd (Or.inr (Or.inl h0)) h
      · omega
    have h1 : x < 280 + 208 * a + 16 * b + 8 * c := by
      by_cases h1 : 280 + 208 * a + 16 * b + 8 * c ≤ x
      · exact absurd (Or.inr (Or.inr h1)) h
      · omega
    exact RWhere_at a b c x w hm h0 h1
end Go.Proofs.YtpdofdloclmbdaaGreat
end
section
/- The document's record: Mark. -/
namespace Go.Proofs.YtpdofdloclmbdaaGreat
open Go.RowKit Go.Grommet

set_option maxHeartbeats 1000000 in
theorem RefMark_any (ad : Option Addr) (l c : Nat) (xs : List Nat) (w : World) (hx : Words w ad l xs) :
    Calls Tryz.prog 64 #[.slice ad l c] w fun e w' => e = .returned (.int .u64 (markV xs : Int)) ∧ w.grownBy w' none := by
  have HX := Lib.hid hx.len
  by_cases h0 : 0 < l
  · obtain ⟨q, o, rfl, c0⟩ := hx.cell 0 h0
    rw [Nat.add_zero] at c0
    obtain ⟨n, Hn⟩ : ∃ n, Hid (n = xs.getD 0 0) := ⟨_, Lib.hid rfl⟩
    rw [← Hn.out] at c0
    have e1 : ¬ (l : Int) < 1 := by omega
    by_cases h1 : n ≤ 96
    · have e2 : ¬ (96 : Int) < (n : Int) := by omega
      have e4 : IntKind.i64.wrap (n : Int) = (n : Int) := IntWalk.i64_in _ ⟨by omega, by omega⟩
      by_cases h2 : 2 + 2 * n ≤ l
      · have e3 : ¬ (l : Int) < 2 + 2 * (n : Int) := by omega
        obtain ⟨q', o', he, c1⟩ := hx.cell (1 + 2 * n) (by omega)
        cases he
        have HM : Hid (markV xs = (xs.getD (1 + 2 * n) 0 * 65536 + n * 256 + 1) % 18446744073709551616) := Lib.hid (by
          unfold markV
          rw [if_pos (by unfold cutB; rw [decide_eq_true_eq, ← Hn.out, HX.out]; omega), ← Hn.out])
        obtain ⟨S, HS⟩ : ∃ S, Hid (S = xs.getD (1 + 2 * n) 0) := ⟨_, Lib.hid rfl⟩
        rw [← HS.out] at c1 HM
        obtain ⟨k, Hk⟩ : ∃ k, Hid (k = 1 + 2 * n) := ⟨_, Lib.hid rfl⟩
        rw [← Hk.out] at c1
        have ek : (1 : Int) + 2 * (n : Int) = (k : Int) := by rw [Hk.out]; omega
        have ekl : (k : Int) < (l : Int) := by rw [Hk.out]; omega
        have e5 : (0 : Int) < (l : Int) := by omega
        clear hx h2
        go_enter Tryz.func64, Tryz.ntmps64
        go_wp2_with fail
        go_quiet (fail)
        go_wp2
        go_ret
        exact ⟨by rw [HM.out, ← mark_int S n h1]; rfl, grown_drewN _ _ _⟩
      · have e3 : (l : Int) < 2 + 2 * (n : Int) := by omega
        have HM : Hid (markV xs = 0) := Lib.hid (by
          unfold markV
          rw [if_neg (by unfold cutB; rw [decide_eq_true_eq, ← Hn.out, HX.out]; omega)])
        have e5 : (0 : Int) < (l : Int) := by omega
        clear hx h2
        go_enter Tryz.func64, Tryz.ntmps64
        go_wp2
        go_ret
        exact ⟨by rw [HM.out]; rfl, World.grownBy.refl _ _⟩
    · have e2 : (96 : Int) < (n : Int) := by omega
      have HM : Hid (markV xs = 0) := Lib.hid (by
          unfold markV
          rw [if_neg (by unfold cutB; rw [decide_eq_true_eq, ← Hn.out, HX.out]; omega)])
      have e5 : (0 : Int) < (l : Int) := by omega
      clear hx
      go_enter Tryz.func64, Tryz.ntmps64
      go_wp2
      go_ret
      exact ⟨by rw [HM.out]; rfl, World.grownBy.refl _ _⟩
  · obtain rfl : l = 0 := by omega
    have HM : Hid (markV xs = 0) := Lib.hid (by
          unfold markV
          rw [if_neg (by unfold cutB; rw [decide_eq_true_eq, HX.out]; omega)])
    clear hx h0
    go_enter Tryz.func64, Tryz.ntmps64
    go_wp2
    go_ret
    exact ⟨by rw [HM.out]; rfl, World.grownBy.refl _ _⟩
end Go.Proofs.YtpdofdloclmbdaaGreat
end
section
/- The document's record: Words. -/
namespace Go.Proofs.YtpdofdloclmbdaaGreat
open Go.RowKit Go.Grommet

theorem wp_app64b {w : World} {o : Oper} {a : Act} {K : Act → World → Prop} {Q : Exit → Act → World → Prop} (s x : Operand)
    (ho : o.op = .call { callee := .builtin .append, args := #[s, x], argTypes := #[33, 33] })
    (base : Nat) (v : Value) (n : Nat) (xs : List Nat) (hs : a.eval s = v) (hown : w.ownsRow base 44 1 v n (xs.map wv))
    (ad : Addr) (m c : Nat) (ys : List Nat) (hx : a.eval x = .slice (some ad) m c) (hl : ys.length = m) (hw : At w (some ad) (ys.map wv))
    (hb : n + m ≤ 1099511627776) (hbase : base ≤ w.heap.size)
    (h : ∀ ad' cap' w', w'.ownsRow base 44 1 (.slice ad' (n + m) cap') (n + m) ((xs ++ ys).map wv) → w.grownBy w' v.ownBlock → (∀ g, (Value.slice ad' (n + m) cap').ownBlock = some g → v.ownBlock = some g ∨ w.heap.size ≤ g) → K (a.put o.dst (.slice ad' (n + m) cap')) w') : o.wp Tryz.prog a w K Q := by
  obtain ⟨i0, hi, hz0, hz1, hz2⟩ := info_parts Tryz.info44
  obtain ⟨v', w', hr, h2, h3, h4⟩ := run_append_blk (P := Tryz.prog) w base 33 o.type 44 i0 (.int .u64 0) 1 8 Tryz.underlying33 hi hz0 hz1 hz2 rfl (by decide) v n (xs.map wv) hown ad m c (ys.map wv) (by rw [List.length_map, hl, Nat.mul_one]) hw.some (wv_oneCell ys) (by unfold maxLen; omega) (by omega) hbase
  obtain ⟨ad', cap', rfl, _⟩ := row_slice h2
  unfold Oper.wp execOp
  simp only [ho, resolve, invoke, builtin, Sem.run_bind, Sem.run_pure, Result.andThen_ok, List.map_toArray, List.map_cons, List.map_nil, hs, hx, hr]
  exact h ad' cap' w' (by rw [List.map_append]; exact h2) h3 h4

set_option maxRecDepth 100000 in
set_option maxHeartbeats 1000000 in
theorem RefWords_few (base : Nat) (bd : Option Addr) (m c : Nat) (M : List (Int × Nat)) (w : World) (hat : At w bd (icells M)) (hL : M.length = m) (hm : m ≤ 96) (hv : ∀ p ∈ M, p.1 ≤ 9223372036854775807 ∧ p.2 < 18446744073709551616) (hb : base ≤ w.heap.size) :
    Calls Tryz.prog 61 #[.slice bd m c] w (WordsAny base M w) := by
  have HL := Lib.hid hL
  have HV := Lib.hid hv
  clear hL hv
  have h96 : ¬ (96 : Int) < (m : Int) := by omega
  have hwm := u64_of_nat m (by omega)
  have hown0 : (w.alloc (.cells #[.int .u64 (m : Int)] 44)).ownsRow w.heap.size 44 1 (.slice (some ⟨w.heap.size, 0, none⟩) 1 1) 1 ([m].map wv) := World.ownsRow_lit (size := 1) (base := w.heap.size) (e := 44) w #[.int .u64 (m : Int)] 1 (Nat.le_refl _) (by unfold maxLen; omega) (by simp)
  have hO : Own w (w.alloc (.cells #[.int .u64 (m : Int)] 44)) [rowP 44 1 (.slice (some ⟨w.heap.size, 0, none⟩) 1 1) 1 ((m :: flatR (M.take 0)).map wv)] := (Own.nil w).addRow hown0 (World.grownBy_alloc w _ none)
  replace hO := Lib.hid hO
  clear hown0
  go_enter Tryz.func61, Tryz.ntmps61
  go_wp2_with fail
  go_loopw [4, 5] (fun lv i wr => ∃ k : Nat, k ≤ m ∧ i = .int .i64 (k : Int) ∧ ∃ (ad : Option Addr) (cap z : Nat), lv = .slice ad z cap ∧ Hid (z = 1 + 2 * k) ∧ Hid ((∀ p ∈ M.take k, 0 ≤ p.1) ∧ Own w wr [rowP 44 1 (.slice ad z cap) z ((m :: flatR (M.take k)).map wv)])) (fun _ i _ => m - (intOf i).toNat)
  case atStart => exact ⟨0, Nat.zero_le _, rfl, some ⟨w.heap.size, 0, none⟩, 1, 1, rfl, Lib.hid rfl, Lib.hid ⟨by simp, hO.out⟩⟩
  case round =>
    clear hO
    obtain ⟨k, hk, rfl, ad, cap, z, rfl, Hz, HO⟩ := hrel
    have k0 : (0 : Int) ≤ (k : Int) := by omega
    have hz200 : z ≤ 200 := by rw [Hz.out]; omega
    by_cases hlt : k < m
    · have hlt' : (k : Int) < (m : Int) := by omega
      have hkL : k < M.length := by rw [HL.out]; exact hlt
      obtain ⟨q, o, rfl, v0, v1⟩ := at_ipair (hat.grown HO.out.2.grown (by simp)) k hkL
      have hpv := HV.out _ (getD_mem M k (0, 0) hkL)
      have HT := Lib.hid (take_snocD M k (0, 0) hkL)
      have HM := Lib.hid (getD_mem M k (0, 0) hkL)
      obtain ⟨A, A0⟩ : ∃ A, Hid (A = (M.getD k (0, 0)).1) := ⟨_, Lib.hid rfl⟩
      obtain ⟨V, V0⟩ : ∃ V, Hid (V = (M.getD k (0, 0)).2) := ⟨_, Lib.hid rfl⟩
      rw [← A0.out] at v0 hpv
      rw [← V0.out] at v1 hpv
      obtain ⟨hp1, hp2⟩ := hpv
      have HNn := Lib.hid HO.out.1
      by_cases hA : A < 0
      · have hg := HO.out.2.grown
        have HR : WordsAny base M w (.returned (.tuple #[.slice none 0 0, .int .i64 1])) wr :=
          .inl ⟨by unfold negB; rw [List.any_eq_true]; exact ⟨_, HM.out, by rw [← A0.out]; simpa using hA⟩, rfl, hg⟩
        replace HR := Lib.hid HR
        clear HO hg
        go_wp2
        go_ret2
        exact HR.out
      · obtain ⟨a, ha⟩ := Int.eq_ofNat_of_zero_le (show 0 ≤ A by omega)
        rw [ha] at v0
        have A1 : Hid (A = (a : Int)) := Lib.hid ha
        have hwa := u64_of_nat a (by omega)
        have ha0 : ¬ (a : Int) < 0 := by omega
        have hrow := Own.row HO.out.2 0 rfl
        obtain ⟨zs, Hzs⟩ : ∃ zs, Hid (zs = m :: flatR (M.take k)) := ⟨_, Lib.hid rfl⟩
        rw [← Hzs.out] at hrow
        have HO : Hid ((∀ p ∈ M.take k, 0 ≤ p.1) ∧ Own w wr [rowP 44 1 (.slice ad z cap) z (zs.map wv)]) := Lib.hid (by rw [Hzs.out]; exact HO.out)
        clear ha hA
        go_wp2_with fail
        refine wp_region_held_drew (S := fun w' => (w'.cell? ⟨q, o + k * 2, none⟩ = some (.int .i64 (a : Int)) ∧ w'.cell? ⟨q, o + k * 2 + 1, none⟩ = some (.int .u64 (V : Int)))) (by kernel_rfl) (⟨v0, v1⟩) (fun hS => ?_)
        refine wpAnyH_take (i := 0) (oi := { dst := some 25, op := Op.move (Operand.tmp 4), type := 33, pos := "ref.go:47", after := #[], guard := none }) (v := ?vr61r9o0) rfl (by kernel_rfl) (by kernel_rfl) (by kernel_rfl) (fun _ _ _ h => h) (Or.inl ⟨by rfl, ?hr61r9o0⟩) hS ?_
        case hr61r9o0 => (intro wx hx; skip; go_simp; (try with_reducible rfl))
        try simp only [Act.put, List.setIfInBounds_toArray, List.set_cons_zero, List.set_cons_succ]
        refine wpAnyH_take (i := 1) (oi := { dst := some 26, op := Op.move (Operand.tmp 0), type := 43, pos := "ref.go:47", after := #[], guard := none }) (v := ?vr61r9o1) rfl (by kernel_rfl) (by kernel_rfl) (by kernel_rfl) (fun _ _ _ h => h) (Or.inl ⟨by rfl, ?hr61r9o1⟩) hS ?_
        case hr61r9o1 => (intro wx hx; skip; go_simp; (try with_reducible rfl))
        try simp only [Act.put, List.setIfInBounds_toArray, List.set_cons_zero, List.set_cons_succ]
        refine wpAnyH_take (i := 2) (oi := { dst := some 27, op := Op.move (Operand.tmp 5), type := 3, pos := "ref.go:47", after := #[], guard := none }) (v := ?vr61r9o2) rfl (by kernel_rfl) (by kernel_rfl) (by kernel_rfl) (fun _ _ _ h => h) (Or.inl ⟨by rfl, ?hr61r9o2⟩) hS ?_
        case hr61r9o2 => (intro wx hx; skip; go_simp; (try with_reducible rfl))
        try simp only [Act.put, List.setIfInBounds_toArray, List.set_cons_zero, List.set_cons_succ]
        refine wpAnyH_take (i := 3) (oi := { dst := some 28, op := Op.indexAddr 43 (Operand.tmp 26) (Operand.tmp 27), type := 0, pos := "ref.go:47", after := #[{ on := 1, ground := Ground.data }, { on := 2, ground := Ground.data }], guard := none }) (v := ?vr61r9o3) rfl (by kernel_rfl) (by kernel_rfl) (by kernel_rfl) (fun _ _ _ h => h) (Or.inl ⟨by rfl, ?hr61r9o3⟩) hS ?_
        case hr61r9o3 => (intro wx hx; skip; go_simp; (try with_reducible rfl))
        try simp only [Act.put, List.setIfInBounds_toArray, List.set_cons_zero, List.set_cons_succ]
        refine wpAnyH_take (i := 4) (oi := { dst := some 29, op := Op.fieldAddr 92 (Operand.tmp 28) 0, type := 0, pos := "ref.go:47", after := #[{ on := 3, ground := Ground.data }], guard := none }) (v := ?vr61r9o4) rfl (by kernel_rfl) (by kernel_rfl) (by kernel_rfl) (fun _ _ _ h => h) (Or.inl ⟨by rfl, ?hr61r9o4⟩) hS ?_
        case hr61r9o4 => (intro wx hx; skip; go_simp; (try with_reducible rfl))
        try simp only [Act.put, List.setIfInBounds_toArray, List.set_cons_zero, List.set_cons_succ]
        refine wpAnyH_take (i := 5) (oi := { dst := some 30, op := Op.load 3 (Operand.tmp 29), type := 3, pos := "ref.go:47", after := #[{ on := 4, ground := Ground.data }], guard := none }) (v := ?vr61r9o5) rfl (by kernel_rfl) (by kernel_rfl) (by kernel_rfl) (fun _ _ _ h => h) (Or.inl ⟨by rfl, ?hr61r9o5⟩) hS ?_
        case hr61r9o5 => (intro wx hx; obtain ⟨y0, y1⟩ := hx; go_simp; (try with_reducible rfl))
        try simp only [Act.put, List.setIfInBounds_toArray, List.set_cons_zero, List.set_cons_succ]
        refine wpAnyH_take (i := 6) (oi := { dst := some 31, op := Op.convert 3 44 (Operand.tmp 30), type := 44, pos := "ref.go:47", after := #[{ on := 5, ground := Ground.data }], guard := none }) (v := ?vr61r9o6) rfl (by kernel_rfl) (by kernel_rfl) (by kernel_rfl) (fun _ _ _ h => h) (Or.inl ⟨by rfl, ?hr61r9o6⟩) hS ?_
        case hr61r9o6 => (intro wx hx; obtain ⟨y0, y1⟩ := hx; go_simp; (try with_reducible rfl))
        try simp only [Act.put, List.setIfInBounds_toArray, List.set_cons_zero, List.set_cons_succ]
        refine wpAnyH_take (i := 7) (oi := { dst := some 32, op := Op.move (Operand.tmp 0), type := 43, pos := "ref.go:47", after := #[], guard := none }) (v := ?vr61r9o7) rfl (by kernel_rfl) (by kernel_rfl) (by kernel_rfl) (fun _ _ _ h => h) (Or.inl ⟨by rfl, ?hr61r9o7⟩) hS ?_
        case hr61r9o7 => (intro wx hx; skip; go_simp; (try with_reducible rfl))
        try simp only [Act.put, List.setIfInBounds_toArray, List.set_cons_zero, List.set_cons_succ]
        refine wpAnyH_take (i := 8) (oi := { dst := some 33, op := Op.move (Operand.tmp 5), type := 3, pos := "ref.go:47", after := #[], guard := none }) (v := ?vr61r9o8) rfl (by kernel_rfl) (by kernel_rfl) (by kernel_rfl) (fun _ _ _ h => h) (Or.inl ⟨by rfl, ?hr61r9o8⟩) hS ?_
        case hr61r9o8 => (intro wx hx; skip; go_simp; (try with_reducible rfl))
        try simp only [Act.put, List.setIfInBounds_toArray, List.set_cons_zero, List.set_cons_succ]
        refine wpAnyH_take (i := 9) (oi := { dst := some 34, op := Op.indexAddr 43 (Operand.tmp 32) (Operand.tmp 33), type := 0, pos := "ref.go:47", after := #[{ on := 7, ground := Ground.data }, { on := 8, ground := Ground.data }], guard := none }) (v := ?vr61r9o9) rfl (by kernel_rfl) (by kernel_rfl) (by kernel_rfl) (fun _ _ _ h => h) (Or.inl ⟨by rfl, ?hr61r9o9⟩) hS ?_
        case hr61r9o9 => (intro wx hx; skip; go_simp; (try with_reducible rfl))
        try simp only [Act.put, List.setIfInBounds_toArray, List.set_cons_zero, List.set_cons_succ]
        refine wpAnyH_take (i := 10) (oi := { dst := some 35, op := Op.fieldAddr 92 (Operand.tmp 34) 1, type := 0, pos := "ref.go:47", after := #[{ on := 9, ground := Ground.data }], guard := none }) (v := ?vr61r9o10) rfl (by kernel_rfl) (by kernel_rfl) (by kernel_rfl) (fun _ _ _ h => h) (Or.inl ⟨by rfl, ?hr61r9o10⟩) hS ?_
        case hr61r9o10 => (intro wx hx; skip; go_simp; (try with_reducible rfl))
        try simp only [Act.put, List.setIfInBounds_toArray, List.set_cons_zero, List.set_cons_succ]
        refine wpAnyH_take (i := 11) (oi := { dst := some 36, op := Op.load 44 (Operand.tmp 35), type := 44, pos := "ref.go:47", after := #[{ on := 10, ground := Ground.data }], guard := none }) (v := ?vr61r9o11) rfl (by kernel_rfl) (by kernel_rfl) (by kernel_rfl) (fun _ _ _ h => h) (Or.inl ⟨by rfl, ?hr61r9o11⟩) hS ?_
        case hr61r9o11 => (intro wx hx; obtain ⟨y0, y1⟩ := hx; go_simp; (try with_reducible rfl))
        try simp only [Act.put, List.setIfInBounds_toArray, List.set_cons_zero, List.set_cons_succ]
        refine wpAnyH_ready (rs := [12]) (by kernel_rfl) (by simp) ?_
        refine AllReadyH.cons (o := { dst := some 37, op := Op.buildSlice 33 2 #[(0, Operand.tmp 31), (1, Operand.tmp 36)], type := 33, pos := "ref.go:47", after := #[{ on := 6, ground := Ground.data }, { on := 11, ground := Ground.data }], guard := none }) rfl (fun K hK => ?_) AllReadyH.nil
        go_simp
        skip
        refine hK.out _ _ ?hsr61r9o12 (fun hS => ?_)
        case hsr61r9o12 => (exact ⟨(World.grownBy_alloc _ _ none).cell hS.1 (by simp), (World.grownBy_alloc _ _ none).cell hS.2 (by simp)⟩)
        clear hK K
        try simp only [Act.put, List.setIfInBounds_toArray, List.set_cons_zero, List.set_cons_succ]
        refine wpAnyH_ready (rs := [13]) (by kernel_rfl) (by simp) ?_
        refine AllReadyH.cons (o := { dst := some 38, op := Op.call { callee := Callee.builtin Builtin.append, args := #[Operand.tmp 25, Operand.tmp 37], argTypes := #[33, 33] }, type := 33, pos := "ref.go:47", after := #[{ on := 0, ground := Ground.data }, { on := 12, ground := Ground.data }], guard := none }) rfl (fun K hK => ?_) AllReadyH.nil
        refine wp_app64b _ _ rfl 0 _ z zs rfl (show (wr.drew.alloc (.cells #[.int .u64 (a : Int), .int .u64 (V : Int)] 44)).ownsRow 0 44 1 (.slice ad z cap) z (zs.map wv) from World.ownsRow.alloc hrow _) ⟨wr.heap.size, 0, none⟩ 2 2 [a, V] rfl rfl (at_of_row (heap_alloc_new wr.drew _)) ?gl (Nat.zero_le _) ?_
        case gl => omega
        intro ad2 cap2 w2 hrow2 hg2 hnew2
        have hOx := Own.append (Own.quiet HO.out.2 (grown_trans (grown_drew (World.grownBy.refl _ none)) (World.grownBy_alloc wr.drew (.cells #[.int .u64 (a : Int), .int .u64 (V : Int)] 44) none))) 0 rfl hrow2 hg2 hnew2
        have hcx := Own.grown hOx
        obtain ⟨q1, o1, he1, z1, z2⟩ := at_ipair (hat.grown hcx (by simp)) k hkL
        cases he1
        rw [← A0.out, A1.out] at z1
        rw [← V0.out] at z2
        refine hK.out _ _ ?hsq (fun hS => ?_)
        case hsq => exact ⟨z1, z2⟩
        clear hK K
        try simp only [Act.put, List.setIfInBounds_toArray, List.set_cons_zero, List.set_cons_succ]
        refine wpAnyH_take (i := 14) (oi := { dst := some 4, op := Op.assign (Operand.tmp 38), type := 33, pos := "ref.go:47", after := #[{ on := 13, ground := Ground.data }, { on := 13, ground := Ground.chain }, { on := 0, ground := Ground.phase }, { on := 1, ground := Ground.phase }, { on := 2, ground := Ground.phase }, { on := 3, ground := Ground.phase }, { on := 4, ground := Ground.phase }, { on := 5, ground := Ground.phase }, { on := 6, ground := Ground.phase }, { on := 7, ground := Ground.phase }, { on := 8, ground := Ground.phase }, { on := 9, ground := Ground.phase }, { on := 10, ground := Ground.phase }, { on := 11, ground := Ground.phase }, { on := 12, ground := Ground.phase }, { on := 13, ground := Ground.phase }], guard := none }) (v := ?vr61r9o14) rfl (by kernel_rfl) (by kernel_rfl) (by kernel_rfl) (fun _ _ _ h => h) (Or.inl ⟨by rfl, ?hr61r9o14⟩) hS ?_
        case hr61r9o14 => (intro wx hx; skip; go_simp; (try with_reducible rfl))
        try simp only [Act.put, List.setIfInBounds_toArray, List.set_cons_zero, List.set_cons_succ]
        refine wpAnyH_done (by kernel_rfl) ?_ _
        have HS : Hid ((∀ p ∈ M.take (k + 1), 0 ≤ p.1) ∧ Own w w2 [rowP 44 1 (.slice ad2 (z + 2) cap2) (z + 2) ((m :: flatR (M.take (k + 1))).map wv)]) := Lib.hid (by
          refine ⟨?_, ?_⟩
          · rw [HT.out]
            intro p hp
            rcases List.mem_append.1 hp with h | h
            · exact HNn.out p h
            · rw [List.mem_singleton.1 h, ← A0.out, A1.out]; omega
          · have e1 : m :: flatR (M.take (k + 1)) = zs ++ [a, V] := by
              rw [HT.out, flatR_append, Hzs.out]
              have : flatR [M.getD k (0, 0)] = [a, V] := by
                simp only [flatR, ← A0.out, ← V0.out, A1.out, Int.toNat_natCast]
              rw [this]
              rfl
            rw [e1]
            exact hOx)
        clear hOx hcx z1 z2 hS hrow2 hg2 hnew2 hrow v0 v1 HO
        go_wp2
        go_roundw
        case rel => exact ⟨k + 1, by omega, by go_num, ad2, cap2, z + 2, rfl, Lib.hid (by rw [Hz.out]; omega), HS⟩
        case measure => simp [intOf]; omega
    · have hlt' : ¬ (k : Int) < (m : Int) := by omega
      obtain rfl : k = m := by omega
      have hM := HO.out
      rw [List.take_of_length_le (by rw [HL.out]; omega)] at hM
      obtain ⟨hno, hO⟩ := hM
      have Hno := Lib.hid hno
      have Hm : Hid (k :: flatR M = bodyR M) := Lib.hid (by unfold bodyR; rw [HL.out])
      rw [Hm.out] at hO
      have hbl : (bodyR M).length = z := by rw [bodyR_length, HL.out, Hz.out]
      have hsm : ∀ n ∈ bodyR M, n < 18446744073709551616 := fun n hn => recR_small HV.out (by rw [HL.out]; exact hm) n (by unfold recR; exact List.mem_append_left _ hn)
      obtain ⟨hx, hnil, hlc⟩ := Own.words hO 0 rfl hsm (by omega)
      have HS := Lib.hid (RefOf_any ad z cap (bodyR M) wr hx)
      obtain ⟨U, HU⟩ : ∃ U, Hid (U = sumN (bodyR M)) := ⟨_, Lib.hid rfl⟩
      rw [← HU.out] at HS
      have hrow := Own.row hO 0 rfl
      have hnew := Own.rowNew hO 0 rfl
      have Hg := Lib.hid hO.grown
      have hrl : (recR M).length = z + 1 := by rw [recR_length, HL.out, Hz.out]; omega
      have Hrl := Lib.hid hrl
      clear hbl hx hno HO hO hsm hrl hnil
      go_wp2_with fail
      refine HS.out.mono ?_
      rintro e u4 ⟨rfl, rfl⟩
      clear HS
      have hrow := row_base (base' := base) hrow (fun i hi => Nat.le_trans hb (hnew i hi))
      have hsz := Hg.out.size
      go_wp2_with (at_builtin; refine app64b rfl _ _ rfl base _ z (bodyR M) rfl (World.ownsRow.alloc hrow _) ⟨wr.heap.size, 0, none⟩ 1 1 [U] rfl rfl (at_of_row (heap_alloc_new wr _)) ?a2 ?a3 ?_)
      case a2 => omega
      case a3 => simp; omega
      intro ad2 cap2 w2 hrow2 hg2 hnew2
      have hrec : bodyR M ++ [U] = recR M := by unfold recR; rw [HU.out]
      have hrow2 : w2.ownsRow base 44 1 (.slice ad2 (z + 1) cap2) (z + 1) ((recR M).map wv) := by rw [← hrec]; simpa using hrow2
      have hgA : w.grownBy w2 none := grown_new (grown_trans Hg.out (World.grownBy_alloc wr _ none)) hg2 hnew
      have HR : WordsAny base M w (.returned (.tuple #[.slice ad2 (z + 1) cap2, .int .i64 0])) w2 := by
        refine .inr ⟨?_, ad2, cap2, ?_, ?_, hgA⟩
        · unfold negB
          rw [List.any_eq_false]
          intro p hp
          have := Hno.out p hp
          simpa using this
        · rw [Hrl.out]
        · rw [Hrl.out]; exact hrow2
      replace HR := Lib.hid HR
      clear hrow2 hnew2 hrow hnew hg2 hgA hrec
      go_wp2
      go_ret2
      exact HR.out
end Go.Proofs.YtpdofdloclmbdaaGreat
end
section
/- The document's record: May. -/
namespace Go.Proofs.YtpdofdloclmbdaaGreat
open Go.RowKit Go.Grommet

/-- The document's geometry stands in a block. -/
def GeoR (G : Nat) (a b c : Int) (w : World) : Prop := w.heap[G]? = some (.cells #[.int .i64 a, .int .i64 b, .int .i64 c] 28 (0, 0))
theorem GeoR.keep {G : Nat} {a b c : Int} {w w' : World} (h : GeoR G a b c w) (hg : w.grownBy w' none) : GeoR G a b c w' := (hg.block G (lt_of_block h) (by simp)).trans h
theorem GeoR.cells {G : Nat} {a b c : Int} {w : World} (h : GeoR G a b c w) : w.cell? ⟨G, 0, none⟩ = some (.int .i64 a) ∧ w.cell? ⟨G, 1, none⟩ = some (.int .i64 b) ∧ w.cell? ⟨G, 2, none⟩ = some (.int .i64 c) := by
  unfold GeoR at h
  refine ⟨?_, ?_, ?_⟩ <;> simp [World.cell?, h]

set_option maxHeartbeats 1000000 in
theorem RefMay_geo (a b c : Int) (bd : Option Addr) (m cc : Nat) (w : World) (hb : mayB a b c = false) : Calls Tryz.prog 60 #[gv a b c, .slice bd m cc] w (BoolIs false w) := by
  have HM := Lib.hid (fun wx => RMay_any a b c wx)
  rw [hb] at HM
  unfold gv at HM ⊢
  clear hb
  go_enter Tryz.func60, Tryz.ntmps60
  go_wp2_with fail
  refine (HM.out _).mono ?_
  rintro e w1 ⟨rfl, hg⟩
  go_wp2
  go_ret
  exact ⟨rfl, grown_trans (World.grownBy_alloc w _ none) hg⟩
set_option maxHeartbeats 1000000 in
theorem RefMay_many (a b c : Int) (bd : Option Addr) (m cc : Nat) (w : World) (hb : mayB a b c = true) (h : 96 < m) : Calls Tryz.prog 60 #[gv a b c, .slice bd m cc] w (BoolIs false w) := by
  have h' : (96 : Int) < (m : Int) := by omega
  have HM := Lib.hid (fun wx => RMay_any a b c wx)
  rw [hb] at HM
  unfold gv at HM ⊢
  clear hb
  go_enter Tryz.func60, Tryz.ntmps60
  go_wp2_with fail
  refine (HM.out _).mono ?_
  rintro e w1 ⟨rfl, hg⟩
  go_wp2
  go_ret
  exact ⟨rfl, grown_trans (World.grownBy_alloc w _ none) hg⟩

set_option maxRecDepth 100000 in
set_option maxHeartbeats 1000000 in
theorem RefMay_at (a b c : Int) (a0 : Option Addr) (m cc : Nat) (M : List (Int × Nat)) (w : World) (hat0 : At w a0 (icells M)) (hL : M.length = m) (hm : ¬ 96 < m) (hb : mayB a b c = true) :
    Calls Tryz.prog 60 #[gv a b c, .slice a0 m cc] w (BoolIs (mayW a b c M) w) := by
  have h' : ¬ (96 : Int) < (m : Int) := by omega
  have HM := Lib.hid (fun wx => RMay_any a b c wx)
  have HY : Hid (preB a b c M m → mayW a b c M = true) := Lib.hid (fun h => by
    unfold mayW; rw [hL, decide_eq_true_eq]; exact ⟨by omega, hb, h⟩)
  have HN0 : Hid (¬ preB a b c M m → mayW a b c M = false) := Lib.hid (fun h => by
    unfold mayW; rw [hL, decide_eq_false_iff_not]; exact fun x => h x.2.2)
  rw [hb] at HM
  have hgw := Lib.hid (World.grownBy_alloc w (.cells #[.int .i64 a, .int .i64 b, .int .i64 c] 28) none)
  have hG : GeoR w.heap.size a b c (w.alloc (.cells #[.int .i64 a, .int .i64 b, .int .i64 c] 28)) := heap_alloc_new w _
  obtain ⟨G, HGe⟩ : ∃ G, Hid (G = w.heap.size) := ⟨_, Lib.hid rfl⟩
  rw [← HGe.out] at hG
  have hat := Lib.hid hat0
  have HL := Lib.hid hL
  replace hG := Lib.hid hG
  clear hL hb hat0
  unfold gv at HM ⊢
  go_enter Tryz.func60, Tryz.ntmps60
  go_wp2_with fail
  refine (HM.out _).mono ?_
  rintro e w1 ⟨rfl, hg⟩
  clear HM
  rw [← HGe.out]
  have hcG := Lib.hid (And.intro (hG.out.keep hg) (grown_trans hgw.out hg))
  clear hg hG hgw
  go_wp2_with fail
  go_loopw [5] (fun i wr => ∃ k : Nat, k ≤ m ∧ i = .int .i64 (k : Int) ∧ Hid (preB a b c M k) ∧ Hid (GeoR G a b c wr ∧ w.grownBy wr none)) (fun i _ => m - (intOf i).toNat)
  case atStart => exact ⟨0, Nat.zero_le _, rfl, Lib.hid (fun i hi => by omega), hcG⟩
  case round =>
    clear hcG
    obtain ⟨k, hk, rfl, HP, HO⟩ := hrel
    have k0 : (0 : Int) ≤ (k : Int) := by omega
    by_cases hlt : k < m
    · have hlt' : (k : Int) < (m : Int) := by omega
      have hkL : k < M.length := by rw [HL.out]; exact hlt
      obtain ⟨q, o, rfl, c0, _⟩ := at_ipair (hat.out.grown HO.out.2 (by simp)) k hkL
      obtain ⟨A, A0⟩ : ∃ A, Hid (A = (M.getD k (0, 0)).1) := ⟨_, Lib.hid rfl⟩
      rw [← A0.out] at c0
      have HWh := Lib.hid (fun wx => RWhere_any a b c A wx)
      have HV : Hid (standB a b c A = decide ((whereV a b c A).1 ≠ 0 ∧ (whereV a b c A).1 ≠ 1 ∧ (whereV a b c A).1 ≠ 5)) := Lib.hid rfl
      have HNo : Hid (standB a b c A = false → mayW a b c M = false) := Lib.hid (fun e => HN0.out (fun h => by
        have := (h k hlt).1
        rw [← A0.out, e] at this
        cases this))
      generalize whereV a b c A = WV at HWh HV
      obtain ⟨K, i1, i2, i3⟩ := WV
      unfold RWhereIs gv at HWh
      dsimp only at HWh HV
      go_wp2_with fail
      refine wp_region_held_drew (S := fun w' => GeoR G a b c w' ∧ CellS q (o + k * 2) (.int .i64 A) w') (by kernel_rfl) (⟨HO.out.1.keep (grown_drew (World.grownBy.refl _ none)), c0⟩) (fun hS => ?_)
      refine wpAnyH_take (i := 0) (oi := { dst := some 26, op := Op.load 28 (Operand.tmp 2), type := 28, pos := "ref.go:24", after := #[], guard := none }) (v := ?vr60r6o0) rfl (by kernel_rfl) (by kernel_rfl) (by kernel_rfl) (fun _ _ _ h => h) (Or.inl ⟨by rfl, ?hr60r6o0⟩) hS ?_
      case hr60r6o0 => (intro wx hx; obtain ⟨hx0, hx1⟩ := hx; obtain ⟨y0, y1, y2⟩ := GeoR.cells hx0; unfold CellS at hx1; go_simp; (try with_reducible rfl))
      try simp only [Act.put, List.setIfInBounds_toArray, List.set_cons_zero, List.set_cons_succ]
      refine wpAnyH_take (i := 1) (oi := { dst := some 27, op := Op.move (Operand.tmp 1), type := 43, pos := "ref.go:24", after := #[], guard := none }) (v := ?vr60r6o1) rfl (by kernel_rfl) (by kernel_rfl) (by kernel_rfl) (fun _ _ _ h => h) (Or.inl ⟨by rfl, ?hr60r6o1⟩) hS ?_
      case hr60r6o1 => (intro wx hx; skip; go_simp; (try with_reducible rfl))
      try simp only [Act.put, List.setIfInBounds_toArray, List.set_cons_zero, List.set_cons_succ]
      refine wpAnyH_take (i := 2) (oi := { dst := some 28, op := Op.move (Operand.tmp 5), type := 3, pos := "ref.go:24", after := #[], guard := none }) (v := ?vr60r6o2) rfl (by kernel_rfl) (by kernel_rfl) (by kernel_rfl) (fun _ _ _ h => h) (Or.inl ⟨by rfl, ?hr60r6o2⟩) hS ?_
      case hr60r6o2 => (intro wx hx; skip; go_simp; (try with_reducible rfl))
      try simp only [Act.put, List.setIfInBounds_toArray, List.set_cons_zero, List.set_cons_succ]
      refine wpAnyH_take (i := 3) (oi := { dst := some 29, op := Op.indexAddr 43 (Operand.tmp 27) (Operand.tmp 28), type := 0, pos := "ref.go:24", after := #[{ on := 1, ground := Ground.data }, { on := 2, ground := Ground.data }], guard := none }) (v := ?vr60r6o3) rfl (by kernel_rfl) (by kernel_rfl) (by kernel_rfl) (fun _ _ _ h => h) (Or.inl ⟨by rfl, ?hr60r6o3⟩) hS ?_
      case hr60r6o3 => (intro wx hx; skip; go_simp; (try with_reducible rfl))
      try simp only [Act.put, List.setIfInBounds_toArray, List.set_cons_zero, List.set_cons_succ]
      refine wpAnyH_take (i := 4) (oi := { dst := some 30, op := Op.fieldAddr 92 (Operand.tmp 29) 0, type := 0, pos := "ref.go:24", after := #[{ on := 3, ground := Ground.data }], guard := none }) (v := ?vr60r6o4) rfl (by kernel_rfl) (by kernel_rfl) (by kernel_rfl) (fun _ _ _ h => h) (Or.inl ⟨by rfl, ?hr60r6o4⟩) hS ?_
      case hr60r6o4 => (intro wx hx; skip; go_simp; (try with_reducible rfl))
      try simp only [Act.put, List.setIfInBounds_toArray, List.set_cons_zero, List.set_cons_succ]
      refine wpAnyH_take (i := 5) (oi := { dst := some 31, op := Op.load 3 (Operand.tmp 30), type := 3, pos := "ref.go:24", after := #[{ on := 4, ground := Ground.data }], guard := none }) (v := ?vr60r6o5) rfl (by kernel_rfl) (by kernel_rfl) (by kernel_rfl) (fun _ _ _ h => h) (Or.inl ⟨by rfl, ?hr60r6o5⟩) hS ?_
      case hr60r6o5 => (intro wx hx; obtain ⟨hx0, hx1⟩ := hx; obtain ⟨y0, y1, y2⟩ := GeoR.cells hx0; unfold CellS at hx1; go_simp; (try with_reducible rfl))
      try simp only [Act.put, List.setIfInBounds_toArray, List.set_cons_zero, List.set_cons_succ]
      refine wpAnyH_ready (rs := [6]) (by kernel_rfl) (by simp) ?_
      refine AllReadyH.cons (o := { dst := some 32, op := Op.call { callee := Callee.value (Operand.func 99), args := #[Operand.tmp 26, Operand.tmp 31], argTypes := #[28, 3] }, type := 164, pos := "ref.go:24", after := #[{ on := 0, ground := Ground.data }, { on := 5, ground := Ground.data }], guard := none }) rfl (fun K hK => ?_) AllReadyH.nil
      go_simp
      refine (HWh.out _).mono ?_
      rintro e wB ⟨rfl, hgB⟩
      have hgB5 := grown_trans (grown_drew (World.grownBy.refl _ none)) hgB
      have hS1 : GeoR G a b c wB ∧ CellS q (o + k * 2) (.int .i64 A) wB := ⟨hS.1.keep hgB, hS.2.keep hgB⟩
      refine hK.out _ _ ?hsr60r6o6 (fun hS => ?_)
      case hsr60r6o6 => (exact hS1)
      clear hK K
      try simp only [Act.put, List.setIfInBounds_toArray, List.set_cons_zero, List.set_cons_succ]
      refine wpAnyH_take (i := 7) (oi := { dst := some 25, op := Op.move (Operand.tmp 32), type := 164, pos := "ref.go:24", after := #[{ on := 6, ground := Ground.data }], guard := none }) (v := ?vr60r6o7) rfl (by kernel_rfl) (by kernel_rfl) (by kernel_rfl) (fun _ _ _ h => h) (Or.inl ⟨by rfl, ?hr60r6o7⟩) hS ?_
      case hr60r6o7 => (intro wx hx; skip; go_simp; (try with_reducible rfl))
      try simp only [Act.put, List.setIfInBounds_toArray, List.set_cons_zero, List.set_cons_succ]
      refine wpAnyH_take (i := 8) (oi := { dst := some 33, op := Op.extract (Operand.tmp 25) 0, type := 3, pos := "ref.go:24", after := #[{ on := 7, ground := Ground.data }], guard := none }) (v := ?vr60r6o8) rfl (by kernel_rfl) (by kernel_rfl) (by kernel_rfl) (fun _ _ _ h => h) (Or.inl ⟨by rfl, ?hr60r6o8⟩) hS ?_
      case hr60r6o8 => (intro wx hx; skip; go_simp; (try with_reducible rfl))
      try simp only [Act.put, List.setIfInBounds_toArray, List.set_cons_zero, List.set_cons_succ]
      refine wpAnyH_take (i := 9) (oi := { dst := some 34, op := Op.extract (Operand.tmp 25) 1, type := 3, pos := "ref.go:24", after := #[{ on := 7, ground := Ground.data }, { on := 12, ground := Ground.gcOnly Departure.lateStores }], guard := none }) (v := ?vr60r6o9) rfl (by kernel_rfl) (by kernel_rfl) (by kernel_rfl) (fun _ _ _ h => h) (Or.inl ⟨by rfl, ?hr60r6o9⟩) hS ?_
      case hr60r6o9 => (intro wx hx; skip; go_simp; (try with_reducible rfl))
      try simp only [Act.put, List.setIfInBounds_toArray, List.set_cons_zero, List.set_cons_succ]
      refine wpAnyH_take (i := 10) (oi := { dst := some 35, op := Op.extract (Operand.tmp 25) 2, type := 3, pos := "ref.go:24", after := #[{ on := 7, ground := Ground.data }, { on := 13, ground := Ground.gcOnly Departure.lateStores }], guard := none }) (v := ?vr60r6o10) rfl (by kernel_rfl) (by kernel_rfl) (by kernel_rfl) (fun _ _ _ h => h) (Or.inl ⟨by rfl, ?hr60r6o10⟩) hS ?_
      case hr60r6o10 => (intro wx hx; skip; go_simp; (try with_reducible rfl))
      try simp only [Act.put, List.setIfInBounds_toArray, List.set_cons_zero, List.set_cons_succ]
      refine wpAnyH_take (i := 11) (oi := { dst := some 36, op := Op.extract (Operand.tmp 25) 3, type := 3, pos := "ref.go:24", after := #[{ on := 7, ground := Ground.data }, { on := 14, ground := Ground.gcOnly Departure.lateStores }], guard := none }) (v := ?vr60r6o11) rfl (by kernel_rfl) (by kernel_rfl) (by kernel_rfl) (fun _ _ _ h => h) (Or.inl ⟨by rfl, ?hr60r6o11⟩) hS ?_
      case hr60r6o11 => (intro wx hx; skip; go_simp; (try with_reducible rfl))
      try simp only [Act.put, List.setIfInBounds_toArray, List.set_cons_zero, List.set_cons_succ]
      refine wpAnyH_take (i := 12) (oi := { dst := some 6, op := Op.assign (Operand.tmp 33), type := 3, pos := "ref.go:24", after := #[{ on := 8, ground := Ground.data }, { on := 6, ground := Ground.chain }, { on := 0, ground := Ground.phase }, { on := 1, ground := Ground.phase }, { on := 2, ground := Ground.phase }, { on := 3, ground := Ground.phase }, { on := 4, ground := Ground.phase }, { on := 5, ground := Ground.phase }, { on := 6, ground := Ground.phase }, { on := 7, ground := Ground.phase }, { on := 8, ground := Ground.phase }, { on := 9, ground := Ground.textOnly Departure.lateStores }, { on := 10, ground := Ground.textOnly Departure.lateStores }, { on := 11, ground := Ground.textOnly Departure.lateStores }], guard := none }) (v := ?vr60r6o12) rfl (by kernel_rfl) (by kernel_rfl) (by kernel_rfl) (fun _ _ _ h => h) (Or.inl ⟨by rfl, ?hr60r6o12⟩) hS ?_
      case hr60r6o12 => (intro wx hx; skip; go_simp; (try with_reducible rfl))
      try simp only [Act.put, List.setIfInBounds_toArray, List.set_cons_zero, List.set_cons_succ]
      refine wpAnyH_take (i := 13) (oi := { dst := some 7, op := Op.assign (Operand.tmp 34), type := 3, pos := "ref.go:24", after := #[{ on := 9, ground := Ground.data }, { on := 12, ground := Ground.chain }, { on := 0, ground := Ground.phase }, { on := 1, ground := Ground.phase }, { on := 2, ground := Ground.phase }, { on := 3, ground := Ground.phase }, { on := 4, ground := Ground.phase }, { on := 5, ground := Ground.phase }, { on := 6, ground := Ground.phase }, { on := 7, ground := Ground.phase }, { on := 8, ground := Ground.phase }, { on := 9, ground := Ground.phase }, { on := 10, ground := Ground.textOnly Departure.lateStores }, { on := 11, ground := Ground.textOnly Departure.lateStores }, { on := 12, ground := Ground.phase }], guard := none }) (v := ?vr60r6o13) rfl (by kernel_rfl) (by kernel_rfl) (by kernel_rfl) (fun _ _ _ h => h) (Or.inl ⟨by rfl, ?hr60r6o13⟩) hS ?_
      case hr60r6o13 => (intro wx hx; skip; go_simp; (try with_reducible rfl))
      try simp only [Act.put, List.setIfInBounds_toArray, List.set_cons_zero, List.set_cons_succ]
      refine wpAnyH_take (i := 14) (oi := { dst := some 8, op := Op.assign (Operand.tmp 35), type := 3, pos := "ref.go:24", after := #[{ on := 10, ground := Ground.data }, { on := 13, ground := Ground.chain }, { on := 0, ground := Ground.phase }, { on := 1, ground := Ground.phase }, { on := 2, ground := Ground.phase }, { on := 3, ground := Ground.phase }, { on := 4, ground := Ground.phase }, { on := 5, ground := Ground.phase }, { on := 6, ground := Ground.phase }, { on := 7, ground := Ground.phase }, { on := 8, ground := Ground.phase }, { on := 9, ground := Ground.phase }, { on := 10, ground := Ground.phase }, { on := 11, ground := Ground.textOnly Departure.lateStores }, { on := 12, ground := Ground.phase }, { on := 13, ground := Ground.phase }], guard := none }) (v := ?vr60r6o14) rfl (by kernel_rfl) (by kernel_rfl) (by kernel_rfl) (fun _ _ _ h => h) (Or.inl ⟨by rfl, ?hr60r6o14⟩) hS ?_
      case hr60r6o14 => (intro wx hx; skip; go_simp; (try with_reducible rfl))
      try simp only [Act.put, List.setIfInBounds_toArray, List.set_cons_zero, List.set_cons_succ]
      refine wpAnyH_take (i := 15) (oi := { dst := some 9, op := Op.assign (Operand.tmp 36), type := 3, pos := "ref.go:24", after := #[{ on := 11, ground := Ground.data }, { on := 14, ground := Ground.chain }, { on := 0, ground := Ground.phase }, { on := 1, ground := Ground.phase }, { on := 2, ground := Ground.phase }, { on := 3, ground := Ground.phase }, { on := 4, ground := Ground.phase }, { on := 5, ground := Ground.phase }, { on := 6, ground := Ground.phase }, { on := 7, ground := Ground.phase }, { on := 8, ground := Ground.phase }, { on := 9, ground := Ground.phase }, { on := 10, ground := Ground.phase }, { on := 11, ground := Ground.phase }, { on := 12, ground := Ground.phase }, { on := 13, ground := Ground.phase }, { on := 14, ground := Ground.phase }], guard := none }) (v := ?vr60r6o15) rfl (by kernel_rfl) (by kernel_rfl) (by kernel_rfl) (fun _ _ _ h => h) (Or.inl ⟨by rfl, ?hr60r6o15⟩) hS ?_
      case hr60r6o15 => (intro wx hx; skip; go_simp; (try with_reducible rfl))
      try simp only [Act.put, List.setIfInBounds_toArray, List.set_cons_zero, List.set_cons_succ]
      refine wpAnyH_done (by kernel_rfl) ?_ _
      have hGB := Lib.hid (And.intro hS.1 (grown_trans HO.out.2 hgB5))
      clear hS hgB hgB5 hS1 c0 HWh
      by_cases h0 : K = 0
      · subst h0
        have HR : Hid (mayW a b c M = false) := Lib.hid (HNo.out (by rw [HV.out]; simp))
        have hg := hGB.out.2
        clear HO hGB
        go_wp2
        go_ret
        exact boolIs_mk HR.out hg
      · by_cases h1 : K = 1
        · subst h1
          have HR : Hid (mayW a b c M = false) := Lib.hid (HNo.out (by rw [HV.out]; simp))
          have hg := hGB.out.2
          clear HO hGB
          go_wp2
          go_ret
          exact boolIs_mk HR.out hg
        · by_cases h5 : K = 5
          · subst h5
            have HR : Hid (mayW a b c M = false) := Lib.hid (HNo.out (by rw [HV.out]; simp))
            have hg := hGB.out.2
            clear HO hGB
            go_wp2
            go_ret
            exact boolIs_mk HR.out hg
          · have hst : standB a b c A = true := by rw [HV.out]; simp [h0, h1, h5]
            have e0 : (K == 0) = false := by simpa using h0
            have e1 : (K == 1) = false := by simpa using h1
            have e5 : (K == 5) = false := by simpa using h5
            replace hst := Lib.hid hst
            clear h0 h1 h5 HO
            go_wp2_with fail
            go_loopw [10] (fun j wr => ∃ n : Nat, n ≤ k ∧ j = .int .i64 (n : Int) ∧ Hid (∀ j, j < n → (M.getD j (0, 0)).1 ≠ A) ∧ Hid (GeoR G a b c wr ∧ w.grownBy wr none)) (fun j _ => k - (intOf j).toNat)
            case atStart => exact ⟨0, Nat.zero_le _, rfl, Lib.hid (fun j hj => by omega), hGB⟩
            case round =>
              clear hGB
              obtain ⟨n, hn, rfl, HU, HO⟩ := hrel
              have n0 : (0 : Int) ≤ (n : Int) := by omega
              by_cases hltn : n < k
              · have hltn' : (n : Int) < (k : Int) := by omega
                have hltm' : (n : Int) < (m : Int) := by omega
                obtain ⟨q', o', he, c1, _⟩ := at_ipair (hat.out.grown HO.out.2 (by simp)) n (by omega)
                cases he
                obtain ⟨q', o', he, c2, _⟩ := at_ipair (hat.out.grown HO.out.2 (by simp)) k hkL
                cases he
                rw [← A0.out] at c2
                obtain ⟨A', A0'⟩ : ∃ A', Hid (A' = (M.getD n (0, 0)).1) := ⟨_, Lib.hid rfl⟩
                rw [← A0'.out] at c1
                by_cases hAA : A' = A
                · have HR : Hid (mayW a b c M = false) := Lib.hid (HN0.out (fun h => (h k hlt).2 n hltn (by rw [← A0'.out, hAA, A0.out])))
                  have e1 : (A' == A) = true := by simpa using hAA
                  clear hAA
                  go_wp2_with fail
                  go_quiet (fail)
                  generalize hWy : World.drewN _ _ = Wy
                  have hg : w.grownBy Wy none := by rw [← hWy]; exact grown_trans HO.out.2 (grown_drewN _ _ _)
                  clear hWy HO c1 c2
                  go_wp2
                  go_ret
                  exact boolIs_mk HR.out hg
                · have HU2 : Hid (∀ j, j < n + 1 → (M.getD j (0, 0)).1 ≠ A) := Lib.hid (fun j hj => by
                    by_cases e : j = n
                    · subst e; rw [← A0'.out]; exact hAA
                    · exact HU.out j (by omega))
                  have e1 : (A' == A) = false := by simpa using hAA
                  clear hAA
                  go_wp2_with fail
                  go_quiet (fail)
                  generalize hWy : World.drewN _ _ = Wy
                  have hO1 : Hid (GeoR G a b c Wy ∧ w.grownBy Wy none) := Lib.hid (by rw [← hWy]; exact ⟨HO.out.1.keep (grown_drewN _ _ _), grown_trans HO.out.2 (grown_drewN _ _ _)⟩)
                  clear hWy HO c1 c2
                  go_wp2
                  go_roundw
                  case rel => exact ⟨n + 1, by omega, by go_num, HU2, hO1⟩
                  case measure => simp [intOf]; omega
              · have hltn' : ¬ (n : Int) < (k : Int) := by omega
                obtain rfl : n = k := by omega
                have HP2 : Hid (preB a b c M (n + 1)) := Lib.hid (fun i hi => by
                  by_cases e : i = n
                  · subst e; exact ⟨by rw [← A0.out]; exact hst.out, fun j hj => by rw [← A0.out]; exact HU.out j hj⟩
                  · exact HP.out i (by omega))
                go_wp2
                go_roundw
                case rel => exact ⟨n + 1, by omega, by go_num, HP2, HO⟩
                case measure => simp [intOf]; omega
    · have hlt' : ¬ (k : Int) < (m : Int) := by omega
      obtain rfl : k = m := by omega
      have HR := Lib.hid (HY.out HP.out)
      have hg := HO.out.2
      clear HO
      go_wp2
      go_ret
      exact boolIs_mk HR.out hg

theorem RefMay_any (a b c : Int) (bd : Option Addr) (m cc : Nat) (M : List (Int × Nat)) (w : World) (hat : At w bd (icells M)) (hL : M.length = m) :
    Calls Tryz.prog 60 #[gv a b c, .slice bd m cc] w (BoolIs (mayW a b c M) w) := by
  cases hb : mayB a b c with
  | false =>
    have : mayW a b c M = false := by unfold mayW; rw [decide_eq_false_iff_not, hb]; simp
    rw [this]
    exact RefMay_geo a b c bd m cc w hb
  | true =>
    by_cases h : 96 < m
    · rw [mayW_many (by rw [hL]; exact h)]
      exact RefMay_many a b c bd m cc w hb h
    · exact RefMay_at a b c bd m cc M w hat hL h hb
end Go.Proofs.YtpdofdloclmbdaaGreat
end
section
/- The document's record: Read. -/
namespace Go.Proofs.YtpdofdloclmbdaaGreat
open Go.RowKit Go.Grommet

set_option maxHeartbeats 1000000 in
theorem RefRead_cut (base : Nat) (a b c : Int) (ad : Option Addr) (l cc : Nat) (xs : List Nat) (w : World) (hx : Words w ad l xs) (h : cutB xs = false) :
    Calls Tryz.prog 102 #[gv a b c, .slice ad l cc] w (ReadIs base a b c xs w) := by
  have HR : ∀ w', w.grownBy w' none → ReadIs base a b c xs w (.returned (.tuple #[.slice none 0 0, .int .i64 4])) w' := fun w' hg => .inr ⟨by unfold readB; rw [h]; rfl, rfl, hg⟩
  replace HR := Lib.hid HR
  unfold gv
  have hg := World.grownBy_alloc w (.cells #[.int .i64 a, .int .i64 b, .int .i64 c] 28) none
  have HX := Lib.hid hx.len
  have h' : ¬ (0 < l ∧ xs.getD 0 0 ≤ 96 ∧ 2 + 2 * xs.getD 0 0 ≤ l) := by
    rw [← HX.out]
    unfold cutB at h
    rwa [decide_eq_false_iff_not] at h
  have Hg := Lib.hid hg
  by_cases h0 : 0 < l
  · obtain ⟨q, o, rfl, c0⟩ := (hx.keep hg (by simp)).cell 0 h0
    rw [Nat.add_zero] at c0
    obtain ⟨n, Hn⟩ : ∃ n, Hid (n = xs.getD 0 0) := ⟨_, Lib.hid rfl⟩
    rw [← Hn.out] at c0 h'
    have e1 : ¬ (l : Int) < 1 := by omega
    have e5 : (0 : Int) < (l : Int) := by omega
    by_cases h1 : n ≤ 96
    · have e2 : ¬ (96 : Int) < (n : Int) := by omega
      have e4 : IntKind.i64.wrap (n : Int) = (n : Int) := IntWalk.i64_in _ ⟨by omega, by omega⟩
      have e3 : (l : Int) < 2 + 2 * (n : Int) := by omega
      clear hx h h' hg
      go_enter Tryz.func102, Tryz.ntmps102
      go_wp2
      go_ret2
      exact HR.out _ Hg.out
    · have e2 : (96 : Int) < (n : Int) := by omega
      clear hx h h' hg
      go_enter Tryz.func102, Tryz.ntmps102
      go_wp2
      go_ret2
      exact HR.out _ Hg.out
  · obtain rfl : l = 0 := by omega
    clear hx h h' hg h0
    go_enter Tryz.func102, Tryz.ntmps102
    go_wp2
    go_ret2
    exact HR.out _ Hg.out

theorem stand_big {a b c x : Int} (h : 65536 ≤ x ∨ x < 0) : standB a b c x = false := by
  have hz : whereV a b c x = (0, 0, 0, 0) := by
    cases hm : mayB a b c with
    | false => exact wh_zero (.inl (by rw [hm]; simp))
    | true =>
      have := mayB_yes hm
      refine wh_zero ?_
      rcases h with h | h
      · exact .inr (.inr (by omega))
      · exact .inr (.inl h)
  unfold standB
  rw [hz]
  simp
theorem read_big {a b c : Int} {xs : List Nat} {j n : Nat} (hn : n = xs.getD 0 0) (hj : j < n) (hs : xs.getD (1 + 2 * j) 0 < 18446744073709551616) (h : 65536 ≤ xs.getD (1 + 2 * j) 0) : readB a b c xs = false := by
  subst hn
  have hm : mayW a b c (writesR xs (xs.getD 0 0)) = false := by
    unfold mayW
    rw [decide_eq_false_iff_not]
    rintro ⟨_, _, hp⟩
    have := (hp j (by rw [writesR_length]; exact hj)).1
    have e : (writesR xs (xs.getD 0 0)).getD j (0, 0) = (si (xs.getD (1 + 2 * j) 0), xs.getD (2 + 2 * j) 0) := by
      unfold writesR
      rw [List.getD_eq_getElem?_getD, List.getElem?_map, List.getElem?_range hj]
      rfl
    rw [e, stand_big] at this
    · cases this
    · show 65536 ≤ si _ ∨ si _ < 0
      unfold si
      split
      · left; omega
      · right; omega
  unfold readB
  rw [hm, Bool.and_false]

set_option maxRecDepth 100000 in
set_option maxHeartbeats 1000000 in
theorem RefRead_at (base : Nat) (a b c : Int) (q o l cc : Nat) (xs : List Nat) (w : World) (hx : Words w (some ⟨q, o, none⟩) l xs) (hlc : l ≤ cc) (h : cutB xs = true) (hb : base ≤ w.heap.size) :
    Calls Tryz.prog 102 #[gv a b c, .slice (some ⟨q, o, none⟩) l cc] w (ReadIs base a b c xs w) := by
  obtain ⟨h0, h1, h2⟩ := cutB_yes h
  have hl := hx.len
  obtain ⟨n, Hn⟩ : ∃ n, Hid (n = xs.getD 0 0) := ⟨_, Lib.hid rfl⟩
  rw [← Hn.out] at h1 h2
  have HX := Lib.hid hx
  obtain ⟨k, Hk⟩ : ∃ k, Hid (k = 1 + 2 * n) := ⟨_, Lib.hid rfl⟩
  have hkl : k < l := by rw [Hk.out]; omega
  have hRB : Hid (readB a b c xs = (decide (xs.getD k 0 = sumN (xs.take k)) && mayW a b c (writesR xs n))) := Lib.hid (by unfold readB; rw [h, ← Hn.out, ← Hk.out]; rfl)
  obtain ⟨S, HS⟩ : ∃ S, Hid (S = xs.getD k 0) := ⟨_, Lib.hid rfl⟩
  rw [← HS.out] at hRB
  obtain ⟨U, HU⟩ : ∃ U, Hid (U = sumN (xs.take k)) := ⟨_, Lib.hid rfl⟩
  rw [← HU.out] at hRB
  have hWk : Words w (some ⟨q, o, none⟩) k (xs.take k) := ⟨by rw [List.length_take, hl]; omega, fun n hn => hx.small n (List.mem_of_mem_take hn), by
    have := hx.at_
    rw [← List.take_append_drop k xs, List.map_append] at this
    exact at_prefix this, by have := hx.fits; omega⟩
  have HWk := Lib.hid hWk
  have hsl := fun wx => slice_to_lit (P := Tryz.prog) 33 44 Tryz.underlying33 Tryz.sizeOf44 q o l cc k (by omega) wx
  have hkk : k ≤ 200 := by rw [Hk.out]; omega
  have HOf : Hid (∀ wx, Words wx (some ⟨q, o, none⟩) k (xs.take k) → Calls Tryz.prog 100 #[.slice (some ⟨q, o, none⟩) k cc] wx fun e w' => e = .returned (.int .u64 (U : Int)) ∧ wx.grownBy w' none) := Lib.hid (fun wx h' => by
    refine (RefOf_any (some ⟨q, o, none⟩) k cc (xs.take k) wx h').mono ?_
    rintro e w' ⟨rfl, rfl⟩
    exact ⟨by rw [HU.out], World.grownBy.refl _ _⟩)
  obtain ⟨G, hG⟩ : ∃ G, Hid (G = w.heap.size) := ⟨_, Lib.hid rfl⟩
  have HO : Own w (w.alloc (.cells #[.int .i64 a, .int .i64 b, .int .i64 c] 28)) ([boxP G 28 #[.int .i64 a, .int .i64 b, .int .i64 c]] ++ [rowP 92 2 (.slice none 0 0) 0 (icells (writesR xs 0))]) := by
    rw [hG.out]
    exact ((Own.nil w).addBox 28 #[.int .i64 a, .int .i64 b, .int .i64 c]).add (P := rowP 92 2 (.slice none 0 0) 0 (icells (writesR xs 0))) (F := fun _ => False) ⟨World.ownsRow_nil _ _ _ _, ⟨fun i hi => (by cases hi), fun i hi => False.elim hi⟩⟩ (fun i hi => False.elim hi) (World.grownBy.refl _ _)
  have hg := World.grownBy_alloc w (.cells #[.int .i64 a, .int .i64 b, .int .i64 c] 28) none
  obtain ⟨q', o', he, c0⟩ := (hx.keep hg (by simp)).cell 0 (by omega)
  cases he
  rw [Nat.add_zero, ← Hn.out] at c0
  have e1 : ¬ (l : Int) < 1 := by omega
  have e5 : (0 : Int) < (l : Int) := by omega
  have e2 : ¬ (96 : Int) < (n : Int) := by omega
  have e4 : IntKind.i64.wrap (n : Int) = (n : Int) := IntWalk.i64_in _ ⟨by omega, by omega⟩
  have e3 : ¬ (l : Int) < 2 + 2 * (n : Int) := by omega
  have ek : (1 : Int) + 2 * (n : Int) = (k : Int) := by rw [Hk.out]; omega
  have ekl : (k : Int) < (l : Int) := by omega
  replace HO := Lib.hid HO
  have HXl := Lib.hid hl
  unfold gv
  clear hx h hWk hl h2 hg
  go_enter Tryz.func102, Tryz.ntmps102
  go_wp2_with fail
  rw [← hG.out]
  go_loopw [7, 8] (fun lv i wr => ∃ j : Nat, j ≤ n ∧ i = .int .i64 (j : Int) ∧ ∃ (ad : Option Addr) (cap : Nat), lv = .slice ad j cap ∧ Hid (Own w wr [boxP G 28 #[.int .i64 a, .int .i64 b, .int .i64 c], rowP 92 2 (.slice ad j cap) j (icells (writesR xs j))])) (fun _ i _ => n - (intOf i).toNat)
  case atStart => exact ⟨0, Nat.zero_le _, rfl, none, 0, rfl, HO⟩
  case round =>
    clear HO c0
    obtain ⟨j, hj, rfl, ad, cap, rfl, HO⟩ := hrel
    have j0 : (0 : Int) ≤ (j : Int) := by omega
    by_cases hlt : j < n
    · have hlt' : (j : Int) < (n : Int) := by omega
      obtain ⟨i, Hi⟩ : ∃ i, Hid (i = 1 + 2 * j) := ⟨_, Lib.hid rfl⟩
      have hik : i + 1 < k := by rw [Hi.out, Hk.out]; omega
      have ei : (1 : Int) + 2 * (j : Int) = (i : Int) := by rw [Hi.out]; omega
      have ei2 : (2 : Int) + 2 * (j : Int) = ((i + 1 : Nat) : Int) := by rw [Hi.out]; omega
      obtain ⟨i2, Hi2⟩ : ∃ i2, Hid (i2 = i + 1) := ⟨_, Lib.hid rfl⟩
      rw [← Hi2.out] at ei2
      have eil : (i : Int) < (l : Int) := by omega
      have ei2l : (i2 : Int) < (l : Int) := by rw [Hi2.out]; omega
      have hWr := HX.out.keep HO.out.grown (by simp)
      obtain ⟨q', o', he, c1⟩ := hWr.cell i (by omega)
      cases he
      obtain ⟨q', o', he, c2⟩ := hWr.cell i2 (by rw [Hi2.out]; omega)
      cases he
      have s1 := hWr.get i (by omega)
      have HT : Hid (writesR xs (j + 1) = writesR xs j ++ [(si (xs.getD i 0), xs.getD i2 0)]) := Lib.hid (by rw [writesR_succ, Hi2.out, Hi.out, show 1 + 2 * j + 1 = 2 + 2 * j from by omega])
      have HBig : Hid (65536 ≤ xs.getD i 0 → readB a b c xs = false) := Lib.hid (fun hbig => by
        rw [Hi.out] at hbig s1
        exact read_big Hn.out hlt s1 hbig)
      obtain ⟨A, HA⟩ : ∃ A, Hid (A = xs.getD i 0) := ⟨_, Lib.hid rfl⟩
      obtain ⟨V, HV⟩ : ∃ V, Hid (V = xs.getD i2 0) := ⟨_, Lib.hid rfl⟩
      rw [← HA.out] at c1 HT HBig
      rw [← HV.out] at c2 HT
      clear s1 hWr
      by_cases hbig : 65536 ≤ A
      · have gb : (65536 : Int) ≤ (A : Int) := by omega
        have HR : ReadIs base a b c xs w (.returned (.tuple #[.slice none 0 0, .int .i64 4])) wr := .inr ⟨HBig.out hbig, rfl, HO.out.grown⟩
        replace HR := Lib.hid HR
        clear HO hbig
        go_wp2
        go_ret2
        exact HR.out
      · have gb : ¬ (65536 : Int) ≤ (A : Int) := by omega
        have wA : IntKind.i64.wrap (A : Int) = (A : Int) := IntWalk.i64_in _ ⟨by omega, by omega⟩
        have hsi : si A = (A : Int) := by unfold si; rw [if_pos (by omega)]
        rw [hsi] at HT
        have hrow := Own.row HO.out 1 rfl
        clear hsi hbig
        go_wp2_with (at_builtin; refine appI rfl _ _ rfl 0 _ j (writesR xs j) rfl (World.ownsRow.alloc hrow _) ⟨wr.heap.size, 0, none⟩ 1 1 [((A : Int), V)] rfl rfl (at_of_row (heap_alloc_new wr _)) ?a2 (Nat.zero_le _) ?_)
        case a2 => omega
        intro ad2 cap2 w2 hrow2 hg2 hnew2
        have hOx := Own.append (Own.quiet HO.out (World.grownBy_alloc wr (.cells #[.int .i64 (A : Int), .int .u64 (V : Int)] 92) none)) 1 rfl hrow2 hg2 (fun g hg => by have := hnew2 g hg; rw [World.size_alloc]; exact this)
        have hOy : Hid (Own w w2 [boxP G 28 #[.int .i64 a, .int .i64 b, .int .i64 c], rowP 92 2 (.slice ad2 (j + 1) cap2) (j + 1) (icells (writesR xs (j + 1)))]) := Lib.hid (by rw [HT.out]; exact hOx)
        clear hOx hrow2 hg2 hnew2 hrow c1 c2
        go_wp2
        go_roundw
        case rel => exact ⟨j + 1, by omega, by go_num, ad2, cap2, rfl, hOy⟩
        case measure => simp [intOf]; omega
    · obtain rfl : j = n := by omega
      have hlt' : ¬ (j : Int) < (j : Int) := by omega
      obtain ⟨q', o', he, hc1⟩ := (HX.out.keep HO.out.grown (by simp)).cell k hkl
      cases he
      rw [← HS.out] at hc1
      have hc1 : CellS q (o + k) (.int .u64 (S : Int)) wr := hc1
      have hGw : GeoR G a b c wr := Own.box HO.out 0 rfl
      obtain ⟨hatW, hLn, _⟩ := Own.pairs HO.out 1 rfl
      have hgr := HO.out.grown
      have hrow := Own.row HO.out 1 rfl
      have hnew := Own.rowNew HO.out 1 rfl
      have HMy := Lib.hid (fun wx (hx : At wx ad (icells (writesR xs j))) => RefMay_any a b c ad j cap (writesR xs j) wx hx hLn)
      unfold gv at HMy
      have wr1 : IntKind.i64.wrap (2 * (j : Int)) = 2 * (j : Int) := IntWalk.i64_in _ ⟨by omega, by omega⟩
      have wr2 : IntKind.i64.wrap (k : Int) = (k : Int) := IntWalk.i64_in _ ⟨by omega, by omega⟩
      have wr3 : (0 : Int) ≤ (k : Int) := by omega
      by_cases hSU : S = U
      · subst hSU
        have e7 : ((S : Int) != (S : Int)) = false := by simp
        cases hmw : mayW a b c (writesR xs j) with
        | true =>
          rw [hmw] at HMy
          have HR : ∀ w', wr.grownBy w' none → ReadIs base a b c xs w (.returned (.tuple #[.slice ad j cap, .int .i64 0])) w' := fun w' hg' => .inl ⟨by rw [hRB.out, hmw]; simp, ad, cap, by rw [← Hn.out], by
            rw [← Hn.out]
            exact row_base (hrow.kept hg' (by
              cases (Value.slice ad j cap).ownBlock with
              | none => exact .inl rfl
              | some t => exact .inr (by simp))) (fun i hi => Nat.le_trans hb (hnew i hi)), grown_trans hgr hg'⟩
          replace HR := Lib.hid HR
          clear hrow hnew HO hLn hmw
          go_wp2_with fail
          refine wp_region_held_drew (S := fun w' => CellS q (o + k) (.int .u64 (S : Int)) w' ∧ GeoR G a b c w') (by kernel_rfl) (⟨hc1.keep (grown_drew (World.grownBy.refl _ none)), hGw.keep (grown_drew (World.grownBy.refl _ none))⟩) (fun hS => ?_)
          refine wpAnyH_take (i := 0) (oi := { dst := some 59, op := Op.move (Operand.tmp 1), type := 33, pos := "ref.go:66", after := #[], guard := none }) (v := ?vja102r12o0) rfl (by kernel_rfl) (by kernel_rfl) (by kernel_rfl) (fun _ _ _ h => h) (Or.inl ⟨by rfl, ?hja102r12o0⟩) hS ?_
          case hja102r12o0 => (intro wx hx; skip; go_simp; (try with_reducible rfl))
          try simp only [Act.put, List.setIfInBounds_toArray, List.set_cons_zero, List.set_cons_succ]
          refine wpAnyH_take (i := 1) (oi := { dst := some 60, op := Op.move (Operand.tmp 6), type := 3, pos := "ref.go:66", after := #[], guard := none }) (v := ?vja102r12o1) rfl (by kernel_rfl) (by kernel_rfl) (by kernel_rfl) (fun _ _ _ h => h) (Or.inl ⟨by rfl, ?hja102r12o1⟩) hS ?_
          case hja102r12o1 => (intro wx hx; skip; go_simp; (try with_reducible rfl))
          try simp only [Act.put, List.setIfInBounds_toArray, List.set_cons_zero, List.set_cons_succ]
          refine wpAnyH_take (i := 2) (oi := { dst := some 61, op := Op.binOp BinOp.mul 3 (Operand.const (Value.int IntKind.i64 2)) (Operand.tmp 60) 3, type := 3, pos := "ref.go:66", after := #[{ on := 1, ground := Ground.data }], guard := none }) (v := ?vja102r12o2) rfl (by kernel_rfl) (by kernel_rfl) (by kernel_rfl) (fun _ _ _ h => h) (Or.inl ⟨by rfl, ?hja102r12o2⟩) hS ?_
          case hja102r12o2 => (intro wx hx; skip; go_simp; (try with_reducible rfl))
          try simp only [Act.put, List.setIfInBounds_toArray, List.set_cons_zero, List.set_cons_succ]
          refine wpAnyH_take (i := 3) (oi := { dst := some 62, op := Op.binOp BinOp.add 3 (Operand.const (Value.int IntKind.i64 1)) (Operand.tmp 61) 3, type := 3, pos := "ref.go:66", after := #[{ on := 2, ground := Ground.data }], guard := none }) (v := ?vja102r12o3) rfl (by kernel_rfl) (by kernel_rfl) (by kernel_rfl) (fun _ _ _ h => h) (Or.inl ⟨by rfl, ?hja102r12o3⟩) hS ?_
          case hja102r12o3 => (intro wx hx; skip; go_simp; (try with_reducible rfl))
          try simp only [Act.put, List.setIfInBounds_toArray, List.set_cons_zero, List.set_cons_succ]
          refine wpAnyH_take (i := 4) (oi := { dst := some 63, op := Op.indexAddr 33 (Operand.tmp 59) (Operand.tmp 62), type := 0, pos := "ref.go:66", after := #[{ on := 0, ground := Ground.data }, { on := 3, ground := Ground.data }], guard := none }) (v := ?vja102r12o4) rfl (by kernel_rfl) (by kernel_rfl) (by kernel_rfl) (fun _ _ _ h => h) (Or.inl ⟨by rfl, ?hja102r12o4⟩) hS ?_
          case hja102r12o4 => (intro wx hx; skip; go_simp; (try with_reducible rfl))
          try simp only [Act.put, List.setIfInBounds_toArray, List.set_cons_zero, List.set_cons_succ]
          refine wpAnyH_take (i := 5) (oi := { dst := some 64, op := Op.load 44 (Operand.tmp 63), type := 44, pos := "ref.go:66", after := #[{ on := 4, ground := Ground.data }], guard := none }) (v := ?vja102r12o5) rfl (by kernel_rfl) (by kernel_rfl) (by kernel_rfl) (fun _ _ _ h => h) (Or.inl ⟨by rfl, ?hja102r12o5⟩) hS ?_
          case hja102r12o5 => (intro wx hx; obtain ⟨hx0, hx1⟩ := hx; obtain ⟨y0, y1, y2⟩ := GeoR.cells hx1; unfold CellS at hx0; go_simp; (try with_reducible rfl))
          try simp only [Act.put, List.setIfInBounds_toArray, List.set_cons_zero, List.set_cons_succ]
          refine wpAnyH_take (i := 6) (oi := { dst := some 65, op := Op.move (Operand.tmp 1), type := 33, pos := "ref.go:66", after := #[], guard := none }) (v := ?vja102r12o6) rfl (by kernel_rfl) (by kernel_rfl) (by kernel_rfl) (fun _ _ _ h => h) (Or.inl ⟨by rfl, ?hja102r12o6⟩) hS ?_
          case hja102r12o6 => (intro wx hx; skip; go_simp; (try with_reducible rfl))
          try simp only [Act.put, List.setIfInBounds_toArray, List.set_cons_zero, List.set_cons_succ]
          refine wpAnyH_take (i := 7) (oi := { dst := some 66, op := Op.move (Operand.tmp 6), type := 3, pos := "ref.go:66", after := #[], guard := none }) (v := ?vja102r12o7) rfl (by kernel_rfl) (by kernel_rfl) (by kernel_rfl) (fun _ _ _ h => h) (Or.inl ⟨by rfl, ?hja102r12o7⟩) hS ?_
          case hja102r12o7 => (intro wx hx; skip; go_simp; (try with_reducible rfl))
          try simp only [Act.put, List.setIfInBounds_toArray, List.set_cons_zero, List.set_cons_succ]
          refine wpAnyH_take (i := 8) (oi := { dst := some 67, op := Op.binOp BinOp.mul 3 (Operand.const (Value.int IntKind.i64 2)) (Operand.tmp 66) 3, type := 3, pos := "ref.go:66", after := #[{ on := 7, ground := Ground.data }], guard := none }) (v := ?vja102r12o8) rfl (by kernel_rfl) (by kernel_rfl) (by kernel_rfl) (fun _ _ _ h => h) (Or.inl ⟨by rfl, ?hja102r12o8⟩) hS ?_
          case hja102r12o8 => (intro wx hx; skip; go_simp; (try with_reducible rfl))
          try simp only [Act.put, List.setIfInBounds_toArray, List.set_cons_zero, List.set_cons_succ]
          refine wpAnyH_take (i := 9) (oi := { dst := some 68, op := Op.binOp BinOp.add 3 (Operand.const (Value.int IntKind.i64 1)) (Operand.tmp 67) 3, type := 3, pos := "ref.go:66", after := #[{ on := 8, ground := Ground.data }], guard := none }) (v := ?vja102r12o9) rfl (by kernel_rfl) (by kernel_rfl) (by kernel_rfl) (fun _ _ _ h => h) (Or.inl ⟨by rfl, ?hja102r12o9⟩) hS ?_
          case hja102r12o9 => (intro wx hx; skip; go_simp; (try with_reducible rfl))
          try simp only [Act.put, List.setIfInBounds_toArray, List.set_cons_zero, List.set_cons_succ]
          refine wpAnyH_take (i := 10) (oi := { dst := some 69, op := Op.slice 33 (Operand.tmp 65) none (some (Operand.tmp 68)) none, type := 33, pos := "ref.go:66", after := #[{ on := 6, ground := Ground.data }, { on := 9, ground := Ground.data }], guard := none }) (v := ?vja102r12o10) rfl (by kernel_rfl) (by kernel_rfl) (by kernel_rfl) (fun _ _ _ h => h) (Or.inl ⟨by rfl, ?hja102r12o10⟩) hS ?_
          case hja102r12o10 => (intro wx hx; obtain ⟨hx0, hx1⟩ := hx; obtain ⟨y0, y1, y2⟩ := GeoR.cells hx1; unfold CellS at hx0; go_simp; (try with_reducible rfl))
          try simp only [Act.put, List.setIfInBounds_toArray, List.set_cons_zero, List.set_cons_succ]
          refine wpAnyH_ready (rs := [11]) (by kernel_rfl) (by simp) ?_
          refine AllReadyH.cons (o := { dst := some 70, op := Op.call { callee := Callee.value (Operand.func 100), args := #[Operand.tmp 69], argTypes := #[33] }, type := 44, pos := "ref.go:66", after := #[{ on := 10, ground := Ground.data }], guard := none }) rfl (fun K hK => ?_) AllReadyH.nil
          go_simp
          refine (HOf.out _ (HWk.out.keep (grown_trans hgr (grown_drew (World.grownBy.refl _ none))) (by simp))).mono ?_
          rintro e wA ⟨rfl, hgA⟩
          have hgA2 := grown_trans (grown_drew (World.grownBy.refl _ none)) hgA
          have hS1 := And.intro (hS.1.keep hgA) (hS.2.keep hgA)
          refine hK.out _ _ ?hsja102r12o11 (fun hS => ?_)
          case hsja102r12o11 => (exact hS1)
          clear hK K
          try simp only [Act.put, List.setIfInBounds_toArray, List.set_cons_zero, List.set_cons_succ]
          refine wpAnyH_take (i := 12) (oi := { dst := some 71, op := Op.binOp BinOp.neq 44 (Operand.tmp 64) (Operand.tmp 70) 44, type := 4, pos := "ref.go:66", after := #[{ on := 5, ground := Ground.data }, { on := 11, ground := Ground.data }], guard := none }) (v := ?vja102r12o12) rfl (by kernel_rfl) (by kernel_rfl) (by kernel_rfl) (fun _ _ _ h => h) (Or.inl ⟨by rfl, ?hja102r12o12⟩) hS ?_
          case hja102r12o12 => (intro wx hx; skip; go_simp; (try with_reducible rfl))
          try simp only [Act.put, List.setIfInBounds_toArray, List.set_cons_zero, List.set_cons_succ]
          refine wpAnyH_take (i := 13) (oi := { dst := some 72, op := Op.move (Operand.tmp 71), type := 4, pos := "ref.go:66", after := #[{ on := 12, ground := Ground.data }, { on := 11, ground := Ground.chain }], guard := none }) (v := ?vja102r12o13) rfl (by kernel_rfl) (by kernel_rfl) (by kernel_rfl) (fun _ _ _ h => h) (Or.inl ⟨by rfl, ?hja102r12o13⟩) hS ?_
          case hja102r12o13 => (intro wx hx; skip; go_simp; (try with_reducible rfl))
          try simp only [Act.put, List.setIfInBounds_toArray, List.set_cons_zero, List.set_cons_succ]
          refine wpAnyH_take (i := 14) (oi := { dst := some 73, op := Op.load 28 (Operand.tmp 2), type := 28, pos := "ref.go:66", after := #[{ on := 13, ground := Ground.guard }], guard := some (13, false) }) (v := ?vja102r12o14) rfl (by kernel_rfl) (by kernel_rfl) (by kernel_rfl) (fun _ _ _ h => h) (Or.inl ⟨by rfl, ?hja102r12o14⟩) hS ?_
          case hja102r12o14 => (intro wx hx; obtain ⟨hx0, hx1⟩ := hx; obtain ⟨y0, y1, y2⟩ := GeoR.cells hx1; unfold CellS at hx0; go_simp; (try with_reducible rfl))
          try simp only [Act.put, List.setIfInBounds_toArray, List.set_cons_zero, List.set_cons_succ]
          refine wpAnyH_take (i := 15) (oi := { dst := some 74, op := Op.move (Operand.tmp 7), type := 43, pos := "ref.go:66", after := #[{ on := 13, ground := Ground.guard }], guard := some (13, false) }) (v := ?vja102r12o15) rfl (by kernel_rfl) (by kernel_rfl) (by kernel_rfl) (fun _ _ _ h => h) (Or.inl ⟨by rfl, ?hja102r12o15⟩) hS ?_
          case hja102r12o15 => (intro wx hx; skip; go_simp; (try with_reducible rfl))
          try simp only [Act.put, List.setIfInBounds_toArray, List.set_cons_zero, List.set_cons_succ]
          refine wpAnyH_ready (rs := [16]) (by kernel_rfl) (by simp) ?_
          refine AllReadyH.cons (o := { dst := some 75, op := Op.call { callee := Callee.value (Operand.func 60), args := #[Operand.tmp 73, Operand.tmp 74], argTypes := #[28, 43] }, type := 4, pos := "ref.go:66", after := #[{ on := 14, ground := Ground.data }, { on := 15, ground := Ground.data }, { on := 13, ground := Ground.chain }, { on := 13, ground := Ground.guard }], guard := some (13, false) }) rfl (fun K hK => ?_) AllReadyH.nil
          go_simp
          refine (HMy.out _ (hatW.grown hgA2 (by simp))).mono ?_
          rintro e wB ⟨rfl, hgB⟩
          have hgB2 := grown_trans hgA2 hgB
          have hS1 := And.intro (hS.1.keep hgB) (hS.2.keep hgB)
          refine hK.out _ _ ?hsja102r12o16 (fun hS => ?_)
          case hsja102r12o16 => (exact hS1)
          clear hK K
          try simp only [Act.put, List.setIfInBounds_toArray, List.set_cons_zero, List.set_cons_succ]
          refine wpAnyH_take (i := 17) (oi := { dst := some 76, op := Op.unOp UnOp.not 4 (Operand.tmp 75), type := 4, pos := "ref.go:66", after := #[{ on := 16, ground := Ground.data }, { on := 13, ground := Ground.guard }], guard := some (13, false) }) (v := ?vja102r12o17) rfl (by kernel_rfl) (by kernel_rfl) (by kernel_rfl) (fun _ _ _ h => h) (Or.inl ⟨by rfl, ?hja102r12o17⟩) hS ?_
          case hja102r12o17 => (intro wx hx; skip; go_simp; (try with_reducible rfl))
          try simp only [Act.put, List.setIfInBounds_toArray, List.set_cons_zero, List.set_cons_succ]
          refine wpAnyH_take (i := 18) (oi := { dst := some 77, op := Op.pick (Operand.tmp 72) (Operand.const (Value.bool true)) (Operand.tmp 76), type := 4, pos := "ref.go:66", after := #[{ on := 13, ground := Ground.data }, { on := 17, ground := Ground.data }], guard := none }) (v := ?vja102r12o18) rfl (by kernel_rfl) (by kernel_rfl) (by kernel_rfl) (fun _ _ _ h => h) (Or.inl ⟨by rfl, ?hja102r12o18⟩) hS ?_
          case hja102r12o18 => (intro wx hx; skip; go_simp; (try with_reducible rfl))
          try simp only [Act.put, List.setIfInBounds_toArray, List.set_cons_zero, List.set_cons_succ]
          refine wpAnyH_done (by kernel_rfl) ?_ _
          clear hS hc1 hGw hatW
          go_wp2
          go_ret2
          exact HR.out _ hgB2
        | false =>
          rw [hmw] at HMy
          have HR : ∀ w', wr.grownBy w' none → ReadIs base a b c xs w (.returned (.tuple #[.slice none 0 0, .int .i64 4])) w' := fun w' hg' => .inr ⟨by rw [hRB.out, hmw, Bool.and_false], rfl, grown_trans hgr hg'⟩
          replace HR := Lib.hid HR
          clear hrow hnew HO hLn hmw
          go_wp2_with fail
          refine wp_region_held_drew (S := fun w' => CellS q (o + k) (.int .u64 (S : Int)) w' ∧ GeoR G a b c w') (by kernel_rfl) (⟨hc1.keep (grown_drew (World.grownBy.refl _ none)), hGw.keep (grown_drew (World.grownBy.refl _ none))⟩) (fun hS => ?_)
          refine wpAnyH_take (i := 0) (oi := { dst := some 59, op := Op.move (Operand.tmp 1), type := 33, pos := "ref.go:66", after := #[], guard := none }) (v := ?vjb102r12o0) rfl (by kernel_rfl) (by kernel_rfl) (by kernel_rfl) (fun _ _ _ h => h) (Or.inl ⟨by rfl, ?hjb102r12o0⟩) hS ?_
          case hjb102r12o0 => (intro wx hx; skip; go_simp; (try with_reducible rfl))
          try simp only [Act.put, List.setIfInBounds_toArray, List.set_cons_zero, List.set_cons_succ]
          refine wpAnyH_take (i := 1) (oi := { dst := some 60, op := Op.move (Operand.tmp 6), type := 3, pos := "ref.go:66", after := #[], guard := none }) (v := ?vjb102r12o1) rfl (by kernel_rfl) (by kernel_rfl) (by kernel_rfl) (fun _ _ _ h => h) (Or.inl ⟨by rfl, ?hjb102r12o1⟩) hS ?_
          case hjb102r12o1 => (intro wx hx; skip; go_simp; (try with_reducible rfl))
          try simp only [Act.put, List.setIfInBounds_toArray, List.set_cons_zero, List.set_cons_succ]
          refine wpAnyH_take (i := 2) (oi := { dst := some 61, op := Op.binOp BinOp.mul 3 (Operand.const (Value.int IntKind.i64 2)) (Operand.tmp 60) 3, type := 3, pos := "ref.go:66", after := #[{ on := 1, ground := Ground.data }], guard := none }) (v := ?vjb102r12o2) rfl (by kernel_rfl) (by kernel_rfl) (by kernel_rfl) (fun _ _ _ h => h) (Or.inl ⟨by rfl, ?hjb102r12o2⟩) hS ?_
          case hjb102r12o2 => (intro wx hx; skip; go_simp; (try with_reducible rfl))
          try simp only [Act.put, List.setIfInBounds_toArray, List.set_cons_zero, List.set_cons_succ]
          refine wpAnyH_take (i := 3) (oi := { dst := some 62, op := Op.binOp BinOp.add 3 (Operand.const (Value.int IntKind.i64 1)) (Operand.tmp 61) 3, type := 3, pos := "ref.go:66", after := #[{ on := 2, ground := Ground.data }], guard := none }) (v := ?vjb102r12o3) rfl (by kernel_rfl) (by kernel_rfl) (by kernel_rfl) (fun _ _ _ h => h) (Or.inl ⟨by rfl, ?hjb102r12o3⟩) hS ?_
          case hjb102r12o3 => (intro wx hx; skip; go_simp; (try with_reducible rfl))
          try simp only [Act.put, List.setIfInBounds_toArray, List.set_cons_zero, List.set_cons_succ]
          refine wpAnyH_take (i := 4) (oi := { dst := some 63, op := Op.indexAddr 33 (Operand.tmp 59) (Operand.tmp 62), type := 0, pos := "ref.go:66", after := #[{ on := 0, ground := Ground.data }, { on := 3, ground := Ground.data }], guard := none }) (v := ?vjb102r12o4) rfl (by kernel_rfl) (by kernel_rfl) (by kernel_rfl) (fun _ _ _ h => h) (Or.inl ⟨by rfl, ?hjb102r12o4⟩) hS ?_
          case hjb102r12o4 => (intro wx hx; skip; go_simp; (try with_reducible rfl))
          try simp only [Act.put, List.setIfInBounds_toArray, List.set_cons_zero, List.set_cons_succ]
          refine wpAnyH_take (i := 5) (oi := { dst := some 64, op := Op.load 44 (Operand.tmp 63), type := 44, pos := "ref.go:66", after := #[{ on := 4, ground := Ground.data }], guard := none }) (v := ?vjb102r12o5) rfl (by kernel_rfl) (by kernel_rfl) (by kernel_rfl) (fun _ _ _ h => h) (Or.inl ⟨by rfl, ?hjb102r12o5⟩) hS ?_
          case hjb102r12o5 => (intro wx hx; obtain ⟨hx0, hx1⟩ := hx; obtain ⟨y0, y1, y2⟩ := GeoR.cells hx1; unfold CellS at hx0; go_simp; (try with_reducible rfl))
          try simp only [Act.put, List.setIfInBounds_toArray, List.set_cons_zero, List.set_cons_succ]
          refine wpAnyH_take (i := 6) (oi := { dst := some 65, op := Op.move (Operand.tmp 1), type := 33, pos := "ref.go:66", after := #[], guard := none }) (v := ?vjb102r12o6) rfl (by kernel_rfl) (by kernel_rfl) (by kernel_rfl) (fun _ _ _ h => h) (Or.inl ⟨by rfl, ?hjb102r12o6⟩) hS ?_
          case hjb102r12o6 => (intro wx hx; skip; go_simp; (try with_reducible rfl))
          try simp only [Act.put, List.setIfInBounds_toArray, List.set_cons_zero, List.set_cons_succ]
          refine wpAnyH_take (i := 7) (oi := { dst := some 66, op := Op.move (Operand.tmp 6), type := 3, pos := "ref.go:66", after := #[], guard := none }) (v := ?vjb102r12o7) rfl (by kernel_rfl) (by kernel_rfl) (by kernel_rfl) (fun _ _ _ h => h) (Or.inl ⟨by rfl, ?hjb102r12o7⟩) hS ?_
          case hjb102r12o7 => (intro wx hx; skip; go_simp; (try with_reducible rfl))
          try simp only [Act.put, List.setIfInBounds_toArray, List.set_cons_zero, List.set_cons_succ]
          refine wpAnyH_take (i := 8) (oi := { dst := some 67, op := Op.binOp BinOp.mul 3 (Operand.const (Value.int IntKind.i64 2)) (Operand.tmp 66) 3, type := 3, pos := "ref.go:66", after := #[{ on := 7, ground := Ground.data }], guard := none }) (v := ?vjb102r12o8) rfl (by kernel_rfl) (by kernel_rfl) (by kernel_rfl) (fun _ _ _ h => h) (Or.inl ⟨by rfl, ?hjb102r12o8⟩) hS ?_
          case hjb102r12o8 => (intro wx hx; skip; go_simp; (try with_reducible rfl))
          try simp only [Act.put, List.setIfInBounds_toArray, List.set_cons_zero, List.set_cons_succ]
          refine wpAnyH_take (i := 9) (oi := { dst := some 68, op := Op.binOp BinOp.add 3 (Operand.const (Value.int IntKind.i64 1)) (Operand.tmp 67) 3, type := 3, pos := "ref.go:66", after := #[{ on := 8, ground := Ground.data }], guard := none }) (v := ?vjb102r12o9) rfl (by kernel_rfl) (by kernel_rfl) (by kernel_rfl) (fun _ _ _ h => h) (Or.inl ⟨by rfl, ?hjb102r12o9⟩) hS ?_
          case hjb102r12o9 => (intro wx hx; skip; go_simp; (try with_reducible rfl))
          try simp only [Act.put, List.setIfInBounds_toArray, List.set_cons_zero, List.set_cons_succ]
          refine wpAnyH_take (i := 10) (oi := { dst := some 69, op := Op.slice 33 (Operand.tmp 65) none (some (Operand.tmp 68)) none, type := 33, pos := "ref.go:66", after := #[{ on := 6, ground := Ground.data }, { on := 9, ground := Ground.data }], guard := none }) (v := ?vjb102r12o10) rfl (by kernel_rfl) (by kernel_rfl) (by kernel_rfl) (fun _ _ _ h => h) (Or.inl ⟨by rfl, ?hjb102r12o10⟩) hS ?_
          case hjb102r12o10 => (intro wx hx; obtain ⟨hx0, hx1⟩ := hx; obtain ⟨y0, y1, y2⟩ := GeoR.cells hx1; unfold CellS at hx0; go_simp; (try with_reducible rfl))
          try simp only [Act.put, List.setIfInBounds_toArray, List.set_cons_zero, List.set_cons_succ]
          refine wpAnyH_ready (rs := [11]) (by kernel_rfl) (by simp) ?_
          refine AllReadyH.cons (o := { dst := some 70, op := Op.call { callee := Callee.value (Operand.func 100), args := #[Operand.tmp 69], argTypes := #[33] }, type := 44, pos := "ref.go:66", after := #[{ on := 10, ground := Ground.data }], guard := none }) rfl (fun K hK => ?_) AllReadyH.nil
          go_simp
          refine (HOf.out _ (HWk.out.keep (grown_trans hgr (grown_drew (World.grownBy.refl _ none))) (by simp))).mono ?_
          rintro e wA ⟨rfl, hgA⟩
          have hgA2 := grown_trans (grown_drew (World.grownBy.refl _ none)) hgA
          have hS1 := And.intro (hS.1.keep hgA) (hS.2.keep hgA)
          refine hK.out _ _ ?hsjb102r12o11 (fun hS => ?_)
          case hsjb102r12o11 => (exact hS1)
          clear hK K
          try simp only [Act.put, List.setIfInBounds_toArray, List.set_cons_zero, List.set_cons_succ]
          refine wpAnyH_take (i := 12) (oi := { dst := some 71, op := Op.binOp BinOp.neq 44 (Operand.tmp 64) (Operand.tmp 70) 44, type := 4, pos := "ref.go:66", after := #[{ on := 5, ground := Ground.data }, { on := 11, ground := Ground.data }], guard := none }) (v := ?vjb102r12o12) rfl (by kernel_rfl) (by kernel_rfl) (by kernel_rfl) (fun _ _ _ h => h) (Or.inl ⟨by rfl, ?hjb102r12o12⟩) hS ?_
          case hjb102r12o12 => (intro wx hx; skip; go_simp; (try with_reducible rfl))
          try simp only [Act.put, List.setIfInBounds_toArray, List.set_cons_zero, List.set_cons_succ]
          refine wpAnyH_take (i := 13) (oi := { dst := some 72, op := Op.move (Operand.tmp 71), type := 4, pos := "ref.go:66", after := #[{ on := 12, ground := Ground.data }, { on := 11, ground := Ground.chain }], guard := none }) (v := ?vjb102r12o13) rfl (by kernel_rfl) (by kernel_rfl) (by kernel_rfl) (fun _ _ _ h => h) (Or.inl ⟨by rfl, ?hjb102r12o13⟩) hS ?_
          case hjb102r12o13 => (intro wx hx; skip; go_simp; (try with_reducible rfl))
          try simp only [Act.put, List.setIfInBounds_toArray, List.set_cons_zero, List.set_cons_succ]
          refine wpAnyH_take (i := 14) (oi := { dst := some 73, op := Op.load 28 (Operand.tmp 2), type := 28, pos := "ref.go:66", after := #[{ on := 13, ground := Ground.guard }], guard := some (13, false) }) (v := ?vjb102r12o14) rfl (by kernel_rfl) (by kernel_rfl) (by kernel_rfl) (fun _ _ _ h => h) (Or.inl ⟨by rfl, ?hjb102r12o14⟩) hS ?_
          case hjb102r12o14 => (intro wx hx; obtain ⟨hx0, hx1⟩ := hx; obtain ⟨y0, y1, y2⟩ := GeoR.cells hx1; unfold CellS at hx0; go_simp; (try with_reducible rfl))
          try simp only [Act.put, List.setIfInBounds_toArray, List.set_cons_zero, List.set_cons_succ]
          refine wpAnyH_take (i := 15) (oi := { dst := some 74, op := Op.move (Operand.tmp 7), type := 43, pos := "ref.go:66", after := #[{ on := 13, ground := Ground.guard }], guard := some (13, false) }) (v := ?vjb102r12o15) rfl (by kernel_rfl) (by kernel_rfl) (by kernel_rfl) (fun _ _ _ h => h) (Or.inl ⟨by rfl, ?hjb102r12o15⟩) hS ?_
          case hjb102r12o15 => (intro wx hx; skip; go_simp; (try with_reducible rfl))
          try simp only [Act.put, List.setIfInBounds_toArray, List.set_cons_zero, List.set_cons_succ]
          refine wpAnyH_ready (rs := [16]) (by kernel_rfl) (by simp) ?_
          refine AllReadyH.cons (o := { dst := some 75, op := Op.call { callee := Callee.value (Operand.func 60), args := #[Operand.tmp 73, Operand.tmp 74], argTypes := #[28, 43] }, type := 4, pos := "ref.go:66", after := #[{ on := 14, ground := Ground.data }, { on := 15, ground := Ground.data }, { on := 13, ground := Ground.chain }, { on := 13, ground := Ground.guard }], guard := some (13, false) }) rfl (fun K hK => ?_) AllReadyH.nil
          go_simp
          refine (HMy.out _ (hatW.grown hgA2 (by simp))).mono ?_
          rintro e wB ⟨rfl, hgB⟩
          have hgB2 := grown_trans hgA2 hgB
          have hS1 := And.intro (hS.1.keep hgB) (hS.2.keep hgB)
          refine hK.out _ _ ?hsjb102r12o16 (fun hS => ?_)
          case hsjb102r12o16 => (exact hS1)
          clear hK K
          try simp only [Act.put, List.setIfInBounds_toArray, List.set_cons_zero, List.set_cons_succ]
          refine wpAnyH_take (i := 17) (oi := { dst := some 76, op := Op.unOp UnOp.not 4 (Operand.tmp 75), type := 4, pos := "ref.go:66", after := #[{ on := 16, ground := Ground.data }, { on := 13, ground := Ground.guard }], guard := some (13, false) }) (v := ?vjb102r12o17) rfl (by kernel_rfl) (by kernel_rfl) (by kernel_rfl) (fun _ _ _ h => h) (Or.inl ⟨by rfl, ?hjb102r12o17⟩) hS ?_
          case hjb102r12o17 => (intro wx hx; skip; go_simp; (try with_reducible rfl))
          try simp only [Act.put, List.setIfInBounds_toArray, List.set_cons_zero, List.set_cons_succ]
          refine wpAnyH_take (i := 18) (oi := { dst := some 77, op := Op.pick (Operand.tmp 72) (Operand.const (Value.bool true)) (Operand.tmp 76), type := 4, pos := "ref.go:66", after := #[{ on := 13, ground := Ground.data }, { on := 17, ground := Ground.data }], guard := none }) (v := ?vjb102r12o18) rfl (by kernel_rfl) (by kernel_rfl) (by kernel_rfl) (fun _ _ _ h => h) (Or.inl ⟨by rfl, ?hjb102r12o18⟩) hS ?_
          case hjb102r12o18 => (intro wx hx; skip; go_simp; (try with_reducible rfl))
          try simp only [Act.put, List.setIfInBounds_toArray, List.set_cons_zero, List.set_cons_succ]
          refine wpAnyH_done (by kernel_rfl) ?_ _
          clear hS hc1 hGw hatW
          go_wp2
          go_ret2
          exact HR.out _ hgB2
      · have e7 : ((S : Int) != (U : Int)) = true := by simp; omega
        have HR : ∀ w', wr.grownBy w' none → ReadIs base a b c xs w (.returned (.tuple #[.slice none 0 0, .int .i64 4])) w' := fun w' hg' => .inr ⟨by rw [hRB.out, decide_eq_false hSU]; rfl, rfl, grown_trans hgr hg'⟩
        replace HR := Lib.hid HR
        clear hrow hnew HO hLn hSU HMy
        go_wp2_with fail
        refine wp_region_held_drew (S := fun w' => CellS q (o + k) (.int .u64 (S : Int)) w' ∧ GeoR G a b c w') (by kernel_rfl) (⟨hc1.keep (grown_drew (World.grownBy.refl _ none)), hGw.keep (grown_drew (World.grownBy.refl _ none))⟩) (fun hS => ?_)
        refine wpAnyH_take (i := 0) (oi := { dst := some 59, op := Op.move (Operand.tmp 1), type := 33, pos := "ref.go:66", after := #[], guard := none }) (v := ?vjc102r12o0) rfl (by kernel_rfl) (by kernel_rfl) (by kernel_rfl) (fun _ _ _ h => h) (Or.inl ⟨by rfl, ?hjc102r12o0⟩) hS ?_
        case hjc102r12o0 => (intro wx hx; skip; go_simp; (try with_reducible rfl))
        try simp only [Act.put, List.setIfInBounds_toArray, List.set_cons_zero, List.set_cons_succ]
        refine wpAnyH_take (i := 1) (oi := { dst := some 60, op := Op.move (Operand.tmp 6), type := 3, pos := "ref.go:66", after := #[], guard := none }) (v := ?vjc102r12o1) rfl (by kernel_rfl) (by kernel_rfl) (by kernel_rfl) (fun _ _ _ h => h) (Or.inl ⟨by rfl, ?hjc102r12o1⟩) hS ?_
        case hjc102r12o1 => (intro wx hx; skip; go_simp; (try with_reducible rfl))
        try simp only [Act.put, List.setIfInBounds_toArray, List.set_cons_zero, List.set_cons_succ]
        refine wpAnyH_take (i := 2) (oi := { dst := some 61, op := Op.binOp BinOp.mul 3 (Operand.const (Value.int IntKind.i64 2)) (Operand.tmp 60) 3, type := 3, pos := "ref.go:66", after := #[{ on := 1, ground := Ground.data }], guard := none }) (v := ?vjc102r12o2) rfl (by kernel_rfl) (by kernel_rfl) (by kernel_rfl) (fun _ _ _ h => h) (Or.inl ⟨by rfl, ?hjc102r12o2⟩) hS ?_
        case hjc102r12o2 => (intro wx hx; skip; go_simp; (try with_reducible rfl))
        try simp only [Act.put, List.setIfInBounds_toArray, List.set_cons_zero, List.set_cons_succ]
        refine wpAnyH_take (i := 3) (oi := { dst := some 62, op := Op.binOp BinOp.add 3 (Operand.const (Value.int IntKind.i64 1)) (Operand.tmp 61) 3, type := 3, pos := "ref.go:66", after := #[{ on := 2, ground := Ground.data }], guard := none }) (v := ?vjc102r12o3) rfl (by kernel_rfl) (by kernel_rfl) (by kernel_rfl) (fun _ _ _ h => h) (Or.inl ⟨by rfl, ?hjc102r12o3⟩) hS ?_
        case hjc102r12o3 => (intro wx hx; skip; go_simp; (try with_reducible rfl))
        try simp only [Act.put, List.setIfInBounds_toArray, List.set_cons_zero, List.set_cons_succ]
        refine wpAnyH_take (i := 4) (oi := { dst := some 63, op := Op.indexAddr 33 (Operand.tmp 59) (Operand.tmp 62), type := 0, pos := "ref.go:66", after := #[{ on := 0, ground := Ground.data }, { on := 3, ground := Ground.data }], guard := none }) (v := ?vjc102r12o4) rfl (by kernel_rfl) (by kernel_rfl) (by kernel_rfl) (fun _ _ _ h => h) (Or.inl ⟨by rfl, ?hjc102r12o4⟩) hS ?_
        case hjc102r12o4 => (intro wx hx; skip; go_simp; (try with_reducible rfl))
        try simp only [Act.put, List.setIfInBounds_toArray, List.set_cons_zero, List.set_cons_succ]
        refine wpAnyH_take (i := 5) (oi := { dst := some 64, op := Op.load 44 (Operand.tmp 63), type := 44, pos := "ref.go:66", after := #[{ on := 4, ground := Ground.data }], guard := none }) (v := ?vjc102r12o5) rfl (by kernel_rfl) (by kernel_rfl) (by kernel_rfl) (fun _ _ _ h => h) (Or.inl ⟨by rfl, ?hjc102r12o5⟩) hS ?_
        case hjc102r12o5 => (intro wx hx; obtain ⟨hx0, hx1⟩ := hx; obtain ⟨y0, y1, y2⟩ := GeoR.cells hx1; unfold CellS at hx0; go_simp; (try with_reducible rfl))
        try simp only [Act.put, List.setIfInBounds_toArray, List.set_cons_zero, List.set_cons_succ]
        refine wpAnyH_take (i := 6) (oi := { dst := some 65, op := Op.move (Operand.tmp 1), type := 33, pos := "ref.go:66", after := #[], guard := none }) (v := ?vjc102r12o6) rfl (by kernel_rfl) (by kernel_rfl) (by kernel_rfl) (fun _ _ _ h => h) (Or.inl ⟨by rfl, ?hjc102r12o6⟩) hS ?_
        case hjc102r12o6 => (intro wx hx; skip; go_simp; (try with_reducible rfl))
        try simp only [Act.put, List.setIfInBounds_toArray, List.set_cons_zero, List.set_cons_succ]
        refine wpAnyH_take (i := 7) (oi := { dst := some 66, op := Op.move (Operand.tmp 6), type := 3, pos := "ref.go:66", after := #[], guard := none }) (v := ?vjc102r12o7) rfl (by kernel_rfl) (by kernel_rfl) (by kernel_rfl) (fun _ _ _ h => h) (Or.inl ⟨by rfl, ?hjc102r12o7⟩) hS ?_
        case hjc102r12o7 => (intro wx hx; skip; go_simp; (try with_reducible rfl))
        try simp only [Act.put, List.setIfInBounds_toArray, List.set_cons_zero, List.set_cons_succ]
        refine wpAnyH_take (i := 8) (oi := { dst := some 67, op := Op.binOp BinOp.mul 3 (Operand.const (Value.int IntKind.i64 2)) (Operand.tmp 66) 3, type := 3, pos := "ref.go:66", after := #[{ on := 7, ground := Ground.data }], guard := none }) (v := ?vjc102r12o8) rfl (by kernel_rfl) (by kernel_rfl) (by kernel_rfl) (fun _ _ _ h => h) (Or.inl ⟨by rfl, ?hjc102r12o8⟩) hS ?_
        case hjc102r12o8 => (intro wx hx; skip; go_simp; (try with_reducible rfl))
        try simp only [Act.put, List.setIfInBounds_toArray, List.set_cons_zero, List.set_cons_succ]
        refine wpAnyH_take (i := 9) (oi := { dst := some 68, op := Op.binOp BinOp.add 3 (Operand.const (Value.int IntKind.i64 1)) (Operand.tmp 67) 3, type := 3, pos := "ref.go:66", after := #[{ on := 8, ground := Ground.data }], guard := none }) (v := ?vjc102r12o9) rfl (by kernel_rfl) (by kernel_rfl) (by kernel_rfl) (fun _ _ _ h => h) (Or.inl ⟨by rfl, ?hjc102r12o9⟩) hS ?_
        case hjc102r12o9 => (intro wx hx; skip; go_simp; (try with_reducible rfl))
        try simp only [Act.put, List.setIfInBounds_toArray, List.set_cons_zero, List.set_cons_succ]
        refine wpAnyH_take (i := 10) (oi := { dst := some 69, op := Op.slice 33 (Operand.tmp 65) none (some (Operand.tmp 68)) none, type := 33, pos := "ref.go:66", after := #[{ on := 6, ground := Ground.data }, { on := 9, ground := Ground.data }], guard := none }) (v := ?vjc102r12o10) rfl (by kernel_rfl) (by kernel_rfl) (by kernel_rfl) (fun _ _ _ h => h) (Or.inl ⟨by rfl, ?hjc102r12o10⟩) hS ?_
        case hjc102r12o10 => (intro wx hx; obtain ⟨hx0, hx1⟩ := hx; obtain ⟨y0, y1, y2⟩ := GeoR.cells hx1; unfold CellS at hx0; go_simp; (try with_reducible rfl))
        try simp only [Act.put, List.setIfInBounds_toArray, List.set_cons_zero, List.set_cons_succ]
        refine wpAnyH_ready (rs := [11]) (by kernel_rfl) (by simp) ?_
        refine AllReadyH.cons (o := { dst := some 70, op := Op.call { callee := Callee.value (Operand.func 100), args := #[Operand.tmp 69], argTypes := #[33] }, type := 44, pos := "ref.go:66", after := #[{ on := 10, ground := Ground.data }], guard := none }) rfl (fun K hK => ?_) AllReadyH.nil
        go_simp
        refine (HOf.out _ (HWk.out.keep (grown_trans hgr (grown_drew (World.grownBy.refl _ none))) (by simp))).mono ?_
        rintro e wA ⟨rfl, hgA⟩
        have hgA2 := grown_trans (grown_drew (World.grownBy.refl _ none)) hgA
        have hS1 := And.intro (hS.1.keep hgA) (hS.2.keep hgA)
        refine hK.out _ _ ?hsjc102r12o11 (fun hS => ?_)
        case hsjc102r12o11 => (exact hS1)
        clear hK K
        try simp only [Act.put, List.setIfInBounds_toArray, List.set_cons_zero, List.set_cons_succ]
        refine wpAnyH_take (i := 12) (oi := { dst := some 71, op := Op.binOp BinOp.neq 44 (Operand.tmp 64) (Operand.tmp 70) 44, type := 4, pos := "ref.go:66", after := #[{ on := 5, ground := Ground.data }, { on := 11, ground := Ground.data }], guard := none }) (v := ?vjc102r12o12) rfl (by kernel_rfl) (by kernel_rfl) (by kernel_rfl) (fun _ _ _ h => h) (Or.inl ⟨by rfl, ?hjc102r12o12⟩) hS ?_
        case hjc102r12o12 => (intro wx hx; skip; go_simp; (try with_reducible rfl))
        try simp only [Act.put, List.setIfInBounds_toArray, List.set_cons_zero, List.set_cons_succ]
        refine wpAnyH_take (i := 13) (oi := { dst := some 72, op := Op.move (Operand.tmp 71), type := 4, pos := "ref.go:66", after := #[{ on := 12, ground := Ground.data }, { on := 11, ground := Ground.chain }], guard := none }) (v := ?vjc102r12o13) rfl (by kernel_rfl) (by kernel_rfl) (by kernel_rfl) (fun _ _ _ h => h) (Or.inl ⟨by rfl, ?hjc102r12o13⟩) hS ?_
        case hjc102r12o13 => (intro wx hx; skip; go_simp; (try with_reducible rfl))
        try simp only [Act.put, List.setIfInBounds_toArray, List.set_cons_zero, List.set_cons_succ]
        refine wpAnyH_take (i := 14) (oi := { dst := some 73, op := Op.load 28 (Operand.tmp 2), type := 28, pos := "ref.go:66", after := #[{ on := 13, ground := Ground.guard }], guard := some (13, false) }) (v := undef) rfl (by kernel_rfl) (by kernel_rfl) (by kernel_rfl) (fun _ _ _ h => h) (Or.inr ⟨by rfl, rfl⟩) hS ?_
        try simp only [Act.put, List.setIfInBounds_toArray, List.set_cons_zero, List.set_cons_succ]
        refine wpAnyH_take (i := 15) (oi := { dst := some 74, op := Op.move (Operand.tmp 7), type := 43, pos := "ref.go:66", after := #[{ on := 13, ground := Ground.guard }], guard := some (13, false) }) (v := undef) rfl (by kernel_rfl) (by kernel_rfl) (by kernel_rfl) (fun _ _ _ h => h) (Or.inr ⟨by rfl, rfl⟩) hS ?_
        try simp only [Act.put, List.setIfInBounds_toArray, List.set_cons_zero, List.set_cons_succ]
        refine wpAnyH_take (i := 16) (oi := { dst := some 75, op := Op.call { callee := Callee.value (Operand.func 60), args := #[Operand.tmp 73, Operand.tmp 74], argTypes := #[28, 43] }, type := 4, pos := "ref.go:66", after := #[{ on := 14, ground := Ground.data }, { on := 15, ground := Ground.data }, { on := 13, ground := Ground.chain }, { on := 13, ground := Ground.guard }], guard := some (13, false) }) (v := undef) rfl (by kernel_rfl) (by kernel_rfl) (by kernel_rfl) (fun _ _ _ h => h) (Or.inr ⟨by rfl, rfl⟩) hS ?_
        try simp only [Act.put, List.setIfInBounds_toArray, List.set_cons_zero, List.set_cons_succ]
        refine wpAnyH_take (i := 17) (oi := { dst := some 76, op := Op.unOp UnOp.not 4 (Operand.tmp 75), type := 4, pos := "ref.go:66", after := #[{ on := 16, ground := Ground.data }, { on := 13, ground := Ground.guard }], guard := some (13, false) }) (v := undef) rfl (by kernel_rfl) (by kernel_rfl) (by kernel_rfl) (fun _ _ _ h => h) (Or.inr ⟨by rfl, rfl⟩) hS ?_
        try simp only [Act.put, List.setIfInBounds_toArray, List.set_cons_zero, List.set_cons_succ]
        refine wpAnyH_take (i := 18) (oi := { dst := some 77, op := Op.pick (Operand.tmp 72) (Operand.const (Value.bool true)) (Operand.tmp 76), type := 4, pos := "ref.go:66", after := #[{ on := 13, ground := Ground.data }, { on := 17, ground := Ground.data }], guard := none }) (v := ?vjc102r12o18) rfl (by kernel_rfl) (by kernel_rfl) (by kernel_rfl) (fun _ _ _ h => h) (Or.inl ⟨by rfl, ?hjc102r12o18⟩) hS ?_
        case hjc102r12o18 => (intro wx hx; skip; go_simp; (try with_reducible rfl))
        try simp only [Act.put, List.setIfInBounds_toArray, List.set_cons_zero, List.set_cons_succ]
        refine wpAnyH_done (by kernel_rfl) ?_ _
        clear hS hc1 hGw hatW
        go_wp2
        go_ret2
        exact HR.out _ hgA2

theorem RefRead_any (base : Nat) (a b c : Int) (ad : Option Addr) (l cc : Nat) (xs : List Nat) (w : World) (hx : Words w ad l xs) (hlc : l ≤ cc) (hb : base ≤ w.heap.size) :
    Calls Tryz.prog 102 #[gv a b c, .slice ad l cc] w (ReadIs base a b c xs w) := by
  cases h : cutB xs with
  | false => exact RefRead_cut base a b c ad l cc xs w hx h
  | true =>
    have h0 := (cutB_yes h).1
    have hl := hx.len
    obtain ⟨q, o, rfl⟩ := Words.lit hx (by omega)
    exact RefRead_at base a b c q o l cc xs w hx hlc h hb
end Go.Proofs.YtpdofdloclmbdaaGreat
end
section
/- The document's words of a new device. -/
-- OPTIONAL
namespace Go.Proofs.YtpdofdloclmbdaaGreat
open Go.RowKit Go.Grommet

set_option maxRecDepth 100000 in
theorem map_set (f : Nat → Nat) (N j v : Nat) : ((List.range N).map f).set j v = (List.range N).map (fun i => if i = j then v else f i) := by
  apply List.ext_getElem?
  intro i
  rw [List.getElem?_set]
  by_cases hi : i < N
  · by_cases hj : j = i
    · subst hj; simp [hi]
    · rw [if_neg hj]
      have : ¬ i = j := fun h => hj h.symm
      simp [hi, this]
  · by_cases hj : j = i
    · subst hj; simp [hi]
    · rw [if_neg hj]; simp [hi]
set_option maxRecDepth 100000 in
theorem rep_map (N : Nat) : List.replicate N 0 = (List.range N).map (fun _ => 0) := by simp [List.map_const']

set_option maxRecDepth 100000 in
theorem fmt_set (a b c m N : Nat) (h4 : 4 ≤ m) :
    ((((((((List.replicate N 0).set 0 32762617960297063).set 1 a).set 2 b).set 3 c).set m 3).set (m + 8) 1).set (m + 32) 2).set (m + 33) 1 = fmtL a b c m N := by
  rw [rep_map, map_set, map_set, map_set, map_set, map_set, map_set, map_set, map_set]
  unfold fmtL
  apply List.map_congr_left
  intro i _
  unfold fmtAt
  by_cases e0 : i = 0
  · refine Eq.trans (b := 32762617960297063) ?_ ?_
    · rw [if_neg (show ¬ i = m + 33 by omega), if_neg (show ¬ i = m + 32 by omega), if_neg (show ¬ i = m + 8 by omega), if_neg (show ¬ i = m by omega), if_neg (show ¬ i = 3 by omega), if_neg (show ¬ i = 2 by omega), if_neg (show ¬ i = 1 by omega), if_pos e0]
    · rw [if_pos e0]
  by_cases e1 : i = 1
  · refine Eq.trans (b := a) ?_ ?_
    · rw [if_neg (show ¬ i = m + 33 by omega), if_neg (show ¬ i = m + 32 by omega), if_neg (show ¬ i = m + 8 by omega), if_neg (show ¬ i = m by omega), if_neg (show ¬ i = 3 by omega), if_neg (show ¬ i = 2 by omega), if_pos e1]
    · rw [if_neg e0, if_pos e1]
  by_cases e2 : i = 2
  · refine Eq.trans (b := b) ?_ ?_
    · rw [if_neg (show ¬ i = m + 33 by omega), if_neg (show ¬ i = m + 32 by omega), if_neg (show ¬ i = m + 8 by omega), if_neg (show ¬ i = m by omega), if_neg (show ¬ i = 3 by omega), if_pos e2]
    · rw [if_neg e0, if_neg e1, if_pos e2]
  by_cases e3 : i = 3
  · refine Eq.trans (b := c) ?_ ?_
    · rw [if_neg (show ¬ i = m + 33 by omega), if_neg (show ¬ i = m + 32 by omega), if_neg (show ¬ i = m + 8 by omega), if_neg (show ¬ i = m by omega), if_pos e3]
    · rw [if_neg e0, if_neg e1, if_neg e2, if_pos e3]
  by_cases e4 : i = m
  · refine Eq.trans (b := 3) ?_ ?_
    · rw [if_neg (show ¬ i = m + 33 by omega), if_neg (show ¬ i = m + 32 by omega), if_neg (show ¬ i = m + 8 by omega), if_pos e4]
    · rw [if_neg e0, if_neg e1, if_neg e2, if_neg e3, if_pos e4]
  by_cases e5 : i = m + 8
  · refine Eq.trans (b := 1) ?_ ?_
    · rw [if_neg (show ¬ i = m + 33 by omega), if_neg (show ¬ i = m + 32 by omega), if_pos e5]
    · rw [if_neg e0, if_neg e1, if_neg e2, if_neg e3, if_neg e4, if_pos e5]
  by_cases e6 : i = m + 32
  · refine Eq.trans (b := 2) ?_ ?_
    · rw [if_neg (show ¬ i = m + 33 by omega), if_pos e6]
    · rw [if_neg e0, if_neg e1, if_neg e2, if_neg e3, if_neg e4, if_neg e5, if_pos e6]
  by_cases e7 : i = m + 33
  · refine Eq.trans (b := 1) ?_ ?_
    · rw [if_pos e7]
    · rw [if_neg e0, if_neg e1, if_neg e2, if_neg e3, if_neg e4, if_neg e5, if_neg e6, if_pos e7]
  refine Eq.trans (b := 0) ?_ ?_
  · rw [if_neg e7, if_neg e6, if_neg e5, if_neg e4, if_neg e3, if_neg e2, if_neg e1, if_neg e0]
  · rw [if_neg e0, if_neg e1, if_neg e2, if_neg e3, if_neg e4, if_neg e5, if_neg e6, if_neg e7]

set_option maxRecDepth 100000 in
set_option maxHeartbeats 4000000 in
theorem RFormat_any (a b c : Nat) (w : World) (h : mayB a b c = true) : Calls Tryz.prog 10 #[gv a b c] w (NewWords (fmtL a b c (264 + 208 * a) (280 + 208 * a + 16 * b + 8 * c)) w) := by
  have hq := mayB_yes h
  obtain ⟨i0, hi, hz0, hz1, hz2⟩ := info_parts Tryz.info44
  have HM := Lib.hid (fun wx => RMay_any a b c wx)
  rw [h] at HM
  have HW := Lib.hid (fun wx => RWords_any a b c wx)
  rw [words_pos h, show (280 : Int) + 208 * (a : Int) + 16 * (b : Int) + 8 * (c : Int) = ((280 + 208 * a + 16 * b + 8 * c : Nat) : Int) from by omega] at HW
  obtain ⟨N, HN⟩ : ∃ N, Hid (N = 280 + 208 * a + 16 * b + 8 * c) := ⟨_, Lib.hid rfl⟩
  have hN1 : N ≤ 6232 := by rw [HN.out]; omega
  obtain ⟨m, Hm⟩ : ∃ m, Hid (m = 264 + 208 * a) := ⟨_, Lib.hid rfl⟩
  have HI := Lib.hid (fun wx => RInodeAt_any a b c 1 wx)
  rw [show inodeV a b c 1 = (m : Int) + 32 from by unfold inodeV; rw [if_pos ⟨h, by omega, by omega⟩, Hm.out]; omega] at HI
  have HIM := Lib.hid (fun wx => RInodeMapAt_any a b c wx)
  rw [show imapV a b c = (m : Int) from by unfold imapV; rw [if_pos h, Hm.out]; omega] at HIM
  have HBM := Lib.hid (fun wx => RBlockMapAt_any a b c wx)
  rw [show bmapV a b c = (m : Int) + 8 from by unfold bmapV; rw [if_pos h, Hm.out]; omega] at HBM
  have hfit : m + 34 ≤ N := by rw [Hm.out, HN.out]; omega
  have hm4 : 4 ≤ m := by rw [Hm.out]; omega
  have HF := Lib.hid (fmt_set a b c m N hm4)
  rw [← HN.out] at HW
  rw [← HN.out, ← Hm.out]
  unfold gv at HM HW HI HIM HBM ⊢
  have wa : IntKind.u64.wrap (a : Int) = (a : Int) := IntWalk.u64_in _ ⟨by omega, by omega⟩
  have wb : IntKind.u64.wrap (b : Int) = (b : Int) := IntWalk.u64_in _ ⟨by omega, by omega⟩
  have wc : IntKind.u64.wrap (c : Int) = (c : Int) := IntWalk.u64_in _ ⟨by omega, by omega⟩
  have n0 : (0 : Int) < (N : Int) := by omega
  have n1 : (1 : Int) < (N : Int) := by omega
  have n2 : (2 : Int) < (N : Int) := by omega
  have n3 : (3 : Int) < (N : Int) := by omega
  have m0 : (0 : Int) ≤ (m : Int) := by omega
  have m1 : (m : Int) < (N : Int) := by omega
  have m2 : (m : Int) + 8 < (N : Int) := by omega
  have m3 : (m : Int) + 32 < (N : Int) := by omega
  have m4 : (m : Int) + 33 < (N : Int) := by omega
  have x1 : ((m : Int) + 8).toNat = m + 8 := by omega
  have x2 : ((m : Int) + 32).toNat = m + 32 := by omega
  have x3 : ((m : Int) + 32 + 1).toNat = m + 33 := by omega
  have x4 : ((m : Int) + 33).toNat = m + 33 := by omega
  clear h hq
  go_enter Tryz.func10, Tryz.ntmps10
  go_wp2_with fail
  refine (HM.out _).mono ?_
  rintro e w1 ⟨rfl, hgx⟩
  have hb : w1.heap[w.heap.size]? = some (.cells #[.int .i64 (a : Int), .int .i64 (b : Int), .int .i64 (c : Int)] 28 (0, 0)) := (hgx.block _ (by simp) (by simp)).trans (heap_alloc_new w _)
  have f0 : w1.cell? ⟨w.heap.size, 0, none⟩ = some (.int .i64 a) := by simp [World.cell?, hb]
  have f1 : w1.cell? ⟨w.heap.size, 1, none⟩ = some (.int .i64 b) := by simp [World.cell?, hb]
  have f2 : w1.cell? ⟨w.heap.size, 2, none⟩ = some (.int .i64 c) := by simp [World.cell?, hb]
  have hg := grown_trans (World.grownBy_alloc w _ none) hgx
  clear hgx HM
  go_wp2_with fail
  refine (HW.out _).mono ?_
  rintro e w2 ⟨rfl, hgx⟩
  have hb := (hgx.block _ (lt_of_block hb) (by simp)).trans hb
  have hBl := lt_of_block hb
  have hg := grown_trans hg hgx
  clear hgx HW f0 f1 f2
  go_wp2_with (refine wpList_make_whole _ rfl _ _ 33 rfl 44 i0 (.int .u64 0) Tryz.underlying33 hi hz0 hz1 _ _ _ N rfl rfl rfl ?m1 ?m2 ?_)
  case m1 => rw [hz2]; omega
  case m2 => unfold maxLen; omega
  intro w3 hrow hgx
  try rw [show (Value.int .u64 0).cells = #[Value.int .u64 0] from rfl] at hrow
  rw [made_wv] at hrow
  have hb := (hgx.block _ hBl (by simp)).trans hb
  have hg := grown_trans hg hgx
  obtain ⟨g, Hg⟩ : ∃ g, Hid (g = w2.heap.size) := ⟨_, Lib.hid rfl⟩
  have hwg : w.heap.size < g := by rw [Hg.out]; exact hBl
  rw [← Hg.out] at hrow
  rw [← Hg.out]
  have hne : some w.heap.size ≠ some g := by intro e; injection e with e; omega
  clear hgx hBl
  have hl : (List.replicate N 0).length = N := by simp
  have d0 : w3.cell? ⟨g, 0, none⟩ = some (.int .u64 (((List.replicate N 0).getD 0 0 : Nat) : Int)) := row_cell hrow _ _ (map_wv_get _ _ (by simp only [List.length_replicate]; omega))
  have z0 : w3.frozen? ⟨g, 0, none⟩ = false := row_free hrow _
  have hrow : (w3.setCell ⟨g, 0, none⟩ (.int .u64 32762617960297063)).heap[g]? = _ := row_set hrow 0 (wv 32762617960297063)
  rw [← List.map_set] at hrow
  have hgs := grown_setCell w3 ⟨g, 0, none⟩ (.int .u64 32762617960297063)
  have hb := (hgs.block _ (lt_of_block hb) hne).trans hb
  have hg := grown_new hg hgs (by intro k e; cases e; exact Nat.le_of_lt hwg)
  have f00 : (w3.setCell ⟨g, 0, none⟩ (.int .u64 32762617960297063)).cell? ⟨w.heap.size, 0, none⟩ = some (.int .i64 a) := by simp [World.cell?, hb]
  have f01 : (w3.setCell ⟨g, 0, none⟩ (.int .u64 32762617960297063)).cell? ⟨w.heap.size, 1, none⟩ = some (.int .i64 b) := by simp [World.cell?, hb]
  have f02 : (w3.setCell ⟨g, 0, none⟩ (.int .u64 32762617960297063)).cell? ⟨w.heap.size, 2, none⟩ = some (.int .i64 c) := by simp [World.cell?, hb]
  have d1 : (w3.setCell ⟨g, 0, none⟩ (.int .u64 32762617960297063)).cell? ⟨g, 1, none⟩ = some (.int .u64 ((((List.replicate N 0).set 0 32762617960297063).getD 1 0 : Nat) : Int)) := row_cell hrow _ _ (map_wv_get _ _ (by simp only [List.length_set, List.length_replicate]; omega))
  have z1 : (w3.setCell ⟨g, 0, none⟩ (.int .u64 32762617960297063)).frozen? ⟨g, 1, none⟩ = false := row_free hrow _
  have hrow : ((w3.setCell ⟨g, 0, none⟩ (.int .u64 32762617960297063)).setCell ⟨g, 1, none⟩ (.int .u64 (a : Int))).heap[g]? = _ := row_set hrow 1 (wv a)
  rw [← List.map_set] at hrow
  have hgs := grown_setCell (w3.setCell ⟨g, 0, none⟩ (.int .u64 32762617960297063)) ⟨g, 1, none⟩ (.int .u64 (a : Int))
  have hb := (hgs.block _ (lt_of_block hb) hne).trans hb
  have hg := grown_new hg hgs (by intro k e; cases e; exact Nat.le_of_lt hwg)
  have f10 : ((w3.setCell ⟨g, 0, none⟩ (.int .u64 32762617960297063)).setCell ⟨g, 1, none⟩ (.int .u64 (a : Int))).cell? ⟨w.heap.size, 0, none⟩ = some (.int .i64 a) := by simp [World.cell?, hb]
  have f11 : ((w3.setCell ⟨g, 0, none⟩ (.int .u64 32762617960297063)).setCell ⟨g, 1, none⟩ (.int .u64 (a : Int))).cell? ⟨w.heap.size, 1, none⟩ = some (.int .i64 b) := by simp [World.cell?, hb]
  have f12 : ((w3.setCell ⟨g, 0, none⟩ (.int .u64 32762617960297063)).setCell ⟨g, 1, none⟩ (.int .u64 (a : Int))).cell? ⟨w.heap.size, 2, none⟩ = some (.int .i64 c) := by simp [World.cell?, hb]
  have d2 : ((w3.setCell ⟨g, 0, none⟩ (.int .u64 32762617960297063)).setCell ⟨g, 1, none⟩ (.int .u64 (a : Int))).cell? ⟨g, 2, none⟩ = some (.int .u64 (((((List.replicate N 0).set 0 32762617960297063).set 1 a).getD 2 0 : Nat) : Int)) := row_cell hrow _ _ (map_wv_get _ _ (by simp only [List.length_set, List.length_replicate]; omega))
  have z2 : ((w3.setCell ⟨g, 0, none⟩ (.int .u64 32762617960297063)).setCell ⟨g, 1, none⟩ (.int .u64 (a : Int))).frozen? ⟨g, 2, none⟩ = false := row_free hrow _
  have hrow : (((w3.setCell ⟨g, 0, none⟩ (.int .u64 32762617960297063)).setCell ⟨g, 1, none⟩ (.int .u64 (a : Int))).setCell ⟨g, 2, none⟩ (.int .u64 (b : Int))).heap[g]? = _ := row_set hrow 2 (wv b)
  rw [← List.map_set] at hrow
  have hgs := grown_setCell ((w3.setCell ⟨g, 0, none⟩ (.int .u64 32762617960297063)).setCell ⟨g, 1, none⟩ (.int .u64 (a : Int))) ⟨g, 2, none⟩ (.int .u64 (b : Int))
  have hb := (hgs.block _ (lt_of_block hb) hne).trans hb
  have hg := grown_new hg hgs (by intro k e; cases e; exact Nat.le_of_lt hwg)
  have f20 : (((w3.setCell ⟨g, 0, none⟩ (.int .u64 32762617960297063)).setCell ⟨g, 1, none⟩ (.int .u64 (a : Int))).setCell ⟨g, 2, none⟩ (.int .u64 (b : Int))).cell? ⟨w.heap.size, 0, none⟩ = some (.int .i64 a) := by simp [World.cell?, hb]
  have f21 : (((w3.setCell ⟨g, 0, none⟩ (.int .u64 32762617960297063)).setCell ⟨g, 1, none⟩ (.int .u64 (a : Int))).setCell ⟨g, 2, none⟩ (.int .u64 (b : Int))).cell? ⟨w.heap.size, 1, none⟩ = some (.int .i64 b) := by simp [World.cell?, hb]
  have f22 : (((w3.setCell ⟨g, 0, none⟩ (.int .u64 32762617960297063)).setCell ⟨g, 1, none⟩ (.int .u64 (a : Int))).setCell ⟨g, 2, none⟩ (.int .u64 (b : Int))).cell? ⟨w.heap.size, 2, none⟩ = some (.int .i64 c) := by simp [World.cell?, hb]
  have d3 : (((w3.setCell ⟨g, 0, none⟩ (.int .u64 32762617960297063)).setCell ⟨g, 1, none⟩ (.int .u64 (a : Int))).setCell ⟨g, 2, none⟩ (.int .u64 (b : Int))).cell? ⟨g, 3, none⟩ = some (.int .u64 ((((((List.replicate N 0).set 0 32762617960297063).set 1 a).set 2 b).getD 3 0 : Nat) : Int)) := row_cell hrow _ _ (map_wv_get _ _ (by simp only [List.length_set, List.length_replicate]; omega))
  have z3 : (((w3.setCell ⟨g, 0, none⟩ (.int .u64 32762617960297063)).setCell ⟨g, 1, none⟩ (.int .u64 (a : Int))).setCell ⟨g, 2, none⟩ (.int .u64 (b : Int))).frozen? ⟨g, 3, none⟩ = false := row_free hrow _
  have hrow : ((((w3.setCell ⟨g, 0, none⟩ (.int .u64 32762617960297063)).setCell ⟨g, 1, none⟩ (.int .u64 (a : Int))).setCell ⟨g, 2, none⟩ (.int .u64 (b : Int))).setCell ⟨g, 3, none⟩ (.int .u64 (c : Int))).heap[g]? = _ := row_set hrow 3 (wv c)
  rw [← List.map_set] at hrow
  have hgs := grown_setCell (((w3.setCell ⟨g, 0, none⟩ (.int .u64 32762617960297063)).setCell ⟨g, 1, none⟩ (.int .u64 (a : Int))).setCell ⟨g, 2, none⟩ (.int .u64 (b : Int))) ⟨g, 3, none⟩ (.int .u64 (c : Int))
  have hb := (hgs.block _ (lt_of_block hb) hne).trans hb
  have hg := grown_new hg hgs (by intro k e; cases e; exact Nat.le_of_lt hwg)
  have f30 : ((((w3.setCell ⟨g, 0, none⟩ (.int .u64 32762617960297063)).setCell ⟨g, 1, none⟩ (.int .u64 (a : Int))).setCell ⟨g, 2, none⟩ (.int .u64 (b : Int))).setCell ⟨g, 3, none⟩ (.int .u64 (c : Int))).cell? ⟨w.heap.size, 0, none⟩ = some (.int .i64 a) := by simp [World.cell?, hb]
  have f31 : ((((w3.setCell ⟨g, 0, none⟩ (.int .u64 32762617960297063)).setCell ⟨g, 1, none⟩ (.int .u64 (a : Int))).setCell ⟨g, 2, none⟩ (.int .u64 (b : Int))).setCell ⟨g, 3, none⟩ (.int .u64 (c : Int))).cell? ⟨w.heap.size, 1, none⟩ = some (.int .i64 b) := by simp [World.cell?, hb]
  have f32 : ((((w3.setCell ⟨g, 0, none⟩ (.int .u64 32762617960297063)).setCell ⟨g, 1, none⟩ (.int .u64 (a : Int))).setCell ⟨g, 2, none⟩ (.int .u64 (b : Int))).setCell ⟨g, 3, none⟩ (.int .u64 (c : Int))).cell? ⟨w.heap.size, 2, none⟩ = some (.int .i64 c) := by simp [World.cell?, hb]
  obtain ⟨L0, HL0⟩ : ∃ L0, Hid (L0 = (((((List.replicate N 0).set 0 32762617960297063).set 1 a).set 2 b).set 3 c)) := ⟨_, Lib.hid rfl⟩
  rw [← HL0.out] at hrow
  have hl0 : L0.length = N := by rw [HL0.out]; simp only [List.length_set, List.length_replicate]
  go_wp2_with fail
  refine (HIM.out _).mono ?_
  rintro e w4 ⟨rfl, hgx⟩
  have hb := (hgx.block _ (lt_of_block hb) (by simp)).trans hb
  have hrow := (hgx.block _ (lt_of_block hrow) (by simp)).trans hrow
  have hg := grown_trans hg hgx
  clear hgx
  clear f00 f01 f02 f10 f11 f12 f20 f21 f22 f30 f31 f32
  have d4 : w4.cell? ⟨g, m, none⟩ = some (.int .u64 ((L0.getD m 0 : Nat) : Int)) := row_cell hrow _ _ (map_wv_get _ _ (by omega))
  have z4 : w4.frozen? ⟨g, m, none⟩ = false := row_free hrow _
  have hrow : (w4.setCell ⟨g, m, none⟩ (.int .u64 3)).heap[g]? = _ := row_set hrow m (wv 3)
  rw [← List.map_set] at hrow
  have hgs := grown_setCell w4 ⟨g, m, none⟩ (.int .u64 3)
  have hb := (hgs.block _ (lt_of_block hb) hne).trans hb
  have hg := grown_new hg hgs (by intro k e; cases e; exact Nat.le_of_lt hwg)
  obtain ⟨L4, HL4⟩ : ∃ L, Hid (L = L0.set m 3) := ⟨_, Lib.hid rfl⟩
  rw [← HL4.out] at hrow
  have hl4 : L4.length = N := by rw [HL4.out, List.length_set]; assumption
  clear hgs
  have f40 : (w4.setCell ⟨g, m, none⟩ (.int .u64 3)).cell? ⟨w.heap.size, 0, none⟩ = some (.int .i64 a) := by simp [World.cell?, hb]
  have f41 : (w4.setCell ⟨g, m, none⟩ (.int .u64 3)).cell? ⟨w.heap.size, 1, none⟩ = some (.int .i64 b) := by simp [World.cell?, hb]
  have f42 : (w4.setCell ⟨g, m, none⟩ (.int .u64 3)).cell? ⟨w.heap.size, 2, none⟩ = some (.int .i64 c) := by simp [World.cell?, hb]
  go_wp2_with fail
  refine (HBM.out _).mono ?_
  rintro e w5 ⟨rfl, hgx⟩
  have hb := (hgx.block _ (lt_of_block hb) (by simp)).trans hb
  have hrow := (hgx.block _ (lt_of_block hrow) (by simp)).trans hrow
  have hg := grown_trans hg hgx
  clear hgx
  have d5 : w5.cell? ⟨g, m + 8, none⟩ = some (.int .u64 ((L4.getD (m + 8) 0 : Nat) : Int)) := row_cell hrow _ _ (map_wv_get _ _ (by omega))
  have z5 : w5.frozen? ⟨g, m + 8, none⟩ = false := row_free hrow _
  have hrow : (w5.setCell ⟨g, m + 8, none⟩ (.int .u64 1)).heap[g]? = _ := row_set hrow (m + 8) (wv 1)
  rw [← List.map_set] at hrow
  have hgs := grown_setCell w5 ⟨g, m + 8, none⟩ (.int .u64 1)
  have hb := (hgs.block _ (lt_of_block hb) hne).trans hb
  have hg := grown_new hg hgs (by intro k e; cases e; exact Nat.le_of_lt hwg)
  obtain ⟨L5, HL5⟩ : ∃ L, Hid (L = L4.set (m + 8) 1) := ⟨_, Lib.hid rfl⟩
  rw [← HL5.out] at hrow
  have hl5 : L5.length = N := by rw [HL5.out, List.length_set]; assumption
  clear hgs
  have f50 : (w5.setCell ⟨g, m + 8, none⟩ (.int .u64 1)).cell? ⟨w.heap.size, 0, none⟩ = some (.int .i64 a) := by simp [World.cell?, hb]
  have f51 : (w5.setCell ⟨g, m + 8, none⟩ (.int .u64 1)).cell? ⟨w.heap.size, 1, none⟩ = some (.int .i64 b) := by simp [World.cell?, hb]
  have f52 : (w5.setCell ⟨g, m + 8, none⟩ (.int .u64 1)).cell? ⟨w.heap.size, 2, none⟩ = some (.int .i64 c) := by simp [World.cell?, hb]
  go_wp2_with fail
  refine (HI.out _).mono ?_
  rintro e w6 ⟨rfl, hgx⟩
  have hb := (hgx.block _ (lt_of_block hb) (by simp)).trans hb
  have hrow := (hgx.block _ (lt_of_block hrow) (by simp)).trans hrow
  have hg := grown_trans hg hgx
  clear hgx
  have d6 : w6.cell? ⟨g, m + 32, none⟩ = some (.int .u64 ((L5.getD (m + 32) 0 : Nat) : Int)) := row_cell hrow _ _ (map_wv_get _ _ (by omega))
  have z6 : w6.frozen? ⟨g, m + 32, none⟩ = false := row_free hrow _
  have hrow : (w6.setCell ⟨g, m + 32, none⟩ (.int .u64 2)).heap[g]? = _ := row_set hrow (m + 32) (wv 2)
  rw [← List.map_set] at hrow
  have hgs := grown_setCell w6 ⟨g, m + 32, none⟩ (.int .u64 2)
  have hb := (hgs.block _ (lt_of_block hb) hne).trans hb
  have hg := grown_new hg hgs (by intro k e; cases e; exact Nat.le_of_lt hwg)
  obtain ⟨L6, HL6⟩ : ∃ L, Hid (L = L5.set (m + 32) 2) := ⟨_, Lib.hid rfl⟩
  rw [← HL6.out] at hrow
  have hl6 : L6.length = N := by rw [HL6.out, List.length_set]; assumption
  clear hgs
  have f60 : (w6.setCell ⟨g, m + 32, none⟩ (.int .u64 2)).cell? ⟨w.heap.size, 0, none⟩ = some (.int .i64 a) := by simp [World.cell?, hb]
  have f61 : (w6.setCell ⟨g, m + 32, none⟩ (.int .u64 2)).cell? ⟨w.heap.size, 1, none⟩ = some (.int .i64 b) := by simp [World.cell?, hb]
  have f62 : (w6.setCell ⟨g, m + 32, none⟩ (.int .u64 2)).cell? ⟨w.heap.size, 2, none⟩ = some (.int .i64 c) := by simp [World.cell?, hb]
  go_wp2_with fail
  refine (HI.out _).mono ?_
  rintro e w7 ⟨rfl, hgx⟩
  have hb := (hgx.block _ (lt_of_block hb) (by simp)).trans hb
  have hrow := (hgx.block _ (lt_of_block hrow) (by simp)).trans hrow
  have hg := grown_trans hg hgx
  clear hgx
  have d7 : w7.cell? ⟨g, m + 33, none⟩ = some (.int .u64 ((L6.getD (m + 33) 0 : Nat) : Int)) := row_cell hrow _ _ (map_wv_get _ _ (by omega))
  have z7 : w7.frozen? ⟨g, m + 33, none⟩ = false := row_free hrow _
  have hrow : (w7.setCell ⟨g, m + 33, none⟩ (.int .u64 1)).heap[g]? = _ := row_set hrow (m + 33) (wv 1)
  rw [← List.map_set] at hrow
  have hgs := grown_setCell w7 ⟨g, m + 33, none⟩ (.int .u64 1)
  have hb := (hgs.block _ (lt_of_block hb) hne).trans hb
  have hg := grown_new hg hgs (by intro k e; cases e; exact Nat.le_of_lt hwg)
  obtain ⟨L7, HL7⟩ : ∃ L, Hid (L = L6.set (m + 33) 1) := ⟨_, Lib.hid rfl⟩
  rw [← HL7.out] at hrow
  have hl7 : L7.length = N := by rw [HL7.out, List.length_set]; assumption
  clear hgs
  have f70 : (w7.setCell ⟨g, m + 33, none⟩ (.int .u64 1)).cell? ⟨w.heap.size, 0, none⟩ = some (.int .i64 a) := by simp [World.cell?, hb]
  have f71 : (w7.setCell ⟨g, m + 33, none⟩ (.int .u64 1)).cell? ⟨w.heap.size, 1, none⟩ = some (.int .i64 b) := by simp [World.cell?, hb]
  have f72 : (w7.setCell ⟨g, m + 33, none⟩ (.int .u64 1)).cell? ⟨w.heap.size, 2, none⟩ = some (.int .i64 c) := by simp [World.cell?, hb]
  have he : L7 = fmtL a b c m N := by rw [HL7.out, HL6.out, HL5.out, HL4.out, HL0.out]; exact HF.out
  rw [he] at hrow
  have hfin : NewWords (fmtL a b c m N) w (.returned (.slice (some ⟨g, 0, none⟩) N N)) (w7.setCell ⟨g, m + 33, none⟩ (.int .u64 1)) := ⟨g, by rw [length_fmtL], hrow, Nat.le_of_lt hwg, hg⟩
  have HFin := Lib.hid hfin
  clear hfin hrow hb hg he
  go_wp2
  go_ret
  exact HFin.out
end Go.Proofs.YtpdofdloclmbdaaGreat
end
