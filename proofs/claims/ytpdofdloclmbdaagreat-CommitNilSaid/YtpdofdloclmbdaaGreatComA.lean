/- Package commit's helpers: clear, Clone, Apply. -/
import Derived.Test.YtpdofdloclmbdaaGreatRecD
import Derived.Test.YtpdofdloclmbdaaGreatHeap
import Derived.Lib.SliceRun
-- OPTIONAL
namespace Go.Proofs.YtpdofdloclmbdaaGreat
open Go.RowKit Go.Grommet

/-- Words laid one behind the other from a place on. -/
def putL : List Nat → Nat → List Nat → List Nat
  | xs, _, [] => xs
  | xs, o, v :: t => putL (xs.set o v) (o + 1) t
theorem putL_length : ∀ (vs xs : List Nat) (o : Nat), (putL xs o vs).length = xs.length
  | [], _, _ => rfl
  | v :: t, xs, o => by rw [putL, putL_length t, List.length_set]
theorem getD_set (xs : List Nat) (o v i : Nat) : (xs.set o v).getD i 0 = if i = o ∧ o < xs.length then v else xs.getD i 0 := by
  rw [List.getD_eq_getElem?_getD, List.getD_eq_getElem?_getD]
  by_cases h : i = o
  · subst h
    by_cases hl : i < xs.length
    · rw [if_pos ⟨rfl, hl⟩, List.getElem?_set_self hl]; rfl
    · rw [if_neg (fun e => hl e.2), List.getElem?_eq_none (by simpa using hl), List.getElem?_eq_none (by omega)]
  · rw [if_neg (fun e => h e.1), List.getElem?_set_ne (fun e => h e.symm)]
theorem putL_get : ∀ (vs xs : List Nat) (o i : Nat), o + vs.length ≤ xs.length → (putL xs o vs).getD i 0 = if o ≤ i ∧ i < o + vs.length then vs.getD (i - o) 0 else xs.getD i 0
  | [], xs, o, i, _ => by rw [if_neg (by simp)]; rfl
  | v :: t, xs, o, i, h => by
    rw [List.length_cons] at h
    rw [putL, putL_get t (xs.set o v) (o + 1) i (by rw [List.length_set]; omega), getD_set, List.length_cons]
    by_cases h1 : o + 1 ≤ i ∧ i < o + 1 + t.length
    · rw [if_pos h1, if_pos ⟨by omega, by omega⟩, show i - o = (i - (o + 1)) + 1 from by omega, List.getD_cons_succ]
    · rw [if_neg h1]
      by_cases h2 : i = o
      · rw [if_pos ⟨h2, by omega⟩, if_pos ⟨by omega, by omega⟩, show i - o = 0 from by omega, List.getD_cons_zero]
      · rw [if_neg (fun e => h2 e.1), if_neg (by omega)]
/-- Words from a place on are 0. -/
def zap (xs : List Nat) (o n : Nat) : List Nat := putL xs o (List.replicate n 0)
theorem zap_length (xs : List Nat) (o n : Nat) : (zap xs o n).length = xs.length := putL_length _ _ _
theorem zap_get (xs : List Nat) (o n i : Nat) (h : o + n ≤ xs.length) : (zap xs o n).getD i 0 = if o ≤ i ∧ i < o + n then 0 else xs.getD i 0 := by
  unfold zap
  rw [putL_get _ _ _ _ (by simpa using h), List.length_replicate]
  by_cases h1 : o ≤ i ∧ i < o + n
  · rw [if_pos h1, if_pos h1, List.getD_eq_getElem?_getD, List.getElem?_replicate]; split <;> rfl
  · rw [if_neg h1, if_neg h1]

theorem set_selfC {Ps : List Pr} {k : Nat} {Q : Pr} (hk : Ps[k]? = some Q) : Ps.set k Q = Ps := by
  apply List.ext_getElem?
  intro i
  by_cases hi : i = k
  · subst hi; rw [List.getElem?_set_self (List.getElem?_eq_some_iff.1 hk).1, hk]
  · rw [List.getElem?_set_ne (fun e => hi e.symm)]
theorem Own.stores {w0 : World} {n cap b k : Nat} : ∀ (vs : List Nat) (o : Nat) (w : World) (xs : List Nat) (Ps : List Pr), Own w0 w Ps → Ps[k]? = some (rowP 44 1 (.slice (some ⟨b, 0, none⟩) n cap) n (xs.map wv)) →
    Own w0 (w.setCells b o (vs.map wv)) (Ps.set k (rowP 44 1 (.slice (some ⟨b, 0, none⟩) n cap) n ((putL xs o vs).map wv)))
  | [], o, w, xs, Ps, h, hk => by
    rw [List.map_nil, putL, set_selfC hk]
    exact h
  | v :: t, o, w, xs, Ps, h, hk => by
    have h1 := Own.store h k hk o (wv v)
    rw [← List.map_set] at h1
    have hkl := (List.getElem?_eq_some_iff.1 hk).1
    have h2 := Own.stores t (o + 1) _ _ _ h1 (List.getElem?_set_self hkl)
    rw [List.set_set] at h2
    exact h2

/-- 'x[lo:hi]'. -/
theorem slice_mid {P : Program} (T e : TypeId) (hT : P.underlying T = some (.slice e)) (hsz : ∀ w, (sizeOf e).run P w = .ok 1 w) (q o len cap lo hi K C F : Nat) (h1 : hi = lo + K) (h2 : cap = lo + C) (h3 : K ≤ C) (h4 : 0 < C) (h5 : o + lo = F) (w : World) :
    (Instr.slice T (.slice (some ⟨q, o, none⟩) len cap) (some (.int .i64 (lo : Int))) (some (.int .i64 (hi : Int))) none).run P w = .ok (.slice (some ⟨q, F, none⟩) K C) w := by
  have he : P.elem T = e := by simp [Program.elem, hT]
  have ht : P.underlying T = some (.slice (P.elem T)) := by rw [he]; exact hT
  rw [run_slice_lh (a := some ⟨q, o, none⟩) (ht := ht) (h0 := by omega) (h1 := by omega) (h2 := by omega), he, hsz]
  subst h1 h2 h5
  simp only [Result.andThen, sliced, Int.toNat_natCast, Nat.add_sub_cancel_left, Nat.mul_one]
  rw [if_neg (by omega)]
  simp [Addr.add_lit]

set_option maxHeartbeats 400000 in
theorem Clone_any (base : Nat) (q o l c : Nat) (xs : List Nat) (w : World) (hx : Words w (some ⟨q, o, none⟩) l xs) (hl : l ≤ 549755813888) (hb : base ≤ w.heap.size) :
    Calls Tryz.prog 82 #[.slice (some ⟨q, o, none⟩) l c] w (RowOf base xs w) := by
  have HL := Lib.hid hx.len
  have hq := fun wx => eql_slice_nil (P := Tryz.prog) wx 33 _ (some ⟨q, o, none⟩) l c Tryz.underlying33
  go_enter Tryz.func82, Tryz.ntmps82
  go_wp2_with (at_builtin; refine app64 rfl _ _ rfl base _ 0 [] rfl (own_lit w _ 1 base hb) (some ⟨q, o, none⟩) l c xs rfl ?a1 (by simp) ?a2 ?a3 ?_)
  case a1 => exact hx.keep (World.grownBy_alloc w _ none) (by simp)
  case a2 => omega
  case a3 => simp; omega
  intro v1 w1 hown hg
  have hg := grown_new (World.grownBy_alloc w _ none) hg (by intro g e; cases e; exact Nat.le_refl _)
  try rw [List.nil_append, Nat.zero_add] at hown
  obtain ⟨ad, cap, rfl, _⟩ := row_slice hown
  have HR : Hid (RowOf base xs w (.returned (.slice ad l cap)) w1) := Lib.hid ⟨ad, cap, by rw [HL.out], by rw [HL.out]; exact hown, hg⟩
  clear hown hg hx
  go_wp2
  go_ret
  exact HR.out

/-- Writes, done. -/
def appl (xs : List Nat) (M : List (Int × Nat)) : List Nat := M.foldl (fun l p => l.set p.1.toNat p.2) xs
theorem appl_snoc (xs : List Nat) (M : List (Int × Nat)) (p : Int × Nat) : appl xs (M ++ [p]) = (appl xs M).set p.1.toNat p.2 := by simp [appl, List.foldl_append]
theorem appl_length : ∀ (M : List (Int × Nat)) (xs : List Nat), (appl xs M).length = xs.length
  | [], _ => rfl
  | p :: t, xs => by
    have := appl_length t (xs.set p.1.toNat p.2)
    simpa [appl] using this
theorem appl_small : ∀ (M : List (Int × Nat)) (xs : List Nat), (∀ n ∈ xs, n < 18446744073709551616) → (∀ p ∈ M, p.2 < 18446744073709551616) → ∀ n ∈ appl xs M, n < 18446744073709551616
  | [], _, h, _ => h
  | p :: t, xs, h, hM => by
    refine appl_small t (xs.set p.1.toNat p.2) (fun n hn => ?_) (fun r hr => hM r (List.mem_cons_of_mem _ hr))
    rcases List.mem_or_eq_of_mem_set hn with e | e
    · exact h n e
    · rw [e]; exact hM p (List.mem_cons_self ..)

set_option maxHeartbeats 400000 in
theorem isIn_any (a m : Int) (w : World) (h : 0 ≤ a ∧ a < m) : Calls Tryz.prog 104 #[.int .i64 a, .int .i64 m] w fun e w' => e = .returned (.bool true) ∧ w = w' := by
  obtain ⟨h1, h2⟩ := h
  go_enter Tryz.func104, Tryz.ntmps104
  go_wp2
  go_ret
  exact ⟨rfl, rfl⟩

set_option maxHeartbeats 1000000 in
theorem do_H (k : Nat) (b n cap : Nat) (xs : List Nat) (bd : Option Addr) (m c : Nat) (M : List (Int × Nat)) (w0 w : World) (Ps : List Pr) (h : Own w0 w Ps) (hk : Ps[k]? = some (rowP 44 1 (.slice (some ⟨b, 0, none⟩) n cap) n (xs.map wv))) (hn : xs.length = n)
    (hat : ∀ wx, Turn (fun i => i = b) w wx → At wx bd (icells M)) (hL : M.length = m) (hm : m ≤ 549755813888) (hok : ∀ p ∈ M, 0 ≤ p.1 ∧ p.1 < (n : Int)) :
    Calls Tryz.prog 105 #[.slice (some ⟨b, 0, none⟩) n cap, .slice bd m c] w fun e w' => e = .returned (.tuple #[]) ∧ Own w0 w' (Ps.set k (rowP 44 1 (.slice (some ⟨b, 0, none⟩) n cap) n ((appl xs M).map wv))) ∧ Turn (fun i => i = b) w w' := by
  have HL := Lib.hid hL
  have HN := Lib.hid hn
  have HO := Lib.hid hok
  have HA := Lib.hid hat
  have hkl := (List.getElem?_eq_some_iff.1 hk).1
  have h0 : Hid (Own w0 w (Ps.set k (rowP 44 1 (.slice (some ⟨b, 0, none⟩) n cap) n ((appl xs (M.take 0)).map wv)))) := Lib.hid (by rw [List.take_zero, show appl xs [] = xs from rfl, set_selfC hk]; exact h)
  have t0 : Hid (Turn (fun i => i = b) w w) := Lib.hid (Turn.refl _ _)
  clear hL hn hok hat h
  go_enter Tryz.func105, Tryz.ntmps105
  go_wp2_with fail
  go_loopw [8] (fun i wr => ∃ j : Nat, j ≤ m ∧ i = .int .i64 (j : Int) ∧ Hid (Own w0 wr (Ps.set k (rowP 44 1 (.slice (some ⟨b, 0, none⟩) n cap) n ((appl xs (M.take j)).map wv)))) ∧ Hid (Turn (fun i => i = b) w wr)) (fun i _ => m - (intOf i).toNat)
  case atStart => exact ⟨0, Nat.zero_le _, rfl, h0, t0⟩
  case round =>
    clear h0 t0
    obtain ⟨j, hj, rfl, hO, hT⟩ := hrel
    by_cases hlt : j < m
    · have hlt' : (j : Int) < (m : Int) := by omega
      have j0 : (0 : Int) ≤ (j : Int) := by omega
      have hkL : j < M.length := by rw [HL.out]; exact hlt
      have hp := HO.out _ (getD_mem M j (0, 0) hkL)
      obtain ⟨q, o, rfl, v0, v1⟩ := at_ipair (HA.out wr hT.out) j hkL
      have HS := Lib.hid (take_snocD M j (0, 0) hkL)
      obtain ⟨A, A0⟩ : ∃ A, Hid (A = (M.getD j (0, 0)).1.toNat) := ⟨_, Lib.hid rfl⟩
      obtain ⟨V, V0⟩ : ∃ V, Hid (V = (M.getD j (0, 0)).2) := ⟨_, Lib.hid rfl⟩
      have hA1 : (M.getD j (0, 0)).1 = (A : Int) := by rw [A0.out]; omega
      rw [hA1] at v0 hp
      rw [← V0.out] at v1
      have hA' : (A : Int) < (n : Int) := hp.2
      have hA0 : (0 : Int) ≤ (A : Int) := hp.1
      have hAn : A < (appl xs (M.take j)).length := by rw [appl_length, HN.out]; omega
      obtain ⟨U, HU⟩ : ∃ U, Hid (U = (appl xs (M.take j)).getD A 0) := ⟨_, Lib.hid rfl⟩
      obtain ⟨b', he, cK, fK, _⟩ := Own.cell hO.out k (List.getElem?_set_self hkl) A (wv U) (by rw [List.getElem?_map, List.getElem?_eq_getElem hAn, HU.out, List.getD_eq_getElem?_getD, List.getElem?_eq_getElem hAn]; rfl)
      cases he
      unfold wv at cK
      have hO2 := Own.store hO.out k (List.getElem?_set_self hkl) A (.int .u64 (V : Int))
      rw [List.set_set, show (Value.int .u64 (V : Int)) = wv V from rfl, ← List.map_set, A0.out, V0.out, ← appl_snoc, ← HS.out, ← A0.out] at hO2
      have HO2 : Hid (Own w0 (wr.setCell ⟨b, A, none⟩ (.int .u64 (V : Int))) (Ps.set k (rowP 44 1 (.slice (some ⟨b, 0, none⟩) n cap) n ((appl xs (M.take (j + 1))).map wv)))) := Lib.hid (by rw [V0.out]; exact hO2)
      have HT2 : Hid (Turn (fun i => i = b) w (wr.setCell ⟨b, A, none⟩ (.int .u64 (V : Int)))) := Lib.hid (hT.out.trans (Turn.of (F := fun i => i = b) (grown_setCell wr ⟨b, A, none⟩ (.int .u64 (V : Int))) (fun i e => by cases e; rfl)) (fun i e => .inl e))
      have hlb : b < wr.heap.size := World.block_lt_of_cell? _ _ cK
      clear hO hT hO2 hp hA1 hAn
      go_wp2
      go_roundw
      case rel => exact ⟨j + 1, by omega, by go_num, Lib.hid (HO2.out.quiet (World.grownBy_alloc _ _ _)), Lib.hid (HT2.out.grown (World.grownBy_alloc _ _ none) (fun i e => by cases e))⟩
      case measure => simp [intOf]; omega
    · have hfin := hO.out
      rw [List.take_of_length_le (by rw [HL.out]; omega)] at hfin
      have hfin := Lib.hid hfin
      clear hO
      go_wp2
      go_end0
      exact ⟨rfl, hfin.out, hT.out⟩

set_option maxHeartbeats 1000000 in
theorem ApplyH (k : Nat) (b n cap : Nat) (xs : List Nat) (bd : Option Addr) (m c : Nat) (M : List (Int × Nat)) (w0 w : World) (Ps : List Pr) (h : Own w0 w Ps) (hk : Ps[k]? = some (rowP 44 1 (.slice (some ⟨b, 0, none⟩) n cap) n (xs.map wv))) (hn : xs.length = n)
    (hat : ∀ wx, Turn (fun i => i = b) w wx → At wx bd (icells M)) (hL : M.length = m) (hm : m ≤ 549755813888) (hok : ∀ p ∈ M, 0 ≤ p.1 ∧ p.1 < (n : Int)) :
    Calls Tryz.prog 83 #[.slice (some ⟨b, 0, none⟩) n cap, .slice bd m c] w fun e w' => e = .returned (.int .i64 0) ∧ Own w0 w' (Ps.set k (rowP 44 1 (.slice (some ⟨b, 0, none⟩) n cap) n ((appl xs M).map wv))) := by
  have HL := Lib.hid hL
  have HO := Lib.hid hok
  have HA := Lib.hid hat
  have h0 := Lib.hid h
  have HD := Lib.hid (fun wx (hO : Own w0 wx Ps) (hT : w.grownBy wx none) => do_H k b n cap xs bd m c M w0 wx Ps hO hk hn (fun wy ht => hat wy ((Turn.of (F := fun i => i = b) hT (fun i e => by cases e)).trans ht (fun i e => .inl e))) hL hm hok)
  clear hL hn hok hat h hk
  go_enter Tryz.func83, Tryz.ntmps83
  go_wp2_with fail
  go_loopw [9] (fun i wr => ∃ j : Nat, j ≤ m ∧ i = .int .i64 (j : Int) ∧ Hid (w.grownBy wr none)) (fun i _ => m - (intOf i).toNat)
  case atStart => exact ⟨0, Nat.zero_le _, rfl, Lib.hid (World.grownBy.refl _ _)⟩
  case round =>
    obtain ⟨j, hj, rfl, hg⟩ := hrel
    by_cases hlt : j < m
    · have hlt' : (j : Int) < (m : Int) := by omega
      have j0 : (0 : Int) ≤ (j : Int) := by omega
      have hkL : j < M.length := by rw [HL.out]; exact hlt
      obtain ⟨q, o, rfl, v0, v1⟩ := at_ipair (HA.out wr (Turn.of (F := fun i => i = b) hg.out (fun i e => by cases e))) j hkL
      have HI := Lib.hid (fun wx => isIn_any (M.getD j (0, 0)).1 n wx (HO.out _ (getD_mem M j (0, 0) hkL)))
      obtain ⟨A, A0⟩ : ∃ A, Hid (A = (M.getD j (0, 0)).1) := ⟨_, Lib.hid rfl⟩
      obtain ⟨V, V0⟩ : ∃ V, Hid (V = (M.getD j (0, 0)).2) := ⟨_, Lib.hid rfl⟩
      rw [← A0.out] at v0 HI
      rw [← V0.out] at v1
      have hg2 := Lib.hid (grown_trans hg.out (World.grownBy_alloc wr (.cells #[.int .i64 A, .int .u64 (V : Int)] 92) none))
      clear hg
      go_wp2_with fail
      refine (HI.out _).mono ?_
      rintro e w2 ⟨rfl, rfl⟩
      clear HI
      go_wp2
      go_roundw
      case rel => exact ⟨j + 1, by omega, by go_num, hg2⟩
      case measure => simp [intOf]; omega
    · have HD2 := Lib.hid (HD.out wr (h0.out.quiet hg.out) hg.out)
      clear hg HD
      go_wp2_with fail
      refine HD2.out.mono ?_
      rintro e w2 ⟨rfl, hO, _⟩
      have hO := Lib.hid hO
      go_wp2
      go_ret
      exact ⟨rfl, hO.out⟩
end Go.Proofs.YtpdofdloclmbdaaGreat
