/- Texts of ours, packed. -/
import Derived.StillTailTactics
import Derived.Laws.EntriesVeiled
import Derived.Deep.DeepCutAuto
import Derived.Deep.RegionHeld
import Derived.Test.YtpdofdloclmbdaaGreatPk27
import Derived.Test.YtpdofdloclmbdaaGreatPk18
import Derived.Test.YtpdofdloclmbdaaGreatPk16
import Derived.Test.YtpdofdloclmbdaaGreatPk5
import Derived.Test.YtpdofdloclmbdaaGreatPk22
import Derived.Test.YtpdofdloclmbdaaGreatPk14
import Derived.Test.YtpdofdloclmbdaaGreatPk15
section
/- The law's writes. -/
namespace Go.Proofs.YtpdofdloclmbdaaGreat
open Go.RowKit Go.Grommet

/-- The things in another order, some left out. -/
theorem own_permute {w0 w : World} {Ps Qs : List Pr} (f : Nat → Nat) (h : Grommet.Own w0 w Ps) (key : ∀ j, j < Qs.length → f j < Ps.length ∧ Qs[j]? = Ps[f j]?) (inj : ∀ i j, i < Qs.length → j < Qs.length → i ≠ j → f i ≠ f j) : Grommet.Own w0 w Qs := by
  obtain ⟨Fs, h1, h2, h3, h4⟩ := h
  exact ⟨fun j => Fs (f j), fun k P hk => h1 _ P (by rw [← (key k (List.getElem?_eq_some_iff.1 hk).1).2]; exact hk), fun j k hj hk hne => h2 _ _ (key j hj).1 (key k hk).1 (inj j k hj hk hne), fun k hk => h3 _ (key k hk).1, h4⟩
/-- Writes of places of two blocks, each once. -/
structure GoodW (B : Nat) (W : List (Int × Nat)) : Prop where
  at_ : ∀ p ∈ W, ∃ t, t < 16 ∧ p.1 = ((B + t : Nat) : Int)
  val : ∀ p ∈ W, p.2 < 18446744073709551616
  once : W.Pairwise (fun p q => p.1 ≠ q.1)
theorem GoodW.nil (B : Nat) : GoodW B [] := ⟨by simp, by simp, by simp⟩
/-- What a region keeps: the geometry, a put. -/
structure SPut (G : Nat) (a b c : Int) (t o : Nat) (x v : Int) (w : World) : Prop where
  geo : GeoQ G a b c w
  d0 : w.cell? ⟨t, o, none⟩ = some (.int .u8 x)
  d1 : w.cell? ⟨t, o + 1, none⟩ = some (.int .u64 v)
theorem SPut.all {G : Nat} {a b c : Int} {t o : Nat} {x v : Int} {w : World} (h : SPut G a b c t o x v w) : w.cell? ⟨G, 0, none⟩ = some (.int .i64 a) ∧ w.cell? ⟨G, 1, none⟩ = some (.int .i64 b) ∧ w.cell? ⟨G, 2, none⟩ = some (.int .i64 c) ∧ w.cell? ⟨t, o, none⟩ = some (.int .u8 x) := ⟨h.geo.cells.1, h.geo.cells.2.1, h.geo.cells.2.2, h.d0⟩
end Go.Proofs.YtpdofdloclmbdaaGreat
end
section
/- How many steps there are, of which phases. -/
namespace Go.Proofs.YtpdofdloclmbdaaGreat
open Go.RowKit Go.Grommet

/-- Each call of a begin may be done. -/
theorem ok_settle (M p N : Nat) (ps : List Nat) (h : M = N / 8) : ∀ s ∈ settleS M p ps, s.2.ok N := by
  intro s hs
  unfold settleS at hs
  rcases List.mem_append.1 hs with hs | hs
  · unfold flushS at hs
    obtain ⟨l, hl, rfl⟩ := List.mem_map.1 hs
    show l < N / 8
    have := (lines_mem.1 hl).1
    omega
  · obtain rfl := List.mem_singleton.1 hs; trivial
theorem ok_stores (p N : Nat) (Q : List (Nat × Nat)) (h : ∀ q ∈ Q, q.1 < N ∧ q.2 < 18446744073709551616) : ∀ s ∈ storesS p Q, s.2.ok N := by
  intro s hs
  unfold storesS at hs
  obtain ⟨q, hq, rfl⟩ := List.mem_map.1 hs
  exact h q hq
theorem markV_lt (xs : List Nat) : markV xs < 18446744073709551616 := by
  unfold markV
  split
  · exact Nat.mod_lt _ (by decide)
  · decide
end Go.Proofs.YtpdofdloclmbdaaGreat
end
section
/- What is seen, and sure, behind the steps of a begin. -/
namespace Go.Proofs.YtpdofdloclmbdaaGreat
open Go.RowKit Go.Grommet

def doAll (S : List (Nat × Cl)) (ws : List PW) : List PW := S.foldl (fun ws s => s.2.does ws) ws
theorem doAll_append (S T : List (Nat × Cl)) (ws : List PW) : doAll (S ++ T) ws = doAll T (doAll S ws) := List.foldl_append
theorem doAll_len (S : List (Nat × Cl)) : ∀ ws, (doAll S ws).length = ws.length := by
  induction S with
  | nil => intro ws; rfl
  | cons s S ih => intro ws; show (doAll S (s.2.does ws)).length = _; rw [ih, Cl.does_len]
end Go.Proofs.YtpdofdloclmbdaaGreat
end
section
/- Over of what is seen behind any step of a begin. -/
namespace Go.Proofs.YtpdofdloclmbdaaGreat
open Go.RowKit Go.Grommet

/-- What the law's begin is: a worker, its writes, words in which all areas are 0. -/
structure QIs (a k n : Nat) (W : List (Int × Nat)) (xs : List Nat) : Prop where
  may : mayW (a : Int) 2 10 W = true
  fine : Fine W
  len : W.length = n
  ka : k < a
  n40 : n ≤ 40
  long : 264 + 208 * a ≤ xs.length
  zero : ∀ i, 264 ≤ i → i < 264 + 208 * a → xs.getD i 0 = 0
  far : ∀ q ∈ wrQ W, 264 + 208 * a ≤ q.1
variable {a k n : Nat} {W : List (Int × Nat)} {xs : List Nat}
end Go.Proofs.YtpdofdloclmbdaaGreat
end
section
/- The law's words with writes done. -/
namespace Go.Proofs.YtpdofdloclmbdaaGreat
open Go.RowKit Go.Grommet

end Go.Proofs.YtpdofdloclmbdaaGreat
end
section
/- CommitWhole: all workers' runs among a call's own things; runs. -/
namespace Go.Proofs.YtpdofdloclmbdaaGreat
open Go.RowKit Go.Grommet

theorem own_skip {w0 w : World} {Ps Qs : List Pr} {B : Pr} (h : Grommet.Own w0 w (Ps ++ B :: Qs)) : Grommet.Own w0 w (Ps ++ Qs) := by
  refine own_permute (fun j => if j < Ps.length then j else j + 1) h (fun j hj => ?_) (fun i j hi hj hne => ?_)
  · rw [List.length_append] at hj
    by_cases h1 : j < Ps.length
    · rw [if_pos h1]
      exact ⟨by simp; omega, by rw [List.getElem?_append_left h1, List.getElem?_append_left h1]⟩
    · rw [if_neg h1]
      exact ⟨by simp; omega, by rw [List.getElem?_append_right (by omega), List.getElem?_append_right (by omega), show j + 1 - Ps.length = (j - Ps.length) + 1 from by omega, List.getElem?_cons_succ]⟩
  · show (if i < Ps.length then i else i + 1) ≠ (if j < Ps.length then j else j + 1)
    split <;> split <;> omega
set_option maxRecDepth 100000 in
set_option maxHeartbeats 1000000 in
theorem PhaseH (k R D : Nat) (a b c : Int) (A : Nat) (Bs : List Nat) (Pn : List (Cl × Value)) (p : Nat) (cl : Cl) (S : List (Nat × Cl)) (w0 w : World) (Ps : List Pr) (h : Grommet.Own w0 w Ps) (hk : Ps[k]? = some (runP R D a b c A Bs Pn ((p, cl) :: S))) :
    Calls Tryz.prog 25 #[ptr R] w fun e w' => e = .returned (.int .u8 (p : Int)) ∧ w' = w := by
  obtain ⟨g, o, cap, _, _, _, _, hc1, c5, c0, _⟩ := run_pop h k hk
  generalize S.length = n at c5
  have n0 : ((n : Int) + 1 == 0) = false := by rw [beq_eq_false_iff_ne]; omega
  unfold ptr
  clear h hk
  go_enter Tryz.func25, Tryz.ntmps25
  go_wp2
  go_ret
  exact ⟨rfl, rfl⟩
/-- A run, whatever else stands in its memory. -/
def runE (R D : Nat) (a b c : Int) (A : Nat) (S : List (Nat × Cl)) : Pr where
  holds w F := ∃ Bs Pn, (runP R D a b c A Bs Pn S).holds w F
  turn := fun ⟨Bs, Pn, h⟩ ht hn => ⟨Bs, Pn, (runP R D a b c A Bs Pn S).turn h ht hn⟩
  old := fun ⟨Bs, Pn, h⟩ => (runP R D a b c A Bs Pn S).old h
theorem run_open {w0 w : World} {Ps : List Pr} {R D : Nat} {a b c : Int} {A : Nat} {S : List (Nat × Cl)} (h : Grommet.Own w0 w Ps) (k : Nat) (hk : Ps[k]? = some (runE R D a b c A S)) : ∃ Bs Pn, Grommet.Own w0 w (Ps.set k (runP R D a b c A Bs Pn S)) := by
  obtain ⟨F, ⟨Bs, Pn, hR⟩, h2⟩ := h.take k hk
  exact ⟨Bs, Pn, h2 w _ ⟨F, hR, fun i hi => .inl hi, Turn.refl _ _⟩⟩
theorem run_close {w0 w : World} {Ps : List Pr} {R D : Nat} {a b c : Int} {A : Nat} {Bs : List Nat} {Pn : List (Cl × Value)} {S : List (Nat × Cl)} (h : Grommet.Own w0 w Ps) (k : Nat) (hk : Ps[k]? = some (runP R D a b c A Bs Pn S)) : Grommet.Own w0 w (Ps.set k (runE R D a b c A S)) := by
  obtain ⟨F, hR, h2⟩ := h.take k hk
  exact h2 w _ ⟨F, ⟨Bs, Pn, hR⟩, fun i hi => .inl hi, Turn.refl _ _⟩
theorem LeftV (k R D : Nat) (a b c : Int) (A : Nat) (S : List (Nat × Cl)) (w0 w : World) (Ps : List Pr) (h : Grommet.Own w0 w Ps) (hk : Ps[k]? = some (runE R D a b c A S)) :
    Calls Tryz.prog 27 #[ptr R] w fun e w' => e = .returned (.int .i64 (S.length : Int)) ∧ w' = w := by
  obtain ⟨Bs, Pn, hO⟩ := run_open h k hk
  exact LeftH k R D a b c A Bs Pn S w0 w _ hO (List.getElem?_set_self (List.getElem?_eq_some_iff.1 hk).1)
theorem StepV (k j R D : Nat) (a b c : Int) (A : Nat) (p : Nat) (cl : Cl) (S : List (Nat × Cl)) (ws : List PW) (N : Nat) (w0 w : World) (Ps : List Pr) (h : Grommet.Own w0 w Ps) (hk : Ps[k]? = some (runE R D a b c A ((p, cl) :: S))) (hj : Ps[j]? = some (devP D ws)) (hjk : j ≠ k) (hN : ws.length = 8 * N) (hok : cl.ok ws.length) :
    Calls Tryz.prog 23 #[ptr R] w fun e w' => e = .returned (.tuple #[.int .u8 (p : Int), .int .i64 0]) ∧ Grommet.Own w0 w' ((Ps.set k (runE R D a b c A S)).set j (devP D (cl.does ws))) := by
  have hkl := (List.getElem?_eq_some_iff.1 hk).1
  have hjl := (List.getElem?_eq_some_iff.1 hj).1
  obtain ⟨Bs, Pn, hO⟩ := run_open h k hk
  refine (StepH k j R D a b c A Bs Pn p cl S ws N w0 w _ hO (List.getElem?_set_self hkl) (by rw [List.getElem?_set_ne (fun e => hjk e.symm)]; exact hj) hjk hN hok).mono ?_
  rintro e w' ⟨rfl, Pn', hO'⟩
  refine ⟨rfl, ?_⟩
  rw [List.set_set] at hO'
  have := run_close hO' k (by rw [List.getElem?_set_ne hjk, List.getElem?_set_self hkl])
  rw [List.set_comm _ _ hjk, List.set_set] at this
  exact this
theorem PhaseV (k R D : Nat) (a b c : Int) (A : Nat) (S : List (Nat × Cl)) (w0 w : World) (Ps : List Pr) (h : Grommet.Own w0 w Ps) (hk : Ps[k]? = some (runE R D a b c A S)) :
    Calls Tryz.prog 25 #[ptr R] w fun e w' => e = .returned (.int .u8 ((match S with | [] => 0 | s :: _ => s.1 : Nat) : Int)) ∧ w' = w := by
  have hkl := (List.getElem?_eq_some_iff.1 hk).1
  obtain ⟨Bs, Pn, hO⟩ := run_open h k hk
  have hk2 := List.getElem?_set_self (a := runP R D a b c A Bs Pn S) hkl
  cases S with
  | nil => exact PhaseE k R D a b c A Bs Pn w0 w _ hO hk2
  | cons s S => exact PhaseH k R D a b c A Bs Pn s.1 s.2 S w0 w _ hO hk2
theorem BeginV (k m R D : Nat) (a b c : Int) (A : Nat) (ad : Option Addr) (n cap : Nat) (W : List (Int × Nat)) (M : Nat) (w0 w : World) (Ps : List Pr) (h : Grommet.Own w0 w Ps) (hk : Ps[k]? = some (runE R D a b c A [])) (hm : Ps[m]? = some (rowP 92 2 (.slice ad n cap) n (icells W))) (hmk : m ≠ k)
    (hn : W.length = n) (hmay : mayW a b c W = true) (hv : ∀ x ∈ W, x.2 < 18446744073709551616) (hW : ∀ x ∈ W, 0 ≤ x.1 ∧ x.1.toNat / 8 < M ∧ x.1 < 1000000) (hA : (A + 8 + 2 + 2 * n) / 8 < M) (hsm : A + 1000 < 1000000) (hM : M ≤ 10000) :
    Calls Tryz.prog 13 #[ptr R, .slice ad n cap] w fun e w' => e = .returned (.int .i64 0) ∧ Grommet.Own w0 w' (Ps.set k (runE R D a b c A (beginS M A W))) := by
  have hkl := (List.getElem?_eq_some_iff.1 hk).1
  obtain ⟨Bs, Pn, hO⟩ := run_open h k hk
  refine (BeginH k m R D a b c A Bs Pn ad n cap W M w0 w _ hO (List.getElem?_set_self hkl) (by rw [List.getElem?_set_ne (fun e => hmk e.symm)]; exact hm) hmk hn hmay hv hW hA hsm hM).mono ?_
  rintro e w' ⟨rfl, Bs', Pn', hO'⟩
  rw [List.set_set] at hO'
  have := run_close hO' k (List.getElem?_set_self hkl)
  rw [List.set_set] at this
  exact ⟨rfl, this⟩
/-- What a run that resumes has to do. -/
def goS (M A : Nat) (a b c : Int) (xs : List Nat) : List (Nat × Cl) := if xs.getD A 0 = 0 then [] else resS M A a b c xs
def ptrsL (Rs : Nat → Nat) (t : Nat) : List Value := (List.range t).map fun k => ptr (Rs k)
theorem ptrsL_snoc (Rs : Nat → Nat) (t : Nat) : ptrsL Rs (t + 1) = ptrsL Rs t ++ [ptr (Rs t)] := by unfold ptrsL; rw [List.range_succ, List.map_append]; rfl
theorem ptrsL_get (Rs : Nat → Nat) {t k : Nat} (hk : k < t) : (ptrsL Rs t)[k]? = some (ptr (Rs k)) := by unfold ptrsL; rw [List.getElem?_map, List.getElem?_range hk]; rfl
theorem ptrsL_congr {Rs Rs' : Nat → Nat} {t : Nat} (h1 : ∀ k, k < t → Rs k = Rs' k) : ptrsL Rs t = ptrsL Rs' t := by
  unfold ptrsL
  apply List.map_congr_left
  intro k hk
  rw [h1 k (List.mem_range.1 hk)]
theorem infoRun : (Tryz.prog.info? 48).map (fun i => (i.zero, i.size, i.bytes)) = some (some (.pointer none), 1, 8) := by kernel_rfl
theorem ptr_added {w0 w : World} {Qs : List Pr} (h : Grommet.Own w0 w Qs) (k : Nat) {ad : Option Addr} {n cap : Nat} {xs : List Value} (hk : Qs[k]? = some (rowP 48 1 (.slice ad n cap) n xs)) (R : Nat) (ty : TypeId) (hn : n ≤ 1000) :
    ∃ ad' cap' w2, (Builtin.append_ #[35, 35] ty #[.slice ad n cap, .slice (some ⟨w.heap.size, 0, none⟩) 1 1]).run Tryz.prog (w.alloc (.cells #[ptr R] 48)) = .ok (.slice ad' (n + 1) cap') w2 ∧ Grommet.Own w0 w2 (Qs.set k (rowP 48 1 (.slice ad' (n + 1) cap') (n + 1) (xs ++ [ptr R]))) := by
  obtain ⟨i0, hi, hz0, hz1, hz2⟩ := info_parts infoRun
  have hO1 := h.quiet (World.grownBy_alloc w (.cells #[ptr R] 48) none)
  have hrow := Own.row hO1 k hk
  have hnews : ∀ j u, [ptr R][j]? = some u → (w.alloc (.cells #[ptr R] 48)).cell? ((⟨w.heap.size, 0, none⟩ : Addr).add j) = some u := (at_of_row (heap_alloc_new w (.cells #[ptr R] 48))).some
  have h1 : ∀ u ∈ [ptr R], u.oneCell' = true := by intro u hu; simp at hu; subst hu; rfl
  obtain ⟨v', w', hr, h2, h3, h4⟩ := run_append_blk (P := Tryz.prog) (w.alloc (.cells #[ptr R] 48)) 0 35 ty 48 i0 (.pointer none) 1 8 Tryz.underlying35 hi hz0 hz1 hz2 rfl (by decide) (.slice ad n cap) n xs hrow ⟨w.heap.size, 0, none⟩ 1 1 [ptr R] rfl hnews h1 (by unfold maxLen; omega) (by omega) (Nat.zero_le _)
  obtain ⟨ad', cap', rfl, _⟩ := row_slice h2
  exact ⟨ad', cap', w', hr, Own.append hO1 k hk h2 h3 h4⟩
end Go.Proofs.YtpdofdloclmbdaaGreat
end
section
/- CommitPlays: the document's run in memory: its steps as a row of its own. -/
namespace Go.Proofs.YtpdofdloclmbdaaGreat
open Go.RowKit Go.Grommet
set_option linter.unusedVariables false

/-- A step of the document's, in cells. -/
def stepV : Nat × Cl → List Value
  | (p, .store a v) => [.int .i64 (p : Int), .int .i64 0, .int .i64 (a : Int), .int .u64 (v : Int)]
  | (p, .flush l) => [.int .i64 (p : Int), .int .i64 1, .int .i64 (l : Int), .int .u64 0]
  | (p, .fence) => [.int .i64 (p : Int), .int .i64 2, .int .i64 0, .int .u64 0]
def stepsV (S : List (Nat × Cl)) : List Value := S.flatMap stepV
theorem stepV_len : ∀ s, (stepV s).length = 4
  | (_, .store _ _) => rfl
  | (_, .flush _) => rfl
  | (_, .fence) => rfl
theorem stepV_one : ∀ s, ∀ u ∈ stepV s, u.oneCell' = true
  | (_, .store _ _) => by simp [stepV, Value.oneCell']
  | (_, .flush _) => by simp [stepV, Value.oneCell']
  | (_, .fence) => by simp [stepV, Value.oneCell']
theorem stepsV_len (S : List (Nat × Cl)) : (stepsV S).length = S.length * 4 := by
  induction S with
  | nil => rfl
  | cons s S ih => show (stepV s ++ stepsV S).length = _; rw [List.length_append, ih, stepV_len, List.length_cons]; omega
theorem stepsV_one (S : List (Nat × Cl)) : ∀ u ∈ stepsV S, u.oneCell' = true := by
  intro u hu
  obtain ⟨s, _, h⟩ := List.mem_flatMap.1 hu
  exact stepV_one s u h
theorem stepsV_append (S T : List (Nat × Cl)) : stepsV (S ++ T) = stepsV S ++ stepsV T := List.flatMap_append
theorem stepsV_singleton (s : Nat × Cl) : stepsV [s] = stepV s := by simp [stepsV]

/-- A row, from some place of a block on. -/
def RowZ (w : World) (e : TypeId) (z : Nat) (v : Value) (n : Nat) (xs : List Value) : Prop :=
  xs.length = n * z ∧ ((v = .slice none 0 0 ∧ n = 0) ∨ ∃ g o cap cur, v = .slice (some ⟨g, o, none⟩) n cap ∧ w.heap[g]? = some (.cells cur e (0, 0)) ∧ n ≤ cap ∧ o + cap * z ≤ cur.size ∧ ∀ (j : Nat) (x : Value), xs[j]? = some x → cur[o + j]? = some x)
theorem RowZ.turn {w w' : World} {e : TypeId} {z : Nat} {v : Value} {n : Nat} {xs : List Value} {H : Nat → Prop} (h : RowZ w e z v n xs) (ht : Turn H w w') (hn : ∀ g, v.ownBlock = some g → ¬ H g) : RowZ w' e z v n xs := by
  refine ⟨h.1, ?_⟩
  rcases h.2 with h | ⟨g, o, cap, cur, rfl, hg, r⟩
  · exact .inl h
  · exact .inr ⟨g, o, cap, cur, rfl, ht.obj hg (hn g rfl), r⟩
theorem RowZ.block {w : World} {e : TypeId} {z : Nat} {v : Value} {n : Nat} {xs : List Value} (h : RowZ w e z v n xs) : ∀ g, v.ownBlock = some g → ∃ cur, w.heap[g]? = some (.cells cur e (0, 0)) := by
  intro g hg
  rcases h.2 with ⟨rfl, _⟩ | ⟨g', o, cap, cur, rfl, hg', r⟩
  · cases hg
  · cases hg; exact ⟨cur, hg'⟩
theorem RowZ.of {w : World} {e : TypeId} {z base n : Nat} {v : Value} {xs : List Value} (h : w.ownsRow base e z v n xs) : RowZ w e z v n xs := by
  obtain ⟨hl, h | ⟨g, cap, cur, rfl, _, hh, hn, _, hc, htk⟩⟩ := h
  · exact ⟨hl, .inl h⟩
  · refine ⟨hl, .inr ⟨g, 0, cap, cur, rfl, hh, hn, by omega, fun j x hj => ?_⟩⟩
    have hj' := hj
    rw [← htk, List.getElem?_take] at hj'
    split at hj'
    · rw [Nat.zero_add, ← Array.getElem?_toList]; exact hj'
    · cases hj'
theorem cells_set (g : Nat) (e : TypeId) : ∀ (vs : List Value) (o : Nat) (w : World) (cur : Array Value), w.heap[g]? = some (.cells cur e (0, 0)) →
    ∃ cur', (w.setCells g o vs).heap[g]? = some (.cells cur' e (0, 0)) ∧ cur'.size = cur.size ∧ (∀ i, ¬ (o ≤ i ∧ i < o + vs.length) → cur'[i]? = cur[i]?) ∧ (o + vs.length ≤ cur.size → ∀ j, j < vs.length → cur'[o + j]? = vs[j]?) ∧ w.grownBy (w.setCells g o vs) (some g)
  | [], o, w, cur, h => ⟨cur, h, rfl, fun _ _ => rfl, fun _ j hj => by simp at hj, World.grownBy.refl _ _⟩
  | v :: vs, o, w, cur, h => by
    have h1 := heap_setCell_at (w := w) (b := g) (o := o) h v
    obtain ⟨cur', h2, h3, h4, h5, h6⟩ := cells_set g e vs (o + 1) (w.setCell ⟨g, o, none⟩ v) _ h1
    refine ⟨cur', h2, by rw [h3, Array.size_setIfInBounds], fun i hi => ?_, fun ho j hj => ?_, grown_trans (grown_setCell w ⟨g, o, none⟩ v) h6⟩
    · simp only [List.length_cons] at hi
      rw [h4 i (by omega), Array.getElem?_setIfInBounds_ne (by omega)]
    · simp only [List.length_cons] at ho hj
      cases j with
      | zero =>
        have := h4 o (by omega)
        rw [Nat.add_zero, this, Array.getElem?_setIfInBounds_self_of_lt (by omega)]; rfl
      | succ j =>
        have := h5 (by rw [Array.size_setIfInBounds]; omega) j (by omega)
        rw [show o + (j + 1) = o + 1 + j from by omega, this]; rfl
set_option maxRecDepth 100000 in
/-- More behind such a row. -/
theorem rowZ_append (w : World) (t ty e : TypeId) (i0 : TypeInfo) (zv : Value) (z bytes : Nat) (hu : Tryz.prog.underlying t = some (.slice e)) (hi : Tryz.prog.info? e = some i0) (hz0 : i0.zero = some zv) (hz1 : i0.size = z) (hz2 : i0.bytes = bytes) (hzs : zv.cells.size = z) (hz : 0 < z) (v : Value) (n : Nat) (xs : List Value) (h : RowZ w e z v n xs)
    (a : Addr) (m c : Nat) (news : List Value) (hl : news.length = m * z) (hnews : ∀ j u, news[j]? = some u → w.cell? (a.add j) = some u) (h1 : ∀ u ∈ news, u.oneCell' = true) (hm : n + m ≤ 1000000) (hb : (n + m) * bytes ≤ 140737488355328) :
    ∃ v' w', (Builtin.append_ #[t, t] ty #[v, .slice (some a) m c]).run Tryz.prog w = .ok v' w' ∧ RowZ w' e z v' (n + m) (xs ++ news) ∧ w.grownBy w' v.ownBlock ∧ (∀ g, v'.ownBlock = some g → v.ownBlock = some g ∨ (w.heap.size ≤ g ∧ g < w'.heap.size)) := by
  obtain ⟨hxl, h⟩ := h
  have hL1 : (xs ++ news).length = (n + m) * z := by rw [List.length_append, hxl, hl, Nat.add_mul]
  have hlt : ∀ (w' : World) (v' : Value) (k : Nat) (ys : List Value), w'.ownsRow w.heap.size e z v' k ys → ∀ g, v'.ownBlock = some g → v.ownBlock = some g ∨ (w.heap.size ≤ g ∧ g < w'.heap.size) := fun w' v' k ys hr g hg => .inr ⟨(hr.lt g hg).1, row_old hr g hg⟩
  rcases h with ⟨rfl, rfl⟩ | ⟨g, o, cap, cur, rfl, hg, hlc, hc, hx⟩
  · obtain rfl := List.eq_nil_of_length_eq_zero (l := xs) (by simpa using hxl)
    have hown : w.ownsRow w.heap.size e z (.slice none 0 0) 0 [] := ⟨by simp, .inl ⟨rfl, rfl⟩⟩
    obtain ⟨v', w', hr, h2, h3, h4⟩ := run_append_blk (P := Tryz.prog) w w.heap.size t ty e i0 zv z bytes hu hi hz0 hz1 hz2 hzs hz _ 0 [] hown a m c news hl hnews h1 (by unfold maxLen; omega) hb (Nat.le_refl _)
    exact ⟨v', w', hr, RowZ.of h2, h3, hlt w' v' _ _ h2⟩
  · by_cases hroom : n + m ≤ cap
    · have hmz : (n + m) * z ≤ cap * z := Nat.mul_le_mul_right _ hroom
      rw [Nat.add_mul] at hmz
      have hnl : o + n * z + news.length ≤ cur.size := by omega
      have hcell : ∀ j, j < news.length → (w.cell? ⟨g, o + n * i0.size + j, none⟩).isSome = true := by
        intro j hj
        rw [hz1]
        have hj2 : o + n * z + j < cur.size := by omega
        simp [World.cell?, hg, hj2]
      have hfr : ∀ j, j < news.length → w.frozen? ⟨g, o + n * i0.size + j, none⟩ = false := by
        intro j hj
        simp [World.frozen?, hg]
      have hr := run_append_room_cells (P := Tryz.prog) w (ty := ty) t e i0 hu hi g o n cap a m c news (by rw [hz1]; exact hl) hnews h1 hroom hcell hfr
      rw [hz1] at hr
      obtain ⟨cur', k1, k2, k3, k4, k5⟩ := cells_set g e news (o + n * z) w cur hg
      refine ⟨_, _, hr, ⟨hL1, .inr ⟨g, o, cap, cur', rfl, k1, hroom, by rw [k2]; exact hc, fun j y hj => ?_⟩⟩, k5, fun g' hg' => .inl hg'⟩
      by_cases hjl : j < xs.length
      · rw [List.getElem?_append_left hjl] at hj
        rw [k3 _ (by omega)]
        exact hx j y hj
      · have hj' := (List.getElem?_eq_some_iff.1 hj).1
        rw [List.length_append] at hj'
        rw [List.getElem?_append_right (by omega)] at hj
        rw [← hj, ← k4 hnl (j - xs.length) (by omega)]
        congr 1
        omega
    · have ha : ∀ j u, xs[j]? = some u → w.cell? ((⟨g, o, none⟩ : Addr).add j) = some u := by
        intro j u hj
        rw [Addr.add_lit]
        have := hx j u hj
        simp [World.cell?, hg, this]
      obtain ⟨v', w', hr, h2, h3⟩ := run_append_arg_grows (P := Tryz.prog) w (ty := ty) t e i0 zv z bytes hu hi hz0 hz1 hz2 hzs hz ⟨g, o, none⟩ n cap xs hxl ha a m c news hl hnews (by omega) (by unfold maxLen; omega) hb
      exact ⟨v', w', hr, RowZ.of h2, grown_wide h3, hlt w' v' _ _ h2⟩

/-- The document's run. -/
def rcells (D : Nat) (a b c k : Int) (v : Value) : Array Value := #[ptr D, .int .i64 a, .int .i64 b, .int .i64 c, .int .i64 k, v]
def refP (R D : Nat) (a b c k : Int) (S : List (Nat × Cl)) : Pr where
  holds w F := ∃ v, w.heap[R]? = some (.cells (rcells D a b c k v) 58 (0, 0)) ∧ RowZ w 115 4 v S.length (stepsV S) ∧ F R ∧ (∀ g, v.ownBlock = some g → F g) ∧ ∀ i, F i → i < w.heap.size
  turn := fun ⟨v, h1, h2, h3, h4, h5⟩ ht hn => ⟨v, ht.obj h1 (hn _ h3), h2.turn ht (fun g hg => hn _ (h4 g hg)), h3, h4, fun i hi => Nat.lt_of_lt_of_le (h5 i hi) ht.size⟩
  old := fun ⟨_, _, _, _, _, h⟩ => h
theorem ref_cells {w0 w : World} {Ps : List Pr} {R D : Nat} {a b c k : Int} {S : List (Nat × Cl)} (h : Grommet.Own w0 w Ps) (j : Nat) (hj : Ps[j]? = some (refP R D a b c k S)) :
    w.cell? ⟨R, 0, none⟩ = some (ptr D) ∧ w.cell? ⟨R, 1, none⟩ = some (.int .i64 a) ∧ w.cell? ⟨R, 2, none⟩ = some (.int .i64 b) ∧ w.cell? ⟨R, 3, none⟩ = some (.int .i64 c) ∧ w.cell? ⟨R, 4, none⟩ = some (.int .i64 k) ∧ (∃ ad cap, w.cell? ⟨R, 5, none⟩ = some (.slice ad S.length cap)) ∧ w.frozen? ⟨R, 5, none⟩ = false := by
  obtain ⟨F, v, h1, h2, _⟩ := h.get j hj
  unfold rcells at h1
  have hv : ∃ ad cap, v = .slice ad S.length cap := by
    rcases h2.2 with ⟨rfl, h0⟩ | ⟨g, o, cap, cur, rfl, _⟩
    · exact ⟨none, 0, by rw [h0]⟩
    · exact ⟨_, _, rfl⟩
  obtain ⟨ad, cap, rfl⟩ := hv
  exact ⟨by simp [World.cell?, h1], by simp [World.cell?, h1], by simp [World.cell?, h1], by simp [World.cell?, h1], by simp [World.cell?, h1], ⟨ad, cap, by simp [World.cell?, h1]⟩, by simp [World.frozen?, h1]⟩
/-- A new one. -/
theorem ref_new {w0 w : World} {Ps : List Pr} (h : Grommet.Own w0 w Ps) (d : Nat) (a b c k : Int) : Grommet.Own w0 (w.alloc (.cells #[ptr d, .int .i64 a, .int .i64 b, .int .i64 c, .int .i64 k, .slice none 0 0] 58)) (Ps ++ [refP w.heap.size d a b c k []]) :=
  h.add (P := refP w.heap.size d a b c k []) (F := fun i => i = w.heap.size) ⟨.slice none 0 0, heap_alloc_new w _, ⟨rfl, .inl ⟨rfl, rfl⟩⟩, rfl, fun g hg => (by cases hg), fun i hi => by rw [hi]; simp⟩ (fun i hi => by rw [hi]; exact Nat.le_refl _) (World.grownBy_alloc w _ none)
/-- All its steps are dropped. -/
theorem ref_nil {w0 w : World} {Ps : List Pr} {R D : Nat} {a b c k : Int} {S : List (Nat × Cl)} (h : Grommet.Own w0 w Ps) (j : Nat) (hj : Ps[j]? = some (refP R D a b c k S)) : Grommet.Own w0 (w.setCell ⟨R, 5, none⟩ (.slice none 0 0)) (Ps.set j (refP R D a b c k [])) := by
  obtain ⟨F, ⟨v, h1, h2, h3, h4, h5⟩, hback⟩ := h.take j hj
  have hb := heap_setCell_at (o := 5) h1 (.slice none 0 0)
  refine hback _ _ ⟨F, ⟨.slice none 0 0, hb, ⟨rfl, .inl ⟨rfl, rfl⟩⟩, h3, fun g hg => (by cases hg), fun i hi => by simpa [World.setCell] using h5 i hi⟩, fun i hi => .inl hi, Turn.of (F := F) (grown_setCell w ⟨R, 5, none⟩ _) (fun i e => by cases e; exact h3)⟩
theorem infoSt : (Tryz.prog.info? 115).map (fun i => (i.zero, i.size, i.bytes)) = some (some (.agg #[.int .i64 0, .int .i64 0, .int .i64 0, .int .u64 0]), 4, 32) := by kernel_rfl
set_option maxRecDepth 100000 in
/-- More steps behind its own, stored. -/
theorem ref_append {w0 w : World} {Ps : List Pr} {R D : Nat} {a b c k : Int} {S : List (Nat × Cl)} (h : Grommet.Own w0 w Ps) (j : Nat) (hj : Ps[j]? = some (refP R D a b c k S)) (x : Addr) (m cp : Nat) (T : List (Nat × Cl)) (hT : T.length = m) (ty : TypeId) (hm : S.length + m ≤ 1000000) (hnews : ∀ i u, (stepsV T)[i]? = some u → w.cell? (x.add i) = some u) :
    ∃ ad cap ad' cap' w2, w.cell? ⟨R, 5, none⟩ = some (.slice ad S.length cap) ∧ (Builtin.append_ #[56, 56] ty #[.slice ad S.length cap, .slice (some x) m cp]).run Tryz.prog w = .ok (.slice ad' (S.length + m) cap') w2 ∧ w2.cell? ⟨R, 5, none⟩ = some (.slice ad S.length cap) ∧ w2.frozen? ⟨R, 5, none⟩ = false ∧
      Grommet.Own w0 (w2.setCell ⟨R, 5, none⟩ (.slice ad' (S.length + m) cap')) (Ps.set j (refP R D a b c k (S ++ T))) := by
  obtain ⟨i0, hi, hz0, hz1, hz2⟩ := info_parts infoSt
  obtain ⟨F, ⟨v, h1, h2, h3, h4, h5⟩, hback⟩ := h.take j hj
  have hv : ∃ ad cap, v = .slice ad S.length cap := by
    rcases h2.2 with ⟨rfl, h0⟩ | ⟨g, o, cap, cur, rfl, _⟩
    · exact ⟨none, 0, by rw [h0]⟩
    · exact ⟨_, _, rfl⟩
  obtain ⟨ad, cap, rfl⟩ := hv
  obtain ⟨v', w2, hr, hrow, hg, hnew⟩ := rowZ_append w 56 ty 115 i0 (.agg #[.int .i64 0, .int .i64 0, .int .i64 0, .int .u64 0]) 4 32 Tryz.underlying56 hi hz0 hz1 hz2 rfl (by decide) _ S.length (stepsV S) h2 x m cp (stepsV T) (by rw [stepsV_len, hT]) hnews (stepsV_one T) hm (by omega)
  have hSl : (S ++ T).length = S.length + m := by rw [List.length_append, hT]
  have hv' : ∃ ad' cap', v' = .slice ad' (S.length + m) cap' := by
    rcases hrow.2 with ⟨rfl, h0⟩ | ⟨g, o, cap, cur, rfl, _⟩
    · exact ⟨none, 0, by rw [h0]⟩
    · exact ⟨_, _, rfl⟩
  obtain ⟨ad', cap', rfl⟩ := hv'
  have hRg : ∀ g, (Value.slice ad S.length cap).ownBlock = some g → g ≠ R := by
    intro g hg' e
    subst e
    obtain ⟨cur, hc⟩ := h2.block _ hg'
    rw [h1] at hc
    simp at hc
  have hRlt := (Array.getElem?_eq_some_iff.1 h1).1
  have hb2 := (hg.block R hRlt (fun e => hRg R e.symm rfl)).trans h1
  have hb3 := heap_setCell_at (o := 5) hb2 (.slice ad' (S.length + m) cap')
  have hRn : ∀ g, (Value.slice ad' (S.length + m) cap').ownBlock = some g → g ≠ R := by
    intro g hg' e
    rcases hnew g hg' with e2 | ⟨e2, _⟩
    · exact hRg g e2 e
    · omega
  have ht2 : Turn (fun i => (Value.slice ad S.length cap).ownBlock = some i ∨ i = R) w (w2.setCell ⟨R, 5, none⟩ (.slice ad' (S.length + m) cap')) := (Turn.of (F := fun i => (Value.slice ad S.length cap).ownBlock = some i ∨ i = R) hg (fun i e => .inl e)).trans (Turn.of (F := fun i => i = R) (grown_setCell w2 ⟨R, 5, none⟩ _) (fun i e => by cases e; rfl)) (fun i e => .inl (.inr e))
  unfold rcells at h1 hb2
  refine ⟨ad, cap, ad', cap', w2, by simp [World.cell?, h1], hr, by simp [World.cell?, hb2], by simp [World.frozen?, hb2], ?_⟩
  refine hback _ _ ⟨fun i => F i ∨ (w.heap.size ≤ i ∧ i < w2.heap.size), ⟨.slice ad' (S.length + m) cap', hb3, ?_, .inl h3, fun g hg' => ?_, fun i hi => ?_⟩, fun i hi => hi.imp id (fun x => x.1), ht2.mono (fun i hi => by
    rcases hi with hi | rfl
    · exact .inl (h4 i hi)
    · exact .inl h3)⟩
  · rw [hSl, stepsV_append]
    exact hrow.turn (Turn.of (F := fun i => i = R) (grown_setCell w2 ⟨R, 5, none⟩ _) (fun i e => by cases e; rfl)) (fun g hg' e => hRn g hg' e)
  · rcases hnew g hg' with e | e
    · exact .inl (h4 g e)
    · exact .inr e
  · have hsz : (w2.setCell ⟨R, 5, none⟩ (.slice ad' (S.length + m) cap')).heap.size = w2.heap.size := by simp [World.setCell]
    rw [hsz]
    rcases hi with hi | hi
    · exact Nat.lt_of_lt_of_le (h5 i hi) hg.size
    · exact hi.2
/-- The first step goes. -/
theorem slice_tail4 (q o n cap : Nat) : ∃ ad', ((ad' = some (⟨q, o, none⟩ : Addr) ∧ cap = 1) ∨ ad' = some ⟨q, o + 4, none⟩) ∧ ∀ w, (Instr.slice 56 (.slice (some ⟨q, o, none⟩) (n + 1) cap) (some (.int .i64 1)) none none).run Tryz.prog w = .ok (.slice ad' n (cap - 1)) w := by
  have hT := Tryz.underlying56
  have he : Tryz.prog.elem 56 = 115 := elem_of hT
  refine ⟨if cap = 1 then some ⟨q, o, none⟩ else some ⟨q, o + 4, none⟩, ?_, ?_⟩
  · by_cases h : cap = 1
    · rw [if_pos h]; exact .inl ⟨rfl, h⟩
    · rw [if_neg h]; exact .inr rfl
  · intro w
    have ht : Tryz.prog.underlying 56 = some (.slice (Tryz.prog.elem 56)) := by rw [he]; exact hT
    rw [run_slice_l (a := some ⟨q, o, none⟩) (ht := ht) (h0 := by omega) (h1 := by omega), he, Tryz.sizeOf115]
    by_cases h : cap = 1
    · simp [Result.andThen, sliced, h]
    · simp [Result.andThen, sliced, h, Addr.add_lit]
theorem ref_pop {w0 w : World} {Ps : List Pr} {R D : Nat} {a b c k : Int} {S : List (Nat × Cl)} {s : Nat × Cl} (h : Grommet.Own w0 w Ps) (j : Nat) (hj : Ps[j]? = some (refP R D a b c k (s :: S))) :
    ∃ g o cap ad', 1 ≤ cap ∧ S.length + 1 ≤ cap ∧ w.cell? ⟨R, 5, none⟩ = some (.slice (some ⟨g, o, none⟩) (S.length + 1) cap) ∧ w.frozen? ⟨R, 5, none⟩ = false ∧ (∀ i u, (stepV s)[i]? = some u → w.cell? ⟨g, o + i, none⟩ = some u) ∧
      (∀ wx, (Instr.slice 56 (.slice (some ⟨g, o, none⟩) (S.length + 1) cap) (some (.int .i64 1)) none none).run Tryz.prog wx = .ok (.slice ad' S.length (cap - 1)) wx) ∧
      Grommet.Own w0 (w.setCell ⟨R, 5, none⟩ (.slice ad' S.length (cap - 1))) (Ps.set j (refP R D a b c k S)) := by
  obtain ⟨F, ⟨v, h1, h2, h3, h4, h5⟩, hback⟩ := h.take j hj
  obtain ⟨hl, ⟨_, h0⟩ | ⟨g, o, cap, cur, rfl, hg, hlc, hc, hx⟩⟩ := h2
  · simp at h0
  have hlc' : S.length + 1 ≤ cap := by simpa using hlc
  obtain ⟨ad', had, hsl⟩ := slice_tail4 g o S.length cap
  have hRg : g ≠ R := by
    intro e
    subst e
    rw [h1] at hg
    simp at hg
  have hown : ∀ i, (Value.slice ad' S.length (cap - 1)).ownBlock = some i → i = g := by
    intro i hi
    rcases had with ⟨rfl, _⟩ | rfl
    · cases hi; rfl
    · cases hi; rfl
  have hb := heap_setCell_at (o := 5) h1 (.slice ad' S.length (cap - 1))
  have hx0 : ∀ i u, (stepV s)[i]? = some u → w.cell? ⟨g, o + i, none⟩ = some u := by
    intro i u hi
    have hi4 := (List.getElem?_eq_some_iff.1 hi).1
    have := hx i u (by show (stepV s ++ stepsV S)[i]? = _; rw [List.getElem?_append_left hi4]; exact hi)
    simp [World.cell?, hg, this]
  have hrow : RowZ w 115 4 (.slice ad' S.length (cap - 1)) S.length (stepsV S) := by
    refine ⟨stepsV_len S, ?_⟩
    rcases had with ⟨rfl, rfl⟩ | rfl
    · obtain h00 : S.length = 0 := by omega
      obtain rfl := List.eq_nil_of_length_eq_zero h00
      exact .inr ⟨g, o, 0, cur, rfl, hg, Nat.le_refl _, by omega, fun i x hi => by simp [stepsV] at hi⟩
    · refine .inr ⟨g, o + 4, cap - 1, cur, rfl, hg, by omega, by omega, fun i x hi => ?_⟩
      have := hx (4 + i) x (by show (stepV s ++ stepsV S)[4 + i]? = _; rw [List.getElem?_append_right (by rw [stepV_len]; omega), stepV_len, Nat.add_sub_cancel_left]; exact hi)
      rw [← this]; congr 1; omega
  unfold rcells at h1
  refine ⟨g, o, cap, ad', by omega, hlc', by simp [World.cell?, h1], by simp [World.frozen?, h1], hx0, hsl, ?_⟩
  refine hback _ _ ⟨F, ⟨.slice ad' S.length (cap - 1), hb, hrow.turn (Turn.of (F := fun i => i = R) (grown_setCell w ⟨R, 5, none⟩ _) (fun i e => by cases e; rfl)) (fun i hi e => hRg ((hown i hi).symm.trans e)), h3, fun i hi => (by rw [hown i hi]; exact h4 g rfl), fun i hi => by simpa [World.setCell] using h5 i hi⟩, fun i hi => .inl hi, Turn.of (F := F) (grown_setCell w ⟨R, 5, none⟩ _) (fun i e => by cases e; exact h3)⟩
end Go.Proofs.YtpdofdloclmbdaaGreat
end
section
/- CommitPlays: the document's rows of steps: flushes. -/
namespace Go.Proofs.YtpdofdloclmbdaaGreat
open Go.RowKit Go.Grommet
set_option linter.unusedVariables false

def stepP (g m cap : Nat) (T : List (Nat × Cl)) : Pr := rowP 115 4 (.slice (some ⟨g, 0, none⟩) m cap) m (stepsV T)
set_option maxRecDepth 100000 in
/-- More steps behind a row. -/
theorem steps_added {w0 w : World} {Qs : List Pr} (h : Grommet.Own w0 w Qs) (k : Nat) {ad : Option Addr} {n cap : Nat} {S : List (Nat × Cl)} (hk : Qs[k]? = some (rowP 115 4 (.slice ad n cap) n (stepsV S))) (x : Addr) (m c : Nat) (T : List (Nat × Cl)) (hT : T.length = m) (ty : TypeId) (hn : n + m ≤ 1000000) (hm : 0 < m)
    (hnews : ∀ i u, (stepsV T)[i]? = some u → w.cell? (x.add i) = some u) :
    ∃ g cap' w2, (Builtin.append_ #[56, 56] ty #[.slice ad n cap, .slice (some x) m c]).run Tryz.prog w = .ok (.slice (some ⟨g, 0, none⟩) (n + m) cap') w2 ∧ Grommet.Own w0 w2 (Qs.set k (stepP g (n + m) cap' (S ++ T))) := by
  obtain ⟨i0, hi, hz0, hz1, hz2⟩ := info_parts infoSt
  have hrow := Own.row h k hk
  obtain ⟨v', w', hr, h2, h3, h4⟩ := run_append_blk (P := Tryz.prog) w 0 56 ty 115 i0 (.agg #[.int .i64 0, .int .i64 0, .int .i64 0, .int .u64 0]) 4 32 Tryz.underlying56 hi hz0 hz1 hz2 rfl (by decide) (.slice ad n cap) n (stepsV S) hrow x m c (stepsV T) (by rw [stepsV_len, hT]) hnews (stepsV_one T) (by unfold maxLen; omega) (by omega) (Nat.zero_le _)
  obtain ⟨ad', cap', rfl, _, hnil, _⟩ := row_slice h2
  have h5 := Own.append h k hk h2 h3 h4
  cases ad' with
  | none => exact absurd (hnil rfl).1 (by omega)
  | some a =>
    rcases h2.2 with ⟨e, _⟩ | ⟨g, cap2, cur, e, _⟩
    · cases e
    · cases e
      refine ⟨g, cap', w', hr, ?_⟩
      unfold stepP
      rw [stepsV_append]
      exact h5
theorem steps_at {w0 w : World} {Qs : List Pr} (h : Grommet.Own w0 w Qs) (k : Nat) {g m cap : Nat} {T : List (Nat × Cl)} (hk : Qs[k]? = some (stepP g m cap T)) : ∀ i u, (stepsV T)[i]? = some u → w.cell? ((⟨g, 0, none⟩ : Addr).add i) = some u := by
  obtain ⟨ad, cap', he, hat, _⟩ := row_slice (Own.row h k hk)
  cases he
  exact hat.some
theorem lit_at (w : World) (s : Nat × Cl) (cs : Array Value) (hcs : cs.toList = stepV s) : ∀ i u, (stepsV [s])[i]? = some u → (w.alloc (.cells cs 115)).cell? ((⟨w.heap.size, 0, none⟩ : Addr).add i) = some u := by
  rw [stepsV_singleton, ← hcs]
  exact (at_of_row (w := w.alloc (.cells cs 115)) (g := w.heap.size) (e := 115) (xs := cs.toList) (by simpa using heap_alloc_new w (.cells cs 115))).some
/-- One step more, a literal. -/
theorem step_added {w0 w : World} {Qs : List Pr} (h : Grommet.Own w0 w Qs) (k : Nat) {ad : Option Addr} {n cap : Nat} {S : List (Nat × Cl)} (hk : Qs[k]? = some (rowP 115 4 (.slice ad n cap) n (stepsV S))) (s : Nat × Cl) (cs : Array Value) (hcs : cs.toList = stepV s) (ty : TypeId) (hn : n + 1 ≤ 1000000) :
    ∃ g cap' w2, (Builtin.append_ #[56, 56] ty #[.slice ad n cap, .slice (some ⟨w.heap.size, 0, none⟩) 1 1]).run Tryz.prog (w.alloc (.cells cs 115)) = .ok (.slice (some ⟨g, 0, none⟩) (n + 1) cap') w2 ∧ Grommet.Own w0 w2 (Qs.set k (stepP g (n + 1) cap' (S ++ [s]))) :=
  steps_added (h.quiet (World.grownBy_alloc w (.cells cs 115) none)) k hk ⟨w.heap.size, 0, none⟩ 1 1 [s] rfl ty hn (by decide) (lit_at w s cs hcs)
theorem nilSteps (w : World) : Grommet.Own w w [rowP 115 4 (.slice none 0 0) 0 (stepsV [])] :=
  (Own.nil w).add (P := rowP 115 4 (.slice none 0 0) 0 []) (F := fun _ => False) ⟨World.ownsRow_nil _ _ _ _, ⟨fun i hi => (by cases hi), fun i hi => False.elim hi⟩⟩ (fun i hi => False.elim hi) (World.grownBy.refl _ _)

theorem lines_succ (j : Nat) (ps : List Nat) : linesOf (j + 1) ps = linesOf j ps ++ (if ps.any (fun p => p / 8 == j) then [j] else []) := by
  unfold linesOf
  rw [List.range_succ, List.filter_append]
  congr 1
  cases h : ps.any (fun p => p / 8 == j) <;> simp [h]
theorem lines_len (j : Nat) (ps : List Nat) : (linesOf j ps).length ≤ j := by
  have := List.length_filter_le (fun x => ps.any (fun p => p / 8 == x)) (List.range j)
  simpa [linesOf] using this
theorem lines_top {M T : Nat} {ps : List Nat} (h : ∀ p ∈ ps, p / 8 < M) (hT : M ≤ T) : linesOf T ps = linesOf M ps := by
  obtain ⟨d, rfl⟩ := Nat.exists_eq_add_of_le hT
  induction d with
  | zero => rfl
  | succ d ih =>
    rw [← Nat.add_assoc, lines_succ, ih (by omega), if_neg, List.append_nil]
    intro hx
    obtain ⟨p, hp, he⟩ := List.any_eq_true.1 hx
    have := h p hp
    have he : p / 8 = M + d := by simpa using he
    omega
theorem settle_top {M T p : Nat} {ps : List Nat} (h : ∀ p ∈ ps, p / 8 < M) (hT : M ≤ T) : settleS T p ps = settleS M p ps := by
  unfold settleS; rw [lines_top h hT]

/-- A row of steps that a call hands back. -/
def StepsAns (T : List (Nat × Cl)) (w : World) (e : Ending) (w' : World) : Prop := ∃ g m cap, e = .returned (.slice (some ⟨g, 0, none⟩) m cap) ∧ T.length = m ∧ Grommet.Own w w' [stepP g m cap T]
set_option maxRecDepth 100000 in
set_option maxHeartbeats 4000000 in
theorem flushesH (p : Nat) (ad : Option Addr) (n cap : Nat) (ps : List Nat) (w : World) (hat : ∀ wx, w.grownBy wx none → At wx ad (ps.map nv)) (hn : ps.length = n) (hsm : ∀ x ∈ ps, x < 1000000) (hn2 : n ≤ 90000) :
    Calls Tryz.prog 62 #[.int .i64 (p : Int), .slice ad n cap] w (StepsAns (settleS 8192 p ps) w) := by
  have HA := Lib.hid hat
  have Hn := Lib.hid hn
  have Hsm := Lib.hid hsm
  have hz0 : Hid (Grommet.Own w w [rowP 115 4 (.slice none 0 0) 0 (stepsV (flushS p (linesOf 0 ps)))]) := Lib.hid (nilSteps w)
  have hl0 : Hid ((linesOf 0 ps).length = 0) := Lib.hid rfl
  clear hat hn hsm
  go_enter Tryz.func62, Tryz.ntmps62
  go_wp2_with fail
  go_loopw [5, 6, 7] (fun out ln _ wr => ∃ (j m : Nat) (ad1 : Option Addr) (cap1 : Nat), j ≤ 8192 ∧ ln = .int .i64 (j : Int) ∧ out = .slice ad1 m cap1 ∧ Hid ((linesOf j ps).length = m) ∧ Hid (Grommet.Own w wr [rowP 115 4 (.slice ad1 m cap1) m (stepsV (flushS p (linesOf j ps)))])) (fun _ ln _ _ => 8192 - (intOf ln).toNat)
  case atStart => exact ⟨0, 0, none, 0, Nat.zero_le _, rfl, rfl, hl0, hz0⟩
  case round =>
    clear hz0 hl0
    obtain ⟨j, m, ad1, cap1, hj, rfl, rfl, hl, hO⟩ := hrel
    have j0 : (0 : Int) ≤ (j : Int) := by omega
    by_cases hlt : j < 8192
    · as_aux_lemma =>
      have hlt' : (j : Int) < 8192 := by omega
      have wj : IntKind.i64.wrap ((j : Int) + 1) = (j : Int) + 1 := IntWalk.i64_in _ ⟨by omega, by omega⟩
      have hi0 : Hid (∀ t x, t < 0 → ps[t]? = some x → x / 8 ≠ j) := Lib.hid (fun t x ht => absurd ht (by omega))
      have hml : m ≤ 8192 := by have := lines_len j ps; have := hl.out; omega
      have hjj : j + 1 ≤ 8192 := by omega
      go_wp2_with fail
      go_loopw [5, 7] (fun out i wx => ∃ t : Nat, t ≤ n ∧ i = .int .i64 (t : Int) ∧ out = .slice ad1 m cap1 ∧ wr = wx ∧ Hid (∀ t' x, t' < t → ps[t']? = some x → x / 8 ≠ j)) (fun _ i _ => n - (intOf i).toNat)
      case atStart => exact ⟨0, Nat.zero_le _, rfl, rfl, rfl, hi0⟩
      case round =>
        clear hi0
        obtain ⟨t, ht, rfl, rfl, hw, hne⟩ := hrel
        obtain rfl := hw.symm
        have t0 : (0 : Int) ≤ (t : Int) := by omega
        by_cases htn : t < n
        · have htn' : (t : Int) < (n : Int) := by omega
          have wt : IntKind.i64.wrap ((t : Int) + 1) = (t : Int) + 1 := IntWalk.i64_in _ ⟨by omega, by omega⟩
          obtain ⟨x, hx⟩ : ∃ x, ps[t]? = some x := ⟨ps[t]'(by rw [Hn.out]; exact htn), List.getElem?_eq_getElem _⟩
          obtain ⟨g, o, rfl, c1⟩ := HA.out wr hO.out.grown t (nv x) (by rw [List.getElem?_map, hx]; rfl)
          have hxs := Hsm.out x (List.mem_of_getElem? hx)
          unfold nv at c1
          obtain ⟨Q, hQ⟩ : ∃ Q, x / 8 = Q := ⟨_, rfl⟩
          have hd : Int.tdiv (x : Int) 8 = (Q : Int) := by rw [Int.tdiv_eq_ediv_of_nonneg (by omega)]; omega
          have hd2 : (x : Int) / 8 = (Q : Int) := by omega
          have hwr : IntKind.i64.wrap (Q : Int) = (Q : Int) := IntWalk.i64_in _ ⟨by omega, by omega⟩
          by_cases hq : Q = j
          · as_aux_lemma =>
            have q1 : ((Q : Int) == (j : Int)) = true := by rw [hq, beq_self_eq_true]
            have hany : ps.any (fun p => p / 8 == j) = true := List.any_eq_true.2 ⟨x, List.mem_of_getElem? hx, by simp [hQ, hq]⟩
            have hnx : linesOf (j + 1) ps = linesOf j ps ++ [j] := by rw [lines_succ, if_pos hany]
            obtain ⟨g2, cap2, w2, hr, hO2⟩ := step_added hO.out 0 rfl (p, .flush j) #[.int .i64 (p : Int), .int .i64 1, .int .i64 (j : Int), .int .u64 0] rfl 56 (by omega)
            have hO2 : Hid (Grommet.Own w w2 [rowP 115 4 (.slice (some ⟨g2, 0, none⟩) (m + 1) cap2) (m + 1) (stepsV (flushS p (linesOf (j + 1) ps)))]) := Lib.hid (by
              rw [hnx]; unfold flushS; rw [List.map_append]; exact hO2)
            have hl2 : Hid ((linesOf (j + 1) ps).length = m + 1) := Lib.hid (by rw [hnx, List.length_append, hl.out]; rfl)
            clear hO hx hxs hQ hne hany hnx hl
            go_wp2_with (at_builtin; refine wpList_append_run rfl _ _ _ rfl _ _ _ rfl rfl hr ?_)
            go_roundw
            case rel => exact ⟨j + 1, m + 1, some ⟨g2, 0, none⟩, cap2, hjj, by go_num, rfl, hl2, hO2⟩
            case measure => simp [intOf]; omega
          · as_aux_lemma =>
            have q1 : ((Q : Int) == (j : Int)) = false := by rw [beq_eq_false_iff_ne]; omega
            have hne2 : Hid (∀ t' x, t' < t + 1 → ps[t']? = some x → x / 8 ≠ j) := Lib.hid (fun t' y h1 h2 => by
              by_cases e : t' = t
              · subst e; rw [hx] at h2; cases h2; omega
              · exact hne.out t' y (by omega) h2)
            have ht1 : t + 1 ≤ n := by omega
            clear hx hxs hQ hne hq
            go_wp2_with fail
            go_roundw
            case rel => exact ⟨t + 1, ht1, by go_num, rfl, trivial, hne2⟩
            case measure => simp [intOf]; omega
        · as_aux_lemma =>
          obtain rfl : n = t := by omega
          have htn' : ¬ (n : Int) < (n : Int) := by omega
          have hany : ¬ ps.any (fun p => p / 8 == j) = true := by
            intro hx
            obtain ⟨p, hp, he⟩ := List.any_eq_true.1 hx
            obtain ⟨t, ht⟩ := List.getElem?_of_mem hp
            have htl := (List.getElem?_eq_some_iff.1 ht).1
            exact hne.out t p (by rw [← Hn.out]; exact htl) ht (by simpa using he)
          have hnx : linesOf (j + 1) ps = linesOf j ps := by rw [lines_succ, if_neg hany, List.append_nil]
          have hO2 : Hid (Grommet.Own w wr [rowP 115 4 (.slice ad1 m cap1) m (stepsV (flushS p (linesOf (j + 1) ps)))]) := Lib.hid (by rw [hnx]; exact hO.out)
          have hl2 : Hid ((linesOf (j + 1) ps).length = m) := Lib.hid (by rw [hnx]; exact hl.out)
          clear hO hne hany hnx hl
          go_wp2_with fail
          go_roundw
          case rel => exact ⟨j + 1, m, ad1, cap1, hjj, by go_num, rfl, hl2, hO2⟩
          case measure => simp [intOf]; omega
    · as_aux_lemma =>
      obtain rfl : j = 8192 := by omega
      have hlt' : ¬ ((8192 : Nat) : Int) < 8192 := by omega
      have hml : m ≤ 8192 := by have := lines_len 8192 ps; have := hl.out; omega
      obtain ⟨g2, cap2, w2, hr, hO2⟩ := step_added hO.out 0 rfl (p, .fence) #[.int .i64 (p : Int), .int .i64 2, .int .i64 0, .int .u64 0] rfl 56 (by omega)
      have hO2 : Hid (Grommet.Own w w2 [stepP g2 (m + 1) cap2 (settleS 8192 p ps)]) := Lib.hid hO2
      have hl2 : Hid ((settleS 8192 p ps).length = m + 1) := Lib.hid (by unfold settleS flushS; rw [List.length_append, List.length_map, hl.out]; rfl)
      clear hO hl
      go_wp2_with (at_builtin; refine wpList_append_run rfl _ _ _ rfl _ _ _ rfl rfl hr ?_)
      go_ret
      exact ⟨g2, m + 1, cap2, rfl, hl2.out, hO2.out⟩
end Go.Proofs.YtpdofdloclmbdaaGreat
end
section
/- CommitPlays: mark, clears, from of the document's run. -/
namespace Go.Proofs.YtpdofdloclmbdaaGreat
open Go.RowKit Go.Grommet
set_option linter.unusedVariables false

/-- 'append' by what it comes to, at an operation of a region that draws its order. -/
theorem wp_apprun {w w' : World} {o : Oper} {a : Act} {K : Act → World → Prop} {Q : Exit → Act → World → Prop} (s x : Operand) (t : TypeId)
    (ho : o.op = .call { callee := .builtin .append, args := #[s, x], argTypes := #[t, t] }) (v vs vx : Value) (hs : a.eval s = vs) (hx : a.eval x = vx) (hr : (Builtin.append_ #[t, t] o.type #[vs, vx]).run Tryz.prog w = .ok v w')
    (h : K (a.put o.dst v) w') : o.wp Tryz.prog a w K Q := by
  unfold Oper.wp execOp
  simp only [ho, resolve, invoke, builtin, Sem.run_bind, Sem.run_pure, Result.andThen_ok, List.map_toArray, List.map_cons, List.map_nil, hs, hx, hr]
  exact h
def RQ (R D : Nat) (a b c k : Int) (w : World) : Prop := w.cell? ⟨R, 0, none⟩ = some (.pointer (some ⟨D, 0, none⟩)) ∧ w.cell? ⟨R, 1, none⟩ = some (.int .i64 a) ∧ w.cell? ⟨R, 2, none⟩ = some (.int .i64 b) ∧ w.cell? ⟨R, 3, none⟩ = some (.int .i64 c) ∧ w.cell? ⟨R, 4, none⟩ = some (.int .i64 k)
theorem RQ.keep {R D : Nat} {a b c k : Int} {w w' : World} (h : RQ R D a b c k w) (hg : w.grownBy w' none) : RQ R D a b c k w' :=
  ⟨hg.cell h.1 (by simp), hg.cell h.2.1 (by simp), hg.cell h.2.2.1 (by simp), hg.cell h.2.2.2.1 (by simp), hg.cell h.2.2.2.2 (by simp)⟩
theorem RQ.of {w0 w : World} {Ps : List Pr} {R D : Nat} {a b c k : Int} {S : List (Nat × Cl)} (h : Grommet.Own w0 w Ps) (j : Nat) (hj : Ps[j]? = some (refP R D a b c k S)) : RQ R D a b c k w := by
  obtain ⟨h0, h1, h2, h3, h4, _⟩ := ref_cells h j hj
  exact ⟨h0, h1, h2, h3, h4⟩
/-- A row that stands alone becomes the run's steps. -/
theorem ref_put {w0 w : World} {Ps : List Pr} {R D : Nat} {a b c k : Int} {S T : List (Nat × Cl)} {g m cap : Nat} (h : Grommet.Own w0 w (Ps ++ [stepP g m cap T])) (j : Nat) (hj : Ps[j]? = some (refP R D a b c k S)) (hT : T.length = m) :
    Grommet.Own w0 (w.setCell ⟨R, 5, none⟩ (.slice (some ⟨g, 0, none⟩) m cap)) (Ps.set j (refP R D a b c k T)) := by
  have hjl := (List.getElem?_eq_some_iff.1 hj).1
  let Q : Pr := { holds := fun w F => (refP R D a b c k S).holds w F ∧ RowZ w 115 4 (.slice (some ⟨g, 0, none⟩) m cap) m (stepsV T) ∧ F g, turn := fun ⟨h1, h2, h3⟩ ht hn => ⟨(refP R D a b c k S).turn h1 ht hn, h2.turn ht (fun i hi => by cases hi; exact hn _ h3), h3⟩, old := fun ⟨h1, _⟩ => (refP R D a b c k S).old h1 }
  have h1 : Grommet.Own w0 w (Ps.set j Q) := by
    refine Own.absorb h j hj ?_
    rintro F G ⟨v, x1, x2, x3, x4, x5⟩ hG
    have hr : w.ownsRow 0 115 4 (.slice (some ⟨g, 0, none⟩) m cap) m (stepsV T) := hG.1
    refine ⟨⟨v, x1, x2, .inl x3, fun i hi => .inl (x4 i hi), fun i hi => ?_⟩, RowZ.of hr, .inr (hG.2.1 g rfl)⟩
    rcases hi with hi | hi
    · exact x5 i hi
    · exact hG.2.2 i hi
  obtain ⟨F, ⟨⟨v, x1, x2, x3, x4, x5⟩, x6, x7⟩, hback⟩ := h1.take j (List.getElem?_set_self hjl)
  have hb := heap_setCell_at (o := 5) x1 (.slice (some ⟨g, 0, none⟩) m cap)
  have hgR : g ≠ R := by
    intro e
    subst e
    obtain ⟨cur, hc⟩ := x6.block g rfl
    rw [x1] at hc
    simp at hc
  have h2 := hback (w.setCell ⟨R, 5, none⟩ (.slice (some ⟨g, 0, none⟩) m cap)) (refP R D a b c k T) ⟨F, ⟨.slice (some ⟨g, 0, none⟩) m cap, hb, by rw [hT]; exact x6.turn (Turn.of (F := fun i => i = R) (grown_setCell w ⟨R, 5, none⟩ _) (fun i e => by cases e; rfl)) (fun i hi e => by cases hi; exact hgR e), x3, fun i hi => (by cases hi; exact x7), fun i hi => by simpa [World.setCell] using x5 i hi⟩, fun i hi => .inl hi, Turn.of (F := F) (grown_setCell w ⟨R, 5, none⟩ _) (fun i e => by cases e; exact x3)⟩
  rwa [List.set_set] at h2
theorem row_lit {w : World} (s : Nat × Cl) (cs : Array Value) (hcs : cs.toList = stepV s) : Grommet.Own w (w.alloc (.cells cs 115)) [stepP w.heap.size 1 1 [s]] := by
  have h4 := stepV_len s
  have := World.ownsRow_lit (size := 4) (base := w.heap.size) (e := 115) w cs 1 (Nat.le_refl _) (by unfold maxLen; omega) (by rw [← Array.length_toList, hcs, h4])
  rw [hcs, ← stepsV_singleton] at this
  exact (Own.nil w).addRow this (World.grownBy_alloc w _ none)

set_option maxRecDepth 100000 in
set_option maxHeartbeats 4000000 in
theorem markR (R D : Nat) (a b c k : Int) (A p v : Nat) (w : World) (hq : RQ R D a b c k w) (hA : areaV a b c k = (A : Int)) (hsm : A < 1000000) :
    Calls Tryz.prog 63 #[.pointer (some ⟨R, 0, none⟩), .int .i64 (p : Int), .int .u64 (v : Int)] w (StepsAns (markS 8192 p A v) w) := by
  have HA := Lib.hid (fun wx => RAreaAt_any a b c k wx)
  rw [hA] at HA
  have HK := Lib.hid (fun wx (hg : w.grownBy wx none) => hq.keep hg)
  have hGr := Lib.hid (grown_drew (World.grownBy.refl w none))
  have hz0 := Lib.hid (HK.out _ hGr.out)
  obtain ⟨c0, c1, c2, c3, c4⟩ := hq
  unfold RQ at HK
  unfold gv IntIs at HA
  clear hA
  go_enter Tryz.func63, Tryz.ntmps63
  go_wp2_with fail
  refine wp_region_held_drew (S := fun w' => RQ R D a b c k w') (by kernel_rfl) (hz0.out) (fun hS => ?_)
  refine wpAnyH_take (i := 0) (oi := { dst := some 9, op := Op.move (Operand.tmp 0), type := 39, pos := "ref.go:91", after := #[], guard := none }) (v := ?vmk63r1o0) rfl (by kernel_rfl) (by kernel_rfl) (by kernel_rfl) (fun _ _ _ h => h) (Or.inl ⟨by rfl, ?hmk63r1o0⟩) hS ?_
  case hmk63r1o0 => (intro wx hx; skip; go_simp; (try with_reducible rfl))
  try simp only [Act.put, List.setIfInBounds_toArray, List.set_cons_zero, List.set_cons_succ]
  refine wpAnyH_take (i := 1) (oi := { dst := some 10, op := Op.nilCheck (Operand.tmp 9), type := 0, pos := "ref.go:91", after := #[{ on := 0, ground := Ground.data }], guard := none }) (v := ?vmk63r1o1) rfl (by kernel_rfl) (by kernel_rfl) (by kernel_rfl) (fun _ _ _ h => h) (Or.inl ⟨by rfl, ?hmk63r1o1⟩) hS ?_
  case hmk63r1o1 => (intro wx hx; skip; go_simp; (try with_reducible rfl))
  try simp only [Act.put, List.setIfInBounds_toArray, List.set_cons_zero, List.set_cons_succ]
  refine wpAnyH_take (i := 2) (oi := { dst := some 11, op := Op.fieldAddr 58 (Operand.tmp 10) 1, type := 0, pos := "ref.go:91", after := #[{ on := 1, ground := Ground.data }], guard := none }) (v := ?vmk63r1o2) rfl (by kernel_rfl) (by kernel_rfl) (by kernel_rfl) (fun _ _ _ h => h) (Or.inl ⟨by rfl, ?hmk63r1o2⟩) hS ?_
  case hmk63r1o2 => (intro wx hx; skip; go_simp; (try with_reducible rfl))
  try simp only [Act.put, List.setIfInBounds_toArray, List.set_cons_zero, List.set_cons_succ]
  refine wpAnyH_take (i := 3) (oi := { dst := some 12, op := Op.load 28 (Operand.tmp 11), type := 28, pos := "ref.go:91", after := #[{ on := 2, ground := Ground.data }], guard := none }) (v := ?vmk63r1o3) rfl (by kernel_rfl) (by kernel_rfl) (by kernel_rfl) (fun _ _ _ h => h) (Or.inl ⟨by rfl, ?hmk63r1o3⟩) hS ?_
  case hmk63r1o3 => (intro wx hx; obtain ⟨e0, e1, e2, e3, e4⟩ := hx; go_simp; (try with_reducible rfl))
  try simp only [Act.put, List.setIfInBounds_toArray, List.set_cons_zero, List.set_cons_succ]
  refine wpAnyH_take (i := 4) (oi := { dst := some 13, op := Op.move (Operand.tmp 0), type := 39, pos := "ref.go:91", after := #[], guard := none }) (v := ?vmk63r1o4) rfl (by kernel_rfl) (by kernel_rfl) (by kernel_rfl) (fun _ _ _ h => h) (Or.inl ⟨by rfl, ?hmk63r1o4⟩) hS ?_
  case hmk63r1o4 => (intro wx hx; skip; go_simp; (try with_reducible rfl))
  try simp only [Act.put, List.setIfInBounds_toArray, List.set_cons_zero, List.set_cons_succ]
  refine wpAnyH_take (i := 5) (oi := { dst := some 14, op := Op.nilCheck (Operand.tmp 13), type := 0, pos := "ref.go:91", after := #[{ on := 4, ground := Ground.data }], guard := none }) (v := ?vmk63r1o5) rfl (by kernel_rfl) (by kernel_rfl) (by kernel_rfl) (fun _ _ _ h => h) (Or.inl ⟨by rfl, ?hmk63r1o5⟩) hS ?_
  case hmk63r1o5 => (intro wx hx; skip; go_simp; (try with_reducible rfl))
  try simp only [Act.put, List.setIfInBounds_toArray, List.set_cons_zero, List.set_cons_succ]
  refine wpAnyH_take (i := 6) (oi := { dst := some 15, op := Op.fieldAddr 58 (Operand.tmp 14) 2, type := 0, pos := "ref.go:91", after := #[{ on := 5, ground := Ground.data }], guard := none }) (v := ?vmk63r1o6) rfl (by kernel_rfl) (by kernel_rfl) (by kernel_rfl) (fun _ _ _ h => h) (Or.inl ⟨by rfl, ?hmk63r1o6⟩) hS ?_
  case hmk63r1o6 => (intro wx hx; skip; go_simp; (try with_reducible rfl))
  try simp only [Act.put, List.setIfInBounds_toArray, List.set_cons_zero, List.set_cons_succ]
  refine wpAnyH_take (i := 7) (oi := { dst := some 16, op := Op.load 3 (Operand.tmp 15), type := 3, pos := "ref.go:91", after := #[{ on := 6, ground := Ground.data }], guard := none }) (v := ?vmk63r1o7) rfl (by kernel_rfl) (by kernel_rfl) (by kernel_rfl) (fun _ _ _ h => h) (Or.inl ⟨by rfl, ?hmk63r1o7⟩) hS ?_
  case hmk63r1o7 => (intro wx hx; obtain ⟨e0, e1, e2, e3, e4⟩ := hx; go_simp; (try with_reducible rfl))
  try simp only [Act.put, List.setIfInBounds_toArray, List.set_cons_zero, List.set_cons_succ]
  refine wpAnyH_ready (rs := [8]) (by kernel_rfl) (by simp) ?_
  refine AllReadyH.cons (o := { dst := some 17, op := Op.call { callee := Callee.value (Operand.func 53), args := #[Operand.tmp 12, Operand.tmp 16], argTypes := #[28, 3] }, type := 3, pos := "ref.go:91", after := #[{ on := 3, ground := Ground.data }, { on := 7, ground := Ground.data }], guard := none }) rfl (fun K hK => ?_) AllReadyH.nil
  go_simp
  refine (HA.out _).mono ?_
  rintro e v1 ⟨rfl, hg1⟩
  have hGn := Lib.hid (grown_trans hGr.out hg1)
  clear hGr hg1
  have hGr := hGn
  clear hGn
  refine hK.out _ _ ?hsmk63r1o8 (fun hS => ?_)
  case hsmk63r1o8 => (exact HK.out _ hGr.out)
  clear hK K
  try simp only [Act.put, List.setIfInBounds_toArray, List.set_cons_zero, List.set_cons_succ]
  refine wpAnyH_take (i := 9) (oi := { dst := some 7, op := Op.assign (Operand.tmp 17), type := 3, pos := "ref.go:91", after := #[{ on := 8, ground := Ground.data }, { on := 8, ground := Ground.chain }, { on := 0, ground := Ground.phase }, { on := 1, ground := Ground.phase }, { on := 2, ground := Ground.phase }, { on := 3, ground := Ground.phase }, { on := 4, ground := Ground.phase }, { on := 5, ground := Ground.phase }, { on := 6, ground := Ground.phase }, { on := 7, ground := Ground.phase }, { on := 8, ground := Ground.phase }], guard := none }) (v := ?vmk63r1o9) rfl (by kernel_rfl) (by kernel_rfl) (by kernel_rfl) (fun _ _ _ h => h) (Or.inl ⟨by rfl, ?hmk63r1o9⟩) hS ?_
  case hmk63r1o9 => (intro wx hx; skip; go_simp; (try with_reducible rfl))
  try simp only [Act.put, List.setIfInBounds_toArray, List.set_cons_zero, List.set_cons_succ]
  refine wpAnyH_done (by kernel_rfl) ?_ _
  clear hS hz0 HK HA c0 c1 c2 c3 c4
  obtain ⟨w2, hw2⟩ : ∃ u, v1.alloc (.cells #[.int .i64 (p : Int), .int .i64 0, .int .i64 (A : Int), .int .u64 (v : Int)] 115) = u := ⟨_, rfl⟩
  obtain ⟨X1, hX1⟩ : ∃ x, v1.heap.size = x := ⟨_, rfl⟩
  obtain ⟨w3, hw3⟩ : ∃ u, w2.alloc (.cells #[.int .i64 (A : Int)] 3) = u := ⟨_, rfl⟩
  obtain ⟨X2, hX2⟩ : ∃ x, w2.heap.size = x := ⟨_, rfl⟩
  have hO2 := row_lit (w := v1) (p, .store A v) #[.int .i64 (p : Int), .int .i64 0, .int .i64 (A : Int), .int .u64 (v : Int)] rfl
  rw [hw2, hX1] at hO2
  have hat0 : At w3 (some ⟨X2, 0, none⟩) ([A].map nv) := by
    rw [← hw3, ← hX2]
    exact at_of_row (heap_alloc_new w2 (.cells #[.int .i64 (A : Int)] 3))
  have hO3 := hO2.quiet (show w2.grownBy w3 none by rw [← hw3]; exact World.grownBy_alloc w2 _ none)
  have hO3 : Hid (Grommet.Own w w3 [stepP X1 1 1 [(p, .store A v)]]) := Lib.hid (Own.join ((Own.nil w).quiet hGr.out) hO3)
  have HF := Lib.hid (flushesH p (some ⟨X2, 0, none⟩) 1 1 [A] w3 (fun wx hg => hat0.grown hg (by simp)) rfl (by simp; omega) (by omega))
  unfold StepsAns at HF
  clear hO2 hat0 hGr
  go_wp2_with fail
  refine HF.out.mono ?_
  rintro e w4 ⟨g, m, cap, rfl, hm, hO4⟩
  have hO5 := Own.join hO3.out hO4
  have hmm : 0 < m ∧ m ≤ 20000 := by
    have := settleS_len 8192 p [A]
    rw [← hm]
    refine ⟨by unfold settleS; simp, by omega⟩
  obtain ⟨g5, cap5, w5, hr, hO6⟩ := steps_added hO5 0 rfl ⟨g, 0, none⟩ m cap (settleS 8192 p [A]) hm 56 (by omega) hmm.1 (steps_at hO5 1 rfl)
  have hO6 : Hid (Grommet.Own w w5 [stepP g5 (1 + m) cap5 (markS 8192 p A v)]) := Lib.hid (Own.less (Qs := [stepP g m cap (settleS 8192 p [A])]) hO6)
  have hlen : Hid ((markS 8192 p A v).length = 1 + m) := Lib.hid (by unfold markS; rw [List.length_cons, hm]; omega)
  clear HF hO3 hO4 hO5 hm hw2 hw3 hX1 hX2 hmm
  go_wp2_with (at_builtin; refine wpList_append_run rfl _ _ _ rfl _ _ _ rfl rfl hr ?_)
  go_ret
  exact ⟨g5, 1 + m, cap5, rfl, hlen.out, hO6.out⟩

set_option maxRecDepth 100000 in
set_option maxHeartbeats 4000000 in
theorem clearsR (R D : Nat) (a b c k : Int) (A : Nat) (w : World) (hq : RQ R D a b c k w) (hA : areaV a b c k = (A : Int)) (hsm : A < 1000000) :
    Calls Tryz.prog 68 #[.pointer (some ⟨R, 0, none⟩)] w (StepsAns (markS 8192 6 A 0) w) := by
  have HM := Lib.hid (markR R D a b c k A 6 0 w hq hA hsm)
  unfold StepsAns at HM
  rw [show ((6 : Nat) : Int) = 6 from rfl, show ((0 : Nat) : Int) = 0 from rfl] at HM
  clear hq hA
  go_enter Tryz.func68, Tryz.ntmps68
  go_wp2_with fail
  refine HM.out.mono ?_
  rintro e w4 ⟨g, m, cap, rfl, hm, hO4⟩
  have hO4 := Lib.hid hO4
  have hm := Lib.hid hm
  clear HM
  go_wp2_with fail
  go_ret
  exact ⟨g, m, cap, rfl, hm.out, hO4.out⟩
end Go.Proofs.YtpdofdloclmbdaaGreat
end
section
/- CommitPlays: from of the document's run. -/
namespace Go.Proofs.YtpdofdloclmbdaaGreat
open Go.RowKit Go.Grommet
set_option linter.unusedVariables false

theorem wrQ_take_sn {W : List (Int × Nat)} {j : Nat} {x : Int × Nat} (h : W[j]? = some x) : wrQ (W.take (j + 1)) = wrQ (W.take j) ++ [(x.1.toNat, x.2)] := by
  unfold wrQ; rw [take_snocN h, List.map_append]; rfl
set_option maxRecDepth 100000 in
set_option maxHeartbeats 4000000 in
theorem fromR (R D : Nat) (a b c k : Int) (A : Nat) (ad : Option Addr) (n cap : Nat) (W : List (Int × Nat)) (w : World) (hq : RQ R D a b c k w) (hA : areaV a b c k = (A : Int)) (hsm : A < 1000000)
    (hat : At w ad (icells W)) (hn : W.length = n) (hn2 : n ≤ 1000) (hW : ∀ x ∈ W, 0 ≤ x.1 ∧ x.1 < 1000000) :
    Calls Tryz.prog 65 #[.pointer (some ⟨R, 0, none⟩), .slice ad n cap] w (StepsAns (applyS 8192 A W) w) := by
  have HC := Lib.hid (fun wx (hg : w.grownBy wx none) => clearsR R D a b c k A wx (hq.keep hg) hA hsm)
  have Hat := Lib.hid hat
  have Hn := Lib.hid hn
  have HW := Lib.hid hW
  have hz0 : Hid (Grommet.Own w w [rowP 115 4 (.slice none 0 0) 0 (stepsV (storesS 4 (wrQ (W.take 0)))), rowP 3 1 (.slice none 0 0) 0 ((((wrQ (W.take 0)).map (fun q => ((q.1 : Nat) : Int)))).map zv)]) := Lib.hid ((nilSteps w).add (P := rowP 3 1 (.slice none 0 0) 0 []) (F := fun _ => False) ⟨World.ownsRow_nil _ _ _ _, ⟨fun i hi => (by cases hi), fun i hi => False.elim hi⟩⟩ (fun i hi => False.elim hi) (World.grownBy.refl _ _))
  unfold StepsAns at HC
  clear hq hA hat hn hW
  go_enter Tryz.func65, Tryz.ntmps65
  go_wp2_with fail
  go_loopw [5, 6, 7] (fun out av i wr => ∃ (j : Nat) (ad1 ad2 : Option Addr) (cap1 cap2 : Nat), j ≤ n ∧ i = .int .i64 (j : Int) ∧ out = .slice ad1 j cap1 ∧ av = .slice ad2 j cap2 ∧ Hid (Grommet.Own w wr [rowP 115 4 (.slice ad1 j cap1) j (stepsV (storesS 4 (wrQ (W.take j)))), rowP 3 1 (.slice ad2 j cap2) j ((((wrQ (W.take j)).map (fun q => ((q.1 : Nat) : Int)))).map zv)])) (fun _ _ i _ => n - (intOf i).toNat)
  case atStart => exact ⟨0, none, none, 0, 0, Nat.zero_le _, rfl, rfl, rfl, hz0⟩
  case round =>
    clear hz0
    obtain ⟨j, ad1, ad2, cap1, cap2, hj, rfl, rfl, rfl, hO⟩ := hrel
    have j0 : (0 : Int) ≤ (j : Int) := by omega
    by_cases hlt : j < n
    · as_aux_lemma =>
      have hlt' : (j : Int) < (n : Int) := by omega
      have wj : IntKind.i64.wrap ((j : Int) + 1) = (j : Int) + 1 := IntWalk.i64_in _ ⟨by omega, by omega⟩
      obtain ⟨x, hx⟩ : ∃ x, W[j]? = some x := ⟨W[j]'(by rw [Hn.out]; exact hlt), List.getElem?_eq_getElem _⟩
      obtain ⟨hx0, hx1⟩ := HW.out x (List.mem_of_getElem? hx)
      have hxD : W.getD j (0, 0) = x := by rw [List.getD_eq_getElem?_getD, hx]; rfl
      have hat := Hat.out.grown hO.out.grown (by simp)
      obtain ⟨q, o, rfl, c1, c2⟩ := at_ipair hat j (by rw [Hn.out]; exact hlt)
      rw [hxD] at c1 c2
      obtain ⟨U, hU⟩ : ∃ U : Nat, x.1.toNat = U := ⟨_, rfl⟩
      obtain ⟨V, hV⟩ : ∃ V : Nat, x.2 = V := ⟨_, rfl⟩
      rw [show x.1 = (U : Int) from by omega] at c1
      rw [hV] at c2
      have hsn : wrQ (W.take (j + 1)) = wrQ (W.take j) ++ [(U, V)] := by rw [wrQ_take_sn hx, hU, hV]
      have hO1 := hO.out.quiet (grown_drew (World.grownBy.refl wr none))
      obtain ⟨g2, cp2, w2, hr, hO2⟩ := step_added hO1 0 rfl (4, .store U V) #[.int .i64 4, .int .i64 0, .int .i64 (U : Int), .int .u64 (V : Int)] rfl 56 (by omega)
      obtain ⟨ad3, cp3, w3, hr3, hO3⟩ := int_added hO2 1 rfl (U : Int) 76 (by omega)
      have hO3 : Hid (Grommet.Own w w3 [rowP 115 4 (.slice (some ⟨g2, 0, none⟩) (j + 1) cp2) (j + 1) (stepsV (storesS 4 (wrQ (W.take (j + 1))))), rowP 3 1 (.slice ad3 (j + 1) cp3) (j + 1) ((((wrQ (W.take (j + 1))).map (fun q => ((q.1 : Nat) : Int)))).map zv)]) := Lib.hid (by
        rw [hsn]; unfold storesS; rw [List.map_append, List.map_append]; exact hO3)
      have hn1 : j + 1 ≤ n := by omega
      have c1b : w2.cell? ⟨q, o + j * 2, none⟩ = some (.int .i64 (U : Int)) ∧ w2.cell? ⟨q, o + j * 2 + 1, none⟩ = some (.int .u64 (V : Int)) := by
        have hat2 := Hat.out.grown hO2.grown (by simp)
        obtain ⟨q', o', he, x1, x2⟩ := at_ipair hat2 j (by rw [Hn.out]; exact hlt)
        cases he
        rw [hxD, show x.1 = (U : Int) from by omega] at x1
        rw [hxD, hV] at x2
        exact ⟨x1, x2⟩
      clear hO hO1 hO2 hat hx hx0 hx1 hxD hU hV hsn HC HW Hat
      go_wp2_with fail
      refine wp_region_held_drew (S := fun w' => (w'.cell? ⟨q, o + j * 2, none⟩ = some (.int .i64 (U : Int)) ∧ w'.cell? ⟨q, o + j * 2 + 1, none⟩ = some (.int .u64 (V : Int)))) (by kernel_rfl) (⟨c1, c2⟩) (fun hS => ?_)
      refine wpAnyH_take (i := 0) (oi := { dst := some 14, op := Op.move (Operand.tmp 5), type := 56, pos := "ref.go:83", after := #[], guard := none }) (v := ?vr65r6o0) rfl (by kernel_rfl) (by kernel_rfl) (by kernel_rfl) (fun _ _ _ h => h) (Or.inl ⟨by rfl, ?hr65r6o0⟩) hS ?_
      case hr65r6o0 => (intro wx hx; skip; go_simp; (try with_reducible rfl))
      try simp only [Act.put, List.setIfInBounds_toArray, List.set_cons_zero, List.set_cons_succ]
      refine wpAnyH_take (i := 1) (oi := { dst := some 15, op := Op.move (Operand.tmp 1), type := 43, pos := "ref.go:83", after := #[], guard := none }) (v := ?vr65r6o1) rfl (by kernel_rfl) (by kernel_rfl) (by kernel_rfl) (fun _ _ _ h => h) (Or.inl ⟨by rfl, ?hr65r6o1⟩) hS ?_
      case hr65r6o1 => (intro wx hx; skip; go_simp; (try with_reducible rfl))
      try simp only [Act.put, List.setIfInBounds_toArray, List.set_cons_zero, List.set_cons_succ]
      refine wpAnyH_take (i := 2) (oi := { dst := some 16, op := Op.move (Operand.tmp 7), type := 3, pos := "ref.go:83", after := #[], guard := none }) (v := ?vr65r6o2) rfl (by kernel_rfl) (by kernel_rfl) (by kernel_rfl) (fun _ _ _ h => h) (Or.inl ⟨by rfl, ?hr65r6o2⟩) hS ?_
      case hr65r6o2 => (intro wx hx; skip; go_simp; (try with_reducible rfl))
      try simp only [Act.put, List.setIfInBounds_toArray, List.set_cons_zero, List.set_cons_succ]
      refine wpAnyH_take (i := 3) (oi := { dst := some 17, op := Op.indexAddr 43 (Operand.tmp 15) (Operand.tmp 16), type := 0, pos := "ref.go:83", after := #[{ on := 1, ground := Ground.data }, { on := 2, ground := Ground.data }], guard := none }) (v := ?vr65r6o3) rfl (by kernel_rfl) (by kernel_rfl) (by kernel_rfl) (fun _ _ _ h => h) (Or.inl ⟨by rfl, ?hr65r6o3⟩) hS ?_
      case hr65r6o3 => (intro wx hx; skip; go_simp; (try with_reducible rfl))
      try simp only [Act.put, List.setIfInBounds_toArray, List.set_cons_zero, List.set_cons_succ]
      refine wpAnyH_take (i := 4) (oi := { dst := some 18, op := Op.fieldAddr 92 (Operand.tmp 17) 0, type := 0, pos := "ref.go:83", after := #[{ on := 3, ground := Ground.data }], guard := none }) (v := ?vr65r6o4) rfl (by kernel_rfl) (by kernel_rfl) (by kernel_rfl) (fun _ _ _ h => h) (Or.inl ⟨by rfl, ?hr65r6o4⟩) hS ?_
      case hr65r6o4 => (intro wx hx; skip; go_simp; (try with_reducible rfl))
      try simp only [Act.put, List.setIfInBounds_toArray, List.set_cons_zero, List.set_cons_succ]
      refine wpAnyH_take (i := 5) (oi := { dst := some 19, op := Op.load 3 (Operand.tmp 18), type := 3, pos := "ref.go:83", after := #[{ on := 4, ground := Ground.data }], guard := none }) (v := ?vr65r6o5) rfl (by kernel_rfl) (by kernel_rfl) (by kernel_rfl) (fun _ _ _ h => h) (Or.inl ⟨by rfl, ?hr65r6o5⟩) hS ?_
      case hr65r6o5 => (intro wx hx; obtain ⟨y0, y1⟩ := hx; go_simp; (try with_reducible rfl))
      try simp only [Act.put, List.setIfInBounds_toArray, List.set_cons_zero, List.set_cons_succ]
      refine wpAnyH_take (i := 6) (oi := { dst := some 20, op := Op.move (Operand.tmp 1), type := 43, pos := "ref.go:83", after := #[], guard := none }) (v := ?vr65r6o6) rfl (by kernel_rfl) (by kernel_rfl) (by kernel_rfl) (fun _ _ _ h => h) (Or.inl ⟨by rfl, ?hr65r6o6⟩) hS ?_
      case hr65r6o6 => (intro wx hx; skip; go_simp; (try with_reducible rfl))
      try simp only [Act.put, List.setIfInBounds_toArray, List.set_cons_zero, List.set_cons_succ]
      refine wpAnyH_take (i := 7) (oi := { dst := some 21, op := Op.move (Operand.tmp 7), type := 3, pos := "ref.go:83", after := #[], guard := none }) (v := ?vr65r6o7) rfl (by kernel_rfl) (by kernel_rfl) (by kernel_rfl) (fun _ _ _ h => h) (Or.inl ⟨by rfl, ?hr65r6o7⟩) hS ?_
      case hr65r6o7 => (intro wx hx; skip; go_simp; (try with_reducible rfl))
      try simp only [Act.put, List.setIfInBounds_toArray, List.set_cons_zero, List.set_cons_succ]
      refine wpAnyH_take (i := 8) (oi := { dst := some 22, op := Op.indexAddr 43 (Operand.tmp 20) (Operand.tmp 21), type := 0, pos := "ref.go:83", after := #[{ on := 6, ground := Ground.data }, { on := 7, ground := Ground.data }], guard := none }) (v := ?vr65r6o8) rfl (by kernel_rfl) (by kernel_rfl) (by kernel_rfl) (fun _ _ _ h => h) (Or.inl ⟨by rfl, ?hr65r6o8⟩) hS ?_
      case hr65r6o8 => (intro wx hx; skip; go_simp; (try with_reducible rfl))
      try simp only [Act.put, List.setIfInBounds_toArray, List.set_cons_zero, List.set_cons_succ]
      refine wpAnyH_take (i := 9) (oi := { dst := some 23, op := Op.fieldAddr 92 (Operand.tmp 22) 1, type := 0, pos := "ref.go:83", after := #[{ on := 8, ground := Ground.data }], guard := none }) (v := ?vr65r6o9) rfl (by kernel_rfl) (by kernel_rfl) (by kernel_rfl) (fun _ _ _ h => h) (Or.inl ⟨by rfl, ?hr65r6o9⟩) hS ?_
      case hr65r6o9 => (intro wx hx; skip; go_simp; (try with_reducible rfl))
      try simp only [Act.put, List.setIfInBounds_toArray, List.set_cons_zero, List.set_cons_succ]
      refine wpAnyH_take (i := 10) (oi := { dst := some 24, op := Op.load 44 (Operand.tmp 23), type := 44, pos := "ref.go:83", after := #[{ on := 9, ground := Ground.data }], guard := none }) (v := ?vr65r6o10) rfl (by kernel_rfl) (by kernel_rfl) (by kernel_rfl) (fun _ _ _ h => h) (Or.inl ⟨by rfl, ?hr65r6o10⟩) hS ?_
      case hr65r6o10 => (intro wx hx; obtain ⟨y0, y1⟩ := hx; go_simp; (try with_reducible rfl))
      try simp only [Act.put, List.setIfInBounds_toArray, List.set_cons_zero, List.set_cons_succ]
      refine wpAnyH_take (i := 11) (oi := { dst := some 25, op := Op.build 115 #[(0, Operand.const (Value.int IntKind.i64 4)), (1, Operand.const (Value.int IntKind.i64 0)), (2, Operand.tmp 19), (3, Operand.tmp 24)], type := 115, pos := "ref.go:83", after := #[{ on := 5, ground := Ground.data }, { on := 10, ground := Ground.data }], guard := none }) (v := ?vr65r6o11) rfl (by kernel_rfl) (by kernel_rfl) (by kernel_rfl) (fun _ _ _ h => h) (Or.inl ⟨by rfl, ?hr65r6o11⟩) hS ?_
      case hr65r6o11 => (intro wx hx; skip; go_simp; (try with_reducible rfl))
      try simp only [Act.put, List.setIfInBounds_toArray, List.set_cons_zero, List.set_cons_succ]
      refine wpAnyH_ready (rs := [12]) (by kernel_rfl) (by simp) ?_
      refine AllReadyH.cons (o := { dst := some 26, op := Op.buildSlice 56 1 #[(0, Operand.tmp 25)], type := 56, pos := "ref.go:83", after := #[{ on := 11, ground := Ground.data }], guard := none }) rfl (fun K hK => ?_) AllReadyH.nil
      go_simp
      skip
      refine hK.out _ _ ?hsr65r6o12 (fun hS => ?_)
      case hsr65r6o12 => (exact ⟨(World.grownBy_alloc _ _ none).cell hS.1 (by simp), (World.grownBy_alloc _ _ none).cell hS.2 (by simp)⟩)
      clear hK K
      try simp only [Act.put, List.setIfInBounds_toArray, List.set_cons_zero, List.set_cons_succ]
      refine wpAnyH_ready (rs := [13]) (by kernel_rfl) (by simp) ?_
      refine AllReadyH.cons (o := { dst := some 27, op := Op.call { callee := Callee.builtin Builtin.append, args := #[Operand.tmp 14, Operand.tmp 26], argTypes := #[56, 56] }, type := 56, pos := "ref.go:83", after := #[{ on := 0, ground := Ground.data }, { on := 12, ground := Ground.data }], guard := none }) rfl (fun K hK => ?_) AllReadyH.nil
      refine wp_apprun _ _ _ rfl _ _ _ rfl rfl hr ?_
      refine hK.out _ _ ?hsq (fun hS => ?_)
      case hsq => exact c1b
      clear hK K
      try simp only [Act.put, List.setIfInBounds_toArray, List.set_cons_zero, List.set_cons_succ]
      refine wpAnyH_take (i := 14) (oi := { dst := some 5, op := Op.assign (Operand.tmp 27), type := 56, pos := "ref.go:83", after := #[{ on := 13, ground := Ground.data }, { on := 13, ground := Ground.chain }, { on := 0, ground := Ground.phase }, { on := 1, ground := Ground.phase }, { on := 2, ground := Ground.phase }, { on := 3, ground := Ground.phase }, { on := 4, ground := Ground.phase }, { on := 5, ground := Ground.phase }, { on := 6, ground := Ground.phase }, { on := 7, ground := Ground.phase }, { on := 8, ground := Ground.phase }, { on := 9, ground := Ground.phase }, { on := 10, ground := Ground.phase }, { on := 11, ground := Ground.phase }, { on := 12, ground := Ground.phase }, { on := 13, ground := Ground.phase }], guard := none }) (v := ?vr65r6o14) rfl (by kernel_rfl) (by kernel_rfl) (by kernel_rfl) (fun _ _ _ h => h) (Or.inl ⟨by rfl, ?hr65r6o14⟩) hS ?_
      case hr65r6o14 => (intro wx hx; skip; go_simp; (try with_reducible rfl))
      try simp only [Act.put, List.setIfInBounds_toArray, List.set_cons_zero, List.set_cons_succ]
      refine wpAnyH_done (by kernel_rfl) ?_ _
      have c1c := c1b.1
      clear hS c1 c2
      go_wp2_with (at_builtin; refine wpList_append_run rfl _ _ _ rfl _ _ _ rfl rfl hr3 ?_)
      go_roundw
      case rel => exact ⟨j + 1, _, ad3, cp2, cp3, hn1, by go_num, rfl, rfl, hO3⟩
      case measure => simp [intOf]; omega
    · as_aux_lemma =>
      obtain rfl : n = j := by omega
      have hlt' : ¬ (n : Int) < (n : Int) := by omega
      have hWt : W.take n = W := List.take_of_length_le (by rw [Hn.out]; exact Nat.le_refl _)
      have hO0 := hO.out
      rw [hWt] at hO0
      have hat2 : ∀ wx, wr.grownBy wx none → At wx ad2 (((wrQ W).map (·.1)).map nv) := by
        intro wx hg
        obtain ⟨ad', cap', he, hat, _⟩ := row_slice (Own.row hO0 1 rfl)
        cases he
        have := hat.grown hg (by simp)
        simpa [List.map_map, Function.comp_def, nv, zv] using this
      have hps : ∀ x ∈ (wrQ W).map (·.1), x < 1000000 := by
        intro x hx
        obtain ⟨q, hq, rfl⟩ := List.mem_map.1 hx
        obtain ⟨p, hp, rfl⟩ := List.mem_map.1 hq
        have := HW.out p hp
        show p.1.toNat < 1000000
        omega
      have HF := Lib.hid (flushesH 5 ad2 n cap2 ((wrQ W).map (·.1)) wr hat2 (by simp [wrQ, Hn.out]) hps (by omega))
      unfold StepsAns at HF
      rw [show ((5 : Nat) : Int) = 5 from rfl] at HF
      have HO0 := Lib.hid hO0
      have hsl : (storesS 4 (wrQ W)).length = n := by simp [storesS, wrQ, Hn.out]
      clear hO hO0 hat2 hps hWt Hat HW
      go_wp2_with fail
      refine HF.out.mono ?_
      rintro e w4 ⟨g, m, cp, rfl, hm, hO4⟩
      have hO5 := Own.join HO0.out hO4
      have hmm : 0 < m ∧ m ≤ 20000 := by
        have := settleS_len 8192 5 ((wrQ W).map (·.1))
        rw [← hm]
        refine ⟨by unfold settleS; simp, by omega⟩
      obtain ⟨g5, cp5, w5, hr, hO6⟩ := steps_added hO5 0 rfl ⟨g, 0, none⟩ m cp (settleS 8192 5 ((wrQ W).map (·.1))) hm 56 (by omega) hmm.1 (steps_at hO5 2 rfl)
      have HC5 := Lib.hid (HC.out w5 hO6.grown)
      have hO6 := Lib.hid hO6
      clear HC HF HO0 hO4 hO5
      go_wp2_with (at_builtin; refine wpList_append_run rfl _ _ _ rfl _ _ _ rfl rfl hr ?_)
      refine HC5.out.mono ?_
      rintro e w6 ⟨g7, m7, cp7, rfl, hm7, hO7⟩
      have hO8 := Own.join hO6.out hO7
      have hmm7 : 0 < m7 ∧ m7 ≤ 20000 := by
        have := markS_len 8192 6 A 0
        rw [← hm7]
        refine ⟨by unfold markS; simp, by omega⟩
      obtain ⟨g9, cp9, w9, hr9, hO9⟩ := steps_added hO8 0 rfl ⟨g7, 0, none⟩ m7 cp7 (markS 8192 6 A 0) hm7 56 (by omega) hmm7.1 (steps_at hO8 3 rfl)
      have hO9 : Hid (Grommet.Own w w9 [stepP g9 (n + m + m7) cp9 (applyS 8192 A W)]) := Lib.hid (Own.less (Qs := [_, _, _]) hO9)
      have hlen : Hid ((applyS 8192 A W).length = n + m + m7) := Lib.hid (by unfold applyS; rw [List.length_append, List.length_append, hsl, hm, hm7])
      clear HC5 hO6 hO7 hO8 hr hm hm7 hmm hmm7 hsl
      go_wp2_with (at_builtin; refine wpList_append_run rfl _ _ _ rfl _ _ _ rfl rfl hr9 ?_)
      go_ret
      exact ⟨g9, n + m + m7, cp9, rfl, hlen.out, hO9.out⟩
end Go.Proofs.YtpdofdloclmbdaaGreat
end
section
/- CommitPlays: Begin of the document's run, of writes that may be. -/
namespace Go.Proofs.YtpdofdloclmbdaaGreat
open Go.RowKit Go.Grommet
set_option linter.unusedVariables false

theorem take_set_end {Ps : List Pr} {j : Nat} {P P' : Pr} {Qs : List Pr} (hj : j < Ps.length) : (Ps.set j P ++ Qs).set j P' = Ps.set j P' ++ Qs := by
  rw [List.set_append_left _ _ (by simpa using hj), List.set_set]
theorem get_set_end {Ps : List Pr} {j : Nat} {P : Pr} {Qs : List Pr} (hj : j < Ps.length) : (Ps.set j P ++ Qs)[j]? = some P := by
  rw [List.getElem?_append_left (by simpa using hj), List.getElem?_set_self hj]
theorem get_end {Ps : List Pr} {j : Nat} {P Q : Pr} {Qs : List Pr} : (Ps.set j P ++ (Q :: Qs))[Ps.length]? = some Q := by
  rw [List.getElem?_append_right (by simp)]; simp
theorem get_end1 {Ps : List Pr} {j : Nat} {P Q0 Q : Pr} {Qs : List Pr} : (Ps.set j P ++ (Q0 :: Q :: Qs))[Ps.length + 1]? = some Q := by
  rw [List.getElem?_append_right (by simp)]; simp
/-- The steps behind a run's own, from a row of another call. -/
theorem ref_more {w0 w wx : World} {Ps : List Pr} {R D : Nat} {a b c k : Int} {S T : List (Nat × Cl)} {g m cp n : Nat} (h : Grommet.Own w0 w Ps) (j : Nat) (hj : Ps[j]? = some (refP R D a b c k S)) (hn : S.length = n) (ad : Option Addr) (cap : Nat) (c5 : w.cell? ⟨R, 5, none⟩ = some (.slice ad n cap)) (hg : w.grownBy wx none) (hT : Grommet.Own wx wx [stepP g m cp T] ∨ Grommet.Own w wx [stepP g m cp T]) (hm : T.length = m) (hs : n + m ≤ 1000000) (ty : TypeId) :
    wx.cell? ⟨R, 5, none⟩ = some (.slice ad n cap) ∧ ∃ ad' cap' w2, (Builtin.append_ #[56, 56] ty #[.slice ad n cap, .slice (some ⟨g, 0, none⟩) m cp]).run Tryz.prog wx = .ok (.slice ad' (n + m) cap') w2 ∧ w2.cell? ⟨R, 5, none⟩ = some (.slice ad n cap) ∧ w2.frozen? ⟨R, 5, none⟩ = false ∧
      Grommet.Own w0 (w2.setCell ⟨R, 5, none⟩ (.slice ad' (n + m) cap')) (Ps.set j (refP R D a b c k (S ++ T))) := by
  have c5x := hg.cell c5 (by simp)
  have hnews : ∀ i u, (stepsV T)[i]? = some u → wx.cell? ((⟨g, 0, none⟩ : Addr).add i) = some u := by
    rcases hT with h | h
    · exact steps_at h 0 rfl
    · exact steps_at h 0 rfl
  obtain ⟨ad1, cap1, ad', cap', w2, x1, x2, x3, x4, x5⟩ := ref_append (h.quiet hg) j hj ⟨g, 0, none⟩ m cp T hm ty (by rw [hn]; exact hs) hnews
  rw [hn] at x1 x2 x3 x5
  rw [c5x] at x1
  cases x1
  exact ⟨c5x, ad', cap', w2, x2, x3, x4, x5⟩

theorem sealQ_succ (A t : Nat) (xs : List Nat) : sealQ A xs (t + 1) = sealQ A xs t ++ [(A + 8 + t, xs.getD t 0)] := by
  unfold sealQ; rw [List.range_succ, List.map_append]; rfl
theorem sealQ_len' (A t : Nat) (xs : List Nat) : (sealQ A xs t).length = t := by unfold sealQ; simp
set_option maxRecDepth 100000 in
set_option maxHeartbeats 8000000 in
theorem BeginR (R D : Nat) (a b c k : Int) (A j : Nat) (ad : Option Addr) (n cap : Nat) (W : List (Int × Nat)) (w0 w : World) (Ps : List Pr) (h : Grommet.Own w0 w Ps) (hj : Ps[j]? = some (refP R D a b c k [])) (hA : areaV a b c k = (A : Int)) (hsm : A < 100000)
    (hat : At w0 ad (icells W)) (hn : W.length = n) (hmay : mayW a b c W = true) (hv : ∀ x ∈ W, x.2 < 18446744073709551616) (hW : ∀ x ∈ W, 0 ≤ x.1 ∧ x.1 < 1000000) :
    Calls Tryz.prog 14 #[.pointer (some ⟨R, 0, none⟩), .slice ad n cap] w fun e w' => e = .returned (.int .i64 0) ∧ Grommet.Own w0 w' (Ps.set j (refP R D a b c k (beginS 8192 A W))) := by
  have hjl := (List.getElem?_eq_some_iff.1 hj).1
  have hn96 : n ≤ 96 := by
    unfold mayW at hmay
    have := (of_decide_eq_true hmay).1
    omega
  have hsmR := recR_small (M := W) (fun p hp => ⟨by have := hW p hp; omega, hv p hp⟩) (by omega)
  have hneg : negB W = false := by
    unfold negB
    rw [List.any_eq_false]
    intro p hp
    have := (hW p hp).1
    simp; omega
  have hRl : (recR W).length = 2 + 2 * n := by rw [recR_length, hn]
  obtain ⟨Z, hZ⟩ : ∃ Z, 2 + 2 * n = Z := ⟨_, rfl⟩
  obtain ⟨X, hX⟩ : ∃ X, recR W = X := ⟨_, rfl⟩
  rw [hZ] at hRl
  rw [hX] at hsmR hRl
  have HMy := Lib.hid (RefMay_any a b c ad n cap W w (hat.grown h.grown (by simp)) hn)
  rw [hmay] at HMy
  unfold BoolIs gv at HMy
  have HWd0 : ∀ wx, w.grownBy wx none → Calls Tryz.prog 61 #[.slice ad n cap] wx fun e w' => ∃ ad1 cap1, e = .returned (.tuple #[.slice ad1 Z cap1, .int .i64 0]) ∧ Grommet.Own w0 w' (Ps ++ [rowP 44 1 (.slice ad1 Z cap1) Z (X.map wv)]) := by
    intro wx hg
    refine (RefWords_few wx.heap.size ad n cap W wx ((hat.grown h.grown (by simp)).grown hg (by simp)) hn hn96 (fun p hp => ⟨by have := hW p hp; omega, hv p hp⟩) (Nat.le_refl _)).mono ?_
    rintro e w' (⟨h, _⟩ | ⟨_, ad1, cap1, rfl, hrow, hg2⟩)
    · rw [hneg] at h; cases h
    · rw [hX] at hrow ⊢
      rw [hRl] at hrow ⊢
      exact ⟨ad1, cap1, rfl, (h.quiet hg).addRow hrow hg2⟩
  have HWd := Lib.hid HWd0
  have HAr := Lib.hid (fun wx => RAreaAt_any a b c k wx)
  rw [hA] at HAr
  unfold gv IntIs at HAr
  have HXl := Lib.hid hRl
  have HXs := Lib.hid hsmR
  have HFr := Lib.hid (fun wx (hg : w0.grownBy wx none) (hq : RQ R D a b c k wx) => fromR R D a b c k A ad n cap W wx hq hA (by omega) (hat.grown hg (by simp)) hn (by omega) hW)
  have HMk := Lib.hid (fun wx (hq : RQ R D a b c k wx) => markR R D a b c k A 3 (markV X) wx hq hA (by omega))
  have hap : Hid ((applyS 8192 A W).length ≤ 20000 + n) := Lib.hid (by
    have h1 := settleS_len 8192 5 ((wrQ W).map (·.1))
    have h2 := markS_len 8192 6 A 0
    have h3 : (storesS 4 (wrQ W)).length = n := by simp [storesS, wrQ, hn]
    unfold applyS
    rw [List.length_append, List.length_append, h3]
    omega)
  have hbe : Hid (beginS 8192 A W = ((storesS 1 (sealQ A X Z) ++ settleS 8192 2 ((sealQ A X Z).map (·.1))) ++ markS 8192 3 A (markV X)) ++ applyS 8192 A W) := Lib.hid (by unfold beginS sealS; rw [hX, hRl])
  have HJ := Lib.hid hj
  obtain ⟨c0, c1, c2, c3, c4, ⟨ads, caps, c5⟩, f5⟩ := ref_cells h j hj
  have c5 : w.cell? ⟨R, 5, none⟩ = some (.slice ads 0 caps) := c5
  unfold ptr at c0
  have hZ2 : 2 ≤ Z ∧ Z ≤ 194 := by omega
  obtain ⟨A8, hA8⟩ : ∃ x, A + 8 = x := ⟨_, rfl⟩
  have e8 : (A : Int) + 8 = (A8 : Int) := by omega
  have w8 : IntKind.i64.wrap (A8 : Int) = (A8 : Int) := IntWalk.i64_in _ ⟨by omega, by omega⟩
  have hA9 : A8 ≤ 200000 := by omega
  unfold StepsAns at HFr HMk
  rw [show ((3 : Nat) : Int) = 3 from rfl] at HMk
  obtain ⟨MV, hMV⟩ : ∃ x, markV X = x := ⟨_, rfl⟩
  rw [hMV] at HMk hbe
  have HMa := Lib.hid (fun wx ad1 cap1 (hw : Words wx ad1 Z X) => RefMark_any ad1 Z cap1 X wx hw)
  rw [hMV] at HMa
  clear h hj hat hn hmay hv hW hneg hRl hX hsmR HWd0 hZ hA hMV
  go_enter Tryz.func14, Tryz.ntmps14
  go_wp2_with fail
  refine HMy.out.mono ?_
  rintro e w1 ⟨rfl, hg1⟩
  have HWd1 := Lib.hid (HWd.out w1 hg1)
  clear HMy HWd hg1 c0 c1 c2 c3 c4 c5 f5
  go_wp2_with fail
  refine HWd1.out.mono ?_
  rintro e w2 ⟨adX, capX, rfl, hO2⟩
  obtain ⟨X0, hX0⟩ : ∃ v, X[0]? = some v := ⟨X[0]'(by have := HXl.out; omega), List.getElem?_eq_getElem _⟩
  obtain ⟨q, rfl, _⟩ := Own.cell hO2 Ps.length last_get 0 (wv X0) (by rw [List.getElem?_map, hX0]; rfl)
  have HWx : Hid (∀ (wx : World) (Q : List Pr) (P : Pr), Grommet.Own w0 wx (Ps.set j P ++ ([rowP 44 1 (.slice (some ⟨q, 0, none⟩) Z capX) Z (X.map wv)] ++ Q)) → Words wx (some ⟨q, 0, none⟩) Z X) := Lib.hid (fun wx Q P hO => (Own.words (ad := some ⟨q, 0, none⟩) (n := Z) (cap := capX) (ys := X) hO Ps.length get_end HXs.out (by omega)).1)
  have HCx : Hid (∀ t, t < Z → ∀ (wx : World) (Q : List Pr) (P : Pr), Grommet.Own w0 wx (Ps.set j P ++ ([rowP 44 1 (.slice (some ⟨q, 0, none⟩) Z capX) Z (X.map wv)] ++ Q)) → wx.cell? ⟨q, t, none⟩ = some (wv (X.getD t 0))) := Lib.hid (fun t ht wx Q P hO => by
    obtain ⟨q', he, x1, _⟩ := Own.cell (ad := some ⟨q, 0, none⟩) (n := Z) (cap := capX) (e := 44) (size := 1) (xs := X.map wv) hO Ps.length get_end t (wv (X.getD t 0)) (by rw [List.getElem?_map, List.getElem?_eq_getElem (by rw [HXl.out]; exact ht), List.getD_eq_getElem?_getD, List.getElem?_eq_getElem (by rw [HXl.out]; exact ht)]; rfl)
    cases he
    exact x1)
  have hz0 : Hid (Grommet.Own w0 w2 (Ps.set j (refP R D a b c k (storesS 1 (sealQ A X 0))) ++ ([rowP 44 1 (.slice (some ⟨q, 0, none⟩) Z capX) Z (X.map wv)] ++ [rowP 3 1 (.slice none 0 0) 0 (((sealQ A X 0).map (fun q => ((q.1 : Nat) : Int))).map zv)]))) := Lib.hid (by
    rw [← List.append_assoc]
    refine Own.add (w := w2) (P := rowP 3 1 (.slice none 0 0) 0 []) (F := fun _ => False) ?_ ⟨World.ownsRow_nil _ _ _ _, ⟨fun i hi => (by cases hi), fun i hi => False.elim hi⟩⟩ (fun i hi => False.elim hi) (World.grownBy.refl _ _)
    have hjn : Ps[j]? = some (refP R D a b c k []) := HJ.out
    rw [show storesS 1 (sealQ A X 0) = [] from rfl, set_selfC hjn]
    exact hO2)
  clear HWd1 hO2 hX0
  go_wp2_with fail
  go_loopw [7, 8, 9] (fun av i _ wr => ∃ (t : Nat) (ad2 : Option Addr) (cap2 : Nat), t ≤ Z ∧ i = .int .i64 (t : Int) ∧ av = .slice ad2 t cap2 ∧ Hid (Grommet.Own w0 wr (Ps.set j (refP R D a b c k (storesS 1 (sealQ A X t))) ++ ([rowP 44 1 (.slice (some ⟨q, 0, none⟩) Z capX) Z (X.map wv)] ++ [rowP 3 1 (.slice ad2 t cap2) t (((sealQ A X t).map (fun q => ((q.1 : Nat) : Int))).map zv)])))) (fun _ i _ _ => Z - (intOf i).toNat)
  case atStart => exact ⟨0, none, 0, Nat.zero_le _, rfl, rfl, hz0⟩
  case round =>
    clear hz0
    obtain ⟨t, ad2, cap2, ht, rfl, rfl, hO⟩ := hrel
    have t0 : (0 : Int) ≤ (t : Int) := by omega
    by_cases hlt : t < Z
    · as_aux_lemma =>
      have hlt' : (t : Int) < (Z : Int) := by omega
      have wt : IntKind.i64.wrap ((t : Int) + 1) = (t : Int) + 1 := IntWalk.i64_in _ ⟨by omega, by omega⟩
      obtain ⟨P0, hP0⟩ : ∃ x, A8 + t = x := ⟨_, rfl⟩
      have e9 : (A8 : Int) + (t : Int) = (P0 : Int) := by omega
      have w9 : IntKind.i64.wrap (P0 : Int) = (P0 : Int) := IntWalk.i64_in _ ⟨by omega, by omega⟩
      have hSl : (storesS 1 (sealQ A X t)).length = t := by simp [storesS, sealQ_len']
      have HK := Lib.hid (fun wx (hO : Grommet.Own w0 wx (Ps.set j (refP R D a b c k (storesS 1 (sealQ A X t))) ++ ([rowP 44 1 (.slice (some ⟨q, 0, none⟩) Z capX) Z (X.map wv)] ++ [rowP 3 1 (.slice ad2 t cap2) t (((sealQ A X t).map (fun q => ((q.1 : Nat) : Int))).map zv)]))) => RQ.of hO j (get_set_end hjl))
      have hOr := Lib.hid (hO.out.quiet (grown_drew (World.grownBy.refl wr none)))
      have hzq := Lib.hid (HK.out _ hOr.out)
      clear hO HFr HMk HMa hap hbe
      go_wp2_with fail
      refine wp_region_held_drew (S := fun w' => RQ R D a b c k w') (by kernel_rfl) (hzq.out) (fun hS => ?_)
      refine wpAnyH_take (i := 0) (oi := { dst := some 34, op := Op.move (Operand.tmp 0), type := 39, pos := "ref.go:110", after := #[], guard := none }) (v := ?vba14r10o0) rfl (by kernel_rfl) (by kernel_rfl) (by kernel_rfl) (fun _ _ _ h => h) (Or.inl ⟨by rfl, ?hba14r10o0⟩) hS ?_
      case hba14r10o0 => (intro wx hx; skip; go_simp; (try with_reducible rfl))
      try simp only [Act.put, List.setIfInBounds_toArray, List.set_cons_zero, List.set_cons_succ]
      refine wpAnyH_take (i := 1) (oi := { dst := some 35, op := Op.nilCheck (Operand.tmp 34), type := 0, pos := "ref.go:110", after := #[{ on := 0, ground := Ground.data }], guard := none }) (v := ?vba14r10o1) rfl (by kernel_rfl) (by kernel_rfl) (by kernel_rfl) (fun _ _ _ h => h) (Or.inl ⟨by rfl, ?hba14r10o1⟩) hS ?_
      case hba14r10o1 => (intro wx hx; skip; go_simp; (try with_reducible rfl))
      try simp only [Act.put, List.setIfInBounds_toArray, List.set_cons_zero, List.set_cons_succ]
      refine wpAnyH_take (i := 2) (oi := { dst := some 36, op := Op.fieldAddr 58 (Operand.tmp 35) 1, type := 0, pos := "ref.go:110", after := #[{ on := 1, ground := Ground.data }], guard := none }) (v := ?vba14r10o2) rfl (by kernel_rfl) (by kernel_rfl) (by kernel_rfl) (fun _ _ _ h => h) (Or.inl ⟨by rfl, ?hba14r10o2⟩) hS ?_
      case hba14r10o2 => (intro wx hx; skip; go_simp; (try with_reducible rfl))
      try simp only [Act.put, List.setIfInBounds_toArray, List.set_cons_zero, List.set_cons_succ]
      refine wpAnyH_take (i := 3) (oi := { dst := some 37, op := Op.load 28 (Operand.tmp 36), type := 28, pos := "ref.go:110", after := #[{ on := 2, ground := Ground.data }], guard := none }) (v := ?vba14r10o3) rfl (by kernel_rfl) (by kernel_rfl) (by kernel_rfl) (fun _ _ _ h => h) (Or.inl ⟨by rfl, ?hba14r10o3⟩) hS ?_
      case hba14r10o3 => (intro wx hx; obtain ⟨y0, y1, y2, y3, y4⟩ := hx; go_simp; (try with_reducible rfl))
      try simp only [Act.put, List.setIfInBounds_toArray, List.set_cons_zero, List.set_cons_succ]
      refine wpAnyH_take (i := 4) (oi := { dst := some 38, op := Op.move (Operand.tmp 0), type := 39, pos := "ref.go:110", after := #[], guard := none }) (v := ?vba14r10o4) rfl (by kernel_rfl) (by kernel_rfl) (by kernel_rfl) (fun _ _ _ h => h) (Or.inl ⟨by rfl, ?hba14r10o4⟩) hS ?_
      case hba14r10o4 => (intro wx hx; skip; go_simp; (try with_reducible rfl))
      try simp only [Act.put, List.setIfInBounds_toArray, List.set_cons_zero, List.set_cons_succ]
      refine wpAnyH_take (i := 5) (oi := { dst := some 39, op := Op.nilCheck (Operand.tmp 38), type := 0, pos := "ref.go:110", after := #[{ on := 4, ground := Ground.data }], guard := none }) (v := ?vba14r10o5) rfl (by kernel_rfl) (by kernel_rfl) (by kernel_rfl) (fun _ _ _ h => h) (Or.inl ⟨by rfl, ?hba14r10o5⟩) hS ?_
      case hba14r10o5 => (intro wx hx; skip; go_simp; (try with_reducible rfl))
      try simp only [Act.put, List.setIfInBounds_toArray, List.set_cons_zero, List.set_cons_succ]
      refine wpAnyH_take (i := 6) (oi := { dst := some 40, op := Op.fieldAddr 58 (Operand.tmp 39) 2, type := 0, pos := "ref.go:110", after := #[{ on := 5, ground := Ground.data }], guard := none }) (v := ?vba14r10o6) rfl (by kernel_rfl) (by kernel_rfl) (by kernel_rfl) (fun _ _ _ h => h) (Or.inl ⟨by rfl, ?hba14r10o6⟩) hS ?_
      case hba14r10o6 => (intro wx hx; skip; go_simp; (try with_reducible rfl))
      try simp only [Act.put, List.setIfInBounds_toArray, List.set_cons_zero, List.set_cons_succ]
      refine wpAnyH_take (i := 7) (oi := { dst := some 41, op := Op.load 3 (Operand.tmp 40), type := 3, pos := "ref.go:110", after := #[{ on := 6, ground := Ground.data }], guard := none }) (v := ?vba14r10o7) rfl (by kernel_rfl) (by kernel_rfl) (by kernel_rfl) (fun _ _ _ h => h) (Or.inl ⟨by rfl, ?hba14r10o7⟩) hS ?_
      case hba14r10o7 => (intro wx hx; obtain ⟨y0, y1, y2, y3, y4⟩ := hx; go_simp; (try with_reducible rfl))
      try simp only [Act.put, List.setIfInBounds_toArray, List.set_cons_zero, List.set_cons_succ]
      refine wpAnyH_take (i := 10) (oi := { dst := some 44, op := Op.move (Operand.tmp 8), type := 3, pos := "ref.go:110", after := #[], guard := none }) (v := ?vba14r10o10) rfl (by kernel_rfl) (by kernel_rfl) (by kernel_rfl) (fun _ _ _ h => h) (Or.inl ⟨by rfl, ?hba14r10o10⟩) hS ?_
      case hba14r10o10 => (intro wx hx; skip; go_simp; (try with_reducible rfl))
      try simp only [Act.put, List.setIfInBounds_toArray, List.set_cons_zero, List.set_cons_succ]
      refine wpAnyH_ready (rs := [8]) (by kernel_rfl) (by simp) ?_
      refine AllReadyH.cons (o := { dst := some 42, op := Op.call { callee := Callee.value (Operand.func 53), args := #[Operand.tmp 37, Operand.tmp 41], argTypes := #[28, 3] }, type := 3, pos := "ref.go:110", after := #[{ on := 3, ground := Ground.data }, { on := 7, ground := Ground.data }], guard := none }) rfl (fun K hK => ?_) AllReadyH.nil
      go_simp
      refine (HAr.out _).mono ?_
      rintro e v1 ⟨rfl, hg1⟩
      have hOn := Lib.hid (hOr.out.quiet hg1)
      clear hOr hg1
      have hOr := hOn
      clear hOn
      refine hK.out _ _ ?hsba14r10o8 (fun hS => ?_)
      case hsba14r10o8 => (exact HK.out _ hOr.out)
      clear hK K
      try simp only [Act.put, List.setIfInBounds_toArray, List.set_cons_zero, List.set_cons_succ]
      refine wpAnyH_take (i := 9) (oi := { dst := some 43, op := Op.binOp BinOp.add 3 (Operand.tmp 42) (Operand.const (Value.int IntKind.i64 8)) 3, type := 3, pos := "ref.go:110", after := #[{ on := 8, ground := Ground.data }], guard := none }) (v := ?vba14r10o9) rfl (by kernel_rfl) (by kernel_rfl) (by kernel_rfl) (fun _ _ _ h => h) (Or.inl ⟨by rfl, ?hba14r10o9⟩) hS ?_
      case hba14r10o9 => (intro wx hx; skip; go_simp; (try with_reducible rfl))
      try simp only [Act.put, List.setIfInBounds_toArray, List.set_cons_zero, List.set_cons_succ]
      refine wpAnyH_take (i := 11) (oi := { dst := some 45, op := Op.binOp BinOp.add 3 (Operand.tmp 43) (Operand.tmp 44) 3, type := 3, pos := "ref.go:110", after := #[{ on := 9, ground := Ground.data }, { on := 10, ground := Ground.data }], guard := none }) (v := ?vba14r10o11) rfl (by kernel_rfl) (by kernel_rfl) (by kernel_rfl) (fun _ _ _ h => h) (Or.inl ⟨by rfl, ?hba14r10o11⟩) hS ?_
      case hba14r10o11 => (intro wx hx; skip; go_simp; (try with_reducible rfl))
      try simp only [Act.put, List.setIfInBounds_toArray, List.set_cons_zero, List.set_cons_succ]
      refine wpAnyH_take (i := 12) (oi := { dst := some 9, op := Op.assign (Operand.tmp 45), type := 3, pos := "ref.go:110", after := #[{ on := 11, ground := Ground.data }, { on := 8, ground := Ground.chain }, { on := 0, ground := Ground.phase }, { on := 1, ground := Ground.phase }, { on := 2, ground := Ground.phase }, { on := 3, ground := Ground.phase }, { on := 4, ground := Ground.phase }, { on := 5, ground := Ground.phase }, { on := 6, ground := Ground.phase }, { on := 7, ground := Ground.phase }, { on := 8, ground := Ground.phase }, { on := 9, ground := Ground.phase }, { on := 10, ground := Ground.phase }, { on := 11, ground := Ground.phase }], guard := none }) (v := ?vba14r10o12) rfl (by kernel_rfl) (by kernel_rfl) (by kernel_rfl) (fun _ _ _ h => h) (Or.inl ⟨by rfl, ?hba14r10o12⟩) hS ?_
      case hba14r10o12 => (intro wx hx; skip; go_simp; (try with_reducible rfl))
      try simp only [Act.put, List.setIfInBounds_toArray, List.set_cons_zero, List.set_cons_succ]
      refine wpAnyH_done (by kernel_rfl) ?_ _
      clear hS hzq HK
      have hOd := hOr.out.quiet (grown_drew (World.grownBy.refl v1 none))
      obtain ⟨V, hV⟩ : ∃ x, X.getD t 0 = x := ⟨_, rfl⟩
      have cV := HCx.out t hlt _ _ _ hOd
      rw [hV] at cV
      unfold wv at cV
      obtain ⟨_, _, _, _, _, ⟨ad5, cp5, c5d⟩, _⟩ := ref_cells hOd j (get_set_end hjl)
      rw [hSl] at c5d
      have hga := World.grownBy_alloc v1.drew (.cells #[.int .i64 1, .int .i64 0, .int .i64 (P0 : Int), .int .u64 (V : Int)] 115) none
      have cVa := hga.cell cV (by simp)
      obtain ⟨ad6, cp6, ad7, cp7, w7, x1, hr, c57, f57, hO7⟩ := ref_append (hOd.quiet hga) j (get_set_end hjl) ⟨v1.heap.size, 0, none⟩ 1 1 [(1, .store P0 V)] rfl 56 (by rw [hSl]; omega) (lit_at v1.drew (1, .store P0 V) #[.int .i64 1, .int .i64 0, .int .i64 (P0 : Int), .int .u64 (V : Int)] rfl)
      rw [hSl] at x1 hr c57 hO7
      have c5a := hga.cell c5d (by simp)
      rw [c5a] at x1
      cases x1
      have c5b : (v1.alloc (.cells #[.int .i64 1, .int .i64 0, .int .i64 (P0 : Int), .int .u64 (V : Int)] 115)).cell? ⟨R, 5, none⟩ = some (.slice ad5 t cp5) := c5a
      obtain ⟨w8, hw8⟩ : ∃ u, w7.setCell ⟨R, 5, none⟩ (.slice ad7 (t + 1) cp7) = u := ⟨_, rfl⟩
      rw [hw8, take_set_end hjl] at hO7
      have hsq : storesS 1 (sealQ A X t) ++ [(1, .store P0 V)] = storesS 1 (sealQ A X (t + 1)) := by
        rw [sealQ_succ, hV, show A + 8 + t = P0 from by omega]; unfold storesS; rw [List.map_append]; rfl
      rw [hsq] at hO7
      have cV8 := HCx.out t hlt _ _ _ hO7
      rw [hV] at cV8
      unfold wv at cV8
      obtain ⟨ad9, cp9, w9, hr9, hO9⟩ := int_added hO7 (Ps.length + 1) get_end1 (P0 : Int) 76 (by omega)
      have hO9 : Hid (Grommet.Own w0 w9 (Ps.set j (refP R D a b c k (storesS 1 (sealQ A X (t + 1)))) ++ ([rowP 44 1 (.slice (some ⟨q, 0, none⟩) Z capX) Z (X.map wv)] ++ [rowP 3 1 (.slice ad9 (t + 1) cp9) (t + 1) (((sealQ A X (t + 1)).map (fun q => ((q.1 : Nat) : Int))).map zv)]))) := Lib.hid (by
        rw [List.set_append_right _ _ (by simp)] at hO9
        rw [show (sealQ A X (t + 1)).map (fun q => ((q.1 : Nat) : Int)) = (sealQ A X t).map (fun q => ((q.1 : Nat) : Int)) ++ [(P0 : Int)] from by rw [sealQ_succ, List.map_append, show A + 8 + t = P0 from by omega]; rfl]
        simpa using hO9)
      have ht1 : t + 1 ≤ Z := by omega
      have S7 : Hid (w7.cell? ⟨q, t, none⟩ = some (.int .u64 (V : Int)) ∧ w8.cell? ⟨q, t, none⟩ = some (.int .u64 (V : Int))) := Lib.hid ⟨by
        have hqR : q ≠ R := by
          intro e
          subst e
          have hb := Own.row hOd Ps.length get_end
          obtain ⟨F, v, hF, _⟩ := hOd.get j (get_set_end hjl)
          obtain ⟨_, hb2 | ⟨g, cap, cur, he, _, hh, _⟩⟩ := hb
          · exact absurd hb2.2 (by omega)
          · cases he
            rw [hF] at hh
            simp at hh
        have := (World.grownBy.refl w7 none)
        rw [← hw8] at cV8
        rw [World.cell?_setCell_far _ _ _ _ (fun e => hqR e.symm)] at cV8
        exact cV8, cV8⟩
      clear hOr hOd hO7 hSl hV hsq hP0 HCx HWx HAr HXl HXs
      go_wp2_with fail
      refine wp_region_held_drew (S := fun w' => w'.cell? ⟨q, t, none⟩ = some (.int .u64 (V : Int))) (by kernel_rfl) (cV) (fun hS => ?_)
      refine wpAnyH_take (i := 0) (oi := { dst := some 46, op := Op.move (Operand.tmp 0), type := 39, pos := "ref.go:111", after := #[], guard := none }) (v := ?vbb14r11o0) rfl (by kernel_rfl) (by kernel_rfl) (by kernel_rfl) (fun _ _ _ h => h) (Or.inl ⟨by rfl, ?hbb14r11o0⟩) hS ?_
      case hbb14r11o0 => (intro wx hx; skip; go_simp; (try with_reducible rfl))
      try simp only [Act.put, List.setIfInBounds_toArray, List.set_cons_zero, List.set_cons_succ]
      refine wpAnyH_take (i := 1) (oi := { dst := some 47, op := Op.move (Operand.tmp 0), type := 39, pos := "ref.go:111", after := #[], guard := none }) (v := ?vbb14r11o1) rfl (by kernel_rfl) (by kernel_rfl) (by kernel_rfl) (fun _ _ _ h => h) (Or.inl ⟨by rfl, ?hbb14r11o1⟩) hS ?_
      case hbb14r11o1 => (intro wx hx; skip; go_simp; (try with_reducible rfl))
      try simp only [Act.put, List.setIfInBounds_toArray, List.set_cons_zero, List.set_cons_succ]
      refine wpAnyH_take (i := 2) (oi := { dst := some 48, op := Op.nilCheck (Operand.tmp 47), type := 0, pos := "ref.go:111", after := #[{ on := 1, ground := Ground.data }], guard := none }) (v := ?vbb14r11o2) rfl (by kernel_rfl) (by kernel_rfl) (by kernel_rfl) (fun _ _ _ h => h) (Or.inl ⟨by rfl, ?hbb14r11o2⟩) hS ?_
      case hbb14r11o2 => (intro wx hx; skip; go_simp; (try with_reducible rfl))
      try simp only [Act.put, List.setIfInBounds_toArray, List.set_cons_zero, List.set_cons_succ]
      refine wpAnyH_take (i := 3) (oi := { dst := some 49, op := Op.fieldAddr 58 (Operand.tmp 48) 3, type := 0, pos := "ref.go:111", after := #[{ on := 2, ground := Ground.data }], guard := none }) (v := ?vbb14r11o3) rfl (by kernel_rfl) (by kernel_rfl) (by kernel_rfl) (fun _ _ _ h => h) (Or.inl ⟨by rfl, ?hbb14r11o3⟩) hS ?_
      case hbb14r11o3 => (intro wx hx; skip; go_simp; (try with_reducible rfl))
      try simp only [Act.put, List.setIfInBounds_toArray, List.set_cons_zero, List.set_cons_succ]
      refine wpAnyH_take (i := 5) (oi := { dst := some 51, op := Op.move (Operand.tmp 9), type := 3, pos := "ref.go:111", after := #[], guard := none }) (v := ?vbb14r11o5) rfl (by kernel_rfl) (by kernel_rfl) (by kernel_rfl) (fun _ _ _ h => h) (Or.inl ⟨by rfl, ?hbb14r11o5⟩) hS ?_
      case hbb14r11o5 => (intro wx hx; skip; go_simp; (try with_reducible rfl))
      try simp only [Act.put, List.setIfInBounds_toArray, List.set_cons_zero, List.set_cons_succ]
      refine wpAnyH_take (i := 6) (oi := { dst := some 52, op := Op.move (Operand.tmp 5), type := 33, pos := "ref.go:111", after := #[], guard := none }) (v := ?vbb14r11o6) rfl (by kernel_rfl) (by kernel_rfl) (by kernel_rfl) (fun _ _ _ h => h) (Or.inl ⟨by rfl, ?hbb14r11o6⟩) hS ?_
      case hbb14r11o6 => (intro wx hx; skip; go_simp; (try with_reducible rfl))
      try simp only [Act.put, List.setIfInBounds_toArray, List.set_cons_zero, List.set_cons_succ]
      refine wpAnyH_take (i := 7) (oi := { dst := some 53, op := Op.move (Operand.tmp 8), type := 3, pos := "ref.go:111", after := #[], guard := none }) (v := ?vbb14r11o7) rfl (by kernel_rfl) (by kernel_rfl) (by kernel_rfl) (fun _ _ _ h => h) (Or.inl ⟨by rfl, ?hbb14r11o7⟩) hS ?_
      case hbb14r11o7 => (intro wx hx; skip; go_simp; (try with_reducible rfl))
      try simp only [Act.put, List.setIfInBounds_toArray, List.set_cons_zero, List.set_cons_succ]
      refine wpAnyH_take (i := 8) (oi := { dst := some 54, op := Op.indexAddr 33 (Operand.tmp 52) (Operand.tmp 53), type := 0, pos := "ref.go:111", after := #[{ on := 6, ground := Ground.data }, { on := 7, ground := Ground.data }], guard := none }) (v := ?vbb14r11o8) rfl (by kernel_rfl) (by kernel_rfl) (by kernel_rfl) (fun _ _ _ h => h) (Or.inl ⟨by rfl, ?hbb14r11o8⟩) hS ?_
      case hbb14r11o8 => (intro wx hx; skip; go_simp; (try with_reducible rfl))
      try simp only [Act.put, List.setIfInBounds_toArray, List.set_cons_zero, List.set_cons_succ]
      refine wpAnyH_take (i := 9) (oi := { dst := some 55, op := Op.load 44 (Operand.tmp 54), type := 44, pos := "ref.go:111", after := #[{ on := 8, ground := Ground.data }], guard := none }) (v := ?vbb14r11o9) rfl (by kernel_rfl) (by kernel_rfl) (by kernel_rfl) (fun _ _ _ h => h) (Or.inl ⟨by rfl, ?hbb14r11o9⟩) hS ?_
      case hbb14r11o9 => (intro wx hx; skip; go_simp; (try with_reducible rfl))
      try simp only [Act.put, List.setIfInBounds_toArray, List.set_cons_zero, List.set_cons_succ]
      refine wpAnyH_take (i := 10) (oi := { dst := some 56, op := Op.build 115 #[(0, Operand.const (Value.int IntKind.i64 1)), (1, Operand.const (Value.int IntKind.i64 0)), (2, Operand.tmp 51), (3, Operand.tmp 55)], type := 115, pos := "ref.go:111", after := #[{ on := 5, ground := Ground.data }, { on := 9, ground := Ground.data }], guard := none }) (v := ?vbb14r11o10) rfl (by kernel_rfl) (by kernel_rfl) (by kernel_rfl) (fun _ _ _ h => h) (Or.inl ⟨by rfl, ?hbb14r11o10⟩) hS ?_
      case hbb14r11o10 => (intro wx hx; skip; go_simp; (try with_reducible rfl))
      try simp only [Act.put, List.setIfInBounds_toArray, List.set_cons_zero, List.set_cons_succ]
      refine wpAnyH_ready (rs := [4, 11]) (by kernel_rfl) (by simp) ?_
      refine AllReadyH.cons (o := { dst := some 50, op := Op.load 56 (Operand.tmp 49), type := 56, pos := "ref.go:111", after := #[{ on := 3, ground := Ground.data }], guard := none }) rfl (fun K hK => ?_) ?_
      ·
        go_simp
        skip
        refine hK.out _ _ ?hsbbx114r11o4 (fun hS => ?_)
        case hsbbx114r11o4 => (exact hS)
        clear hK K
        try simp only [Act.put, List.setIfInBounds_toArray, List.set_cons_zero, List.set_cons_succ]
        refine wpAnyH_ready (rs := [11]) (by kernel_rfl) (by simp) ?_
        refine AllReadyH.cons (o := { dst := some 57, op := Op.buildSlice 56 1 #[(0, Operand.tmp 56)], type := 56, pos := "ref.go:111", after := #[{ on := 10, ground := Ground.data }], guard := none }) rfl (fun K hK => ?_) AllReadyH.nil
        go_simp
        skip
        refine hK.out _ _ ?hsbbx114r11o11 (fun hS => ?_)
        case hsbbx114r11o11 => (exact cVa)
        clear hK K
        try simp only [Act.put, List.setIfInBounds_toArray, List.set_cons_zero, List.set_cons_succ]
        refine wpAnyH_ready (rs := [12]) (by kernel_rfl) (by simp) ?_
        refine AllReadyH.cons (o := { dst := some 58, op := Op.call { callee := Callee.builtin Builtin.append, args := #[Operand.tmp 50, Operand.tmp 57], argTypes := #[56, 56] }, type := 56, pos := "ref.go:111", after := #[{ on := 4, ground := Ground.data }, { on := 11, ground := Ground.data }], guard := none }) rfl (fun K hK => ?_) AllReadyH.nil
        refine wp_apprun _ _ _ rfl _ _ _ rfl rfl hr ?_
        refine hK.out _ _ ?_ (fun hS => ?_)
        · exact S7.out.1
        clear hK K
        try simp only [Act.put, List.setIfInBounds_toArray, List.set_cons_zero, List.set_cons_succ]
        refine wpAnyH_take (i := 13) (oi := { dst := some 59, op := Op.nilCheck (Operand.tmp 46), type := 0, pos := "ref.go:111", after := #[{ on := 0, ground := Ground.data }, { on := 0, ground := Ground.phase }, { on := 1, ground := Ground.phase }, { on := 2, ground := Ground.phase }, { on := 3, ground := Ground.phase }, { on := 4, ground := Ground.phase }, { on := 5, ground := Ground.phase }, { on := 6, ground := Ground.phase }, { on := 7, ground := Ground.phase }, { on := 8, ground := Ground.phase }, { on := 9, ground := Ground.phase }, { on := 10, ground := Ground.phase }, { on := 11, ground := Ground.phase }, { on := 12, ground := Ground.phase }], guard := none }) (v := ?vbbx114r11o13) rfl (by kernel_rfl) (by kernel_rfl) (by kernel_rfl) (fun _ _ _ h => h) (Or.inl ⟨by rfl, ?hbbx114r11o13⟩) hS ?_
        case hbbx114r11o13 => (intro wx hx; skip; go_simp; (try with_reducible rfl))
        try simp only [Act.put, List.setIfInBounds_toArray, List.set_cons_zero, List.set_cons_succ]
        refine wpAnyH_take (i := 14) (oi := { dst := some 60, op := Op.fieldAddr 58 (Operand.tmp 59) 3, type := 0, pos := "ref.go:111", after := #[{ on := 13, ground := Ground.data }, { on := 0, ground := Ground.phase }, { on := 1, ground := Ground.phase }, { on := 2, ground := Ground.phase }, { on := 3, ground := Ground.phase }, { on := 4, ground := Ground.phase }, { on := 5, ground := Ground.phase }, { on := 6, ground := Ground.phase }, { on := 7, ground := Ground.phase }, { on := 8, ground := Ground.phase }, { on := 9, ground := Ground.phase }, { on := 10, ground := Ground.phase }, { on := 11, ground := Ground.phase }, { on := 12, ground := Ground.phase }], guard := none }) (v := ?vbbx114r11o14) rfl (by kernel_rfl) (by kernel_rfl) (by kernel_rfl) (fun _ _ _ h => h) (Or.inl ⟨by rfl, ?hbbx114r11o14⟩) hS ?_
        case hbbx114r11o14 => (intro wx hx; skip; go_simp; (try with_reducible rfl))
        try simp only [Act.put, List.setIfInBounds_toArray, List.set_cons_zero, List.set_cons_succ]
        refine wpAnyH_ready (rs := [15]) (by kernel_rfl) (by simp) ?_
        refine AllReadyH.cons (o := { dst := none, op := Op.store 56 (Operand.tmp 60) (Operand.tmp 58), type := 0, pos := "ref.go:111", after := #[{ on := 14, ground := Ground.data }, { on := 12, ground := Ground.data }, { on := 12, ground := Ground.chain }, { on := 0, ground := Ground.phase }, { on := 1, ground := Ground.phase }, { on := 2, ground := Ground.phase }, { on := 3, ground := Ground.phase }, { on := 4, ground := Ground.phase }, { on := 5, ground := Ground.phase }, { on := 6, ground := Ground.phase }, { on := 7, ground := Ground.phase }, { on := 8, ground := Ground.phase }, { on := 9, ground := Ground.phase }, { on := 10, ground := Ground.phase }, { on := 11, ground := Ground.phase }, { on := 12, ground := Ground.phase }], guard := none }) rfl (fun K hK => ?_) AllReadyH.nil
        go_simp
        refine hK.out _ _ ?_ (fun hS => ?_)
        · exact S7.out.2
        clear hK K
        try simp only [Act.put, List.setIfInBounds_toArray, List.set_cons_zero, List.set_cons_succ]
        refine wpAnyH_done (by kernel_rfl) ?_ _
        clear hS
        go_wp2_with (at_builtin; refine wpList_append_run rfl _ _ _ rfl _ _ _ rfl rfl hr9 ?_)
        go_roundw
        case rel => exact ⟨t + 1, ad9, cp9, ht1, by go_num, rfl, hO9⟩
        case measure => simp [intOf]; omega
      refine AllReadyH.cons (o := { dst := some 57, op := Op.buildSlice 56 1 #[(0, Operand.tmp 56)], type := 56, pos := "ref.go:111", after := #[{ on := 10, ground := Ground.data }], guard := none }) rfl (fun K hK => ?_) ?_
      ·
        go_simp
        skip
        refine hK.out _ _ ?hsbbx314r11o11 (fun hS => ?_)
        case hsbbx314r11o11 => (exact cVa)
        clear hK K
        try simp only [Act.put, List.setIfInBounds_toArray, List.set_cons_zero, List.set_cons_succ]
        refine wpAnyH_ready (rs := [4]) (by kernel_rfl) (by simp) ?_
        refine AllReadyH.cons (o := { dst := some 50, op := Op.load 56 (Operand.tmp 49), type := 56, pos := "ref.go:111", after := #[{ on := 3, ground := Ground.data }], guard := none }) rfl (fun K hK => ?_) AllReadyH.nil
        go_simp
        skip
        refine hK.out _ _ ?hsbbx314r11o4 (fun hS => ?_)
        case hsbbx314r11o4 => (exact hS)
        clear hK K
        try simp only [Act.put, List.setIfInBounds_toArray, List.set_cons_zero, List.set_cons_succ]
        refine wpAnyH_ready (rs := [12]) (by kernel_rfl) (by simp) ?_
        refine AllReadyH.cons (o := { dst := some 58, op := Op.call { callee := Callee.builtin Builtin.append, args := #[Operand.tmp 50, Operand.tmp 57], argTypes := #[56, 56] }, type := 56, pos := "ref.go:111", after := #[{ on := 4, ground := Ground.data }, { on := 11, ground := Ground.data }], guard := none }) rfl (fun K hK => ?_) AllReadyH.nil
        refine wp_apprun _ _ _ rfl _ _ _ rfl rfl hr ?_
        refine hK.out _ _ ?_ (fun hS => ?_)
        · exact S7.out.1
        clear hK K
        try simp only [Act.put, List.setIfInBounds_toArray, List.set_cons_zero, List.set_cons_succ]
        refine wpAnyH_take (i := 13) (oi := { dst := some 59, op := Op.nilCheck (Operand.tmp 46), type := 0, pos := "ref.go:111", after := #[{ on := 0, ground := Ground.data }, { on := 0, ground := Ground.phase }, { on := 1, ground := Ground.phase }, { on := 2, ground := Ground.phase }, { on := 3, ground := Ground.phase }, { on := 4, ground := Ground.phase }, { on := 5, ground := Ground.phase }, { on := 6, ground := Ground.phase }, { on := 7, ground := Ground.phase }, { on := 8, ground := Ground.phase }, { on := 9, ground := Ground.phase }, { on := 10, ground := Ground.phase }, { on := 11, ground := Ground.phase }, { on := 12, ground := Ground.phase }], guard := none }) (v := ?vbbx314r11o13) rfl (by kernel_rfl) (by kernel_rfl) (by kernel_rfl) (fun _ _ _ h => h) (Or.inl ⟨by rfl, ?hbbx314r11o13⟩) hS ?_
        case hbbx314r11o13 => (intro wx hx; skip; go_simp; (try with_reducible rfl))
        try simp only [Act.put, List.setIfInBounds_toArray, List.set_cons_zero, List.set_cons_succ]
        refine wpAnyH_take (i := 14) (oi := { dst := some 60, op := Op.fieldAddr 58 (Operand.tmp 59) 3, type := 0, pos := "ref.go:111", after := #[{ on := 13, ground := Ground.data }, { on := 0, ground := Ground.phase }, { on := 1, ground := Ground.phase }, { on := 2, ground := Ground.phase }, { on := 3, ground := Ground.phase }, { on := 4, ground := Ground.phase }, { on := 5, ground := Ground.phase }, { on := 6, ground := Ground.phase }, { on := 7, ground := Ground.phase }, { on := 8, ground := Ground.phase }, { on := 9, ground := Ground.phase }, { on := 10, ground := Ground.phase }, { on := 11, ground := Ground.phase }, { on := 12, ground := Ground.phase }], guard := none }) (v := ?vbbx314r11o14) rfl (by kernel_rfl) (by kernel_rfl) (by kernel_rfl) (fun _ _ _ h => h) (Or.inl ⟨by rfl, ?hbbx314r11o14⟩) hS ?_
        case hbbx314r11o14 => (intro wx hx; skip; go_simp; (try with_reducible rfl))
        try simp only [Act.put, List.setIfInBounds_toArray, List.set_cons_zero, List.set_cons_succ]
        refine wpAnyH_ready (rs := [15]) (by kernel_rfl) (by simp) ?_
        refine AllReadyH.cons (o := { dst := none, op := Op.store 56 (Operand.tmp 60) (Operand.tmp 58), type := 0, pos := "ref.go:111", after := #[{ on := 14, ground := Ground.data }, { on := 12, ground := Ground.data }, { on := 12, ground := Ground.chain }, { on := 0, ground := Ground.phase }, { on := 1, ground := Ground.phase }, { on := 2, ground := Ground.phase }, { on := 3, ground := Ground.phase }, { on := 4, ground := Ground.phase }, { on := 5, ground := Ground.phase }, { on := 6, ground := Ground.phase }, { on := 7, ground := Ground.phase }, { on := 8, ground := Ground.phase }, { on := 9, ground := Ground.phase }, { on := 10, ground := Ground.phase }, { on := 11, ground := Ground.phase }, { on := 12, ground := Ground.phase }], guard := none }) rfl (fun K hK => ?_) AllReadyH.nil
        go_simp
        refine hK.out _ _ ?_ (fun hS => ?_)
        · exact S7.out.2
        clear hK K
        try simp only [Act.put, List.setIfInBounds_toArray, List.set_cons_zero, List.set_cons_succ]
        refine wpAnyH_done (by kernel_rfl) ?_ _
        clear hS
        go_wp2_with (at_builtin; refine wpList_append_run rfl _ _ _ rfl _ _ _ rfl rfl hr9 ?_)
        go_roundw
        case rel => exact ⟨t + 1, ad9, cp9, ht1, by go_num, rfl, hO9⟩
        case measure => simp [intOf]; omega
      exact AllReadyH.nil
    · obtain rfl : Z = t := by omega
      have hlt' : ¬ (Z : Int) < (Z : Int) := by omega
      have hSl : (storesS 1 (sealQ A X Z)).length = Z := by simp [storesS, sealQ_len']
      obtain ⟨T2, hT2⟩ : ∃ x, settleS 8192 2 ((sealQ A X Z).map (·.1)) = x := ⟨_, rfl⟩
      obtain ⟨S0, hS0⟩ : ∃ x, storesS 1 (sealQ A X Z) = x := ⟨_, rfl⟩
      have hO0 := hO.out
      rw [hS0] at hO0 hSl hbe
      rw [hT2] at hbe
      have hOd := hO0.quiet (grown_drew (World.grownBy.refl wr none))
      obtain ⟨_, _, _, _, _, ⟨ad5, cp5, c5d⟩, _⟩ := ref_cells hOd j (get_set_end hjl)
      rw [hSl] at c5d
      have hat2 : ∀ wx, wr.drew.grownBy wx none → At wx ad2 (((sealQ A X Z).map (·.1)).map nv) := by
        intro wx hg
        obtain ⟨ad', cap', he, hat, _⟩ := row_slice (Own.row hOd (Ps.length + 1) get_end1)
        cases he
        have := hat.grown hg (by simp)
        simpa [List.map_map, Function.comp_def, nv, zv] using this
      have HF := Lib.hid (flushesH 2 ad2 Z cap2 ((sealQ A X Z).map (·.1)) wr.drew hat2 (by simp [sealQ_len']) (fun x hx => by
        obtain ⟨p, hp, rfl⟩ := List.mem_map.1 hx
        obtain ⟨i, hi, rfl⟩ := List.mem_map.1 hp
        have := List.mem_range.1 hi
        show A + 8 + i < 1000000
        omega) (by omega))
      rw [hT2] at HF
      unfold StepsAns at HF
      rw [show ((2 : Nat) : Int) = 2 from rfl] at HF
      have hT2l : T2.length ≤ 8193 := by rw [← hT2]; have := settleS_len 8192 2 ((sealQ A X Z).map (·.1)); omega
      have hOd := Lib.hid hOd
      clear hO hO0 hat2
      go_upto_region 13 with fail
      go_cut [] (fun wx => ∃ m, T2.length = m ∧ Hid (Grommet.Own w0 wx (Ps.set j (refP R D a b c k (S0 ++ T2)) ++ ([rowP 44 1 (.slice (some ⟨q, 0, none⟩) Z capX) Z (X.map wv)] ++ [rowP 3 1 (.slice ad2 Z cap2) Z (((sealQ A X Z).map (fun q => ((q.1 : Nat) : Int))).map zv)]))))
      case first =>
        clear HFr HMk HMa hap hbe HAr HCx HWx HXl HXs
        refine wp_region_held_drew (S := fun w' => True) (by kernel_rfl) (trivial) (fun hS => ?_)
        refine wpAnyH_take (i := 0) (oi := { dst := some 65, op := Op.move (Operand.tmp 0), type := 39, pos := "ref.go:114", after := #[], guard := none }) (v := ?vbc14r13o0) rfl (by kernel_rfl) (by kernel_rfl) (by kernel_rfl) (fun _ _ _ h => h) (Or.inl ⟨by rfl, ?hbc14r13o0⟩) hS ?_
        case hbc14r13o0 => (intro wx hx; skip; go_simp; (try with_reducible rfl))
        try simp only [Act.put, List.setIfInBounds_toArray, List.set_cons_zero, List.set_cons_succ]
        refine wpAnyH_take (i := 1) (oi := { dst := some 66, op := Op.move (Operand.tmp 0), type := 39, pos := "ref.go:114", after := #[], guard := none }) (v := ?vbc14r13o1) rfl (by kernel_rfl) (by kernel_rfl) (by kernel_rfl) (fun _ _ _ h => h) (Or.inl ⟨by rfl, ?hbc14r13o1⟩) hS ?_
        case hbc14r13o1 => (intro wx hx; skip; go_simp; (try with_reducible rfl))
        try simp only [Act.put, List.setIfInBounds_toArray, List.set_cons_zero, List.set_cons_succ]
        refine wpAnyH_take (i := 2) (oi := { dst := some 67, op := Op.nilCheck (Operand.tmp 66), type := 0, pos := "ref.go:114", after := #[{ on := 1, ground := Ground.data }], guard := none }) (v := ?vbc14r13o2) rfl (by kernel_rfl) (by kernel_rfl) (by kernel_rfl) (fun _ _ _ h => h) (Or.inl ⟨by rfl, ?hbc14r13o2⟩) hS ?_
        case hbc14r13o2 => (intro wx hx; skip; go_simp; (try with_reducible rfl))
        try simp only [Act.put, List.setIfInBounds_toArray, List.set_cons_zero, List.set_cons_succ]
        refine wpAnyH_take (i := 3) (oi := { dst := some 68, op := Op.fieldAddr 58 (Operand.tmp 67) 3, type := 0, pos := "ref.go:114", after := #[{ on := 2, ground := Ground.data }], guard := none }) (v := ?vbc14r13o3) rfl (by kernel_rfl) (by kernel_rfl) (by kernel_rfl) (fun _ _ _ h => h) (Or.inl ⟨by rfl, ?hbc14r13o3⟩) hS ?_
        case hbc14r13o3 => (intro wx hx; skip; go_simp; (try with_reducible rfl))
        try simp only [Act.put, List.setIfInBounds_toArray, List.set_cons_zero, List.set_cons_succ]
        refine wpAnyH_take (i := 5) (oi := { dst := some 70, op := Op.move (Operand.tmp 7), type := 76, pos := "ref.go:114", after := #[], guard := none }) (v := ?vbc14r13o5) rfl (by kernel_rfl) (by kernel_rfl) (by kernel_rfl) (fun _ _ _ h => h) (Or.inl ⟨by rfl, ?hbc14r13o5⟩) hS ?_
        case hbc14r13o5 => (intro wx hx; skip; go_simp; (try with_reducible rfl))
        try simp only [Act.put, List.setIfInBounds_toArray, List.set_cons_zero, List.set_cons_succ]
        refine wpAnyH_ready (rs := [4, 6]) (by kernel_rfl) (by simp) ?_
        refine AllReadyH.cons (o := { dst := some 69, op := Op.load 56 (Operand.tmp 68), type := 56, pos := "ref.go:114", after := #[{ on := 3, ground := Ground.data }], guard := none }) rfl (fun K hK => ?_) ?_
        ·
          go_simp
          skip
          refine hK.out _ _ ?hsbcx114r13o4 (fun hS => ?_)
          case hsbcx114r13o4 => (trivial)
          clear hK K
          try simp only [Act.put, List.setIfInBounds_toArray, List.set_cons_zero, List.set_cons_succ]
          refine wpAnyH_ready (rs := [6]) (by kernel_rfl) (by simp) ?_
          refine AllReadyH.cons (o := { dst := some 71, op := Op.call { callee := Callee.value (Operand.func 62), args := #[Operand.const (Value.int IntKind.i64 2), Operand.tmp 70], argTypes := #[3, 76] }, type := 56, pos := "ref.go:114", after := #[{ on := 5, ground := Ground.data }], guard := none }) rfl (fun K hK => ?_) AllReadyH.nil
          go_simp
          refine HF.out.mono ?_
          rintro e v4 ⟨g4, m4, cp4, rfl, hm4, hO4⟩
          obtain ⟨c5v, ad8, cp8, w8, hr8, c58, f58, hO8⟩ := ref_more hOd.out j (get_set_end hjl) hSl ad5 cp5 c5d hO4.grown (.inr hO4) hm4 (by omega) 56
          rw [take_set_end hjl] at hO8
          have hO8 := Lib.hid hO8
          clear hO4
          refine hK.out _ _ ?hsbcx114r13o6 (fun hS => ?_)
          case hsbcx114r13o6 => (trivial)
          clear hK K
          try simp only [Act.put, List.setIfInBounds_toArray, List.set_cons_zero, List.set_cons_succ]
          refine wpAnyH_ready (rs := [7]) (by kernel_rfl) (by simp) ?_
          refine AllReadyH.cons (o := { dst := some 72, op := Op.call { callee := Callee.builtin Builtin.append, args := #[Operand.tmp 69, Operand.tmp 71], argTypes := #[56, 56] }, type := 56, pos := "ref.go:114", after := #[{ on := 4, ground := Ground.data }, { on := 6, ground := Ground.data }, { on := 6, ground := Ground.chain }], guard := none }) rfl (fun K hK => ?_) AllReadyH.nil
          refine wp_apprun _ _ _ rfl _ _ _ rfl rfl hr8 ?_
          refine hK.out _ _ ?_ (fun hS => ?_)
          · trivial
          clear hK K
          try simp only [Act.put, List.setIfInBounds_toArray, List.set_cons_zero, List.set_cons_succ]
          refine wpAnyH_take (i := 8) (oi := { dst := some 73, op := Op.nilCheck (Operand.tmp 65), type := 0, pos := "ref.go:114", after := #[{ on := 0, ground := Ground.data }, { on := 0, ground := Ground.phase }, { on := 1, ground := Ground.phase }, { on := 2, ground := Ground.phase }, { on := 3, ground := Ground.phase }, { on := 4, ground := Ground.phase }, { on := 5, ground := Ground.phase }, { on := 6, ground := Ground.phase }, { on := 7, ground := Ground.phase }], guard := none }) (v := ?vbcx114r13o8) rfl (by kernel_rfl) (by kernel_rfl) (by kernel_rfl) (fun _ _ _ h => h) (Or.inl ⟨by rfl, ?hbcx114r13o8⟩) hS ?_
          case hbcx114r13o8 => (intro wx hx; skip; go_simp; (try with_reducible rfl))
          try simp only [Act.put, List.setIfInBounds_toArray, List.set_cons_zero, List.set_cons_succ]
          refine wpAnyH_take (i := 9) (oi := { dst := some 74, op := Op.fieldAddr 58 (Operand.tmp 73) 3, type := 0, pos := "ref.go:114", after := #[{ on := 8, ground := Ground.data }, { on := 0, ground := Ground.phase }, { on := 1, ground := Ground.phase }, { on := 2, ground := Ground.phase }, { on := 3, ground := Ground.phase }, { on := 4, ground := Ground.phase }, { on := 5, ground := Ground.phase }, { on := 6, ground := Ground.phase }, { on := 7, ground := Ground.phase }], guard := none }) (v := ?vbcx114r13o9) rfl (by kernel_rfl) (by kernel_rfl) (by kernel_rfl) (fun _ _ _ h => h) (Or.inl ⟨by rfl, ?hbcx114r13o9⟩) hS ?_
          case hbcx114r13o9 => (intro wx hx; skip; go_simp; (try with_reducible rfl))
          try simp only [Act.put, List.setIfInBounds_toArray, List.set_cons_zero, List.set_cons_succ]
          refine wpAnyH_ready (rs := [10]) (by kernel_rfl) (by simp) ?_
          refine AllReadyH.cons (o := { dst := none, op := Op.store 56 (Operand.tmp 74) (Operand.tmp 72), type := 0, pos := "ref.go:114", after := #[{ on := 9, ground := Ground.data }, { on := 7, ground := Ground.data }, { on := 7, ground := Ground.chain }, { on := 0, ground := Ground.phase }, { on := 1, ground := Ground.phase }, { on := 2, ground := Ground.phase }, { on := 3, ground := Ground.phase }, { on := 4, ground := Ground.phase }, { on := 5, ground := Ground.phase }, { on := 6, ground := Ground.phase }, { on := 7, ground := Ground.phase }], guard := none }) rfl (fun K hK => ?_) AllReadyH.nil
          go_simp
          refine hK.out _ _ ?_ (fun hS => ?_)
          · trivial
          clear hK K
          try simp only [Act.put, List.setIfInBounds_toArray, List.set_cons_zero, List.set_cons_succ]
          refine wpAnyH_done (by kernel_rfl) ?_ _
          clear hS
          go_wp2_with fail
          go_meet
          case rel => exact ⟨m4, hm4, hO8⟩
        refine AllReadyH.cons (o := { dst := some 71, op := Op.call { callee := Callee.value (Operand.func 62), args := #[Operand.const (Value.int IntKind.i64 2), Operand.tmp 70], argTypes := #[3, 76] }, type := 56, pos := "ref.go:114", after := #[{ on := 5, ground := Ground.data }], guard := none }) rfl (fun K hK => ?_) ?_
        ·
          go_simp
          refine HF.out.mono ?_
          rintro e v4 ⟨g4, m4, cp4, rfl, hm4, hO4⟩
          obtain ⟨c5v, ad8, cp8, w8, hr8, c58, f58, hO8⟩ := ref_more hOd.out j (get_set_end hjl) hSl ad5 cp5 c5d hO4.grown (.inr hO4) hm4 (by omega) 56
          rw [take_set_end hjl] at hO8
          have hO8 := Lib.hid hO8
          clear hO4
          refine hK.out _ _ ?hsbcx314r13o6 (fun hS => ?_)
          case hsbcx314r13o6 => (trivial)
          clear hK K
          try simp only [Act.put, List.setIfInBounds_toArray, List.set_cons_zero, List.set_cons_succ]
          refine wpAnyH_ready (rs := [4]) (by kernel_rfl) (by simp) ?_
          refine AllReadyH.cons (o := { dst := some 69, op := Op.load 56 (Operand.tmp 68), type := 56, pos := "ref.go:114", after := #[{ on := 3, ground := Ground.data }], guard := none }) rfl (fun K hK => ?_) AllReadyH.nil
          go_simp
          skip
          refine hK.out _ _ ?hsbcx314r13o4 (fun hS => ?_)
          case hsbcx314r13o4 => (trivial)
          clear hK K
          try simp only [Act.put, List.setIfInBounds_toArray, List.set_cons_zero, List.set_cons_succ]
          refine wpAnyH_ready (rs := [7]) (by kernel_rfl) (by simp) ?_
          refine AllReadyH.cons (o := { dst := some 72, op := Op.call { callee := Callee.builtin Builtin.append, args := #[Operand.tmp 69, Operand.tmp 71], argTypes := #[56, 56] }, type := 56, pos := "ref.go:114", after := #[{ on := 4, ground := Ground.data }, { on := 6, ground := Ground.data }, { on := 6, ground := Ground.chain }], guard := none }) rfl (fun K hK => ?_) AllReadyH.nil
          refine wp_apprun _ _ _ rfl _ _ _ rfl rfl hr8 ?_
          refine hK.out _ _ ?_ (fun hS => ?_)
          · trivial
          clear hK K
          try simp only [Act.put, List.setIfInBounds_toArray, List.set_cons_zero, List.set_cons_succ]
          refine wpAnyH_take (i := 8) (oi := { dst := some 73, op := Op.nilCheck (Operand.tmp 65), type := 0, pos := "ref.go:114", after := #[{ on := 0, ground := Ground.data }, { on := 0, ground := Ground.phase }, { on := 1, ground := Ground.phase }, { on := 2, ground := Ground.phase }, { on := 3, ground := Ground.phase }, { on := 4, ground := Ground.phase }, { on := 5, ground := Ground.phase }, { on := 6, ground := Ground.phase }, { on := 7, ground := Ground.phase }], guard := none }) (v := ?vbcx314r13o8) rfl (by kernel_rfl) (by kernel_rfl) (by kernel_rfl) (fun _ _ _ h => h) (Or.inl ⟨by rfl, ?hbcx314r13o8⟩) hS ?_
          case hbcx314r13o8 => (intro wx hx; skip; go_simp; (try with_reducible rfl))
          try simp only [Act.put, List.setIfInBounds_toArray, List.set_cons_zero, List.set_cons_succ]
          refine wpAnyH_take (i := 9) (oi := { dst := some 74, op := Op.fieldAddr 58 (Operand.tmp 73) 3, type := 0, pos := "ref.go:114", after := #[{ on := 8, ground := Ground.data }, { on := 0, ground := Ground.phase }, { on := 1, ground := Ground.phase }, { on := 2, ground := Ground.phase }, { on := 3, ground := Ground.phase }, { on := 4, ground := Ground.phase }, { on := 5, ground := Ground.phase }, { on := 6, ground := Ground.phase }, { on := 7, ground := Ground.phase }], guard := none }) (v := ?vbcx314r13o9) rfl (by kernel_rfl) (by kernel_rfl) (by kernel_rfl) (fun _ _ _ h => h) (Or.inl ⟨by rfl, ?hbcx314r13o9⟩) hS ?_
          case hbcx314r13o9 => (intro wx hx; skip; go_simp; (try with_reducible rfl))
          try simp only [Act.put, List.setIfInBounds_toArray, List.set_cons_zero, List.set_cons_succ]
          refine wpAnyH_ready (rs := [10]) (by kernel_rfl) (by simp) ?_
          refine AllReadyH.cons (o := { dst := none, op := Op.store 56 (Operand.tmp 74) (Operand.tmp 72), type := 0, pos := "ref.go:114", after := #[{ on := 9, ground := Ground.data }, { on := 7, ground := Ground.data }, { on := 7, ground := Ground.chain }, { on := 0, ground := Ground.phase }, { on := 1, ground := Ground.phase }, { on := 2, ground := Ground.phase }, { on := 3, ground := Ground.phase }, { on := 4, ground := Ground.phase }, { on := 5, ground := Ground.phase }, { on := 6, ground := Ground.phase }, { on := 7, ground := Ground.phase }], guard := none }) rfl (fun K hK => ?_) AllReadyH.nil
          go_simp
          refine hK.out _ _ ?_ (fun hS => ?_)
          · trivial
          clear hK K
          try simp only [Act.put, List.setIfInBounds_toArray, List.set_cons_zero, List.set_cons_succ]
          refine wpAnyH_done (by kernel_rfl) ?_ _
          clear hS
          go_wp2_with fail
          go_meet
          case rel => exact ⟨m4, hm4, hO8⟩
        exact AllReadyH.nil
      case rest =>
        obtain ⟨m2, hm2, hO⟩ := hcut
        clear HF hOd c5d
        have hSl2 : (S0 ++ T2).length = Z + m2 := by rw [List.length_append, hSl, hm2]
        obtain ⟨S2, hS2⟩ : ∃ x, S0 ++ T2 = x := ⟨_, rfl⟩
        rw [hS2] at hO hSl2 hbe
        obtain ⟨T3, hT3⟩ : ∃ x, markS 8192 3 A MV = x := ⟨_, rfl⟩
        rw [hT3] at hbe HMk
        have hT3l : T3.length ≤ 8194 := by rw [← hT3]; have := markS_len 8192 3 A MV; omega
        have hOd := hO.out.quiet (grown_drew (World.grownBy.refl wc none))
        obtain ⟨_, _, _, _, _, ⟨ad5, cp5, c5d⟩, _⟩ := ref_cells hOd j (get_set_end hjl)
        rw [hSl2] at c5d
        have HMa1 := Lib.hid (HMa.out wc.drew (some ⟨q, 0, none⟩) capX (HWx.out _ _ _ hOd))
        have hq3 := Lib.hid (RQ.of hOd j (get_set_end hjl))
        have hOd := Lib.hid hOd
        have hm2l : m2 ≤ 8193 := by omega
        clear hO hm2 hSl
        go_upto_region 14 with fail
        go_cut [] (fun wx => ∃ m, T3.length = m ∧ Hid (Grommet.Own w0 wx (Ps.set j (refP R D a b c k (S2 ++ T3)) ++ ([rowP 44 1 (.slice (some ⟨q, 0, none⟩) Z capX) Z (X.map wv)] ++ [rowP 3 1 (.slice ad2 Z cap2) Z (((sealQ A X Z).map (fun q => ((q.1 : Nat) : Int))).map zv)]))))
        case first =>
          clear HFr HMa hap hbe HAr HCx HWx HXl HXs
          refine wp_region_held_drew (S := fun w' => True) (by kernel_rfl) (trivial) (fun hS => ?_)
          refine wpAnyH_take (i := 0) (oi := { dst := some 75, op := Op.move (Operand.tmp 0), type := 39, pos := "ref.go:115", after := #[], guard := none }) (v := ?vbd14r14o0) rfl (by kernel_rfl) (by kernel_rfl) (by kernel_rfl) (fun _ _ _ h => h) (Or.inl ⟨by rfl, ?hbd14r14o0⟩) hS ?_
          case hbd14r14o0 => (intro wx hx; skip; go_simp; (try with_reducible rfl))
          try simp only [Act.put, List.setIfInBounds_toArray, List.set_cons_zero, List.set_cons_succ]
          refine wpAnyH_take (i := 1) (oi := { dst := some 76, op := Op.move (Operand.tmp 0), type := 39, pos := "ref.go:115", after := #[], guard := none }) (v := ?vbd14r14o1) rfl (by kernel_rfl) (by kernel_rfl) (by kernel_rfl) (fun _ _ _ h => h) (Or.inl ⟨by rfl, ?hbd14r14o1⟩) hS ?_
          case hbd14r14o1 => (intro wx hx; skip; go_simp; (try with_reducible rfl))
          try simp only [Act.put, List.setIfInBounds_toArray, List.set_cons_zero, List.set_cons_succ]
          refine wpAnyH_take (i := 2) (oi := { dst := some 77, op := Op.nilCheck (Operand.tmp 76), type := 0, pos := "ref.go:115", after := #[{ on := 1, ground := Ground.data }], guard := none }) (v := ?vbd14r14o2) rfl (by kernel_rfl) (by kernel_rfl) (by kernel_rfl) (fun _ _ _ h => h) (Or.inl ⟨by rfl, ?hbd14r14o2⟩) hS ?_
          case hbd14r14o2 => (intro wx hx; skip; go_simp; (try with_reducible rfl))
          try simp only [Act.put, List.setIfInBounds_toArray, List.set_cons_zero, List.set_cons_succ]
          refine wpAnyH_take (i := 3) (oi := { dst := some 78, op := Op.fieldAddr 58 (Operand.tmp 77) 3, type := 0, pos := "ref.go:115", after := #[{ on := 2, ground := Ground.data }], guard := none }) (v := ?vbd14r14o3) rfl (by kernel_rfl) (by kernel_rfl) (by kernel_rfl) (fun _ _ _ h => h) (Or.inl ⟨by rfl, ?hbd14r14o3⟩) hS ?_
          case hbd14r14o3 => (intro wx hx; skip; go_simp; (try with_reducible rfl))
          try simp only [Act.put, List.setIfInBounds_toArray, List.set_cons_zero, List.set_cons_succ]
          refine wpAnyH_take (i := 5) (oi := { dst := some 80, op := Op.move (Operand.tmp 0), type := 39, pos := "ref.go:115", after := #[], guard := none }) (v := ?vbd14r14o5) rfl (by kernel_rfl) (by kernel_rfl) (by kernel_rfl) (fun _ _ _ h => h) (Or.inl ⟨by rfl, ?hbd14r14o5⟩) hS ?_
          case hbd14r14o5 => (intro wx hx; skip; go_simp; (try with_reducible rfl))
          try simp only [Act.put, List.setIfInBounds_toArray, List.set_cons_zero, List.set_cons_succ]
          refine wpAnyH_take (i := 6) (oi := { dst := some 81, op := Op.move (Operand.tmp 5), type := 33, pos := "ref.go:115", after := #[], guard := none }) (v := ?vbd14r14o6) rfl (by kernel_rfl) (by kernel_rfl) (by kernel_rfl) (fun _ _ _ h => h) (Or.inl ⟨by rfl, ?hbd14r14o6⟩) hS ?_
          case hbd14r14o6 => (intro wx hx; skip; go_simp; (try with_reducible rfl))
          try simp only [Act.put, List.setIfInBounds_toArray, List.set_cons_zero, List.set_cons_succ]
          refine wpAnyH_ready (rs := [4, 7]) (by kernel_rfl) (by simp) ?_
          refine AllReadyH.cons (o := { dst := some 79, op := Op.load 56 (Operand.tmp 78), type := 56, pos := "ref.go:115", after := #[{ on := 3, ground := Ground.data }], guard := none }) rfl (fun K hK => ?_) ?_
          ·
            go_simp
            skip
            refine hK.out _ _ ?hsbdx114r14o4 (fun hS => ?_)
            case hsbdx114r14o4 => (trivial)
            clear hK K
            try simp only [Act.put, List.setIfInBounds_toArray, List.set_cons_zero, List.set_cons_succ]
            refine wpAnyH_ready (rs := [7]) (by kernel_rfl) (by simp) ?_
            refine AllReadyH.cons (o := { dst := some 82, op := Op.call { callee := Callee.value (Operand.func 64), args := #[Operand.tmp 81], argTypes := #[33] }, type := 44, pos := "ref.go:115", after := #[{ on := 6, ground := Ground.data }], guard := none }) rfl (fun K hK => ?_) AllReadyH.nil
            go_simp
            refine HMa1.out.mono ?_
            rintro e v3 ⟨rfl, hg3⟩
            have c5m := hg3.cell c5d (by simp)
            have HMk3 := Lib.hid (HMk.out v3 (hq3.out.keep hg3))
            refine hK.out _ _ ?hsbdx114r14o7 (fun hS => ?_)
            case hsbdx114r14o7 => (trivial)
            clear hK K
            try simp only [Act.put, List.setIfInBounds_toArray, List.set_cons_zero, List.set_cons_succ]
            refine wpAnyH_ready (rs := [8]) (by kernel_rfl) (by simp) ?_
            refine AllReadyH.cons (o := { dst := some 83, op := Op.call { callee := Callee.value (Operand.func 63), args := #[Operand.tmp 80, Operand.const (Value.int IntKind.i64 3), Operand.tmp 82], argTypes := #[39, 3, 44] }, type := 56, pos := "ref.go:115", after := #[{ on := 5, ground := Ground.data }, { on := 7, ground := Ground.data }, { on := 7, ground := Ground.chain }], guard := none }) rfl (fun K hK => ?_) AllReadyH.nil
            go_simp
            refine HMk3.out.mono ?_
            rintro e v4 ⟨g4, m4, cp4, rfl, hm4, hO4⟩
            obtain ⟨c5v, ad8, cp8, w8, hr8, c58, f58, hO8⟩ := ref_more (hOd.out.quiet hg3) j (get_set_end hjl) hSl2 ad5 cp5 c5m hO4.grown (.inr hO4) hm4 (by omega) 56
            rw [take_set_end hjl] at hO8
            have hO8 := Lib.hid hO8
            clear hO4
            refine hK.out _ _ ?hsbdx114r14o8 (fun hS => ?_)
            case hsbdx114r14o8 => (trivial)
            clear hK K
            try simp only [Act.put, List.setIfInBounds_toArray, List.set_cons_zero, List.set_cons_succ]
            refine wpAnyH_ready (rs := [9]) (by kernel_rfl) (by simp) ?_
            refine AllReadyH.cons (o := { dst := some 84, op := Op.call { callee := Callee.builtin Builtin.append, args := #[Operand.tmp 79, Operand.tmp 83], argTypes := #[56, 56] }, type := 56, pos := "ref.go:115", after := #[{ on := 4, ground := Ground.data }, { on := 8, ground := Ground.data }, { on := 8, ground := Ground.chain }], guard := none }) rfl (fun K hK => ?_) AllReadyH.nil
            refine wp_apprun _ _ _ rfl _ _ _ rfl rfl hr8 ?_
            refine hK.out _ _ ?_ (fun hS => ?_)
            · trivial
            clear hK K
            try simp only [Act.put, List.setIfInBounds_toArray, List.set_cons_zero, List.set_cons_succ]
            refine wpAnyH_take (i := 10) (oi := { dst := some 85, op := Op.nilCheck (Operand.tmp 75), type := 0, pos := "ref.go:115", after := #[{ on := 0, ground := Ground.data }, { on := 0, ground := Ground.phase }, { on := 1, ground := Ground.phase }, { on := 2, ground := Ground.phase }, { on := 3, ground := Ground.phase }, { on := 4, ground := Ground.phase }, { on := 5, ground := Ground.phase }, { on := 6, ground := Ground.phase }, { on := 7, ground := Ground.phase }, { on := 8, ground := Ground.phase }, { on := 9, ground := Ground.phase }], guard := none }) (v := ?vbdx114r14o10) rfl (by kernel_rfl) (by kernel_rfl) (by kernel_rfl) (fun _ _ _ h => h) (Or.inl ⟨by rfl, ?hbdx114r14o10⟩) hS ?_
            case hbdx114r14o10 => (intro wx hx; skip; go_simp; (try with_reducible rfl))
            try simp only [Act.put, List.setIfInBounds_toArray, List.set_cons_zero, List.set_cons_succ]
            refine wpAnyH_take (i := 11) (oi := { dst := some 86, op := Op.fieldAddr 58 (Operand.tmp 85) 3, type := 0, pos := "ref.go:115", after := #[{ on := 10, ground := Ground.data }, { on := 0, ground := Ground.phase }, { on := 1, ground := Ground.phase }, { on := 2, ground := Ground.phase }, { on := 3, ground := Ground.phase }, { on := 4, ground := Ground.phase }, { on := 5, ground := Ground.phase }, { on := 6, ground := Ground.phase }, { on := 7, ground := Ground.phase }, { on := 8, ground := Ground.phase }, { on := 9, ground := Ground.phase }], guard := none }) (v := ?vbdx114r14o11) rfl (by kernel_rfl) (by kernel_rfl) (by kernel_rfl) (fun _ _ _ h => h) (Or.inl ⟨by rfl, ?hbdx114r14o11⟩) hS ?_
            case hbdx114r14o11 => (intro wx hx; skip; go_simp; (try with_reducible rfl))
            try simp only [Act.put, List.setIfInBounds_toArray, List.set_cons_zero, List.set_cons_succ]
            refine wpAnyH_ready (rs := [12]) (by kernel_rfl) (by simp) ?_
            refine AllReadyH.cons (o := { dst := none, op := Op.store 56 (Operand.tmp 86) (Operand.tmp 84), type := 0, pos := "ref.go:115", after := #[{ on := 11, ground := Ground.data }, { on := 9, ground := Ground.data }, { on := 9, ground := Ground.chain }, { on := 0, ground := Ground.phase }, { on := 1, ground := Ground.phase }, { on := 2, ground := Ground.phase }, { on := 3, ground := Ground.phase }, { on := 4, ground := Ground.phase }, { on := 5, ground := Ground.phase }, { on := 6, ground := Ground.phase }, { on := 7, ground := Ground.phase }, { on := 8, ground := Ground.phase }, { on := 9, ground := Ground.phase }], guard := none }) rfl (fun K hK => ?_) AllReadyH.nil
            go_simp
            refine hK.out _ _ ?_ (fun hS => ?_)
            · trivial
            clear hK K
            try simp only [Act.put, List.setIfInBounds_toArray, List.set_cons_zero, List.set_cons_succ]
            refine wpAnyH_done (by kernel_rfl) ?_ _
            clear hS
            go_wp2_with fail
            go_meet
            case rel => exact ⟨m4, hm4, hO8⟩
          refine AllReadyH.cons (o := { dst := some 82, op := Op.call { callee := Callee.value (Operand.func 64), args := #[Operand.tmp 81], argTypes := #[33] }, type := 44, pos := "ref.go:115", after := #[{ on := 6, ground := Ground.data }], guard := none }) rfl (fun K hK => ?_) ?_
          ·
            go_simp
            refine HMa1.out.mono ?_
            rintro e v3 ⟨rfl, hg3⟩
            have c5m := hg3.cell c5d (by simp)
            have HMk3 := Lib.hid (HMk.out v3 (hq3.out.keep hg3))
            refine hK.out _ _ ?hsbdx314r14o7 (fun hS => ?_)
            case hsbdx314r14o7 => (trivial)
            clear hK K
            try simp only [Act.put, List.setIfInBounds_toArray, List.set_cons_zero, List.set_cons_succ]
            refine wpAnyH_ready (rs := [4, 8]) (by kernel_rfl) (by simp) ?_
            refine AllReadyH.cons (o := { dst := some 79, op := Op.load 56 (Operand.tmp 78), type := 56, pos := "ref.go:115", after := #[{ on := 3, ground := Ground.data }], guard := none }) rfl (fun K hK => ?_) ?_
            ·
              go_simp
              skip
              refine hK.out _ _ ?hsbdx3x414r14o4 (fun hS => ?_)
              case hsbdx3x414r14o4 => (trivial)
              clear hK K
              try simp only [Act.put, List.setIfInBounds_toArray, List.set_cons_zero, List.set_cons_succ]
              refine wpAnyH_ready (rs := [8]) (by kernel_rfl) (by simp) ?_
              refine AllReadyH.cons (o := { dst := some 83, op := Op.call { callee := Callee.value (Operand.func 63), args := #[Operand.tmp 80, Operand.const (Value.int IntKind.i64 3), Operand.tmp 82], argTypes := #[39, 3, 44] }, type := 56, pos := "ref.go:115", after := #[{ on := 5, ground := Ground.data }, { on := 7, ground := Ground.data }, { on := 7, ground := Ground.chain }], guard := none }) rfl (fun K hK => ?_) AllReadyH.nil
              go_simp
              refine HMk3.out.mono ?_
              rintro e v4 ⟨g4, m4, cp4, rfl, hm4, hO4⟩
              obtain ⟨c5v, ad8, cp8, w8, hr8, c58, f58, hO8⟩ := ref_more (hOd.out.quiet hg3) j (get_set_end hjl) hSl2 ad5 cp5 c5m hO4.grown (.inr hO4) hm4 (by omega) 56
              rw [take_set_end hjl] at hO8
              have hO8 := Lib.hid hO8
              clear hO4
              refine hK.out _ _ ?hsbdx3x414r14o8 (fun hS => ?_)
              case hsbdx3x414r14o8 => (trivial)
              clear hK K
              try simp only [Act.put, List.setIfInBounds_toArray, List.set_cons_zero, List.set_cons_succ]
              refine wpAnyH_ready (rs := [9]) (by kernel_rfl) (by simp) ?_
              refine AllReadyH.cons (o := { dst := some 84, op := Op.call { callee := Callee.builtin Builtin.append, args := #[Operand.tmp 79, Operand.tmp 83], argTypes := #[56, 56] }, type := 56, pos := "ref.go:115", after := #[{ on := 4, ground := Ground.data }, { on := 8, ground := Ground.data }, { on := 8, ground := Ground.chain }], guard := none }) rfl (fun K hK => ?_) AllReadyH.nil
              refine wp_apprun _ _ _ rfl _ _ _ rfl rfl hr8 ?_
              refine hK.out _ _ ?_ (fun hS => ?_)
              · trivial
              clear hK K
              try simp only [Act.put, List.setIfInBounds_toArray, List.set_cons_zero, List.set_cons_succ]
              refine wpAnyH_take (i := 10) (oi := { dst := some 85, op := Op.nilCheck (Operand.tmp 75), type := 0, pos := "ref.go:115", after := #[{ on := 0, ground := Ground.data }, { on := 0, ground := Ground.phase }, { on := 1, ground := Ground.phase }, { on := 2, ground := Ground.phase }, { on := 3, ground := Ground.phase }, { on := 4, ground := Ground.phase }, { on := 5, ground := Ground.phase }, { on := 6, ground := Ground.phase }, { on := 7, ground := Ground.phase }, { on := 8, ground := Ground.phase }, { on := 9, ground := Ground.phase }], guard := none }) (v := ?vbdx3x414r14o10) rfl (by kernel_rfl) (by kernel_rfl) (by kernel_rfl) (fun _ _ _ h => h) (Or.inl ⟨by rfl, ?hbdx3x414r14o10⟩) hS ?_
              case hbdx3x414r14o10 => (intro wx hx; skip; go_simp; (try with_reducible rfl))
              try simp only [Act.put, List.setIfInBounds_toArray, List.set_cons_zero, List.set_cons_succ]
              refine wpAnyH_take (i := 11) (oi := { dst := some 86, op := Op.fieldAddr 58 (Operand.tmp 85) 3, type := 0, pos := "ref.go:115", after := #[{ on := 10, ground := Ground.data }, { on := 0, ground := Ground.phase }, { on := 1, ground := Ground.phase }, { on := 2, ground := Ground.phase }, { on := 3, ground := Ground.phase }, { on := 4, ground := Ground.phase }, { on := 5, ground := Ground.phase }, { on := 6, ground := Ground.phase }, { on := 7, ground := Ground.phase }, { on := 8, ground := Ground.phase }, { on := 9, ground := Ground.phase }], guard := none }) (v := ?vbdx3x414r14o11) rfl (by kernel_rfl) (by kernel_rfl) (by kernel_rfl) (fun _ _ _ h => h) (Or.inl ⟨by rfl, ?hbdx3x414r14o11⟩) hS ?_
              case hbdx3x414r14o11 => (intro wx hx; skip; go_simp; (try with_reducible rfl))
              try simp only [Act.put, List.setIfInBounds_toArray, List.set_cons_zero, List.set_cons_succ]
              refine wpAnyH_ready (rs := [12]) (by kernel_rfl) (by simp) ?_
              refine AllReadyH.cons (o := { dst := none, op := Op.store 56 (Operand.tmp 86) (Operand.tmp 84), type := 0, pos := "ref.go:115", after := #[{ on := 11, ground := Ground.data }, { on := 9, ground := Ground.data }, { on := 9, ground := Ground.chain }, { on := 0, ground := Ground.phase }, { on := 1, ground := Ground.phase }, { on := 2, ground := Ground.phase }, { on := 3, ground := Ground.phase }, { on := 4, ground := Ground.phase }, { on := 5, ground := Ground.phase }, { on := 6, ground := Ground.phase }, { on := 7, ground := Ground.phase }, { on := 8, ground := Ground.phase }, { on := 9, ground := Ground.phase }], guard := none }) rfl (fun K hK => ?_) AllReadyH.nil
              go_simp
              refine hK.out _ _ ?_ (fun hS => ?_)
              · trivial
              clear hK K
              try simp only [Act.put, List.setIfInBounds_toArray, List.set_cons_zero, List.set_cons_succ]
              refine wpAnyH_done (by kernel_rfl) ?_ _
              clear hS
              go_wp2_with fail
              go_meet
              case rel => exact ⟨m4, hm4, hO8⟩
            refine AllReadyH.cons (o := { dst := some 83, op := Op.call { callee := Callee.value (Operand.func 63), args := #[Operand.tmp 80, Operand.const (Value.int IntKind.i64 3), Operand.tmp 82], argTypes := #[39, 3, 44] }, type := 56, pos := "ref.go:115", after := #[{ on := 5, ground := Ground.data }, { on := 7, ground := Ground.data }, { on := 7, ground := Ground.chain }], guard := none }) rfl (fun K hK => ?_) ?_
            ·
              go_simp
              refine HMk3.out.mono ?_
              rintro e v4 ⟨g4, m4, cp4, rfl, hm4, hO4⟩
              obtain ⟨c5v, ad8, cp8, w8, hr8, c58, f58, hO8⟩ := ref_more (hOd.out.quiet hg3) j (get_set_end hjl) hSl2 ad5 cp5 c5m hO4.grown (.inr hO4) hm4 (by omega) 56
              rw [take_set_end hjl] at hO8
              have hO8 := Lib.hid hO8
              clear hO4
              refine hK.out _ _ ?hsbdx3x614r14o8 (fun hS => ?_)
              case hsbdx3x614r14o8 => (trivial)
              clear hK K
              try simp only [Act.put, List.setIfInBounds_toArray, List.set_cons_zero, List.set_cons_succ]
              refine wpAnyH_ready (rs := [4]) (by kernel_rfl) (by simp) ?_
              refine AllReadyH.cons (o := { dst := some 79, op := Op.load 56 (Operand.tmp 78), type := 56, pos := "ref.go:115", after := #[{ on := 3, ground := Ground.data }], guard := none }) rfl (fun K hK => ?_) AllReadyH.nil
              go_simp
              skip
              refine hK.out _ _ ?hsbdx3x614r14o4 (fun hS => ?_)
              case hsbdx3x614r14o4 => (trivial)
              clear hK K
              try simp only [Act.put, List.setIfInBounds_toArray, List.set_cons_zero, List.set_cons_succ]
              refine wpAnyH_ready (rs := [9]) (by kernel_rfl) (by simp) ?_
              refine AllReadyH.cons (o := { dst := some 84, op := Op.call { callee := Callee.builtin Builtin.append, args := #[Operand.tmp 79, Operand.tmp 83], argTypes := #[56, 56] }, type := 56, pos := "ref.go:115", after := #[{ on := 4, ground := Ground.data }, { on := 8, ground := Ground.data }, { on := 8, ground := Ground.chain }], guard := none }) rfl (fun K hK => ?_) AllReadyH.nil
              refine wp_apprun _ _ _ rfl _ _ _ rfl rfl hr8 ?_
              refine hK.out _ _ ?_ (fun hS => ?_)
              · trivial
              clear hK K
              try simp only [Act.put, List.setIfInBounds_toArray, List.set_cons_zero, List.set_cons_succ]
              refine wpAnyH_take (i := 10) (oi := { dst := some 85, op := Op.nilCheck (Operand.tmp 75), type := 0, pos := "ref.go:115", after := #[{ on := 0, ground := Ground.data }, { on := 0, ground := Ground.phase }, { on := 1, ground := Ground.phase }, { on := 2, ground := Ground.phase }, { on := 3, ground := Ground.phase }, { on := 4, ground := Ground.phase }, { on := 5, ground := Ground.phase }, { on := 6, ground := Ground.phase }, { on := 7, ground := Ground.phase }, { on := 8, ground := Ground.phase }, { on := 9, ground := Ground.phase }], guard := none }) (v := ?vbdx3x614r14o10) rfl (by kernel_rfl) (by kernel_rfl) (by kernel_rfl) (fun _ _ _ h => h) (Or.inl ⟨by rfl, ?hbdx3x614r14o10⟩) hS ?_
              case hbdx3x614r14o10 => (intro wx hx; skip; go_simp; (try with_reducible rfl))
              try simp only [Act.put, List.setIfInBounds_toArray, List.set_cons_zero, List.set_cons_succ]
              refine wpAnyH_take (i := 11) (oi := { dst := some 86, op := Op.fieldAddr 58 (Operand.tmp 85) 3, type := 0, pos := "ref.go:115", after := #[{ on := 10, ground := Ground.data }, { on := 0, ground := Ground.phase }, { on := 1, ground := Ground.phase }, { on := 2, ground := Ground.phase }, { on := 3, ground := Ground.phase }, { on := 4, ground := Ground.phase }, { on := 5, ground := Ground.phase }, { on := 6, ground := Ground.phase }, { on := 7, ground := Ground.phase }, { on := 8, ground := Ground.phase }, { on := 9, ground := Ground.phase }], guard := none }) (v := ?vbdx3x614r14o11) rfl (by kernel_rfl) (by kernel_rfl) (by kernel_rfl) (fun _ _ _ h => h) (Or.inl ⟨by rfl, ?hbdx3x614r14o11⟩) hS ?_
              case hbdx3x614r14o11 => (intro wx hx; skip; go_simp; (try with_reducible rfl))
              try simp only [Act.put, List.setIfInBounds_toArray, List.set_cons_zero, List.set_cons_succ]
              refine wpAnyH_ready (rs := [12]) (by kernel_rfl) (by simp) ?_
              refine AllReadyH.cons (o := { dst := none, op := Op.store 56 (Operand.tmp 86) (Operand.tmp 84), type := 0, pos := "ref.go:115", after := #[{ on := 11, ground := Ground.data }, { on := 9, ground := Ground.data }, { on := 9, ground := Ground.chain }, { on := 0, ground := Ground.phase }, { on := 1, ground := Ground.phase }, { on := 2, ground := Ground.phase }, { on := 3, ground := Ground.phase }, { on := 4, ground := Ground.phase }, { on := 5, ground := Ground.phase }, { on := 6, ground := Ground.phase }, { on := 7, ground := Ground.phase }, { on := 8, ground := Ground.phase }, { on := 9, ground := Ground.phase }], guard := none }) rfl (fun K hK => ?_) AllReadyH.nil
              go_simp
              refine hK.out _ _ ?_ (fun hS => ?_)
              · trivial
              clear hK K
              try simp only [Act.put, List.setIfInBounds_toArray, List.set_cons_zero, List.set_cons_succ]
              refine wpAnyH_done (by kernel_rfl) ?_ _
              clear hS
              go_wp2_with fail
              go_meet
              case rel => exact ⟨m4, hm4, hO8⟩
            exact AllReadyH.nil
          exact AllReadyH.nil
        case rest =>
          obtain ⟨m3, hm3, hO⟩ := hcut
          clear HMa1 HMk hOd c5d hq3 HMa
          have hSl3 : (S2 ++ T3).length = Z + m2 + m3 := by rw [List.length_append, hSl2, hm3]
          obtain ⟨S3, hS3⟩ : ∃ x, S2 ++ T3 = x := ⟨_, rfl⟩
          rw [hS3] at hO hSl3 hbe
          have hOd := hO.out.quiet (grown_drew (World.grownBy.refl wc none))
          obtain ⟨_, _, _, _, _, ⟨ad5, cp5, c5d⟩, _⟩ := ref_cells hOd j (get_set_end hjl)
          rw [hSl3] at c5d
          have HFr1 := Lib.hid (HFr.out wc.drew hOd.grown (RQ.of hOd j (get_set_end hjl)))
          have hOd := Lib.hid hOd
          have hm3l : m3 ≤ 8194 := by omega
          clear hO hm3 HFr HWx HCx HAr HXl HXs
          go_wp2_with fail
          refine wp_region_held_drew (S := fun w' => True) (by kernel_rfl) (trivial) (fun hS => ?_)
          refine wpAnyH_take (i := 0) (oi := { dst := some 87, op := Op.move (Operand.tmp 0), type := 39, pos := "ref.go:116", after := #[], guard := none }) (v := ?vbe14r15o0) rfl (by kernel_rfl) (by kernel_rfl) (by kernel_rfl) (fun _ _ _ h => h) (Or.inl ⟨by rfl, ?hbe14r15o0⟩) hS ?_
          case hbe14r15o0 => (intro wx hx; skip; go_simp; (try with_reducible rfl))
          try simp only [Act.put, List.setIfInBounds_toArray, List.set_cons_zero, List.set_cons_succ]
          refine wpAnyH_take (i := 1) (oi := { dst := some 88, op := Op.move (Operand.tmp 0), type := 39, pos := "ref.go:116", after := #[], guard := none }) (v := ?vbe14r15o1) rfl (by kernel_rfl) (by kernel_rfl) (by kernel_rfl) (fun _ _ _ h => h) (Or.inl ⟨by rfl, ?hbe14r15o1⟩) hS ?_
          case hbe14r15o1 => (intro wx hx; skip; go_simp; (try with_reducible rfl))
          try simp only [Act.put, List.setIfInBounds_toArray, List.set_cons_zero, List.set_cons_succ]
          refine wpAnyH_take (i := 2) (oi := { dst := some 89, op := Op.nilCheck (Operand.tmp 88), type := 0, pos := "ref.go:116", after := #[{ on := 1, ground := Ground.data }], guard := none }) (v := ?vbe14r15o2) rfl (by kernel_rfl) (by kernel_rfl) (by kernel_rfl) (fun _ _ _ h => h) (Or.inl ⟨by rfl, ?hbe14r15o2⟩) hS ?_
          case hbe14r15o2 => (intro wx hx; skip; go_simp; (try with_reducible rfl))
          try simp only [Act.put, List.setIfInBounds_toArray, List.set_cons_zero, List.set_cons_succ]
          refine wpAnyH_take (i := 3) (oi := { dst := some 90, op := Op.fieldAddr 58 (Operand.tmp 89) 3, type := 0, pos := "ref.go:116", after := #[{ on := 2, ground := Ground.data }], guard := none }) (v := ?vbe14r15o3) rfl (by kernel_rfl) (by kernel_rfl) (by kernel_rfl) (fun _ _ _ h => h) (Or.inl ⟨by rfl, ?hbe14r15o3⟩) hS ?_
          case hbe14r15o3 => (intro wx hx; skip; go_simp; (try with_reducible rfl))
          try simp only [Act.put, List.setIfInBounds_toArray, List.set_cons_zero, List.set_cons_succ]
          refine wpAnyH_take (i := 5) (oi := { dst := some 92, op := Op.move (Operand.tmp 0), type := 39, pos := "ref.go:116", after := #[], guard := none }) (v := ?vbe14r15o5) rfl (by kernel_rfl) (by kernel_rfl) (by kernel_rfl) (fun _ _ _ h => h) (Or.inl ⟨by rfl, ?hbe14r15o5⟩) hS ?_
          case hbe14r15o5 => (intro wx hx; skip; go_simp; (try with_reducible rfl))
          try simp only [Act.put, List.setIfInBounds_toArray, List.set_cons_zero, List.set_cons_succ]
          refine wpAnyH_take (i := 6) (oi := { dst := some 93, op := Op.move (Operand.tmp 1), type := 43, pos := "ref.go:116", after := #[], guard := none }) (v := ?vbe14r15o6) rfl (by kernel_rfl) (by kernel_rfl) (by kernel_rfl) (fun _ _ _ h => h) (Or.inl ⟨by rfl, ?hbe14r15o6⟩) hS ?_
          case hbe14r15o6 => (intro wx hx; skip; go_simp; (try with_reducible rfl))
          try simp only [Act.put, List.setIfInBounds_toArray, List.set_cons_zero, List.set_cons_succ]
          refine wpAnyH_ready (rs := [4, 7]) (by kernel_rfl) (by simp) ?_
          refine AllReadyH.cons (o := { dst := some 91, op := Op.load 56 (Operand.tmp 90), type := 56, pos := "ref.go:116", after := #[{ on := 3, ground := Ground.data }], guard := none }) rfl (fun K hK => ?_) ?_
          ·
            go_simp
            skip
            refine hK.out _ _ ?hsbex114r15o4 (fun hS => ?_)
            case hsbex114r15o4 => (trivial)
            clear hK K
            try simp only [Act.put, List.setIfInBounds_toArray, List.set_cons_zero, List.set_cons_succ]
            refine wpAnyH_ready (rs := [7]) (by kernel_rfl) (by simp) ?_
            refine AllReadyH.cons (o := { dst := some 94, op := Op.call { callee := Callee.value (Operand.func 65), args := #[Operand.tmp 92, Operand.tmp 93], argTypes := #[39, 43] }, type := 56, pos := "ref.go:116", after := #[{ on := 5, ground := Ground.data }, { on := 6, ground := Ground.data }], guard := none }) rfl (fun K hK => ?_) AllReadyH.nil
            go_simp
            refine HFr1.out.mono ?_
            rintro e v4 ⟨g4, m4, cp4, rfl, hm4, hO4⟩
            have hm4l : m4 ≤ 20000 + n := by rw [← hm4]; exact hap.out
            obtain ⟨c5v, ad8, cp8, w8, hr8, c58, f58, hO8⟩ := ref_more hOd.out j (get_set_end hjl) hSl3 ad5 cp5 c5d hO4.grown (.inr hO4) hm4 (by omega) 56
            rw [take_set_end hjl] at hO8
            rw [← hbe.out] at hO8
            have hO8 := Lib.hid hO8.less
            clear hO4
            refine hK.out _ _ ?hsbex114r15o7 (fun hS => ?_)
            case hsbex114r15o7 => (trivial)
            clear hK K
            try simp only [Act.put, List.setIfInBounds_toArray, List.set_cons_zero, List.set_cons_succ]
            refine wpAnyH_ready (rs := [8]) (by kernel_rfl) (by simp) ?_
            refine AllReadyH.cons (o := { dst := some 95, op := Op.call { callee := Callee.builtin Builtin.append, args := #[Operand.tmp 91, Operand.tmp 94], argTypes := #[56, 56] }, type := 56, pos := "ref.go:116", after := #[{ on := 4, ground := Ground.data }, { on := 7, ground := Ground.data }, { on := 7, ground := Ground.chain }], guard := none }) rfl (fun K hK => ?_) AllReadyH.nil
            refine wp_apprun _ _ _ rfl _ _ _ rfl rfl hr8 ?_
            refine hK.out _ _ ?_ (fun hS => ?_)
            · trivial
            clear hK K
            try simp only [Act.put, List.setIfInBounds_toArray, List.set_cons_zero, List.set_cons_succ]
            refine wpAnyH_take (i := 9) (oi := { dst := some 96, op := Op.nilCheck (Operand.tmp 87), type := 0, pos := "ref.go:116", after := #[{ on := 0, ground := Ground.data }, { on := 0, ground := Ground.phase }, { on := 1, ground := Ground.phase }, { on := 2, ground := Ground.phase }, { on := 3, ground := Ground.phase }, { on := 4, ground := Ground.phase }, { on := 5, ground := Ground.phase }, { on := 6, ground := Ground.phase }, { on := 7, ground := Ground.phase }, { on := 8, ground := Ground.phase }], guard := none }) (v := ?vbex114r15o9) rfl (by kernel_rfl) (by kernel_rfl) (by kernel_rfl) (fun _ _ _ h => h) (Or.inl ⟨by rfl, ?hbex114r15o9⟩) hS ?_
            case hbex114r15o9 => (intro wx hx; skip; go_simp; (try with_reducible rfl))
            try simp only [Act.put, List.setIfInBounds_toArray, List.set_cons_zero, List.set_cons_succ]
            refine wpAnyH_take (i := 10) (oi := { dst := some 97, op := Op.fieldAddr 58 (Operand.tmp 96) 3, type := 0, pos := "ref.go:116", after := #[{ on := 9, ground := Ground.data }, { on := 0, ground := Ground.phase }, { on := 1, ground := Ground.phase }, { on := 2, ground := Ground.phase }, { on := 3, ground := Ground.phase }, { on := 4, ground := Ground.phase }, { on := 5, ground := Ground.phase }, { on := 6, ground := Ground.phase }, { on := 7, ground := Ground.phase }, { on := 8, ground := Ground.phase }], guard := none }) (v := ?vbex114r15o10) rfl (by kernel_rfl) (by kernel_rfl) (by kernel_rfl) (fun _ _ _ h => h) (Or.inl ⟨by rfl, ?hbex114r15o10⟩) hS ?_
            case hbex114r15o10 => (intro wx hx; skip; go_simp; (try with_reducible rfl))
            try simp only [Act.put, List.setIfInBounds_toArray, List.set_cons_zero, List.set_cons_succ]
            refine wpAnyH_ready (rs := [11]) (by kernel_rfl) (by simp) ?_
            refine AllReadyH.cons (o := { dst := none, op := Op.store 56 (Operand.tmp 97) (Operand.tmp 95), type := 0, pos := "ref.go:116", after := #[{ on := 10, ground := Ground.data }, { on := 8, ground := Ground.data }, { on := 8, ground := Ground.chain }, { on := 0, ground := Ground.phase }, { on := 1, ground := Ground.phase }, { on := 2, ground := Ground.phase }, { on := 3, ground := Ground.phase }, { on := 4, ground := Ground.phase }, { on := 5, ground := Ground.phase }, { on := 6, ground := Ground.phase }, { on := 7, ground := Ground.phase }, { on := 8, ground := Ground.phase }], guard := none }) rfl (fun K hK => ?_) AllReadyH.nil
            go_simp
            refine hK.out _ _ ?_ (fun hS => ?_)
            · trivial
            clear hK K
            try simp only [Act.put, List.setIfInBounds_toArray, List.set_cons_zero, List.set_cons_succ]
            refine wpAnyH_done (by kernel_rfl) ?_ _
            clear hS
            go_wp2_with fail
            go_ret
            exact ⟨rfl, hO8.out⟩
          refine AllReadyH.cons (o := { dst := some 94, op := Op.call { callee := Callee.value (Operand.func 65), args := #[Operand.tmp 92, Operand.tmp 93], argTypes := #[39, 43] }, type := 56, pos := "ref.go:116", after := #[{ on := 5, ground := Ground.data }, { on := 6, ground := Ground.data }], guard := none }) rfl (fun K hK => ?_) ?_
          ·
            go_simp
            refine HFr1.out.mono ?_
            rintro e v4 ⟨g4, m4, cp4, rfl, hm4, hO4⟩
            have hm4l : m4 ≤ 20000 + n := by rw [← hm4]; exact hap.out
            obtain ⟨c5v, ad8, cp8, w8, hr8, c58, f58, hO8⟩ := ref_more hOd.out j (get_set_end hjl) hSl3 ad5 cp5 c5d hO4.grown (.inr hO4) hm4 (by omega) 56
            rw [take_set_end hjl] at hO8
            rw [← hbe.out] at hO8
            have hO8 := Lib.hid hO8.less
            clear hO4
            refine hK.out _ _ ?hsbex314r15o7 (fun hS => ?_)
            case hsbex314r15o7 => (trivial)
            clear hK K
            try simp only [Act.put, List.setIfInBounds_toArray, List.set_cons_zero, List.set_cons_succ]
            refine wpAnyH_ready (rs := [4]) (by kernel_rfl) (by simp) ?_
            refine AllReadyH.cons (o := { dst := some 91, op := Op.load 56 (Operand.tmp 90), type := 56, pos := "ref.go:116", after := #[{ on := 3, ground := Ground.data }], guard := none }) rfl (fun K hK => ?_) AllReadyH.nil
            go_simp
            skip
            refine hK.out _ _ ?hsbex314r15o4 (fun hS => ?_)
            case hsbex314r15o4 => (trivial)
            clear hK K
            try simp only [Act.put, List.setIfInBounds_toArray, List.set_cons_zero, List.set_cons_succ]
            refine wpAnyH_ready (rs := [8]) (by kernel_rfl) (by simp) ?_
            refine AllReadyH.cons (o := { dst := some 95, op := Op.call { callee := Callee.builtin Builtin.append, args := #[Operand.tmp 91, Operand.tmp 94], argTypes := #[56, 56] }, type := 56, pos := "ref.go:116", after := #[{ on := 4, ground := Ground.data }, { on := 7, ground := Ground.data }, { on := 7, ground := Ground.chain }], guard := none }) rfl (fun K hK => ?_) AllReadyH.nil
            refine wp_apprun _ _ _ rfl _ _ _ rfl rfl hr8 ?_
            refine hK.out _ _ ?_ (fun hS => ?_)
            · trivial
            clear hK K
            try simp only [Act.put, List.setIfInBounds_toArray, List.set_cons_zero, List.set_cons_succ]
            refine wpAnyH_take (i := 9) (oi := { dst := some 96, op := Op.nilCheck (Operand.tmp 87), type := 0, pos := "ref.go:116", after := #[{ on := 0, ground := Ground.data }, { on := 0, ground := Ground.phase }, { on := 1, ground := Ground.phase }, { on := 2, ground := Ground.phase }, { on := 3, ground := Ground.phase }, { on := 4, ground := Ground.phase }, { on := 5, ground := Ground.phase }, { on := 6, ground := Ground.phase }, { on := 7, ground := Ground.phase }, { on := 8, ground := Ground.phase }], guard := none }) (v := ?vbex314r15o9) rfl (by kernel_rfl) (by kernel_rfl) (by kernel_rfl) (fun _ _ _ h => h) (Or.inl ⟨by rfl, ?hbex314r15o9⟩) hS ?_
            case hbex314r15o9 => (intro wx hx; skip; go_simp; (try with_reducible rfl))
            try simp only [Act.put, List.setIfInBounds_toArray, List.set_cons_zero, List.set_cons_succ]
            refine wpAnyH_take (i := 10) (oi := { dst := some 97, op := Op.fieldAddr 58 (Operand.tmp 96) 3, type := 0, pos := "ref.go:116", after := #[{ on := 9, ground := Ground.data }, { on := 0, ground := Ground.phase }, { on := 1, ground := Ground.phase }, { on := 2, ground := Ground.phase }, { on := 3, ground := Ground.phase }, { on := 4, ground := Ground.phase }, { on := 5, ground := Ground.phase }, { on := 6, ground := Ground.phase }, { on := 7, ground := Ground.phase }, { on := 8, ground := Ground.phase }], guard := none }) (v := ?vbex314r15o10) rfl (by kernel_rfl) (by kernel_rfl) (by kernel_rfl) (fun _ _ _ h => h) (Or.inl ⟨by rfl, ?hbex314r15o10⟩) hS ?_
            case hbex314r15o10 => (intro wx hx; skip; go_simp; (try with_reducible rfl))
            try simp only [Act.put, List.setIfInBounds_toArray, List.set_cons_zero, List.set_cons_succ]
            refine wpAnyH_ready (rs := [11]) (by kernel_rfl) (by simp) ?_
            refine AllReadyH.cons (o := { dst := none, op := Op.store 56 (Operand.tmp 97) (Operand.tmp 95), type := 0, pos := "ref.go:116", after := #[{ on := 10, ground := Ground.data }, { on := 8, ground := Ground.data }, { on := 8, ground := Ground.chain }, { on := 0, ground := Ground.phase }, { on := 1, ground := Ground.phase }, { on := 2, ground := Ground.phase }, { on := 3, ground := Ground.phase }, { on := 4, ground := Ground.phase }, { on := 5, ground := Ground.phase }, { on := 6, ground := Ground.phase }, { on := 7, ground := Ground.phase }, { on := 8, ground := Ground.phase }], guard := none }) rfl (fun K hK => ?_) AllReadyH.nil
            go_simp
            refine hK.out _ _ ?_ (fun hS => ?_)
            · trivial
            clear hK K
            try simp only [Act.put, List.setIfInBounds_toArray, List.set_cons_zero, List.set_cons_succ]
            refine wpAnyH_done (by kernel_rfl) ?_ _
            clear hS
            go_wp2_with fail
            go_ret
            exact ⟨rfl, hO8.out⟩
          exact AllReadyH.nil
end Go.Proofs.YtpdofdloclmbdaaGreat
end
section
/- CommitPlays: Step, Phase, New, refusals of the document's run. -/
namespace Go.Proofs.YtpdofdloclmbdaaGreat
open Go.RowKit Go.Grommet
set_option linter.unusedVariables false

theorem setCell_id {w : World} {b o : Nat} {cs : Array Value} {e : TypeId} {f : Nat × Nat} (h : w.heap[b]? = some (.cells cs e f)) {v : Value} (hv : cs[o]? = some v) : w.setCell ⟨b, o, none⟩ v = w := by
  have hlt := lt_of_block h
  have h' : w.heap[b] = .cells cs e f := by simpa [Array.getElem?_eq_getElem hlt] using h
  have hF : ∀ F : Obj → Obj, F (.cells cs e f) = .cells cs e f → w.heap.modify b F = w.heap := by
    intro F hF
    apply Array.ext (by simp)
    intro i h1 h2
    rw [Array.getElem_modify]
    split
    · rename_i e; subst e; rw [h']; exact hF
    · rfl
  have hc : cs.setIfInBounds o v = cs := by
    apply Array.ext_getElem?
    intro i
    rw [Array.getElem?_setIfInBounds]
    split
    · rename_i e; subst e
      rw [hv]; simp [(Array.getElem?_eq_some_iff.1 hv).1]
    · rfl
  show ({ w with heap := w.heap.modify b _ } : World) = w
  rw [hF _ (by show Obj.cells (cs.setIfInBounds o v) e f = _; rw [hc])]
def Cl.doesR (n : Nat) : Cl → List RW → List RW
  | .store a v, rs => rs.modify a (RW.store v)
  | .flush l, rs => rturn RW.flush (8 * l) 8 rs
  | .fence, rs => rturn RW.fence 0 n rs
set_option maxRecDepth 100000 in
set_option maxHeartbeats 1000000 in
theorem PhaseRE (R D : Nat) (a b c k : Int) (j : Nat) (w0 w : World) (Ps : List Pr) (h : Grommet.Own w0 w Ps) (hj : Ps[j]? = some (refP R D a b c k [])) :
    Calls Tryz.prog 26 #[.pointer (some ⟨R, 0, none⟩)] w fun e w' => e = .returned (.int .i64 0) ∧ w' = w := by
  obtain ⟨_, _, _, _, _, ⟨ads, caps, c5⟩, _⟩ := ref_cells h j hj
  have c5 : w.cell? ⟨R, 5, none⟩ = some (.slice ads 0 caps) := c5
  clear h hj
  go_enter Tryz.func26, Tryz.ntmps26
  go_wp2
  go_ret
  exact ⟨rfl, rfl⟩
set_option maxRecDepth 100000 in
set_option maxHeartbeats 1000000 in
theorem StepRE (R D : Nat) (a b c k : Int) (j : Nat) (w0 w : World) (Ps : List Pr) (h : Grommet.Own w0 w Ps) (hj : Ps[j]? = some (refP R D a b c k [])) :
    Calls Tryz.prog 24 #[.pointer (some ⟨R, 0, none⟩)] w fun e w' => e = .returned (.tuple #[.int .i64 0, .int .i64 3]) ∧ w' = w := by
  obtain ⟨_, _, _, _, _, ⟨ads, caps, c5⟩, _⟩ := ref_cells h j hj
  have c5 : w.cell? ⟨R, 5, none⟩ = some (.slice ads 0 caps) := c5
  clear h hj
  go_enter Tryz.func24, Tryz.ntmps24
  go_wp2
  go_ret2
  exact ⟨rfl, rfl⟩
theorem step0 (p : Nat) (cl : Cl) : (stepV (p, cl))[0]? = some (.int .i64 (p : Int)) := by cases cl <;> rfl
set_option maxRecDepth 100000 in
set_option maxHeartbeats 1000000 in
theorem PhaseRH (R D : Nat) (a b c k : Int) (j p : Nat) (cl : Cl) (S : List (Nat × Cl)) (w0 w : World) (Ps : List Pr) (h : Grommet.Own w0 w Ps) (hj : Ps[j]? = some (refP R D a b c k ((p, cl) :: S))) :
    Calls Tryz.prog 26 #[.pointer (some ⟨R, 0, none⟩)] w fun e w' => e = .returned (.int .i64 (p : Int)) ∧ w' = w := by
  obtain ⟨g, o, cap, ad', _, _, c5, _, hx, _, _⟩ := ref_pop h j hj
  have c0 := hx 0 _ (step0 p cl)
  rw [Nat.add_zero] at c0
  generalize S.length = n at c5
  have n0 : ((n : Int) + 1 == 0) = false := by rw [beq_eq_false_iff_ne]; omega
  have n1 : (0 : Int) < (n : Int) + 1 := by omega
  clear h hj hx
  go_enter Tryz.func26, Tryz.ntmps26
  go_wp2
  go_ret
  exact ⟨rfl, rfl⟩

set_option maxRecDepth 100000 in
set_option maxHeartbeats 4000000 in
theorem StepRH (R D : Nat) (a b c k : Int) (j kd kr g n p : Nat) (cl : Cl) (S : List (Nat × Cl)) (rs : List RW) (w0 w : World) (Ps : List Pr) (h : Grommet.Own w0 w Ps) (hj : Ps[j]? = some (refP R D a b c k ((p, cl) :: S))) (hD : RD Ps kd kr D g n rs) (hjd : j ≠ kd) (hjr : j ≠ kr) (hok : cl.ok n) (h0 : 0 < n) :
    Calls Tryz.prog 24 #[.pointer (some ⟨R, 0, none⟩)] w fun e w' => e = .returned (.tuple #[.int .i64 (p : Int), .int .i64 0]) ∧ Grommet.Own w0 w' ((Ps.set j (refP R D a b c k S)).set kr (rowR g n (cl.doesR n rs))) := by
  have Hok := Lib.hid hok
  have hjl := (List.getElem?_eq_some_iff.1 hj).1
  have hrl := (List.getElem?_eq_some_iff.1 hD.row).1
  obtain ⟨g1, o, cap, _, _, _, c5, _, hx, _, _⟩ := ref_pop h j hj
  obtain ⟨c0, _⟩ := ref_cells h j hj
  obtain ⟨cs, hcs⟩ : ∃ cs : Array Value, cs = (stepV (p, cl)).toArray := ⟨_, rfl⟩
  have hbx := h.addBox 115 cs
  obtain ⟨w1, hw1⟩ : ∃ w1, w.alloc (.cells cs 115) = w1 := ⟨_, rfl⟩
  obtain ⟨X, hX⟩ : ∃ X, w.heap.size = X := ⟨_, rfl⟩
  have hg1 : w.grownBy w1 none := by rw [← hw1]; exact World.grownBy_alloc _ _ none
  rw [hw1, hX] at hbx
  obtain ⟨g2, o2, cap2, ad', hc1, _, c52, f52, _, hsl, hO2⟩ := ref_pop hbx j (by rw [List.getElem?_append_left hjl]; exact hj)
  have c51 := hg1.cell c5 (by simp)
  rw [c52] at c51
  cases c51
  rw [List.set_append_left _ _ hjl] at hO2
  obtain ⟨w2, hw2⟩ : ∃ w2, w1.setCell ⟨R, 5, none⟩ (.slice ad' S.length (cap - 1)) = w2 := ⟨_, rfl⟩
  rw [hw2] at hO2
  have hb1 : w1.heap[X]? = some (.cells cs 115 (0, 0)) := by rw [← hw1, ← hX]; exact heap_alloc_new w _
  have hz1 : ∀ i u, (stepV (p, cl))[i]? = some u → w1.frozen? ⟨X, i, none⟩ = false ∧ w1.cell? ⟨X, i, none⟩ = some u ∧ w1.setCell ⟨X, i, none⟩ u = w1 := fun i u hi => ⟨by simp [World.frozen?, hb1], by rw [World.cell?, hb1, hcs]; simpa using hi, setCell_id hb1 (by rw [hcs]; simpa using hi)⟩
  have Hz1 := Lib.hid hz1
  clear hz1
  have hb2 := hO2.box (Ps.set j (refP R D a b c k S)).length (X := X) (T := 115) (cs := cs) (by simp)
  have hRD : RD (Ps.set j (refP R D a b c k S) ++ [boxP X 115 cs]) kd kr D g n rs := ⟨by rw [List.getElem?_append_left (by simpa using (List.getElem?_eq_some_iff.1 hD.box).1), List.getElem?_set_ne hjd]; exact hD.box, by rw [List.getElem?_append_left (by simpa using hrl), List.getElem?_set_ne hjr]; exact hD.row, hD.ne, hD.len, hD.small, hD.few⟩
  obtain ⟨c02, _⟩ := ref_cells hO2 j (get_set_end hjl)
  have hend : ∀ (w' : World) (rs' : List RW), Grommet.Own w0 w' ((Ps.set j (refP R D a b c k S) ++ [boxP X 115 cs]).set kr (rowR g n rs')) → (∀ i u, (stepV (p, cl))[i]? = some u → w'.cell? ⟨X, i, none⟩ = some u) ∧ w'.cell? ⟨R, 0, none⟩ = some (ptr D) ∧ Grommet.Own w0 w' ((Ps.set j (refP R D a b c k S)).set kr (rowR g n rs')) := by
    intro w' rs' hO'
    rw [List.set_append_left _ _ (by simpa using hrl)] at hO'
    have hb := hO'.box ((Ps.set j (refP R D a b c k S)).set kr (rowR g n rs')).length (X := X) (T := 115) (cs := cs) (by simp)
    refine ⟨fun i u hi => ?_, (ref_cells hO'.less j (by rw [List.getElem?_set_ne (fun e => hjr e.symm), List.getElem?_set_self hjl])).1, hO'.less⟩
    rw [World.cell?, hb, hcs]
    simpa using hi
  have Hend := Lib.hid hend
  have hxs := hx
  have hb2s : ∀ i u, (stepV (p, cl))[i]? = some u → w2.cell? ⟨X, i, none⟩ = some u := by
    intro i u hi
    rw [World.cell?, hb2, hcs]
    simpa using hi
  obtain ⟨K, hK⟩ : ∃ K, cap - 1 = K := ⟨_, rfl⟩
  rw [hK] at hsl hw2
  generalize S.length = m at c5 hsl hw2 c52
  have q1 : ((m : Int) + 1 == 0) = false := by rw [beq_eq_false_iff_ne]; omega
  have q2 : (((m + 1 : Nat) : Int) == 0) = false := by rw [beq_eq_false_iff_ne]; omega
  have q3 : (0 : Int) < ((m + 1 : Nat) : Int) := by omega
  have q4 : (0 : Int) < (m : Int) + 1 := by omega
  unfold ptr at c0 c02
  have x0 := hx 0 _ (step0 p cl)
  have y0 := hb2s 0 _ (step0 p cl)
  rw [Nat.add_zero] at x0
  clear hend h hj hK hb1 hb2 hbx hg1
  cases cl with
  | store at_ v =>
    obtain ⟨hok1, hok2⟩ : at_ < n ∧ v < 18446744073709551616 := Hok.out
    have x1 := hx 1 _ rfl
    have x2 := hx 2 _ rfl
    have x3 := hx 3 _ rfl
    have y1 := hb2s 1 _ rfl
    have y2 := hb2s 2 _ rfl
    have y3 := hb2s 3 _ rfl
    obtain ⟨r, hr⟩ : ∃ r, rs[at_]? = some r := ⟨rs[at_]'(by rw [hD.len]; exact hok1), List.getElem?_eq_getElem _⟩
    have hOd := hO2.quiet (grown_drew (World.grownBy.refl w2 none))
    have HC := Lib.hid (fun wx (hg : w2.grownBy wx none) => RStore_ok kd kr D g n rs at_ r hr v w0 wx _ (hO2.quiet hg) hRD)
    unfold ptr at HC
    replace hcs : cs = #[.int .i64 (p : Int), .int .i64 0, .int .i64 (at_ : Int), .int .u64 (v : Int)] := hcs
    subst hcs
    have hgr := grown_drew (World.grownBy.refl w2 none)
    have HS : Hid (∀ wx, w2.grownBy wx none → wx.cell? ⟨R, 0, none⟩ = some (.pointer (some ⟨D, 0, none⟩)) ∧ wx.cell? ⟨X, 2, none⟩ = some (.int .i64 (at_ : Int)) ∧ wx.cell? ⟨X, 3, none⟩ = some (.int .u64 (v : Int))) := Lib.hid (fun wx hg => ⟨hg.cell c02 (by simp), hg.cell y2 (by simp), hg.cell y3 (by simp)⟩)
    have hz := Lib.hid (HS.out _ hgr)
    have HC2 := Lib.hid (HC.out _ hgr)
    clear hx hxs hb2s hD hr Hok hok1 hok2 hOd HC hgr hRD hO2 HS
    go_enter Tryz.func24, Tryz.ntmps24
    go_wp2_with fail
    refine wp_region_held_drew (S := fun w' => w'.cell? ⟨R, 0, none⟩ = some (.pointer (some ⟨D, 0, none⟩)) ∧ w'.cell? ⟨X, 2, none⟩ = some (.int .i64 (at_ : Int)) ∧ w'.cell? ⟨X, 3, none⟩ = some (.int .u64 (v : Int))) (by kernel_rfl) (hz.out) (fun hS => ?_)
    refine wpAnyH_take (i := 0) (oi := { dst := some 34, op := Op.move (Operand.tmp 0), type := 39, pos := "ref.go:155", after := #[], guard := none }) (v := ?vsa24r8o0) rfl (by kernel_rfl) (by kernel_rfl) (by kernel_rfl) (fun _ _ _ h => h) (Or.inl ⟨by rfl, ?hsa24r8o0⟩) hS ?_
    case hsa24r8o0 => (intro wx hx; skip; go_simp; (try with_reducible rfl))
    try simp only [Act.put, List.setIfInBounds_toArray, List.set_cons_zero, List.set_cons_succ]
    refine wpAnyH_take (i := 1) (oi := { dst := some 35, op := Op.nilCheck (Operand.tmp 34), type := 0, pos := "ref.go:155", after := #[{ on := 0, ground := Ground.data }], guard := none }) (v := ?vsa24r8o1) rfl (by kernel_rfl) (by kernel_rfl) (by kernel_rfl) (fun _ _ _ h => h) (Or.inl ⟨by rfl, ?hsa24r8o1⟩) hS ?_
    case hsa24r8o1 => (intro wx hx; skip; go_simp; (try with_reducible rfl))
    try simp only [Act.put, List.setIfInBounds_toArray, List.set_cons_zero, List.set_cons_succ]
    refine wpAnyH_take (i := 2) (oi := { dst := some 36, op := Op.fieldAddr 58 (Operand.tmp 35) 0, type := 0, pos := "ref.go:155", after := #[{ on := 1, ground := Ground.data }], guard := none }) (v := ?vsa24r8o2) rfl (by kernel_rfl) (by kernel_rfl) (by kernel_rfl) (fun _ _ _ h => h) (Or.inl ⟨by rfl, ?hsa24r8o2⟩) hS ?_
    case hsa24r8o2 => (intro wx hx; skip; go_simp; (try with_reducible rfl))
    try simp only [Act.put, List.setIfInBounds_toArray, List.set_cons_zero, List.set_cons_succ]
    refine wpAnyH_take (i := 3) (oi := { dst := some 37, op := Op.load 30 (Operand.tmp 36), type := 30, pos := "ref.go:155", after := #[{ on := 2, ground := Ground.data }], guard := none }) (v := ?vsa24r8o3) rfl (by kernel_rfl) (by kernel_rfl) (by kernel_rfl) (fun _ _ _ h => h) (Or.inl ⟨by rfl, ?hsa24r8o3⟩) hS ?_
    case hsa24r8o3 => (intro wx hx; obtain ⟨s0, s1, s2⟩ := hx; go_simp; (try with_reducible rfl))
    try simp only [Act.put, List.setIfInBounds_toArray, List.set_cons_zero, List.set_cons_succ]
    refine wpAnyH_take (i := 4) (oi := { dst := some 38, op := Op.fieldAddr 115 (Operand.tmp 4) 2, type := 0, pos := "ref.go:155", after := #[], guard := none }) (v := ?vsa24r8o4) rfl (by kernel_rfl) (by kernel_rfl) (by kernel_rfl) (fun _ _ _ h => h) (Or.inl ⟨by rfl, ?hsa24r8o4⟩) hS ?_
    case hsa24r8o4 => (intro wx hx; skip; go_simp; (try with_reducible rfl))
    try simp only [Act.put, List.setIfInBounds_toArray, List.set_cons_zero, List.set_cons_succ]
    refine wpAnyH_take (i := 5) (oi := { dst := some 39, op := Op.load 3 (Operand.tmp 38), type := 3, pos := "ref.go:155", after := #[{ on := 4, ground := Ground.data }], guard := none }) (v := ?vsa24r8o5) rfl (by kernel_rfl) (by kernel_rfl) (by kernel_rfl) (fun _ _ _ h => h) (Or.inl ⟨by rfl, ?hsa24r8o5⟩) hS ?_
    case hsa24r8o5 => (intro wx hx; obtain ⟨s0, s1, s2⟩ := hx; go_simp; (try with_reducible rfl))
    try simp only [Act.put, List.setIfInBounds_toArray, List.set_cons_zero, List.set_cons_succ]
    refine wpAnyH_take (i := 6) (oi := { dst := some 40, op := Op.fieldAddr 115 (Operand.tmp 4) 3, type := 0, pos := "ref.go:155", after := #[], guard := none }) (v := ?vsa24r8o6) rfl (by kernel_rfl) (by kernel_rfl) (by kernel_rfl) (fun _ _ _ h => h) (Or.inl ⟨by rfl, ?hsa24r8o6⟩) hS ?_
    case hsa24r8o6 => (intro wx hx; skip; go_simp; (try with_reducible rfl))
    try simp only [Act.put, List.setIfInBounds_toArray, List.set_cons_zero, List.set_cons_succ]
    refine wpAnyH_take (i := 7) (oi := { dst := some 41, op := Op.load 44 (Operand.tmp 40), type := 44, pos := "ref.go:155", after := #[{ on := 6, ground := Ground.data }], guard := none }) (v := ?vsa24r8o7) rfl (by kernel_rfl) (by kernel_rfl) (by kernel_rfl) (fun _ _ _ h => h) (Or.inl ⟨by rfl, ?hsa24r8o7⟩) hS ?_
    case hsa24r8o7 => (intro wx hx; obtain ⟨s0, s1, s2⟩ := hx; go_simp; (try with_reducible rfl))
    try simp only [Act.put, List.setIfInBounds_toArray, List.set_cons_zero, List.set_cons_succ]
    refine wpAnyH_ready (rs := [8]) (by kernel_rfl) (by simp) ?_
    refine AllReadyH.cons (o := { dst := some 42, op := Op.call { callee := Callee.value (Operand.func 18), args := #[Operand.tmp 37, Operand.tmp 39, Operand.tmp 41], argTypes := #[30, 3, 44] }, type := 40, pos := "ref.go:155", after := #[{ on := 3, ground := Ground.data }, { on := 5, ground := Ground.data }, { on := 7, ground := Ground.data }], guard := none }) rfl (fun K hK => ?_) AllReadyH.nil
    go_simp
    refine HC2.out.mono ?_
    rintro e w3 ⟨rfl, hO3⟩
    obtain ⟨dx, d9, hO3⟩ := Hend.out w3 _ hO3
    have d0 := dx 0 _ (step0 p _)
    have d2 := dx 2 _ rfl
    have d3 := dx 3 _ rfl
    unfold ptr at d9
    have hO3 := Lib.hid hO3
    clear dx
    refine hK.out _ _ ?hssa24r8o8 (fun hS => ?_)
    case hssa24r8o8 => (exact ⟨d9, d2, d3⟩)
    clear hK K
    try simp only [Act.put, List.setIfInBounds_toArray, List.set_cons_zero, List.set_cons_succ]
    refine wpAnyH_done (by kernel_rfl) ?_ _
    clear hS
    go_wp2_with fail
    go_ret2
    exact ⟨rfl, hO3.out⟩
  | flush l =>
    have hok1 : l < n / 8 := Hok.out
    have x1 := hx 1 _ rfl
    have x2 := hx 2 _ rfl
    have x3 := hx 3 _ rfl
    have y1 := hb2s 1 _ rfl
    have y2 := hb2s 2 _ rfl
    have HC := Lib.hid (fun wx (hg : w2.grownBy wx none) => RFlush_ok kd kr D g n rs l hok1 w0 wx _ (hO2.quiet hg) hRD)
    unfold ptr at HC
    obtain ⟨zf3, zc3, zs3⟩ := Hz1.out 3 _ rfl
    replace hcs : cs = #[.int .i64 (p : Int), .int .i64 1, .int .i64 (l : Int), .int .u64 0] := hcs
    subst hcs
    have hgr := grown_drew (World.grownBy.refl w2 none)
    have HS : Hid (∀ wx, w2.grownBy wx none → wx.cell? ⟨R, 0, none⟩ = some (.pointer (some ⟨D, 0, none⟩)) ∧ wx.cell? ⟨X, 2, none⟩ = some (.int .i64 (l : Int))) := Lib.hid (fun wx hg => ⟨hg.cell c02 (by simp), hg.cell y2 (by simp)⟩)
    have hz := Lib.hid (HS.out _ hgr)
    have HC2 := Lib.hid (HC.out _ hgr)
    clear hx hxs hb2s hD Hok hok1 HC hgr hRD hO2 HS
    go_enter Tryz.func24, Tryz.ntmps24
    go_wp2_with fail
    refine wp_region_held_drew (S := fun w' => w'.cell? ⟨R, 0, none⟩ = some (.pointer (some ⟨D, 0, none⟩)) ∧ w'.cell? ⟨X, 2, none⟩ = some (.int .i64 (l : Int))) (by kernel_rfl) (hz.out) (fun hS => ?_)
    refine wpAnyH_take (i := 0) (oi := { dst := some 45, op := Op.move (Operand.tmp 0), type := 39, pos := "ref.go:157", after := #[], guard := none }) (v := ?vsb24r10o0) rfl (by kernel_rfl) (by kernel_rfl) (by kernel_rfl) (fun _ _ _ h => h) (Or.inl ⟨by rfl, ?hsb24r10o0⟩) hS ?_
    case hsb24r10o0 => (intro wx hx; skip; go_simp; (try with_reducible rfl))
    try simp only [Act.put, List.setIfInBounds_toArray, List.set_cons_zero, List.set_cons_succ]
    refine wpAnyH_take (i := 1) (oi := { dst := some 46, op := Op.nilCheck (Operand.tmp 45), type := 0, pos := "ref.go:157", after := #[{ on := 0, ground := Ground.data }], guard := none }) (v := ?vsb24r10o1) rfl (by kernel_rfl) (by kernel_rfl) (by kernel_rfl) (fun _ _ _ h => h) (Or.inl ⟨by rfl, ?hsb24r10o1⟩) hS ?_
    case hsb24r10o1 => (intro wx hx; skip; go_simp; (try with_reducible rfl))
    try simp only [Act.put, List.setIfInBounds_toArray, List.set_cons_zero, List.set_cons_succ]
    refine wpAnyH_take (i := 2) (oi := { dst := some 47, op := Op.fieldAddr 58 (Operand.tmp 46) 0, type := 0, pos := "ref.go:157", after := #[{ on := 1, ground := Ground.data }], guard := none }) (v := ?vsb24r10o2) rfl (by kernel_rfl) (by kernel_rfl) (by kernel_rfl) (fun _ _ _ h => h) (Or.inl ⟨by rfl, ?hsb24r10o2⟩) hS ?_
    case hsb24r10o2 => (intro wx hx; skip; go_simp; (try with_reducible rfl))
    try simp only [Act.put, List.setIfInBounds_toArray, List.set_cons_zero, List.set_cons_succ]
    refine wpAnyH_take (i := 3) (oi := { dst := some 48, op := Op.load 30 (Operand.tmp 47), type := 30, pos := "ref.go:157", after := #[{ on := 2, ground := Ground.data }], guard := none }) (v := ?vsb24r10o3) rfl (by kernel_rfl) (by kernel_rfl) (by kernel_rfl) (fun _ _ _ h => h) (Or.inl ⟨by rfl, ?hsb24r10o3⟩) hS ?_
    case hsb24r10o3 => (intro wx hx; obtain ⟨s0, s1⟩ := hx; go_simp; (try with_reducible rfl))
    try simp only [Act.put, List.setIfInBounds_toArray, List.set_cons_zero, List.set_cons_succ]
    refine wpAnyH_take (i := 4) (oi := { dst := some 49, op := Op.fieldAddr 115 (Operand.tmp 4) 2, type := 0, pos := "ref.go:157", after := #[], guard := none }) (v := ?vsb24r10o4) rfl (by kernel_rfl) (by kernel_rfl) (by kernel_rfl) (fun _ _ _ h => h) (Or.inl ⟨by rfl, ?hsb24r10o4⟩) hS ?_
    case hsb24r10o4 => (intro wx hx; skip; go_simp; (try with_reducible rfl))
    try simp only [Act.put, List.setIfInBounds_toArray, List.set_cons_zero, List.set_cons_succ]
    refine wpAnyH_take (i := 5) (oi := { dst := some 50, op := Op.load 3 (Operand.tmp 49), type := 3, pos := "ref.go:157", after := #[{ on := 4, ground := Ground.data }], guard := none }) (v := ?vsb24r10o5) rfl (by kernel_rfl) (by kernel_rfl) (by kernel_rfl) (fun _ _ _ h => h) (Or.inl ⟨by rfl, ?hsb24r10o5⟩) hS ?_
    case hsb24r10o5 => (intro wx hx; obtain ⟨s0, s1⟩ := hx; go_simp; (try with_reducible rfl))
    try simp only [Act.put, List.setIfInBounds_toArray, List.set_cons_zero, List.set_cons_succ]
    refine wpAnyH_ready (rs := [6]) (by kernel_rfl) (by simp) ?_
    refine AllReadyH.cons (o := { dst := some 51, op := Op.call { callee := Callee.value (Operand.func 76), args := #[Operand.tmp 48, Operand.tmp 50], argTypes := #[30, 3] }, type := 40, pos := "ref.go:157", after := #[{ on := 3, ground := Ground.data }, { on := 5, ground := Ground.data }], guard := none }) rfl (fun K hK => ?_) AllReadyH.nil
    go_simp
    refine HC2.out.mono ?_
    rintro e w3 ⟨rfl, hO3⟩
    obtain ⟨dx, d9, hO3⟩ := Hend.out w3 _ hO3
    have d0 := dx 0 _ (step0 p _)
    have d2 := dx 2 _ rfl
    unfold ptr at d9
    have hO3 := Lib.hid hO3
    clear dx
    refine hK.out _ _ ?hssb24r10o6 (fun hS => ?_)
    case hssb24r10o6 => (exact ⟨d9, d2⟩)
    clear hK K
    try simp only [Act.put, List.setIfInBounds_toArray, List.set_cons_zero, List.set_cons_succ]
    refine wpAnyH_done (by kernel_rfl) ?_ _
    clear hS
    go_wp2_with fail
    go_ret2
    exact ⟨rfl, hO3.out⟩
  | fence =>
    have x1 := hx 1 _ rfl
    have x2 := hx 2 _ rfl
    have x3 := hx 3 _ rfl
    have y1 := hb2s 1 _ rfl
    have HC := Lib.hid (RFence_ok kd kr D g n rs h0 w0 w2 _ hO2 hRD)
    unfold ptr at HC
    obtain ⟨zf3, zc3, zs3⟩ := Hz1.out 3 _ rfl
    obtain ⟨zf2, zc2, zs2⟩ := Hz1.out 2 _ rfl
    replace hcs : cs = #[.int .i64 (p : Int), .int .i64 2, .int .i64 0, .int .u64 0] := hcs
    subst hcs
    clear hx hxs hb2s hD Hok hRD hO2
    go_enter Tryz.func24, Tryz.ntmps24
    go_wp2_with fail
    refine HC.out.mono ?_
    rintro e w3 ⟨rfl, hO3⟩
    obtain ⟨dx, d9, hO3⟩ := Hend.out w3 _ hO3
    have d0 := dx 0 _ (step0 p _)
    have hO3 := Lib.hid hO3
    clear dx
    go_wp2_with fail
    go_ret2
    exact ⟨rfl, hO3.out⟩
end Go.Proofs.YtpdofdloclmbdaaGreat
end
section
/- CommitPlays: Resume of the document's run. -/
namespace Go.Proofs.YtpdofdloclmbdaaGreat
open Go.RowKit Go.Grommet
set_option linter.unusedVariables false

set_option maxRecDepth 100000 in
set_option maxHeartbeats 1000000 in
theorem ResumeRS (R D : Nat) (a b c k : Int) (j : Nat) (S : List (Nat × Cl)) (hS0 : 0 < S.length) (w0 w : World) (Ps : List Pr) (h : Grommet.Own w0 w Ps) (hj : Ps[j]? = some (refP R D a b c k S)) :
    Calls Tryz.prog 16 #[.pointer (some ⟨R, 0, none⟩)] w fun e w' => e = .returned (.tuple #[.bool false, .int .i64 3]) ∧ w' = w := by
  obtain ⟨_, _, _, _, _, ⟨ads, caps, c5⟩, _⟩ := ref_cells h j hj
  generalize S.length = n at c5 hS0
  have n1 : (0 : Int) < (n : Int) := by omega
  clear h hj
  go_enter Tryz.func16, Tryz.ntmps16
  go_wp2
  go_ret2
  exact ⟨rfl, rfl⟩
set_option maxRecDepth 100000 in
set_option maxHeartbeats 1000000 in
theorem BeginRS (R D : Nat) (a b c k : Int) (j : Nat) (S : List (Nat × Cl)) (hS0 : 0 < S.length) (ad : Option Addr) (m cap : Nat) (w0 w : World) (Ps : List Pr) (h : Grommet.Own w0 w Ps) (hj : Ps[j]? = some (refP R D a b c k S)) :
    Calls Tryz.prog 14 #[.pointer (some ⟨R, 0, none⟩), .slice ad m cap] w fun e w' => e = .returned (.int .i64 3) ∧ w' = w := by
  obtain ⟨_, _, _, _, _, ⟨ads, caps, c5⟩, _⟩ := ref_cells h j hj
  generalize S.length = n at c5 hS0
  have n1 : (0 : Int) < (n : Int) := by omega
  clear h hj
  go_enter Tryz.func14, Tryz.ntmps14
  go_wp2
  go_ret
  exact ⟨rfl, rfl⟩
set_option maxRecDepth 100000 in
set_option maxHeartbeats 1000000 in
theorem BeginRA (R D : Nat) (a b c k : Int) (j : Nat) (ad : Option Addr) (n cap : Nat) (W : List (Int × Nat)) (w0 w : World) (Ps : List Pr) (h : Grommet.Own w0 w Ps) (hj : Ps[j]? = some (refP R D a b c k [])) (hat : At w ad (icells W)) (hn : W.length = n) (hmay : mayW a b c W = false) :
    Calls Tryz.prog 14 #[.pointer (some ⟨R, 0, none⟩), .slice ad n cap] w fun e w' => e = .returned (.int .i64 1) ∧ w.grownBy w' none := by
  obtain ⟨c0, c1, c2, c3, c4, ⟨ads, caps, c5⟩, _⟩ := ref_cells h j hj
  have c5 : w.cell? ⟨R, 5, none⟩ = some (.slice ads 0 caps) := c5
  have HMy := Lib.hid (RefMay_any a b c ad n cap W w hat hn)
  rw [hmay] at HMy
  unfold BoolIs gv at HMy
  clear h hj hat hn hmay c0
  go_enter Tryz.func14, Tryz.ntmps14
  go_wp2_with fail
  refine HMy.out.mono ?_
  rintro e w1 ⟨rfl, hg1⟩
  go_wp2
  go_ret
  exact ⟨rfl, hg1⟩

set_option maxRecDepth 100000 in
set_option maxHeartbeats 4000000 in
theorem ResumeR (R D : Nat) (a b c k : Int) (A j kd kr g n : Nat) (rs : List RW) (xs : List Nat) (w0 w : World) (Ps : List Pr) (h : Grommet.Own w0 w Ps) (hj : Ps[j]? = some (refP R D a b c k [])) (hD : RD Ps kd kr D g n rs) (hxs : rs.map (·.seen) = xs) (hA : areaV a b c k = (A : Int)) (hAn : A + 208 ≤ n) (hm : mayB a b c = true) (hw : 280 + 208 * a + 16 * b + 8 * c ≤ 65536) :
    Calls Tryz.prog 16 #[.pointer (some ⟨R, 0, none⟩)] w fun e w' => e = .returned (.tuple #[.bool (!decide (xs.getD A 0 = 0)), .int .i64 0]) ∧ Grommet.Own w0 w' (Ps.set j (refP R D a b c k (goS 8192 A a b c xs))) := by
  have hjl := (List.getElem?_eq_some_iff.1 hj).1
  have hfew := hD.few
  have hxl : xs.length = n := by rw [← hxs, List.length_map, hD.len]
  have hxsm : ∀ v ∈ xs, v < 18446744073709551616 := by
    intro v hv
    rw [← hxs] at hv
    obtain ⟨r, hr, rfl⟩ := List.mem_map.1 hv
    exact (hD.small r hr).2.1
  have HSn := RSeen_any kd kr D g n rs w0 w Ps h hD
  rw [colS_all _ _ _ (by rw [hD.len]; exact Nat.le_refl _), hxs] at HSn
  have HSn := Lib.hid HSn
  obtain ⟨c0, c1, c2, c3, c4, ⟨ads, caps, c5⟩, f5⟩ := ref_cells h j hj
  have c5 : w.cell? ⟨R, 5, none⟩ = some (.slice ads 0 caps) := c5
  have HAr := Lib.hid (fun wx => RAreaAt_any a b c k wx)
  rw [hA] at HAr
  have hm5 : 1 ≤ A := by
    unfold areaV at hA
    split at hA
    · omega
    · omega
  have hAsm : A < 1000000 := by omega
  have hcell : ∀ (wx : World) (ad : Option Addr) (cp : Nat) (P : Pr) (Q : List Pr), Grommet.Own w0 wx (Ps.set j P ++ (rowP 44 1 (.slice ad n cp) n (xs.map wv) :: Q)) → ∃ q, ad = some ⟨q, 0, none⟩ ∧ wx.cell? ⟨q, A, none⟩ = some (.int .u64 ((xs.getD A 0 : Nat) : Int)) ∧ Words wx (some ⟨q, 0, none⟩) n xs ∧ n ≤ cp := by
    intro wx ad cp P Q hO
    have hAx : A < xs.length := by omega
    obtain ⟨q, rfl, x1, _, x4⟩ := Own.cell hO Ps.length get_end A (wv (xs.getD A 0)) (by rw [List.getElem?_map, List.getElem?_eq_getElem hAx, List.getD_eq_getElem?_getD, List.getElem?_eq_getElem hAx]; rfl)
    exact ⟨q, rfl, x1, (Own.words hO Ps.length get_end hxsm (by omega)).1, x4⟩
  have hjs : Ps = Ps.set j (refP R D a b c k []) := (set_selfC hj).symm
  have HCe := Lib.hid hcell
  have HXs := Lib.hid hxsm
  have HJs := Lib.hid hjs
  have HCm := Lib.hid (fun wx q cp (hx : Words wx (some ⟨q, 0, none⟩) n xs) (hlc : n ≤ cp) => RComm_any wx.heap.size a b c k q 0 n cp xs A wx hA hx hlc hAn (by omega) (Nat.le_refl _))
  have HFr := Lib.hid (fun wx ad m cp (hq : RQ R D a b c k wx) (hat : At wx ad (icells (commM xs A))) (hl : (commM xs A).length = m) (hB : commB a b c xs A = true) => fromR R D a b c k A ad m cp (commM xs A) wx hq hA hAsm hat hl (by have := comm_len hB; omega) (fun x hx => by have := (comm_ok hm hB x hx).1; omega))
  have HCl := Lib.hid (fun wx (hq : RQ R D a b c k wx) => clearsR R D a b c k A wx hq hA hAsm)
  have A0 : (0 : Int) ≤ (A : Int) := by omega
  have An : (A : Int) < (n : Int) := by omega
  obtain ⟨z, hz⟩ : ∃ z, xs.getD A 0 = z := ⟨_, rfl⟩
  rw [hz] at HCe
  unfold StepsAns at HFr HCl
  unfold RCommIs gv at HCm
  unfold gv IntIs at HAr
  unfold ptr at c0 HSn
  have HZ := Lib.hid hz
  clear h hD hxs hA hxl hxsm hcell hjs hm hz
  go_enter Tryz.func16, Tryz.ntmps16
  go_wp2_with fail
  refine HSn.out.mono ?_
  rintro e w1 ⟨ad, cp, rfl, hO1⟩
  rw [HJs.out] at hO1
  have hOd := hO1.quiet (grown_drew (World.grownBy.refl w1 none))
  obtain ⟨q, rfl, cA, _, hlc⟩ := HCe.out _ _ _ _ [] hOd
  have HK := Lib.hid (fun wx (hO : Grommet.Own w0 wx (Ps.set j (refP R D a b c k []) ++ [rowP 44 1 (.slice (some ⟨q, 0, none⟩) n cp) n (xs.map wv)])) => And.intro (RQ.of hO j (get_set_end hjl)) (show wx.cell? ⟨q, A, none⟩ = some (.int .u64 ((z : Nat) : Int)) by
    obtain ⟨q', he, x1, _⟩ := HCe.out _ _ _ _ [] hO
    cases he
    exact x1))
  have hzq := Lib.hid (HK.out _ hOd)
  have hOr := Lib.hid hOd
  clear HSn hO1 hOd cA c0 c1 c2 c3 c4 c5 f5
  by_cases hz0 : z = 0
  · have zq : ((z : Int) == 0) = true := by rw [hz0]; rfl
    have Hend : Hid (Ps.set j (refP R D a b c k []) = Ps.set j (refP R D a b c k (goS 8192 A a b c xs))) := Lib.hid (by unfold goS; rw [HZ.out, if_pos hz0])
    have Hb : Hid ((!decide (xs.getD A 0 = 0)) = false) := Lib.hid (by rw [HZ.out, decide_eq_true hz0]; rfl)
    clear HCm HFr HCl HCe
    go_wp2_with fail
    refine wp_region_held_drew (S := fun w' => RQ R D a b c k w' ∧ w'.cell? ⟨q, A, none⟩ = some (.int .u64 ((z : Nat) : Int))) (by kernel_rfl) (hzq.out) (fun hS => ?_)
    refine wpAnyH_take (i := 0) (oi := { dst := some 18, op := Op.move (Operand.tmp 4), type := 33, pos := "ref.go:134", after := #[], guard := none }) (v := ?vra16r4o0) rfl (by kernel_rfl) (by kernel_rfl) (by kernel_rfl) (fun _ _ _ h => h) (Or.inl ⟨by rfl, ?hra16r4o0⟩) hS ?_
    case hra16r4o0 => (intro wx hx; skip; go_simp; (try with_reducible rfl))
    try simp only [Act.put, List.setIfInBounds_toArray, List.set_cons_zero, List.set_cons_succ]
    refine wpAnyH_take (i := 1) (oi := { dst := some 19, op := Op.move (Operand.tmp 0), type := 39, pos := "ref.go:134", after := #[], guard := none }) (v := ?vra16r4o1) rfl (by kernel_rfl) (by kernel_rfl) (by kernel_rfl) (fun _ _ _ h => h) (Or.inl ⟨by rfl, ?hra16r4o1⟩) hS ?_
    case hra16r4o1 => (intro wx hx; skip; go_simp; (try with_reducible rfl))
    try simp only [Act.put, List.setIfInBounds_toArray, List.set_cons_zero, List.set_cons_succ]
    refine wpAnyH_take (i := 2) (oi := { dst := some 20, op := Op.nilCheck (Operand.tmp 19), type := 0, pos := "ref.go:134", after := #[{ on := 1, ground := Ground.data }], guard := none }) (v := ?vra16r4o2) rfl (by kernel_rfl) (by kernel_rfl) (by kernel_rfl) (fun _ _ _ h => h) (Or.inl ⟨by rfl, ?hra16r4o2⟩) hS ?_
    case hra16r4o2 => (intro wx hx; skip; go_simp; (try with_reducible rfl))
    try simp only [Act.put, List.setIfInBounds_toArray, List.set_cons_zero, List.set_cons_succ]
    refine wpAnyH_take (i := 3) (oi := { dst := some 21, op := Op.fieldAddr 58 (Operand.tmp 20) 1, type := 0, pos := "ref.go:134", after := #[{ on := 2, ground := Ground.data }], guard := none }) (v := ?vra16r4o3) rfl (by kernel_rfl) (by kernel_rfl) (by kernel_rfl) (fun _ _ _ h => h) (Or.inl ⟨by rfl, ?hra16r4o3⟩) hS ?_
    case hra16r4o3 => (intro wx hx; skip; go_simp; (try with_reducible rfl))
    try simp only [Act.put, List.setIfInBounds_toArray, List.set_cons_zero, List.set_cons_succ]
    refine wpAnyH_take (i := 4) (oi := { dst := some 22, op := Op.load 28 (Operand.tmp 21), type := 28, pos := "ref.go:134", after := #[{ on := 3, ground := Ground.data }], guard := none }) (v := ?vra16r4o4) rfl (by kernel_rfl) (by kernel_rfl) (by kernel_rfl) (fun _ _ _ h => h) (Or.inl ⟨by rfl, ?hra16r4o4⟩) hS ?_
    case hra16r4o4 => (intro wx hx; obtain ⟨⟨y0, y1, y2, y3, y4⟩, y5⟩ := hx; go_simp; (try with_reducible rfl))
    try simp only [Act.put, List.setIfInBounds_toArray, List.set_cons_zero, List.set_cons_succ]
    refine wpAnyH_take (i := 5) (oi := { dst := some 23, op := Op.move (Operand.tmp 0), type := 39, pos := "ref.go:134", after := #[], guard := none }) (v := ?vra16r4o5) rfl (by kernel_rfl) (by kernel_rfl) (by kernel_rfl) (fun _ _ _ h => h) (Or.inl ⟨by rfl, ?hra16r4o5⟩) hS ?_
    case hra16r4o5 => (intro wx hx; skip; go_simp; (try with_reducible rfl))
    try simp only [Act.put, List.setIfInBounds_toArray, List.set_cons_zero, List.set_cons_succ]
    refine wpAnyH_take (i := 6) (oi := { dst := some 24, op := Op.nilCheck (Operand.tmp 23), type := 0, pos := "ref.go:134", after := #[{ on := 5, ground := Ground.data }], guard := none }) (v := ?vra16r4o6) rfl (by kernel_rfl) (by kernel_rfl) (by kernel_rfl) (fun _ _ _ h => h) (Or.inl ⟨by rfl, ?hra16r4o6⟩) hS ?_
    case hra16r4o6 => (intro wx hx; skip; go_simp; (try with_reducible rfl))
    try simp only [Act.put, List.setIfInBounds_toArray, List.set_cons_zero, List.set_cons_succ]
    refine wpAnyH_take (i := 7) (oi := { dst := some 25, op := Op.fieldAddr 58 (Operand.tmp 24) 2, type := 0, pos := "ref.go:134", after := #[{ on := 6, ground := Ground.data }], guard := none }) (v := ?vra16r4o7) rfl (by kernel_rfl) (by kernel_rfl) (by kernel_rfl) (fun _ _ _ h => h) (Or.inl ⟨by rfl, ?hra16r4o7⟩) hS ?_
    case hra16r4o7 => (intro wx hx; skip; go_simp; (try with_reducible rfl))
    try simp only [Act.put, List.setIfInBounds_toArray, List.set_cons_zero, List.set_cons_succ]
    refine wpAnyH_take (i := 8) (oi := { dst := some 26, op := Op.load 3 (Operand.tmp 25), type := 3, pos := "ref.go:134", after := #[{ on := 7, ground := Ground.data }], guard := none }) (v := ?vra16r4o8) rfl (by kernel_rfl) (by kernel_rfl) (by kernel_rfl) (fun _ _ _ h => h) (Or.inl ⟨by rfl, ?hra16r4o8⟩) hS ?_
    case hra16r4o8 => (intro wx hx; obtain ⟨⟨y0, y1, y2, y3, y4⟩, y5⟩ := hx; go_simp; (try with_reducible rfl))
    try simp only [Act.put, List.setIfInBounds_toArray, List.set_cons_zero, List.set_cons_succ]
    refine wpAnyH_ready (rs := [9]) (by kernel_rfl) (by simp) ?_
    refine AllReadyH.cons (o := { dst := some 27, op := Op.call { callee := Callee.value (Operand.func 53), args := #[Operand.tmp 22, Operand.tmp 26], argTypes := #[28, 3] }, type := 3, pos := "ref.go:134", after := #[{ on := 4, ground := Ground.data }, { on := 8, ground := Ground.data }], guard := none }) rfl (fun K hK => ?_) AllReadyH.nil
    go_simp
    refine (HAr.out _).mono ?_
    rintro e v1 ⟨rfl, hg1⟩
    have hOn := Lib.hid (hOr.out.quiet hg1)
    clear hOr hg1
    have hOr := hOn
    clear hOn
    refine hK.out _ _ ?hsra16r4o9 (fun hS => ?_)
    case hsra16r4o9 => (exact HK.out _ hOr.out)
    clear hK K
    try simp only [Act.put, List.setIfInBounds_toArray, List.set_cons_zero, List.set_cons_succ]
    refine wpAnyH_take (i := 10) (oi := { dst := some 28, op := Op.indexAddr 33 (Operand.tmp 18) (Operand.tmp 27), type := 0, pos := "ref.go:134", after := #[{ on := 0, ground := Ground.data }, { on := 9, ground := Ground.data }], guard := none }) (v := ?vra16r4o10) rfl (by kernel_rfl) (by kernel_rfl) (by kernel_rfl) (fun _ _ _ h => h) (Or.inl ⟨by rfl, ?hra16r4o10⟩) hS ?_
    case hra16r4o10 => (intro wx hx; skip; go_simp; (try with_reducible rfl))
    try simp only [Act.put, List.setIfInBounds_toArray, List.set_cons_zero, List.set_cons_succ]
    refine wpAnyH_take (i := 11) (oi := { dst := some 29, op := Op.load 44 (Operand.tmp 28), type := 44, pos := "ref.go:134", after := #[{ on := 10, ground := Ground.data }], guard := none }) (v := ?vra16r4o11) rfl (by kernel_rfl) (by kernel_rfl) (by kernel_rfl) (fun _ _ _ h => h) (Or.inl ⟨by rfl, ?hra16r4o11⟩) hS ?_
    case hra16r4o11 => (intro wx hx; obtain ⟨⟨y0, y1, y2, y3, y4⟩, y5⟩ := hx; go_simp; (try with_reducible rfl))
    try simp only [Act.put, List.setIfInBounds_toArray, List.set_cons_zero, List.set_cons_succ]
    refine wpAnyH_take (i := 12) (oi := { dst := some 30, op := Op.binOp BinOp.eql 44 (Operand.tmp 29) (Operand.const (Value.int IntKind.u64 0)) 44, type := 4, pos := "ref.go:134", after := #[{ on := 11, ground := Ground.data }], guard := none }) (v := ?vra16r4o12) rfl (by kernel_rfl) (by kernel_rfl) (by kernel_rfl) (fun _ _ _ h => h) (Or.inl ⟨by rfl, ?hra16r4o12⟩) hS ?_
    case hra16r4o12 => (intro wx hx; skip; go_simp; (try with_reducible rfl))
    try simp only [Act.put, List.setIfInBounds_toArray, List.set_cons_zero, List.set_cons_succ]
    refine wpAnyH_done (by kernel_rfl) ?_ _
    clear hS hzq HK HAr
    go_wp2_with fail
    go_ret2
    rw [Hb.out, ← Hend.out]
    exact ⟨rfl, hOr.out.less⟩
  · have zq : ((z : Int) == 0) = false := by rw [beq_eq_false_iff_ne]; omega
    have Hb : Hid ((!decide (xs.getD A 0 = 0)) = true) := Lib.hid (by rw [HZ.out, decide_eq_false hz0]; rfl)
    clear HCe
    go_wp2_with fail
    refine wp_region_held_drew (S := fun w' => RQ R D a b c k w' ∧ w'.cell? ⟨q, A, none⟩ = some (.int .u64 ((z : Nat) : Int))) (by kernel_rfl) (hzq.out) (fun hS => ?_)
    refine wpAnyH_take (i := 0) (oi := { dst := some 18, op := Op.move (Operand.tmp 4), type := 33, pos := "ref.go:134", after := #[], guard := none }) (v := ?vrb16r4o0) rfl (by kernel_rfl) (by kernel_rfl) (by kernel_rfl) (fun _ _ _ h => h) (Or.inl ⟨by rfl, ?hrb16r4o0⟩) hS ?_
    case hrb16r4o0 => (intro wx hx; skip; go_simp; (try with_reducible rfl))
    try simp only [Act.put, List.setIfInBounds_toArray, List.set_cons_zero, List.set_cons_succ]
    refine wpAnyH_take (i := 1) (oi := { dst := some 19, op := Op.move (Operand.tmp 0), type := 39, pos := "ref.go:134", after := #[], guard := none }) (v := ?vrb16r4o1) rfl (by kernel_rfl) (by kernel_rfl) (by kernel_rfl) (fun _ _ _ h => h) (Or.inl ⟨by rfl, ?hrb16r4o1⟩) hS ?_
    case hrb16r4o1 => (intro wx hx; skip; go_simp; (try with_reducible rfl))
    try simp only [Act.put, List.setIfInBounds_toArray, List.set_cons_zero, List.set_cons_succ]
    refine wpAnyH_take (i := 2) (oi := { dst := some 20, op := Op.nilCheck (Operand.tmp 19), type := 0, pos := "ref.go:134", after := #[{ on := 1, ground := Ground.data }], guard := none }) (v := ?vrb16r4o2) rfl (by kernel_rfl) (by kernel_rfl) (by kernel_rfl) (fun _ _ _ h => h) (Or.inl ⟨by rfl, ?hrb16r4o2⟩) hS ?_
    case hrb16r4o2 => (intro wx hx; skip; go_simp; (try with_reducible rfl))
    try simp only [Act.put, List.setIfInBounds_toArray, List.set_cons_zero, List.set_cons_succ]
    refine wpAnyH_take (i := 3) (oi := { dst := some 21, op := Op.fieldAddr 58 (Operand.tmp 20) 1, type := 0, pos := "ref.go:134", after := #[{ on := 2, ground := Ground.data }], guard := none }) (v := ?vrb16r4o3) rfl (by kernel_rfl) (by kernel_rfl) (by kernel_rfl) (fun _ _ _ h => h) (Or.inl ⟨by rfl, ?hrb16r4o3⟩) hS ?_
    case hrb16r4o3 => (intro wx hx; skip; go_simp; (try with_reducible rfl))
    try simp only [Act.put, List.setIfInBounds_toArray, List.set_cons_zero, List.set_cons_succ]
    refine wpAnyH_take (i := 4) (oi := { dst := some 22, op := Op.load 28 (Operand.tmp 21), type := 28, pos := "ref.go:134", after := #[{ on := 3, ground := Ground.data }], guard := none }) (v := ?vrb16r4o4) rfl (by kernel_rfl) (by kernel_rfl) (by kernel_rfl) (fun _ _ _ h => h) (Or.inl ⟨by rfl, ?hrb16r4o4⟩) hS ?_
    case hrb16r4o4 => (intro wx hx; obtain ⟨⟨y0, y1, y2, y3, y4⟩, y5⟩ := hx; go_simp; (try with_reducible rfl))
    try simp only [Act.put, List.setIfInBounds_toArray, List.set_cons_zero, List.set_cons_succ]
    refine wpAnyH_take (i := 5) (oi := { dst := some 23, op := Op.move (Operand.tmp 0), type := 39, pos := "ref.go:134", after := #[], guard := none }) (v := ?vrb16r4o5) rfl (by kernel_rfl) (by kernel_rfl) (by kernel_rfl) (fun _ _ _ h => h) (Or.inl ⟨by rfl, ?hrb16r4o5⟩) hS ?_
    case hrb16r4o5 => (intro wx hx; skip; go_simp; (try with_reducible rfl))
    try simp only [Act.put, List.setIfInBounds_toArray, List.set_cons_zero, List.set_cons_succ]
    refine wpAnyH_take (i := 6) (oi := { dst := some 24, op := Op.nilCheck (Operand.tmp 23), type := 0, pos := "ref.go:134", after := #[{ on := 5, ground := Ground.data }], guard := none }) (v := ?vrb16r4o6) rfl (by kernel_rfl) (by kernel_rfl) (by kernel_rfl) (fun _ _ _ h => h) (Or.inl ⟨by rfl, ?hrb16r4o6⟩) hS ?_
    case hrb16r4o6 => (intro wx hx; skip; go_simp; (try with_reducible rfl))
    try simp only [Act.put, List.setIfInBounds_toArray, List.set_cons_zero, List.set_cons_succ]
    refine wpAnyH_take (i := 7) (oi := { dst := some 25, op := Op.fieldAddr 58 (Operand.tmp 24) 2, type := 0, pos := "ref.go:134", after := #[{ on := 6, ground := Ground.data }], guard := none }) (v := ?vrb16r4o7) rfl (by kernel_rfl) (by kernel_rfl) (by kernel_rfl) (fun _ _ _ h => h) (Or.inl ⟨by rfl, ?hrb16r4o7⟩) hS ?_
    case hrb16r4o7 => (intro wx hx; skip; go_simp; (try with_reducible rfl))
    try simp only [Act.put, List.setIfInBounds_toArray, List.set_cons_zero, List.set_cons_succ]
    refine wpAnyH_take (i := 8) (oi := { dst := some 26, op := Op.load 3 (Operand.tmp 25), type := 3, pos := "ref.go:134", after := #[{ on := 7, ground := Ground.data }], guard := none }) (v := ?vrb16r4o8) rfl (by kernel_rfl) (by kernel_rfl) (by kernel_rfl) (fun _ _ _ h => h) (Or.inl ⟨by rfl, ?hrb16r4o8⟩) hS ?_
    case hrb16r4o8 => (intro wx hx; obtain ⟨⟨y0, y1, y2, y3, y4⟩, y5⟩ := hx; go_simp; (try with_reducible rfl))
    try simp only [Act.put, List.setIfInBounds_toArray, List.set_cons_zero, List.set_cons_succ]
    refine wpAnyH_ready (rs := [9]) (by kernel_rfl) (by simp) ?_
    refine AllReadyH.cons (o := { dst := some 27, op := Op.call { callee := Callee.value (Operand.func 53), args := #[Operand.tmp 22, Operand.tmp 26], argTypes := #[28, 3] }, type := 3, pos := "ref.go:134", after := #[{ on := 4, ground := Ground.data }, { on := 8, ground := Ground.data }], guard := none }) rfl (fun K hK => ?_) AllReadyH.nil
    go_simp
    refine (HAr.out _).mono ?_
    rintro e v1 ⟨rfl, hg1⟩
    have hOn := Lib.hid (hOr.out.quiet hg1)
    clear hOr hg1
    have hOr := hOn
    clear hOn
    refine hK.out _ _ ?hsrb16r4o9 (fun hS => ?_)
    case hsrb16r4o9 => (exact HK.out _ hOr.out)
    clear hK K
    try simp only [Act.put, List.setIfInBounds_toArray, List.set_cons_zero, List.set_cons_succ]
    refine wpAnyH_take (i := 10) (oi := { dst := some 28, op := Op.indexAddr 33 (Operand.tmp 18) (Operand.tmp 27), type := 0, pos := "ref.go:134", after := #[{ on := 0, ground := Ground.data }, { on := 9, ground := Ground.data }], guard := none }) (v := ?vrb16r4o10) rfl (by kernel_rfl) (by kernel_rfl) (by kernel_rfl) (fun _ _ _ h => h) (Or.inl ⟨by rfl, ?hrb16r4o10⟩) hS ?_
    case hrb16r4o10 => (intro wx hx; skip; go_simp; (try with_reducible rfl))
    try simp only [Act.put, List.setIfInBounds_toArray, List.set_cons_zero, List.set_cons_succ]
    refine wpAnyH_take (i := 11) (oi := { dst := some 29, op := Op.load 44 (Operand.tmp 28), type := 44, pos := "ref.go:134", after := #[{ on := 10, ground := Ground.data }], guard := none }) (v := ?vrb16r4o11) rfl (by kernel_rfl) (by kernel_rfl) (by kernel_rfl) (fun _ _ _ h => h) (Or.inl ⟨by rfl, ?hrb16r4o11⟩) hS ?_
    case hrb16r4o11 => (intro wx hx; obtain ⟨⟨y0, y1, y2, y3, y4⟩, y5⟩ := hx; go_simp; (try with_reducible rfl))
    try simp only [Act.put, List.setIfInBounds_toArray, List.set_cons_zero, List.set_cons_succ]
    refine wpAnyH_take (i := 12) (oi := { dst := some 30, op := Op.binOp BinOp.eql 44 (Operand.tmp 29) (Operand.const (Value.int IntKind.u64 0)) 44, type := 4, pos := "ref.go:134", after := #[{ on := 11, ground := Ground.data }], guard := none }) (v := ?vrb16r4o12) rfl (by kernel_rfl) (by kernel_rfl) (by kernel_rfl) (fun _ _ _ h => h) (Or.inl ⟨by rfl, ?hrb16r4o12⟩) hS ?_
    case hrb16r4o12 => (intro wx hx; skip; go_simp; (try with_reducible rfl))
    try simp only [Act.put, List.setIfInBounds_toArray, List.set_cons_zero, List.set_cons_succ]
    refine wpAnyH_done (by kernel_rfl) ?_ _
    clear hS hzq HAr
    have hOd := hOr.out.quiet (grown_drew (World.grownBy.refl v1 none))
    have hwd := (Own.words hOd Ps.length get_end (by intro v hv; exact HXs.out v hv) (by omega)).1
    have hzq := Lib.hid (HK.out _ hOd)
    have hOr2 := Lib.hid hOd
    have HCm1 := Lib.hid (HCm.out _ q cp hwd hlc)
    clear hOd hwd hOr HCm
    cases hB : commB a b c xs A with
    | true =>
      obtain ⟨m, hml⟩ : ∃ m, (commM xs A).length = m := ⟨_, rfl⟩
      have Hgo : Hid (applyS 8192 A (commM xs A) = goS 8192 A a b c xs) := Lib.hid (by unfold goS resS; rw [HZ.out, if_neg hz0, if_pos hB])
      rw [hB, hml] at HCm1
      have HCmT0 : Calls Tryz.prog 67 #[.agg #[.int .i64 a, .int .i64 b, .int .i64 c], .int .i64 k, .slice (some ⟨q, 0, none⟩) n cp] v1.drew (fun e w' => ∃ ad2 cp2, e = .returned (.tuple #[.slice ad2 m cp2, .bool true]) ∧ w'.ownsRow v1.drew.heap.size 92 2 (.slice ad2 m cp2) m (icells (commM xs A)) ∧ v1.drew.grownBy w' none) := by
        refine HCm1.out.mono ?_
        rintro e v2 (⟨_, ad2, cp2, n2, rfl, rfl, hrow, hg2⟩ | ⟨hf, _⟩)
        · exact ⟨ad2, cp2, rfl, hrow, hg2⟩
        · cases hf
      have HCmT := Lib.hid HCmT0
      clear HCmT0 HCm1
      have Hml := Lib.hid hml
      have HB := Lib.hid hB
      clear hB hml HCl
      go_wp2_with fail
      refine wp_region_held_drew (S := fun w' => RQ R D a b c k w') (by kernel_rfl) (hzq.out.1) (fun hS => ?_)
      refine wpAnyH_take (i := 0) (oi := { dst := some 32, op := Op.move (Operand.tmp 0), type := 39, pos := "ref.go:137", after := #[], guard := none }) (v := ?vrc16r6o0) rfl (by kernel_rfl) (by kernel_rfl) (by kernel_rfl) (fun _ _ _ h => h) (Or.inl ⟨by rfl, ?hrc16r6o0⟩) hS ?_
      case hrc16r6o0 => (intro wx hx; skip; go_simp; (try with_reducible rfl))
      try simp only [Act.put, List.setIfInBounds_toArray, List.set_cons_zero, List.set_cons_succ]
      refine wpAnyH_take (i := 1) (oi := { dst := some 33, op := Op.nilCheck (Operand.tmp 32), type := 0, pos := "ref.go:137", after := #[{ on := 0, ground := Ground.data }], guard := none }) (v := ?vrc16r6o1) rfl (by kernel_rfl) (by kernel_rfl) (by kernel_rfl) (fun _ _ _ h => h) (Or.inl ⟨by rfl, ?hrc16r6o1⟩) hS ?_
      case hrc16r6o1 => (intro wx hx; skip; go_simp; (try with_reducible rfl))
      try simp only [Act.put, List.setIfInBounds_toArray, List.set_cons_zero, List.set_cons_succ]
      refine wpAnyH_take (i := 2) (oi := { dst := some 34, op := Op.fieldAddr 58 (Operand.tmp 33) 1, type := 0, pos := "ref.go:137", after := #[{ on := 1, ground := Ground.data }], guard := none }) (v := ?vrc16r6o2) rfl (by kernel_rfl) (by kernel_rfl) (by kernel_rfl) (fun _ _ _ h => h) (Or.inl ⟨by rfl, ?hrc16r6o2⟩) hS ?_
      case hrc16r6o2 => (intro wx hx; skip; go_simp; (try with_reducible rfl))
      try simp only [Act.put, List.setIfInBounds_toArray, List.set_cons_zero, List.set_cons_succ]
      refine wpAnyH_take (i := 3) (oi := { dst := some 35, op := Op.load 28 (Operand.tmp 34), type := 28, pos := "ref.go:137", after := #[{ on := 2, ground := Ground.data }], guard := none }) (v := ?vrc16r6o3) rfl (by kernel_rfl) (by kernel_rfl) (by kernel_rfl) (fun _ _ _ h => h) (Or.inl ⟨by rfl, ?hrc16r6o3⟩) hS ?_
      case hrc16r6o3 => (intro wx hx; obtain ⟨y0, y1, y2, y3, y4⟩ := hx; go_simp; (try with_reducible rfl))
      try simp only [Act.put, List.setIfInBounds_toArray, List.set_cons_zero, List.set_cons_succ]
      refine wpAnyH_take (i := 4) (oi := { dst := some 36, op := Op.move (Operand.tmp 0), type := 39, pos := "ref.go:137", after := #[], guard := none }) (v := ?vrc16r6o4) rfl (by kernel_rfl) (by kernel_rfl) (by kernel_rfl) (fun _ _ _ h => h) (Or.inl ⟨by rfl, ?hrc16r6o4⟩) hS ?_
      case hrc16r6o4 => (intro wx hx; skip; go_simp; (try with_reducible rfl))
      try simp only [Act.put, List.setIfInBounds_toArray, List.set_cons_zero, List.set_cons_succ]
      refine wpAnyH_take (i := 5) (oi := { dst := some 37, op := Op.nilCheck (Operand.tmp 36), type := 0, pos := "ref.go:137", after := #[{ on := 4, ground := Ground.data }], guard := none }) (v := ?vrc16r6o5) rfl (by kernel_rfl) (by kernel_rfl) (by kernel_rfl) (fun _ _ _ h => h) (Or.inl ⟨by rfl, ?hrc16r6o5⟩) hS ?_
      case hrc16r6o5 => (intro wx hx; skip; go_simp; (try with_reducible rfl))
      try simp only [Act.put, List.setIfInBounds_toArray, List.set_cons_zero, List.set_cons_succ]
      refine wpAnyH_take (i := 6) (oi := { dst := some 38, op := Op.fieldAddr 58 (Operand.tmp 37) 2, type := 0, pos := "ref.go:137", after := #[{ on := 5, ground := Ground.data }], guard := none }) (v := ?vrc16r6o6) rfl (by kernel_rfl) (by kernel_rfl) (by kernel_rfl) (fun _ _ _ h => h) (Or.inl ⟨by rfl, ?hrc16r6o6⟩) hS ?_
      case hrc16r6o6 => (intro wx hx; skip; go_simp; (try with_reducible rfl))
      try simp only [Act.put, List.setIfInBounds_toArray, List.set_cons_zero, List.set_cons_succ]
      refine wpAnyH_take (i := 7) (oi := { dst := some 39, op := Op.load 3 (Operand.tmp 38), type := 3, pos := "ref.go:137", after := #[{ on := 6, ground := Ground.data }], guard := none }) (v := ?vrc16r6o7) rfl (by kernel_rfl) (by kernel_rfl) (by kernel_rfl) (fun _ _ _ h => h) (Or.inl ⟨by rfl, ?hrc16r6o7⟩) hS ?_
      case hrc16r6o7 => (intro wx hx; obtain ⟨y0, y1, y2, y3, y4⟩ := hx; go_simp; (try with_reducible rfl))
      try simp only [Act.put, List.setIfInBounds_toArray, List.set_cons_zero, List.set_cons_succ]
      refine wpAnyH_take (i := 8) (oi := { dst := some 40, op := Op.move (Operand.tmp 4), type := 33, pos := "ref.go:137", after := #[], guard := none }) (v := ?vrc16r6o8) rfl (by kernel_rfl) (by kernel_rfl) (by kernel_rfl) (fun _ _ _ h => h) (Or.inl ⟨by rfl, ?hrc16r6o8⟩) hS ?_
      case hrc16r6o8 => (intro wx hx; skip; go_simp; (try with_reducible rfl))
      try simp only [Act.put, List.setIfInBounds_toArray, List.set_cons_zero, List.set_cons_succ]
      refine wpAnyH_ready (rs := [9]) (by kernel_rfl) (by simp) ?_
      refine AllReadyH.cons (o := { dst := some 41, op := Op.call { callee := Callee.value (Operand.func 67), args := #[Operand.tmp 35, Operand.tmp 39, Operand.tmp 40], argTypes := #[28, 3, 33] }, type := 119, pos := "ref.go:137", after := #[{ on := 3, ground := Ground.data }, { on := 7, ground := Ground.data }, { on := 8, ground := Ground.data }], guard := none }) rfl (fun K hK => ?_) AllReadyH.nil
      go_simp
      refine HCmT.out.mono ?_
      rintro e v2 ⟨ad2, cp2, rfl, hrow, hg2⟩
      have hO2 := hOr2.out.addRow hrow hg2
      have hq2 := RQ.of hO2.less j (get_set_end hjl)
      have HFr2 := Lib.hid (HFr.out v2 ad2 m cp2 hq2 (Own.pairs hO2 _ last_get).1 Hml.out HB.out)
      have hO2 := Lib.hid hO2
      refine hK.out _ _ ?hsrc16r6o9 (fun hS => ?_)
      case hsrc16r6o9 => (exact hq2)
      clear hK K
      try simp only [Act.put, List.setIfInBounds_toArray, List.set_cons_zero, List.set_cons_succ]
      refine wpAnyH_take (i := 10) (oi := { dst := some 31, op := Op.move (Operand.tmp 41), type := 119, pos := "ref.go:137", after := #[{ on := 9, ground := Ground.data }], guard := none }) (v := ?vrc16r6o10) rfl (by kernel_rfl) (by kernel_rfl) (by kernel_rfl) (fun _ _ _ h => h) (Or.inl ⟨by rfl, ?hrc16r6o10⟩) hS ?_
      case hrc16r6o10 => (intro wx hx; skip; go_simp; (try with_reducible rfl))
      try simp only [Act.put, List.setIfInBounds_toArray, List.set_cons_zero, List.set_cons_succ]
      refine wpAnyH_take (i := 11) (oi := { dst := some 42, op := Op.extract (Operand.tmp 31) 0, type := 43, pos := "ref.go:137", after := #[{ on := 10, ground := Ground.data }], guard := none }) (v := ?vrc16r6o11) rfl (by kernel_rfl) (by kernel_rfl) (by kernel_rfl) (fun _ _ _ h => h) (Or.inl ⟨by rfl, ?hrc16r6o11⟩) hS ?_
      case hrc16r6o11 => (intro wx hx; skip; go_simp; (try with_reducible rfl))
      try simp only [Act.put, List.setIfInBounds_toArray, List.set_cons_zero, List.set_cons_succ]
      refine wpAnyH_take (i := 12) (oi := { dst := some 43, op := Op.extract (Operand.tmp 31) 1, type := 4, pos := "ref.go:137", after := #[{ on := 10, ground := Ground.data }, { on := 13, ground := Ground.gcOnly Departure.lateStores }], guard := none }) (v := ?vrc16r6o12) rfl (by kernel_rfl) (by kernel_rfl) (by kernel_rfl) (fun _ _ _ h => h) (Or.inl ⟨by rfl, ?hrc16r6o12⟩) hS ?_
      case hrc16r6o12 => (intro wx hx; skip; go_simp; (try with_reducible rfl))
      try simp only [Act.put, List.setIfInBounds_toArray, List.set_cons_zero, List.set_cons_succ]
      refine wpAnyH_take (i := 13) (oi := { dst := some 5, op := Op.assign (Operand.tmp 42), type := 43, pos := "ref.go:137", after := #[{ on := 11, ground := Ground.data }, { on := 9, ground := Ground.chain }, { on := 0, ground := Ground.phase }, { on := 1, ground := Ground.phase }, { on := 2, ground := Ground.phase }, { on := 3, ground := Ground.phase }, { on := 4, ground := Ground.phase }, { on := 5, ground := Ground.phase }, { on := 6, ground := Ground.phase }, { on := 7, ground := Ground.phase }, { on := 8, ground := Ground.phase }, { on := 9, ground := Ground.phase }, { on := 10, ground := Ground.phase }, { on := 11, ground := Ground.phase }, { on := 12, ground := Ground.textOnly Departure.lateStores }], guard := none }) (v := ?vrc16r6o13) rfl (by kernel_rfl) (by kernel_rfl) (by kernel_rfl) (fun _ _ _ h => h) (Or.inl ⟨by rfl, ?hrc16r6o13⟩) hS ?_
      case hrc16r6o13 => (intro wx hx; skip; go_simp; (try with_reducible rfl))
      try simp only [Act.put, List.setIfInBounds_toArray, List.set_cons_zero, List.set_cons_succ]
      refine wpAnyH_take (i := 14) (oi := { dst := some 6, op := Op.assign (Operand.tmp 43), type := 4, pos := "ref.go:137", after := #[{ on := 12, ground := Ground.data }, { on := 13, ground := Ground.chain }, { on := 0, ground := Ground.phase }, { on := 1, ground := Ground.phase }, { on := 2, ground := Ground.phase }, { on := 3, ground := Ground.phase }, { on := 4, ground := Ground.phase }, { on := 5, ground := Ground.phase }, { on := 6, ground := Ground.phase }, { on := 7, ground := Ground.phase }, { on := 8, ground := Ground.phase }, { on := 9, ground := Ground.phase }, { on := 10, ground := Ground.phase }, { on := 11, ground := Ground.phase }, { on := 12, ground := Ground.phase }, { on := 13, ground := Ground.phase }], guard := none }) (v := ?vrc16r6o14) rfl (by kernel_rfl) (by kernel_rfl) (by kernel_rfl) (fun _ _ _ h => h) (Or.inl ⟨by rfl, ?hrc16r6o14⟩) hS ?_
      case hrc16r6o14 => (intro wx hx; skip; go_simp; (try with_reducible rfl))
      try simp only [Act.put, List.setIfInBounds_toArray, List.set_cons_zero, List.set_cons_succ]
      refine wpAnyH_done (by kernel_rfl) ?_ _
      clear hS HFr HCmT hzq HK
      go_wp2_with fail
      refine HFr2.out.mono ?_
      rintro e v3 ⟨g3, m3, cp3, rfl, hm3, hO3⟩
      have hO4 := Own.join hO2.out.less.less hO3
      obtain ⟨_, _, _, _, _, ⟨ad5, cp5, c5⟩, f5⟩ := ref_cells hO4.less j (List.getElem?_set_self hjl)
      have hO5 := ref_put hO4 j (List.getElem?_set_self hjl) hm3
      rw [List.set_set, Hgo.out] at hO5
      have hO5 := Lib.hid hO5
      clear HFr2 hO3 hO4 hO2 hOr2 hq2 hm3
      go_wp2_with fail
      go_ret2
      rw [Hb.out]
      exact ⟨rfl, hO5.out⟩
    | false =>
      have Hgo : Hid (markS 8192 6 A 0 = goS 8192 A a b c xs) := Lib.hid (by unfold goS resS; rw [HZ.out, if_neg hz0, if_neg (by rw [hB]; simp)])
      rw [hB] at HCm1
      clear hB HFr
      go_wp2_with fail
      refine wp_region_held_drew (S := fun w' => RQ R D a b c k w') (by kernel_rfl) (hzq.out.1) (fun hS => ?_)
      refine wpAnyH_take (i := 0) (oi := { dst := some 32, op := Op.move (Operand.tmp 0), type := 39, pos := "ref.go:137", after := #[], guard := none }) (v := ?vre16r6o0) rfl (by kernel_rfl) (by kernel_rfl) (by kernel_rfl) (fun _ _ _ h => h) (Or.inl ⟨by rfl, ?hre16r6o0⟩) hS ?_
      case hre16r6o0 => (intro wx hx; skip; go_simp; (try with_reducible rfl))
      try simp only [Act.put, List.setIfInBounds_toArray, List.set_cons_zero, List.set_cons_succ]
      refine wpAnyH_take (i := 1) (oi := { dst := some 33, op := Op.nilCheck (Operand.tmp 32), type := 0, pos := "ref.go:137", after := #[{ on := 0, ground := Ground.data }], guard := none }) (v := ?vre16r6o1) rfl (by kernel_rfl) (by kernel_rfl) (by kernel_rfl) (fun _ _ _ h => h) (Or.inl ⟨by rfl, ?hre16r6o1⟩) hS ?_
      case hre16r6o1 => (intro wx hx; skip; go_simp; (try with_reducible rfl))
      try simp only [Act.put, List.setIfInBounds_toArray, List.set_cons_zero, List.set_cons_succ]
      refine wpAnyH_take (i := 2) (oi := { dst := some 34, op := Op.fieldAddr 58 (Operand.tmp 33) 1, type := 0, pos := "ref.go:137", after := #[{ on := 1, ground := Ground.data }], guard := none }) (v := ?vre16r6o2) rfl (by kernel_rfl) (by kernel_rfl) (by kernel_rfl) (fun _ _ _ h => h) (Or.inl ⟨by rfl, ?hre16r6o2⟩) hS ?_
      case hre16r6o2 => (intro wx hx; skip; go_simp; (try with_reducible rfl))
      try simp only [Act.put, List.setIfInBounds_toArray, List.set_cons_zero, List.set_cons_succ]
      refine wpAnyH_take (i := 3) (oi := { dst := some 35, op := Op.load 28 (Operand.tmp 34), type := 28, pos := "ref.go:137", after := #[{ on := 2, ground := Ground.data }], guard := none }) (v := ?vre16r6o3) rfl (by kernel_rfl) (by kernel_rfl) (by kernel_rfl) (fun _ _ _ h => h) (Or.inl ⟨by rfl, ?hre16r6o3⟩) hS ?_
      case hre16r6o3 => (intro wx hx; obtain ⟨y0, y1, y2, y3, y4⟩ := hx; go_simp; (try with_reducible rfl))
      try simp only [Act.put, List.setIfInBounds_toArray, List.set_cons_zero, List.set_cons_succ]
      refine wpAnyH_take (i := 4) (oi := { dst := some 36, op := Op.move (Operand.tmp 0), type := 39, pos := "ref.go:137", after := #[], guard := none }) (v := ?vre16r6o4) rfl (by kernel_rfl) (by kernel_rfl) (by kernel_rfl) (fun _ _ _ h => h) (Or.inl ⟨by rfl, ?hre16r6o4⟩) hS ?_
      case hre16r6o4 => (intro wx hx; skip; go_simp; (try with_reducible rfl))
      try simp only [Act.put, List.setIfInBounds_toArray, List.set_cons_zero, List.set_cons_succ]
      refine wpAnyH_take (i := 5) (oi := { dst := some 37, op := Op.nilCheck (Operand.tmp 36), type := 0, pos := "ref.go:137", after := #[{ on := 4, ground := Ground.data }], guard := none }) (v := ?vre16r6o5) rfl (by kernel_rfl) (by kernel_rfl) (by kernel_rfl) (fun _ _ _ h => h) (Or.inl ⟨by rfl, ?hre16r6o5⟩) hS ?_
      case hre16r6o5 => (intro wx hx; skip; go_simp; (try with_reducible rfl))
      try simp only [Act.put, List.setIfInBounds_toArray, List.set_cons_zero, List.set_cons_succ]
      refine wpAnyH_take (i := 6) (oi := { dst := some 38, op := Op.fieldAddr 58 (Operand.tmp 37) 2, type := 0, pos := "ref.go:137", after := #[{ on := 5, ground := Ground.data }], guard := none }) (v := ?vre16r6o6) rfl (by kernel_rfl) (by kernel_rfl) (by kernel_rfl) (fun _ _ _ h => h) (Or.inl ⟨by rfl, ?hre16r6o6⟩) hS ?_
      case hre16r6o6 => (intro wx hx; skip; go_simp; (try with_reducible rfl))
      try simp only [Act.put, List.setIfInBounds_toArray, List.set_cons_zero, List.set_cons_succ]
      refine wpAnyH_take (i := 7) (oi := { dst := some 39, op := Op.load 3 (Operand.tmp 38), type := 3, pos := "ref.go:137", after := #[{ on := 6, ground := Ground.data }], guard := none }) (v := ?vre16r6o7) rfl (by kernel_rfl) (by kernel_rfl) (by kernel_rfl) (fun _ _ _ h => h) (Or.inl ⟨by rfl, ?hre16r6o7⟩) hS ?_
      case hre16r6o7 => (intro wx hx; obtain ⟨y0, y1, y2, y3, y4⟩ := hx; go_simp; (try with_reducible rfl))
      try simp only [Act.put, List.setIfInBounds_toArray, List.set_cons_zero, List.set_cons_succ]
      refine wpAnyH_take (i := 8) (oi := { dst := some 40, op := Op.move (Operand.tmp 4), type := 33, pos := "ref.go:137", after := #[], guard := none }) (v := ?vre16r6o8) rfl (by kernel_rfl) (by kernel_rfl) (by kernel_rfl) (fun _ _ _ h => h) (Or.inl ⟨by rfl, ?hre16r6o8⟩) hS ?_
      case hre16r6o8 => (intro wx hx; skip; go_simp; (try with_reducible rfl))
      try simp only [Act.put, List.setIfInBounds_toArray, List.set_cons_zero, List.set_cons_succ]
      refine wpAnyH_ready (rs := [9]) (by kernel_rfl) (by simp) ?_
      refine AllReadyH.cons (o := { dst := some 41, op := Op.call { callee := Callee.value (Operand.func 67), args := #[Operand.tmp 35, Operand.tmp 39, Operand.tmp 40], argTypes := #[28, 3, 33] }, type := 119, pos := "ref.go:137", after := #[{ on := 3, ground := Ground.data }, { on := 7, ground := Ground.data }, { on := 8, ground := Ground.data }], guard := none }) rfl (fun K hK => ?_) AllReadyH.nil
      go_simp
      refine HCm1.out.mono ?_
      rintro e v2 (⟨hf, _⟩ | ⟨_, ad2, n2, cp2, rfl, hg2⟩)
      · cases hf
      have hO2 := hOr2.out.quiet hg2
      have hq2 := RQ.of hO2 j (get_set_end hjl)
      have HCl2 := Lib.hid (HCl.out v2 hq2)
      have hO2 := Lib.hid hO2
      refine hK.out _ _ ?hsre16r6o9 (fun hS => ?_)
      case hsre16r6o9 => (exact hq2)
      clear hK K
      try simp only [Act.put, List.setIfInBounds_toArray, List.set_cons_zero, List.set_cons_succ]
      refine wpAnyH_take (i := 10) (oi := { dst := some 31, op := Op.move (Operand.tmp 41), type := 119, pos := "ref.go:137", after := #[{ on := 9, ground := Ground.data }], guard := none }) (v := ?vre16r6o10) rfl (by kernel_rfl) (by kernel_rfl) (by kernel_rfl) (fun _ _ _ h => h) (Or.inl ⟨by rfl, ?hre16r6o10⟩) hS ?_
      case hre16r6o10 => (intro wx hx; skip; go_simp; (try with_reducible rfl))
      try simp only [Act.put, List.setIfInBounds_toArray, List.set_cons_zero, List.set_cons_succ]
      refine wpAnyH_take (i := 11) (oi := { dst := some 42, op := Op.extract (Operand.tmp 31) 0, type := 43, pos := "ref.go:137", after := #[{ on := 10, ground := Ground.data }], guard := none }) (v := ?vre16r6o11) rfl (by kernel_rfl) (by kernel_rfl) (by kernel_rfl) (fun _ _ _ h => h) (Or.inl ⟨by rfl, ?hre16r6o11⟩) hS ?_
      case hre16r6o11 => (intro wx hx; skip; go_simp; (try with_reducible rfl))
      try simp only [Act.put, List.setIfInBounds_toArray, List.set_cons_zero, List.set_cons_succ]
      refine wpAnyH_take (i := 12) (oi := { dst := some 43, op := Op.extract (Operand.tmp 31) 1, type := 4, pos := "ref.go:137", after := #[{ on := 10, ground := Ground.data }, { on := 13, ground := Ground.gcOnly Departure.lateStores }], guard := none }) (v := ?vre16r6o12) rfl (by kernel_rfl) (by kernel_rfl) (by kernel_rfl) (fun _ _ _ h => h) (Or.inl ⟨by rfl, ?hre16r6o12⟩) hS ?_
      case hre16r6o12 => (intro wx hx; skip; go_simp; (try with_reducible rfl))
      try simp only [Act.put, List.setIfInBounds_toArray, List.set_cons_zero, List.set_cons_succ]
      refine wpAnyH_take (i := 13) (oi := { dst := some 5, op := Op.assign (Operand.tmp 42), type := 43, pos := "ref.go:137", after := #[{ on := 11, ground := Ground.data }, { on := 9, ground := Ground.chain }, { on := 0, ground := Ground.phase }, { on := 1, ground := Ground.phase }, { on := 2, ground := Ground.phase }, { on := 3, ground := Ground.phase }, { on := 4, ground := Ground.phase }, { on := 5, ground := Ground.phase }, { on := 6, ground := Ground.phase }, { on := 7, ground := Ground.phase }, { on := 8, ground := Ground.phase }, { on := 9, ground := Ground.phase }, { on := 10, ground := Ground.phase }, { on := 11, ground := Ground.phase }, { on := 12, ground := Ground.textOnly Departure.lateStores }], guard := none }) (v := ?vre16r6o13) rfl (by kernel_rfl) (by kernel_rfl) (by kernel_rfl) (fun _ _ _ h => h) (Or.inl ⟨by rfl, ?hre16r6o13⟩) hS ?_
      case hre16r6o13 => (intro wx hx; skip; go_simp; (try with_reducible rfl))
      try simp only [Act.put, List.setIfInBounds_toArray, List.set_cons_zero, List.set_cons_succ]
      refine wpAnyH_take (i := 14) (oi := { dst := some 6, op := Op.assign (Operand.tmp 43), type := 4, pos := "ref.go:137", after := #[{ on := 12, ground := Ground.data }, { on := 13, ground := Ground.chain }, { on := 0, ground := Ground.phase }, { on := 1, ground := Ground.phase }, { on := 2, ground := Ground.phase }, { on := 3, ground := Ground.phase }, { on := 4, ground := Ground.phase }, { on := 5, ground := Ground.phase }, { on := 6, ground := Ground.phase }, { on := 7, ground := Ground.phase }, { on := 8, ground := Ground.phase }, { on := 9, ground := Ground.phase }, { on := 10, ground := Ground.phase }, { on := 11, ground := Ground.phase }, { on := 12, ground := Ground.phase }, { on := 13, ground := Ground.phase }], guard := none }) (v := ?vre16r6o14) rfl (by kernel_rfl) (by kernel_rfl) (by kernel_rfl) (fun _ _ _ h => h) (Or.inl ⟨by rfl, ?hre16r6o14⟩) hS ?_
      case hre16r6o14 => (intro wx hx; skip; go_simp; (try with_reducible rfl))
      try simp only [Act.put, List.setIfInBounds_toArray, List.set_cons_zero, List.set_cons_succ]
      refine wpAnyH_done (by kernel_rfl) ?_ _
      clear hS HCl HCm1 hzq HK
      go_wp2_with fail
      refine HCl2.out.mono ?_
      rintro e v3 ⟨g3, m3, cp3, rfl, hm3, hO3⟩
      have hO4 := Own.join hO2.out.less hO3
      obtain ⟨_, _, _, _, _, ⟨ad5, cp5, c5⟩, f5⟩ := ref_cells hO4.less j (List.getElem?_set_self hjl)
      have hO5 := ref_put hO4 j (List.getElem?_set_self hjl) hm3
      rw [List.set_set, Hgo.out] at hO5
      have hO5 := Lib.hid hO5
      clear HCl2 hO3 hO4 hO2 hOr2 hq2 hm3
      go_wp2_with fail
      go_ret2
      rw [Hb.out]
      exact ⟨rfl, hO5.out⟩
end Go.Proofs.YtpdofdloclmbdaaGreat
end
