/- CommitCounts, walked. -/
import Derived.Test.YtpdofdloclmbdaaPk26
import Derived.Test.YtpdofdloclmbdaaPk25
import Derived.Test.YtpdofdloclmbdaaWorks
import Derived.Deep.DeepCutAuto
import Derived.BigQuiet
import Derived.Deep.QuietTactic
namespace Go.Proofs.Ytpdofdloclmbdaa.commitCounts
open Go.RowKit Go.Grommet
set_option linter.unusedVariables false

set_option maxRecDepth 100000 in
set_option maxHeartbeats 1000000 in
theorem walk_far (a0 a1 : Int) (td : Option Addr) (tl tc : Nat) (w : World) (h : 40 < tl) :
    Calls Try.prog 3 #[.int .u8 a0, .int .u8 a1, .slice td tl tc] w (Go.Ev.WorksIs w) := by
  have HW := Lib.hid (works_ev w)
  have g1 : (40 : Int) < (tl : Int) := by omega
  go_enter Try.func3, Try.ntmps3
  go_wp2_with fail
  refine HW.out.mono ?_
  rintro e w5 ⟨rfl, hg⟩
  go_wp2
  go_ret
  exact ⟨rfl, hg⟩

theorem own_store_box {w0 w : World} {Ps : List Pr} (h : Grommet.Own w0 w Ps) (k : Nat) {X : Nat} {T : TypeId} {cs : Array Value} (hk : Ps[k]? = some (boxP X T cs)) (o : Nat) (u : Value) : Grommet.Own w0 (w.setCell ⟨X, o, none⟩ u) (Ps.set k (boxP X T (cs.setIfInBounds o u))) := by
  obtain ⟨F, h1, h2⟩ := h.take k hk
  exact h2 _ _ ⟨F, ⟨heap_setCell_at h1.1 u, h1.2.1, fun i hi => Nat.lt_of_lt_of_le (h1.2.2 i hi) (by simp [World.setCell])⟩, fun i hi => .inl hi, Turn.of (grown_setCell _ _ _) (fun i e => by cases e; exact h1.2.1)⟩
/-- An array of seven counts. -/
def sevC (f : Nat → Nat) : Array Value := ((List.range 7).map fun q => Value.int .i64 (f q : Int)).toArray
theorem sevC_get (f : Nat → Nat) (q : Nat) (h : q < 7) : (sevC f)[q]? = some (.int .i64 (f q : Int)) := by
  unfold sevC
  rw [List.getElem?_toArray, List.getElem?_map, List.getElem?_range h]; rfl
theorem sevC_set (f : Nat → Nat) (q v : Nat) : (sevC f).setIfInBounds q (.int .i64 (v : Int)) = sevC (fun i => if i = q then v else f i) := by
  unfold sevC
  apply Array.ext_getElem?
  intro i
  rw [Array.getElem?_setIfInBounds]
  simp only [List.getElem?_toArray, List.getElem?_map, List.size_toArray, List.length_map, List.length_range]
  by_cases h7 : i < 7
  · rw [List.getElem?_range h7]
    by_cases e : q = i
    · subst e; simp [h7]
    · rw [if_neg e]; simp [Ne.symm e]
  · rw [List.getElem?_eq_none (by simpa using h7)]
    by_cases e : q = i
    · subst e; simp [h7]
    · rw [if_neg e]; rfl
/-- What is told of so many steps. -/
def tol (P : List Nat) (t q : Nat) : Nat := (P.take t).count q
theorem tol_succ {P : List Nat} {t p : Nat} (h : P[t]? = some p) : (fun i => if i = p then tol P t p + 1 else tol P t i) = tol P (t + 1) := by
  funext i
  unfold tol
  rw [take_snocN h, List.count_append]
  by_cases e : i = p
  · subst e; simp
  · rw [if_neg e, List.count_singleton, if_neg (by simp; exact fun e' => e e'.symm)]; rfl
/-- The phase of the step before. -/
def lasP (P : List Nat) (t : Nat) : Nat := if t = 0 then 0 else P.getD (t - 1) 0
theorem las_le {P : List Nat} (h : P.Pairwise (· ≤ ·)) {t p : Nat} (hp : P[t]? = some p) : lasP P t ≤ p := by
  unfold lasP
  by_cases h0 : t = 0
  · rw [if_pos h0]; exact Nat.zero_le _
  · rw [if_neg h0]
    obtain ⟨ht, e⟩ := List.getElem?_eq_some_iff.1 hp
    have := (List.pairwise_iff_getElem.1 h) (t - 1) t (by omega) ht (by omega)
    rw [e] at this
    rw [List.getD_eq_getElem?_getD, List.getElem?_eq_getElem (by omega)]
    exact this
theorem las_succ {P : List Nat} {t p : Nat} (hp : P[t]? = some p) : lasP P (t + 1) = p := by
  unfold lasP
  rw [if_neg (by omega), Nat.add_sub_cancel, List.getD_eq_getElem?_getD, hp]; rfl
def inL (W : List (Int × Nat)) (x k : Nat) : Bool := (W.take k).any (fun p => p.1.toNat / 8 == x)
def cntL (W : List (Int × Nat)) (j : Nat) : Nat := ((List.range j).filter (fun x => inL W x W.length)).length
theorem cntL_succ (W : List (Int × Nat)) (j : Nat) : cntL W (j + 1) = cntL W j + (if inL W j W.length = true then 1 else 0) := by
  unfold cntL
  rw [List.range_succ, List.filter_append, List.length_append]
  congr 1
  by_cases h : inL W j W.length = true
  · rw [if_pos h]; simp [h]
  · rw [if_neg h]; simp [h]
theorem cntL_lines (W : List (Int × Nat)) (M : Nat) : (linesOf M ((wrQ W).map (·.1))).length = cntL W M := by
  unfold linesOf cntL inL wrQ
  congr 2
  funext x
  rw [List.take_length, List.map_map, List.any_map]
  rfl
theorem cntL_le (W : List (Int × Nat)) (j : Nat) : cntL W j ≤ j := by
  have := List.length_filter_le (fun x => inL W x W.length) (List.range j)
  simpa [cntL] using this
def sumTo (l : List Nat) (j : Nat) : Nat := (l.take j).sum
theorem sumTo_succ {l : List Nat} {j x : Nat} (h : l[j]? = some x) : sumTo l (j + 1) = sumTo l j + x := by
  unfold sumTo; rw [take_snocN h, List.sum_append]; simp
theorem sumTo_le (l : List Nat) (j : Nat) : sumTo l j ≤ l.sum := by
  unfold sumTo
  have := List.sum_append (l₁ := l.take j) (l₂ := l.drop j)
  rw [List.take_append_drop] at this
  omega
theorem geo2 {w0 w : World} {Ps : List Pr} {k G : Nat} {a : Nat} (h : Grommet.Own w0 w Ps) (hk : Ps[k]? = some (boxP G 25 #[.int .i64 (a : Int), .int .i64 2, .int .i64 10])) : w.cell? ⟨G, 0, none⟩ = some (.int .i64 (a : Int)) ∧ w.cell? ⟨G, 1, none⟩ = some (.int .i64 2) ∧ w.cell? ⟨G, 2, none⟩ = some (.int .i64 10) := GeoQ.cells (show GeoQ G (a : Int) 2 10 w from h.box k hk)

set_option maxRecDepth 100000 in
set_option maxHeartbeats 8000000 in
theorem walk_at (x0 x1 : Nat) (td : Option Addr) (tl tc : Nat) (T : List Cpt) (w : World) (h0 : x0 ≤ 255) (h1 : x1 ≤ 255) (htl : tl ≤ 40) (hT : CptsIn w td tl T) :
    Calls Try.prog 3 #[.int .u8 (x0 : Int), .int .u8 (x1 : Int), .slice td tl tc] w (Go.Ev.WorksIs w) := by
  have g1 : ¬ (40 : Int) < (tl : Int) := by omega
  have HT := Lib.hid hT
  obtain ⟨m4, hm4⟩ : ∃ m, x0 % 4 = m := ⟨_, rfl⟩
  obtain ⟨a, ha⟩ : ∃ a, 1 + m4 = a := ⟨_, rfl⟩
  have e1 : (x0 : Int) % 4 = (m4 : Int) := by omega
  have e2 : Int.tmod (x0 : Int) 4 = (m4 : Int) := by rw [Int.tmod_eq_emod_of_nonneg (by omega)]; exact e1
  have e3 : IntKind.i64.wrap (x0 : Int) = (x0 : Int) := IntWalk.i64_in _ ⟨by omega, by omega⟩
  have e4 : IntKind.i64.wrap (m4 : Int) = (m4 : Int) := IntWalk.i64_in _ ⟨by omega, by omega⟩
  have e5 : IntKind.i64.wrap (1 + (m4 : Int)) = (a : Int) := by rw [IntWalk.i64_in _ ⟨by omega, by omega⟩]; omega
  have e6 : 1 + (m4 : Int) = (a : Int) := by omega
  have ha1 : 1 ≤ a ∧ a ≤ 4 := by omega
  have hmay : mayB (a : Int) ((2 : Nat) : Int) ((10 : Nat) : Int) = true := by unfold mayB; simp; omega
  obtain ⟨N, hN⟩ : ∃ N, 280 + 208 * a + 16 * 2 + 8 * 10 = N := ⟨_, rfl⟩
  obtain ⟨M, hM⟩ : ∃ M, N / 8 = M := ⟨_, rfl⟩
  have hNM : N = 8 * M := by omega
  obtain ⟨k, hk⟩ : ∃ k, x1 % a = k := ⟨_, rfl⟩
  have hka : k < a := by rw [← hk]; exact Nat.mod_lt _ (by omega)
  have f1 : (x1 : Int) % (a : Int) = (k : Int) := by omega
  have f2 : Int.tmod (x1 : Int) (a : Int) = (k : Int) := by rw [Int.tmod_eq_emod_of_nonneg (by omega)]; exact f1
  have f3 : IntKind.i64.wrap (x1 : Int) = (x1 : Int) := IntWalk.i64_in _ ⟨by omega, by omega⟩
  have f4 : IntKind.i64.wrap (k : Int) = (k : Int) := IntWalk.i64_in _ ⟨by omega, by omega⟩
  have az : ¬ (a : Int) = 0 := by omega
  have azn : ¬ a = 0 := by omega
  have azb : ((a : Int) == 0) = false := by rw [beq_eq_false_iff_ne]; omega
  obtain ⟨A, hA⟩ : ∃ A, 264 + 208 * k = A := ⟨_, rfl⟩
  obtain ⟨B, hB⟩ : ∃ B, 280 + 208 * a + 32 + 8 * (1 + 2 * k) = B := ⟨_, rfl⟩
  have hxl := length_fmtL a 2 10 (264 + 208 * a) (280 + 208 * a + 16 * 2 + 8 * 10)
  have hxs := fmtL_lt a 2 10 (264 + 208 * a) (280 + 208 * a + 16 * 2 + 8 * 10) (by omega) (by omega) (by omega)
  rw [hN] at hxl hxs
  obtain ⟨xs, hx0⟩ : ∃ xs, fmtL a 2 10 (264 + 208 * a) N = xs := ⟨_, rfl⟩
  rw [hx0] at hxl hxs
  have HF := Lib.hid (fun wx Ps hO => FormatH a 2 10 N xs w wx Ps hO hmay (by omega) hx0)
  have HD := Lib.hid (fun wx m ad cap Ps hO hm => deviceH m ad N cap xs w wx Ps hO hm hxl hxs (by omega) (by omega) (by omega))
  have HNw := Lib.hid (fun wx j d ws Ps hO hj (hl : ws.length = N) => RNewH j d a 2 10 k A ws w wx Ps hO hj (by unfold areaV; rw [if_pos ⟨hmay, by omega, by omega⟩]; omega) (by rw [hl, words_pos hmay]; omega))
  have HWr := Lib.hid (fun wx Ps hO => writesH a 2 10 k B td tl tc T w wx Ps hO hT htl (by unfold blockV; rw [if_pos ⟨hmay, by omega, by omega⟩]; omega) (by omega) (by omega))
  have HWd := Lib.hid (fun wx => Words_any (a : Int) ((2 : Nat) : Int) ((10 : Nat) : Int) wx)
  rw [show wordsV (a : Int) ((2 : Nat) : Int) ((10 : Nat) : Int) = (N : Int) from by rw [words_pos hmay]; omega] at HWd
  have HA8 : Hid (A % 8 = 0 ∧ A + 208 ≤ 264 + 208 * a ∧ 280 + 208 * a + 32 ≤ B ∧ B + 16 ≤ N ∧ N = 8 * M ∧ N ≤ 2000 ∧ N = 392 + 208 * a) := Lib.hid ⟨by omega, by omega, by omega, by omega, hNM, by omega, by omega⟩
  have Hmay := Lib.hid hmay
  have w8a : Int.tdiv (N : Int) 8 = (M : Int) := by rw [Int.tdiv_eq_ediv_of_nonneg (by omega)]; omega
  have w8b : (N : Int) / 8 = (M : Int) := by omega
  have w8c : IntKind.i64.wrap (M : Int) = (M : Int) := IntWalk.i64_in _ ⟨by omega, by omega⟩
  have hM1 : M ≤ 300 := by omega
  rw [show ((2 : Nat) : Int) = 2 from rfl, show ((10 : Nat) : Int) = 10 from rfl] at HF HNw HWr HWd
  unfold gv at HNw HWr HWd
  unfold DevAns at HD
  unfold ptr at HD HNw
  have Hxl := Lib.hid hxl
  clear hT hm4 ha hmay hN hM hNM hk hA hB hxl hxs hx0
  go_enter Try.func3, Try.ntmps3
  obtain ⟨u1, hu1⟩ : ∃ u, w.alloc (.cells #[.int .i64 (a : Int), .int .i64 2, .int .i64 10] 25) = u := ⟨_, rfl⟩
  obtain ⟨G, hG⟩ : ∃ G, w.heap.size = G := ⟨_, rfl⟩
  have hO1 : Grommet.Own w u1 [boxP G 25 #[.int .i64 (a : Int), .int .i64 2, .int .i64 10]] := by rw [← hu1, ← hG]; exact (Own.nil w).addBox _ _
  obtain ⟨c0, c1, c2⟩ := geo2 hO1 (k := 0) rfl
  have hO1 := Lib.hid hO1
  go_wp2_with fail
  refine (HF.out u1 _ hO1.out).mono ?_
  rintro e u2 ⟨q, rfl, hO2⟩
  have HD2 := Lib.hid (HD.out u2 1 (some ⟨q, 0, none⟩) N _ hO2 rfl)
  clear hu1 hG hO1 c0 c1 c2 HF HD hO2
  go_wp2_with fail
  refine HD2.out.mono ?_
  rintro e u3 ⟨d, r, rfl, hO3⟩
  have hO3 : Grommet.Own w u3 [boxP G 25 #[.int .i64 (a : Int), .int .i64 2, .int .i64 10], rowP 39 1 (.slice (some ⟨q, 0, none⟩) N N) N (xs.map wv), devP d (cleanL xs)] := hO3
  have HN3 := Lib.hid (HNw.out u3 2 d _ _ hO3 rfl (by rw [cleanL_len]; exact Hxl.out))
  obtain ⟨c0, c1, c2⟩ := geo2 hO3 (k := 0) rfl
  clear HD2 HNw hO3
  go_wp2_with fail
  refine HN3.out.mono ?_
  rintro e u4 ⟨R, rfl, hO4⟩
  have hO4 : Grommet.Own w u4 [boxP G 25 #[.int .i64 (a : Int), .int .i64 2, .int .i64 10], rowP 39 1 (.slice (some ⟨q, 0, none⟩) N N) N (xs.map wv), devP d (cleanL xs), runP R d (a : Int) 2 10 A [] [] []] := hO4
  have HW4 := Lib.hid (HWr.out u4 _ hO4)
  clear c0 c1 c2 HN3 HWr
  obtain ⟨c0, c1, c2⟩ := geo2 hO4 (k := 0) rfl
  clear hO4
  go_wp2_with fail
  refine HW4.out.mono ?_
  rintro e u5 ⟨W, n, ad, cap, rfl, hWl, hnt, hGW, hO5⟩
  have hO5 : Hid (Grommet.Own w u5 [boxP G 25 #[.int .i64 (a : Int), .int .i64 2, .int .i64 10], rowP 39 1 (.slice (some ⟨q, 0, none⟩) N N) N (xs.map wv), devP d (cleanL xs), runP R d (a : Int) 2 10 A [] [] [], rowP 41 2 (.slice ad n cap) n (icells W)]) := Lib.hid hO5
  have HWl := Lib.hid hWl
  have HGW := Lib.hid hGW
  obtain ⟨n2, hn2⟩ : ∃ x, 2 * n = x := ⟨_, rfl⟩
  obtain ⟨Z, hZ⟩ : ∃ x, 2 + 2 * n = x := ⟨_, rfl⟩
  have wn2 : IntKind.i64.wrap (2 * (n : Int)) = (n2 : Int) := by rw [IntWalk.i64_in _ ⟨by omega, by omega⟩]; omega
  have wn2' : 2 * (n : Int) = (n2 : Int) := by omega
  have wZ : IntKind.i64.wrap (2 + (n2 : Int)) = (Z : Int) := by rw [IntWalk.i64_in _ ⟨by omega, by omega⟩]; omega
  have wZ' : 2 + (n2 : Int) = (Z : Int) := by omega
  have HZ : Hid (Z = 2 + 2 * n ∧ n ≤ 40) := Lib.hid ⟨hZ.symm, by omega⟩
  have hZ1 : Z ≤ 100 := by omega
  have hn40 : n ≤ 40 := by omega
  clear c0 c1 c2 HW4 hWl hGW hnt hn2 hZ
  go_wp2_with fail
  go_loopw [16, 17, 18, 19] (fun cv iv _ _ wr => ∃ j : Nat, j ≤ M ∧ iv = .int .i64 (j : Int) ∧ cv = .int .i64 (cntL W j : Int) ∧ Hid (Grommet.Own w wr [boxP G 25 #[.int .i64 (a : Int), .int .i64 2, .int .i64 10], rowP 39 1 (.slice (some ⟨q, 0, none⟩) N N) N (xs.map wv), devP d (cleanL xs), runP R d (a : Int) 2 10 A [] [] [], rowP 41 2 (.slice ad n cap) n (icells W)])) (fun _ iv _ _ _ => M - (intOf iv).toNat)
  case atStart => exact ⟨0, Nat.zero_le _, rfl, rfl, hO5⟩
  case round =>
    clear hO5 wn2 wn2' wZ wZ'
    obtain ⟨j, hj, rfl, rfl, hO⟩ := hrel
    have j0 : (0 : Int) ≤ (j : Int) := by omega
    obtain ⟨c0, c1, c2⟩ := geo2 hO.out (k := 0) rfl
    go_wp2_with fail
    refine (HWd.out _).mono ?_
    rintro e u6 ⟨rfl, hg6⟩
    have hO6 := Lib.hid (hO.out.quiet hg6)
    clear hg6 hO c0 c1 c2
    by_cases hlt : j < M
    · as_aux_lemma =>
      have hlt' : (j : Int) < (M : Int) := by omega
      have wj : IntKind.i64.wrap ((j : Int) + 1) = (j : Int) + 1 := IntWalk.i64_in _ ⟨by omega, by omega⟩
      go_wp2_with fail
      go_loopw [18, 19] (fun bv iv wr => ∃ m : Nat, m ≤ n ∧ iv = .int .i64 (m : Int) ∧ bv = .bool (inL W j m) ∧ Hid (Grommet.Own w wr [boxP G 25 #[.int .i64 (a : Int), .int .i64 2, .int .i64 10], rowP 39 1 (.slice (some ⟨q, 0, none⟩) N N) N (xs.map wv), devP d (cleanL xs), runP R d (a : Int) 2 10 A [] [] [], rowP 41 2 (.slice ad n cap) n (icells W)])) (fun _ iv _ => n - (intOf iv).toNat)
      case atStart => exact ⟨0, Nat.zero_le _, rfl, rfl, hO6⟩
      case round =>
        clear hO6
        obtain ⟨m, hm, rfl, rfl, hO⟩ := hrel
        have m0 : (0 : Int) ≤ (m : Int) := by omega
        by_cases hlm : m < n
        · as_aux_lemma =>
          have hlm' : (m : Int) < (n : Int) := by omega
          have wm : IntKind.i64.wrap ((m : Int) + 1) = (m : Int) + 1 := IntWalk.i64_in _ ⟨by omega, by omega⟩
          obtain ⟨hat, _, _, _⟩ := Own.pairs hO.out 4 rfl
          obtain ⟨qq, o, rfl, c1, _⟩ := at_ipair hat m (by rw [HWl.out]; exact hlm)
          have hmem : W.getD m (0, 0) ∈ W := getD_mem W m (0, 0) (by rw [HWl.out]; exact hlm)
          obtain ⟨s, hs, hp⟩ := HGW.out.at_ _ hmem
          have hsn : inL W j (m + 1) = (inL W j m || ((W.getD m (0, 0)).1.toNat / 8 == j)) := by
            unfold inL
            rw [take_snocD W m (0, 0) (by rw [HWl.out]; exact hlm), List.any_append]
            simp
          rw [hp] at c1 hsn
          obtain ⟨P, hP⟩ : ∃ P, B + s = P := ⟨_, rfl⟩
          rw [hP] at c1 hsn
          have hP2 : P ≤ 2000 := by have := HA8.out; omega
          obtain ⟨Q, hQ⟩ : ∃ Q, P / 8 = Q := ⟨_, rfl⟩
          have d1 : Int.tdiv (P : Int) 8 = (Q : Int) := by rw [Int.tdiv_eq_ediv_of_nonneg (by omega)]; omega
          have d2 : (P : Int) / 8 = (Q : Int) := by omega
          have d3 : IntKind.i64.wrap (Q : Int) = (Q : Int) := IntWalk.i64_in _ ⟨by omega, by omega⟩
          obtain ⟨f, hf⟩ : ∃ f, ((Q : Int) == (j : Int)) = f := ⟨_, rfl⟩
          have hf2 : (Q == j) = f := by
            rw [← hf, Bool.eq_iff_iff]
            simp
            omega
          rw [Int.toNat_natCast, hQ, hf2] at hsn
          have hOE := Lib.hid (fun nq => hO.out.quiet (grown_drewN _ nq none))
          clear hO hat hmem hs hp hP hP2 hQ hf2
          cases hb : inL W j m with
          | true =>
            rw [hb] at hsn
            have Hsn : Hid (inL W j (m + 1) = true) := Lib.hid (by rw [hsn]; rfl)
            clear hb hsn
            go_wp2
            go_roundw
            case rel => exact ⟨m + 1, by omega, by go_num, by rw [Hsn.out], by first | exact hOE.out 0 | exact Lib.hid (hOE.out _) | exact Lib.hid (hOE.out 0)⟩
            case measure => simp [intOf]; omega
          | false =>
            rw [hb] at hsn
            have Hsn : Hid (inL W j (m + 1) = f) := Lib.hid (by rw [hsn]; simp)
            clear hb hsn
            go_wp2
            go_roundw
            case rel => exact ⟨m + 1, by omega, by go_num, by rw [Hsn.out], by first | exact hOE.out 0 | exact Lib.hid (hOE.out _) | exact Lib.hid (hOE.out 0)⟩
            case measure => simp [intOf]; omega
        · as_aux_lemma =>
          obtain rfl : n = m := by omega
          have hlm' : ¬ (n : Int) < (n : Int) := by omega
          have hcs := cntL_succ W j
          have hcl := cntL_le W j
          rw [HWl.out] at hcs
          obtain ⟨C, hC⟩ : ∃ C, cntL W j = C := ⟨_, rfl⟩
          rw [hC] at hcs hcl
          have wC : IntKind.i64.wrap ((C : Int) + 1) = (C : Int) + 1 := IntWalk.i64_in _ ⟨by omega, by omega⟩
          cases hb : inL W j n with
          | true =>
            rw [hb, if_pos rfl] at hcs
            have Hcs := Lib.hid hcs
            clear hb hcs hcl
            rw [hC]
            go_wp2
            go_roundw
            case rel => exact ⟨j + 1, by omega, by go_num, by rw [Hcs.out]; go_num, hO⟩
            case measure => simp [intOf]; omega
          | false =>
            rw [hb, if_neg (by decide)] at hcs
            have Hcs := Lib.hid hcs
            clear hb hcs hcl
            rw [hC]
            go_wp2
            go_roundw
            case rel => exact ⟨j + 1, by omega, by go_num, by rw [Hcs.out]; go_num, hO⟩
            case measure => simp [intOf]; omega
    · obtain rfl : M = j := by omega
      have hlt' : ¬ (M : Int) < (M : Int) := by omega
      have HLn := Lib.hid (cntL_lines W M)
      have hLM := cntL_le W M
      obtain ⟨C, hC⟩ : ∃ C, cntL W M = C := ⟨_, rfl⟩
      rw [hC] at HLn hLM ⊢
      clear hC
      obtain ⟨Z7, hZ7⟩ : ∃ x, Z + 7 = x := ⟨_, rfl⟩
      obtain ⟨S2, hS2⟩ : ∃ x, Z7 / 8 = x := ⟨_, rfl⟩
      obtain ⟨S3, hS3⟩ : ∃ x, S2 + 1 = x := ⟨_, rfl⟩
      obtain ⟨C1, hC1⟩ : ∃ x, C + 1 = x := ⟨_, rfl⟩
      have wZ7 : IntKind.i64.wrap ((Z : Int) + 7) = (Z7 : Int) := by rw [IntWalk.i64_in _ ⟨by omega, by omega⟩]; omega
      have wZ7' : (Z : Int) + 7 = (Z7 : Int) := by omega
      have wS2 : Int.tdiv (Z7 : Int) 8 = (S2 : Int) := by rw [Int.tdiv_eq_ediv_of_nonneg (by omega)]; omega
      have wS2' : (Z7 : Int) / 8 = (S2 : Int) := by omega
      have wS2w : IntKind.i64.wrap (S2 : Int) = (S2 : Int) := IntWalk.i64_in _ ⟨by omega, by omega⟩
      have wS3 : IntKind.i64.wrap ((S2 : Int) + 1) = (S3 : Int) := by rw [IntWalk.i64_in _ ⟨by omega, by omega⟩]; omega
      have wS3' : (S2 : Int) + 1 = (S3 : Int) := by omega
      have wC1 : IntKind.i64.wrap ((C : Int) + 1) = (C1 : Int) := by rw [IntWalk.i64_in _ ⟨by omega, by omega⟩]; omega
      have wC1' : (C : Int) + 1 = (C1 : Int) := by omega
      have wC1w : IntKind.i64.wrap (C1 : Int) = (C1 : Int) := IntWalk.i64_in _ ⟨by omega, by omega⟩
      obtain ⟨wl, hwl⟩ : ∃ wl, wantL n C = wl := ⟨_, rfl⟩
      have hwl2 : wl = [0, Z, S3, 3, n, C1, 3] := by rw [← hwl]; unfold wantL; rw [← HZ.out.1, ← hC1, ← hS3, ← hS2, ← hZ7]
      have hlen7 : wl.length = 7 := by rw [hwl2]; rfl
      have hsm7 : wl.sum = Z + S3 + 3 + n + C1 + 3 := by rw [hwl2]; simp; omega
      have Hlen7 := Lib.hid hlen7
      obtain ⟨Sb, hSb⟩ : ∃ S, beginS M A W = S := ⟨_, rfl⟩
      have hph := phs_begin M A W n C HWl.out HLn.out HA8.out.1 (by have := HA8.out; have := HZ.out; omega)
      rw [hSb] at hph
      have htot := phs_len hph
      rw [hwl, hsm7] at htot
      obtain ⟨tot, ht⟩ : ∃ t, (phs Sb).length = t := ⟨_, rfl⟩
      have hSl : Sb.length = tot := by rw [← ht]; unfold phs; rw [List.length_map]
      rw [ht] at htot
      have Htot : Hid (wl.sum = tot) := Lib.hid (by rw [hsm7, htot])
      have HSl := Lib.hid hSl
      have htot1 : tot ≤ 1000 := by omega
      have htot0 : 1 ≤ tot := by omega
      have Hcnt := Lib.hid (fun q (hq : q < 7) => by
        have := phs_count hph q hq
        rw [hwl] at this
        exact this)
      have Hris := Lib.hid (phs_rising hph)
      obtain ⟨ws0, hws0⟩ : ∃ ws, cleanL xs = ws := ⟨_, rfl⟩
      have Hws0 : Hid (ws0.length = N) := Lib.hid (by rw [← hws0, cleanL_len]; exact Hxl.out)
      rw [hws0] at hO6
      have Hok : Hid (∀ s ∈ Sb, s.2.ok N) := Lib.hid (by
        rw [← hSb]
        refine ok_begin M A N W (by have := HA8.out; omega) (by rw [recR_length, HWl.out]; have := HA8.out; have := HZ.out; omega) (recR_small (fun p hp => ?_) (by rw [HWl.out]; have := HZ.out; omega)) (fun p hp => ?_) (markV_lt _)
        · obtain ⟨s, hs, e⟩ := HGW.out.at_ p hp
          have := HA8.out
          exact ⟨by omega, HGW.out.val p hp⟩
        · obtain ⟨s, hs, e⟩ := HGW.out.at_ p hp
          have := HA8.out
          exact ⟨by omega, HGW.out.val p hp⟩)
      have HBg := Lib.hid (fun wx V (hO : Grommet.Own w wx [boxP G 25 #[.int .i64 (a : Int), .int .i64 2, .int .i64 10], rowP 39 1 (.slice (some ⟨q, 0, none⟩) N N) N (xs.map wv), devP d ws0, runP R d (a : Int) 2 10 A [] [] [], rowP 41 2 (.slice ad n cap) n (icells W), boxP V 3 (sevC (fun q => wl.getD q 0))]) => BeginH 3 4 R d (a : Int) 2 10 A [] [] ad n cap W M w wx _ hO rfl rfl (by decide) HWl.out (good_may (a := a) (b := 2) (c := 10) HGW.out Hmay.out (by rw [HWl.out]; have := HZ.out; omega) (by have := HA8.out; omega) (by have := HA8.out; omega)) HGW.out.val (fun x hx => by
        obtain ⟨s, hs, e⟩ := HGW.out.at_ x hx
        have := HA8.out
        omega) (by have := HA8.out; have := HZ.out; omega) (by have := HA8.out; omega) (by omega))
      rw [hSb] at HBg
      have HLf := Lib.hid (fun wx V Bs Pn (hO : Grommet.Own w wx [boxP G 25 #[.int .i64 (a : Int), .int .i64 2, .int .i64 10], rowP 39 1 (.slice (some ⟨q, 0, none⟩) N N) N (xs.map wv), devP d ws0, runP R d (a : Int) 2 10 A Bs Pn Sb, rowP 41 2 (.slice ad n cap) n (icells W), boxP V 3 (sevC (fun q => wl.getD q 0))]) => LeftH 3 R d (a : Int) 2 10 A Bs Pn Sb w wx _ hO rfl)
      rw [hSl] at HLf
      have HV : ∀ wx, Grommet.Own w wx [boxP G 25 #[.int .i64 (a : Int), .int .i64 2, .int .i64 10], rowP 39 1 (.slice (some ⟨q, 0, none⟩) N N) N (xs.map wv), devP d ws0, runP R d (a : Int) 2 10 A [] [] [], rowP 41 2 (.slice ad n cap) n (icells W)] → Grommet.Own w (wx.alloc (.cells #[.int .i64 0, .int .i64 (Z : Int), .int .i64 (S3 : Int), .int .i64 3, .int .i64 (n : Int), .int .i64 (C1 : Int), .int .i64 3] 3)) [boxP G 25 #[.int .i64 (a : Int), .int .i64 2, .int .i64 10], rowP 39 1 (.slice (some ⟨q, 0, none⟩) N N) N (xs.map wv), devP d ws0, runP R d (a : Int) 2 10 A [] [] [], rowP 41 2 (.slice ad n cap) n (icells W), boxP wx.heap.size 3 (sevC (fun q => wl.getD q 0))] := by
        intro wx hO
        have := hO.addBox 3 #[.int .i64 0, .int .i64 (Z : Int), .int .i64 (S3 : Int), .int .i64 3, .int .i64 (n : Int), .int .i64 (C1 : Int), .int .i64 3]
        rw [show #[Value.int .i64 0, .int .i64 (Z : Int), .int .i64 (S3 : Int), .int .i64 3, .int .i64 (n : Int), .int .i64 (C1 : Int), .int .i64 3] = sevC (fun q => wl.getD q 0) from by rw [hwl2]; rfl] at this ⊢
        exact this
      have hOV := HV u6 hO6.out
      obtain ⟨V, hV⟩ : ∃ V, u6.heap.size = V := ⟨_, rfl⟩
      obtain ⟨u7, hu7⟩ : ∃ u, u6.alloc (.cells #[.int .i64 0, .int .i64 (Z : Int), .int .i64 (S3 : Int), .int .i64 3, .int .i64 (n : Int), .int .i64 (C1 : Int), .int .i64 3] 3) = u := ⟨_, rfl⟩
      rw [hV, hu7] at hOV
      have hOV := Lib.hid hOV
      unfold ptr at HBg HLf
      clear hO6 HV hwl hwl2 hlen7 hsm7 hSb hph htot ht hSl hws0 HLn hLM hZ7 hS2 hS3 hC1 HWd HGW HWl Hmay HT Hxl
      go_wp2_with fail
      clear hu7 hV wZ7 wZ7' wS2 wS2' wS2w wS3 wS3' wC1 wC1' wC1w
      go_loopw [21, 22] (fun sv iv wr => ∃ j : Nat, j ≤ 7 ∧ iv = .int .i64 (j : Int) ∧ sv = .int .i64 (sumTo wl j : Int) ∧ Hid (Grommet.Own w wr [boxP G 25 #[.int .i64 (a : Int), .int .i64 2, .int .i64 10], rowP 39 1 (.slice (some ⟨q, 0, none⟩) N N) N (xs.map wv), devP d ws0, runP R d (a : Int) 2 10 A [] [] [], rowP 41 2 (.slice ad n cap) n (icells W), boxP V 3 (sevC (fun q => wl.getD q 0))])) (fun _ iv _ => 7 - (intOf iv).toNat)
      case atStart => exact ⟨0, by decide, rfl, by unfold sumTo; rfl, hOV⟩
      case round =>
        clear hOV
        obtain ⟨j, hj, rfl, rfl, hO⟩ := hrel
        have j0 : (0 : Int) ≤ (j : Int) := by omega
        by_cases hlt : j < 7
        · as_aux_lemma =>
          have hlt' : (j : Int) < 7 := by omega
          have wj : IntKind.i64.wrap ((j : Int) + 1) = (j : Int) + 1 := IntWalk.i64_in _ ⟨by omega, by omega⟩
          have hb := hO.out.box 5 rfl
          have c1 : wr.cell? ⟨V, j, none⟩ = some (.int .i64 (wl.getD j 0 : Int)) := by
            simp only [World.cell?, hb]
            simpa using sevC_get (fun q => wl.getD q 0) j hlt
          have hs1 : sumTo wl (j + 1) = sumTo wl j + wl.getD j 0 := by
            have h7 := Hlen7.out
            rw [sumTo_succ (x := wl.getD j 0) (by rw [List.getD_eq_getElem?_getD, List.getElem?_eq_getElem (by omega)]; rfl)]
          have hs2 := sumTo_le wl (j + 1)
          rw [Htot.out, hs1] at hs2
          obtain ⟨X, hX⟩ : ∃ X, wl.getD j 0 = X := ⟨_, rfl⟩
          obtain ⟨Y, hY⟩ : ∃ Y, sumTo wl j = Y := ⟨_, rfl⟩
          obtain ⟨Y2, hY2⟩ : ∃ Y, sumTo wl (j + 1) = Y := ⟨_, rfl⟩
          rw [hX] at c1 hs1 hs2
          rw [hY] at hs1 hs2 ⊢
          have HY2 : Hid (sumTo wl (j + 1) = Y2) := Lib.hid hY2
          rw [hY2] at hs1
          have wY : IntKind.i64.wrap ((Y : Int) + (X : Int)) = (Y2 : Int) := by rw [IntWalk.i64_in _ ⟨by omega, by omega⟩]; omega
          have wY' : (Y : Int) + (X : Int) = (Y2 : Int) := by omega
          have wYw : IntKind.i64.wrap (Y2 : Int) = (Y2 : Int) := IntWalk.i64_in _ ⟨by omega, by omega⟩
          clear hb hs1 hs2 hX hY hY2
          go_wp2
          go_roundw
          case rel => exact ⟨j + 1, by omega, by go_num, by rw [HY2.out], hO⟩
          case measure => simp [intOf]; omega
        · obtain rfl : j = 7 := by omega
          have hst : sumTo wl 7 = tot := by
            unfold sumTo
            rw [List.take_of_length_le (by rw [Hlen7.out]; exact Nat.le_refl _)]
            exact Htot.out
          rw [hst]
          have HB := Lib.hid (HBg.out wr V hO.out)
          have k0 : ((tot : Int) != (tot : Int)) = false := by simp
          clear hO HBg hst Hlen7 Htot
          go_wp2_with fail
          refine HB.out.mono ?_
          rintro e u8 ⟨rfl, Bs, Pn, hO8⟩
          have hO8 : Grommet.Own w u8 [boxP G 25 #[.int .i64 (a : Int), .int .i64 2, .int .i64 10], rowP 39 1 (.slice (some ⟨q, 0, none⟩) N N) N (xs.map wv), devP d ws0, runP R d (a : Int) 2 10 A Bs Pn Sb, rowP 41 2 (.slice ad n cap) n (icells W), boxP V 3 (sevC (fun q => wl.getD q 0))] := hO8
          have HL8 := Lib.hid (HLf.out u8 V Bs Pn hO8)
          have hO8 := Lib.hid hO8
          clear HB HLf
          go_wp2_with fail
          refine HL8.out.mono ?_
          rintro e u9 ⟨rfl, hu9⟩
          obtain rfl := hu9.symm
          clear HL8
          obtain ⟨P, hP⟩ : ∃ P, phs Sb = P := ⟨_, rfl⟩
          rw [hP] at Hris Hcnt
          have HP := Lib.hid hP
          have hO10 := hO8.out.addBox 45 #[.int .i64 0, .int .i64 0, .int .i64 0, .int .i64 0, .int .i64 0, .int .i64 0, .int .i64 0]
          rw [show #[Value.int .i64 0, .int .i64 0, .int .i64 0, .int .i64 0, .int .i64 0, .int .i64 0, .int .i64 0] = sevC (tol P 0) from by
            rw [show tol P 0 = fun _ => 0 from by funext q; simp [tol]]; rfl] at hO10
          obtain ⟨V2, hV2⟩ : ∃ V, u8.heap.size = V := ⟨_, rfl⟩
          obtain ⟨ub, hub⟩ : ∃ u, u8.alloc (.cells (sevC (tol P 0)) 45) = u := ⟨_, rfl⟩
          rw [hV2, hub] at hO10
          have hub2 : u8.alloc (.cells #[.int .i64 0, .int .i64 0, .int .i64 0, .int .i64 0, .int .i64 0, .int .i64 0, .int .i64 0] 45) = ub := by
            rw [← hub, show sevC (tol P 0) = #[Value.int .i64 0, .int .i64 0, .int .i64 0, .int .i64 0, .int .i64 0, .int .i64 0, .int .i64 0] from by
              rw [show tol P 0 = fun _ => 0 from by funext q; simp [tol]]; rfl]
          have hO10 : Hid (Grommet.Own w ub [boxP G 25 #[.int .i64 (a : Int), .int .i64 2, .int .i64 10], rowP 39 1 (.slice (some ⟨q, 0, none⟩) N N) N (xs.map wv), devP d ws0, runP R d (a : Int) 2 10 A Bs Pn (Sb.drop 0), rowP 41 2 (.slice ad n cap) n (icells W), boxP V 3 (sevC (fun q => wl.getD q 0)), boxP V2 45 (sevC (tol P 0))]) := Lib.hid hO10
          clear hO8 hub hP
          go_wp2_with fail
          have HPl : Hid (P.length = tot) := Lib.hid (by rw [← HP.out]; unfold phs; rw [List.length_map]; exact HSl.out)
          have hlas0 : lasP P 0 = 0 := rfl
          go_loopw [24, 25, 26, 27] (fun lv iv _ _ wr => ∃ (t : Nat) (Bs : List Nat) (Pn : List (Cl × Value)) (ws : List PW), t ≤ tot ∧ iv = .int .i64 ((tot - t : Nat) : Int) ∧ lv = .int .u8 (lasP P t : Int) ∧ Hid (ws.length = N) ∧ Hid (Grommet.Own w wr [boxP G 25 #[.int .i64 (a : Int), .int .i64 2, .int .i64 10], rowP 39 1 (.slice (some ⟨q, 0, none⟩) N N) N (xs.map wv), devP d ws, runP R d (a : Int) 2 10 A Bs Pn (Sb.drop t), rowP 41 2 (.slice ad n cap) n (icells W), boxP V 3 (sevC (fun q => wl.getD q 0)), boxP V2 45 (sevC (tol P t))])) (fun _ iv _ _ _ => (intOf iv).toNat)
          case atStart => exact ⟨0, Bs, Pn, ws0, Nat.zero_le _, rfl, rfl, Hws0, hO10⟩
          case round =>
            clear hO10 Hws0 hub2 hV2 hlas0
            obtain ⟨t, Bs1, Pn1, ws, htl, rfl, rfl, Hws, hO⟩ := hrel
            obtain ⟨r, hr⟩ : ∃ r, tot - t = r := ⟨_, rfl⟩
            rw [hr]
            have r0 : (0 : Int) ≤ (r : Int) := by omega
            by_cases hlt : 0 < r
            · as_aux_lemma =>
              have hlt' : (0 : Int) < (r : Int) := by omega
              have htS : t < Sb.length := by rw [HSl.out]; omega
              obtain ⟨s, hs⟩ : ∃ s, Sb[t]? = some s := ⟨_, List.getElem?_eq_getElem htS⟩
              have hdrop : Sb.drop t = s :: Sb.drop (t + 1) := by
                rw [List.drop_eq_getElem_cons htS]
                obtain ⟨_, e⟩ := List.getElem?_eq_some_iff.1 hs
                rw [e]
              obtain ⟨p, cl⟩ := s
              have hPt : P[t]? = some p := by rw [← HP.out]; unfold phs; rw [List.getElem?_map, hs]; rfl
              have hp16 := Hris.out.2 p (List.mem_of_getElem? hPt)
              have hle := las_le Hris.out.1 hPt
              have hls := las_succ hPt
              have hts := tol_succ hPt
              obtain ⟨l, hl⟩ : ∃ l, lasP P t = l := ⟨_, rfl⟩
              rw [hl] at hle ⊢
              have q1 : ¬ (p : Int) < (l : Int) := by omega
              have q2 : ¬ (p : Int) < 1 := by omega
              have q3 : ¬ (6 : Int) < (p : Int) := by omega
              obtain ⟨r1, hr1⟩ : ∃ r, tot - (t + 1) = r := ⟨_, rfl⟩
              have wr1 : IntKind.i64.wrap ((r : Int) - 1) = (r1 : Int) := by rw [IntWalk.i64_in _ ⟨by omega, by omega⟩]; omega
              have wr1' : (r : Int) - 1 = (r1 : Int) := by omega
              have wr1w : IntKind.i64.wrap (r1 : Int) = (r1 : Int) := IntWalk.i64_in _ ⟨by omega, by omega⟩
              have q4 : ((r1 : Int) != (r1 : Int)) = false := by simp
              have hO' := hO.out
              rw [hdrop] at hO'
              have HSt0 := StepH 3 2 R d (a : Int) 2 10 A Bs1 Pn1 p cl (Sb.drop (t + 1)) ws M w wr _ hO' rfl rfl (by decide) (by rw [Hws.out]; exact HA8.out.2.2.2.2.1) (by rw [Hws.out]; exact Hok.out _ (List.mem_of_getElem? hs))
              have HSt : Hid (Calls Try.prog 14 #[ptr R] wr fun e w' => e = .returned (.tuple #[.int .u8 (p : Int), .int .i64 0]) ∧ ∃ Pn', Grommet.Own w w' [boxP G 25 #[.int .i64 (a : Int), .int .i64 2, .int .i64 10], rowP 39 1 (.slice (some ⟨q, 0, none⟩) N N) N (xs.map wv), devP d (cl.does ws), runP R d (a : Int) 2 10 A Bs1 Pn' (Sb.drop (t + 1)), rowP 41 2 (.slice ad n cap) n (icells W), boxP V 3 (sevC (fun q => wl.getD q 0)), boxP V2 45 (sevC (tol P t))]) := Lib.hid (HSt0.mono (fun e w' h => h))
              have HLf2 := Lib.hid (fun wx Pn' (hO : Grommet.Own w wx [boxP G 25 #[.int .i64 (a : Int), .int .i64 2, .int .i64 10], rowP 39 1 (.slice (some ⟨q, 0, none⟩) N N) N (xs.map wv), devP d (cl.does ws), runP R d (a : Int) 2 10 A Bs1 Pn' (Sb.drop (t + 1)), rowP 41 2 (.slice ad n cap) n (icells W), boxP V 3 (sevC (fun q => wl.getD q 0)), boxP V2 45 (sevC (tol P t))]) => LeftH 3 R d (a : Int) 2 10 A Bs1 Pn' (Sb.drop (t + 1)) w wx _ hO rfl)
              rw [show (Sb.drop (t + 1)).length = r1 from by rw [List.length_drop, HSl.out, hr1]] at HLf2
              have Hws2 : Hid ((cl.does ws).length = N) := Lib.hid (by rw [Cl.does_len]; exact Hws.out)
              have hX7 : p < 7 := by omega
              obtain ⟨X, hX⟩ : ∃ X, tol P t p = X := ⟨_, rfl⟩
              have hXt : X ≤ 1000 := by
                rw [← hX]
                unfold tol
                have h1 := List.count_le_length (a := p) (l := P.take t)
                rw [List.length_take, HPl.out] at h1
                omega
              have wX : IntKind.i64.wrap ((X : Int) + 1) = (X : Int) + 1 := IntWalk.i64_in _ ⟨by omega, by omega⟩
              have HSx := Lib.hid (fun wx Pn' (hO : Grommet.Own w wx [boxP G 25 #[.int .i64 (a : Int), .int .i64 2, .int .i64 10], rowP 39 1 (.slice (some ⟨q, 0, none⟩) N N) N (xs.map wv), devP d (cl.does ws), runP R d (a : Int) 2 10 A Bs1 Pn' (Sb.drop (t + 1)), rowP 41 2 (.slice ad n cap) n (icells W), boxP V 3 (sevC (fun q => wl.getD q 0)), boxP V2 45 (sevC (tol P t))]) => (show wx.cell? ⟨V2, p, none⟩ = some (.int .i64 (X : Int)) ∧ wx.frozen? ⟨V2, p, none⟩ = false ∧ Grommet.Own w (wx.setCell ⟨V2, p, none⟩ (.int .i64 ((X : Int) + 1))) [boxP G 25 #[.int .i64 (a : Int), .int .i64 2, .int .i64 10], rowP 39 1 (.slice (some ⟨q, 0, none⟩) N N) N (xs.map wv), devP d (cl.does ws), runP R d (a : Int) 2 10 A Bs1 Pn' (Sb.drop (t + 1)), rowP 41 2 (.slice ad n cap) n (icells W), boxP V 3 (sevC (fun q => wl.getD q 0)), boxP V2 45 (sevC (tol P (t + 1)))] from by
                have hb := hO.box 6 rfl
                refine ⟨?_, by simp [World.frozen?, hb], ?_⟩
                · rw [← hX]
                  simp only [World.cell?, hb]
                  simpa using sevC_get (tol P t) p hX7
                · have := own_store_box hO 6 rfl p (.int .i64 ((X : Int) + 1))
                  rw [show Value.int .i64 ((X : Int) + 1) = Value.int .i64 ((tol P t p + 1 : Nat) : Int) from by rw [hX]; rfl, sevC_set, hts] at this
                  rw [show Value.int .i64 ((X : Int) + 1) = Value.int .i64 ((tol P t p + 1 : Nat) : Int) from by rw [hX]; rfl]
                  exact this))
              have p0 : (0 : Int) ≤ (p : Int) := by omega
              have p7 : (p : Int) < 7 := by omega
              have Hls := Lib.hid hls
              unfold ptr at HSt HLf2
              clear hO hO' HSt0 hdrop hs htS hPt hp16 hle hls hts hl hX hXt hX7 Hris Hok HPl HP HSl Hcnt Hws
              have Hr1 := Lib.hid hr1
              have ht1 : t + 1 ≤ tot := by omega
              clear hr hr1
              go_wp2_with fail
              refine HSt.out.mono ?_
              rintro e w2 ⟨rfl, Pn2, hO2⟩
              have HL2 := Lib.hid (HLf2.out w2 Pn2 hO2)
              obtain ⟨d1, d2, d3⟩ := HSx.out w2 Pn2 hO2
              have hO3 := Lib.hid d3
              clear HSt HLf2 HSx hO2 d3
              go_wp2_with fail
              refine HL2.out.mono ?_
              rintro e w3 ⟨rfl, hw3⟩
              obtain rfl := hw3.symm
              clear HL2
              go_wp2
              go_roundw
              case rel => exact ⟨t + 1, Bs1, Pn2, cl.does ws, ht1, by rw [Hr1.out], by rw [Hls.out], Hws2, hO3⟩
              case measure => simp [intOf]; omega
            · have hr0 : r = 0 := by omega
              have htt : t = tot := by omega
              subst hr0
              have hlt' : ¬ (0 : Int) < ((0 : Nat) : Int) := by omega
              have hO' := hO.out
              rw [show Sb.drop t = [] from List.drop_eq_nil_of_le (by rw [HSl.out]; omega)] at hO'
              have hO5 : Hid (Grommet.Own w wr [boxP G 25 #[.int .i64 (a : Int), .int .i64 2, .int .i64 10], rowP 39 1 (.slice (some ⟨q, 0, none⟩) N N) N (xs.map wv), devP d ws, runP R d (a : Int) 2 10 A Bs1 Pn1 [], rowP 41 2 (.slice ad n cap) n (icells W), boxP V 3 (sevC (fun q => wl.getD q 0)), boxP V2 45 (sevC (tol P t))]) := Lib.hid hO'
              have Hcnt2 : Hid (∀ j, j < 7 → tol P t j = wl.getD j 0) := Lib.hid (fun j hj => by
                unfold tol
                rw [List.take_of_length_le (by rw [HPl.out]; omega)]
                exact Hcnt.out j hj)
              clear hO hO' htt hr Hcnt HPl HP HSl Hris Hok Hws
              generalize lasP P t = l
              rw [show (((0 : Nat) : Nat) : Int) = 0 from rfl] at hlt' r0 ⊢
              clear r0
              go_wp2_with fail
              go_loopw [28] (fun iv wr => ∃ j : Nat, j ≤ 7 ∧ iv = .int .i64 (j : Int) ∧ Hid (Grommet.Own w wr [boxP G 25 #[.int .i64 (a : Int), .int .i64 2, .int .i64 10], rowP 39 1 (.slice (some ⟨q, 0, none⟩) N N) N (xs.map wv), devP d ws, runP R d (a : Int) 2 10 A Bs1 Pn1 [], rowP 41 2 (.slice ad n cap) n (icells W), boxP V 3 (sevC (fun q => wl.getD q 0)), boxP V2 45 (sevC (tol P t))])) (fun iv _ => 7 - (intOf iv).toNat)
              case atStart => exact ⟨0, by decide, rfl, hO5⟩
              case round =>
                clear hO5
                obtain ⟨j, hj, rfl, hO⟩ := hrel
                have j0 : (0 : Int) ≤ (j : Int) := by omega
                by_cases hlt2 : j < 7
                · as_aux_lemma =>
                  have hlt2' : (j : Int) < 7 := by omega
                  have wj : IntKind.i64.wrap ((j : Int) + 1) = (j : Int) + 1 := IntWalk.i64_in _ ⟨by omega, by omega⟩
                  have hb1 := hO.out.box 5 rfl
                  have hb2 := hO.out.box 6 rfl
                  have c1 : wr.cell? ⟨V, j, none⟩ = some (.int .i64 (wl.getD j 0 : Int)) := by
                    simp only [World.cell?, hb1]
                    simpa using sevC_get (fun q => wl.getD q 0) j hlt2
                  have c2 : wr.cell? ⟨V2, j, none⟩ = some (.int .i64 (wl.getD j 0 : Int)) := by
                    rw [← Hcnt2.out j hlt2]
                    simp only [World.cell?, hb2]
                    simpa using sevC_get (tol P t) j hlt2
                  obtain ⟨X, hX⟩ : ∃ X, wl.getD j 0 = X := ⟨_, rfl⟩
                  rw [hX] at c1 c2
                  have q1 : ((X : Int) != (X : Int)) = false := by simp
                  have hOE := Lib.hid (fun nq => hO.out.quiet (grown_drewN wr nq none))
                  clear hb1 hb2 hX hO Hcnt2
                  go_wp2_with fail
                  go_quiet (fail)
                  go_wp2
                  go_roundw
                  case rel => exact ⟨j + 1, by omega, by go_num, Lib.hid (hOE.out _)⟩
                  case measure => simp [intOf]; omega
                · as_aux_lemma =>
                  have hlt2' : ¬ (j : Int) < 7 := by omega
                  have HS := Lib.hid (StepE 3 R d (a : Int) 2 10 A Bs1 Pn1 w wr _ hO.out rfl)
                  have HP2 := Lib.hid (PhaseE 3 R d (a : Int) 2 10 A Bs1 Pn1 w wr _ hO.out rfl)
                  have HWk := Lib.hid (works_ev wr)
                  have hgO := Lib.hid hO.out.grown
                  unfold ptr at HS HP2
                  clear hO Hcnt2
                  go_wp2_with fail
                  refine HS.out.mono ?_
                  rintro e w2 ⟨rfl, hw2⟩
                  obtain rfl := hw2.symm
                  clear HS
                  go_wp2_with fail
                  refine HP2.out.mono ?_
                  rintro e w3 ⟨rfl, hw3⟩
                  obtain rfl := hw3.symm
                  clear HP2
                  go_wp2_with fail
                  refine HWk.out.mono ?_
                  rintro e w4 ⟨rfl, hg4⟩
                  have hgE := Lib.hid (grown_trans hgO.out hg4)
                  clear HWk hg4
                  go_wp2
                  go_ret
                  exact ⟨rfl, hgE.out⟩
theorem walk (a0 a1 : Int) (td : Option Addr) (tl tc : Nat) (T : List Cpt) (w : World) (w0 : (Lit.int .u8 a0).wf = true) (w1 : (Lit.int .u8 a1).wf = true) (hT : CptsIn w td tl T) :
    Calls Try.prog 3 #[.int .u8 a0, .int .u8 a1, .slice td tl tc] w (Go.Ev.WorksIs w) := by
  have b0 := bounds_u8 w0
  have b1 := bounds_u8 w1
  obtain ⟨A, rfl⟩ := Int.eq_ofNat_of_zero_le b0.1
  obtain ⟨B, rfl⟩ := Int.eq_ofNat_of_zero_le b1.1
  by_cases h : 40 < tl
  · exact walk_far _ _ td tl tc w h
  · exact walk_at A B td tl tc T w (by omega) (by omega) (by omega) hT
end Go.Proofs.Ytpdofdloclmbdaa.commitCounts