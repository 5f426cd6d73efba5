/- Texts of ours, packed. -/
import Derived.Sort.OwnSortedInts
import Derived.Deep.RegionHeld
import Derived.Test.YtpdofdloclmbdaaGreatPk24
import Derived.Test.YtpdofdloclmbdaaGreatPk1
import Derived.Test.YtpdofdloclmbdaaGreatPk26
import Derived.Test.YtpdofdloclmbdaaGreatPk16
import Derived.Test.YtpdofdloclmbdaaGreatPk10
import Derived.Test.YtpdofdloclmbdaaGreatPk22
section
/- Package commit: sort, compact, rows of lines. -/
namespace Go.Proofs.YtpdofdloclmbdaaGreat
open Go.RowKit Go.Grommet

def zv (x : Int) : Value := .int .i64 x
/-- Things made since a later world are things. -/
theorem Own.join {w0 w w' : World} {Ps Qs : List Pr} (h : Grommet.Own w0 w Ps) (k : Grommet.Own w w' Qs) : Grommet.Own w0 w' (Ps ++ Qs) := by
  have hq := h.quiet k.grown
  obtain ⟨Fs, h1, h2, h3, h4⟩ := h
  obtain ⟨Gs, g1, g2, g3, g4⟩ := k
  have oldOf : ∀ m, m < Ps.length → ∀ i, Fs m i → i < w.heap.size := fun m hm i hi => (Ps[m]).old (h1 m _ (by simp [hm])) i hi
  refine ⟨fun j => if j < Ps.length then Fs j else Gs (j - Ps.length), ?_, ?_, ?_, hq.grown⟩
  · intro j P hP
    by_cases hj : j < Ps.length
    · simp only [if_pos hj]
      rw [List.getElem?_append_left hj] at hP
      exact P.turn (h1 j P hP) (Turn.of (F := fun _ => False) g4 (fun _ e => by cases e)) (fun _ _ e => e)
    · simp only [if_neg hj]
      rw [List.getElem?_append_right (by omega)] at hP
      exact g1 _ P hP
  · intro j l hj hl hne i hi
    rw [List.length_append] at hj hl
    by_cases hjl : j < Ps.length
    · simp only [if_pos hjl] at hi
      by_cases hll : l < Ps.length
      · simp only [if_pos hll]; exact h2 j l hjl hll hne i hi
      · simp only [if_neg hll]
        intro hg
        have := oldOf j hjl i hi
        have := g3 (l - Ps.length) (by omega) i hg
        omega
    · simp only [if_neg hjl] at hi
      by_cases hll : l < Ps.length
      · simp only [if_pos hll]
        intro hg
        have := oldOf l hll i hg
        have := g3 (j - Ps.length) (by omega) i hi
        omega
      · simp only [if_neg hll]; exact g2 _ _ (by omega) (by omega) (by omega) i hi
  · intro j hj i hi
    rw [List.length_append] at hj
    by_cases hjl : j < Ps.length
    · simp only [if_pos hjl] at hi; exact h3 j hjl i hi
    · simp only [if_neg hjl] at hi; exact Nat.le_trans h4.size (g3 _ (by omega) i hi)
theorem holds_row {w : World} {g : Nat} {cur : Array Value} {e : TypeId} {zs : List Int} (hb : w.heap[g]? = some (.cells cur e (0, 0))) (ht : cur.toList.take (zs.length * 1) = zs.map zv) : Go.Sort.Holds (Value.int .i64) w g 0 zs.toArray :=
  holds_of_blockI hb (by rw [Nat.mul_one] at ht; exact ht)
/-- A row's beginning. -/
theorem row_prefix {w : World} {base e n cap : Nat} {ad : Option Addr} {xs : List Value} (h : w.ownsRow base e 1 (.slice ad n cap) n xs) (m : Nat) (hm : m ≤ n) (h0 : ad ≠ none) : w.ownsRow base e 1 (.slice ad m cap) m (xs.take m) := by
  obtain ⟨hl, h | ⟨g, cap', cur, he, hb, hh, hn, hmx, hc, htk⟩⟩ := h
  · cases h.1; exact absurd rfl h0
  · cases he
    refine ⟨by rw [List.length_take, hl]; omega, .inr ⟨g, cap, cur, rfl, hb, hh, by omega, hmx, hc, ?_⟩⟩
    rw [← htk, List.take_take, Nat.mul_one, Nat.mul_one, Nat.min_eq_left hm]

theorem SortH (k : Nat) (ad : Option Addr) (cap : Nat) (zs : List Int) (w0 w : World) (Ps : List Pr) (h : Grommet.Own w0 w Ps) (hk : Ps[k]? = some (rowP 3 1 (.slice ad zs.length cap) zs.length (zs.map zv))) (hl : zs.length ≤ 1000000) :
    Calls Tryz.prog 113 #[.slice ad zs.length cap] w fun e w' => e = .returned (.tuple #[]) ∧ Grommet.Own w0 w' (Ps.set k (rowP 3 1 (.slice ad zs.length cap) zs.length ((zs.mergeSort fun x y => decide (x ≤ y)).map zv))) := by
  by_cases h0 : zs = []
  · subst h0
    refine (Tryz.slices_Sort_int_none ad cap w).mono ?_
    rintro e w' ⟨rfl, rfl⟩
    refine ⟨rfl, ?_⟩
    rw [List.mergeSort_nil, set_selfC hk]
    exact h
  · have hpos : 0 < zs.length := List.length_pos_iff.2 h0
    obtain ⟨F, ⟨hr, f1, f2⟩, hback⟩ := h.take k hk
    obtain ⟨hlen, hr | ⟨g, cap', cur, he, hb, hh, hn, hmx, hc, htk⟩⟩ := hr
    · omega
    · cases he
      refine (Tryz.slices_Sort_int g 0 cap zs w (holds_row hh htk) (Array.getElem?_eq_some_iff.1 hh).1 (by omega)).mono ?_
      rintro e w' ⟨rfl, n, os, rfl⟩
      refine ⟨rfl, hback _ _ ⟨F, ⟨?_, f1, fun i hi => ?_⟩, fun i hi => .inl hi, Turn.of (grownBy_sortedI _) (fun i e => by cases e; exact f1 g rfl)⟩⟩
      · exact ownsRow_sortedI (List.length_mergeSort _) hb hh hn hmx hc
      · exact Nat.lt_of_lt_of_le (f2 i hi) (grownBy_sortedI (g := g) (n := n) (os := os) _).size
theorem CompactH (k : Nat) (ad : Option Addr) (cap : Nat) (zs : List Int) (w0 w : World) (Ps : List Pr) (h : Grommet.Own w0 w Ps) (hk : Ps[k]? = some (rowP 3 1 (.slice ad zs.length cap) zs.length (zs.map zv))) (hl : zs.length ≤ 1000000) :
    Calls Tryz.prog 114 #[.slice ad zs.length cap] w fun e w' => e = .returned (.slice ad (Lib.compact zs).length cap) ∧ Grommet.Own w0 w' (Ps.set k (rowP 3 1 (.slice ad (Lib.compact zs).length cap) (Lib.compact zs).length ((Lib.compact zs).map zv))) := by
  by_cases h0 : zs = []
  · subst h0
    refine (Tryz.slices_Compact_int_empty ad cap w).mono ?_
    rintro e w' ⟨rfl, rfl⟩
    refine ⟨rfl, ?_⟩
    show Grommet.Own w0 _ (Ps.set k (rowP 3 1 (.slice ad ([] : List Int).length cap) ([] : List Int).length (([] : List Int).map zv)))
    rw [set_selfC hk]
    exact h
  · have hpos : 0 < zs.length := List.length_pos_iff.2 h0
    obtain ⟨F, ⟨hr, f1, f2⟩, hback⟩ := h.take k hk
    obtain ⟨hlen, hr | ⟨g, cap', cur, he, hb, hh, hn, hmx, hc, htk⟩⟩ := hr
    · omega
    · cases he
      refine (Tryz.slices_Compact_int g 0 cap zs w (holds_row hh htk) (by omega) hn).mono ?_
      rintro e w' ⟨rfl, n, rfl⟩
      have hcl := compact_len zs
      rw [← Go.Sort.grow_empty (Go.Sort.putRow _ _ _ _ _)]
      have hts : (Lib.compact zs ++ List.replicate (zs.length - (Lib.compact zs).length) 0).length = zs.length := by simp; omega
      have hrow := row_prefix (ownsRow_sortedI (n := n) (os := #[]) hts hb hh hn hmx hc) (Lib.compact zs).length hcl (by simp)
      rw [List.map_append, List.take_append_of_le_length (by simp), List.take_of_length_le (by simp)] at hrow
      refine ⟨rfl, hback _ _ ⟨F, ⟨hrow, f1, fun i hi => ?_⟩, fun i hi => .inl hi, Turn.of (grownBy_sortedI _) (fun i e => by cases e; exact f1 g rfl)⟩⟩
      exact Nat.lt_of_lt_of_le (f2 i hi) (grownBy_sortedI (g := g) (n := n) (os := #[]) _).size
end Go.Proofs.YtpdofdloclmbdaaGreat
end
section
/- Package commit: settle. -/
namespace Go.Proofs.YtpdofdloclmbdaaGreat
open Go.RowKit Go.Grommet

def nv (x : Nat) : Value := .int .i64 (x : Int)
def q8 (x : Nat) : Int := ((x / 8 : Nat) : Int)
def flushS (p : Nat) (Z : List Nat) : List (Nat × Cl) := Z.map (fun l => (p, .flush l))
def settleS (M p : Nat) (ps : List Nat) : List (Nat × Cl) := flushS p (linesOf M ps) ++ [(p, .fence)]
theorem infoI : (Tryz.prog.info? 3).map (fun i => (i.zero, i.size, i.bytes)) = some (some (.int .i64 0), 1, 8) := by kernel_rfl
theorem take_snocN {α : Type} {L : List α} {j : Nat} {x : α} (h : L[j]? = some x) : L.take (j + 1) = L.take j ++ [x] := by
  rw [List.take_add_one, h]; rfl
/-- One number more behind a row. -/
theorem int_added {w0 w : World} {Qs : List Pr} (h : Grommet.Own w0 w Qs) (k : Nat) {ad : Option Addr} {n cap : Nat} {zs : List Int} (hk : Qs[k]? = some (rowP 3 1 (.slice ad n cap) n (zs.map zv))) (x : Int) (ty : TypeId) (hn : n ≤ 1000000) :
    ∃ ad' cap' w2, (Builtin.append_ #[76, 76] ty #[.slice ad n cap, .slice (some ⟨w.heap.size, 0, none⟩) 1 1]).run Tryz.prog (w.alloc (.cells #[.int .i64 x] 3)) = .ok (.slice ad' (n + 1) cap') w2 ∧ Grommet.Own w0 w2 (Qs.set k (rowP 3 1 (.slice ad' (n + 1) cap') (n + 1) ((zs ++ [x]).map zv))) := by
  obtain ⟨i0, hi, hz0, hz1, hz2⟩ := info_parts infoI
  have hO1 := h.quiet (World.grownBy_alloc w (.cells #[.int .i64 x] 3) none)
  have hrow := Own.row hO1 k hk
  have hnews : ∀ j u, [zv x][j]? = some u → (w.alloc (.cells #[.int .i64 x] 3)).cell? ((⟨w.heap.size, 0, none⟩ : Addr).add j) = some u := (at_of_row (heap_alloc_new w (.cells #[.int .i64 x] 3))).some
  have h1 : ∀ u ∈ [zv x], u.oneCell' = true := by intro u hu; simp at hu; subst hu; rfl
  obtain ⟨v', w', hr, h2, h3, h4⟩ := run_append_blk (P := Tryz.prog) (w.alloc (.cells #[.int .i64 x] 3)) 0 76 ty 3 i0 (.int .i64 0) 1 8 Tryz.underlying76 hi hz0 hz1 hz2 rfl (by decide) (.slice ad n cap) n (zs.map zv) hrow ⟨w.heap.size, 0, none⟩ 1 1 [zv x] rfl hnews h1 (by unfold maxLen; omega) (by omega) (Nat.zero_le _)
  obtain ⟨ad', cap', rfl, _⟩ := row_slice h2
  refine ⟨ad', cap', w', hr, ?_⟩
  have := Own.append hO1 k hk h2 h3 h4
  rw [List.map_append]
  exact this
/-- The run among other things, with one more behind it. -/
theorem set_snoc {Ps : List Pr} {k : Nat} {P P' Q : Pr} (hkl : k < Ps.length) : ((Ps.set k P) ++ [Q]).set k P' = Ps.set k P' ++ [Q] := by
  rw [List.set_append_left _ _ (by simpa using hkl), List.set_set]

theorem get_snoc {Ps : List Pr} {k : Nat} {P Q : Pr} : ((Ps.set k P) ++ [Q])[Ps.length]? = some Q := by
  rw [List.getElem?_append_right (by simp)]; simp

set_option maxRecDepth 100000 in
set_option maxHeartbeats 4000000 in
theorem settleH (k R D : Nat) (a b c : Int) (A : Nat) (Bs : List Nat) (Pn : List (Cl × Value)) (S : List (Nat × Cl)) (p : Nat) (ad : Option Addr) (n cap : Nat) (ps : List Nat) (M : Nat) (w0 w : World) (Ps : List Pr) (h : Grommet.Own w0 w Ps) (hk : Ps[k]? = some (runP R D a b c A Bs Pn S))
    (hat : ∀ wx, w.grownBy wx none → At wx ad (ps.map nv)) (hn : ps.length = n) (hM : ∀ x ∈ ps, x / 8 < M) (hsm : ∀ x ∈ ps, x < 1000000) (hl : S.length + M ≤ 90000) (hl2 : n ≤ 90000) :
    Calls Tryz.prog 97 #[ptr R, .int .u8 (p : Int), .slice ad n cap] w fun e w' => e = .returned (.tuple #[]) ∧ ∃ Bs' Pn', Grommet.Own w0 w' (Ps.set k (runP R D a b c A Bs' Pn' (S ++ settleS M p ps))) := by
  have hkl := (List.getElem?_eq_some_iff.1 hk).1
  obtain ⟨w1, hw1⟩ : ∃ w1, w.alloc (.cells #[ptr R] 48) = w1 := ⟨_, rfl⟩
  obtain ⟨X, hX⟩ : ∃ X, w.heap.size = X := ⟨_, rfl⟩
  have h1 := h.addBox 48 #[ptr R]
  rw [hw1, hX] at h1
  have h1 := run_box h1 k hk
  have hg1 : w.grownBy w1 none := by rw [← hw1]; exact World.grownBy_alloc _ _ none
  have HO1 := Lib.hid h1
  have HA := Lib.hid (fun wx (hg : w1.grownBy wx none) => hat wx (grown_trans hg1 hg))
  have Hn := Lib.hid hn
  have Hsm := Lib.hid hsm
  have Hs : Hid (Lib.compact ((ps.map q8).mergeSort (fun x y => decide (x ≤ y))) = (linesOf M ps).map (fun l : Nat => (l : Int))) := Lib.hid (lines_sorted M ps hM)
  have hlen : (linesOf M ps).length ≤ M := by
    have := List.length_filter_le (fun x => ps.any (fun p => p / 8 == x)) (List.range M)
    simpa [linesOf] using this
  obtain ⟨L, hL⟩ : ∃ L, linesOf M ps = L := ⟨_, rfl⟩
  obtain ⟨m, hm⟩ : ∃ m, L.length = m := ⟨_, rfl⟩
  have hend : Hid (S ++ settleS M p ps = S ++ flushS p L ++ [(p, .fence)]) := Lib.hid (by unfold settleS; rw [hL, List.append_assoc])
  rw [hL] at Hs hlen
  rw [hm] at hlen
  have Hm := Lib.hid hm
  have hlS : S.length + m ≤ 90000 := by omega
  have HlS := Lib.hid hlS
  have hz0 : Hid (Grommet.Own w1 w1 [rowP 3 1 (.slice none 0 0) 0 ((((ps.take 0).map q8)).map zv)]) := Lib.hid ((Own.nil w1).add (P := rowP 3 1 (.slice none 0 0) 0 []) (F := fun _ => False) ⟨World.ownsRow_nil _ _ _ _, ⟨fun i hi => (by cases hi), fun i hi => False.elim hi⟩⟩ (fun i hi => False.elim hi) (World.grownBy.refl _ _))
  have hmn : m ≤ 90000 := by omega
  clear hat hn hsm hM hl hL hm hlen h1 h hlS
  unfold ptr at hw1 ⊢
  go_enter Tryz.func97, Tryz.ntmps97
  go_wp2_with fail
  clear hw1
  go_loopw [6, 8, 13] (fun lv _ i wr => ∃ (j : Nat) (ad1 : Option Addr) (cap1 : Nat), j ≤ n ∧ i = .int .i64 (j : Int) ∧ lv = .slice ad1 j cap1 ∧ Hid (Grommet.Own w1 wr [rowP 3 1 (.slice ad1 j cap1) j (((ps.take j).map q8).map zv)])) (fun _ _ i _ => n - (intOf i).toNat)
  case atStart => exact ⟨0, none, 0, Nat.zero_le _, rfl, rfl, hz0⟩
  case round =>
    clear hz0
    obtain ⟨j, ad1, cap1, hj, rfl, rfl, hO⟩ := hrel
    have j0 : (0 : Int) ≤ (j : Int) := by omega
    by_cases hlt : j < n
    · as_aux_lemma =>
      have hlt' : (j : Int) < (n : Int) := by omega
      obtain ⟨x, hx⟩ : ∃ x, ps[j]? = some x := ⟨ps[j]'(by rw [Hn.out]; exact hlt), List.getElem?_eq_getElem _⟩
      obtain ⟨g, o, rfl, c1⟩ := HA.out wr hO.out.grown j (nv x) (by rw [List.getElem?_map, hx]; rfl)
      have hxs := Hsm.out x (List.mem_of_getElem? hx)
      unfold nv at c1
      have hd : Int.tdiv (x : Int) 8 = q8 x := by unfold q8; rw [Int.tdiv_eq_ediv_of_nonneg (by omega)]; omega
      have hwr : IntKind.i64.wrap (q8 x) = q8 x := IntWalk.i64_in _ ⟨by unfold q8; omega, by unfold q8; omega⟩
      have wj : IntKind.i64.wrap ((j : Int) + 1) = (j : Int) + 1 := IntWalk.i64_in _ ⟨by omega, by omega⟩
      obtain ⟨ad2, cap2, w2, hr, hO2⟩ := int_added hO.out 0 rfl (q8 x) 76 (by omega)
      have hO2 : Grommet.Own w1 w2 [rowP 3 1 (.slice ad2 (j + 1) cap2) (j + 1) (((ps.take j).map q8 ++ [q8 x]).map zv)] := hO2
      rw [show (ps.take j).map q8 ++ [q8 x] = (ps.take (j + 1)).map q8 from by rw [take_snocN hx, List.map_append]; rfl] at hO2
      have HO2 := Lib.hid hO2
      have hd2 : (x : Int) / 8 = q8 x := by unfold q8; omega
      generalize q8 x = Q at hd hd2 hwr hr
      clear hO hO2 hx hxs
      go_wp2_with (at_builtin; refine wpList_append_run rfl _ _ _ rfl _ _ _ rfl rfl hr ?_)
      go_roundw
      case rel => exact ⟨j + 1, ad2, cap2, by omega, by go_num, rfl, HO2⟩
      case measure => simp [intOf]; omega
    · obtain rfl : n = j := by omega
      have hlt' : ¬ (n : Int) < (n : Int) := by omega
      have hO1' := HO1.out
      have hO2 := Own.join hO1' hO.out
      rw [List.take_of_length_le (by rw [Hn.out]; exact Nat.le_refl _)] at hO2
      have hzl : (ps.map q8).length = n := by rw [List.length_map, Hn.out]
      have hkK : ((Ps.set k (runP R D a b c A (X :: Bs) Pn S)) ++ [rowP 3 1 (.slice ad1 n cap1) n ((ps.map q8).map zv)])[Ps.length]? = some (rowP 3 1 (.slice ad1 n cap1) n ((ps.map q8).map zv)) := by
        rw [List.getElem?_append_right (by simp)]; simp
      have HS := SortH Ps.length ad1 cap1 (ps.map q8) w0 _ _ hO2 (by rw [hzl]; exact hkK) (by rw [hzl]; omega)
      rw [hzl] at HS
      have hsl : ((ps.map q8).mergeSort (fun x y => decide (x ≤ y))).length = n := by rw [List.length_mergeSort, hzl]
      have hset : ∀ Q Q' : Pr, ((Ps.set k (runP R D a b c A (X :: Bs) Pn S)) ++ [Q]).set Ps.length Q' = (Ps.set k (runP R D a b c A (X :: Bs) Pn S)) ++ [Q'] := by
        intro Q Q'
        rw [List.set_append_right _ _ (by simp)]; simp
      rw [hset] at HS
      have HS := Lib.hid HS
      have HC := Lib.hid (fun wx (hO : Grommet.Own w0 wx ((Ps.set k (runP R D a b c A (X :: Bs) Pn S)) ++ [rowP 3 1 (.slice ad1 n cap1) n (((ps.map q8).mergeSort (fun x y => decide (x ≤ y))).map zv)])) => by
        have := CompactH Ps.length ad1 cap1 ((ps.map q8).mergeSort (fun x y => decide (x ≤ y))) w0 wx _ hO (by rw [hsl, List.getElem?_append_right (by simp)]; simp) (by rw [hsl]; omega)
        rw [hsl, hset, Hs.out, List.length_map, Hm.out] at this
        exact this)
      clear hO hO2 hkK hset hO1' HA Hsm
      go_wp2_with fail
      refine HS.out.mono ?_
      rintro e w2 ⟨rfl, hO⟩
      have HC2 := Lib.hid (HC.out w2 hO)
      clear HS HC hO
      go_wp2_with fail
      refine HC2.out.mono ?_
      rintro e w3 ⟨rfl, hO⟩
      have hO3 : Hid (Grommet.Own w0 w3 ((Ps.set k (runP R D a b c A (X :: Bs) Pn (S ++ flushS p (L.take 0)))) ++ [rowP 3 1 (.slice ad1 m cap1) m ((L.map (fun l : Nat => (l : Int))).map zv)])) := Lib.hid (by
        rw [show S ++ flushS p (L.take 0) = S from by simp [flushS]]; exact hO)
      clear HC2 hO hzl hsl HO1
      go_wp2_with fail
      go_loopw [10, 28] (fun _ i wr => ∃ (j : Nat) (Pn' : List (Cl × Value)), j ≤ m ∧ i = .int .i64 (j : Int) ∧ Hid (Grommet.Own w0 wr ((Ps.set k (runP R D a b c A (X :: Bs) Pn' (S ++ flushS p (L.take j)))) ++ [rowP 3 1 (.slice ad1 m cap1) m ((L.map (fun l : Nat => (l : Int))).map zv)]))) (fun _ i _ => m - (intOf i).toNat)
      case atStart => exact ⟨0, Pn, Nat.zero_le _, rfl, hO3⟩
      case round =>
        clear hO3
        obtain ⟨j, Pn', hj, rfl, hO⟩ := hrel
        have j0 : (0 : Int) ≤ (j : Int) := by omega
        have hkk : ((Ps.set k (runP R D a b c A (X :: Bs) Pn' (S ++ flushS p (L.take j)))) ++ [rowP 3 1 (.slice ad1 m cap1) m ((L.map (fun l : Nat => (l : Int))).map zv)])[k]? = some (runP R D a b c A (X :: Bs) Pn' (S ++ flushS p (L.take j))) := by
          rw [List.getElem?_append_left (by simpa using hkl), List.getElem?_set_self hkl]
        by_cases hlt2 : j < m
        · as_aux_lemma =>
          have hlt2' : (j : Int) < (m : Int) := by omega
          obtain ⟨l, hl⟩ : ∃ l, L[j]? = some l := ⟨L[j]'(by rw [Hm.out]; exact hlt2), List.getElem?_eq_getElem _⟩
          obtain ⟨g, he, c1, _, _⟩ := Own.cell hO.out Ps.length get_snoc j (zv (l : Int)) (by rw [List.getElem?_map, List.getElem?_map, hl]; rfl)
          subst he
          unfold zv at c1
          obtain ⟨wb, hwb⟩ : ∃ wb, World.alloc wr (.cells #[.int .i64 (l : Int)] 3) = wb := ⟨_, rfl⟩
          obtain ⟨Y, hY⟩ : ∃ Y, wr.heap.size = Y := ⟨_, rfl⟩
          have hb := hO.out.addBox 3 #[.int .i64 (l : Int)]
          rw [hwb, hY] at hb
          have hb2 := run_flush (x := X) hb k hkk (List.mem_cons_self ..)
          rw [set_snoc hkl] at hb2
          have hkl2 : ((Ps.set k (runP R D a b c A (X :: Bs) [(.flush l, .func (.func 115) #[] #[ptr X, ptr Y])] (S ++ flushS p (L.take j)))) ++ [rowP 3 1 (.slice (some ⟨g, 0, none⟩) m cap1) m ((L.map (fun l : Nat => (l : Int))).map zv)])[k]? = some (runP R D a b c A (X :: Bs) [(.flush l, .func (.func 115) #[] #[ptr X, ptr Y])] (S ++ flushS p (L.take j))) := by
            rw [List.getElem?_append_left (by simpa using hkl), List.getElem?_set_self hkl]
          have c0 := (run_cells hb2 k hkl2).2.2.2.2.2.2.2 X (List.mem_cons_self ..)
          have hfl : (S ++ flushS p (L.take j)).length ≤ 100000 := by
            have := HlS.out
            simp [flushS]; omega
          have HAdd := addH k R D a b c A (X :: Bs) _ _ p (.flush l) _ w0 wb _ hb2 hkl2 (List.mem_singleton.2 rfl) hfl
          rw [set_snoc hkl, show S ++ flushS p (L.take j) ++ [(p, Cl.flush l)] = S ++ flushS p (L.take (j + 1)) from by rw [take_snocN hl]; simp [flushS]] at HAdd
          have HAdd := Lib.hid HAdd
          have wj : IntKind.i64.wrap ((j : Int) + 1) = (j : Int) + 1 := IntWalk.i64_in _ ⟨by omega, by omega⟩
          unfold ptr at HAdd c0
          clear hO hb hb2 hkl2 hkk hl hfl
          go_wp2_with fail
          refine HAdd.out.mono ?_
          rintro e w5 ⟨rfl, hO5⟩
          have hO5 := Lib.hid hO5
          clear HAdd c0 hwb
          go_wp2
          go_roundw
          case rel => exact ⟨j + 1, _, by omega, by go_num, hO5⟩
          case measure => simp [intOf]; omega
        · as_aux_lemma =>
          obtain rfl : m = j := by omega
          have hlt2' : ¬ (m : Int) < (m : Int) := by omega
          have hO4 := hO.out.quiet (grown_drew (World.grownBy.refl _ none))
          have hO5 := run_fence hO4 k hkk
          obtain ⟨c0, _, _, _, _, _, _, c6⟩ := run_cells hO.out k hkk
          replace c6 := c6 X (List.mem_cons_self ..)
          have hkl2 : ((Ps.set k (runP R D a b c A (X :: Bs) [(.fence, .func (.func 117) #[ptr D] #[])] (S ++ flushS p (L.take m)))) ++ [rowP 3 1 (.slice ad1 m cap1) m ((L.map (fun l : Nat => (l : Int))).map zv)])[k]? = some (runP R D a b c A (X :: Bs) [(.fence, .func (.func 117) #[ptr D] #[])] (S ++ flushS p (L.take m))) := by
            rw [List.getElem?_append_left (by simpa using hkl), List.getElem?_set_self hkl]
          rw [set_snoc hkl] at hO5
          have hfl : (S ++ flushS p (L.take m)).length ≤ 100000 := by
            have := HlS.out
            simp [flushS]; omega
          have HAdd := addH k R D a b c A (X :: Bs) _ _ p .fence _ w0 _ _ hO5 hkl2 (List.mem_singleton.2 rfl) hfl
          rw [set_snoc hkl, List.take_of_length_le (by rw [Hm.out]; exact Nat.le_refl _)] at HAdd
          have HAdd := Lib.hid HAdd
          unfold ptr at HAdd c0 c6
          clear hO hO4 hO5 hkl2 hkk hfl
          go_wp2_with fail
          go_still_tail 7, (by kernel_rfl)
          change wpList _ _ _ _ _ (World.drew _)
          go_wp2_with fail
          refine HAdd.out.mono ?_
          rintro e w5 ⟨rfl, hO6⟩
          have hO7 : Hid (Grommet.Own w0 w5 (Ps.set k (runP R D a b c A (X :: Bs) [(.fence, .func (.func 117) #[.pointer (some ⟨D, 0, none⟩)] #[])] (S ++ settleS M p ps)))) := Lib.hid (by rw [hend.out]; exact hO6.less)
          clear hO6 HAdd
          go_wp2
          go_end0
          exact ⟨rfl, _, _, hO7.out⟩
end Go.Proofs.YtpdofdloclmbdaaGreat
end
section
/- Package commit: mark, seal, apply. -/
namespace Go.Proofs.YtpdofdloclmbdaaGreat
open Go.RowKit Go.Grommet

def storesS (p : Nat) (Q : List (Nat × Nat)) : List (Nat × Cl) := Q.map (fun q => (p, .store q.1 q.2))
def markS (M p A v : Nat) : List (Nat × Cl) := (p, .store A v) :: settleS M p [A]
/-- The words of a record, in their places. -/
def sealQ (A : Nat) (xs : List Nat) (j : Nat) : List (Nat × Nat) := (List.range j).map (fun i => (A + 8 + i, xs.getD i 0))
def sealS (M A : Nat) (xs : List Nat) : List (Nat × Cl) := storesS 1 (sealQ A xs xs.length) ++ settleS M 2 ((sealQ A xs xs.length).map (·.1))
/-- Writes, as places and values. -/
def wrQ (W : List (Int × Nat)) : List (Nat × Nat) := W.map (fun p => (p.1.toNat, p.2))
def applyS (M A : Nat) (W : List (Int × Nat)) : List (Nat × Cl) := storesS 4 (wrQ W) ++ settleS M 5 ((wrQ W).map (·.1)) ++ markS M 6 A 0
theorem linesOf_le (M : Nat) (ps : List Nat) : (linesOf M ps).length ≤ M := by
  have := List.length_filter_le (fun x => ps.any (fun p => p / 8 == x)) (List.range M)
  simpa [linesOf] using this
theorem settleS_len (M p : Nat) (ps : List Nat) : (settleS M p ps).length ≤ M + 1 := by
  have := linesOf_le M ps
  simp [settleS, flushS]; omega
theorem sealQ_snoc (A : Nat) (xs : List Nat) (j : Nat) : sealQ A xs (j + 1) = sealQ A xs j ++ [(A + 8 + j, xs.getD j 0)] := by
  unfold sealQ; rw [List.range_succ, List.map_append]; rfl
theorem sealQ_len (A : Nat) (xs : List Nat) (j : Nat) : (sealQ A xs j).length = j := by simp [sealQ]
theorem storesS_snoc (p : Nat) (Q : List (Nat × Nat)) (q : Nat × Nat) : storesS p (Q ++ [q]) = storesS p Q ++ [(p, .store q.1 q.2)] := by simp [storesS]
theorem storesS_len (p : Nat) (Q : List (Nat × Nat)) : (storesS p Q).length = Q.length := by simp [storesS]

set_option maxRecDepth 100000 in
set_option maxHeartbeats 2000000 in
theorem markH (k R D : Nat) (a b c : Int) (A : Nat) (Bs : List Nat) (Pn : List (Cl × Value)) (S : List (Nat × Cl)) (p v M : Nat) (w0 w : World) (Ps : List Pr) (h : Grommet.Own w0 w Ps) (hk : Ps[k]? = some (runP R D a b c A Bs Pn S)) (hA : A / 8 < M) (hsm : A < 1000000) (hl : S.length + 1 + M ≤ 90000) :
    Calls Tryz.prog 57 #[ptr R, .int .u8 (p : Int), .int .u64 (v : Int)] w fun e w' => e = .returned (.tuple #[]) ∧ ∃ Bs' Pn', Grommet.Own w0 w' (Ps.set k (runP R D a b c A Bs' Pn' (S ++ markS M p A v))) := by
  have hkl := (List.getElem?_eq_some_iff.1 hk).1
  have HS := Lib.hid (storeH k R D a b c A Bs Pn S p A v w0 w Ps h hk (by omega))
  have HT0 : ∀ (wx : World) (Pn' : List (Cl × Value)), Grommet.Own w0 wx (Ps.set k (runP R D a b c A Bs Pn' (S ++ [(p, .store A v)]))) → Calls Tryz.prog 97 #[ptr R, .int .u8 (p : Int), .slice (some ⟨wx.heap.size, 0, none⟩) 1 1] (wx.alloc (.cells #[nv A] 3)) fun e w' => e = .returned (.tuple #[]) ∧ ∃ Bs' Pn', Grommet.Own w0 w' (Ps.set k (runP R D a b c A Bs' Pn' (S ++ markS M p A v))) := by
    intro wx Pn' hO
    have hg := World.grownBy_alloc wx (.cells #[nv A] 3) none
    have := settleH k R D a b c A Bs Pn' (S ++ [(p, .store A v)]) p (some ⟨wx.heap.size, 0, none⟩) 1 1 [A] M w0 (wx.alloc (.cells #[nv A] 3)) _ (hO.quiet hg) (List.getElem?_set_self hkl) (fun wy hy => (at_of_row (heap_alloc_new wx (.cells #[nv A] 3))).grown hy (by simp)) rfl (by simpa using hA) (by simpa using hsm) (by simp; omega) (by omega)
    simp only [List.set_set] at this
    rw [show S ++ [(p, Cl.store A v)] ++ settleS M p [A] = S ++ markS M p A v from by simp [markS]] at this
    exact this
  have HT := Lib.hid HT0
  clear HT0
  have c4 := (run_cells h k hk).2.2.2.2.1
  have HC := Lib.hid (fun wx Pn' (hO : Grommet.Own w0 wx (Ps.set k (runP R D a b c A Bs Pn' (S ++ [(p, .store A v)])))) => (run_cells hO k (List.getElem?_set_self hkl)).2.2.2.2.1)
  unfold nv at HT
  unfold ptr at HS HT ⊢
  clear h hk hl hA hsm
  go_enter Tryz.func57, Tryz.ntmps57
  go_wp2_with fail
  refine HS.out.mono ?_
  rintro e w1 ⟨rfl, Pn1, hO⟩
  have HT1 := Lib.hid (HT.out w1 Pn1 hO)
  have c4 := HC.out w1 Pn1 hO
  clear HS HT HC hO
  go_wp2_with fail
  refine HT1.out.mono ?_
  rintro e w2 ⟨rfl, Bs', Pn', hO2⟩
  have hO2 := Lib.hid hO2
  go_wp2
  go_end0
  exact ⟨rfl, _, _, hO2.out⟩

set_option maxRecDepth 100000 in
set_option maxHeartbeats 4000000 in
theorem sealH (k m R D : Nat) (a b c : Int) (A : Nat) (Bs : List Nat) (Pn : List (Cl × Value)) (S : List (Nat × Cl)) (ad : Option Addr) (n cap : Nat) (xs : List Nat) (M : Nat) (w0 w : World) (Ps : List Pr) (h : Grommet.Own w0 w Ps) (hk : Ps[k]? = some (runP R D a b c A Bs Pn S)) (hm : Ps[m]? = some (rowP 44 1 (.slice ad n cap) n (xs.map wv))) (hmk : m ≠ k)
    (hn : xs.length = n) (hM : (A + 8 + n) / 8 < M) (hsm : A + 8 + n < 1000000) (hl : S.length + n + M ≤ 90000) :
    Calls Tryz.prog 56 #[ptr R, .slice ad n cap] w fun e w' => e = .returned (.tuple #[]) ∧ ∃ Bs' Pn', Grommet.Own w0 w' (Ps.set k (runP R D a b c A Bs' Pn' (S ++ sealS M A xs))) := by
  have hkl := (List.getElem?_eq_some_iff.1 hk).1
  have hml := (List.getElem?_eq_some_iff.1 hm).1
  have hz0 : Hid (Grommet.Own w0 w ((Ps.set k (runP R D a b c A Bs Pn (S ++ storesS 1 (sealQ A xs 0)))) ++ [rowP 3 1 (.slice none 0 0) 0 ((((sealQ A xs 0).map (fun q => ((q.1 : Nat) : Int)))).map zv)])) := Lib.hid (by
    rw [show S ++ storesS 1 (sealQ A xs 0) = S from by simp [storesS, sealQ], set_selfC hk]
    exact h.add (P := rowP 3 1 (.slice none 0 0) 0 []) (F := fun _ => False) ⟨World.ownsRow_nil _ _ _ _, ⟨fun i hi => (by cases hi), fun i hi => False.elim hi⟩⟩ (fun i hi => False.elim hi) (World.grownBy.refl _ _))
  have Hn := Lib.hid hn
  have HB := Lib.hid hl
  obtain ⟨T, hT⟩ : ∃ T, A + 8 = T := ⟨_, rfl⟩
  have wA : IntKind.i64.wrap ((A : Int) + 8) = (T : Int) := by rw [IntWalk.i64_in _ ⟨by omega, by omega⟩]; omega
  have hTn : T + n < 1000000 := by omega
  have HT := Lib.hid hT
  have HM := Lib.hid hM
  unfold ptr
  clear h hl hn hT hM hsm
  go_enter Tryz.func56, Tryz.ntmps56
  go_wp2_with fail
  go_loopw [4, 5, 6, 7, 10] (fun lv _ _ _ i wr => ∃ (j : Nat) (ad1 : Option Addr) (cap1 : Nat) (Bs' : List Nat) (Pn' : List (Cl × Value)), j ≤ n ∧ i = .int .i64 (j : Int) ∧ lv = .slice ad1 j cap1 ∧ Hid (Grommet.Own w0 wr ((Ps.set k (runP R D a b c A Bs' Pn' (S ++ storesS 1 (sealQ A xs j)))) ++ [rowP 3 1 (.slice ad1 j cap1) j ((((sealQ A xs j).map (fun q => ((q.1 : Nat) : Int)))).map zv)]))) (fun _ _ _ _ i _ => n - (intOf i).toNat)
  case atStart => exact ⟨0, none, 0, Bs, Pn, Nat.zero_le _, rfl, rfl, hz0⟩
  case round =>
    clear hz0
    obtain ⟨j, ad1, cap1, Bs1, Pn1, hj, rfl, rfl, hO⟩ := hrel
    have j0 : (0 : Int) ≤ (j : Int) := by omega
    have hkk : ((Ps.set k (runP R D a b c A Bs1 Pn1 (S ++ storesS 1 (sealQ A xs j)))) ++ [rowP 3 1 (.slice ad1 j cap1) j ((((sealQ A xs j).map (fun q => ((q.1 : Nat) : Int)))).map zv)])[k]? = some (runP R D a b c A Bs1 Pn1 (S ++ storesS 1 (sealQ A xs j))) := by
      rw [List.getElem?_append_left (by simpa using hkl), List.getElem?_set_self hkl]
    by_cases hlt : j < n
    · as_aux_lemma =>
      have hlt' : (j : Int) < (n : Int) := by omega
      have hjx : j < xs.length := by rw [Hn.out]; exact hlt
      obtain ⟨g, he, c1, _, _⟩ := Own.cell hO.out m (by rw [List.getElem?_append_left (by simpa using hml), List.getElem?_set_ne (fun e => hmk e.symm)]; exact hm) j (wv (xs.getD j 0)) (by rw [List.getElem?_map, List.getElem?_eq_getElem hjx, List.getD_eq_getElem?_getD, List.getElem?_eq_getElem hjx]; rfl)
      subst he
      unfold wv at c1
      have c4 := (run_cells hO.out k hkk).2.2.2.2.1
      obtain ⟨V, hV⟩ : ∃ V, xs.getD j 0 = V := ⟨_, rfl⟩
      obtain ⟨U, hU⟩ : ∃ U, T + j = U := ⟨_, rfl⟩
      have wU : IntKind.i64.wrap ((T : Int) + (j : Int)) = (U : Int) := by rw [IntWalk.i64_in _ ⟨by omega, by omega⟩]; omega
      have wj : IntKind.i64.wrap ((j : Int) + 1) = (j : Int) + 1 := IntWalk.i64_in _ ⟨by omega, by omega⟩
      have hsn : sealQ A xs (j + 1) = sealQ A xs j ++ [(U, V)] := by rw [sealQ_snoc, hV, HT.out, hU]
      have HSt := storeH k R D a b c A Bs1 Pn1 (S ++ storesS 1 (sealQ A xs j)) 1 U V w0 wr _ hO.out hkk (by
        have := HB.out
        rw [List.length_append, storesS_len, sealQ_len]; omega)
      simp only [set_snoc hkl] at HSt
      rw [List.append_assoc, ← storesS_snoc 1 (sealQ A xs j) (U, V), ← hsn] at HSt
      have HSt := Lib.hid HSt
      have HAp0 : ∀ (wx : World) (Pn' : List (Cl × Value)), Grommet.Own w0 wx ((Ps.set k (runP R D a b c A Bs1 Pn' (S ++ storesS 1 (sealQ A xs (j + 1))))) ++ [rowP 3 1 (.slice ad1 j cap1) j ((((sealQ A xs j).map (fun q => ((q.1 : Nat) : Int)))).map zv)]) →
          ∃ ad2 cap2 w2, (Builtin.append_ #[76, 76] 76 #[.slice ad1 j cap1, .slice (some ⟨wx.heap.size, 0, none⟩) 1 1]).run Tryz.prog (wx.alloc (.cells #[.int .i64 (U : Int)] 3)) = .ok (.slice ad2 (j + 1) cap2) w2 ∧ Grommet.Own w0 w2 ((Ps.set k (runP R D a b c A Bs1 Pn' (S ++ storesS 1 (sealQ A xs (j + 1))))) ++ [rowP 3 1 (.slice ad2 (j + 1) cap2) (j + 1) ((((sealQ A xs (j + 1)).map (fun q => ((q.1 : Nat) : Int)))).map zv)]) := by
        intro wx Pn' hO
        obtain ⟨ad2, cap2, w2, hr, hO2⟩ := int_added hO Ps.length get_snoc (U : Int) 76 (by omega)
        rw [List.set_append_right _ _ (by simp)] at hO2
        rw [show (sealQ A xs j).map (fun q => ((q.1 : Nat) : Int)) ++ [(U : Int)] = (sealQ A xs (j + 1)).map (fun q => ((q.1 : Nat) : Int)) from by rw [hsn, List.map_append]; rfl] at hO2
        simp only [List.length_set, Nat.sub_self, List.set_cons_zero] at hO2
        exact ⟨ad2, cap2, w2, hr, hO2⟩
      have HAp := Lib.hid HAp0
      clear HAp0
      rw [hV] at c1
      unfold ptr at HSt
      clear hO hkk hjx hV hU hsn HB HM HT Hn
      go_wp2_with fail
      refine HSt.out.mono ?_
      rintro e w2 ⟨rfl, Pn2, hO2⟩
      obtain ⟨ad2, cap2, w3, hr, hO3⟩ := HAp.out w2 Pn2 hO2
      have hO3 := Lib.hid hO3
      clear HSt HAp hO2 c1 c4
      go_wp2_with (at_builtin; refine wpList_append_run rfl _ _ _ rfl _ _ _ rfl rfl hr ?_)
      go_roundw
      case rel => exact ⟨j + 1, ad2, cap2, Bs1, Pn2, by omega, by go_num, rfl, hO3⟩
      case measure => simp [intOf]; omega
    · as_aux_lemma =>
      obtain rfl : n = j := by omega
      have hlt' : ¬ (n : Int) < (n : Int) := by omega
      have hat := (row_slice (Own.row hO.out Ps.length get_snoc))
      obtain ⟨ad', cap', he, hat, _, _⟩ := hat
      cases he
      have hmap : (((sealQ A xs n).map (fun q => ((q.1 : Nat) : Int)))).map zv = ((sealQ A xs n).map (·.1)).map nv := by
        rw [List.map_map, List.map_map]; rfl
      rw [hmap] at hat
      have HS := settleH k R D a b c A Bs1 Pn1 (S ++ storesS 1 (sealQ A xs n)) 2 ad1 n cap1 ((sealQ A xs n).map (·.1)) M w0 wr _ hO.out hkk (fun wx hg => hat.grown hg (by simp)) (by rw [List.length_map, sealQ_len]) (fun x hx => by
          obtain ⟨q, hq, rfl⟩ := List.mem_map.1 hx
          obtain ⟨i, hi, rfl⟩ := List.mem_map.1 hq
          have := List.mem_range.1 hi
          have := HM.out
          show (A + 8 + i) / 8 < M
          omega) (fun x hx => by
          obtain ⟨q, hq, rfl⟩ := List.mem_map.1 hx
          obtain ⟨i, hi, rfl⟩ := List.mem_map.1 hq
          have := List.mem_range.1 hi
          have := HT.out
          show A + 8 + i < 1000000
          omega) (by
          have := HB.out
          rw [List.length_append, storesS_len, sealQ_len]; omega) (by have := HB.out; omega)
      simp only [set_snoc hkl] at HS
      rw [show S ++ storesS 1 (sealQ A xs n) ++ settleS M 2 ((sealQ A xs n).map (·.1)) = S ++ sealS M A xs from by unfold sealS; rw [Hn.out, List.append_assoc]] at HS
      have HS := Lib.hid HS
      unfold ptr at HS
      clear hO hkk hat hmap HB HM HT Hn
      go_wp2_with fail
      refine HS.out.mono ?_
      rintro e w2 ⟨rfl, Bs', Pn', hO2⟩
      have hO2 := Lib.hid hO2.less
      go_wp2
      go_end0
      exact ⟨rfl, _, _, hO2.out⟩
end Go.Proofs.YtpdofdloclmbdaaGreat
end
section
/- Package commit: apply. -/
namespace Go.Proofs.YtpdofdloclmbdaaGreat
open Go.RowKit Go.Grommet

theorem set_snoc2 {Ps : List Pr} {k : Nat} {P P' Q B : Pr} (hkl : k < Ps.length) : (((Ps.set k P) ++ [Q]) ++ [B]).set k P' = ((Ps.set k P') ++ [Q]) ++ [B] := by
  rw [List.set_append_left _ _ (by simp; omega), set_snoc hkl]
theorem wrQ_snoc {W : List (Int × Nat)} {j : Nat} {x : Int × Nat} (h : W[j]? = some x) : wrQ (W.take (j + 1)) = wrQ (W.take j) ++ [(x.1.toNat, x.2)] := by
  unfold wrQ; rw [take_snocN h, List.map_append]; rfl
theorem wrQ_len (W : List (Int × Nat)) (j : Nat) (h : j ≤ W.length) : (wrQ (W.take j)).length = j := by
  unfold wrQ; rw [List.length_map, List.length_take]; omega

set_option maxRecDepth 100000 in
set_option maxHeartbeats 4000000 in
theorem applyH (k m R D : Nat) (a b c : Int) (A : Nat) (Bs : List Nat) (Pn : List (Cl × Value)) (S : List (Nat × Cl)) (ad : Option Addr) (n cap : Nat) (W : List (Int × Nat)) (M : Nat) (w0 w : World) (Ps : List Pr) (h : Grommet.Own w0 w Ps) (hk : Ps[k]? = some (runP R D a b c A Bs Pn S)) (hm : Ps[m]? = some (rowP 92 2 (.slice ad n cap) n (icells W))) (hmk : m ≠ k)
    (hn : W.length = n) (hW : ∀ x ∈ W, 0 ≤ x.1 ∧ x.1.toNat / 8 < M ∧ x.1 < 1000000) (hA : A / 8 < M) (hsm : A < 1000000) (hl : S.length + n + 2 * M + 10 ≤ 80000) :
    Calls Tryz.prog 59 #[ptr R, .slice ad n cap] w fun e w' => e = .returned (.tuple #[]) ∧ ∃ Bs' Pn', Grommet.Own w0 w' (Ps.set k (runP R D a b c A Bs' Pn' (S ++ applyS M A W))) := by
  have hkl := (List.getElem?_eq_some_iff.1 hk).1
  have hml := (List.getElem?_eq_some_iff.1 hm).1
  have hz0 : Hid (Grommet.Own w0 w ((Ps.set k (runP R D a b c A Bs Pn (S ++ storesS 4 (wrQ (W.take 0))))) ++ [rowP 3 1 (.slice none 0 0) 0 ((((wrQ (W.take 0)).map (fun q => ((q.1 : Nat) : Int)))).map zv)])) := Lib.hid (by
    rw [show S ++ storesS 4 (wrQ (W.take 0)) = S from by simp [storesS, wrQ], set_selfC hk]
    exact h.add (P := rowP 3 1 (.slice none 0 0) 0 []) (F := fun _ => False) ⟨World.ownsRow_nil _ _ _ _, ⟨fun i hi => (by cases hi), fun i hi => False.elim hi⟩⟩ (fun i hi => False.elim hi) (World.grownBy.refl _ _))
  have Hn := Lib.hid hn
  have HB := Lib.hid hl
  have HW := Lib.hid hW
  have HA := Lib.hid hA
  have Hsm := Lib.hid hsm
  have hn8 : n ≤ 80000 := by omega
  unfold ptr
  clear h hl hn hW hA hsm
  go_enter Tryz.func59, Tryz.ntmps59
  go_wp2_with fail
  go_loopw [4, 6, 9] (fun lv _ i wr => ∃ (j : Nat) (ad1 : Option Addr) (cap1 : Nat) (Bs' : List Nat) (Pn' : List (Cl × Value)), j ≤ n ∧ i = .int .i64 (j : Int) ∧ lv = .slice ad1 j cap1 ∧ Hid (Grommet.Own w0 wr ((Ps.set k (runP R D a b c A Bs' Pn' (S ++ storesS 4 (wrQ (W.take j))))) ++ [rowP 3 1 (.slice ad1 j cap1) j ((((wrQ (W.take j)).map (fun q => ((q.1 : Nat) : Int)))).map zv)]))) (fun _ _ i _ => n - (intOf i).toNat)
  case atStart => exact ⟨0, none, 0, Bs, Pn, Nat.zero_le _, rfl, rfl, hz0⟩
  case round =>
    clear hz0
    obtain ⟨j, ad1, cap1, Bs1, Pn1, hj, rfl, rfl, hO⟩ := hrel
    have j0 : (0 : Int) ≤ (j : Int) := by omega
    by_cases hlt : j < n
    · as_aux_lemma =>
      have hlt' : (j : Int) < (n : Int) := by omega
      obtain ⟨x, hx⟩ : ∃ x, W[j]? = some x := ⟨W[j]'(by rw [Hn.out]; exact hlt), List.getElem?_eq_getElem _⟩
      obtain ⟨hx0, hx1, hx2⟩ := HW.out x (List.mem_of_getElem? hx)
      have hxD : W.getD j (0, 0) = x := by rw [List.getD_eq_getElem?_getD, hx]; rfl
      obtain ⟨hat, _, _, _⟩ := Own.pairs hO.out m (by rw [List.getElem?_append_left (by simpa using hml), List.getElem?_set_ne (fun e => hmk e.symm)]; exact hm)
      obtain ⟨q, o, rfl, c1, c2⟩ := at_ipair hat j (by rw [Hn.out]; exact hlt)
      rw [hxD] at c1 c2
      obtain ⟨U, hU⟩ : ∃ U : Nat, x.1.toNat = U := ⟨_, rfl⟩
      obtain ⟨V, hV⟩ : ∃ V : Nat, x.2 = V := ⟨_, rfl⟩
      rw [show x.1 = (U : Int) from by omega] at c1
      rw [hV] at c2
      have hsn : wrQ (W.take (j + 1)) = wrQ (W.take j) ++ [(U, V)] := by rw [wrQ_snoc hx, hU, hV]
      have hb := hO.out.addBox 92 #[.int .i64 (U : Int), .int .u64 (V : Int)]
      obtain ⟨wb, hwb⟩ : ∃ wb, wr.alloc (.cells #[.int .i64 (U : Int), .int .u64 (V : Int)] 92) = wb := ⟨_, rfl⟩
      obtain ⟨Y, hY⟩ : ∃ Y, wr.heap.size = Y := ⟨_, rfl⟩
      rw [hwb, hY] at hb
      have hbx : ∀ (wx : World) (P Q : Pr), Grommet.Own w0 wx (((Ps.set k P) ++ [Q]) ++ [boxP Y 92 #[.int .i64 (U : Int), .int .u64 (V : Int)]]) → wx.cell? ⟨Y, 0, none⟩ = some (.int .i64 (U : Int)) ∧ wx.cell? ⟨Y, 1, none⟩ = some (.int .u64 (V : Int)) := by
        intro wx P Q hOx
        have := hOx.box (((Ps.set k P) ++ [Q]).length) (X := Y) (T := 92) (cs := #[.int .i64 (U : Int), .int .u64 (V : Int)]) (by simp)
        exact ⟨by simp [World.cell?, this], by simp [World.cell?, this]⟩
      obtain ⟨d1, d2⟩ := hbx wb _ _ hb
      have wj : IntKind.i64.wrap ((j : Int) + 1) = (j : Int) + 1 := IntWalk.i64_in _ ⟨by omega, by omega⟩
      have HSt := storeH k R D a b c A Bs1 Pn1 (S ++ storesS 4 (wrQ (W.take j))) 4 U V w0 wb _ hb (by
        rw [List.getElem?_append_left (by simp; omega), List.getElem?_append_left (by simpa using hkl), List.getElem?_set_self hkl]) (by
        have := HB.out
        rw [List.length_append, storesS_len, wrQ_len _ _ (by rw [Hn.out]; exact hj)]; omega)
      simp only [set_snoc2 hkl] at HSt
      rw [List.append_assoc, ← storesS_snoc 4 (wrQ (W.take j)) (U, V), ← hsn] at HSt
      have HSt := Lib.hid HSt
      have HAp0 : ∀ (wx : World) (Pn' : List (Cl × Value)), Grommet.Own w0 wx ((Ps.set k (runP R D a b c A Bs1 Pn' (S ++ storesS 4 (wrQ (W.take (j + 1)))))) ++ [rowP 3 1 (.slice ad1 j cap1) j ((((wrQ (W.take j)).map (fun q => ((q.1 : Nat) : Int)))).map zv)]) →
          ∃ ad2 cap2 w2, (Builtin.append_ #[76, 76] 76 #[.slice ad1 j cap1, .slice (some ⟨wx.heap.size, 0, none⟩) 1 1]).run Tryz.prog (wx.alloc (.cells #[.int .i64 (U : Int)] 3)) = .ok (.slice ad2 (j + 1) cap2) w2 ∧ Grommet.Own w0 w2 ((Ps.set k (runP R D a b c A Bs1 Pn' (S ++ storesS 4 (wrQ (W.take (j + 1)))))) ++ [rowP 3 1 (.slice ad2 (j + 1) cap2) (j + 1) ((((wrQ (W.take (j + 1))).map (fun q => ((q.1 : Nat) : Int)))).map zv)]) := by
        intro wx Pn' hO
        obtain ⟨ad2, cap2, w2, hr, hO2⟩ := int_added hO Ps.length get_snoc (U : Int) 76 (by omega)
        rw [List.set_append_right _ _ (by simp)] at hO2
        rw [show (wrQ (W.take j)).map (fun q => ((q.1 : Nat) : Int)) ++ [(U : Int)] = (wrQ (W.take (j + 1))).map (fun q => ((q.1 : Nat) : Int)) from by rw [hsn, List.map_append]; rfl] at hO2
        simp only [List.length_set, Nat.sub_self, List.set_cons_zero] at hO2
        exact ⟨ad2, cap2, w2, hr, hO2⟩
      have HAp := Lib.hid HAp0
      have Hbx := Lib.hid hbx
      unfold ptr at HSt
      clear hO hx hx0 hx1 hx2 hxD hat hU hV hsn hb HAp0 hbx HB HW HA Hsm Hn
      go_wp2_with fail
      refine HSt.out.mono ?_
      rintro e w2 ⟨rfl, Pn2, hO2⟩
      obtain ⟨d1, d2⟩ := Hbx.out w2 _ _ hO2
      obtain ⟨ad2, cap2, w3, hr, hO3⟩ := HAp.out w2 Pn2 hO2.less
      have hO3 := Lib.hid hO3
      clear HSt HAp hO2 Hbx hwb
      go_wp2_with (at_builtin; refine wpList_append_run rfl _ _ _ rfl _ _ _ rfl rfl hr ?_)
      go_roundw
      case rel => exact ⟨j + 1, ad2, cap2, Bs1, Pn2, by omega, by go_num, rfl, hO3⟩
      case measure => simp [intOf]; omega
    · as_aux_lemma =>
      have hkk : ((Ps.set k (runP R D a b c A Bs1 Pn1 (S ++ storesS 4 (wrQ (W.take j))))) ++ [rowP 3 1 (.slice ad1 j cap1) j ((((wrQ (W.take j)).map (fun q => ((q.1 : Nat) : Int)))).map zv)])[k]? = some (runP R D a b c A Bs1 Pn1 (S ++ storesS 4 (wrQ (W.take j)))) := by
        rw [List.getElem?_append_left (by simpa using hkl), List.getElem?_set_self hkl]
      obtain rfl : n = j := by omega
      have hlt' : ¬ (n : Int) < (n : Int) := by omega
      have hall : W.take n = W := List.take_of_length_le (by rw [Hn.out]; exact Nat.le_refl _)
      have hO := hO.out
      rw [hall] at hO hkk
      obtain ⟨ad', cap', he, hat, _, _⟩ := row_slice (Own.row hO Ps.length get_snoc)
      cases he
      have hmap : (((wrQ W).map (fun q => ((q.1 : Nat) : Int)))).map zv = ((wrQ W).map (·.1)).map nv := by
        rw [List.map_map, List.map_map]; rfl
      rw [hmap] at hat
      have hwl : (wrQ W).length = n := by unfold wrQ; rw [List.length_map, Hn.out]
      have hps : ∀ x ∈ (wrQ W).map (·.1), x / 8 < M ∧ x < 1000000 := by
        intro x hx
        obtain ⟨q, hq, rfl⟩ := List.mem_map.1 hx
        obtain ⟨p, hp, rfl⟩ := List.mem_map.1 hq
        have := HW.out p hp
        exact ⟨this.2.1, by show p.1.toNat < _; omega⟩
      have hSl : (S ++ storesS 4 (wrQ W)).length ≤ S.length + n := by rw [List.length_append, storesS_len, hwl]; omega
      have HS := settleH k R D a b c A Bs1 Pn1 (S ++ storesS 4 (wrQ W)) 5 ad1 n cap1 ((wrQ W).map (·.1)) M w0 wr _ hO hkk (fun wx hg => hat.grown hg (by simp)) (by rw [List.length_map, hwl]) (fun x hx => (hps x hx).1) (fun x hx => (hps x hx).2) (by have := HB.out; omega) (by have := HB.out; omega)
      simp only [set_snoc hkl] at HS
      have HS := Lib.hid HS
      have HMk0 : ∀ (wx : World) (Bs' : List Nat) (Pn' : List (Cl × Value)), Grommet.Own w0 wx (Ps.set k (runP R D a b c A Bs' Pn' (S ++ storesS 4 (wrQ W) ++ settleS M 5 ((wrQ W).map (·.1))))) → Calls Tryz.prog 57 #[ptr R, .int .u8 6, .int .u64 0] wx fun e w' => e = .returned (.tuple #[]) ∧ ∃ Bs' Pn', Grommet.Own w0 w' (Ps.set k (runP R D a b c A Bs' Pn' (S ++ applyS M A W))) := by
        intro wx Bs' Pn' hO
        have := markH k R D a b c A Bs' Pn' (S ++ storesS 4 (wrQ W) ++ settleS M 5 ((wrQ W).map (·.1))) 6 0 M w0 wx _ hO (List.getElem?_set_self hkl) HA.out Hsm.out (by
          have := HB.out
          have := settleS_len M 5 ((wrQ W).map (·.1))
          rw [List.length_append]; omega)
        simp only [List.set_set] at this
        rw [show S ++ storesS 4 (wrQ W) ++ settleS M 5 ((wrQ W).map (·.1)) ++ markS M 6 A 0 = S ++ applyS M A W from by unfold applyS; simp only [List.append_assoc]] at this
        exact this
      have HMk := Lib.hid HMk0
      unfold ptr at HS HMk
      clear hO hkk hat hmap HB HW HA Hsm Hn hall hwl hps hSl HMk0
      go_wp2_with fail
      refine HS.out.mono ?_
      rintro e w2 ⟨rfl, Bs', Pn', hO2⟩
      have HMk2 := Lib.hid (HMk.out w2 _ _ hO2.less)
      clear HS HMk hO2
      go_wp2_with fail
      refine HMk2.out.mono ?_
      rintro e w3 ⟨rfl, Bs2, Pn2, hO3⟩
      have hO3 := Lib.hid hO3
      go_wp2
      go_end0
      exact ⟨rfl, _, _, hO3.out⟩
end Go.Proofs.YtpdofdloclmbdaaGreat
end
section
/- Package commit: Begin, New, Left, Phase. -/
namespace Go.Proofs.YtpdofdloclmbdaaGreat
open Go.RowKit Go.Grommet

def beginS (M A : Nat) (W : List (Int × Nat)) : List (Nat × Cl) := sealS M A (recR W) ++ markS M 3 A (markV (recR W)) ++ applyS M A W
theorem set_end {Ps : List Pr} {k : Nat} {P Q : Pr} (hkl : k < Ps.length) : (Ps ++ [Q]).set k P = Ps.set k P ++ [Q] := List.set_append_left _ _ hkl
theorem sealS_len (M A : Nat) (xs : List Nat) : (sealS M A xs).length ≤ xs.length + M + 1 := by
  have := settleS_len M 2 ((sealQ A xs xs.length).map (·.1))
  unfold sealS
  rw [List.length_append, storesS_len, sealQ_len]; omega
theorem markS_len (M p A v : Nat) : (markS M p A v).length ≤ M + 2 := by
  have := settleS_len M p [A]
  unfold markS
  rw [List.length_cons]; omega

set_option maxRecDepth 100000 in
set_option maxHeartbeats 4000000 in
theorem BeginH (k m R D : Nat) (a b c : Int) (A : Nat) (Bs : List Nat) (Pn : List (Cl × Value)) (ad : Option Addr) (n cap : Nat) (W : List (Int × Nat)) (M : Nat) (w0 w : World) (Ps : List Pr) (h : Grommet.Own w0 w Ps) (hk : Ps[k]? = some (runP R D a b c A Bs Pn [])) (hm : Ps[m]? = some (rowP 92 2 (.slice ad n cap) n (icells W))) (hmk : m ≠ k)
    (hn : W.length = n) (hmay : mayW a b c W = true) (hv : ∀ x ∈ W, x.2 < 18446744073709551616) (hW : ∀ x ∈ W, 0 ≤ x.1 ∧ x.1.toNat / 8 < M ∧ x.1 < 1000000) (hA : (A + 8 + 2 + 2 * n) / 8 < M) (hsm : A + 1000 < 1000000) (hM : M ≤ 10000) :
    Calls Tryz.prog 13 #[ptr R, .slice ad n cap] w fun e w' => e = .returned (.int .i64 0) ∧ ∃ Bs' Pn', Grommet.Own w0 w' (Ps.set k (runP R D a b c A Bs' Pn' (beginS M A W))) := by
  have hkl := (List.getElem?_eq_some_iff.1 hk).1
  have hml := (List.getElem?_eq_some_iff.1 hm).1
  have hn96 : n ≤ 96 := by
    unfold mayW at hmay
    have := (of_decide_eq_true hmay).1
    omega
  obtain ⟨hat, _, _, _⟩ := Own.pairs h m hm
  have hsmR := recR_small (M := W) (fun p hp => ⟨by have := hW p hp; omega, hv p hp⟩) (by omega)
  have hneg : negB W = false := by
    unfold negB
    rw [List.any_eq_false]
    intro p hp
    have := (hW p hp).1
    simp; omega
  have hRl : (recR W).length = 2 + 2 * n := by rw [recR_length, hn]
  obtain ⟨Z, hZ⟩ : ∃ Z, 2 + 2 * n = Z := ⟨_, rfl⟩
  obtain ⟨X, hX⟩ : ∃ X, recR W = X := ⟨_, rfl⟩
  rw [hZ] at hRl
  have HMy := Lib.hid (RMay0_any a b c ad n cap W w hat hn (fun p hp => by
    have := hW p hp
    simp only [Lit.wf, Bool.and_eq_true, decide_eq_true_eq]
    exact ⟨by show (-9223372036854775808 : Int) ≤ _; omega, by show _ ≤ (9223372036854775807 : Int); omega⟩))
  rw [hmay] at HMy
  have HWd0 : ∀ wx, w.grownBy wx none → Calls Tryz.prog 55 #[.slice ad n cap] wx fun e w' => ∃ ad1 cap1, e = .returned (.tuple #[.slice ad1 Z cap1, .int .i64 0]) ∧ Grommet.Own w0 w' (Ps ++ [rowP 44 1 (.slice ad1 Z cap1) Z (X.map wv)]) := by
    intro wx hg
    refine (Words_few wx.heap.size ad n cap W wx (hat.grown hg (by simp)) hn hn96 (fun p hp => ⟨by have := hW p hp; omega, hv p hp⟩) (Nat.le_refl _)).mono ?_
    rintro e w' (⟨h, _⟩ | ⟨_, ad1, cap1, rfl, hrow, hg2⟩)
    · rw [hneg] at h; cases h
    · rw [hX] at hrow hRl
      refine ⟨ad1, cap1, by rw [hX, hRl], ?_⟩
      rw [hRl] at hrow
      exact (h.quiet hg).addRow hrow hg2
  have HWd := Lib.hid HWd0
  have HSl0 : ∀ (wx : World) (ad1 : Option Addr) (cap1 : Nat), Grommet.Own w0 wx (Ps ++ [rowP 44 1 (.slice ad1 Z cap1) Z (X.map wv)]) → Calls Tryz.prog 56 #[ptr R, .slice ad1 Z cap1] wx fun e w' => e = .returned (.tuple #[]) ∧ ∃ Bs' Pn', Grommet.Own w0 w' (Ps.set k (runP R D a b c A Bs' Pn' (sealS M A X)) ++ [rowP 44 1 (.slice ad1 Z cap1) Z (X.map wv)]) := by
    intro wx ad1 cap1 hO
    have := sealH k Ps.length R D a b c A Bs Pn [] ad1 Z cap1 X M w0 wx _ hO (by rw [List.getElem?_append_left hkl]; exact hk) (by simp) (by omega) (by rw [← hX]; exact hRl) (by omega) (by omega) (by simp; omega)
    simp only [set_end hkl, List.nil_append] at this
    exact this
  have HSl := Lib.hid HSl0
  have HMr0 : ∀ (wx : World) (Bs' : List Nat) (Pn' : List (Cl × Value)) (ad1 : Option Addr) (cap1 : Nat), Grommet.Own w0 wx (Ps.set k (runP R D a b c A Bs' Pn' (sealS M A X)) ++ [rowP 44 1 (.slice ad1 Z cap1) Z (X.map wv)]) → Calls Tryz.prog 58 #[.slice ad1 Z cap1] wx fun e w' => e = .returned (.int .u64 (markV X : Int)) ∧ Grommet.Own w0 w' (Ps.set k (runP R D a b c A Bs' Pn' (sealS M A X)) ++ [rowP 44 1 (.slice ad1 Z cap1) Z (X.map wv)]) := by
    intro wx Bs' Pn' ad1 cap1 hO
    obtain ⟨hw, _, hc⟩ := Own.words hO Ps.length get_snoc (by rw [← hX]; exact hsmR) (by omega)
    refine (Mark_any ad1 Z cap1 X wx hw hc).mono ?_
    rintro e w' ⟨rfl, hg⟩
    exact ⟨rfl, hO.quiet hg⟩
  have HMr := Lib.hid HMr0
  have HMk0 : ∀ (wx : World) (Bs' : List Nat) (Pn' : List (Cl × Value)) (ad1 : Option Addr) (cap1 : Nat), Grommet.Own w0 wx (Ps.set k (runP R D a b c A Bs' Pn' (sealS M A X)) ++ [rowP 44 1 (.slice ad1 Z cap1) Z (X.map wv)]) → Calls Tryz.prog 57 #[ptr R, .int .u8 3, .int .u64 (markV X : Int)] wx fun e w' => e = .returned (.tuple #[]) ∧ ∃ Bs' Pn', Grommet.Own w0 w' (Ps.set k (runP R D a b c A Bs' Pn' (sealS M A X ++ markS M 3 A (markV X)))) := by
    intro wx Bs' Pn' ad1 cap1 hO
    have hl1 := sealS_len M A X
    rw [← hX, hRl] at hl1
    refine (markH k R D a b c A Bs' Pn' (sealS M A X) 3 (markV X) M w0 wx _ hO.less (List.getElem?_set_self hkl) (by omega) (by omega) (by rw [← hX]; omega)).mono ?_
    rintro e w' ⟨rfl, B2, P2, hO2⟩
    rw [List.set_set] at hO2
    exact ⟨rfl, B2, P2, hO2⟩
  have HMk := Lib.hid HMk0
  have HAp0 : ∀ (wx : World) (Bs' : List Nat) (Pn' : List (Cl × Value)), Grommet.Own w0 wx (Ps.set k (runP R D a b c A Bs' Pn' (sealS M A X ++ markS M 3 A (markV X)))) → Calls Tryz.prog 59 #[ptr R, .slice ad n cap] wx fun e w' => e = .returned (.tuple #[]) ∧ ∃ Bs' Pn', Grommet.Own w0 w' (Ps.set k (runP R D a b c A Bs' Pn' (beginS M A W))) := by
    intro wx Bs' Pn' hO
    have hl1 := sealS_len M A X
    rw [← hX, hRl] at hl1
    have hl2 := markS_len M 3 A (markV X)
    refine (applyH k m R D a b c A Bs' Pn' (sealS M A X ++ markS M 3 A (markV X)) ad n cap W M w0 wx _ hO (List.getElem?_set_self hkl) (by rw [List.getElem?_set_ne (fun e => hmk e.symm)]; exact hm) hmk hn hW (by omega) (by omega) (by rw [List.length_append, ← hX]; rw [← hX] at hl2; omega)).mono ?_
    rintro e w' ⟨rfl, B2, P2, hO2⟩
    rw [List.set_set] at hO2
    refine ⟨rfl, B2, P2, ?_⟩
    unfold beginS
    rw [hX]
    exact hO2
  have HAp := Lib.hid HAp0
  obtain ⟨_, c1, c2, c3, _, ⟨ads, caps, c5⟩, _, _⟩ := run_cells h k hk
  have c5 : w.cell? ⟨R, 5, none⟩ = some (.slice ads 0 caps) := c5
  unfold ptr at HSl HMk HAp ⊢
  unfold gv at HMy
  generalize markV X = MV at HMr HMk HAp
  clear h hk hm hmk hn hmay hv hsmR hW hA hsm hM hat hneg hRl hX HWd0 HSl0 HMr0 HMk0 HAp0 hn96 hZ
  go_enter Tryz.func13, Tryz.ntmps13
  go_wp2_with fail
  refine HMy.out.mono ?_
  rintro e w1 ⟨rfl, hg1⟩
  have HWd1 := Lib.hid (HWd.out w1 hg1)
  clear HMy HWd hg1
  go_wp2_with fail
  refine HWd1.out.mono ?_
  rintro e w2 ⟨ad1, cap1, rfl, hO2⟩
  have HSl2 := Lib.hid (HSl.out w2 ad1 cap1 hO2)
  clear HWd1 HSl hO2
  go_wp2_with fail
  refine HSl2.out.mono ?_
  rintro e w3 ⟨rfl, B3, P3, hO3⟩
  have HMr3 := Lib.hid (HMr.out w3 _ _ _ _ hO3)
  clear HSl2 HMr hO3
  go_wp2_with fail
  refine HMr3.out.mono ?_
  rintro e w4 ⟨rfl, hO4⟩
  have HMk4 := Lib.hid (HMk.out w4 _ _ _ _ hO4)
  clear HMr3 HMk hO4
  go_wp2_with fail
  refine HMk4.out.mono ?_
  rintro e w5 ⟨rfl, B5, P5, hO5⟩
  have HAp5 := Lib.hid (HAp.out w5 _ _ hO5)
  clear HMk4 HAp hO5
  go_wp2_with fail
  refine HAp5.out.mono ?_
  rintro e w6 ⟨rfl, B6, P6, hO6⟩
  have hO6 := Lib.hid hO6
  go_wp2
  go_ret
  exact ⟨rfl, _, _, hO6.out⟩

set_option maxRecDepth 100000 in
set_option maxHeartbeats 1000000 in
theorem LeftH (k R D : Nat) (a b c : Int) (A : Nat) (Bs : List Nat) (Pn : List (Cl × Value)) (S : List (Nat × Cl)) (w0 w : World) (Ps : List Pr) (h : Grommet.Own w0 w Ps) (hk : Ps[k]? = some (runP R D a b c A Bs Pn S)) :
    Calls Tryz.prog 27 #[ptr R] w fun e w' => e = .returned (.int .i64 (S.length : Int)) ∧ w' = w := by
  obtain ⟨_, _, _, _, _, ⟨ads, caps, c5⟩, _, _⟩ := run_cells h k hk
  generalize S.length = n at c5
  unfold ptr
  clear h hk
  go_enter Tryz.func27, Tryz.ntmps27
  go_wp2
  go_ret
  exact ⟨rfl, rfl⟩
end Go.Proofs.YtpdofdloclmbdaaGreat
end
section
/- Package commit: New. -/
namespace Go.Proofs.YtpdofdloclmbdaaGreat
open Go.RowKit Go.Grommet

theorem PWordsH (j d : Nat) (ws : List PW) (w0 w : World) (Ps : List Pr) (h : Grommet.Own w0 w Ps) (hj : Ps[j]? = some (devP d ws)) : Calls Tryz.prog 70 #[ptr d] w fun e w' => e = .returned (.int .i64 (ws.length : Int)) ∧ w.grownBy w' none := by
  obtain ⟨g, hD, _⟩ := dev_does h hj
  refine (pm_Words_any w d g ws hD).mono ?_
  rintro e w' ⟨rfl, h⟩
  rw [h]
  exact ⟨rfl, World.grownBy.refl _ _⟩
theorem run_new {w0 w : World} {Ps : List Pr} (h : Grommet.Own w0 w Ps) (d : Nat) (a b c : Int) (A : Nat) : Grommet.Own w0 (w.alloc (.cells #[ptr d, .int .i64 a, .int .i64 b, .int .i64 c, .int .i64 (A : Int), .slice none 0 0] 105)) (Ps ++ [runP w.heap.size d a b c A [] [] []]) := by
  refine h.add (P := runP w.heap.size d a b c A [] [] []) (F := fun i => i = w.heap.size) ⟨none, 0, [], heap_alloc_new w _, ⟨rfl, .inl ⟨rfl, rfl⟩⟩, rfl, fun g hg => (by cases hg), rfl, fun i s cv hs => (by simp at hs), fun x hx => (by cases hx), fun x hx => (by cases hx), fun i hi => (by rw [hi]; simp)⟩ (fun i hi => by rw [hi]; exact Nat.le_refl _) (World.grownBy_alloc w _ none)

set_option maxRecDepth 100000 in
set_option maxHeartbeats 2000000 in
theorem RNewH (j d a b c k A : Nat) (ws : List PW) (w0 w : World) (Ps : List Pr) (h : Grommet.Own w0 w Ps) (hj : Ps[j]? = some (devP d ws)) (hA : areaV (a : Int) (b : Int) (c : Int) (k : Int) = (A : Int)) (hws : wordsV (a : Int) (b : Int) (c : Int) ≤ (ws.length : Int)) :
    Calls Tryz.prog 43 #[ptr d, gv (a : Int) (b : Int) (c : Int), .int .i64 (k : Int)] w fun e w' => ∃ R, e = .returned (.tuple #[ptr R, .int .i64 0]) ∧ Grommet.Own w0 w' (Ps ++ [runP R d (a : Int) (b : Int) (c : Int) A [] [] []]) := by
  have hjl := (List.getElem?_eq_some_iff.1 hj).1
  have HAt := Lib.hid (fun wx => AreaAt_any (a : Int) (b : Int) (c : Int) (k : Int) wx)
  rw [hA] at HAt
  have HWd := Lib.hid (fun wx => Words_any (a : Int) (b : Int) (c : Int) wx)
  obtain ⟨w1, hw1⟩ : ∃ w1, w.alloc (.cells #[.int .i64 (a : Int), .int .i64 (b : Int), .int .i64 (c : Int)] 26) = w1 := ⟨_, rfl⟩
  obtain ⟨G, hG⟩ : ∃ G, w.heap.size = G := ⟨_, rfl⟩
  have h1 := h.addBox 26 #[.int .i64 (a : Int), .int .i64 (b : Int), .int .i64 (c : Int)]
  rw [hw1, hG] at h1
  have HPw := Lib.hid (fun wx (hO : Grommet.Own w0 wx (Ps ++ [boxP G 26 #[.int .i64 (a : Int), .int .i64 (b : Int), .int .i64 (c : Int)]])) => PWordsH j d ws w0 wx _ hO (by rw [List.getElem?_append_left hjl]; exact hj))
  have HG := Lib.hid (fun wx (hO : Grommet.Own w0 wx (Ps ++ [boxP G 26 #[.int .i64 (a : Int), .int .i64 (b : Int), .int .i64 (c : Int)]])) => (show GeoQ G (a : Int) (b : Int) (c : Int) wx from hO.box Ps.length (by simp)))
  have HN := Lib.hid (fun wx (hO : Grommet.Own w0 wx (Ps ++ [boxP G 26 #[.int .i64 (a : Int), .int .i64 (b : Int), .int .i64 (c : Int)]])) => run_new hO.less d (a : Int) (b : Int) (c : Int) A)
  have HO1 := Lib.hid h1
  obtain ⟨f0, f1, f2⟩ := GeoQ.cells (HG.out w1 h1)
  obtain ⟨WV, hWV⟩ : ∃ v, wordsV (a : Int) (b : Int) (c : Int) = v := ⟨_, rfl⟩
  rw [hWV] at HWd hws
  have q1 : ¬ (ws.length : Int) < WV := by omega
  have q2 : ¬ (A : Int) < 0 := by omega
  generalize ws.length = n at HPw q1 hws
  unfold gv at HAt HWd ⊢
  unfold ptr at HPw HN ⊢
  clear h hj hA h1 hWV
  go_enter Tryz.func43, Tryz.ntmps43
  go_wp2_with fail
  refine (HAt.out _).mono ?_
  rintro e w2 ⟨rfl, hg2⟩
  have hO2 := HO1.out.quiet hg2
  have hOr := Lib.hid (hO2.quiet (grown_drew (World.grownBy.refl _ none)))
  have hz0 := Lib.hid (HG.out _ hOr.out)
  clear hg2 HAt HO1 hO2 f0 f1 f2 hw1
  go_wp2_with fail
  refine wp_region_held_drew (S := fun w' => GeoQ G (a : Int) (b : Int) (c : Int) w') (by kernel_rfl) (hz0.out) (fun hS => ?_)
  refine wpAnyH_take (i := 0) (oi := { dst := some 19, op := Op.move (Operand.tmp 0), type := 29, pos := "commit.go:50", after := #[], guard := none }) (v := ?vnw43r6o0) rfl (by kernel_rfl) (by kernel_rfl) (by kernel_rfl) (fun _ _ _ h => h) (Or.inl ⟨by rfl, ?hnw43r6o0⟩) hS ?_
  case hnw43r6o0 => (intro wx hx; skip; go_simp; (try with_reducible rfl))
  try simp only [Act.put, List.setIfInBounds_toArray, List.set_cons_zero, List.set_cons_succ]
  refine wpAnyH_take (i := 2) (oi := { dst := some 21, op := Op.load 26 (Operand.tmp 4), type := 26, pos := "commit.go:50", after := #[], guard := none }) (v := ?vnw43r6o2) rfl (by kernel_rfl) (by kernel_rfl) (by kernel_rfl) (fun _ _ _ h => h) (Or.inl ⟨by rfl, ?hnw43r6o2⟩) hS ?_
  case hnw43r6o2 => (intro wx hx; obtain ⟨f0, f1, f2⟩ := GeoQ.cells hx; go_simp; (try with_reducible rfl))
  try simp only [Act.put, List.setIfInBounds_toArray, List.set_cons_zero, List.set_cons_succ]
  refine wpAnyH_ready (rs := [1]) (by kernel_rfl) (by simp) ?_
  refine AllReadyH.cons (o := { dst := some 20, op := Op.call { callee := Callee.value (Operand.func 70), args := #[Operand.tmp 19], argTypes := #[29] }, type := 3, pos := "commit.go:50", after := #[{ on := 0, ground := Ground.data }], guard := none }) rfl (fun K hK => ?_) AllReadyH.nil
  go_simp
  refine (HPw.out _ hOr.out).mono ?_
  rintro e v2 ⟨rfl, hn⟩
  have hOn := Lib.hid (hOr.out.quiet hn)
  clear hOr hn
  have hOr := hOn
  clear hOn
  refine hK.out _ _ ?hsnw43r6o1 (fun hS => ?_)
  case hsnw43r6o1 => (exact HG.out _ hOr.out)
  clear hK K
  try simp only [Act.put, List.setIfInBounds_toArray, List.set_cons_zero, List.set_cons_succ]
  refine wpAnyH_ready (rs := [3]) (by kernel_rfl) (by simp) ?_
  refine AllReadyH.cons (o := { dst := some 22, op := Op.call { callee := Callee.value (Operand.func 36), args := #[Operand.tmp 21], argTypes := #[26] }, type := 3, pos := "commit.go:50", after := #[{ on := 2, ground := Ground.data }, { on := 1, ground := Ground.chain }], guard := none }) rfl (fun K hK => ?_) AllReadyH.nil
  go_simp
  refine (HWd.out _).mono ?_
  rintro e v1 ⟨rfl, hn⟩
  have hOn := Lib.hid (hOr.out.quiet hn)
  clear hOr hn
  have hOr := hOn
  clear hOn
  refine hK.out _ _ ?hsnw43r6o3 (fun hS => ?_)
  case hsnw43r6o3 => (exact HG.out _ hOr.out)
  clear hK K
  try simp only [Act.put, List.setIfInBounds_toArray, List.set_cons_zero, List.set_cons_succ]
  refine wpAnyH_take (i := 4) (oi := { dst := some 23, op := Op.binOp BinOp.lss 3 (Operand.tmp 20) (Operand.tmp 22) 3, type := 4, pos := "commit.go:50", after := #[{ on := 1, ground := Ground.data }, { on := 3, ground := Ground.data }], guard := none }) (v := ?vnw43r6o4) rfl (by kernel_rfl) (by kernel_rfl) (by kernel_rfl) (fun _ _ _ h => h) (Or.inl ⟨by rfl, ?hnw43r6o4⟩) hS ?_
  case hnw43r6o4 => (intro wx hx; skip; go_simp; (try with_reducible rfl))
  try simp only [Act.put, List.setIfInBounds_toArray, List.set_cons_zero, List.set_cons_succ]
  refine wpAnyH_take (i := 5) (oi := { dst := some 18, op := Op.assign (Operand.tmp 23), type := 4, pos := "commit.go:50", after := #[{ on := 4, ground := Ground.data }, { on := 3, ground := Ground.chain }], guard := none }) (v := ?vnw43r6o5) rfl (by kernel_rfl) (by kernel_rfl) (by kernel_rfl) (fun _ _ _ h => h) (Or.inl ⟨by rfl, ?hnw43r6o5⟩) hS ?_
  case hnw43r6o5 => (intro wx hx; skip; go_simp; (try with_reducible rfl))
  try simp only [Act.put, List.setIfInBounds_toArray, List.set_cons_zero, List.set_cons_succ]
  refine wpAnyH_done (by kernel_rfl) ?_ _
  obtain ⟨f0, f1, f2⟩ := GeoQ.cells hS
  have hfin := Lib.hid (HN.out _ hOr.out)
  clear hOr HN HG HPw HWd hS
  go_wp2
  go_ret2
  exact ⟨_, rfl, hfin.out⟩
end Go.Proofs.YtpdofdloclmbdaaGreat
end
section
/- The law's device. -/
namespace Go.Proofs.YtpdofdloclmbdaaGreat
open Go.RowKit Go.Grommet

/-- The document's device, of any words. -/
def AnyR (N : Nat) (rs : List RW) : Prop := rs.length = N ∧ ∀ c ∈ rs, c.Small
theorem AnyR.store {N : Nat} {rs : List RW} (h : AnyR N rs) (i v : Nat) (hv : v < 18446744073709551616) : AnyR N (rs.modify i (RW.store v)) := by
  refine ⟨by rw [List.length_modify]; exact h.1, fun c hc => ?_⟩
  obtain ⟨k, hk⟩ := List.getElem?_of_mem hc
  rw [List.getElem?_modify] at hk
  cases e : rs[k]? with
  | none => rw [e] at hk; cases hk
  | some r =>
    rw [e] at hk
    have hr := h.2 r (List.mem_of_getElem? e)
    by_cases hik : i = k
    · simp [hik] at hk
      subst hk
      exact ⟨hr.1, hv, hr.2.2⟩
    · simp [hik] at hk
      subst hk
      exact hr
theorem AnyR.evict {N : Nat} {rs : List RW} (h : AnyR N rs) (a m : Nat) : AnyR N (rturn RW.evict a m rs) := ⟨by rw [rturn_len]; exact h.1, rturn_small (fun c hc => revict_small hc) a rs h.2 m⟩

end Go.Proofs.YtpdofdloclmbdaaGreat
end
section
/- Package commit: Step and Phase of a run that has no steps, Phase of one that has. -/
namespace Go.Proofs.YtpdofdloclmbdaaGreat
open Go.RowKit Go.Grommet

set_option maxRecDepth 100000 in
set_option maxHeartbeats 1000000 in
theorem StepE (k R D : Nat) (a b c : Int) (A : Nat) (Bs : List Nat) (Pn : List (Cl × Value)) (w0 w : World) (Ps : List Pr) (h : Grommet.Own w0 w Ps) (hk : Ps[k]? = some (runP R D a b c A Bs Pn [])) :
    Calls Tryz.prog 23 #[ptr R] w fun e w' => e = .returned (.tuple #[.int .u8 0, .int .i64 3]) ∧ w' = w := by
  obtain ⟨_, _, _, _, _, ⟨ads, caps, c5⟩, _, _⟩ := run_cells h k hk
  have c5 : w.cell? ⟨R, 5, none⟩ = some (.slice ads 0 caps) := c5
  unfold ptr
  clear h hk
  go_enter Tryz.func23, Tryz.ntmps23
  go_wp2
  go_ret2
  exact ⟨rfl, rfl⟩
set_option maxRecDepth 100000 in
set_option maxHeartbeats 1000000 in
theorem PhaseE (k R D : Nat) (a b c : Int) (A : Nat) (Bs : List Nat) (Pn : List (Cl × Value)) (w0 w : World) (Ps : List Pr) (h : Grommet.Own w0 w Ps) (hk : Ps[k]? = some (runP R D a b c A Bs Pn [])) :
    Calls Tryz.prog 25 #[ptr R] w fun e w' => e = .returned (.int .u8 0) ∧ w' = w := by
  obtain ⟨_, _, _, _, _, ⟨ads, caps, c5⟩, _, _⟩ := run_cells h k hk
  have c5 : w.cell? ⟨R, 5, none⟩ = some (.slice ads 0 caps) := c5
  unfold ptr
  clear h hk
  go_enter Tryz.func25, Tryz.ntmps25
  go_wp2
  go_ret
  exact ⟨rfl, rfl⟩
end Go.Proofs.YtpdofdloclmbdaaGreat
end
section
/- Package commit: Resume. -/
namespace Go.Proofs.YtpdofdloclmbdaaGreat
open Go.RowKit Go.Grommet

/-- What a run is to do that resumes. -/
def resS (M A : Nat) (a b c : Int) (xs : List Nat) : List (Nat × Cl) := if commB a b c xs A = true then applyS M A (commM xs A) else markS M 6 A 0
theorem comm_len {a b c : Int} {xs : List Nat} {A : Nat} (h : commB a b c xs A = true) : (commM xs A).length ≤ 96 := by
  unfold commB at h
  simp only [Bool.and_eq_true] at h
  obtain ⟨_, h⟩ := h
  unfold readB at h
  simp only [Bool.and_eq_true] at h
  obtain ⟨_, h⟩ := h
  unfold mayW at h
  have := (of_decide_eq_true h).1
  unfold commM
  omega
/-- A run's cells. -/
def RC (R D : Nat) (a b c : Int) (A : Nat) (w : World) : Prop := w.cell? ⟨R, 0, none⟩ = some (ptr D) ∧ w.cell? ⟨R, 1, none⟩ = some (.int .i64 a) ∧ w.cell? ⟨R, 2, none⟩ = some (.int .i64 b) ∧ w.cell? ⟨R, 3, none⟩ = some (.int .i64 c) ∧ w.cell? ⟨R, 4, none⟩ = some (.int .i64 (A : Int))
theorem RC.of {w0 w : World} {Ps : List Pr} {R D : Nat} {a b c : Int} {A : Nat} {Bs : List Nat} {Pn : List (Cl × Value)} {S : List (Nat × Cl)} (h : Grommet.Own w0 w Ps) (k : Nat) (hk : Ps[k]? = some (runP R D a b c A Bs Pn S)) : RC R D a b c A w := by
  obtain ⟨c0, c1, c2, c3, c4, _⟩ := run_cells h k hk
  exact ⟨c0, c1, c2, c3, c4⟩
theorem old_get {Ps : List Pr} {k : Nat} {P Q : Pr} (hk : Ps[k]? = some P) : (Ps ++ [Q])[k]? = some P := by
  rw [List.getElem?_append_left (List.getElem?_eq_some_iff.1 hk).1]; exact hk
theorem last_get {Ps : List Pr} {Q : Pr} : (Ps ++ [Q])[Ps.length]? = some Q := by rw [List.getElem?_append_right (Nat.le_refl _), Nat.sub_self]; rfl
theorem seen_cell {w0 w : World} {Ps : List Pr} {ad : Option Addr} {n cap : Nat} {xs : List Nat} (h : Grommet.Own w0 w (Ps ++ [rowP 44 1 (.slice ad n cap) n (xs.map wv)])) (hx : ∀ v ∈ xs, v < 18446744073709551616) (hn : xs.length = n) (hf : n ≤ 65536) (A : Nat) (hA : A < n) :
    ∃ q, ad = some ⟨q, 0, none⟩ ∧ w.cell? ⟨q, A, none⟩ = some (.int .u64 (xs.getD A 0 : Int)) ∧ Words w (some ⟨q, 0, none⟩) n xs ∧ n ≤ cap := by
  have hAx : A < xs.length := by omega
  obtain ⟨q, rfl, c1, _, hc⟩ := Own.cell h Ps.length last_get A (wv (xs.getD A 0)) (by rw [List.getElem?_map, List.getElem?_eq_getElem hAx, List.getD_eq_getElem?_getD, List.getElem?_eq_getElem hAx]; rfl)
  obtain ⟨hw, _, _⟩ := Own.words h Ps.length last_get hx (by omega)
  exact ⟨q, rfl, c1, hw, hc⟩

set_option maxRecDepth 100000 in
set_option maxHeartbeats 2000000 in
theorem ResumeNo (k j R D : Nat) (a b c : Int) (A : Nat) (Bs : List Nat) (Pn : List (Cl × Value)) (ws : List PW) (N : Nat) (w0 w : World) (Ps : List Pr) (h : Grommet.Own w0 w Ps) (hk : Ps[k]? = some (runP R D a b c A Bs Pn [])) (hj : Ps[j]? = some (devP D ws)) (hN : ws.length = 8 * N) (hf : ws.length ≤ 65536) (hx : ∀ v ∈ ws.map (·.seen), v < 18446744073709551616) (hA : A < ws.length)
    (h0 : (ws.map (·.seen)).getD A 0 = 0) :
    Calls Tryz.prog 15 #[ptr R] w fun e w' => e = .returned (.tuple #[.bool false, .int .i64 0]) ∧ Grommet.Own w0 w' Ps := by
  have HS := Lib.hid (SeenH j D ws w0 w Ps h hj N hN)
  obtain ⟨c0, _, _, _, c4, ⟨ads, caps, c5⟩, _, _⟩ := run_cells h k hk
  have c5 : w.cell? ⟨R, 5, none⟩ = some (.slice ads 0 caps) := c5
  have HC := Lib.hid (fun wx ad cap (hO : Grommet.Own w0 wx (Ps ++ [rowP 44 1 (.slice ad ws.length cap) ws.length ((ws.map (·.seen)).map wv)])) => And.intro (RC.of hO k (old_get hk)) (And.intro (seen_cell hO hx (by simp) hf A hA) hO.less))
  rw [h0] at HC
  have hA' : (A : Int) < (ws.length : Int) := by omega
  have A0 : (0 : Int) ≤ (A : Int) := by omega
  generalize ws.length = n at HS HC hA'
  generalize (ws.map (·.seen)).map wv = xv at HS HC
  unfold RC ptr at HC
  unfold ptr at HS c0 ⊢
  clear h hk hj hN hf hx hA h0
  go_enter Tryz.func15, Tryz.ntmps15
  go_wp2_with fail
  refine HS.out.mono ?_
  rintro e w1 ⟨ad, cap, rfl, hO1⟩
  obtain ⟨⟨d0, d1, d2, d3, d4⟩, ⟨q, rfl, c1, _, hc⟩, hO⟩ := HC.out w1 ad cap hO1
  have hO := Lib.hid hO
  clear HS HC hO1 c0 c4 c5
  go_wp2
  go_ret2
  exact ⟨rfl, hO.out⟩

set_option maxRecDepth 100000 in
set_option maxHeartbeats 2000000 in
theorem ResumeBad (k j R D : Nat) (a b c : Int) (A : Nat) (Bs : List Nat) (Pn : List (Cl × Value)) (ws : List PW) (N M : Nat) (w0 w : World) (Ps : List Pr) (h : Grommet.Own w0 w Ps) (hk : Ps[k]? = some (runP R D a b c A Bs Pn [])) (hj : Ps[j]? = some (devP D ws)) (hN : ws.length = 8 * N) (hf : ws.length ≤ 65536) (hx : ∀ v ∈ ws.map (·.seen), v < 18446744073709551616) (hA : A + 208 ≤ ws.length)
    (h0 : (ws.map (·.seen)).getD A 0 ≠ 0) (hB : commB a b c (ws.map (·.seen)) A = false) (hAM : A / 8 < M) (hM : M ≤ 10000) :
    Calls Tryz.prog 15 #[ptr R] w fun e w' => e = .returned (.tuple #[.bool true, .int .i64 0]) ∧ ∃ Bs' Pn', Grommet.Own w0 w' (Ps.set k (runP R D a b c A Bs' Pn' (markS M 6 A 0))) := by
  have hkl := (List.getElem?_eq_some_iff.1 hk).1
  have HS := Lib.hid (SeenH j D ws w0 w Ps h hj N hN)
  obtain ⟨c0, _, _, _, c4, ⟨ads, caps, c5⟩, _, _⟩ := run_cells h k hk
  have c5 : w.cell? ⟨R, 5, none⟩ = some (.slice ads 0 caps) := c5
  have HC := Lib.hid (fun wx ad cap (hO : Grommet.Own w0 wx (Ps ++ [rowP 44 1 (.slice ad ws.length cap) ws.length ((ws.map (·.seen)).map wv)])) => And.intro (RC.of hO k (old_get hk)) (seen_cell hO hx (by simp) hf A (by omega)))
  have HCm0 : ∀ wx q cap, Grommet.Own w0 wx (Ps ++ [rowP 44 1 (.slice (some ⟨q, 0, none⟩) ws.length cap) ws.length ((ws.map (·.seen)).map wv)]) → Calls Tryz.prog 66 #[gv a b c, .slice (some ⟨q, 0, none⟩) ws.length cap, .int .i64 (A : Int)] wx fun e w' => e = .returned (.tuple #[.slice none 0 0, .bool false]) ∧ Grommet.Own w0 w' (Ps ++ [rowP 44 1 (.slice (some ⟨q, 0, none⟩) ws.length cap) ws.length ((ws.map (·.seen)).map wv)]) := by
    intro wx q cap hO
    obtain ⟨q', he, _, hw, hc⟩ := seen_cell hO hx (by simp) hf A (by omega)
    cases he
    refine (committed_any wx.heap.size a b c q 0 ws.length cap _ A wx hw hc hA (by omega) (Nat.le_refl _)).mono ?_
    rintro e w' (⟨hy, _⟩ | ⟨_, rfl, hg⟩)
    · rw [hB] at hy; cases hy
    · exact ⟨rfl, hO.quiet hg⟩
  have HCm := Lib.hid HCm0
  have HK := Lib.hid (fun wx ad cap (hO : Grommet.Own w0 wx (Ps ++ [rowP 44 1 (.slice ad ws.length cap) ws.length ((ws.map (·.seen)).map wv)])) => RC.of hO k (old_get hk))
  have HM0 : ∀ wx ad cap, Grommet.Own w0 wx (Ps ++ [rowP 44 1 (.slice ad ws.length cap) ws.length ((ws.map (·.seen)).map wv)]) → Calls Tryz.prog 57 #[ptr R, .int .u8 6, .int .u64 0] wx fun e w' => e = .returned (.tuple #[]) ∧ ∃ Bs' Pn', Grommet.Own w0 w' (Ps.set k (runP R D a b c A Bs' Pn' (markS M 6 A 0))) := by
    intro wx ad cap hO
    exact markH k R D a b c A Bs Pn [] 6 0 M w0 wx Ps hO.less hk hAM (by omega) (by simp; omega)
  have HM := Lib.hid HM0
  have hA' : (A : Int) < (ws.length : Int) := by omega
  have A0 : (0 : Int) ≤ (A : Int) := by omega
  generalize (ws.map (·.seen)).getD A 0 = m at h0 HC
  have q0 : ((m : Int) == 0) = false := by rw [beq_eq_false_iff_ne]; omega
  clear HM0 HCm0 h hk hj hN hf hx hA h0 hB hAM hM
  generalize ws.length = n at HS HC HCm HK HM hA'
  generalize (ws.map (·.seen)) = xs at HS HC HCm HK HM
  unfold RC ptr at HC
  unfold gv at HCm
  unfold ptr at HS c0 HM ⊢
  go_enter Tryz.func15, Tryz.ntmps15
  go_wp2_with fail
  refine HS.out.mono ?_
  rintro e w1 ⟨ad, cap, rfl, hO1⟩
  obtain ⟨⟨d0, d1, d2, d3, d4⟩, ⟨q, rfl, c1, _, hc⟩⟩ := HC.out w1 ad cap hO1
  have hOr := Lib.hid (hO1.quiet (grown_drew (World.grownBy.refl w1 none)))
  have hz0 := Lib.hid (HK.out _ _ _ hOr.out)
  clear HS HC hO1 c0 c4 c5
  go_wp2_with fail
  refine wp_region_held_drew (S := fun w' => RC R D a b c A w') (by kernel_rfl) (hz0.out) (fun hS => ?_)
  refine wpAnyH_take (i := 0) (oi := { dst := some 31, op := Op.move (Operand.tmp 0), type := 48, pos := "commit.go:88", after := #[], guard := none }) (v := ?vrs15r8o0) rfl (by kernel_rfl) (by kernel_rfl) (by kernel_rfl) (fun _ _ _ h => h) (Or.inl ⟨by rfl, ?hrs15r8o0⟩) hS ?_
  case hrs15r8o0 => (intro wx hx; skip; go_simp; (try with_reducible rfl))
  try simp only [Act.put, List.setIfInBounds_toArray, List.set_cons_zero, List.set_cons_succ]
  refine wpAnyH_take (i := 1) (oi := { dst := some 32, op := Op.nilCheck (Operand.tmp 31), type := 0, pos := "commit.go:88", after := #[{ on := 0, ground := Ground.data }], guard := none }) (v := ?vrs15r8o1) rfl (by kernel_rfl) (by kernel_rfl) (by kernel_rfl) (fun _ _ _ h => h) (Or.inl ⟨by rfl, ?hrs15r8o1⟩) hS ?_
  case hrs15r8o1 => (intro wx hx; skip; go_simp; (try with_reducible rfl))
  try simp only [Act.put, List.setIfInBounds_toArray, List.set_cons_zero, List.set_cons_succ]
  refine wpAnyH_take (i := 2) (oi := { dst := some 33, op := Op.fieldAddr 105 (Operand.tmp 32) 1, type := 0, pos := "commit.go:88", after := #[{ on := 1, ground := Ground.data }], guard := none }) (v := ?vrs15r8o2) rfl (by kernel_rfl) (by kernel_rfl) (by kernel_rfl) (fun _ _ _ h => h) (Or.inl ⟨by rfl, ?hrs15r8o2⟩) hS ?_
  case hrs15r8o2 => (intro wx hx; skip; go_simp; (try with_reducible rfl))
  try simp only [Act.put, List.setIfInBounds_toArray, List.set_cons_zero, List.set_cons_succ]
  refine wpAnyH_take (i := 3) (oi := { dst := some 34, op := Op.load 26 (Operand.tmp 33), type := 26, pos := "commit.go:88", after := #[{ on := 2, ground := Ground.data }], guard := none }) (v := ?vrs15r8o3) rfl (by kernel_rfl) (by kernel_rfl) (by kernel_rfl) (fun _ _ _ h => h) (Or.inl ⟨by rfl, ?hrs15r8o3⟩) hS ?_
  case hrs15r8o3 => (intro wx hx; obtain ⟨e0, e1, e2, e3, e4⟩ := hx; go_simp; (try with_reducible rfl))
  try simp only [Act.put, List.setIfInBounds_toArray, List.set_cons_zero, List.set_cons_succ]
  refine wpAnyH_take (i := 4) (oi := { dst := some 35, op := Op.move (Operand.tmp 4), type := 33, pos := "commit.go:88", after := #[], guard := none }) (v := ?vrs15r8o4) rfl (by kernel_rfl) (by kernel_rfl) (by kernel_rfl) (fun _ _ _ h => h) (Or.inl ⟨by rfl, ?hrs15r8o4⟩) hS ?_
  case hrs15r8o4 => (intro wx hx; skip; go_simp; (try with_reducible rfl))
  try simp only [Act.put, List.setIfInBounds_toArray, List.set_cons_zero, List.set_cons_succ]
  refine wpAnyH_take (i := 5) (oi := { dst := some 36, op := Op.move (Operand.tmp 0), type := 48, pos := "commit.go:88", after := #[], guard := none }) (v := ?vrs15r8o5) rfl (by kernel_rfl) (by kernel_rfl) (by kernel_rfl) (fun _ _ _ h => h) (Or.inl ⟨by rfl, ?hrs15r8o5⟩) hS ?_
  case hrs15r8o5 => (intro wx hx; skip; go_simp; (try with_reducible rfl))
  try simp only [Act.put, List.setIfInBounds_toArray, List.set_cons_zero, List.set_cons_succ]
  refine wpAnyH_take (i := 6) (oi := { dst := some 37, op := Op.nilCheck (Operand.tmp 36), type := 0, pos := "commit.go:88", after := #[{ on := 5, ground := Ground.data }], guard := none }) (v := ?vrs15r8o6) rfl (by kernel_rfl) (by kernel_rfl) (by kernel_rfl) (fun _ _ _ h => h) (Or.inl ⟨by rfl, ?hrs15r8o6⟩) hS ?_
  case hrs15r8o6 => (intro wx hx; skip; go_simp; (try with_reducible rfl))
  try simp only [Act.put, List.setIfInBounds_toArray, List.set_cons_zero, List.set_cons_succ]
  refine wpAnyH_take (i := 7) (oi := { dst := some 38, op := Op.fieldAddr 105 (Operand.tmp 37) 2, type := 0, pos := "commit.go:88", after := #[{ on := 6, ground := Ground.data }], guard := none }) (v := ?vrs15r8o7) rfl (by kernel_rfl) (by kernel_rfl) (by kernel_rfl) (fun _ _ _ h => h) (Or.inl ⟨by rfl, ?hrs15r8o7⟩) hS ?_
  case hrs15r8o7 => (intro wx hx; skip; go_simp; (try with_reducible rfl))
  try simp only [Act.put, List.setIfInBounds_toArray, List.set_cons_zero, List.set_cons_succ]
  refine wpAnyH_take (i := 8) (oi := { dst := some 39, op := Op.load 3 (Operand.tmp 38), type := 3, pos := "commit.go:88", after := #[{ on := 7, ground := Ground.data }], guard := none }) (v := ?vrs15r8o8) rfl (by kernel_rfl) (by kernel_rfl) (by kernel_rfl) (fun _ _ _ h => h) (Or.inl ⟨by rfl, ?hrs15r8o8⟩) hS ?_
  case hrs15r8o8 => (intro wx hx; obtain ⟨e0, e1, e2, e3, e4⟩ := hx; go_simp; (try with_reducible rfl))
  try simp only [Act.put, List.setIfInBounds_toArray, List.set_cons_zero, List.set_cons_succ]
  refine wpAnyH_ready (rs := [9]) (by kernel_rfl) (by simp) ?_
  refine AllReadyH.cons (o := { dst := some 40, op := Op.call { callee := Callee.value (Operand.func 66), args := #[Operand.tmp 34, Operand.tmp 35, Operand.tmp 39], argTypes := #[26, 33, 3] }, type := 119, pos := "commit.go:88", after := #[{ on := 3, ground := Ground.data }, { on := 4, ground := Ground.data }, { on := 8, ground := Ground.data }], guard := none }) rfl (fun K hK => ?_) AllReadyH.nil
  go_simp
  refine (HCm.out _ _ _ hOr.out).mono ?_
  rintro e v1 ⟨rfl, hn⟩
  have hOn := Lib.hid hn
  clear hOr hn
  have hOr := hOn
  clear hOn
  refine hK.out _ _ ?hsrs15r8o9 (fun hS => ?_)
  case hsrs15r8o9 => (exact HK.out _ _ _ hOr.out)
  clear hK K
  try simp only [Act.put, List.setIfInBounds_toArray, List.set_cons_zero, List.set_cons_succ]
  refine wpAnyH_take (i := 10) (oi := { dst := some 30, op := Op.move (Operand.tmp 40), type := 119, pos := "commit.go:88", after := #[{ on := 9, ground := Ground.data }], guard := none }) (v := ?vrs15r8o10) rfl (by kernel_rfl) (by kernel_rfl) (by kernel_rfl) (fun _ _ _ h => h) (Or.inl ⟨by rfl, ?hrs15r8o10⟩) hS ?_
  case hrs15r8o10 => (intro wx hx; skip; go_simp; (try with_reducible rfl))
  try simp only [Act.put, List.setIfInBounds_toArray, List.set_cons_zero, List.set_cons_succ]
  refine wpAnyH_take (i := 11) (oi := { dst := some 41, op := Op.extract (Operand.tmp 30) 0, type := 43, pos := "commit.go:88", after := #[{ on := 10, ground := Ground.data }], guard := none }) (v := ?vrs15r8o11) rfl (by kernel_rfl) (by kernel_rfl) (by kernel_rfl) (fun _ _ _ h => h) (Or.inl ⟨by rfl, ?hrs15r8o11⟩) hS ?_
  case hrs15r8o11 => (intro wx hx; skip; go_simp; (try with_reducible rfl))
  try simp only [Act.put, List.setIfInBounds_toArray, List.set_cons_zero, List.set_cons_succ]
  refine wpAnyH_take (i := 12) (oi := { dst := some 42, op := Op.extract (Operand.tmp 30) 1, type := 4, pos := "commit.go:88", after := #[{ on := 10, ground := Ground.data }, { on := 13, ground := Ground.gcOnly Departure.lateStores }], guard := none }) (v := ?vrs15r8o12) rfl (by kernel_rfl) (by kernel_rfl) (by kernel_rfl) (fun _ _ _ h => h) (Or.inl ⟨by rfl, ?hrs15r8o12⟩) hS ?_
  case hrs15r8o12 => (intro wx hx; skip; go_simp; (try with_reducible rfl))
  try simp only [Act.put, List.setIfInBounds_toArray, List.set_cons_zero, List.set_cons_succ]
  refine wpAnyH_take (i := 13) (oi := { dst := some 5, op := Op.assign (Operand.tmp 41), type := 43, pos := "commit.go:88", after := #[{ on := 11, ground := Ground.data }, { on := 9, ground := Ground.chain }, { on := 0, ground := Ground.phase }, { on := 1, ground := Ground.phase }, { on := 2, ground := Ground.phase }, { on := 3, ground := Ground.phase }, { on := 4, ground := Ground.phase }, { on := 5, ground := Ground.phase }, { on := 6, ground := Ground.phase }, { on := 7, ground := Ground.phase }, { on := 8, ground := Ground.phase }, { on := 9, ground := Ground.phase }, { on := 10, ground := Ground.phase }, { on := 11, ground := Ground.phase }, { on := 12, ground := Ground.textOnly Departure.lateStores }], guard := none }) (v := ?vrs15r8o13) rfl (by kernel_rfl) (by kernel_rfl) (by kernel_rfl) (fun _ _ _ h => h) (Or.inl ⟨by rfl, ?hrs15r8o13⟩) hS ?_
  case hrs15r8o13 => (intro wx hx; skip; go_simp; (try with_reducible rfl))
  try simp only [Act.put, List.setIfInBounds_toArray, List.set_cons_zero, List.set_cons_succ]
  refine wpAnyH_take (i := 14) (oi := { dst := some 6, op := Op.assign (Operand.tmp 42), type := 4, pos := "commit.go:88", after := #[{ on := 12, ground := Ground.data }, { on := 13, ground := Ground.chain }, { on := 0, ground := Ground.phase }, { on := 1, ground := Ground.phase }, { on := 2, ground := Ground.phase }, { on := 3, ground := Ground.phase }, { on := 4, ground := Ground.phase }, { on := 5, ground := Ground.phase }, { on := 6, ground := Ground.phase }, { on := 7, ground := Ground.phase }, { on := 8, ground := Ground.phase }, { on := 9, ground := Ground.phase }, { on := 10, ground := Ground.phase }, { on := 11, ground := Ground.phase }, { on := 12, ground := Ground.phase }, { on := 13, ground := Ground.phase }], guard := none }) (v := ?vrs15r8o14) rfl (by kernel_rfl) (by kernel_rfl) (by kernel_rfl) (fun _ _ _ h => h) (Or.inl ⟨by rfl, ?hrs15r8o14⟩) hS ?_
  case hrs15r8o14 => (intro wx hx; skip; go_simp; (try with_reducible rfl))
  try simp only [Act.put, List.setIfInBounds_toArray, List.set_cons_zero, List.set_cons_succ]
  refine wpAnyH_done (by kernel_rfl) ?_ _
  have HM2 := Lib.hid (HM.out _ _ _ hOr.out)
  clear hOr HM HK HCm hS hz0
  go_wp2_with fail
  refine HM2.out.mono ?_
  rintro e w2 ⟨rfl, B2, P2, hO2⟩
  have hO2 := Lib.hid hO2
  go_wp2
  go_ret2
  exact ⟨rfl, _, _, hO2.out⟩

set_option maxRecDepth 100000 in
set_option maxHeartbeats 2000000 in
theorem ResumeYes (k j R D : Nat) (a b c : Int) (A : Nat) (Bs : List Nat) (Pn : List (Cl × Value)) (ws : List PW) (N M : Nat) (w0 w : World) (Ps : List Pr) (h : Grommet.Own w0 w Ps) (hk : Ps[k]? = some (runP R D a b c A Bs Pn [])) (hj : Ps[j]? = some (devP D ws)) (hN : ws.length = 8 * N) (hf : ws.length ≤ 65536) (hx : ∀ v ∈ ws.map (·.seen), v < 18446744073709551616) (hA : A + 208 ≤ ws.length)
    (h0 : (ws.map (·.seen)).getD A 0 ≠ 0) (hB : commB a b c (ws.map (·.seen)) A = true) (hW : ∀ x ∈ commM (ws.map (·.seen)) A, 0 ≤ x.1 ∧ x.1.toNat / 8 < M ∧ x.1 < 1000000) (hAM : A / 8 < M) (hM : M ≤ 10000) :
    Calls Tryz.prog 15 #[ptr R] w fun e w' => e = .returned (.tuple #[.bool true, .int .i64 0]) ∧ ∃ Bs' Pn', Grommet.Own w0 w' (Ps.set k (runP R D a b c A Bs' Pn' (applyS M A (commM (ws.map (·.seen)) A)))) := by
  have hkl := (List.getElem?_eq_some_iff.1 hk).1
  have hZ := comm_len hB
  obtain ⟨Z, hZe⟩ : ∃ Z, (commM (ws.map (·.seen)) A).length = Z := ⟨_, rfl⟩
  have HS := Lib.hid (SeenH j D ws w0 w Ps h hj N hN)
  obtain ⟨c0, _, _, _, c4, ⟨ads, caps, c5⟩, _, _⟩ := run_cells h k hk
  have c5 : w.cell? ⟨R, 5, none⟩ = some (.slice ads 0 caps) := c5
  have HC := Lib.hid (fun wx ad cap (hO : Grommet.Own w0 wx (Ps ++ [rowP 44 1 (.slice ad ws.length cap) ws.length ((ws.map (·.seen)).map wv)])) => And.intro (RC.of hO k (old_get hk)) (seen_cell hO hx (by simp) hf A (by omega)))
  have HCm0 : ∀ wx q cap, Grommet.Own w0 wx (Ps ++ [rowP 44 1 (.slice (some ⟨q, 0, none⟩) ws.length cap) ws.length ((ws.map (·.seen)).map wv)]) → Calls Tryz.prog 66 #[gv a b c, .slice (some ⟨q, 0, none⟩) ws.length cap, .int .i64 (A : Int)] wx fun e w' => ∃ ad1 cp1, e = .returned (.tuple #[.slice ad1 Z cp1, .bool true]) ∧ Grommet.Own w0 w' (Ps ++ [rowP 92 2 (.slice ad1 Z cp1) Z (icells (commM (ws.map (·.seen)) A))]) := by
    intro wx q cap hO
    obtain ⟨q', he, _, hw, hc⟩ := seen_cell hO hx (by simp) hf A (by omega)
    cases he
    refine (committed_any wx.heap.size a b c q 0 ws.length cap _ A wx hw hc hA (by omega) (Nat.le_refl _)).mono ?_
    rintro e w' (⟨_, ad1, cp1, n1, rfl, hn1, hrow, hg⟩ | ⟨hy, _, _⟩)
    · rw [hZe] at hn1
      subst hn1
      exact ⟨ad1, cp1, rfl, hO.less.addRow hrow hg⟩
    · rw [hB] at hy; cases hy
  have HCm := Lib.hid HCm0
  have HK0 := Lib.hid (fun wx ad cap (hO : Grommet.Own w0 wx (Ps ++ [rowP 44 1 (.slice ad ws.length cap) ws.length ((ws.map (·.seen)).map wv)])) => RC.of hO k (old_get hk))
  have HK := Lib.hid (fun wx ad cap (hO : Grommet.Own w0 wx (Ps ++ [rowP 92 2 (.slice ad Z cap) Z (icells (commM (ws.map (·.seen)) A))])) => RC.of hO k (old_get hk))
  have HM0 : ∀ wx ad cap, Grommet.Own w0 wx (Ps ++ [rowP 92 2 (.slice ad Z cap) Z (icells (commM (ws.map (·.seen)) A))]) → Calls Tryz.prog 59 #[ptr R, .slice ad Z cap] wx fun e w' => e = .returned (.tuple #[]) ∧ ∃ Bs' Pn', Grommet.Own w0 w' (Ps.set k (runP R D a b c A Bs' Pn' (applyS M A (commM (ws.map (·.seen)) A)))) := by
    intro wx ad cap hO
    refine (applyH k Ps.length R D a b c A Bs Pn [] ad Z cap (commM (ws.map (·.seen)) A) M w0 wx _ hO (old_get hk) last_get (by omega) hZe hW hAM (by omega) (by simp; omega)).mono ?_
    rintro e w' ⟨rfl, B2, P2, hO2⟩
    rw [set_end hkl, List.nil_append] at hO2
    exact ⟨rfl, B2, P2, hO2.less⟩
  have HM := Lib.hid HM0
  have hA' : (A : Int) < (ws.length : Int) := by omega
  have A0 : (0 : Int) ≤ (A : Int) := by omega
  generalize (ws.map (·.seen)).getD A 0 = m at h0 HC
  have q0 : ((m : Int) == 0) = false := by rw [beq_eq_false_iff_ne]; omega
  clear HM0 HCm0 h hk hj hN hf hx hA h0 hB hAM hM hW hZ hZe
  generalize ws.length = n at HS HC HCm HK HK0 HM hA'
  generalize (ws.map (·.seen)) = xs at HS HC HCm HK HK0 HM ⊢
  generalize applyS M A (commM xs A) = SS at HM ⊢
  generalize icells (commM xs A) = ic at HCm HK HM
  unfold RC ptr at HC
  unfold gv at HCm
  unfold ptr at HS c0 HM ⊢
  go_enter Tryz.func15, Tryz.ntmps15
  go_wp2_with fail
  refine HS.out.mono ?_
  rintro e w1 ⟨ad, cap, rfl, hO1⟩
  obtain ⟨⟨d0, d1, d2, d3, d4⟩, ⟨q, rfl, c1, _, hc⟩⟩ := HC.out w1 ad cap hO1
  have hOr := Lib.hid (hO1.quiet (grown_drew (World.grownBy.refl w1 none)))
  have hz0 := Lib.hid (HK0.out _ _ _ hOr.out)
  clear HS HC hO1 c0 c4 c5 HK0
  go_wp2_with fail
  refine wp_region_held_drew (S := fun w' => RC R D a b c A w') (by kernel_rfl) (hz0.out) (fun hS => ?_)
  refine wpAnyH_take (i := 0) (oi := { dst := some 31, op := Op.move (Operand.tmp 0), type := 48, pos := "commit.go:88", after := #[], guard := none }) (v := ?vrt15r8o0) rfl (by kernel_rfl) (by kernel_rfl) (by kernel_rfl) (fun _ _ _ h => h) (Or.inl ⟨by rfl, ?hrt15r8o0⟩) hS ?_
  case hrt15r8o0 => (intro wx hx; skip; go_simp; (try with_reducible rfl))
  try simp only [Act.put, List.setIfInBounds_toArray, List.set_cons_zero, List.set_cons_succ]
  refine wpAnyH_take (i := 1) (oi := { dst := some 32, op := Op.nilCheck (Operand.tmp 31), type := 0, pos := "commit.go:88", after := #[{ on := 0, ground := Ground.data }], guard := none }) (v := ?vrt15r8o1) rfl (by kernel_rfl) (by kernel_rfl) (by kernel_rfl) (fun _ _ _ h => h) (Or.inl ⟨by rfl, ?hrt15r8o1⟩) hS ?_
  case hrt15r8o1 => (intro wx hx; skip; go_simp; (try with_reducible rfl))
  try simp only [Act.put, List.setIfInBounds_toArray, List.set_cons_zero, List.set_cons_succ]
  refine wpAnyH_take (i := 2) (oi := { dst := some 33, op := Op.fieldAddr 105 (Operand.tmp 32) 1, type := 0, pos := "commit.go:88", after := #[{ on := 1, ground := Ground.data }], guard := none }) (v := ?vrt15r8o2) rfl (by kernel_rfl) (by kernel_rfl) (by kernel_rfl) (fun _ _ _ h => h) (Or.inl ⟨by rfl, ?hrt15r8o2⟩) hS ?_
  case hrt15r8o2 => (intro wx hx; skip; go_simp; (try with_reducible rfl))
  try simp only [Act.put, List.setIfInBounds_toArray, List.set_cons_zero, List.set_cons_succ]
  refine wpAnyH_take (i := 3) (oi := { dst := some 34, op := Op.load 26 (Operand.tmp 33), type := 26, pos := "commit.go:88", after := #[{ on := 2, ground := Ground.data }], guard := none }) (v := ?vrt15r8o3) rfl (by kernel_rfl) (by kernel_rfl) (by kernel_rfl) (fun _ _ _ h => h) (Or.inl ⟨by rfl, ?hrt15r8o3⟩) hS ?_
  case hrt15r8o3 => (intro wx hx; obtain ⟨e0, e1, e2, e3, e4⟩ := hx; go_simp; (try with_reducible rfl))
  try simp only [Act.put, List.setIfInBounds_toArray, List.set_cons_zero, List.set_cons_succ]
  refine wpAnyH_take (i := 4) (oi := { dst := some 35, op := Op.move (Operand.tmp 4), type := 33, pos := "commit.go:88", after := #[], guard := none }) (v := ?vrt15r8o4) rfl (by kernel_rfl) (by kernel_rfl) (by kernel_rfl) (fun _ _ _ h => h) (Or.inl ⟨by rfl, ?hrt15r8o4⟩) hS ?_
  case hrt15r8o4 => (intro wx hx; skip; go_simp; (try with_reducible rfl))
  try simp only [Act.put, List.setIfInBounds_toArray, List.set_cons_zero, List.set_cons_succ]
  refine wpAnyH_take (i := 5) (oi := { dst := some 36, op := Op.move (Operand.tmp 0), type := 48, pos := "commit.go:88", after := #[], guard := none }) (v := ?vrt15r8o5) rfl (by kernel_rfl) (by kernel_rfl) (by kernel_rfl) (fun _ _ _ h => h) (Or.inl ⟨by rfl, ?hrt15r8o5⟩) hS ?_
  case hrt15r8o5 => (intro wx hx; skip; go_simp; (try with_reducible rfl))
  try simp only [Act.put, List.setIfInBounds_toArray, List.set_cons_zero, List.set_cons_succ]
  refine wpAnyH_take (i := 6) (oi := { dst := some 37, op := Op.nilCheck (Operand.tmp 36), type := 0, pos := "commit.go:88", after := #[{ on := 5, ground := Ground.data }], guard := none }) (v := ?vrt15r8o6) rfl (by kernel_rfl) (by kernel_rfl) (by kernel_rfl) (fun _ _ _ h => h) (Or.inl ⟨by rfl, ?hrt15r8o6⟩) hS ?_
  case hrt15r8o6 => (intro wx hx; skip; go_simp; (try with_reducible rfl))
  try simp only [Act.put, List.setIfInBounds_toArray, List.set_cons_zero, List.set_cons_succ]
  refine wpAnyH_take (i := 7) (oi := { dst := some 38, op := Op.fieldAddr 105 (Operand.tmp 37) 2, type := 0, pos := "commit.go:88", after := #[{ on := 6, ground := Ground.data }], guard := none }) (v := ?vrt15r8o7) rfl (by kernel_rfl) (by kernel_rfl) (by kernel_rfl) (fun _ _ _ h => h) (Or.inl ⟨by rfl, ?hrt15r8o7⟩) hS ?_
  case hrt15r8o7 => (intro wx hx; skip; go_simp; (try with_reducible rfl))
  try simp only [Act.put, List.setIfInBounds_toArray, List.set_cons_zero, List.set_cons_succ]
  refine wpAnyH_take (i := 8) (oi := { dst := some 39, op := Op.load 3 (Operand.tmp 38), type := 3, pos := "commit.go:88", after := #[{ on := 7, ground := Ground.data }], guard := none }) (v := ?vrt15r8o8) rfl (by kernel_rfl) (by kernel_rfl) (by kernel_rfl) (fun _ _ _ h => h) (Or.inl ⟨by rfl, ?hrt15r8o8⟩) hS ?_
  case hrt15r8o8 => (intro wx hx; obtain ⟨e0, e1, e2, e3, e4⟩ := hx; go_simp; (try with_reducible rfl))
  try simp only [Act.put, List.setIfInBounds_toArray, List.set_cons_zero, List.set_cons_succ]
  refine wpAnyH_ready (rs := [9]) (by kernel_rfl) (by simp) ?_
  refine AllReadyH.cons (o := { dst := some 40, op := Op.call { callee := Callee.value (Operand.func 66), args := #[Operand.tmp 34, Operand.tmp 35, Operand.tmp 39], argTypes := #[26, 33, 3] }, type := 119, pos := "commit.go:88", after := #[{ on := 3, ground := Ground.data }, { on := 4, ground := Ground.data }, { on := 8, ground := Ground.data }], guard := none }) rfl (fun K hK => ?_) AllReadyH.nil
  go_simp
  refine (HCm.out _ _ _ hOr.out).mono ?_
  rintro e v1 ⟨ad1, cp1, rfl, hn⟩
  have hOn := Lib.hid hn
  clear hOr hn
  have hOr := hOn
  clear hOn
  refine hK.out _ _ ?hsrt15r8o9 (fun hS => ?_)
  case hsrt15r8o9 => (exact HK.out _ _ _ hOr.out)
  clear hK K
  try simp only [Act.put, List.setIfInBounds_toArray, List.set_cons_zero, List.set_cons_succ]
  refine wpAnyH_take (i := 10) (oi := { dst := some 30, op := Op.move (Operand.tmp 40), type := 119, pos := "commit.go:88", after := #[{ on := 9, ground := Ground.data }], guard := none }) (v := ?vrt15r8o10) rfl (by kernel_rfl) (by kernel_rfl) (by kernel_rfl) (fun _ _ _ h => h) (Or.inl ⟨by rfl, ?hrt15r8o10⟩) hS ?_
  case hrt15r8o10 => (intro wx hx; skip; go_simp; (try with_reducible rfl))
  try simp only [Act.put, List.setIfInBounds_toArray, List.set_cons_zero, List.set_cons_succ]
  refine wpAnyH_take (i := 11) (oi := { dst := some 41, op := Op.extract (Operand.tmp 30) 0, type := 43, pos := "commit.go:88", after := #[{ on := 10, ground := Ground.data }], guard := none }) (v := ?vrt15r8o11) rfl (by kernel_rfl) (by kernel_rfl) (by kernel_rfl) (fun _ _ _ h => h) (Or.inl ⟨by rfl, ?hrt15r8o11⟩) hS ?_
  case hrt15r8o11 => (intro wx hx; skip; go_simp; (try with_reducible rfl))
  try simp only [Act.put, List.setIfInBounds_toArray, List.set_cons_zero, List.set_cons_succ]
  refine wpAnyH_take (i := 12) (oi := { dst := some 42, op := Op.extract (Operand.tmp 30) 1, type := 4, pos := "commit.go:88", after := #[{ on := 10, ground := Ground.data }, { on := 13, ground := Ground.gcOnly Departure.lateStores }], guard := none }) (v := ?vrt15r8o12) rfl (by kernel_rfl) (by kernel_rfl) (by kernel_rfl) (fun _ _ _ h => h) (Or.inl ⟨by rfl, ?hrt15r8o12⟩) hS ?_
  case hrt15r8o12 => (intro wx hx; skip; go_simp; (try with_reducible rfl))
  try simp only [Act.put, List.setIfInBounds_toArray, List.set_cons_zero, List.set_cons_succ]
  refine wpAnyH_take (i := 13) (oi := { dst := some 5, op := Op.assign (Operand.tmp 41), type := 43, pos := "commit.go:88", after := #[{ on := 11, ground := Ground.data }, { on := 9, ground := Ground.chain }, { on := 0, ground := Ground.phase }, { on := 1, ground := Ground.phase }, { on := 2, ground := Ground.phase }, { on := 3, ground := Ground.phase }, { on := 4, ground := Ground.phase }, { on := 5, ground := Ground.phase }, { on := 6, ground := Ground.phase }, { on := 7, ground := Ground.phase }, { on := 8, ground := Ground.phase }, { on := 9, ground := Ground.phase }, { on := 10, ground := Ground.phase }, { on := 11, ground := Ground.phase }, { on := 12, ground := Ground.textOnly Departure.lateStores }], guard := none }) (v := ?vrt15r8o13) rfl (by kernel_rfl) (by kernel_rfl) (by kernel_rfl) (fun _ _ _ h => h) (Or.inl ⟨by rfl, ?hrt15r8o13⟩) hS ?_
  case hrt15r8o13 => (intro wx hx; skip; go_simp; (try with_reducible rfl))
  try simp only [Act.put, List.setIfInBounds_toArray, List.set_cons_zero, List.set_cons_succ]
  refine wpAnyH_take (i := 14) (oi := { dst := some 6, op := Op.assign (Operand.tmp 42), type := 4, pos := "commit.go:88", after := #[{ on := 12, ground := Ground.data }, { on := 13, ground := Ground.chain }, { on := 0, ground := Ground.phase }, { on := 1, ground := Ground.phase }, { on := 2, ground := Ground.phase }, { on := 3, ground := Ground.phase }, { on := 4, ground := Ground.phase }, { on := 5, ground := Ground.phase }, { on := 6, ground := Ground.phase }, { on := 7, ground := Ground.phase }, { on := 8, ground := Ground.phase }, { on := 9, ground := Ground.phase }, { on := 10, ground := Ground.phase }, { on := 11, ground := Ground.phase }, { on := 12, ground := Ground.phase }, { on := 13, ground := Ground.phase }], guard := none }) (v := ?vrt15r8o14) rfl (by kernel_rfl) (by kernel_rfl) (by kernel_rfl) (fun _ _ _ h => h) (Or.inl ⟨by rfl, ?hrt15r8o14⟩) hS ?_
  case hrt15r8o14 => (intro wx hx; skip; go_simp; (try with_reducible rfl))
  try simp only [Act.put, List.setIfInBounds_toArray, List.set_cons_zero, List.set_cons_succ]
  refine wpAnyH_done (by kernel_rfl) ?_ _
  have HM2 := Lib.hid (HM.out _ _ _ hOr.out)
  clear hOr HM HK HCm hS hz0
  go_wp2_with fail
  refine HM2.out.mono ?_
  rintro e w2 ⟨rfl, B2, P2, hO2⟩
  have hO2 := Lib.hid hO2
  go_wp2
  go_ret2
  exact ⟨rfl, _, _, hO2.out⟩
end Go.Proofs.YtpdofdloclmbdaaGreat
end
section
/- CommitPlays: the law's device, and the document's, which go together. -/
namespace Go.Proofs.YtpdofdloclmbdaaGreat
open Go.RowKit Go.Grommet

def AnyQ (N : Nat) (ws : List PW) (rs : List RW) : Prop := AnyR N rs ∧ Rel ws rs
def DevAnsQ (N : Nat) (w0 : World) (Ps : List Pr) (xs : List Nat) (e : Ending) (w' : World) : Prop := ∃ d r g rs, e = .returned (.tuple #[ptr d, ptr r, .bool true]) ∧ AnyQ N (cleanL xs) rs ∧ Grommet.Own w0 w' ((Ps ++ [devP d (cleanL xs)]) ++ [rowR g N rs, boxR r g N])

set_option maxRecDepth 100000 in
set_option maxHeartbeats 4000000 in
theorem deviceQ (m : Nat) (ad : Option Addr) (N cap : Nat) (xs : List Nat) (w0 w : World) (Ps : List Pr) (h : Grommet.Own w0 w Ps) (hm : Ps[m]? = some (rowP 44 1 (.slice ad N cap) N (xs.map wv))) (hxl : xs.length = N) (hxs : ∀ n ∈ xs, n < 18446744073709551616) (h8 : 8 ≤ N) (hN : N ≤ 65536) (hd : N % 8 = 0) :
    Calls Tryz.prog 9 #[.slice ad N cap] w (DevAnsQ N w0 Ps xs) := by
  have hml := (List.getElem?_eq_some_iff.1 hm).1
  have HN := Lib.hid (NewH N w0 w Ps h h8 hN hd)
  have HR := Lib.hid (fun wx d (hO : Grommet.Own w0 wx (Ps ++ [devP d (devS xs 0)])) => RNew_yes N w0 wx _ hO h8 hN hd)
  have hz0 := devS_zero xs
  rw [hxl] at hz0
  rw [← hz0] at HN
  -- the list of things
  have hRD : ∀ (d g r : Nat) (ws : List PW) (rs : List RW), AnyR N rs → RD ((Ps ++ [devP d ws]) ++ [rowR g N rs, boxR r g N]) (Ps.length + 2) (Ps.length + 1) r g N rs := by
    intro d g r ws rs hA
    refine ⟨?_, ?_, by omega, hA.1, hA.2, hN⟩
    · rw [List.getElem?_append_right (by simp)]; simp
    · rw [List.getElem?_append_right (by simp)]; simp
  have hsetR : ∀ (d g r : Nat) (ws : List PW) (rs rs' : List RW), ((Ps ++ [devP d ws]) ++ [rowR g N rs, boxR r g N]).set (Ps.length + 1) (rowR g N rs') = (Ps ++ [devP d ws]) ++ [rowR g N rs', boxR r g N] := by
    intro d g r ws rs rs'
    rw [List.set_append_right _ _ (by simp)]; simp
  have hsetD : ∀ (d g r : Nat) (ws ws' : List PW) (rs : List RW), ((Ps ++ [devP d ws]) ++ [rowR g N rs, boxR r g N]).set Ps.length (devP d ws') = (Ps ++ [devP d ws']) ++ [rowR g N rs, boxR r g N] := by
    intro d g r ws ws' rs
    rw [List.set_append_left _ _ (by simp), List.set_append_right _ _ (by simp)]; simp
  have hgetD : ∀ (d g r : Nat) (ws : List PW) (rs : List RW), ((Ps ++ [devP d ws]) ++ [rowR g N rs, boxR r g N])[Ps.length]? = some (devP d ws) := by
    intro d g r ws rs
    rw [List.getElem?_append_left (by simp), List.getElem?_append_right (by simp)]; simp
  have hgetM : ∀ (d g r : Nat) (ws : List PW) (rs : List RW), ((Ps ++ [devP d ws]) ++ [rowR g N rs, boxR r g N])[m]? = some (rowP 44 1 (.slice ad N cap) N (xs.map wv)) := by
    intro d g r ws rs
    rw [List.getElem?_append_left (by simp; omega), List.getElem?_append_left hml]; exact hm
  have HSt0 : ∀ (i d g r : Nat) (rs : List RW) (wx : World), i < N → AnyR N rs → Grommet.Own w0 wx ((Ps ++ [devP d (devS xs i)]) ++ [rowR g N rs, boxR r g N]) →
      (∃ b, ad = some ⟨b, 0, none⟩ ∧ wx.cell? ⟨b, i, none⟩ = some (.int .u64 (xs.getD i 0 : Int))) ∧
      Calls Tryz.prog 17 #[ptr d, .int .i64 (i : Int), .int .u64 (xs.getD i 0 : Int)] wx fun e w' => e = .returned (.int .i64 0) ∧ Grommet.Own w0 w' ((Ps ++ [devP d (devS xs (i + 1))]) ++ [rowR g N rs, boxR r g N]) := by
    intro i d g r rs wx hi hA hO
    have hix : i < xs.length := by omega
    obtain ⟨b, he, c1, _, _⟩ := Own.cell hO m (hgetM ..) i (wv (xs.getD i 0)) (by rw [List.getElem?_map, List.getElem?_eq_getElem hix, List.getD_eq_getElem?_getD, List.getElem?_eq_getElem hix]; rfl)
    refine ⟨⟨b, he, c1⟩, ?_⟩
    have := StoreH Ps.length d (devS xs i) w0 wx _ hO (hgetD ..) i _ (devS_get xs i i hix) (xs.getD i 0) (by rw [List.getD_eq_getElem?_getD, List.getElem?_eq_getElem hix]; exact hxs _ (by simp))
    rw [devS_succ, hsetD] at this
    exact this
  have HSr0 : ∀ (i d g r : Nat) (rs : List RW) (wx : World), i < N → AnyQ N (devS xs i) rs → Grommet.Own w0 wx ((Ps ++ [devP d (devS xs (i + 1))]) ++ [rowR g N rs, boxR r g N]) →
      (∃ b, ad = some ⟨b, 0, none⟩ ∧ wx.cell? ⟨b, i, none⟩ = some (.int .u64 (xs.getD i 0 : Int))) ∧
      Calls Tryz.prog 18 #[ptr r, .int .i64 (i : Int), .int .u64 (xs.getD i 0 : Int)] wx fun e w' => e = .returned (.int .i64 0) ∧ ∃ rs', AnyQ N (devS xs (i + 1)) rs' ∧ Grommet.Own w0 w' ((Ps ++ [devP d (devS xs (i + 1))]) ++ [rowR g N rs', boxR r g N]) := by
    intro i d g r rs wx hi hA hO
    have hix : i < xs.length := by omega
    obtain ⟨b, he, c1, _, _⟩ := Own.cell hO m (hgetM ..) i (wv (xs.getD i 0)) (by rw [List.getElem?_map, List.getElem?_eq_getElem hix, List.getD_eq_getElem?_getD, List.getElem?_eq_getElem hix]; rfl)
    refine ⟨⟨b, he, c1⟩, ?_⟩
    refine (RStore_ok (Ps.length + 2) (Ps.length + 1) r g N rs i (rs[i]'(by rw [hA.1.1]; exact hi)) (List.getElem?_eq_getElem _) (xs.getD i 0) w0 wx _ hO (hRD d g r _ rs hA.1)).mono ?_
    rintro e w' ⟨rfl, hO2⟩
    rw [hsetR] at hO2
    exact ⟨rfl, _, ⟨hA.1.store i _ (by rw [List.getD_eq_getElem?_getD, List.getElem?_eq_getElem hix]; exact hxs _ (by simp)), by rw [← devS_succ]; exact hA.2.modify (fun c r h => h.store _) i⟩, hO2⟩
  obtain ⟨N8, hN8⟩ : ∃ n, N / 8 = n := ⟨_, rfl⟩
  have HEd0 : ∀ (i d g r : Nat) (rs : List RW) (wx : World), i < N8 → Grommet.Own w0 wx ((Ps ++ [devP d (devE xs i)]) ++ [rowR g N rs, boxR r g N]) →
      Calls Tryz.prog 19 #[ptr d, .int .i64 (i : Int)] wx fun e w' => e = .returned (.int .i64 0) ∧ Grommet.Own w0 w' ((Ps ++ [devP d (devE xs (i + 1))]) ++ [rowR g N rs, boxR r g N]) := by
    intro i d g r rs wx hi hO
    have := EvictH Ps.length d (devE xs i) w0 wx _ hO (hgetD ..) i (by rw [devE_len, hxl]; omega)
    rw [devE_succ, hsetD] at this
    exact this
  have HEr0 : ∀ (i d g r : Nat) (rs : List RW) (wx : World), i < N8 → AnyQ N (devE xs i) rs → Grommet.Own w0 wx ((Ps ++ [devP d (devE xs (i + 1))]) ++ [rowR g N rs, boxR r g N]) →
      Calls Tryz.prog 20 #[ptr r, .int .i64 (i : Int)] wx fun e w' => e = .returned (.int .i64 0) ∧ ∃ rs', AnyQ N (devE xs (i + 1)) rs' ∧ Grommet.Own w0 w' ((Ps ++ [devP d (devE xs (i + 1))]) ++ [rowR g N rs', boxR r g N]) := by
    intro i d g r rs wx hi hA hO
    refine (REvict_ok (Ps.length + 2) (Ps.length + 1) r g N rs i (by omega) w0 wx _ hO (hRD d g r _ rs hA.1)).mono ?_
    rintro e w' ⟨rfl, hO2⟩
    rw [hsetR] at hO2
    exact ⟨rfl, _, ⟨hA.1.evict _ _, by rw [← devE_succ]; exact hA.2.turn (fun c r h => h.evict) (8 * i) 8⟩, hO2⟩
  have HZ : Hid (devE xs 0 = devS xs N) := Lib.hid (by rw [devE_zero, hxl])
  have HY : Hid (devE xs N8 = cleanL xs) := Lib.hid (devE_all xs N8 (by omega))
  have HA0 : Hid (AnyQ N (devS xs 0) (List.replicate N RW.nought)) := Lib.hid ⟨⟨List.length_replicate, fun c hc => by
    rw [List.eq_of_mem_replicate hc]; exact ⟨by show 0 < _; decide, by show 0 < _; decide, by show 0 < _; decide⟩⟩, by rw [devS_len, hxl, List.length_replicate], fun k c r hc hr => by
    rw [devS_zero] at hc
    rw [List.eq_of_mem_replicate (List.mem_of_getElem? hc), List.eq_of_mem_replicate (List.mem_of_getElem? hr)]
    exact OkW.nought⟩
  have HSt := Lib.hid HSt0
  have HSr := Lib.hid HSr0
  have HEd := Lib.hid HEd0
  have HEr := Lib.hid HEr0
  have w8a : Int.tdiv (N : Int) 8 = (N8 : Int) := by rw [Int.tdiv_eq_ediv_of_nonneg (by omega)]; omega
  have w8b : (N : Int) / 8 = (N8 : Int) := by omega
  have w8c : IntKind.i64.wrap (N8 : Int) = (N8 : Int) := IntWalk.i64_in _ ⟨by omega, by omega⟩
  have hN8b : N8 ≤ 65536 := by omega
  unfold ptr at HN HSt HSr HEd HEr
  unfold NewR at HR
  unfold ptr at HR
  clear h hm hxl hxs h8 hd hz0 hRD hsetR hsetD hgetD hgetM HSt0 HSr0 HEd0 HEr0 hml hN8
  go_enter Tryz.func9, Tryz.ntmps9
  go_wp2_with fail
  refine HN.out.mono ?_
  rintro e w1 ⟨d, rfl, hO1⟩
  have HR1 := Lib.hid (HR.out w1 d hO1)
  clear HN HR hO1
  go_wp2_with fail
  refine HR1.out.mono ?_
  rintro e w2 ⟨r, g, rfl, hO2⟩
  have hO2 := Lib.hid hO2
  clear HR1
  go_wp2_with fail
  go_loopw [9] (fun i wr => ∃ (j : Nat) (rs : List RW), j ≤ N ∧ i = .int .i64 (j : Int) ∧ Hid (AnyQ N (devS xs j) rs) ∧ Hid (Grommet.Own w0 wr ((Ps ++ [devP d (devS xs j)]) ++ [rowR g N rs, boxR r g N]))) (fun i _ => N - (intOf i).toNat)
  case atStart => exact ⟨0, _, Nat.zero_le _, rfl, HA0, hO2⟩
  case round =>
    clear hO2 HA0
    obtain ⟨j, rs, hj, rfl, hA, hO⟩ := hrel
    have j0 : (0 : Int) ≤ (j : Int) := by omega
    by_cases hlt : j < N
    · as_aux_lemma =>
      have hlt' : (j : Int) < (N : Int) := by omega
      obtain ⟨⟨b, rfl, c1⟩, HS1⟩ := HSt.out j d g r rs wr hlt hA.out.1 hO.out
      have HS1 := Lib.hid HS1
      have HS2 := Lib.hid (fun wx hO => HSr.out j d g r rs wx hlt hA.out hO)
      have wj : IntKind.i64.wrap ((j : Int) + 1) = (j : Int) + 1 := IntWalk.i64_in _ ⟨by omega, by omega⟩
      generalize xs.getD j 0 = V at c1 HS1 HS2
      clear hO HSt HSr HEd HEr HZ HY hA
      go_wp2_with fail
      refine HS1.out.mono ?_
      rintro e w4 ⟨rfl, hO4⟩
      obtain ⟨⟨b', hb', c2⟩, HS3⟩ := HS2.out w4 hO4
      cases hb'
      have HS3 := Lib.hid HS3
      clear HS1 HS2 hO4 c1
      go_wp2_with fail
      refine HS3.out.mono ?_
      rintro e w5 ⟨rfl, rs', hA', hO5⟩
      have hO5 := Lib.hid hO5
      have hA' := Lib.hid hA'
      clear HS3 c2
      go_wp2
      go_roundw
      case rel => exact ⟨j + 1, rs', by omega, by go_num, hA', hO5⟩
      case measure => simp [intOf]; omega
    · obtain rfl : N = j := by omega
      have hlt' : ¬ (N : Int) < (N : Int) := by omega
      have hO3 : Hid (Grommet.Own w0 wr ((Ps ++ [devP d (devE xs 0)]) ++ [rowR g N rs, boxR r g N])) := Lib.hid (by rw [HZ.out]; exact hO.out)
      have hA : Hid (AnyQ N (devE xs 0) rs) := Lib.hid (by rw [HZ.out]; exact hA.out)
      clear hO HSt HSr HZ
      go_wp2_with fail
      go_loopw [10] (fun i wr => ∃ (j : Nat) (rs : List RW), j ≤ N8 ∧ i = .int .i64 (j : Int) ∧ Hid (AnyQ N (devE xs j) rs) ∧ Hid (Grommet.Own w0 wr ((Ps ++ [devP d (devE xs j)]) ++ [rowR g N rs, boxR r g N]))) (fun i _ => N8 - (intOf i).toNat)
      case atStart => exact ⟨0, _, Nat.zero_le _, rfl, hA, hO3⟩
      case round =>
        clear hO3 hA
        obtain ⟨j, rs, hj, rfl, hA, hO⟩ := hrel
        have j0 : (0 : Int) ≤ (j : Int) := by omega
        by_cases hlt : j < N8
        · as_aux_lemma =>
          have hlt2' : (j : Int) < (N8 : Int) := by omega
          have HS1 := Lib.hid (HEd.out j d g r rs wr hlt hO.out)
          have HS2 := Lib.hid (fun wx hO => HEr.out j d g r rs wx hlt hA.out hO)
          have wj : IntKind.i64.wrap ((j : Int) + 1) = (j : Int) + 1 := IntWalk.i64_in _ ⟨by omega, by omega⟩
          clear hO HEd HEr HY hA
          go_wp2_with fail
          refine HS1.out.mono ?_
          rintro e w4 ⟨rfl, hO4⟩
          have HS3 := Lib.hid (HS2.out w4 hO4)
          clear HS1 HS2 hO4
          go_wp2_with fail
          refine HS3.out.mono ?_
          rintro e w5 ⟨rfl, rs', hA', hO5⟩
          have hO5 := Lib.hid hO5
          have hA' := Lib.hid hA'
          clear HS3
          go_wp2
          go_roundw
          case rel => exact ⟨j + 1, rs', by omega, by go_num, hA', hO5⟩
          case measure => simp [intOf]; omega
        · obtain rfl : N8 = j := by omega
          have hlt2' : ¬ (N8 : Int) < (N8 : Int) := by omega
          have hO4 := hO.out
          rw [HY.out] at hO4
          have hA4 := hA.out
          rw [HY.out] at hA4
          have hA4 := Lib.hid hA4
          have hO4 := Lib.hid hO4
          clear hO HEd HEr HY hA
          go_wp2
          go_ret3
          exact ⟨_, _, _, _, rfl, hA4.out, hO4.out⟩
end Go.Proofs.YtpdofdloclmbdaaGreat
end
