/- Texts of ours, packed. -/
import Derived.Sort.OwnSortedInts
import Derived.Deep.RegionHeld
import Derived.BigQuiet
import Derived.Deep.QuietTactic
import Derived.WalkMore
import Derived.Test.YtkalglcbmfhdfaaGreatPk22
import Derived.Test.YtkalglcbmfhdfaaGreatPk1
import Derived.Test.YtkalglcbmfhdfaaGreatPk23
import Derived.Test.YtkalglcbmfhdfaaGreatPk17
import Derived.Test.YtkalglcbmfhdfaaGreatPk11
import Derived.Test.YtkalglcbmfhdfaaGreatPk16
import Derived.Test.YtkalglcbmfhdfaaGreatPk6
section
/- Package commit: sort, compact, rows of lines. -/
namespace Go.Proofs.YtkalglcbmfhdfaaGreat
open Go.RowKit Go.Grommet

def zv (x : Int) : Value := .int .i64 x
/-- Things made since a later world are things. -/
theorem Own.join {w0 w w' : World} {Ps Qs : List Pr} (h : Grommet.Own w0 w Ps) (k : Grommet.Own w w' Qs) : Grommet.Own w0 w' (Ps ++ Qs) := by
  have hq := h.quiet k.grown
  obtain ⟨Fs, h1, h2, h3, h4⟩ := h
  obtain ⟨Gs, g1, g2, g3, g4⟩ := k
  have oldOf : ∀ m, m < Ps.length → ∀ i, Fs m i → i < w.heap.size := fun m hm i hi => (Ps[m]).old (h1 m _ (by simp [hm])) i hi
  refine ⟨fun j => if j < Ps.length then Fs j else Gs (j - Ps.length), ?_, ?_, ?_, hq.grown⟩
  · intro j P hP
    by_cases hj : j < Ps.length
    · simp only [if_pos hj]
      rw [List.getElem?_append_left hj] at hP
      exact P.turn (h1 j P hP) (Turn.of (F := fun _ => False) g4 (fun _ e => by cases e)) (fun _ _ e => e)
    · simp only [if_neg hj]
      rw [List.getElem?_append_right (by omega)] at hP
      exact g1 _ P hP
  · intro j l hj hl hne i hi
    rw [List.length_append] at hj hl
    by_cases hjl : j < Ps.length
    · simp only [if_pos hjl] at hi
      by_cases hll : l < Ps.length
      · simp only [if_pos hll]; exact h2 j l hjl hll hne i hi
      · simp only [if_neg hll]
        intro hg
        have := oldOf j hjl i hi
        have := g3 (l - Ps.length) (by omega) i hg
        omega
    · simp only [if_neg hjl] at hi
      by_cases hll : l < Ps.length
      · simp only [if_pos hll]
        intro hg
        have := oldOf l hll i hg
        have := g3 (j - Ps.length) (by omega) i hi
        omega
      · simp only [if_neg hll]; exact g2 _ _ (by omega) (by omega) (by omega) i hi
  · intro j hj i hi
    rw [List.length_append] at hj
    by_cases hjl : j < Ps.length
    · simp only [if_pos hjl] at hi; exact h3 j hjl i hi
    · simp only [if_neg hjl] at hi; exact Nat.le_trans h4.size (g3 _ (by omega) i hi)
theorem holds_row {w : World} {g : Nat} {cur : Array Value} {e : TypeId} {zs : List Int} (hb : w.heap[g]? = some (.cells cur e (0, 0))) (ht : cur.toList.take (zs.length * 1) = zs.map zv) : Go.Sort.Holds (Value.int .i64) w g 0 zs.toArray :=
  holds_of_blockI hb (by rw [Nat.mul_one] at ht; exact ht)
/-- A row's beginning. -/
theorem row_prefix {w : World} {base e n cap : Nat} {ad : Option Addr} {xs : List Value} (h : w.ownsRow base e 1 (.slice ad n cap) n xs) (m : Nat) (hm : m ≤ n) (h0 : ad ≠ none) : w.ownsRow base e 1 (.slice ad m cap) m (xs.take m) := by
  obtain ⟨hl, h | ⟨g, cap', cur, he, hb, hh, hn, hmx, hc, htk⟩⟩ := h
  · cases h.1; exact absurd rfl h0
  · cases he
    refine ⟨by rw [List.length_take, hl]; omega, .inr ⟨g, cap, cur, rfl, hb, hh, by omega, hmx, hc, ?_⟩⟩
    rw [← htk, List.take_take, Nat.mul_one, Nat.mul_one, Nat.min_eq_left hm]

theorem SortH (k : Nat) (ad : Option Addr) (cap : Nat) (zs : List Int) (w0 w : World) (Ps : List Pr) (h : Grommet.Own w0 w Ps) (hk : Ps[k]? = some (rowP 3 1 (.slice ad zs.length cap) zs.length (zs.map zv))) (hl : zs.length ≤ 1000000) :
    Calls Tryz.prog 121 #[.slice ad zs.length cap] w fun e w' => e = .returned (.tuple #[]) ∧ Grommet.Own w0 w' (Ps.set k (rowP 3 1 (.slice ad zs.length cap) zs.length ((zs.mergeSort fun x y => decide (x ≤ y)).map zv))) := by
  by_cases h0 : zs = []
  · subst h0
    refine (Tryz.slices_Sort_int_none ad cap w).mono ?_
    rintro e w' ⟨rfl, rfl⟩
    refine ⟨rfl, ?_⟩
    rw [List.mergeSort_nil, set_selfC hk]
    exact h
  · have hpos : 0 < zs.length := List.length_pos_iff.2 h0
    obtain ⟨F, ⟨hr, f1, f2⟩, hback⟩ := h.take k hk
    obtain ⟨hlen, hr | ⟨g, cap', cur, he, hb, hh, hn, hmx, hc, htk⟩⟩ := hr
    · omega
    · cases he
      refine (Tryz.slices_Sort_int g 0 cap zs w (holds_row hh htk) (Array.getElem?_eq_some_iff.1 hh).1 (by omega)).mono ?_
      rintro e w' ⟨rfl, n, os, rfl⟩
      refine ⟨rfl, hback _ _ ⟨F, ⟨?_, f1, fun i hi => ?_⟩, fun i hi => .inl hi, Turn.of (grownBy_sortedI _) (fun i e => by cases e; exact f1 g rfl)⟩⟩
      · exact ownsRow_sortedI (List.length_mergeSort _) hb hh hn hmx hc
      · exact Nat.lt_of_lt_of_le (f2 i hi) (grownBy_sortedI (g := g) (n := n) (os := os) _).size
theorem CompactH (k : Nat) (ad : Option Addr) (cap : Nat) (zs : List Int) (w0 w : World) (Ps : List Pr) (h : Grommet.Own w0 w Ps) (hk : Ps[k]? = some (rowP 3 1 (.slice ad zs.length cap) zs.length (zs.map zv))) (hl : zs.length ≤ 1000000) :
    Calls Tryz.prog 122 #[.slice ad zs.length cap] w fun e w' => e = .returned (.slice ad (Lib.compact zs).length cap) ∧ Grommet.Own w0 w' (Ps.set k (rowP 3 1 (.slice ad (Lib.compact zs).length cap) (Lib.compact zs).length ((Lib.compact zs).map zv))) := by
  by_cases h0 : zs = []
  · subst h0
    refine (Tryz.slices_Compact_int_empty ad cap w).mono ?_
    rintro e w' ⟨rfl, rfl⟩
    refine ⟨rfl, ?_⟩
    show Grommet.Own w0 _ (Ps.set k (rowP 3 1 (.slice ad ([] : List Int).length cap) ([] : List Int).length (([] : List Int).map zv)))
    rw [set_selfC hk]
    exact h
  · have hpos : 0 < zs.length := List.length_pos_iff.2 h0
    obtain ⟨F, ⟨hr, f1, f2⟩, hback⟩ := h.take k hk
    obtain ⟨hlen, hr | ⟨g, cap', cur, he, hb, hh, hn, hmx, hc, htk⟩⟩ := hr
    · omega
    · cases he
      refine (Tryz.slices_Compact_int g 0 cap zs w (holds_row hh htk) (by omega) hn).mono ?_
      rintro e w' ⟨rfl, n, rfl⟩
      have hcl := compact_len zs
      rw [← Go.Sort.grow_empty (Go.Sort.putRow _ _ _ _ _)]
      have hts : (Lib.compact zs ++ List.replicate (zs.length - (Lib.compact zs).length) 0).length = zs.length := by simp; omega
      have hrow := row_prefix (ownsRow_sortedI (n := n) (os := #[]) hts hb hh hn hmx hc) (Lib.compact zs).length hcl (by simp)
      rw [List.map_append, List.take_append_of_le_length (by simp), List.take_of_length_le (by simp)] at hrow
      refine ⟨rfl, hback _ _ ⟨F, ⟨hrow, f1, fun i hi => ?_⟩, fun i hi => .inl hi, Turn.of (grownBy_sortedI _) (fun i e => by cases e; exact f1 g rfl)⟩⟩
      exact Nat.lt_of_lt_of_le (f2 i hi) (grownBy_sortedI (g := g) (n := n) (os := #[]) _).size
end Go.Proofs.YtkalglcbmfhdfaaGreat
end
section
/- Package commit: settle. -/
namespace Go.Proofs.YtkalglcbmfhdfaaGreat
open Go.RowKit Go.Grommet

def nv (x : Nat) : Value := .int .i64 (x : Int)
def q8 (x : Nat) : Int := ((x / 8 : Nat) : Int)
def flushS (p : Nat) (Z : List Nat) : List (Nat × Cl) := Z.map (fun l => (p, .flush l))
def settleS (M p : Nat) (ps : List Nat) : List (Nat × Cl) := flushS p (linesOf M ps) ++ [(p, .fence)]
theorem infoI : (Tryz.prog.info? 3).map (fun i => (i.zero, i.size, i.bytes)) = some (some (.int .i64 0), 1, 8) := by kernel_rfl
theorem take_snocN {α : Type} {L : List α} {j : Nat} {x : α} (h : L[j]? = some x) : L.take (j + 1) = L.take j ++ [x] := by
  rw [List.take_add_one, h]; rfl
/-- One number more behind a row. -/
theorem int_added {w0 w : World} {Qs : List Pr} (h : Grommet.Own w0 w Qs) (k : Nat) {ad : Option Addr} {n cap : Nat} {zs : List Int} (hk : Qs[k]? = some (rowP 3 1 (.slice ad n cap) n (zs.map zv))) (x : Int) (ty : TypeId) (hn : n ≤ 1000000) :
    ∃ ad' cap' w2, (Builtin.append_ #[171, 171] ty #[.slice ad n cap, .slice (some ⟨w.heap.size, 0, none⟩) 1 1]).run Tryz.prog (w.alloc (.cells #[.int .i64 x] 3)) = .ok (.slice ad' (n + 1) cap') w2 ∧ Grommet.Own w0 w2 (Qs.set k (rowP 3 1 (.slice ad' (n + 1) cap') (n + 1) ((zs ++ [x]).map zv))) := by
  obtain ⟨i0, hi, hz0, hz1, hz2⟩ := info_parts infoI
  have hO1 := h.quiet (World.grownBy_alloc w (.cells #[.int .i64 x] 3) none)
  have hrow := Own.row hO1 k hk
  have hnews : ∀ j u, [zv x][j]? = some u → (w.alloc (.cells #[.int .i64 x] 3)).cell? ((⟨w.heap.size, 0, none⟩ : Addr).add j) = some u := (at_of_row (heap_alloc_new w (.cells #[.int .i64 x] 3))).some
  have h1 : ∀ u ∈ [zv x], u.oneCell' = true := by intro u hu; simp at hu; subst hu; rfl
  obtain ⟨v', w', hr, h2, h3, h4⟩ := run_append_blk (P := Tryz.prog) (w.alloc (.cells #[.int .i64 x] 3)) 0 171 ty 3 i0 (.int .i64 0) 1 8 Tryz.underlying171 hi hz0 hz1 hz2 rfl (by decide) (.slice ad n cap) n (zs.map zv) hrow ⟨w.heap.size, 0, none⟩ 1 1 [zv x] rfl hnews h1 (by unfold maxLen; omega) (by omega) (Nat.zero_le _)
  obtain ⟨ad', cap', rfl, _⟩ := row_slice h2
  refine ⟨ad', cap', w', hr, ?_⟩
  have := Own.append hO1 k hk h2 h3 h4
  rw [List.map_append]
  exact this
/-- The run among other things, with one more behind it. -/
theorem set_snoc {Ps : List Pr} {k : Nat} {P P' Q : Pr} (hkl : k < Ps.length) : ((Ps.set k P) ++ [Q]).set k P' = Ps.set k P' ++ [Q] := by
  rw [List.set_append_left _ _ (by simpa using hkl), List.set_set]

theorem get_snoc {Ps : List Pr} {k : Nat} {P Q : Pr} : ((Ps.set k P) ++ [Q])[Ps.length]? = some Q := by
  rw [List.getElem?_append_right (by simp)]; simp

set_option maxRecDepth 100000 in
set_option maxHeartbeats 4000000 in
theorem settleH (k R D : Nat) (a b c : Int) (A : Nat) (Bs : List Nat) (Pn : List (Cl × Value)) (S : List (Nat × Cl)) (p : Nat) (ad : Option Addr) (n cap : Nat) (ps : List Nat) (M : Nat) (w0 w : World) (Ps : List Pr) (h : Grommet.Own w0 w Ps) (hk : Ps[k]? = some (runP R D a b c A Bs Pn S))
    (hat : ∀ wx, w.grownBy wx none → At wx ad (ps.map nv)) (hn : ps.length = n) (hM : ∀ x ∈ ps, x / 8 < M) (hsm : ∀ x ∈ ps, x < 1000000) (hl : S.length + M ≤ 90000) (hl2 : n ≤ 90000) :
    Calls Tryz.prog 110 #[ptr R, .int .u8 (p : Int), .slice ad n cap] w fun e w' => e = .returned (.tuple #[]) ∧ ∃ Bs' Pn', Grommet.Own w0 w' (Ps.set k (runP R D a b c A Bs' Pn' (S ++ settleS M p ps))) := by
  have hkl := (List.getElem?_eq_some_iff.1 hk).1
  obtain ⟨w1, hw1⟩ : ∃ w1, w.alloc (.cells #[ptr R] 84) = w1 := ⟨_, rfl⟩
  obtain ⟨X, hX⟩ : ∃ X, w.heap.size = X := ⟨_, rfl⟩
  have h1 := h.addBox 84 #[ptr R]
  rw [hw1, hX] at h1
  have h1 := run_box h1 k hk
  have hg1 : w.grownBy w1 none := by rw [← hw1]; exact World.grownBy_alloc _ _ none
  have HO1 := Lib.hid h1
  have HA := Lib.hid (fun wx (hg : w1.grownBy wx none) => hat wx (grown_trans hg1 hg))
  have Hn := Lib.hid hn
  have Hsm := Lib.hid hsm
  have Hs : Hid (Lib.compact ((ps.map q8).mergeSort (fun x y => decide (x ≤ y))) = (linesOf M ps).map (fun l : Nat => (l : Int))) := Lib.hid (lines_sorted M ps hM)
  have hlen : (linesOf M ps).length ≤ M := by
    have := List.length_filter_le (fun x => ps.any (fun p => p / 8 == x)) (List.range M)
    simpa [linesOf] using this
  obtain ⟨L, hL⟩ : ∃ L, linesOf M ps = L := ⟨_, rfl⟩
  obtain ⟨m, hm⟩ : ∃ m, L.length = m := ⟨_, rfl⟩
  have hend : Hid (S ++ settleS M p ps = S ++ flushS p L ++ [(p, .fence)]) := Lib.hid (by unfold settleS; rw [hL, List.append_assoc])
  rw [hL] at Hs hlen
  rw [hm] at hlen
  have Hm := Lib.hid hm
  have hlS : S.length + m ≤ 90000 := by omega
  have HlS := Lib.hid hlS
  have hz0 : Hid (Grommet.Own w1 w1 [rowP 3 1 (.slice none 0 0) 0 ((((ps.take 0).map q8)).map zv)]) := Lib.hid ((Own.nil w1).add (P := rowP 3 1 (.slice none 0 0) 0 []) (F := fun _ => False) ⟨World.ownsRow_nil _ _ _ _, ⟨fun i hi => (by cases hi), fun i hi => False.elim hi⟩⟩ (fun i hi => False.elim hi) (World.grownBy.refl _ _))
  have hmn : m ≤ 90000 := by omega
  clear hat hn hsm hM hl hL hm hlen h1 h hlS
  unfold ptr at hw1 ⊢
  go_enter Tryz.func110, Tryz.ntmps110
  go_wp2_with fail
  clear hw1
  go_loopw [6, 8, 13] (fun lv _ i wr => ∃ (j : Nat) (ad1 : Option Addr) (cap1 : Nat), j ≤ n ∧ i = .int .i64 (j : Int) ∧ lv = .slice ad1 j cap1 ∧ Hid (Grommet.Own w1 wr [rowP 3 1 (.slice ad1 j cap1) j (((ps.take j).map q8).map zv)])) (fun _ _ i _ => n - (intOf i).toNat)
  case atStart => exact ⟨0, none, 0, Nat.zero_le _, rfl, rfl, hz0⟩
  case round =>
    clear hz0
    obtain ⟨j, ad1, cap1, hj, rfl, rfl, hO⟩ := hrel
    have j0 : (0 : Int) ≤ (j : Int) := by omega
    by_cases hlt : j < n
    · as_aux_lemma =>
      have hlt' : (j : Int) < (n : Int) := by omega
      obtain ⟨x, hx⟩ : ∃ x, ps[j]? = some x := ⟨ps[j]'(by rw [Hn.out]; exact hlt), List.getElem?_eq_getElem _⟩
      obtain ⟨g, o, rfl, c1⟩ := HA.out wr hO.out.grown j (nv x) (by rw [List.getElem?_map, hx]; rfl)
      have hxs := Hsm.out x (List.mem_of_getElem? hx)
      unfold nv at c1
      have hd : Int.tdiv (x : Int) 8 = q8 x := by unfold q8; rw [Int.tdiv_eq_ediv_of_nonneg (by omega)]; omega
      have hwr : IntKind.i64.wrap (q8 x) = q8 x := IntWalk.i64_in _ ⟨by unfold q8; omega, by unfold q8; omega⟩
      have wj : IntKind.i64.wrap ((j : Int) + 1) = (j : Int) + 1 := IntWalk.i64_in _ ⟨by omega, by omega⟩
      obtain ⟨ad2, cap2, w2, hr, hO2⟩ := int_added hO.out 0 rfl (q8 x) 171 (by omega)
      have hO2 : Grommet.Own w1 w2 [rowP 3 1 (.slice ad2 (j + 1) cap2) (j + 1) (((ps.take j).map q8 ++ [q8 x]).map zv)] := hO2
      rw [show (ps.take j).map q8 ++ [q8 x] = (ps.take (j + 1)).map q8 from by rw [take_snocN hx, List.map_append]; rfl] at hO2
      have HO2 := Lib.hid hO2
      have hd2 : (x : Int) / 8 = q8 x := by unfold q8; omega
      generalize q8 x = Q at hd hd2 hwr hr
      clear hO hO2 hx hxs
      go_wp2_with (at_builtin; refine wpList_append_run rfl _ _ _ rfl _ _ _ rfl rfl hr ?_)
      go_roundw
      case rel => exact ⟨j + 1, ad2, cap2, by omega, by go_num, rfl, HO2⟩
      case measure => simp [intOf]; omega
    · obtain rfl : n = j := by omega
      have hlt' : ¬ (n : Int) < (n : Int) := by omega
      have hO1' := HO1.out
      have hO2 := Own.join hO1' hO.out
      rw [List.take_of_length_le (by rw [Hn.out]; exact Nat.le_refl _)] at hO2
      have hzl : (ps.map q8).length = n := by rw [List.length_map, Hn.out]
      have hkK : ((Ps.set k (runP R D a b c A (X :: Bs) Pn S)) ++ [rowP 3 1 (.slice ad1 n cap1) n ((ps.map q8).map zv)])[Ps.length]? = some (rowP 3 1 (.slice ad1 n cap1) n ((ps.map q8).map zv)) := by
        rw [List.getElem?_append_right (by simp)]; simp
      have HS := SortH Ps.length ad1 cap1 (ps.map q8) w0 _ _ hO2 (by rw [hzl]; exact hkK) (by rw [hzl]; omega)
      rw [hzl] at HS
      have hsl : ((ps.map q8).mergeSort (fun x y => decide (x ≤ y))).length = n := by rw [List.length_mergeSort, hzl]
      have hset : ∀ Q Q' : Pr, ((Ps.set k (runP R D a b c A (X :: Bs) Pn S)) ++ [Q]).set Ps.length Q' = (Ps.set k (runP R D a b c A (X :: Bs) Pn S)) ++ [Q'] := by
        intro Q Q'
        rw [List.set_append_right _ _ (by simp)]; simp
      rw [hset] at HS
      have HS := Lib.hid HS
      have HC := Lib.hid (fun wx (hO : Grommet.Own w0 wx ((Ps.set k (runP R D a b c A (X :: Bs) Pn S)) ++ [rowP 3 1 (.slice ad1 n cap1) n (((ps.map q8).mergeSort (fun x y => decide (x ≤ y))).map zv)])) => by
        have := CompactH Ps.length ad1 cap1 ((ps.map q8).mergeSort (fun x y => decide (x ≤ y))) w0 wx _ hO (by rw [hsl, List.getElem?_append_right (by simp)]; simp) (by rw [hsl]; omega)
        rw [hsl, hset, Hs.out, List.length_map, Hm.out] at this
        exact this)
      clear hO hO2 hkK hset hO1' HA Hsm
      go_wp2_with fail
      refine HS.out.mono ?_
      rintro e w2 ⟨rfl, hO⟩
      have HC2 := Lib.hid (HC.out w2 hO)
      clear HS HC hO
      go_wp2_with fail
      refine HC2.out.mono ?_
      rintro e w3 ⟨rfl, hO⟩
      have hO3 : Hid (Grommet.Own w0 w3 ((Ps.set k (runP R D a b c A (X :: Bs) Pn (S ++ flushS p (L.take 0)))) ++ [rowP 3 1 (.slice ad1 m cap1) m ((L.map (fun l : Nat => (l : Int))).map zv)])) := Lib.hid (by
        rw [show S ++ flushS p (L.take 0) = S from by simp [flushS]]; exact hO)
      clear HC2 hO hzl hsl HO1
      go_wp2_with fail
      go_loopw [10, 28] (fun _ i wr => ∃ (j : Nat) (Pn' : List (Cl × Value)), j ≤ m ∧ i = .int .i64 (j : Int) ∧ Hid (Grommet.Own w0 wr ((Ps.set k (runP R D a b c A (X :: Bs) Pn' (S ++ flushS p (L.take j)))) ++ [rowP 3 1 (.slice ad1 m cap1) m ((L.map (fun l : Nat => (l : Int))).map zv)]))) (fun _ i _ => m - (intOf i).toNat)
      case atStart => exact ⟨0, Pn, Nat.zero_le _, rfl, hO3⟩
      case round =>
        clear hO3
        obtain ⟨j, Pn', hj, rfl, hO⟩ := hrel
        have j0 : (0 : Int) ≤ (j : Int) := by omega
        have hkk : ((Ps.set k (runP R D a b c A (X :: Bs) Pn' (S ++ flushS p (L.take j)))) ++ [rowP 3 1 (.slice ad1 m cap1) m ((L.map (fun l : Nat => (l : Int))).map zv)])[k]? = some (runP R D a b c A (X :: Bs) Pn' (S ++ flushS p (L.take j))) := by
          rw [List.getElem?_append_left (by simpa using hkl), List.getElem?_set_self hkl]
        by_cases hlt2 : j < m
        · as_aux_lemma =>
          have hlt2' : (j : Int) < (m : Int) := by omega
          obtain ⟨l, hl⟩ : ∃ l, L[j]? = some l := ⟨L[j]'(by rw [Hm.out]; exact hlt2), List.getElem?_eq_getElem _⟩
          obtain ⟨g, he, c1, _, _⟩ := Own.cell hO.out Ps.length get_snoc j (zv (l : Int)) (by rw [List.getElem?_map, List.getElem?_map, hl]; rfl)
          subst he
          unfold zv at c1
          obtain ⟨wb, hwb⟩ : ∃ wb, World.alloc wr (.cells #[.int .i64 (l : Int)] 3) = wb := ⟨_, rfl⟩
          obtain ⟨Y, hY⟩ : ∃ Y, wr.heap.size = Y := ⟨_, rfl⟩
          have hb := hO.out.addBox 3 #[.int .i64 (l : Int)]
          rw [hwb, hY] at hb
          have hb2 := run_flush (x := X) hb k hkk (List.mem_cons_self ..)
          rw [set_snoc hkl] at hb2
          have hkl2 : ((Ps.set k (runP R D a b c A (X :: Bs) [(.flush l, .func (.func 123) #[] #[ptr X, ptr Y])] (S ++ flushS p (L.take j)))) ++ [rowP 3 1 (.slice (some ⟨g, 0, none⟩) m cap1) m ((L.map (fun l : Nat => (l : Int))).map zv)])[k]? = some (runP R D a b c A (X :: Bs) [(.flush l, .func (.func 123) #[] #[ptr X, ptr Y])] (S ++ flushS p (L.take j))) := by
            rw [List.getElem?_append_left (by simpa using hkl), List.getElem?_set_self hkl]
          have c0 := (run_cells hb2 k hkl2).2.2.2.2.2.2.2 X (List.mem_cons_self ..)
          have hfl : (S ++ flushS p (L.take j)).length ≤ 100000 := by
            have := HlS.out
            simp [flushS]; omega
          have HAdd := addH k R D a b c A (X :: Bs) _ _ p (.flush l) _ w0 wb _ hb2 hkl2 (List.mem_singleton.2 rfl) hfl
          rw [set_snoc hkl, show S ++ flushS p (L.take j) ++ [(p, Cl.flush l)] = S ++ flushS p (L.take (j + 1)) from by rw [take_snocN hl]; simp [flushS]] at HAdd
          have HAdd := Lib.hid HAdd
          have wj : IntKind.i64.wrap ((j : Int) + 1) = (j : Int) + 1 := IntWalk.i64_in _ ⟨by omega, by omega⟩
          unfold ptr at HAdd c0
          clear hO hb hb2 hkl2 hkk hl hfl
          go_wp2_with fail
          refine HAdd.out.mono ?_
          rintro e w5 ⟨rfl, hO5⟩
          have hO5 := Lib.hid hO5
          clear HAdd c0 hwb
          go_wp2
          go_roundw
          case rel => exact ⟨j + 1, _, by omega, by go_num, hO5⟩
          case measure => simp [intOf]; omega
        · as_aux_lemma =>
          obtain rfl : m = j := by omega
          have hlt2' : ¬ (m : Int) < (m : Int) := by omega
          have hO4 := hO.out.quiet (grown_drew (World.grownBy.refl _ none))
          have hO5 := run_fence hO4 k hkk
          obtain ⟨c0, _, _, _, _, _, _, c6⟩ := run_cells hO.out k hkk
          replace c6 := c6 X (List.mem_cons_self ..)
          have hkl2 : ((Ps.set k (runP R D a b c A (X :: Bs) [(.fence, .func (.func 53) #[ptr D] #[])] (S ++ flushS p (L.take m)))) ++ [rowP 3 1 (.slice ad1 m cap1) m ((L.map (fun l : Nat => (l : Int))).map zv)])[k]? = some (runP R D a b c A (X :: Bs) [(.fence, .func (.func 53) #[ptr D] #[])] (S ++ flushS p (L.take m))) := by
            rw [List.getElem?_append_left (by simpa using hkl), List.getElem?_set_self hkl]
          rw [set_snoc hkl] at hO5
          have hfl : (S ++ flushS p (L.take m)).length ≤ 100000 := by
            have := HlS.out
            simp [flushS]; omega
          have HAdd := addH k R D a b c A (X :: Bs) _ _ p .fence _ w0 _ _ hO5 hkl2 (List.mem_singleton.2 rfl) hfl
          rw [set_snoc hkl, List.take_of_length_le (by rw [Hm.out]; exact Nat.le_refl _)] at HAdd
          have HAdd := Lib.hid HAdd
          unfold ptr at HAdd c0 c6
          clear hO hO4 hO5 hkl2 hkk hfl
          go_wp2_with fail
          go_still_tail 7, (by kernel_rfl)
          change wpList _ _ _ _ _ (World.drew _)
          go_wp2_with fail
          refine HAdd.out.mono ?_
          rintro e w5 ⟨rfl, hO6⟩
          have hO7 : Hid (Grommet.Own w0 w5 (Ps.set k (runP R D a b c A (X :: Bs) [(.fence, .func (.func 53) #[.pointer (some ⟨D, 0, none⟩)] #[])] (S ++ settleS M p ps)))) := Lib.hid (by rw [hend.out]; exact hO6.less)
          clear hO6 HAdd
          go_wp2
          go_end0
          exact ⟨rfl, _, _, hO7.out⟩
end Go.Proofs.YtkalglcbmfhdfaaGreat
end
section
/- Package commit: mark, seal, apply. -/
namespace Go.Proofs.YtkalglcbmfhdfaaGreat
open Go.RowKit Go.Grommet

def storesS (p : Nat) (Q : List (Nat × Nat)) : List (Nat × Cl) := Q.map (fun q => (p, .store q.1 q.2))
def markS (M p A v : Nat) : List (Nat × Cl) := (p, .store A v) :: settleS M p [A]
/-- The words of a record, in their places. -/
def sealQ (A : Nat) (xs : List Nat) (j : Nat) : List (Nat × Nat) := (List.range j).map (fun i => (A + 8 + i, xs.getD i 0))
def sealS (M A : Nat) (xs : List Nat) : List (Nat × Cl) := storesS 1 (sealQ A xs xs.length) ++ settleS M 2 ((sealQ A xs xs.length).map (·.1))
/-- Writes, as places and values. -/
def wrQ (W : List (Int × Nat)) : List (Nat × Nat) := W.map (fun p => (p.1.toNat, p.2))
def applyS (M A : Nat) (W : List (Int × Nat)) : List (Nat × Cl) := storesS 4 (wrQ W) ++ settleS M 5 ((wrQ W).map (·.1)) ++ markS M 6 A 0
theorem linesOf_le (M : Nat) (ps : List Nat) : (linesOf M ps).length ≤ M := by
  have := List.length_filter_le (fun x => ps.any (fun p => p / 8 == x)) (List.range M)
  simpa [linesOf] using this
theorem settleS_len (M p : Nat) (ps : List Nat) : (settleS M p ps).length ≤ M + 1 := by
  have := linesOf_le M ps
  simp [settleS, flushS]; omega
theorem sealQ_snoc (A : Nat) (xs : List Nat) (j : Nat) : sealQ A xs (j + 1) = sealQ A xs j ++ [(A + 8 + j, xs.getD j 0)] := by
  unfold sealQ; rw [List.range_succ, List.map_append]; rfl
theorem sealQ_len (A : Nat) (xs : List Nat) (j : Nat) : (sealQ A xs j).length = j := by simp [sealQ]
theorem storesS_snoc (p : Nat) (Q : List (Nat × Nat)) (q : Nat × Nat) : storesS p (Q ++ [q]) = storesS p Q ++ [(p, .store q.1 q.2)] := by simp [storesS]
theorem storesS_len (p : Nat) (Q : List (Nat × Nat)) : (storesS p Q).length = Q.length := by simp [storesS]

set_option maxRecDepth 100000 in
set_option maxHeartbeats 2000000 in
theorem markH (k R D : Nat) (a b c : Int) (A : Nat) (Bs : List Nat) (Pn : List (Cl × Value)) (S : List (Nat × Cl)) (p v M : Nat) (w0 w : World) (Ps : List Pr) (h : Grommet.Own w0 w Ps) (hk : Ps[k]? = some (runP R D a b c A Bs Pn S)) (hA : A / 8 < M) (hsm : A < 1000000) (hl : S.length + 1 + M ≤ 90000) :
    Calls Tryz.prog 87 #[ptr R, .int .u8 (p : Int), .int .u64 (v : Int)] w fun e w' => e = .returned (.tuple #[]) ∧ ∃ Bs' Pn', Grommet.Own w0 w' (Ps.set k (runP R D a b c A Bs' Pn' (S ++ markS M p A v))) := by
  have hkl := (List.getElem?_eq_some_iff.1 hk).1
  have HS := Lib.hid (storeH k R D a b c A Bs Pn S p A v w0 w Ps h hk (by omega))
  have HT0 : ∀ (wx : World) (Pn' : List (Cl × Value)), Grommet.Own w0 wx (Ps.set k (runP R D a b c A Bs Pn' (S ++ [(p, .store A v)]))) → Calls Tryz.prog 110 #[ptr R, .int .u8 (p : Int), .slice (some ⟨wx.heap.size, 0, none⟩) 1 1] (wx.alloc (.cells #[nv A] 3)) fun e w' => e = .returned (.tuple #[]) ∧ ∃ Bs' Pn', Grommet.Own w0 w' (Ps.set k (runP R D a b c A Bs' Pn' (S ++ markS M p A v))) := by
    intro wx Pn' hO
    have hg := World.grownBy_alloc wx (.cells #[nv A] 3) none
    have := settleH k R D a b c A Bs Pn' (S ++ [(p, .store A v)]) p (some ⟨wx.heap.size, 0, none⟩) 1 1 [A] M w0 (wx.alloc (.cells #[nv A] 3)) _ (hO.quiet hg) (List.getElem?_set_self hkl) (fun wy hy => (at_of_row (heap_alloc_new wx (.cells #[nv A] 3))).grown hy (by simp)) rfl (by simpa using hA) (by simpa using hsm) (by simp; omega) (by omega)
    simp only [List.set_set] at this
    rw [show S ++ [(p, Cl.store A v)] ++ settleS M p [A] = S ++ markS M p A v from by simp [markS]] at this
    exact this
  have HT := Lib.hid HT0
  clear HT0
  have c4 := (run_cells h k hk).2.2.2.2.1
  have HC := Lib.hid (fun wx Pn' (hO : Grommet.Own w0 wx (Ps.set k (runP R D a b c A Bs Pn' (S ++ [(p, .store A v)])))) => (run_cells hO k (List.getElem?_set_self hkl)).2.2.2.2.1)
  unfold nv at HT
  unfold ptr at HS HT ⊢
  clear h hk hl hA hsm
  go_enter Tryz.func87, Tryz.ntmps87
  go_wp2_with fail
  refine HS.out.mono ?_
  rintro e w1 ⟨rfl, Pn1, hO⟩
  have HT1 := Lib.hid (HT.out w1 Pn1 hO)
  have c4 := HC.out w1 Pn1 hO
  clear HS HT HC hO
  go_wp2_with fail
  refine HT1.out.mono ?_
  rintro e w2 ⟨rfl, Bs', Pn', hO2⟩
  have hO2 := Lib.hid hO2
  go_wp2
  go_end0
  exact ⟨rfl, _, _, hO2.out⟩

set_option maxRecDepth 100000 in
set_option maxHeartbeats 4000000 in
theorem sealH (k m R D : Nat) (a b c : Int) (A : Nat) (Bs : List Nat) (Pn : List (Cl × Value)) (S : List (Nat × Cl)) (ad : Option Addr) (n cap : Nat) (xs : List Nat) (M : Nat) (w0 w : World) (Ps : List Pr) (h : Grommet.Own w0 w Ps) (hk : Ps[k]? = some (runP R D a b c A Bs Pn S)) (hm : Ps[m]? = some (rowP 45 1 (.slice ad n cap) n (xs.map wv))) (hmk : m ≠ k)
    (hn : xs.length = n) (hM : (A + 8 + n) / 8 < M) (hsm : A + 8 + n < 1000000) (hl : S.length + n + M ≤ 90000) :
    Calls Tryz.prog 86 #[ptr R, .slice ad n cap] w fun e w' => e = .returned (.tuple #[]) ∧ ∃ Bs' Pn', Grommet.Own w0 w' (Ps.set k (runP R D a b c A Bs' Pn' (S ++ sealS M A xs))) := by
  have hkl := (List.getElem?_eq_some_iff.1 hk).1
  have hml := (List.getElem?_eq_some_iff.1 hm).1
  have hz0 : Hid (Grommet.Own w0 w ((Ps.set k (runP R D a b c A Bs Pn (S ++ storesS 1 (sealQ A xs 0)))) ++ [rowP 3 1 (.slice none 0 0) 0 ((((sealQ A xs 0).map (fun q => ((q.1 : Nat) : Int)))).map zv)])) := Lib.hid (by
    rw [show S ++ storesS 1 (sealQ A xs 0) = S from by simp [storesS, sealQ], set_selfC hk]
    exact h.add (P := rowP 3 1 (.slice none 0 0) 0 []) (F := fun _ => False) ⟨World.ownsRow_nil _ _ _ _, ⟨fun i hi => (by cases hi), fun i hi => False.elim hi⟩⟩ (fun i hi => False.elim hi) (World.grownBy.refl _ _))
  have Hn := Lib.hid hn
  have HB := Lib.hid hl
  obtain ⟨T, hT⟩ : ∃ T, A + 8 = T := ⟨_, rfl⟩
  have wA : IntKind.i64.wrap ((A : Int) + 8) = (T : Int) := by rw [IntWalk.i64_in _ ⟨by omega, by omega⟩]; omega
  have hTn : T + n < 1000000 := by omega
  have HT := Lib.hid hT
  have HM := Lib.hid hM
  unfold ptr
  clear h hl hn hT hM hsm
  go_enter Tryz.func86, Tryz.ntmps86
  go_wp2_with fail
  go_loopw [4, 5, 6, 7, 10] (fun lv _ _ _ i wr => ∃ (j : Nat) (ad1 : Option Addr) (cap1 : Nat) (Bs' : List Nat) (Pn' : List (Cl × Value)), j ≤ n ∧ i = .int .i64 (j : Int) ∧ lv = .slice ad1 j cap1 ∧ Hid (Grommet.Own w0 wr ((Ps.set k (runP R D a b c A Bs' Pn' (S ++ storesS 1 (sealQ A xs j)))) ++ [rowP 3 1 (.slice ad1 j cap1) j ((((sealQ A xs j).map (fun q => ((q.1 : Nat) : Int)))).map zv)]))) (fun _ _ _ _ i _ => n - (intOf i).toNat)
  case atStart => exact ⟨0, none, 0, Bs, Pn, Nat.zero_le _, rfl, rfl, hz0⟩
  case round =>
    clear hz0
    obtain ⟨j, ad1, cap1, Bs1, Pn1, hj, rfl, rfl, hO⟩ := hrel
    have j0 : (0 : Int) ≤ (j : Int) := by omega
    have hkk : ((Ps.set k (runP R D a b c A Bs1 Pn1 (S ++ storesS 1 (sealQ A xs j)))) ++ [rowP 3 1 (.slice ad1 j cap1) j ((((sealQ A xs j).map (fun q => ((q.1 : Nat) : Int)))).map zv)])[k]? = some (runP R D a b c A Bs1 Pn1 (S ++ storesS 1 (sealQ A xs j))) := by
      rw [List.getElem?_append_left (by simpa using hkl), List.getElem?_set_self hkl]
    by_cases hlt : j < n
    · as_aux_lemma =>
      have hlt' : (j : Int) < (n : Int) := by omega
      have hjx : j < xs.length := by rw [Hn.out]; exact hlt
      obtain ⟨g, he, c1, _, _⟩ := Own.cell hO.out m (by rw [List.getElem?_append_left (by simpa using hml), List.getElem?_set_ne (fun e => hmk e.symm)]; exact hm) j (wv (xs.getD j 0)) (by rw [List.getElem?_map, List.getElem?_eq_getElem hjx, List.getD_eq_getElem?_getD, List.getElem?_eq_getElem hjx]; rfl)
      subst he
      unfold wv at c1
      have c4 := (run_cells hO.out k hkk).2.2.2.2.1
      obtain ⟨V, hV⟩ : ∃ V, xs.getD j 0 = V := ⟨_, rfl⟩
      obtain ⟨U, hU⟩ : ∃ U, T + j = U := ⟨_, rfl⟩
      have wU : IntKind.i64.wrap ((T : Int) + (j : Int)) = (U : Int) := by rw [IntWalk.i64_in _ ⟨by omega, by omega⟩]; omega
      have wj : IntKind.i64.wrap ((j : Int) + 1) = (j : Int) + 1 := IntWalk.i64_in _ ⟨by omega, by omega⟩
      have hsn : sealQ A xs (j + 1) = sealQ A xs j ++ [(U, V)] := by rw [sealQ_snoc, hV, HT.out, hU]
      have HSt := storeH k R D a b c A Bs1 Pn1 (S ++ storesS 1 (sealQ A xs j)) 1 U V w0 wr _ hO.out hkk (by
        have := HB.out
        rw [List.length_append, storesS_len, sealQ_len]; omega)
      simp only [set_snoc hkl] at HSt
      rw [List.append_assoc, ← storesS_snoc 1 (sealQ A xs j) (U, V), ← hsn] at HSt
      have HSt := Lib.hid HSt
      have HAp0 : ∀ (wx : World) (Pn' : List (Cl × Value)), Grommet.Own w0 wx ((Ps.set k (runP R D a b c A Bs1 Pn' (S ++ storesS 1 (sealQ A xs (j + 1))))) ++ [rowP 3 1 (.slice ad1 j cap1) j ((((sealQ A xs j).map (fun q => ((q.1 : Nat) : Int)))).map zv)]) →
          ∃ ad2 cap2 w2, (Builtin.append_ #[171, 171] 171 #[.slice ad1 j cap1, .slice (some ⟨wx.heap.size, 0, none⟩) 1 1]).run Tryz.prog (wx.alloc (.cells #[.int .i64 (U : Int)] 3)) = .ok (.slice ad2 (j + 1) cap2) w2 ∧ Grommet.Own w0 w2 ((Ps.set k (runP R D a b c A Bs1 Pn' (S ++ storesS 1 (sealQ A xs (j + 1))))) ++ [rowP 3 1 (.slice ad2 (j + 1) cap2) (j + 1) ((((sealQ A xs (j + 1)).map (fun q => ((q.1 : Nat) : Int)))).map zv)]) := by
        intro wx Pn' hO
        obtain ⟨ad2, cap2, w2, hr, hO2⟩ := int_added hO Ps.length get_snoc (U : Int) 171 (by omega)
        rw [List.set_append_right _ _ (by simp)] at hO2
        rw [show (sealQ A xs j).map (fun q => ((q.1 : Nat) : Int)) ++ [(U : Int)] = (sealQ A xs (j + 1)).map (fun q => ((q.1 : Nat) : Int)) from by rw [hsn, List.map_append]; rfl] at hO2
        simp only [List.length_set, Nat.sub_self, List.set_cons_zero] at hO2
        exact ⟨ad2, cap2, w2, hr, hO2⟩
      have HAp := Lib.hid HAp0
      clear HAp0
      rw [hV] at c1
      unfold ptr at HSt
      clear hO hkk hjx hV hU hsn HB HM HT Hn
      go_wp2_with fail
      refine HSt.out.mono ?_
      rintro e w2 ⟨rfl, Pn2, hO2⟩
      obtain ⟨ad2, cap2, w3, hr, hO3⟩ := HAp.out w2 Pn2 hO2
      have hO3 := Lib.hid hO3
      clear HSt HAp hO2 c1 c4
      go_wp2_with (at_builtin; refine wpList_append_run rfl _ _ _ rfl _ _ _ rfl rfl hr ?_)
      go_roundw
      case rel => exact ⟨j + 1, ad2, cap2, Bs1, Pn2, by omega, by go_num, rfl, hO3⟩
      case measure => simp [intOf]; omega
    · as_aux_lemma =>
      obtain rfl : n = j := by omega
      have hlt' : ¬ (n : Int) < (n : Int) := by omega
      have hat := (row_slice (Own.row hO.out Ps.length get_snoc))
      obtain ⟨ad', cap', he, hat, _, _⟩ := hat
      cases he
      have hmap : (((sealQ A xs n).map (fun q => ((q.1 : Nat) : Int)))).map zv = ((sealQ A xs n).map (·.1)).map nv := by
        rw [List.map_map, List.map_map]; rfl
      rw [hmap] at hat
      have HS := settleH k R D a b c A Bs1 Pn1 (S ++ storesS 1 (sealQ A xs n)) 2 ad1 n cap1 ((sealQ A xs n).map (·.1)) M w0 wr _ hO.out hkk (fun wx hg => hat.grown hg (by simp)) (by rw [List.length_map, sealQ_len]) (fun x hx => by
          obtain ⟨q, hq, rfl⟩ := List.mem_map.1 hx
          obtain ⟨i, hi, rfl⟩ := List.mem_map.1 hq
          have := List.mem_range.1 hi
          have := HM.out
          show (A + 8 + i) / 8 < M
          omega) (fun x hx => by
          obtain ⟨q, hq, rfl⟩ := List.mem_map.1 hx
          obtain ⟨i, hi, rfl⟩ := List.mem_map.1 hq
          have := List.mem_range.1 hi
          have := HT.out
          show A + 8 + i < 1000000
          omega) (by
          have := HB.out
          rw [List.length_append, storesS_len, sealQ_len]; omega) (by have := HB.out; omega)
      simp only [set_snoc hkl] at HS
      rw [show S ++ storesS 1 (sealQ A xs n) ++ settleS M 2 ((sealQ A xs n).map (·.1)) = S ++ sealS M A xs from by unfold sealS; rw [Hn.out, List.append_assoc]] at HS
      have HS := Lib.hid HS
      unfold ptr at HS
      clear hO hkk hat hmap HB HM HT Hn
      go_wp2_with fail
      refine HS.out.mono ?_
      rintro e w2 ⟨rfl, Bs', Pn', hO2⟩
      have hO2 := Lib.hid hO2.less
      go_wp2
      go_end0
      exact ⟨rfl, _, _, hO2.out⟩
end Go.Proofs.YtkalglcbmfhdfaaGreat
end
section
/- Package commit: apply. -/
namespace Go.Proofs.YtkalglcbmfhdfaaGreat
open Go.RowKit Go.Grommet

theorem set_snoc2 {Ps : List Pr} {k : Nat} {P P' Q B : Pr} (hkl : k < Ps.length) : (((Ps.set k P) ++ [Q]) ++ [B]).set k P' = ((Ps.set k P') ++ [Q]) ++ [B] := by
  rw [List.set_append_left _ _ (by simp; omega), set_snoc hkl]
theorem wrQ_snoc {W : List (Int × Nat)} {j : Nat} {x : Int × Nat} (h : W[j]? = some x) : wrQ (W.take (j + 1)) = wrQ (W.take j) ++ [(x.1.toNat, x.2)] := by
  unfold wrQ; rw [take_snocN h, List.map_append]; rfl
theorem wrQ_len (W : List (Int × Nat)) (j : Nat) (h : j ≤ W.length) : (wrQ (W.take j)).length = j := by
  unfold wrQ; rw [List.length_map, List.length_take]; omega

set_option maxRecDepth 100000 in
set_option maxHeartbeats 4000000 in
theorem applyH (k m R D : Nat) (a b c : Int) (A : Nat) (Bs : List Nat) (Pn : List (Cl × Value)) (S : List (Nat × Cl)) (ad : Option Addr) (n cap : Nat) (W : List (Int × Nat)) (M : Nat) (w0 w : World) (Ps : List Pr) (h : Grommet.Own w0 w Ps) (hk : Ps[k]? = some (runP R D a b c A Bs Pn S)) (hm : Ps[m]? = some (rowP 89 2 (.slice ad n cap) n (icells W))) (hmk : m ≠ k)
    (hn : W.length = n) (hW : ∀ x ∈ W, 0 ≤ x.1 ∧ x.1.toNat / 8 < M ∧ x.1 < 1000000) (hA : A / 8 < M) (hsm : A < 1000000) (hl : S.length + n + 2 * M + 10 ≤ 80000) :
    Calls Tryz.prog 89 #[ptr R, .slice ad n cap] w fun e w' => e = .returned (.tuple #[]) ∧ ∃ Bs' Pn', Grommet.Own w0 w' (Ps.set k (runP R D a b c A Bs' Pn' (S ++ applyS M A W))) := by
  have hkl := (List.getElem?_eq_some_iff.1 hk).1
  have hml := (List.getElem?_eq_some_iff.1 hm).1
  have hz0 : Hid (Grommet.Own w0 w ((Ps.set k (runP R D a b c A Bs Pn (S ++ storesS 4 (wrQ (W.take 0))))) ++ [rowP 3 1 (.slice none 0 0) 0 ((((wrQ (W.take 0)).map (fun q => ((q.1 : Nat) : Int)))).map zv)])) := Lib.hid (by
    rw [show S ++ storesS 4 (wrQ (W.take 0)) = S from by simp [storesS, wrQ], set_selfC hk]
    exact h.add (P := rowP 3 1 (.slice none 0 0) 0 []) (F := fun _ => False) ⟨World.ownsRow_nil _ _ _ _, ⟨fun i hi => (by cases hi), fun i hi => False.elim hi⟩⟩ (fun i hi => False.elim hi) (World.grownBy.refl _ _))
  have Hn := Lib.hid hn
  have HB := Lib.hid hl
  have HW := Lib.hid hW
  have HA := Lib.hid hA
  have Hsm := Lib.hid hsm
  have hn8 : n ≤ 80000 := by omega
  unfold ptr
  clear h hl hn hW hA hsm
  go_enter Tryz.func89, Tryz.ntmps89
  go_wp2_with fail
  go_loopw [4, 6, 9] (fun lv _ i wr => ∃ (j : Nat) (ad1 : Option Addr) (cap1 : Nat) (Bs' : List Nat) (Pn' : List (Cl × Value)), j ≤ n ∧ i = .int .i64 (j : Int) ∧ lv = .slice ad1 j cap1 ∧ Hid (Grommet.Own w0 wr ((Ps.set k (runP R D a b c A Bs' Pn' (S ++ storesS 4 (wrQ (W.take j))))) ++ [rowP 3 1 (.slice ad1 j cap1) j ((((wrQ (W.take j)).map (fun q => ((q.1 : Nat) : Int)))).map zv)]))) (fun _ _ i _ => n - (intOf i).toNat)
  case atStart => exact ⟨0, none, 0, Bs, Pn, Nat.zero_le _, rfl, rfl, hz0⟩
  case round =>
    clear hz0
    obtain ⟨j, ad1, cap1, Bs1, Pn1, hj, rfl, rfl, hO⟩ := hrel
    have j0 : (0 : Int) ≤ (j : Int) := by omega
    by_cases hlt : j < n
    · as_aux_lemma =>
      have hlt' : (j : Int) < (n : Int) := by omega
      obtain ⟨x, hx⟩ : ∃ x, W[j]? = some x := ⟨W[j]'(by rw [Hn.out]; exact hlt), List.getElem?_eq_getElem _⟩
      obtain ⟨hx0, hx1, hx2⟩ := HW.out x (List.mem_of_getElem? hx)
      have hxD : W.getD j (0, 0) = x := by rw [List.getD_eq_getElem?_getD, hx]; rfl
      obtain ⟨hat, _, _, _⟩ := Own.pairs hO.out m (by rw [List.getElem?_append_left (by simpa using hml), List.getElem?_set_ne (fun e => hmk e.symm)]; exact hm)
      obtain ⟨q, o, rfl, c1, c2⟩ := at_ipair hat j (by rw [Hn.out]; exact hlt)
      rw [hxD] at c1 c2
      obtain ⟨U, hU⟩ : ∃ U : Nat, x.1.toNat = U := ⟨_, rfl⟩
      obtain ⟨V, hV⟩ : ∃ V : Nat, x.2 = V := ⟨_, rfl⟩
      rw [show x.1 = (U : Int) from by omega] at c1
      rw [hV] at c2
      have hsn : wrQ (W.take (j + 1)) = wrQ (W.take j) ++ [(U, V)] := by rw [wrQ_snoc hx, hU, hV]
      have hb := hO.out.addBox 89 #[.int .i64 (U : Int), .int .u64 (V : Int)]
      obtain ⟨wb, hwb⟩ : ∃ wb, wr.alloc (.cells #[.int .i64 (U : Int), .int .u64 (V : Int)] 89) = wb := ⟨_, rfl⟩
      obtain ⟨Y, hY⟩ : ∃ Y, wr.heap.size = Y := ⟨_, rfl⟩
      rw [hwb, hY] at hb
      have hbx : ∀ (wx : World) (P Q : Pr), Grommet.Own w0 wx (((Ps.set k P) ++ [Q]) ++ [boxP Y 89 #[.int .i64 (U : Int), .int .u64 (V : Int)]]) → wx.cell? ⟨Y, 0, none⟩ = some (.int .i64 (U : Int)) ∧ wx.cell? ⟨Y, 1, none⟩ = some (.int .u64 (V : Int)) := by
        intro wx P Q hOx
        have := hOx.box (((Ps.set k P) ++ [Q]).length) (X := Y) (T := 89) (cs := #[.int .i64 (U : Int), .int .u64 (V : Int)]) (by simp)
        exact ⟨by simp [World.cell?, this], by simp [World.cell?, this]⟩
      obtain ⟨d1, d2⟩ := hbx wb _ _ hb
      have wj : IntKind.i64.wrap ((j : Int) + 1) = (j : Int) + 1 := IntWalk.i64_in _ ⟨by omega, by omega⟩
      have HSt := storeH k R D a b c A Bs1 Pn1 (S ++ storesS 4 (wrQ (W.take j))) 4 U V w0 wb _ hb (by
        rw [List.getElem?_append_left (by simp; omega), List.getElem?_append_left (by simpa using hkl), List.getElem?_set_self hkl]) (by
        have := HB.out
        rw [List.length_append, storesS_len, wrQ_len _ _ (by rw [Hn.out]; exact hj)]; omega)
      simp only [set_snoc2 hkl] at HSt
      rw [List.append_assoc, ← storesS_snoc 4 (wrQ (W.take j)) (U, V), ← hsn] at HSt
      have HSt := Lib.hid HSt
      have HAp0 : ∀ (wx : World) (Pn' : List (Cl × Value)), Grommet.Own w0 wx ((Ps.set k (runP R D a b c A Bs1 Pn' (S ++ storesS 4 (wrQ (W.take (j + 1)))))) ++ [rowP 3 1 (.slice ad1 j cap1) j ((((wrQ (W.take j)).map (fun q => ((q.1 : Nat) : Int)))).map zv)]) →
          ∃ ad2 cap2 w2, (Builtin.append_ #[171, 171] 171 #[.slice ad1 j cap1, .slice (some ⟨wx.heap.size, 0, none⟩) 1 1]).run Tryz.prog (wx.alloc (.cells #[.int .i64 (U : Int)] 3)) = .ok (.slice ad2 (j + 1) cap2) w2 ∧ Grommet.Own w0 w2 ((Ps.set k (runP R D a b c A Bs1 Pn' (S ++ storesS 4 (wrQ (W.take (j + 1)))))) ++ [rowP 3 1 (.slice ad2 (j + 1) cap2) (j + 1) ((((wrQ (W.take (j + 1))).map (fun q => ((q.1 : Nat) : Int)))).map zv)]) := by
        intro wx Pn' hO
        obtain ⟨ad2, cap2, w2, hr, hO2⟩ := int_added hO Ps.length get_snoc (U : Int) 171 (by omega)
        rw [List.set_append_right _ _ (by simp)] at hO2
        rw [show (wrQ (W.take j)).map (fun q => ((q.1 : Nat) : Int)) ++ [(U : Int)] = (wrQ (W.take (j + 1))).map (fun q => ((q.1 : Nat) : Int)) from by rw [hsn, List.map_append]; rfl] at hO2
        simp only [List.length_set, Nat.sub_self, List.set_cons_zero] at hO2
        exact ⟨ad2, cap2, w2, hr, hO2⟩
      have HAp := Lib.hid HAp0
      have Hbx := Lib.hid hbx
      unfold ptr at HSt
      clear hO hx hx0 hx1 hx2 hxD hat hU hV hsn hb HAp0 hbx HB HW HA Hsm Hn
      go_wp2_with fail
      refine HSt.out.mono ?_
      rintro e w2 ⟨rfl, Pn2, hO2⟩
      obtain ⟨d1, d2⟩ := Hbx.out w2 _ _ hO2
      obtain ⟨ad2, cap2, w3, hr, hO3⟩ := HAp.out w2 Pn2 hO2.less
      have hO3 := Lib.hid hO3
      clear HSt HAp hO2 Hbx hwb
      go_wp2_with (at_builtin; refine wpList_append_run rfl _ _ _ rfl _ _ _ rfl rfl hr ?_)
      go_roundw
      case rel => exact ⟨j + 1, ad2, cap2, Bs1, Pn2, by omega, by go_num, rfl, hO3⟩
      case measure => simp [intOf]; omega
    · as_aux_lemma =>
      have hkk : ((Ps.set k (runP R D a b c A Bs1 Pn1 (S ++ storesS 4 (wrQ (W.take j))))) ++ [rowP 3 1 (.slice ad1 j cap1) j ((((wrQ (W.take j)).map (fun q => ((q.1 : Nat) : Int)))).map zv)])[k]? = some (runP R D a b c A Bs1 Pn1 (S ++ storesS 4 (wrQ (W.take j)))) := by
        rw [List.getElem?_append_left (by simpa using hkl), List.getElem?_set_self hkl]
      obtain rfl : n = j := by omega
      have hlt' : ¬ (n : Int) < (n : Int) := by omega
      have hall : W.take n = W := List.take_of_length_le (by rw [Hn.out]; exact Nat.le_refl _)
      have hO := hO.out
      rw [hall] at hO hkk
      obtain ⟨ad', cap', he, hat, _, _⟩ := row_slice (Own.row hO Ps.length get_snoc)
      cases he
      have hmap : (((wrQ W).map (fun q => ((q.1 : Nat) : Int)))).map zv = ((wrQ W).map (·.1)).map nv := by
        rw [List.map_map, List.map_map]; rfl
      rw [hmap] at hat
      have hwl : (wrQ W).length = n := by unfold wrQ; rw [List.length_map, Hn.out]
      have hps : ∀ x ∈ (wrQ W).map (·.1), x / 8 < M ∧ x < 1000000 := by
        intro x hx
        obtain ⟨q, hq, rfl⟩ := List.mem_map.1 hx
        obtain ⟨p, hp, rfl⟩ := List.mem_map.1 hq
        have := HW.out p hp
        exact ⟨this.2.1, by show p.1.toNat < _; omega⟩
      have hSl : (S ++ storesS 4 (wrQ W)).length ≤ S.length + n := by rw [List.length_append, storesS_len, hwl]; omega
      have HS := settleH k R D a b c A Bs1 Pn1 (S ++ storesS 4 (wrQ W)) 5 ad1 n cap1 ((wrQ W).map (·.1)) M w0 wr _ hO hkk (fun wx hg => hat.grown hg (by simp)) (by rw [List.length_map, hwl]) (fun x hx => (hps x hx).1) (fun x hx => (hps x hx).2) (by have := HB.out; omega) (by have := HB.out; omega)
      simp only [set_snoc hkl] at HS
      have HS := Lib.hid HS
      have HMk0 : ∀ (wx : World) (Bs' : List Nat) (Pn' : List (Cl × Value)), Grommet.Own w0 wx (Ps.set k (runP R D a b c A Bs' Pn' (S ++ storesS 4 (wrQ W) ++ settleS M 5 ((wrQ W).map (·.1))))) → Calls Tryz.prog 87 #[ptr R, .int .u8 6, .int .u64 0] wx fun e w' => e = .returned (.tuple #[]) ∧ ∃ Bs' Pn', Grommet.Own w0 w' (Ps.set k (runP R D a b c A Bs' Pn' (S ++ applyS M A W))) := by
        intro wx Bs' Pn' hO
        have := markH k R D a b c A Bs' Pn' (S ++ storesS 4 (wrQ W) ++ settleS M 5 ((wrQ W).map (·.1))) 6 0 M w0 wx _ hO (List.getElem?_set_self hkl) HA.out Hsm.out (by
          have := HB.out
          have := settleS_len M 5 ((wrQ W).map (·.1))
          rw [List.length_append]; omega)
        simp only [List.set_set] at this
        rw [show S ++ storesS 4 (wrQ W) ++ settleS M 5 ((wrQ W).map (·.1)) ++ markS M 6 A 0 = S ++ applyS M A W from by unfold applyS; simp only [List.append_assoc]] at this
        exact this
      have HMk := Lib.hid HMk0
      unfold ptr at HS HMk
      clear hO hkk hat hmap HB HW HA Hsm Hn hall hwl hps hSl HMk0
      go_wp2_with fail
      refine HS.out.mono ?_
      rintro e w2 ⟨rfl, Bs', Pn', hO2⟩
      have HMk2 := Lib.hid (HMk.out w2 _ _ hO2.less)
      clear HS HMk hO2
      go_wp2_with fail
      refine HMk2.out.mono ?_
      rintro e w3 ⟨rfl, Bs2, Pn2, hO3⟩
      have hO3 := Lib.hid hO3
      go_wp2
      go_end0
      exact ⟨rfl, _, _, hO3.out⟩
end Go.Proofs.YtkalglcbmfhdfaaGreat
end
section
/- Package commit: Begin, New, Left, Phase. -/
namespace Go.Proofs.YtkalglcbmfhdfaaGreat
open Go.RowKit Go.Grommet

def beginS (M A : Nat) (W : List (Int × Nat)) : List (Nat × Cl) := sealS M A (recR W) ++ markS M 3 A (markV (recR W)) ++ applyS M A W
theorem set_end {Ps : List Pr} {k : Nat} {P Q : Pr} (hkl : k < Ps.length) : (Ps ++ [Q]).set k P = Ps.set k P ++ [Q] := List.set_append_left _ _ hkl
theorem sealS_len (M A : Nat) (xs : List Nat) : (sealS M A xs).length ≤ xs.length + M + 1 := by
  have := settleS_len M 2 ((sealQ A xs xs.length).map (·.1))
  unfold sealS
  rw [List.length_append, storesS_len, sealQ_len]; omega
theorem markS_len (M p A v : Nat) : (markS M p A v).length ≤ M + 2 := by
  have := settleS_len M p [A]
  unfold markS
  rw [List.length_cons]; omega

set_option maxRecDepth 100000 in
set_option maxHeartbeats 4000000 in
theorem BeginH (k m R D : Nat) (a b c : Int) (A : Nat) (Bs : List Nat) (Pn : List (Cl × Value)) (ad : Option Addr) (n cap : Nat) (W : List (Int × Nat)) (M : Nat) (w0 w : World) (Ps : List Pr) (h : Grommet.Own w0 w Ps) (hk : Ps[k]? = some (runP R D a b c A Bs Pn [])) (hm : Ps[m]? = some (rowP 89 2 (.slice ad n cap) n (icells W))) (hmk : m ≠ k)
    (hn : W.length = n) (hmay : mayW a b c W = true) (hv : ∀ x ∈ W, x.2 < 18446744073709551616) (hW : ∀ x ∈ W, 0 ≤ x.1 ∧ x.1.toNat / 8 < M ∧ x.1 < 1000000) (hA : (A + 8 + 2 + 2 * n) / 8 < M) (hsm : A + 1000 < 1000000) (hM : M ≤ 10000) :
    Calls Tryz.prog 44 #[ptr R, .slice ad n cap] w fun e w' => e = .returned (.int .i64 0) ∧ ∃ Bs' Pn', Grommet.Own w0 w' (Ps.set k (runP R D a b c A Bs' Pn' (beginS M A W))) := by
  have hkl := (List.getElem?_eq_some_iff.1 hk).1
  have hml := (List.getElem?_eq_some_iff.1 hm).1
  have hn96 : n ≤ 96 := by
    unfold mayW at hmay
    have := (of_decide_eq_true hmay).1
    omega
  obtain ⟨hat, _, _, _⟩ := Own.pairs h m hm
  have hsmR := recR_small (M := W) (fun p hp => ⟨by have := hW p hp; omega, hv p hp⟩) (by omega)
  have hneg : negB W = false := by
    unfold negB
    rw [List.any_eq_false]
    intro p hp
    have := (hW p hp).1
    simp; omega
  have hRl : (recR W).length = 2 + 2 * n := by rw [recR_length, hn]
  obtain ⟨Z, hZ⟩ : ∃ Z, 2 + 2 * n = Z := ⟨_, rfl⟩
  obtain ⟨X, hX⟩ : ∃ X, recR W = X := ⟨_, rfl⟩
  rw [hZ] at hRl
  have HMy := Lib.hid (RMay0_any a b c ad n cap W w hat hn (fun p hp => by
    have := hW p hp
    simp only [Lit.wf, Bool.and_eq_true, decide_eq_true_eq]
    exact ⟨by show (-9223372036854775808 : Int) ≤ _; omega, by show _ ≤ (9223372036854775807 : Int); omega⟩))
  rw [hmay] at HMy
  have HWd0 : ∀ wx, w.grownBy wx none → Calls Tryz.prog 85 #[.slice ad n cap] wx fun e w' => ∃ ad1 cap1, e = .returned (.tuple #[.slice ad1 Z cap1, .int .i64 0]) ∧ Grommet.Own w0 w' (Ps ++ [rowP 45 1 (.slice ad1 Z cap1) Z (X.map wv)]) := by
    intro wx hg
    refine (Words_few wx.heap.size ad n cap W wx (hat.grown hg (by simp)) hn hn96 (fun p hp => ⟨by have := hW p hp; omega, hv p hp⟩) (Nat.le_refl _)).mono ?_
    rintro e w' (⟨h, _⟩ | ⟨_, ad1, cap1, rfl, hrow, hg2⟩)
    · rw [hneg] at h; cases h
    · rw [hX] at hrow hRl
      refine ⟨ad1, cap1, by rw [hX, hRl], ?_⟩
      rw [hRl] at hrow
      exact (h.quiet hg).addRow hrow hg2
  have HWd := Lib.hid HWd0
  have HSl0 : ∀ (wx : World) (ad1 : Option Addr) (cap1 : Nat), Grommet.Own w0 wx (Ps ++ [rowP 45 1 (.slice ad1 Z cap1) Z (X.map wv)]) → Calls Tryz.prog 86 #[ptr R, .slice ad1 Z cap1] wx fun e w' => e = .returned (.tuple #[]) ∧ ∃ Bs' Pn', Grommet.Own w0 w' (Ps.set k (runP R D a b c A Bs' Pn' (sealS M A X)) ++ [rowP 45 1 (.slice ad1 Z cap1) Z (X.map wv)]) := by
    intro wx ad1 cap1 hO
    have := sealH k Ps.length R D a b c A Bs Pn [] ad1 Z cap1 X M w0 wx _ hO (by rw [List.getElem?_append_left hkl]; exact hk) (by simp) (by omega) (by rw [← hX]; exact hRl) (by omega) (by omega) (by simp; omega)
    simp only [set_end hkl, List.nil_append] at this
    exact this
  have HSl := Lib.hid HSl0
  have HMr0 : ∀ (wx : World) (Bs' : List Nat) (Pn' : List (Cl × Value)) (ad1 : Option Addr) (cap1 : Nat), Grommet.Own w0 wx (Ps.set k (runP R D a b c A Bs' Pn' (sealS M A X)) ++ [rowP 45 1 (.slice ad1 Z cap1) Z (X.map wv)]) → Calls Tryz.prog 88 #[.slice ad1 Z cap1] wx fun e w' => e = .returned (.int .u64 (markV X : Int)) ∧ Grommet.Own w0 w' (Ps.set k (runP R D a b c A Bs' Pn' (sealS M A X)) ++ [rowP 45 1 (.slice ad1 Z cap1) Z (X.map wv)]) := by
    intro wx Bs' Pn' ad1 cap1 hO
    obtain ⟨hw, _, hc⟩ := Own.words hO Ps.length get_snoc (by rw [← hX]; exact hsmR) (by omega)
    refine (Mark_any ad1 Z cap1 X wx hw hc).mono ?_
    rintro e w' ⟨rfl, hg⟩
    exact ⟨rfl, hO.quiet hg⟩
  have HMr := Lib.hid HMr0
  have HMk0 : ∀ (wx : World) (Bs' : List Nat) (Pn' : List (Cl × Value)) (ad1 : Option Addr) (cap1 : Nat), Grommet.Own w0 wx (Ps.set k (runP R D a b c A Bs' Pn' (sealS M A X)) ++ [rowP 45 1 (.slice ad1 Z cap1) Z (X.map wv)]) → Calls Tryz.prog 87 #[ptr R, .int .u8 3, .int .u64 (markV X : Int)] wx fun e w' => e = .returned (.tuple #[]) ∧ ∃ Bs' Pn', Grommet.Own w0 w' (Ps.set k (runP R D a b c A Bs' Pn' (sealS M A X ++ markS M 3 A (markV X)))) := by
    intro wx Bs' Pn' ad1 cap1 hO
    have hl1 := sealS_len M A X
    rw [← hX, hRl] at hl1
    refine (markH k R D a b c A Bs' Pn' (sealS M A X) 3 (markV X) M w0 wx _ hO.less (List.getElem?_set_self hkl) (by omega) (by omega) (by rw [← hX]; omega)).mono ?_
    rintro e w' ⟨rfl, B2, P2, hO2⟩
    rw [List.set_set] at hO2
    exact ⟨rfl, B2, P2, hO2⟩
  have HMk := Lib.hid HMk0
  have HAp0 : ∀ (wx : World) (Bs' : List Nat) (Pn' : List (Cl × Value)), Grommet.Own w0 wx (Ps.set k (runP R D a b c A Bs' Pn' (sealS M A X ++ markS M 3 A (markV X)))) → Calls Tryz.prog 89 #[ptr R, .slice ad n cap] wx fun e w' => e = .returned (.tuple #[]) ∧ ∃ Bs' Pn', Grommet.Own w0 w' (Ps.set k (runP R D a b c A Bs' Pn' (beginS M A W))) := by
    intro wx Bs' Pn' hO
    have hl1 := sealS_len M A X
    rw [← hX, hRl] at hl1
    have hl2 := markS_len M 3 A (markV X)
    refine (applyH k m R D a b c A Bs' Pn' (sealS M A X ++ markS M 3 A (markV X)) ad n cap W M w0 wx _ hO (List.getElem?_set_self hkl) (by rw [List.getElem?_set_ne (fun e => hmk e.symm)]; exact hm) hmk hn hW (by omega) (by omega) (by rw [List.length_append, ← hX]; rw [← hX] at hl2; omega)).mono ?_
    rintro e w' ⟨rfl, B2, P2, hO2⟩
    rw [List.set_set] at hO2
    refine ⟨rfl, B2, P2, ?_⟩
    unfold beginS
    rw [hX]
    exact hO2
  have HAp := Lib.hid HAp0
  obtain ⟨_, c1, c2, c3, _, ⟨ads, caps, c5⟩, _, _⟩ := run_cells h k hk
  have c5 : w.cell? ⟨R, 5, none⟩ = some (.slice ads 0 caps) := c5
  unfold ptr at HSl HMk HAp ⊢
  unfold gv at HMy
  generalize markV X = MV at HMr HMk HAp
  clear h hk hm hmk hn hmay hv hsmR hW hA hsm hM hat hneg hRl hX HWd0 HSl0 HMr0 HMk0 HAp0 hn96 hZ
  go_enter Tryz.func44, Tryz.ntmps44
  go_wp2_with fail
  refine HMy.out.mono ?_
  rintro e w1 ⟨rfl, hg1⟩
  have HWd1 := Lib.hid (HWd.out w1 hg1)
  clear HMy HWd hg1
  go_wp2_with fail
  refine HWd1.out.mono ?_
  rintro e w2 ⟨ad1, cap1, rfl, hO2⟩
  have HSl2 := Lib.hid (HSl.out w2 ad1 cap1 hO2)
  clear HWd1 HSl hO2
  go_wp2_with fail
  refine HSl2.out.mono ?_
  rintro e w3 ⟨rfl, B3, P3, hO3⟩
  have HMr3 := Lib.hid (HMr.out w3 _ _ _ _ hO3)
  clear HSl2 HMr hO3
  go_wp2_with fail
  refine HMr3.out.mono ?_
  rintro e w4 ⟨rfl, hO4⟩
  have HMk4 := Lib.hid (HMk.out w4 _ _ _ _ hO4)
  clear HMr3 HMk hO4
  go_wp2_with fail
  refine HMk4.out.mono ?_
  rintro e w5 ⟨rfl, B5, P5, hO5⟩
  have HAp5 := Lib.hid (HAp.out w5 _ _ hO5)
  clear HMk4 HAp hO5
  go_wp2_with fail
  refine HAp5.out.mono ?_
  rintro e w6 ⟨rfl, B6, P6, hO6⟩
  have hO6 := Lib.hid hO6
  go_wp2
  go_ret
  exact ⟨rfl, _, _, hO6.out⟩

set_option maxRecDepth 100000 in
set_option maxHeartbeats 1000000 in
theorem LeftH (k R D : Nat) (a b c : Int) (A : Nat) (Bs : List Nat) (Pn : List (Cl × Value)) (S : List (Nat × Cl)) (w0 w : World) (Ps : List Pr) (h : Grommet.Own w0 w Ps) (hk : Ps[k]? = some (runP R D a b c A Bs Pn S)) :
    Calls Tryz.prog 71 #[ptr R] w fun e w' => e = .returned (.int .i64 (S.length : Int)) ∧ w' = w := by
  obtain ⟨_, _, _, _, _, ⟨ads, caps, c5⟩, _, _⟩ := run_cells h k hk
  generalize S.length = n at c5
  unfold ptr
  clear h hk
  go_enter Tryz.func71, Tryz.ntmps71
  go_wp2
  go_ret
  exact ⟨rfl, rfl⟩
end Go.Proofs.YtkalglcbmfhdfaaGreat
end
section
/- Package commit: New. -/
namespace Go.Proofs.YtkalglcbmfhdfaaGreat
open Go.RowKit Go.Grommet

theorem PWordsH (j d : Nat) (ws : List PW) (w0 w : World) (Ps : List Pr) (h : Grommet.Own w0 w Ps) (hj : Ps[j]? = some (devP d ws)) : Calls Tryz.prog 51 #[ptr d] w fun e w' => e = .returned (.int .i64 (ws.length : Int)) ∧ w.grownBy w' none := by
  obtain ⟨g, hD, _⟩ := dev_does h hj
  refine (pm_Words_any w d g ws hD).mono ?_
  rintro e w' ⟨rfl, h⟩
  rw [h]
  exact ⟨rfl, World.grownBy.refl _ _⟩
theorem run_new {w0 w : World} {Ps : List Pr} (h : Grommet.Own w0 w Ps) (d : Nat) (a b c : Int) (A : Nat) : Grommet.Own w0 (w.alloc (.cells #[ptr d, .int .i64 a, .int .i64 b, .int .i64 c, .int .i64 (A : Int), .slice none 0 0] 145)) (Ps ++ [runP w.heap.size d a b c A [] [] []]) := by
  refine h.add (P := runP w.heap.size d a b c A [] [] []) (F := fun i => i = w.heap.size) ⟨none, 0, [], heap_alloc_new w _, ⟨rfl, .inl ⟨rfl, rfl⟩⟩, rfl, fun g hg => (by cases hg), rfl, fun i s cv hs => (by simp at hs), fun x hx => (by cases hx), fun x hx => (by cases hx), fun i hi => (by rw [hi]; simp)⟩ (fun i hi => by rw [hi]; exact Nat.le_refl _) (World.grownBy_alloc w _ none)

set_option maxRecDepth 100000 in
set_option maxHeartbeats 2000000 in
theorem RNewH (j d a b c k A : Nat) (ws : List PW) (w0 w : World) (Ps : List Pr) (h : Grommet.Own w0 w Ps) (hj : Ps[j]? = some (devP d ws)) (hA : areaV (a : Int) (b : Int) (c : Int) (k : Int) = (A : Int)) (hws : wordsV (a : Int) (b : Int) (c : Int) ≤ (ws.length : Int)) :
    Calls Tryz.prog 43 #[ptr d, gv (a : Int) (b : Int) (c : Int), .int .i64 (k : Int)] w fun e w' => ∃ R, e = .returned (.tuple #[ptr R, .int .i64 0]) ∧ Grommet.Own w0 w' (Ps ++ [runP R d (a : Int) (b : Int) (c : Int) A [] [] []]) := by
  have hjl := (List.getElem?_eq_some_iff.1 hj).1
  have HAt := Lib.hid (fun wx => AreaAt_any (a : Int) (b : Int) (c : Int) (k : Int) wx)
  rw [hA] at HAt
  have HWd := Lib.hid (fun wx => Words_any (a : Int) (b : Int) (c : Int) wx)
  obtain ⟨w1, hw1⟩ : ∃ w1, w.alloc (.cells #[.int .i64 (a : Int), .int .i64 (b : Int), .int .i64 (c : Int)] 23) = w1 := ⟨_, rfl⟩
  obtain ⟨G, hG⟩ : ∃ G, w.heap.size = G := ⟨_, rfl⟩
  have h1 := h.addBox 23 #[.int .i64 (a : Int), .int .i64 (b : Int), .int .i64 (c : Int)]
  rw [hw1, hG] at h1
  have HPw := Lib.hid (fun wx (hO : Grommet.Own w0 wx (Ps ++ [boxP G 23 #[.int .i64 (a : Int), .int .i64 (b : Int), .int .i64 (c : Int)]])) => PWordsH j d ws w0 wx _ hO (by rw [List.getElem?_append_left hjl]; exact hj))
  have HG := Lib.hid (fun wx (hO : Grommet.Own w0 wx (Ps ++ [boxP G 23 #[.int .i64 (a : Int), .int .i64 (b : Int), .int .i64 (c : Int)]])) => (show GeoQ G (a : Int) (b : Int) (c : Int) wx from hO.box Ps.length (by simp)))
  have HN := Lib.hid (fun wx (hO : Grommet.Own w0 wx (Ps ++ [boxP G 23 #[.int .i64 (a : Int), .int .i64 (b : Int), .int .i64 (c : Int)]])) => run_new hO.less d (a : Int) (b : Int) (c : Int) A)
  have HO1 := Lib.hid h1
  obtain ⟨f0, f1, f2⟩ := GeoQ.cells (HG.out w1 h1)
  obtain ⟨WV, hWV⟩ : ∃ v, wordsV (a : Int) (b : Int) (c : Int) = v := ⟨_, rfl⟩
  rw [hWV] at HWd hws
  have q1 : ¬ (ws.length : Int) < WV := by omega
  have q2 : ¬ (A : Int) < 0 := by omega
  generalize ws.length = n at HPw q1 hws
  unfold gv at HAt HWd ⊢
  unfold ptr at HPw HN ⊢
  clear h hj hA h1 hWV
  go_enter Tryz.func43, Tryz.ntmps43
  go_wp2_with fail
  refine (HAt.out _).mono ?_
  rintro e w2 ⟨rfl, hg2⟩
  have hO2 := HO1.out.quiet hg2
  have hOr := Lib.hid (hO2.quiet (grown_drew (World.grownBy.refl _ none)))
  have hz0 := Lib.hid (HG.out _ hOr.out)
  clear hg2 HAt HO1 hO2 f0 f1 f2 hw1
  go_wp2_with fail
  refine wp_region_held_drew (S := fun w' => GeoQ G (a : Int) (b : Int) (c : Int) w') (by kernel_rfl) (hz0.out) (fun hS => ?_)
  refine wpAnyH_take (i := 0) (oi := { dst := some 19, op := Op.move (Operand.tmp 0), type := 32, pos := "commit.go:50", after := #[], guard := none }) (v := ?vnw43r6o0) rfl (by kernel_rfl) (by kernel_rfl) (by kernel_rfl) (fun _ _ _ h => h) (Or.inl ⟨by rfl, ?hnw43r6o0⟩) hS ?_
  case hnw43r6o0 => (intro wx hx; skip; go_simp; (try with_reducible rfl))
  try simp only [Act.put, List.setIfInBounds_toArray, List.set_cons_zero, List.set_cons_succ]
  refine wpAnyH_take (i := 2) (oi := { dst := some 21, op := Op.load 23 (Operand.tmp 4), type := 23, pos := "commit.go:50", after := #[], guard := none }) (v := ?vnw43r6o2) rfl (by kernel_rfl) (by kernel_rfl) (by kernel_rfl) (fun _ _ _ h => h) (Or.inl ⟨by rfl, ?hnw43r6o2⟩) hS ?_
  case hnw43r6o2 => (intro wx hx; obtain ⟨f0, f1, f2⟩ := GeoQ.cells hx; go_simp; (try with_reducible rfl))
  try simp only [Act.put, List.setIfInBounds_toArray, List.set_cons_zero, List.set_cons_succ]
  refine wpAnyH_ready (rs := [1]) (by kernel_rfl) (by simp) ?_
  refine AllReadyH.cons (o := { dst := some 20, op := Op.call { callee := Callee.value (Operand.func 51), args := #[Operand.tmp 19], argTypes := #[32] }, type := 3, pos := "commit.go:50", after := #[{ on := 0, ground := Ground.data }], guard := none }) rfl (fun K hK => ?_) AllReadyH.nil
  go_simp
  refine (HPw.out _ hOr.out).mono ?_
  rintro e v2 ⟨rfl, hn⟩
  have hOn := Lib.hid (hOr.out.quiet hn)
  clear hOr hn
  have hOr := hOn
  clear hOn
  refine hK.out _ _ ?hsnw43r6o1 (fun hS => ?_)
  case hsnw43r6o1 => (exact HG.out _ hOr.out)
  clear hK K
  try simp only [Act.put, List.setIfInBounds_toArray, List.set_cons_zero, List.set_cons_succ]
  refine wpAnyH_ready (rs := [3]) (by kernel_rfl) (by simp) ?_
  refine AllReadyH.cons (o := { dst := some 22, op := Op.call { callee := Callee.value (Operand.func 42), args := #[Operand.tmp 21], argTypes := #[23] }, type := 3, pos := "commit.go:50", after := #[{ on := 2, ground := Ground.data }, { on := 1, ground := Ground.chain }], guard := none }) rfl (fun K hK => ?_) AllReadyH.nil
  go_simp
  refine (HWd.out _).mono ?_
  rintro e v1 ⟨rfl, hn⟩
  have hOn := Lib.hid (hOr.out.quiet hn)
  clear hOr hn
  have hOr := hOn
  clear hOn
  refine hK.out _ _ ?hsnw43r6o3 (fun hS => ?_)
  case hsnw43r6o3 => (exact HG.out _ hOr.out)
  clear hK K
  try simp only [Act.put, List.setIfInBounds_toArray, List.set_cons_zero, List.set_cons_succ]
  refine wpAnyH_take (i := 4) (oi := { dst := some 23, op := Op.binOp BinOp.lss 3 (Operand.tmp 20) (Operand.tmp 22) 3, type := 4, pos := "commit.go:50", after := #[{ on := 1, ground := Ground.data }, { on := 3, ground := Ground.data }], guard := none }) (v := ?vnw43r6o4) rfl (by kernel_rfl) (by kernel_rfl) (by kernel_rfl) (fun _ _ _ h => h) (Or.inl ⟨by rfl, ?hnw43r6o4⟩) hS ?_
  case hnw43r6o4 => (intro wx hx; skip; go_simp; (try with_reducible rfl))
  try simp only [Act.put, List.setIfInBounds_toArray, List.set_cons_zero, List.set_cons_succ]
  refine wpAnyH_take (i := 5) (oi := { dst := some 18, op := Op.assign (Operand.tmp 23), type := 4, pos := "commit.go:50", after := #[{ on := 4, ground := Ground.data }, { on := 3, ground := Ground.chain }], guard := none }) (v := ?vnw43r6o5) rfl (by kernel_rfl) (by kernel_rfl) (by kernel_rfl) (fun _ _ _ h => h) (Or.inl ⟨by rfl, ?hnw43r6o5⟩) hS ?_
  case hnw43r6o5 => (intro wx hx; skip; go_simp; (try with_reducible rfl))
  try simp only [Act.put, List.setIfInBounds_toArray, List.set_cons_zero, List.set_cons_succ]
  refine wpAnyH_done (by kernel_rfl) ?_ _
  obtain ⟨f0, f1, f2⟩ := GeoQ.cells hS
  have hfin := Lib.hid (HN.out _ hOr.out)
  clear hOr HN HG HPw HWd hS
  go_wp2
  go_ret2
  exact ⟨_, rfl, hfin.out⟩
end Go.Proofs.YtkalglcbmfhdfaaGreat
end
section
/- Package commit: Resume. -/
namespace Go.Proofs.YtkalglcbmfhdfaaGreat
open Go.RowKit Go.Grommet

theorem own_putBox {w0 w : World} {Ps : List Pr} (h : Grommet.Own w0 w Ps) (k : Nat) {X : Nat} {T : TypeId} {cs : Array Value} (hk : Ps[k]? = some (boxP X T cs)) (o : Nat) (u : Value) : Grommet.Own w0 (w.setCell ⟨X, o, none⟩ u) (Ps.set k (boxP X T (cs.setIfInBounds o u))) := by
  obtain ⟨F, h1, h2⟩ := h.take k hk
  exact h2 _ _ ⟨F, ⟨heap_setCell_at h1.1 u, h1.2.1, fun i hi => Nat.lt_of_lt_of_le (h1.2.2 i hi) (by simp [World.setCell])⟩, fun i hi => .inl hi, Turn.of (grown_setCell _ _ _) (fun i e => by cases e; exact h1.2.1)⟩
/-- What a run is to do that resumes. -/
def resS (M A : Nat) (a b c : Int) (xs : List Nat) : List (Nat × Cl) := if commB a b c xs A = true then applyS M A (commM xs A) else markS M 6 A 0
theorem comm_len {a b c : Int} {xs : List Nat} {A : Nat} (h : commB a b c xs A = true) : (commM xs A).length ≤ 96 := by
  unfold commB at h
  simp only [Bool.and_eq_true] at h
  obtain ⟨_, h⟩ := h
  unfold readB at h
  simp only [Bool.and_eq_true] at h
  obtain ⟨_, h⟩ := h
  unfold mayW at h
  have := (of_decide_eq_true h).1
  unfold commM
  omega
/-- A run's cells. -/
def RC (R D : Nat) (a b c : Int) (A : Nat) (w : World) : Prop := w.cell? ⟨R, 0, none⟩ = some (ptr D) ∧ w.cell? ⟨R, 1, none⟩ = some (.int .i64 a) ∧ w.cell? ⟨R, 2, none⟩ = some (.int .i64 b) ∧ w.cell? ⟨R, 3, none⟩ = some (.int .i64 c) ∧ w.cell? ⟨R, 4, none⟩ = some (.int .i64 (A : Int))
theorem RC.of {w0 w : World} {Ps : List Pr} {R D : Nat} {a b c : Int} {A : Nat} {Bs : List Nat} {Pn : List (Cl × Value)} {S : List (Nat × Cl)} (h : Grommet.Own w0 w Ps) (k : Nat) (hk : Ps[k]? = some (runP R D a b c A Bs Pn S)) : RC R D a b c A w := by
  obtain ⟨c0, c1, c2, c3, c4, _⟩ := run_cells h k hk
  exact ⟨c0, c1, c2, c3, c4⟩
theorem old_get {Ps : List Pr} {k : Nat} {P Q : Pr} (hk : Ps[k]? = some P) : (Ps ++ [Q])[k]? = some P := by
  rw [List.getElem?_append_left (List.getElem?_eq_some_iff.1 hk).1]; exact hk
theorem last_get {Ps : List Pr} {Q : Pr} : (Ps ++ [Q])[Ps.length]? = some Q := by rw [List.getElem?_append_right (Nat.le_refl _), Nat.sub_self]; rfl
theorem seen_cell {w0 w : World} {Ps : List Pr} {ad : Option Addr} {n cap : Nat} {xs : List Nat} (h : Grommet.Own w0 w (Ps ++ [rowP 45 1 (.slice ad n cap) n (xs.map wv)])) (hx : ∀ v ∈ xs, v < 18446744073709551616) (hn : xs.length = n) (hf : n ≤ 65536) (A : Nat) (hA : A < n) :
    ∃ q, ad = some ⟨q, 0, none⟩ ∧ w.cell? ⟨q, A, none⟩ = some (.int .u64 (xs.getD A 0 : Int)) ∧ Words w (some ⟨q, 0, none⟩) n xs ∧ n ≤ cap := by
  have hAx : A < xs.length := by omega
  obtain ⟨q, rfl, c1, _, hc⟩ := Own.cell h Ps.length last_get A (wv (xs.getD A 0)) (by rw [List.getElem?_map, List.getElem?_eq_getElem hAx, List.getD_eq_getElem?_getD, List.getElem?_eq_getElem hAx]; rfl)
  obtain ⟨hw, _, _⟩ := Own.words h Ps.length last_get hx (by omega)
  exact ⟨q, rfl, c1, hw, hc⟩

set_option maxRecDepth 100000 in
set_option maxHeartbeats 2000000 in
theorem ResumeNo (k j R D : Nat) (a b c : Int) (A : Nat) (Bs : List Nat) (Pn : List (Cl × Value)) (ws : List PW) (N : Nat) (w0 w : World) (Ps : List Pr) (h : Grommet.Own w0 w Ps) (hk : Ps[k]? = some (runP R D a b c A Bs Pn [])) (hj : Ps[j]? = some (devP D ws)) (hN : ws.length = 8 * N) (hf : ws.length ≤ 65536) (hx : ∀ v ∈ ws.map (·.seen), v < 18446744073709551616) (hA : A < ws.length)
    (h0 : (ws.map (·.seen)).getD A 0 = 0) :
    Calls Tryz.prog 96 #[ptr R] w fun e w' => e = .returned (.tuple #[.bool false, .int .i64 0]) ∧ Grommet.Own w0 w' Ps := by
  have HS := Lib.hid (SeenH j D ws w0 w Ps h hj N hN)
  obtain ⟨c0, _, _, _, c4, ⟨ads, caps, c5⟩, _, _⟩ := run_cells h k hk
  have c5 : w.cell? ⟨R, 5, none⟩ = some (.slice ads 0 caps) := c5
  have HC := Lib.hid (fun wx ad cap (hO : Grommet.Own w0 wx (Ps ++ [rowP 45 1 (.slice ad ws.length cap) ws.length ((ws.map (·.seen)).map wv)])) => And.intro (RC.of hO k (old_get hk)) (And.intro (seen_cell hO hx (by simp) hf A hA) hO.less))
  rw [h0] at HC
  have hA' : (A : Int) < (ws.length : Int) := by omega
  have A0 : (0 : Int) ≤ (A : Int) := by omega
  generalize ws.length = n at HS HC hA'
  generalize (ws.map (·.seen)).map wv = xv at HS HC
  unfold RC ptr at HC
  unfold ptr at HS c0 ⊢
  clear h hk hj hN hf hx hA h0
  go_enter Tryz.func96, Tryz.ntmps96
  go_wp2_with fail
  refine HS.out.mono ?_
  rintro e w1 ⟨ad, cap, rfl, hO1⟩
  obtain ⟨⟨d0, d1, d2, d3, d4⟩, ⟨q, rfl, c1, _, hc⟩, hO⟩ := HC.out w1 ad cap hO1
  have hO := Lib.hid hO
  clear HS HC hO1 c0 c4 c5
  go_wp2
  go_ret2
  exact ⟨rfl, hO.out⟩

set_option maxRecDepth 100000 in
set_option maxHeartbeats 2000000 in
theorem ResumeBad (k j R D : Nat) (a b c : Int) (A : Nat) (Bs : List Nat) (Pn : List (Cl × Value)) (ws : List PW) (N M : Nat) (w0 w : World) (Ps : List Pr) (h : Grommet.Own w0 w Ps) (hk : Ps[k]? = some (runP R D a b c A Bs Pn [])) (hj : Ps[j]? = some (devP D ws)) (hN : ws.length = 8 * N) (hf : ws.length ≤ 65536) (hx : ∀ v ∈ ws.map (·.seen), v < 18446744073709551616) (hA : A + 208 ≤ ws.length)
    (h0 : (ws.map (·.seen)).getD A 0 ≠ 0) (hB : commB a b c (ws.map (·.seen)) A = false) (hAM : A / 8 < M) (hM : M ≤ 10000) :
    Calls Tryz.prog 96 #[ptr R] w fun e w' => e = .returned (.tuple #[.bool true, .int .i64 0]) ∧ ∃ Bs' Pn', Grommet.Own w0 w' (Ps.set k (runP R D a b c A Bs' Pn' (markS M 6 A 0))) := by
  have hkl := (List.getElem?_eq_some_iff.1 hk).1
  have HS := Lib.hid (SeenH j D ws w0 w Ps h hj N hN)
  obtain ⟨c0, _, _, _, c4, ⟨ads, caps, c5⟩, _, _⟩ := run_cells h k hk
  have c5 : w.cell? ⟨R, 5, none⟩ = some (.slice ads 0 caps) := c5
  have HC := Lib.hid (fun wx ad cap (hO : Grommet.Own w0 wx (Ps ++ [rowP 45 1 (.slice ad ws.length cap) ws.length ((ws.map (·.seen)).map wv)])) => And.intro (RC.of hO k (old_get hk)) (seen_cell hO hx (by simp) hf A (by omega)))
  have HCm0 : ∀ wx q cap, Grommet.Own w0 wx (Ps ++ [rowP 45 1 (.slice (some ⟨q, 0, none⟩) ws.length cap) ws.length ((ws.map (·.seen)).map wv)]) → Calls Tryz.prog 79 #[gv a b c, .slice (some ⟨q, 0, none⟩) ws.length cap, .int .i64 (A : Int)] wx fun e w' => e = .returned (.tuple #[.slice none 0 0, .bool false]) ∧ Grommet.Own w0 w' (Ps ++ [rowP 45 1 (.slice (some ⟨q, 0, none⟩) ws.length cap) ws.length ((ws.map (·.seen)).map wv)]) := by
    intro wx q cap hO
    obtain ⟨q', he, _, hw, hc⟩ := seen_cell hO hx (by simp) hf A (by omega)
    cases he
    refine (committed_any wx.heap.size a b c q 0 ws.length cap _ A wx hw hc hA (by omega) (Nat.le_refl _)).mono ?_
    rintro e w' (⟨hy, _⟩ | ⟨_, rfl, hg⟩)
    · rw [hB] at hy; cases hy
    · exact ⟨rfl, hO.quiet hg⟩
  have HCm := Lib.hid HCm0
  have HK := Lib.hid (fun wx ad cap (hO : Grommet.Own w0 wx (Ps ++ [rowP 45 1 (.slice ad ws.length cap) ws.length ((ws.map (·.seen)).map wv)])) => RC.of hO k (old_get hk))
  have HM0 : ∀ wx ad cap, Grommet.Own w0 wx (Ps ++ [rowP 45 1 (.slice ad ws.length cap) ws.length ((ws.map (·.seen)).map wv)]) → Calls Tryz.prog 87 #[ptr R, .int .u8 6, .int .u64 0] wx fun e w' => e = .returned (.tuple #[]) ∧ ∃ Bs' Pn', Grommet.Own w0 w' (Ps.set k (runP R D a b c A Bs' Pn' (markS M 6 A 0))) := by
    intro wx ad cap hO
    exact markH k R D a b c A Bs Pn [] 6 0 M w0 wx Ps hO.less hk hAM (by omega) (by simp; omega)
  have HM := Lib.hid HM0
  have hA' : (A : Int) < (ws.length : Int) := by omega
  have A0 : (0 : Int) ≤ (A : Int) := by omega
  generalize (ws.map (·.seen)).getD A 0 = m at h0 HC
  have q0 : ((m : Int) == 0) = false := by rw [beq_eq_false_iff_ne]; omega
  clear HM0 HCm0 h hk hj hN hf hx hA h0 hB hAM hM
  generalize ws.length = n at HS HC HCm HK HM hA'
  generalize (ws.map (·.seen)) = xs at HS HC HCm HK HM
  unfold RC ptr at HC
  unfold gv at HCm
  unfold ptr at HS c0 HM ⊢
  go_enter Tryz.func96, Tryz.ntmps96
  go_wp2_with fail
  refine HS.out.mono ?_
  rintro e w1 ⟨ad, cap, rfl, hO1⟩
  obtain ⟨⟨d0, d1, d2, d3, d4⟩, ⟨q, rfl, c1, _, hc⟩⟩ := HC.out w1 ad cap hO1
  have hOr := Lib.hid (hO1.quiet (grown_drew (World.grownBy.refl w1 none)))
  have hz0 := Lib.hid (HK.out _ _ _ hOr.out)
  clear HS HC hO1 c0 c4 c5
  go_wp2_with fail
  refine wp_region_held_drew (S := fun w' => RC R D a b c A w') (by kernel_rfl) (hz0.out) (fun hS => ?_)
  refine wpAnyH_take (i := 0) (oi := { dst := some 31, op := Op.move (Operand.tmp 0), type := 84, pos := "commit.go:88", after := #[], guard := none }) (v := ?vrs96r8o0) rfl (by kernel_rfl) (by kernel_rfl) (by kernel_rfl) (fun _ _ _ h => h) (Or.inl ⟨by rfl, ?hrs96r8o0⟩) hS ?_
  case hrs96r8o0 => (intro wx hx; skip; go_simp; (try with_reducible rfl))
  try simp only [Act.put, List.setIfInBounds_toArray, List.set_cons_zero, List.set_cons_succ]
  refine wpAnyH_take (i := 1) (oi := { dst := some 32, op := Op.nilCheck (Operand.tmp 31), type := 0, pos := "commit.go:88", after := #[{ on := 0, ground := Ground.data }], guard := none }) (v := ?vrs96r8o1) rfl (by kernel_rfl) (by kernel_rfl) (by kernel_rfl) (fun _ _ _ h => h) (Or.inl ⟨by rfl, ?hrs96r8o1⟩) hS ?_
  case hrs96r8o1 => (intro wx hx; skip; go_simp; (try with_reducible rfl))
  try simp only [Act.put, List.setIfInBounds_toArray, List.set_cons_zero, List.set_cons_succ]
  refine wpAnyH_take (i := 2) (oi := { dst := some 33, op := Op.fieldAddr 145 (Operand.tmp 32) 1, type := 0, pos := "commit.go:88", after := #[{ on := 1, ground := Ground.data }], guard := none }) (v := ?vrs96r8o2) rfl (by kernel_rfl) (by kernel_rfl) (by kernel_rfl) (fun _ _ _ h => h) (Or.inl ⟨by rfl, ?hrs96r8o2⟩) hS ?_
  case hrs96r8o2 => (intro wx hx; skip; go_simp; (try with_reducible rfl))
  try simp only [Act.put, List.setIfInBounds_toArray, List.set_cons_zero, List.set_cons_succ]
  refine wpAnyH_take (i := 3) (oi := { dst := some 34, op := Op.load 23 (Operand.tmp 33), type := 23, pos := "commit.go:88", after := #[{ on := 2, ground := Ground.data }], guard := none }) (v := ?vrs96r8o3) rfl (by kernel_rfl) (by kernel_rfl) (by kernel_rfl) (fun _ _ _ h => h) (Or.inl ⟨by rfl, ?hrs96r8o3⟩) hS ?_
  case hrs96r8o3 => (intro wx hx; obtain ⟨e0, e1, e2, e3, e4⟩ := hx; go_simp; (try with_reducible rfl))
  try simp only [Act.put, List.setIfInBounds_toArray, List.set_cons_zero, List.set_cons_succ]
  refine wpAnyH_take (i := 4) (oi := { dst := some 35, op := Op.move (Operand.tmp 4), type := 42, pos := "commit.go:88", after := #[], guard := none }) (v := ?vrs96r8o4) rfl (by kernel_rfl) (by kernel_rfl) (by kernel_rfl) (fun _ _ _ h => h) (Or.inl ⟨by rfl, ?hrs96r8o4⟩) hS ?_
  case hrs96r8o4 => (intro wx hx; skip; go_simp; (try with_reducible rfl))
  try simp only [Act.put, List.setIfInBounds_toArray, List.set_cons_zero, List.set_cons_succ]
  refine wpAnyH_take (i := 5) (oi := { dst := some 36, op := Op.move (Operand.tmp 0), type := 84, pos := "commit.go:88", after := #[], guard := none }) (v := ?vrs96r8o5) rfl (by kernel_rfl) (by kernel_rfl) (by kernel_rfl) (fun _ _ _ h => h) (Or.inl ⟨by rfl, ?hrs96r8o5⟩) hS ?_
  case hrs96r8o5 => (intro wx hx; skip; go_simp; (try with_reducible rfl))
  try simp only [Act.put, List.setIfInBounds_toArray, List.set_cons_zero, List.set_cons_succ]
  refine wpAnyH_take (i := 6) (oi := { dst := some 37, op := Op.nilCheck (Operand.tmp 36), type := 0, pos := "commit.go:88", after := #[{ on := 5, ground := Ground.data }], guard := none }) (v := ?vrs96r8o6) rfl (by kernel_rfl) (by kernel_rfl) (by kernel_rfl) (fun _ _ _ h => h) (Or.inl ⟨by rfl, ?hrs96r8o6⟩) hS ?_
  case hrs96r8o6 => (intro wx hx; skip; go_simp; (try with_reducible rfl))
  try simp only [Act.put, List.setIfInBounds_toArray, List.set_cons_zero, List.set_cons_succ]
  refine wpAnyH_take (i := 7) (oi := { dst := some 38, op := Op.fieldAddr 145 (Operand.tmp 37) 2, type := 0, pos := "commit.go:88", after := #[{ on := 6, ground := Ground.data }], guard := none }) (v := ?vrs96r8o7) rfl (by kernel_rfl) (by kernel_rfl) (by kernel_rfl) (fun _ _ _ h => h) (Or.inl ⟨by rfl, ?hrs96r8o7⟩) hS ?_
  case hrs96r8o7 => (intro wx hx; skip; go_simp; (try with_reducible rfl))
  try simp only [Act.put, List.setIfInBounds_toArray, List.set_cons_zero, List.set_cons_succ]
  refine wpAnyH_take (i := 8) (oi := { dst := some 39, op := Op.load 3 (Operand.tmp 38), type := 3, pos := "commit.go:88", after := #[{ on := 7, ground := Ground.data }], guard := none }) (v := ?vrs96r8o8) rfl (by kernel_rfl) (by kernel_rfl) (by kernel_rfl) (fun _ _ _ h => h) (Or.inl ⟨by rfl, ?hrs96r8o8⟩) hS ?_
  case hrs96r8o8 => (intro wx hx; obtain ⟨e0, e1, e2, e3, e4⟩ := hx; go_simp; (try with_reducible rfl))
  try simp only [Act.put, List.setIfInBounds_toArray, List.set_cons_zero, List.set_cons_succ]
  refine wpAnyH_ready (rs := [9]) (by kernel_rfl) (by simp) ?_
  refine AllReadyH.cons (o := { dst := some 40, op := Op.call { callee := Callee.value (Operand.func 79), args := #[Operand.tmp 34, Operand.tmp 35, Operand.tmp 39], argTypes := #[23, 42, 3] }, type := 135, pos := "commit.go:88", after := #[{ on := 3, ground := Ground.data }, { on := 4, ground := Ground.data }, { on := 8, ground := Ground.data }], guard := none }) rfl (fun K hK => ?_) AllReadyH.nil
  go_simp
  refine (HCm.out _ _ _ hOr.out).mono ?_
  rintro e v1 ⟨rfl, hn⟩
  have hOn := Lib.hid hn
  clear hOr hn
  have hOr := hOn
  clear hOn
  refine hK.out _ _ ?hsrs96r8o9 (fun hS => ?_)
  case hsrs96r8o9 => (exact HK.out _ _ _ hOr.out)
  clear hK K
  try simp only [Act.put, List.setIfInBounds_toArray, List.set_cons_zero, List.set_cons_succ]
  refine wpAnyH_take (i := 10) (oi := { dst := some 30, op := Op.move (Operand.tmp 40), type := 135, pos := "commit.go:88", after := #[{ on := 9, ground := Ground.data }], guard := none }) (v := ?vrs96r8o10) rfl (by kernel_rfl) (by kernel_rfl) (by kernel_rfl) (fun _ _ _ h => h) (Or.inl ⟨by rfl, ?hrs96r8o10⟩) hS ?_
  case hrs96r8o10 => (intro wx hx; skip; go_simp; (try with_reducible rfl))
  try simp only [Act.put, List.setIfInBounds_toArray, List.set_cons_zero, List.set_cons_succ]
  refine wpAnyH_take (i := 11) (oi := { dst := some 41, op := Op.extract (Operand.tmp 30) 0, type := 90, pos := "commit.go:88", after := #[{ on := 10, ground := Ground.data }], guard := none }) (v := ?vrs96r8o11) rfl (by kernel_rfl) (by kernel_rfl) (by kernel_rfl) (fun _ _ _ h => h) (Or.inl ⟨by rfl, ?hrs96r8o11⟩) hS ?_
  case hrs96r8o11 => (intro wx hx; skip; go_simp; (try with_reducible rfl))
  try simp only [Act.put, List.setIfInBounds_toArray, List.set_cons_zero, List.set_cons_succ]
  refine wpAnyH_take (i := 12) (oi := { dst := some 42, op := Op.extract (Operand.tmp 30) 1, type := 4, pos := "commit.go:88", after := #[{ on := 10, ground := Ground.data }, { on := 13, ground := Ground.gcOnly Departure.lateStores }], guard := none }) (v := ?vrs96r8o12) rfl (by kernel_rfl) (by kernel_rfl) (by kernel_rfl) (fun _ _ _ h => h) (Or.inl ⟨by rfl, ?hrs96r8o12⟩) hS ?_
  case hrs96r8o12 => (intro wx hx; skip; go_simp; (try with_reducible rfl))
  try simp only [Act.put, List.setIfInBounds_toArray, List.set_cons_zero, List.set_cons_succ]
  refine wpAnyH_take (i := 13) (oi := { dst := some 5, op := Op.assign (Operand.tmp 41), type := 90, pos := "commit.go:88", after := #[{ on := 11, ground := Ground.data }, { on := 9, ground := Ground.chain }, { on := 0, ground := Ground.phase }, { on := 1, ground := Ground.phase }, { on := 2, ground := Ground.phase }, { on := 3, ground := Ground.phase }, { on := 4, ground := Ground.phase }, { on := 5, ground := Ground.phase }, { on := 6, ground := Ground.phase }, { on := 7, ground := Ground.phase }, { on := 8, ground := Ground.phase }, { on := 9, ground := Ground.phase }, { on := 10, ground := Ground.phase }, { on := 11, ground := Ground.phase }, { on := 12, ground := Ground.textOnly Departure.lateStores }], guard := none }) (v := ?vrs96r8o13) rfl (by kernel_rfl) (by kernel_rfl) (by kernel_rfl) (fun _ _ _ h => h) (Or.inl ⟨by rfl, ?hrs96r8o13⟩) hS ?_
  case hrs96r8o13 => (intro wx hx; skip; go_simp; (try with_reducible rfl))
  try simp only [Act.put, List.setIfInBounds_toArray, List.set_cons_zero, List.set_cons_succ]
  refine wpAnyH_take (i := 14) (oi := { dst := some 6, op := Op.assign (Operand.tmp 42), type := 4, pos := "commit.go:88", after := #[{ on := 12, ground := Ground.data }, { on := 13, ground := Ground.chain }, { on := 0, ground := Ground.phase }, { on := 1, ground := Ground.phase }, { on := 2, ground := Ground.phase }, { on := 3, ground := Ground.phase }, { on := 4, ground := Ground.phase }, { on := 5, ground := Ground.phase }, { on := 6, ground := Ground.phase }, { on := 7, ground := Ground.phase }, { on := 8, ground := Ground.phase }, { on := 9, ground := Ground.phase }, { on := 10, ground := Ground.phase }, { on := 11, ground := Ground.phase }, { on := 12, ground := Ground.phase }, { on := 13, ground := Ground.phase }], guard := none }) (v := ?vrs96r8o14) rfl (by kernel_rfl) (by kernel_rfl) (by kernel_rfl) (fun _ _ _ h => h) (Or.inl ⟨by rfl, ?hrs96r8o14⟩) hS ?_
  case hrs96r8o14 => (intro wx hx; skip; go_simp; (try with_reducible rfl))
  try simp only [Act.put, List.setIfInBounds_toArray, List.set_cons_zero, List.set_cons_succ]
  refine wpAnyH_done (by kernel_rfl) ?_ _
  have HM2 := Lib.hid (HM.out _ _ _ hOr.out)
  clear hOr HM HK HCm hS hz0
  go_wp2_with fail
  refine HM2.out.mono ?_
  rintro e w2 ⟨rfl, B2, P2, hO2⟩
  have hO2 := Lib.hid hO2
  go_wp2
  go_ret2
  exact ⟨rfl, _, _, hO2.out⟩

set_option maxRecDepth 100000 in
set_option maxHeartbeats 2000000 in
theorem ResumeYes (k j R D : Nat) (a b c : Int) (A : Nat) (Bs : List Nat) (Pn : List (Cl × Value)) (ws : List PW) (N M : Nat) (w0 w : World) (Ps : List Pr) (h : Grommet.Own w0 w Ps) (hk : Ps[k]? = some (runP R D a b c A Bs Pn [])) (hj : Ps[j]? = some (devP D ws)) (hN : ws.length = 8 * N) (hf : ws.length ≤ 65536) (hx : ∀ v ∈ ws.map (·.seen), v < 18446744073709551616) (hA : A + 208 ≤ ws.length)
    (h0 : (ws.map (·.seen)).getD A 0 ≠ 0) (hB : commB a b c (ws.map (·.seen)) A = true) (hW : ∀ x ∈ commM (ws.map (·.seen)) A, 0 ≤ x.1 ∧ x.1.toNat / 8 < M ∧ x.1 < 1000000) (hAM : A / 8 < M) (hM : M ≤ 10000) :
    Calls Tryz.prog 96 #[ptr R] w fun e w' => e = .returned (.tuple #[.bool true, .int .i64 0]) ∧ ∃ Bs' Pn', Grommet.Own w0 w' (Ps.set k (runP R D a b c A Bs' Pn' (applyS M A (commM (ws.map (·.seen)) A)))) := by
  have hkl := (List.getElem?_eq_some_iff.1 hk).1
  have hZ := comm_len hB
  obtain ⟨Z, hZe⟩ : ∃ Z, (commM (ws.map (·.seen)) A).length = Z := ⟨_, rfl⟩
  have HS := Lib.hid (SeenH j D ws w0 w Ps h hj N hN)
  obtain ⟨c0, _, _, _, c4, ⟨ads, caps, c5⟩, _, _⟩ := run_cells h k hk
  have c5 : w.cell? ⟨R, 5, none⟩ = some (.slice ads 0 caps) := c5
  have HC := Lib.hid (fun wx ad cap (hO : Grommet.Own w0 wx (Ps ++ [rowP 45 1 (.slice ad ws.length cap) ws.length ((ws.map (·.seen)).map wv)])) => And.intro (RC.of hO k (old_get hk)) (seen_cell hO hx (by simp) hf A (by omega)))
  have HCm0 : ∀ wx q cap, Grommet.Own w0 wx (Ps ++ [rowP 45 1 (.slice (some ⟨q, 0, none⟩) ws.length cap) ws.length ((ws.map (·.seen)).map wv)]) → Calls Tryz.prog 79 #[gv a b c, .slice (some ⟨q, 0, none⟩) ws.length cap, .int .i64 (A : Int)] wx fun e w' => ∃ ad1 cp1, e = .returned (.tuple #[.slice ad1 Z cp1, .bool true]) ∧ Grommet.Own w0 w' (Ps ++ [rowP 89 2 (.slice ad1 Z cp1) Z (icells (commM (ws.map (·.seen)) A))]) := by
    intro wx q cap hO
    obtain ⟨q', he, _, hw, hc⟩ := seen_cell hO hx (by simp) hf A (by omega)
    cases he
    refine (committed_any wx.heap.size a b c q 0 ws.length cap _ A wx hw hc hA (by omega) (Nat.le_refl _)).mono ?_
    rintro e w' (⟨_, ad1, cp1, n1, rfl, hn1, hrow, hg⟩ | ⟨hy, _, _⟩)
    · rw [hZe] at hn1
      subst hn1
      exact ⟨ad1, cp1, rfl, hO.less.addRow hrow hg⟩
    · rw [hB] at hy; cases hy
  have HCm := Lib.hid HCm0
  have HK0 := Lib.hid (fun wx ad cap (hO : Grommet.Own w0 wx (Ps ++ [rowP 45 1 (.slice ad ws.length cap) ws.length ((ws.map (·.seen)).map wv)])) => RC.of hO k (old_get hk))
  have HK := Lib.hid (fun wx ad cap (hO : Grommet.Own w0 wx (Ps ++ [rowP 89 2 (.slice ad Z cap) Z (icells (commM (ws.map (·.seen)) A))])) => RC.of hO k (old_get hk))
  have HM0 : ∀ wx ad cap, Grommet.Own w0 wx (Ps ++ [rowP 89 2 (.slice ad Z cap) Z (icells (commM (ws.map (·.seen)) A))]) → Calls Tryz.prog 89 #[ptr R, .slice ad Z cap] wx fun e w' => e = .returned (.tuple #[]) ∧ ∃ Bs' Pn', Grommet.Own w0 w' (Ps.set k (runP R D a b c A Bs' Pn' (applyS M A (commM (ws.map (·.seen)) A)))) := by
    intro wx ad cap hO
    refine (applyH k Ps.length R D a b c A Bs Pn [] ad Z cap (commM (ws.map (·.seen)) A) M w0 wx _ hO (old_get hk) last_get (by omega) hZe hW hAM (by omega) (by simp; omega)).mono ?_
    rintro e w' ⟨rfl, B2, P2, hO2⟩
    rw [set_end hkl, List.nil_append] at hO2
    exact ⟨rfl, B2, P2, hO2.less⟩
  have HM := Lib.hid HM0
  have hA' : (A : Int) < (ws.length : Int) := by omega
  have A0 : (0 : Int) ≤ (A : Int) := by omega
  generalize (ws.map (·.seen)).getD A 0 = m at h0 HC
  have q0 : ((m : Int) == 0) = false := by rw [beq_eq_false_iff_ne]; omega
  clear HM0 HCm0 h hk hj hN hf hx hA h0 hB hAM hM hW hZ hZe
  generalize ws.length = n at HS HC HCm HK HK0 HM hA'
  generalize (ws.map (·.seen)) = xs at HS HC HCm HK HK0 HM ⊢
  generalize applyS M A (commM xs A) = SS at HM ⊢
  generalize icells (commM xs A) = ic at HCm HK HM
  unfold RC ptr at HC
  unfold gv at HCm
  unfold ptr at HS c0 HM ⊢
  go_enter Tryz.func96, Tryz.ntmps96
  go_wp2_with fail
  refine HS.out.mono ?_
  rintro e w1 ⟨ad, cap, rfl, hO1⟩
  obtain ⟨⟨d0, d1, d2, d3, d4⟩, ⟨q, rfl, c1, _, hc⟩⟩ := HC.out w1 ad cap hO1
  have hOr := Lib.hid (hO1.quiet (grown_drew (World.grownBy.refl w1 none)))
  have hz0 := Lib.hid (HK0.out _ _ _ hOr.out)
  clear HS HC hO1 c0 c4 c5 HK0
  go_wp2_with fail
  refine wp_region_held_drew (S := fun w' => RC R D a b c A w') (by kernel_rfl) (hz0.out) (fun hS => ?_)
  refine wpAnyH_take (i := 0) (oi := { dst := some 31, op := Op.move (Operand.tmp 0), type := 84, pos := "commit.go:88", after := #[], guard := none }) (v := ?vrt96r8o0) rfl (by kernel_rfl) (by kernel_rfl) (by kernel_rfl) (fun _ _ _ h => h) (Or.inl ⟨by rfl, ?hrt96r8o0⟩) hS ?_
  case hrt96r8o0 => (intro wx hx; skip; go_simp; (try with_reducible rfl))
  try simp only [Act.put, List.setIfInBounds_toArray, List.set_cons_zero, List.set_cons_succ]
  refine wpAnyH_take (i := 1) (oi := { dst := some 32, op := Op.nilCheck (Operand.tmp 31), type := 0, pos := "commit.go:88", after := #[{ on := 0, ground := Ground.data }], guard := none }) (v := ?vrt96r8o1) rfl (by kernel_rfl) (by kernel_rfl) (by kernel_rfl) (fun _ _ _ h => h) (Or.inl ⟨by rfl, ?hrt96r8o1⟩) hS ?_
  case hrt96r8o1 => (intro wx hx; skip; go_simp; (try with_reducible rfl))
  try simp only [Act.put, List.setIfInBounds_toArray, List.set_cons_zero, List.set_cons_succ]
  refine wpAnyH_take (i := 2) (oi := { dst := some 33, op := Op.fieldAddr 145 (Operand.tmp 32) 1, type := 0, pos := "commit.go:88", after := #[{ on := 1, ground := Ground.data }], guard := none }) (v := ?vrt96r8o2) rfl (by kernel_rfl) (by kernel_rfl) (by kernel_rfl) (fun _ _ _ h => h) (Or.inl ⟨by rfl, ?hrt96r8o2⟩) hS ?_
  case hrt96r8o2 => (intro wx hx; skip; go_simp; (try with_reducible rfl))
  try simp only [Act.put, List.setIfInBounds_toArray, List.set_cons_zero, List.set_cons_succ]
  refine wpAnyH_take (i := 3) (oi := { dst := some 34, op := Op.load 23 (Operand.tmp 33), type := 23, pos := "commit.go:88", after := #[{ on := 2, ground := Ground.data }], guard := none }) (v := ?vrt96r8o3) rfl (by kernel_rfl) (by kernel_rfl) (by kernel_rfl) (fun _ _ _ h => h) (Or.inl ⟨by rfl, ?hrt96r8o3⟩) hS ?_
  case hrt96r8o3 => (intro wx hx; obtain ⟨e0, e1, e2, e3, e4⟩ := hx; go_simp; (try with_reducible rfl))
  try simp only [Act.put, List.setIfInBounds_toArray, List.set_cons_zero, List.set_cons_succ]
  refine wpAnyH_take (i := 4) (oi := { dst := some 35, op := Op.move (Operand.tmp 4), type := 42, pos := "commit.go:88", after := #[], guard := none }) (v := ?vrt96r8o4) rfl (by kernel_rfl) (by kernel_rfl) (by kernel_rfl) (fun _ _ _ h => h) (Or.inl ⟨by rfl, ?hrt96r8o4⟩) hS ?_
  case hrt96r8o4 => (intro wx hx; skip; go_simp; (try with_reducible rfl))
  try simp only [Act.put, List.setIfInBounds_toArray, List.set_cons_zero, List.set_cons_succ]
  refine wpAnyH_take (i := 5) (oi := { dst := some 36, op := Op.move (Operand.tmp 0), type := 84, pos := "commit.go:88", after := #[], guard := none }) (v := ?vrt96r8o5) rfl (by kernel_rfl) (by kernel_rfl) (by kernel_rfl) (fun _ _ _ h => h) (Or.inl ⟨by rfl, ?hrt96r8o5⟩) hS ?_
  case hrt96r8o5 => (intro wx hx; skip; go_simp; (try with_reducible rfl))
  try simp only [Act.put, List.setIfInBounds_toArray, List.set_cons_zero, List.set_cons_succ]
  refine wpAnyH_take (i := 6) (oi := { dst := some 37, op := Op.nilCheck (Operand.tmp 36), type := 0, pos := "commit.go:88", after := #[{ on := 5, ground := Ground.data }], guard := none }) (v := ?vrt96r8o6) rfl (by kernel_rfl) (by kernel_rfl) (by kernel_rfl) (fun _ _ _ h => h) (Or.inl ⟨by rfl, ?hrt96r8o6⟩) hS ?_
  case hrt96r8o6 => (intro wx hx; skip; go_simp; (try with_reducible rfl))
  try simp only [Act.put, List.setIfInBounds_toArray, List.set_cons_zero, List.set_cons_succ]
  refine wpAnyH_take (i := 7) (oi := { dst := some 38, op := Op.fieldAddr 145 (Operand.tmp 37) 2, type := 0, pos := "commit.go:88", after := #[{ on := 6, ground := Ground.data }], guard := none }) (v := ?vrt96r8o7) rfl (by kernel_rfl) (by kernel_rfl) (by kernel_rfl) (fun _ _ _ h => h) (Or.inl ⟨by rfl, ?hrt96r8o7⟩) hS ?_
  case hrt96r8o7 => (intro wx hx; skip; go_simp; (try with_reducible rfl))
  try simp only [Act.put, List.setIfInBounds_toArray, List.set_cons_zero, List.set_cons_succ]
  refine wpAnyH_take (i := 8) (oi := { dst := some 39, op := Op.load 3 (Operand.tmp 38), type := 3, pos := "commit.go:88", after := #[{ on := 7, ground := Ground.data }], guard := none }) (v := ?vrt96r8o8) rfl (by kernel_rfl) (by kernel_rfl) (by kernel_rfl) (fun _ _ _ h => h) (Or.inl ⟨by rfl, ?hrt96r8o8⟩) hS ?_
  case hrt96r8o8 => (intro wx hx; obtain ⟨e0, e1, e2, e3, e4⟩ := hx; go_simp; (try with_reducible rfl))
  try simp only [Act.put, List.setIfInBounds_toArray, List.set_cons_zero, List.set_cons_succ]
  refine wpAnyH_ready (rs := [9]) (by kernel_rfl) (by simp) ?_
  refine AllReadyH.cons (o := { dst := some 40, op := Op.call { callee := Callee.value (Operand.func 79), args := #[Operand.tmp 34, Operand.tmp 35, Operand.tmp 39], argTypes := #[23, 42, 3] }, type := 135, pos := "commit.go:88", after := #[{ on := 3, ground := Ground.data }, { on := 4, ground := Ground.data }, { on := 8, ground := Ground.data }], guard := none }) rfl (fun K hK => ?_) AllReadyH.nil
  go_simp
  refine (HCm.out _ _ _ hOr.out).mono ?_
  rintro e v1 ⟨ad1, cp1, rfl, hn⟩
  have hOn := Lib.hid hn
  clear hOr hn
  have hOr := hOn
  clear hOn
  refine hK.out _ _ ?hsrt96r8o9 (fun hS => ?_)
  case hsrt96r8o9 => (exact HK.out _ _ _ hOr.out)
  clear hK K
  try simp only [Act.put, List.setIfInBounds_toArray, List.set_cons_zero, List.set_cons_succ]
  refine wpAnyH_take (i := 10) (oi := { dst := some 30, op := Op.move (Operand.tmp 40), type := 135, pos := "commit.go:88", after := #[{ on := 9, ground := Ground.data }], guard := none }) (v := ?vrt96r8o10) rfl (by kernel_rfl) (by kernel_rfl) (by kernel_rfl) (fun _ _ _ h => h) (Or.inl ⟨by rfl, ?hrt96r8o10⟩) hS ?_
  case hrt96r8o10 => (intro wx hx; skip; go_simp; (try with_reducible rfl))
  try simp only [Act.put, List.setIfInBounds_toArray, List.set_cons_zero, List.set_cons_succ]
  refine wpAnyH_take (i := 11) (oi := { dst := some 41, op := Op.extract (Operand.tmp 30) 0, type := 90, pos := "commit.go:88", after := #[{ on := 10, ground := Ground.data }], guard := none }) (v := ?vrt96r8o11) rfl (by kernel_rfl) (by kernel_rfl) (by kernel_rfl) (fun _ _ _ h => h) (Or.inl ⟨by rfl, ?hrt96r8o11⟩) hS ?_
  case hrt96r8o11 => (intro wx hx; skip; go_simp; (try with_reducible rfl))
  try simp only [Act.put, List.setIfInBounds_toArray, List.set_cons_zero, List.set_cons_succ]
  refine wpAnyH_take (i := 12) (oi := { dst := some 42, op := Op.extract (Operand.tmp 30) 1, type := 4, pos := "commit.go:88", after := #[{ on := 10, ground := Ground.data }, { on := 13, ground := Ground.gcOnly Departure.lateStores }], guard := none }) (v := ?vrt96r8o12) rfl (by kernel_rfl) (by kernel_rfl) (by kernel_rfl) (fun _ _ _ h => h) (Or.inl ⟨by rfl, ?hrt96r8o12⟩) hS ?_
  case hrt96r8o12 => (intro wx hx; skip; go_simp; (try with_reducible rfl))
  try simp only [Act.put, List.setIfInBounds_toArray, List.set_cons_zero, List.set_cons_succ]
  refine wpAnyH_take (i := 13) (oi := { dst := some 5, op := Op.assign (Operand.tmp 41), type := 90, pos := "commit.go:88", after := #[{ on := 11, ground := Ground.data }, { on := 9, ground := Ground.chain }, { on := 0, ground := Ground.phase }, { on := 1, ground := Ground.phase }, { on := 2, ground := Ground.phase }, { on := 3, ground := Ground.phase }, { on := 4, ground := Ground.phase }, { on := 5, ground := Ground.phase }, { on := 6, ground := Ground.phase }, { on := 7, ground := Ground.phase }, { on := 8, ground := Ground.phase }, { on := 9, ground := Ground.phase }, { on := 10, ground := Ground.phase }, { on := 11, ground := Ground.phase }, { on := 12, ground := Ground.textOnly Departure.lateStores }], guard := none }) (v := ?vrt96r8o13) rfl (by kernel_rfl) (by kernel_rfl) (by kernel_rfl) (fun _ _ _ h => h) (Or.inl ⟨by rfl, ?hrt96r8o13⟩) hS ?_
  case hrt96r8o13 => (intro wx hx; skip; go_simp; (try with_reducible rfl))
  try simp only [Act.put, List.setIfInBounds_toArray, List.set_cons_zero, List.set_cons_succ]
  refine wpAnyH_take (i := 14) (oi := { dst := some 6, op := Op.assign (Operand.tmp 42), type := 4, pos := "commit.go:88", after := #[{ on := 12, ground := Ground.data }, { on := 13, ground := Ground.chain }, { on := 0, ground := Ground.phase }, { on := 1, ground := Ground.phase }, { on := 2, ground := Ground.phase }, { on := 3, ground := Ground.phase }, { on := 4, ground := Ground.phase }, { on := 5, ground := Ground.phase }, { on := 6, ground := Ground.phase }, { on := 7, ground := Ground.phase }, { on := 8, ground := Ground.phase }, { on := 9, ground := Ground.phase }, { on := 10, ground := Ground.phase }, { on := 11, ground := Ground.phase }, { on := 12, ground := Ground.phase }, { on := 13, ground := Ground.phase }], guard := none }) (v := ?vrt96r8o14) rfl (by kernel_rfl) (by kernel_rfl) (by kernel_rfl) (fun _ _ _ h => h) (Or.inl ⟨by rfl, ?hrt96r8o14⟩) hS ?_
  case hrt96r8o14 => (intro wx hx; skip; go_simp; (try with_reducible rfl))
  try simp only [Act.put, List.setIfInBounds_toArray, List.set_cons_zero, List.set_cons_succ]
  refine wpAnyH_done (by kernel_rfl) ?_ _
  have HM2 := Lib.hid (HM.out _ _ _ hOr.out)
  clear hOr HM HK HCm hS hz0
  go_wp2_with fail
  refine HM2.out.mono ?_
  rintro e w2 ⟨rfl, B2, P2, hO2⟩
  have hO2 := Lib.hid hO2
  go_wp2
  go_ret2
  exact ⟨rfl, _, _, hO2.out⟩
end Go.Proofs.YtkalglcbmfhdfaaGreat
end
section
/- Package mount: resume. -/
namespace Go.Proofs.YtkalglcbmfhdfaaGreat
open Go.RowKit Go.Grommet

def nilV : Value := .pointer none
/-- A mount's memory. -/
def mntB (m D : Nat) (a b c : Nat) (t : Nat) (rv : Value) : Pr := boxP m 126 #[ptr D, .int .i64 (a : Int), .int .i64 (b : Int), .int .i64 (c : Int), .int .i64 (t : Int), rv]
def MC (m D a b c t : Nat) (w : World) : Prop := w.cell? ⟨m, 0, none⟩ = some (ptr D) ∧ w.cell? ⟨m, 1, none⟩ = some (.int .i64 (a : Int)) ∧ w.cell? ⟨m, 2, none⟩ = some (.int .i64 (b : Int)) ∧ w.cell? ⟨m, 3, none⟩ = some (.int .i64 (c : Int)) ∧ w.cell? ⟨m, 4, none⟩ = some (.int .i64 (t : Int)) ∧ w.frozen? ⟨m, 4, none⟩ = false ∧ w.frozen? ⟨m, 5, none⟩ = false
theorem mnt_cells {w0 w : World} {Ps : List Pr} {m D a b c t : Nat} {rv : Value} (h : Grommet.Own w0 w Ps) (k : Nat) (hk : Ps[k]? = some (mntB m D a b c t rv)) : MC m D a b c t w ∧ w.cell? ⟨m, 5, none⟩ = some rv := by
  have hb := h.box k hk
  unfold MC
  simp [World.cell?, World.frozen?, hb]
theorem mnt_at {w0 w : World} {Ps : List Pr} {m D a b c t : Nat} {rv : Value} (h : Grommet.Own w0 w Ps) (k : Nat) (hk : Ps[k]? = some (mntB m D a b c t rv)) (t' : Nat) : Grommet.Own w0 (w.setCell ⟨m, 4, none⟩ (.int .i64 (t' : Int))) (Ps.set k (mntB m D a b c t' rv)) := by
  have := own_putBox h k hk 4 (.int .i64 (t' : Int))
  exact this
theorem mnt_run {w0 w : World} {Ps : List Pr} {m D a b c t : Nat} {rv : Value} (h : Grommet.Own w0 w Ps) (k : Nat) (hk : Ps[k]? = some (mntB m D a b c t rv)) (rv' : Value) : Grommet.Own w0 (w.setCell ⟨m, 5, none⟩ rv') (Ps.set k (mntB m D a b c t rv')) := by
  have := own_putBox h k hk 5 rv'
  exact this
theorem area_at {a b c t : Nat} (hm : mayB (a : Int) (b : Int) (c : Int) = true) (ht : t < a) : areaV (a : Int) (b : Int) (c : Int) (t : Int) = ((264 + 208 * t : Nat) : Int) := by
  unfold areaV
  rw [if_pos ⟨hm, by omega, by omega⟩]; omega

theorem ResumeSome (k j R D : Nat) (a b c : Nat) (A : Nat) (Bs : List Nat) (Pn : List (Cl × Value)) (ws : List PW) (N : Nat) (w0 w : World) (Ps : List Pr) (h : Grommet.Own w0 w Ps) (hk : Ps[k]? = some (runP R D (a : Int) (b : Int) (c : Int) A Bs Pn [])) (hj : Ps[j]? = some (devP D ws)) (hN : ws.length = 8 * N) (hf : ws.length ≤ 65536) (hx : ∀ v ∈ ws.map (·.seen), v < 18446744073709551616) (hA : A + 208 ≤ ws.length)
    (hm : mayB (a : Int) (b : Int) (c : Int) = true) (hw : 280 + 208 * a + 16 * b + 8 * c ≤ ws.length) :
    Calls Tryz.prog 96 #[ptr R] w fun e w' => ((ws.map (·.seen)).getD A 0 = 0 ∧ e = .returned (.tuple #[.bool false, .int .i64 0]) ∧ Grommet.Own w0 w' Ps) ∨ ((ws.map (·.seen)).getD A 0 ≠ 0 ∧ e = .returned (.tuple #[.bool true, .int .i64 0]) ∧ ∃ Bs' Pn', Grommet.Own w0 w' (Ps.set k (runP R D (a : Int) (b : Int) (c : Int) A Bs' Pn' (resS N A (a : Int) (b : Int) (c : Int) (ws.map (·.seen)))))) := by
  by_cases h0 : (ws.map (·.seen)).getD A 0 = 0
  · refine (ResumeNo k j R D _ _ _ A Bs Pn ws N w0 w Ps h hk hj hN hf hx (by omega) h0).mono ?_
    rintro e w' ⟨rfl, hO⟩
    exact .inl ⟨h0, rfl, hO⟩
  · by_cases hB : commB (a : Int) (b : Int) (c : Int) (ws.map (·.seen)) A = true
    · refine (ResumeYes k j R D _ _ _ A Bs Pn ws N N w0 w Ps h hk hj hN hf hx hA h0 hB (fun x hx => ?_) (by omega) (by omega)).mono ?_
      · have := (comm_ok hm hB x hx).1
        omega
      · rintro e w' ⟨rfl, hO⟩
        unfold resS
        rw [if_pos hB]
        exact .inr ⟨h0, rfl, hO⟩
    · refine (ResumeBad k j R D _ _ _ A Bs Pn ws N N w0 w Ps h hk hj hN hf hx hA h0 (by simpa using hB) (by omega) (by omega)).mono ?_
      rintro e w' ⟨rfl, hO⟩
      unfold resS
      rw [if_neg hB]
      exact .inr ⟨h0, rfl, hO⟩

/-- The first worker, from some on, that has steps. -/
def ResIs (w0 : World) (Ps : List Pr) (k m D a b c s N : Nat) (xs : List Nat) (e : Ending) (w' : World) : Prop :=
  e = .returned (.int .i64 0) ∧ ((Grommet.Own w0 w' (Ps.set k (mntB m D a b c a nilV)) ∧ ∀ i, s ≤ i → i < a → xs.getD (264 + 208 * i) 0 = 0) ∨
    ∃ t R Bs Pn, s ≤ t ∧ t < a ∧ (∀ i, s ≤ i → i < t → xs.getD (264 + 208 * i) 0 = 0) ∧ xs.getD (264 + 208 * t) 0 ≠ 0 ∧ Grommet.Own w0 w' (Ps.set k (mntB m D a b c t (ptr R)) ++ [runP R D (a : Int) (b : Int) (c : Int) (264 + 208 * t) Bs Pn (resS N (264 + 208 * t) (a : Int) (b : Int) (c : Int) xs)]))
theorem zero_snoc {xs : List Nat} {s t : Nat} (h : ∀ i, s ≤ i → i < t → xs.getD (264 + 208 * i) 0 = 0) (h0 : xs.getD (264 + 208 * t) 0 = 0) : ∀ i, s ≤ i → i < t + 1 → xs.getD (264 + 208 * i) 0 = 0 := by
  intro i h1 h2
  by_cases e : i = t
  · rw [e]; exact h0
  · exact h i h1 (by omega)

set_option maxRecDepth 100000 in
set_option maxHeartbeats 4000000 in
theorem resumeH (k j m D a b c s : Nat) (rv : Value) (ws : List PW) (N : Nat) (w0 w : World) (Ps : List Pr) (h : Grommet.Own w0 w Ps) (hk : Ps[k]? = some (mntB m D a b c s rv)) (hj : Ps[j]? = some (devP D ws)) (hjk : j ≠ k) (hN : ws.length = 8 * N) (hf : ws.length ≤ 65536) (hx : ∀ v ∈ ws.map (·.seen), v < 18446744073709551616)
    (hm : mayB (a : Int) (b : Int) (c : Int) = true) (hw : 280 + 208 * a + 16 * b + 8 * c ≤ ws.length) (hs : s ≤ a) :
    Calls Tryz.prog 68 #[ptr m] w (ResIs w0 Ps k m D a b c s N (ws.map (·.seen))) := by
  have hkl := (List.getElem?_eq_some_iff.1 hk).1
  have hjl := (List.getElem?_eq_some_iff.1 hj).1
  have hmb := mayB_yes hm
  have ha4 : a ≤ 4 := by omega
  obtain ⟨⟨c0, c1, c2, c3, c4, f4, f5⟩, c5⟩ := mnt_cells h k hk
  have hz0 := Lib.hid (mnt_run h k hk nilV)
  have HN0 : ∀ t wx, t < a → Grommet.Own w0 wx (Ps.set k (mntB m D a b c t nilV)) → Calls Tryz.prog 43 #[ptr D, gv (a : Int) (b : Int) (c : Int), .int .i64 (t : Int)] wx fun e w' => ∃ R, e = .returned (.tuple #[ptr R, .int .i64 0]) ∧ Grommet.Own w0 w' (Ps.set k (mntB m D a b c t nilV) ++ [runP R D (a : Int) (b : Int) (c : Int) (264 + 208 * t) [] [] []]) := by
    intro t wx ht hO
    exact RNewH j D a b c t (264 + 208 * t) ws w0 wx _ hO (by rw [List.getElem?_set_ne (fun e => hjk e.symm)]; exact hj) (area_at hm ht) (by rw [words_pos hm]; omega)
  have HR0 : ∀ t R wx, t < a → Grommet.Own w0 wx (Ps.set k (mntB m D a b c t nilV) ++ [runP R D (a : Int) (b : Int) (c : Int) (264 + 208 * t) [] [] []]) → Calls Tryz.prog 96 #[ptr R] wx fun e w' => ((ws.map (·.seen)).getD (264 + 208 * t) 0 = 0 ∧ e = .returned (.tuple #[.bool false, .int .i64 0]) ∧ Grommet.Own w0 w' (Ps.set k (mntB m D a b c t nilV))) ∨ ((ws.map (·.seen)).getD (264 + 208 * t) 0 ≠ 0 ∧ e = .returned (.tuple #[.bool true, .int .i64 0]) ∧ ∃ Bs' Pn', Grommet.Own w0 w' (Ps.set k (mntB m D a b c t nilV) ++ [runP R D (a : Int) (b : Int) (c : Int) (264 + 208 * t) Bs' Pn' (resS N (264 + 208 * t) (a : Int) (b : Int) (c : Int) (ws.map (·.seen)))])) := by
    intro t R wx ht hO
    refine (ResumeSome (Ps.set k (mntB m D a b c t nilV)).length j R D a b c (264 + 208 * t) [] [] ws N w0 wx _ hO last_get (old_get (by rw [List.getElem?_set_ne (fun e => hjk e.symm)]; exact hj)) hN hf hx (by omega) hm hw).mono ?_
    rintro e w' (⟨h0, rfl, hO⟩ | ⟨h0, rfl, B2, P2, hO⟩)
    · exact .inl ⟨h0, rfl, hO.less⟩
    · rw [List.set_append_right _ _ (Nat.le_refl _), Nat.sub_self] at hO
      exact .inr ⟨h0, rfl, B2, P2, hO⟩
  have HC := Lib.hid (fun t wx (hO : Grommet.Own w0 wx (Ps.set k (mntB m D a b c t nilV))) => mnt_cells hO k (List.getElem?_set_self hkl))
  have HC2 := Lib.hid (fun t wx Q (hO : Grommet.Own w0 wx (Ps.set k (mntB m D a b c t nilV) ++ [Q])) => mnt_cells hO k (old_get (List.getElem?_set_self hkl)))
  have HP1 := Lib.hid (fun t wx (hO : Grommet.Own w0 wx (Ps.set k (mntB m D a b c t nilV))) => show Grommet.Own w0 (wx.setCell ⟨m, 4, none⟩ (.int .i64 ((t + 1 : Nat) : Int))) (Ps.set k (mntB m D a b c (t + 1) nilV)) by
    have := mnt_at hO k (List.getElem?_set_self hkl) (t + 1)
    rw [List.set_set] at this
    exact this)
  have HP2 := Lib.hid (fun t wx R Q (hO : Grommet.Own w0 wx (Ps.set k (mntB m D a b c t nilV) ++ [Q])) => show Grommet.Own w0 (wx.setCell ⟨m, 5, none⟩ (ptr R)) (Ps.set k (mntB m D a b c t (ptr R)) ++ [Q]) by
    have := mnt_run hO k (old_get (List.getElem?_set_self hkl)) (ptr R)
    rw [List.set_append_left _ _ (by simpa using hkl), List.set_set] at this
    exact this)
  have HN := Lib.hid HN0
  have HR := Lib.hid HR0
  generalize ws.map (·.seen) = xs at HR ⊢
  clear h hk hj hjk hN hf hx hm hw hmb HN0 HR0 hkl hjl
  unfold MC ptr at HC HC2
  unfold nilV at hz0 HC HC2
  unfold gv ptr at HN
  unfold ptr at HR HP2 c0 ⊢
  go_enter Tryz.func68, Tryz.ntmps68
  go_wp2_with fail
  go_step3
  go_wp2_with fail
  go_step3
  go_wp2_with fail
  go_loopg [3, 4, 5] (a - s) (fun f _ _ _ wr => ∃ t : Nat, Hid (f = a - t) ∧ Hid (s ≤ t ∧ t ≤ a) ∧ Hid (∀ i, s ≤ i → i < t → xs.getD (264 + 208 * i) 0 = 0) ∧ Hid (Grommet.Own w0 wr (Ps.set k (mntB m D a b c t nilV))))
  case atStart => exact ⟨s, Lib.hid rfl, Lib.hid ⟨Nat.le_refl _, hs⟩, Lib.hid (fun i h1 h2 => by omega), hz0⟩
  case round =>
    clear hz0 c0 c1 c2 c3 c4 f4 f5 c5
    obtain ⟨t, Hf, Ht, Hz, hO⟩ := hrel
    obtain ⟨⟨c0, c1, c2, c3, c4, f4, f5⟩, c5⟩ := HC.out t wr hO.out
    go_wp2_with fail
    go_quiet (fail)
    by_cases hlt : t < a
    · have l1 : (t : Int) < (a : Int) := by omega
      obtain ⟨f, hf⟩ : ∃ f, a - t = f + 1 := ⟨a - t - 1, by omega⟩
      have hf2 : f = a - (t + 1) := by omega
      have Hfl := Lib.hid (show f = a - (t + 1) ∧ f < a - t ∧ s ≤ t + 1 ∧ t + 1 ≤ a by have := Ht.out; omega)
      obtain ⟨wq, hwq⟩ : ∃ wq, wr.drewN nq = wq := ⟨_, rfl⟩
      have hO2 : Grommet.Own w0 wq (Ps.set k (mntB m D a b c t nilV)) := (by rw [← hwq]; exact hO.out.quiet (grown_drewN wr nq none))
      rw [hwq]
      have hOr0 := Lib.hid (hO2.quiet (grown_drew (World.grownBy.refl wq none)))
      have hz0 := Lib.hid (HC.out t _ hOr0.out).1
      have HN2 := Lib.hid (fun wx => HN.out t wx hlt)
      have HR2 := Lib.hid (fun R wx => HR.out t R wx hlt)
      have HCt := Lib.hid (fun wx Q hO => HC2.out t wx Q hO)
      have HC1 := Lib.hid (fun wx hO => HC.out t wx hO)
      have HP1t := Lib.hid (fun wx hO => HP1.out t wx hO)
      have HP2t := Lib.hid (fun wx R Q hO => HP2.out t wx R Q hO)
      have et : (t : Int) + 1 = ((t + 1 : Nat) : Int) := by omega
      obtain ⟨T, hT⟩ : ∃ T, t + 1 = T := ⟨_, rfl⟩
      rw [hT] at et Hfl HP1t
      have wT : IntKind.i64.wrap ((t : Int) + 1) = (T : Int) := by rw [et]; exact IntWalk.i64_in _ ⟨by omega, by omega⟩
      have HZ := Lib.hid (fun h0 => show ∀ i, s ≤ i → i < T → xs.getD (264 + 208 * i) 0 = 0 by rw [← hT]; exact zero_snoc Hz.out h0)
      have HtA := Lib.hid (And.intro Ht.out.1 hlt)
      clear c0 c1 c2 c3 c4 f4 f5 c5 hO HN HR hf hf2 HC HP1 HP2 HC2 hwq hO2 hlt hT et Ht
      have hOr := hOr0
      clear hOr0
      have HCn := Lib.hid (fun wx Q hO => HCt.out wx Q hO)
      go_wp2_with fail
      refine wp_region_held_drew (S := fun w' => MC m D a b c t w') (by kernel_rfl) (hz0.out) (fun hS => ?_)
      refine wpAnyH_take (i := 0) (oi := { dst := some 27, op := Op.move (Operand.tmp 0), type := 50, pos := "mount.go:70", after := #[], guard := none }) (v := ?vrm68r4o0) rfl (by kernel_rfl) (by kernel_rfl) (by kernel_rfl) (fun _ _ _ h => h) (Or.inl ⟨by rfl, ?hrm68r4o0⟩) hS ?_
      case hrm68r4o0 => (intro wx hx; skip; go_simp; (try with_reducible rfl))
      try simp only [Act.put, List.setIfInBounds_toArray, List.set_cons_zero, List.set_cons_succ]
      refine wpAnyH_take (i := 1) (oi := { dst := some 28, op := Op.nilCheck (Operand.tmp 27), type := 0, pos := "mount.go:70", after := #[{ on := 0, ground := Ground.data }], guard := none }) (v := ?vrm68r4o1) rfl (by kernel_rfl) (by kernel_rfl) (by kernel_rfl) (fun _ _ _ h => h) (Or.inl ⟨by rfl, ?hrm68r4o1⟩) hS ?_
      case hrm68r4o1 => (intro wx hx; skip; go_simp; (try with_reducible rfl))
      try simp only [Act.put, List.setIfInBounds_toArray, List.set_cons_zero, List.set_cons_succ]
      refine wpAnyH_take (i := 2) (oi := { dst := some 29, op := Op.fieldAddr 126 (Operand.tmp 28) 0, type := 0, pos := "mount.go:70", after := #[{ on := 1, ground := Ground.data }], guard := none }) (v := ?vrm68r4o2) rfl (by kernel_rfl) (by kernel_rfl) (by kernel_rfl) (fun _ _ _ h => h) (Or.inl ⟨by rfl, ?hrm68r4o2⟩) hS ?_
      case hrm68r4o2 => (intro wx hx; skip; go_simp; (try with_reducible rfl))
      try simp only [Act.put, List.setIfInBounds_toArray, List.set_cons_zero, List.set_cons_succ]
      refine wpAnyH_take (i := 3) (oi := { dst := some 30, op := Op.load 32 (Operand.tmp 29), type := 32, pos := "mount.go:70", after := #[{ on := 2, ground := Ground.data }], guard := none }) (v := ?vrm68r4o3) rfl (by kernel_rfl) (by kernel_rfl) (by kernel_rfl) (fun _ _ _ h => h) (Or.inl ⟨by rfl, ?hrm68r4o3⟩) hS ?_
      case hrm68r4o3 => (intro wx hx; obtain ⟨e0, e1, e2, e3, e4, _⟩ := hx; go_simp; (try with_reducible rfl))
      try simp only [Act.put, List.setIfInBounds_toArray, List.set_cons_zero, List.set_cons_succ]
      refine wpAnyH_take (i := 4) (oi := { dst := some 31, op := Op.move (Operand.tmp 0), type := 50, pos := "mount.go:70", after := #[], guard := none }) (v := ?vrm68r4o4) rfl (by kernel_rfl) (by kernel_rfl) (by kernel_rfl) (fun _ _ _ h => h) (Or.inl ⟨by rfl, ?hrm68r4o4⟩) hS ?_
      case hrm68r4o4 => (intro wx hx; skip; go_simp; (try with_reducible rfl))
      try simp only [Act.put, List.setIfInBounds_toArray, List.set_cons_zero, List.set_cons_succ]
      refine wpAnyH_take (i := 5) (oi := { dst := some 32, op := Op.nilCheck (Operand.tmp 31), type := 0, pos := "mount.go:70", after := #[{ on := 4, ground := Ground.data }], guard := none }) (v := ?vrm68r4o5) rfl (by kernel_rfl) (by kernel_rfl) (by kernel_rfl) (fun _ _ _ h => h) (Or.inl ⟨by rfl, ?hrm68r4o5⟩) hS ?_
      case hrm68r4o5 => (intro wx hx; skip; go_simp; (try with_reducible rfl))
      try simp only [Act.put, List.setIfInBounds_toArray, List.set_cons_zero, List.set_cons_succ]
      refine wpAnyH_take (i := 6) (oi := { dst := some 33, op := Op.fieldAddr 126 (Operand.tmp 32) 1, type := 0, pos := "mount.go:70", after := #[{ on := 5, ground := Ground.data }], guard := none }) (v := ?vrm68r4o6) rfl (by kernel_rfl) (by kernel_rfl) (by kernel_rfl) (fun _ _ _ h => h) (Or.inl ⟨by rfl, ?hrm68r4o6⟩) hS ?_
      case hrm68r4o6 => (intro wx hx; skip; go_simp; (try with_reducible rfl))
      try simp only [Act.put, List.setIfInBounds_toArray, List.set_cons_zero, List.set_cons_succ]
      refine wpAnyH_take (i := 7) (oi := { dst := some 34, op := Op.load 23 (Operand.tmp 33), type := 23, pos := "mount.go:70", after := #[{ on := 6, ground := Ground.data }], guard := none }) (v := ?vrm68r4o7) rfl (by kernel_rfl) (by kernel_rfl) (by kernel_rfl) (fun _ _ _ h => h) (Or.inl ⟨by rfl, ?hrm68r4o7⟩) hS ?_
      case hrm68r4o7 => (intro wx hx; obtain ⟨e0, e1, e2, e3, e4, _⟩ := hx; go_simp; (try with_reducible rfl))
      try simp only [Act.put, List.setIfInBounds_toArray, List.set_cons_zero, List.set_cons_succ]
      refine wpAnyH_take (i := 8) (oi := { dst := some 35, op := Op.move (Operand.tmp 0), type := 50, pos := "mount.go:70", after := #[], guard := none }) (v := ?vrm68r4o8) rfl (by kernel_rfl) (by kernel_rfl) (by kernel_rfl) (fun _ _ _ h => h) (Or.inl ⟨by rfl, ?hrm68r4o8⟩) hS ?_
      case hrm68r4o8 => (intro wx hx; skip; go_simp; (try with_reducible rfl))
      try simp only [Act.put, List.setIfInBounds_toArray, List.set_cons_zero, List.set_cons_succ]
      refine wpAnyH_take (i := 9) (oi := { dst := some 36, op := Op.nilCheck (Operand.tmp 35), type := 0, pos := "mount.go:70", after := #[{ on := 8, ground := Ground.data }], guard := none }) (v := ?vrm68r4o9) rfl (by kernel_rfl) (by kernel_rfl) (by kernel_rfl) (fun _ _ _ h => h) (Or.inl ⟨by rfl, ?hrm68r4o9⟩) hS ?_
      case hrm68r4o9 => (intro wx hx; skip; go_simp; (try with_reducible rfl))
      try simp only [Act.put, List.setIfInBounds_toArray, List.set_cons_zero, List.set_cons_succ]
      refine wpAnyH_take (i := 10) (oi := { dst := some 37, op := Op.fieldAddr 126 (Operand.tmp 36) 2, type := 0, pos := "mount.go:70", after := #[{ on := 9, ground := Ground.data }], guard := none }) (v := ?vrm68r4o10) rfl (by kernel_rfl) (by kernel_rfl) (by kernel_rfl) (fun _ _ _ h => h) (Or.inl ⟨by rfl, ?hrm68r4o10⟩) hS ?_
      case hrm68r4o10 => (intro wx hx; skip; go_simp; (try with_reducible rfl))
      try simp only [Act.put, List.setIfInBounds_toArray, List.set_cons_zero, List.set_cons_succ]
      refine wpAnyH_take (i := 11) (oi := { dst := some 38, op := Op.load 3 (Operand.tmp 37), type := 3, pos := "mount.go:70", after := #[{ on := 10, ground := Ground.data }], guard := none }) (v := ?vrm68r4o11) rfl (by kernel_rfl) (by kernel_rfl) (by kernel_rfl) (fun _ _ _ h => h) (Or.inl ⟨by rfl, ?hrm68r4o11⟩) hS ?_
      case hrm68r4o11 => (intro wx hx; obtain ⟨e0, e1, e2, e3, e4, _⟩ := hx; go_simp; (try with_reducible rfl))
      try simp only [Act.put, List.setIfInBounds_toArray, List.set_cons_zero, List.set_cons_succ]
      refine wpAnyH_ready (rs := [12]) (by kernel_rfl) (by simp) ?_
      refine AllReadyH.cons (o := { dst := some 39, op := Op.call { callee := Callee.value (Operand.func 43), args := #[Operand.tmp 30, Operand.tmp 34, Operand.tmp 38], argTypes := #[32, 23, 3] }, type := 85, pos := "mount.go:70", after := #[{ on := 3, ground := Ground.data }, { on := 7, ground := Ground.data }, { on := 11, ground := Ground.data }], guard := none }) rfl (fun K hK => ?_) AllReadyH.nil
      go_simp
      refine (HN2.out _ hOr.out).mono ?_
      rintro e v1 ⟨R, rfl, hn⟩
      have hOn := Lib.hid hn
      clear hOr hn
      have hOr := hOn
      clear hOn
      refine hK.out _ _ ?hsrm68r4o12 (fun hS => ?_)
      case hsrm68r4o12 => (exact (HCt.out _ _ hOr.out).1)
      clear hK K
      try simp only [Act.put, List.setIfInBounds_toArray, List.set_cons_zero, List.set_cons_succ]
      refine wpAnyH_take (i := 13) (oi := { dst := some 26, op := Op.move (Operand.tmp 39), type := 85, pos := "mount.go:70", after := #[{ on := 12, ground := Ground.data }], guard := none }) (v := ?vrm68r4o13) rfl (by kernel_rfl) (by kernel_rfl) (by kernel_rfl) (fun _ _ _ h => h) (Or.inl ⟨by rfl, ?hrm68r4o13⟩) hS ?_
      case hrm68r4o13 => (intro wx hx; skip; go_simp; (try with_reducible rfl))
      try simp only [Act.put, List.setIfInBounds_toArray, List.set_cons_zero, List.set_cons_succ]
      refine wpAnyH_take (i := 14) (oi := { dst := some 40, op := Op.extract (Operand.tmp 26) 0, type := 84, pos := "mount.go:70", after := #[{ on := 13, ground := Ground.data }], guard := none }) (v := ?vrm68r4o14) rfl (by kernel_rfl) (by kernel_rfl) (by kernel_rfl) (fun _ _ _ h => h) (Or.inl ⟨by rfl, ?hrm68r4o14⟩) hS ?_
      case hrm68r4o14 => (intro wx hx; skip; go_simp; (try with_reducible rfl))
      try simp only [Act.put, List.setIfInBounds_toArray, List.set_cons_zero, List.set_cons_succ]
      refine wpAnyH_take (i := 15) (oi := { dst := some 41, op := Op.extract (Operand.tmp 26) 1, type := 33, pos := "mount.go:70", after := #[{ on := 13, ground := Ground.data }, { on := 16, ground := Ground.gcOnly Departure.lateStores }], guard := none }) (v := ?vrm68r4o15) rfl (by kernel_rfl) (by kernel_rfl) (by kernel_rfl) (fun _ _ _ h => h) (Or.inl ⟨by rfl, ?hrm68r4o15⟩) hS ?_
      case hrm68r4o15 => (intro wx hx; skip; go_simp; (try with_reducible rfl))
      try simp only [Act.put, List.setIfInBounds_toArray, List.set_cons_zero, List.set_cons_succ]
      refine wpAnyH_take (i := 16) (oi := { dst := some 3, op := Op.assign (Operand.tmp 40), type := 84, pos := "mount.go:70", after := #[{ on := 14, ground := Ground.data }, { on := 12, ground := Ground.chain }, { on := 0, ground := Ground.phase }, { on := 1, ground := Ground.phase }, { on := 2, ground := Ground.phase }, { on := 3, ground := Ground.phase }, { on := 4, ground := Ground.phase }, { on := 5, ground := Ground.phase }, { on := 6, ground := Ground.phase }, { on := 7, ground := Ground.phase }, { on := 8, ground := Ground.phase }, { on := 9, ground := Ground.phase }, { on := 10, ground := Ground.phase }, { on := 11, ground := Ground.phase }, { on := 12, ground := Ground.phase }, { on := 13, ground := Ground.phase }, { on := 14, ground := Ground.phase }, { on := 15, ground := Ground.textOnly Departure.lateStores }], guard := none }) (v := ?vrm68r4o16) rfl (by kernel_rfl) (by kernel_rfl) (by kernel_rfl) (fun _ _ _ h => h) (Or.inl ⟨by rfl, ?hrm68r4o16⟩) hS ?_
      case hrm68r4o16 => (intro wx hx; skip; go_simp; (try with_reducible rfl))
      try simp only [Act.put, List.setIfInBounds_toArray, List.set_cons_zero, List.set_cons_succ]
      refine wpAnyH_take (i := 17) (oi := { dst := some 4, op := Op.assign (Operand.tmp 41), type := 33, pos := "mount.go:70", after := #[{ on := 15, ground := Ground.data }, { on := 16, ground := Ground.chain }, { on := 0, ground := Ground.phase }, { on := 1, ground := Ground.phase }, { on := 2, ground := Ground.phase }, { on := 3, ground := Ground.phase }, { on := 4, ground := Ground.phase }, { on := 5, ground := Ground.phase }, { on := 6, ground := Ground.phase }, { on := 7, ground := Ground.phase }, { on := 8, ground := Ground.phase }, { on := 9, ground := Ground.phase }, { on := 10, ground := Ground.phase }, { on := 11, ground := Ground.phase }, { on := 12, ground := Ground.phase }, { on := 13, ground := Ground.phase }, { on := 14, ground := Ground.phase }, { on := 15, ground := Ground.phase }, { on := 16, ground := Ground.phase }], guard := none }) (v := ?vrm68r4o17) rfl (by kernel_rfl) (by kernel_rfl) (by kernel_rfl) (fun _ _ _ h => h) (Or.inl ⟨by rfl, ?hrm68r4o17⟩) hS ?_
      case hrm68r4o17 => (intro wx hx; skip; go_simp; (try with_reducible rfl))
      try simp only [Act.put, List.setIfInBounds_toArray, List.set_cons_zero, List.set_cons_succ]
      refine wpAnyH_done (by kernel_rfl) ?_ _
      have HR3 := Lib.hid (HR2.out _ _ hOr.out)
      clear hOr HN2 HR2 hS hz0
      go_wp2_with fail
      refine HR3.out.mono ?_
      rintro e v2 (⟨h0, rfl, hO3⟩ | ⟨h0, rfl, B2, P2, hO3⟩)
      · as_aux_lemma =>
        obtain ⟨⟨c0, c1, c2, c3, c4, f4, f5⟩, c5⟩ := HC1.out v2 hO3
        have hO4 := Lib.hid (HP1t.out v2 hO3)
        have HZ2 := Lib.hid (HZ.out h0)
        clear hO3 h0 HR3 HC1 HCt HP1t HP2t HZ Hz HCn
        go_wp2
        go_roundg f
        case measure => (rw [Hf.out]; exact Hfl.out.2.1)
        case rel => exact ⟨T, Lib.hid Hfl.out.1, Lib.hid Hfl.out.2.2, HZ2, hO4⟩
      · as_aux_lemma =>
        obtain ⟨⟨c0, c1, c2, c3, c4, f4, f5⟩, c5⟩ := HCt.out v2 _ hO3
        have hO4 := Lib.hid (HP2t.out v2 R _ hO3)
        have H0 := Lib.hid h0
        clear hO3 h0 HR3 HC1 HCt HP1t HP2t HZ HCn
        go_wp2
        try rw [Exit.noGoto_ret]
        go_ret
        exact ⟨rfl, .inr ⟨t, R, B2, P2, HtA.out.1, HtA.out.2, Hz.out, H0.out, hO4.out⟩⟩
    · as_aux_lemma =>
      obtain rfl : a = t := by have := Ht.out; omega
      have l1 : ¬ (a : Int) < (a : Int) := by omega
      have hO4 := Lib.hid (hO.out.quiet (grown_drewN wr nq none))
      clear hO HC HC2 HP1 HP2 HN HR c0 c1 c2 c3 c4 f4 f5 c5 hlt
      go_wp2
      try rw [Exit.noGoto_ret]
      go_ret
      exact ⟨rfl, .inl ⟨hO4.out, Hz.out⟩⟩
end Go.Proofs.YtkalglcbmfhdfaaGreat
end
section
/- Package mount: geometry. -/
namespace Go.Proofs.YtkalglcbmfhdfaaGreat
open Go.RowKit Go.Grommet

def ofG (v : Option (Int × Int × Int)) : Int × Int × Int := v.getD (0, 0, 0)
theorem OfIs.plain {v : Option (Int × Int × Int)} {w w' : World} {e : Ending} (h : OfIs v w e w') : e = .returned (.tuple #[gv (ofG v).1 (ofG v).2.1 (ofG v).2.2, .bool v.isSome]) ∧ w.grownBy w' none := by
  obtain ⟨h, hg⟩ := h
  cases v with
  | none => exact ⟨h, hg⟩
  | some g => exact ⟨h, hg⟩

set_option maxRecDepth 100000 in
set_option maxHeartbeats 2000000 in
theorem geoH (j d : Nat) (ws : List PW) (N : Nat) (w0 w : World) (Ps : List Pr) (h : Grommet.Own w0 w Ps) (hj : Ps[j]? = some (devP d ws)) (hN : ws.length = 8 * N) (hf : ws.length ≤ 65536) (hx : ∀ v ∈ ws.map (·.seen), v < 18446744073709551616) :
    Calls Tryz.prog 67 #[.func (.func 16) #[ptr d] #[]] w fun e w' => e = .returned (.tuple #[gv (ofG (ofV (ws.map (·.seen)))).1 (ofG (ofV (ws.map (·.seen)))).2.1 (ofG (ofV (ws.map (·.seen)))).2.2, .bool (ofV (ws.map (·.seen))).isSome]) ∧ Grommet.Own w0 w' Ps := by
  obtain ⟨G, hG⟩ : ∃ G, w.heap.size = G := ⟨_, rfl⟩
  obtain ⟨w1, hw1⟩ : ∃ w1, w.alloc (.cells #[.int .i64 0, .int .i64 0, .int .i64 0] 23) = w1 := ⟨_, rfl⟩
  have h1 := h.addBox 23 #[.int .i64 0, .int .i64 0, .int .i64 0]
  rw [hw1, hG] at h1
  have HS := Lib.hid (SeenH j d ws w0 w1 _ h1 (old_get hj) N hN)
  have HO0 : ∀ wx ad cap, Grommet.Own w0 wx ((Ps ++ [boxP G 23 #[.int .i64 0, .int .i64 0, .int .i64 0]]) ++ [rowP 45 1 (.slice ad ws.length cap) ws.length ((ws.map (·.seen)).map wv)]) → Calls Tryz.prog 37 #[.slice ad ws.length cap] wx fun e w' => e = .returned (.tuple #[gv (ofG (ofV (ws.map (·.seen)))).1 (ofG (ofV (ws.map (·.seen)))).2.1 (ofG (ofV (ws.map (·.seen)))).2.2, .bool (ofV (ws.map (·.seen))).isSome]) ∧ Grommet.Own w0 w' (Ps ++ [boxP G 23 #[.int .i64 0, .int .i64 0, .int .i64 0]]) := by
    intro wx ad cap hO
    obtain ⟨hw, _, _⟩ := Own.words hO _ last_get hx (by omega)
    refine (LOf_any ad ws.length cap (ws.map (·.seen)) wx hw).mono ?_
    intro e w' hA
    obtain ⟨he, hg⟩ := hA.plain
    exact ⟨he, hO.less.quiet hg⟩
  have HO := Lib.hid HO0
  have HB0 : ∀ (wx : World) (x y z : Int), Grommet.Own w0 wx (Ps ++ [boxP G 23 #[.int .i64 0, .int .i64 0, .int .i64 0]]) → (wx.cell? ⟨G, 0, none⟩ = some (.int .i64 0) ∧ wx.cell? ⟨G, 1, none⟩ = some (.int .i64 0) ∧ wx.cell? ⟨G, 2, none⟩ = some (.int .i64 0) ∧ wx.frozen? ⟨G, 0, none⟩ = false ∧ wx.frozen? ⟨G, 1, none⟩ = false ∧ wx.frozen? ⟨G, 2, none⟩ = false) ∧
      ∃ wn, ((wx.setCell ⟨G, 0, none⟩ (.int .i64 x)).setCell ⟨G, 1, none⟩ (.int .i64 y)).setCell ⟨G, 2, none⟩ (.int .i64 z) = wn ∧ Grommet.Own w0 wn Ps ∧ wn.cell? ⟨G, 0, none⟩ = some (.int .i64 x) ∧ wn.cell? ⟨G, 1, none⟩ = some (.int .i64 y) ∧ wn.cell? ⟨G, 2, none⟩ = some (.int .i64 z) := by
    intro wx x y z hO
    have hb := hO.box _ last_get
    refine ⟨by simp [World.cell?, World.frozen?, hb], _, rfl, ?_⟩
    have o1 := own_putBox hO Ps.length last_get 0 (.int .i64 x)
    rw [List.set_append_right _ _ (Nat.le_refl _), Nat.sub_self, List.set_cons_zero] at o1
    have o2 := own_putBox o1 Ps.length last_get 1 (.int .i64 y)
    rw [List.set_append_right _ _ (Nat.le_refl _), Nat.sub_self, List.set_cons_zero] at o2
    have o3 := own_putBox o2 Ps.length last_get 2 (.int .i64 z)
    rw [List.set_append_right _ _ (Nat.le_refl _), Nat.sub_self, List.set_cons_zero] at o3
    have hb3 := o3.box _ last_get
    exact ⟨o3.less, by simp [World.cell?, hb3], by simp [World.cell?, hb3], by simp [World.cell?, hb3]⟩
  have HB := Lib.hid HB0
  clear HB0 HO0 h hj hN hf hx h1
  generalize (ofV (ws.map (·.seen))).isSome = is at HO ⊢
  obtain ⟨x, hx⟩ : ∃ x, (ofG (ofV (ws.map (·.seen)))).1 = x := ⟨_, rfl⟩
  obtain ⟨y, hy⟩ : ∃ x, (ofG (ofV (ws.map (·.seen)))).2.1 = x := ⟨_, rfl⟩
  obtain ⟨z, hz⟩ : ∃ x, (ofG (ofV (ws.map (·.seen)))).2.2 = x := ⟨_, rfl⟩
  rw [hx, hy, hz] at HO ⊢
  clear hx hy hz
  generalize ws.length = n at HS HO
  generalize ws.map (·.seen) = xs at HS HO
  unfold gv at HO
  unfold ptr at HS ⊢
  go_enter Tryz.func67, Tryz.ntmps67
  go_wp2_with fail
  refine HS.out.mono ?_
  rintro e w2 ⟨ad, cap, rfl, hO2⟩
  have HO2 := Lib.hid (HO.out w2 ad cap hO2)
  clear HS HO hO2 hw1
  go_wp2_with fail
  refine HO2.out.mono ?_
  rintro e w3 ⟨rfl, hO3⟩
  obtain ⟨⟨g0, g1, g2, f0, f1, f2⟩, wn, hwn, hOn, z0, z1, z2⟩ := HB.out w3 x y z hO3
  have hOn := Lib.hid hOn
  clear HO2 HB hO3
  go_wp2
  unfold gv
  exact bodyPost_ret (v := .tuple #[.agg #[.int .i64 x, .int .i64 y, .int .i64 z], .bool is]) (by simp [results, Tryz.results67, go_sem, z0, z1, z2]) rfl ⟨rfl, hOn.out⟩
end Go.Proofs.YtkalglcbmfhdfaaGreat
end
section
/- Package mount: New. -/
namespace Go.Proofs.YtkalglcbmfhdfaaGreat
open Go.RowKit Go.Grommet

set_option maxRecDepth 100000 in
set_option maxHeartbeats 2000000 in
theorem MNewNo (j d : Nat) (ws : List PW) (N : Nat) (w0 w : World) (Ps : List Pr) (h : Grommet.Own w0 w Ps) (hj : Ps[j]? = some (devP d ws)) (hN : ws.length = 8 * N) (hf : ws.length ≤ 65536) (hx : ∀ v ∈ ws.map (·.seen), v < 18446744073709551616) (hv : ofV (ws.map (·.seen)) = none) :
    Calls Tryz.prog 23 #[ptr d] w fun e w' => e = .returned (.tuple #[nilV, .int .i64 4]) ∧ Grommet.Own w0 w' Ps := by
  have HG := Lib.hid (geoH j d ws N w0 w Ps h hj hN hf hx)
  rw [hv] at HG
  have HG : Hid (Calls Tryz.prog 67 #[.func (.func 16) #[ptr d] #[]] w fun e w' => e = .returned (.tuple #[.agg #[.int .i64 0, .int .i64 0, .int .i64 0], .bool false]) ∧ Grommet.Own w0 w' Ps) := HG
  have HQ := Lib.hid (fun wx (hO : Grommet.Own w0 wx Ps) => hO.quiet (World.grownBy_alloc wx (.cells #[.int .i64 0, .int .i64 0, .int .i64 0] 23) none))
  unfold ptr at HG ⊢
  unfold nilV
  clear h hj hN hf hx hv
  go_enter Tryz.func23, Tryz.ntmps23
  go_wp2_with fail
  refine HG.out.mono ?_
  rintro e w2 ⟨rfl, hO2⟩
  have hO3 := Lib.hid (HQ.out w2 hO2)
  clear HG HQ hO2
  go_wp2
  go_ret2
  exact ⟨rfl, hO3.out⟩

/-- What a new mount is. -/
def MIs (w0 : World) (Ps : List Pr) (d a b c N : Nat) (xs : List Nat) (m : Nat) (w' : World) : Prop :=
  (Grommet.Own w0 w' (Ps ++ [mntB m d a b c a nilV]) ∧ ∀ i, i < a → xs.getD (264 + 208 * i) 0 = 0) ∨
    ∃ t R Bs Pn, t < a ∧ (∀ i, i < t → xs.getD (264 + 208 * i) 0 = 0) ∧ xs.getD (264 + 208 * t) 0 ≠ 0 ∧ Grommet.Own w0 w' ((Ps ++ [mntB m d a b c t (ptr R)]) ++ [runP R d (a : Int) (b : Int) (c : Int) (264 + 208 * t) Bs Pn (resS N (264 + 208 * t) (a : Int) (b : Int) (c : Int) xs)])

set_option maxRecDepth 100000 in
set_option maxHeartbeats 2000000 in
theorem MNewYes (j d a b c : Nat) (ws : List PW) (N : Nat) (w0 w : World) (Ps : List Pr) (h : Grommet.Own w0 w Ps) (hj : Ps[j]? = some (devP d ws)) (hN : ws.length = 8 * N) (hf : ws.length ≤ 65536) (hx : ∀ v ∈ ws.map (·.seen), v < 18446744073709551616) (hv : ofV (ws.map (·.seen)) = some ((a : Int), (b : Int), (c : Int)))
    (hm : mayB (a : Int) (b : Int) (c : Int) = true) (hw : 280 + 208 * a + 16 * b + 8 * c ≤ ws.length) :
    Calls Tryz.prog 23 #[ptr d] w fun e w' => ∃ m, e = .returned (.tuple #[ptr m, .int .i64 0]) ∧ MIs w0 Ps d a b c N (ws.map (·.seen)) m w' := by
  have hjl := (List.getElem?_eq_some_iff.1 hj).1
  have HG := Lib.hid (geoH j d ws N w0 w Ps h hj hN hf hx)
  rw [hv] at HG
  have HG : Hid (Calls Tryz.prog 67 #[.func (.func 16) #[ptr d] #[]] w fun e w' => e = .returned (.tuple #[.agg #[.int .i64 (a : Int), .int .i64 (b : Int), .int .i64 (c : Int)], .bool true]) ∧ Grommet.Own w0 w' Ps) := HG
  have HQ := Lib.hid (fun wx (hO : Grommet.Own w0 wx Ps) => hO.quiet (World.grownBy_alloc wx (.cells #[.int .i64 (a : Int), .int .i64 (b : Int), .int .i64 (c : Int)] 23) none))
  have HB0 : ∀ wx (hO : Grommet.Own w0 wx Ps), Grommet.Own w0 (wx.alloc (.cells #[ptr d, .int .i64 (a : Int), .int .i64 (b : Int), .int .i64 (c : Int), .int .i64 0, .pointer none] 126)) (Ps ++ [mntB wx.heap.size d a b c 0 nilV]) := fun wx hO => hO.addBox _ _
  have HB := Lib.hid HB0
  have HR0 : ∀ m wx, Grommet.Own w0 wx (Ps ++ [mntB m d a b c 0 nilV]) → Calls Tryz.prog 68 #[ptr m] wx fun e w' => e = .returned (.int .i64 0) ∧ MIs w0 Ps d a b c N (ws.map (·.seen)) m w' := by
    intro m wx hO
    refine (resumeH Ps.length j m d a b c 0 nilV ws N w0 wx _ hO last_get (old_get hj) (by omega) hN hf hx hm hw (Nat.zero_le _)).mono ?_
    have hset : ∀ P, (Ps ++ [mntB m d a b c 0 nilV]).set Ps.length P = Ps ++ [P] := fun P => by
      rw [List.set_append_right _ _ (Nat.le_refl _), Nat.sub_self, List.set_cons_zero]
    rintro e w' ⟨rfl, ⟨hO', hz⟩ | ⟨t, R, B2, P2, _, ht, hz, h0, hO'⟩⟩
    · rw [hset] at hO'
      exact ⟨rfl, .inl ⟨hO', fun i hi => hz i (Nat.zero_le _) hi⟩⟩
    · rw [hset] at hO'
      exact ⟨rfl, .inr ⟨t, R, B2, P2, ht, fun i hi => hz i (Nat.zero_le _) hi, h0, hO'⟩⟩
  have HR := Lib.hid HR0
  generalize ws.map (·.seen) = xs at HR ⊢
  unfold ptr at HG HB HR ⊢
  clear h hj hN hf hx hv hm hw HB0 HR0
  go_enter Tryz.func23, Tryz.ntmps23
  go_wp2_with fail
  refine HG.out.mono ?_
  rintro e w2 ⟨rfl, hO2⟩
  have hO3 := HQ.out w2 hO2
  obtain ⟨w3, hw3⟩ : ∃ w3, w2.alloc (.cells #[.int .i64 (a : Int), .int .i64 (b : Int), .int .i64 (c : Int)] 23) = w3 := ⟨_, rfl⟩
  rw [hw3] at hO3
  have hb : w3.heap[w2.heap.size]? = some (.cells #[.int .i64 (a : Int), .int .i64 (b : Int), .int .i64 (c : Int)] 23 (0, 0)) := by rw [← hw3]; exact heap_alloc_new w2 _
  have y0 : w3.cell? ⟨w2.heap.size, 0, none⟩ = some (.int .i64 (a : Int)) := by simp [World.cell?, hb]
  have y1 : w3.cell? ⟨w2.heap.size, 1, none⟩ = some (.int .i64 (b : Int)) := by simp [World.cell?, hb]
  have y2 : w3.cell? ⟨w2.heap.size, 2, none⟩ = some (.int .i64 (c : Int)) := by simp [World.cell?, hb]
  have HR3 := Lib.hid (HR.out _ _ (HB.out w3 hO3))
  clear HG HQ hO2 hO3 hb HR HB
  go_wp2_with fail
  trace_state
  refine HR3.out.mono ?_
  rintro e w4 ⟨rfl, hM⟩
  have hM := Lib.hid hM
  clear HR3
  go_wp2
  go_ret2
  exact ⟨_, rfl, hM.out⟩
end Go.Proofs.YtkalglcbmfhdfaaGreat
end
section
/- Package mount: Format. -/
namespace Go.Proofs.YtkalglcbmfhdfaaGreat
open Go.RowKit Go.Grommet

theorem FormatW (a b c N : Nat) (xs : List Nat) (w0 w : World) (Ps : List Pr) (h : Grommet.Own w0 w Ps) (hm : mayB (a : Int) (b : Int) (c : Int) = true) (hN : 280 + 208 * a + 16 * b + 8 * c = N) (hxs : fmtL a b c (264 + 208 * a) N = xs) :
    Calls Tryz.prog 34 #[.agg #[.int .i64 (a : Int), .int .i64 (b : Int), .int .i64 (c : Int)]] w fun e w' => ∃ q, e = .returned (.slice (some ⟨q, 0, none⟩) N N) ∧ Grommet.Own w0 w' (Ps ++ [rowP 45 1 (.slice (some ⟨q, 0, none⟩) N N) N (xs.map wv)]) := by
  subst hN
  have hl := length_fmtL a b c (264 + 208 * a) (280 + 208 * a + 16 * b + 8 * c)
  rw [hxs] at hl
  have hmN := mayB_yes hm
  refine (Format_any a b c w hm).mono ?_
  rintro e w' ⟨q, rfl, hrow, hq, hg⟩
  rw [hxs] at hrow ⊢
  rw [hl]
  refine ⟨q, rfl, h.addRow ⟨by simp [hl], .inr ⟨q, 280 + 208 * a + 16 * b + 8 * c, _, rfl, hq, hrow, Nat.le_refl _, by unfold maxLen; omega, by simp [hl], by rw [List.take_of_length_le (by simp [hl])]⟩⟩ hg⟩
theorem fmtW_small (a b c N : Nat) (hm : mayB (a : Int) (b : Int) (c : Int) = true) : ∀ n ∈ fmtL a b c (264 + 208 * a) N, n < 18446744073709551616 := by
  have := mayB_yes hm
  exact fmtL_lt a b c _ N (by omega) (by omega) (by omega)

set_option maxRecDepth 100000 in
set_option maxHeartbeats 4000000 in
theorem MFormat (j d a b c K N : Nat) (xs : List Nat) (ws : List PW) (w0 w : World) (Ps : List Pr) (h : Grommet.Own w0 w Ps) (hj : Ps[j]? = some (devP d ws)) (hN : ws.length = 8 * N) (hm : mayB (a : Int) (b : Int) (c : Int) = true) (hK : 280 + 208 * a + 16 * b + 8 * c = K) (hxs : fmtL a b c (264 + 208 * a) K = xs) (hle : K ≤ ws.length) :
    Calls Tryz.prog 11 #[ptr d, gv (a : Int) (b : Int) (c : Int)] w fun e w' => e = .returned (.int .i64 0) ∧ Grommet.Own w0 w' (Ps.set j (devP d (fmtE ws xs))) := by
  have hjl := (List.getElem?_eq_some_iff.1 hj).1
  have hmb := mayB_yes hm
  have hxl : xs.length = K := by rw [← hxs, length_fmtL]
  have hsm := fmtW_small a b c K hm
  rw [hxs] at hsm
  have HMy := Lib.hid (fun wx => May_any (a : Int) (b : Int) (c : Int) wx)
  rw [hm] at HMy
  have HWd := Lib.hid (fun wx => Words_any (a : Int) (b : Int) (c : Int) wx)
  rw [show wordsV (a : Int) (b : Int) (c : Int) = (K : Int) from by rw [words_pos hm]; omega] at HWd
  obtain ⟨w1, hw1⟩ : ∃ w1, w.alloc (.cells #[.int .i64 (a : Int), .int .i64 (b : Int), .int .i64 (c : Int)] 23) = w1 := ⟨_, rfl⟩
  obtain ⟨G, hG⟩ : ∃ G, w.heap.size = G := ⟨_, rfl⟩
  have h1 := h.addBox 23 #[.int .i64 (a : Int), .int .i64 (b : Int), .int .i64 (c : Int)]
  rw [hw1, hG] at h1
  have HPw := Lib.hid (fun wx (hO : Grommet.Own w0 wx (Ps ++ [boxP G 23 #[.int .i64 (a : Int), .int .i64 (b : Int), .int .i64 (c : Int)]])) => PWordsH j d ws w0 wx _ hO (old_get hj))
  have HG := Lib.hid (fun wx (hO : Grommet.Own w0 wx (Ps ++ [boxP G 23 #[.int .i64 (a : Int), .int .i64 (b : Int), .int .i64 (c : Int)]])) => (show GeoQ G (a : Int) (b : Int) (c : Int) wx from hO.box Ps.length (by simp)))
  have HFm := Lib.hid (fun wx (hO : Grommet.Own w0 wx (Ps ++ [boxP G 23 #[.int .i64 (a : Int), .int .i64 (b : Int), .int .i64 (c : Int)]])) => FormatW a b c K xs w0 wx Ps hO.less hm hK hxs)
  have HSt0 : ∀ (q i V : Nat) (wx : World), i < K → xs.getD i 0 = V → Grommet.Own w0 wx (Ps.set j (devP d (fmtS ws xs (i + 1))) ++ [rowP 45 1 (.slice (some ⟨q, 0, none⟩) K K) K (xs.map wv)]) →
      wx.cell? ⟨q, i, none⟩ = some (.int .u64 (V : Int)) ∧
      Calls Tryz.prog 19 #[ptr d, .int .i64 (i : Int), .int .u64 (V : Int)] wx fun e w' => e = .returned (.int .i64 0) ∧ Grommet.Own w0 w' (Ps.set j (devP d (fmtS ws xs i)) ++ [rowP 45 1 (.slice (some ⟨q, 0, none⟩) K K) K (xs.map wv)]) := by
    intro q i V wx hi hV hO
    have hix : i < xs.length := by omega
    obtain ⟨b', he, c1, _, _⟩ := Own.cell hO _ last_get i (wv (xs.getD i 0)) (by rw [List.getElem?_map, List.getElem?_eq_getElem hix, List.getD_eq_getElem?_getD, List.getElem?_eq_getElem hix]; rfl)
    cases he
    subst hV
    refine ⟨c1, ?_⟩
    have hget := fmtS_get ws xs (i + 1) i
    rw [List.getElem?_eq_getElem (show i < ws.length by omega), Option.map_some] at hget
    have := StoreH j d (fmtS ws xs (i + 1)) w0 wx _ hO (old_get (List.getElem?_set_self hjl)) i _ hget (xs.getD i 0) (by rw [List.getD_eq_getElem?_getD, List.getElem?_eq_getElem hix]; exact hsm _ (by simp))
    rw [fmtS_succ ws xs i hix, List.set_append_left _ _ (by simpa using hjl), List.set_set] at this
    exact this
  obtain ⟨K8, hK8⟩ : ∃ n, K / 8 = n := ⟨_, rfl⟩
  have hK8' : 8 * K8 = K := by omega
  have HFl0 : ∀ (i : Nat) (wx : World), i < K8 → Grommet.Own w0 wx (Ps.set j (devP d (fmtF ws xs i))) → Calls Tryz.prog 52 #[ptr d, .int .i64 (i : Int)] wx fun e w' => e = .returned (.int .i64 0) ∧ Grommet.Own w0 w' (Ps.set j (devP d (fmtF ws xs (i + 1)))) := by
    intro i wx hi hO
    have := FlushH j d (fmtF ws xs i) w0 wx _ hO (List.getElem?_set_self hjl) i (by rw [fmtF_len]; omega)
    rw [fmtF_succ ws xs i (by omega), List.set_set] at this
    exact this
  have HFe0 : ∀ wx, Grommet.Own w0 wx (Ps.set j (devP d (fmtF ws xs K8))) → Calls Tryz.prog 53 #[ptr d] wx fun e w' => e = .returned (.int .i64 0) ∧ Grommet.Own w0 w' (Ps.set j (devP d (fmtE ws xs))) := by
    intro wx hO
    have := FenceH j d (fmtF ws xs K8) w0 wx _ hO (List.getElem?_set_self hjl) N (by rw [fmtF_len]; exact hN)
    rw [fmtF_all ws xs K8 (by omega), List.set_set] at this
    exact this
  have HSt := Lib.hid HSt0
  have HFl := Lib.hid HFl0
  have HFe := Lib.hid HFe0
  have HZ0 : Hid (Ps.set j (devP d (fmtS ws xs K)) = Ps) := Lib.hid (by rw [← hxl, fmtS_end, set_selfC hj])
  have HZ1 : Hid (fmtF ws xs 0 = fmtS ws xs 0) := Lib.hid (fmtF_zero ws xs)
  have q1 : ¬ (ws.length : Int) < (K : Int) := by omega
  have hKb : 280 ≤ K ∧ K ≤ 100000 := by omega
  have wK : IntKind.i64.wrap ((K : Int) - 1) = (K : Int) - 1 := IntWalk.i64_in _ ⟨by omega, by omega⟩
  have d1 : IntKind.i64.wrap ((K : Int) + 8) = (K : Int) + 8 := IntWalk.i64_in _ ⟨by omega, by omega⟩
  have d2 : (K : Int) + 8 - 1 = (K : Int) + 7 := by omega
  have d3 : IntKind.i64.wrap ((K : Int) + 7) = (K : Int) + 7 := IntWalk.i64_in _ ⟨by omega, by omega⟩
  have d4 : Int.tdiv ((K : Int) + 7) 8 = (K8 : Int) := by rw [Int.tdiv_eq_ediv_of_nonneg (by omega)]; omega
  have d5 : ((K : Int) + 7) / 8 = (K8 : Int) := by omega
  have d6 : IntKind.i64.wrap (K8 : Int) = (K8 : Int) := IntWalk.i64_in _ ⟨by omega, by omega⟩
  have hK8b : K8 ≤ 100000 := by omega
  have HO1 := Lib.hid h1
  obtain ⟨f0, f1, f2⟩ := GeoQ.cells (HG.out w1 h1)
  generalize ws.length = n at HPw q1
  unfold gv at HMy HWd ⊢
  unfold ptr at HPw HSt HFl HFe ⊢
  clear h hj hN hm hK hxs hle h1 hsm hxl hmb HSt0 HFl0 HFe0 hK8 hK8' hjl
  go_enter Tryz.func11, Tryz.ntmps11
  go_wp2_with fail
  refine (HMy.out _).mono ?_
  rintro e w2 ⟨rfl, hg2⟩
  have hO2 := HO1.out.quiet hg2
  have hOr := Lib.hid (hO2.quiet (grown_drew (World.grownBy.refl _ none)))
  have hz0 := Lib.hid (HG.out _ hOr.out)
  clear hg2 HMy HO1 hO2 f0 f1 f2 hw1 hG
  go_wp2_with fail
  refine wp_region_held_drew (S := fun w' => GeoQ G (a : Int) (b : Int) (c : Int) w') (by kernel_rfl) (hz0.out) (fun hS => ?_)
  refine wpAnyH_take (i := 0) (oi := { dst := some 18, op := Op.move (Operand.tmp 0), type := 32, pos := "mount.go:26", after := #[], guard := none }) (v := ?vmf11r5o0) rfl (by kernel_rfl) (by kernel_rfl) (by kernel_rfl) (fun _ _ _ h => h) (Or.inl ⟨by rfl, ?hmf11r5o0⟩) hS ?_
  case hmf11r5o0 => (intro wx hx; skip; go_simp; (try with_reducible rfl))
  try simp only [Act.put, List.setIfInBounds_toArray, List.set_cons_zero, List.set_cons_succ]
  refine wpAnyH_take (i := 2) (oi := { dst := some 20, op := Op.load 23 (Operand.tmp 3), type := 23, pos := "mount.go:26", after := #[], guard := none }) (v := ?vmf11r5o2) rfl (by kernel_rfl) (by kernel_rfl) (by kernel_rfl) (fun _ _ _ h => h) (Or.inl ⟨by rfl, ?hmf11r5o2⟩) hS ?_
  case hmf11r5o2 => (intro wx hx; obtain ⟨f0, f1, f2⟩ := GeoQ.cells hx; go_simp; (try with_reducible rfl))
  try simp only [Act.put, List.setIfInBounds_toArray, List.set_cons_zero, List.set_cons_succ]
  refine wpAnyH_ready (rs := [1]) (by kernel_rfl) (by simp) ?_
  refine AllReadyH.cons (o := { dst := some 19, op := Op.call { callee := Callee.value (Operand.func 51), args := #[Operand.tmp 18], argTypes := #[32] }, type := 3, pos := "mount.go:26", after := #[{ on := 0, ground := Ground.data }], guard := none }) rfl (fun K hK => ?_) AllReadyH.nil
  go_simp
  refine (HPw.out _ hOr.out).mono ?_
  rintro e v2 ⟨rfl, hn⟩
  have hOn := Lib.hid (hOr.out.quiet hn)
  clear hOr hn
  have hOr := hOn
  clear hOn
  refine hK.out _ _ ?hsmf11r5o1 (fun hS => ?_)
  case hsmf11r5o1 => (exact HG.out _ hOr.out)
  clear hK K
  try simp only [Act.put, List.setIfInBounds_toArray, List.set_cons_zero, List.set_cons_succ]
  refine wpAnyH_ready (rs := [3]) (by kernel_rfl) (by simp) ?_
  refine AllReadyH.cons (o := { dst := some 21, op := Op.call { callee := Callee.value (Operand.func 42), args := #[Operand.tmp 20], argTypes := #[23] }, type := 3, pos := "mount.go:26", after := #[{ on := 2, ground := Ground.data }, { on := 1, ground := Ground.chain }], guard := none }) rfl (fun K hK => ?_) AllReadyH.nil
  go_simp
  refine (HWd.out _).mono ?_
  rintro e v1 ⟨rfl, hn⟩
  have hOn := Lib.hid (hOr.out.quiet hn)
  clear hOr hn
  have hOr := hOn
  clear hOn
  refine hK.out _ _ ?hsmf11r5o3 (fun hS => ?_)
  case hsmf11r5o3 => (exact HG.out _ hOr.out)
  clear hK K
  try simp only [Act.put, List.setIfInBounds_toArray, List.set_cons_zero, List.set_cons_succ]
  refine wpAnyH_take (i := 4) (oi := { dst := some 22, op := Op.binOp BinOp.lss 3 (Operand.tmp 19) (Operand.tmp 21) 3, type := 4, pos := "mount.go:26", after := #[{ on := 1, ground := Ground.data }, { on := 3, ground := Ground.data }], guard := none }) (v := ?vmf11r5o4) rfl (by kernel_rfl) (by kernel_rfl) (by kernel_rfl) (fun _ _ _ h => h) (Or.inl ⟨by rfl, ?hmf11r5o4⟩) hS ?_
  case hmf11r5o4 => (intro wx hx; skip; go_simp; (try with_reducible rfl))
  try simp only [Act.put, List.setIfInBounds_toArray, List.set_cons_zero, List.set_cons_succ]
  refine wpAnyH_take (i := 5) (oi := { dst := some 17, op := Op.assign (Operand.tmp 22), type := 4, pos := "mount.go:26", after := #[{ on := 4, ground := Ground.data }, { on := 3, ground := Ground.chain }], guard := none }) (v := ?vmf11r5o5) rfl (by kernel_rfl) (by kernel_rfl) (by kernel_rfl) (fun _ _ _ h => h) (Or.inl ⟨by rfl, ?hmf11r5o5⟩) hS ?_
  case hmf11r5o5 => (intro wx hx; skip; go_simp; (try with_reducible rfl))
  try simp only [Act.put, List.setIfInBounds_toArray, List.set_cons_zero, List.set_cons_succ]
  refine wpAnyH_done (by kernel_rfl) ?_ _
  obtain ⟨f0, f1, f2⟩ := GeoQ.cells hS
  have HFm2 := Lib.hid (HFm.out _ hOr.out)
  clear hOr HFm HG HPw HWd hS hz0
  go_wp2_with fail
  refine HFm2.out.mono ?_
  rintro e w3 ⟨q, rfl, hO3⟩
  have hO3 : Hid (Grommet.Own w0 w3 (Ps.set j (devP d (fmtS ws xs K)) ++ [rowP 45 1 (.slice (some ⟨q, 0, none⟩) K K) K (xs.map wv)])) := Lib.hid (by rw [HZ0.out]; exact hO3)
  clear HFm2 f0 f1 f2 HZ0
  go_wp2_with fail
  go_loopw [6, 7] (fun at_ _ wr => ∃ i : Nat, i ≤ K ∧ at_ = .int .i64 ((i : Int) - 1) ∧ Hid (Grommet.Own w0 wr (Ps.set j (devP d (fmtS ws xs i)) ++ [rowP 45 1 (.slice (some ⟨q, 0, none⟩) K K) K (xs.map wv)]))) (fun at_ _ _ => (intOf at_ + 1).toNat)
  case atStart => exact ⟨K, Nat.le_refl _, rfl, hO3⟩
  case round =>
    clear hO3
    obtain ⟨i, hi, rfl, hO⟩ := hrel
    by_cases hlt : i = 0
    · as_aux_lemma =>
      obtain ⟨z, hz⟩ : ∃ z : Int, (i : Int) - 1 = z := ⟨_, rfl⟩
      rw [hz]
      have hzn : ¬ (0 : Int) ≤ z := by omega
      rw [hlt] at hO
      clear hlt hz hi
      have hO4 : Hid (Grommet.Own w0 wr (Ps.set j (devP d (fmtF ws xs 0)))) := Lib.hid (by rw [HZ1.out]; exact hO.out.less)
      clear hO HSt HZ1
      go_wp2_with fail
      go_loopw [8, 9, 47] (fun _ _ at_ wr => ∃ i : Nat, i ≤ K8 ∧ at_ = .int .i64 (i : Int) ∧ Hid (Grommet.Own w0 wr (Ps.set j (devP d (fmtF ws xs i))))) (fun _ _ at_ _ => K8 - (intOf at_).toNat)
      case atStart => exact ⟨0, Nat.zero_le _, rfl, hO4⟩
      case round =>
        clear hO4
        obtain ⟨i, hi, rfl, hO⟩ := hrel
        have i0 : (0 : Int) ≤ (i : Int) := by omega
        by_cases hlt : i < K8
        · as_aux_lemma =>
          have l1 : (i : Int) < (K8 : Int) := by omega
          have wi : IntKind.i64.wrap ((i : Int) + 1) = (i : Int) + 1 := IntWalk.i64_in _ ⟨by omega, by omega⟩
          have HS1 := Lib.hid (HFl.out i wr hlt hO.out)
          clear hO HFl HFe
          go_wp2_with fail
          refine HS1.out.mono ?_
          rintro e w4 ⟨rfl, hO4⟩
          have hO4 := Lib.hid hO4
          clear HS1
          go_wp2
          go_roundw
          case rel => exact ⟨i + 1, by omega, by go_num, hO4⟩
          case measure => simp [intOf]; omega
        · as_aux_lemma =>
          obtain rfl : K8 = i := by omega
          have l1 : ¬ (K8 : Int) < (K8 : Int) := by omega
          have HS1 := Lib.hid (HFe.out wr hO.out)
          clear hO HFl HFe
          go_wp2_with fail
          refine HS1.out.mono ?_
          rintro e w4 ⟨rfl, hO4⟩
          have hO4 := Lib.hid hO4
          clear HS1
          go_wp2
          go_ret
          exact ⟨rfl, hO4.out⟩
    · as_aux_lemma =>
      obtain ⟨p, hp⟩ : ∃ p, i = p + 1 := ⟨i - 1, by omega⟩
      subst hp
      have ei : ((p + 1 : Nat) : Int) - 1 = (p : Int) := by omega
      rw [ei]
      have p0 : (0 : Int) ≤ (p : Int) := by omega
      have pK : (p : Int) < (K : Int) := by omega
      have wp : IntKind.i64.wrap ((p : Int) - 1) = (p : Int) - 1 := IntWalk.i64_in _ ⟨by omega, by omega⟩
      obtain ⟨V, hV⟩ : ∃ V, xs.getD p 0 = V := ⟨_, rfl⟩
      obtain ⟨c1, HS1⟩ := HSt.out q p V wr (by omega) hV hO.out
      have HS1 := Lib.hid HS1
      clear hO HSt HFl HFe HZ1 hV
      go_wp2_with fail
      refine HS1.out.mono ?_
      rintro e w4 ⟨rfl, hO4⟩
      have hO4 := Lib.hid hO4
      clear HS1 c1
      go_wp2
      go_roundw
      case rel => exact ⟨p, by omega, rfl, hO4⟩
      case measure => simp [intOf]
end Go.Proofs.YtkalglcbmfhdfaaGreat
end
section
/- Package mount: Step, Left, Worker, Geometry. -/
namespace Go.Proofs.YtkalglcbmfhdfaaGreat
open Go.RowKit Go.Grommet

set_option maxRecDepth 100000 in
set_option maxHeartbeats 1000000 in
theorem RLeftNil (w : World) : Calls Tryz.prog 71 #[.pointer none] w fun e w' => e = .returned (.int .i64 0) ∧ w' = w := by
  go_enter Tryz.func71, Tryz.ntmps71
  go_wp2
  go_ret
  exact ⟨rfl, rfl⟩

set_option maxRecDepth 100000 in
set_option maxHeartbeats 1000000 in
theorem MLeftNil (k m D a b c t : Nat) (w0 w : World) (Ps : List Pr) (h : Grommet.Own w0 w Ps) (hk : Ps[k]? = some (mntB m D a b c t nilV)) :
    Calls Tryz.prog 29 #[ptr m] w fun e w' => e = .returned (.int .i64 0) ∧ w' = w := by
  obtain ⟨_, c5⟩ := mnt_cells h k hk
  have HL := Lib.hid (RLeftNil w)
  unfold nilV at c5
  unfold ptr
  clear h hk
  go_enter Tryz.func29, Tryz.ntmps29
  go_wp2_with fail
  refine HL.out.mono ?_
  rintro e w1 ⟨rfl, hw⟩
  obtain rfl := hw.symm
  go_wp2
  go_ret
  exact ⟨rfl, rfl⟩

set_option maxRecDepth 100000 in
set_option maxHeartbeats 1000000 in
theorem MLeft (k r m R D a b c t : Nat) (A : Nat) (Bs : List Nat) (Pn : List (Cl × Value)) (S : List (Nat × Cl)) (w0 w : World) (Ps : List Pr) (h : Grommet.Own w0 w Ps) (hk : Ps[k]? = some (mntB m D a b c t (ptr R))) (hr : Ps[r]? = some (runP R D (a : Int) (b : Int) (c : Int) A Bs Pn S)) :
    Calls Tryz.prog 29 #[ptr m] w fun e w' => e = .returned (.int .i64 (S.length : Int)) ∧ w' = w := by
  obtain ⟨_, c5⟩ := mnt_cells h k hk
  have HL := Lib.hid (LeftH r R D (a : Int) (b : Int) (c : Int) A Bs Pn S w0 w Ps h hr)
  generalize S.length = n at HL ⊢
  unfold ptr at c5 HL ⊢
  clear h hk hr
  go_enter Tryz.func29, Tryz.ntmps29
  go_wp2_with fail
  refine HL.out.mono ?_
  rintro e w1 ⟨rfl, hw⟩
  obtain rfl := hw.symm
  go_wp2
  go_ret
  exact ⟨rfl, rfl⟩

set_option maxRecDepth 100000 in
set_option maxHeartbeats 1000000 in
theorem MWorker (k m D a b c t : Nat) (rv : Value) (w0 w : World) (Ps : List Pr) (h : Grommet.Own w0 w Ps) (hk : Ps[k]? = some (mntB m D a b c t rv)) :
    Calls Tryz.prog 31 #[ptr m] w fun e w' => e = .returned (.int .i64 (t : Int)) ∧ w' = w := by
  obtain ⟨⟨_, _, _, _, c4, _⟩, _⟩ := mnt_cells h k hk
  unfold ptr
  clear h hk
  go_enter Tryz.func31, Tryz.ntmps31
  go_wp2
  go_ret
  exact ⟨rfl, rfl⟩

set_option maxRecDepth 100000 in
set_option maxHeartbeats 2000000 in
theorem MGeo (k m D a b c t : Nat) (rv : Value) (w0 w : World) (Ps : List Pr) (h : Grommet.Own w0 w Ps) (hk : Ps[k]? = some (mntB m D a b c t rv)) :
    Calls Tryz.prog 32 #[ptr m] w fun e w' => e = .returned (gv (a : Int) (b : Int) (c : Int)) ∧ w.grownBy w' none := by
  obtain ⟨⟨_, c1, c2, c3, _⟩, _⟩ := mnt_cells h k hk
  obtain ⟨G, hG⟩ : ∃ G, w.heap.size = G := ⟨_, rfl⟩
  obtain ⟨w1, hw1⟩ : ∃ w1, w.alloc (.cells #[.int .i64 0, .int .i64 0, .int .i64 0] 23) = w1 := ⟨_, rfl⟩
  have hb : w1.heap[G]? = some (.cells #[.int .i64 0, .int .i64 0, .int .i64 0] 23 (0, 0)) := by rw [← hw1, ← hG]; exact heap_alloc_new w _
  have hg1 : w.grownBy w1 none := by rw [← hw1]; exact World.grownBy_alloc w _ none
  have c1 := hg1.cell c1 (by simp)
  have c2 := hg1.cell c2 (by simp)
  have c3 := hg1.cell c3 (by simp)
  have y0 : w1.cell? ⟨G, 0, none⟩ = some (.int .i64 0) := by simp [World.cell?, hb]
  have y1 : w1.cell? ⟨G, 1, none⟩ = some (.int .i64 0) := by simp [World.cell?, hb]
  have y2 : w1.cell? ⟨G, 2, none⟩ = some (.int .i64 0) := by simp [World.cell?, hb]
  have f0 : w1.frozen? ⟨G, 0, none⟩ = false := by simp [World.frozen?, hb]
  have f1 : w1.frozen? ⟨G, 1, none⟩ = false := by simp [World.frozen?, hb]
  have f2 : w1.frozen? ⟨G, 2, none⟩ = false := by simp [World.frozen?, hb]
  have hb3 := heap_setCell_at (o := 2) (heap_setCell_at (o := 1) (heap_setCell_at (o := 0) hb (.int .i64 (a : Int))) (.int .i64 (b : Int))) (.int .i64 (c : Int))
  have hg := Lib.hid (grown_new hg1 (grown_trans (grown_trans (grown_setCell w1 ⟨G, 0, none⟩ (.int .i64 (a : Int))) (grown_setCell _ ⟨G, 1, none⟩ (.int .i64 (b : Int)))) (grown_setCell _ ⟨G, 2, none⟩ (.int .i64 (c : Int)))) (by intro k e; cases e; exact Nat.le_of_eq hG))
  obtain ⟨wn, hwn⟩ : ∃ wn, ((w1.setCell ⟨G, 0, none⟩ (.int .i64 (a : Int))).setCell ⟨G, 1, none⟩ (.int .i64 (b : Int))).setCell ⟨G, 2, none⟩ (.int .i64 (c : Int)) = wn := ⟨_, rfl⟩
  rw [hwn] at hg hb3
  have z0 : wn.cell? ⟨G, 0, none⟩ = some (.int .i64 (a : Int)) := by simp [World.cell?, hb3]
  have z1 : wn.cell? ⟨G, 1, none⟩ = some (.int .i64 (b : Int)) := by simp [World.cell?, hb3]
  have z2 : wn.cell? ⟨G, 2, none⟩ = some (.int .i64 (c : Int)) := by simp [World.cell?, hb3]
  unfold ptr gv
  clear h hk hb hg1 hb3
  go_enter Tryz.func32, Tryz.ntmps32
  go_wp2
  exact bodyPost_ret (v := .agg #[.int .i64 (a : Int), .int .i64 (b : Int), .int .i64 (c : Int)]) (by simp [results, Tryz.results32, go_sem, z0, z1, z2]) rfl ⟨rfl, hg.out⟩

set_option maxRecDepth 100000 in
set_option maxHeartbeats 1000000 in
theorem MStepNil (k m D a b c t : Nat) (w0 w : World) (Ps : List Pr) (h : Grommet.Own w0 w Ps) (hk : Ps[k]? = some (mntB m D a b c t nilV)) :
    Calls Tryz.prog 25 #[ptr m] w fun e w' => e = .returned (.tuple #[.int .u8 0, .int .i64 3]) ∧ w' = w := by
  obtain ⟨_, c5⟩ := mnt_cells h k hk
  unfold nilV at c5
  unfold ptr
  clear h hk
  go_enter Tryz.func25, Tryz.ntmps25
  go_wp2
  go_ret2
  exact ⟨rfl, rfl⟩

set_option maxRecDepth 100000 in
set_option maxHeartbeats 2000000 in
theorem MStepMid (k r j m R D a b c t : Nat) (A : Nat) (Bs : List Nat) (Pn : List (Cl × Value)) (p : Nat) (cl : Cl) (S : List (Nat × Cl)) (ws : List PW) (N : Nat) (w0 w : World) (Ps : List Pr) (h : Grommet.Own w0 w Ps) (hk : Ps[k]? = some (mntB m D a b c t (ptr R))) (hr : Ps[r]? = some (runP R D (a : Int) (b : Int) (c : Int) A Bs Pn ((p, cl) :: S))) (hj : Ps[j]? = some (devP D ws)) (hjr : j ≠ r) (hkr : k ≠ r) (hkj : k ≠ j) (hN : ws.length = 8 * N) (hok : cl.ok ws.length) (hS : S ≠ []) :
    Calls Tryz.prog 25 #[ptr m] w fun e w' => e = .returned (.tuple #[.int .u8 (p : Int), .int .i64 0]) ∧ ∃ Pn', Grommet.Own w0 w' ((Ps.set r (runP R D (a : Int) (b : Int) (c : Int) A Bs Pn' S)).set j (devP D (cl.does ws))) := by
  have hrl := (List.getElem?_eq_some_iff.1 hr).1
  obtain ⟨_, c5⟩ := mnt_cells h k hk
  have HS := Lib.hid (StepH r j R D (a : Int) (b : Int) (c : Int) A Bs Pn p cl S ws N w0 w Ps h hr hj hjr hN hok)
  have HC := Lib.hid (fun wx Pn' (hO : Grommet.Own w0 wx ((Ps.set r (runP R D (a : Int) (b : Int) (c : Int) A Bs Pn' S)).set j (devP D (cl.does ws)))) => (mnt_cells hO k (by rw [List.getElem?_set_ne (fun e => hkj e.symm), List.getElem?_set_ne (fun e => hkr e.symm)]; exact hk)).2)
  have HL := Lib.hid (fun wx Pn' (hO : Grommet.Own w0 wx ((Ps.set r (runP R D (a : Int) (b : Int) (c : Int) A Bs Pn' S)).set j (devP D (cl.does ws)))) => LeftH r R D (a : Int) (b : Int) (c : Int) A Bs Pn' S w0 wx _ hO (by rw [List.getElem?_set_ne hjr, List.getElem?_set_self hrl]))
  obtain ⟨n, hn⟩ : ∃ n, S.length = n := ⟨_, rfl⟩
  have hn0 : n ≠ 0 := by rw [← hn]; intro e; exact hS (List.eq_nil_of_length_eq_zero e)
  have n0 : ((n : Int) == 0) = false := by rw [beq_eq_false_iff_ne]; omega
  rw [hn] at HL
  unfold ptr at c5 HS HC HL ⊢
  clear h hk hr hj hjr hkr hkj hN hok hS hn
  go_enter Tryz.func25, Tryz.ntmps25
  go_wp2_with fail
  refine HS.out.mono ?_
  rintro e w1 ⟨rfl, Pn1, hO1⟩
  have c5' := HC.out w1 Pn1 hO1
  have HL1 := Lib.hid (HL.out w1 Pn1 hO1)
  have hO1 := Lib.hid hO1
  clear HS HC HL c5
  go_wp2_with fail
  refine HL1.out.mono ?_
  rintro e w2 ⟨rfl, hw⟩
  obtain rfl := hw.symm
  clear HL1
  go_wp2
  go_ret2
  exact ⟨rfl, _, hO1.out⟩

set_option maxRecDepth 100000 in
set_option maxHeartbeats 2000000 in
theorem MStepEnd (k r j m R D a b c t : Nat) (A : Nat) (Bs : List Nat) (Pn : List (Cl × Value)) (p : Nat) (cl : Cl) (ws : List PW) (N : Nat) (w0 w : World) (Ps : List Pr) (h : Grommet.Own w0 w Ps) (hk : Ps[k]? = some (mntB m D a b c t (ptr R))) (hr : Ps[r]? = some (runP R D (a : Int) (b : Int) (c : Int) A Bs Pn [(p, cl)])) (hj : Ps[j]? = some (devP D ws)) (hjr : j ≠ r) (hkr : k ≠ r) (hkj : k ≠ j) (hN : ws.length = 8 * N) (hok : cl.ok ws.length) (hd : (cl.does ws).length = ws.length)
    (hf : ws.length ≤ 65536) (hx : ∀ v ∈ (cl.does ws).map (·.seen), v < 18446744073709551616) (hm : mayB (a : Int) (b : Int) (c : Int) = true) (hw : 280 + 208 * a + 16 * b + 8 * c ≤ ws.length) (hs : t < a) :
    Calls Tryz.prog 25 #[ptr m] w fun e w' => e = .returned (.tuple #[.int .u8 (p : Int), .int .i64 0]) ∧ ∃ Pn', ResIs w0 (((Ps.set r (runP R D (a : Int) (b : Int) (c : Int) A Bs Pn' [])).set j (devP D (cl.does ws))).set k (mntB m D a b c (t + 1) (ptr R))) k m D a b c (t + 1) N ((cl.does ws).map (·.seen)) (.returned (.int .i64 0)) w' := by
  have hrl := (List.getElem?_eq_some_iff.1 hr).1
  have hkl := (List.getElem?_eq_some_iff.1 hk).1
  have hjl := (List.getElem?_eq_some_iff.1 hj).1
  have hmb := mayB_yes hm
  have hgk : ∀ Pn', ((Ps.set r (runP R D (a : Int) (b : Int) (c : Int) A Bs Pn' [])).set j (devP D (cl.does ws)))[k]? = some (mntB m D a b c t (ptr R)) := fun Pn' => by
    rw [List.getElem?_set_ne (fun e => hkj e.symm), List.getElem?_set_ne (fun e => hkr e.symm)]; exact hk
  obtain ⟨_, c5⟩ := mnt_cells h k hk
  have HS := Lib.hid (StepH r j R D (a : Int) (b : Int) (c : Int) A Bs Pn p cl [] ws N w0 w Ps h hr hj hjr hN hok)
  have HC := Lib.hid (fun wx Pn' (hO : Grommet.Own w0 wx ((Ps.set r (runP R D (a : Int) (b : Int) (c : Int) A Bs Pn' [])).set j (devP D (cl.does ws)))) => mnt_cells hO k (hgk Pn'))
  have HL := Lib.hid (fun wx Pn' (hO : Grommet.Own w0 wx ((Ps.set r (runP R D (a : Int) (b : Int) (c : Int) A Bs Pn' [])).set j (devP D (cl.does ws)))) => LeftH r R D (a : Int) (b : Int) (c : Int) A Bs Pn' [] w0 wx _ hO (by rw [List.getElem?_set_ne hjr, List.getElem?_set_self hrl]))
  have HR0 : ∀ wx Pn', Grommet.Own w0 wx ((Ps.set r (runP R D (a : Int) (b : Int) (c : Int) A Bs Pn' [])).set j (devP D (cl.does ws))) → Calls Tryz.prog 68 #[ptr m] (wx.setCell ⟨m, 4, none⟩ (.int .i64 ((t + 1 : Nat) : Int))) fun e w' => e = .returned (.int .i64 0) ∧ ResIs w0 (((Ps.set r (runP R D (a : Int) (b : Int) (c : Int) A Bs Pn' [])).set j (devP D (cl.does ws))).set k (mntB m D a b c (t + 1) (ptr R))) k m D a b c (t + 1) N ((cl.does ws).map (·.seen)) (.returned (.int .i64 0)) w' := by
    intro wx Pn' hO
    have hO2 := mnt_at hO k (hgk Pn') (t + 1)
    refine (resumeH k j m D a b c (t + 1) (ptr R) (cl.does ws) N w0 _ _ hO2 (List.getElem?_set_self (by simpa using hkl)) (by rw [List.getElem?_set_ne hkj, List.getElem?_set_self (by simpa using hjl)]) (fun e => hkj e.symm) (by rw [hd]; exact hN) (by rw [hd]; exact hf) hx hm (by rw [hd]; exact hw) (by omega)).mono ?_
    rintro e w' hR
    obtain ⟨rfl, hR2⟩ := hR
    exact ⟨rfl, rfl, hR2⟩
  have HR := Lib.hid HR0
  obtain ⟨T, hT⟩ : ∃ T, t + 1 = T := ⟨_, rfl⟩
  have et : (t : Int) + 1 = (T : Int) := by omega
  have wT : IntKind.i64.wrap ((t : Int) + 1) = (T : Int) := by rw [et]; exact IntWalk.i64_in _ ⟨by omega, by omega⟩
  rw [hT] at HR ⊢
  clear HR0 h hk hr hj hjr hkr hkj hN hok hd hf hx hm hw hmb hgk hrl hkl hjl hT et
  generalize ((cl.does ws).map (·.seen)) = xs at HR ⊢
  generalize devP D (cl.does ws) = dv at HS HC HL HR ⊢
  generalize hgR : runP R D (a : Int) (b : Int) (c : Int) A Bs = gR at HS HC HL HR ⊢
  clear hgR
  unfold MC at HC
  unfold ptr at c5 HS HC HL HR ⊢
  go_enter Tryz.func25, Tryz.ntmps25
  go_wp2_with fail
  refine HS.out.mono ?_
  rintro e w1 ⟨rfl, Pn1, hO1⟩
  obtain ⟨⟨c0, c1, c2, c3, c4, f4, f5⟩, c5'⟩ := HC.out w1 Pn1 hO1
  have HL1 := Lib.hid (HL.out w1 Pn1 hO1)
  have HR1 := Lib.hid (HR.out w1 Pn1 hO1)
  clear HS HC HL HR c5 hO1
  go_wp2_with fail
  refine HL1.out.mono ?_
  rintro e w2 ⟨rfl, hw⟩
  obtain rfl := hw.symm
  clear HL1
  go_wp2_with fail
  refine HR1.out.mono ?_
  rintro e w3 ⟨rfl, hM⟩
  have hM := Lib.hid hM
  clear HR1
  go_wp2
  go_ret2
  exact ⟨rfl, _, hM.out⟩
end Go.Proofs.YtkalglcbmfhdfaaGreat
end
section
/- The chapter's example, in numbers. -/
namespace Go.Proofs.YtkalglcbmfhdfaaGreat
open Go.RowKit Go.Grommet

def doA (S : List (Nat × Cl)) (ws : List PW) : List PW := S.foldl (fun ws s => s.2.does ws) ws
theorem doA_len (S : List (Nat × Cl)) : ∀ ws, (doA S ws).length = ws.length := by
  induction S with
  | nil => intro ws; rfl
  | cons s S ih => intro ws; show (doA S (s.2.does ws)).length = _; rw [ih, Cl.does_len]
def clAt (S : List (Nat × Cl)) (i : Nat) : Nat × Cl := S.getD i (0, .fence)
theorem doA_succ (S : List (Nat × Cl)) (ws : List PW) (i : Nat) (h : i < S.length) : doA (S.take (i + 1)) ws = (clAt S i).2.does (doA (S.take i) ws) := by
  unfold doA clAt
  rw [List.take_add_one, List.foldl_append, List.getD_eq_getElem?_getD, List.getElem?_eq_getElem h]
  rfl
theorem drop_cl (S : List (Nat × Cl)) (i : Nat) (h : i < S.length) : S.drop i = clAt S i :: S.drop (i + 1) := by
  rw [List.drop_eq_getElem_cons h]
  unfold clAt
  rw [List.getD_eq_getElem?_getD, List.getElem?_eq_getElem h]
  rfl
def okB (n : Nat) : Cl → Bool
  | .store a v => decide (a < n) && decide (v < 18446744073709551616)
  | .flush l => decide (l < n / 8)
  | .fence => true
theorem ok_of {n : Nat} {c : Cl} (h : okB n c = true) : c.ok n := by
  cases c with
  | store a v =>
    unfold okB at h
    simp only [Bool.and_eq_true, decide_eq_true_eq] at h
    exact h
  | flush l =>
    have h : decide (l < n / 8) = true := h
    show l < n / 8
    exact of_decide_eq_true h
  | fence => trivial
def smallB (ws : List PW) : Bool := ws.all fun c => decide (c.seen < 18446744073709551616)
theorem small_of {ws : List PW} (h : smallB ws = true) : ∀ v ∈ ws.map (·.seen), v < 18446744073709551616 := by
  intro v hv
  obtain ⟨c, hc, rfl⟩ := List.mem_map.1 hv
  exact of_decide_eq_true (List.all_eq_true.1 h c hc)

def W0 : List Nat := fmtL 1 2 2 472 536
def WR : List (Int × Nat) := [(528, 7)]
def S0 : List (Nat × Cl) := beginS 67 264 WR
def T0 : List (Nat × Cl) := applyS 67 264 WR
def D0 (i : Nat) : List PW := doA (S0.take i) (cleanL W0)
def E0 (i : Nat) : List PW := doA (T0.take i) (D0 9)
theorem W0_len : W0.length = 536 := length_fmtL ..
theorem D0_len (i : Nat) : (D0 i).length = 536 := by unfold D0; rw [doA_len, cleanL_len, W0_len]
theorem E0_len (i : Nat) : (E0 i).length = 536 := by unfold E0; rw [doA_len, D0_len]
theorem W0_of : ofV W0 = some (((1 : Nat) : Int), ((2 : Nat) : Int), ((2 : Nat) : Int)) := by kernel_rfl
theorem W0_zero : W0.getD 264 0 = 0 := by kernel_rfl
theorem S0_len : S0.length = 15 := by kernel_rfl
theorem T0_len : T0.length = 6 := by kernel_rfl
theorem S0_all : ((List.range 9).all fun i => decide ((clAt S0 i).1 < 4) && okB 536 (clAt S0 i).2) = true := by kernel_rfl
theorem S0_nine : (clAt S0 9).1 = 4 := by kernel_rfl
theorem T0_all : ((List.range 6).all fun i => okB 536 (clAt T0 i).2 && smallB (E0 (i + 1))) = true := by kernel_rfl
theorem T0_ph : (T0.map (·.1)) = [4, 5, 5, 6, 6, 6] := by kernel_rfl
theorem D9_of : ofV ((D0 9).map (·.seen)) = some (((1 : Nat) : Int), ((2 : Nat) : Int), ((2 : Nat) : Int)) := by kernel_rfl
theorem D9_one : decide (((D0 9).map (·.seen)).getD 264 0 = 0) = false := by kernel_rfl
theorem D9_comm : commB ((1 : Nat) : Int) ((2 : Nat) : Int) ((2 : Nat) : Int) ((D0 9).map (·.seen)) 264 = true := by kernel_rfl
theorem D9_M : commM ((D0 9).map (·.seen)) 264 = WR := by kernel_rfl
theorem D9_small : smallB (D0 9) = true := by kernel_rfl
theorem E6_seen : ((E0 6)[528]?).map (·.seen) = some 7 := by kernel_rfl
theorem E6_loose : looseOf (E0 6) = 0 := by kernel_rfl
theorem WR_may : mayW 1 2 2 WR = true := by kernel_rfl
theorem D9_res : resS 67 (264 + 208 * 0) ((1 : Nat) : Int) ((2 : Nat) : Int) ((2 : Nat) : Int) ((D0 9).map (·.seen)) = T0 := by
  unfold resS
  rw [if_pos D9_comm, D9_M]
  rfl

set_option maxRecDepth 100000 in
set_option maxHeartbeats 1000000 in
theorem PhaseP (k R D : Nat) (a b c : Int) (A : Nat) (Bs : List Nat) (Pn : List (Cl × Value)) (p : Nat) (cl : Cl) (S : List (Nat × Cl)) (w0 w : World) (Ps : List Pr) (h : Grommet.Own w0 w Ps) (hk : Ps[k]? = some (runP R D a b c A Bs Pn ((p, cl) :: S))) :
    Calls Tryz.prog 46 #[ptr R] w fun e w' => e = .returned (.int .u8 (p : Int)) ∧ w' = w := by
  obtain ⟨g, o, cap, _, _, _, _, hc1, c5, c0, _⟩ := run_pop h k hk
  generalize S.length = n at c5
  have n0 : ((n : Int) + 1 == 0) = false := by rw [beq_eq_false_iff_ne]; omega
  unfold ptr
  clear h hk
  go_enter Tryz.func46, Tryz.ntmps46
  go_wp2
  go_ret
  exact ⟨rfl, rfl⟩
theorem LoadP (k d : Nat) (ws : List PW) (i : Nat) (c : PW) (hc : ws[i]? = some c) (w0 w : World) (Ps : List Pr) (h : Grommet.Own w0 w Ps) (hk : Ps[k]? = some (devP d ws)) :
    Calls Tryz.prog 48 #[ptr d, .int .i64 (i : Int)] w fun e w' => e = .returned (.tuple #[.int .u64 (c.seen : Int), .int .i64 0]) ∧ w' = w := by
  obtain ⟨g, hD, _⟩ := dev_does h hk
  exact Load_ok w d g ws hD i c hc
theorem GeoP {w0 w : World} {Ps : List Pr} {G : Nat} {a b c : Int} (h : Grommet.Own w0 w Ps) {k : Nat} (hk : Ps[k]? = some (boxP G 23 #[.int .i64 a, .int .i64 b, .int .i64 c])) : GeoQ G a b c w := h.box k hk
/-- How many of each phase are done. -/
def cntL (k : Nat) : List Nat := [[0, 0, 0, 0, 0, 0, 0, 0], [0, 0, 0, 0, 1, 0, 0, 0], [0, 0, 0, 0, 1, 1, 0, 0], [0, 0, 0, 0, 1, 2, 0, 0], [0, 0, 0, 0, 1, 2, 1, 0], [0, 0, 0, 0, 1, 2, 2, 0], [0, 0, 0, 0, 1, 2, 3, 0]].getD k []
theorem cntL_all : ((List.range 6).all fun k => decide ((clAt T0 k).1 ≤ 6) && decide ((cntL k).length = 8) && decide ((cntL k).getD (clAt T0 k).1 0 ≤ 10) && decide (cntL (k + 1) = (cntL k).set (clAt T0 k).1 ((cntL k).getD (clAt T0 k).1 0 + 1))) = true := by kernel_rfl
end Go.Proofs.YtkalglcbmfhdfaaGreat
end
section
/- The chapter's example. -/
namespace Go.Proofs.YtkalglcbmfhdfaaGreat
open Go.RowKit Go.Grommet

theorem eq_many (wx : World) : Sem.run Tryz.prog (Op.equalIn 10000 92 (.agg #[.int .i64 0, .int .i64 0, .int .i64 0, .int .i64 0, .int .i64 1, .int .i64 2, .int .i64 3, .int .i64 0]) (.agg #[.int .i64 0, .int .i64 0, .int .i64 0, .int .i64 0, .int .i64 1, .int .i64 2, .int .i64 3, .int .i64 0])) wx = .ok true wx := by kernel_rfl
/-- What stands in the second part. -/
def wrkL (G d m1 R1 m2 R2 X : Nat) (B1 B2 : List Nat) (P1 P2 : List (Cl × Value)) (k kk : Nat) : List Pr :=
  [boxP G 23 #[.int .i64 1, .int .i64 2, .int .i64 2], devP d (E0 k), mntB m1 d 1 2 2 1 nilV, runP R1 d ((1 : Nat) : Int) ((2 : Nat) : Int) ((2 : Nat) : Int) 264 B1 P1 (S0.drop 9),
    mntB m2 d 1 2 2 (if k = 6 then 1 else 0) (if k = 6 then nilV else ptr R2), runP R2 d ((1 : Nat) : Int) ((2 : Nat) : Int) ((2 : Nat) : Int) 264 B2 P2 (T0.drop k), boxP X 92 ((cntL kk).map nv).toArray]
theorem wrk_step (G d m1 R1 m2 R2 X : Nat) (B1 B2 : List Nat) (P1 P2 : List (Cl × Value)) (k : Nat) (w wx : World) (hk : k < 6) (hO : Grommet.Own w wx (wrkL G d m1 R1 m2 R2 X B1 B2 P1 P2 k k)) :
    Calls Tryz.prog 25 #[ptr m2] wx fun e w' => e = .returned (.tuple #[.int .u8 ((clAt T0 k).1 : Int), .int .i64 0]) ∧ ∃ P3, Grommet.Own w w' (wrkL G d m1 R1 m2 R2 X B1 B2 P1 P3 (k + 1) k) := by
  have hil : k < T0.length := by rw [T0_len]; exact hk
  have hall := List.all_eq_true.1 T0_all k (List.mem_range.2 hk)
  simp only [Bool.and_eq_true] at hall
  have hE : E0 (k + 1) = (clAt T0 k).2.does (E0 k) := doA_succ T0 _ k hil
  have hOk : Grommet.Own w wx [boxP G 23 #[.int .i64 1, .int .i64 2, .int .i64 2], devP d (E0 k), mntB m1 d 1 2 2 1 nilV, runP R1 d ((1 : Nat) : Int) ((2 : Nat) : Int) ((2 : Nat) : Int) 264 B1 P1 (S0.drop 9), mntB m2 d 1 2 2 0 (ptr R2), runP R2 d ((1 : Nat) : Int) ((2 : Nat) : Int) ((2 : Nat) : Int) 264 B2 P2 (((clAt T0 k).1, (clAt T0 k).2) :: T0.drop (k + 1)), boxP X 92 ((cntL k).map nv).toArray] := by
    unfold wrkL at hO
    rw [if_neg (by omega), if_neg (by omega), drop_cl T0 k hil] at hO
    exact hO
  clear hO
  by_cases h5 : k = 5
  · subst h5
    refine (MStepEnd 4 5 1 m2 R2 d 1 2 2 0 264 B2 P2 (clAt T0 5).1 (clAt T0 5).2 (E0 5) 67 w wx _ hOk rfl rfl rfl (by decide) (by decide) (by decide) (by rw [E0_len]) (by rw [E0_len]; exact ok_of hall.1) (Cl.does_len _ _) (by rw [E0_len]; omega) (by rw [← hE]; exact small_of hall.2) rfl (by rw [E0_len]; omega) (by omega)).mono ?_
    rintro e w' ⟨rfl, P3, _, ⟨hO', _⟩ | ⟨t, _, _, _, ht, ht2, _⟩⟩
    · refine ⟨rfl, P3, ?_⟩
      rw [← hE] at hO'
      exact hO'
    · omega
  · refine (MStepMid 4 5 1 m2 R2 d 1 2 2 0 264 B2 P2 (clAt T0 k).1 (clAt T0 k).2 (T0.drop (k + 1)) (E0 k) 67 w wx _ hOk rfl rfl rfl (by decide) (by decide) (by decide) (by rw [E0_len]) (by rw [E0_len]; exact ok_of hall.1) (fun e => by
      have := congrArg List.length e
      rw [List.length_drop, T0_len] at this
      simp at this
      omega)).mono ?_
    rintro e w' ⟨rfl, P3, hO'⟩
    refine ⟨rfl, P3, ?_⟩
    rw [← hE] at hO'
    unfold wrkL
    rw [if_neg (by omega), if_neg (by omega)]
    exact hO'

set_option maxRecDepth 100000 in
set_option maxHeartbeats 8000000 in
theorem works24 (w : World) : Calls Tryz.prog 6 #[] w fun e w' => e = .returned (.bool true) ∧ w.grownBy w' none := by
  have HWd := Lib.hid (fun wx => Words_any 1 2 2 wx)
  rw [show wordsV 1 2 2 = 536 from rfl] at HWd
  have HBk := Lib.hid (fun wx => BlockAt_any 1 2 2 1 wx)
  rw [show blockV 1 2 2 1 = 528 from rfl] at HBk
  have HN := Lib.hid (fun wx Ps hO => NewH 536 w wx Ps hO (by omega) (by omega) (by omega))
  have HF := Lib.hid (fun wx j d Ps hO hj => MFormat j d 1 2 2 536 67 W0 (List.replicate 536 PW.nought) w wx Ps hO hj (by simp) rfl rfl rfl (by simp))
  rw [show fmtE (List.replicate 536 PW.nought) W0 = cleanL W0 from fmtE_clean _ _ (by rw [W0_len]; simp)] at HF
  have hseen0 : (cleanL W0).map (·.seen) = W0 := cleanL_seen W0
  have hW0s : ∀ v ∈ W0, v < 18446744073709551616 := fmtW_small 1 2 2 536 rfl
  have HM10 : ∀ (wx : World) (j d : Nat) (Ps : List Pr), Grommet.Own w wx Ps → Ps[j]? = some (devP d (cleanL W0)) → Calls Tryz.prog 23 #[ptr d] wx fun e w' => ∃ m, e = .returned (.tuple #[ptr m, .int .i64 0]) ∧ Grommet.Own w w' (Ps ++ [mntB m d 1 2 2 1 nilV]) := by
    intro wx j d Ps hO hj
    refine (MNewYes j d 1 2 2 (cleanL W0) 67 w wx Ps hO hj (by rw [cleanL_len, W0_len]) (by rw [cleanL_len, W0_len]; omega) (by rw [hseen0]; exact hW0s) (by rw [hseen0]; exact W0_of) rfl (by rw [cleanL_len, W0_len]; omega)).mono ?_
    rintro e w' ⟨m, rfl, ⟨hO', _⟩ | ⟨t, R, B2, P2, ht, _, h0, _⟩⟩
    · exact ⟨m, rfl, hO'⟩
    · exfalso
      obtain rfl : t = 0 := by omega
      rw [hseen0] at h0
      exact h0 W0_zero
  have HR := Lib.hid (fun wx j d Ps hO hj => RNewH j d 1 2 2 0 264 (cleanL W0) w wx Ps hO hj rfl (by rw [cleanL_len, W0_len]; decide))
  have HL1 := Lib.hid (fun wx k m d Ps hO hk => MLeftNil k m d 1 2 2 1 w wx Ps hO hk)
  have HK1 := Lib.hid (fun wx k m d t rv Ps hO hk => MWorker k m d 1 2 2 t rv w wx Ps hO hk)
  have HBg0 : ∀ (wx : World) (k m R d X : Nat) (Ps : List Pr), Grommet.Own w wx Ps → Ps[k]? = some (runP R d ((1 : Nat) : Int) ((2 : Nat) : Int) ((2 : Nat) : Int) 264 [] [] []) → Ps[m]? = some (rowP 89 2 (.slice (some ⟨X, 0, none⟩) 1 1) 1 (icells WR)) → m ≠ k → Calls Tryz.prog 44 #[ptr R, .slice (some ⟨X, 0, none⟩) 1 1] wx fun e w' => e = .returned (.int .i64 0) ∧ ∃ Bs' Pn', Grommet.Own w w' (Ps.set k (runP R d ((1 : Nat) : Int) ((2 : Nat) : Int) ((2 : Nat) : Int) 264 Bs' Pn' S0)) := by
    intro wx k m R d X Ps hO hk hm hmk
    exact BeginH k m R d _ _ _ 264 [] [] (some ⟨X, 0, none⟩) 1 1 WR 67 w wx Ps hO hk hm hmk rfl WR_may (by decide) (by decide) (by decide) (by decide) (by decide)
  have HPh0 : ∀ (wx : World) (k R d : Nat) (Bs : List Nat) (Pn : List (Cl × Value)) (i : Nat) (Ps : List Pr), i < 15 → Grommet.Own w wx Ps → Ps[k]? = some (runP R d ((1 : Nat) : Int) ((2 : Nat) : Int) ((2 : Nat) : Int) 264 Bs Pn (S0.drop i)) → Calls Tryz.prog 46 #[ptr R] wx fun e w' => e = .returned (.int .u8 ((clAt S0 i).1 : Int)) ∧ w' = wx := by
    intro wx k R d Bs Pn i Ps hi hO hk
    rw [drop_cl S0 i (by rw [S0_len]; exact hi)] at hk
    exact PhaseP k R d _ _ _ 264 Bs Pn (clAt S0 i).1 (clAt S0 i).2 _ w wx Ps hO hk
  have HPh := Lib.hid HPh0
  clear HPh0
  have HSt0 : ∀ (wx : World) (k j R d : Nat) (Bs : List Nat) (Pn : List (Cl × Value)) (i : Nat) (Ps : List Pr), i < 9 → Grommet.Own w wx Ps → Ps[k]? = some (runP R d ((1 : Nat) : Int) ((2 : Nat) : Int) ((2 : Nat) : Int) 264 Bs Pn (S0.drop i)) → Ps[j]? = some (devP d (D0 i)) → j ≠ k → Calls Tryz.prog 47 #[ptr R] wx fun e w' => (∃ p : Nat, e = .returned (.tuple #[.int .u8 (p : Int), .int .i64 0])) ∧ ∃ Pn', Grommet.Own w w' ((Ps.set k (runP R d ((1 : Nat) : Int) ((2 : Nat) : Int) ((2 : Nat) : Int) 264 Bs Pn' (S0.drop (i + 1)))).set j (devP d (D0 (i + 1)))) := by
    intro wx k j R d Bs Pn i Ps hi hO hk hj hjk
    have hil : i < S0.length := by rw [S0_len]; omega
    have hall := List.all_eq_true.1 S0_all i (List.mem_range.2 hi)
    simp only [Bool.and_eq_true] at hall
    rw [drop_cl S0 i hil] at hk
    refine (StepH k j R d _ _ _ 264 Bs Pn (clAt S0 i).1 (clAt S0 i).2 (S0.drop (i + 1)) (D0 i) 67 w wx Ps hO hk hj hjk (by rw [D0_len]) (by rw [D0_len]; exact ok_of hall.2)).mono ?_
    rintro e w' ⟨rfl, Pn', hO'⟩
    refine ⟨⟨_, rfl⟩, Pn', ?_⟩
    rw [show D0 (i + 1) = (clAt S0 i).2.does (D0 i) from doA_succ S0 _ i hil]
    exact hO'
  have HM20 : ∀ (wx : World) (j d : Nat) (Ps : List Pr), Grommet.Own w wx Ps → Ps[j]? = some (devP d (D0 9)) → Calls Tryz.prog 23 #[ptr d] wx fun e w' => ∃ m R B2 P2, e = .returned (.tuple #[ptr m, .int .i64 0]) ∧ Grommet.Own w w' ((Ps ++ [mntB m d 1 2 2 0 (ptr R)]) ++ [runP R d ((1 : Nat) : Int) ((2 : Nat) : Int) ((2 : Nat) : Int) 264 B2 P2 T0]) := by
    intro wx j d Ps hO hj
    refine (MNewYes j d 1 2 2 (D0 9) 67 w wx Ps hO hj (by rw [D0_len]) (by rw [D0_len]; omega) (small_of D9_small) D9_of rfl (by rw [D0_len]; omega)).mono ?_
    rintro e w' ⟨m, rfl, ⟨_, hz⟩ | ⟨t, R, B2, P2, ht, _, _, hO'⟩⟩
    · exfalso
      exact of_decide_eq_false D9_one (hz 0 (by omega))
    · obtain rfl : t = 0 := by omega
      rw [D9_res] at hO'
      exact ⟨m, R, B2, P2, rfl, hO'⟩
  have HM1 := Lib.hid HM10
  have HBg := Lib.hid HBg0
  have HSt := Lib.hid HSt0
  have HM2 := Lib.hid HM20
  clear HM10 HBg0 HSt0 HM20 hseen0 hW0s
  obtain ⟨u1, hu1⟩ : ∃ u, w.alloc (.cells #[.int .i64 1, .int .i64 2, .int .i64 2] 23) = u := ⟨_, rfl⟩
  obtain ⟨G, hG⟩ : ∃ G, w.heap.size = G := ⟨_, rfl⟩
  have hO1 : Grommet.Own w u1 [boxP G 23 #[.int .i64 1, .int .i64 2, .int .i64 2]] := by rw [← hu1, ← hG]; exact (Own.nil w).addBox _ _
  obtain ⟨c0, c1, c2⟩ := GeoQ.cells (GeoP hO1 (k := 0) rfl)
  have hO1 := Lib.hid hO1
  unfold gv at HWd HBk HF HR
  unfold ptr at HN HF HM1 HR HL1 HK1 HBg HPh HSt HM2
  unfold nilV at HM1
  go_enter Tryz.func6, Tryz.ntmps6
  go_wp2_with fail
  refine (HWd.out _).mono ?_
  rintro e u2 ⟨rfl, hg2⟩
  have HN2 := Lib.hid (HN.out u2 _ (hO1.out.quiet hg2))
  clear HWd HN hg2 hO1 c0 c1 c2 hu1 hG
  go_wp2_with fail
  refine HN2.out.mono ?_
  rintro e u3 ⟨d, rfl, hO3⟩
  have hO3 : Grommet.Own w u3 [boxP G 23 #[.int .i64 1, .int .i64 2, .int .i64 2], devP d (List.replicate 536 PW.nought)] := hO3
  obtain ⟨c0, c1, c2⟩ := GeoQ.cells (GeoP hO3 (k := 0) rfl)
  have HF3 := Lib.hid (HF.out u3 1 d _ hO3 rfl)
  clear HN2 HF hO3
  go_wp2_with fail
  refine HF3.out.mono ?_
  rintro e u4 ⟨rfl, hO4⟩
  have hO4 : Grommet.Own w u4 [boxP G 23 #[.int .i64 1, .int .i64 2, .int .i64 2], devP d (cleanL W0)] := hO4
  have HM4 := Lib.hid (HM1.out u4 1 d _ hO4 rfl)
  clear HF3 HM1 hO4 c0 c1 c2
  go_wp2_with fail
  refine HM4.out.mono ?_
  rintro e u5 ⟨m1, rfl, hO5⟩
  have hO5 : Grommet.Own w u5 [boxP G 23 #[.int .i64 1, .int .i64 2, .int .i64 2], devP d (cleanL W0), mntB m1 d 1 2 2 1 nilV] := hO5
  obtain ⟨c0, c1, c2⟩ := GeoQ.cells (GeoP hO5 (k := 0) rfl)
  have HR5 := Lib.hid (HR.out u5 1 d _ hO5 rfl)
  clear HM4 HR hO5
  go_wp2_with fail
  refine HR5.out.mono ?_
  rintro e u6 ⟨R1, rfl, hO6⟩
  have hO6 : Grommet.Own w u6 [boxP G 23 #[.int .i64 1, .int .i64 2, .int .i64 2], devP d (cleanL W0), mntB m1 d 1 2 2 1 nilV, runP R1 d ((1 : Nat) : Int) ((2 : Nat) : Int) ((2 : Nat) : Int) 264 [] [] []] := hO6
  have HL6 := Lib.hid (HL1.out u6 2 m1 d _ hO6 rfl)
  have HK6 := Lib.hid (HK1.out u6 2 m1 d 1 nilV _ hO6 rfl)
  clear HR5 c0 c1 c2
  go_wp2_with fail
  refine HL6.out.mono ?_
  rintro e u7 ⟨rfl, hw⟩
  obtain rfl := hw.symm
  clear HL6
  go_wp2_with fail
  refine HK6.out.mono ?_
  rintro e u8 ⟨rfl, hw⟩
  obtain rfl := hw.symm
  clear HK6
  obtain ⟨c0, c1, c2⟩ := GeoQ.cells (GeoP hO6 (k := 0) rfl)
  have hO6 := Lib.hid hO6
  go_wp2_with fail
  refine (HBk.out _).mono ?_
  rintro e u7 ⟨rfl, hg7⟩
  have hO7 := Lib.hid (hO6.out.quiet hg7)
  clear hg7 hO6 c0 c1 c2
  go_wp2_with fail
  obtain ⟨X, hX⟩ : ∃ X, u7.heap.size = X := ⟨_, rfl⟩
  have hO8 := hO7.out.addRow (e := 89) (size := 2) (n := 1) (v := .slice (some ⟨u7.heap.size, 0, none⟩) 1 1) (xs := icells WR) ⟨rfl, .inr ⟨u7.heap.size, 1, #[.int .i64 528, .int .u64 7], rfl, Nat.le_refl _, heap_alloc_new u7 _, Nat.le_refl _, by decide, rfl, rfl⟩⟩ (World.grownBy_alloc u7 _ none)
  have hO8 : Grommet.Own w _ [boxP G 23 #[.int .i64 1, .int .i64 2, .int .i64 2], devP d (cleanL W0), mntB m1 d 1 2 2 1 nilV, runP R1 d ((1 : Nat) : Int) ((2 : Nat) : Int) ((2 : Nat) : Int) 264 [] [] [], rowP 89 2 (.slice (some ⟨u7.heap.size, 0, none⟩) 1 1) 1 (icells WR)] := hO8
  have HB8 := Lib.hid (HBg.out _ 3 4 R1 d u7.heap.size _ hO8 rfl rfl (by decide))
  clear HBg hO8 hO7 hX
  refine HB8.out.mono ?_
  rintro e u8 ⟨rfl, B1, P1, hO8⟩
  have hO8 : Grommet.Own w u8 ([boxP G 23 #[.int .i64 1, .int .i64 2, .int .i64 2], devP d (D0 0), mntB m1 d 1 2 2 1 nilV, runP R1 d ((1 : Nat) : Int) ((2 : Nat) : Int) ((2 : Nat) : Int) 264 B1 P1 (S0.drop 0)] ++ [rowP 89 2 (.slice (some ⟨u7.heap.size, 0, none⟩) 1 1) 1 (icells WR)]) := hO8
  have hO8 := Lib.hid hO8.less
  clear HB8
  go_wp2_with fail
  go_loopw [8] (fun at_ wr => ∃ (i : Nat) (Pn : List (Cl × Value)), i ≤ 9 ∧ at_ = .int .i64 (i : Int) ∧ Hid (Grommet.Own w wr [boxP G 23 #[.int .i64 1, .int .i64 2, .int .i64 2], devP d (D0 i), mntB m1 d 1 2 2 1 nilV, runP R1 d ((1 : Nat) : Int) ((2 : Nat) : Int) ((2 : Nat) : Int) 264 B1 Pn (S0.drop i)])) (fun at_ _ => 9 - (intOf at_).toNat)
  case atStart => exact ⟨0, P1, by omega, rfl, hO8⟩
  case round =>
    clear hO8
    obtain ⟨i, Pn, hi, rfl, hO⟩ := hrel
    have i0 : (0 : Int) ≤ (i : Int) := by omega
    have i20 : (i : Int) < 20 := by omega
    have HP := Lib.hid (HPh.out wr 3 R1 d B1 Pn i _ (by omega) hO.out rfl)
    by_cases hlt : i < 9
    · as_aux_lemma =>
      have hall := List.all_eq_true.1 S0_all i (List.mem_range.2 hlt)
      simp only [Bool.and_eq_true, decide_eq_true_eq] at hall
      obtain ⟨p, hp⟩ : ∃ p, (clAt S0 i).1 = p := ⟨_, rfl⟩
      rw [hp] at HP hall
      have p4 : (p : Int) < 4 := by omega
      have HS := Lib.hid (HSt.out wr 3 1 R1 d B1 Pn i _ hlt hO.out rfl rfl (by decide))
      have wi : IntKind.i64.wrap ((i : Int) + 1) = (i : Int) + 1 := IntWalk.i64_in _ ⟨by omega, by omega⟩
      clear hall hp HPh HSt HM2 hO HK1 HL1 HBk
      go_wp2_with fail
      refine HP.out.mono ?_
      rintro e v1 ⟨rfl, hw⟩
      obtain rfl := hw.symm
      clear HP
      go_wp2_with fail
      refine HS.out.mono ?_
      rintro e v2 ⟨⟨p2, rfl⟩, P2, hO2⟩
      have hO2 : Grommet.Own w v2 [boxP G 23 #[.int .i64 1, .int .i64 2, .int .i64 2], devP d (D0 (i + 1)), mntB m1 d 1 2 2 1 nilV, runP R1 d ((1 : Nat) : Int) ((2 : Nat) : Int) ((2 : Nat) : Int) 264 B1 P2 (S0.drop (i + 1))] := hO2
      have hO2 := Lib.hid hO2
      clear HS
      go_wp2
      go_roundw
      case rel => exact ⟨i + 1, P2, by omega, by go_num, hO2⟩
      case measure => simp [intOf]; omega
    · as_aux_lemma =>
      obtain rfl : i = 9 := by omega
      rw [S0_nine] at HP
      clear HPh HSt
      have HM3 := Lib.hid (HM2.out wr 1 d _ hO.out rfl)
      clear HM2 hO
      go_wp2_with fail
      refine HP.out.mono ?_
      rintro e v1 ⟨rfl, hw⟩
      obtain rfl := hw.symm
      clear HP
      go_wp2_with fail
      refine HM3.out.mono ?_
      rintro e v2 ⟨m2, R2, B2, P2, rfl, hO2⟩
      have hO2 : Grommet.Own w v2 [boxP G 23 #[.int .i64 1, .int .i64 2, .int .i64 2], devP d (D0 9), mntB m1 d 1 2 2 1 nilV, runP R1 d ((1 : Nat) : Int) ((2 : Nat) : Int) ((2 : Nat) : Int) 264 B1 Pn (S0.drop 9), mntB m2 d 1 2 2 0 (ptr R2), runP R2 d ((1 : Nat) : Int) ((2 : Nat) : Int) ((2 : Nat) : Int) 264 B2 P2 T0] := hO2
      have HL4 := Lib.hid (fun wx (hO : Grommet.Own w wx [boxP G 23 #[.int .i64 1, .int .i64 2, .int .i64 2], devP d (D0 9), mntB m1 d 1 2 2 1 nilV, runP R1 d ((1 : Nat) : Int) ((2 : Nat) : Int) ((2 : Nat) : Int) 264 B1 Pn (S0.drop 9), mntB m2 d 1 2 2 0 (ptr R2), runP R2 d ((1 : Nat) : Int) ((2 : Nat) : Int) ((2 : Nat) : Int) 264 B2 P2 T0]) => MLeft 4 5 m2 R2 d 1 2 2 0 264 B2 P2 T0 w wx _ hO rfl rfl)
      rw [T0_len] at HL4
      have HW4 := Lib.hid (fun wx (hO : Grommet.Own w wx [boxP G 23 #[.int .i64 1, .int .i64 2, .int .i64 2], devP d (D0 9), mntB m1 d 1 2 2 1 nilV, runP R1 d ((1 : Nat) : Int) ((2 : Nat) : Int) ((2 : Nat) : Int) 264 B1 Pn (S0.drop 9), mntB m2 d 1 2 2 0 (ptr R2), runP R2 d ((1 : Nat) : Int) ((2 : Nat) : Int) ((2 : Nat) : Int) 264 B2 P2 T0]) => MWorker 4 m2 d 1 2 2 0 (ptr R2) w wx _ hO rfl)
      have HG4 := Lib.hid (fun wx (hO : Grommet.Own w wx [boxP G 23 #[.int .i64 1, .int .i64 2, .int .i64 2], devP d (D0 9), mntB m1 d 1 2 2 1 nilV, runP R1 d ((1 : Nat) : Int) ((2 : Nat) : Int) ((2 : Nat) : Int) 264 B1 Pn (S0.drop 9), mntB m2 d 1 2 2 0 (ptr R2), runP R2 d ((1 : Nat) : Int) ((2 : Nat) : Int) ((2 : Nat) : Int) 264 B2 P2 T0]) => MGeo 4 m2 d 1 2 2 0 (ptr R2) w wx _ hO rfl)
      have HQ4 := Lib.hid (fun wx (hO : Grommet.Own w wx [boxP G 23 #[.int .i64 1, .int .i64 2, .int .i64 2], devP d (D0 9), mntB m1 d 1 2 2 1 nilV, runP R1 d ((1 : Nat) : Int) ((2 : Nat) : Int) ((2 : Nat) : Int) 264 B1 Pn (S0.drop 9), mntB m2 d 1 2 2 0 (ptr R2), runP R2 d ((1 : Nat) : Int) ((2 : Nat) : Int) ((2 : Nat) : Int) 264 B2 P2 T0]) => GeoP hO (k := 0) rfl)
      have hOr := Lib.hid (hO2.quiet (grown_drew (World.grownBy.refl v2 none)))
      have hz0 := Lib.hid (HQ4.out _ hOr.out)
      unfold gv at HG4
      unfold ptr at HL4 HW4 HG4
      clear HM3 hO2
      go_wp2_with fail
      refine wp_region_held_drew (S := fun w' => GeoQ G 1 2 2 w') (by kernel_rfl) (hz0.out) (fun hS => ?_)
      refine wpAnyH_take (i := 0) (oi := { dst := some 96, op := Op.move (Operand.tmp 9), type := 50, pos := "law.go:35", after := #[], guard := none }) (v := ?vwk6r14o0) rfl (by kernel_rfl) (by kernel_rfl) (by kernel_rfl) (fun _ _ _ h => h) (Or.inl ⟨by rfl, ?hwk6r14o0⟩) hS ?_
      case hwk6r14o0 => (intro wx hx; skip; go_simp; (try with_reducible rfl))
      try simp only [Act.put, List.setIfInBounds_toArray, List.set_cons_zero, List.set_cons_succ]
      refine wpAnyH_take (i := 1) (oi := { dst := some 97, op := Op.binOp BinOp.eql 50 (Operand.tmp 96) (Operand.const (Value.pointer none)) 50, type := 4, pos := "law.go:35", after := #[{ on := 0, ground := Ground.data }], guard := none }) (v := ?vwk6r14o1) rfl (by kernel_rfl) (by kernel_rfl) (by kernel_rfl) (fun _ _ _ h => h) (Or.inl ⟨by rfl, ?hwk6r14o1⟩) hS ?_
      case hwk6r14o1 => (intro wx hx; skip; go_simp; (try with_reducible rfl))
      try simp only [Act.put, List.setIfInBounds_toArray, List.set_cons_zero, List.set_cons_succ]
      refine wpAnyH_take (i := 2) (oi := { dst := some 98, op := Op.move (Operand.tmp 97), type := 4, pos := "law.go:35", after := #[{ on := 1, ground := Ground.data }], guard := none }) (v := ?vwk6r14o2) rfl (by kernel_rfl) (by kernel_rfl) (by kernel_rfl) (fun _ _ _ h => h) (Or.inl ⟨by rfl, ?hwk6r14o2⟩) hS ?_
      case hwk6r14o2 => (intro wx hx; skip; go_simp; (try with_reducible rfl))
      try simp only [Act.put, List.setIfInBounds_toArray, List.set_cons_zero, List.set_cons_succ]
      refine wpAnyH_take (i := 3) (oi := { dst := some 99, op := Op.move (Operand.tmp 10), type := 33, pos := "law.go:35", after := #[{ on := 2, ground := Ground.guard }], guard := some (2, false) }) (v := ?vwk6r14o3) rfl (by kernel_rfl) (by kernel_rfl) (by kernel_rfl) (fun _ _ _ h => h) (Or.inl ⟨by rfl, ?hwk6r14o3⟩) hS ?_
      case hwk6r14o3 => (intro wx hx; skip; go_simp; (try with_reducible rfl))
      try simp only [Act.put, List.setIfInBounds_toArray, List.set_cons_zero, List.set_cons_succ]
      refine wpAnyH_take (i := 4) (oi := { dst := some 100, op := Op.binOp BinOp.neq 33 (Operand.tmp 99) (Operand.const (Value.int IntKind.i64 0)) 33, type := 4, pos := "law.go:35", after := #[{ on := 3, ground := Ground.data }, { on := 2, ground := Ground.guard }], guard := some (2, false) }) (v := ?vwk6r14o4) rfl (by kernel_rfl) (by kernel_rfl) (by kernel_rfl) (fun _ _ _ h => h) (Or.inl ⟨by rfl, ?hwk6r14o4⟩) hS ?_
      case hwk6r14o4 => (intro wx hx; skip; go_simp; (try with_reducible rfl))
      try simp only [Act.put, List.setIfInBounds_toArray, List.set_cons_zero, List.set_cons_succ]
      refine wpAnyH_take (i := 5) (oi := { dst := some 101, op := Op.pick (Operand.tmp 98) (Operand.const (Value.bool true)) (Operand.tmp 100), type := 4, pos := "law.go:35", after := #[{ on := 2, ground := Ground.data }, { on := 4, ground := Ground.data }], guard := none }) (v := ?vwk6r14o5) rfl (by kernel_rfl) (by kernel_rfl) (by kernel_rfl) (fun _ _ _ h => h) (Or.inl ⟨by rfl, ?hwk6r14o5⟩) hS ?_
      case hwk6r14o5 => (intro wx hx; skip; go_simp; (try with_reducible rfl))
      try simp only [Act.put, List.setIfInBounds_toArray, List.set_cons_zero, List.set_cons_succ]
      refine wpAnyH_take (i := 6) (oi := { dst := some 102, op := Op.move (Operand.tmp 101), type := 4, pos := "law.go:35", after := #[{ on := 5, ground := Ground.data }, { on := 2, ground := Ground.chain }], guard := none }) (v := ?vwk6r14o6) rfl (by kernel_rfl) (by kernel_rfl) (by kernel_rfl) (fun _ _ _ h => h) (Or.inl ⟨by rfl, ?hwk6r14o6⟩) hS ?_
      case hwk6r14o6 => (intro wx hx; skip; go_simp; (try with_reducible rfl))
      try simp only [Act.put, List.setIfInBounds_toArray, List.set_cons_zero, List.set_cons_succ]
      refine wpAnyH_take (i := 7) (oi := { dst := some 103, op := Op.move (Operand.tmp 9), type := 50, pos := "law.go:35", after := #[{ on := 6, ground := Ground.guard }], guard := some (6, false) }) (v := ?vwk6r14o7) rfl (by kernel_rfl) (by kernel_rfl) (by kernel_rfl) (fun _ _ _ h => h) (Or.inl ⟨by rfl, ?hwk6r14o7⟩) hS ?_
      case hwk6r14o7 => (intro wx hx; skip; go_simp; (try with_reducible rfl))
      try simp only [Act.put, List.setIfInBounds_toArray, List.set_cons_zero, List.set_cons_succ]
      refine wpAnyH_ready (rs := [8]) (by kernel_rfl) (by simp) ?_
      refine AllReadyH.cons (o := { dst := some 104, op := Op.call { callee := Callee.value (Operand.func 29), args := #[Operand.tmp 103], argTypes := #[50] }, type := 3, pos := "law.go:35", after := #[{ on := 7, ground := Ground.data }, { on := 6, ground := Ground.chain }, { on := 6, ground := Ground.guard }], guard := some (6, false) }) rfl (fun K hK => ?_) AllReadyH.nil
      go_simp
      refine (HL4.out _ hOr.out).mono ?_
      rintro e v3 ⟨rfl, hw⟩
      obtain rfl := hw.symm
      refine hK.out _ _ ?hswk6r14o8 (fun hS => ?_)
      case hswk6r14o8 => (exact HQ4.out _ hOr.out)
      clear hK K
      try simp only [Act.put, List.setIfInBounds_toArray, List.set_cons_zero, List.set_cons_succ]
      refine wpAnyH_take (i := 9) (oi := { dst := some 105, op := Op.binOp BinOp.neq 3 (Operand.tmp 104) (Operand.const (Value.int IntKind.i64 6)) 3, type := 4, pos := "law.go:35", after := #[{ on := 8, ground := Ground.data }, { on := 6, ground := Ground.guard }], guard := some (6, false) }) (v := ?vwk6r14o9) rfl (by kernel_rfl) (by kernel_rfl) (by kernel_rfl) (fun _ _ _ h => h) (Or.inl ⟨by rfl, ?hwk6r14o9⟩) hS ?_
      case hwk6r14o9 => (intro wx hx; skip; go_simp; (try with_reducible rfl))
      try simp only [Act.put, List.setIfInBounds_toArray, List.set_cons_zero, List.set_cons_succ]
      refine wpAnyH_take (i := 10) (oi := { dst := some 106, op := Op.pick (Operand.tmp 102) (Operand.const (Value.bool true)) (Operand.tmp 105), type := 4, pos := "law.go:35", after := #[{ on := 6, ground := Ground.data }, { on := 9, ground := Ground.data }], guard := none }) (v := ?vwk6r14o10) rfl (by kernel_rfl) (by kernel_rfl) (by kernel_rfl) (fun _ _ _ h => h) (Or.inl ⟨by rfl, ?hwk6r14o10⟩) hS ?_
      case hwk6r14o10 => (intro wx hx; skip; go_simp; (try with_reducible rfl))
      try simp only [Act.put, List.setIfInBounds_toArray, List.set_cons_zero, List.set_cons_succ]
      refine wpAnyH_take (i := 11) (oi := { dst := some 107, op := Op.move (Operand.tmp 106), type := 4, pos := "law.go:35", after := #[{ on := 10, ground := Ground.data }, { on := 8, ground := Ground.chain }], guard := none }) (v := ?vwk6r14o11) rfl (by kernel_rfl) (by kernel_rfl) (by kernel_rfl) (fun _ _ _ h => h) (Or.inl ⟨by rfl, ?hwk6r14o11⟩) hS ?_
      case hwk6r14o11 => (intro wx hx; skip; go_simp; (try with_reducible rfl))
      try simp only [Act.put, List.setIfInBounds_toArray, List.set_cons_zero, List.set_cons_succ]
      refine wpAnyH_take (i := 12) (oi := { dst := some 108, op := Op.move (Operand.tmp 9), type := 50, pos := "law.go:35", after := #[{ on := 11, ground := Ground.guard }], guard := some (11, false) }) (v := ?vwk6r14o12) rfl (by kernel_rfl) (by kernel_rfl) (by kernel_rfl) (fun _ _ _ h => h) (Or.inl ⟨by rfl, ?hwk6r14o12⟩) hS ?_
      case hwk6r14o12 => (intro wx hx; skip; go_simp; (try with_reducible rfl))
      try simp only [Act.put, List.setIfInBounds_toArray, List.set_cons_zero, List.set_cons_succ]
      refine wpAnyH_ready (rs := [13]) (by kernel_rfl) (by simp) ?_
      refine AllReadyH.cons (o := { dst := some 109, op := Op.call { callee := Callee.value (Operand.func 31), args := #[Operand.tmp 108], argTypes := #[50] }, type := 3, pos := "law.go:35", after := #[{ on := 12, ground := Ground.data }, { on := 11, ground := Ground.chain }, { on := 11, ground := Ground.guard }], guard := some (11, false) }) rfl (fun K hK => ?_) AllReadyH.nil
      go_simp
      refine (HW4.out _ hOr.out).mono ?_
      rintro e v4 ⟨rfl, hw⟩
      obtain rfl := hw.symm
      refine hK.out _ _ ?hswk6r14o13 (fun hS => ?_)
      case hswk6r14o13 => (exact HQ4.out _ hOr.out)
      clear hK K
      try simp only [Act.put, List.setIfInBounds_toArray, List.set_cons_zero, List.set_cons_succ]
      refine wpAnyH_take (i := 14) (oi := { dst := some 110, op := Op.binOp BinOp.neq 3 (Operand.tmp 109) (Operand.const (Value.int IntKind.i64 0)) 3, type := 4, pos := "law.go:35", after := #[{ on := 13, ground := Ground.data }, { on := 11, ground := Ground.guard }], guard := some (11, false) }) (v := ?vwk6r14o14) rfl (by kernel_rfl) (by kernel_rfl) (by kernel_rfl) (fun _ _ _ h => h) (Or.inl ⟨by rfl, ?hwk6r14o14⟩) hS ?_
      case hwk6r14o14 => (intro wx hx; skip; go_simp; (try with_reducible rfl))
      try simp only [Act.put, List.setIfInBounds_toArray, List.set_cons_zero, List.set_cons_succ]
      refine wpAnyH_take (i := 15) (oi := { dst := some 111, op := Op.pick (Operand.tmp 107) (Operand.const (Value.bool true)) (Operand.tmp 110), type := 4, pos := "law.go:35", after := #[{ on := 11, ground := Ground.data }, { on := 14, ground := Ground.data }], guard := none }) (v := ?vwk6r14o15) rfl (by kernel_rfl) (by kernel_rfl) (by kernel_rfl) (fun _ _ _ h => h) (Or.inl ⟨by rfl, ?hwk6r14o15⟩) hS ?_
      case hwk6r14o15 => (intro wx hx; skip; go_simp; (try with_reducible rfl))
      try simp only [Act.put, List.setIfInBounds_toArray, List.set_cons_zero, List.set_cons_succ]
      refine wpAnyH_take (i := 16) (oi := { dst := some 112, op := Op.move (Operand.tmp 111), type := 4, pos := "law.go:35", after := #[{ on := 15, ground := Ground.data }, { on := 13, ground := Ground.chain }], guard := none }) (v := ?vwk6r14o16) rfl (by kernel_rfl) (by kernel_rfl) (by kernel_rfl) (fun _ _ _ h => h) (Or.inl ⟨by rfl, ?hwk6r14o16⟩) hS ?_
      case hwk6r14o16 => (intro wx hx; skip; go_simp; (try with_reducible rfl))
      try simp only [Act.put, List.setIfInBounds_toArray, List.set_cons_zero, List.set_cons_succ]
      refine wpAnyH_take (i := 17) (oi := { dst := some 113, op := Op.move (Operand.tmp 9), type := 50, pos := "law.go:35", after := #[{ on := 16, ground := Ground.guard }], guard := some (16, false) }) (v := ?vwk6r14o17) rfl (by kernel_rfl) (by kernel_rfl) (by kernel_rfl) (fun _ _ _ h => h) (Or.inl ⟨by rfl, ?hwk6r14o17⟩) hS ?_
      case hwk6r14o17 => (intro wx hx; skip; go_simp; (try with_reducible rfl))
      try simp only [Act.put, List.setIfInBounds_toArray, List.set_cons_zero, List.set_cons_succ]
      refine wpAnyH_take (i := 19) (oi := { dst := some 115, op := Op.load 23 (Operand.tmp 1), type := 23, pos := "law.go:35", after := #[{ on := 16, ground := Ground.guard }], guard := some (16, false) }) (v := ?vwk6r14o19) rfl (by kernel_rfl) (by kernel_rfl) (by kernel_rfl) (fun _ _ _ h => h) (Or.inl ⟨by rfl, ?hwk6r14o19⟩) hS ?_
      case hwk6r14o19 => (intro wx hx; obtain ⟨f0, f1, f2⟩ := GeoQ.cells hx; go_simp; (try with_reducible rfl))
      try simp only [Act.put, List.setIfInBounds_toArray, List.set_cons_zero, List.set_cons_succ]
      refine wpAnyH_ready (rs := [18]) (by kernel_rfl) (by simp) ?_
      refine AllReadyH.cons (o := { dst := some 114, op := Op.call { callee := Callee.value (Operand.func 32), args := #[Operand.tmp 113], argTypes := #[50] }, type := 23, pos := "law.go:35", after := #[{ on := 17, ground := Ground.data }, { on := 16, ground := Ground.chain }, { on := 16, ground := Ground.guard }], guard := some (16, false) }) rfl (fun K hK => ?_) AllReadyH.nil
      go_simp
      refine (HG4.out _ hOr.out).mono ?_
      rintro e v5 ⟨rfl, hn⟩
      have hOn := Lib.hid (hOr.out.quiet hn)
      clear hOr hn
      have hOr := hOn
      clear hOn
      refine hK.out _ _ ?hswk6r14o18 (fun hS => ?_)
      case hswk6r14o18 => (exact HQ4.out _ hOr.out)
      clear hK K
      try simp only [Act.put, List.setIfInBounds_toArray, List.set_cons_zero, List.set_cons_succ]
      refine wpAnyH_take (i := 20) (oi := { dst := some 116, op := Op.binOp BinOp.neq 23 (Operand.tmp 114) (Operand.tmp 115) 23, type := 4, pos := "law.go:35", after := #[{ on := 18, ground := Ground.data }, { on := 19, ground := Ground.data }, { on := 16, ground := Ground.guard }], guard := some (16, false) }) (v := ?vwk6r14o20) rfl (by kernel_rfl) (by kernel_rfl) (by kernel_rfl) (fun _ _ _ h => h) (Or.inl ⟨by rfl, ?hwk6r14o20⟩) hS ?_
      case hwk6r14o20 => (intro wx hx; skip; go_simp; (try with_reducible rfl))
      try simp only [Act.put, List.setIfInBounds_toArray, List.set_cons_zero, List.set_cons_succ]
      refine wpAnyH_take (i := 21) (oi := { dst := some 117, op := Op.pick (Operand.tmp 112) (Operand.const (Value.bool true)) (Operand.tmp 116), type := 4, pos := "law.go:35", after := #[{ on := 16, ground := Ground.data }, { on := 20, ground := Ground.data }], guard := none }) (v := ?vwk6r14o21) rfl (by kernel_rfl) (by kernel_rfl) (by kernel_rfl) (fun _ _ _ h => h) (Or.inl ⟨by rfl, ?hwk6r14o21⟩) hS ?_
      case hwk6r14o21 => (intro wx hx; skip; go_simp; (try with_reducible rfl))
      try simp only [Act.put, List.setIfInBounds_toArray, List.set_cons_zero, List.set_cons_succ]
      refine wpAnyH_done (by kernel_rfl) ?_ _
      obtain ⟨X, hX⟩ : ∃ X, v5.heap.size = X := ⟨_, rfl⟩
      have hO6 : Grommet.Own w (v5.alloc (.cells ((cntL 0).map nv).toArray 92)) (wrkL G d m1 R1 m2 R2 v5.heap.size B1 B2 Pn P2 0 0) := hOr.out.addBox 92 ((cntL 0).map nv).toArray
      rw [hX] at hO6
      have hO6 := Lib.hid hO6
      have HSt := Lib.hid (fun k P wx hk hO => wrk_step G d m1 R1 m2 R2 X B1 B2 Pn P k w wx hk hO)
      unfold ptr at HSt
      clear hOr HL4 HW4 HG4 HQ4 hS hz0
      go_wp2_with fail
      go_loopw [12] (fun at_ wr => ∃ (k : Nat) (P3 : List (Cl × Value)), k ≤ 6 ∧ at_ = .int .i64 (k : Int) ∧ Hid (Grommet.Own w wr (wrkL G d m1 R1 m2 R2 X B1 B2 Pn P3 k k))) (fun at_ _ => 6 - (intOf at_).toNat)
      case atStart => exact ⟨0, P2, by omega, rfl, hO6⟩
      case round =>
        clear hO6 hX
        obtain ⟨k, P3, hk, rfl, hO⟩ := hrel
        have k0 : (0 : Int) ≤ (k : Int) := by omega
        by_cases hlt : k < 6
        · as_aux_lemma =>
          have l6 : (k : Int) < 6 := by omega
          have HS := Lib.hid (HSt.out k P3 wr hlt hO.out)
          have hall := List.all_eq_true.1 cntL_all k (List.mem_range.2 hlt)
          simp only [Bool.and_eq_true, decide_eq_true_eq] at hall
          obtain ⟨⟨⟨h6, hl8⟩, hv10⟩, hnx⟩ := hall
          obtain ⟨p, hp⟩ : ∃ p, (clAt T0 k).1 = p := ⟨_, rfl⟩
          rw [hp] at HS h6 hv10 hnx
          obtain ⟨V, hV⟩ : ∃ V, (cntL k).getD p 0 = V := ⟨_, rfl⟩
          rw [hV] at hv10 hnx
          have p0 : (0 : Int) ≤ (p : Int) := by omega
          have p8 : (p : Int) < 8 := by omega
          have p8n : p < 8 := by omega
          have p6 : ¬ (6 : Int) < (p : Int) := by omega
          have wk : IntKind.i64.wrap ((k : Int) + 1) = (k : Int) + 1 := IntWalk.i64_in _ ⟨by omega, by omega⟩
          have wV : IntKind.i64.wrap ((V : Int) + 1) = ((V + 1 : Nat) : Int) := by rw [IntWalk.i64_in _ ⟨by omega, by omega⟩]; omega
          have HX := Lib.hid (fun wx P (hO : Grommet.Own w wx (wrkL G d m1 R1 m2 R2 X B1 B2 Pn P (k + 1) k)) => show wx.cell? ⟨X, p, none⟩ = some (.int .i64 (V : Int)) ∧ wx.frozen? ⟨X, p, none⟩ = false ∧ Grommet.Own w (wx.setCell ⟨X, p, none⟩ (.int .i64 ((V + 1 : Nat) : Int))) (wrkL G d m1 R1 m2 R2 X B1 B2 Pn P (k + 1) (k + 1)) by
            have hb := hO.box 6 rfl
            have hpl : p < (cntL k).length := by omega
            have hget : (((cntL k).map nv).toArray)[p]? = some (.int .i64 (V : Int)) := by
              rw [List.getElem?_toArray, List.getElem?_map, List.getElem?_eq_getElem hpl]
              rw [List.getD_eq_getElem?_getD, List.getElem?_eq_getElem hpl] at hV
              simp only [Option.getD_some] at hV
              rw [hV]; rfl
            refine ⟨by simp only [World.cell?, hb]; exact hget, by simp [World.frozen?, hb], ?_⟩
            have := own_putBox hO 6 rfl p (.int .i64 ((V + 1 : Nat) : Int))
            rw [show (((cntL k).map nv).toArray).setIfInBounds p (.int .i64 ((V + 1 : Nat) : Int)) = ((cntL (k + 1)).map nv).toArray from by rw [List.setIfInBounds_toArray, hnx, List.map_set]; rfl] at this
            exact this)
          obtain ⟨U, hU⟩ : ∃ U, V + 1 = U := ⟨_, rfl⟩
          rw [hU] at wV HX
          clear hO HSt hp hV hnx hl8 hv10 hU
          go_wp2_with fail
          refine HS.out.mono ?_
          rintro e v6 ⟨rfl, P4, hO7⟩
          obtain ⟨y0, y1, hO8⟩ := HX.out v6 P4 hO7
          have hO8 := Lib.hid hO8
          clear HS HX hO7
          go_wp2
          go_roundw
          case rel => exact ⟨k + 1, P4, by omega, by go_num, hO8⟩
          case measure => simp [intOf]; omega
        · as_aux_lemma =>
          obtain rfl : k = 6 := by omega
          have HB6 := Lib.hid (fun wx => HBk.out wx)
          obtain ⟨c6, hc6, hs6⟩ := Option.map_eq_some_iff.1 E6_seen
          have HLd := Lib.hid (fun wx (hO : Grommet.Own w wx (wrkL G d m1 R1 m2 R2 X B1 B2 Pn P3 6 6)) => LoadP 1 d (E0 6) 528 c6 hc6 w wx _ hO rfl)
          rw [hs6] at HLd
          have HLf := Lib.hid (fun wx (hO : Grommet.Own w wx (wrkL G d m1 R1 m2 R2 X B1 B2 Pn P3 6 6)) => MLeftNil 4 m2 d 1 2 2 1 w wx _ hO rfl)
          have HLs := Lib.hid (fun wx (hO : Grommet.Own w wx (wrkL G d m1 R1 m2 R2 X B1 B2 Pn P3 6 6)) => LooseH 1 d (E0 6) w wx _ hO rfl 67 (by rw [E0_len]))
          rw [E6_loose] at HLs
          have HC6 := Lib.hid (fun wx (hO : Grommet.Own w wx (wrkL G d m1 R1 m2 R2 X B1 B2 Pn P3 6 6)) => show wx.heap[X]? = some (.cells #[.int .i64 0, .int .i64 0, .int .i64 0, .int .i64 0, .int .i64 1, .int .i64 2, .int .i64 3, .int .i64 0] 92 (0, 0)) from hO.box 6 rfl)
          obtain ⟨f0, f1, f2⟩ := GeoQ.cells (GeoP hO.out (k := 0) rfl)
          unfold ptr at HLd HLf HLs
          clear HSt HBk hlt hc6 hs6
          go_wp2_with fail
          refine (HB6.out _).mono ?_
          rintro e v6 ⟨rfl, hg6⟩
          have hO7 := hO.out.quiet hg6
          have HLd2 := Lib.hid (HLd.out v6 hO7)
          have hO7 := Lib.hid hO7
          clear HB6 hO hg6 f0 f1 f2 HLd
          go_wp2_with fail
          refine HLd2.out.mono ?_
          rintro e v7 ⟨rfl, hw⟩
          obtain rfl := hw.symm
          have HLf2 := Lib.hid (HLf.out v6 hO7.out)
          have HLs2 := Lib.hid (HLs.out v6 hO7.out)
          have hb := HC6.out v6 hO7.out
          have z0 : v6.cell? ⟨X, 0, none⟩ = some (.int .i64 0) := by simp [World.cell?, hb]
          have z1 : v6.cell? ⟨X, 1, none⟩ = some (.int .i64 0) := by simp [World.cell?, hb]
          have z2 : v6.cell? ⟨X, 2, none⟩ = some (.int .i64 0) := by simp [World.cell?, hb]
          have z3 : v6.cell? ⟨X, 3, none⟩ = some (.int .i64 0) := by simp [World.cell?, hb]
          have z4 : v6.cell? ⟨X, 4, none⟩ = some (.int .i64 1) := by simp [World.cell?, hb]
          have z5 : v6.cell? ⟨X, 5, none⟩ = some (.int .i64 2) := by simp [World.cell?, hb]
          have z6 : v6.cell? ⟨X, 6, none⟩ = some (.int .i64 3) := by simp [World.cell?, hb]
          have z7 : v6.cell? ⟨X, 7, none⟩ = some (.int .i64 0) := by simp [World.cell?, hb]
          have hEq := eq_many v6
          clear hb HC6 HLd2 HLf HLs
          go_wp2_with fail
          refine HLf2.out.mono ?_
          rintro e v8 ⟨rfl, hw⟩
          obtain rfl := hw.symm
          clear HLf2
          go_wp2_with fail
          refine HLs2.out.mono ?_
          rintro e v9 ⟨rfl, hO9⟩
          have hg := Lib.hid hO9.grown
          clear HLs2 hO9 hO7
          go_wp2
          go_ret
          exact ⟨rfl, hg.out⟩
end Go.Proofs.YtkalglcbmfhdfaaGreat
end
section
/- Package mount: no mount, no device, what may not be. -/
namespace Go.Proofs.YtkalglcbmfhdfaaGreat
open Go.RowKit Go.Grommet

set_option maxRecDepth 100000 in
set_option maxHeartbeats 1000000 in
theorem MNewZero (w : World) : Calls Tryz.prog 23 #[.pointer none] w fun e w' => e = .returned (.tuple #[.pointer none, .int .i64 2]) ∧ w' = w := by
  go_enter Tryz.func23, Tryz.ntmps23
  go_wp2
  go_ret2
  exact ⟨rfl, rfl⟩
set_option maxRecDepth 100000 in
set_option maxHeartbeats 1000000 in
theorem MStepZero (w : World) : Calls Tryz.prog 25 #[.pointer none] w fun e w' => e = .returned (.tuple #[.int .u8 0, .int .i64 2]) ∧ w' = w := by
  go_enter Tryz.func25, Tryz.ntmps25
  go_wp2
  go_ret2
  exact ⟨rfl, rfl⟩
set_option maxRecDepth 100000 in
set_option maxHeartbeats 1000000 in
theorem MLeftZero (w : World) : Calls Tryz.prog 29 #[.pointer none] w fun e w' => e = .returned (.int .i64 0) ∧ w' = w := by
  go_enter Tryz.func29, Tryz.ntmps29
  go_wp2
  go_ret
  exact ⟨rfl, rfl⟩
set_option maxRecDepth 100000 in
set_option maxHeartbeats 1000000 in
theorem MWorkerZero (w : World) : Calls Tryz.prog 31 #[.pointer none] w fun e w' => e = .returned (.int .i64 0) ∧ w' = w := by
  go_enter Tryz.func31, Tryz.ntmps31
  go_wp2
  go_ret
  exact ⟨rfl, rfl⟩
/-- A variable of three numbers, and what is stored there. -/
theorem geo_put {w w1 : World} {G : Nat} {x0 x1 x2 : Int} (hg : w.grownBy w1 none) (hG : w.heap.size ≤ G) (hb : w1.heap[G]? = some (.cells #[.int .i64 x0, .int .i64 x1, .int .i64 x2] 23 (0, 0))) (x y z : Int) :
    (w1.cell? ⟨G, 0, none⟩ = some (.int .i64 x0) ∧ w1.cell? ⟨G, 1, none⟩ = some (.int .i64 x1) ∧ w1.cell? ⟨G, 2, none⟩ = some (.int .i64 x2) ∧ w1.frozen? ⟨G, 0, none⟩ = false ∧ w1.frozen? ⟨G, 1, none⟩ = false ∧ w1.frozen? ⟨G, 2, none⟩ = false) ∧
      ∃ wn, ((w1.setCell ⟨G, 0, none⟩ (.int .i64 x)).setCell ⟨G, 1, none⟩ (.int .i64 y)).setCell ⟨G, 2, none⟩ (.int .i64 z) = wn ∧ w.grownBy wn none ∧ wn.heap[G]? = some (.cells #[.int .i64 x, .int .i64 y, .int .i64 z] 23 (0, 0)) ∧ wn.cell? ⟨G, 0, none⟩ = some (.int .i64 x) ∧ wn.cell? ⟨G, 1, none⟩ = some (.int .i64 y) ∧ wn.cell? ⟨G, 2, none⟩ = some (.int .i64 z) := by
  have hb3 := heap_setCell_at (o := 2) (heap_setCell_at (o := 1) (heap_setCell_at (o := 0) hb (.int .i64 x)) (.int .i64 y)) (.int .i64 z)
  refine ⟨by simp [World.cell?, World.frozen?, hb], _, rfl, ?_, hb3, by simp [World.cell?, hb3], by simp [World.cell?, hb3], by simp [World.cell?, hb3]⟩
  exact grown_new hg (grown_trans (grown_trans (grown_setCell w1 ⟨G, 0, none⟩ (.int .i64 x)) (grown_setCell _ ⟨G, 1, none⟩ (.int .i64 y))) (grown_setCell _ ⟨G, 2, none⟩ (.int .i64 z))) (by intro k e; cases e; exact hG)
set_option maxRecDepth 100000 in
set_option maxHeartbeats 1000000 in
theorem MGeoZero (w : World) : Calls Tryz.prog 32 #[.pointer none] w fun e w' => e = .returned (.agg #[.int .i64 0, .int .i64 0, .int .i64 0]) ∧ w.grownBy w' none := by
  obtain ⟨G, hG⟩ : ∃ G, w.heap.size = G := ⟨_, rfl⟩
  obtain ⟨w1, hw1⟩ : ∃ w1, w.alloc (.cells #[.int .i64 0, .int .i64 0, .int .i64 0] 23) = w1 := ⟨_, rfl⟩
  have hb : w1.heap[G]? = some (.cells #[.int .i64 0, .int .i64 0, .int .i64 0] 23 (0, 0)) := by rw [← hw1, ← hG]; exact heap_alloc_new w _
  obtain ⟨⟨g0, g1, g2, f0, f1, f2⟩, wn, hwn, hg, _, z0, z1, z2⟩ := geo_put (by rw [← hw1]; exact World.grownBy_alloc w _ none) (Nat.le_of_eq hG) hb 0 0 0
  have hg := Lib.hid hg
  clear hb
  go_enter Tryz.func32, Tryz.ntmps32
  go_wp2
  exact bodyPost_ret (v := .agg #[.int .i64 0, .int .i64 0, .int .i64 0]) (by simp [results, Tryz.results32, go_sem, z0, z1, z2]) rfl ⟨rfl, hg.out⟩
set_option maxRecDepth 100000 in
set_option maxHeartbeats 1000000 in
theorem MFormatZero (a b c : Int) (w : World) : Calls Tryz.prog 11 #[.pointer none, .agg #[.int .i64 a, .int .i64 b, .int .i64 c]] w fun e w' => e = .returned (.int .i64 2) ∧ w.grownBy w' none := by
  have hg := Lib.hid (World.grownBy_alloc w (.cells #[.int .i64 a, .int .i64 b, .int .i64 c] 23) none)
  go_enter Tryz.func11, Tryz.ntmps11
  go_wp2
  go_ret
  exact ⟨rfl, hg.out⟩
set_option maxRecDepth 100000 in
set_option maxHeartbeats 1000000 in
theorem MFormatArg (d : Nat) (a b c : Int) (w : World) (hm : mayB a b c = false) : Calls Tryz.prog 11 #[.pointer (some ⟨d, 0, none⟩), .agg #[.int .i64 a, .int .i64 b, .int .i64 c]] w fun e w' => e = .returned (.int .i64 1) ∧ w.grownBy w' none := by
  have HMy := Lib.hid (fun wx => May_any a b c wx)
  rw [hm] at HMy
  obtain ⟨w1, hw1⟩ : ∃ w1, w.alloc (.cells #[.int .i64 a, .int .i64 b, .int .i64 c] 23) = w1 := ⟨_, rfl⟩
  obtain ⟨G, hG⟩ : ∃ G, w.heap.size = G := ⟨_, rfl⟩
  have hg := Lib.hid (show w.grownBy w1 none by rw [← hw1]; exact World.grownBy_alloc w _ none)
  obtain ⟨f0, f1, f2⟩ := GeoQ.cells (show GeoQ G a b c w1 by rw [← hw1, ← hG]; exact heap_alloc_new w _)
  unfold gv at HMy
  clear hm
  go_enter Tryz.func11, Tryz.ntmps11
  go_wp2_with fail
  refine (HMy.out _).mono ?_
  rintro e w2 ⟨rfl, hg2⟩
  have hg3 := Lib.hid (grown_trans hg.out hg2)
  clear hg hg2 HMy f0 f1 f2
  go_wp2
  go_ret
  exact ⟨rfl, hg3.out⟩
set_option maxRecDepth 100000 in
set_option maxHeartbeats 2000000 in
theorem MFormatFar (j d a b c K : Nat) (ws : List PW) (w0 w : World) (Ps : List Pr) (h : Grommet.Own w0 w Ps) (hj : Ps[j]? = some (devP d ws)) (hm : mayB (a : Int) (b : Int) (c : Int) = true) (hK : 280 + 208 * a + 16 * b + 8 * c = K) (hle : ws.length < K) :
    Calls Tryz.prog 11 #[ptr d, gv (a : Int) (b : Int) (c : Int)] w fun e w' => e = .returned (.int .i64 8) ∧ Grommet.Own w0 w' Ps := by
  have HMy := Lib.hid (fun wx => May_any (a : Int) (b : Int) (c : Int) wx)
  rw [hm] at HMy
  have HWd := Lib.hid (fun wx => Words_any (a : Int) (b : Int) (c : Int) wx)
  rw [show wordsV (a : Int) (b : Int) (c : Int) = (K : Int) from by rw [words_pos hm]; omega] at HWd
  obtain ⟨w1, hw1⟩ : ∃ w1, w.alloc (.cells #[.int .i64 (a : Int), .int .i64 (b : Int), .int .i64 (c : Int)] 23) = w1 := ⟨_, rfl⟩
  obtain ⟨G, hG⟩ : ∃ G, w.heap.size = G := ⟨_, rfl⟩
  have h1 := h.addBox 23 #[.int .i64 (a : Int), .int .i64 (b : Int), .int .i64 (c : Int)]
  rw [hw1, hG] at h1
  have HPw := Lib.hid (fun wx (hO : Grommet.Own w0 wx (Ps ++ [boxP G 23 #[.int .i64 (a : Int), .int .i64 (b : Int), .int .i64 (c : Int)]])) => PWordsH j d ws w0 wx _ hO (old_get hj))
  have HG := Lib.hid (fun wx (hO : Grommet.Own w0 wx (Ps ++ [boxP G 23 #[.int .i64 (a : Int), .int .i64 (b : Int), .int .i64 (c : Int)]])) => (show GeoQ G (a : Int) (b : Int) (c : Int) wx from hO.box Ps.length (by simp)))
  have q1 : (ws.length : Int) < (K : Int) := by omega
  have HO1 := Lib.hid h1
  obtain ⟨f0, f1, f2⟩ := GeoQ.cells (HG.out w1 h1)
  generalize ws.length = n at HPw q1
  unfold gv at HMy HWd ⊢
  unfold ptr at HPw ⊢
  clear h hj hm hK hle h1
  go_enter Tryz.func11, Tryz.ntmps11
  go_wp2_with fail
  refine (HMy.out _).mono ?_
  rintro e w2 ⟨rfl, hg2⟩
  have hO2 := HO1.out.quiet hg2
  have hOr := Lib.hid (hO2.quiet (grown_drew (World.grownBy.refl _ none)))
  have hz0 := Lib.hid (HG.out _ hOr.out)
  clear hg2 HMy HO1 hO2 f0 f1 f2 hw1 hG
  go_wp2_with fail
  refine wp_region_held_drew (S := fun w' => GeoQ G (a : Int) (b : Int) (c : Int) w') (by kernel_rfl) (hz0.out) (fun hS => ?_)
  refine wpAnyH_take (i := 0) (oi := { dst := some 18, op := Op.move (Operand.tmp 0), type := 32, pos := "mount.go:26", after := #[], guard := none }) (v := ?vmg11r5o0) rfl (by kernel_rfl) (by kernel_rfl) (by kernel_rfl) (fun _ _ _ h => h) (Or.inl ⟨by rfl, ?hmg11r5o0⟩) hS ?_
  case hmg11r5o0 => (intro wx hx; skip; go_simp; (try with_reducible rfl))
  try simp only [Act.put, List.setIfInBounds_toArray, List.set_cons_zero, List.set_cons_succ]
  refine wpAnyH_take (i := 2) (oi := { dst := some 20, op := Op.load 23 (Operand.tmp 3), type := 23, pos := "mount.go:26", after := #[], guard := none }) (v := ?vmg11r5o2) rfl (by kernel_rfl) (by kernel_rfl) (by kernel_rfl) (fun _ _ _ h => h) (Or.inl ⟨by rfl, ?hmg11r5o2⟩) hS ?_
  case hmg11r5o2 => (intro wx hx; obtain ⟨f0, f1, f2⟩ := GeoQ.cells hx; go_simp; (try with_reducible rfl))
  try simp only [Act.put, List.setIfInBounds_toArray, List.set_cons_zero, List.set_cons_succ]
  refine wpAnyH_ready (rs := [1]) (by kernel_rfl) (by simp) ?_
  refine AllReadyH.cons (o := { dst := some 19, op := Op.call { callee := Callee.value (Operand.func 51), args := #[Operand.tmp 18], argTypes := #[32] }, type := 3, pos := "mount.go:26", after := #[{ on := 0, ground := Ground.data }], guard := none }) rfl (fun K hK => ?_) AllReadyH.nil
  go_simp
  refine (HPw.out _ hOr.out).mono ?_
  rintro e v2 ⟨rfl, hn⟩
  have hOn := Lib.hid (hOr.out.quiet hn)
  clear hOr hn
  have hOr := hOn
  clear hOn
  refine hK.out _ _ ?hsmg11r5o1 (fun hS => ?_)
  case hsmg11r5o1 => (exact HG.out _ hOr.out)
  clear hK K
  try simp only [Act.put, List.setIfInBounds_toArray, List.set_cons_zero, List.set_cons_succ]
  refine wpAnyH_ready (rs := [3]) (by kernel_rfl) (by simp) ?_
  refine AllReadyH.cons (o := { dst := some 21, op := Op.call { callee := Callee.value (Operand.func 42), args := #[Operand.tmp 20], argTypes := #[23] }, type := 3, pos := "mount.go:26", after := #[{ on := 2, ground := Ground.data }, { on := 1, ground := Ground.chain }], guard := none }) rfl (fun K hK => ?_) AllReadyH.nil
  go_simp
  refine (HWd.out _).mono ?_
  rintro e v1 ⟨rfl, hn⟩
  have hOn := Lib.hid (hOr.out.quiet hn)
  clear hOr hn
  have hOr := hOn
  clear hOn
  refine hK.out _ _ ?hsmg11r5o3 (fun hS => ?_)
  case hsmg11r5o3 => (exact HG.out _ hOr.out)
  clear hK K
  try simp only [Act.put, List.setIfInBounds_toArray, List.set_cons_zero, List.set_cons_succ]
  refine wpAnyH_take (i := 4) (oi := { dst := some 22, op := Op.binOp BinOp.lss 3 (Operand.tmp 19) (Operand.tmp 21) 3, type := 4, pos := "mount.go:26", after := #[{ on := 1, ground := Ground.data }, { on := 3, ground := Ground.data }], guard := none }) (v := ?vmg11r5o4) rfl (by kernel_rfl) (by kernel_rfl) (by kernel_rfl) (fun _ _ _ h => h) (Or.inl ⟨by rfl, ?hmg11r5o4⟩) hS ?_
  case hmg11r5o4 => (intro wx hx; skip; go_simp; (try with_reducible rfl))
  try simp only [Act.put, List.setIfInBounds_toArray, List.set_cons_zero, List.set_cons_succ]
  refine wpAnyH_take (i := 5) (oi := { dst := some 17, op := Op.assign (Operand.tmp 22), type := 4, pos := "mount.go:26", after := #[{ on := 4, ground := Ground.data }, { on := 3, ground := Ground.chain }], guard := none }) (v := ?vmg11r5o5) rfl (by kernel_rfl) (by kernel_rfl) (by kernel_rfl) (fun _ _ _ h => h) (Or.inl ⟨by rfl, ?hmg11r5o5⟩) hS ?_
  case hmg11r5o5 => (intro wx hx; skip; go_simp; (try with_reducible rfl))
  try simp only [Act.put, List.setIfInBounds_toArray, List.set_cons_zero, List.set_cons_succ]
  refine wpAnyH_done (by kernel_rfl) ?_ _
  have hO9 := Lib.hid hOr.out.less
  clear hOr HG HPw HWd hS hz0
  go_wp2
  go_ret
  exact ⟨rfl, hO9.out⟩

set_option maxRecDepth 100000 in
set_option maxHeartbeats 1000000 in
theorem Small10 (x0 x1 : Nat) (w : World) (h0 : x0 ≤ 255) (h1 : x1 ≤ 255) : Calls Tryz.prog 99 #[.int .u8 (x0 : Int), .int .u8 (x1 : Int)] w fun e w' => e = .returned (gv ((1 : Nat) : Int) ((2 + x0 % 20 : Nat) : Int) ((2 + x1 % 60 : Nat) : Int)) ∧ w.grownBy w' none := by
  obtain ⟨I, hI⟩ : ∃ I, 2 + x0 % 20 = I := ⟨_, rfl⟩
  obtain ⟨B, hB⟩ : ∃ B, 2 + x1 % 60 = B := ⟨_, rfl⟩
  have eA : IntKind.i64.wrap (x0 : Int) = (x0 : Int) := IntWalk.i64_in _ ⟨by omega, by omega⟩
  have eA2 : IntKind.i64.wrap (x1 : Int) = (x1 : Int) := IntWalk.i64_in _ ⟨by omega, by omega⟩
  have e3 : IntKind.i64.wrap (2 + (x0 : Int) % 20) = (I : Int) := by rw [IntWalk.i64_in _ ⟨by omega, by omega⟩]; omega
  have e4 : IntKind.i64.wrap (2 + (x1 : Int) % 60) = (B : Int) := by rw [IntWalk.i64_in _ ⟨by omega, by omega⟩]; omega
  have e3' : 2 + (x0 : Int) % 20 = (I : Int) := by omega
  have e4' : 2 + (x1 : Int) % 60 = (B : Int) := by omega
  rw [hI, hB]
  clear hI hB h0 h1
  unfold gv
  go_enter Tryz.func99, Tryz.ntmps99
  go_wp2_with fail
  exact bodyPost_ret (v := .agg #[.int .i64 1, .int .i64 (I : Int), .int .i64 (B : Int)]) (by simp [results, Tryz.results99, go_sem]) rfl ⟨rfl, World.grownBy_alloc w _ none⟩
set_option maxRecDepth 100000 in
set_option maxHeartbeats 1000000 in
theorem Small21 (x1 : Nat) (w : World) (h1 : x1 ≤ 255) : Calls Tryz.prog 74 #[.int .u8 (x1 : Int)] w fun e w' => e = .returned (gv ((1 : Nat) : Int) ((11 : Nat) : Int) ((22 + x1 % 39 : Nat) : Int)) ∧ w.grownBy w' none := by
  obtain ⟨m, hm⟩ : ∃ m, x1 % 39 = m := ⟨_, rfl⟩
  obtain ⟨y, hy⟩ : ∃ y, 20 + m = y := ⟨_, rfl⟩
  have e1 : (x1 : Int) % 39 = (m : Int) := by omega
  have e2 : Int.tmod (x1 : Int) 39 = (m : Int) := by rw [Int.tmod_eq_emod_of_nonneg (by omega)]; exact e1
  have e3 : IntKind.u8.wrap (m : Int) = (m : Int) := IntWalk.u8_in _ ⟨by omega, by omega⟩
  have e4 : 20 + (m : Int) = (y : Int) := by omega
  have e5 : IntKind.u8.wrap (y : Int) = (y : Int) := IntWalk.u8_in _ ⟨by omega, by omega⟩
  have HS := Lib.hid (fun wx => Small10 9 y wx (by omega) (by omega))
  rw [show (2 + 9 % 20 : Nat) = 11 from rfl, show 2 + y % 60 = 22 + m from by omega] at HS
  rw [hm]
  obtain ⟨B, hB⟩ : ∃ B, 22 + m = B := ⟨_, rfl⟩
  rw [hB] at HS ⊢
  obtain ⟨G, hG⟩ : ∃ G, w.heap.size = G := ⟨_, rfl⟩
  obtain ⟨w1, hw1⟩ : ∃ w1, w.alloc (.cells #[.int .i64 0, .int .i64 0, .int .i64 0] 23) = w1 := ⟨_, rfl⟩
  have hb : w1.heap[G]? = some (.cells #[.int .i64 0, .int .i64 0, .int .i64 0] 23 (0, 0)) := by rw [← hw1, ← hG]; exact heap_alloc_new w _
  have hg1 : w.grownBy w1 none := by rw [← hw1]; exact World.grownBy_alloc w _ none
  have HP := Lib.hid (fun wx (hg : w1.grownBy wx none) => geo_put (grown_trans hg1 hg) (Nat.le_of_eq hG) ((hg.block G (lt_of_block hb) (by simp)).trans hb) 1 11 (B : Int))
  unfold gv at HS ⊢
  clear hm hy hB h1 hb hg1
  go_enter Tryz.func74, Tryz.ntmps74
  go_wp2_with fail
  refine (HS.out _).mono ?_
  rintro e w2 ⟨rfl, hg2⟩
  obtain ⟨⟨g0, g1, g2, f0, f1, f2⟩, wn, hwn, hg, _, z0, z1, z2⟩ := HP.out w2 hg2
  have hg := Lib.hid hg
  clear HS HP hg2 hw1 hG
  go_wp2
  exact bodyPost_ret (v := .agg #[.int .i64 1, .int .i64 11, .int .i64 (B : Int)]) (by simp [results, Tryz.results74, go_sem, z0, z1, z2]) rfl ⟨rfl, hg.out⟩
end Go.Proofs.YtkalglcbmfhdfaaGreat
end
section
/- A geometry of some workers. -/
namespace Go.Proofs.YtkalglcbmfhdfaaGreat
open Go.RowKit Go.Grommet

set_option maxRecDepth 100000 in
set_option maxHeartbeats 2000000 in
theorem Small23 (x0 x1 : Nat) (w : World) (h0 : x0 ≤ 255) (h1 : x1 ≤ 255) : Calls Tryz.prog 33 #[.int .u8 (x0 : Int), .int .u8 (x1 : Int)] w fun e w' => e = .returned (gv ((1 + x0 % 4 : Nat) : Int) ((11 : Nat) : Int) ((22 + x1 % 39 : Nat) : Int)) ∧ w.grownBy w' none := by
  have HS := Lib.hid (fun wx => Small21 x1 wx h1)
  obtain ⟨B, hB⟩ : ∃ B, 22 + x1 % 39 = B := ⟨_, rfl⟩
  obtain ⟨m, hm⟩ : ∃ m, x0 % 4 = m := ⟨_, rfl⟩
  obtain ⟨A, hA⟩ : ∃ A, 1 + m = A := ⟨_, rfl⟩
  have e1 : (x0 : Int) % 4 = (m : Int) := by omega
  have e2 : Int.tmod (x0 : Int) 4 = (m : Int) := by rw [Int.tmod_eq_emod_of_nonneg (by omega)]; exact e1
  have e3 : IntKind.i64.wrap (x0 : Int) = (x0 : Int) := IntWalk.i64_in _ ⟨by omega, by omega⟩
  have e4 : IntKind.i64.wrap (m : Int) = (m : Int) := IntWalk.i64_in _ ⟨by omega, by omega⟩
  have e5 : 1 + (m : Int) = (A : Int) := by omega
  have e6 : IntKind.i64.wrap (A : Int) = (A : Int) := IntWalk.i64_in _ ⟨by omega, by omega⟩
  rw [hm, hA, hB]
  rw [hB] at HS
  obtain ⟨G, hG⟩ : ∃ G, w.heap.size = G := ⟨_, rfl⟩
  obtain ⟨w1, hw1⟩ : ∃ w1, w.alloc (.cells #[.int .i64 0, .int .i64 0, .int .i64 0] 23) = w1 := ⟨_, rfl⟩
  have hO1 : Grommet.Own w w1 [boxP G 23 #[.int .i64 0, .int .i64 0, .int .i64 0]] := by rw [← hw1, ← hG]; exact (Own.nil w).addBox _ _
  have hGw := Nat.le_of_eq hG
  have HP := Lib.hid (fun wx (hO : Grommet.Own w wx ([boxP G 23 #[.int .i64 0, .int .i64 0, .int .i64 0]])) => geo_put hO.grown hGw (hO.box 0 rfl) (A : Int) 11 (B : Int))
  have HO1 := Lib.hid hO1
  unfold gv at HS ⊢
  clear hm hA hB h0 h1 hO1 hGw
  go_enter Tryz.func33, Tryz.ntmps33
  go_wp2_with fail
  refine (HS.out _).mono ?_
  rintro e w2 ⟨rfl, hg2⟩
  have hO2 := HO1.out.quiet hg2
  have hO3 := hO2.addBox 23 #[.int .i64 1, .int .i64 11, .int .i64 (B : Int)]
  obtain ⟨w3, hw3⟩ : ∃ w3, w2.alloc (.cells #[.int .i64 1, .int .i64 11, .int .i64 (B : Int)] 23) = w3 := ⟨_, rfl⟩
  obtain ⟨H, hH⟩ : ∃ H, w2.heap.size = H := ⟨_, rfl⟩
  rw [hw3, hH] at hO3
  have hO3 : Grommet.Own w w3 [boxP G 23 #[.int .i64 0, .int .i64 0, .int .i64 0], boxP H 23 #[.int .i64 1, .int .i64 11, .int .i64 (B : Int)]] := hO3
  have hb3 := hO3.box 1 rfl
  have y0 : w3.cell? ⟨H, 0, none⟩ = some (.int .i64 1) := by simp [World.cell?, hb3]
  have y1 : w3.cell? ⟨H, 1, none⟩ = some (.int .i64 11) := by simp [World.cell?, hb3]
  have y2 : w3.cell? ⟨H, 2, none⟩ = some (.int .i64 (B : Int)) := by simp [World.cell?, hb3]
  have yf : w3.frozen? ⟨H, 0, none⟩ = false := by simp [World.frozen?, hb3]
  have hO4 : Grommet.Own w (w3.setCell ⟨H, 0, none⟩ (.int .i64 (A : Int))) [boxP G 23 #[.int .i64 0, .int .i64 0, .int .i64 0], boxP H 23 #[.int .i64 (A : Int), .int .i64 11, .int .i64 (B : Int)]] := own_putBox hO3 1 rfl 0 (.int .i64 (A : Int))
  obtain ⟨w4, hw4⟩ : ∃ w4, w3.setCell ⟨H, 0, none⟩ (.int .i64 (A : Int)) = w4 := ⟨_, rfl⟩
  rw [hw4] at hO4
  have hb4 := hO4.box 1 rfl
  have z0 : w4.cell? ⟨H, 0, none⟩ = some (.int .i64 (A : Int)) := by simp [World.cell?, hb4]
  have z1 : w4.cell? ⟨H, 1, none⟩ = some (.int .i64 11) := by simp [World.cell?, hb4]
  have z2 : w4.cell? ⟨H, 2, none⟩ = some (.int .i64 (B : Int)) := by simp [World.cell?, hb4]
  obtain ⟨⟨g0, g1, g2, f0, f1, f2⟩, wn, hwn, hg, _, x0', x1', x2'⟩ := HP.out w4 (Own.less (Qs := [_]) hO4)
  have hg := Lib.hid hg
  clear HS HP hg2 hw1 hG hO2 hO3 hO4 hb3 hb4 HO1
  go_wp2
  exact bodyPost_ret (v := .agg #[.int .i64 (A : Int), .int .i64 11, .int .i64 (B : Int)]) (by simp [results, Tryz.results33, go_sem, x0', x1', x2']) rfl ⟨rfl, hg.out⟩
end Go.Proofs.YtkalglcbmfhdfaaGreat
end
section
/- A device on which some words are sure. -/
namespace Go.Proofs.YtkalglcbmfhdfaaGreat
open Go.RowKit Go.Grommet

set_option maxRecDepth 100000 in
set_option maxHeartbeats 4000000 in
theorem DeviceW (m : Nat) (ad : Option Addr) (N cap : Nat) (xs : List Nat) (w0 w : World) (Ps : List Pr) (h : Grommet.Own w0 w Ps) (hm : Ps[m]? = some (rowP 45 1 (.slice ad N cap) N (xs.map wv))) (hxl : xs.length = N) (hxs : ∀ n ∈ xs, n < 18446744073709551616) (h8 : 8 ≤ N) (hN : N ≤ 65536) (hd : N % 8 = 0) :
    Calls Tryz.prog 35 #[.slice ad N cap] w fun e w' => ∃ d, e = .returned (ptr d) ∧ Grommet.Own w0 w' (Ps ++ [devP d (cleanL xs)]) := by
  have hml := (List.getElem?_eq_some_iff.1 hm).1
  have HN := Lib.hid (NewH N w0 w Ps h h8 hN hd)
  have hz0 := devT_zero xs
  rw [hxl] at hz0
  rw [← hz0] at HN
  have hsetD : ∀ (d : Nat) (ws ws' : List PW), (Ps ++ [devP d ws]).set Ps.length (devP d ws') = Ps ++ [devP d ws'] := by
    intro d ws ws'
    rw [List.set_append_right _ _ (Nat.le_refl _), Nat.sub_self, List.set_cons_zero]
  have HSt0 : ∀ (i V d : Nat) (wx : World), i < N → xs.getD i 0 = V → Grommet.Own w0 wx (Ps ++ [devP d (devT xs i)]) →
      (∃ b, ad = some ⟨b, 0, none⟩ ∧ wx.cell? ⟨b, i, none⟩ = some (.int .u64 (V : Int))) ∧ (V = 0 → Grommet.Own w0 wx (Ps ++ [devP d (devT xs (i + 1))])) ∧
      (V ≠ 0 → Calls Tryz.prog 19 #[ptr d, .int .i64 (i : Int), .int .u64 (V : Int)] wx fun e w' => e = .returned (.int .i64 0) ∧ Grommet.Own w0 w' (Ps ++ [devP d (devT xs (i + 1))])) := by
    intro i V d wx hi hV hO
    have hix : i < xs.length := by omega
    obtain ⟨b, he, c1, _, _⟩ := Own.cell hO m (old_get hm) i (wv (xs.getD i 0)) (by rw [List.getElem?_map, List.getElem?_eq_getElem hix, List.getD_eq_getElem?_getD, List.getElem?_eq_getElem hix]; rfl)
    subst hV
    refine ⟨⟨b, he, c1⟩, fun h0 => by rw [← devT_skip xs i h0]; exact hO, fun h0 => ?_⟩
    have := StoreH Ps.length d (devT xs i) w0 wx _ hO last_get i _ (devT_get xs i i hix) (xs.getD i 0) (by rw [List.getD_eq_getElem?_getD, List.getElem?_eq_getElem hix]; exact hxs _ (by simp))
    rw [devT_store xs i h0, hsetD] at this
    exact this
  obtain ⟨N8, hN8⟩ : ∃ n, N / 8 = n := ⟨_, rfl⟩
  have HEv0 : ∀ (i d : Nat) (wx : World), i < N8 → Grommet.Own w0 wx (Ps ++ [devP d (devU xs i)]) → Calls Tryz.prog 21 #[ptr d, .int .i64 (i : Int)] wx fun e w' => e = .returned (.int .i64 0) ∧ Grommet.Own w0 w' (Ps ++ [devP d (devU xs (i + 1))]) := by
    intro i d wx hi hO
    have := EvictH Ps.length d (devU xs i) w0 wx _ hO last_get i (by rw [devU_len, hxl]; omega)
    rw [devU_succ, hsetD] at this
    exact this
  have HZ : Hid (devU xs 0 = devT xs N) := Lib.hid (by rw [devU_zero, hxl])
  have HY : Hid (devU xs N8 = cleanL xs) := Lib.hid (devU_all xs N8 (by omega))
  have HSt := Lib.hid HSt0
  have HEv := Lib.hid HEv0
  have w8a : Int.tdiv (N : Int) 8 = (N8 : Int) := by rw [Int.tdiv_eq_ediv_of_nonneg (by omega)]; omega
  have w8b : (N : Int) / 8 = (N8 : Int) := by omega
  have w8c : IntKind.i64.wrap (N8 : Int) = (N8 : Int) := IntWalk.i64_in _ ⟨by omega, by omega⟩
  have hN8b : N8 ≤ 65536 := by omega
  unfold ptr at HN HSt HEv ⊢
  clear h hm hxl hxs h8 hd hz0 hsetD HSt0 HEv0 hml hN8
  go_enter Tryz.func35, Tryz.ntmps35
  go_wp2_with fail
  refine HN.out.mono ?_
  rintro e w1 ⟨d, rfl, hO1⟩
  have hO1 := Lib.hid hO1
  clear HN
  go_wp2_with fail
  go_loopw [5] (fun i wr => ∃ (j : Nat), j ≤ N ∧ i = .int .i64 (j : Int) ∧ Hid (Grommet.Own w0 wr (Ps ++ [devP d (devT xs j)]))) (fun i _ => N - (intOf i).toNat)
  case atStart => exact ⟨0, Nat.zero_le _, rfl, hO1⟩
  case round =>
    clear hO1
    obtain ⟨j, hj, rfl, hO⟩ := hrel
    have j0 : (0 : Int) ≤ (j : Int) := by omega
    by_cases hlt : j < N
    · have hlt' : (j : Int) < (N : Int) := by omega
      obtain ⟨V, hV⟩ : ∃ V, xs.getD j 0 = V := ⟨_, rfl⟩
      obtain ⟨⟨b, rfl, c1⟩, HS0, HS1⟩ := HSt.out j V d wr hlt hV hO.out
      have HS0 := Lib.hid HS0
      have HS1 := Lib.hid HS1
      have wj : IntKind.i64.wrap ((j : Int) + 1) = (j : Int) + 1 := IntWalk.i64_in _ ⟨by omega, by omega⟩
      clear hO HSt HEv HZ HY hV
      by_cases hz : V = 0
      · as_aux_lemma =>
        subst hz
        have hO2 := Lib.hid (HS0.out rfl)
        have c1 : wr.cell? ⟨b, j, none⟩ = some (.int .u64 0) := c1
        clear HS0 HS1
        go_wp2
        go_roundw
        case rel => exact ⟨j + 1, by omega, by go_num, hO2⟩
        case measure => simp [intOf]; omega
      · as_aux_lemma =>
        have HS2 := Lib.hid (HS1.out hz)
        have qz : ((V : Int) != 0) = true := by rw [bne_iff_ne]; omega
        clear HS0 HS1
        go_wp2_with fail
        refine HS2.out.mono ?_
        rintro e w4 ⟨rfl, hO4⟩
        have hO4 := Lib.hid hO4
        clear HS2
        go_wp2
        go_roundw
        case rel => exact ⟨j + 1, by omega, by go_num, hO4⟩
        case measure => simp [intOf]; omega
    · as_aux_lemma =>
      obtain rfl : N = j := by omega
      have hlt' : ¬ (N : Int) < (N : Int) := by omega
      have hO3 : Hid (Grommet.Own w0 wr (Ps ++ [devP d (devU xs 0)])) := Lib.hid (by rw [HZ.out]; exact hO.out)
      clear hO HSt HZ
      go_wp2_with fail
      go_loopw [6] (fun i wr => ∃ (j : Nat), j ≤ N8 ∧ i = .int .i64 (j : Int) ∧ Hid (Grommet.Own w0 wr (Ps ++ [devP d (devU xs j)]))) (fun i _ => N8 - (intOf i).toNat)
      case atStart => exact ⟨0, Nat.zero_le _, rfl, hO3⟩
      case round =>
        clear hO3
        obtain ⟨j, hj, rfl, hO⟩ := hrel
        have j0 : (0 : Int) ≤ (j : Int) := by omega
        by_cases hlt : j < N8
        · as_aux_lemma =>
          have hlt2' : (j : Int) < (N8 : Int) := by omega
          have HS1 := Lib.hid (HEv.out j d wr hlt hO.out)
          have wj : IntKind.i64.wrap ((j : Int) + 1) = (j : Int) + 1 := IntWalk.i64_in _ ⟨by omega, by omega⟩
          clear hO HEv HY
          go_wp2_with fail
          refine HS1.out.mono ?_
          rintro e w4 ⟨rfl, hO4⟩
          have hO4 := Lib.hid hO4
          clear HS1
          go_wp2
          go_roundw
          case rel => exact ⟨j + 1, by omega, by go_num, hO4⟩
          case measure => simp [intOf]; omega
        · as_aux_lemma =>
          obtain rfl : N8 = j := by omega
          have hlt2' : ¬ (N8 : Int) < (N8 : Int) := by omega
          have hO4 := hO.out
          rw [HY.out] at hO4
          have hO4 := Lib.hid hO4
          clear hO HEv HY
          go_wp2
          go_ret
          exact ⟨_, rfl, hO4.out⟩
end Go.Proofs.YtkalglcbmfhdfaaGreat
end
section
/- The same words, but for areas? -/
namespace Go.Proofs.YtkalglcbmfhdfaaGreat
open Go.RowKit Go.Grommet

set_option maxRecDepth 100000 in
set_option maxHeartbeats 4000000 in
theorem outsideH (ma mb A I B K qa ca qb cb : Nat) (xs ys : List Nat) (w0 w : World) (Ps : List Pr) (h : Grommet.Own w0 w Ps) (ha : Ps[ma]? = some (rowP 45 1 (.slice (some ⟨qa, 0, none⟩) K ca) K (xs.map wv))) (hb : Ps[mb]? = some (rowP 45 1 (.slice (some ⟨qb, 0, none⟩) K cb) K (ys.map wv)))
    (hxl : xs.length = K) (hyl : ys.length = K) (hmay : mayB (A : Int) (I : Int) (B : Int) = true) (hK : K ≤ 100000) (heq : ∀ i, i < K → (i < 264 ∨ 264 + 208 * A ≤ i) → xs.getD i 0 = ys.getD i 0) :
    Calls Tryz.prog 39 #[gv (A : Int) (I : Int) (B : Int), .slice (some ⟨qa, 0, none⟩) K ca, .slice (some ⟨qb, 0, none⟩) K cb] w fun e w' => e = .returned (.bool true) ∧ w.grownBy w' none := by
  have hmb := mayB_yes hmay
  obtain ⟨X, hX⟩ : ∃ X, w.heap.size = X := ⟨_, rfl⟩
  obtain ⟨u1, hu1⟩ : ∃ u, w.alloc (.cells #[.int .i64 (A : Int), .int .i64 (I : Int), .int .i64 (B : Int)] 23) = u := ⟨_, rfl⟩
  have hg1 : w.grownBy u1 none := by rw [← hu1]; exact World.grownBy_alloc w _ none
  have hq1 : GeoQ X (A : Int) (I : Int) (B : Int) u1 := by rw [← hu1, ← hX]; exact heap_alloc_new w _
  have HA := Lib.hid (fun wx => AreaAt_any (A : Int) (I : Int) (B : Int) 0 wx)
  rw [show areaV (A : Int) (I : Int) (B : Int) 0 = 264 from by unfold areaV; rw [if_pos ⟨hmay, by omega, by omega⟩]; omega] at HA
  obtain ⟨E, hE⟩ : ∃ E, 264 + 208 * A = E := ⟨_, rfl⟩
  have HI := Lib.hid (fun wx => InodeMapAt_any (A : Int) (I : Int) (B : Int) wx)
  rw [show imapV (A : Int) (I : Int) (B : Int) = (E : Int) from by unfold imapV; rw [if_pos hmay]; omega] at HI
  have HC := Lib.hid (fun wx (hg : w.grownBy wx none) (i : Nat) (hi : i < K) => show wx.cell? ⟨qa, i, none⟩ = some (.int .u64 (xs.getD i 0 : Int)) ∧ wx.cell? ⟨qb, i, none⟩ = some (.int .u64 (ys.getD i 0 : Int)) by
    have hO := h.quiet hg
    obtain ⟨b1, he1, e1, _, _⟩ := Own.cell hO ma ha i (wv (xs.getD i 0)) (by rw [List.getElem?_map, List.getElem?_eq_getElem (by omega), List.getD_eq_getElem?_getD, List.getElem?_eq_getElem (by omega)]; rfl)
    obtain ⟨b2, he2, e2, _, _⟩ := Own.cell hO mb hb i (wv (ys.getD i 0)) (by rw [List.getElem?_map, List.getElem?_eq_getElem (by omega), List.getD_eq_getElem?_getD, List.getElem?_eq_getElem (by omega)]; rfl)
    cases he1
    cases he2
    exact ⟨e1, e2⟩)
  have Heq := Lib.hid heq
  have HE := Lib.hid hE
  unfold gv at HA HI ⊢
  have hOr := Lib.hid (grown_drew hg1)
  have hz0 := Lib.hid (hq1.keep (grown_drew (World.grownBy.refl u1 none)))
  have HQ := Lib.hid (fun wx (hg : u1.grownBy wx none) => hq1.keep hg)
  clear h ha hb hxl hyl hmay heq hmb hE hg1 hq1
  go_enter Tryz.func39, Tryz.ntmps39
  go_wp2_with fail
  refine wp_region_held_drew (S := fun w' => GeoQ X (A : Int) (I : Int) (B : Int) w') (by kernel_rfl) (hz0.out) (fun hS => ?_)
  refine wpAnyH_take (i := 0) (oi := { dst := some 10, op := Op.load 23 (Operand.tmp 3), type := 23, pos := "law.go:201", after := #[], guard := none }) (v := ?vou39r1o0) rfl (by kernel_rfl) (by kernel_rfl) (by kernel_rfl) (fun _ _ _ h => h) (Or.inl ⟨by rfl, ?hou39r1o0⟩) hS ?_
  case hou39r1o0 => (intro wx hx; obtain ⟨f0, f1, f2⟩ := GeoQ.cells hx; go_simp; (try with_reducible rfl))
  try simp only [Act.put, List.setIfInBounds_toArray, List.set_cons_zero, List.set_cons_succ]
  refine wpAnyH_take (i := 2) (oi := { dst := some 12, op := Op.load 23 (Operand.tmp 3), type := 23, pos := "law.go:201", after := #[], guard := none }) (v := ?vou39r1o2) rfl (by kernel_rfl) (by kernel_rfl) (by kernel_rfl) (fun _ _ _ h => h) (Or.inl ⟨by rfl, ?hou39r1o2⟩) hS ?_
  case hou39r1o2 => (intro wx hx; obtain ⟨f0, f1, f2⟩ := GeoQ.cells hx; go_simp; (try with_reducible rfl))
  try simp only [Act.put, List.setIfInBounds_toArray, List.set_cons_zero, List.set_cons_succ]
  refine wpAnyH_ready (rs := [1]) (by kernel_rfl) (by simp) ?_
  refine AllReadyH.cons (o := { dst := some 11, op := Op.call { callee := Callee.value (Operand.func 40), args := #[Operand.tmp 10, Operand.const (Value.int IntKind.i64 0)], argTypes := #[23, 3] }, type := 3, pos := "law.go:201", after := #[{ on := 0, ground := Ground.data }], guard := none }) rfl (fun K hK => ?_) AllReadyH.nil
  go_simp
  refine (HA.out _).mono ?_
  rintro e v1 ⟨rfl, hn⟩
  have hS1 := hS.keep hn
  have hOn := Lib.hid (grown_trans hOr.out hn)
  clear hOr hn
  have hOr := hOn
  clear hOn
  refine hK.out _ _ ?hsou39r1o1 (fun hS => ?_)
  case hsou39r1o1 => (exact hS1)
  clear hK K
  try simp only [Act.put, List.setIfInBounds_toArray, List.set_cons_zero, List.set_cons_succ]
  refine wpAnyH_ready (rs := [3]) (by kernel_rfl) (by simp) ?_
  refine AllReadyH.cons (o := { dst := some 13, op := Op.call { callee := Callee.value (Operand.func 76), args := #[Operand.tmp 12], argTypes := #[23] }, type := 3, pos := "law.go:201", after := #[{ on := 2, ground := Ground.data }, { on := 1, ground := Ground.chain }], guard := none }) rfl (fun K hK => ?_) AllReadyH.nil
  go_simp
  refine (HI.out _).mono ?_
  rintro e v2 ⟨rfl, hn⟩
  have hS1 := hS.keep hn
  have hOn := Lib.hid (grown_trans hOr.out hn)
  clear hOr hn
  have hOr := hOn
  clear hOn
  refine hK.out _ _ ?hsou39r1o3 (fun hS => ?_)
  case hsou39r1o3 => (exact hS1)
  clear hK K
  try simp only [Act.put, List.setIfInBounds_toArray, List.set_cons_zero, List.set_cons_succ]
  refine wpAnyH_take (i := 4) (oi := { dst := some 7, op := Op.assign (Operand.tmp 11), type := 3, pos := "law.go:201", after := #[{ on := 1, ground := Ground.data }, { on := 3, ground := Ground.chain }, { on := 0, ground := Ground.phase }, { on := 1, ground := Ground.phase }, { on := 2, ground := Ground.textOnly Departure.lateStores }, { on := 3, ground := Ground.textOnly Departure.lateStoresUnsure }], guard := none }) (v := ?vou39r1o4) rfl (by kernel_rfl) (by kernel_rfl) (by kernel_rfl) (fun _ _ _ h => h) (Or.inl ⟨by rfl, ?hou39r1o4⟩) hS ?_
  case hou39r1o4 => (intro wx hx; skip; go_simp; (try with_reducible rfl))
  try simp only [Act.put, List.setIfInBounds_toArray, List.set_cons_zero, List.set_cons_succ]
  refine wpAnyH_take (i := 5) (oi := { dst := some 8, op := Op.assign (Operand.tmp 13), type := 3, pos := "law.go:201", after := #[{ on := 3, ground := Ground.data }, { on := 4, ground := Ground.chain }, { on := 0, ground := Ground.phase }, { on := 1, ground := Ground.phase }, { on := 2, ground := Ground.phase }, { on := 3, ground := Ground.phase }, { on := 4, ground := Ground.phase }], guard := none }) (v := ?vou39r1o5) rfl (by kernel_rfl) (by kernel_rfl) (by kernel_rfl) (fun _ _ _ h => h) (Or.inl ⟨by rfl, ?hou39r1o5⟩) hS ?_
  case hou39r1o5 => (intro wx hx; skip; go_simp; (try with_reducible rfl))
  try simp only [Act.put, List.setIfInBounds_toArray, List.set_cons_zero, List.set_cons_succ]
  refine wpAnyH_done (by kernel_rfl) ?_ _
  have hG2 := Lib.hid hOr.out
  clear hOr hS hz0 HQ HA HI hu1 hX
  go_wp2_with fail
  go_loopw [9] (fun at_ wr => ∃ i : Nat, i ≤ K ∧ at_ = .int .i64 (i : Int) ∧ Hid (w.grownBy wr none)) (fun at_ _ => K - (intOf at_).toNat)
  case atStart => exact ⟨0, Nat.zero_le _, rfl, hG2⟩
  case round =>
    clear hG2
    obtain ⟨i, hi, rfl, HG⟩ := hrel
    have i0 : (0 : Int) ≤ (i : Int) := by omega
    by_cases hlt : i < K
    · have l1 : (i : Int) < (K : Int) := by omega
      have wi : IntKind.i64.wrap ((i : Int) + 1) = (i : Int) + 1 := IntWalk.i64_in _ ⟨by omega, by omega⟩
      obtain ⟨e1, e2⟩ := HC.out wr HG.out i hlt
      by_cases h1 : i < 264
      · as_aux_lemma =>
        have q1 : (i : Int) < 264 := by omega
        rw [Heq.out i hlt (.inl h1)] at e1
        generalize ys.getD i 0 = V at e1 e2
        have qv : ((V : Int) != (V : Int)) = false := by simp
        clear HC Heq HE
        go_wp2_with fail
        go_quiet (fail)
        go_wp2
        go_roundw
        case rel => exact ⟨i + 1, by omega, by go_num, Lib.hid (grown_trans HG.out (grown_drewN _ _ _))⟩
        case measure => simp [intOf]; omega
      · by_cases h2 : E ≤ i
        · as_aux_lemma =>
          have q1 : ¬ (i : Int) < 264 := by omega
          have q2 : (E : Int) ≤ (i : Int) := by omega
          rw [Heq.out i hlt (.inr (by rw [HE.out]; exact h2))] at e1
          generalize ys.getD i 0 = V at e1 e2
          have qv : ((V : Int) != (V : Int)) = false := by simp
          clear HC Heq HE
          go_wp2_with fail
          go_quiet (fail)
          go_wp2
          go_roundw
          case rel => exact ⟨i + 1, by omega, by go_num, Lib.hid (grown_trans HG.out (grown_drewN _ _ _))⟩
          case measure => simp [intOf]; omega
        · as_aux_lemma =>
          have q1 : ¬ (i : Int) < 264 := by omega
          have q2 : ¬ (E : Int) ≤ (i : Int) := by omega
          have d1 : decide ((i : Int) < 264) = false := by simp; omega
          have d2 : decide ((E : Int) ≤ (i : Int)) = false := by simp; omega
          have d3 : decide (i < 264) = false := by simp; omega
          have d4 : decide (E ≤ i) = false := by simp; omega
          clear HC Heq HE
          go_wp2_with fail
          go_quiet (fail)
          go_wp2
          go_roundw
          case rel => exact ⟨i + 1, by omega, by go_num, Lib.hid (grown_trans HG.out (grown_drewN _ _ _))⟩
          case measure => simp [intOf]; omega
    · as_aux_lemma =>
      obtain rfl : K = i := by omega
      have l1 : ¬ (K : Int) < (K : Int) := by omega
      clear HC Heq HE
      go_wp2
      go_ret
      exact ⟨rfl, HG.out⟩
end Go.Proofs.YtkalglcbmfhdfaaGreat
end
section
/- What is seen, and sure, behind the steps of a begin. -/
-- OPTIONAL
namespace Go.Proofs.YtkalglcbmfhdfaaGreat
open Go.RowKit Go.Grommet

def doAll (S : List (Nat × Cl)) (ws : List PW) : List PW := S.foldl (fun ws s => s.2.does ws) ws
theorem doAll_append (S T : List (Nat × Cl)) (ws : List PW) : doAll (S ++ T) ws = doAll T (doAll S ws) := List.foldl_append
theorem doAll_len (S : List (Nat × Cl)) : ∀ ws, (doAll S ws).length = ws.length := by
  induction S with
  | nil => intro ws; rfl
  | cons s S ih => intro ws; show (doAll S (s.2.does ws)).length = _; rw [ih, Cl.does_len]
def seenL (ws : List PW) : List Nat := ws.map (·.seen)
/-- What the stores make of words. -/
def putQ (ys : List Nat) (Q : List (Nat × Nat)) : List Nat := Q.foldl (fun l q => l.set q.1 q.2) ys
theorem putQ_append (ys : List Nat) (Q R : List (Nat × Nat)) : putQ ys (Q ++ R) = putQ (putQ ys Q) R := List.foldl_append
theorem putQ_len (Q : List (Nat × Nat)) : ∀ ys : List Nat, (putQ ys Q).length = ys.length := by
  induction Q with
  | nil => intro ys; rfl
  | cons q Q ih => intro ys; show (putQ (ys.set q.1 q.2) Q).length = _; rw [ih, List.length_set]
theorem putQ_miss (Q : List (Nat × Nat)) (i : Nat) : ∀ (ys : List Nat), (∀ q ∈ Q, q.1 ≠ i) → (putQ ys Q).getD i 0 = ys.getD i 0 := by
  induction Q with
  | nil => intro ys _; rfl
  | cons q Q ih =>
    intro ys h
    show (putQ (ys.set q.1 q.2) Q).getD i 0 = _
    rw [ih _ (fun r hr => h r (List.mem_cons_of_mem _ hr)), getD_set, if_neg (fun e => h q (List.mem_cons_self ..) e.1.symm)]
theorem putQ_hit (Q : List (Nat × Nat)) (i : Nat) : ∀ (ys zs : List Nat), ys.length = zs.length → (∃ q ∈ Q, q.1 = i) → (putQ ys Q).getD i 0 = (putQ zs Q).getD i 0 := by
  induction Q with
  | nil => intro ys zs _ h; obtain ⟨q, hq, _⟩ := h; cases hq
  | cons q Q ih =>
    intro ys zs hl h
    show (putQ (ys.set q.1 q.2) Q).getD i 0 = (putQ (zs.set q.1 q.2) Q).getD i 0
    by_cases hx : ∃ r ∈ Q, r.1 = i
    · exact ih _ _ (by rw [List.length_set, List.length_set, hl]) hx
    · have hm : ∀ r ∈ Q, r.1 ≠ i := fun r hr e => hx ⟨r, hr, e⟩
      rw [putQ_miss Q i _ hm, putQ_miss Q i _ hm, getD_set, getD_set]
      obtain ⟨r, hr, e⟩ := h
      rcases List.mem_cons.1 hr with rfl | hr
      · rw [hl, e]
        by_cases h3 : i < zs.length
        · rw [if_pos ⟨rfl, h3⟩, if_pos ⟨rfl, h3⟩]
        · rw [if_neg (fun e => h3 e.2), if_neg (fun e => h3 e.2), List.getD_eq_getElem?_getD, List.getD_eq_getElem?_getD, List.getElem?_eq_none (by omega), List.getElem?_eq_none (by omega)]
      · exact absurd e (hm r hr)
theorem putQ_congr (Q : List (Nat × Nat)) (i : Nat) (ys zs : List Nat) (hl : ys.length = zs.length) (h : ys.getD i 0 = zs.getD i 0) : (putQ ys Q).getD i 0 = (putQ zs Q).getD i 0 := by
  by_cases hx : ∃ r ∈ Q, r.1 = i
  · exact putQ_hit Q i ys zs hl hx
  · have hm : ∀ r ∈ Q, r.1 ≠ i := fun r hr e => hx ⟨r, hr, e⟩
    rw [putQ_miss Q i _ hm, putQ_miss Q i _ hm, h]
theorem putQ_twice (Q : List (Nat × Nat)) (m : Nat) (ys : List Nat) (i : Nat) : (putQ (putQ ys (Q.take m)) Q).getD i 0 = (putQ ys Q).getD i 0 := by
  by_cases hx : ∃ r ∈ Q, r.1 = i
  · exact putQ_hit Q i _ _ (putQ_len _ _) hx
  · have hm : ∀ r ∈ Q, r.1 ≠ i := fun r hr e => hx ⟨r, hr, e⟩
    rw [putQ_miss Q i _ hm, putQ_miss Q i _ hm, putQ_miss _ i _ (fun r hr => hm r (List.mem_of_mem_take hr))]
theorem appl_putQ (W : List (Int × Nat)) : ∀ xs : List Nat, appl xs W = putQ xs (wrQ W) := by
  induction W with
  | nil => intro xs; rfl
  | cons p W ih => intro xs; exact ih (xs.set p.1.toNat p.2)
/-- The stores among steps. -/
def stQ : List (Nat × Cl) → List (Nat × Nat)
  | [] => []
  | (_, .store a v) :: S => (a, v) :: stQ S
  | (_, .flush _) :: S => stQ S
  | (_, .fence) :: S => stQ S
theorem stQ_append : ∀ (S T : List (Nat × Cl)), stQ (S ++ T) = stQ S ++ stQ T
  | [], _ => rfl
  | (_, .store a v) :: S, T => by show (a, v) :: stQ (S ++ T) = _; rw [stQ_append S T]; rfl
  | (_, .flush _) :: S, T => stQ_append S T
  | (_, .fence) :: S, T => stQ_append S T
theorem seen_store (a v : Nat) (ws : List PW) : seenL (ws.modify a (·.store v)) = (seenL ws).set a v := by
  unfold seenL
  apply List.ext_getElem?
  intro i
  rw [List.getElem?_map, List.getElem?_modify]
  by_cases h : a = i
  · subst h
    by_cases hl : a < ws.length
    · rw [List.getElem?_set_self (by simpa using hl), List.getElem?_eq_getElem hl]; simp [PW.store]
    · rw [List.getElem?_eq_none (by omega), List.getElem?_eq_none (by simpa using (by omega : ws.length ≤ a))]; rfl
  · rw [List.getElem?_set_ne h, List.getElem?_map]; cases ws[i]? <;> simp [h]
theorem seen_flush (c : PW) : c.flush.seen = c.seen := by unfold PW.flush; split <;> rfl
theorem seen_fence (c : PW) : c.fence.seen = c.seen := by unfold PW.fence; split <;> rfl
theorem seen_does (cl : Cl) (ws : List PW) : seenL (cl.does ws) = putQ (seenL ws) (stQ [(0, cl)]) := by
  cases cl with
  | store a v => exact seen_store a v ws
  | flush l =>
    show seenL (turnFrom PW.flush (8 * l) 8 ws) = seenL ws
    unfold seenL
    apply List.ext_getElem?
    intro i
    rw [List.getElem?_map, List.getElem?_map, turnFrom_get]
    split
    · cases ws[i]? <;> simp [seen_flush]
    · rfl
  | fence =>
    show seenL (ws.map PW.fence) = seenL ws
    unfold seenL
    rw [List.map_map]
    congr 1
    funext c
    exact seen_fence c
theorem seen_all (S : List (Nat × Cl)) : ∀ ws, seenL (doAll S ws) = putQ (seenL ws) (stQ S) := by
  induction S with
  | nil => intro ws; rfl
  | cons s S ih =>
    intro ws
    show seenL (doAll S (s.2.does ws)) = _
    rw [ih, seen_does]
    obtain ⟨p, cl⟩ := s
    cases cl <;> rfl
theorem stQ_stores (p : Nat) (Q : List (Nat × Nat)) : stQ (storesS p Q) = Q := by
  induction Q with
  | nil => rfl
  | cons q Q ih => show (q.1, q.2) :: stQ (storesS p Q) = _; rw [ih]
theorem stQ_settle (M p : Nat) (ps : List Nat) : stQ (settleS M p ps) = [] := by
  unfold settleS
  rw [stQ_append]
  have : ∀ Z : List Nat, stQ (flushS p Z) = [] := by
    intro Z
    induction Z with
    | nil => rfl
    | cons z Z ih => exact ih
  rw [this]
  rfl
theorem stQ_mark (M p A v : Nat) : stQ (markS M p A v) = [(A, v)] := by
  show (A, v) :: stQ (settleS M p [A]) = _
  rw [stQ_settle]
theorem stQ_take (S : List (Nat × Cl)) (t : Nat) : ∃ m, stQ (S.take t) = (stQ S).take m := by
  have h := stQ_append (S.take t) (S.drop t)
  rw [List.take_append_drop] at h
  exact ⟨(stQ (S.take t)).length, by rw [h, List.take_left' rfl]⟩

/-! One transaction: stores, flushes of their lines, a fence. -/
def hitQ (Q : List (Nat × Nat)) (i : Nat) : Bool := Q.any (fun q => q.1 == i)
def stW (y z : Nat) (h : Bool) : PW := if h then ⟨y, z, true, false, false, 0⟩ else cleanW y
def stL (ys : List Nat) (Q : List (Nat × Nat)) : List PW := (List.range ys.length).map fun i => stW (ys.getD i 0) ((putQ ys Q).getD i 0) (hitQ Q i)
theorem stL_get (ys : List Nat) (Q : List (Nat × Nat)) (i : Nat) (h : i < ys.length) : (stL ys Q)[i]? = some (stW (ys.getD i 0) ((putQ ys Q).getD i 0) (hitQ Q i)) := by
  unfold stL; rw [List.getElem?_map, List.getElem?_range h]; rfl
theorem stL_len (ys : List Nat) (Q : List (Nat × Nat)) : (stL ys Q).length = ys.length := by simp [stL]
theorem cleanL_get (ys : List Nat) (i : Nat) (h : i < ys.length) : (cleanL ys)[i]? = some (cleanW (ys.getD i 0)) := by
  unfold cleanL; rw [List.getElem?_map, List.getElem?_eq_getElem h, List.getD_eq_getElem?_getD, List.getElem?_eq_getElem h]; rfl
theorem hitQ_not {Q : List (Nat × Nat)} {i : Nat} (h : hitQ Q i = false) : ∀ q ∈ Q, q.1 ≠ i := by
  unfold hitQ at h
  rw [List.any_eq_false] at h
  intro q hq e
  exact h q hq (by rw [e]; exact beq_self_eq_true _)
theorem stores_all (p : Nat) (ys : List Nat) (Q : List (Nat × Nat)) : ∀ j, j ≤ Q.length → doAll (storesS p (Q.take j)) (cleanL ys) = stL ys (Q.take j)
  | 0, _ => by
    refine ext_len (by rw [stL_len]; show (cleanL ys).length = _; rw [cleanL_len]) (fun i hi => ?_)
    rw [stL_len] at hi
    show (cleanL ys)[i]? = _
    rw [stL_get _ _ _ hi, cleanL_get _ _ hi]
    rfl
  | j + 1, h => by
    have hq : Q[j]? = some Q[j] := List.getElem?_eq_getElem (by omega)
    rw [take_snocN hq, storesS_snoc, doAll_append, stores_all p ys Q j (by omega)]
    show (stL ys (Q.take j)).modify Q[j].1 (·.store Q[j].2) = _
    refine ext_len (by rw [List.length_modify, stL_len, stL_len]) (fun i hi => ?_)
    rw [stL_len] at hi
    rw [List.getElem?_modify, stL_get _ _ _ hi, stL_get _ _ _ hi, putQ_append]
    have hh : hitQ (Q.take j ++ [Q[j]]) i = (hitQ (Q.take j) i || (Q[j].1 == i)) := by unfold hitQ; rw [List.any_append]; simp
    have hp : (putQ (putQ ys (Q.take j)) [Q[j]]).getD i 0 = if i = Q[j].1 ∧ Q[j].1 < ys.length then Q[j].2 else (putQ ys (Q.take j)).getD i 0 := by
      show ((putQ ys (Q.take j)).set Q[j].1 Q[j].2).getD i 0 = _
      rw [getD_set, putQ_len]
    rw [hh, hp]
    by_cases e : Q[j].1 = i
    · rw [if_pos ⟨e.symm, by omega⟩]
      simp only [e, beq_self_eq_true, Bool.or_true, if_true]
      cases hitQ (Q.take j) i <;> simp [stW, cleanW, PW.store]
    · rw [if_neg (fun x => e x.1.symm)]
      have : (Q[j].1 == i) = false := by rw [beq_eq_false_iff_ne]; exact e
      rw [this, Bool.or_false]
      simp [e]
theorem flush_all (p : Nat) : ∀ (Z : List Nat) (ws : List PW), Z.Pairwise (· < ·) → ∀ i, (doAll (flushS p Z) ws)[i]? = if i / 8 ∈ Z then (ws[i]?).map PW.flush else ws[i]?
  | [], ws, _, i => by rw [if_neg (by simp)]; rfl
  | z :: Z, ws, h, i => by
    rw [List.pairwise_cons] at h
    show (doAll (flushS p Z) (turnFrom PW.flush (8 * z) 8 ws))[i]? = _
    rw [flush_all p Z _ h.2 i, turnFrom_get]
    by_cases h1 : i / 8 = z
    · have h2 : ¬ i / 8 ∈ Z := fun hm => by have := h.1 _ hm; omega
      rw [if_neg h2, if_pos (by omega), if_pos (by rw [h1]; exact List.mem_cons_self ..)]
    · rw [if_neg (by omega : ¬ (8 * z ≤ i ∧ i < 8 * z + 8))]
      by_cases h2 : i / 8 ∈ Z
      · rw [if_pos h2, if_pos (List.mem_cons_of_mem _ h2)]
      · rw [if_neg h2, if_neg (by simp [h1, h2])]
/-- Behind a transaction all is sure. -/
theorem tx_all (M p p' : Nat) (ys : List Nat) (Q : List (Nat × Nat)) (hM : M = ys.length / 8) (h8 : ys.length % 8 = 0) : doAll (storesS p Q ++ settleS M p' (Q.map (·.1))) (cleanL ys) = cleanL (putQ ys Q) := by
  have hst := stores_all p ys Q Q.length (Nat.le_refl _)
  rw [List.take_length] at hst
  rw [doAll_append, hst]
  unfold settleS
  rw [doAll_append]
  show (doAll (flushS p' (linesOf M (Q.map (·.1)))) (stL ys Q)).map PW.fence = _
  refine ext_len (by rw [List.length_map, doAll_len, stL_len, cleanL_len, putQ_len]) (fun i hi => ?_)
  rw [cleanL_len, putQ_len] at hi
  rw [List.getElem?_map, flush_all p' _ _ (lines_rising _ _) i, stL_get _ _ _ hi, cleanL_get _ _ (by rw [putQ_len]; exact hi)]
  cases hh : hitQ Q i with
  | true =>
    have hm : i / 8 ∈ linesOf M (Q.map (·.1)) := by
      rw [lines_mem]
      unfold hitQ at hh
      rw [List.any_eq_true] at hh
      obtain ⟨q, hq, e⟩ := hh
      have e := eq_of_beq e
      exact ⟨by omega, q.1, List.mem_map.2 ⟨q, hq, rfl⟩, by rw [e]⟩
    rw [if_pos hm]
    simp [stW, PW.flush, PW.fence, cleanW]
  | false =>
    have := putQ_miss Q i ys (hitQ_not hh)
    rw [this]
    split <;> simp [stW, PW.flush, PW.fence, cleanW]
theorem tx_mark (M p A v : Nat) (ys : List Nat) (hM : M = ys.length / 8) (h8 : ys.length % 8 = 0) : doAll (markS M p A v) (cleanL ys) = cleanL (putQ ys [(A, v)]) := tx_all M p p ys [(A, v)] hM h8
/-- All steps of a begin. -/
theorem begin_all (M A : Nat) (W : List (Int × Nat)) (xs : List Nat) (hM : M = xs.length / 8) (h8 : xs.length % 8 = 0) :
    doAll (beginS M A W) (cleanL xs) = cleanL (putQ (putQ (putQ (putQ xs (sealQ A (recR W) (recR W).length)) [(A, markV (recR W))]) (wrQ W)) [(A, 0)]) := by
  unfold beginS
  rw [doAll_append, doAll_append, show doAll (sealS M A (recR W)) (cleanL xs) = cleanL (putQ xs (sealQ A (recR W) (recR W).length)) from tx_all M 1 2 xs _ hM h8, tx_mark M 3 A _ _ (by rw [putQ_len]; exact hM) (by rw [putQ_len]; exact h8)]
  unfold applyS
  rw [doAll_append, tx_all M 4 5 _ _ (by simp only [putQ_len]; exact hM) (by simp only [putQ_len]; exact h8), tx_mark M 6 A _ _ (by simp only [putQ_len]; exact hM) (by simp only [putQ_len]; exact h8)]
theorem stQ_begin (M A : Nat) (W : List (Int × Nat)) : stQ (beginS M A W) = sealQ A (recR W) (recR W).length ++ ((A, markV (recR W)) :: (wrQ W ++ [(A, 0)])) := by
  unfold beginS sealS applyS
  simp only [stQ_append, stQ_stores, stQ_settle, stQ_mark, List.append_assoc]
  rfl
end Go.Proofs.YtkalglcbmfhdfaaGreat
end
section
/- What the turns of workers make of words. -/
namespace Go.Proofs.YtkalglcbmfhdfaaGreat
open Go.RowKit Go.Grommet

def turnM (a b c : Int) (zs : List Nat) (t : Nat) : List Nat :=
  if zs.getD (264 + 208 * t) 0 = 0 then zs else if commB a b c zs (264 + 208 * t) = true then putQ (putQ zs (wrQ (commM zs (264 + 208 * t)))) [(264 + 208 * t, 0)] else putQ zs [(264 + 208 * t, 0)]
def turnsM (a b c : Int) (zs : List Nat) : Nat → List Nat
  | 0 => zs
  | t + 1 => turnM a b c (turnsM a b c zs t) t
theorem turnM_len (a b c : Int) (zs : List Nat) (t : Nat) : (turnM a b c zs t).length = zs.length := by
  unfold turnM; split
  · rfl
  · split
    · rw [putQ_len, putQ_len]
    · rw [putQ_len]
theorem turnsM_len (a b c : Int) (zs : List Nat) : ∀ t, (turnsM a b c zs t).length = zs.length
  | 0 => rfl
  | t + 1 => by rw [turnsM, turnM_len, turnsM_len a b c zs t]
/-- All steps of a run that resumed. -/
theorem res_all (a b c : Int) (zs : List Nat) (N t : Nat) (h0 : zs.getD (264 + 208 * t) 0 ≠ 0) (hN : zs.length = 8 * N) : doAll (resS N (264 + 208 * t) a b c zs) (cleanL zs) = cleanL (turnM a b c zs t) := by
  unfold turnM resS
  rw [if_neg h0]
  split
  · unfold applyS
    rw [doAll_append, tx_all N 4 5 zs _ (by omega) (by omega), tx_mark N 6 _ 0 _ (by rw [putQ_len]; omega) (by rw [putQ_len]; omega)]
  · rw [tx_mark N 6 _ 0 _ (by omega) (by omega)]
/-- Where a turn turns nothing. -/
theorem turnM_miss {a b c : Nat} (hm : mayB (a : Int) (b : Int) (c : Int) = true) (zs : List Nat) (t i : Nat) (hi : 264 ≤ i ∧ i < 264 + 208 * a) (hA : i ≠ 264 + 208 * t) : (turnM (a : Int) (b : Int) (c : Int) zs t).getD i 0 = zs.getD i 0 := by
  unfold turnM
  split
  · rfl
  · split
    · rename_i hc
      rw [putQ_miss _ i _ (fun q hq => by obtain rfl := List.mem_singleton.1 hq; exact fun e => hA e.symm), putQ_miss _ i _ (fun q hq => ?_)]
      obtain ⟨p, hp, rfl⟩ := List.mem_map.1 hq
      have h1 := comm_ok hm hc p hp
      show p.1.toNat ≠ i
      intro e
      apply h1.2
      omega
    · rw [putQ_miss _ i _ (fun q hq => by obtain rfl := List.mem_singleton.1 hq; exact fun e => hA e.symm)]
theorem turnM_zero (a b c : Int) (zs : List Nat) (t : Nat) (hl : 264 + 208 * t < zs.length) : (turnM a b c zs t).getD (264 + 208 * t) 0 = 0 := by
  have key : ∀ ys : List Nat, ys.length = zs.length → (putQ ys [(264 + 208 * t, 0)]).getD (264 + 208 * t) 0 = 0 := by
    intro ys h
    show (ys.set (264 + 208 * t) 0).getD (264 + 208 * t) 0 = 0
    rw [getD_set, if_pos ⟨rfl, by omega⟩]
  unfold turnM
  split
  · assumption
  · split
    · exact key _ (putQ_len _ _)
    · exact key _ rfl
/-- The areas of those whose turn has not come stand as they stood. -/
theorem turnsM_later {a b c : Nat} (hm : mayB (a : Int) (b : Int) (c : Int) = true) (zs : List Nat) : ∀ (t : Nat), t ≤ a → ∀ i, 264 + 208 * t ≤ i → i < 264 + 208 * a → (turnsM (a : Int) (b : Int) (c : Int) zs t).getD i 0 = zs.getD i 0
  | 0, _, _, _, _ => rfl
  | t + 1, ht, i, h1, h2 => by
    rw [turnsM, turnM_miss hm _ t i ⟨by omega, h2⟩ (by omega), turnsM_later hm zs t (by omega) i (by omega) h2]
theorem turnsM_done {a b c : Nat} (hm : mayB (a : Int) (b : Int) (c : Int) = true) (zs : List Nat) (hl : 264 + 208 * a ≤ zs.length) : ∀ (t : Nat), t ≤ a → ∀ j, j < t → (turnsM (a : Int) (b : Int) (c : Int) zs t).getD (264 + 208 * j) 0 = 0
  | 0, _, j, hj => by omega
  | t + 1, ht, j, hj => by
    rw [turnsM]
    by_cases e : j = t
    · subst e
      exact turnM_zero _ _ _ _ _ (by rw [turnsM_len]; omega)
    · rw [turnM_miss hm _ t _ ⟨by omega, by omega⟩ (by omega)]
      exact turnsM_done hm zs hl t (by omega) j (by omega)
theorem rest_same {xs ys : List Nat} {A : Nat} (hl : xs.length = ys.length) (hA : A + 208 ≤ xs.length) (h : ∀ i, A ≤ i → i < A + 208 → xs.getD i 0 = ys.getD i 0) : restL xs A = restL ys A := by
  unfold restL
  apply List.ext_getElem?
  intro k
  rw [List.getElem?_take, List.getElem?_take, List.getElem?_drop, List.getElem?_drop]
  split
  · have := h (A + 8 + k) (by omega) (by omega)
    rw [List.getD_eq_getElem?_getD, List.getD_eq_getElem?_getD, List.getElem?_eq_getElem (by omega), List.getElem?_eq_getElem (by omega)] at this
    rw [List.getElem?_eq_getElem (by omega), List.getElem?_eq_getElem (by omega)]
    exact congrArg some this
  · rfl
theorem comm_same {a b c : Int} {xs ys : List Nat} {A : Nat} (hl : xs.length = ys.length) (hA : A + 208 ≤ xs.length) (h : ∀ i, A ≤ i → i < A + 208 → xs.getD i 0 = ys.getD i 0) : commB a b c xs A = commB a b c ys A ∧ commM xs A = commM ys A := by
  have hr := rest_same hl hA h
  unfold commB commM
  rw [hr, h A (Nat.le_refl _) (by omega)]
  exact ⟨rfl, rfl⟩
theorem lines_eq (M : Nat) (ps zs : List Nat) (hz : zs.Pairwise (· < ·)) (hm : ∀ x, x ∈ zs ↔ x < M ∧ ∃ p ∈ ps, p / 8 = x) : linesOf M ps = zs := by
  have h := rising_eq ((linesOf M ps).map (fun l : Nat => (l : Int))) (zs.map (fun l : Nat => (l : Int))) (by rw [List.pairwise_map]; exact (lines_rising M ps).imp (fun h => by omega)) (by rw [List.pairwise_map]; exact hz.imp (fun h => by omega)) (fun x => by
    constructor
    · intro hx
      obtain ⟨l, hl, rfl⟩ := List.mem_map.1 hx
      exact List.mem_map.2 ⟨l, (hm l).2 (lines_mem.1 hl), rfl⟩
    · intro hx
      obtain ⟨l, hl, rfl⟩ := List.mem_map.1 hx
      exact List.mem_map.2 ⟨l, lines_mem.2 ((hm l).1 hl), rfl⟩)
  have := congrArg (List.map Int.toNat) h
  rw [List.map_map, List.map_map, show (Int.toNat ∘ fun l : Nat => (l : Int)) = id from rfl, List.map_id, List.map_id] at this
  exact this
theorem lines_one (M A : Nat) (h : A / 8 < M) : linesOf M [A] = [A / 8] :=
  lines_eq M [A] [A / 8] (by simp) (fun x => by
    simp only [List.mem_singleton]
    constructor
    · rintro rfl; exact ⟨h, A, rfl, rfl⟩
    · rintro ⟨_, p, rfl, rfl⟩; rfl)
theorem markS_three (N p A v : Nat) (h : A / 8 < N) : (markS N p A v).length = 3 := by
  unfold markS settleS
  rw [lines_one N A h]
  rfl
theorem res_len (a b c : Int) (zs : List Nat) (N A : Nat) (h : A / 8 < N) : (resS N A a b c zs).length ≤ N + 100 := by
  unfold resS
  split
  · rename_i hc
    have h1 := comm_len hc
    have h2 := settleS_len N 5 ((wrQ (commM zs A)).map (·.1))
    have h3 : (wrQ (commM zs A)).length = (commM zs A).length := by unfold wrQ; rw [List.length_map]
    unfold applyS
    rw [List.length_append, List.length_append, storesS_len, markS_three N 6 A 0 h]
    omega
  · rw [markS_three N 6 A 0 h]; omega
/-- Behind some turns all words outside of areas are as Over has them. -/
theorem turns_over {a b c : Nat} (hm : mayB (a : Int) (b : Int) (c : Int) = true) (zs : List Nat) (hl : 264 + 208 * a ≤ zs.length) : ∀ t, t ≤ a → ∀ i, (i < 264 ∨ 264 + 208 * a ≤ i) → (turnsM (a : Int) (b : Int) (c : Int) zs t).getD i 0 = (overS (a : Int) (b : Int) (c : Int) zs t).getD i 0
  | 0, _, _, _ => rfl
  | t + 1, ht, i, hi => by
    have ih := turns_over hm zs hl t (by omega) i hi
    have hys := turnsM_len (a : Int) (b : Int) (c : Int) zs t
    have hov := overS_length (a : Int) (b : Int) (c : Int) zs t
    have hA : i ≠ 264 + 208 * t := by omega
    obtain ⟨hcB, hcM⟩ := comm_same (a := (a : Int)) (b := (b : Int)) (c := (c : Int)) (xs := turnsM (a : Int) (b : Int) (c : Int) zs t) (ys := zs) (A := 264 + 208 * t) hys (by omega) (fun k h1 h2 => turnsM_later hm zs t (by omega) k (by omega) (by omega))
    have h0 := turnsM_later hm zs t (by omega) (264 + 208 * t) (Nat.le_refl _) (by omega)
    rw [turnsM, overS, zap_get _ _ _ _ (by split <;> simp only [appl_length, hov] <;> omega), if_neg (by omega)]
    unfold turnM
    by_cases hz : (turnsM (a : Int) (b : Int) (c : Int) zs t).getD (264 + 208 * t) 0 = 0
    · rw [if_pos hz]
      have hcf : commB (a : Int) (b : Int) (c : Int) zs (264 + 208 * t) = false := by
        unfold commB
        rw [← h0, hz]; rfl
      rw [hcf]
      exact ih
    · rw [if_neg hz, hcB, hcM]
      have hmiss : ∀ ys : List Nat, (putQ ys [(264 + 208 * t, 0)]).getD i 0 = ys.getD i 0 := fun ys => putQ_miss _ i _ (fun q hq => by obtain rfl := List.mem_singleton.1 hq; exact fun e => hA e.symm)
      by_cases hc : commB (a : Int) (b : Int) (c : Int) zs (264 + 208 * t) = true
      · rw [if_pos hc, if_pos hc, hmiss, appl_putQ]
        exact putQ_congr _ i _ _ (by rw [hys, hov]) ih
      · rw [if_neg hc, if_neg hc, hmiss]
        exact ih
theorem ok_settle (M p N : Nat) (ps : List Nat) (h : M = N / 8) : ∀ s ∈ settleS M p ps, s.2.ok N := by
  intro s hs
  unfold settleS at hs
  rcases List.mem_append.1 hs with hs | hs
  · unfold flushS at hs
    obtain ⟨l, hl, rfl⟩ := List.mem_map.1 hs
    show l < N / 8
    have := (lines_mem.1 hl).1
    omega
  · obtain rfl := List.mem_singleton.1 hs; trivial
theorem ok_stores (p N : Nat) (Q : List (Nat × Nat)) (h : ∀ q ∈ Q, q.1 < N ∧ q.2 < 18446744073709551616) : ∀ s ∈ storesS p Q, s.2.ok N := by
  intro s hs
  unfold storesS at hs
  obtain ⟨q, hq, rfl⟩ := List.mem_map.1 hs
  exact h q hq
theorem ok_res {a b c : Nat} (hm : mayB (a : Int) (b : Int) (c : Int) = true) (zs : List Nat) (N K t : Nat) (hN : N = K / 8) (hl : zs.length = K) (hK : 280 + 208 * a + 16 * b + 8 * c ≤ K) (ht : t < a) (hs : ∀ n ∈ zs, n < 18446744073709551616) : ∀ s ∈ resS N (264 + 208 * t) (a : Int) (b : Int) (c : Int) zs, s.2.ok K := by
  have hmark : ∀ s ∈ markS N 6 (264 + 208 * t) 0, s.2.ok K := by
    intro s hs
    unfold markS at hs
    rcases List.mem_cons.1 hs with rfl | hs
    · exact ⟨by omega, by omega⟩
    · exact ok_settle N 6 K _ hN s hs
  intro s hs'
  unfold resS at hs'
  split at hs'
  · rename_i hc
    have hw : ∀ q ∈ wrQ (commM zs (264 + 208 * t)), q.1 < K ∧ q.2 < 18446744073709551616 := by
      intro q hq
      unfold wrQ at hq
      obtain ⟨p, hp, rfl⟩ := List.mem_map.1 hq
      have h1 := (comm_ok hm hc p hp).1
      refine ⟨?_, comm_small _ hs p hp⟩
      show p.1.toNat < K
      omega
    unfold applyS at hs'
    simp only [List.mem_append] at hs'
    rcases hs' with (hs' | hs') | hs'
    · exact ok_stores 4 K _ hw s hs'
    · exact ok_settle N 5 K _ hN s hs'
    · exact hmark s hs'
  · exact hmark s hs'
/-- Turns of those whose commit word is 0. -/
theorem turns_skip (a b c : Int) (zs : List Nat) (s : Nat) : ∀ d, (∀ i, s ≤ i → i < s + d → (turnsM a b c zs s).getD (264 + 208 * i) 0 = 0) → turnsM a b c zs (s + d) = turnsM a b c zs s
  | 0, _ => rfl
  | d + 1, h => by
    have ih := turns_skip a b c zs s d (fun i h1 h2 => h i h1 (by omega))
    show turnM a b c (turnsM a b c zs (s + d)) (s + d) = _
    rw [ih]
    unfold turnM
    rw [if_pos (h (s + d) (by omega) (by omega))]
theorem putQ_small {Q : List (Nat × Nat)} (hQ : ∀ q ∈ Q, q.2 < 18446744073709551616) : ∀ ys : List Nat, (∀ n ∈ ys, n < 18446744073709551616) → ∀ n ∈ putQ ys Q, n < 18446744073709551616 := by
  induction Q with
  | nil => intro ys h; exact h
  | cons q Q ih =>
    intro ys h
    refine ih (fun r hr => hQ r (List.mem_cons_of_mem _ hr)) (ys.set q.1 q.2) (fun n hn => ?_)
    rcases List.mem_or_eq_of_mem_set hn with h' | h'
    · exact h n h'
    · rw [h']; exact hQ q (List.mem_cons_self ..)
theorem turnsM_small (a b c : Int) (zs : List Nat) (h : ∀ n ∈ zs, n < 18446744073709551616) : ∀ t, ∀ n ∈ turnsM a b c zs t, n < 18446744073709551616
  | 0 => h
  | t + 1 => by
    have ih := turnsM_small a b c zs h t
    have h0 : ∀ q ∈ [(264 + 208 * t, 0)], q.2 < 18446744073709551616 := fun q hq => by
      obtain rfl := List.mem_singleton.1 hq
      show 0 < _
      decide
    rw [turnsM]
    unfold turnM
    split
    · exact ih
    · split
      · refine putQ_small h0 _ (putQ_small (fun q hq => ?_) _ ih)
        unfold wrQ at hq
        obtain ⟨p, hp, rfl⟩ := List.mem_map.1 hq
        exact comm_small _ ih p hp
      · exact putQ_small h0 _ ih
theorem of_same {xs ys : List Nat} (hl : xs.length = ys.length) (h : ∀ i, i < 4 → xs.getD i 0 = ys.getD i 0) : ofV xs = ofV ys := by
  unfold ofV
  rw [hl, h 0 (by omega), h 1 (by omega), h 2 (by omega), h 3 (by omega)]
end Go.Proofs.YtkalglcbmfhdfaaGreat
end
