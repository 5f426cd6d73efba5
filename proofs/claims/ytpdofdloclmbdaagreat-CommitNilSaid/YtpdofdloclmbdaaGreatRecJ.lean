/- The document's record: Read. -/
import Derived.Test.YtpdofdloclmbdaaGreatRecI
namespace Go.Proofs.YtpdofdloclmbdaaGreat
open Go.RowKit Go.Grommet

set_option maxHeartbeats 1000000 in
theorem RefRead_cut (base : Nat) (a b c : Int) (ad : Option Addr) (l cc : Nat) (xs : List Nat) (w : World) (hx : Words w ad l xs) (h : cutB xs = false) :
    Calls Tryz.prog 102 #[gv a b c, .slice ad l cc] w (ReadIs base a b c xs w) := by
  have HR : ∀ w', w.grownBy w' none → ReadIs base a b c xs w (.returned (.tuple #[.slice none 0 0, .int .i64 4])) w' := fun w' hg => .inr ⟨by unfold readB; rw [h]; rfl, rfl, hg⟩
  replace HR := Lib.hid HR
  unfold gv
  have hg := World.grownBy_alloc w (.cells #[.int .i64 a, .int .i64 b, .int .i64 c] 28) none
  have HX := Lib.hid hx.len
  have h' : ¬ (0 < l ∧ xs.getD 0 0 ≤ 96 ∧ 2 + 2 * xs.getD 0 0 ≤ l) := by
    rw [← HX.out]
    unfold cutB at h
    rwa [decide_eq_false_iff_not] at h
  have Hg := Lib.hid hg
  by_cases h0 : 0 < l
  · obtain ⟨q, o, rfl, c0⟩ := (hx.keep hg (by simp)).cell 0 h0
    rw [Nat.add_zero] at c0
    obtain ⟨n, Hn⟩ : ∃ n, Hid (n = xs.getD 0 0) := ⟨_, Lib.hid rfl⟩
    rw [← Hn.out] at c0 h'
    have e1 : ¬ (l : Int) < 1 := by omega
    have e5 : (0 : Int) < (l : Int) := by omega
    by_cases h1 : n ≤ 96
    · have e2 : ¬ (96 : Int) < (n : Int) := by omega
      have e4 : IntKind.i64.wrap (n : Int) = (n : Int) := IntWalk.i64_in _ ⟨by omega, by omega⟩
      have e3 : (l : Int) < 2 + 2 * (n : Int) := by omega
      clear hx h h' hg
      go_enter Tryz.func102, Tryz.ntmps102
      go_wp2
      go_ret2
      exact HR.out _ Hg.out
    · have e2 : (96 : Int) < (n : Int) := by omega
      clear hx h h' hg
      go_enter Tryz.func102, Tryz.ntmps102
      go_wp2
      go_ret2
      exact HR.out _ Hg.out
  · obtain rfl : l = 0 := by omega
    clear hx h h' hg h0
    go_enter Tryz.func102, Tryz.ntmps102
    go_wp2
    go_ret2
    exact HR.out _ Hg.out

theorem stand_big {a b c x : Int} (h : 65536 ≤ x ∨ x < 0) : standB a b c x = false := by
  have hz : whereV a b c x = (0, 0, 0, 0) := by
    cases hm : mayB a b c with
    | false => exact wh_zero (.inl (by rw [hm]; simp))
    | true =>
      have := mayB_yes hm
      refine wh_zero ?_
      rcases h with h | h
      · exact .inr (.inr (by omega))
      · exact .inr (.inl h)
  unfold standB
  rw [hz]
  simp
theorem read_big {a b c : Int} {xs : List Nat} {j n : Nat} (hn : n = xs.getD 0 0) (hj : j < n) (hs : xs.getD (1 + 2 * j) 0 < 18446744073709551616) (h : 65536 ≤ xs.getD (1 + 2 * j) 0) : readB a b c xs = false := by
  subst hn
  have hm : mayW a b c (writesR xs (xs.getD 0 0)) = false := by
    unfold mayW
    rw [decide_eq_false_iff_not]
    rintro ⟨_, _, hp⟩
    have := (hp j (by rw [writesR_length]; exact hj)).1
    have e : (writesR xs (xs.getD 0 0)).getD j (0, 0) = (si (xs.getD (1 + 2 * j) 0), xs.getD (2 + 2 * j) 0) := by
      unfold writesR
      rw [List.getD_eq_getElem?_getD, List.getElem?_map, List.getElem?_range hj]
      rfl
    rw [e, stand_big] at this
    · cases this
    · show 65536 ≤ si _ ∨ si _ < 0
      unfold si
      split
      · left; omega
      · right; omega
  unfold readB
  rw [hm, Bool.and_false]

set_option maxRecDepth 100000 in
set_option maxHeartbeats 1000000 in
theorem RefRead_at (base : Nat) (a b c : Int) (q o l cc : Nat) (xs : List Nat) (w : World) (hx : Words w (some ⟨q, o, none⟩) l xs) (hlc : l ≤ cc) (h : cutB xs = true) (hb : base ≤ w.heap.size) :
    Calls Tryz.prog 102 #[gv a b c, .slice (some ⟨q, o, none⟩) l cc] w (ReadIs base a b c xs w) := by
  obtain ⟨h0, h1, h2⟩ := cutB_yes h
  have hl := hx.len
  obtain ⟨n, Hn⟩ : ∃ n, Hid (n = xs.getD 0 0) := ⟨_, Lib.hid rfl⟩
  rw [← Hn.out] at h1 h2
  have HX := Lib.hid hx
  obtain ⟨k, Hk⟩ : ∃ k, Hid (k = 1 + 2 * n) := ⟨_, Lib.hid rfl⟩
  have hkl : k < l := by rw [Hk.out]; omega
  have hRB : Hid (readB a b c xs = (decide (xs.getD k 0 = sumN (xs.take k)) && mayW a b c (writesR xs n))) := Lib.hid (by unfold readB; rw [h, ← Hn.out, ← Hk.out]; rfl)
  obtain ⟨S, HS⟩ : ∃ S, Hid (S = xs.getD k 0) := ⟨_, Lib.hid rfl⟩
  rw [← HS.out] at hRB
  obtain ⟨U, HU⟩ : ∃ U, Hid (U = sumN (xs.take k)) := ⟨_, Lib.hid rfl⟩
  rw [← HU.out] at hRB
  have hWk : Words w (some ⟨q, o, none⟩) k (xs.take k) := ⟨by rw [List.length_take, hl]; omega, fun n hn => hx.small n (List.mem_of_mem_take hn), by
    have := hx.at_
    rw [← List.take_append_drop k xs, List.map_append] at this
    exact at_prefix this, by have := hx.fits; omega⟩
  have HWk := Lib.hid hWk
  have hsl := fun wx => slice_to_lit (P := Tryz.prog) 33 44 Tryz.underlying33 Tryz.sizeOf44 q o l cc k (by omega) wx
  have hkk : k ≤ 200 := by rw [Hk.out]; omega
  have HOf : Hid (∀ wx, Words wx (some ⟨q, o, none⟩) k (xs.take k) → Calls Tryz.prog 100 #[.slice (some ⟨q, o, none⟩) k cc] wx fun e w' => e = .returned (.int .u64 (U : Int)) ∧ wx.grownBy w' none) := Lib.hid (fun wx h' => by
    refine (RefOf_any (some ⟨q, o, none⟩) k cc (xs.take k) wx h').mono ?_
    rintro e w' ⟨rfl, rfl⟩
    exact ⟨by rw [HU.out], World.grownBy.refl _ _⟩)
  obtain ⟨G, hG⟩ : ∃ G, Hid (G = w.heap.size) := ⟨_, Lib.hid rfl⟩
  have HO : Own w (w.alloc (.cells #[.int .i64 a, .int .i64 b, .int .i64 c] 28)) ([boxP G 28 #[.int .i64 a, .int .i64 b, .int .i64 c]] ++ [rowP 92 2 (.slice none 0 0) 0 (icells (writesR xs 0))]) := by
    rw [hG.out]
    exact ((Own.nil w).addBox 28 #[.int .i64 a, .int .i64 b, .int .i64 c]).add (P := rowP 92 2 (.slice none 0 0) 0 (icells (writesR xs 0))) (F := fun _ => False) ⟨World.ownsRow_nil _ _ _ _, ⟨fun i hi => (by cases hi), fun i hi => False.elim hi⟩⟩ (fun i hi => False.elim hi) (World.grownBy.refl _ _)
  have hg := World.grownBy_alloc w (.cells #[.int .i64 a, .int .i64 b, .int .i64 c] 28) none
  obtain ⟨q', o', he, c0⟩ := (hx.keep hg (by simp)).cell 0 (by omega)
  cases he
  rw [Nat.add_zero, ← Hn.out] at c0
  have e1 : ¬ (l : Int) < 1 := by omega
  have e5 : (0 : Int) < (l : Int) := by omega
  have e2 : ¬ (96 : Int) < (n : Int) := by omega
  have e4 : IntKind.i64.wrap (n : Int) = (n : Int) := IntWalk.i64_in _ ⟨by omega, by omega⟩
  have e3 : ¬ (l : Int) < 2 + 2 * (n : Int) := by omega
  have ek : (1 : Int) + 2 * (n : Int) = (k : Int) := by rw [Hk.out]; omega
  have ekl : (k : Int) < (l : Int) := by omega
  replace HO := Lib.hid HO
  have HXl := Lib.hid hl
  unfold gv
  clear hx h hWk hl h2 hg
  go_enter Tryz.func102, Tryz.ntmps102
  go_wp2_with fail
  rw [← hG.out]
  go_loopw [7, 8] (fun lv i wr => ∃ j : Nat, j ≤ n ∧ i = .int .i64 (j : Int) ∧ ∃ (ad : Option Addr) (cap : Nat), lv = .slice ad j cap ∧ Hid (Own w wr [boxP G 28 #[.int .i64 a, .int .i64 b, .int .i64 c], rowP 92 2 (.slice ad j cap) j (icells (writesR xs j))])) (fun _ i _ => n - (intOf i).toNat)
  case atStart => exact ⟨0, Nat.zero_le _, rfl, none, 0, rfl, HO⟩
  case round =>
    clear HO c0
    obtain ⟨j, hj, rfl, ad, cap, rfl, HO⟩ := hrel
    have j0 : (0 : Int) ≤ (j : Int) := by omega
    by_cases hlt : j < n
    · have hlt' : (j : Int) < (n : Int) := by omega
      obtain ⟨i, Hi⟩ : ∃ i, Hid (i = 1 + 2 * j) := ⟨_, Lib.hid rfl⟩
      have hik : i + 1 < k := by rw [Hi.out, Hk.out]; omega
      have ei : (1 : Int) + 2 * (j : Int) = (i : Int) := by rw [Hi.out]; omega
      have ei2 : (2 : Int) + 2 * (j : Int) = ((i + 1 : Nat) : Int) := by rw [Hi.out]; omega
      obtain ⟨i2, Hi2⟩ : ∃ i2, Hid (i2 = i + 1) := ⟨_, Lib.hid rfl⟩
      rw [← Hi2.out] at ei2
      have eil : (i : Int) < (l : Int) := by omega
      have ei2l : (i2 : Int) < (l : Int) := by rw [Hi2.out]; omega
      have hWr := HX.out.keep HO.out.grown (by simp)
      obtain ⟨q', o', he, c1⟩ := hWr.cell i (by omega)
      cases he
      obtain ⟨q', o', he, c2⟩ := hWr.cell i2 (by rw [Hi2.out]; omega)
      cases he
      have s1 := hWr.get i (by omega)
      have HT : Hid (writesR xs (j + 1) = writesR xs j ++ [(si (xs.getD i 0), xs.getD i2 0)]) := Lib.hid (by rw [writesR_succ, Hi2.out, Hi.out, show 1 + 2 * j + 1 = 2 + 2 * j from by omega])
      have HBig : Hid (65536 ≤ xs.getD i 0 → readB a b c xs = false) := Lib.hid (fun hbig => by
        rw [Hi.out] at hbig s1
        exact read_big Hn.out hlt s1 hbig)
      obtain ⟨A, HA⟩ : ∃ A, Hid (A = xs.getD i 0) := ⟨_, Lib.hid rfl⟩
      obtain ⟨V, HV⟩ : ∃ V, Hid (V = xs.getD i2 0) := ⟨_, Lib.hid rfl⟩
      rw [← HA.out] at c1 HT HBig
      rw [← HV.out] at c2 HT
      clear s1 hWr
      by_cases hbig : 65536 ≤ A
      · have gb : (65536 : Int) ≤ (A : Int) := by omega
        have HR : ReadIs base a b c xs w (.returned (.tuple #[.slice none 0 0, .int .i64 4])) wr := .inr ⟨HBig.out hbig, rfl, HO.out.grown⟩
        replace HR := Lib.hid HR
        clear HO hbig
        go_wp2
        go_ret2
        exact HR.out
      · have gb : ¬ (65536 : Int) ≤ (A : Int) := by omega
        have wA : IntKind.i64.wrap (A : Int) = (A : Int) := IntWalk.i64_in _ ⟨by omega, by omega⟩
        have hsi : si A = (A : Int) := by unfold si; rw [if_pos (by omega)]
        rw [hsi] at HT
        have hrow := Own.row HO.out 1 rfl
        clear hsi hbig
        go_wp2_with (at_builtin; refine appI rfl _ _ rfl 0 _ j (writesR xs j) rfl (World.ownsRow.alloc hrow _) ⟨wr.heap.size, 0, none⟩ 1 1 [((A : Int), V)] rfl rfl (at_of_row (heap_alloc_new wr _)) ?a2 (Nat.zero_le _) ?_)
        case a2 => omega
        intro ad2 cap2 w2 hrow2 hg2 hnew2
        have hOx := Own.append (Own.quiet HO.out (World.grownBy_alloc wr (.cells #[.int .i64 (A : Int), .int .u64 (V : Int)] 92) none)) 1 rfl hrow2 hg2 (fun g hg => by have := hnew2 g hg; rw [World.size_alloc]; exact this)
        have hOy : Hid (Own w w2 [boxP G 28 #[.int .i64 a, .int .i64 b, .int .i64 c], rowP 92 2 (.slice ad2 (j + 1) cap2) (j + 1) (icells (writesR xs (j + 1)))]) := Lib.hid (by rw [HT.out]; exact hOx)
        clear hOx hrow2 hg2 hnew2 hrow c1 c2
        go_wp2
        go_roundw
        case rel => exact ⟨j + 1, by omega, by go_num, ad2, cap2, rfl, hOy⟩
        case measure => simp [intOf]; omega
    · obtain rfl : j = n := by omega
      have hlt' : ¬ (j : Int) < (j : Int) := by omega
      obtain ⟨q', o', he, hc1⟩ := (HX.out.keep HO.out.grown (by simp)).cell k hkl
      cases he
      rw [← HS.out] at hc1
      have hc1 : CellS q (o + k) (.int .u64 (S : Int)) wr := hc1
      have hGw : GeoR G a b c wr := Own.box HO.out 0 rfl
      obtain ⟨hatW, hLn, _⟩ := Own.pairs HO.out 1 rfl
      have hgr := HO.out.grown
      have hrow := Own.row HO.out 1 rfl
      have hnew := Own.rowNew HO.out 1 rfl
      have HMy := Lib.hid (fun wx (hx : At wx ad (icells (writesR xs j))) => RefMay_any a b c ad j cap (writesR xs j) wx hx hLn)
      unfold gv at HMy
      have wr1 : IntKind.i64.wrap (2 * (j : Int)) = 2 * (j : Int) := IntWalk.i64_in _ ⟨by omega, by omega⟩
      have wr2 : IntKind.i64.wrap (k : Int) = (k : Int) := IntWalk.i64_in _ ⟨by omega, by omega⟩
      have wr3 : (0 : Int) ≤ (k : Int) := by omega
      by_cases hSU : S = U
      · subst hSU
        have e7 : ((S : Int) != (S : Int)) = false := by simp
        cases hmw : mayW a b c (writesR xs j) with
        | true =>
          rw [hmw] at HMy
          have HR : ∀ w', wr.grownBy w' none → ReadIs base a b c xs w (.returned (.tuple #[.slice ad j cap, .int .i64 0])) w' := fun w' hg' => .inl ⟨by rw [hRB.out, hmw]; simp, ad, cap, by rw [← Hn.out], by
            rw [← Hn.out]
            exact row_base (hrow.kept hg' (by
              cases (Value.slice ad j cap).ownBlock with
              | none => exact .inl rfl
              | some t => exact .inr (by simp))) (fun i hi => Nat.le_trans hb (hnew i hi)), grown_trans hgr hg'⟩
          replace HR := Lib.hid HR
          clear hrow hnew HO hLn hmw
          go_wp2_with fail
          refine wp_region_held_drew (S := fun w' => CellS q (o + k) (.int .u64 (S : Int)) w' ∧ GeoR G a b c w') (by kernel_rfl) (⟨hc1.keep (grown_drew (World.grownBy.refl _ none)), hGw.keep (grown_drew (World.grownBy.refl _ none))⟩) (fun hS => ?_)
          refine wpAnyH_take (i := 0) (oi := { dst := some 59, op := Op.move (Operand.tmp 1), type := 33, pos := "ref.go:66", after := #[], guard := none }) (v := ?vja102r12o0) rfl (by kernel_rfl) (by kernel_rfl) (by kernel_rfl) (fun _ _ _ h => h) (Or.inl ⟨by rfl, ?hja102r12o0⟩) hS ?_
          case hja102r12o0 => (intro wx hx; skip; go_simp; (try with_reducible rfl))
          try simp only [Act.put, List.setIfInBounds_toArray, List.set_cons_zero, List.set_cons_succ]
          refine wpAnyH_take (i := 1) (oi := { dst := some 60, op := Op.move (Operand.tmp 6), type := 3, pos := "ref.go:66", after := #[], guard := none }) (v := ?vja102r12o1) rfl (by kernel_rfl) (by kernel_rfl) (by kernel_rfl) (fun _ _ _ h => h) (Or.inl ⟨by rfl, ?hja102r12o1⟩) hS ?_
          case hja102r12o1 => (intro wx hx; skip; go_simp; (try with_reducible rfl))
          try simp only [Act.put, List.setIfInBounds_toArray, List.set_cons_zero, List.set_cons_succ]
          refine wpAnyH_take (i := 2) (oi := { dst := some 61, op := Op.binOp BinOp.mul 3 (Operand.const (Value.int IntKind.i64 2)) (Operand.tmp 60) 3, type := 3, pos := "ref.go:66", after := #[{ on := 1, ground := Ground.data }], guard := none }) (v := ?vja102r12o2) rfl (by kernel_rfl) (by kernel_rfl) (by kernel_rfl) (fun _ _ _ h => h) (Or.inl ⟨by rfl, ?hja102r12o2⟩) hS ?_
          case hja102r12o2 => (intro wx hx; skip; go_simp; (try with_reducible rfl))
          try simp only [Act.put, List.setIfInBounds_toArray, List.set_cons_zero, List.set_cons_succ]
          refine wpAnyH_take (i := 3) (oi := { dst := some 62, op := Op.binOp BinOp.add 3 (Operand.const (Value.int IntKind.i64 1)) (Operand.tmp 61) 3, type := 3, pos := "ref.go:66", after := #[{ on := 2, ground := Ground.data }], guard := none }) (v := ?vja102r12o3) rfl (by kernel_rfl) (by kernel_rfl) (by kernel_rfl) (fun _ _ _ h => h) (Or.inl ⟨by rfl, ?hja102r12o3⟩) hS ?_
          case hja102r12o3 => (intro wx hx; skip; go_simp; (try with_reducible rfl))
          try simp only [Act.put, List.setIfInBounds_toArray, List.set_cons_zero, List.set_cons_succ]
          refine wpAnyH_take (i := 4) (oi := { dst := some 63, op := Op.indexAddr 33 (Operand.tmp 59) (Operand.tmp 62), type := 0, pos := "ref.go:66", after := #[{ on := 0, ground := Ground.data }, { on := 3, ground := Ground.data }], guard := none }) (v := ?vja102r12o4) rfl (by kernel_rfl) (by kernel_rfl) (by kernel_rfl) (fun _ _ _ h => h) (Or.inl ⟨by rfl, ?hja102r12o4⟩) hS ?_
          case hja102r12o4 => (intro wx hx; skip; go_simp; (try with_reducible rfl))
          try simp only [Act.put, List.setIfInBounds_toArray, List.set_cons_zero, List.set_cons_succ]
          refine wpAnyH_take (i := 5) (oi := { dst := some 64, op := Op.load 44 (Operand.tmp 63), type := 44, pos := "ref.go:66", after := #[{ on := 4, ground := Ground.data }], guard := none }) (v := ?vja102r12o5) rfl (by kernel_rfl) (by kernel_rfl) (by kernel_rfl) (fun _ _ _ h => h) (Or.inl ⟨by rfl, ?hja102r12o5⟩) hS ?_
          case hja102r12o5 => (intro wx hx; obtain ⟨hx0, hx1⟩ := hx; obtain ⟨y0, y1, y2⟩ := GeoR.cells hx1; unfold CellS at hx0; go_simp; (try with_reducible rfl))
          try simp only [Act.put, List.setIfInBounds_toArray, List.set_cons_zero, List.set_cons_succ]
          refine wpAnyH_take (i := 6) (oi := { dst := some 65, op := Op.move (Operand.tmp 1), type := 33, pos := "ref.go:66", after := #[], guard := none }) (v := ?vja102r12o6) rfl (by kernel_rfl) (by kernel_rfl) (by kernel_rfl) (fun _ _ _ h => h) (Or.inl ⟨by rfl, ?hja102r12o6⟩) hS ?_
          case hja102r12o6 => (intro wx hx; skip; go_simp; (try with_reducible rfl))
          try simp only [Act.put, List.setIfInBounds_toArray, List.set_cons_zero, List.set_cons_succ]
          refine wpAnyH_take (i := 7) (oi := { dst := some 66, op := Op.move (Operand.tmp 6), type := 3, pos := "ref.go:66", after := #[], guard := none }) (v := ?vja102r12o7) rfl (by kernel_rfl) (by kernel_rfl) (by kernel_rfl) (fun _ _ _ h => h) (Or.inl ⟨by rfl, ?hja102r12o7⟩) hS ?_
          case hja102r12o7 => (intro wx hx; skip; go_simp; (try with_reducible rfl))
          try simp only [Act.put, List.setIfInBounds_toArray, List.set_cons_zero, List.set_cons_succ]
          refine wpAnyH_take (i := 8) (oi := { dst := some 67, op := Op.binOp BinOp.mul 3 (Operand.const (Value.int IntKind.i64 2)) (Operand.tmp 66) 3, type := 3, pos := "ref.go:66", after := #[{ on := 7, ground := Ground.data }], guard := none }) (v := ?vja102r12o8) rfl (by kernel_rfl) (by kernel_rfl) (by kernel_rfl) (fun _ _ _ h => h) (Or.inl ⟨by rfl, ?hja102r12o8⟩) hS ?_
          case hja102r12o8 => (intro wx hx; skip; go_simp; (try with_reducible rfl))
          try simp only [Act.put, List.setIfInBounds_toArray, List.set_cons_zero, List.set_cons_succ]
          refine wpAnyH_take (i := 9) (oi := { dst := some 68, op := Op.binOp BinOp.add 3 (Operand.const (Value.int IntKind.i64 1)) (Operand.tmp 67) 3, type := 3, pos := "ref.go:66", after := #[{ on := 8, ground := Ground.data }], guard := none }) (v := ?vja102r12o9) rfl (by kernel_rfl) (by kernel_rfl) (by kernel_rfl) (fun _ _ _ h => h) (Or.inl ⟨by rfl, ?hja102r12o9⟩) hS ?_
          case hja102r12o9 => (intro wx hx; skip; go_simp; (try with_reducible rfl))
          try simp only [Act.put, List.setIfInBounds_toArray, List.set_cons_zero, List.set_cons_succ]
          refine wpAnyH_take (i := 10) (oi := { dst := some 69, op := Op.slice 33 (Operand.tmp 65) none (some (Operand.tmp 68)) none, type := 33, pos := "ref.go:66", after := #[{ on := 6, ground := Ground.data }, { on := 9, ground := Ground.data }], guard := none }) (v := ?vja102r12o10) rfl (by kernel_rfl) (by kernel_rfl) (by kernel_rfl) (fun _ _ _ h => h) (Or.inl ⟨by rfl, ?hja102r12o10⟩) hS ?_
          case hja102r12o10 => (intro wx hx; obtain ⟨hx0, hx1⟩ := hx; obtain ⟨y0, y1, y2⟩ := GeoR.cells hx1; unfold CellS at hx0; go_simp; (try with_reducible rfl))
          try simp only [Act.put, List.setIfInBounds_toArray, List.set_cons_zero, List.set_cons_succ]
          refine wpAnyH_ready (rs := [11]) (by kernel_rfl) (by simp) ?_
          refine AllReadyH.cons (o := { dst := some 70, op := Op.call { callee := Callee.value (Operand.func 100), args := #[Operand.tmp 69], argTypes := #[33] }, type := 44, pos := "ref.go:66", after := #[{ on := 10, ground := Ground.data }], guard := none }) rfl (fun K hK => ?_) AllReadyH.nil
          go_simp
          refine (HOf.out _ (HWk.out.keep (grown_trans hgr (grown_drew (World.grownBy.refl _ none))) (by simp))).mono ?_
          rintro e wA ⟨rfl, hgA⟩
          have hgA2 := grown_trans (grown_drew (World.grownBy.refl _ none)) hgA
          have hS1 := And.intro (hS.1.keep hgA) (hS.2.keep hgA)
          refine hK.out _ _ ?hsja102r12o11 (fun hS => ?_)
          case hsja102r12o11 => (exact hS1)
          clear hK K
          try simp only [Act.put, List.setIfInBounds_toArray, List.set_cons_zero, List.set_cons_succ]
          refine wpAnyH_take (i := 12) (oi := { dst := some 71, op := Op.binOp BinOp.neq 44 (Operand.tmp 64) (Operand.tmp 70) 44, type := 4, pos := "ref.go:66", after := #[{ on := 5, ground := Ground.data }, { on := 11, ground := Ground.data }], guard := none }) (v := ?vja102r12o12) rfl (by kernel_rfl) (by kernel_rfl) (by kernel_rfl) (fun _ _ _ h => h) (Or.inl ⟨by rfl, ?hja102r12o12⟩) hS ?_
          case hja102r12o12 => (intro wx hx; skip; go_simp; (try with_reducible rfl))
          try simp only [Act.put, List.setIfInBounds_toArray, List.set_cons_zero, List.set_cons_succ]
          refine wpAnyH_take (i := 13) (oi := { dst := some 72, op := Op.move (Operand.tmp 71), type := 4, pos := "ref.go:66", after := #[{ on := 12, ground := Ground.data }, { on := 11, ground := Ground.chain }], guard := none }) (v := ?vja102r12o13) rfl (by kernel_rfl) (by kernel_rfl) (by kernel_rfl) (fun _ _ _ h => h) (Or.inl ⟨by rfl, ?hja102r12o13⟩) hS ?_
          case hja102r12o13 => (intro wx hx; skip; go_simp; (try with_reducible rfl))
          try simp only [Act.put, List.setIfInBounds_toArray, List.set_cons_zero, List.set_cons_succ]
          refine wpAnyH_take (i := 14) (oi := { dst := some 73, op := Op.load 28 (Operand.tmp 2), type := 28, pos := "ref.go:66", after := #[{ on := 13, ground := Ground.guard }], guard := some (13, false) }) (v := ?vja102r12o14) rfl (by kernel_rfl) (by kernel_rfl) (by kernel_rfl) (fun _ _ _ h => h) (Or.inl ⟨by rfl, ?hja102r12o14⟩) hS ?_
          case hja102r12o14 => (intro wx hx; obtain ⟨hx0, hx1⟩ := hx; obtain ⟨y0, y1, y2⟩ := GeoR.cells hx1; unfold CellS at hx0; go_simp; (try with_reducible rfl))
          try simp only [Act.put, List.setIfInBounds_toArray, List.set_cons_zero, List.set_cons_succ]
          refine wpAnyH_take (i := 15) (oi := { dst := some 74, op := Op.move (Operand.tmp 7), type := 43, pos := "ref.go:66", after := #[{ on := 13, ground := Ground.guard }], guard := some (13, false) }) (v := ?vja102r12o15) rfl (by kernel_rfl) (by kernel_rfl) (by kernel_rfl) (fun _ _ _ h => h) (Or.inl ⟨by rfl, ?hja102r12o15⟩) hS ?_
          case hja102r12o15 => (intro wx hx; skip; go_simp; (try with_reducible rfl))
          try simp only [Act.put, List.setIfInBounds_toArray, List.set_cons_zero, List.set_cons_succ]
          refine wpAnyH_ready (rs := [16]) (by kernel_rfl) (by simp) ?_
          refine AllReadyH.cons (o := { dst := some 75, op := Op.call { callee := Callee.value (Operand.func 60), args := #[Operand.tmp 73, Operand.tmp 74], argTypes := #[28, 43] }, type := 4, pos := "ref.go:66", after := #[{ on := 14, ground := Ground.data }, { on := 15, ground := Ground.data }, { on := 13, ground := Ground.chain }, { on := 13, ground := Ground.guard }], guard := some (13, false) }) rfl (fun K hK => ?_) AllReadyH.nil
          go_simp
          refine (HMy.out _ (hatW.grown hgA2 (by simp))).mono ?_
          rintro e wB ⟨rfl, hgB⟩
          have hgB2 := grown_trans hgA2 hgB
          have hS1 := And.intro (hS.1.keep hgB) (hS.2.keep hgB)
          refine hK.out _ _ ?hsja102r12o16 (fun hS => ?_)
          case hsja102r12o16 => (exact hS1)
          clear hK K
          try simp only [Act.put, List.setIfInBounds_toArray, List.set_cons_zero, List.set_cons_succ]
          refine wpAnyH_take (i := 17) (oi := { dst := some 76, op := Op.unOp UnOp.not 4 (Operand.tmp 75), type := 4, pos := "ref.go:66", after := #[{ on := 16, ground := Ground.data }, { on := 13, ground := Ground.guard }], guard := some (13, false) }) (v := ?vja102r12o17) rfl (by kernel_rfl) (by kernel_rfl) (by kernel_rfl) (fun _ _ _ h => h) (Or.inl ⟨by rfl, ?hja102r12o17⟩) hS ?_
          case hja102r12o17 => (intro wx hx; skip; go_simp; (try with_reducible rfl))
          try simp only [Act.put, List.setIfInBounds_toArray, List.set_cons_zero, List.set_cons_succ]
          refine wpAnyH_take (i := 18) (oi := { dst := some 77, op := Op.pick (Operand.tmp 72) (Operand.const (Value.bool true)) (Operand.tmp 76), type := 4, pos := "ref.go:66", after := #[{ on := 13, ground := Ground.data }, { on := 17, ground := Ground.data }], guard := none }) (v := ?vja102r12o18) rfl (by kernel_rfl) (by kernel_rfl) (by kernel_rfl) (fun _ _ _ h => h) (Or.inl ⟨by rfl, ?hja102r12o18⟩) hS ?_
          case hja102r12o18 => (intro wx hx; skip; go_simp; (try with_reducible rfl))
          try simp only [Act.put, List.setIfInBounds_toArray, List.set_cons_zero, List.set_cons_succ]
          refine wpAnyH_done (by kernel_rfl) ?_ _
          clear hS hc1 hGw hatW
          go_wp2
          go_ret2
          exact HR.out _ hgB2
        | false =>
          rw [hmw] at HMy
          have HR : ∀ w', wr.grownBy w' none → ReadIs base a b c xs w (.returned (.tuple #[.slice none 0 0, .int .i64 4])) w' := fun w' hg' => .inr ⟨by rw [hRB.out, hmw, Bool.and_false], rfl, grown_trans hgr hg'⟩
          replace HR := Lib.hid HR
          clear hrow hnew HO hLn hmw
          go_wp2_with fail
          refine wp_region_held_drew (S := fun w' => CellS q (o + k) (.int .u64 (S : Int)) w' ∧ GeoR G a b c w') (by kernel_rfl) (⟨hc1.keep (grown_drew (World.grownBy.refl _ none)), hGw.keep (grown_drew (World.grownBy.refl _ none))⟩) (fun hS => ?_)
          refine wpAnyH_take (i := 0) (oi := { dst := some 59, op := Op.move (Operand.tmp 1), type := 33, pos := "ref.go:66", after := #[], guard := none }) (v := ?vjb102r12o0) rfl (by kernel_rfl) (by kernel_rfl) (by kernel_rfl) (fun _ _ _ h => h) (Or.inl ⟨by rfl, ?hjb102r12o0⟩) hS ?_
          case hjb102r12o0 => (intro wx hx; skip; go_simp; (try with_reducible rfl))
          try simp only [Act.put, List.setIfInBounds_toArray, List.set_cons_zero, List.set_cons_succ]
          refine wpAnyH_take (i := 1) (oi := { dst := some 60, op := Op.move (Operand.tmp 6), type := 3, pos := "ref.go:66", after := #[], guard := none }) (v := ?vjb102r12o1) rfl (by kernel_rfl) (by kernel_rfl) (by kernel_rfl) (fun _ _ _ h => h) (Or.inl ⟨by rfl, ?hjb102r12o1⟩) hS ?_
          case hjb102r12o1 => (intro wx hx; skip; go_simp; (try with_reducible rfl))
          try simp only [Act.put, List.setIfInBounds_toArray, List.set_cons_zero, List.set_cons_succ]
          refine wpAnyH_take (i := 2) (oi := { dst := some 61, op := Op.binOp BinOp.mul 3 (Operand.const (Value.int IntKind.i64 2)) (Operand.tmp 60) 3, type := 3, pos := "ref.go:66", after := #[{ on := 1, ground := Ground.data }], guard := none }) (v := ?vjb102r12o2) rfl (by kernel_rfl) (by kernel_rfl) (by kernel_rfl) (fun _ _ _ h => h) (Or.inl ⟨by rfl, ?hjb102r12o2⟩) hS ?_
          case hjb102r12o2 => (intro wx hx; skip; go_simp; (try with_reducible rfl))
          try simp only [Act.put, List.setIfInBounds_toArray, List.set_cons_zero, List.set_cons_succ]
          refine wpAnyH_take (i := 3) (oi := { dst := some 62, op := Op.binOp BinOp.add 3 (Operand.const (Value.int IntKind.i64 1)) (Operand.tmp 61) 3, type := 3, pos := "ref.go:66", after := #[{ on := 2, ground := Ground.data }], guard := none }) (v := ?vjb102r12o3) rfl (by kernel_rfl) (by kernel_rfl) (by kernel_rfl) (fun _ _ _ h => h) (Or.inl ⟨by rfl, ?hjb102r12o3⟩) hS ?_
          case hjb102r12o3 => (intro wx hx; skip; go_simp; (try with_reducible rfl))
          try simp only [Act.put, List.setIfInBounds_toArray, List.set_cons_zero, List.set_cons_succ]
          refine wpAnyH_take (i := 4) (oi := { dst := some 63, op := Op.indexAddr 33 (Operand.tmp 59) (Operand.tmp 62), type := 0, pos := "ref.go:66", after := #[{ on := 0, ground := Ground.data }, { on := 3, ground := Ground.data }], guard := none }) (v := ?vjb102r12o4) rfl (by kernel_rfl) (by kernel_rfl) (by kernel_rfl) (fun _ _ _ h => h) (Or.inl ⟨by rfl, ?hjb102r12o4⟩) hS ?_
          case hjb102r12o4 => (intro wx hx; skip; go_simp; (try with_reducible rfl))
          try simp only [Act.put, List.setIfInBounds_toArray, List.set_cons_zero, List.set_cons_succ]
          refine wpAnyH_take (i := 5) (oi := { dst := some 64, op := Op.load 44 (Operand.tmp 63), type := 44, pos := "ref.go:66", after := #[{ on := 4, ground := Ground.data }], guard := none }) (v := ?vjb102r12o5) rfl (by kernel_rfl) (by kernel_rfl) (by kernel_rfl) (fun _ _ _ h => h) (Or.inl ⟨by rfl, ?hjb102r12o5⟩) hS ?_
          case hjb102r12o5 => (intro wx hx; obtain ⟨hx0, hx1⟩ := hx; obtain ⟨y0, y1, y2⟩ := GeoR.cells hx1; unfold CellS at hx0; go_simp; (try with_reducible rfl))
          try simp only [Act.put, List.setIfInBounds_toArray, List.set_cons_zero, List.set_cons_succ]
          refine wpAnyH_take (i := 6) (oi := { dst := some 65, op := Op.move (Operand.tmp 1), type := 33, pos := "ref.go:66", after := #[], guard := none }) (v := ?vjb102r12o6) rfl (by kernel_rfl) (by kernel_rfl) (by kernel_rfl) (fun _ _ _ h => h) (Or.inl ⟨by rfl, ?hjb102r12o6⟩) hS ?_
          case hjb102r12o6 => (intro wx hx; skip; go_simp; (try with_reducible rfl))
          try simp only [Act.put, List.setIfInBounds_toArray, List.set_cons_zero, List.set_cons_succ]
          refine wpAnyH_take (i := 7) (oi := { dst := some 66, op := Op.move (Operand.tmp 6), type := 3, pos := "ref.go:66", after := #[], guard := none }) (v := ?vjb102r12o7) rfl (by kernel_rfl) (by kernel_rfl) (by kernel_rfl) (fun _ _ _ h => h) (Or.inl ⟨by rfl, ?hjb102r12o7⟩) hS ?_
          case hjb102r12o7 => (intro wx hx; skip; go_simp; (try with_reducible rfl))
          try simp only [Act.put, List.setIfInBounds_toArray, List.set_cons_zero, List.set_cons_succ]
          refine wpAnyH_take (i := 8) (oi := { dst := some 67, op := Op.binOp BinOp.mul 3 (Operand.const (Value.int IntKind.i64 2)) (Operand.tmp 66) 3, type := 3, pos := "ref.go:66", after := #[{ on := 7, ground := Ground.data }], guard := none }) (v := ?vjb102r12o8) rfl (by kernel_rfl) (by kernel_rfl) (by kernel_rfl) (fun _ _ _ h => h) (Or.inl ⟨by rfl, ?hjb102r12o8⟩) hS ?_
          case hjb102r12o8 => (intro wx hx; skip; go_simp; (try with_reducible rfl))
          try simp only [Act.put, List.setIfInBounds_toArray, List.set_cons_zero, List.set_cons_succ]
          refine wpAnyH_take (i := 9) (oi := { dst := some 68, op := Op.binOp BinOp.add 3 (Operand.const (Value.int IntKind.i64 1)) (Operand.tmp 67) 3, type := 3, pos := "ref.go:66", after := #[{ on := 8, ground := Ground.data }], guard := none }) (v := ?vjb102r12o9) rfl (by kernel_rfl) (by kernel_rfl) (by kernel_rfl) (fun _ _ _ h => h) (Or.inl ⟨by rfl, ?hjb102r12o9⟩) hS ?_
          case hjb102r12o9 => (intro wx hx; skip; go_simp; (try with_reducible rfl))
          try simp only [Act.put, List.setIfInBounds_toArray, List.set_cons_zero, List.set_cons_succ]
          refine wpAnyH_take (i := 10) (oi := { dst := some 69, op := Op.slice 33 (Operand.tmp 65) none (some (Operand.tmp 68)) none, type := 33, pos := "ref.go:66", after := #[{ on := 6, ground := Ground.data }, { on := 9, ground := Ground.data }], guard := none }) (v := ?vjb102r12o10) rfl (by kernel_rfl) (by kernel_rfl) (by kernel_rfl) (fun _ _ _ h => h) (Or.inl ⟨by rfl, ?hjb102r12o10⟩) hS ?_
          case hjb102r12o10 => (intro wx hx; obtain ⟨hx0, hx1⟩ := hx; obtain ⟨y0, y1, y2⟩ := GeoR.cells hx1; unfold CellS at hx0; go_simp; (try with_reducible rfl))
          try simp only [Act.put, List.setIfInBounds_toArray, List.set_cons_zero, List.set_cons_succ]
          refine wpAnyH_ready (rs := [11]) (by kernel_rfl) (by simp) ?_
          refine AllReadyH.cons (o := { dst := some 70, op := Op.call { callee := Callee.value (Operand.func 100), args := #[Operand.tmp 69], argTypes := #[33] }, type := 44, pos := "ref.go:66", after := #[{ on := 10, ground := Ground.data }], guard := none }) rfl (fun K hK => ?_) AllReadyH.nil
          go_simp
          refine (HOf.out _ (HWk.out.keep (grown_trans hgr (grown_drew (World.grownBy.refl _ none))) (by simp))).mono ?_
          rintro e wA ⟨rfl, hgA⟩
          have hgA2 := grown_trans (grown_drew (World.grownBy.refl _ none)) hgA
          have hS1 := And.intro (hS.1.keep hgA) (hS.2.keep hgA)
          refine hK.out _ _ ?hsjb102r12o11 (fun hS => ?_)
          case hsjb102r12o11 => (exact hS1)
          clear hK K
          try simp only [Act.put, List.setIfInBounds_toArray, List.set_cons_zero, List.set_cons_succ]
          refine wpAnyH_take (i := 12) (oi := { dst := some 71, op := Op.binOp BinOp.neq 44 (Operand.tmp 64) (Operand.tmp 70) 44, type := 4, pos := "ref.go:66", after := #[{ on := 5, ground := Ground.data }, { on := 11, ground := Ground.data }], guard := none }) (v := ?vjb102r12o12) rfl (by kernel_rfl) (by kernel_rfl) (by kernel_rfl) (fun _ _ _ h => h) (Or.inl ⟨by rfl, ?hjb102r12o12⟩) hS ?_
          case hjb102r12o12 => (intro wx hx; skip; go_simp; (try with_reducible rfl))
          try simp only [Act.put, List.setIfInBounds_toArray, List.set_cons_zero, List.set_cons_succ]
          refine wpAnyH_take (i := 13) (oi := { dst := some 72, op := Op.move (Operand.tmp 71), type := 4, pos := "ref.go:66", after := #[{ on := 12, ground := Ground.data }, { on := 11, ground := Ground.chain }], guard := none }) (v := ?vjb102r12o13) rfl (by kernel_rfl) (by kernel_rfl) (by kernel_rfl) (fun _ _ _ h => h) (Or.inl ⟨by rfl, ?hjb102r12o13⟩) hS ?_
          case hjb102r12o13 => (intro wx hx; skip; go_simp; (try with_reducible rfl))
          try simp only [Act.put, List.setIfInBounds_toArray, List.set_cons_zero, List.set_cons_succ]
          refine wpAnyH_take (i := 14) (oi := { dst := some 73, op := Op.load 28 (Operand.tmp 2), type := 28, pos := "ref.go:66", after := #[{ on := 13, ground := Ground.guard }], guard := some (13, false) }) (v := ?vjb102r12o14) rfl (by kernel_rfl) (by kernel_rfl) (by kernel_rfl) (fun _ _ _ h => h) (Or.inl ⟨by rfl, ?hjb102r12o14⟩) hS ?_
          case hjb102r12o14 => (intro wx hx; obtain ⟨hx0, hx1⟩ := hx; obtain ⟨y0, y1, y2⟩ := GeoR.cells hx1; unfold CellS at hx0; go_simp; (try with_reducible rfl))
          try simp only [Act.put, List.setIfInBounds_toArray, List.set_cons_zero, List.set_cons_succ]
          refine wpAnyH_take (i := 15) (oi := { dst := some 74, op := Op.move (Operand.tmp 7), type := 43, pos := "ref.go:66", after := #[{ on := 13, ground := Ground.guard }], guard := some (13, false) }) (v := ?vjb102r12o15) rfl (by kernel_rfl) (by kernel_rfl) (by kernel_rfl) (fun _ _ _ h => h) (Or.inl ⟨by rfl, ?hjb102r12o15⟩) hS ?_
          case hjb102r12o15 => (intro wx hx; skip; go_simp; (try with_reducible rfl))
          try simp only [Act.put, List.setIfInBounds_toArray, List.set_cons_zero, List.set_cons_succ]
          refine wpAnyH_ready (rs := [16]) (by kernel_rfl) (by simp) ?_
          refine AllReadyH.cons (o := { dst := some 75, op := Op.call { callee := Callee.value (Operand.func 60), args := #[Operand.tmp 73, Operand.tmp 74], argTypes := #[28, 43] }, type := 4, pos := "ref.go:66", after := #[{ on := 14, ground := Ground.data }, { on := 15, ground := Ground.data }, { on := 13, ground := Ground.chain }, { on := 13, ground := Ground.guard }], guard := some (13, false) }) rfl (fun K hK => ?_) AllReadyH.nil
          go_simp
          refine (HMy.out _ (hatW.grown hgA2 (by simp))).mono ?_
          rintro e wB ⟨rfl, hgB⟩
          have hgB2 := grown_trans hgA2 hgB
          have hS1 := And.intro (hS.1.keep hgB) (hS.2.keep hgB)
          refine hK.out _ _ ?hsjb102r12o16 (fun hS => ?_)
          case hsjb102r12o16 => (exact hS1)
          clear hK K
          try simp only [Act.put, List.setIfInBounds_toArray, List.set_cons_zero, List.set_cons_succ]
          refine wpAnyH_take (i := 17) (oi := { dst := some 76, op := Op.unOp UnOp.not 4 (Operand.tmp 75), type := 4, pos := "ref.go:66", after := #[{ on := 16, ground := Ground.data }, { on := 13, ground := Ground.guard }], guard := some (13, false) }) (v := ?vjb102r12o17) rfl (by kernel_rfl) (by kernel_rfl) (by kernel_rfl) (fun _ _ _ h => h) (Or.inl ⟨by rfl, ?hjb102r12o17⟩) hS ?_
          case hjb102r12o17 => (intro wx hx; skip; go_simp; (try with_reducible rfl))
          try simp only [Act.put, List.setIfInBounds_toArray, List.set_cons_zero, List.set_cons_succ]
          refine wpAnyH_take (i := 18) (oi := { dst := some 77, op := Op.pick (Operand.tmp 72) (Operand.const (Value.bool true)) (Operand.tmp 76), type := 4, pos := "ref.go:66", after := #[{ on := 13, ground := Ground.data }, { on := 17, ground := Ground.data }], guard := none }) (v := ?vjb102r12o18) rfl (by kernel_rfl) (by kernel_rfl) (by kernel_rfl) (fun _ _ _ h => h) (Or.inl ⟨by rfl, ?hjb102r12o18⟩) hS ?_
          case hjb102r12o18 => (intro wx hx; skip; go_simp; (try with_reducible rfl))
          try simp only [Act.put, List.setIfInBounds_toArray, List.set_cons_zero, List.set_cons_succ]
          refine wpAnyH_done (by kernel_rfl) ?_ _
          clear hS hc1 hGw hatW
          go_wp2
          go_ret2
          exact HR.out _ hgB2
      · have e7 : ((S : Int) != (U : Int)) = true := by simp; omega
        have HR : ∀ w', wr.grownBy w' none → ReadIs base a b c xs w (.returned (.tuple #[.slice none 0 0, .int .i64 4])) w' := fun w' hg' => .inr ⟨by rw [hRB.out, decide_eq_false hSU]; rfl, rfl, grown_trans hgr hg'⟩
        replace HR := Lib.hid HR
        clear hrow hnew HO hLn hSU HMy
        go_wp2_with fail
        refine wp_region_held_drew (S := fun w' => CellS q (o + k) (.int .u64 (S : Int)) w' ∧ GeoR G a b c w') (by kernel_rfl) (⟨hc1.keep (grown_drew (World.grownBy.refl _ none)), hGw.keep (grown_drew (World.grownBy.refl _ none))⟩) (fun hS => ?_)
        refine wpAnyH_take (i := 0) (oi := { dst := some 59, op := Op.move (Operand.tmp 1), type := 33, pos := "ref.go:66", after := #[], guard := none }) (v := ?vjc102r12o0) rfl (by kernel_rfl) (by kernel_rfl) (by kernel_rfl) (fun _ _ _ h => h) (Or.inl ⟨by rfl, ?hjc102r12o0⟩) hS ?_
        case hjc102r12o0 => (intro wx hx; skip; go_simp; (try with_reducible rfl))
        try simp only [Act.put, List.setIfInBounds_toArray, List.set_cons_zero, List.set_cons_succ]
        refine wpAnyH_take (i := 1) (oi := { dst := some 60, op := Op.move (Operand.tmp 6), type := 3, pos := "ref.go:66", after := #[], guard := none }) (v := ?vjc102r12o1) rfl (by kernel_rfl) (by kernel_rfl) (by kernel_rfl) (fun _ _ _ h => h) (Or.inl ⟨by rfl, ?hjc102r12o1⟩) hS ?_
        case hjc102r12o1 => (intro wx hx; skip; go_simp; (try with_reducible rfl))
        try simp only [Act.put, List.setIfInBounds_toArray, List.set_cons_zero, List.set_cons_succ]
        refine wpAnyH_take (i := 2) (oi := { dst := some 61, op := Op.binOp BinOp.mul 3 (Operand.const (Value.int IntKind.i64 2)) (Operand.tmp 60) 3, type := 3, pos := "ref.go:66", after := #[{ on := 1, ground := Ground.data }], guard := none }) (v := ?vjc102r12o2) rfl (by kernel_rfl) (by kernel_rfl) (by kernel_rfl) (fun _ _ _ h => h) (Or.inl ⟨by rfl, ?hjc102r12o2⟩) hS ?_
        case hjc102r12o2 => (intro wx hx; skip; go_simp; (try with_reducible rfl))
        try simp only [Act.put, List.setIfInBounds_toArray, List.set_cons_zero, List.set_cons_succ]
        refine wpAnyH_take (i := 3) (oi := { dst := some 62, op := Op.binOp BinOp.add 3 (Operand.const (Value.int IntKind.i64 1)) (Operand.tmp 61) 3, type := 3, pos := "ref.go:66", after := #[{ on := 2, ground := Ground.data }], guard := none }) (v := ?vjc102r12o3) rfl (by kernel_rfl) (by kernel_rfl) (by kernel_rfl) (fun _ _ _ h => h) (Or.inl ⟨by rfl, ?hjc102r12o3⟩) hS ?_
        case hjc102r12o3 => (intro wx hx; skip; go_simp; (try with_reducible rfl))
        try simp only [Act.put, List.setIfInBounds_toArray, List.set_cons_zero, List.set_cons_succ]
        refine wpAnyH_take (i := 4) (oi := { dst := some 63, op := Op.indexAddr 33 (Operand.tmp 59) (Operand.tmp 62), type := 0, pos := "ref.go:66", after := #[{ on := 0, ground := Ground.data }, { on := 3, ground := Ground.data }], guard := none }) (v := ?vjc102r12o4) rfl (by kernel_rfl) (by kernel_rfl) (by kernel_rfl) (fun _ _ _ h => h) (Or.inl ⟨by rfl, ?hjc102r12o4⟩) hS ?_
        case hjc102r12o4 => (intro wx hx; skip; go_simp; (try with_reducible rfl))
        try simp only [Act.put, List.setIfInBounds_toArray, List.set_cons_zero, List.set_cons_succ]
        refine wpAnyH_take (i := 5) (oi := { dst := some 64, op := Op.load 44 (Operand.tmp 63), type := 44, pos := "ref.go:66", after := #[{ on := 4, ground := Ground.data }], guard := none }) (v := ?vjc102r12o5) rfl (by kernel_rfl) (by kernel_rfl) (by kernel_rfl) (fun _ _ _ h => h) (Or.inl ⟨by rfl, ?hjc102r12o5⟩) hS ?_
        case hjc102r12o5 => (intro wx hx; obtain ⟨hx0, hx1⟩ := hx; obtain ⟨y0, y1, y2⟩ := GeoR.cells hx1; unfold CellS at hx0; go_simp; (try with_reducible rfl))
        try simp only [Act.put, List.setIfInBounds_toArray, List.set_cons_zero, List.set_cons_succ]
        refine wpAnyH_take (i := 6) (oi := { dst := some 65, op := Op.move (Operand.tmp 1), type := 33, pos := "ref.go:66", after := #[], guard := none }) (v := ?vjc102r12o6) rfl (by kernel_rfl) (by kernel_rfl) (by kernel_rfl) (fun _ _ _ h => h) (Or.inl ⟨by rfl, ?hjc102r12o6⟩) hS ?_
        case hjc102r12o6 => (intro wx hx; skip; go_simp; (try with_reducible rfl))
        try simp only [Act.put, List.setIfInBounds_toArray, List.set_cons_zero, List.set_cons_succ]
        refine wpAnyH_take (i := 7) (oi := { dst := some 66, op := Op.move (Operand.tmp 6), type := 3, pos := "ref.go:66", after := #[], guard := none }) (v := ?vjc102r12o7) rfl (by kernel_rfl) (by kernel_rfl) (by kernel_rfl) (fun _ _ _ h => h) (Or.inl ⟨by rfl, ?hjc102r12o7⟩) hS ?_
        case hjc102r12o7 => (intro wx hx; skip; go_simp; (try with_reducible rfl))
        try simp only [Act.put, List.setIfInBounds_toArray, List.set_cons_zero, List.set_cons_succ]
        refine wpAnyH_take (i := 8) (oi := { dst := some 67, op := Op.binOp BinOp.mul 3 (Operand.const (Value.int IntKind.i64 2)) (Operand.tmp 66) 3, type := 3, pos := "ref.go:66", after := #[{ on := 7, ground := Ground.data }], guard := none }) (v := ?vjc102r12o8) rfl (by kernel_rfl) (by kernel_rfl) (by kernel_rfl) (fun _ _ _ h => h) (Or.inl ⟨by rfl, ?hjc102r12o8⟩) hS ?_
        case hjc102r12o8 => (intro wx hx; skip; go_simp; (try with_reducible rfl))
        try simp only [Act.put, List.setIfInBounds_toArray, List.set_cons_zero, List.set_cons_succ]
        refine wpAnyH_take (i := 9) (oi := { dst := some 68, op := Op.binOp BinOp.add 3 (Operand.const (Value.int IntKind.i64 1)) (Operand.tmp 67) 3, type := 3, pos := "ref.go:66", after := #[{ on := 8, ground := Ground.data }], guard := none }) (v := ?vjc102r12o9) rfl (by kernel_rfl) (by kernel_rfl) (by kernel_rfl) (fun _ _ _ h => h) (Or.inl ⟨by rfl, ?hjc102r12o9⟩) hS ?_
        case hjc102r12o9 => (intro wx hx; skip; go_simp; (try with_reducible rfl))
        try simp only [Act.put, List.setIfInBounds_toArray, List.set_cons_zero, List.set_cons_succ]
        refine wpAnyH_take (i := 10) (oi := { dst := some 69, op := Op.slice 33 (Operand.tmp 65) none (some (Operand.tmp 68)) none, type := 33, pos := "ref.go:66", after := #[{ on := 6, ground := Ground.data }, { on := 9, ground := Ground.data }], guard := none }) (v := ?vjc102r12o10) rfl (by kernel_rfl) (by kernel_rfl) (by kernel_rfl) (fun _ _ _ h => h) (Or.inl ⟨by rfl, ?hjc102r12o10⟩) hS ?_
        case hjc102r12o10 => (intro wx hx; obtain ⟨hx0, hx1⟩ := hx; obtain ⟨y0, y1, y2⟩ := GeoR.cells hx1; unfold CellS at hx0; go_simp; (try with_reducible rfl))
        try simp only [Act.put, List.setIfInBounds_toArray, List.set_cons_zero, List.set_cons_succ]
        refine wpAnyH_ready (rs := [11]) (by kernel_rfl) (by simp) ?_
        refine AllReadyH.cons (o := { dst := some 70, op := Op.call { callee := Callee.value (Operand.func 100), args := #[Operand.tmp 69], argTypes := #[33] }, type := 44, pos := "ref.go:66", after := #[{ on := 10, ground := Ground.data }], guard := none }) rfl (fun K hK => ?_) AllReadyH.nil
        go_simp
        refine (HOf.out _ (HWk.out.keep (grown_trans hgr (grown_drew (World.grownBy.refl _ none))) (by simp))).mono ?_
        rintro e wA ⟨rfl, hgA⟩
        have hgA2 := grown_trans (grown_drew (World.grownBy.refl _ none)) hgA
        have hS1 := And.intro (hS.1.keep hgA) (hS.2.keep hgA)
        refine hK.out _ _ ?hsjc102r12o11 (fun hS => ?_)
        case hsjc102r12o11 => (exact hS1)
        clear hK K
        try simp only [Act.put, List.setIfInBounds_toArray, List.set_cons_zero, List.set_cons_succ]
        refine wpAnyH_take (i := 12) (oi := { dst := some 71, op := Op.binOp BinOp.neq 44 (Operand.tmp 64) (Operand.tmp 70) 44, type := 4, pos := "ref.go:66", after := #[{ on := 5, ground := Ground.data }, { on := 11, ground := Ground.data }], guard := none }) (v := ?vjc102r12o12) rfl (by kernel_rfl) (by kernel_rfl) (by kernel_rfl) (fun _ _ _ h => h) (Or.inl ⟨by rfl, ?hjc102r12o12⟩) hS ?_
        case hjc102r12o12 => (intro wx hx; skip; go_simp; (try with_reducible rfl))
        try simp only [Act.put, List.setIfInBounds_toArray, List.set_cons_zero, List.set_cons_succ]
        refine wpAnyH_take (i := 13) (oi := { dst := some 72, op := Op.move (Operand.tmp 71), type := 4, pos := "ref.go:66", after := #[{ on := 12, ground := Ground.data }, { on := 11, ground := Ground.chain }], guard := none }) (v := ?vjc102r12o13) rfl (by kernel_rfl) (by kernel_rfl) (by kernel_rfl) (fun _ _ _ h => h) (Or.inl ⟨by rfl, ?hjc102r12o13⟩) hS ?_
        case hjc102r12o13 => (intro wx hx; skip; go_simp; (try with_reducible rfl))
        try simp only [Act.put, List.setIfInBounds_toArray, List.set_cons_zero, List.set_cons_succ]
        refine wpAnyH_take (i := 14) (oi := { dst := some 73, op := Op.load 28 (Operand.tmp 2), type := 28, pos := "ref.go:66", after := #[{ on := 13, ground := Ground.guard }], guard := some (13, false) }) (v := undef) rfl (by kernel_rfl) (by kernel_rfl) (by kernel_rfl) (fun _ _ _ h => h) (Or.inr ⟨by rfl, rfl⟩) hS ?_
        try simp only [Act.put, List.setIfInBounds_toArray, List.set_cons_zero, List.set_cons_succ]
        refine wpAnyH_take (i := 15) (oi := { dst := some 74, op := Op.move (Operand.tmp 7), type := 43, pos := "ref.go:66", after := #[{ on := 13, ground := Ground.guard }], guard := some (13, false) }) (v := undef) rfl (by kernel_rfl) (by kernel_rfl) (by kernel_rfl) (fun _ _ _ h => h) (Or.inr ⟨by rfl, rfl⟩) hS ?_
        try simp only [Act.put, List.setIfInBounds_toArray, List.set_cons_zero, List.set_cons_succ]
        refine wpAnyH_take (i := 16) (oi := { dst := some 75, op := Op.call { callee := Callee.value (Operand.func 60), args := #[Operand.tmp 73, Operand.tmp 74], argTypes := #[28, 43] }, type := 4, pos := "ref.go:66", after := #[{ on := 14, ground := Ground.data }, { on := 15, ground := Ground.data }, { on := 13, ground := Ground.chain }, { on := 13, ground := Ground.guard }], guard := some (13, false) }) (v := undef) rfl (by kernel_rfl) (by kernel_rfl) (by kernel_rfl) (fun _ _ _ h => h) (Or.inr ⟨by rfl, rfl⟩) hS ?_
        try simp only [Act.put, List.setIfInBounds_toArray, List.set_cons_zero, List.set_cons_succ]
        refine wpAnyH_take (i := 17) (oi := { dst := some 76, op := Op.unOp UnOp.not 4 (Operand.tmp 75), type := 4, pos := "ref.go:66", after := #[{ on := 16, ground := Ground.data }, { on := 13, ground := Ground.guard }], guard := some (13, false) }) (v := undef) rfl (by kernel_rfl) (by kernel_rfl) (by kernel_rfl) (fun _ _ _ h => h) (Or.inr ⟨by rfl, rfl⟩) hS ?_
        try simp only [Act.put, List.setIfInBounds_toArray, List.set_cons_zero, List.set_cons_succ]
        refine wpAnyH_take (i := 18) (oi := { dst := some 77, op := Op.pick (Operand.tmp 72) (Operand.const (Value.bool true)) (Operand.tmp 76), type := 4, pos := "ref.go:66", after := #[{ on := 13, ground := Ground.data }, { on := 17, ground := Ground.data }], guard := none }) (v := ?vjc102r12o18) rfl (by kernel_rfl) (by kernel_rfl) (by kernel_rfl) (fun _ _ _ h => h) (Or.inl ⟨by rfl, ?hjc102r12o18⟩) hS ?_
        case hjc102r12o18 => (intro wx hx; skip; go_simp; (try with_reducible rfl))
        try simp only [Act.put, List.setIfInBounds_toArray, List.set_cons_zero, List.set_cons_succ]
        refine wpAnyH_done (by kernel_rfl) ?_ _
        clear hS hc1 hGw hatW
        go_wp2
        go_ret2
        exact HR.out _ hgA2

theorem RefRead_any (base : Nat) (a b c : Int) (ad : Option Addr) (l cc : Nat) (xs : List Nat) (w : World) (hx : Words w ad l xs) (hlc : l ≤ cc) (hb : base ≤ w.heap.size) :
    Calls Tryz.prog 102 #[gv a b c, .slice ad l cc] w (ReadIs base a b c xs w) := by
  cases h : cutB xs with
  | false => exact RefRead_cut base a b c ad l cc xs w hx h
  | true =>
    have h0 := (cutB_yes h).1
    have hl := hx.len
    obtain ⟨q, o, rfl⟩ := Words.lit hx (by omega)
    exact RefRead_at base a b c q o l cc xs w hx hlc h hb
end Go.Proofs.YtpdofdloclmbdaaGreat
