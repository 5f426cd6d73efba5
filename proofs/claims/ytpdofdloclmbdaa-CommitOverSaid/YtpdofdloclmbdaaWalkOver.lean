/- CommitOver, walked. -/
import Derived.Test.YtpdofdloclmbdaaOverMath
import Derived.Test.YtpdofdloclmbdaaCpt
import Derived.Test.YtpdofdloclmbdaaWorks
import Derived.Deep.DeepCutAuto
import Derived.Deep.RegionHeld
namespace Go.Proofs.Ytpdofdloclmbdaa.commitOver
open Go.RowKit Go.Grommet

set_option maxRecDepth 100000 in
set_option maxHeartbeats 1000000 in
theorem walk_far (a0 a1 a2 : Int) (td : Option Addr) (tl tc : Nat) (a4 : Int) (w : World) (h : 60 < tl) :
    Calls Try.prog 5 #[.int .u8 a0, .int .u8 a1, .int .u8 a2, .slice td tl tc, .int .u8 a4] w (Go.Ev.WorksIs w) := by
  have HW := Lib.hid (works_ev w)
  have g1 : (60 : Int) < (tl : Int) := by omega
  go_enter Try.func5, Try.ntmps5
  go_wp2_with fail
  refine HW.out.mono ?_
  rintro e w5 ⟨rfl, hg⟩
  go_wp2
  go_ret
  exact ⟨rfl, hg⟩

/-- What a region keeps: the geometry, a turn. -/
structure SQ (G : Nat) (a b c : Int) (t o : Nat) (x v : Int) (w : World) : Prop where
  geo : GeoQ G a b c w
  d0 : w.cell? ⟨t, o, none⟩ = some (.int .u8 x)
  d1 : w.cell? ⟨t, o + 1, none⟩ = some (.int .u64 v)
theorem SQ.all {G : Nat} {a b c : Int} {t o : Nat} {x v : Int} {w : World} (h : SQ G a b c t o x v w) : w.cell? ⟨G, 0, none⟩ = some (.int .i64 a) ∧ w.cell? ⟨G, 1, none⟩ = some (.int .i64 b) ∧ w.cell? ⟨G, 2, none⟩ = some (.int .i64 c) ∧ w.cell? ⟨t, o, none⟩ = some (.int .u8 x) ∧ w.cell? ⟨t, o + 1, none⟩ = some (.int .u64 v) := ⟨h.geo.cells.1, h.geo.cells.2.1, h.geo.cells.2.2, h.d0, h.d1⟩
def Row (N : Nat) (xs : List Nat) : Prop := xs.length = N ∧ ∀ n ∈ xs, n < 18446744073709551616
theorem Row.set {N : Nat} {xs : List Nat} (h : Row N xs) (i v : Nat) (hv : v < 18446744073709551616) : Row N (xs.set i v) := ⟨by rw [List.length_set]; exact h.1, fun n hn => by
  rcases List.mem_or_eq_of_mem_set hn with e | e
  · exact h.2 n e
  · rw [e]; exact hv⟩
theorem Still.set {a : Nat} {xs : List Nat} (h : Still a xs) (T v : Nat) (hT : ∀ j, j < a → 264 + 208 * j ≠ T) : Still a (xs.set T v) := fun j hj => by
  rw [getD_set, if_neg (fun e => hT j hj e.1)]; exact h j hj
theorem cell_at {w0 w : World} {Ps : List Pr} {q N cap : Nat} {xs : List Nat} (h : Own w0 w Ps) (k : Nat) (hk : Ps[k]? = some (rowP 39 1 (.slice (some ⟨q, 0, none⟩) N cap) N (xs.map wv))) (hl : xs.length = N) (i : Nat) (hi : i < N) (v : Nat) (hv : xs.getD i 0 = v) : w.cell? ⟨q, i, none⟩ = some (.int .u64 (v : Int)) ∧ w.frozen? ⟨q, i, none⟩ = false := by
  have hi' : i < xs.length := by omega
  obtain ⟨b', he, h1, h2, _⟩ := Own.cell h k hk i (wv v) (by rw [List.getElem?_map, List.getElem?_eq_getElem hi', ← hv, List.getD_eq_getElem?_getD, List.getElem?_eq_getElem hi']; rfl)
  cases he
  exact ⟨h1, h2⟩

set_option maxRecDepth 100000 in
set_option maxHeartbeats 8000000 in
theorem walk_at (x0 x1 x2 : Nat) (td : Option Addr) (tl tc : Nat) (T : List Cpt) (x4 : Nat) (w : World) (h0 : x0 ≤ 255) (h1 : x1 ≤ 255) (h2 : x2 ≤ 255) (h4 : x4 ≤ 255) (htl : tl ≤ 60) (hT : CptsIn w td tl T) :
    Calls Try.prog 5 #[.int .u8 (x0 : Int), .int .u8 (x1 : Int), .int .u8 (x2 : Int), .slice td tl tc, .int .u8 (x4 : Int)] w (Go.Ev.WorksIs w) := by
  have g1 : ¬ (60 : Int) < (tl : Int) := by omega
  have HT := Lib.hid hT
  have HGm := Lib.hid (geom_any x0 x1 x2 (by omega) (by omega) (by omega) w)
  obtain ⟨a, ha⟩ : ∃ a, 1 + x0 % 4 = a := ⟨_, rfl⟩
  obtain ⟨b, hb⟩ : ∃ b, 2 + x1 % 8 = b := ⟨_, rfl⟩
  obtain ⟨c, hc⟩ : ∃ c, 2 + x2 % 20 = c := ⟨_, rfl⟩
  rw [ha, hb, hc] at HGm
  have ha1 : 1 ≤ a ∧ a ≤ 4 := by omega
  have hb1 : 2 ≤ b ∧ b ≤ 9 := by omega
  have hc1 : 2 ≤ c ∧ c ≤ 21 := by omega
  have hmay : mayB (a : Int) (b : Int) (c : Int) = true := by unfold mayB; simp; omega
  obtain ⟨N, hN⟩ : ∃ N, 280 + 208 * a + 16 * b + 8 * c = N := ⟨_, rfl⟩
  have hN' := hN
  have HWd := Lib.hid (fun wx => Words_any (a : Int) (b : Int) (c : Int) wx)
  rw [show wordsV (a : Int) (b : Int) (c : Int) = (N : Int) from by rw [words_pos hmay]; omega] at HWd
  have hxl := length_fmtL a b c (264 + 208 * a) (280 + 208 * a + 16 * b + 8 * c)
  have hxs := fmtL_lt a b c (264 + 208 * a) (280 + 208 * a + 16 * b + 8 * c) (by omega) (by omega) (by omega)
  have hst : Still a (fmtL a b c (264 + 208 * a) (280 + 208 * a + 16 * b + 8 * c)) := fun j hj => by
    rw [List.getD_eq_getElem?_getD, get_fmtL _ _ _ _ _ _ (by omega)]
    show fmtAt a b c (264 + 208 * a) (264 + 208 * j) = 0
    unfold fmtAt
    repeat' (first | rw [if_neg (by omega)] | (split <;> first | omega | rfl))
  rw [hN] at hxl hxs hst
  obtain ⟨xs0, hx0⟩ : ∃ xs, fmtL a b c (264 + 208 * a) N = xs := ⟨_, rfl⟩
  rw [hx0] at hxl hxs hst
  have HF := Lib.hid (fun w wx Ps hO => FormatH a b c N xs0 w wx Ps hO hmay hN hx0)
  have HR0 : Hid (Row N xs0) := Lib.hid ⟨hxl, hxs⟩
  have HS0 := Lib.hid hst
  have hN0 : 536 ≤ N := by omega
  have hN1 : N ≤ 2000 := by omega
  have Hm := Lib.hid hmay
  have HN := Lib.hid hN
  obtain ⟨n8, hn8⟩ : ∃ n, N - 1 - x4 % 8 = n := ⟨_, rfl⟩
  have w8a : IntKind.i64.wrap (x4 : Int) = (x4 : Int) := IntWalk.i64_in _ ⟨by omega, by omega⟩
  obtain ⟨m8, hm8⟩ : ∃ m, x4 % 8 = m := ⟨_, rfl⟩
  have w8b : (x4 : Int) % 8 = (m8 : Int) := by omega
  have w8c : Int.tmod (x4 : Int) 8 = (m8 : Int) := by rw [Int.tmod_eq_emod_of_nonneg (by omega)]; exact w8b
  have w8d : IntKind.i64.wrap (m8 : Int) = (m8 : Int) := IntWalk.i64_in _ ⟨by omega, by omega⟩
  obtain ⟨N1, hNN⟩ : ∃ n, N - 1 = n := ⟨_, rfl⟩
  have w8e : IntKind.i64.wrap ((N : Int) - 1) = (N1 : Int) := by rw [IntWalk.i64_in _ ⟨by omega, by omega⟩]; omega
  have w8f : IntKind.i64.wrap ((N1 : Int) - (m8 : Int)) = (n8 : Int) := by rw [IntWalk.i64_in _ ⟨by omega, by omega⟩]; omega
  have hn8N : n8 < N := by omega
  clear ha hb hc hT hx0 hxl hxs hst hn8 hm8 hNN h0 h1 h2 h4 hN hN' hmay
  unfold gv at HGm HWd
  go_enter Try.func5, Try.ntmps5
  go_wp2_with fail
  refine HGm.out.mono ?_
  rintro e u0 ⟨rfl, hgm⟩
  clear HGm
  obtain ⟨u1, hu1⟩ : ∃ u, u0.alloc (.cells #[.int .i64 (a : Int), .int .i64 (b : Int), .int .i64 (c : Int)] 25) = u := ⟨_, rfl⟩
  obtain ⟨G, hG⟩ : ∃ G, u0.heap.size = G := ⟨_, rfl⟩
  have hO1 : Own w u1 [boxP G 25 #[.int .i64 (a : Int), .int .i64 (b : Int), .int .i64 (c : Int)]] := by rw [← hu1, ← hG]; exact ((Own.nil w).quiet hgm).addBox _ _
  obtain ⟨f0, f1, f2⟩ := GeoQ.cells (show GeoQ G (a : Int) (b : Int) (c : Int) u1 from hO1.box 0 rfl)
  have hO1 := Lib.hid hO1
  clear hgm
  go_wp2_with fail
  refine (HF.out w u1 _ hO1.out).mono ?_
  rintro e u2 ⟨q, rfl, hO2⟩
  have hO2 : Hid (Own w u2 [boxP G 25 #[.int .i64 (a : Int), .int .i64 (b : Int), .int .i64 (c : Int)], rowP 39 1 (.slice (some ⟨q, 0, none⟩) N N) N (xs0.map wv)]) := Lib.hid hO2
  clear f0 f1 f2 hu1 hG hO1 HF
  obtain ⟨f0, f1, f2⟩ := GeoQ.cells (show GeoQ G (a : Int) (b : Int) (c : Int) u2 from hO2.out.box 0 rfl)
  have k1 : ((N : Int) != (N : Int)) = false := by simp
  have k0 : ((N : Int) == 0) = false := by rw [beq_eq_false_iff_ne]; omega
  go_wp2_with fail
  refine (HWd.out _).mono ?_
  rintro e u3 ⟨rfl, hg3⟩
  have hO3 := Lib.hid (hO2.out.quiet hg3)
  clear hg3 hO2 f0 f1 f2 HWd
  go_wp2_with fail
  go_loopw [13] (fun i wr => ∃ (k : Nat) (xs : List Nat), k ≤ tl ∧ i = .int .i64 (k : Int) ∧ Hid (Row N xs) ∧ Hid (Still a xs) ∧ Hid (Own w wr [boxP G 25 #[.int .i64 (a : Int), .int .i64 (b : Int), .int .i64 (c : Int)], rowP 39 1 (.slice (some ⟨q, 0, none⟩) N N) N (xs.map wv)])) (fun i _ => tl - (intOf i).toNat)
  case atStart => exact ⟨0, xs0, Nat.zero_le _, rfl, HR0, HS0, hO3⟩
  case round =>
    clear hO3 HR0 HS0
    obtain ⟨k, xs, hk, rfl, HR, HS, hO⟩ := hrel
    have k0' : (0 : Int) ≤ (k : Int) := by omega
    by_cases hlt : k < tl
    · as_aux_lemma =>
      have hlt' : (k : Int) < (tl : Int) := by omega
      obtain ⟨x, hx⟩ : ∃ x, T[k]? = some x := ⟨T[k]'(by rw [HT.out.1]; exact hlt), List.getElem?_eq_getElem _⟩
      obtain ⟨tg, to', rfl, d0, d1⟩ := (HT.out.grown hO.out.grown).2.2 k x hx
      obtain ⟨ok1, ok2⟩ := HT.out.2.1 x (List.mem_of_getElem? hx)
      have b1 := bounds_u8 ok1
      have b2 := bounds_u64 ok2
      have Hc := Lib.hid (fun wx (hg : w.grownBy wx none) => (HT.out.grown hg).at k x hx)
      obtain ⟨at_, ww⟩ := x
      dsimp only at d0 d1 b1 b2 Hc
      obtain ⟨A, rfl⟩ := Int.eq_ofNat_of_zero_le b1.1
      obtain ⟨V, rfl⟩ := Int.eq_ofNat_of_zero_le b2.1
      have hV : Hid (V < 18446744073709551616) := Lib.hid (by omega)
      obtain ⟨r, hr⟩ : ∃ r, k % a = r := ⟨_, rfl⟩
      have hra : r < a := by rw [← hr]; exact Nat.mod_lt _ (by omega)
      have e1 : (k : Int) % (a : Int) = (r : Int) := by omega
      have e2 : Int.tmod (k : Int) (a : Int) = (r : Int) := by rw [Int.tmod_eq_emod_of_nonneg (by omega)]; exact e1
      have az : ¬ (a : Int) = 0 := by omega
      have azn : ¬ a = 0 := by omega
      have azb : ((a : Int) == 0) = false := by rw [beq_eq_false_iff_ne]; omega
      have wr1 : IntKind.i64.wrap (r : Int) = (r : Int) := IntWalk.i64_in _ ⟨by omega, by omega⟩
      obtain ⟨B, hB⟩ : ∃ B, 264 + 208 * r = B := ⟨_, rfl⟩
      have HAt := Lib.hid (fun wx => AreaAt_any (a : Int) (b : Int) (c : Int) (r : Int) wx)
      rw [show areaV (a : Int) (b : Int) (c : Int) (r : Int) = (B : Int) from by unfold areaV; rw [if_pos ⟨Hm.out, by omega, by omega⟩]; omega] at HAt
      have HBa := Lib.hid (fun wx => BlockAt_any (a : Int) (b : Int) (c : Int) 1 wx)
      obtain ⟨P, hP⟩ : ∃ P, 280 + 208 * a + 16 * b + 8 = P := ⟨_, rfl⟩
      rw [show blockV (a : Int) (b : Int) (c : Int) 1 = (P : Int) from by unfold blockV; rw [if_pos ⟨Hm.out, by omega, by omega⟩]; omega] at HBa
      unfold gv at HAt HBa
      have hOr := Lib.hid (hO.out.quiet (grown_drew (World.grownBy.refl _ none)))
      have hz0 : Hid (SQ G (a : Int) (b : Int) (c : Int) tg (to' + k * 2) (A : Int) (V : Int) _) := Lib.hid ⟨hOr.out.box 0 rfl, (Hc.out _ hOr.out.grown).1, (Hc.out _ hOr.out.grown).2⟩
      have B0 : ¬ (B : Int) < 0 := by omega
      have wk : IntKind.i64.wrap ((k : Int) + 1) = (k : Int) + 1 := IntWalk.i64_in _ ⟨by omega, by omega⟩
      have wA : IntKind.i64.wrap (A : Int) = (A : Int) := IntWalk.i64_in _ ⟨by omega, by omega⟩
      clear hO hx ok1 ok2 hr d0 d1
      go_wp2_with fail
      refine wp_region_held_drew (S := fun w' => SQ G (a : Int) (b : Int) (c : Int) tg (to' + k * 2) (A : Int) (V : Int) w') (by kernel_rfl) (hz0.out) (fun hS => ?_)
      refine wpAnyH_take (i := 0) (oi := { dst := some 49, op := Op.load 25 (Operand.tmp 11), type := 25, pos := "more.go:118", after := #[], guard := none }) (v := ?voa5r10o0) rfl (by kernel_rfl) (by kernel_rfl) (by kernel_rfl) (fun _ _ _ h => h) (Or.inl ⟨by rfl, ?hoa5r10o0⟩) hS ?_
      case hoa5r10o0 => (intro wx hx; obtain ⟨f0, f1, f2, d0, d1⟩ := SQ.all hx; go_simp; (try with_reducible rfl))
      try simp only [Act.put, List.setIfInBounds_toArray, List.set_cons_zero, List.set_cons_succ]
      refine wpAnyH_take (i := 1) (oi := { dst := some 50, op := Op.move (Operand.tmp 13), type := 3, pos := "more.go:118", after := #[], guard := none }) (v := ?voa5r10o1) rfl (by kernel_rfl) (by kernel_rfl) (by kernel_rfl) (fun _ _ _ h => h) (Or.inl ⟨by rfl, ?hoa5r10o1⟩) hS ?_
      case hoa5r10o1 => (intro wx hx; skip; go_simp; (try with_reducible rfl))
      try simp only [Act.put, List.setIfInBounds_toArray, List.set_cons_zero, List.set_cons_succ]
      refine wpAnyH_take (i := 2) (oi := { dst := some 51, op := Op.fieldAddr 25 (Operand.tmp 11) 0, type := 0, pos := "more.go:118", after := #[], guard := none }) (v := ?voa5r10o2) rfl (by kernel_rfl) (by kernel_rfl) (by kernel_rfl) (fun _ _ _ h => h) (Or.inl ⟨by rfl, ?hoa5r10o2⟩) hS ?_
      case hoa5r10o2 => (intro wx hx; skip; go_simp; (try with_reducible rfl))
      try simp only [Act.put, List.setIfInBounds_toArray, List.set_cons_zero, List.set_cons_succ]
      refine wpAnyH_take (i := 3) (oi := { dst := some 52, op := Op.load 3 (Operand.tmp 51), type := 3, pos := "more.go:118", after := #[{ on := 2, ground := Ground.data }], guard := none }) (v := ?voa5r10o3) rfl (by kernel_rfl) (by kernel_rfl) (by kernel_rfl) (fun _ _ _ h => h) (Or.inl ⟨by rfl, ?hoa5r10o3⟩) hS ?_
      case hoa5r10o3 => (intro wx hx; obtain ⟨f0, f1, f2, d0, d1⟩ := SQ.all hx; go_simp; (try with_reducible rfl))
      try simp only [Act.put, List.setIfInBounds_toArray, List.set_cons_zero, List.set_cons_succ]
      refine wpAnyH_take (i := 4) (oi := { dst := some 53, op := Op.binOp BinOp.rem 3 (Operand.tmp 50) (Operand.tmp 52) 3, type := 3, pos := "more.go:118", after := #[{ on := 1, ground := Ground.data }, { on := 3, ground := Ground.data }], guard := none }) (v := ?voa5r10o4) rfl (by kernel_rfl) (by kernel_rfl) (by kernel_rfl) (fun _ _ _ h => h) (Or.inl ⟨by rfl, ?hoa5r10o4⟩) hS ?_
      case hoa5r10o4 => (intro wx hx; skip; go_simp; (try with_reducible rfl))
      try simp only [Act.put, List.setIfInBounds_toArray, List.set_cons_zero, List.set_cons_succ]
      refine wpAnyH_ready (rs := [5]) (by kernel_rfl) (by simp) ?_
      refine AllReadyH.cons (o := { dst := some 54, op := Op.call { callee := Callee.value (Operand.func 21), args := #[Operand.tmp 49, Operand.tmp 53], argTypes := #[25, 3] }, type := 3, pos := "more.go:118", after := #[{ on := 0, ground := Ground.data }, { on := 4, ground := Ground.data }], guard := none }) rfl (fun K hK => ?_) AllReadyH.nil
      go_simp
      refine (HAt.out _).mono ?_
      rintro e v1 ⟨rfl, hn⟩
      have hOn := Lib.hid (hOr.out.quiet hn)
      clear hOr hn
      have hOr := hOn
      clear hOn
      refine hK.out _ _ ?hsoa5r10o5 (fun hS => ?_)
      case hsoa5r10o5 => (exact ⟨hOr.out.box 0 rfl, (Hc.out _ hOr.out.grown).1, (Hc.out _ hOr.out.grown).2⟩)
      clear hK K
      try simp only [Act.put, List.setIfInBounds_toArray, List.set_cons_zero, List.set_cons_succ]
      refine wpAnyH_take (i := 6) (oi := { dst := some 14, op := Op.assign (Operand.tmp 54), type := 3, pos := "more.go:118", after := #[{ on := 5, ground := Ground.data }, { on := 5, ground := Ground.chain }, { on := 0, ground := Ground.phase }, { on := 1, ground := Ground.phase }, { on := 2, ground := Ground.phase }, { on := 3, ground := Ground.phase }, { on := 4, ground := Ground.phase }, { on := 5, ground := Ground.phase }], guard := none }) (v := ?voa5r10o6) rfl (by kernel_rfl) (by kernel_rfl) (by kernel_rfl) (fun _ _ _ h => h) (Or.inl ⟨by rfl, ?hoa5r10o6⟩) hS ?_
      case hoa5r10o6 => (intro wx hx; skip; go_simp; (try with_reducible rfl))
      try simp only [Act.put, List.setIfInBounds_toArray, List.set_cons_zero, List.set_cons_succ]
      refine wpAnyH_done (by kernel_rfl) ?_ _
      obtain ⟨p, hp⟩ : ∃ p, k % 2 = p := ⟨_, rfl⟩
      have e3 : (k : Int) % 2 = (p : Int) := by omega
      have e4 : Int.tmod (k : Int) 2 = (p : Int) := by rw [Int.tmod_eq_emod_of_nonneg (by omega)]; exact e3
      have wp : IntKind.i64.wrap (p : Int) = (p : Int) := IntWalk.i64_in _ ⟨by omega, by omega⟩
      obtain ⟨f0, f1, f2, d0, d1⟩ := SQ.all hS
      by_cases hp0 : p = 0
      · as_aux_lemma =>
        have q0 : ((p : Int) == 0) = true := by rw [hp0]; rfl
        obtain ⟨s, hs⟩ : ∃ s, A % 207 = s := ⟨_, rfl⟩
        have e5 : (A : Int) % 207 = (s : Int) := by omega
        have e6 : Int.tmod (A : Int) 207 = (s : Int) := by rw [Int.tmod_eq_emod_of_nonneg (by omega)]; exact e5
        have ws : IntKind.i64.wrap (s : Int) = (s : Int) := IntWalk.i64_in _ ⟨by omega, by omega⟩
        obtain ⟨B1, hB1⟩ : ∃ B1, B + 1 = B1 := ⟨_, rfl⟩
        have e7 : IntKind.i64.wrap ((B : Int) + 1) = (B1 : Int) := by rw [IntWalk.i64_in _ ⟨by omega, by omega⟩]; omega
        have e7' : (B : Int) + 1 = (B1 : Int) := by omega
        obtain ⟨t, ht⟩ : ∃ t, B1 + s = t := ⟨_, rfl⟩
        have e8 : IntKind.i64.wrap ((B1 : Int) + (s : Int)) = (t : Int) := by rw [IntWalk.i64_in _ ⟨by omega, by omega⟩]; omega
        have e8' : (B1 : Int) + (s : Int) = (t : Int) := by omega
        have wt : IntKind.i64.wrap (t : Int) = (t : Int) := IntWalk.i64_in _ ⟨by omega, by omega⟩
        have wB1 : IntKind.i64.wrap (B1 : Int) = (B1 : Int) := IntWalk.i64_in _ ⟨by omega, by omega⟩
        have htN : t < N := by have := HN.out; omega
        have t0 : (0 : Int) ≤ (t : Int) := by omega
        have tN : (t : Int) < (N : Int) := by omega
        obtain ⟨cK, fK⟩ := cell_at hOr.out 1 rfl HR.out.1 t htN _ rfl
        obtain ⟨U, hU⟩ : ∃ U, xs.getD t 0 = U := ⟨_, rfl⟩
        rw [hU] at cK
        have hO2 := (hOr.out.quiet (grown_drew (World.grownBy.refl _ none))).store 1 rfl t (wv V)
        rw [← List.map_set] at hO2
        have HO2 := Lib.hid hO2
        have HR2 := Lib.hid (HR.out.set t V hV.out)
        have HS2 := Lib.hid (Still.set HS.out t V (fun j hj => by omega))
        clear hO2 hS hU hs hB1 ht hB hP hp hp0 b1 b2 HAt HBa
        go_wp2_with fail
        go_still_tail 17, (by kernel_rfl)
        change wpList _ _ _ _ _ (World.drew _)
        go_wp2
        go_roundw
        case rel => exact ⟨k + 1, xs.set t V, by omega, by go_num, HR2, HS2, HO2⟩
        case measure => simp [intOf]; omega
      · as_aux_lemma =>
        have q0 : ((p : Int) == 0) = false := by rw [beq_eq_false_iff_ne]; omega
        obtain ⟨s, hs⟩ : ∃ s, A % 8 = s := ⟨_, rfl⟩
        have e5 : (A : Int) % 8 = (s : Int) := by omega
        have e6 : Int.tmod (A : Int) 8 = (s : Int) := by rw [Int.tmod_eq_emod_of_nonneg (by omega)]; exact e5
        have ws : IntKind.i64.wrap (s : Int) = (s : Int) := IntWalk.i64_in _ ⟨by omega, by omega⟩
        obtain ⟨t, ht⟩ : ∃ t, P + s = t := ⟨_, rfl⟩
        have e8 : IntKind.i64.wrap ((P : Int) + (s : Int)) = (t : Int) := by rw [IntWalk.i64_in _ ⟨by omega, by omega⟩]; omega
        have e8' : (P : Int) + (s : Int) = (t : Int) := by omega
        have wt : IntKind.i64.wrap (t : Int) = (t : Int) := IntWalk.i64_in _ ⟨by omega, by omega⟩
        have htN : t < N := by have := HN.out; omega
        have t0 : (0 : Int) ≤ (t : Int) := by omega
        have tN : (t : Int) < (N : Int) := by omega
        have HR2 := Lib.hid (HR.out.set t V hV.out)
        have HS2 := Lib.hid (Still.set HS.out t V (fun j hj => by omega))
        have hOs := Lib.hid (hOr.out.quiet (grown_drew (World.grownBy.refl _ none)))
        have hz1 : Hid (SQ G (a : Int) (b : Int) (c : Int) tg (to' + k * 2) (A : Int) (V : Int) _) := Lib.hid ⟨hOs.out.box 0 rfl, (Hc.out _ hOs.out.grown).1, (Hc.out _ hOs.out.grown).2⟩
        clear hS hs ht hB hP hp hp0 b1 b2 HAt hOr f0 f1 f2 d0 d1
        go_wp2_with fail
        refine wp_region_held_drew (S := fun w' => SQ G (a : Int) (b : Int) (c : Int) tg (to' + k * 2) (A : Int) (V : Int) w') (by kernel_rfl) (hz1.out) (fun hS => ?_)
        refine wpAnyH_take (i := 0) (oi := { dst := some 77, op := Op.move (Operand.tmp 12), type := 30, pos := "more.go:125", after := #[], guard := none }) (v := ?vob5r15o0) rfl (by kernel_rfl) (by kernel_rfl) (by kernel_rfl) (fun _ _ _ h => h) (Or.inl ⟨by rfl, ?hob5r15o0⟩) hS ?_
        case hob5r15o0 => (intro wx hx; skip; go_simp; (try with_reducible rfl))
        try simp only [Act.put, List.setIfInBounds_toArray, List.set_cons_zero, List.set_cons_succ]
        refine wpAnyH_take (i := 1) (oi := { dst := some 78, op := Op.load 25 (Operand.tmp 11), type := 25, pos := "more.go:125", after := #[], guard := none }) (v := ?vob5r15o1) rfl (by kernel_rfl) (by kernel_rfl) (by kernel_rfl) (fun _ _ _ h => h) (Or.inl ⟨by rfl, ?hob5r15o1⟩) hS ?_
        case hob5r15o1 => (intro wx hx; obtain ⟨f0, f1, f2, d0, d1⟩ := SQ.all hx; go_simp; (try with_reducible rfl))
        try simp only [Act.put, List.setIfInBounds_toArray, List.set_cons_zero, List.set_cons_succ]
        refine wpAnyH_take (i := 3) (oi := { dst := some 80, op := Op.move (Operand.tmp 3), type := 22, pos := "more.go:125", after := #[], guard := none }) (v := ?vob5r15o3) rfl (by kernel_rfl) (by kernel_rfl) (by kernel_rfl) (fun _ _ _ h => h) (Or.inl ⟨by rfl, ?hob5r15o3⟩) hS ?_
        case hob5r15o3 => (intro wx hx; skip; go_simp; (try with_reducible rfl))
        try simp only [Act.put, List.setIfInBounds_toArray, List.set_cons_zero, List.set_cons_succ]
        refine wpAnyH_take (i := 4) (oi := { dst := some 81, op := Op.move (Operand.tmp 13), type := 3, pos := "more.go:125", after := #[], guard := none }) (v := ?vob5r15o4) rfl (by kernel_rfl) (by kernel_rfl) (by kernel_rfl) (fun _ _ _ h => h) (Or.inl ⟨by rfl, ?hob5r15o4⟩) hS ?_
        case hob5r15o4 => (intro wx hx; skip; go_simp; (try with_reducible rfl))
        try simp only [Act.put, List.setIfInBounds_toArray, List.set_cons_zero, List.set_cons_succ]
        refine wpAnyH_take (i := 5) (oi := { dst := some 82, op := Op.indexAddr 22 (Operand.tmp 80) (Operand.tmp 81), type := 0, pos := "more.go:125", after := #[{ on := 3, ground := Ground.data }, { on := 4, ground := Ground.data }], guard := none }) (v := ?vob5r15o5) rfl (by kernel_rfl) (by kernel_rfl) (by kernel_rfl) (fun _ _ _ h => h) (Or.inl ⟨by rfl, ?hob5r15o5⟩) hS ?_
        case hob5r15o5 => (intro wx hx; skip; go_simp; (try with_reducible rfl))
        try simp only [Act.put, List.setIfInBounds_toArray, List.set_cons_zero, List.set_cons_succ]
        refine wpAnyH_take (i := 6) (oi := { dst := some 83, op := Op.fieldAddr 58 (Operand.tmp 82) 0, type := 0, pos := "more.go:125", after := #[{ on := 5, ground := Ground.data }], guard := none }) (v := ?vob5r15o6) rfl (by kernel_rfl) (by kernel_rfl) (by kernel_rfl) (fun _ _ _ h => h) (Or.inl ⟨by rfl, ?hob5r15o6⟩) hS ?_
        case hob5r15o6 => (intro wx hx; skip; go_simp; (try with_reducible rfl))
        try simp only [Act.put, List.setIfInBounds_toArray, List.set_cons_zero, List.set_cons_succ]
        refine wpAnyH_take (i := 7) (oi := { dst := some 84, op := Op.load 5 (Operand.tmp 83), type := 5, pos := "more.go:125", after := #[{ on := 6, ground := Ground.data }], guard := none }) (v := ?vob5r15o7) rfl (by kernel_rfl) (by kernel_rfl) (by kernel_rfl) (fun _ _ _ h => h) (Or.inl ⟨by rfl, ?hob5r15o7⟩) hS ?_
        case hob5r15o7 => (intro wx hx; obtain ⟨f0, f1, f2, d0, d1⟩ := SQ.all hx; go_simp; (try with_reducible rfl))
        try simp only [Act.put, List.setIfInBounds_toArray, List.set_cons_zero, List.set_cons_succ]
        refine wpAnyH_take (i := 8) (oi := { dst := some 85, op := Op.convert 5 3 (Operand.tmp 84), type := 3, pos := "more.go:125", after := #[{ on := 7, ground := Ground.data }], guard := none }) (v := ?vob5r15o8) rfl (by kernel_rfl) (by kernel_rfl) (by kernel_rfl) (fun _ _ _ h => h) (Or.inl ⟨by rfl, ?hob5r15o8⟩) hS ?_
        case hob5r15o8 => (intro wx hx; obtain ⟨f0, f1, f2, d0, d1⟩ := SQ.all hx; go_simp; (try with_reducible rfl))
        try simp only [Act.put, List.setIfInBounds_toArray, List.set_cons_zero, List.set_cons_succ]
        refine wpAnyH_take (i := 9) (oi := { dst := some 86, op := Op.binOp BinOp.rem 3 (Operand.tmp 85) (Operand.const (Value.int IntKind.i64 8)) 3, type := 3, pos := "more.go:125", after := #[{ on := 8, ground := Ground.data }], guard := none }) (v := ?vob5r15o9) rfl (by kernel_rfl) (by kernel_rfl) (by kernel_rfl) (fun _ _ _ h => h) (Or.inl ⟨by rfl, ?hob5r15o9⟩) hS ?_
        case hob5r15o9 => (intro wx hx; skip; go_simp; (try with_reducible rfl))
        try simp only [Act.put, List.setIfInBounds_toArray, List.set_cons_zero, List.set_cons_succ]
        refine wpAnyH_take (i := 11) (oi := { dst := some 88, op := Op.move (Operand.tmp 3), type := 22, pos := "more.go:125", after := #[], guard := none }) (v := ?vob5r15o11) rfl (by kernel_rfl) (by kernel_rfl) (by kernel_rfl) (fun _ _ _ h => h) (Or.inl ⟨by rfl, ?hob5r15o11⟩) hS ?_
        case hob5r15o11 => (intro wx hx; skip; go_simp; (try with_reducible rfl))
        try simp only [Act.put, List.setIfInBounds_toArray, List.set_cons_zero, List.set_cons_succ]
        refine wpAnyH_take (i := 12) (oi := { dst := some 89, op := Op.move (Operand.tmp 13), type := 3, pos := "more.go:125", after := #[], guard := none }) (v := ?vob5r15o12) rfl (by kernel_rfl) (by kernel_rfl) (by kernel_rfl) (fun _ _ _ h => h) (Or.inl ⟨by rfl, ?hob5r15o12⟩) hS ?_
        case hob5r15o12 => (intro wx hx; skip; go_simp; (try with_reducible rfl))
        try simp only [Act.put, List.setIfInBounds_toArray, List.set_cons_zero, List.set_cons_succ]
        refine wpAnyH_take (i := 13) (oi := { dst := some 90, op := Op.indexAddr 22 (Operand.tmp 88) (Operand.tmp 89), type := 0, pos := "more.go:125", after := #[{ on := 11, ground := Ground.data }, { on := 12, ground := Ground.data }], guard := none }) (v := ?vob5r15o13) rfl (by kernel_rfl) (by kernel_rfl) (by kernel_rfl) (fun _ _ _ h => h) (Or.inl ⟨by rfl, ?hob5r15o13⟩) hS ?_
        case hob5r15o13 => (intro wx hx; skip; go_simp; (try with_reducible rfl))
        try simp only [Act.put, List.setIfInBounds_toArray, List.set_cons_zero, List.set_cons_succ]
        refine wpAnyH_take (i := 14) (oi := { dst := some 91, op := Op.fieldAddr 58 (Operand.tmp 90) 1, type := 0, pos := "more.go:125", after := #[{ on := 13, ground := Ground.data }], guard := none }) (v := ?vob5r15o14) rfl (by kernel_rfl) (by kernel_rfl) (by kernel_rfl) (fun _ _ _ h => h) (Or.inl ⟨by rfl, ?hob5r15o14⟩) hS ?_
        case hob5r15o14 => (intro wx hx; skip; go_simp; (try with_reducible rfl))
        try simp only [Act.put, List.setIfInBounds_toArray, List.set_cons_zero, List.set_cons_succ]
        refine wpAnyH_take (i := 15) (oi := { dst := some 92, op := Op.load 39 (Operand.tmp 91), type := 39, pos := "more.go:125", after := #[{ on := 14, ground := Ground.data }], guard := none }) (v := ?vob5r15o15) rfl (by kernel_rfl) (by kernel_rfl) (by kernel_rfl) (fun _ _ _ h => h) (Or.inl ⟨by rfl, ?hob5r15o15⟩) hS ?_
        case hob5r15o15 => (intro wx hx; obtain ⟨f0, f1, f2, d0, d1⟩ := SQ.all hx; go_simp; (try with_reducible rfl))
        try simp only [Act.put, List.setIfInBounds_toArray, List.set_cons_zero, List.set_cons_succ]
        refine wpAnyH_ready (rs := [2]) (by kernel_rfl) (by simp) ?_
        refine AllReadyH.cons (o := { dst := some 79, op := Op.call { callee := Callee.value (Operand.func 24), args := #[Operand.tmp 78, Operand.const (Value.int IntKind.i64 1)], argTypes := #[25, 3] }, type := 3, pos := "more.go:125", after := #[{ on := 1, ground := Ground.data }], guard := none }) rfl (fun K hK => ?_) AllReadyH.nil
        go_simp
        refine (HBa.out _).mono ?_
        rintro e v1 ⟨rfl, hn⟩
        have hOn := Lib.hid (hOs.out.quiet hn)
        clear hOs hn
        have hOs := hOn
        clear hOn
        obtain ⟨cK, fK⟩ := cell_at hOs.out 1 rfl HR.out.1 t htN _ rfl
        obtain ⟨U, hU⟩ : ∃ U, xs.getD t 0 = U := ⟨_, rfl⟩
        rw [hU] at cK
        clear hU
        refine hK.out _ _ ?hsob5r15o2 (fun hS => ?_)
        case hsob5r15o2 => (exact ⟨hOs.out.box 0 rfl, (Hc.out _ hOs.out.grown).1, (Hc.out _ hOs.out.grown).2⟩)
        clear hK K
        try simp only [Act.put, List.setIfInBounds_toArray, List.set_cons_zero, List.set_cons_succ]
        refine wpAnyH_take (i := 10) (oi := { dst := some 87, op := Op.binOp BinOp.add 3 (Operand.tmp 79) (Operand.tmp 86) 3, type := 3, pos := "more.go:125", after := #[{ on := 2, ground := Ground.data }, { on := 9, ground := Ground.data }], guard := none }) (v := ?vob5r15o10) rfl (by kernel_rfl) (by kernel_rfl) (by kernel_rfl) (fun _ _ _ h => h) (Or.inl ⟨by rfl, ?hob5r15o10⟩) hS ?_
        case hob5r15o10 => (intro wx hx; skip; go_simp; (try with_reducible rfl))
        try simp only [Act.put, List.setIfInBounds_toArray, List.set_cons_zero, List.set_cons_succ]
        refine wpAnyH_take (i := 16) (oi := { dst := some 93, op := Op.indexAddr 30 (Operand.tmp 77) (Operand.tmp 87), type := 0, pos := "more.go:125", after := #[{ on := 0, ground := Ground.data }, { on := 10, ground := Ground.data }, { on := 0, ground := Ground.phase }, { on := 1, ground := Ground.phase }, { on := 2, ground := Ground.phase }, { on := 3, ground := Ground.phase }, { on := 4, ground := Ground.phase }, { on := 5, ground := Ground.phase }, { on := 6, ground := Ground.phase }, { on := 7, ground := Ground.phase }, { on := 8, ground := Ground.phase }, { on := 9, ground := Ground.phase }, { on := 10, ground := Ground.phase }, { on := 11, ground := Ground.phase }, { on := 12, ground := Ground.phase }, { on := 13, ground := Ground.phase }, { on := 14, ground := Ground.phase }, { on := 15, ground := Ground.phase }], guard := none }) (v := ?vob5r15o16) rfl (by kernel_rfl) (by kernel_rfl) (by kernel_rfl) (fun _ _ _ h => h) (Or.inl ⟨by rfl, ?hob5r15o16⟩) hS ?_
        case hob5r15o16 => (intro wx hx; skip; go_simp; (try with_reducible rfl))
        try simp only [Act.put, List.setIfInBounds_toArray, List.set_cons_zero, List.set_cons_succ]
        refine wpAnyH_ready (rs := [17]) (by kernel_rfl) (by simp) ?_
        refine AllReadyH.cons (o := { dst := none, op := Op.store 39 (Operand.tmp 93) (Operand.tmp 92), type := 0, pos := "more.go:125", after := #[{ on := 16, ground := Ground.data }, { on := 15, ground := Ground.data }, { on := 2, ground := Ground.chain }, { on := 0, ground := Ground.phase }, { on := 1, ground := Ground.phase }, { on := 2, ground := Ground.phase }, { on := 3, ground := Ground.phase }, { on := 4, ground := Ground.phase }, { on := 5, ground := Ground.phase }, { on := 6, ground := Ground.phase }, { on := 7, ground := Ground.phase }, { on := 8, ground := Ground.phase }, { on := 9, ground := Ground.phase }, { on := 10, ground := Ground.phase }, { on := 11, ground := Ground.phase }, { on := 12, ground := Ground.phase }, { on := 13, ground := Ground.phase }, { on := 14, ground := Ground.phase }, { on := 15, ground := Ground.phase }], guard := none }) rfl (fun K hK => ?_) AllReadyH.nil
        go_simp
        have hO2 := Own.store hOs.out 1 rfl t (wv V)
        rw [← List.map_set] at hO2
        have HO2 := Lib.hid hO2
        clear hOs hO2
        have hOs := HO2
        clear HO2
        refine hK.out _ _ ?hsob5r15o17 (fun hS => ?_)
        case hsob5r15o17 => (exact ⟨hOs.out.box 0 rfl, (Hc.out _ hOs.out.grown).1, (Hc.out _ hOs.out.grown).2⟩)
        clear hK K
        try simp only [Act.put, List.setIfInBounds_toArray, List.set_cons_zero, List.set_cons_succ]
        refine wpAnyH_done (by kernel_rfl) ?_ _
        go_wp2
        go_roundw
        case rel => exact ⟨k + 1, xs.set t V, by omega, by go_num, HR2, HS2, hOs⟩
        case measure => simp [intOf]; omega
    · have hlt' : ¬ (k : Int) < (tl : Int) := by omega
      obtain ⟨hW, _, _⟩ := Own.words hO.out 1 rfl HR.out.2 (by omega)
      clear hlt hk k0'
      have Hxl := Lib.hid HR.out.1
      have hxl0 : xs.length = N := HR.out.1
      have hSt := over_still (b := (b : Int)) (c := (c : Int)) HS.out (by rw [hxl0]; have := HN.out; omega) a (Nat.le_refl _)
      have hTw := over_twice (b := (b : Int)) (c := (c : Int)) HS.out (by rw [hxl0]; have := HN.out; omega)
      have hZl := overS_length (a : Int) (b : Int) (c : Int) xs a
      have hZs := over_small (a := (a : Int)) (b := (b : Int)) (c := (c : Int)) HR.out.2 a
      rw [hxl0] at hZl
      obtain ⟨zs, hzs⟩ : ∃ zs, overS (a : Int) (b : Int) (c : Int) xs a = zs := ⟨_, rfl⟩
      rw [hzs] at hSt hTw hZl hZs
      have HZ : Hid (Row N zs) := Lib.hid ⟨hZl, hZs⟩
      have HSt := Lib.hid hSt
      have HTw := Lib.hid hTw
      have Hzs := Lib.hid hzs
      clear hSt hTw hZl hZs hzs hxl0
      go_wp2_with (at_builtin; refine app64 rfl _ _ rfl wr.heap.size _ 0 [] rfl (own_lit wr _ 1 wr.heap.size (Nat.le_refl _)) (some ⟨q, 0, none⟩) N N xs rfl ?a1 (by simp) ?a2 ?a3 ?_)
      case a1 => exact hW.keep (World.grownBy_alloc wr _ none) (by simp)
      case a2 => omega
      intro v1 w5 hown hg
      have hg := grown_new (World.grownBy_alloc wr _ none) hg (by intro g e; cases e; exact Nat.le_refl _)
      try rw [List.nil_append, Nat.zero_add] at hown
      obtain ⟨ad2, cp2, rfl, _⟩ := row_slice hown
      have hO5 := hO.out.addRow hown hg
      clear hown hg hW hO
      obtain ⟨q2, rfl, e1, e2, hc2⟩ := Own.cell hO5 2 rfl 0 (wv (xs.getD 0 0)) (by rw [List.getElem?_map, List.getD_eq_getElem?_getD, List.getElem?_eq_getElem (by rw [Hxl.out]; omega)]; rfl)
      clear e1 e2
      have hO5 : Hid (Own w w5 [boxP G 25 #[.int .i64 (a : Int), .int .i64 (b : Int), .int .i64 (c : Int)], rowP 39 1 (.slice (some ⟨q, 0, none⟩) N N) N (xs.map wv), rowP 39 1 (.slice (some ⟨q2, 0, none⟩) N cp2) N (xs.map wv)]) := Lib.hid hO5
      obtain ⟨hW2, _, _⟩ := Own.words hO5.out 2 rfl HR.out.2 (by omega)
      have HOv := Lib.hid (Over_yes w5.heap.size a b c q2 N cp2 xs w5 hW2 hc2 Hm.out (by have := HN.out; omega) (by omega) (Nat.le_refl _))
      unfold gv at HOv
      rw [Hzs.out] at HOv
      clear hW2
      obtain ⟨f0, f1, f2⟩ := GeoQ.cells (show GeoQ G (a : Int) (b : Int) (c : Int) w5 from hO5.out.box 0 rfl)
      go_wp2_with fail
      refine HOv.out.mono ?_
      rintro e w6 ⟨ad3, cp3, rfl, hrow, hg6⟩
      rw [HZ.out.1] at hrow ⊢
      have hO6 := hO5.out.addRow hrow hg6
      clear hrow hg6 hO5 HOv f0 f1 f2
      obtain ⟨q3, rfl, e1, e2, hc3⟩ := Own.cell hO6 3 rfl 0 (wv (zs.getD 0 0)) (by rw [List.getElem?_map, List.getD_eq_getElem?_getD, List.getElem?_eq_getElem (by rw [HZ.out.1]; omega)]; rfl)
      clear e1 e2
      have hO6 : Hid (Own w w6 [boxP G 25 #[.int .i64 (a : Int), .int .i64 (b : Int), .int .i64 (c : Int)], rowP 39 1 (.slice (some ⟨q, 0, none⟩) N N) N (xs.map wv), rowP 39 1 (.slice (some ⟨q2, 0, none⟩) N cp2) N (xs.map wv), rowP 39 1 (.slice (some ⟨q3, 0, none⟩) N cp3) N (zs.map wv)]) := Lib.hid hO6
      obtain ⟨hW1, _, _⟩ := Own.words hO6.out 1 rfl HR.out.2 (by omega)
      obtain ⟨hW2, _, _⟩ := Own.words hO6.out 2 rfl HR.out.2 (by omega)
      have HS1 := Lib.hid (Same_any (some ⟨q2, 0, none⟩) (some ⟨q, 0, none⟩) N N cp2 N xs xs w6 hW2 hW1)
      rw [decide_eq_true rfl] at HS1
      clear hW1 hW2
      have k2 : ((N : Int) != (N : Int)) = false := by simp
      go_wp2_with fail
      refine HS1.out.mono ?_
      rintro e w7 ⟨rfl, hg7⟩
      have hO7 : Hid (Own w w7 [boxP G 25 #[.int .i64 (a : Int), .int .i64 (b : Int), .int .i64 (c : Int)], rowP 39 1 (.slice (some ⟨q, 0, none⟩) N N) N (xs.map wv), rowP 39 1 (.slice (some ⟨q2, 0, none⟩) N cp2) N (xs.map wv), rowP 39 1 (.slice (some ⟨q3, 0, none⟩) N cp3) N (zs.map wv)]) := Lib.hid (hO6.out.quiet hg7)
      clear hg7 hO6 HS1
      obtain ⟨f0, f1, f2⟩ := GeoQ.cells (show GeoQ G (a : Int) (b : Int) (c : Int) w7 from hO7.out.box 0 rfl)
      obtain ⟨hW3, _, _⟩ := Own.words hO7.out 3 rfl HZ.out.2 (by omega)
      have HOv := Lib.hid (Over_yes w7.heap.size a b c q3 N cp3 zs w7 hW3 hc3 Hm.out (by have := HN.out; omega) (by omega) (Nat.le_refl _))
      unfold gv at HOv
      rw [HTw.out] at HOv
      clear hW3
      go_wp2_with fail
      refine HOv.out.mono ?_
      rintro e w8 ⟨ad4, cp4, rfl, hrow, hg8⟩
      rw [HZ.out.1] at hrow ⊢
      have hO8 := hO7.out.addRow hrow hg8
      clear hrow hg8 hO7 HOv f0 f1 f2
      have hO8 : Hid (Own w w8 ([boxP G 25 #[.int .i64 (a : Int), .int .i64 (b : Int), .int .i64 (c : Int)], rowP 39 1 (.slice (some ⟨q, 0, none⟩) N N) N (xs.map wv), rowP 39 1 (.slice (some ⟨q2, 0, none⟩) N cp2) N (xs.map wv), rowP 39 1 (.slice (some ⟨q3, 0, none⟩) N cp3) N (zs.map wv)] ++ [rowP 39 1 (.slice ad4 N cp4) N (zs.map wv)])) := Lib.hid hO8
      obtain ⟨hW3, _, _⟩ := Own.words hO8.out 3 rfl HZ.out.2 (by omega)
      obtain ⟨hW4, _, _⟩ := Own.words hO8.out 4 rfl HZ.out.2 (by omega)
      have HS1 := Lib.hid (Same_any ad4 (some ⟨q3, 0, none⟩) N N cp4 cp3 zs zs w8 hW4 hW3)
      rw [decide_eq_true rfl] at HS1
      clear hW3 hW4
      go_wp2_with fail
      refine HS1.out.mono ?_
      rintro e w9 ⟨rfl, hg9⟩
      have hO9 : Hid (Own w w9 [boxP G 25 #[.int .i64 (a : Int), .int .i64 (b : Int), .int .i64 (c : Int)], rowP 39 1 (.slice (some ⟨q, 0, none⟩) N N) N (xs.map wv), rowP 39 1 (.slice (some ⟨q2, 0, none⟩) N cp2) N (xs.map wv), rowP 39 1 (.slice (some ⟨q3, 0, none⟩) N cp3) N (zs.map wv)]) := Lib.hid ((Own.less hO8.out).quiet hg9)
      clear hg9 hO8 HS1
      go_wp2_with fail
      go_loopw [17] (fun i wx => ∃ k : Nat, k ≤ N ∧ i = .int .i64 (k : Int) ∧ Hid (Own w wx [boxP G 25 #[.int .i64 (a : Int), .int .i64 (b : Int), .int .i64 (c : Int)], rowP 39 1 (.slice (some ⟨q, 0, none⟩) N N) N (xs.map wv), rowP 39 1 (.slice (some ⟨q2, 0, none⟩) N cp2) N (xs.map wv), rowP 39 1 (.slice (some ⟨q3, 0, none⟩) N cp3) N (zs.map wv)])) (fun i _ => N - (intOf i).toNat)
      case atStart => exact ⟨0, Nat.zero_le _, rfl, hO9⟩
      case round =>
        clear hO9
        obtain ⟨k, hk, rfl, hO⟩ := hrel
        have k0' : (0 : Int) ≤ (k : Int) := by omega
        by_cases hlt : k < N
        · as_aux_lemma =>
          have hlt2 : (k : Int) < (N : Int) := by omega
          have wk : IntKind.i64.wrap ((k : Int) + 1) = (k : Int) + 1 := IntWalk.i64_in _ ⟨by omega, by omega⟩
          have HWh := Lib.hid (fun wx => Where_any (a : Int) (b : Int) (c : Int) (k : Int) wx (by omega))
          unfold gv at HWh
          obtain ⟨⟨v1, v2, v3, v4⟩, hv⟩ : ∃ v, whereV (a : Int) (b : Int) (c : Int) (k : Int) = v := ⟨_, rfl⟩
          rw [hv] at HWh
          obtain ⟨U, hU⟩ : ∃ U, xs.getD k 0 = U := ⟨_, rfl⟩
          obtain ⟨f0, f1, f2⟩ := GeoQ.cells (show GeoQ G (a : Int) (b : Int) (c : Int) _ from hO.out.box 0 rfl)
          by_cases har : 264 ≤ k ∧ k < 264 + 208 * a
          · as_aux_lemma =>
            have h5 : v1 = 5 := by have := wh_is5 (x := (k : Int)) Hm.out (by omega); rw [hv] at this; exact this
            have q5 : (v1 == 5) = true := by rw [h5]; rfl
            have hz : zs.getD k 0 = 0 := by rw [HSt.out, if_pos har]
            clear har h5 hv
            go_wp2_with fail
            refine (HWh.out _).mono ?_
            rintro e w5 ⟨rfl, hg5⟩
            have hO5 := Lib.hid (hO.out.quiet hg5)
            clear f0 f1 f2 hg5 hO HWh
            obtain ⟨c1, _⟩ := cell_at hO5.out 1 rfl Hxl.out k hlt U hU
            obtain ⟨c3, _⟩ := cell_at hO5.out 3 rfl HZ.out.1 k hlt 0 hz
            clear hU hz
            go_wp2
            go_roundw
            case rel => exact ⟨k + 1, by omega, by go_num, hO5⟩
            case measure => simp [intOf]; omega
          · as_aux_lemma =>
            have h5 : v1 ≠ 5 := by have := wh_not5 (x := (k : Int)) Hm.out (by omega) (by omega); rw [hv] at this; exact this
            have q5 : (v1 == 5) = false := by rw [beq_eq_false_iff_ne]; exact h5
            have hz : zs.getD k 0 = U := by rw [HSt.out, if_neg har]; exact hU
            have qU : ((U : Int) != (U : Int)) = false := by simp
            clear har h5 hv
            go_wp2_with fail
            refine (HWh.out _).mono ?_
            rintro e w5 ⟨rfl, hg5⟩
            have hO5 := Lib.hid (hO.out.quiet hg5)
            clear f0 f1 f2 hg5 hO HWh
            obtain ⟨c1, _⟩ := cell_at hO5.out 1 rfl Hxl.out k hlt U hU
            obtain ⟨c3, _⟩ := cell_at hO5.out 3 rfl HZ.out.1 k hlt U hz
            clear hU hz
            go_wp2
            go_roundw
            case rel => exact ⟨k + 1, by omega, by go_num, hO5⟩
            case measure => simp [intOf]; omega
        · as_aux_lemma =>
          have hlt2 : ¬ (k : Int) < (N : Int) := by omega
          have hsl := fun wx => slice_to (P := Try.prog) 30 39 Try.underlying30 1 Try.sizeOf39 (some ⟨q, 0, none⟩) N N n8 (by omega) (fun aa ha => by cases ha; rfl) wx
          have HOn := Lib.hid (fun wx => Over_no (a : Int) (b : Int) (c : Int) (some ⟨q, 0, none⟩) n8 N wx (.inr (by rw [words_pos Hm.out]; have := HN.out; omega)))
          unfold gv at HOn
          have hOr := Lib.hid (hO.out.quiet (grown_drew (World.grownBy.refl _ none)))
          have hz9 : Hid (GeoQ G (a : Int) (b : Int) (c : Int) _) := Lib.hid (hOr.out.box 0 rfl)
          clear hO hk hlt
          go_wp2_with fail
          refine wp_region_held_drew (S := fun w' => GeoQ G (a : Int) (b : Int) (c : Int) w') (by kernel_rfl) (hz9.out) (fun hS => ?_)
          refine wpAnyH_take (i := 0) (oi := { dst := some 145, op := Op.load 25 (Operand.tmp 11), type := 25, pos := "more.go:143", after := #[], guard := none }) (v := ?voc5r29o0) rfl (by kernel_rfl) (by kernel_rfl) (by kernel_rfl) (fun _ _ _ h => h) (Or.inl ⟨by rfl, ?hoc5r29o0⟩) hS ?_
          case hoc5r29o0 => (intro wx hx; obtain ⟨f0, f1, f2⟩ := GeoQ.cells hx; go_simp; (try with_reducible rfl))
          try simp only [Act.put, List.setIfInBounds_toArray, List.set_cons_zero, List.set_cons_succ]
          refine wpAnyH_take (i := 1) (oi := { dst := some 146, op := Op.move (Operand.tmp 12), type := 30, pos := "more.go:143", after := #[], guard := none }) (v := ?voc5r29o1) rfl (by kernel_rfl) (by kernel_rfl) (by kernel_rfl) (fun _ _ _ h => h) (Or.inl ⟨by rfl, ?hoc5r29o1⟩) hS ?_
          case hoc5r29o1 => (intro wx hx; skip; go_simp; (try with_reducible rfl))
          try simp only [Act.put, List.setIfInBounds_toArray, List.set_cons_zero, List.set_cons_succ]
          refine wpAnyH_take (i := 2) (oi := { dst := some 147, op := Op.move (Operand.tmp 12), type := 30, pos := "more.go:143", after := #[], guard := none }) (v := ?voc5r29o2) rfl (by kernel_rfl) (by kernel_rfl) (by kernel_rfl) (fun _ _ _ h => h) (Or.inl ⟨by rfl, ?hoc5r29o2⟩) hS ?_
          case hoc5r29o2 => (intro wx hx; skip; go_simp; (try with_reducible rfl))
          try simp only [Act.put, List.setIfInBounds_toArray, List.set_cons_zero, List.set_cons_succ]
          refine wpAnyH_take (i := 3) (oi := { dst := some 148, op := Op.call { callee := Callee.builtin Builtin.len, args := #[Operand.tmp 147], argTypes := #[30] }, type := 3, pos := "more.go:143", after := #[{ on := 2, ground := Ground.data }], guard := none }) (v := ?voc5r29o3) rfl (by kernel_rfl) (by kernel_rfl) (by kernel_rfl) (fun _ _ _ h => h) (Or.inl ⟨by rfl, ?hoc5r29o3⟩) hS ?_
          case hoc5r29o3 => (intro wx hx; skip; go_simp; (try with_reducible rfl))
          try simp only [Act.put, List.setIfInBounds_toArray, List.set_cons_zero, List.set_cons_succ]
          refine wpAnyH_take (i := 4) (oi := { dst := some 149, op := Op.binOp BinOp.sub 3 (Operand.tmp 148) (Operand.const (Value.int IntKind.i64 1)) 3, type := 3, pos := "more.go:143", after := #[{ on := 3, ground := Ground.data }], guard := none }) (v := ?voc5r29o4) rfl (by kernel_rfl) (by kernel_rfl) (by kernel_rfl) (fun _ _ _ h => h) (Or.inl ⟨by rfl, ?hoc5r29o4⟩) hS ?_
          case hoc5r29o4 => (intro wx hx; skip; go_simp; (try with_reducible rfl))
          try simp only [Act.put, List.setIfInBounds_toArray, List.set_cons_zero, List.set_cons_succ]
          refine wpAnyH_take (i := 5) (oi := { dst := some 150, op := Op.move (Operand.tmp 4), type := 5, pos := "more.go:143", after := #[], guard := none }) (v := ?voc5r29o5) rfl (by kernel_rfl) (by kernel_rfl) (by kernel_rfl) (fun _ _ _ h => h) (Or.inl ⟨by rfl, ?hoc5r29o5⟩) hS ?_
          case hoc5r29o5 => (intro wx hx; skip; go_simp; (try with_reducible rfl))
          try simp only [Act.put, List.setIfInBounds_toArray, List.set_cons_zero, List.set_cons_succ]
          refine wpAnyH_take (i := 6) (oi := { dst := some 151, op := Op.convert 5 3 (Operand.tmp 150), type := 3, pos := "more.go:143", after := #[{ on := 5, ground := Ground.data }], guard := none }) (v := ?voc5r29o6) rfl (by kernel_rfl) (by kernel_rfl) (by kernel_rfl) (fun _ _ _ h => h) (Or.inl ⟨by rfl, ?hoc5r29o6⟩) hS ?_
          case hoc5r29o6 => (intro wx hx; obtain ⟨f0, f1, f2⟩ := GeoQ.cells hx; go_simp; (try with_reducible rfl))
          try simp only [Act.put, List.setIfInBounds_toArray, List.set_cons_zero, List.set_cons_succ]
          refine wpAnyH_take (i := 7) (oi := { dst := some 152, op := Op.binOp BinOp.rem 3 (Operand.tmp 151) (Operand.const (Value.int IntKind.i64 8)) 3, type := 3, pos := "more.go:143", after := #[{ on := 6, ground := Ground.data }], guard := none }) (v := ?voc5r29o7) rfl (by kernel_rfl) (by kernel_rfl) (by kernel_rfl) (fun _ _ _ h => h) (Or.inl ⟨by rfl, ?hoc5r29o7⟩) hS ?_
          case hoc5r29o7 => (intro wx hx; skip; go_simp; (try with_reducible rfl))
          try simp only [Act.put, List.setIfInBounds_toArray, List.set_cons_zero, List.set_cons_succ]
          refine wpAnyH_take (i := 8) (oi := { dst := some 153, op := Op.binOp BinOp.sub 3 (Operand.tmp 149) (Operand.tmp 152) 3, type := 3, pos := "more.go:143", after := #[{ on := 4, ground := Ground.data }, { on := 7, ground := Ground.data }], guard := none }) (v := ?voc5r29o8) rfl (by kernel_rfl) (by kernel_rfl) (by kernel_rfl) (fun _ _ _ h => h) (Or.inl ⟨by rfl, ?hoc5r29o8⟩) hS ?_
          case hoc5r29o8 => (intro wx hx; skip; go_simp; (try with_reducible rfl))
          try simp only [Act.put, List.setIfInBounds_toArray, List.set_cons_zero, List.set_cons_succ]
          refine wpAnyH_take (i := 9) (oi := { dst := some 154, op := Op.slice 30 (Operand.tmp 146) none (some (Operand.tmp 153)) none, type := 30, pos := "more.go:143", after := #[{ on := 1, ground := Ground.data }, { on := 8, ground := Ground.data }], guard := none }) (v := ?voc5r29o9) rfl (by kernel_rfl) (by kernel_rfl) (by kernel_rfl) (fun _ _ _ h => h) (Or.inl ⟨by rfl, ?hoc5r29o9⟩) hS ?_
          case hoc5r29o9 => (intro wx hx; obtain ⟨f0, f1, f2⟩ := GeoQ.cells hx; go_simp; (try with_reducible rfl))
          try simp only [Act.put, List.setIfInBounds_toArray, List.set_cons_zero, List.set_cons_succ]
          refine wpAnyH_ready (rs := [10]) (by kernel_rfl) (by simp) ?_
          refine AllReadyH.cons (o := { dst := some 155, op := Op.call { callee := Callee.value (Operand.func 17), args := #[Operand.tmp 145, Operand.tmp 154], argTypes := #[25, 30] }, type := 30, pos := "more.go:143", after := #[{ on := 0, ground := Ground.data }, { on := 9, ground := Ground.data }], guard := none }) rfl (fun K hK => ?_) AllReadyH.nil
          go_simp
          refine (HOn.out _).mono ?_
          rintro e v1 ⟨rfl, hn⟩
          have hOn := Lib.hid (hOr.out.quiet hn)
          clear hOr hn HOn
          have hOr := hOn
          clear hOn
          have HWk := Lib.hid (works_ev v1)
          refine hK.out _ _ ?hsoc5r29o10 (fun hS => ?_)
          case hsoc5r29o10 => (exact hOr.out.box 0 rfl)
          clear hK K
          try simp only [Act.put, List.setIfInBounds_toArray, List.set_cons_zero, List.set_cons_succ]
          refine wpAnyH_take (i := 11) (oi := { dst := some 156, op := Op.call { callee := Callee.builtin Builtin.len, args := #[Operand.tmp 155], argTypes := #[30] }, type := 3, pos := "more.go:143", after := #[{ on := 10, ground := Ground.data }], guard := none }) (v := ?voc5r29o11) rfl (by kernel_rfl) (by kernel_rfl) (by kernel_rfl) (fun _ _ _ h => h) (Or.inl ⟨by rfl, ?hoc5r29o11⟩) hS ?_
          case hoc5r29o11 => (intro wx hx; skip; go_simp; (try with_reducible rfl))
          try simp only [Act.put, List.setIfInBounds_toArray, List.set_cons_zero, List.set_cons_succ]
          refine wpAnyH_take (i := 12) (oi := { dst := some 157, op := Op.binOp BinOp.eql 3 (Operand.tmp 156) (Operand.const (Value.int IntKind.i64 0)) 3, type := 4, pos := "more.go:143", after := #[{ on := 11, ground := Ground.data }], guard := none }) (v := ?voc5r29o12) rfl (by kernel_rfl) (by kernel_rfl) (by kernel_rfl) (fun _ _ _ h => h) (Or.inl ⟨by rfl, ?hoc5r29o12⟩) hS ?_
          case hoc5r29o12 => (intro wx hx; skip; go_simp; (try with_reducible rfl))
          try simp only [Act.put, List.setIfInBounds_toArray, List.set_cons_zero, List.set_cons_succ]
          refine wpAnyH_take (i := 13) (oi := { dst := some 158, op := Op.move (Operand.tmp 157), type := 4, pos := "more.go:143", after := #[{ on := 12, ground := Ground.data }, { on := 10, ground := Ground.chain }], guard := none }) (v := ?voc5r29o13) rfl (by kernel_rfl) (by kernel_rfl) (by kernel_rfl) (fun _ _ _ h => h) (Or.inl ⟨by rfl, ?hoc5r29o13⟩) hS ?_
          case hoc5r29o13 => (intro wx hx; skip; go_simp; (try with_reducible rfl))
          try simp only [Act.put, List.setIfInBounds_toArray, List.set_cons_zero, List.set_cons_succ]
          refine wpAnyH_ready (rs := [14]) (by kernel_rfl) (by simp) ?_
          refine AllReadyH.cons (o := { dst := some 159, op := Op.call { callee := Callee.value (Operand.func 6), args := #[], argTypes := #[] }, type := 4, pos := "more.go:143", after := #[{ on := 13, ground := Ground.chain }, { on := 13, ground := Ground.guard }], guard := some (13, true) }) rfl (fun K hK => ?_) AllReadyH.nil
          go_simp
          refine HWk.out.mono ?_
          rintro e v2 ⟨rfl, hn⟩
          have hOn := Lib.hid (hOr.out.quiet hn)
          clear hOr hn HWk
          have hOr := hOn
          clear hOn
          refine hK.out _ _ ?hsoc5r29o14 (fun hS => ?_)
          case hsoc5r29o14 => (exact hOr.out.box 0 rfl)
          clear hK K
          try simp only [Act.put, List.setIfInBounds_toArray, List.set_cons_zero, List.set_cons_succ]
          refine wpAnyH_take (i := 15) (oi := { dst := some 160, op := Op.pick (Operand.tmp 158) (Operand.tmp 159) (Operand.const (Value.bool false)), type := 4, pos := "more.go:143", after := #[{ on := 13, ground := Ground.data }, { on := 14, ground := Ground.data }], guard := none }) (v := ?voc5r29o15) rfl (by kernel_rfl) (by kernel_rfl) (by kernel_rfl) (fun _ _ _ h => h) (Or.inl ⟨by rfl, ?hoc5r29o15⟩) hS ?_
          case hoc5r29o15 => (intro wx hx; skip; go_simp; (try with_reducible rfl))
          try simp only [Act.put, List.setIfInBounds_toArray, List.set_cons_zero, List.set_cons_succ]
          refine wpAnyH_take (i := 16) (oi := { dst := some 10, op := Op.assign (Operand.tmp 160), type := 4, pos := "more.go:143", after := #[{ on := 15, ground := Ground.data }, { on := 14, ground := Ground.chain }, { on := 0, ground := Ground.phase }, { on := 1, ground := Ground.phase }, { on := 2, ground := Ground.phase }, { on := 3, ground := Ground.phase }, { on := 4, ground := Ground.phase }, { on := 5, ground := Ground.phase }, { on := 6, ground := Ground.phase }, { on := 7, ground := Ground.phase }, { on := 8, ground := Ground.phase }, { on := 9, ground := Ground.phase }, { on := 10, ground := Ground.phase }, { on := 11, ground := Ground.phase }, { on := 12, ground := Ground.phase }, { on := 13, ground := Ground.phase }, { on := 14, ground := Ground.phase }, { on := 15, ground := Ground.phase }], guard := none }) (v := ?voc5r29o16) rfl (by kernel_rfl) (by kernel_rfl) (by kernel_rfl) (fun _ _ _ h => h) (Or.inl ⟨by rfl, ?hoc5r29o16⟩) hS ?_
          case hoc5r29o16 => (intro wx hx; skip; go_simp; (try with_reducible rfl))
          try simp only [Act.put, List.setIfInBounds_toArray, List.set_cons_zero, List.set_cons_succ]
          refine wpAnyH_done (by kernel_rfl) ?_ _
          have hfin := Lib.hid hOr.out.grown
          clear hOr
          go_wp2
          go_ret
          exact ⟨rfl, hfin.out⟩

theorem walk (a0 a1 a2 : Int) (td : Option Addr) (tl tc : Nat) (T : List Cpt) (a4 : Int) (w : World) (w0 : (Lit.int .u8 a0).wf = true) (w1 : (Lit.int .u8 a1).wf = true) (w2 : (Lit.int .u8 a2).wf = true) (hT : CptsIn w td tl T) (w4 : (Lit.int .u8 a4).wf = true) :
    Calls Try.prog 5 #[.int .u8 a0, .int .u8 a1, .int .u8 a2, .slice td tl tc, .int .u8 a4] w (Go.Ev.WorksIs w) := by
  have b0 := bounds_u8 w0
  have b1 := bounds_u8 w1
  have b2 := bounds_u8 w2
  have b4 := bounds_u8 w4
  obtain ⟨A, rfl⟩ := Int.eq_ofNat_of_zero_le b0.1
  obtain ⟨B, rfl⟩ := Int.eq_ofNat_of_zero_le b1.1
  obtain ⟨C, rfl⟩ := Int.eq_ofNat_of_zero_le b2.1
  obtain ⟨D, rfl⟩ := Int.eq_ofNat_of_zero_le b4.1
  by_cases h : 60 < tl
  · exact walk_far _ _ _ td tl tc _ w h
  · exact walk_at A B C td tl tc T D w (by omega) (by omega) (by omega) (by omega) (by omega) hT
end Go.Proofs.Ytpdofdloclmbdaa.commitOver
