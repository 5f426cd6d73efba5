import Derived.Deep.DeepCutAuto
import Derived.Test.YtfljlmmiiccooaaGreatDoorPk33
import Derived.Test.YtfljlmmiiccooaaGreatDoorPk23
import Derived.Test.YtfljlmmiiccooaaGreatDoorPk28
set_option maxRecDepth 100000
set_option maxHeartbeats 8000000
section
namespace Go.Proofs.YtfljlmmiiccooaaGreatDoor
open Go.RowKit Go.Grommet
set_option linter.unusedVariables false
theorem lit_row {w0 w : World} {Qs : List Pr} (h : Grommet.Own w0 w (Qs ++ [])) (a b : Nat) : Grommet.Own w0 (w.alloc (.cells #[.int .u64 (a : Int), .int .u64 (b : Int)] 72)) (Qs ++ [rowP 72 1 (.slice (some ⟨w.heap.size, 0, none⟩) 2 2) 2 ([a, b].map wv)]) := by
 rw [List.append_nil] at h
 exact h.addRow ⟨by simp, .inr ⟨w.heap.size, 2, _, rfl, Nat.le_refl _, heap_alloc_new w _, Nat.le_refl _, by unfold maxLen; omega, by simp, by rfl⟩⟩ (World.grownBy_alloc w _ none)
theorem words_appendW {w0 w : World} {Ps : List Pr} (h : Grommet.Own w0 w Ps) (k : Nat) {n cp : Nat} {ad : Option Addr} {xs : List Nat} (hk : Ps[k]? = some (rowP 72 1 (.slice ad n cp) n (xs.map wv))) (ty : TypeId) (sad : Option Addr) (sl scp : Nat) (ys : List Nat) (hw : Words w sad sl ys) (h0 : ys ≠ []) (hn : n + sl ≤ 100000) :
  ∃ ad2 cp2 w', (Builtin.append_ #[30, 30] ty #[.slice ad n cp, .slice sad sl scp]).run Tryz.prog w = .ok (.slice ad2 (n + sl) cp2) w' ∧ Grommet.Own w0 w' (Ps.set k (rowP 72 1 (.slice ad2 (n + sl) cp2) (n + sl) ((xs ++ ys).map wv))) := by
 obtain ⟨i0, hi0, hz0, hz1, hz2⟩ := info_parts Tryz.info72
 have hr := h.row k hk
 obtain ⟨a, ha⟩ : ∃ a, sad = some a := by
  cases ys with
  | nil => exact absurd rfl h0
  | cons y t =>
   obtain ⟨q, o, hq, _⟩ := hw.at_ 0 (wv y) (by simp)
   exact ⟨_, hq⟩
 subst ha
 obtain ⟨v', w', r1, r2, r3, r4⟩ := run_append_blk (P := Tryz.prog) w 0 30 ty 72 i0 (.int .u64 0) 1 8 Tryz.underlying30 hi0 hz0 hz1 hz2 rfl (by omega) _ n _ hr a sl scp (ys.map wv) (by rw [List.length_map, hw.len, Nat.mul_one]) (fun j u hu => hw.at_.some j u hu) (wv_oneCell ys) (by unfold maxLen; omega) (by omega) (Nat.zero_le _)
 obtain ⟨ad2, cp2, rfl, _⟩ := row_slice r2
 rw [← List.map_append] at r2
 exact ⟨ad2, cp2, w', r1, h.grows k hk r2 r3 r4⟩
structure EB (X : Nat) (s : ByteArray) (m : Nat) (w : World) : Prop where
 box : w.heap[X]? = some (.cells #[.string s, .int .i64 (m : Int)] 37 (0, 0))
theorem EB.cells {X : Nat} {s : ByteArray} {m : Nat} {w : World} (h : EB X s m w) : w.cell? ⟨X, 0, none⟩ = some (.string s) ∧ w.cell? ⟨X, 1, none⟩ = some (.int .i64 (m : Int)) := by
 simp [World.cell?, h.box]
theorem length_nameW (s : ByteArray) : (nameW s).length = (s.size + 7) / 8 := by unfold nameW; rw [length_words]
theorem nameW_get (s : ByteArray) (j : Nat) (h : j < (s.size + 7) / 8) : (nameW s).getD j 0 = word (bytesOf s) j := by
 unfold nameW words
 rw [List.getD_eq_getElem?_getD, List.getElem?_map, List.getElem?_range h]; rfl
theorem nameW_small (s : ByteArray) : ∀ n ∈ nameW s, n < 18446744073709551616 := fun n hn => by
 unfold nameW words at hn
 obtain ⟨j, _, rfl⟩ := List.mem_map.1 hn
 exact word_lt _ _
def EAdd (I B n : Nat) (ns : Nat → Prop) (f0 : Nat → Nat) (xs : List Nat) (L : List (Nat × Nat)) (P : Nat → Nat → Nat) (E : Nat → List UInt8 × Nat) (s : ByteArray) (m kv g : Nat) (w0 : World) (Ps : List Pr) (e : Ending) (w' : World) : Prop :=
 (e = .returned (.int .i64 16) ∧ (∀ k, k < 12 → P n k ≠ 0) ∧ Grommet.Own w0 w' Ps) ∨ (∃ k, k < 12 ∧ P n k = 0 ∧ B < cntB xs L B + needK P n k ∧ e = .returned (.int .i64 7) ∧ Grommet.Own w0 w' Ps) ∨
  (∃ k L' P', k < 12 ∧ P n k = 0 ∧ e = .returned (.int .i64 0) ∧ Est I B ns n f0 xs L' P' (fun j => if j = k then (bytesOf s, m) else E j) ∧ cntB xs L' B = cntB xs L B + needK P n k ∧ nzc (P' n) = nzc (P n) + needK P n k ∧ L'.length ≤ L.length + 30 ∧ (∀ n', n' ≠ n → P' n' = P n') ∧ Grommet.Own w0 w' (Ps.set kv (viewP g xs L')))
theorem addD {I B n : Nat} {ns : Nat → Prop} {f0 : Nat → Nat} {xs : List Nat} {L : List (Nat × Nat)} {P : Nat → Nat → Nat} {E : Nat → List UInt8 × Nat} (F : Est I B ns n f0 xs L P E) (hl : L.length ≤ 60) (s : ByteArray) (hok : okName s = true) (m : Nat) (h1 : 1 ≤ m) (hmI : m < I) (kv km g XM : Nat) (w0 w : World) (htab : Lib.TabIs Tryz.prog w0 "math/bits.deBruijn64tab" .u8 tab) (Ps : List Pr) (h : Grommet.Own w0 w Ps) (hsol : ∀ Q ∈ Ps, Solid Q) (hv : Ps[kv]? = some (viewP g xs L)) (hm : Ps[km]? = some (bmP XM g 1 I B n)) (hkm : kv ≠ km) :
  Calls Tryz.prog 43 #[dirV g I B XM, .agg #[.string s, .int .i64 (m : Int)]] w (EAdd I B n ns f0 xs L P E s m kv g w0 Ps) := by
 have hsz := okName_size hok
 obtain ⟨b, hb⟩ : ∃ b, nmBegin s = b := ⟨_, rfl⟩
 have hb12 : b < 12 := by rw [← hb]; exact nmBegin_lt s
 have hmN := mayN F.st.may
 have hln := F.st.len
 have h64 := F.st.b64
 have a1 := h.addBox 84 #[.pointer (some ⟨g, 0, none⟩), .int .i64 1, .int .i64 (I : Int), .int .i64 (B : Int), .pointer (some ⟨XM, 0, none⟩)]
 obtain ⟨D, eD⟩ : ∃ D, w.heap.size = D := ⟨_, rfl⟩
 obtain ⟨u1, eu1⟩ : ∃ u, w.alloc (.cells #[.pointer (some ⟨g, 0, none⟩), .int .i64 1, .int .i64 (I : Int), .int .i64 (B : Int), .pointer (some ⟨XM, 0, none⟩)] 84) = u := ⟨_, rfl⟩
 rw [eD, eu1] at a1
 have a2 := a1.addBox 37 #[.string s, .int .i64 (m : Int)]
 obtain ⟨X, eX⟩ : ∃ D, u1.heap.size = D := ⟨_, rfl⟩
 obtain ⟨u2, eu2⟩ : ∃ u, u1.alloc (.cells #[.string s, .int .i64 (m : Int)] 37) = u := ⟨_, rfl⟩
 rw [eX, eu2, List.append_assoc] at a2
 have hO : Hid (Grommet.Own w0 u2 (Ps ++ [dirP D g I B XM, boxP X 37 #[.string s, .int .i64 (m : Int)]])) := Lib.hid a2
 have HFi := Lib.hid (firstD F isNone 80 #[] (enters_of Tryz.func80 (by kernel_rfl) rfl) s (by omega) b hb kv km g XM w0 u2 _ hO.out (solid_app hsol (fun Q hQ => by
  simp only [List.mem_cons, List.not_mem_nil, or_false] at hQ
  rcases hQ with rfl | rfl <;> exact solid_box _ _ _)) (app_old hv) (app_old hm) (fun k wx Rs hk hx => by
  refine (isEmpty (E k) wx (by have := F.small hk; omega)).mono ?_
  rintro e w' ⟨he, hg⟩
  exact ⟨he, hx.quiet hg⟩))
 have HTk := Lib.hid (fun k (hk : k < 12) wx Qs (hx : Grommet.Own w0 wx (Ps ++ Qs)) => F.st.take hl F.isn hk hx (app_old hv) (app_old hm) hkm htab)
 have HF := Lib.hid F
 have Hv := Lib.hid hv
 have Hs := Lib.hid (And.intro hok (And.intro h1 hmI))
 have Hgeo := Lib.hid (And.intro hmN (And.intro hln (And.intro h64 (And.intro hl F.st.may))))
 have Hb := Lib.hid hb12
 obtain ⟨c0, c1, c2, c3, c4⟩ := dirP_cells hO.out (app_at 0 rfl)
 obtain ⟨z0, z1, _⟩ := ebox_cells hO.out (app_at 1 rfl)
 clear h a1 a2 hv hm hsol hb F htab hl hmN hln h64
 unfold dirV dirC at *
 go_enter Tryz.func43, Tryz.ntmps43
 go_wp2_with fail
 all_goals (try rw [eu1]); (try rw [eu2]); (try rw [eX]); (try rw [eD])
 go_wp2_with fail
 refine HFi.out.mono ?_
 rintro e w1 ⟨⟨xn, xm⟩, kk, rfl, hfi, hO1⟩
 rw [enV_mk]
 have hO2 := hO1.addBox 37 #[.string (str xn), .int .i64 (xm : Int)]
 obtain ⟨Y, eY⟩ : ∃ X, w1.heap.size = X := ⟨_, rfl⟩
 obtain ⟨w2, ew2⟩ : ∃ w2, w1.alloc (.cells #[.string (str xn), .int .i64 (xm : Int)] 37) = w2 := ⟨_, rfl⟩
 rw [eY, ew2, List.append_assoc] at hO2
 have hO2 : Hid (Grommet.Own w0 w2 (Ps ++ [dirP D g I B XM, boxP X 37 #[.string s, .int .i64 (m : Int)], boxP Y 37 #[.string (str xn), .int .i64 (xm : Int)]])) := Lib.hid hO2
 clear hO hO1 HFi c0 c1 c2 c3 c4 z0 z1 eu1 eu2 eX eD
 have hnn : ∀ k, k < 12 → (isNone (E k) = true ↔ P n k = 0) := fun k hk => by
  rw [← HF.out.none_iff hk]
  unfold isNone
  constructor
  ·intro hx; simp at hx; exact hx.1
  ·intro hx
   have h0 := (HF.out.none_iff hk).1 hx
   rw [HF.out.no k hk h0]; rfl
 rcases hfi with ⟨i, hi, rfl, hx, hp, _⟩ | ⟨rfl, _, hall⟩
 ·obtain ⟨k, hk⟩ : ∃ k, pl b i = k := ⟨_, rfl⟩
  have hk12 : k < 12 := by rw [← hk]; exact pl_lt _ _
  have hz : P n k = 0 := (hnn k hk12).1 (by rw [← hk, ← hx]; exact hp)
  have HTx := Lib.hid (HTk.out k hk12 w2 _ hO2.out)
  have Hz := Lib.hid (And.intro hk12 hz)
  rw [hk]
  have k0 : ¬ (k : Int) < 0 := by omega
  obtain ⟨c0, c1, c2, c3, c4⟩ := dirP_cells hO2.out (app_at 0 rfl)
  clear hO2 HTk hk hx hp hnn hz hi hk12
  go_wp2_with fail
  all_goals (try rw [ew2])
  go_wp2_with fail
  refine HTx.out.mono ?_
  rintro e w3 ⟨v, en, L1, P1, rfl, hO3, hT⟩
  rw [set_left Hv.out] at hO3
  have hO3 := Lib.hid hO3
  clear HTx c0 c1 c2 c3 c4 ew2 eY
  rcases hT.way with ⟨hne, _⟩ | ⟨_, hsp, rfl, rfl, rfl, rfl⟩ | ⟨_, hsp, hvP, v0, vB, rfl, hlen, hcn, hnz, hzero⟩
  ·exact absurd Hz.out.2 hne
  ·as_aux_lemma =>
   have hOE : Hid (Grommet.Own w0 w3 Ps) := Lib.hid (by have := hO3.out.less; rwa [set_view Hv.out] at this)
   have Hsp := Lib.hid hsp
   rw [show ((7 : Nat) : Int) = 7 from rfl]
   clear hO3 hT hsp
   go_wp2_with fail
   go_ret
   exact .inr (.inl ⟨k, Hz.out.1, Hz.out.2, Hsp.out, rfl, hOE.out⟩)
  ·as_aux_lemma =>
   rw [show ((0 : Nat) : Int) = 0 from rfl]
   have HT := Lib.hid (And.intro hT (And.intro hsp (And.intro hvP (And.intro v0 (And.intro vB (And.intro hlen (And.intro hcn (And.intro hnz hzero))))))))
   obtain ⟨A, hA⟩ : ∃ A, 488 + 16 * I + 8 * v = A := ⟨_, rfl⟩
   have HA := Lib.hid hA
   obtain ⟨l, hlz⟩ : ∃ l, s.size = l := ⟨_, rfl⟩
   have HB := Lib.hid (fun wx => BlockAt_any 1 (I : Int) (B : Int) (v : Int) wx)
   rw [show blockV 1 (I : Int) (B : Int) (v : Int) = (A : Int) from by unfold blockV; rw [if_pos ⟨Hgeo.out.2.2.2.2, by omega, by omega⟩]; omega] at HB
   unfold gv at HB
   have HPk := Lib.hid (fun wx => Pack_words s wx (by omega))
   have hmI2 : m ≤ 64 := by have := Hgeo.out.1; omega
   have wm : IntKind.u64.wrap (m : Int) = (m : Int) := IntWalk.u64_in _ ⟨by omega, by omega⟩
   have wl : IntKind.u64.wrap (l : Int) = (l : Int) := IntWalk.u64_in _ ⟨by omega, by omega⟩
   obtain ⟨Qs, hQs⟩ : ∃ Qs, Ps.set kv (viewP g xs L1) ++ [dirP D g I B XM, boxP X 37 #[.string s, .int .i64 (m : Int)], boxP Y 37 #[.string (str xn), .int .i64 (xm : Int)]] = Qs := ⟨_, rfl⟩
   rw [hQs] at hO3
   have HQ := Lib.hid hQs
   have HEB := Lib.hid (show ∀ wx Rs, Grommet.Own w0 wx (Qs ++ Rs) → EB X s m wx from fun wx Rs hx => ⟨by rw [← hQs] at hx; exact hx.box _ (app_old (app_at 1 rfl))⟩)
   obtain ⟨N, hN⟩ : ∃ N, 2 + (l + 7) / 8 = N := ⟨_, rfl⟩
   obtain ⟨W, hW⟩ : ∃ W, [m, l] ++ nameW s = W := ⟨_, rfl⟩
   have HW := Lib.hid (And.intro hW (And.intro hN hlz))
   have hnl : (nameW s).length = (l + 7) / 8 := by rw [length_nameW, hlz]
   have hnn : nameW s ≠ [] := fun e => by rw [e] at hnl; have : (0 : Nat) = (l + 7) / 8 := hnl; omega
   have Hnl := Lib.hid (And.intro hnl hnn)
   have hOr : Hid (Grommet.Own w0 w3.drew (Qs ++ [])) := Lib.hid (by rw [List.append_nil]; exact hO3.out.quiet (grown_drew (World.grownBy.refl w3 none)))
   have hS0 := Lib.hid (HEB.out _ _ hOr.out)
   clear hO3 hT hsp hvP v0 vB hlen hcn hnz hzero hA hQs hW hN hnl hnn
   go_upto_region 9 with fail
   go_cut [9] (fun sv wx => ∃ (ad : Option Addr) (cp : Nat), sv = .slice ad N cp ∧ Hid (Grommet.Own w0 wx (Qs ++ [rowP 72 1 (.slice ad N cp) N (W.map wv)])))
   case first =>
    refine wp_region_held_drew (S := fun w' => EB X s m w') (by kernel_rfl) (hS0.out) (fun hS => ?_)
    refine wpAnyH_take (i := 0) (oi := ⟨some 38, .fieldAddr 37 (.tmp 3) 1, 0, "entry.go:171", #[], none⟩) (v := ?vad43r9o0) rfl (by kernel_rfl) (by kernel_rfl) (by kernel_rfl) (fun _ _ _ h => h) (Or.inl ⟨by rfl, ?had43r9o0⟩) hS ?_
    case had43r9o0 => (intro wx hx; skip; go_simp; (try with_reducible rfl))
    try simp only [Act.put, List.setIfInBounds_toArray, List.set_cons_zero, List.set_cons_succ]
    refine wpAnyH_take (i := 1) (oi := ⟨some 39, .load 3 (.tmp 38), 3, "entry.go:171", #[⟨0, .data⟩], none⟩) (v := ?vad43r9o1) rfl (by kernel_rfl) (by kernel_rfl) (by kernel_rfl) (fun _ _ _ h => h) (Or.inl ⟨by rfl, ?had43r9o1⟩) hS ?_
    case had43r9o1 => (intro wx hx; obtain ⟨z0, z1⟩ := EB.cells hx; go_simp; (try with_reducible rfl))
    try simp only [Act.put, List.setIfInBounds_toArray, List.set_cons_zero, List.set_cons_succ]
    refine wpAnyH_take (i := 2) (oi := ⟨some 40, .convert 3 72 (.tmp 39), 72, "entry.go:171", #[⟨1, .data⟩], none⟩) (v := ?vad43r9o2) rfl (by kernel_rfl) (by kernel_rfl) (by kernel_rfl) (fun _ _ _ h => h) (Or.inl ⟨by rfl, ?had43r9o2⟩) hS ?_
    case had43r9o2 => (intro wx hx; obtain ⟨z0, z1⟩ := EB.cells hx; go_simp; (try with_reducible rfl))
    try simp only [Act.put, List.setIfInBounds_toArray, List.set_cons_zero, List.set_cons_succ]
    refine wpAnyH_take (i := 3) (oi := ⟨some 41, .fieldAddr 37 (.tmp 3) 0, 0, "entry.go:171", #[], none⟩) (v := ?vad43r9o3) rfl (by kernel_rfl) (by kernel_rfl) (by kernel_rfl) (fun _ _ _ h => h) (Or.inl ⟨by rfl, ?had43r9o3⟩) hS ?_
    case had43r9o3 => (intro wx hx; skip; go_simp; (try with_reducible rfl))
    try simp only [Act.put, List.setIfInBounds_toArray, List.set_cons_zero, List.set_cons_succ]
    refine wpAnyH_take (i := 4) (oi := ⟨some 42, .load 9 (.tmp 41), 9, "entry.go:171", #[⟨3, .data⟩], none⟩) (v := ?vad43r9o4) rfl (by kernel_rfl) (by kernel_rfl) (by kernel_rfl) (fun _ _ _ h => h) (Or.inl ⟨by rfl, ?had43r9o4⟩) hS ?_
    case had43r9o4 => (intro wx hx; obtain ⟨z0, z1⟩ := EB.cells hx; go_simp; (try with_reducible rfl))
    try simp only [Act.put, List.setIfInBounds_toArray, List.set_cons_zero, List.set_cons_succ]
    refine wpAnyH_take (i := 5) (oi := ⟨some 43, .call { callee := Callee.builtin Builtin.len, args := #[.tmp 42], argTypes := #[9] }, 3, "entry.go:171", #[⟨4, .data⟩], none⟩) (v := ?vad43r9o5) rfl (by kernel_rfl) (by kernel_rfl) (by kernel_rfl) (fun _ _ _ h => h) (Or.inl ⟨by rfl, ?had43r9o5⟩) hS ?_
    case had43r9o5 => (intro wx hx; skip; go_simp; (try with_reducible rfl))
    try simp only [Act.put, List.setIfInBounds_toArray, List.set_cons_zero, List.set_cons_succ]
    refine wpAnyH_take (i := 6) (oi := ⟨some 44, .convert 3 72 (.tmp 43), 72, "entry.go:171", #[⟨5, .data⟩], none⟩) (v := ?vad43r9o6) rfl (by kernel_rfl) (by kernel_rfl) (by kernel_rfl) (fun _ _ _ h => h) (Or.inl ⟨by rfl, ?had43r9o6⟩) hS ?_
    case had43r9o6 => (intro wx hx; obtain ⟨z0, z1⟩ := EB.cells hx; go_simp; (try with_reducible rfl))
    try simp only [Act.put, List.setIfInBounds_toArray, List.set_cons_zero, List.set_cons_succ]
    refine wpAnyH_take (i := 8) (oi := ⟨some 46, .fieldAddr 37 (.tmp 3) 0, 0, "entry.go:171", #[], none⟩) (v := ?vad43r9o8) rfl (by kernel_rfl) (by kernel_rfl) (by kernel_rfl) (fun _ _ _ h => h) (Or.inl ⟨by rfl, ?had43r9o8⟩) hS ?_
    case had43r9o8 => (intro wx hx; skip; go_simp; (try with_reducible rfl))
    try simp only [Act.put, List.setIfInBounds_toArray, List.set_cons_zero, List.set_cons_succ]
    refine wpAnyH_take (i := 9) (oi := ⟨some 47, .load 9 (.tmp 46), 9, "entry.go:171", #[⟨8, .data⟩], none⟩) (v := ?vad43r9o9) rfl (by kernel_rfl) (by kernel_rfl) (by kernel_rfl) (fun _ _ _ h => h) (Or.inl ⟨by rfl, ?had43r9o9⟩) hS ?_
    case had43r9o9 => (intro wx hx; obtain ⟨z0, z1⟩ := EB.cells hx; go_simp; (try with_reducible rfl))
    try simp only [Act.put, List.setIfInBounds_toArray, List.set_cons_zero, List.set_cons_succ]
    refine wpAnyH_ready (rs := [7, 10]) (by kernel_rfl) (by simp) ?_
    refine AllReadyH.cons (o := ⟨some 45, .buildSlice 30 2 #[(0, .tmp 40), (1, .tmp 44)], 30, "entry.go:171", #[⟨2, .data⟩, ⟨6, .data⟩], none⟩) rfl (fun K hK => ?_) ?_
    ·
     go_simp
     have hO1 := Lib.hid (lit_row hOr.out m l)
     clear hOr
     have hOr := hO1
     clear hO1
     first | (have hWQ := hWP.keep (World.grownBy_alloc wP (.cells #[.int .u64 (m : Int), .int .u64 (l : Int)] 72) none) (by simp)) | skip
     refine hK.out _ _ ?hsadx143r9o7 (fun hS => ?_)
     case hsadx143r9o7 => (exact HEB.out _ _ hOr.out)
     clear hK K
     try simp only [Act.put, List.setIfInBounds_toArray, List.set_cons_zero, List.set_cons_succ]
     refine wpAnyH_ready (rs := [10]) (by kernel_rfl) (by simp) ?_
     refine AllReadyH.cons (o := ⟨some 48, .call { callee := Callee.value (Operand.func 35), args := #[.tmp 47], argTypes := #[9] }, 30, "entry.go:171", #[⟨9, .data⟩], none⟩) rfl (fun K hK => ?_) AllReadyH.nil
     go_simp
     refine (HPk.out _).mono ?_
     rintro e wP ⟨pad, pln, pcp, rfl, hWP, hgP⟩
     have hO1 := Lib.hid (hOr.out.quiet hgP)
     clear hOr
     have hOr := hO1
     clear hO1 hgP
     refine hK.out _ _ ?hsadx143r9o10 (fun hS => ?_)
     case hsadx143r9o10 => (exact HEB.out _ _ hOr.out)
     clear hK K
     try simp only [Act.put, List.setIfInBounds_toArray, List.set_cons_zero, List.set_cons_succ]
     refine wpAnyH_ready (rs := [11]) (by kernel_rfl) (by simp) ?_
     refine AllReadyH.cons (o := ⟨some 49, .call { callee := Callee.builtin Builtin.append, args := #[.tmp 45, .tmp 48], argTypes := #[30, 30] }, 30, "entry.go:171", #[⟨7, .data⟩, ⟨10, .data⟩, ⟨10, .chain⟩], none⟩) rfl (fun K hK => ?_) AllReadyH.nil
     have hpl := (by first | exact hWQ.len | exact hWP.len)
     obtain ⟨ad2, cp2, wn, hap, hOn0⟩ := words_appendW hOr.out _ (app_at 0 rfl) 30 pad pln pcp (nameW s) (by first | exact hWQ | exact hWP) Hnl.out.2 (by have := Hnl.out.1; omega)
     rw [set_mid] at hOn0
     have hOn := Lib.hid hOn0
     clear hOn0 hOr
     rw [if_pos (by rfl)]
     refine oper_append _ _ _ rfl _ _ _ rfl rfl hap ?_
     refine hK.out _ _ ?hsb (fun hS => ?_)
     case hsb => exact HEB.out _ _ hOn.out
     clear hK K
     try simp only [Act.put, List.setIfInBounds_toArray, List.set_cons_zero, List.set_cons_succ]
     refine wpAnyH_take (i := 12) (oi := ⟨some 9, .assign (.tmp 49), 30, "entry.go:171", #[⟨11, .data⟩, ⟨11, .chain⟩, ⟨0, .phase⟩, ⟨1, .phase⟩, ⟨2, .phase⟩, ⟨3, .phase⟩, ⟨4, .phase⟩, ⟨5, .phase⟩, ⟨6, .phase⟩, ⟨7, .phase⟩, ⟨8, .phase⟩, ⟨9, .phase⟩, ⟨10, .phase⟩, ⟨11, .phase⟩], none⟩) (v := ?vadx143r9o12) rfl (by kernel_rfl) (by kernel_rfl) (by kernel_rfl) (fun _ _ _ h => h) (Or.inl ⟨by rfl, ?hadx143r9o12⟩) hS ?_
     case hadx143r9o12 => (intro wx hx; skip; go_simp; (try with_reducible rfl))
     try simp only [Act.put, List.setIfInBounds_toArray, List.set_cons_zero, List.set_cons_succ]
     refine wpAnyH_done (by kernel_rfl) ?_ _
     go_wp2
     go_meet
     case rel => (have eN : 2 + pln = N := (by rw [← hpl, Hnl.out.1]; exact HW.out.2.1); have h2 := hOn.out; rw [eN, HW.out.1] at h2; exact ⟨ad2, cp2, by rw [eN], Lib.hid h2⟩)
    refine AllReadyH.cons (o := ⟨some 48, .call { callee := Callee.value (Operand.func 35), args := #[.tmp 47], argTypes := #[9] }, 30, "entry.go:171", #[⟨9, .data⟩], none⟩) rfl (fun K hK => ?_) ?_
    ·
     go_simp
     refine (HPk.out _).mono ?_
     rintro e wP ⟨pad, pln, pcp, rfl, hWP, hgP⟩
     have hO1 := Lib.hid (hOr.out.quiet hgP)
     clear hOr
     have hOr := hO1
     clear hO1 hgP
     refine hK.out _ _ ?hsadx343r9o10 (fun hS => ?_)
     case hsadx343r9o10 => (exact HEB.out _ _ hOr.out)
     clear hK K
     try simp only [Act.put, List.setIfInBounds_toArray, List.set_cons_zero, List.set_cons_succ]
     refine wpAnyH_ready (rs := [7]) (by kernel_rfl) (by simp) ?_
     refine AllReadyH.cons (o := ⟨some 45, .buildSlice 30 2 #[(0, .tmp 40), (1, .tmp 44)], 30, "entry.go:171", #[⟨2, .data⟩, ⟨6, .data⟩], none⟩) rfl (fun K hK => ?_) AllReadyH.nil
     go_simp
     have hO1 := Lib.hid (lit_row hOr.out m l)
     clear hOr
     have hOr := hO1
     clear hO1
     first | (have hWQ := hWP.keep (World.grownBy_alloc wP (.cells #[.int .u64 (m : Int), .int .u64 (l : Int)] 72) none) (by simp)) | skip
     refine hK.out _ _ ?hsadx343r9o7 (fun hS => ?_)
     case hsadx343r9o7 => (exact HEB.out _ _ hOr.out)
     clear hK K
     try simp only [Act.put, List.setIfInBounds_toArray, List.set_cons_zero, List.set_cons_succ]
     refine wpAnyH_ready (rs := [11]) (by kernel_rfl) (by simp) ?_
     refine AllReadyH.cons (o := ⟨some 49, .call { callee := Callee.builtin Builtin.append, args := #[.tmp 45, .tmp 48], argTypes := #[30, 30] }, 30, "entry.go:171", #[⟨7, .data⟩, ⟨10, .data⟩, ⟨10, .chain⟩], none⟩) rfl (fun K hK => ?_) AllReadyH.nil
     have hpl := (by first | exact hWQ.len | exact hWP.len)
     obtain ⟨ad2, cp2, wn, hap, hOn0⟩ := words_appendW hOr.out _ (app_at 0 rfl) 30 pad pln pcp (nameW s) (by first | exact hWQ | exact hWP) Hnl.out.2 (by have := Hnl.out.1; omega)
     rw [set_mid] at hOn0
     have hOn := Lib.hid hOn0
     clear hOn0 hOr
     rw [if_pos (by rfl)]
     refine oper_append _ _ _ rfl _ _ _ rfl rfl hap ?_
     refine hK.out _ _ ?hsb (fun hS => ?_)
     case hsb => exact HEB.out _ _ hOn.out
     clear hK K
     try simp only [Act.put, List.setIfInBounds_toArray, List.set_cons_zero, List.set_cons_succ]
     refine wpAnyH_take (i := 12) (oi := ⟨some 9, .assign (.tmp 49), 30, "entry.go:171", #[⟨11, .data⟩, ⟨11, .chain⟩, ⟨0, .phase⟩, ⟨1, .phase⟩, ⟨2, .phase⟩, ⟨3, .phase⟩, ⟨4, .phase⟩, ⟨5, .phase⟩, ⟨6, .phase⟩, ⟨7, .phase⟩, ⟨8, .phase⟩, ⟨9, .phase⟩, ⟨10, .phase⟩, ⟨11, .phase⟩], none⟩) (v := ?vadx343r9o12) rfl (by kernel_rfl) (by kernel_rfl) (by kernel_rfl) (fun _ _ _ h => h) (Or.inl ⟨by rfl, ?hadx343r9o12⟩) hS ?_
     case hadx343r9o12 => (intro wx hx; skip; go_simp; (try with_reducible rfl))
     try simp only [Act.put, List.setIfInBounds_toArray, List.set_cons_zero, List.set_cons_succ]
     refine wpAnyH_done (by kernel_rfl) ?_ _
     go_wp2
     go_meet
     case rel => (have eN : 2 + pln = N := (by rw [← hpl, Hnl.out.1]; exact HW.out.2.1); have h2 := hOn.out; rw [eN, HW.out.1] at h2; exact ⟨ad2, cp2, by rw [eN], Lib.hid h2⟩)
    exact AllReadyH.nil
   case rest =>
   clear hOr hS0 HPk
   obtain ⟨ad, cp, rfl, hO4⟩ := hcut
   have hN8 : N ≤ 7 ∧ 2 ≤ N := by have := HW.out.2.1; omega
   have hWl : W.length = N := by rw [← HW.out.1, List.length_append, Hnl.out.1, ← HW.out.2.1]; rfl
   have hWs : ∀ n ∈ W, n < 18446744073709551616 := fun n hn => by
    rw [← HW.out.1] at hn
    rcases List.mem_append.1 hn with hx | hx
    ·simp only [List.mem_cons, List.not_mem_nil, or_false] at hx
     rcases hx with rfl | rfl <;> omega
    ·exact nameW_small s n hx
   have HWl := Lib.hid (And.intro hWl hWs)
   have hO5 : Hid (Grommet.Own w0 wc (Ps.set kv (viewP g xs (setLs xs L1 A W 0)) ++ [dirP D g I B XM, boxP X 37 #[.string s, .int .i64 (m : Int)], boxP Y 37 #[.string (str xn), .int .i64 (xm : Int)], rowP 72 1 (.slice ad N cp) N (W.map wv)])) := Lib.hid (by
    have h := hO4.out
    rw [← HQ.out, List.append_assoc] at h
    exact h)
   clear hO4 HEB HQ hWl hWs
   go_wp2_with fail
   go_loopw [52] (fun tv wr => ∃ t : Nat, t ≤ N ∧ tv = .int .i64 (t : Int) ∧ Hid (Grommet.Own w0 wr (Ps.set kv (viewP g xs (setLs xs L1 A W t)) ++ [dirP D g I B XM, boxP X 37 #[.string s, .int .i64 (m : Int)], boxP Y 37 #[.string (str xn), .int .i64 (xm : Int)], rowP 72 1 (.slice ad N cp) N (W.map wv)]))) (fun tv _ => N - (intOf tv).toNat)
   case atStart => exact ⟨0, Nat.zero_le _, rfl, hO5⟩
   case round =>
    clear hO5
    obtain ⟨t, ht, rfl, hO⟩ := hrel
    have t0 : (0 : Int) ≤ (t : Int) := by omega
    by_cases hlt : t < N
    ·as_aux_lemma =>
     have hlt' : (t : Int) < (N : Int) := by omega
     obtain ⟨u, hu⟩ : ∃ u, W.getD t 0 = u := ⟨_, rfl⟩
     have hu2 : W[t]? = some u := by rw [← hu, List.getD_eq_getElem?_getD, List.getElem?_eq_getElem (by rw [HWl.out.1]; exact hlt)]; rfl
     have hu64 := HWl.out.2 u (List.mem_of_getElem? hu2)
     obtain ⟨q, hq, e0, _, _⟩ := Own.cell hO.out _ (app_at' List.length_set 3 rfl) t (wv u) (by rw [List.getElem?_map, hu2]; rfl)
     subst hq
     unfold wv at e0
     obtain ⟨T, hT⟩ : ∃ T, A + t = T := ⟨_, rfl⟩
     have hxT : T < xs.length := by have := HT.out.2.2.2.2.1; have := Hgeo.out; have := HA.out; omega
     have hsl := setLs_len xs L1 A W t
     have hsl2 : (setLs xs L1 A W t).length < 96 := by have := HT.out.2.2.2.2.2.1; have := Hgeo.out.2.2.2.1; omega
     have HSet := Lib.hid (fun wx (hx : Grommet.Own w0 wx _) => SetH kv g xs (setLs xs L1 A W t) (T : Int) u 0 w0 wx _ (Ps.set kv (viewP g xs (setLs xs L1 A W (t + 1))) ++ [dirP D g I B XM, boxP X 37 #[.string s, .int .i64 (m : Int)], boxP Y 37 #[.string (str xn), .int .i64 (xm : Int)], rowP 72 1 (.slice (some ⟨q, 0, none⟩) N cp) N (W.map wv)]) hx (show (Ps.set kv (viewP g xs (setLs xs L1 A W t)) ++ [dirP D g I B XM, boxP X 37 #[.string s, .int .i64 (m : Int)], boxP Y 37 #[.string (str xn), .int .i64 (xm : Int)], rowP 72 1 (.slice (some ⟨q, 0, none⟩) N cp) N (W.map wv)])[kv]? = _ from app_old (set_at _ Hv.out)) hu64 (by rw [setE_ok hxT hsl2]; rfl) (by
      rw [set_left (set_at _ Hv.out), List.set_set]
      show _ = Ps.set kv (viewP g xs (setL xs (setLs xs L1 A W t) ((A + t : Nat) : Int) (W.getD t 0))) ++ _
      rw [hT, hu]))
     have wT : IntKind.i64.wrap ((A : Int) + (t : Int)) = (T : Int) := by have := HT.out.2.2.2.2.1; have := Hgeo.out; have := HA.out; rw [IntWalk.i64_in _ ⟨by omega, by omega⟩]; omega
     have wT' : IntKind.i64.wrap (T : Int) = (T : Int) := by have := Hgeo.out; have := HA.out; exact IntWalk.i64_in _ ⟨by omega, by omega⟩
     have wt : IntKind.i64.wrap ((t : Int) + 1) = (t : Int) + 1 := IntWalk.i64_in _ ⟨by omega, by omega⟩
     have HD0 := Lib.hid ((DB.of hO.out (app_at' List.length_set 0 rfl)).grown (grown_drew (World.grownBy.refl wr none)))
     have hOr := Lib.hid (hO.out.quiet (grown_drew (World.grownBy.refl wr none)))
     clear hO hu hu2 hT hsl hsl2
     go_wp2_with fail
     refine wp_region_held_drew (S := fun w' => DB D g I B XM w') (by kernel_rfl) (HD0.out) (fun hS => ?_)
     refine wpAnyH_take (i := 0) (oi := ⟨some 57, .fieldAddr 84 (.tmp 2) 0, 0, "entry.go:173", #[], none⟩) (v := ?vas43r13o0) rfl (by kernel_rfl) (by kernel_rfl) (by kernel_rfl) (fun _ _ _ h => h) (Or.inl ⟨by rfl, ?has43r13o0⟩) hS ?_
     case has43r13o0 => (intro wx hx; skip; go_simp; (try with_reducible rfl))
     try simp only [Act.put, List.setIfInBounds_toArray, List.set_cons_zero, List.set_cons_succ]
     refine wpAnyH_take (i := 1) (oi := ⟨some 58, .load 32 (.tmp 57), 32, "entry.go:173", #[⟨0, .data⟩], none⟩) (v := ?vas43r13o1) rfl (by kernel_rfl) (by kernel_rfl) (by kernel_rfl) (fun _ _ _ h => h) (Or.inl ⟨by rfl, ?has43r13o1⟩) hS ?_
     case has43r13o1 => (intro wx hx; obtain ⟨c0, c1, c2, c3, c4⟩ := DB.cells hx; go_simp; (try with_reducible rfl))
     try simp only [Act.put, List.setIfInBounds_toArray, List.set_cons_zero, List.set_cons_succ]
     refine wpAnyH_take (i := 2) (oi := ⟨some 59, .fieldAddr 84 (.tmp 2) 1, 0, "entry.go:173", #[], none⟩) (v := ?vas43r13o2) rfl (by kernel_rfl) (by kernel_rfl) (by kernel_rfl) (fun _ _ _ h => h) (Or.inl ⟨by rfl, ?has43r13o2⟩) hS ?_
     case has43r13o2 => (intro wx hx; skip; go_simp; (try with_reducible rfl))
     try simp only [Act.put, List.setIfInBounds_toArray, List.set_cons_zero, List.set_cons_succ]
     refine wpAnyH_take (i := 3) (oi := ⟨some 60, .load 23 (.tmp 59), 23, "entry.go:173", #[⟨2, .data⟩], none⟩) (v := ?vas43r13o3) rfl (by kernel_rfl) (by kernel_rfl) (by kernel_rfl) (fun _ _ _ h => h) (Or.inl ⟨by rfl, ?has43r13o3⟩) hS ?_
     case has43r13o3 => (intro wx hx; obtain ⟨c0, c1, c2, c3, c4⟩ := DB.cells hx; go_simp; (try with_reducible rfl))
     try simp only [Act.put, List.setIfInBounds_toArray, List.set_cons_zero, List.set_cons_succ]
     refine wpAnyH_take (i := 4) (oi := ⟨some 61, .move (.tmp 8), 3, "entry.go:173", #[], none⟩) (v := ?vas43r13o4) rfl (by kernel_rfl) (by kernel_rfl) (by kernel_rfl) (fun _ _ _ h => h) (Or.inl ⟨by rfl, ?has43r13o4⟩) hS ?_
     case has43r13o4 => (intro wx hx; skip; go_simp; (try with_reducible rfl))
     try simp only [Act.put, List.setIfInBounds_toArray, List.set_cons_zero, List.set_cons_succ]
     refine wpAnyH_take (i := 6) (oi := ⟨some 63, .move (.tmp 10), 3, "entry.go:173", #[], none⟩) (v := ?vas43r13o6) rfl (by kernel_rfl) (by kernel_rfl) (by kernel_rfl) (fun _ _ _ h => h) (Or.inl ⟨by rfl, ?has43r13o6⟩) hS ?_
     case has43r13o6 => (intro wx hx; skip; go_simp; (try with_reducible rfl))
     try simp only [Act.put, List.setIfInBounds_toArray, List.set_cons_zero, List.set_cons_succ]
     refine wpAnyH_take (i := 8) (oi := ⟨some 65, .move (.tmp 11), 72, "entry.go:173", #[], none⟩) (v := ?vas43r13o8) rfl (by kernel_rfl) (by kernel_rfl) (by kernel_rfl) (fun _ _ _ h => h) (Or.inl ⟨by rfl, ?has43r13o8⟩) hS ?_
     case has43r13o8 => (intro wx hx; skip; go_simp; (try with_reducible rfl))
     try simp only [Act.put, List.setIfInBounds_toArray, List.set_cons_zero, List.set_cons_succ]
     refine wpAnyH_ready (rs := [5]) (by kernel_rfl) (by simp) ?_
     refine AllReadyH.cons (o := ⟨some 62, .call { callee := Callee.value (Operand.func 54), args := #[.tmp 60, .tmp 61], argTypes := #[23, 3] }, 3, "entry.go:173", #[⟨3, .data⟩, ⟨4, .data⟩], none⟩) rfl (fun K hK => ?_) AllReadyH.nil
     go_simp
     refine (HB.out _).mono ?_
     rintro e w5 ⟨rfl, hg5⟩
     have hO6 := Lib.hid (hOr.out.quiet hg5)
     clear hOr hg5 HB
     refine hK.out _ _ ?hsas43r13o5 (fun hS => ?_)
     case hsas43r13o5 => (exact DB.of hO6.out (app_at' List.length_set 0 rfl))
     clear hK K
     try simp only [Act.put, List.setIfInBounds_toArray, List.set_cons_zero, List.set_cons_succ]
     refine wpAnyH_take (i := 7) (oi := ⟨some 64, .binOp BinOp.add 3 (.tmp 62) (.tmp 63) 3, 3, "entry.go:173", #[⟨5, .data⟩, ⟨6, .data⟩], none⟩) (v := ?vas43r13o7) rfl (by kernel_rfl) (by kernel_rfl) (by kernel_rfl) (fun _ _ _ h => h) (Or.inl ⟨by rfl, ?has43r13o7⟩) hS ?_
     case has43r13o7 => (intro wx hx; skip; go_simp; (try with_reducible rfl))
     try simp only [Act.put, List.setIfInBounds_toArray, List.set_cons_zero, List.set_cons_succ]
     refine wpAnyH_ready (rs := [9]) (by kernel_rfl) (by simp) ?_
     refine AllReadyH.cons (o := ⟨some 66, .call { callee := Callee.value (Operand.func 53), args := #[.tmp 58, .tmp 64, .tmp 65], argTypes := #[32, 3, 72] }, 45, "entry.go:173", #[⟨1, .data⟩, ⟨7, .data⟩, ⟨8, .data⟩, ⟨5, .chain⟩], none⟩) rfl (fun K hK => ?_) AllReadyH.nil
     go_simp
     refine (HSet.out _ hO6.out).mono ?_
     rintro e w6 ⟨rfl, hO7⟩
     have hO7 := Lib.hid hO7
     clear HSet hO6
     refine hK.out _ _ ?hsas43r13o9 (fun hS => ?_)
     case hsas43r13o9 => (exact DB.of hO7.out (app_at' List.length_set 0 rfl))
     clear hK K
     try simp only [Act.put, List.setIfInBounds_toArray, List.set_cons_zero, List.set_cons_succ]
     refine wpAnyH_take (i := 10) (oi := ⟨some 12, .assign (.tmp 66), 45, "entry.go:173", #[⟨9, .data⟩, ⟨9, .chain⟩, ⟨0, .phase⟩, ⟨1, .phase⟩, ⟨2, .phase⟩, ⟨3, .phase⟩, ⟨4, .phase⟩, ⟨5, .phase⟩, ⟨6, .phase⟩, ⟨7, .phase⟩, ⟨8, .phase⟩, ⟨9, .phase⟩], none⟩) (v := ?vas43r13o10) rfl (by kernel_rfl) (by kernel_rfl) (by kernel_rfl) (fun _ _ _ h => h) (Or.inl ⟨by rfl, ?has43r13o10⟩) hS ?_
     case has43r13o10 => (intro wx hx; skip; go_simp; (try with_reducible rfl))
     try simp only [Act.put, List.setIfInBounds_toArray, List.set_cons_zero, List.set_cons_succ]
     refine wpAnyH_done (by kernel_rfl) ?_ _
     clear hS HD0
     go_wp2
     go_roundw
     case rel => exact ⟨t + 1, by omega, by go_num, hO7⟩
     case measure => simp [intOf]; omega
    ·as_aux_lemma =>
     obtain rfl : t = N := by omega
     have hlt' : ¬ (t : Int) < (t : Int) := by omega
     have hOE := Lib.hid (Own.less hO.out)
     obtain ⟨hT, hsp, hvP, v0, vB, hlen, hcn, hnz, hzero⟩ := HT.out
     obtain ⟨g1, g2, g3, g4, g5⟩ := Hgeo.out
     have hxA : A + 8 ≤ xs.length := by have := HA.out; omega
     have hgot := setLs_got xs L1 A W t (by omega) (by omega)
     have hAdd := HF.out.added (k := k) (v := v) (en := 0) (L' := setLs xs L1 A W t) (m := m) (s := bytesOf s) (A := A) Hz.out.1 hT (fun j hj => by rw [← HA.out]; exact hzero j hj) (by rw [← hvP]; exact v0) (by rw [← hvP]; exact HA.out) (by rw [str_bytesOf]; exact hok) h1 hmI (fun a ha => by rw [hgot, if_neg (by omega)]) (setLs_wl hT.st.wl HWl.out.2 t (by omega)) (by rw [hgot, if_pos (by omega), Nat.sub_self, ← HW.out.1]; try rfl) (by rw [hgot, if_pos (by omega), show A + 1 - A = 1 by omega, ← HW.out.1, length_bytesOf, HW.out.2.2]; try rfl) (fun j hj => by
      rw [length_bytesOf, HW.out.2.2] at hj
      have := HW.out.2.1
      rw [hgot, if_pos (by omega), show A + (2 + j) - A = 2 + j by omega, ← HW.out.1, List.getD_eq_getElem?_getD, List.getElem?_append_right (by simp), show 2 + j - [m, l].length = j from by simp, ← List.getD_eq_getElem?_getD]
      exact nameW_get s j (by rw [HW.out.2.2]; exact hj))
     have HE := Lib.hid (And.intro hAdd (And.intro hcn (And.intro hnz (And.intro hT.other (show (setLs xs L1 A W t).length ≤ L.length + 30 by have := setLs_len xs L1 A W t; omega)))))
     have Hkz := Hz
     clear hO hT hsp hvP v0 vB hlen hcn hnz hzero g1 g2 g3 g4 g5 hxA hgot hAdd HT HF Hgeo
     go_wp2
     go_ret
     exact .inr (.inr ⟨k, _, P1, Hkz.out.1, Hkz.out.2, rfl, HE.out.1.1, HE.out.1.2.trans HE.out.2.1, HE.out.2.2.1, HE.out.2.2.2.2, HE.out.2.2.2.1, hOE.out⟩)
 ·as_aux_lemma =>
  have hall2 : Hid (∀ k, k < 12 → P n k ≠ 0) := Lib.hid (fun k hk h0 => by
   obtain ⟨i, hi, hpl⟩ := pl_inv Hb.out hk
   have h1 := hall i hi
   rw [hpl, (hnn k hk).2 h0] at h1
   cases h1)
  have hOE := Lib.hid (Own.less hO2.out)
  clear hall hnn hO2 HTk
  go_wp2_with fail
  all_goals (try rw [ew2])
  go_wp2_with fail
  go_ret
  exact .inl ⟨rfl, hall2.out, hOE.out⟩
end Go.Proofs.YtfljlmmiiccooaaGreatDoor
end
section
namespace Go.Proofs.YtfljlmmiiccooaaGreatDoor
open Go.RowKit Go.Grommet
set_option linter.unusedVariables false
theorem EAdd.less {I B n : Nat} {ns : Nat → Prop} {f0 : Nat → Nat} {xs : List Nat} {L : List (Nat × Nat)} {P : Nat → Nat → Nat} {E : Nat → List UInt8 × Nat} {s : ByteArray} {m kv g : Nat} {w0 : World} {Ps Qs : List Pr} {e : Ending} {w' : World} {X : Pr} (hv : Ps[kv]? = some X) (h : EAdd I B n ns f0 xs L P E s m kv g w0 (Ps ++ Qs) e w') : EAdd I B n ns f0 xs L P E s m kv g w0 Ps e w' := by
 rcases h with ⟨h1, h2, h3⟩ | ⟨k, h1, h2, h3, h4, h5⟩ | ⟨k, L', P', h1, h2, h3, h4, h5, h6, h7, h8, h9⟩
 ·exact .inl ⟨h1, h2, h3.less⟩
 ·exact .inr (.inl ⟨k, h1, h2, h3, h4, h5.less⟩)
 ·rw [set_left hv] at h9
  exact .inr (.inr ⟨k, L', P', h1, h2, h3, h4, h5, h6, h7, h8, h9.less⟩)
def EAddE (I B n : Nat) (ns : Nat → Prop) (f0 : Nat → Nat) (xs : List Nat) (L : List (Nat × Nat)) (P : Nat → Nat → Nat) (E : Nat → List UInt8 × Nat) (s : ByteArray) (m kv g : Nat) (w0 : World) (Ps : List Pr) (e : Ending) (w' : World) : Prop :=
 (okName s = false ∧ e = .returned (.int .i64 13) ∧ Grommet.Own w0 w' Ps) ∨ (okName s = true ∧ (∃ k, k < 12 ∧ (E k).1 = bytesOf s) ∧ e = .returned (.int .i64 9) ∧ Grommet.Own w0 w' Ps) ∨ (okName s = true ∧ (∀ k, k < 12 → (E k).1 ≠ bytesOf s) ∧ EAdd I B n ns f0 xs L P E s m kv g w0 Ps e w')
def EChg (I B n : Nat) (ns : Nat → Prop) (f0 : Nat → Nat) (xs : List Nat) (L : List (Nat × Nat)) (P : Nat → Nat → Nat) (E : Nat → List UInt8 × Nat) (s : ByteArray) (m kv g : Nat) (w0 : World) (Ps : List Pr) (e : Ending) (w' : World) : Prop :=
 (okName s = false ∧ e = .returned (.int .i64 13) ∧ Grommet.Own w0 w' Ps) ∨ (okName s = true ∧ (∀ k, k < 12 → (E k).1 ≠ bytesOf s) ∧ e = .returned (.int .i64 6) ∧ Grommet.Own w0 w' Ps) ∨
  (okName s = true ∧ ∃ k L', k < 12 ∧ (E k).1 = bytesOf s ∧ e = .returned (.int .i64 0) ∧ Est I B ns n f0 xs L' P (fun j => if j = k then ((E k).1, m) else E j) ∧ cntB xs L' B = cntB xs L B ∧ L'.length ≤ L.length + 1 ∧ Grommet.Own w0 w' (Ps.set kv (viewP g xs L')))
theorem AddE {I B n : Nat} {ns : Nat → Prop} {f0 : Nat → Nat} {xs : List Nat} {L : List (Nat × Nat)} {P : Nat → Nat → Nat} {E : Nat → List UInt8 × Nat} (F : Est I B ns n f0 xs L P E) (hl : L.length ≤ 60) (s : ByteArray) (hss : s.size ≤ 1048576) (m : Nat) (h1 : 1 ≤ m) (hmI : m < I) (kv g : Nat) (w0 w : World) (htab : Lib.TabIs Tryz.prog w0 "math/bits.deBruijn64tab" .u8 tab) (Ps : List Pr) (h : Grommet.Own w0 w Ps) (hsol : ∀ Q ∈ Ps, Solid Q) (hv : Ps[kv]? = some (viewP g xs L)) :
  Calls Tryz.prog 17 #[.pointer (some ⟨g, 0, none⟩), gv ((1 : Nat) : Int) (I : Int) (B : Int), .int .i64 (n : Int), .agg #[.string s, .int .i64 (m : Int)]] w (EAddE I B n ns f0 xs L P E s m kv g w0 Ps) := by
 have hkl := (List.getElem?_eq_some_iff.1 hv).1
 have HTo := Lib.hid (fun wx Qs (hx : Grommet.Own w0 wx (Ps ++ Qs)) => toD F s m h1 hmI kv g w0 wx (Ps ++ Qs) hx (app_old hv))
 have HFi := Lib.hid (fun G R X XM wx (hx : Grommet.Own w0 wx (Ps ++ [geoB G I B, boxP R 37 #[.string s, .int .i64 (m : Int)], bmP XM g 1 I B n, dirP X g I B XM])) => findD F s hss kv (Ps.length + 2) g XM w0 wx _ hx (solid_app hsol (fun Q hQ => by
  simp only [List.mem_cons, List.not_mem_nil, or_false] at hQ
  rcases hQ with rfl | rfl | rfl | rfl <;> exact solid_box _ _ _)) (app_old hv) (app_at 2 rfl))
 have HAd := Lib.hid (fun (hok : okName s = true) G R X XM Y (y : List UInt8 × Nat) wx (hx : Grommet.Own w0 wx (Ps ++ [geoB G I B, boxP R 37 #[.string s, .int .i64 (m : Int)], bmP XM g 1 I B n, dirP X g I B XM, boxP Y 37 #[.string (str y.1), .int .i64 (y.2 : Int)]])) => addD F hl s hok m h1 hmI kv (Ps.length + 2) g XM w0 wx htab _ hx (solid_app hsol (fun Q hQ => by
  simp only [List.mem_cons, List.not_mem_nil, or_false] at hQ
  rcases hQ with rfl | rfl | rfl | rfl | rfl <;> exact solid_box _ _ _)) (app_old hv) (app_at 2 rfl) (by omega))
 have Hv := Lib.hid hv
 have hG := h.addBox 23 #[.int .i64 1, .int .i64 (I : Int), .int .i64 (B : Int)]
 obtain ⟨G, eG⟩ : ∃ G, w.heap.size = G := ⟨_, rfl⟩
 obtain ⟨wg, ewg⟩ : ∃ wg, w.alloc (.cells #[.int .i64 1, .int .i64 (I : Int), .int .i64 (B : Int)] 23) = wg := ⟨_, rfl⟩
 rw [eG, ewg] at hG
 have hN := hG.addBox 37 #[.string s, .int .i64 (m : Int)]
 obtain ⟨R, eR⟩ : ∃ R, wg.heap.size = R := ⟨_, rfl⟩
 obtain ⟨we, ewe⟩ : ∃ we, wg.alloc (.cells #[.string s, .int .i64 (m : Int)] 37) = we := ⟨_, rfl⟩
 rw [eR, ewe, List.append_assoc] at hN
 have hO := Lib.hid (show Grommet.Own w0 we (Ps ++ [geoB G I B, boxP R 37 #[.string s, .int .i64 (m : Int)]]) from hN)
 clear hG hN h hv hsol hss F hl hkl h1 hmI htab
 unfold gv dirV dirC at *
 obtain ⟨y0, y1, y2⟩ := geo_cells hO.out (app_at 0 rfl)
 obtain ⟨z0, z1, _⟩ := ebox_cells hO.out (app_at 1 rfl)
 go_enter Tryz.func17, Tryz.ntmps17
 go_wp2_with fail
 all_goals (try rw [ewg]); (try rw [eG]); (try rw [eR]); (try rw [ewe])
 go_wp2_with fail
 refine (HTo.out _ _ hO.out).mono ?_
 rintro e w1 ⟨XM, rfl, hO1⟩
 rw [List.append_assoc] at hO1
 have hO2 := hO1.addBox 84 #[.pointer (some ⟨g, 0, none⟩), .int .i64 1, .int .i64 (I : Int), .int .i64 (B : Int), .pointer (some ⟨XM, 0, none⟩)]
 obtain ⟨X, eX⟩ : ∃ X, w1.heap.size = X := ⟨_, rfl⟩
 obtain ⟨w2, ew2⟩ : ∃ w2, w1.alloc (.cells #[.pointer (some ⟨g, 0, none⟩), .int .i64 1, .int .i64 (I : Int), .int .i64 (B : Int), .pointer (some ⟨XM, 0, none⟩)] 84) = w2 := ⟨_, rfl⟩
 rw [eX, ew2, List.append_assoc] at hO2
 have hO2 : Hid (Grommet.Own w0 w2 (Ps ++ [geoB G I B, boxP R 37 #[.string s, .int .i64 (m : Int)], bmP XM g 1 I B n, dirP X g I B XM])) := Lib.hid hO2
 have HFx := Lib.hid (HFi.out _ _ _ _ _ hO2.out)
 obtain ⟨c0, c1, c2, c3, c4⟩ := dirP_cells hO2.out (app_at 3 rfl)
 clear y0 y1 y2 z0 z1
 obtain ⟨z0, z1, _⟩ := ebox_cells hO2.out (app_at 1 rfl)
 clear hO1 hO HTo HFi ewg eG eR ewe
 go_wp2_with fail
 all_goals (try rw [ew2]); (try rw [eX])
 go_wp2_with fail
 refine HFx.out.mono ?_
 rintro e w3 ⟨⟨xn, xm⟩, kk, en, rfl, hfi, hO3⟩
 rw [enV_mk]
 have hO4 := hO3.addBox 37 #[.string (str xn), .int .i64 (xm : Int)]
 obtain ⟨Y, eY⟩ : ∃ X, w3.heap.size = X := ⟨_, rfl⟩
 obtain ⟨w4, ew4⟩ : ∃ w2, w3.alloc (.cells #[.string (str xn), .int .i64 (xm : Int)] 37) = w2 := ⟨_, rfl⟩
 rw [eY, ew4, List.append_assoc] at hO4
 have hO4 : Hid (Grommet.Own w0 w4 (Ps ++ [geoB G I B, boxP R 37 #[.string s, .int .i64 (m : Int)], bmP XM g 1 I B n, dirP X g I B XM, boxP Y 37 #[.string (str xn), .int .i64 (xm : Int)]])) := Lib.hid hO4
 have hOs := Lib.hid hO4.out.less
 clear hO3 hO2 HFx c0 c1 c2 c3 c4 ew2 eX z0 z1
 rcases hfi with ⟨ok, _, _, rfl⟩ | ⟨ok, ⟨k, hk, rfl, hx, he⟩, rfl⟩ | ⟨ok, hno, _, _, rfl⟩
 ·as_aux_lemma =>
  have Hok := Lib.hid ok
  clear ok hO4 HAd
  go_wp2_with fail
  all_goals (try rw [ew4])
  go_wp2_with fail
  go_ret
  exact .inl ⟨Hok.out, rfl, hOs.out⟩
 ·as_aux_lemma =>
  have Hok := Lib.hid (And.intro ok (And.intro hk he))
  clear ok hk hx he hO4 HAd
  go_wp2_with fail
  all_goals (try rw [ew4])
  go_wp2_with fail
  go_ret
  exact .inr (.inl ⟨Hok.out.1, ⟨k, Hok.out.2⟩, rfl, hOs.out⟩)
 ·as_aux_lemma =>
  have HAx := Lib.hid (HAd.out ok G R X XM Y (xn, xm) w4 hO4.out)
  have Hok := Lib.hid (And.intro ok hno)
  obtain ⟨c0, c1, c2, c3, c4⟩ := dirP_cells hO4.out (app_at 3 rfl)
  obtain ⟨z0, z1, _⟩ := ebox_cells hO4.out (app_at 1 rfl)
  clear ok hno hO4 hOs HAd
  go_wp2_with fail
  all_goals (try rw [ew4])
  go_wp2_with fail
  refine HAx.out.mono ?_
  rintro e w5 he
  have he := Lib.hid (EAdd.less Hv.out he)
  obtain ⟨en, hen⟩ : ∃ en : Int, e = .returned (.int .i64 en) := by
   rcases he.out with ⟨h1, _⟩ | ⟨_, _, _, _, h1, _⟩ | ⟨_, _, _, _, _, h1, _⟩ <;> exact ⟨_, h1⟩
  subst hen
  clear HAx c0 c1 c2 c3 c4 z0 z1
  go_wp2_with fail
  go_ret
  exact .inr (.inr ⟨Hok.out.1, Hok.out.2, he.out⟩)
theorem ChangeE {I B n : Nat} {ns : Nat → Prop} {f0 : Nat → Nat} {xs : List Nat} {L : List (Nat × Nat)} {P : Nat → Nat → Nat} {E : Nat → List UInt8 × Nat} (F : Est I B ns n f0 xs L P E) (hl : L.length ≤ 60) (s : ByteArray) (hss : s.size ≤ 1048576) (m : Nat) (h1 : 1 ≤ m) (hmI : m < I) (kv g : Nat) (w0 w : World) (Ps : List Pr) (h : Grommet.Own w0 w Ps) (hsol : ∀ Q ∈ Ps, Solid Q) (hv : Ps[kv]? = some (viewP g xs L)) :
  Calls Tryz.prog 19 #[.pointer (some ⟨g, 0, none⟩), gv ((1 : Nat) : Int) (I : Int) (B : Int), .int .i64 (n : Int), .agg #[.string s, .int .i64 (m : Int)]] w (EChg I B n ns f0 xs L P E s m kv g w0 Ps) := by
 have HTo := Lib.hid (fun wx Qs (hx : Grommet.Own w0 wx (Ps ++ Qs)) => toD F s m h1 hmI kv g w0 wx (Ps ++ Qs) hx (app_old hv))
 have HFi := Lib.hid (fun G R X XM wx (hx : Grommet.Own w0 wx (Ps ++ [geoB G I B, boxP R 37 #[.string s, .int .i64 (m : Int)], bmP XM g 1 I B n, dirP X g I B XM])) => findD F s hss kv (Ps.length + 2) g XM w0 wx _ hx (solid_app hsol (fun Q hQ => by
  simp only [List.mem_cons, List.not_mem_nil, or_false] at hQ
  rcases hQ with rfl | rfl | rfl | rfl <;> exact solid_box _ _ _)) (app_old hv) (app_at 2 rfl))
 have HAt := Lib.hid (fun k (hk : k < 12) XM wx Qs km (hx : Grommet.Own w0 wx (Ps ++ Qs)) (hm : (Ps ++ Qs)[km]? = some (bmP XM g 1 I B n)) => F.st.at_ (n := n) (k := k) F.isn hk hx (app_old hv) hm)
 have HF := Lib.hid (And.intro F (And.intro hl (And.intro h1 hmI)))
 have Hv := Lib.hid hv
 have hmN := mayN F.st.may
 have wm : IntKind.u64.wrap (m : Int) = (m : Int) := IntWalk.u64_in _ ⟨by omega, by omega⟩
 have hG := h.addBox 23 #[.int .i64 1, .int .i64 (I : Int), .int .i64 (B : Int)]
 obtain ⟨G, eG⟩ : ∃ G, w.heap.size = G := ⟨_, rfl⟩
 obtain ⟨wg, ewg⟩ : ∃ wg, w.alloc (.cells #[.int .i64 1, .int .i64 (I : Int), .int .i64 (B : Int)] 23) = wg := ⟨_, rfl⟩
 rw [eG, ewg] at hG
 have hN := hG.addBox 37 #[.string s, .int .i64 (m : Int)]
 obtain ⟨R, eR⟩ : ∃ R, wg.heap.size = R := ⟨_, rfl⟩
 obtain ⟨we, ewe⟩ : ∃ we, wg.alloc (.cells #[.string s, .int .i64 (m : Int)] 37) = we := ⟨_, rfl⟩
 rw [eR, ewe, List.append_assoc] at hN
 have hO := Lib.hid (show Grommet.Own w0 we (Ps ++ [geoB G I B, boxP R 37 #[.string s, .int .i64 (m : Int)]]) from hN)
 clear hG hN h hv hsol hss F hl h1 hmI hmN
 unfold gv dirV dirC at *
 obtain ⟨y0, y1, y2⟩ := geo_cells hO.out (app_at 0 rfl)
 obtain ⟨z0, z1, _⟩ := ebox_cells hO.out (app_at 1 rfl)
 go_enter Tryz.func19, Tryz.ntmps19
 go_wp2_with fail
 all_goals (try rw [ewg]); (try rw [eG]); (try rw [eR]); (try rw [ewe])
 go_wp2_with fail
 refine (HTo.out _ _ hO.out).mono ?_
 rintro e w1 ⟨XM, rfl, hO1⟩
 rw [List.append_assoc] at hO1
 have hO2 := hO1.addBox 84 #[.pointer (some ⟨g, 0, none⟩), .int .i64 1, .int .i64 (I : Int), .int .i64 (B : Int), .pointer (some ⟨XM, 0, none⟩)]
 obtain ⟨X, eX⟩ : ∃ X, w1.heap.size = X := ⟨_, rfl⟩
 obtain ⟨w2, ew2⟩ : ∃ w2, w1.alloc (.cells #[.pointer (some ⟨g, 0, none⟩), .int .i64 1, .int .i64 (I : Int), .int .i64 (B : Int), .pointer (some ⟨XM, 0, none⟩)] 84) = w2 := ⟨_, rfl⟩
 rw [eX, ew2, List.append_assoc] at hO2
 have hO2 : Hid (Grommet.Own w0 w2 (Ps ++ [geoB G I B, boxP R 37 #[.string s, .int .i64 (m : Int)], bmP XM g 1 I B n, dirP X g I B XM])) := Lib.hid hO2
 have HFx := Lib.hid (HFi.out _ _ _ _ _ hO2.out)
 obtain ⟨c0, c1, c2, c3, c4⟩ := dirP_cells hO2.out (app_at 3 rfl)
 clear y0 y1 y2 z0 z1
 obtain ⟨z0, z1, _⟩ := ebox_cells hO2.out (app_at 1 rfl)
 clear hO1 hO HTo HFi ewg eG eR ewe
 go_wp2_with fail
 all_goals (try rw [ew2]); (try rw [eX])
 go_wp2_with fail
 refine HFx.out.mono ?_
 rintro e w3 ⟨⟨xn, xm⟩, kk, en, rfl, hfi, hO3⟩
 rw [enV_mk]
 have hO4 := hO3.addBox 37 #[.string (str xn), .int .i64 (xm : Int)]
 obtain ⟨Y, eY⟩ : ∃ X, w3.heap.size = X := ⟨_, rfl⟩
 obtain ⟨w4, ew4⟩ : ∃ w2, w3.alloc (.cells #[.string (str xn), .int .i64 (xm : Int)] 37) = w2 := ⟨_, rfl⟩
 rw [eY, ew4, List.append_assoc] at hO4
 have hO4 : Hid (Grommet.Own w0 w4 (Ps ++ [geoB G I B, boxP R 37 #[.string s, .int .i64 (m : Int)], bmP XM g 1 I B n, dirP X g I B XM, boxP Y 37 #[.string (str xn), .int .i64 (xm : Int)]])) := Lib.hid hO4
 have hOs := Lib.hid hO4.out.less
 clear hO3 hO2 HFx c0 c1 c2 c3 c4 ew2 eX z0 z1
 rcases hfi with ⟨ok, _, _, rfl⟩ | ⟨ok, ⟨k, hk, rfl, hx, he⟩, rfl⟩ | ⟨ok, hno, _, _, rfl⟩
 ·as_aux_lemma =>
  have Hok := Lib.hid ok
  clear ok hO4 HAt
  go_wp2_with fail
  all_goals (try rw [ew4])
  go_wp2_with fail
  go_ret
  exact .inl ⟨Hok.out, rfl, hOs.out⟩
 ·as_aux_lemma =>
  have hne := HF.out.1.there hk ok he
  obtain ⟨V, hV⟩ : ∃ V, P n k = V := ⟨_, rfl⟩
  have HAx := Lib.hid (HAt.out k hk XM w4 _ _ hO4.out (app_at 2 rfl))
  rw [hV] at HAx
  have hlt := HF.out.1.st.lk.lt n k HF.out.1.isn (by omega)
  have hmay := HF.out.1.st.may
  have hmN := mayN hmay
  have hln := HF.out.1.st.len
  have h64 := HF.out.1.st.b64
  obtain ⟨A, hA⟩ : ∃ A, 488 + 16 * I + 8 * V = A := ⟨_, rfl⟩
  rw [hV] at hlt
  have HB := Lib.hid (fun wx => BlockAt_any 1 (I : Int) (B : Int) (V : Int) wx)
  rw [show blockV 1 (I : Int) (B : Int) (V : Int) = (A : Int) from by unfold blockV; rw [if_pos ⟨hmay, by omega, by omega⟩]; omega] at HB
  unfold gv at HB
  have hxA : A < xs.length := by omega
  have hl := HF.out.2.1
  have hgot := setL_got (v := m) hxA (show L.length < 96 by omega)
  have hmI := HF.out.2.2.2
  have hchg := HF.out.1.changed (A := A) (L' := setL xs L (A : Int) m) hk hne (by rw [hV]; exact hA) HF.out.2.2.1 HF.out.2.2.2 (fun a ha => by rw [hgot, if_neg ha]) (wl_setL HF.out.1.st.wl _ _ hxA (by omega)) (by rw [hgot, if_pos rfl])
  have HSet := Lib.hid (fun wx Qs (hx : Grommet.Own w0 wx (Ps ++ Qs)) => SetH kv g xs L (A : Int) m 0 w0 wx (Ps ++ Qs) (Ps.set kv (viewP g xs (setL xs L (A : Int) m)) ++ Qs) hx (app_old Hv.out) (by omega) (by rw [setE_ok hxA (by omega)]; rfl) (set_left Hv.out _))
  have HE := Lib.hid (And.intro ok (And.intro hk (And.intro he (And.intro hchg (setL_len xs L (A : Int) m)))))
  have wA : IntKind.i64.wrap (A : Int) = (A : Int) := IntWalk.i64_in _ ⟨by omega, by omega⟩
  have wA0 : IntKind.i64.wrap ((A : Int) + 0) = (A : Int) := by rw [Int.add_zero]; exact wA
  obtain ⟨c0, c1, c2, c3, c4⟩ := dirP_cells hO4.out (app_at 3 rfl)
  clear ok hk hx he hOs HAt hV hne hlt hmay hmN hln h64 hA hxA hl hgot hchg HF hO4 hmI
  go_wp2_with fail
  all_goals (try rw [ew4])
  go_wp2_with fail
  refine HAx.out.mono ?_
  rintro e w5 ⟨rfl, hO5⟩
  have HG0 := Lib.hid (show (fun wx => (wx.cell? ⟨G, 0, none⟩ = some (.int .i64 1) ∧ wx.cell? ⟨G, 1, none⟩ = some (.int .i64 (I : Int)) ∧ wx.cell? ⟨G, 2, none⟩ = some (.int .i64 (B : Int))) ∧ wx.cell? ⟨R, 1, none⟩ = some (.int .i64 (m : Int))) w5.drew from by
   have h := hO5.quiet (grown_drew (World.grownBy.refl w5 none))
   exact ⟨geo_cells h (app_at 0 rfl), (ebox_cells h (app_at 1 rfl)).2.1⟩)
  have hOr := Lib.hid (hO5.quiet (grown_drew (World.grownBy.refl w5 none)))
  clear HAx hO5 c0 c1 c2 c3 c4 ew4
  go_wp2_with fail
  refine wp_region_held_drew (S := fun wx => (wx.cell? ⟨G, 0, none⟩ = some (.int .i64 1) ∧ wx.cell? ⟨G, 1, none⟩ = some (.int .i64 (I : Int)) ∧ wx.cell? ⟨G, 2, none⟩ = some (.int .i64 (B : Int))) ∧ wx.cell? ⟨R, 1, none⟩ = some (.int .i64 (m : Int))) (by kernel_rfl) (HG0.out) (fun hS => ?_)
  refine wpAnyH_take (i := 0) (oi := ⟨some 46, .move (.tmp 0), 32, "entry.go:194", #[], none⟩) (v := ?vch19r10o0) rfl (by kernel_rfl) (by kernel_rfl) (by kernel_rfl) (fun _ _ _ h => h) (Or.inl ⟨by rfl, ?hch19r10o0⟩) hS ?_
  case hch19r10o0 => (intro wx hx; skip; go_simp; (try with_reducible rfl))
  try simp only [Act.put, List.setIfInBounds_toArray, List.set_cons_zero, List.set_cons_succ]
  refine wpAnyH_take (i := 1) (oi := ⟨some 47, .load 23 (.tmp 5), 23, "entry.go:194", #[], none⟩) (v := ?vch19r10o1) rfl (by kernel_rfl) (by kernel_rfl) (by kernel_rfl) (fun _ _ _ h => h) (Or.inl ⟨by rfl, ?hch19r10o1⟩) hS ?_
  case hch19r10o1 => (intro wx hx; obtain ⟨⟨c0, c1, c2⟩, c3⟩ := hx; go_simp; (try with_reducible rfl))
  try simp only [Act.put, List.setIfInBounds_toArray, List.set_cons_zero, List.set_cons_succ]
  refine wpAnyH_take (i := 2) (oi := ⟨some 48, .move (.tmp 13), 3, "entry.go:194", #[], none⟩) (v := ?vch19r10o2) rfl (by kernel_rfl) (by kernel_rfl) (by kernel_rfl) (fun _ _ _ h => h) (Or.inl ⟨by rfl, ?hch19r10o2⟩) hS ?_
  case hch19r10o2 => (intro wx hx; skip; go_simp; (try with_reducible rfl))
  try simp only [Act.put, List.setIfInBounds_toArray, List.set_cons_zero, List.set_cons_succ]
  refine wpAnyH_take (i := 5) (oi := ⟨some 51, .fieldAddr 37 (.tmp 7) 1, 0, "entry.go:194", #[], none⟩) (v := ?vch19r10o5) rfl (by kernel_rfl) (by kernel_rfl) (by kernel_rfl) (fun _ _ _ h => h) (Or.inl ⟨by rfl, ?hch19r10o5⟩) hS ?_
  case hch19r10o5 => (intro wx hx; skip; go_simp; (try with_reducible rfl))
  try simp only [Act.put, List.setIfInBounds_toArray, List.set_cons_zero, List.set_cons_succ]
  refine wpAnyH_take (i := 6) (oi := ⟨some 52, .load 3 (.tmp 51), 3, "entry.go:194", #[⟨5, .data⟩], none⟩) (v := ?vch19r10o6) rfl (by kernel_rfl) (by kernel_rfl) (by kernel_rfl) (fun _ _ _ h => h) (Or.inl ⟨by rfl, ?hch19r10o6⟩) hS ?_
  case hch19r10o6 => (intro wx hx; obtain ⟨⟨c0, c1, c2⟩, c3⟩ := hx; go_simp; (try with_reducible rfl))
  try simp only [Act.put, List.setIfInBounds_toArray, List.set_cons_zero, List.set_cons_succ]
  refine wpAnyH_take (i := 7) (oi := ⟨some 53, .convert 3 72 (.tmp 52), 72, "entry.go:194", #[⟨6, .data⟩], none⟩) (v := ?vch19r10o7) rfl (by kernel_rfl) (by kernel_rfl) (by kernel_rfl) (fun _ _ _ h => h) (Or.inl ⟨by rfl, ?hch19r10o7⟩) hS ?_
  case hch19r10o7 => (intro wx hx; obtain ⟨⟨c0, c1, c2⟩, c3⟩ := hx; go_simp; (try with_reducible rfl))
  try simp only [Act.put, List.setIfInBounds_toArray, List.set_cons_zero, List.set_cons_succ]
  refine wpAnyH_ready (rs := [3]) (by kernel_rfl) (by simp) ?_
  refine AllReadyH.cons (o := ⟨some 49, .call { callee := Callee.value (Operand.func 54), args := #[.tmp 47, .tmp 48], argTypes := #[23, 3] }, 3, "entry.go:194", #[⟨1, .data⟩, ⟨2, .data⟩], none⟩) rfl (fun K hK => ?_) AllReadyH.nil
  go_simp
  refine (HB.out _).mono ?_
  rintro e w6 ⟨rfl, hg6⟩
  have hO6 := Lib.hid (hOr.out.quiet hg6)
  clear hOr hg6 HB
  refine hK.out _ _ ?hsch19r10o3 (fun hS => ?_)
  case hsch19r10o3 => (exact ⟨geo_cells hO6.out (app_at 0 rfl), (ebox_cells hO6.out (app_at 1 rfl)).2.1⟩)
  clear hK K
  try simp only [Act.put, List.setIfInBounds_toArray, List.set_cons_zero, List.set_cons_succ]
  refine wpAnyH_take (i := 4) (oi := ⟨some 50, .binOp BinOp.add 3 (.tmp 49) (Operand.const (Value.int IntKind.i64 0)) 3, 3, "entry.go:194", #[⟨3, .data⟩], none⟩) (v := ?vch19r10o4) rfl (by kernel_rfl) (by kernel_rfl) (by kernel_rfl) (fun _ _ _ h => h) (Or.inl ⟨by rfl, ?hch19r10o4⟩) hS ?_
  case hch19r10o4 => (intro wx hx; skip; go_simp; (try with_reducible rfl))
  try simp only [Act.put, List.setIfInBounds_toArray, List.set_cons_zero, List.set_cons_succ]
  refine wpAnyH_ready (rs := [8]) (by kernel_rfl) (by simp) ?_
  refine AllReadyH.cons (o := ⟨some 54, .call { callee := Callee.value (Operand.func 53), args := #[.tmp 46, .tmp 50, .tmp 53], argTypes := #[32, 3, 72] }, 45, "entry.go:194", #[⟨0, .data⟩, ⟨4, .data⟩, ⟨7, .data⟩, ⟨3, .chain⟩], none⟩) rfl (fun K hK => ?_) AllReadyH.nil
  go_simp
  refine (HSet.out _ _ hO6.out).mono ?_
  rintro e w7 ⟨rfl, hO7⟩
  have hO7 := Lib.hid hO7
  clear HSet hO6
  refine hK.out _ _ ?hsch19r10o8 (fun hS => ?_)
  case hsch19r10o8 => (exact ⟨geo_cells hO7.out (app_at' List.length_set 0 rfl), (ebox_cells hO7.out (app_at' List.length_set 1 rfl)).2.1⟩)
  clear hK K
  try simp only [Act.put, List.setIfInBounds_toArray, List.set_cons_zero, List.set_cons_succ]
  refine wpAnyH_take (i := 9) (oi := ⟨some 8, .assign (.tmp 54), 45, "entry.go:194", #[⟨8, .data⟩, ⟨8, .chain⟩, ⟨0, .phase⟩, ⟨1, .phase⟩, ⟨2, .phase⟩, ⟨3, .phase⟩, ⟨4, .phase⟩, ⟨5, .phase⟩, ⟨6, .phase⟩, ⟨7, .phase⟩, ⟨8, .phase⟩], none⟩) (v := ?vch19r10o9) rfl (by kernel_rfl) (by kernel_rfl) (by kernel_rfl) (fun _ _ _ h => h) (Or.inl ⟨by rfl, ?hch19r10o9⟩) hS ?_
  case hch19r10o9 => (intro wx hx; skip; go_simp; (try with_reducible rfl))
  try simp only [Act.put, List.setIfInBounds_toArray, List.set_cons_zero, List.set_cons_succ]
  refine wpAnyH_done (by kernel_rfl) ?_ _
  have hOE := Lib.hid (Own.less hO7.out)
  clear hS hO7 HG0
  go_wp2
  go_ret
  exact .inr (.inr ⟨HE.out.1, k, _, HE.out.2.1, HE.out.2.2.1, rfl, HE.out.2.2.2.1.1, HE.out.2.2.2.1.2, HE.out.2.2.2.2, hOE.out⟩)
 ·as_aux_lemma =>
  have Hok := Lib.hid (And.intro ok hno)
  clear ok hno hO4 HAt
  go_wp2_with fail
  all_goals (try rw [ew4])
  go_wp2_with fail
  go_ret
  exact .inr (.inl ⟨Hok.out.1, Hok.out.2, rfl, hOs.out⟩)
end Go.Proofs.YtfljlmmiiccooaaGreatDoor
end
section
namespace Go.Proofs.YtfljlmmiiccooaaGreatDoor
open Go.RowKit Go.Grommet Go.Shelf
attribute [local go_sem] Oper.semAt_some
set_option linter.unusedVariables false
def lsN (E : Nat → List UInt8 × Nat) (j : Nat) : List (List UInt8 × Nat) := ((List.range j).map E).filter (fun x => !isNone x)
def lsE (E : Nat → List UInt8 × Nat) : List (List UInt8 × Nat) := lsN E 12
theorem lsN_succ (E : Nat → List UInt8 × Nat) (j : Nat) : lsN E (j + 1) = lsN E j ++ (if isNone (E j) = true then [] else [E j]) := by
 unfold lsN
 rw [List.range_succ, List.map_append, List.filter_append]
 congr 1
 by_cases h : isNone (E j) = true
 ·rw [if_pos h]; simp [h]
 ·rw [if_neg h]; simp [h]
theorem lsN_len (E : Nat → List UInt8 × Nat) (j : Nat) : (lsN E j).length ≤ j := by
 unfold lsN
 refine Nat.le_trans (List.length_filter_le _ _) ?_
 simp
def eCells (l : List (List UInt8 × Nat)) : List Value := l.flatMap fun x => [.string (str x.1), .int .i64 (x.2 : Int)]
theorem eCells_snoc (l : List (List UInt8 × Nat)) (x : List UInt8 × Nat) : eCells (l ++ [x]) = eCells l ++ [.string (str x.1), .int .i64 (x.2 : Int)] := by unfold eCells; simp
theorem infoEnt : (Tryz.prog.info? 37).map (fun i => (i.zero, i.size, i.bytes)) = some (some (.agg #[.string ⟨#[]⟩, .int .i64 0]), 2, 24) := by kernel_rfl
theorem run_append_ent (w : World) (base : Nat) (ty : TypeId) (v : Value) (k : Nat) (xs : List Value) (hown : w.ownsRow base 37 2 v k xs) (tmp : Nat) (s : ByteArray) (m : Int) (ht : w.heap[tmp]? = some (.cells #[.string s, .int .i64 m] 37 (0, 0))) (hk : k ≤ 100000) (hb : base ≤ w.heap.size) :
  ∃ ad cap w', (Builtin.append_ #[55, 55] ty #[v, .slice (some ⟨tmp, 0, none⟩) 1 1]).run Tryz.prog w = .ok (.slice ad (k + 1) cap) w' ∧ w'.ownsRow base 37 2 (.slice ad (k + 1) cap) (k + 1) (xs ++ [.string s, .int .i64 m]) ∧ w.grownBy w' v.ownBlock ∧
   (∀ g, (Value.slice ad (k + 1) cap).ownBlock = some g → v.ownBlock = some g ∨ w.heap.size ≤ g) := by
 obtain ⟨i0, hi, hz0, hz1, hz2⟩ := info_parts infoEnt
 obtain ⟨v', w', hr, h2, h3, h4⟩ := run_append_blk (P := Tryz.prog) w base 55 ty 37 i0 (.agg #[.string ⟨#[]⟩, .int .i64 0]) 2 24 Tryz.underlying55 hi hz0 hz1 hz2 rfl (by decide) v k xs hown ⟨tmp, 0, none⟩ 1 1 [.string s, .int .i64 m] rfl (at_of_row ht).some (by intro u hu; simp at hu; rcases hu with rfl | rfl <;> rfl) (by unfold maxLen; omega) (by omega) hb
 obtain ⟨ad', cap', rfl, _⟩ := row_slice h2
 exact ⟨ad', cap', w', hr, h2, h3, h4⟩
theorem wpListIn_appE {F : Fence} {n : Nat} {w : World} {ops : Array Oper} {rest : List Oper} {o : Oper} {a : Act} {Q : Exit → Act → World → Prop} (hg : o.guard = none) (s x : Operand)
  (hop : o.op = Op.call { callee := Callee.builtin Builtin.append, args := #[s, x], argTypes := #[55, 55] }) (v : Value) (k : Nat) (xs : List Value) (hs : a.eval s = v) (hown : w.ownsRow 0 37 2 v k xs) (tmp : Nat) (t : ByteArray) (y : Int) (hx : a.eval x = .slice (some ⟨tmp, 0, none⟩) 1 1)
  (ht : w.heap[tmp]? = some (.cells #[.string t, .int .i64 y] 37 (0, 0))) (hk : k ≤ 100000)
  (h : ∀ ad cap w', w'.ownsRow 0 37 2 (.slice ad (k + 1) cap) (k + 1) (xs ++ [.string t, .int .i64 y]) → w.grownBy w' v.ownBlock → (∀ g, (Value.slice ad (k + 1) cap).ownBlock = some g → v.ownBlock = some g ∨ w.heap.size ≤ g) → wpListIn F n Tryz.prog ops Q rest (a.put o.dst (.slice ad (k + 1) cap)) w') :
  wpListIn F n Tryz.prog ops Q (o :: rest) a w := by
 refine wpListIn_plain hg fun K hK' => ?_
 obtain ⟨ad', cap', w', hrun, r1, r2, r3⟩ := run_append_ent w 0 o.type v k xs hown tmp t y ht hk (Nat.zero_le _)
 unfold Oper.wpIn
 refine ⟨?_, ?_⟩
 ·simp [Oper.about, hop, resolve, Target.leads, Sem.run_pure]
 ·rw [Oper.semAt_plain F _ _ (by rw [hop]; intro c hc'; cases hc')]
  simp [execOp, hop, resolve, invoke, builtin, hs, hx, hrun, Result.andThen]
  exact hK' _ _ (h ad' cap' w' r1 r2 r3)
def LQ (Ps : List Pr) (G R Q D V g I B n XM : Nat) (r : Value) (v : Value) (m : Nat) (xs : List Value) (pp : Nat) : List Pr :=
 Ps ++ [geoB G I B, boxP R 55 #[r], boxP Q 45 #[.int .i64 0], bmP XM g 1 I B n, dirP D g I B XM, boxP V 55 #[v], rowP 37 2 v m xs, boxP pp 3 #[.int .i64 0]]
theorem LQ_app {Ps Rs : List Pr} {G R Q D V g I B n XM : Nat} {r v : Value} {m : Nat} {xs : List Value} {pp : Nat} : LQ Ps G R Q D V g I B n XM r v m xs pp ++ Rs = Ps ++ ([geoB G I B, boxP R 55 #[r], boxP Q 45 #[.int .i64 0], bmP XM g 1 I B n, dirP D g I B XM, boxP V 55 #[v], rowP 37 2 v m xs, boxP pp 3 #[.int .i64 0]] ++ Rs) := by unfold LQ; rw [List.append_assoc]
theorem LQ_solid {Ps : List Pr} (hs : ∀ Q ∈ Ps, Solid Q) (G R Q D V g I B n XM : Nat) (r v : Value) (m : Nat) (xs : List Value) (pp : Nat) : ∀ X ∈ LQ Ps G R Q D V g I B n XM r v m xs pp, Solid X := by
 refine solid_app hs (fun X hX => ?_)
 simp only [List.mem_cons, List.not_mem_nil, or_false] at hX
 rcases hX with rfl | rfl | rfl | rfl | rfl | rfl | rfl | rfl
 ·exact solid_box _ _ _
 ·exact solid_box _ _ _
 ·exact solid_box _ _ _
 ·exact solid_box _ _ _
 ·exact solid_box _ _ _
 ·exact solid_box _ _ _
 ·exact solid_row _ _ _ _ _
 ·exact solid_box _ _ _
structure LC (R Q D V g I B XM : Nat) (r v : Value) (pp : Nat) (w : World) : Prop where
 d0 : w.cell? ⟨D, 0, none⟩ = some (.pointer (some ⟨g, 0, none⟩))
 d1 : w.cell? ⟨D, 1, none⟩ = some (.int .i64 1)
 d2 : w.cell? ⟨D, 2, none⟩ = some (.int .i64 (I : Int))
 d3 : w.cell? ⟨D, 3, none⟩ = some (.int .i64 (B : Int))
 d4 : w.cell? ⟨D, 4, none⟩ = some (.pointer (some ⟨XM, 0, none⟩))
 r0 : w.cell? ⟨R, 0, none⟩ = some r
 r1 : w.frozen? ⟨R, 0, none⟩ = false
 q0 : w.cell? ⟨Q, 0, none⟩ = some (.int .i64 0)
 q1 : w.frozen? ⟨Q, 0, none⟩ = false
 v0 : w.cell? ⟨V, 0, none⟩ = some v
 v1 : w.frozen? ⟨V, 0, none⟩ = false
 p0 : w.cell? ⟨pp, 0, none⟩ = some (.int .i64 0)
theorem LC.of {w0 w : World} {Ps Rs : List Pr} {G R Q D V g I B n XM : Nat} {r v : Value} {m : Nat} {xs : List Value} {pp : Nat} (h : Grommet.Own w0 w (LQ Ps G R Q D V g I B n XM r v m xs pp ++ Rs)) : LC R Q D V g I B XM r v pp w := by
 rw [LQ_app] at h
 obtain ⟨c0, c1, c2, c3, c4⟩ := dirP_cells h (app_at 4 rfl)
 have b1 := h.box _ (app_at 1 rfl)
 have b2 := h.box _ (app_at 2 rfl)
 have b5 := h.box _ (app_at 5 rfl)
 have b7 := h.box _ (app_at 7 rfl)
 exact ⟨c0, c1, c2, c3, c4, by simp [World.cell?, b1], by simp [World.frozen?, b1], by simp [World.cell?, b2], by simp [World.frozen?, b2], by simp [World.cell?, b5], by simp [World.frozen?, b5], by simp [World.cell?, b7]⟩
theorem LQ_row {w0 w : World} {Ps Rs : List Pr} {G R Q D V g I B n XM : Nat} {r v : Value} {m : Nat} {xs : List Value} {pp : Nat} (h : Grommet.Own w0 w (LQ Ps G R Q D V g I B n XM r v m xs pp ++ Rs)) : w.ownsRow 0 37 2 v m xs := by
 rw [LQ_app] at h
 exact h.row _ (app_at 6 rfl)
theorem LQ_grow {w0 w w' : World} {Ps Rs : List Pr} {G R Q D V g I B n XM : Nat} {r v v' : Value} {m m' : Nat} {xs ys : List Value} {pp : Nat} (h : Grommet.Own w0 w (LQ Ps G R Q D V g I B n XM r v m xs pp ++ Rs)) (hr : w'.ownsRow 0 37 2 v' m' ys) (hg : w.grownBy w' v.ownBlock)
  (hb : ∀ g, v'.ownBlock = some g → v.ownBlock = some g ∨ w.heap.size ≤ g) : (w'.cell? ⟨V, 0, none⟩ = some v ∧ w'.frozen? ⟨V, 0, none⟩ = false) ∧ Grommet.Own w0 (w'.setCell ⟨V, 0, none⟩ v') (LQ Ps G R Q D V g I B n XM r v' m' ys pp ++ Rs) := by
 rw [LQ_app] at h ⊢
 have h1 := h.grows _ (app_at 6 rfl) hr hg hb
 rw [set_mid] at h1
 have b5 := h1.box _ (app_at 5 rfl)
 have h2 := h1.putBox _ (app_at 5 rfl) 0 v'
 rw [set_mid] at h2
 exact ⟨⟨by simp [World.cell?, b5], by simp [World.frozen?, b5]⟩, h2⟩
theorem LQ_put {w0 w : World} {Ps Rs : List Pr} {G R Q D V g I B n XM : Nat} {r v : Value} {m : Nat} {xs : List Value} {pp : Nat} (h : Grommet.Own w0 w (LQ Ps G R Q D V g I B n XM r v m xs pp ++ Rs)) (u : Value) :
  ∃ wn, (w.setCell ⟨R, 0, none⟩ u).setCell ⟨Q, 0, none⟩ (.int .i64 0) = wn ∧ Grommet.Own w0 wn (LQ Ps G R Q D V g I B n XM u v m xs pp ++ Rs) := by
 rw [LQ_app] at h ⊢
 have h1 := h.putBox _ (app_at 1 rfl) 0 u
 rw [set_mid] at h1
 have h2 := h1.putBox _ (app_at 2 rfl) 0 (.int .i64 0)
 rw [set_mid] at h2
 exact ⟨_, rfl, h2⟩
def LI (w0 : World) (Ps : List Pr) (G R Q D V g I B n XM : Nat) (pp : Nat) (E : Nat → List UInt8 × Nat) (pre : List (Fin 12)) (W : World) : Prop :=
 ∃ ad cp, Grommet.Own w0 W (LQ Ps G R Q D V g I B n XM (.slice none 0 0) (.slice ad (lsN E pre.length).length cp) (lsN E pre.length).length (eCells (lsN E pre.length)) pp)
theorem ListE {I B n : Nat} {ns : Nat → Prop} {f0 : Nat → Nat} {xs : List Nat} {L : List (Nat × Nat)} {P : Nat → Nat → Nat} {E : Nat → List UInt8 × Nat} (F : Est I B ns n f0 xs L P E) (kv g : Nat) (w0 w : World) (Ps : List Pr) (h : Grommet.Own w0 w Ps) (hsol : ∀ Q ∈ Ps, Solid Q) (hv : Ps[kv]? = some (viewP g xs L)) :
  Calls Tryz.prog 23 #[.pointer (some ⟨g, 0, none⟩), gv ((1 : Nat) : Int) (I : Int) (B : Int), .int .i64 (n : Int)] w fun e w' => ∃ ad cp, e = .returned (.tuple #[.slice ad (lsE E).length cp, .int .i64 0]) ∧ Grommet.Own w0 w' (Ps ++ [rowP 37 2 (.slice ad (lsE E).length cp) (lsE E).length (eCells (lsE E))]) := by
 have HOp := Lib.hid (fun wx Qs (hx : Grommet.Own w0 wx (Ps ++ Qs)) => openD F kv g w0 wx (Ps ++ Qs) hx (app_old hv))
 have HEn := Lib.hid (fun k (hk : k < 12) XM wx Qs km (hx : Grommet.Own w0 wx (Ps ++ Qs)) (hm : (Ps ++ Qs)[km]? = some (bmP XM g 1 I B n)) => entryD F k hk kv km g XM w0 wx (Ps ++ Qs) hx (app_old hv) hm)
 have Hzero := Lib.hid (fun k (hk : k < 12) (he : (E k).1 = []) => F.no k hk ((F.none_iff hk).1 he))
 have Hsol := Lib.hid hsol
 have hw0 := h.grown.size
 have a1 := h.addBox 23 #[.int .i64 1, .int .i64 (I : Int), .int .i64 (B : Int)]
 obtain ⟨G, eG⟩ : ∃ G, w.heap.size = G := ⟨_, rfl⟩
 obtain ⟨u1, eu1⟩ : ∃ u, w.alloc (.cells #[.int .i64 1, .int .i64 (I : Int), .int .i64 (B : Int)] 23) = u := ⟨_, rfl⟩
 rw [eG, eu1] at a1
 have a2 := a1.addBox 55 #[.slice none 0 0]
 obtain ⟨R, eR⟩ : ∃ G, u1.heap.size = G := ⟨_, rfl⟩
 obtain ⟨u2, eu2⟩ : ∃ u, u1.alloc (.cells #[.slice none 0 0] 55) = u := ⟨_, rfl⟩
 rw [eR, eu2] at a2
 have a3 := a2.addBox 45 #[.int .i64 0]
 obtain ⟨Q, eQ⟩ : ∃ G, u2.heap.size = G := ⟨_, rfl⟩
 obtain ⟨u3, eu3⟩ : ∃ u, u2.alloc (.cells #[.int .i64 0] 45) = u := ⟨_, rfl⟩
 rw [eQ, eu3] at a3
 have nRQ : Q = R + 1 := by rw [← eQ, ← eu2]; simp [eR]
 have Hn := Lib.hid (show R ≠ Q ∧ Q ≠ R by omega)
 simp only [List.append_assoc] at a3
 have hO : Hid (Grommet.Own w0 u3 (Ps ++ [geoB G I B, boxP R 55 #[.slice none 0 0], boxP Q 45 #[.int .i64 0]])) := Lib.hid a3
 obtain ⟨y0, y1, y2⟩ := geo_cells hO.out (app_at 0 rfl)
 clear h a1 a2 a3 hv hsol F nRQ
 unfold gv dirV dirC at *
 refine (callsIn_wide (n := 9)).1 ?_
 refine callsIn_of_wp_marks Tryz.func23 rfl trivial ?_ rfl
 simp only [Tryz.ntmps23, List.size_toArray, List.length_cons, List.length_nil, Nat.reduceAdd, Nat.reduceSub, Array.replicate_succ, Array.replicate_zero, List.push_toArray, List.append_toArray, List.nil_append, List.cons_append]
 gi_wp2_with fail
 all_goals (try rw [eu1]); (try rw [eu2]); (try rw [eu3]); (try rw [eR]); (try rw [eQ]); (try rw [eG])
 gi_wp2_with fail
 refine ⟨trivial, (callsIn_wide.2 (HOp.out _ _ hO.out)).mono ?_⟩
 rintro e w1 ⟨XM, rfl, hO1⟩
 rw [List.append_assoc] at hO1
 have hO2 := hO1.addBox 84 #[.pointer (some ⟨g, 0, none⟩), .int .i64 1, .int .i64 (I : Int), .int .i64 (B : Int), .pointer (some ⟨XM, 0, none⟩)]
 obtain ⟨D, eD⟩ : ∃ X, w1.heap.size = X := ⟨_, rfl⟩
 obtain ⟨w2, ew2⟩ : ∃ w2, w1.alloc (.cells #[.pointer (some ⟨g, 0, none⟩), .int .i64 1, .int .i64 (I : Int), .int .i64 (B : Int), .pointer (some ⟨XM, 0, none⟩)] 84) = w2 := ⟨_, rfl⟩
 rw [eD, ew2, List.append_assoc] at hO2
 have hO3 := hO2.addBox 55 #[.slice none 0 0]
 obtain ⟨V, eV⟩ : ∃ X, w2.heap.size = X := ⟨_, rfl⟩
 obtain ⟨w3, ew3⟩ : ∃ w3, w2.alloc (.cells #[.slice none 0 0] 55) = w3 := ⟨_, rfl⟩
 rw [eV, ew3] at hO3
 have hO4 := hO3.nilRow 37 2
 have hO5 := hO4.addBox 3 #[.int .i64 ((0 : Nat) : Int)]
 obtain ⟨pp, epp⟩ : ∃ X, w3.heap.size = X := ⟨_, rfl⟩
 rw [epp] at hO5
 have hsz3 : w0.heap.size ≤ w3.heap.size := hO3.grown.size
 have hO5 := Lib.hid hO5
 clear hO hO1 hO2 hO3 hO4 HOp y0 y1 y2 eu1 eu2 eu3 eG eR eQ
 gi_wp2_with fail
 all_goals (try rw [ew2]); (try rw [eD]); (try rw [ew3]); (try rw [eV])
 gi_wp2_with fail
 refine ⟨trivial, (callsIn_wide.2 (ePlaces _ 0)).mono ?_⟩
 rintro e w4 ⟨rfl, hw4⟩
 have hO6 : Grommet.Own w0 w4 (LQ Ps G R Q D V g I B n XM (.slice none 0 0) (.slice none 0 0) 0 [] pp) := by
  have h := hO5.out
  rw [show ((0 : Nat) : Int) = 0 from rfl, ← hw4] at h
  simp only [List.append_assoc] at h
  exact h
 have hsz4 : w0.heap.size ≤ w4.heap.size := by rw [hw4]; simp; omega
 rw [epp]
 clear hO5 hw4 epp ew2 eD ew3 eV hsz3
 have hO6 := Lib.hid hO6
 gi_wp2_with fail
 refine' wpIn_range_plainK (α := Fin 12) rfl (by omega) (gf := 97) (lb := #[.pointer (some ⟨pp, 0, none⟩)]) rfl trivial (enters_of Tryz.func97 (by kernel_rfl) rfl) (encs := encE 0)
  (eplaces_plain 8 w4 pp 0 (by decide)) (Below.refl _ _) (fun _ => rfl)
  (LI w0 Ps G R Q D V g I B n XM pp E) (fun _ _ _ => False)
  (fun pre W W' row h hg hr => by
   obtain ⟨ad, cp, h⟩ := h
   exact ⟨ad, cp, own_keep h (LQ_solid Hsol.out _ _ _ _ _ _ _ _ _ _ _ _ _ _ _) hsz4 hg hr⟩)
  (fun _ _ _ _ _ h => h.elim)
  ⟨none, 0, hO6.out⟩ _ (fun pre W h => by
   obtain ⟨ad, cp, h⟩ := h
   exact (LC.of (Rs := []) (by rw [List.append_nil]; exact h)).p0) ?assign ?body ?done ?stop
 case stop => intro _ _ _ _ _ _ h; exact h.elim
 case assign =>
  intro l x W K hK
  unfold encE
  gi_wp2
  exact hK
 case body =>
  rintro l pre ⟨i, hi⟩ W hL hlen lp hbk
  obtain rfl : pre.length = i := hlen
  obtain ⟨ad, cp, hO⟩ := hL
  have hO4 := hO.withObjs (LQ_solid Hsol.out _ _ _ _ _ _ _ _ _ _ _ _ _ _ _) hsz4 hbk.marks rfl hbk.lp rfl
  have hc := LC.of hO4
  obtain ⟨c0, c1, c2, c3, c4⟩ := And.intro hc.d0 (And.intro hc.d1 (And.intro hc.d2 (And.intro hc.d3 hc.d4)))
  obtain ⟨K, hKe⟩ : ∃ K, pl 0 pre.length = K := ⟨_, rfl⟩
  have hK12 : K < 12 := by rw [← hKe]; exact pl_lt _ _
  have hKp : K = pre.length := by rw [← hKe]; unfold pl; omega
  have HE := Lib.hid (HEn.out K hK12 XM W _ (Ps.length + 3) (by rw [← LQ_app]; exact hO4) (app_at 3 rfl))
  simp only [hKe]
  obtain ⟨⟨xn, xm⟩, hx⟩ : ∃ x, E K = x := ⟨_, rfl⟩
  rw [hx, enV_mk] at HE
  obtain ⟨m, hm⟩ : ∃ m, (lsN E pre.length).length = m := ⟨_, rfl⟩
  have hm12 : m ≤ 100 := by have := lsN_len E pre.length; omega
  have Hx := Lib.hid (And.intro hx (And.intro hKp hm))
  have Hz := Lib.hid (Hzero.out K hK12)
  have hO4 := Lib.hid hO4
  clear hO hc hKe hx hKp
  gi_wp2_with fail
  refine ⟨trivial, (callsIn_wide.2 HE.out).mono ?_⟩
  rintro e W1 ⟨rfl, hO5⟩
  rw [← LQ_app, hm] at hO5
  have hO6 := hO5.addBox 37 #[.string (str xn), .int .i64 (xm : Int)]
  obtain ⟨X, eX⟩ : ∃ X, W1.heap.size = X := ⟨_, rfl⟩
  obtain ⟨W2, eW2⟩ : ∃ W2, W1.alloc (.cells #[.string (str xn), .int .i64 (xm : Int)] 37) = W2 := ⟨_, rfl⟩
  rw [eX, eW2, List.append_assoc] at hO6
  have hO6 := Lib.hid hO6
  obtain ⟨z0, z1⟩ : W2.cell? ⟨X, 0, none⟩ = some (.string (str xn)) ∧ W2.cell? ⟨X, 1, none⟩ = some (.int .i64 (xm : Int)) := by
   have h := hO6.out
   rw [← List.append_assoc] at h
   obtain ⟨h0, h1, _⟩ := ebox_cells (v0 := .string (str xn)) (v1 := .int .i64 (xm : Int)) h (app_at 0 rfl)
   exact ⟨h0, h1⟩
  have te : (⟨#[]⟩ : ByteArray).toList = [] := by rw [ByteArray.toList_eq]
  clear hO5 hO4 HE c0 c1 c2 c3 c4
  by_cases hxn : xn = []
  ·as_aux_lemma =>
   have hx0 := Hz.out (by rw [Hx.out.1]; exact hxn)
   rw [Hx.out.1] at hx0
   obtain ⟨rfl, rfl⟩ := Prod.mk.inj hx0
   have hfin : Hid (Book w4.heap.size lp W2 ∧ LI w0 Ps G R Q D V g I B n XM pp E (pre ++ [(⟨pre.length, hi⟩ : Fin 12)]) W2) := Lib.hid (by
    have h := hO6.out
    rw [← List.append_assoc] at h
    obtain ⟨h1, h2⟩ := objs_back h.less
    refine ⟨h1, ad, cp, ?_⟩
    rw [List.length_append, List.length_singleton, lsN_succ, ← Hx.out.2.1, Hx.out.1, if_pos (by rfl), List.append_nil, Hx.out.2.1, Hx.out.2.2]
    exact h2)
   have qs : str ([] : List UInt8) = ⟨#[]⟩ := rfl
   rw [qs] at eW2 ⊢
   rw [show ((0 : Nat) : Int) = 0 from rfl] at eW2 ⊢
   have HW2 := Lib.hid eW2
   clear hO6 hx0 hxn Hz z0 z1 eW2 eX
   gi_wp2_with fail
   all_goals (try rw [HW2.out])
   exact hfin.out
  ·as_aux_lemma =>
   have qs2 : ¬ (str xn).toList = [] := by rw [toList_str]; exact hxn
   have qs3 : (str xn).toList.isEmpty = false := by rw [toList_str]; simpa using hxn
   have qs : ((str xn).toList == []) = false := by rw [toList_str]; simpa using hxn
   have qs4 : ¬ str xn = ⟨#[]⟩ := fun e => qs2 (by rw [e]; exact te)
   have hc := LC.of hO6.out
   obtain ⟨v0, v1⟩ := And.intro hc.v0 hc.v1
   obtain ⟨W3, eW3⟩ : ∃ W3, W2.alloc (.cells #[.string (str xn), .int .i64 (xm : Int)] 37) = W3 := ⟨_, rfl⟩
   have hOq := hO6.out.quiet (World.grownBy_alloc W2 (.cells #[.string (str xn), .int .i64 (xm : Int)] 37) none)
   rw [eW3] at hOq
   have htm : W3.heap[W2.heap.size]? = some (.cells #[.string (str xn), .int .i64 (xm : Int)] 37 (0, 0)) := by rw [← eW3]; exact heap_alloc_new W2 _
   have hrow := LQ_row hOq
   have hgrow := Lib.hid (fun (w' : World) v' n' ys (hr : w'.ownsRow 0 37 2 v' n' ys) hg hb => LQ_grow hOq (v' := v') hr hg hb)
   have hns : Hid (lsN E (pre.length + 1) = lsN E pre.length ++ [(xn, xm)]) := Lib.hid (by
    rw [lsN_succ, ← Hx.out.2.1, Hx.out.1, if_neg (by unfold isNone; simp [hxn])])
   clear hO6 hc hOq Hz hxn
   gi_wp2_with (gi_at_builtin; (try rw [eW2]); (try rw [eX]); (try rw [eW3]); refine wpListIn_appE rfl _ _ rfl (.slice ad m cp) m _ rfl hrow W2.heap.size (str xn) (xm : Int) rfl htm (by omega) ?_)
   intro ad2 cp2 W4 r1 r2 r3
   obtain ⟨⟨q2, q3⟩, q1⟩ := hgrow.out W4 _ _ _ r1 r2 r3
   rw [← List.append_assoc] at q1
   have hb := objs_back q1.less
   have hfin : Hid (Book w4.heap.size lp (W4.setCell ⟨V, 0, none⟩ (.slice ad2 (m + 1) cp2)) ∧ LI w0 Ps G R Q D V g I B n XM pp E (pre ++ [(⟨pre.length, hi⟩ : Fin 12)]) (W4.setCell ⟨V, 0, none⟩ (.slice ad2 (m + 1) cp2))) := Lib.hid ⟨hb.1, ad2, cp2, by
    rw [List.length_append, List.length_singleton, hns.out, List.length_append, List.length_singleton, Hx.out.2.2, eCells_snoc]
    exact hb.2⟩
   clear q1 r1 r2 r3 hb hgrow hrow
   gi_wp2_with fail
   exact hfin.out
 case done =>
  rintro D' ys W hD hys ⟨ad, cp, hO⟩ hK
  subst hys
  rw [List.length_finRange] at hO
  have hOD := hO.withObj' (LQ_solid Hsol.out _ _ _ _ _ _ _ _ _ _ _ _ _ _ _) (by omega) hK rfl
  have hc := LC.of hOD
  obtain ⟨r0, r1, q0, q1, v0, v1⟩ := And.intro hc.r0 (And.intro hc.r1 (And.intro hc.q0 (And.intro hc.q1 (And.intro hc.v0 hc.v1))))
  obtain ⟨n1, n2⟩ := Hn.out
  obtain ⟨wn, hwn, hOn⟩ := LQ_put hOD (.slice ad (lsN E 12).length cp)
  have hKn := Lib.hid (obj_last hOn)
  have hOn := Lib.hid hOn.less
  have hDw := Lib.hid (show w0.heap.size ≤ D' by omega)
  clear hO hOD hc hK
  gi_wp2_with fail
  all_goals (try rw [hwn])
  refine leaves_own (D := D') hOn.out (LQ_solid Hsol.out _ _ _ _ _ _ _ _ _ _ _ _ _ _ _) hDw.out hKn.out ?_
  intro w' hw'
  have hc := LC.of (Rs := []) (by rw [List.append_nil]; exact hw')
  refine ⟨.tuple #[.slice ad (lsN E 12).length cp, .int .i64 0], by simp [results, Tryz.results23, go_sem, hc.r0, hc.q0], ad, cp, rfl, ?_⟩
  unfold LQ at hw'
  have h6 := Own.skip (Own.skip (Own.skip (Own.skip (Own.skip (Own.skip hw')))))
  exact Own.less (Qs := [boxP pp 3 #[.int .i64 0]]) (by rw [List.append_assoc]; exact h6)
end Go.Proofs.YtfljlmmiiccooaaGreatDoor
end
section
namespace Go.Proofs.YtfljlmmiiccooaaGreatDoor
open Go.RowKit Go.Grommet
set_option linter.unusedVariables false
theorem Small_any (x0 x1 : Nat) (w : World) (h0 : x0 ≤ 255) (h1 : x1 ≤ 255) : Calls Tryz.prog 28 #[.int .u8 (x0 : Int), .int .u8 (x1 : Int)] w fun e w' => e = .returned (gv ((1 : Nat) : Int) ((2 + x0 % 20 : Nat) : Int) ((2 + x1 % 60 : Nat) : Int)) ∧ w.grownBy w' none := by
 obtain ⟨I, hI⟩ : ∃ I, 2 + x0 % 20 = I := ⟨_, rfl⟩
 obtain ⟨B, hB⟩ : ∃ B, 2 + x1 % 60 = B := ⟨_, rfl⟩
 have eA : IntKind.i64.wrap (x0 : Int) = (x0 : Int) := IntWalk.i64_in _ ⟨by omega, by omega⟩
 have eA2 : IntKind.i64.wrap (x1 : Int) = (x1 : Int) := IntWalk.i64_in _ ⟨by omega, by omega⟩
 have e3 : IntKind.i64.wrap (2 + (x0 : Int) % 20) = (I : Int) := by rw [IntWalk.i64_in _ ⟨by omega, by omega⟩]; omega
 have e4 : IntKind.i64.wrap (2 + (x1 : Int) % 60) = (B : Int) := by rw [IntWalk.i64_in _ ⟨by omega, by omega⟩]; omega
 have e3' : 2 + (x0 : Int) % 20 = (I : Int) := by omega
 have e4' : 2 + (x1 : Int) % 60 = (B : Int) := by omega
 rw [hI, hB]
 clear hI hB h0 h1
 unfold gv
 go_enter Tryz.func28, Tryz.ntmps28
 go_wp2_with fail
 exact bodyPost_ret (v := .agg #[.int .i64 1, .int .i64 (I : Int), .int .i64 (B : Int)]) (by simp [results, Tryz.results28, go_sem]) rfl ⟨rfl, World.grownBy_alloc w _ none⟩
theorem Bst.begun {I B : Nat} {ns : Nat → Prop} {xs : List Nat} (hm : mayB ((1 : Nat) : Int) (I : Int) (B : Int) = true) (h64 : B ≤ 64) (hl : xs.length = 488 + 16 * I + 8 * B) (hs : ∀ n ∈ xs, n < 18446744073709551616) (hrg : ∀ n, ns n → 1 ≤ n ∧ n < I) (h480 : xs.getD 480 0 = 1) (hz : ∀ n, ns n → ∀ a, 492 + 16 * n ≤ a → a ≤ 496 + 16 * n → xs.getD a 0 = 0)
  (hb : ∀ n, ns n → rightB ((1 : Nat) : Int) (I : Int) (B : Int) (xs.getD (488 + 16 * n) 0) (xs.getD (489 + 16 * n) 0) (xs.getD (490 + 16 * n) 0) (xs.getD (491 + 16 * n) 0) 0 0 0 0 0 (xs.getD (497 + 16 * n) 0) = true) :
  Bst I B ns (gotV xs []) xs [] (fun _ _ => 0) ∧ cntB xs [] B = 1 ∧ Br ns (fun _ _ => 0) := by
 have hmN := mayN hm
 have g : ∀ a, gotV xs [] a = xs.getD a 0 := fun a => rfl
 have hbit : ∀ m, m < 64 → ((1 : Nat).testBit m = true ↔ m = 0) := fun m _ => by
  rw [show (1 : Nat) = 2 ^ 0 from rfl, Nat.testBit_two_pow]
  simp
  exact eq_comm
 refine ⟨⟨hm, h64, hl, hs, Wl.nil _, ⟨hrg, fun n k _ _ => by show 0 < B; omega, fun n n' k k' _ _ _ _ h _ => absurd rfl h, fun _ _ _ _ _ _ => rfl, fun n k hn hk => hz n hn _ (by omega) (by omega), fun n hn => hz n hn _ (by omega) (by omega), fun n k _ h _ _ => absurd rfl h, fun m hm => ?_, fun a _ _ _ => rfl⟩, hb⟩, ?_, fun n _ h => absurd rfl h⟩
 ·rw [g, h480, hbit m hm]
  constructor
  ·exact .inl
  ·rintro (h | ⟨_, _, _, _, h⟩)
   ·exact h
   ·exact h.symm
 ·unfold cntB
  have e : ∀ i, i < B → mbit xs [] (272 + 208 * 1) i = decide (i < 1) := fun i hi => by
   rw [mbit_480 (by omega), g, h480]
   have := hbit i (by omega)
   by_cases h : i = 0
   ·subst h; rfl
   ·rw [show decide (i < 1) = false by simp; omega]
    cases hx : (1 : Nat).testBit i
    ·rfl
    ·exact absurd (this.1 hx) h
  rw [cntF_congr B e]
  have := cntF_clip (fun _ => true) 1 B (by omega)
  simp only [Bool.and_true] at this
  rw [this]; rfl
theorem RFormatH (a b c N : Nat) (xs : List Nat) (w0 w : World) (Ps : List Pr) (h : Grommet.Own w0 w Ps) (hm : mayB (a : Int) (b : Int) (c : Int) = true) (hN : 280 + 208 * a + 16 * b + 8 * c = N) (hxs : fmtL a b c (264 + 208 * a) N = xs) :
  Calls Tryz.prog 29 #[gv (a : Int) (b : Int) (c : Int)] w fun e w' => ∃ q, e = .returned (.slice (some ⟨q, 0, none⟩) N N) ∧ Grommet.Own w0 w' (Ps ++ [rowP 72 1 (.slice (some ⟨q, 0, none⟩) N N) N (xs.map wv)]) := by
 subst hN
 have hl := length_fmtL a b c (264 + 208 * a) (280 + 208 * a + 16 * b + 8 * c)
 rw [hxs] at hl
 have hmN := mayN hm
 refine (RFormat_any a b c w hm).mono ?_
 rintro e w' ⟨q, rfl, hrow, hq, hg⟩
 rw [hxs] at hrow ⊢
 rw [hl]
 refine ⟨q, rfl, h.addRow ⟨by simp [hl], .inr ⟨q, 280 + 208 * a + 16 * b + 8 * c, _, rfl, hq, hrow, Nat.le_refl _, by unfold maxLen; omega, by simp [hl], by rw [List.take_of_length_le (by simp [hl])]⟩⟩ hg⟩
theorem fmt_small' (a b c N : Nat) (hm : mayB (a : Int) (b : Int) (c : Int) = true) : ∀ n ∈ fmtL a b c (264 + 208 * a) N, n < 18446744073709551616 := by
 have := mayN hm
 exact fmtL_lt a b c _ N (by omega) (by omega) (by omega)
theorem fmt_get' (a b c m N i : Nat) (h : i < N) : (fmtL a b c m N).getD i 0 = fmtAt a b c m i := by
 rw [List.getD_eq_getElem?_getD, get_fmtL _ _ _ _ _ _ h]; rfl
theorem fmt_472 (I B N a : Nat) (h : 480 ≤ a) (ha : a < N) : (fmtL 1 I B (264 + 208 * 1) N).getD a 0 = if a = 480 then 1 else if a = 504 then 2 else if a = 505 then 1 else 0 := by
 rw [fmt_get' _ _ _ _ _ _ ha]
 unfold fmtAt
 rw [if_neg (by omega), if_neg (by omega), if_neg (by omega), if_neg (by omega), if_neg (by omega)]
theorem set_getD (xs : List Nat) (i v a : Nat) (hi : i < xs.length) : (xs.set i v).getD a 0 = if a = i then v else xs.getD a 0 := by
 by_cases h : a = i
 ·subst h; rw [if_pos rfl, List.getD_eq_getElem?_getD, List.getElem?_set_self hi]; rfl
 ·rw [if_neg h, List.getD_eq_getElem?_getD, List.getElem?_set_ne (fun e => h e.symm), ← List.getD_eq_getElem?_getD]
end Go.Proofs.YtfljlmmiiccooaaGreatDoor
end
section
namespace Go.Proofs.YtfljlmmiiccooaaGreatDoor
open Go.RowKit Go.Grommet
set_option linter.unusedVariables false
theorem begun_dir {I B N : Nat} (hI : 2 ≤ I) (hI2 : I ≤ 64) (hB : 2 ≤ B) (h64 : B ≤ 61) (hN : 488 + 16 * I + 8 * B = N) :
  Est I B (fun n => n = 1) 1 (gotV (fmtL 1 I B (264 + 208 * 1) N) []) (fmtL 1 I B (264 + 208 * 1) N) [] (fun _ _ => 0) (fun _ => ([], 0)) ∧ cntB (fmtL 1 I B (264 + 208 * 1) N) [] B = 1 := by
 have hm : mayB ((1 : Nat) : Int) (I : Int) (B : Int) = true := by unfold mayB; simp; omega
 have hl : (fmtL 1 I B (264 + 208 * 1) N).length = N := length_fmtL _ _ _ _ _
 obtain ⟨b1, b2, b3⟩ := Bst.begun (I := I) (B := B) (ns := fun n => n = 1) (xs := fmtL 1 I B (264 + 208 * 1) N) hm (by omega) (by rw [hl, hN]) (fmt_small' 1 I B N hm) (fun n hn => by omega) (by rw [fmt_472 _ _ _ _ (by omega) (by omega)]; rfl) (fun n hn a h1 h2 => by
  subst hn
  rw [fmt_472 _ _ _ _ (by omega) (by omega), if_neg (by omega), if_neg (by omega), if_neg (by omega)]) (fun n hn => by
  subst hn
  have e0 : (fmtL 1 I B (264 + 208 * 1) N).getD (488 + 16 * 1) 0 = 2 := by rw [fmt_472 _ _ _ _ (by omega) (by omega)]; rfl
  have e1 : (fmtL 1 I B (264 + 208 * 1) N).getD (489 + 16 * 1) 0 = 1 := by rw [fmt_472 _ _ _ _ (by omega) (by omega)]; rfl
  have e2 : (fmtL 1 I B (264 + 208 * 1) N).getD (490 + 16 * 1) 0 = 0 := by rw [fmt_472 _ _ _ _ (by omega) (by omega)]; rfl
  have e3 : (fmtL 1 I B (264 + 208 * 1) N).getD (491 + 16 * 1) 0 = 0 := by rw [fmt_472 _ _ _ _ (by omega) (by omega)]; rfl
  have e4 : (fmtL 1 I B (264 + 208 * 1) N).getD (497 + 16 * 1) 0 = 0 := by rw [fmt_472 _ _ _ _ (by omega) (by omega)]; rfl
  rw [e0, e1, e2, e3, e4]
  unfold rightB
  rw [decide_eq_true_eq]
  exact ⟨hm, by omega, by omega, by omega, by omega, by omega, by omega, fun _ => by first | rfl | omega, fun _ => by first | rfl | omega, by omega, by omega, by omega, by omega⟩)
 refine ⟨⟨b1, b3, rfl, ?_, fun k hk h0 => rfl, fun k hk h0 => absurd rfl h0⟩, b2⟩
 show (fmtL 1 I B (264 + 208 * 1) N).getD (488 + 16 * 1) 0 = 2
 rw [fmt_472 _ _ _ _ (by omega) (by omega)]; rfl
def eN (E : Nat → List UInt8 × Nat) : Nat := cntF (fun k => !isNone (E k)) 12
theorem lsN_cnt (E : Nat → List UInt8 × Nat) : ∀ j, (lsN E j).length = cntF (fun k => !isNone (E k)) j
 | 0 => rfl
 | j + 1 => by
  rw [lsN_succ, List.length_append, lsN_cnt E j]
  show _ = cntF (fun k => !isNone (E k)) j + (!isNone (E j)).toNat
  congr 1
  cases h : isNone (E j) <;> rfl
theorem lsE_len (E : Nat → List UInt8 × Nat) : (lsE E).length = eN E := lsN_cnt E 12
theorem eN_put {E : Nat → List UInt8 × Nat} {k : Nat} (hk : k < 12) (x : List UInt8 × Nat) : eN (fun j => if j = k then x else E j) + (!isNone (E k)).toNat = eN E + (!isNone x).toNat := by
 have h := cntF_turn (f := fun j => !isNone (E j)) (g := fun j => !isNone (if j = k then x else E j)) (k := k) (fun i hi => by simp [hi]) 12 hk
 simpa [eN] using h
theorem eN_full {E : Nat → List UInt8 × Nat} (h : ∀ k, k < 12 → isNone (E k) = false) : eN E = 12 := by
 unfold eN
 rw [cntF_congr (g := fun _ => true) 12 (fun i hi => by rw [h i hi]; rfl)]
 rfl
theorem eN_room {E : Nat → List UInt8 × Nat} {k : Nat} (hk : k < 12) (h : isNone (E k) = true) : eN E < 12 := by
 have h1 := eN_put (E := E) hk ([97], 1)
 have h2 : eN (fun j => if j = k then ([97], 1) else E j) ≤ 12 := cntF_le _ 12
 rw [h, show isNone ([97], 1) = false from by decide] at h1
 simp at h1
 omega
theorem Est.isNone_iff {I B n : Nat} {ns : Nat → Prop} {f0 : Nat → Nat} {xs : List Nat} {L : List (Nat × Nat)} {P : Nat → Nat → Nat} {E : Nat → List UInt8 × Nat} (F : Est I B ns n f0 xs L P E) {k : Nat} (hk : k < 12) : isNone (E k) = true ↔ P n k = 0 := by
 rw [← F.none_iff hk]
 unfold isNone
 constructor
 ·intro hx; simp at hx; exact hx.1
 ·intro hx
  rw [F.no k hk ((F.none_iff hk).1 hx)]; rfl
structure DS (I B : Nat) (f0 : Nat → Nat) (xs : List Nat) (L : List (Nat × Nat)) (P : Nat → Nat → Nat) (E : Nat → List UInt8 × Nat) : Prop where
 e : Est I B (fun n => n = 1) 1 f0 xs L P E
 cnt : cntB xs L B = 1 + nzc (P 1)
theorem DS.flat {I B : Nat} {f0 : Nat → Nat} {xs : List Nat} {L : List (Nat × Nat)} {P : Nat → Nat → Nat} {E : Nat → List UInt8 × Nat} (h : DS I B f0 xs L P E) : DS I B f0 (flatV xs L) [] P E := ⟨h.e.flat, h.e.st.flat.2.trans h.cnt⟩
theorem DS.dropped {I B k : Nat} {f0 : Nat → Nat} {xs : List Nat} {L L' : List (Nat × Nat)} {P P' : Nat → Nat → Nat} {E : Nat → List UInt8 × Nat} (h : DS I B f0 xs L P E) (hk : k < 12) (D : DropR I B (fun n => n = 1) f0 xs L L' P P' 1 k) : DS I B f0 xs L' P' (fun j => if j = k then ([], 0) else E j) :=
 ⟨h.e.dropped hk D, by have := D.cnt; have := h.cnt; omega⟩
theorem DS.begun {I B N : Nat} (hI : 2 ≤ I) (hI2 : I ≤ 64) (hB : 2 ≤ B) (h64 : B ≤ 61) (hN : 488 + 16 * I + 8 * B = N) : DS I B (gotV (fmtL 1 I B (264 + 208 * 1) N) []) (fmtL 1 I B (264 + 208 * 1) N) [] (fun _ _ => 0) (fun _ => ([], 0)) := by
 obtain ⟨h1, h2⟩ := begun_dir hI hI2 hB h64 hN
 exact ⟨h1, by rw [h2]; rfl⟩
end Go.Proofs.YtfljlmmiiccooaaGreatDoor
end
section
namespace Go.Proofs.YtfljlmmiiccooaaGreatDoor
open Go.RowKit Go.Grommet
set_option linter.unusedVariables false
def strs (T : List (ByteArray × Nat)) : List Value := T.map fun p => .string p.1
def nods (T : List (ByteArray × Nat)) : List Value := T.map fun p => .int .i64 (p.2 : Int)
def strP (ad : Option Addr) (n cp : Nat) (T : List (ByteArray × Nat)) : Pr := rowP 9 1 (.slice ad n cp) n (strs T)
def nodP (ad : Option Addr) (n cp : Nat) (T : List (ByteArray × Nat)) : Pr := rowP 3 1 (.slice ad n cp) n (nods T)
structure Tb (E : Nat → List UInt8 × Nat) (T : List (ByteArray × Nat)) : Prop where
 has : ∀ (i : Nat) (p : ByteArray × Nat), T[i]? = some p → ∃ k, k < 12 ∧ E k = (bytesOf p.1, p.2) ∧ (E k).1 ≠ []
 all : ∀ k, k < 12 → (E k).1 ≠ [] → ∃ (i : Nat) (p : ByteArray × Nat), T[i]? = some p ∧ E k = (bytesOf p.1, p.2)
 uniq : ∀ k k', k < 12 → k' < 12 → (E k).1 = (E k').1 → (E k).1 ≠ [] → k = k'
 nd : ∀ (i j : Nat) (p q : ByteArray × Nat), T[i]? = some p → T[j]? = some q → p.1 = q.1 → i = j
 cnt : eN E = T.length
theorem bytes_inj {a b : ByteArray} (h : bytesOf a = bytesOf b) : a = b := by rw [← str_bytesOf a, ← str_bytesOf b, h]
theorem Tb.none : Tb (fun _ => ([], 0)) [] := ⟨fun i p h => by simp at h, fun _ _ h => absurd rfl h, fun _ _ _ _ _ h => absurd rfl h, fun i j p q h => by simp at h, by decide⟩
theorem Tb.le {E : Nat → List UInt8 × Nat} {T : List (ByteArray × Nat)} (h : Tb E T) : T.length ≤ 12 := by rw [← h.cnt]; exact cntF_le _ 12
theorem Tb.at_ {E : Nat → List UInt8 × Nat} {T : List (ByteArray × Nat)} (h : Tb E T) {i : Nat} {p : ByteArray × Nat} (hp : T[i]? = some p) {k : Nat} (hk : k < 12) (he : (E k).1 = bytesOf p.1) (hne : (E k).1 ≠ []) : E k = (bytesOf p.1, p.2) := by
 obtain ⟨k', h1, h2, h3⟩ := h.has i p hp
 rw [h.uniq k k' hk h1 (by rw [he, h2]) hne]; exact h2
theorem Tb.absent {E : Nat → List UInt8 × Nat} {T : List (ByteArray × Nat)} (h : Tb E T) {s : ByteArray} (hs : bytesOf s ≠ []) (hno : ∀ (i : Nat) (p : ByteArray × Nat), T[i]? = some p → p.1 ≠ s) : ∀ k, k < 12 → (E k).1 ≠ bytesOf s := fun k hk he => by
 obtain ⟨i, p, h1, h2⟩ := h.all k hk (by rw [he]; exact hs)
 exact hno i p h1 (bytes_inj (by rw [h2] at he; exact he))
theorem Tb.add {E : Nat → List UInt8 × Nat} {T : List (ByteArray × Nat)} (h : Tb E T) {s : ByteArray} (hs : bytesOf s ≠ []) (hno : ∀ (i : Nat) (p : ByteArray × Nat), T[i]? = some p → p.1 ≠ s) (m : Nat) {k : Nat} (hk : k < 12) (h0 : isNone (E k) = true) : Tb (fun j => if j = k then (bytesOf s, m) else E j) (T ++ [(s, m)]) := by
 have hE : (E k).1 = [] := by unfold isNone at h0; simp at h0; exact h0.1
 have hab := h.absent hs hno
 have split : ∀ (i : Nat) (p : ByteArray × Nat), (T ++ [(s, m)])[i]? = some p → (T[i]? = some p ∧ i < T.length) ∨ (i = T.length ∧ p = (s, m)) := fun i p hp => by
  by_cases hi : i < T.length
  ·rw [List.getElem?_append_left hi] at hp; exact .inl ⟨hp, hi⟩
  ·have hl := (List.getElem?_eq_some_iff.1 hp).1
   simp at hl
   obtain rfl : i = T.length := by omega
   simp at hp
   exact .inr ⟨rfl, hp.symm⟩
 refine ⟨fun i p hp => ?_, fun q hq hne => ?_, fun q q' hq hq' he hne => ?_, fun i j p q hp hq e => ?_, ?_⟩
 ·rcases split i p hp with ⟨hp, _⟩ | ⟨_, rfl⟩
  ·obtain ⟨q, h1, h2, h3⟩ := h.has i p hp
   have : q ≠ k := fun e => by rw [e] at h3; exact h3 hE
   exact ⟨q, h1, by simp only [if_neg this]; exact h2, by simp only [if_neg this]; exact h3⟩
  ·exact ⟨k, hk, by simp, by simpa using hs⟩
 ·by_cases e : q = k
  ·exact ⟨T.length, (s, m), by simp, by simp [e]⟩
  ·simp only [if_neg e] at hne ⊢
   obtain ⟨i, p, h1, h2⟩ := h.all q hq hne
   exact ⟨i, p, by rw [List.getElem?_append_left (List.getElem?_eq_some_iff.1 h1).1]; exact h1, h2⟩
 ·by_cases e : q = k
  ·by_cases e' : q' = k
   ·omega
   ·simp only [if_pos e, if_neg e'] at he
    exact absurd he.symm (hab q' hq')
  ·by_cases e' : q' = k
   ·simp only [if_neg e, if_pos e'] at he
    exact absurd he (hab q hq)
   ·simp only [if_neg e, if_neg e'] at he hne
    exact h.uniq q q' hq hq' he hne
 ·rcases split i p hp with ⟨hp, _⟩ | ⟨hi, rfl⟩ <;> rcases split j q hq with ⟨hq, _⟩ | ⟨hj, rfl⟩
  ·exact h.nd i j p q hp hq e
  ·exact absurd e (hno i p hp)
  ·exact absurd e.symm (hno j q hq)
  ·omega
 ·have h1 := eN_put (E := E) hk (bytesOf s, m)
  rw [h0, h.cnt, show isNone (bytesOf s, m) = false from by unfold isNone; simp [hs]] at h1
  simp at h1 ⊢
  exact h1
theorem Tb.change {E : Nat → List UInt8 × Nat} {T : List (ByteArray × Nat)} (h : Tb E T) {i : Nat} {p : ByteArray × Nat} (hp : T[i]? = some p) (m : Nat) {k : Nat} (hk : k < 12) (he : (E k).1 = bytesOf p.1) (hs : bytesOf p.1 ≠ []) : Tb (fun j => if j = k then ((E k).1, m) else E j) (T.set i (p.1, m)) := by
 have hil := (List.getElem?_eq_some_iff.1 hp).1
 have nm : ∀ q, (if q = k then ((E k).1, m) else E q).1 = (E q).1 := fun q => by split <;> simp_all
 have split : ∀ (j : Nat) (q : ByteArray × Nat), (T.set i (p.1, m))[j]? = some q → (j ≠ i ∧ T[j]? = some q) ∨ (j = i ∧ q = (p.1, m)) := fun j q hq => by
  by_cases e : i = j
  ·subst e
   rw [List.getElem?_set_self hil] at hq
   exact .inr ⟨rfl, (Option.some.inj hq).symm⟩
  ·rw [List.getElem?_set_ne e] at hq; exact .inl ⟨fun x => e x.symm, hq⟩
 refine ⟨fun j q hq => ?_, fun q hq hne => ?_, fun q q' hq hq' he' hne => ?_, fun j j' q q' hq hq' e => ?_, ?_⟩
 ·rcases split j q hq with ⟨hj, hq⟩ | ⟨_, rfl⟩
  ·obtain ⟨k', h1, h2, h3⟩ := h.has j q hq
   have : k' ≠ k := fun e => by
    refine hj (h.nd j i q p hq hp (bytes_inj ?_))
    rw [e] at h2; rw [h2] at he; exact he
   exact ⟨k', h1, by simp only [if_neg this]; exact h2, by simp only [if_neg this]; exact h3⟩
  ·exact ⟨k, hk, by simp [he], by simp [he, hs]⟩
 ·rw [nm] at hne
  obtain ⟨j, x, h1, h2⟩ := h.all q hq hne
  by_cases e : q = k
  ·subst e
   exact ⟨i, (p.1, m), List.getElem?_set_self hil, by simp [he]⟩
  ·have : i ≠ j := fun e2 => by
    subst e2
    rw [hp] at h1; cases h1
    exact e (h.uniq q k hq hk (by rw [h2, he]) hne)
   exact ⟨j, x, by rw [List.getElem?_set_ne this]; exact h1, by simp only [if_neg e]; exact h2⟩
 ·rw [nm, nm] at he'; rw [nm] at hne
  exact h.uniq q q' hq hq' he' hne
 ·rcases split j q hq with ⟨hj, hq⟩ | ⟨hj, rfl⟩ <;> rcases split j' q' hq' with ⟨hj', hq'⟩ | ⟨hj', rfl⟩
  ·exact h.nd j j' q q' hq hq' e
  ·exact absurd (h.nd j i q p hq hp e) hj
  ·exact absurd (h.nd j' i q' p hq' hp e.symm) hj'
  ·omega
 ·have h1 := eN_put (E := E) hk ((E k).1, m)
  have a1 : isNone (E k) = false := by unfold isNone; rw [he]; simp [hs]
  have a2 : isNone ((E k).1, m) = false := by unfold isNone; rw [he]; simp [hs]
  rw [a1, a2, h.cnt] at h1
  simp at h1 ⊢
  exact h1
theorem get_erase {α : Type} (T : List α) (i j : Nat) : (T.eraseIdx i)[j]? = if j < i then T[j]? else T[j + 1]? := by
 rw [List.getElem?_eraseIdx]
theorem Tb.drop {E : Nat → List UInt8 × Nat} {T : List (ByteArray × Nat)} (h : Tb E T) {i : Nat} {p : ByteArray × Nat} (hp : T[i]? = some p) {k : Nat} (hk : k < 12) (he : (E k).1 = bytesOf p.1) (hs : bytesOf p.1 ≠ []) : Tb (fun j => if j = k then ([], 0) else E j) (T.eraseIdx i) := by
 have hil := (List.getElem?_eq_some_iff.1 hp).1
 have split : ∀ (j : Nat) (q : ByteArray × Nat), (T.eraseIdx i)[j]? = some q → ∃ j', T[j']? = some q ∧ j' ≠ i ∧ j' = if j < i then j else j + 1 := fun j q hq => by
  rw [get_erase] at hq
  by_cases e : j < i
  ·rw [if_pos e] at hq; exact ⟨j, hq, by omega, by rw [if_pos e]⟩
  ·rw [if_neg e] at hq; exact ⟨j + 1, hq, by omega, by rw [if_neg e]⟩
 refine ⟨fun j q hq => ?_, fun q hq hne => ?_, fun q q' hq hq' he' hne => ?_, fun j j' q q' hq hq' e => ?_, ?_⟩
 ·obtain ⟨j', hq, hj, _⟩ := split j q hq
  obtain ⟨k', h1, h2, h3⟩ := h.has j' q hq
  have : k' ≠ k := fun e => by
   refine hj (h.nd j' i q p hq hp (bytes_inj ?_))
   rw [e] at h2; rw [h2] at he; exact he
  exact ⟨k', h1, by simp only [if_neg this]; exact h2, by simp only [if_neg this]; exact h3⟩
 ·by_cases e : q = k
  ·simp only [if_pos e] at hne; exact absurd rfl hne
  ·simp only [if_neg e] at hne ⊢
   obtain ⟨j, x, h1, h2⟩ := h.all q hq hne
   have hji : j ≠ i := fun e2 => by
    subst e2
    rw [hp] at h1; cases h1
    exact e (h.uniq q k hq hk (by rw [h2, he]) hne)
   by_cases hj : j < i
   ·exact ⟨j, x, by rw [get_erase, if_pos hj]; exact h1, h2⟩
   ·exact ⟨j - 1, x, by rw [get_erase, if_neg (by omega), show j - 1 + 1 = j from by omega]; exact h1, h2⟩
 ·by_cases e : q = k
  ·simp only [if_pos e] at hne; exact absurd rfl hne
  ·simp only [if_neg e] at he' hne
   by_cases e' : q' = k
   ·simp only [if_pos e'] at he'; exact absurd he' hne
   ·simp only [if_neg e'] at he'
    exact h.uniq q q' hq hq' he' hne
 ·obtain ⟨a, ha, ha2, ha3⟩ := split j q hq
  obtain ⟨b, hb, hb2, hb3⟩ := split j' q' hq'
  have := h.nd a b q q' ha hb e
  subst this
  rw [ha3] at hb3
  split at hb3 <;> split at hb3 <;> omega
 ·have h1 := eN_put (E := E) hk (([] : List UInt8), 0)
  have a1 : isNone (E k) = false := by unfold isNone; rw [he]; simp [hs]
  rw [a1, h.cnt, show isNone (([] : List UInt8), 0) = true from rfl] at h1
  rw [List.length_eraseIdx, if_pos hil]
  simp at h1 ⊢
  omega
theorem strs_erase (T : List (ByteArray × Nat)) (i : Nat) : strs (T.eraseIdx i) = (strs T).take i ++ (strs T).drop (i + 1) := by
 unfold strs; rw [List.eraseIdx_eq_take_drop_succ, List.map_append, List.map_take, List.map_drop]
theorem nods_erase (T : List (ByteArray × Nat)) (i : Nat) : nods (T.eraseIdx i) = (nods T).take i ++ (nods T).drop (i + 1) := by
 unfold nods; rw [List.eraseIdx_eq_take_drop_succ, List.map_append, List.map_take, List.map_drop]
theorem strs_one (T : List (ByteArray × Nat)) : ∀ u ∈ strs T, u.oneCell' = true := by
 intro u hu
 obtain ⟨p, _, rfl⟩ := List.mem_map.1 hu
 rfl
theorem nods_one (T : List (ByteArray × Nat)) : ∀ u ∈ nods T, u.oneCell' = true := by
 intro u hu
 obtain ⟨p, _, rfl⟩ := List.mem_map.1 hu
 rfl
theorem at_take {w : World} {ad : Option Addr} {xs : List Value} (h : At w ad xs) (i : Nat) : At w ad (xs.take i) := at_prefix (ys := xs.drop i) (by rw [List.take_append_drop]; exact h)
theorem infoStr : (Tryz.prog.info? 9).map (fun i => (i.zero, i.size, i.bytes)) = some (some (.string ⟨#[]⟩), 1, 16) := by kernel_rfl
theorem strs_append {w0 w : World} {Ps : List Pr} (h : Grommet.Own w0 w Ps) (k : Nat) {n cp : Nat} {ad : Option Addr} {ys : List Value} (hk : Ps[k]? = some (rowP 9 1 (.slice ad n cp) n ys)) (ty : TypeId) (a : Addr) (m c : Nat) (news : List Value) (hl : news.length = m) (ha : At w (some a) news) (h1 : ∀ u ∈ news, u.oneCell' = true) (hn : n + m ≤ 100000) :
  ∃ ad2 cp2 w', (Builtin.append_ #[67, 67] ty #[.slice ad n cp, .slice (some a) m c]).run Tryz.prog w = .ok (.slice ad2 (n + m) cp2) w' ∧ Grommet.Own w0 w' (Ps.set k (rowP 9 1 (.slice ad2 (n + m) cp2) (n + m) (ys ++ news))) := by
 obtain ⟨i0, hi0, hz0, hz1, hz2⟩ := info_parts infoStr
 have hr := h.row k hk
 obtain ⟨v', w', r1, r2, r3, r4⟩ := run_append_blk (P := Tryz.prog) w 0 67 ty 9 i0 (.string ⟨#[]⟩) 1 16 Tryz.underlying67 hi0 hz0 hz1 hz2 rfl (by omega) _ n _ hr a m c news (by omega) ha.some h1 (by unfold maxLen; omega) (by omega) (Nat.zero_le _)
 obtain ⟨ad2, cp2, rfl, _⟩ := row_slice r2
 exact ⟨ad2, cp2, w', r1, h.grows k hk r2 r3 r4⟩
theorem nods_append {w0 w : World} {Ps : List Pr} (h : Grommet.Own w0 w Ps) (k : Nat) {n cp : Nat} {ad : Option Addr} {ys : List Value} (hk : Ps[k]? = some (rowP 3 1 (.slice ad n cp) n ys)) (ty : TypeId) (a : Addr) (m c : Nat) (news : List Value) (hl : news.length = m) (ha : At w (some a) news) (h1 : ∀ u ∈ news, u.oneCell' = true) (hn : n + m ≤ 100000) :
  ∃ ad2 cp2 w', (Builtin.append_ #[68, 68] ty #[.slice ad n cp, .slice (some a) m c]).run Tryz.prog w = .ok (.slice ad2 (n + m) cp2) w' ∧ Grommet.Own w0 w' (Ps.set k (rowP 3 1 (.slice ad2 (n + m) cp2) (n + m) (ys ++ news))) := by
 obtain ⟨i0, hi0, hz0, hz1, hz2⟩ := info_parts infoInt
 have hr := h.row k hk
 obtain ⟨v', w', r1, r2, r3, r4⟩ := run_append_blk (P := Tryz.prog) w 0 68 ty 3 i0 (.int .i64 0) 1 8 Tryz.underlying68 hi0 hz0 hz1 hz2 rfl (by omega) _ n _ hr a m c news (by omega) ha.some h1 (by unfold maxLen; omega) (by omega) (Nat.zero_le _)
 obtain ⟨ad2, cp2, rfl, _⟩ := row_slice r2
 exact ⟨ad2, cp2, w', r1, h.grows k hk r2 r3 r4⟩
theorem own_empty {w0 w : World} {Ps : List Pr} (h : Grommet.Own w0 w Ps) (e : TypeId) : Grommet.Own w0 (w.alloc (.cells #[] e)) (Ps ++ [rowP e 1 (.slice (some ⟨w.heap.size, 0, none⟩) 0 0) 0 []]) :=
 h.addRow ⟨rfl, .inr ⟨_, 0, #[], rfl, Nat.le_refl _, heap_alloc_new w _, Nat.le_refl _, by decide, rfl, rfl⟩⟩ (World.grownBy_alloc w _ none)
end Go.Proofs.YtfljlmmiiccooaaGreatDoor
end
section
namespace Go.Proofs.YtfljlmmiiccooaaGreatDoor
open Go.RowKit Go.Grommet
set_option linter.unusedVariables false
structure DT (B : Nat) (f0 : Nat → Nat) (xs : List Nat) (L : List (Nat × Nat)) (T : List (ByteArray × Nat)) (n : Nat) : Prop where
 ex : ∃ P E, DS 21 B f0 xs L P E ∧ Tb E T
 len : T.length = n
theorem DT.le {B n : Nat} {f0 : Nat → Nat} {xs : List Nat} {L : List (Nat × Nat)} {T : List (ByteArray × Nat)} (h : DT B f0 xs L T n) : n ≤ 12 := by
 obtain ⟨P, E, h1, h2⟩ := h.ex
 rw [← h.len]; exact h2.le
theorem DT.flat {B n : Nat} {f0 : Nat → Nat} {xs : List Nat} {L : List (Nat × Nat)} {T : List (ByteArray × Nat)} (h : DT B f0 xs L T n) : DT B f0 (flatV xs L) [] T n := by
 obtain ⟨P, E, h1, h2⟩ := h.ex
 exact ⟨⟨P, E, h1.flat, h2⟩, h.len⟩
theorem DT.small {B n : Nat} {f0 : Nat → Nat} {xs : List Nat} {L : List (Nat × Nat)} {T : List (ByteArray × Nat)} (h : DT B f0 xs L T n) : (∀ n ∈ xs, n < 18446744073709551616) ∧ xs.length = 488 + 16 * 21 + 8 * B := by
 obtain ⟨P, E, h1, h2⟩ := h.ex
 exact ⟨h1.e.st.small, h1.e.st.len⟩
theorem ok_ne {s : ByteArray} (h : okName s = true) : bytesOf s ≠ [] := okName_ne h
theorem DT.ok {B n : Nat} {f0 : Nat → Nat} {xs : List Nat} {L : List (Nat × Nat)} {T : List (ByteArray × Nat)} (h : DT B f0 xs L T n) {i : Nat} {p : ByteArray × Nat} (hp : T[i]? = some p) : okName p.1 = true := by
 obtain ⟨P, E, h1, h2⟩ := h.ex
 obtain ⟨k, hk, he, hne⟩ := h2.has i p hp
 have := (h1.e.yes k hk (fun h0 => hne (by rw [h1.e.no k hk h0]))).2.2.2.1
 rw [he, str_bytesOf] at this
 exact this
def DL (T : List (ByteArray × Nat)) (s : ByteArray) (a : Int) : Prop := (a = -1 ∧ ∀ (i : Nat) (p : ByteArray × Nat), T[i]? = some p → p.1 ≠ s) ∨ ∃ (i : Nat) (p : ByteArray × Nat), a = (i : Int) ∧ T[i]? = some p ∧ p.1 = s
def DLs (T : List (ByteArray × Nat)) (s : ByteArray) (j : Nat) (a : Int) : Prop := (a = -1 ∧ ∀ (i : Nat) (p : ByteArray × Nat), i < j → T[i]? = some p → p.1 ≠ s) ∨ ∃ (i : Nat) (p : ByteArray × Nat), a = (i : Int) ∧ T[i]? = some p ∧ p.1 = s
theorem DLs.none (T : List (ByteArray × Nat)) (s : ByteArray) : DLs T s 0 (-1) := .inl ⟨rfl, fun i p hi => by omega⟩
theorem DLs.yes {T : List (ByteArray × Nat)} {s : ByteArray} {j : Nat} {p : ByteArray × Nat} (hp : T[j]? = some p) (he : p.1 = s) : DLs T s (j + 1) (j : Int) := .inr ⟨j, p, rfl, hp, he⟩
theorem DLs.next {T : List (ByteArray × Nat)} {s : ByteArray} {j : Nat} {a : Int} {p : ByteArray × Nat} (h : DLs T s j a) (hp : T[j]? = some p) (he : p.1 ≠ s) : DLs T s (j + 1) a := by
 rcases h with ⟨h1, h2⟩ | h
 ·refine .inl ⟨h1, fun i q hi hq => ?_⟩
  by_cases e : i = j
  ·subst e; rw [hp] at hq; cases hq; exact he
  ·exact h2 i q (by omega) hq
 ·exact .inr h
theorem DLs.done {T : List (ByteArray × Nat)} {s : ByteArray} {a : Int} {n : Nat} (h : DLs T s n a) (hn : T.length = n) : DL T s a := by
 rcases h with ⟨h1, h2⟩ | h
 ·exact .inl ⟨h1, fun i q hq => h2 i q (by have := (List.getElem?_eq_some_iff.1 hq).1; omega) hq⟩
 ·exact .inr h
section
variable {B n : Nat} {f0 : Nat → Nat} {xs : List Nat} {L : List (Nat × Nat)} {T : List (ByteArray × Nat)}
theorem FindHas (D : DT B f0 xs L T n) {i : Nat} {p : ByteArray × Nat} (hp : T[i]? = some p) (hss : p.1.size ≤ 1048576) (kv g : Nat) (w0 w : World) (Ps : List Pr) (h : Grommet.Own w0 w Ps) (hsol : ∀ Q ∈ Ps, Solid Q) (hv : Ps[kv]? = some (viewP g xs L)) :
  Calls Tryz.prog 15 #[.pointer (some ⟨g, 0, none⟩), gv ((1 : Nat) : Int) ((21 : Nat) : Int) (B : Int), .int .i64 ((1 : Nat) : Int), .string p.1] w fun e w' => ∃ kk : Nat, kk < 12 ∧ e = .returned (.tuple #[.agg #[.string p.1, .int .i64 (p.2 : Int)], .int .i64 (kk : Int), .int .i64 0]) ∧ Grommet.Own w0 w' Ps := by
 have hok := D.ok hp
 obtain ⟨P, E, h1, h2⟩ := D.ex
 refine (FindE h1.e p.1 hss kv g w0 w Ps h hsol hv).mono ?_
 rintro e w' ⟨x, kk, en, rfl, hf, hO⟩
 rcases hf with ⟨h3, _⟩ | ⟨_, ⟨k, hk, rfl, rfl, he⟩, rfl⟩ | ⟨_, h3, _⟩
 ·rw [hok] at h3; cases h3
 ·refine ⟨k, hk, ?_, hO⟩
  have := h2.at_ hp hk he (by rw [he]; exact ok_ne hok)
  rw [this, enV_mk, str_bytesOf]
 ·obtain ⟨k, hk, he, _⟩ := h2.has i p hp
  exact absurd (by rw [he]) (h3 k hk)
theorem FindNot (D : DT B f0 xs L T n) (s : ByteArray) (hno : ∀ (i : Nat) (p : ByteArray × Nat), T[i]? = some p → p.1 ≠ s) (hss : s.size ≤ 1048576) (kv g : Nat) (w0 w : World) (Ps : List Pr) (h : Grommet.Own w0 w Ps) (hsol : ∀ Q ∈ Ps, Solid Q) (hv : Ps[kv]? = some (viewP g xs L)) :
  Calls Tryz.prog 15 #[.pointer (some ⟨g, 0, none⟩), gv ((1 : Nat) : Int) ((21 : Nat) : Int) (B : Int), .int .i64 ((1 : Nat) : Int), .string s] w fun e w' => ∃ en : Int, en ≠ 0 ∧ ((en == 13) = !okName s) ∧ e = .returned (.tuple #[.agg #[.string ⟨#[]⟩, .int .i64 0], .int .i64 0, .int .i64 en]) ∧ Grommet.Own w0 w' Ps := by
 obtain ⟨P, E, h1, h2⟩ := D.ex
 refine (FindE h1.e s hss kv g w0 w Ps h hsol hv).mono ?_
 rintro e w' ⟨x, kk, en, rfl, hf, hO⟩
 rcases hf with ⟨h3, rfl, rfl, rfl⟩ | ⟨h3, ⟨k, hk, rfl, rfl, he⟩, rfl⟩ | ⟨h3, _, rfl, rfl, rfl⟩
 ·exact ⟨13, by decide, by rw [h3]; rfl, rfl, hO⟩
 ·exact absurd he (h2.absent (ok_ne h3) hno k hk)
 ·exact ⟨6, by decide, by rw [h3]; rfl, rfl, hO⟩
theorem AddHas (D : DT B f0 xs L T n) (hl : L.length ≤ 60) {i : Nat} {p : ByteArray × Nat} (hp : T[i]? = some p) (hss : p.1.size ≤ 1048576) (m : Nat) (h1 : 1 ≤ m) (hm : m < 21) (kv g : Nat) (w0 w : World) (htab : Lib.TabIs Tryz.prog w0 "math/bits.deBruijn64tab" .u8 tab) (Ps : List Pr) (h : Grommet.Own w0 w Ps) (hsol : ∀ Q ∈ Ps, Solid Q) (hv : Ps[kv]? = some (viewP g xs L)) :
  Calls Tryz.prog 17 #[.pointer (some ⟨g, 0, none⟩), gv ((1 : Nat) : Int) ((21 : Nat) : Int) (B : Int), .int .i64 ((1 : Nat) : Int), .agg #[.string p.1, .int .i64 (m : Int)]] w fun e w' => e = .returned (.int .i64 9) ∧ Grommet.Own w0 w' Ps := by
 have hok := D.ok hp
 obtain ⟨P, E, e1, e2⟩ := D.ex
 refine (AddE e1.e hl p.1 hss m h1 hm kv g w0 w htab Ps h hsol hv).mono ?_
 rintro e w' (⟨h3, _⟩ | ⟨_, _, rfl, hO⟩ | ⟨_, h3, _⟩)
 ·rw [hok] at h3; cases h3
 ·exact ⟨rfl, hO⟩
 ·obtain ⟨k, hk, he, _⟩ := e2.has i p hp
  exact absurd (by rw [he]) (h3 k hk)
theorem AddNot (D : DT B f0 xs L T n) (hl : L.length ≤ 60) (s : ByteArray) (hno : ∀ (i : Nat) (p : ByteArray × Nat), T[i]? = some p → p.1 ≠ s) (hss : s.size ≤ 1048576) (m : Nat) (h1 : 1 ≤ m) (hm : m < 21) (kv g : Nat) (w0 w : World) (htab : Lib.TabIs Tryz.prog w0 "math/bits.deBruijn64tab" .u8 tab) (Ps : List Pr) (h : Grommet.Own w0 w Ps) (hsol : ∀ Q ∈ Ps, Solid Q) (hv : Ps[kv]? = some (viewP g xs L)) :
  Calls Tryz.prog 17 #[.pointer (some ⟨g, 0, none⟩), gv ((1 : Nat) : Int) ((21 : Nat) : Int) (B : Int), .int .i64 ((1 : Nat) : Int), .agg #[.string s, .int .i64 (m : Int)]] w fun e w' =>
   (e = .returned (.int .i64 13) ∧ okName s = false ∧ Grommet.Own w0 w' Ps) ∨ (e = .returned (.int .i64 16) ∧ okName s = true ∧ n = 12 ∧ Grommet.Own w0 w' Ps) ∨ (e = .returned (.int .i64 7) ∧ okName s = true ∧ Grommet.Own w0 w' Ps) ∨
   (∃ L', e = .returned (.int .i64 0) ∧ okName s = true ∧ n < 12 ∧ DT B f0 xs L' (T ++ [(s, m)]) (n + 1) ∧ Grommet.Own w0 w' (Ps.set kv (viewP g xs L'))) := by
 have hn := D.len
 obtain ⟨P, E, e1, e2⟩ := D.ex
 refine (AddE e1.e hl s hss m h1 hm kv g w0 w htab Ps h hsol hv).mono ?_
 rintro e w' (⟨h3, rfl, hO⟩ | ⟨h3, ⟨k, hk, he⟩, _, _⟩ | ⟨h3, _, ⟨rfl, h5, hO⟩ | ⟨k, h5, h6, h7, rfl, hO⟩ | ⟨k, L', P', h5, h6, rfl, h8, h9, h10, h11, h12, hO⟩⟩)
 ·exact .inl ⟨rfl, h3, hO⟩
 ·exact absurd he (e2.absent (ok_ne h3) hno k hk)
 ·refine .inr (.inl ⟨rfl, h3, ?_, hO⟩)
  rw [← hn, ← e2.cnt]
  exact eN_full (fun k hk => by
   cases hh : isNone (E k) with
   | false => rfl
   | true => exact absurd ((e1.e.isNone_iff hk).1 hh) (h5 k hk))
 ·exact .inr (.inr (.inl ⟨rfl, h3, hO⟩))
 ·have hz := (e1.e.isNone_iff h5).2 h6
  refine .inr (.inr (.inr ⟨L', rfl, h3, ?_, ⟨⟨P', _, ⟨h8, ?_⟩, e2.add (ok_ne h3) hno m h5 hz⟩, by simp [hn]⟩, hO⟩))
  ·rw [← hn, ← e2.cnt]; exact eN_room h5 hz
  ·have := e1.cnt; omega
theorem ChangeHas (D : DT B f0 xs L T n) (hl : L.length ≤ 60) {i : Nat} {p : ByteArray × Nat} (hp : T[i]? = some p) (hss : p.1.size ≤ 1048576) (m : Nat) (h1 : 1 ≤ m) (hm : m < 21) (kv g : Nat) (w0 w : World) (Ps : List Pr) (h : Grommet.Own w0 w Ps) (hsol : ∀ Q ∈ Ps, Solid Q) (hv : Ps[kv]? = some (viewP g xs L)) :
  Calls Tryz.prog 19 #[.pointer (some ⟨g, 0, none⟩), gv ((1 : Nat) : Int) ((21 : Nat) : Int) (B : Int), .int .i64 ((1 : Nat) : Int), .agg #[.string p.1, .int .i64 (m : Int)]] w fun e w' => ∃ L', e = .returned (.int .i64 0) ∧ DT B f0 xs L' (T.set i (p.1, m)) n ∧ Grommet.Own w0 w' (Ps.set kv (viewP g xs L')) := by
 have hok := D.ok hp
 have hn := D.len
 obtain ⟨P, E, e1, e2⟩ := D.ex
 refine (ChangeE e1.e hl p.1 hss m h1 hm kv g w0 w Ps h hsol hv).mono ?_
 rintro e w' (⟨h3, _⟩ | ⟨_, h3, _⟩ | ⟨_, k, L', h4, h5, rfl, h6, h7, h8, hO⟩)
 ·rw [hok] at h3; cases h3
 ·obtain ⟨k, hk, he, _⟩ := e2.has i p hp
  exact absurd (by rw [he]) (h3 k hk)
 ·exact ⟨L', rfl, ⟨⟨P, _, ⟨h6, by have := e1.cnt; omega⟩, e2.change hp m h4 h5 (ok_ne hok)⟩, by simp [hn]⟩, hO⟩
theorem ChangeNot (D : DT B f0 xs L T n) (hl : L.length ≤ 60) (s : ByteArray) (hno : ∀ (i : Nat) (p : ByteArray × Nat), T[i]? = some p → p.1 ≠ s) (hss : s.size ≤ 1048576) (m : Nat) (h1 : 1 ≤ m) (hm : m < 21) (kv g : Nat) (w0 w : World) (Ps : List Pr) (h : Grommet.Own w0 w Ps) (hsol : ∀ Q ∈ Ps, Solid Q) (hv : Ps[kv]? = some (viewP g xs L)) :
  Calls Tryz.prog 19 #[.pointer (some ⟨g, 0, none⟩), gv ((1 : Nat) : Int) ((21 : Nat) : Int) (B : Int), .int .i64 ((1 : Nat) : Int), .agg #[.string s, .int .i64 (m : Int)]] w fun e w' => ∃ en : Int, en ≠ 0 ∧ ((en == 13) = !okName s) ∧ e = .returned (.int .i64 en) ∧ Grommet.Own w0 w' Ps := by
 obtain ⟨P, E, e1, e2⟩ := D.ex
 refine (ChangeE e1.e hl s hss m h1 hm kv g w0 w Ps h hsol hv).mono ?_
 rintro e w' (⟨h3, rfl, hO⟩ | ⟨h3, _, rfl, hO⟩ | ⟨h3, k, L', h4, h5, _⟩)
 ·exact ⟨13, by decide, by rw [h3]; rfl, rfl, hO⟩
 ·exact ⟨6, by decide, by rw [h3]; rfl, rfl, hO⟩
 ·exact absurd h5 (e2.absent (ok_ne h3) hno k h4)
theorem RemoveHas (D : DT B f0 xs L T n) (hl : L.length ≤ 60) {i : Nat} {p : ByteArray × Nat} (hp : T[i]? = some p) (hss : p.1.size ≤ 1048576) (kv g : Nat) (w0 w : World) (Ps : List Pr) (h : Grommet.Own w0 w Ps) (hsol : ∀ Q ∈ Ps, Solid Q) (hv : Ps[kv]? = some (viewP g xs L)) :
  Calls Tryz.prog 21 #[.pointer (some ⟨g, 0, none⟩), gv ((1 : Nat) : Int) ((21 : Nat) : Int) (B : Int), .int .i64 ((1 : Nat) : Int), .string p.1] w fun e w' => ∃ L', e = .returned (.int .i64 0) ∧ DT B f0 xs L' (T.eraseIdx i) (n - 1) ∧ Grommet.Own w0 w' (Ps.set kv (viewP g xs L')) := by
 have hok := D.ok hp
 have hn := D.len
 have hil := (List.getElem?_eq_some_iff.1 hp).1
 obtain ⟨P, E, e1, e2⟩ := D.ex
 refine (RemoveE e1.e (by omega) p.1 hss kv g w0 w Ps h hsol hv).mono ?_
 rintro e w' (⟨h3, _⟩ | ⟨_, h3, _⟩ | ⟨_, k, L', P', h4, h5, rfl, h6, hO⟩)
 ·rw [hok] at h3; cases h3
 ·obtain ⟨k, hk, he, _⟩ := e2.has i p hp
  exact absurd (by rw [he]) (h3 k hk)
 ·exact ⟨L', rfl, ⟨⟨P', _, e1.dropped h4 h6, e2.drop hp h4 h5 (ok_ne hok)⟩, by rw [List.length_eraseIdx, if_pos hil, hn]⟩, hO⟩
theorem RemoveNot (D : DT B f0 xs L T n) (hl : L.length ≤ 60) (s : ByteArray) (hno : ∀ (i : Nat) (p : ByteArray × Nat), T[i]? = some p → p.1 ≠ s) (hss : s.size ≤ 1048576) (kv g : Nat) (w0 w : World) (Ps : List Pr) (h : Grommet.Own w0 w Ps) (hsol : ∀ Q ∈ Ps, Solid Q) (hv : Ps[kv]? = some (viewP g xs L)) :
  Calls Tryz.prog 21 #[.pointer (some ⟨g, 0, none⟩), gv ((1 : Nat) : Int) ((21 : Nat) : Int) (B : Int), .int .i64 ((1 : Nat) : Int), .string s] w fun e w' => ∃ en : Int, en ≠ 0 ∧ ((en == 13) = !okName s) ∧ e = .returned (.int .i64 en) ∧ Grommet.Own w0 w' Ps := by
 obtain ⟨P, E, e1, e2⟩ := D.ex
 refine (RemoveE e1.e (by omega) s hss kv g w0 w Ps h hsol hv).mono ?_
 rintro e w' (⟨h3, rfl, hO⟩ | ⟨h3, _, rfl, hO⟩ | ⟨h3, k, L', P', h4, h5, _⟩)
 ·exact ⟨13, by decide, by rw [h3]; rfl, rfl, hO⟩
 ·exact ⟨6, by decide, by rw [h3]; rfl, rfl, hO⟩
 ·exact absurd h5 (e2.absent (ok_ne h3) hno k h4)
theorem ListT (D : DT B f0 xs L T n) (kv g : Nat) (w0 w : World) (Ps : List Pr) (h : Grommet.Own w0 w Ps) (hsol : ∀ Q ∈ Ps, Solid Q) (hv : Ps[kv]? = some (viewP g xs L)) :
  Calls Tryz.prog 23 #[.pointer (some ⟨g, 0, none⟩), gv ((1 : Nat) : Int) ((21 : Nat) : Int) (B : Int), .int .i64 ((1 : Nat) : Int)] w fun e w' => ∃ ad cp, e = .returned (.tuple #[.slice ad n cp, .int .i64 0]) ∧ Grommet.Own w0 w' Ps := by
 obtain ⟨P, E, e1, e2⟩ := D.ex
 refine (ListE e1.e kv g w0 w Ps h hsol hv).mono ?_
 rintro e w' ⟨ad, cp, rfl, hO⟩
 rw [lsE_len, e2.cnt, D.len] at hO ⊢
 exact ⟨ad, cp, rfl, hO.less⟩
end
theorem wpList_append_run {P : Program} {w w' : World} {ops : Array Oper} {rest : List Oper} {o : Oper} {a : Act} {Q : Exit → Act → World → Prop} (hgd : o.guard = none) (s x : Operand) (t : TypeId)
  (ho : o.op = .call { callee := .builtin .append, args := #[s, x], argTypes := #[t, t] }) (v vs vx : Value) (hs : a.eval s = vs) (hx : a.eval x = vx) (hr : (Builtin.append_ #[t, t] o.type #[vs, vx]).run P w = .ok v w')
  (h : wpList P ops Q rest (a.put o.dst v) w') : wpList P ops Q (o :: rest) a w := by
 refine wpList_plain hgd fun K hK => ?_
 unfold Oper.wp execOp
 simp only [ho, resolve, invoke, builtin, Sem.run_bind, Sem.run_pure, Result.andThen_ok, List.map_toArray, List.map_cons, List.map_nil, hs, hx, hr]
 exact hK _ _ h
theorem set_last {Ps : List Pr} {Q R : Pr} : (Ps ++ [Q]).set Ps.length R = Ps ++ [R] := by
 rw [List.set_append_right _ _ (Nat.le_refl _)]; simp
theorem strs_cut {w0 w : World} {Ps : List Pr} (h : Grommet.Own w0 w Ps) (k : Nat) {b n cp : Nat} {T : List (ByteArray × Nat)} (hk : Ps[k]? = some (strP (some ⟨b, 0, none⟩) n cp T)) (hn : T.length = n) (i : Nat) (hi : i < n) (h12 : n ≤ 12) (t1 t2 : TypeId) :
  ∃ ad' a1 c1 w1 a2 c2 w2, (∀ wx, (Instr.slice 67 (.slice (some ⟨b, 0, none⟩) n cp) none (some (.int .i64 (i : Int))) none).run Tryz.prog wx = .ok (.slice (some ⟨b, 0, none⟩) i cp) wx) ∧
   (∀ wx, (Instr.slice 67 (.slice (some ⟨b, 0, none⟩) n cp) (some (.int .i64 ((i + 1 : Nat) : Int))) none none).run Tryz.prog wx = .ok (.slice (some ad') (n - (i + 1)) (cp - (i + 1))) wx) ∧
   (Builtin.append_ #[67, 67] t1 #[.slice (some ⟨w.heap.size, 0, none⟩) 0 0, .slice (some ⟨b, 0, none⟩) i cp]).run Tryz.prog (w.alloc (.cells #[] 9)) = .ok (.slice a1 i c1) w1 ∧
   (Builtin.append_ #[67, 67] t2 #[.slice a1 i c1, .slice (some ad') (n - (i + 1)) (cp - (i + 1))]).run Tryz.prog w1 = .ok (.slice a2 (n - 1) c2) w2 ∧ Grommet.Own w0 w2 (Ps ++ [strP a2 (n - 1) c2 (T.eraseIdx i)]) := by
 have hkl := (List.getElem?_eq_some_iff.1 hk).1
 have hr := h.row k hk
 obtain ⟨_, cp', he, _, _, hcp⟩ := row_slice hr
 cases he
 have hsl : (strs T).length = n := by simp [strs, hn]
 obtain ⟨ad', s1, s2, s3, s4⟩ := slice_from (P := Tryz.prog) 67 9 Tryz.underlying67 Tryz.sizeOf9 (some ⟨b, 0, none⟩) n cp (i + 1) (by omega)
 obtain ⟨ad', rfl⟩ : ∃ y, ad' = some y := by
  cases ad' with
  | none => exact absurd (s4 rfl) (by simp)
  | some y => exact ⟨y, rfl⟩
 have hO1 := own_empty h 9
 have hat1 : At (w.alloc (.cells #[] 9)) (some ⟨b, 0, none⟩) (strs T) := by
  obtain ⟨_, _, he, hat, _⟩ := row_slice (hO1.row k (app_old hk))
  cases he; exact hat
 obtain ⟨a1, c1, w1, r1, hO2⟩ := strs_append hO1 Ps.length (app_at 0 rfl) t1 ⟨b, 0, none⟩ i cp ((strs T).take i) (by rw [List.length_take]; omega) (at_take hat1 i) (fun u hu => strs_one T u (List.mem_of_mem_take hu)) (by omega)
 rw [set_last, Nat.zero_add, List.nil_append] at hO2
 rw [Nat.zero_add] at r1
 have hat2 : At w1 (some ⟨b, 0, none⟩) (strs T) := by
  obtain ⟨_, _, he, hat, _⟩ := row_slice (hO2.row k (app_old hk))
  cases he; exact hat
 obtain ⟨a2, c2, w2, r2, hO3⟩ := strs_append hO2 Ps.length (app_at 0 rfl) t2 ad' (n - (i + 1)) (cp - (i + 1)) ((strs T).drop (i + 1)) (by rw [List.length_drop]; omega) (s2 w1 _ hat2 hsl hcp) (fun u hu => strs_one T u (List.mem_of_mem_drop hu)) (by omega)
 rw [set_last, show i + (n - (i + 1)) = n - 1 from by omega, ← strs_erase] at hO3
 rw [show i + (n - (i + 1)) = n - 1 from by omega] at r2
 exact ⟨ad', a1, c1, w1, a2, c2, w2, fun wx => slice_to (P := Tryz.prog) 67 9 Tryz.underlying67 1 Tryz.sizeOf9 (some ⟨b, 0, none⟩) n cp i (by omega) (fun a h => by cases h; rfl) wx, s1, r1, r2, hO3⟩
theorem nods_cut {w0 w : World} {Ps : List Pr} (h : Grommet.Own w0 w Ps) (k : Nat) {b n cp : Nat} {T : List (ByteArray × Nat)} (hk : Ps[k]? = some (nodP (some ⟨b, 0, none⟩) n cp T)) (hn : T.length = n) (i : Nat) (hi : i < n) (h12 : n ≤ 12) (t1 t2 : TypeId) :
  ∃ ad' a1 c1 w1 a2 c2 w2, (∀ wx, (Instr.slice 68 (.slice (some ⟨b, 0, none⟩) n cp) none (some (.int .i64 (i : Int))) none).run Tryz.prog wx = .ok (.slice (some ⟨b, 0, none⟩) i cp) wx) ∧
   (∀ wx, (Instr.slice 68 (.slice (some ⟨b, 0, none⟩) n cp) (some (.int .i64 ((i + 1 : Nat) : Int))) none none).run Tryz.prog wx = .ok (.slice (some ad') (n - (i + 1)) (cp - (i + 1))) wx) ∧
   (Builtin.append_ #[68, 68] t1 #[.slice (some ⟨w.heap.size, 0, none⟩) 0 0, .slice (some ⟨b, 0, none⟩) i cp]).run Tryz.prog (w.alloc (.cells #[] 3)) = .ok (.slice a1 i c1) w1 ∧
   (Builtin.append_ #[68, 68] t2 #[.slice a1 i c1, .slice (some ad') (n - (i + 1)) (cp - (i + 1))]).run Tryz.prog w1 = .ok (.slice a2 (n - 1) c2) w2 ∧ Grommet.Own w0 w2 (Ps ++ [nodP a2 (n - 1) c2 (T.eraseIdx i)]) := by
 have hkl := (List.getElem?_eq_some_iff.1 hk).1
 have hr := h.row k hk
 obtain ⟨_, cp', he, _, _, hcp⟩ := row_slice hr
 cases he
 have hsl : (nods T).length = n := by simp [nods, hn]
 obtain ⟨ad', s1, s2, s3, s4⟩ := slice_from (P := Tryz.prog) 68 3 Tryz.underlying68 Tryz.sizeOf3 (some ⟨b, 0, none⟩) n cp (i + 1) (by omega)
 obtain ⟨ad', rfl⟩ : ∃ y, ad' = some y := by
  cases ad' with
  | none => exact absurd (s4 rfl) (by simp)
  | some y => exact ⟨y, rfl⟩
 have hO1 := own_empty h 3
 have hat1 : At (w.alloc (.cells #[] 3)) (some ⟨b, 0, none⟩) (nods T) := by
  obtain ⟨_, _, he, hat, _⟩ := row_slice (hO1.row k (app_old hk))
  cases he; exact hat
 obtain ⟨a1, c1, w1, r1, hO2⟩ := nods_append hO1 Ps.length (app_at 0 rfl) t1 ⟨b, 0, none⟩ i cp ((nods T).take i) (by rw [List.length_take]; omega) (at_take hat1 i) (fun u hu => nods_one T u (List.mem_of_mem_take hu)) (by omega)
 rw [set_last, Nat.zero_add, List.nil_append] at hO2
 rw [Nat.zero_add] at r1
 have hat2 : At w1 (some ⟨b, 0, none⟩) (nods T) := by
  obtain ⟨_, _, he, hat, _⟩ := row_slice (hO2.row k (app_old hk))
  cases he; exact hat
 obtain ⟨a2, c2, w2, r2, hO3⟩ := nods_append hO2 Ps.length (app_at 0 rfl) t2 ad' (n - (i + 1)) (cp - (i + 1)) ((nods T).drop (i + 1)) (by rw [List.length_drop]; omega) (s2 w1 _ hat2 hsl hcp) (fun u hu => nods_one T u (List.mem_of_mem_drop hu)) (by omega)
 rw [set_last, show i + (n - (i + 1)) = n - 1 from by omega, ← nods_erase] at hO3
 rw [show i + (n - (i + 1)) = n - 1 from by omega] at r2
 exact ⟨ad', a1, c1, w1, a2, c2, w2, fun wx => slice_to (P := Tryz.prog) 68 3 Tryz.underlying68 1 Tryz.sizeOf3 (some ⟨b, 0, none⟩) n cp i (by omega) (fun a h => by cases h; rfl) wx, s1, r1, r2, hO3⟩
theorem strs_put {w0 w : World} {Ps : List Pr} (h : Grommet.Own w0 w Ps) (k : Nat) {n cp : Nat} {ad : Option Addr} {T : List (ByteArray × Nat)} (hk : Ps[k]? = some (strP ad n cp T)) (h12 : n ≤ 12) (s : ByteArray) (m : Nat) (ty : TypeId) :
  ∃ a2 c2 w2, (Builtin.append_ #[67, 67] ty #[.slice ad n cp, .slice (some ⟨w.heap.size, 0, none⟩) 1 1]).run Tryz.prog (w.alloc (.cells #[.string s] 9)) = .ok (.slice a2 (n + 1) c2) w2 ∧ Grommet.Own w0 w2 (Ps.set k (strP a2 (n + 1) c2 (T ++ [(s, m)]))) := by
 have hO1 := h.quiet (World.grownBy_alloc w (.cells #[.string s] 9) none)
 obtain ⟨a2, c2, w2, r1, hO2⟩ := strs_append hO1 k hk ty ⟨w.heap.size, 0, none⟩ 1 1 [.string s] rfl (at_of_row (heap_alloc_new w _)) (by intro u hu; simp at hu; subst hu; rfl) (by omega)
 exact ⟨a2, c2, w2, r1, by rw [show strP a2 (n + 1) c2 (T ++ [(s, m)]) = rowP 9 1 (.slice a2 (n + 1) c2) (n + 1) (strs T ++ [.string s]) from by unfold strP strs; simp]; exact hO2⟩
theorem nods_put {w0 w : World} {Ps : List Pr} (h : Grommet.Own w0 w Ps) (k : Nat) {n cp : Nat} {ad : Option Addr} {T : List (ByteArray × Nat)} (hk : Ps[k]? = some (nodP ad n cp T)) (h12 : n ≤ 12) (s : ByteArray) (m : Nat) (ty : TypeId) :
  ∃ a2 c2 w2, (Builtin.append_ #[68, 68] ty #[.slice ad n cp, .slice (some ⟨w.heap.size, 0, none⟩) 1 1]).run Tryz.prog (w.alloc (.cells #[.int .i64 (m : Int)] 3)) = .ok (.slice a2 (n + 1) c2) w2 ∧ Grommet.Own w0 w2 (Ps.set k (nodP a2 (n + 1) c2 (T ++ [(s, m)]))) := by
 have hO1 := h.quiet (World.grownBy_alloc w (.cells #[.int .i64 (m : Int)] 3) none)
 obtain ⟨a2, c2, w2, r1, hO2⟩ := nods_append hO1 k hk ty ⟨w.heap.size, 0, none⟩ 1 1 [.int .i64 (m : Int)] rfl (at_of_row (heap_alloc_new w _)) (by intro u hu; simp at hu; subst hu; rfl) (by omega)
 exact ⟨a2, c2, w2, r1, by rw [show nodP a2 (n + 1) c2 (T ++ [(s, m)]) = rowP 3 1 (.slice a2 (n + 1) c2) (n + 1) (nods T ++ [.int .i64 (m : Int)]) from by unfold nodP nods; simp]; exact hO2⟩
theorem nods_set (T : List (ByteArray × Nat)) (i : Nat) (s : ByteArray) (m : Nat) : nods (T.set i (s, m)) = (nods T).set i (.int .i64 (m : Int)) := by unfold nods; rw [List.map_set]
theorem strs_set {T : List (ByteArray × Nat)} {i : Nat} {p : ByteArray × Nat} (hp : T[i]? = some p) (m : Nat) : strs (T.set i (p.1, m)) = strs T := by
 unfold strs; rw [List.map_set]
 apply List.ext_getElem?
 intro j
 by_cases e : i = j
 ·subst e
  have := (List.getElem?_eq_some_iff.1 hp).1
  rw [List.getElem?_set_self (by simp; exact this), List.getElem?_map, hp]; rfl
 ·rw [List.getElem?_set_ne e]
theorem strs_get {T : List (ByteArray × Nat)} {i : Nat} {p : ByteArray × Nat} (hp : T[i]? = some p) : (strs T)[i]? = some (.string p.1) := by unfold strs; rw [List.getElem?_map, hp]; rfl
theorem nods_get {T : List (ByteArray × Nat)} {i : Nat} {p : ByteArray × Nat} (hp : T[i]? = some p) : (nods T)[i]? = some (.int .i64 (p.2 : Int)) := by unfold nods; rw [List.getElem?_map, hp]; rfl
end Go.Proofs.YtfljlmmiiccooaaGreatDoor
end
