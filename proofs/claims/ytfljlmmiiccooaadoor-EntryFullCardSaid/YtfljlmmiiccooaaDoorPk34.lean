import Derived.Deep.DeepCutAuto
import Derived.Test.YtfljlmmiiccooaaDoorPk33
import Derived.Test.YtfljlmmiiccooaaDoorPk23
import Derived.Test.YtfljlmmiiccooaaDoorPk28
set_option maxRecDepth 100000
set_option maxHeartbeats 8000000
section
namespace Go.Proofs.YtfljlmmiiccooaaDoor
open Go.RowKit Go.Grommet
set_option linter.unusedVariables false
theorem lit_row {w0 w : World} {Qs : List Pr} (h : Grommet.Own w0 w (Qs ++ [])) (a b : Nat) : Grommet.Own w0 (w.alloc (.cells #[.int .u64 (a : Int), .int .u64 (b : Int)] 25)) (Qs ++ [rowP 25 1 (.slice (some ⟨w.heap.size, 0, none⟩) 2 2) 2 ([a, b].map wv)]) := by
 rw [List.append_nil] at h
 exact h.addRow ⟨by simp, .inr ⟨w.heap.size, 2, _, rfl, Nat.le_refl _, heap_alloc_new w _, Nat.le_refl _, by unfold maxLen; omega, by simp, by rfl⟩⟩ (World.grownBy_alloc w _ none)
theorem words_appendW {w0 w : World} {Ps : List Pr} (h : Grommet.Own w0 w Ps) (k : Nat) {n cp : Nat} {ad : Option Addr} {xs : List Nat} (hk : Ps[k]? = some (rowP 25 1 (.slice ad n cp) n (xs.map wv))) (ty : TypeId) (sad : Option Addr) (sl scp : Nat) (ys : List Nat) (hw : Words w sad sl ys) (h0 : ys ≠ []) (hn : n + sl ≤ 100000) :
  ∃ ad2 cp2 w', (Builtin.append_ #[27, 27] ty #[.slice ad n cp, .slice sad sl scp]).run Tryd.prog w = .ok (.slice ad2 (n + sl) cp2) w' ∧ Grommet.Own w0 w' (Ps.set k (rowP 25 1 (.slice ad2 (n + sl) cp2) (n + sl) ((xs ++ ys).map wv))) := by
 obtain ⟨i0, hi0, hz0, hz1, hz2⟩ := info_parts Tryd.info25
 have hr := h.row k hk
 obtain ⟨a, ha⟩ : ∃ a, sad = some a := by
  cases ys with
  | nil => exact absurd rfl h0
  | cons y t =>
   obtain ⟨q, o, hq, _⟩ := hw.at_ 0 (wv y) (by simp)
   exact ⟨_, hq⟩
 subst ha
 obtain ⟨v', w', r1, r2, r3, r4⟩ := run_append_blk (P := Tryd.prog) w 0 27 ty 25 i0 (.int .u64 0) 1 8 Tryd.underlying27 hi0 hz0 hz1 hz2 rfl (by omega) _ n _ hr a sl scp (ys.map wv) (by rw [List.length_map, hw.len, Nat.mul_one]) (fun j u hu => hw.at_.some j u hu) (wv_oneCell ys) (by unfold maxLen; omega) (by omega) (Nat.zero_le _)
 obtain ⟨ad2, cp2, rfl, _⟩ := row_slice r2
 rw [← List.map_append] at r2
 exact ⟨ad2, cp2, w', r1, h.grows k hk r2 r3 r4⟩
structure EB (X : Nat) (s : ByteArray) (m : Nat) (w : World) : Prop where
 box : w.heap[X]? = some (.cells #[.string s, .int .i64 (m : Int)] 41 (0, 0))
theorem EB.cells {X : Nat} {s : ByteArray} {m : Nat} {w : World} (h : EB X s m w) : w.cell? ⟨X, 0, none⟩ = some (.string s) ∧ w.cell? ⟨X, 1, none⟩ = some (.int .i64 (m : Int)) := by
 simp [World.cell?, h.box]
theorem length_nameW (s : ByteArray) : (nameW s).length = (s.size + 7) / 8 := by unfold nameW; rw [length_words]
theorem nameW_get (s : ByteArray) (j : Nat) (h : j < (s.size + 7) / 8) : (nameW s).getD j 0 = word (bytesOf s) j := by
 unfold nameW words
 rw [List.getD_eq_getElem?_getD, List.getElem?_map, List.getElem?_range h]; rfl
theorem nameW_small (s : ByteArray) : ∀ n ∈ nameW s, n < 18446744073709551616 := fun n hn => by
 unfold nameW words at hn
 obtain ⟨j, _, rfl⟩ := List.mem_map.1 hn
 exact word_lt _ _
def EAdd (I B n : Nat) (ns : Nat → Prop) (f0 : Nat → Nat) (xs : List Nat) (L : List (Nat × Nat)) (P : Nat → Nat → Nat) (E : Nat → List UInt8 × Nat) (s : ByteArray) (m kv g : Nat) (w0 : World) (Ps : List Pr) (e : Ending) (w' : World) : Prop :=
 (e = .returned (.int .i64 16) ∧ (∀ k, k < 12 → P n k ≠ 0) ∧ Grommet.Own w0 w' Ps) ∨ (∃ k, k < 12 ∧ P n k = 0 ∧ B < cntB xs L B + needK P n k ∧ e = .returned (.int .i64 7) ∧ Grommet.Own w0 w' Ps) ∨
  (∃ k L' P', k < 12 ∧ P n k = 0 ∧ e = .returned (.int .i64 0) ∧ Est I B ns n f0 xs L' P' (fun j => if j = k then (bytesOf s, m) else E j) ∧ cntB xs L' B = cntB xs L B + needK P n k ∧ nzc (P' n) = nzc (P n) + needK P n k ∧ L'.length ≤ L.length + 30 ∧ (∀ n', n' ≠ n → P' n' = P n') ∧ Grommet.Own w0 w' (Ps.set kv (viewP g xs L')))
theorem addD {I B n : Nat} {ns : Nat → Prop} {f0 : Nat → Nat} {xs : List Nat} {L : List (Nat × Nat)} {P : Nat → Nat → Nat} {E : Nat → List UInt8 × Nat} (F : Est I B ns n f0 xs L P E) (hl : L.length ≤ 60) (s : ByteArray) (hok : okName s = true) (m : Nat) (h1 : 1 ≤ m) (hmI : m < I) (kv km g XM : Nat) (w0 w : World) (htab : Lib.TabIs Tryd.prog w0 "math/bits.deBruijn64tab" .u8 tab) (Ps : List Pr) (h : Grommet.Own w0 w Ps) (hsol : ∀ Q ∈ Ps, Solid Q) (hv : Ps[kv]? = some (viewP g xs L)) (hm : Ps[km]? = some (bmP XM g 1 I B n)) (hkm : kv ≠ km) :
  Calls Tryd.prog 33 #[dirV g I B XM, .agg #[.string s, .int .i64 (m : Int)]] w (EAdd I B n ns f0 xs L P E s m kv g w0 Ps) := by
 have hsz := okName_size hok
 obtain ⟨b, hb⟩ : ∃ b, nmBegin s = b := ⟨_, rfl⟩
 have hb12 : b < 12 := by rw [← hb]; exact nmBegin_lt s
 have hmN := mayN F.st.may
 have hln := F.st.len
 have h64 := F.st.b64
 have a1 := h.addBox 67 #[.pointer (some ⟨g, 0, none⟩), .int .i64 1, .int .i64 (I : Int), .int .i64 (B : Int), .pointer (some ⟨XM, 0, none⟩)]
 obtain ⟨D, eD⟩ : ∃ D, w.heap.size = D := ⟨_, rfl⟩
 obtain ⟨u1, eu1⟩ : ∃ u, w.alloc (.cells #[.pointer (some ⟨g, 0, none⟩), .int .i64 1, .int .i64 (I : Int), .int .i64 (B : Int), .pointer (some ⟨XM, 0, none⟩)] 67) = u := ⟨_, rfl⟩
 rw [eD, eu1] at a1
 have a2 := a1.addBox 41 #[.string s, .int .i64 (m : Int)]
 obtain ⟨X, eX⟩ : ∃ D, u1.heap.size = D := ⟨_, rfl⟩
 obtain ⟨u2, eu2⟩ : ∃ u, u1.alloc (.cells #[.string s, .int .i64 (m : Int)] 41) = u := ⟨_, rfl⟩
 rw [eX, eu2, List.append_assoc] at a2
 have hO : Hid (Grommet.Own w0 u2 (Ps ++ [dirP D g I B XM, boxP X 41 #[.string s, .int .i64 (m : Int)]])) := Lib.hid a2
 have HFi := Lib.hid (firstD F isNone 49 #[] (enters_of Tryd.func49 (by kernel_rfl) rfl) s (by omega) b hb kv km g XM w0 u2 _ hO.out (solid_app hsol (fun Q hQ => by
  simp only [List.mem_cons, List.not_mem_nil, or_false] at hQ
  rcases hQ with rfl | rfl <;> exact solid_box _ _ _)) (app_old hv) (app_old hm) (fun k wx Rs hk hx => by
  refine (isEmpty (E k) wx (by have := F.small hk; omega)).mono ?_
  rintro e w' ⟨he, hg⟩
  exact ⟨he, hx.quiet hg⟩))
 have HTk := Lib.hid (fun k (hk : k < 12) wx Qs (hx : Grommet.Own w0 wx (Ps ++ Qs)) => F.st.take hl F.isn hk hx (app_old hv) (app_old hm) hkm htab)
 have HF := Lib.hid F
 have Hv := Lib.hid hv
 have Hs := Lib.hid (And.intro hok (And.intro h1 hmI))
 have Hgeo := Lib.hid (And.intro hmN (And.intro hln (And.intro h64 (And.intro hl F.st.may))))
 have Hb := Lib.hid hb12
 obtain ⟨c0, c1, c2, c3, c4⟩ := dirP_cells hO.out (app_at 0 rfl)
 obtain ⟨z0, z1, _⟩ := ebox_cells hO.out (app_at 1 rfl)
 clear h a1 a2 hv hm hsol hb F htab hl hmN hln h64
 unfold dirV dirC at *
 go_enter Tryd.func33, Tryd.ntmps33
 go_wp2_with fail
 all_goals (try rw [eu1]); (try rw [eu2]); (try rw [eX]); (try rw [eD])
 go_wp2_with fail
 refine HFi.out.mono ?_
 rintro e w1 ⟨⟨xn, xm⟩, kk, rfl, hfi, hO1⟩
 rw [enV_mk]
 have hO2 := hO1.addBox 41 #[.string (str xn), .int .i64 (xm : Int)]
 obtain ⟨Y, eY⟩ : ∃ X, w1.heap.size = X := ⟨_, rfl⟩
 obtain ⟨w2, ew2⟩ : ∃ w2, w1.alloc (.cells #[.string (str xn), .int .i64 (xm : Int)] 41) = w2 := ⟨_, rfl⟩
 rw [eY, ew2, List.append_assoc] at hO2
 have hO2 : Hid (Grommet.Own w0 w2 (Ps ++ [dirP D g I B XM, boxP X 41 #[.string s, .int .i64 (m : Int)], boxP Y 41 #[.string (str xn), .int .i64 (xm : Int)]])) := Lib.hid hO2
 clear hO hO1 HFi c0 c1 c2 c3 c4 z0 z1 eu1 eu2 eX eD
 have hnn : ∀ k, k < 12 → (isNone (E k) = true ↔ P n k = 0) := fun k hk => by
  rw [← HF.out.none_iff hk]
  unfold isNone
  constructor
  ·intro hx; simp at hx; exact hx.1
  ·intro hx
   have h0 := (HF.out.none_iff hk).1 hx
   rw [HF.out.no k hk h0]; rfl
 rcases hfi with ⟨i, hi, rfl, hx, hp, _⟩ | ⟨rfl, _, hall⟩
 ·obtain ⟨k, hk⟩ : ∃ k, pl b i = k := ⟨_, rfl⟩
  have hk12 : k < 12 := by rw [← hk]; exact pl_lt _ _
  have hz : P n k = 0 := (hnn k hk12).1 (by rw [← hk, ← hx]; exact hp)
  have HTx := Lib.hid (HTk.out k hk12 w2 _ hO2.out)
  have Hz := Lib.hid (And.intro hk12 hz)
  rw [hk]
  have k0 : ¬ (k : Int) < 0 := by omega
  obtain ⟨c0, c1, c2, c3, c4⟩ := dirP_cells hO2.out (app_at 0 rfl)
  clear hO2 HTk hk hx hp hnn hz hi hk12
  go_wp2_with fail
  all_goals (try rw [ew2])
  go_wp2_with fail
  refine HTx.out.mono ?_
  rintro e w3 ⟨v, en, L1, P1, rfl, hO3, hT⟩
  rw [set_left Hv.out] at hO3
  have hO3 := Lib.hid hO3
  clear HTx c0 c1 c2 c3 c4 ew2 eY
  rcases hT.way with ⟨hne, _⟩ | ⟨_, hsp, rfl, rfl, rfl, rfl⟩ | ⟨_, hsp, hvP, v0, vB, rfl, hlen, hcn, hnz, hzero⟩
  ·exact absurd Hz.out.2 hne
  ·as_aux_lemma =>
   have hOE : Hid (Grommet.Own w0 w3 Ps) := Lib.hid (by have := hO3.out.less; rwa [set_view Hv.out] at this)
   have Hsp := Lib.hid hsp
   rw [show ((7 : Nat) : Int) = 7 from rfl]
   clear hO3 hT hsp
   go_wp2_with fail
   go_ret
   exact .inr (.inl ⟨k, Hz.out.1, Hz.out.2, Hsp.out, rfl, hOE.out⟩)
  ·as_aux_lemma =>
   rw [show ((0 : Nat) : Int) = 0 from rfl]
   have HT := Lib.hid (And.intro hT (And.intro hsp (And.intro hvP (And.intro v0 (And.intro vB (And.intro hlen (And.intro hcn (And.intro hnz hzero))))))))
   obtain ⟨A, hA⟩ : ∃ A, 488 + 16 * I + 8 * v = A := ⟨_, rfl⟩
   have HA := Lib.hid hA
   obtain ⟨l, hlz⟩ : ∃ l, s.size = l := ⟨_, rfl⟩
   have HB := Lib.hid (fun wx => BlockAt_any 1 (I : Int) (B : Int) (v : Int) wx)
   rw [show blockV 1 (I : Int) (B : Int) (v : Int) = (A : Int) from by unfold blockV; rw [if_pos ⟨Hgeo.out.2.2.2.2, by omega, by omega⟩]; omega] at HB
   unfold gv at HB
   have HPk := Lib.hid (fun wx => Pack_words s wx (by omega))
   have hmI2 : m ≤ 64 := by have := Hgeo.out.1; omega
   have wm : IntKind.u64.wrap (m : Int) = (m : Int) := IntWalk.u64_in _ ⟨by omega, by omega⟩
   have wl : IntKind.u64.wrap (l : Int) = (l : Int) := IntWalk.u64_in _ ⟨by omega, by omega⟩
   obtain ⟨Qs, hQs⟩ : ∃ Qs, Ps.set kv (viewP g xs L1) ++ [dirP D g I B XM, boxP X 41 #[.string s, .int .i64 (m : Int)], boxP Y 41 #[.string (str xn), .int .i64 (xm : Int)]] = Qs := ⟨_, rfl⟩
   rw [hQs] at hO3
   have HQ := Lib.hid hQs
   have HEB := Lib.hid (show ∀ wx Rs, Grommet.Own w0 wx (Qs ++ Rs) → EB X s m wx from fun wx Rs hx => ⟨by rw [← hQs] at hx; exact hx.box _ (app_old (app_at 1 rfl))⟩)
   obtain ⟨N, hN⟩ : ∃ N, 2 + (l + 7) / 8 = N := ⟨_, rfl⟩
   obtain ⟨W, hW⟩ : ∃ W, [m, l] ++ nameW s = W := ⟨_, rfl⟩
   have HW := Lib.hid (And.intro hW (And.intro hN hlz))
   have hnl : (nameW s).length = (l + 7) / 8 := by rw [length_nameW, hlz]
   have hnn : nameW s ≠ [] := fun e => by rw [e] at hnl; have : (0 : Nat) = (l + 7) / 8 := hnl; omega
   have Hnl := Lib.hid (And.intro hnl hnn)
   have hOr : Hid (Grommet.Own w0 w3.drew (Qs ++ [])) := Lib.hid (by rw [List.append_nil]; exact hO3.out.quiet (grown_drew (World.grownBy.refl w3 none)))
   have hS0 := Lib.hid (HEB.out _ _ hOr.out)
   clear hO3 hT hsp hvP v0 vB hlen hcn hnz hzero hA hQs hW hN hnl hnn
   go_upto_region 9 with fail
   go_cut [9] (fun sv wx => ∃ (ad : Option Addr) (cp : Nat), sv = .slice ad N cp ∧ Hid (Grommet.Own w0 wx (Qs ++ [rowP 25 1 (.slice ad N cp) N (W.map wv)])))
   case first =>
    refine wp_region_held_drew (S := fun w' => EB X s m w') (by kernel_rfl) (hS0.out) (fun hS => ?_)
    refine wpAnyH_take (i := 0) (oi := { dst := some 38, op := Op.fieldAddr 41 (Operand.tmp 3) 1, type := 0, pos := "entry.go:171", after := #[], guard := none }) (v := ?vad33r9o0) rfl (by kernel_rfl) (by kernel_rfl) (by kernel_rfl) (fun _ _ _ h => h) (Or.inl ⟨by rfl, ?had33r9o0⟩) hS ?_
    case had33r9o0 => (intro wx hx; skip; go_simp; (try with_reducible rfl))
    try simp only [Act.put, List.setIfInBounds_toArray, List.set_cons_zero, List.set_cons_succ]
    refine wpAnyH_take (i := 1) (oi := { dst := some 39, op := Op.load 3 (Operand.tmp 38), type := 3, pos := "entry.go:171", after := #[{ on := 0, ground := Ground.data }], guard := none }) (v := ?vad33r9o1) rfl (by kernel_rfl) (by kernel_rfl) (by kernel_rfl) (fun _ _ _ h => h) (Or.inl ⟨by rfl, ?had33r9o1⟩) hS ?_
    case had33r9o1 => (intro wx hx; obtain ⟨z0, z1⟩ := EB.cells hx; go_simp; (try with_reducible rfl))
    try simp only [Act.put, List.setIfInBounds_toArray, List.set_cons_zero, List.set_cons_succ]
    refine wpAnyH_take (i := 2) (oi := { dst := some 40, op := Op.convert 3 25 (Operand.tmp 39), type := 25, pos := "entry.go:171", after := #[{ on := 1, ground := Ground.data }], guard := none }) (v := ?vad33r9o2) rfl (by kernel_rfl) (by kernel_rfl) (by kernel_rfl) (fun _ _ _ h => h) (Or.inl ⟨by rfl, ?had33r9o2⟩) hS ?_
    case had33r9o2 => (intro wx hx; obtain ⟨z0, z1⟩ := EB.cells hx; go_simp; (try with_reducible rfl))
    try simp only [Act.put, List.setIfInBounds_toArray, List.set_cons_zero, List.set_cons_succ]
    refine wpAnyH_take (i := 3) (oi := { dst := some 41, op := Op.fieldAddr 41 (Operand.tmp 3) 0, type := 0, pos := "entry.go:171", after := #[], guard := none }) (v := ?vad33r9o3) rfl (by kernel_rfl) (by kernel_rfl) (by kernel_rfl) (fun _ _ _ h => h) (Or.inl ⟨by rfl, ?had33r9o3⟩) hS ?_
    case had33r9o3 => (intro wx hx; skip; go_simp; (try with_reducible rfl))
    try simp only [Act.put, List.setIfInBounds_toArray, List.set_cons_zero, List.set_cons_succ]
    refine wpAnyH_take (i := 4) (oi := { dst := some 42, op := Op.load 9 (Operand.tmp 41), type := 9, pos := "entry.go:171", after := #[{ on := 3, ground := Ground.data }], guard := none }) (v := ?vad33r9o4) rfl (by kernel_rfl) (by kernel_rfl) (by kernel_rfl) (fun _ _ _ h => h) (Or.inl ⟨by rfl, ?had33r9o4⟩) hS ?_
    case had33r9o4 => (intro wx hx; obtain ⟨z0, z1⟩ := EB.cells hx; go_simp; (try with_reducible rfl))
    try simp only [Act.put, List.setIfInBounds_toArray, List.set_cons_zero, List.set_cons_succ]
    refine wpAnyH_take (i := 5) (oi := { dst := some 43, op := Op.call { callee := Callee.builtin Builtin.len, args := #[Operand.tmp 42], argTypes := #[9] }, type := 3, pos := "entry.go:171", after := #[{ on := 4, ground := Ground.data }], guard := none }) (v := ?vad33r9o5) rfl (by kernel_rfl) (by kernel_rfl) (by kernel_rfl) (fun _ _ _ h => h) (Or.inl ⟨by rfl, ?had33r9o5⟩) hS ?_
    case had33r9o5 => (intro wx hx; skip; go_simp; (try with_reducible rfl))
    try simp only [Act.put, List.setIfInBounds_toArray, List.set_cons_zero, List.set_cons_succ]
    refine wpAnyH_take (i := 6) (oi := { dst := some 44, op := Op.convert 3 25 (Operand.tmp 43), type := 25, pos := "entry.go:171", after := #[{ on := 5, ground := Ground.data }], guard := none }) (v := ?vad33r9o6) rfl (by kernel_rfl) (by kernel_rfl) (by kernel_rfl) (fun _ _ _ h => h) (Or.inl ⟨by rfl, ?had33r9o6⟩) hS ?_
    case had33r9o6 => (intro wx hx; obtain ⟨z0, z1⟩ := EB.cells hx; go_simp; (try with_reducible rfl))
    try simp only [Act.put, List.setIfInBounds_toArray, List.set_cons_zero, List.set_cons_succ]
    refine wpAnyH_take (i := 8) (oi := { dst := some 46, op := Op.fieldAddr 41 (Operand.tmp 3) 0, type := 0, pos := "entry.go:171", after := #[], guard := none }) (v := ?vad33r9o8) rfl (by kernel_rfl) (by kernel_rfl) (by kernel_rfl) (fun _ _ _ h => h) (Or.inl ⟨by rfl, ?had33r9o8⟩) hS ?_
    case had33r9o8 => (intro wx hx; skip; go_simp; (try with_reducible rfl))
    try simp only [Act.put, List.setIfInBounds_toArray, List.set_cons_zero, List.set_cons_succ]
    refine wpAnyH_take (i := 9) (oi := { dst := some 47, op := Op.load 9 (Operand.tmp 46), type := 9, pos := "entry.go:171", after := #[{ on := 8, ground := Ground.data }], guard := none }) (v := ?vad33r9o9) rfl (by kernel_rfl) (by kernel_rfl) (by kernel_rfl) (fun _ _ _ h => h) (Or.inl ⟨by rfl, ?had33r9o9⟩) hS ?_
    case had33r9o9 => (intro wx hx; obtain ⟨z0, z1⟩ := EB.cells hx; go_simp; (try with_reducible rfl))
    try simp only [Act.put, List.setIfInBounds_toArray, List.set_cons_zero, List.set_cons_succ]
    refine wpAnyH_ready (rs := [7, 10]) (by kernel_rfl) (by simp) ?_
    refine AllReadyH.cons (o := { dst := some 45, op := Op.buildSlice 27 2 #[(0, Operand.tmp 40), (1, Operand.tmp 44)], type := 27, pos := "entry.go:171", after := #[{ on := 2, ground := Ground.data }, { on := 6, ground := Ground.data }], guard := none }) rfl (fun K hK => ?_) ?_
    ·
     go_simp
     have hO1 := Lib.hid (lit_row hOr.out m l)
     clear hOr
     have hOr := hO1
     clear hO1
     first | (have hWQ := hWP.keep (World.grownBy_alloc wP (.cells #[.int .u64 (m : Int), .int .u64 (l : Int)] 25) none) (by simp)) | skip
     refine hK.out _ _ ?hsadx133r9o7 (fun hS => ?_)
     case hsadx133r9o7 => (exact HEB.out _ _ hOr.out)
     clear hK K
     try simp only [Act.put, List.setIfInBounds_toArray, List.set_cons_zero, List.set_cons_succ]
     refine wpAnyH_ready (rs := [10]) (by kernel_rfl) (by simp) ?_
     refine AllReadyH.cons (o := { dst := some 48, op := Op.call { callee := Callee.value (Operand.func 10), args := #[Operand.tmp 47], argTypes := #[9] }, type := 27, pos := "entry.go:171", after := #[{ on := 9, ground := Ground.data }], guard := none }) rfl (fun K hK => ?_) AllReadyH.nil
     go_simp
     refine (HPk.out _).mono ?_
     rintro e wP ⟨pad, pln, pcp, rfl, hWP, hgP⟩
     have hO1 := Lib.hid (hOr.out.quiet hgP)
     clear hOr
     have hOr := hO1
     clear hO1 hgP
     refine hK.out _ _ ?hsadx133r9o10 (fun hS => ?_)
     case hsadx133r9o10 => (exact HEB.out _ _ hOr.out)
     clear hK K
     try simp only [Act.put, List.setIfInBounds_toArray, List.set_cons_zero, List.set_cons_succ]
     refine wpAnyH_ready (rs := [11]) (by kernel_rfl) (by simp) ?_
     refine AllReadyH.cons (o := { dst := some 49, op := Op.call { callee := Callee.builtin Builtin.append, args := #[Operand.tmp 45, Operand.tmp 48], argTypes := #[27, 27] }, type := 27, pos := "entry.go:171", after := #[{ on := 7, ground := Ground.data }, { on := 10, ground := Ground.data }, { on := 10, ground := Ground.chain }], guard := none }) rfl (fun K hK => ?_) AllReadyH.nil
     have hpl := (by first | exact hWQ.len | exact hWP.len)
     obtain ⟨ad2, cp2, wn, hap, hOn0⟩ := words_appendW hOr.out _ (app_at 0 rfl) 27 pad pln pcp (nameW s) (by first | exact hWQ | exact hWP) Hnl.out.2 (by have := Hnl.out.1; omega)
     rw [set_mid] at hOn0
     have hOn := Lib.hid hOn0
     clear hOn0 hOr
     rw [if_pos (by rfl)]
     refine oper_append _ _ _ rfl _ _ _ rfl rfl hap ?_
     refine hK.out _ _ ?hsb (fun hS => ?_)
     case hsb => exact HEB.out _ _ hOn.out
     clear hK K
     try simp only [Act.put, List.setIfInBounds_toArray, List.set_cons_zero, List.set_cons_succ]
     refine wpAnyH_take (i := 12) (oi := { dst := some 9, op := Op.assign (Operand.tmp 49), type := 27, pos := "entry.go:171", after := #[{ on := 11, ground := Ground.data }, { on := 11, ground := Ground.chain }, { on := 0, ground := Ground.phase }, { on := 1, ground := Ground.phase }, { on := 2, ground := Ground.phase }, { on := 3, ground := Ground.phase }, { on := 4, ground := Ground.phase }, { on := 5, ground := Ground.phase }, { on := 6, ground := Ground.phase }, { on := 7, ground := Ground.phase }, { on := 8, ground := Ground.phase }, { on := 9, ground := Ground.phase }, { on := 10, ground := Ground.phase }, { on := 11, ground := Ground.phase }], guard := none }) (v := ?vadx133r9o12) rfl (by kernel_rfl) (by kernel_rfl) (by kernel_rfl) (fun _ _ _ h => h) (Or.inl ⟨by rfl, ?hadx133r9o12⟩) hS ?_
     case hadx133r9o12 => (intro wx hx; skip; go_simp; (try with_reducible rfl))
     try simp only [Act.put, List.setIfInBounds_toArray, List.set_cons_zero, List.set_cons_succ]
     refine wpAnyH_done (by kernel_rfl) ?_ _
     go_wp2
     go_meet
     case rel => (have eN : 2 + pln = N := (by rw [← hpl, Hnl.out.1]; exact HW.out.2.1); have h2 := hOn.out; rw [eN, HW.out.1] at h2; exact ⟨ad2, cp2, by rw [eN], Lib.hid h2⟩)
    refine AllReadyH.cons (o := { dst := some 48, op := Op.call { callee := Callee.value (Operand.func 10), args := #[Operand.tmp 47], argTypes := #[9] }, type := 27, pos := "entry.go:171", after := #[{ on := 9, ground := Ground.data }], guard := none }) rfl (fun K hK => ?_) ?_
    ·
     go_simp
     refine (HPk.out _).mono ?_
     rintro e wP ⟨pad, pln, pcp, rfl, hWP, hgP⟩
     have hO1 := Lib.hid (hOr.out.quiet hgP)
     clear hOr
     have hOr := hO1
     clear hO1 hgP
     refine hK.out _ _ ?hsadx333r9o10 (fun hS => ?_)
     case hsadx333r9o10 => (exact HEB.out _ _ hOr.out)
     clear hK K
     try simp only [Act.put, List.setIfInBounds_toArray, List.set_cons_zero, List.set_cons_succ]
     refine wpAnyH_ready (rs := [7]) (by kernel_rfl) (by simp) ?_
     refine AllReadyH.cons (o := { dst := some 45, op := Op.buildSlice 27 2 #[(0, Operand.tmp 40), (1, Operand.tmp 44)], type := 27, pos := "entry.go:171", after := #[{ on := 2, ground := Ground.data }, { on := 6, ground := Ground.data }], guard := none }) rfl (fun K hK => ?_) AllReadyH.nil
     go_simp
     have hO1 := Lib.hid (lit_row hOr.out m l)
     clear hOr
     have hOr := hO1
     clear hO1
     first | (have hWQ := hWP.keep (World.grownBy_alloc wP (.cells #[.int .u64 (m : Int), .int .u64 (l : Int)] 25) none) (by simp)) | skip
     refine hK.out _ _ ?hsadx333r9o7 (fun hS => ?_)
     case hsadx333r9o7 => (exact HEB.out _ _ hOr.out)
     clear hK K
     try simp only [Act.put, List.setIfInBounds_toArray, List.set_cons_zero, List.set_cons_succ]
     refine wpAnyH_ready (rs := [11]) (by kernel_rfl) (by simp) ?_
     refine AllReadyH.cons (o := { dst := some 49, op := Op.call { callee := Callee.builtin Builtin.append, args := #[Operand.tmp 45, Operand.tmp 48], argTypes := #[27, 27] }, type := 27, pos := "entry.go:171", after := #[{ on := 7, ground := Ground.data }, { on := 10, ground := Ground.data }, { on := 10, ground := Ground.chain }], guard := none }) rfl (fun K hK => ?_) AllReadyH.nil
     have hpl := (by first | exact hWQ.len | exact hWP.len)
     obtain ⟨ad2, cp2, wn, hap, hOn0⟩ := words_appendW hOr.out _ (app_at 0 rfl) 27 pad pln pcp (nameW s) (by first | exact hWQ | exact hWP) Hnl.out.2 (by have := Hnl.out.1; omega)
     rw [set_mid] at hOn0
     have hOn := Lib.hid hOn0
     clear hOn0 hOr
     rw [if_pos (by rfl)]
     refine oper_append _ _ _ rfl _ _ _ rfl rfl hap ?_
     refine hK.out _ _ ?hsb (fun hS => ?_)
     case hsb => exact HEB.out _ _ hOn.out
     clear hK K
     try simp only [Act.put, List.setIfInBounds_toArray, List.set_cons_zero, List.set_cons_succ]
     refine wpAnyH_take (i := 12) (oi := { dst := some 9, op := Op.assign (Operand.tmp 49), type := 27, pos := "entry.go:171", after := #[{ on := 11, ground := Ground.data }, { on := 11, ground := Ground.chain }, { on := 0, ground := Ground.phase }, { on := 1, ground := Ground.phase }, { on := 2, ground := Ground.phase }, { on := 3, ground := Ground.phase }, { on := 4, ground := Ground.phase }, { on := 5, ground := Ground.phase }, { on := 6, ground := Ground.phase }, { on := 7, ground := Ground.phase }, { on := 8, ground := Ground.phase }, { on := 9, ground := Ground.phase }, { on := 10, ground := Ground.phase }, { on := 11, ground := Ground.phase }], guard := none }) (v := ?vadx333r9o12) rfl (by kernel_rfl) (by kernel_rfl) (by kernel_rfl) (fun _ _ _ h => h) (Or.inl ⟨by rfl, ?hadx333r9o12⟩) hS ?_
     case hadx333r9o12 => (intro wx hx; skip; go_simp; (try with_reducible rfl))
     try simp only [Act.put, List.setIfInBounds_toArray, List.set_cons_zero, List.set_cons_succ]
     refine wpAnyH_done (by kernel_rfl) ?_ _
     go_wp2
     go_meet
     case rel => (have eN : 2 + pln = N := (by rw [← hpl, Hnl.out.1]; exact HW.out.2.1); have h2 := hOn.out; rw [eN, HW.out.1] at h2; exact ⟨ad2, cp2, by rw [eN], Lib.hid h2⟩)
    exact AllReadyH.nil
   case rest =>
   clear hOr hS0 HPk
   obtain ⟨ad, cp, rfl, hO4⟩ := hcut
   have hN8 : N ≤ 7 ∧ 2 ≤ N := by have := HW.out.2.1; omega
   have hWl : W.length = N := by rw [← HW.out.1, List.length_append, Hnl.out.1, ← HW.out.2.1]; rfl
   have hWs : ∀ n ∈ W, n < 18446744073709551616 := fun n hn => by
    rw [← HW.out.1] at hn
    rcases List.mem_append.1 hn with hx | hx
    ·simp only [List.mem_cons, List.not_mem_nil, or_false] at hx
     rcases hx with rfl | rfl <;> omega
    ·exact nameW_small s n hx
   have HWl := Lib.hid (And.intro hWl hWs)
   have hO5 : Hid (Grommet.Own w0 wc (Ps.set kv (viewP g xs (setLs xs L1 A W 0)) ++ [dirP D g I B XM, boxP X 41 #[.string s, .int .i64 (m : Int)], boxP Y 41 #[.string (str xn), .int .i64 (xm : Int)], rowP 25 1 (.slice ad N cp) N (W.map wv)])) := Lib.hid (by
    have h := hO4.out
    rw [← HQ.out, List.append_assoc] at h
    exact h)
   clear hO4 HEB HQ hWl hWs
   go_wp2_with fail
   go_loopw [52] (fun tv wr => ∃ t : Nat, t ≤ N ∧ tv = .int .i64 (t : Int) ∧ Hid (Grommet.Own w0 wr (Ps.set kv (viewP g xs (setLs xs L1 A W t)) ++ [dirP D g I B XM, boxP X 41 #[.string s, .int .i64 (m : Int)], boxP Y 41 #[.string (str xn), .int .i64 (xm : Int)], rowP 25 1 (.slice ad N cp) N (W.map wv)]))) (fun tv _ => N - (intOf tv).toNat)
   case atStart => exact ⟨0, Nat.zero_le _, rfl, hO5⟩
   case round =>
    clear hO5
    obtain ⟨t, ht, rfl, hO⟩ := hrel
    have t0 : (0 : Int) ≤ (t : Int) := by omega
    by_cases hlt : t < N
    ·as_aux_lemma =>
     have hlt' : (t : Int) < (N : Int) := by omega
     obtain ⟨u, hu⟩ : ∃ u, W.getD t 0 = u := ⟨_, rfl⟩
     have hu2 : W[t]? = some u := by rw [← hu, List.getD_eq_getElem?_getD, List.getElem?_eq_getElem (by rw [HWl.out.1]; exact hlt)]; rfl
     have hu64 := HWl.out.2 u (List.mem_of_getElem? hu2)
     obtain ⟨q, hq, e0, _, _⟩ := Own.cell hO.out _ (app_at' List.length_set 3 rfl) t (wv u) (by rw [List.getElem?_map, hu2]; rfl)
     subst hq
     unfold wv at e0
     obtain ⟨T, hT⟩ : ∃ T, A + t = T := ⟨_, rfl⟩
     have hxT : T < xs.length := by have := HT.out.2.2.2.2.1; have := Hgeo.out; have := HA.out; omega
     have hsl := setLs_len xs L1 A W t
     have hsl2 : (setLs xs L1 A W t).length < 96 := by have := HT.out.2.2.2.2.2.1; have := Hgeo.out.2.2.2.1; omega
     have HSet := Lib.hid (fun wx (hx : Grommet.Own w0 wx _) => SetH kv g xs (setLs xs L1 A W t) (T : Int) u 0 w0 wx _ (Ps.set kv (viewP g xs (setLs xs L1 A W (t + 1))) ++ [dirP D g I B XM, boxP X 41 #[.string s, .int .i64 (m : Int)], boxP Y 41 #[.string (str xn), .int .i64 (xm : Int)], rowP 25 1 (.slice (some ⟨q, 0, none⟩) N cp) N (W.map wv)]) hx (show (Ps.set kv (viewP g xs (setLs xs L1 A W t)) ++ [dirP D g I B XM, boxP X 41 #[.string s, .int .i64 (m : Int)], boxP Y 41 #[.string (str xn), .int .i64 (xm : Int)], rowP 25 1 (.slice (some ⟨q, 0, none⟩) N cp) N (W.map wv)])[kv]? = _ from app_old (set_at _ Hv.out)) hu64 (by rw [setE_ok hxT hsl2]; rfl) (by
      rw [set_left (set_at _ Hv.out), List.set_set]
      show _ = Ps.set kv (viewP g xs (setL xs (setLs xs L1 A W t) ((A + t : Nat) : Int) (W.getD t 0))) ++ _
      rw [hT, hu]))
     have wT : IntKind.i64.wrap ((A : Int) + (t : Int)) = (T : Int) := by have := HT.out.2.2.2.2.1; have := Hgeo.out; have := HA.out; rw [IntWalk.i64_in _ ⟨by omega, by omega⟩]; omega
     have wT' : IntKind.i64.wrap (T : Int) = (T : Int) := by have := Hgeo.out; have := HA.out; exact IntWalk.i64_in _ ⟨by omega, by omega⟩
     have wt : IntKind.i64.wrap ((t : Int) + 1) = (t : Int) + 1 := IntWalk.i64_in _ ⟨by omega, by omega⟩
     have HD0 := Lib.hid ((DB.of hO.out (app_at' List.length_set 0 rfl)).grown (grown_drew (World.grownBy.refl wr none)))
     have hOr := Lib.hid (hO.out.quiet (grown_drew (World.grownBy.refl wr none)))
     clear hO hu hu2 hT hsl hsl2
     go_wp2_with fail
     refine wp_region_held_drew (S := fun w' => DB D g I B XM w') (by kernel_rfl) (HD0.out) (fun hS => ?_)
     refine wpAnyH_take (i := 0) (oi := { dst := some 57, op := Op.fieldAddr 67 (Operand.tmp 2) 0, type := 0, pos := "entry.go:173", after := #[], guard := none }) (v := ?vas33r13o0) rfl (by kernel_rfl) (by kernel_rfl) (by kernel_rfl) (fun _ _ _ h => h) (Or.inl ⟨by rfl, ?has33r13o0⟩) hS ?_
     case has33r13o0 => (intro wx hx; skip; go_simp; (try with_reducible rfl))
     try simp only [Act.put, List.setIfInBounds_toArray, List.set_cons_zero, List.set_cons_succ]
     refine wpAnyH_take (i := 1) (oi := { dst := some 58, op := Op.load 35 (Operand.tmp 57), type := 35, pos := "entry.go:173", after := #[{ on := 0, ground := Ground.data }], guard := none }) (v := ?vas33r13o1) rfl (by kernel_rfl) (by kernel_rfl) (by kernel_rfl) (fun _ _ _ h => h) (Or.inl ⟨by rfl, ?has33r13o1⟩) hS ?_
     case has33r13o1 => (intro wx hx; obtain ⟨c0, c1, c2, c3, c4⟩ := DB.cells hx; go_simp; (try with_reducible rfl))
     try simp only [Act.put, List.setIfInBounds_toArray, List.set_cons_zero, List.set_cons_succ]
     refine wpAnyH_take (i := 2) (oi := { dst := some 59, op := Op.fieldAddr 67 (Operand.tmp 2) 1, type := 0, pos := "entry.go:173", after := #[], guard := none }) (v := ?vas33r13o2) rfl (by kernel_rfl) (by kernel_rfl) (by kernel_rfl) (fun _ _ _ h => h) (Or.inl ⟨by rfl, ?has33r13o2⟩) hS ?_
     case has33r13o2 => (intro wx hx; skip; go_simp; (try with_reducible rfl))
     try simp only [Act.put, List.setIfInBounds_toArray, List.set_cons_zero, List.set_cons_succ]
     refine wpAnyH_take (i := 3) (oi := { dst := some 60, op := Op.load 31 (Operand.tmp 59), type := 31, pos := "entry.go:173", after := #[{ on := 2, ground := Ground.data }], guard := none }) (v := ?vas33r13o3) rfl (by kernel_rfl) (by kernel_rfl) (by kernel_rfl) (fun _ _ _ h => h) (Or.inl ⟨by rfl, ?has33r13o3⟩) hS ?_
     case has33r13o3 => (intro wx hx; obtain ⟨c0, c1, c2, c3, c4⟩ := DB.cells hx; go_simp; (try with_reducible rfl))
     try simp only [Act.put, List.setIfInBounds_toArray, List.set_cons_zero, List.set_cons_succ]
     refine wpAnyH_take (i := 4) (oi := { dst := some 61, op := Op.move (Operand.tmp 8), type := 3, pos := "entry.go:173", after := #[], guard := none }) (v := ?vas33r13o4) rfl (by kernel_rfl) (by kernel_rfl) (by kernel_rfl) (fun _ _ _ h => h) (Or.inl ⟨by rfl, ?has33r13o4⟩) hS ?_
     case has33r13o4 => (intro wx hx; skip; go_simp; (try with_reducible rfl))
     try simp only [Act.put, List.setIfInBounds_toArray, List.set_cons_zero, List.set_cons_succ]
     refine wpAnyH_take (i := 6) (oi := { dst := some 63, op := Op.move (Operand.tmp 10), type := 3, pos := "entry.go:173", after := #[], guard := none }) (v := ?vas33r13o6) rfl (by kernel_rfl) (by kernel_rfl) (by kernel_rfl) (fun _ _ _ h => h) (Or.inl ⟨by rfl, ?has33r13o6⟩) hS ?_
     case has33r13o6 => (intro wx hx; skip; go_simp; (try with_reducible rfl))
     try simp only [Act.put, List.setIfInBounds_toArray, List.set_cons_zero, List.set_cons_succ]
     refine wpAnyH_take (i := 8) (oi := { dst := some 65, op := Op.move (Operand.tmp 11), type := 25, pos := "entry.go:173", after := #[], guard := none }) (v := ?vas33r13o8) rfl (by kernel_rfl) (by kernel_rfl) (by kernel_rfl) (fun _ _ _ h => h) (Or.inl ⟨by rfl, ?has33r13o8⟩) hS ?_
     case has33r13o8 => (intro wx hx; skip; go_simp; (try with_reducible rfl))
     try simp only [Act.put, List.setIfInBounds_toArray, List.set_cons_zero, List.set_cons_succ]
     refine wpAnyH_ready (rs := [5]) (by kernel_rfl) (by simp) ?_
     refine AllReadyH.cons (o := { dst := some 62, op := Op.call { callee := Callee.value (Operand.func 45), args := #[Operand.tmp 60, Operand.tmp 61], argTypes := #[31, 3] }, type := 3, pos := "entry.go:173", after := #[{ on := 3, ground := Ground.data }, { on := 4, ground := Ground.data }], guard := none }) rfl (fun K hK => ?_) AllReadyH.nil
     go_simp
     refine (HB.out _).mono ?_
     rintro e w5 ⟨rfl, hg5⟩
     have hO6 := Lib.hid (hOr.out.quiet hg5)
     clear hOr hg5 HB
     refine hK.out _ _ ?hsas33r13o5 (fun hS => ?_)
     case hsas33r13o5 => (exact DB.of hO6.out (app_at' List.length_set 0 rfl))
     clear hK K
     try simp only [Act.put, List.setIfInBounds_toArray, List.set_cons_zero, List.set_cons_succ]
     refine wpAnyH_take (i := 7) (oi := { dst := some 64, op := Op.binOp BinOp.add 3 (Operand.tmp 62) (Operand.tmp 63) 3, type := 3, pos := "entry.go:173", after := #[{ on := 5, ground := Ground.data }, { on := 6, ground := Ground.data }], guard := none }) (v := ?vas33r13o7) rfl (by kernel_rfl) (by kernel_rfl) (by kernel_rfl) (fun _ _ _ h => h) (Or.inl ⟨by rfl, ?has33r13o7⟩) hS ?_
     case has33r13o7 => (intro wx hx; skip; go_simp; (try with_reducible rfl))
     try simp only [Act.put, List.setIfInBounds_toArray, List.set_cons_zero, List.set_cons_succ]
     refine wpAnyH_ready (rs := [9]) (by kernel_rfl) (by simp) ?_
     refine AllReadyH.cons (o := { dst := some 66, op := Op.call { callee := Callee.value (Operand.func 44), args := #[Operand.tmp 58, Operand.tmp 64, Operand.tmp 65], argTypes := #[35, 3, 25] }, type := 37, pos := "entry.go:173", after := #[{ on := 1, ground := Ground.data }, { on := 7, ground := Ground.data }, { on := 8, ground := Ground.data }, { on := 5, ground := Ground.chain }], guard := none }) rfl (fun K hK => ?_) AllReadyH.nil
     go_simp
     refine (HSet.out _ hO6.out).mono ?_
     rintro e w6 ⟨rfl, hO7⟩
     have hO7 := Lib.hid hO7
     clear HSet hO6
     refine hK.out _ _ ?hsas33r13o9 (fun hS => ?_)
     case hsas33r13o9 => (exact DB.of hO7.out (app_at' List.length_set 0 rfl))
     clear hK K
     try simp only [Act.put, List.setIfInBounds_toArray, List.set_cons_zero, List.set_cons_succ]
     refine wpAnyH_take (i := 10) (oi := { dst := some 12, op := Op.assign (Operand.tmp 66), type := 37, pos := "entry.go:173", after := #[{ on := 9, ground := Ground.data }, { on := 9, ground := Ground.chain }, { on := 0, ground := Ground.phase }, { on := 1, ground := Ground.phase }, { on := 2, ground := Ground.phase }, { on := 3, ground := Ground.phase }, { on := 4, ground := Ground.phase }, { on := 5, ground := Ground.phase }, { on := 6, ground := Ground.phase }, { on := 7, ground := Ground.phase }, { on := 8, ground := Ground.phase }, { on := 9, ground := Ground.phase }], guard := none }) (v := ?vas33r13o10) rfl (by kernel_rfl) (by kernel_rfl) (by kernel_rfl) (fun _ _ _ h => h) (Or.inl ⟨by rfl, ?has33r13o10⟩) hS ?_
     case has33r13o10 => (intro wx hx; skip; go_simp; (try with_reducible rfl))
     try simp only [Act.put, List.setIfInBounds_toArray, List.set_cons_zero, List.set_cons_succ]
     refine wpAnyH_done (by kernel_rfl) ?_ _
     clear hS HD0
     go_wp2
     go_roundw
     case rel => exact ⟨t + 1, by omega, by go_num, hO7⟩
     case measure => simp [intOf]; omega
    ·as_aux_lemma =>
     obtain rfl : t = N := by omega
     have hlt' : ¬ (t : Int) < (t : Int) := by omega
     have hOE := Lib.hid (Own.less hO.out)
     obtain ⟨hT, hsp, hvP, v0, vB, hlen, hcn, hnz, hzero⟩ := HT.out
     obtain ⟨g1, g2, g3, g4, g5⟩ := Hgeo.out
     have hxA : A + 8 ≤ xs.length := by have := HA.out; omega
     have hgot := setLs_got xs L1 A W t (by omega) (by omega)
     have hAdd := HF.out.added (k := k) (v := v) (en := 0) (L' := setLs xs L1 A W t) (m := m) (s := bytesOf s) (A := A) Hz.out.1 hT (fun j hj => by rw [← HA.out]; exact hzero j hj) (by rw [← hvP]; exact v0) (by rw [← hvP]; exact HA.out) (by rw [str_bytesOf]; exact hok) h1 hmI (fun a ha => by rw [hgot, if_neg (by omega)]) (setLs_wl hT.st.wl HWl.out.2 t (by omega)) (by rw [hgot, if_pos (by omega), Nat.sub_self, ← HW.out.1]; try rfl) (by rw [hgot, if_pos (by omega), show A + 1 - A = 1 by omega, ← HW.out.1, length_bytesOf, HW.out.2.2]; try rfl) (fun j hj => by
      rw [length_bytesOf, HW.out.2.2] at hj
      have := HW.out.2.1
      rw [hgot, if_pos (by omega), show A + (2 + j) - A = 2 + j by omega, ← HW.out.1, List.getD_eq_getElem?_getD, List.getElem?_append_right (by simp), show 2 + j - [m, l].length = j from by simp, ← List.getD_eq_getElem?_getD]
      exact nameW_get s j (by rw [HW.out.2.2]; exact hj))
     have HE := Lib.hid (And.intro hAdd (And.intro hcn (And.intro hnz (And.intro hT.other (show (setLs xs L1 A W t).length ≤ L.length + 30 by have := setLs_len xs L1 A W t; omega)))))
     have Hkz := Hz
     clear hO hT hsp hvP v0 vB hlen hcn hnz hzero g1 g2 g3 g4 g5 hxA hgot hAdd HT HF Hgeo
     go_wp2
     go_ret
     exact .inr (.inr ⟨k, _, P1, Hkz.out.1, Hkz.out.2, rfl, HE.out.1.1, HE.out.1.2.trans HE.out.2.1, HE.out.2.2.1, HE.out.2.2.2.2, HE.out.2.2.2.1, hOE.out⟩)
 ·as_aux_lemma =>
  have hall2 : Hid (∀ k, k < 12 → P n k ≠ 0) := Lib.hid (fun k hk h0 => by
   obtain ⟨i, hi, hpl⟩ := pl_inv Hb.out hk
   have h1 := hall i hi
   rw [hpl, (hnn k hk).2 h0] at h1
   cases h1)
  have hOE := Lib.hid (Own.less hO2.out)
  clear hall hnn hO2 HTk
  go_wp2_with fail
  all_goals (try rw [ew2])
  go_wp2_with fail
  go_ret
  exact .inl ⟨rfl, hall2.out, hOE.out⟩
end Go.Proofs.YtfljlmmiiccooaaDoor
end
section
namespace Go.Proofs.YtfljlmmiiccooaaDoor
open Go.RowKit Go.Grommet
set_option linter.unusedVariables false
theorem EAdd.less {I B n : Nat} {ns : Nat → Prop} {f0 : Nat → Nat} {xs : List Nat} {L : List (Nat × Nat)} {P : Nat → Nat → Nat} {E : Nat → List UInt8 × Nat} {s : ByteArray} {m kv g : Nat} {w0 : World} {Ps Qs : List Pr} {e : Ending} {w' : World} {X : Pr} (hv : Ps[kv]? = some X) (h : EAdd I B n ns f0 xs L P E s m kv g w0 (Ps ++ Qs) e w') : EAdd I B n ns f0 xs L P E s m kv g w0 Ps e w' := by
 rcases h with ⟨h1, h2, h3⟩ | ⟨k, h1, h2, h3, h4, h5⟩ | ⟨k, L', P', h1, h2, h3, h4, h5, h6, h7, h8, h9⟩
 ·exact .inl ⟨h1, h2, h3.less⟩
 ·exact .inr (.inl ⟨k, h1, h2, h3, h4, h5.less⟩)
 ·rw [set_left hv] at h9
  exact .inr (.inr ⟨k, L', P', h1, h2, h3, h4, h5, h6, h7, h8, h9.less⟩)
def EAddE (I B n : Nat) (ns : Nat → Prop) (f0 : Nat → Nat) (xs : List Nat) (L : List (Nat × Nat)) (P : Nat → Nat → Nat) (E : Nat → List UInt8 × Nat) (s : ByteArray) (m kv g : Nat) (w0 : World) (Ps : List Pr) (e : Ending) (w' : World) : Prop :=
 (okName s = false ∧ e = .returned (.int .i64 13) ∧ Grommet.Own w0 w' Ps) ∨ (okName s = true ∧ (∃ k, k < 12 ∧ (E k).1 = bytesOf s) ∧ e = .returned (.int .i64 9) ∧ Grommet.Own w0 w' Ps) ∨ (okName s = true ∧ (∀ k, k < 12 → (E k).1 ≠ bytesOf s) ∧ EAdd I B n ns f0 xs L P E s m kv g w0 Ps e w')
theorem AddE {I B n : Nat} {ns : Nat → Prop} {f0 : Nat → Nat} {xs : List Nat} {L : List (Nat × Nat)} {P : Nat → Nat → Nat} {E : Nat → List UInt8 × Nat} (F : Est I B ns n f0 xs L P E) (hl : L.length ≤ 60) (s : ByteArray) (hss : s.size ≤ 1048576) (m : Nat) (h1 : 1 ≤ m) (hmI : m < I) (kv g : Nat) (w0 w : World) (htab : Lib.TabIs Tryd.prog w0 "math/bits.deBruijn64tab" .u8 tab) (Ps : List Pr) (h : Grommet.Own w0 w Ps) (hsol : ∀ Q ∈ Ps, Solid Q) (hv : Ps[kv]? = some (viewP g xs L)) :
  Calls Tryd.prog 14 #[.pointer (some ⟨g, 0, none⟩), gv ((1 : Nat) : Int) (I : Int) (B : Int), .int .i64 (n : Int), .agg #[.string s, .int .i64 (m : Int)]] w (EAddE I B n ns f0 xs L P E s m kv g w0 Ps) := by
 have hkl := (List.getElem?_eq_some_iff.1 hv).1
 have HTo := Lib.hid (fun wx Qs (hx : Grommet.Own w0 wx (Ps ++ Qs)) => toD F s m h1 hmI kv g w0 wx (Ps ++ Qs) hx (app_old hv))
 have HFi := Lib.hid (fun G R X XM wx (hx : Grommet.Own w0 wx (Ps ++ [geoB G I B, boxP R 41 #[.string s, .int .i64 (m : Int)], bmP XM g 1 I B n, dirP X g I B XM])) => findD F s hss kv (Ps.length + 2) g XM w0 wx _ hx (solid_app hsol (fun Q hQ => by
  simp only [List.mem_cons, List.not_mem_nil, or_false] at hQ
  rcases hQ with rfl | rfl | rfl | rfl <;> exact solid_box _ _ _)) (app_old hv) (app_at 2 rfl))
 have HAd := Lib.hid (fun (hok : okName s = true) G R X XM Y (y : List UInt8 × Nat) wx (hx : Grommet.Own w0 wx (Ps ++ [geoB G I B, boxP R 41 #[.string s, .int .i64 (m : Int)], bmP XM g 1 I B n, dirP X g I B XM, boxP Y 41 #[.string (str y.1), .int .i64 (y.2 : Int)]])) => addD F hl s hok m h1 hmI kv (Ps.length + 2) g XM w0 wx htab _ hx (solid_app hsol (fun Q hQ => by
  simp only [List.mem_cons, List.not_mem_nil, or_false] at hQ
  rcases hQ with rfl | rfl | rfl | rfl | rfl <;> exact solid_box _ _ _)) (app_old hv) (app_at 2 rfl) (by omega))
 have Hv := Lib.hid hv
 have hG := h.addBox 31 #[.int .i64 1, .int .i64 (I : Int), .int .i64 (B : Int)]
 obtain ⟨G, eG⟩ : ∃ G, w.heap.size = G := ⟨_, rfl⟩
 obtain ⟨wg, ewg⟩ : ∃ wg, w.alloc (.cells #[.int .i64 1, .int .i64 (I : Int), .int .i64 (B : Int)] 31) = wg := ⟨_, rfl⟩
 rw [eG, ewg] at hG
 have hN := hG.addBox 41 #[.string s, .int .i64 (m : Int)]
 obtain ⟨R, eR⟩ : ∃ R, wg.heap.size = R := ⟨_, rfl⟩
 obtain ⟨we, ewe⟩ : ∃ we, wg.alloc (.cells #[.string s, .int .i64 (m : Int)] 41) = we := ⟨_, rfl⟩
 rw [eR, ewe, List.append_assoc] at hN
 have hO := Lib.hid (show Grommet.Own w0 we (Ps ++ [geoB G I B, boxP R 41 #[.string s, .int .i64 (m : Int)]]) from hN)
 clear hG hN h hv hsol hss F hl hkl h1 hmI htab
 unfold gv dirV dirC at *
 obtain ⟨y0, y1, y2⟩ := geo_cells hO.out (app_at 0 rfl)
 obtain ⟨z0, z1, _⟩ := ebox_cells hO.out (app_at 1 rfl)
 go_enter Tryd.func14, Tryd.ntmps14
 go_wp2_with fail
 all_goals (try rw [ewg]); (try rw [eG]); (try rw [eR]); (try rw [ewe])
 go_wp2_with fail
 refine (HTo.out _ _ hO.out).mono ?_
 rintro e w1 ⟨XM, rfl, hO1⟩
 rw [List.append_assoc] at hO1
 have hO2 := hO1.addBox 67 #[.pointer (some ⟨g, 0, none⟩), .int .i64 1, .int .i64 (I : Int), .int .i64 (B : Int), .pointer (some ⟨XM, 0, none⟩)]
 obtain ⟨X, eX⟩ : ∃ X, w1.heap.size = X := ⟨_, rfl⟩
 obtain ⟨w2, ew2⟩ : ∃ w2, w1.alloc (.cells #[.pointer (some ⟨g, 0, none⟩), .int .i64 1, .int .i64 (I : Int), .int .i64 (B : Int), .pointer (some ⟨XM, 0, none⟩)] 67) = w2 := ⟨_, rfl⟩
 rw [eX, ew2, List.append_assoc] at hO2
 have hO2 : Hid (Grommet.Own w0 w2 (Ps ++ [geoB G I B, boxP R 41 #[.string s, .int .i64 (m : Int)], bmP XM g 1 I B n, dirP X g I B XM])) := Lib.hid hO2
 have HFx := Lib.hid (HFi.out _ _ _ _ _ hO2.out)
 obtain ⟨c0, c1, c2, c3, c4⟩ := dirP_cells hO2.out (app_at 3 rfl)
 clear y0 y1 y2 z0 z1
 obtain ⟨z0, z1, _⟩ := ebox_cells hO2.out (app_at 1 rfl)
 clear hO1 hO HTo HFi ewg eG eR ewe
 go_wp2_with fail
 all_goals (try rw [ew2]); (try rw [eX])
 go_wp2_with fail
 refine HFx.out.mono ?_
 rintro e w3 ⟨⟨xn, xm⟩, kk, en, rfl, hfi, hO3⟩
 rw [enV_mk]
 have hO4 := hO3.addBox 41 #[.string (str xn), .int .i64 (xm : Int)]
 obtain ⟨Y, eY⟩ : ∃ X, w3.heap.size = X := ⟨_, rfl⟩
 obtain ⟨w4, ew4⟩ : ∃ w2, w3.alloc (.cells #[.string (str xn), .int .i64 (xm : Int)] 41) = w2 := ⟨_, rfl⟩
 rw [eY, ew4, List.append_assoc] at hO4
 have hO4 : Hid (Grommet.Own w0 w4 (Ps ++ [geoB G I B, boxP R 41 #[.string s, .int .i64 (m : Int)], bmP XM g 1 I B n, dirP X g I B XM, boxP Y 41 #[.string (str xn), .int .i64 (xm : Int)]])) := Lib.hid hO4
 have hOs := Lib.hid hO4.out.less
 clear hO3 hO2 HFx c0 c1 c2 c3 c4 ew2 eX z0 z1
 rcases hfi with ⟨ok, _, _, rfl⟩ | ⟨ok, ⟨k, hk, rfl, hx, he⟩, rfl⟩ | ⟨ok, hno, _, _, rfl⟩
 ·as_aux_lemma =>
  have Hok := Lib.hid ok
  clear ok hO4 HAd
  go_wp2_with fail
  all_goals (try rw [ew4])
  go_wp2_with fail
  go_ret
  exact .inl ⟨Hok.out, rfl, hOs.out⟩
 ·as_aux_lemma =>
  have Hok := Lib.hid (And.intro ok (And.intro hk he))
  clear ok hk hx he hO4 HAd
  go_wp2_with fail
  all_goals (try rw [ew4])
  go_wp2_with fail
  go_ret
  exact .inr (.inl ⟨Hok.out.1, ⟨k, Hok.out.2⟩, rfl, hOs.out⟩)
 ·as_aux_lemma =>
  have HAx := Lib.hid (HAd.out ok G R X XM Y (xn, xm) w4 hO4.out)
  have Hok := Lib.hid (And.intro ok hno)
  obtain ⟨c0, c1, c2, c3, c4⟩ := dirP_cells hO4.out (app_at 3 rfl)
  obtain ⟨z0, z1, _⟩ := ebox_cells hO4.out (app_at 1 rfl)
  clear ok hno hO4 hOs HAd
  go_wp2_with fail
  all_goals (try rw [ew4])
  go_wp2_with fail
  refine HAx.out.mono ?_
  rintro e w5 he
  have he := Lib.hid (EAdd.less Hv.out he)
  obtain ⟨en, hen⟩ : ∃ en : Int, e = .returned (.int .i64 en) := by
   rcases he.out with ⟨h1, _⟩ | ⟨_, _, _, _, h1, _⟩ | ⟨_, _, _, _, _, h1, _⟩ <;> exact ⟨_, h1⟩
  subst hen
  clear HAx c0 c1 c2 c3 c4 z0 z1
  go_wp2_with fail
  go_ret
  exact .inr (.inr ⟨Hok.out.1, Hok.out.2, he.out⟩)
end Go.Proofs.YtfljlmmiiccooaaDoor
end
section
namespace Go.Proofs.YtfljlmmiiccooaaDoor
open Go.RowKit Go.Grommet Go.Shelf
attribute [local go_sem] Oper.semAt_some
set_option linter.unusedVariables false
def lsN (E : Nat → List UInt8 × Nat) (j : Nat) : List (List UInt8 × Nat) := ((List.range j).map E).filter (fun x => !isNone x)
def lsE (E : Nat → List UInt8 × Nat) : List (List UInt8 × Nat) := lsN E 12
theorem lsN_succ (E : Nat → List UInt8 × Nat) (j : Nat) : lsN E (j + 1) = lsN E j ++ (if isNone (E j) = true then [] else [E j]) := by
 unfold lsN
 rw [List.range_succ, List.map_append, List.filter_append]
 congr 1
 by_cases h : isNone (E j) = true
 ·rw [if_pos h]; simp [h]
 ·rw [if_neg h]; simp [h]
theorem lsN_len (E : Nat → List UInt8 × Nat) (j : Nat) : (lsN E j).length ≤ j := by
 unfold lsN
 refine Nat.le_trans (List.length_filter_le _ _) ?_
 simp
def eCells (l : List (List UInt8 × Nat)) : List Value := l.flatMap fun x => [.string (str x.1), .int .i64 (x.2 : Int)]
theorem eCells_snoc (l : List (List UInt8 × Nat)) (x : List UInt8 × Nat) : eCells (l ++ [x]) = eCells l ++ [.string (str x.1), .int .i64 (x.2 : Int)] := by unfold eCells; simp
theorem infoEnt : (Tryd.prog.info? 41).map (fun i => (i.zero, i.size, i.bytes)) = some (some (.agg #[.string ⟨#[]⟩, .int .i64 0]), 2, 24) := by kernel_rfl
theorem run_append_ent (w : World) (base : Nat) (ty : TypeId) (v : Value) (k : Nat) (xs : List Value) (hown : w.ownsRow base 41 2 v k xs) (tmp : Nat) (s : ByteArray) (m : Int) (ht : w.heap[tmp]? = some (.cells #[.string s, .int .i64 m] 41 (0, 0))) (hk : k ≤ 100000) (hb : base ≤ w.heap.size) :
  ∃ ad cap w', (Builtin.append_ #[47, 47] ty #[v, .slice (some ⟨tmp, 0, none⟩) 1 1]).run Tryd.prog w = .ok (.slice ad (k + 1) cap) w' ∧ w'.ownsRow base 41 2 (.slice ad (k + 1) cap) (k + 1) (xs ++ [.string s, .int .i64 m]) ∧ w.grownBy w' v.ownBlock ∧
   (∀ g, (Value.slice ad (k + 1) cap).ownBlock = some g → v.ownBlock = some g ∨ w.heap.size ≤ g) := by
 obtain ⟨i0, hi, hz0, hz1, hz2⟩ := info_parts infoEnt
 obtain ⟨v', w', hr, h2, h3, h4⟩ := run_append_blk (P := Tryd.prog) w base 47 ty 41 i0 (.agg #[.string ⟨#[]⟩, .int .i64 0]) 2 24 Tryd.underlying47 hi hz0 hz1 hz2 rfl (by decide) v k xs hown ⟨tmp, 0, none⟩ 1 1 [.string s, .int .i64 m] rfl (at_of_row ht).some (by intro u hu; simp at hu; rcases hu with rfl | rfl <;> rfl) (by unfold maxLen; omega) (by omega) hb
 obtain ⟨ad', cap', rfl, _⟩ := row_slice h2
 exact ⟨ad', cap', w', hr, h2, h3, h4⟩
theorem wpListIn_appE {F : Fence} {n : Nat} {w : World} {ops : Array Oper} {rest : List Oper} {o : Oper} {a : Act} {Q : Exit → Act → World → Prop} (hg : o.guard = none) (s x : Operand)
  (hop : o.op = Op.call { callee := Callee.builtin Builtin.append, args := #[s, x], argTypes := #[47, 47] }) (v : Value) (k : Nat) (xs : List Value) (hs : a.eval s = v) (hown : w.ownsRow 0 41 2 v k xs) (tmp : Nat) (t : ByteArray) (y : Int) (hx : a.eval x = .slice (some ⟨tmp, 0, none⟩) 1 1)
  (ht : w.heap[tmp]? = some (.cells #[.string t, .int .i64 y] 41 (0, 0))) (hk : k ≤ 100000)
  (h : ∀ ad cap w', w'.ownsRow 0 41 2 (.slice ad (k + 1) cap) (k + 1) (xs ++ [.string t, .int .i64 y]) → w.grownBy w' v.ownBlock → (∀ g, (Value.slice ad (k + 1) cap).ownBlock = some g → v.ownBlock = some g ∨ w.heap.size ≤ g) → wpListIn F n Tryd.prog ops Q rest (a.put o.dst (.slice ad (k + 1) cap)) w') :
  wpListIn F n Tryd.prog ops Q (o :: rest) a w := by
 refine wpListIn_plain hg fun K hK' => ?_
 obtain ⟨ad', cap', w', hrun, r1, r2, r3⟩ := run_append_ent w 0 o.type v k xs hown tmp t y ht hk (Nat.zero_le _)
 unfold Oper.wpIn
 refine ⟨?_, ?_⟩
 ·simp [Oper.about, hop, resolve, Target.leads, Sem.run_pure]
 ·rw [Oper.semAt_plain F _ _ (by rw [hop]; intro c hc'; cases hc')]
  simp [execOp, hop, resolve, invoke, builtin, hs, hx, hrun, Result.andThen]
  exact hK' _ _ (h ad' cap' w' r1 r2 r3)
def LQ (Ps : List Pr) (G R Q D V g I B n XM : Nat) (r : Value) (v : Value) (m : Nat) (xs : List Value) (pp : Nat) : List Pr :=
 Ps ++ [geoB G I B, boxP R 47 #[r], boxP Q 37 #[.int .i64 0], bmP XM g 1 I B n, dirP D g I B XM, boxP V 47 #[v], rowP 41 2 v m xs, boxP pp 3 #[.int .i64 0]]
theorem LQ_app {Ps Rs : List Pr} {G R Q D V g I B n XM : Nat} {r v : Value} {m : Nat} {xs : List Value} {pp : Nat} : LQ Ps G R Q D V g I B n XM r v m xs pp ++ Rs = Ps ++ ([geoB G I B, boxP R 47 #[r], boxP Q 37 #[.int .i64 0], bmP XM g 1 I B n, dirP D g I B XM, boxP V 47 #[v], rowP 41 2 v m xs, boxP pp 3 #[.int .i64 0]] ++ Rs) := by unfold LQ; rw [List.append_assoc]
theorem LQ_solid {Ps : List Pr} (hs : ∀ Q ∈ Ps, Solid Q) (G R Q D V g I B n XM : Nat) (r v : Value) (m : Nat) (xs : List Value) (pp : Nat) : ∀ X ∈ LQ Ps G R Q D V g I B n XM r v m xs pp, Solid X := by
 refine solid_app hs (fun X hX => ?_)
 simp only [List.mem_cons, List.not_mem_nil, or_false] at hX
 rcases hX with rfl | rfl | rfl | rfl | rfl | rfl | rfl | rfl
 ·exact solid_box _ _ _
 ·exact solid_box _ _ _
 ·exact solid_box _ _ _
 ·exact solid_box _ _ _
 ·exact solid_box _ _ _
 ·exact solid_box _ _ _
 ·exact solid_row _ _ _ _ _
 ·exact solid_box _ _ _
structure LC (R Q D V g I B XM : Nat) (r v : Value) (pp : Nat) (w : World) : Prop where
 d0 : w.cell? ⟨D, 0, none⟩ = some (.pointer (some ⟨g, 0, none⟩))
 d1 : w.cell? ⟨D, 1, none⟩ = some (.int .i64 1)
 d2 : w.cell? ⟨D, 2, none⟩ = some (.int .i64 (I : Int))
 d3 : w.cell? ⟨D, 3, none⟩ = some (.int .i64 (B : Int))
 d4 : w.cell? ⟨D, 4, none⟩ = some (.pointer (some ⟨XM, 0, none⟩))
 r0 : w.cell? ⟨R, 0, none⟩ = some r
 r1 : w.frozen? ⟨R, 0, none⟩ = false
 q0 : w.cell? ⟨Q, 0, none⟩ = some (.int .i64 0)
 q1 : w.frozen? ⟨Q, 0, none⟩ = false
 v0 : w.cell? ⟨V, 0, none⟩ = some v
 v1 : w.frozen? ⟨V, 0, none⟩ = false
 p0 : w.cell? ⟨pp, 0, none⟩ = some (.int .i64 0)
theorem LC.of {w0 w : World} {Ps Rs : List Pr} {G R Q D V g I B n XM : Nat} {r v : Value} {m : Nat} {xs : List Value} {pp : Nat} (h : Grommet.Own w0 w (LQ Ps G R Q D V g I B n XM r v m xs pp ++ Rs)) : LC R Q D V g I B XM r v pp w := by
 rw [LQ_app] at h
 obtain ⟨c0, c1, c2, c3, c4⟩ := dirP_cells h (app_at 4 rfl)
 have b1 := h.box _ (app_at 1 rfl)
 have b2 := h.box _ (app_at 2 rfl)
 have b5 := h.box _ (app_at 5 rfl)
 have b7 := h.box _ (app_at 7 rfl)
 exact ⟨c0, c1, c2, c3, c4, by simp [World.cell?, b1], by simp [World.frozen?, b1], by simp [World.cell?, b2], by simp [World.frozen?, b2], by simp [World.cell?, b5], by simp [World.frozen?, b5], by simp [World.cell?, b7]⟩
theorem LQ_row {w0 w : World} {Ps Rs : List Pr} {G R Q D V g I B n XM : Nat} {r v : Value} {m : Nat} {xs : List Value} {pp : Nat} (h : Grommet.Own w0 w (LQ Ps G R Q D V g I B n XM r v m xs pp ++ Rs)) : w.ownsRow 0 41 2 v m xs := by
 rw [LQ_app] at h
 exact h.row _ (app_at 6 rfl)
theorem LQ_grow {w0 w w' : World} {Ps Rs : List Pr} {G R Q D V g I B n XM : Nat} {r v v' : Value} {m m' : Nat} {xs ys : List Value} {pp : Nat} (h : Grommet.Own w0 w (LQ Ps G R Q D V g I B n XM r v m xs pp ++ Rs)) (hr : w'.ownsRow 0 41 2 v' m' ys) (hg : w.grownBy w' v.ownBlock)
  (hb : ∀ g, v'.ownBlock = some g → v.ownBlock = some g ∨ w.heap.size ≤ g) : (w'.cell? ⟨V, 0, none⟩ = some v ∧ w'.frozen? ⟨V, 0, none⟩ = false) ∧ Grommet.Own w0 (w'.setCell ⟨V, 0, none⟩ v') (LQ Ps G R Q D V g I B n XM r v' m' ys pp ++ Rs) := by
 rw [LQ_app] at h ⊢
 have h1 := h.grows _ (app_at 6 rfl) hr hg hb
 rw [set_mid] at h1
 have b5 := h1.box _ (app_at 5 rfl)
 have h2 := h1.putBox _ (app_at 5 rfl) 0 v'
 rw [set_mid] at h2
 exact ⟨⟨by simp [World.cell?, b5], by simp [World.frozen?, b5]⟩, h2⟩
theorem LQ_put {w0 w : World} {Ps Rs : List Pr} {G R Q D V g I B n XM : Nat} {r v : Value} {m : Nat} {xs : List Value} {pp : Nat} (h : Grommet.Own w0 w (LQ Ps G R Q D V g I B n XM r v m xs pp ++ Rs)) (u : Value) :
  ∃ wn, (w.setCell ⟨R, 0, none⟩ u).setCell ⟨Q, 0, none⟩ (.int .i64 0) = wn ∧ Grommet.Own w0 wn (LQ Ps G R Q D V g I B n XM u v m xs pp ++ Rs) := by
 rw [LQ_app] at h ⊢
 have h1 := h.putBox _ (app_at 1 rfl) 0 u
 rw [set_mid] at h1
 have h2 := h1.putBox _ (app_at 2 rfl) 0 (.int .i64 0)
 rw [set_mid] at h2
 exact ⟨_, rfl, h2⟩
def LI (w0 : World) (Ps : List Pr) (G R Q D V g I B n XM : Nat) (pp : Nat) (E : Nat → List UInt8 × Nat) (pre : List (Fin 12)) (W : World) : Prop :=
 ∃ ad cp, Grommet.Own w0 W (LQ Ps G R Q D V g I B n XM (.slice none 0 0) (.slice ad (lsN E pre.length).length cp) (lsN E pre.length).length (eCells (lsN E pre.length)) pp)
theorem ListE {I B n : Nat} {ns : Nat → Prop} {f0 : Nat → Nat} {xs : List Nat} {L : List (Nat × Nat)} {P : Nat → Nat → Nat} {E : Nat → List UInt8 × Nat} (F : Est I B ns n f0 xs L P E) (kv g : Nat) (w0 w : World) (Ps : List Pr) (h : Grommet.Own w0 w Ps) (hsol : ∀ Q ∈ Ps, Solid Q) (hv : Ps[kv]? = some (viewP g xs L)) :
  Calls Tryd.prog 19 #[.pointer (some ⟨g, 0, none⟩), gv ((1 : Nat) : Int) (I : Int) (B : Int), .int .i64 (n : Int)] w fun e w' => ∃ ad cp, e = .returned (.tuple #[.slice ad (lsE E).length cp, .int .i64 0]) ∧ Grommet.Own w0 w' (Ps ++ [rowP 41 2 (.slice ad (lsE E).length cp) (lsE E).length (eCells (lsE E))]) := by
 have HOp := Lib.hid (fun wx Qs (hx : Grommet.Own w0 wx (Ps ++ Qs)) => openD F kv g w0 wx (Ps ++ Qs) hx (app_old hv))
 have HEn := Lib.hid (fun k (hk : k < 12) XM wx Qs km (hx : Grommet.Own w0 wx (Ps ++ Qs)) (hm : (Ps ++ Qs)[km]? = some (bmP XM g 1 I B n)) => entryD F k hk kv km g XM w0 wx (Ps ++ Qs) hx (app_old hv) hm)
 have Hzero := Lib.hid (fun k (hk : k < 12) (he : (E k).1 = []) => F.no k hk ((F.none_iff hk).1 he))
 have Hsol := Lib.hid hsol
 have hw0 := h.grown.size
 have a1 := h.addBox 31 #[.int .i64 1, .int .i64 (I : Int), .int .i64 (B : Int)]
 obtain ⟨G, eG⟩ : ∃ G, w.heap.size = G := ⟨_, rfl⟩
 obtain ⟨u1, eu1⟩ : ∃ u, w.alloc (.cells #[.int .i64 1, .int .i64 (I : Int), .int .i64 (B : Int)] 31) = u := ⟨_, rfl⟩
 rw [eG, eu1] at a1
 have a2 := a1.addBox 47 #[.slice none 0 0]
 obtain ⟨R, eR⟩ : ∃ G, u1.heap.size = G := ⟨_, rfl⟩
 obtain ⟨u2, eu2⟩ : ∃ u, u1.alloc (.cells #[.slice none 0 0] 47) = u := ⟨_, rfl⟩
 rw [eR, eu2] at a2
 have a3 := a2.addBox 37 #[.int .i64 0]
 obtain ⟨Q, eQ⟩ : ∃ G, u2.heap.size = G := ⟨_, rfl⟩
 obtain ⟨u3, eu3⟩ : ∃ u, u2.alloc (.cells #[.int .i64 0] 37) = u := ⟨_, rfl⟩
 rw [eQ, eu3] at a3
 have nRQ : Q = R + 1 := by rw [← eQ, ← eu2]; simp [eR]
 have Hn := Lib.hid (show R ≠ Q ∧ Q ≠ R by omega)
 simp only [List.append_assoc] at a3
 have hO : Hid (Grommet.Own w0 u3 (Ps ++ [geoB G I B, boxP R 47 #[.slice none 0 0], boxP Q 37 #[.int .i64 0]])) := Lib.hid a3
 obtain ⟨y0, y1, y2⟩ := geo_cells hO.out (app_at 0 rfl)
 clear h a1 a2 a3 hv hsol F nRQ
 unfold gv dirV dirC at *
 refine (callsIn_wide (n := 9)).1 ?_
 refine callsIn_of_wp_marks Tryd.func19 rfl trivial ?_ rfl
 simp only [Tryd.ntmps19, List.size_toArray, List.length_cons, List.length_nil, Nat.reduceAdd, Nat.reduceSub, Array.replicate_succ, Array.replicate_zero, List.push_toArray, List.append_toArray, List.nil_append, List.cons_append]
 gi_wp2_with fail
 all_goals (try rw [eu1]); (try rw [eu2]); (try rw [eu3]); (try rw [eR]); (try rw [eQ]); (try rw [eG])
 gi_wp2_with fail
 refine ⟨trivial, (callsIn_wide.2 (HOp.out _ _ hO.out)).mono ?_⟩
 rintro e w1 ⟨XM, rfl, hO1⟩
 rw [List.append_assoc] at hO1
 have hO2 := hO1.addBox 67 #[.pointer (some ⟨g, 0, none⟩), .int .i64 1, .int .i64 (I : Int), .int .i64 (B : Int), .pointer (some ⟨XM, 0, none⟩)]
 obtain ⟨D, eD⟩ : ∃ X, w1.heap.size = X := ⟨_, rfl⟩
 obtain ⟨w2, ew2⟩ : ∃ w2, w1.alloc (.cells #[.pointer (some ⟨g, 0, none⟩), .int .i64 1, .int .i64 (I : Int), .int .i64 (B : Int), .pointer (some ⟨XM, 0, none⟩)] 67) = w2 := ⟨_, rfl⟩
 rw [eD, ew2, List.append_assoc] at hO2
 have hO3 := hO2.addBox 47 #[.slice none 0 0]
 obtain ⟨V, eV⟩ : ∃ X, w2.heap.size = X := ⟨_, rfl⟩
 obtain ⟨w3, ew3⟩ : ∃ w3, w2.alloc (.cells #[.slice none 0 0] 47) = w3 := ⟨_, rfl⟩
 rw [eV, ew3] at hO3
 have hO4 := hO3.nilRow 41 2
 have hO5 := hO4.addBox 3 #[.int .i64 ((0 : Nat) : Int)]
 obtain ⟨pp, epp⟩ : ∃ X, w3.heap.size = X := ⟨_, rfl⟩
 rw [epp] at hO5
 have hsz3 : w0.heap.size ≤ w3.heap.size := hO3.grown.size
 have hO5 := Lib.hid hO5
 clear hO hO1 hO2 hO3 hO4 HOp y0 y1 y2 eu1 eu2 eu3 eG eR eQ
 gi_wp2_with fail
 all_goals (try rw [ew2]); (try rw [eD]); (try rw [ew3]); (try rw [eV])
 gi_wp2_with fail
 refine ⟨trivial, (callsIn_wide.2 (ePlaces _ 0)).mono ?_⟩
 rintro e w4 ⟨rfl, hw4⟩
 have hO6 : Grommet.Own w0 w4 (LQ Ps G R Q D V g I B n XM (.slice none 0 0) (.slice none 0 0) 0 [] pp) := by
  have h := hO5.out
  rw [show ((0 : Nat) : Int) = 0 from rfl, ← hw4] at h
  simp only [List.append_assoc] at h
  exact h
 have hsz4 : w0.heap.size ≤ w4.heap.size := by rw [hw4]; simp; omega
 rw [epp]
 clear hO5 hw4 epp ew2 eD ew3 eV hsz3
 have hO6 := Lib.hid hO6
 gi_wp2_with fail
 refine' wpIn_range_plainK (α := Fin 12) rfl (by omega) (gf := 59) (lb := #[.pointer (some ⟨pp, 0, none⟩)]) rfl trivial (enters_of Tryd.func59 (by kernel_rfl) rfl) (encs := encE 0)
  (eplaces_plain 8 w4 pp 0 (by decide)) (Below.refl _ _) (fun _ => rfl)
  (LI w0 Ps G R Q D V g I B n XM pp E) (fun _ _ _ => False)
  (fun pre W W' row h hg hr => by
   obtain ⟨ad, cp, h⟩ := h
   exact ⟨ad, cp, own_keep h (LQ_solid Hsol.out _ _ _ _ _ _ _ _ _ _ _ _ _ _ _) hsz4 hg hr⟩)
  (fun _ _ _ _ _ h => h.elim)
  ⟨none, 0, hO6.out⟩ _ (fun pre W h => by
   obtain ⟨ad, cp, h⟩ := h
   exact (LC.of (Rs := []) (by rw [List.append_nil]; exact h)).p0) ?assign ?body ?done ?stop
 case stop => intro _ _ _ _ _ _ h; exact h.elim
 case assign =>
  intro l x W K hK
  unfold encE
  gi_wp2
  exact hK
 case body =>
  rintro l pre ⟨i, hi⟩ W hL hlen lp hbk
  obtain rfl : pre.length = i := hlen
  obtain ⟨ad, cp, hO⟩ := hL
  have hO4 := hO.withObjs (LQ_solid Hsol.out _ _ _ _ _ _ _ _ _ _ _ _ _ _ _) hsz4 hbk.marks rfl hbk.lp rfl
  have hc := LC.of hO4
  obtain ⟨c0, c1, c2, c3, c4⟩ := And.intro hc.d0 (And.intro hc.d1 (And.intro hc.d2 (And.intro hc.d3 hc.d4)))
  obtain ⟨K, hKe⟩ : ∃ K, pl 0 pre.length = K := ⟨_, rfl⟩
  have hK12 : K < 12 := by rw [← hKe]; exact pl_lt _ _
  have hKp : K = pre.length := by rw [← hKe]; unfold pl; omega
  have HE := Lib.hid (HEn.out K hK12 XM W _ (Ps.length + 3) (by rw [← LQ_app]; exact hO4) (app_at 3 rfl))
  simp only [hKe]
  obtain ⟨⟨xn, xm⟩, hx⟩ : ∃ x, E K = x := ⟨_, rfl⟩
  rw [hx, enV_mk] at HE
  obtain ⟨m, hm⟩ : ∃ m, (lsN E pre.length).length = m := ⟨_, rfl⟩
  have hm12 : m ≤ 100 := by have := lsN_len E pre.length; omega
  have Hx := Lib.hid (And.intro hx (And.intro hKp hm))
  have Hz := Lib.hid (Hzero.out K hK12)
  have hO4 := Lib.hid hO4
  clear hO hc hKe hx hKp
  gi_wp2_with fail
  refine ⟨trivial, (callsIn_wide.2 HE.out).mono ?_⟩
  rintro e W1 ⟨rfl, hO5⟩
  rw [← LQ_app, hm] at hO5
  have hO6 := hO5.addBox 41 #[.string (str xn), .int .i64 (xm : Int)]
  obtain ⟨X, eX⟩ : ∃ X, W1.heap.size = X := ⟨_, rfl⟩
  obtain ⟨W2, eW2⟩ : ∃ W2, W1.alloc (.cells #[.string (str xn), .int .i64 (xm : Int)] 41) = W2 := ⟨_, rfl⟩
  rw [eX, eW2, List.append_assoc] at hO6
  have hO6 := Lib.hid hO6
  obtain ⟨z0, z1⟩ : W2.cell? ⟨X, 0, none⟩ = some (.string (str xn)) ∧ W2.cell? ⟨X, 1, none⟩ = some (.int .i64 (xm : Int)) := by
   have h := hO6.out
   rw [← List.append_assoc] at h
   obtain ⟨h0, h1, _⟩ := ebox_cells (v0 := .string (str xn)) (v1 := .int .i64 (xm : Int)) h (app_at 0 rfl)
   exact ⟨h0, h1⟩
  have te : (⟨#[]⟩ : ByteArray).toList = [] := by rw [ByteArray.toList_eq]
  clear hO5 hO4 HE c0 c1 c2 c3 c4
  by_cases hxn : xn = []
  ·as_aux_lemma =>
   have hx0 := Hz.out (by rw [Hx.out.1]; exact hxn)
   rw [Hx.out.1] at hx0
   obtain ⟨rfl, rfl⟩ := Prod.mk.inj hx0
   have hfin : Hid (Book w4.heap.size lp W2 ∧ LI w0 Ps G R Q D V g I B n XM pp E (pre ++ [(⟨pre.length, hi⟩ : Fin 12)]) W2) := Lib.hid (by
    have h := hO6.out
    rw [← List.append_assoc] at h
    obtain ⟨h1, h2⟩ := objs_back h.less
    refine ⟨h1, ad, cp, ?_⟩
    rw [List.length_append, List.length_singleton, lsN_succ, ← Hx.out.2.1, Hx.out.1, if_pos (by rfl), List.append_nil, Hx.out.2.1, Hx.out.2.2]
    exact h2)
   have qs : str ([] : List UInt8) = ⟨#[]⟩ := rfl
   rw [qs] at eW2 ⊢
   rw [show ((0 : Nat) : Int) = 0 from rfl] at eW2 ⊢
   have HW2 := Lib.hid eW2
   clear hO6 hx0 hxn Hz z0 z1 eW2 eX
   gi_wp2_with fail
   all_goals (try rw [HW2.out])
   exact hfin.out
  ·as_aux_lemma =>
   have qs2 : ¬ (str xn).toList = [] := by rw [toList_str]; exact hxn
   have qs3 : (str xn).toList.isEmpty = false := by rw [toList_str]; simpa using hxn
   have qs : ((str xn).toList == []) = false := by rw [toList_str]; simpa using hxn
   have qs4 : ¬ str xn = ⟨#[]⟩ := fun e => qs2 (by rw [e]; exact te)
   have hc := LC.of hO6.out
   obtain ⟨v0, v1⟩ := And.intro hc.v0 hc.v1
   obtain ⟨W3, eW3⟩ : ∃ W3, W2.alloc (.cells #[.string (str xn), .int .i64 (xm : Int)] 41) = W3 := ⟨_, rfl⟩
   have hOq := hO6.out.quiet (World.grownBy_alloc W2 (.cells #[.string (str xn), .int .i64 (xm : Int)] 41) none)
   rw [eW3] at hOq
   have htm : W3.heap[W2.heap.size]? = some (.cells #[.string (str xn), .int .i64 (xm : Int)] 41 (0, 0)) := by rw [← eW3]; exact heap_alloc_new W2 _
   have hrow := LQ_row hOq
   have hgrow := Lib.hid (fun (w' : World) v' n' ys (hr : w'.ownsRow 0 41 2 v' n' ys) hg hb => LQ_grow hOq (v' := v') hr hg hb)
   have hns : Hid (lsN E (pre.length + 1) = lsN E pre.length ++ [(xn, xm)]) := Lib.hid (by
    rw [lsN_succ, ← Hx.out.2.1, Hx.out.1, if_neg (by unfold isNone; simp [hxn])])
   clear hO6 hc hOq Hz hxn
   gi_wp2_with (gi_at_builtin; (try rw [eW2]); (try rw [eX]); (try rw [eW3]); refine wpListIn_appE rfl _ _ rfl (.slice ad m cp) m _ rfl hrow W2.heap.size (str xn) (xm : Int) rfl htm (by omega) ?_)
   intro ad2 cp2 W4 r1 r2 r3
   obtain ⟨⟨q2, q3⟩, q1⟩ := hgrow.out W4 _ _ _ r1 r2 r3
   rw [← List.append_assoc] at q1
   have hb := objs_back q1.less
   have hfin : Hid (Book w4.heap.size lp (W4.setCell ⟨V, 0, none⟩ (.slice ad2 (m + 1) cp2)) ∧ LI w0 Ps G R Q D V g I B n XM pp E (pre ++ [(⟨pre.length, hi⟩ : Fin 12)]) (W4.setCell ⟨V, 0, none⟩ (.slice ad2 (m + 1) cp2))) := Lib.hid ⟨hb.1, ad2, cp2, by
    rw [List.length_append, List.length_singleton, hns.out, List.length_append, List.length_singleton, Hx.out.2.2, eCells_snoc]
    exact hb.2⟩
   clear q1 r1 r2 r3 hb hgrow hrow
   gi_wp2_with fail
   exact hfin.out
 case done =>
  rintro D' ys W hD hys ⟨ad, cp, hO⟩ hK
  subst hys
  rw [List.length_finRange] at hO
  have hOD := hO.withObj' (LQ_solid Hsol.out _ _ _ _ _ _ _ _ _ _ _ _ _ _ _) (by omega) hK rfl
  have hc := LC.of hOD
  obtain ⟨r0, r1, q0, q1, v0, v1⟩ := And.intro hc.r0 (And.intro hc.r1 (And.intro hc.q0 (And.intro hc.q1 (And.intro hc.v0 hc.v1))))
  obtain ⟨n1, n2⟩ := Hn.out
  obtain ⟨wn, hwn, hOn⟩ := LQ_put hOD (.slice ad (lsN E 12).length cp)
  have hKn := Lib.hid (obj_last hOn)
  have hOn := Lib.hid hOn.less
  have hDw := Lib.hid (show w0.heap.size ≤ D' by omega)
  clear hO hOD hc hK
  gi_wp2_with fail
  all_goals (try rw [hwn])
  refine leaves_own (D := D') hOn.out (LQ_solid Hsol.out _ _ _ _ _ _ _ _ _ _ _ _ _ _ _) hDw.out hKn.out ?_
  intro w' hw'
  have hc := LC.of (Rs := []) (by rw [List.append_nil]; exact hw')
  refine ⟨.tuple #[.slice ad (lsN E 12).length cp, .int .i64 0], by simp [results, Tryd.results19, go_sem, hc.r0, hc.q0], ad, cp, rfl, ?_⟩
  unfold LQ at hw'
  have h6 := Own.skip (Own.skip (Own.skip (Own.skip (Own.skip (Own.skip hw')))))
  exact Own.less (Qs := [boxP pp 3 #[.int .i64 0]]) (by rw [List.append_assoc]; exact h6)
end Go.Proofs.YtfljlmmiiccooaaDoor
end
section
namespace Go.Proofs.YtfljlmmiiccooaaDoor
open Go.RowKit Go.Grommet
set_option linter.unusedVariables false
theorem Small_any (x0 x1 : Nat) (w : World) (h0 : x0 ≤ 255) (h1 : x1 ≤ 255) : Calls Tryd.prog 11 #[.int .u8 (x0 : Int), .int .u8 (x1 : Int)] w fun e w' => e = .returned (gv ((1 : Nat) : Int) ((2 + x0 % 20 : Nat) : Int) ((2 + x1 % 60 : Nat) : Int)) ∧ w.grownBy w' none := by
 obtain ⟨I, hI⟩ : ∃ I, 2 + x0 % 20 = I := ⟨_, rfl⟩
 obtain ⟨B, hB⟩ : ∃ B, 2 + x1 % 60 = B := ⟨_, rfl⟩
 have eA : IntKind.i64.wrap (x0 : Int) = (x0 : Int) := IntWalk.i64_in _ ⟨by omega, by omega⟩
 have eA2 : IntKind.i64.wrap (x1 : Int) = (x1 : Int) := IntWalk.i64_in _ ⟨by omega, by omega⟩
 have e3 : IntKind.i64.wrap (2 + (x0 : Int) % 20) = (I : Int) := by rw [IntWalk.i64_in _ ⟨by omega, by omega⟩]; omega
 have e4 : IntKind.i64.wrap (2 + (x1 : Int) % 60) = (B : Int) := by rw [IntWalk.i64_in _ ⟨by omega, by omega⟩]; omega
 have e3' : 2 + (x0 : Int) % 20 = (I : Int) := by omega
 have e4' : 2 + (x1 : Int) % 60 = (B : Int) := by omega
 rw [hI, hB]
 clear hI hB h0 h1
 unfold gv
 go_enter Tryd.func11, Tryd.ntmps11
 go_wp2_with fail
 exact bodyPost_ret (v := .agg #[.int .i64 1, .int .i64 (I : Int), .int .i64 (B : Int)]) (by simp [results, Tryd.results11, go_sem]) rfl ⟨rfl, World.grownBy_alloc w _ none⟩
theorem Bst.begun {I B : Nat} {ns : Nat → Prop} {xs : List Nat} (hm : mayB ((1 : Nat) : Int) (I : Int) (B : Int) = true) (h64 : B ≤ 64) (hl : xs.length = 488 + 16 * I + 8 * B) (hs : ∀ n ∈ xs, n < 18446744073709551616) (hrg : ∀ n, ns n → 1 ≤ n ∧ n < I) (h480 : xs.getD 480 0 = 1) (hz : ∀ n, ns n → ∀ a, 492 + 16 * n ≤ a → a ≤ 496 + 16 * n → xs.getD a 0 = 0)
  (hb : ∀ n, ns n → rightB ((1 : Nat) : Int) (I : Int) (B : Int) (xs.getD (488 + 16 * n) 0) (xs.getD (489 + 16 * n) 0) (xs.getD (490 + 16 * n) 0) (xs.getD (491 + 16 * n) 0) 0 0 0 0 0 (xs.getD (497 + 16 * n) 0) = true) :
  Bst I B ns (gotV xs []) xs [] (fun _ _ => 0) ∧ cntB xs [] B = 1 ∧ Br ns (fun _ _ => 0) := by
 have hmN := mayN hm
 have g : ∀ a, gotV xs [] a = xs.getD a 0 := fun a => rfl
 have hbit : ∀ m, m < 64 → ((1 : Nat).testBit m = true ↔ m = 0) := fun m _ => by
  rw [show (1 : Nat) = 2 ^ 0 from rfl, Nat.testBit_two_pow]
  simp
  exact eq_comm
 refine ⟨⟨hm, h64, hl, hs, Wl.nil _, ⟨hrg, fun n k _ _ => by show 0 < B; omega, fun n n' k k' _ _ _ _ h _ => absurd rfl h, fun _ _ _ _ _ _ => rfl, fun n k hn hk => hz n hn _ (by omega) (by omega), fun n hn => hz n hn _ (by omega) (by omega), fun n k _ h _ _ => absurd rfl h, fun m hm => ?_, fun a _ _ _ => rfl⟩, hb⟩, ?_, fun n _ h => absurd rfl h⟩
 ·rw [g, h480, hbit m hm]
  constructor
  ·exact .inl
  ·rintro (h | ⟨_, _, _, _, h⟩)
   ·exact h
   ·exact h.symm
 ·unfold cntB
  have e : ∀ i, i < B → mbit xs [] (272 + 208 * 1) i = decide (i < 1) := fun i hi => by
   rw [mbit_480 (by omega), g, h480]
   have := hbit i (by omega)
   by_cases h : i = 0
   ·subst h; rfl
   ·rw [show decide (i < 1) = false by simp; omega]
    cases hx : (1 : Nat).testBit i
    ·rfl
    ·exact absurd (this.1 hx) h
  rw [cntF_congr B e]
  have := cntF_clip (fun _ => true) 1 B (by omega)
  simp only [Bool.and_true] at this
  rw [this]; rfl
theorem RFormatH (a b c N : Nat) (xs : List Nat) (w0 w : World) (Ps : List Pr) (h : Grommet.Own w0 w Ps) (hm : mayB (a : Int) (b : Int) (c : Int) = true) (hN : 280 + 208 * a + 16 * b + 8 * c = N) (hxs : fmtL a b c (264 + 208 * a) N = xs) :
  Calls Tryd.prog 12 #[gv (a : Int) (b : Int) (c : Int)] w fun e w' => ∃ q, e = .returned (.slice (some ⟨q, 0, none⟩) N N) ∧ Grommet.Own w0 w' (Ps ++ [rowP 25 1 (.slice (some ⟨q, 0, none⟩) N N) N (xs.map wv)]) := by
 subst hN
 have hl := length_fmtL a b c (264 + 208 * a) (280 + 208 * a + 16 * b + 8 * c)
 rw [hxs] at hl
 have hmN := mayN hm
 refine (RFormat_any a b c w hm).mono ?_
 rintro e w' ⟨q, rfl, hrow, hq, hg⟩
 rw [hxs] at hrow ⊢
 rw [hl]
 refine ⟨q, rfl, h.addRow ⟨by simp [hl], .inr ⟨q, 280 + 208 * a + 16 * b + 8 * c, _, rfl, hq, hrow, Nat.le_refl _, by unfold maxLen; omega, by simp [hl], by rw [List.take_of_length_le (by simp [hl])]⟩⟩ hg⟩
theorem fmt_small' (a b c N : Nat) (hm : mayB (a : Int) (b : Int) (c : Int) = true) : ∀ n ∈ fmtL a b c (264 + 208 * a) N, n < 18446744073709551616 := by
 have := mayN hm
 exact fmtL_lt a b c _ N (by omega) (by omega) (by omega)
theorem fmt_get' (a b c m N i : Nat) (h : i < N) : (fmtL a b c m N).getD i 0 = fmtAt a b c m i := by
 rw [List.getD_eq_getElem?_getD, get_fmtL _ _ _ _ _ _ h]; rfl
theorem fmt_472 (I B N a : Nat) (h : 480 ≤ a) (ha : a < N) : (fmtL 1 I B (264 + 208 * 1) N).getD a 0 = if a = 480 then 1 else if a = 504 then 2 else if a = 505 then 1 else 0 := by
 rw [fmt_get' _ _ _ _ _ _ ha]
 unfold fmtAt
 rw [if_neg (by omega), if_neg (by omega), if_neg (by omega), if_neg (by omega), if_neg (by omega)]
theorem set_getD (xs : List Nat) (i v a : Nat) (hi : i < xs.length) : (xs.set i v).getD a 0 = if a = i then v else xs.getD a 0 := by
 by_cases h : a = i
 ·subst h; rw [if_pos rfl, List.getD_eq_getElem?_getD, List.getElem?_set_self hi]; rfl
 ·rw [if_neg h, List.getD_eq_getElem?_getD, List.getElem?_set_ne (fun e => h e.symm), ← List.getD_eq_getElem?_getD]
end Go.Proofs.YtfljlmmiiccooaaDoor
end
section
namespace Go.Proofs.YtfljlmmiiccooaaDoor
open Go.RowKit Go.Grommet
set_option linter.unusedVariables false
theorem begun_dir {I B N : Nat} (hI : 2 ≤ I) (hI2 : I ≤ 64) (hB : 2 ≤ B) (h64 : B ≤ 61) (hN : 488 + 16 * I + 8 * B = N) :
  Est I B (fun n => n = 1) 1 (gotV (fmtL 1 I B (264 + 208 * 1) N) []) (fmtL 1 I B (264 + 208 * 1) N) [] (fun _ _ => 0) (fun _ => ([], 0)) ∧ cntB (fmtL 1 I B (264 + 208 * 1) N) [] B = 1 := by
 have hm : mayB ((1 : Nat) : Int) (I : Int) (B : Int) = true := by unfold mayB; simp; omega
 have hl : (fmtL 1 I B (264 + 208 * 1) N).length = N := length_fmtL _ _ _ _ _
 obtain ⟨b1, b2, b3⟩ := Bst.begun (I := I) (B := B) (ns := fun n => n = 1) (xs := fmtL 1 I B (264 + 208 * 1) N) hm (by omega) (by rw [hl, hN]) (fmt_small' 1 I B N hm) (fun n hn => by omega) (by rw [fmt_472 _ _ _ _ (by omega) (by omega)]; rfl) (fun n hn a h1 h2 => by
  subst hn
  rw [fmt_472 _ _ _ _ (by omega) (by omega), if_neg (by omega), if_neg (by omega), if_neg (by omega)]) (fun n hn => by
  subst hn
  have e0 : (fmtL 1 I B (264 + 208 * 1) N).getD (488 + 16 * 1) 0 = 2 := by rw [fmt_472 _ _ _ _ (by omega) (by omega)]; rfl
  have e1 : (fmtL 1 I B (264 + 208 * 1) N).getD (489 + 16 * 1) 0 = 1 := by rw [fmt_472 _ _ _ _ (by omega) (by omega)]; rfl
  have e2 : (fmtL 1 I B (264 + 208 * 1) N).getD (490 + 16 * 1) 0 = 0 := by rw [fmt_472 _ _ _ _ (by omega) (by omega)]; rfl
  have e3 : (fmtL 1 I B (264 + 208 * 1) N).getD (491 + 16 * 1) 0 = 0 := by rw [fmt_472 _ _ _ _ (by omega) (by omega)]; rfl
  have e4 : (fmtL 1 I B (264 + 208 * 1) N).getD (497 + 16 * 1) 0 = 0 := by rw [fmt_472 _ _ _ _ (by omega) (by omega)]; rfl
  rw [e0, e1, e2, e3, e4]
  unfold rightB
  rw [decide_eq_true_eq]
  exact ⟨hm, by omega, by omega, by omega, by omega, by omega, by omega, fun _ => by first | rfl | omega, fun _ => by first | rfl | omega, by omega, by omega, by omega, by omega⟩)
 refine ⟨⟨b1, b3, rfl, ?_, fun k hk h0 => rfl, fun k hk h0 => absurd rfl h0⟩, b2⟩
 show (fmtL 1 I B (264 + 208 * 1) N).getD (488 + 16 * 1) 0 = 2
 rw [fmt_472 _ _ _ _ (by omega) (by omega)]; rfl
def eN (E : Nat → List UInt8 × Nat) : Nat := cntF (fun k => !isNone (E k)) 12
theorem lsN_cnt (E : Nat → List UInt8 × Nat) : ∀ j, (lsN E j).length = cntF (fun k => !isNone (E k)) j
 | 0 => rfl
 | j + 1 => by
  rw [lsN_succ, List.length_append, lsN_cnt E j]
  show _ = cntF (fun k => !isNone (E k)) j + (!isNone (E j)).toNat
  congr 1
  cases h : isNone (E j) <;> rfl
theorem lsE_len (E : Nat → List UInt8 × Nat) : (lsE E).length = eN E := lsN_cnt E 12
theorem eN_put {E : Nat → List UInt8 × Nat} {k : Nat} (hk : k < 12) (x : List UInt8 × Nat) : eN (fun j => if j = k then x else E j) + (!isNone (E k)).toNat = eN E + (!isNone x).toNat := by
 have h := cntF_turn (f := fun j => !isNone (E j)) (g := fun j => !isNone (if j = k then x else E j)) (k := k) (fun i hi => by simp [hi]) 12 hk
 simpa [eN] using h
theorem eN_full {E : Nat → List UInt8 × Nat} (h : ∀ k, k < 12 → isNone (E k) = false) : eN E = 12 := by
 unfold eN
 rw [cntF_congr (g := fun _ => true) 12 (fun i hi => by rw [h i hi]; rfl)]
 rfl
theorem eN_room {E : Nat → List UInt8 × Nat} {k : Nat} (hk : k < 12) (h : isNone (E k) = true) : eN E < 12 := by
 have h1 := eN_put (E := E) hk ([97], 1)
 have h2 : eN (fun j => if j = k then ([97], 1) else E j) ≤ 12 := cntF_le _ 12
 rw [h, show isNone ([97], 1) = false from by decide] at h1
 simp at h1
 omega
theorem Est.isNone_iff {I B n : Nat} {ns : Nat → Prop} {f0 : Nat → Nat} {xs : List Nat} {L : List (Nat × Nat)} {P : Nat → Nat → Nat} {E : Nat → List UInt8 × Nat} (F : Est I B ns n f0 xs L P E) {k : Nat} (hk : k < 12) : isNone (E k) = true ↔ P n k = 0 := by
 rw [← F.none_iff hk]
 unfold isNone
 constructor
 ·intro hx; simp at hx; exact hx.1
 ·intro hx
  rw [F.no k hk ((F.none_iff hk).1 hx)]; rfl
structure DS (I B : Nat) (f0 : Nat → Nat) (xs : List Nat) (L : List (Nat × Nat)) (P : Nat → Nat → Nat) (E : Nat → List UInt8 × Nat) : Prop where
 e : Est I B (fun n => n = 1) 1 f0 xs L P E
 cnt : cntB xs L B = 1 + nzc (P 1)
theorem DS.flat {I B : Nat} {f0 : Nat → Nat} {xs : List Nat} {L : List (Nat × Nat)} {P : Nat → Nat → Nat} {E : Nat → List UInt8 × Nat} (h : DS I B f0 xs L P E) : DS I B f0 (flatV xs L) [] P E := ⟨h.e.flat, h.e.st.flat.2.trans h.cnt⟩
theorem DS.dropped {I B k : Nat} {f0 : Nat → Nat} {xs : List Nat} {L L' : List (Nat × Nat)} {P P' : Nat → Nat → Nat} {E : Nat → List UInt8 × Nat} (h : DS I B f0 xs L P E) (hk : k < 12) (D : DropR I B (fun n => n = 1) f0 xs L L' P P' 1 k) : DS I B f0 xs L' P' (fun j => if j = k then ([], 0) else E j) :=
 ⟨h.e.dropped hk D, by have := D.cnt; have := h.cnt; omega⟩
theorem DS.begun {I B N : Nat} (hI : 2 ≤ I) (hI2 : I ≤ 64) (hB : 2 ≤ B) (h64 : B ≤ 61) (hN : 488 + 16 * I + 8 * B = N) : DS I B (gotV (fmtL 1 I B (264 + 208 * 1) N) []) (fmtL 1 I B (264 + 208 * 1) N) [] (fun _ _ => 0) (fun _ => ([], 0)) := by
 obtain ⟨h1, h2⟩ := begun_dir hI hI2 hB h64 hN
 exact ⟨h1, by rw [h2]; rfl⟩
theorem ok_of {c : UInt8} {t u : List UInt8} (h : okName (str (97 :: 97 :: t)) = true) (hc : c ≠ 0 ∧ c ≠ 47 ∧ c ≠ 46) (hu : ∀ x ∈ u, x ∈ t ∨ (x ≠ 0 ∧ x ≠ 47)) (hl : u.length ≤ t.length + 1) : okName (str (c :: u)) = true := by
 have hs := okName_size h
 have e1 : (str (97 :: 97 :: t)).size = t.length + 2 := by show (97 :: 97 :: t).length = _; simp
 have e2 : (str (c :: u)).size = u.length + 1 := by show (c :: u).length = _; simp
 rw [e1] at hs
 have ht : ∀ x ∈ t, x ≠ 0 ∧ x ≠ 47 := fun x hx => by
  unfold okName at h
  simp only [Bool.and_eq_true, decide_eq_true_eq] at h
  have h0 := index_lt.1 h.2.2.1 x (show x ∈ (str (97 :: 97 :: t)).data.toList by show x ∈ 97 :: 97 :: t; simp [hx])
  have h1 := index_lt.1 h.2.2.2.1 x (show x ∈ (str (97 :: 97 :: t)).data.toList by show x ∈ 97 :: 97 :: t; simp [hx])
  exact ⟨h0, h1⟩
 refine noBad_may ⟨by omega, by omega, ?_, ?_, fun i hi => ?_⟩
 ·rw [toList_str]; simp [hc.2.2]
 ·rw [toList_str]; simp [hc.2.2]
 ·rw [bytesOf_str]
  rw [e2] at hi
  have hm : (c :: u).getD i 0 ∈ c :: u := by
   rw [List.getD_eq_getElem?_getD, List.getElem?_eq_getElem (by simp; omega)]
   exact List.getElem_mem _
  rcases List.mem_cons.1 hm with h3 | h3
  ·rw [h3]; exact ⟨hc.1, hc.2.1⟩
  ·rcases hu _ h3 with h4 | h4
   ·exact ht _ h4
   ·exact h4
end Go.Proofs.YtfljlmmiiccooaaDoor
end
