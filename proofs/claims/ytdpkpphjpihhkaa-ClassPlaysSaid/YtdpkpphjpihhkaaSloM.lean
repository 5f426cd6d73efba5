/- Package slot: Save, walked. -/
import Derived.Test.YtdpkpphjpihhkaaSloL
namespace Go.Proofs.Ytdpkpphjpihhkaa
open Go.RowKit Go.Grommet

set_option maxRecDepth 100000 in
set_option maxHeartbeats 8000000 in
theorem SaveYes (k g : Nat) (xs : List Nat) (L : List (Nat × Nat)) (i kk at_ sl : Int) (sq en ra rb : Nat) (d : ByteArray) (w0 w : World) (Ps : List Pr) (h : Own w0 w Ps) (hk : Ps[k]? = some (viewP g xs L)) (hat : sessionV i = at_) (ha : 0 ≤ at_ ∧ at_ + 64 ≤ (xs.length : Int)) (hsl : slotV i kk = sl) (hs : 0 ≤ sl ∧ sl ≤ 1000)
    (hsq : 1 ≤ sq ∧ sq ≤ 1099511627776) (hen : en ≤ 24) (hd : d.size ≤ 64) (hra : ra < 18446744073709551616) (hrb : rb < 18446744073709551616) :
    Calls Try.prog 27 #[.pointer (some ⟨g, 0, none⟩), .int .i64 i, .int .i64 kk, .int .u64 (sq : Int), .agg #[.int .i64 (en : Int), .int .u64 (ra : Int), .int .u64 (rb : Int), .string d]] w fun e w' => e = .returned (.int .i64 (allE xs L (saveS sl (en + 256 * d.size) ra rb (words (bytesOf d) ((d.size + 7) / 8)) sq) : Int)) ∧ Own w0 w' (Ps.set k (viewP g xs (allL xs L (saveS sl (en + 256 * d.size) ra rb (words (bytesOf d) ((d.size + 7) / 8)) sq)))) := by
  have hkl := (List.getElem?_eq_some_iff.1 hk).1
  obtain ⟨X, HX⟩ : ∃ X, Hid (X = w.heap.size) := ⟨_, Lib.hid rfl⟩
  have hO : Own w0 (w.alloc (.cells #[.int .i64 (en : Int), .int .u64 (ra : Int), .int .u64 (rb : Int), .string d] 39)) (Ps ++ [boxP X 39 #[.int .i64 (en : Int), .int .u64 (ra : Int), .int .u64 (rb : Int), .string d]]) := by rw [HX.out]; exact h.addBox _ _
  have Hk := Lib.hid (show ∀ Rs, (Ps ++ Rs)[k]? = some (viewP g xs L) from fun Rs => by rw [List.getElem?_append_left hkl]; exact hk)
  have Hres := Lib.hid (fun wx Rs (hO : Own w0 wx (Ps ++ (boxP X 39 #[.int .i64 (en : Int), .int .u64 (ra : Int), .int .u64 (rb : Int), .string d] :: Rs))) => show ResS X (en : Int) (ra : Int) (rb : Int) d wx from Own.box hO Ps.length (get_mid _ _ _))
  have Hhas := Lib.hid (fun wx (hO : Own w0 wx (Ps ++ [boxP X 39 #[.int .i64 (en : Int), .int .u64 (ra : Int), .int .u64 (rb : Int), .string d]])) => hasH k g xs L i at_ w0 wx _ hO (Hk.out _) hat ha)
  have HS := Lib.hid (fun wx => SlotAt_any i kk wx)
  rw [hsl] at HS
  have HM := Lib.hid (fun wx => slotMay_any (en : Int) (ra : Int) (rb : Int) d wx)
  have hm : mayR (en : Int) d.size = true := by
    unfold mayR
    rw [decide_eq_true (by omega : (0 : Int) ≤ (en : Int)), decide_eq_true (by omega : (en : Int) ≤ 24), decide_eq_true hd]; rfl
  rw [hm] at HM
  have HP := Lib.hid (fun wx => Pack_any d wx (by omega))
  obtain ⟨D, HD⟩ : ∃ D, Hid (d.size = D) := ⟨_, Lib.hid rfl⟩
  have eD : (d.size : Int) = (D : Int) := by rw [HD.out]
  rw [HD.out] at HP hd ⊢
  obtain ⟨ws, Hws⟩ : ∃ ws, Hid (words (bytesOf d) ((D + 7) / 8) = ws) := ⟨_, Lib.hid rfl⟩
  rw [Hws.out] at HP ⊢
  obtain ⟨J, HJ⟩ : ∃ J, Hid (ws.length = J) := ⟨_, Lib.hid rfl⟩
  have hJ : J ≤ 8 := by rw [← HJ.out, ← Hws.out, length_words]; omega
  have Hwl : Hid (∀ n ∈ ws, n < 18446744073709551616) := Lib.hid (by
    rw [← Hws.out]
    intro n hn
    obtain ⟨j, _, rfl⟩ := List.mem_map.1 hn
    exact word_lt _ _)
  unfold WordsIs at HP
  rw [HJ.out] at HP
  obtain ⟨C, HC⟩ : ∃ C, Hid (en + 256 * D = C) := ⟨_, Lib.hid rfl⟩
  have hC : C ≤ 100000 := by rw [← HC.out]; omega
  have e1 : IntKind.u64.wrap (en : Int) = (en : Int) := IntWalk.u64_in _ ⟨by omega, by omega⟩
  have e2 : IntKind.u64.wrap (D : Int) = (D : Int) := IntWalk.u64_in _ ⟨by omega, by omega⟩
  have e3 : IntKind.u64.wrap (256 * (D : Int)) = 256 * (D : Int) := IntWalk.u64_in _ ⟨by omega, by omega⟩
  have e4 : IntKind.u64.wrap ((en : Int) + 256 * (D : Int)) = (C : Int) := by rw [← HC.out]; exact (IntWalk.u64_in _ ⟨by omega, by omega⟩).trans (by omega)
  have a0 : IntKind.i64.wrap (sl + 0) = sl := by rw [Int.add_zero]; exact IntWalk.i64_in _ ⟨by omega, by omega⟩
  have a0' : IntKind.i64.wrap sl = sl := IntWalk.i64_in _ ⟨by omega, by omega⟩
  have a1 : IntKind.i64.wrap (sl + 1) = sl + 1 := IntWalk.i64_in _ ⟨by omega, by omega⟩
  have a2 : IntKind.i64.wrap (sl + 2) = sl + 2 := IntWalk.i64_in _ ⟨by omega, by omega⟩
  have a3 : IntKind.i64.wrap (sl + 3) = sl + 3 := IntWalk.i64_in _ ⟨by omega, by omega⟩
  have a4 : IntKind.i64.wrap (sl + 4) = sl + 4 := IntWalk.i64_in _ ⟨by omega, by omega⟩
  have s0 : 0 ≤ sl := hs.1
  have s1b : sl ≤ 1000 := hs.2
  have s0' : decide (0 ≤ sl) = true := by simpa using s0
  have q1 : (1 : Int) ≤ (sq : Int) := by omega
  have q2 : (sq : Int) ≤ 1099511627776 := by omega
  have HSave : Hid (saveS sl (en + 256 * D) ra rb ws sq = [(sl + 1, C), (sl + 2, ra), (sl + 3, rb)] ++ (wordsT sl ws J ++ [(sl, sq)])) := Lib.hid (by unfold saveS; rw [HJ.out, HC.out])
  rw [HSave.out]
  have HOrd := Lib.hid (fun (B W : Pr) (b1 b2 b3 : Nat) (cs : List Nat) ad N cap wx (hl : cs.length = (wordsT sl ws J ++ [(sl, sq)]).length) (hN : N = 3 + (wordsT sl ws J ++ [(sl, sq)]).length) h =>
    saveOrd k g xs L Ps B W b1 b2 b3 (sl + 1, C) (sl + 2, ra) (sl + 3, rb) cs (wordsT sl ws J ++ [(sl, sq)]) ad N cap w0 wx hk hl hN (by rw [hN, List.length_append, wordsT_length]; simp; omega) (by
      intro s hs
      rcases List.mem_append.1 hs with hs | hs
      · rcases List.mem_cons.1 hs with rfl | hs
        · show C < _; omega
        · rcases List.mem_cons.1 hs with rfl | hs
          · exact hra
          · rw [List.mem_singleton.1 hs]; exact hrb
      · rcases List.mem_append.1 hs with hs | hs
        · exact wordsT_small sl ws Hwl.out J s hs
        · rw [List.mem_singleton.1 hs]; show sq < _; omega) h)
  have HLt : Hid ((wordsT sl ws J ++ [(sl, sq)]).length = J + 1) := Lib.hid (by rw [List.length_append, wordsT_length]; rfl)
  have HLn := Lib.hid (fun j => wordsT_length sl ws j)
  have HTs := Lib.hid (fun (j : Nat) => show wordsT sl ws (j + 1) = wordsT sl ws j ++ [(sl + 4 + (j : Int), ws.getD j 0)] from rfl)
  have HT0 := Lib.hid (show wordsT sl ws 0 = [] from rfl)
  generalize allE xs L ([(sl + 1, C), (sl + 2, ra), (sl + 3, rb)] ++ (wordsT sl ws J ++ [(sl, sq)])) = EE at *
  generalize allL xs L ([(sl + 1, C), (sl + 2, ra), (sl + 3, rb)] ++ (wordsT sl ws J ++ [(sl, sq)])) = LL at *
  replace hO := Lib.hid hO
  clear h hk hkl hat ha hsl hs hsq hen hra hrb hm Hk HSave
  go_enter Try.func27, Try.ntmps27
  go_wp2_with fail
  rw [← HX.out]
  refine (HS.out _).mono ?_
  rintro e w1 ⟨rfl, hg⟩
  replace hO := Lib.hid (hO.out.quiet hg)
  obtain ⟨z0, z1, z2, z3⟩ := (Hres.out _ _ hO.out).cells
  clear hg HS
  go_wp2_with fail
  refine (HM.out _).mono ?_
  rintro e w2 ⟨rfl, hg⟩
  replace hO := Lib.hid (hO.out.quiet hg)
  clear hg HM z0 z1 z2 z3
  go_wp2_with fail
  refine (Hhas.out _ hO.out).mono ?_
  rintro e w3 ⟨rfl, hO1⟩
  replace hO := Lib.hid hO1
  have HS0 := Hres.out _ _ hO.out
  clear Hhas hO1
  go_wp2_with fail
  refine wp_region_held_drew (S := fun w' => ResS X (en : Int) (ra : Int) (rb : Int) d w') (by kernel_rfl) (HS0.keep (grown_drew (World.grownBy.refl _ none))) (fun hS => ?_)
  refine wpAnyH_take (i := 0) (oi := { dst := some 39, op := Op.move (Operand.tmp 0), type := 32, pos := "slot.go:94", after := #[], guard := none }) (v := ?vs127r5o0) rfl (by kernel_rfl) (by kernel_rfl) (by kernel_rfl) (fun _ _ _ h => h) (Or.inl ⟨by rfl, ?hs127r5o0⟩) hS ?_
  case hs127r5o0 => (intro wx hx; skip; go_simp; (try with_reducible rfl))
  try simp only [Act.put, List.setIfInBounds_toArray, List.set_cons_zero, List.set_cons_succ]
  refine wpAnyH_take (i := 1) (oi := { dst := some 40, op := Op.move (Operand.tmp 11), type := 3, pos := "slot.go:94", after := #[], guard := none }) (v := ?vs127r5o1) rfl (by kernel_rfl) (by kernel_rfl) (by kernel_rfl) (fun _ _ _ h => h) (Or.inl ⟨by rfl, ?hs127r5o1⟩) hS ?_
  case hs127r5o1 => (intro wx hx; skip; go_simp; (try with_reducible rfl))
  try simp only [Act.put, List.setIfInBounds_toArray, List.set_cons_zero, List.set_cons_succ]
  refine wpAnyH_take (i := 2) (oi := { dst := some 41, op := Op.binOp BinOp.add 3 (Operand.tmp 40) (Operand.const (Value.int IntKind.i64 1)) 3, type := 3, pos := "slot.go:94", after := #[{ on := 1, ground := Ground.data }], guard := none }) (v := ?vs127r5o2) rfl (by kernel_rfl) (by kernel_rfl) (by kernel_rfl) (fun _ _ _ h => h) (Or.inl ⟨by rfl, ?hs127r5o2⟩) hS ?_
  case hs127r5o2 => (intro wx hx; skip; go_simp; (try with_reducible rfl))
  try simp only [Act.put, List.setIfInBounds_toArray, List.set_cons_zero, List.set_cons_succ]
  refine wpAnyH_take (i := 3) (oi := { dst := some 42, op := Op.fieldAddr 39 (Operand.tmp 9) 0, type := 0, pos := "slot.go:94", after := #[], guard := none }) (v := ?vs127r5o3) rfl (by kernel_rfl) (by kernel_rfl) (by kernel_rfl) (fun _ _ _ h => h) (Or.inl ⟨by rfl, ?hs127r5o3⟩) hS ?_
  case hs127r5o3 => (intro wx hx; skip; go_simp; (try with_reducible rfl))
  try simp only [Act.put, List.setIfInBounds_toArray, List.set_cons_zero, List.set_cons_succ]
  refine wpAnyH_take (i := 4) (oi := { dst := some 43, op := Op.load 37 (Operand.tmp 42), type := 37, pos := "slot.go:94", after := #[{ on := 3, ground := Ground.data }], guard := none }) (v := ?vs127r5o4) rfl (by kernel_rfl) (by kernel_rfl) (by kernel_rfl) (fun _ _ _ h => h) (Or.inl ⟨by rfl, ?hs127r5o4⟩) hS ?_
  case hs127r5o4 => (intro wx hx; obtain ⟨y0, y1, y2, y3⟩ := ResS.cells hx; go_simp; (try with_reducible rfl))
  try simp only [Act.put, List.setIfInBounds_toArray, List.set_cons_zero, List.set_cons_succ]
  refine wpAnyH_take (i := 5) (oi := { dst := some 44, op := Op.convert 37 36 (Operand.tmp 43), type := 36, pos := "slot.go:94", after := #[{ on := 4, ground := Ground.data }], guard := none }) (v := ?vs127r5o5) rfl (by kernel_rfl) (by kernel_rfl) (by kernel_rfl) (fun _ _ _ h => h) (Or.inl ⟨by rfl, ?hs127r5o5⟩) hS ?_
  case hs127r5o5 => (intro wx hx; obtain ⟨y0, y1, y2, y3⟩ := ResS.cells hx; go_simp; (try with_reducible rfl))
  try simp only [Act.put, List.setIfInBounds_toArray, List.set_cons_zero, List.set_cons_succ]
  refine wpAnyH_take (i := 6) (oi := { dst := some 45, op := Op.fieldAddr 39 (Operand.tmp 9) 3, type := 0, pos := "slot.go:94", after := #[], guard := none }) (v := ?vs127r5o6) rfl (by kernel_rfl) (by kernel_rfl) (by kernel_rfl) (fun _ _ _ h => h) (Or.inl ⟨by rfl, ?hs127r5o6⟩) hS ?_
  case hs127r5o6 => (intro wx hx; skip; go_simp; (try with_reducible rfl))
  try simp only [Act.put, List.setIfInBounds_toArray, List.set_cons_zero, List.set_cons_succ]
  refine wpAnyH_take (i := 7) (oi := { dst := some 46, op := Op.load 9 (Operand.tmp 45), type := 9, pos := "slot.go:94", after := #[{ on := 6, ground := Ground.data }], guard := none }) (v := ?vs127r5o7) rfl (by kernel_rfl) (by kernel_rfl) (by kernel_rfl) (fun _ _ _ h => h) (Or.inl ⟨by rfl, ?hs127r5o7⟩) hS ?_
  case hs127r5o7 => (intro wx hx; obtain ⟨y0, y1, y2, y3⟩ := ResS.cells hx; go_simp; (try with_reducible rfl))
  try simp only [Act.put, List.setIfInBounds_toArray, List.set_cons_zero, List.set_cons_succ]
  refine wpAnyH_take (i := 8) (oi := { dst := some 47, op := Op.call { callee := Callee.builtin Builtin.len, args := #[Operand.tmp 46], argTypes := #[9] }, type := 3, pos := "slot.go:94", after := #[{ on := 7, ground := Ground.data }], guard := none }) (v := ?vs127r5o8) rfl (by kernel_rfl) (by kernel_rfl) (by kernel_rfl) (fun _ _ _ h => h) (Or.inl ⟨by rfl, ?hs127r5o8⟩) hS ?_
  case hs127r5o8 => (intro wx hx; skip; go_simp; (try with_reducible rfl))
  try simp only [Act.put, List.setIfInBounds_toArray, List.set_cons_zero, List.set_cons_succ]
  refine wpAnyH_take (i := 9) (oi := { dst := some 48, op := Op.convert 3 36 (Operand.tmp 47), type := 36, pos := "slot.go:94", after := #[{ on := 8, ground := Ground.data }], guard := none }) (v := ?vs127r5o9) rfl (by kernel_rfl) (by kernel_rfl) (by kernel_rfl) (fun _ _ _ h => h) (Or.inl ⟨by rfl, ?hs127r5o9⟩) hS ?_
  case hs127r5o9 => (intro wx hx; obtain ⟨y0, y1, y2, y3⟩ := ResS.cells hx; go_simp; (try with_reducible rfl))
  try simp only [Act.put, List.setIfInBounds_toArray, List.set_cons_zero, List.set_cons_succ]
  refine wpAnyH_take (i := 10) (oi := { dst := some 49, op := Op.binOp BinOp.mul 36 (Operand.const (Value.int IntKind.u64 256)) (Operand.tmp 48) 36, type := 36, pos := "slot.go:94", after := #[{ on := 9, ground := Ground.data }], guard := none }) (v := ?vs127r5o10) rfl (by kernel_rfl) (by kernel_rfl) (by kernel_rfl) (fun _ _ _ h => h) (Or.inl ⟨by rfl, ?hs127r5o10⟩) hS ?_
  case hs127r5o10 => (intro wx hx; skip; go_simp; (try with_reducible rfl))
  try simp only [Act.put, List.setIfInBounds_toArray, List.set_cons_zero, List.set_cons_succ]
  refine wpAnyH_take (i := 11) (oi := { dst := some 50, op := Op.binOp BinOp.add 36 (Operand.tmp 44) (Operand.tmp 49) 36, type := 36, pos := "slot.go:94", after := #[{ on := 5, ground := Ground.data }, { on := 10, ground := Ground.data }], guard := none }) (v := ?vs127r5o11) rfl (by kernel_rfl) (by kernel_rfl) (by kernel_rfl) (fun _ _ _ h => h) (Or.inl ⟨by rfl, ?hs127r5o11⟩) hS ?_
  case hs127r5o11 => (intro wx hx; skip; go_simp; (try with_reducible rfl))
  try simp only [Act.put, List.setIfInBounds_toArray, List.set_cons_zero, List.set_cons_succ]
  refine wpAnyH_take (i := 13) (oi := { dst := some 52, op := Op.move (Operand.tmp 0), type := 32, pos := "slot.go:94", after := #[], guard := none }) (v := ?vs127r5o13) rfl (by kernel_rfl) (by kernel_rfl) (by kernel_rfl) (fun _ _ _ h => h) (Or.inl ⟨by rfl, ?hs127r5o13⟩) hS ?_
  case hs127r5o13 => (intro wx hx; skip; go_simp; (try with_reducible rfl))
  try simp only [Act.put, List.setIfInBounds_toArray, List.set_cons_zero, List.set_cons_succ]
  refine wpAnyH_take (i := 14) (oi := { dst := some 53, op := Op.move (Operand.tmp 11), type := 3, pos := "slot.go:94", after := #[], guard := none }) (v := ?vs127r5o14) rfl (by kernel_rfl) (by kernel_rfl) (by kernel_rfl) (fun _ _ _ h => h) (Or.inl ⟨by rfl, ?hs127r5o14⟩) hS ?_
  case hs127r5o14 => (intro wx hx; skip; go_simp; (try with_reducible rfl))
  try simp only [Act.put, List.setIfInBounds_toArray, List.set_cons_zero, List.set_cons_succ]
  refine wpAnyH_take (i := 15) (oi := { dst := some 54, op := Op.binOp BinOp.add 3 (Operand.tmp 53) (Operand.const (Value.int IntKind.i64 2)) 3, type := 3, pos := "slot.go:94", after := #[{ on := 14, ground := Ground.data }], guard := none }) (v := ?vs127r5o15) rfl (by kernel_rfl) (by kernel_rfl) (by kernel_rfl) (fun _ _ _ h => h) (Or.inl ⟨by rfl, ?hs127r5o15⟩) hS ?_
  case hs127r5o15 => (intro wx hx; skip; go_simp; (try with_reducible rfl))
  try simp only [Act.put, List.setIfInBounds_toArray, List.set_cons_zero, List.set_cons_succ]
  refine wpAnyH_take (i := 16) (oi := { dst := some 55, op := Op.fieldAddr 39 (Operand.tmp 9) 1, type := 0, pos := "slot.go:94", after := #[], guard := none }) (v := ?vs127r5o16) rfl (by kernel_rfl) (by kernel_rfl) (by kernel_rfl) (fun _ _ _ h => h) (Or.inl ⟨by rfl, ?hs127r5o16⟩) hS ?_
  case hs127r5o16 => (intro wx hx; skip; go_simp; (try with_reducible rfl))
  try simp only [Act.put, List.setIfInBounds_toArray, List.set_cons_zero, List.set_cons_succ]
  refine wpAnyH_take (i := 17) (oi := { dst := some 56, op := Op.load 36 (Operand.tmp 55), type := 36, pos := "slot.go:94", after := #[{ on := 16, ground := Ground.data }], guard := none }) (v := ?vs127r5o17) rfl (by kernel_rfl) (by kernel_rfl) (by kernel_rfl) (fun _ _ _ h => h) (Or.inl ⟨by rfl, ?hs127r5o17⟩) hS ?_
  case hs127r5o17 => (intro wx hx; obtain ⟨y0, y1, y2, y3⟩ := ResS.cells hx; go_simp; (try with_reducible rfl))
  try simp only [Act.put, List.setIfInBounds_toArray, List.set_cons_zero, List.set_cons_succ]
  refine wpAnyH_take (i := 19) (oi := { dst := some 58, op := Op.move (Operand.tmp 0), type := 32, pos := "slot.go:94", after := #[], guard := none }) (v := ?vs127r5o19) rfl (by kernel_rfl) (by kernel_rfl) (by kernel_rfl) (fun _ _ _ h => h) (Or.inl ⟨by rfl, ?hs127r5o19⟩) hS ?_
  case hs127r5o19 => (intro wx hx; skip; go_simp; (try with_reducible rfl))
  try simp only [Act.put, List.setIfInBounds_toArray, List.set_cons_zero, List.set_cons_succ]
  refine wpAnyH_take (i := 20) (oi := { dst := some 59, op := Op.move (Operand.tmp 11), type := 3, pos := "slot.go:94", after := #[], guard := none }) (v := ?vs127r5o20) rfl (by kernel_rfl) (by kernel_rfl) (by kernel_rfl) (fun _ _ _ h => h) (Or.inl ⟨by rfl, ?hs127r5o20⟩) hS ?_
  case hs127r5o20 => (intro wx hx; skip; go_simp; (try with_reducible rfl))
  try simp only [Act.put, List.setIfInBounds_toArray, List.set_cons_zero, List.set_cons_succ]
  refine wpAnyH_take (i := 21) (oi := { dst := some 60, op := Op.binOp BinOp.add 3 (Operand.tmp 59) (Operand.const (Value.int IntKind.i64 3)) 3, type := 3, pos := "slot.go:94", after := #[{ on := 20, ground := Ground.data }], guard := none }) (v := ?vs127r5o21) rfl (by kernel_rfl) (by kernel_rfl) (by kernel_rfl) (fun _ _ _ h => h) (Or.inl ⟨by rfl, ?hs127r5o21⟩) hS ?_
  case hs127r5o21 => (intro wx hx; skip; go_simp; (try with_reducible rfl))
  try simp only [Act.put, List.setIfInBounds_toArray, List.set_cons_zero, List.set_cons_succ]
  refine wpAnyH_take (i := 22) (oi := { dst := some 61, op := Op.fieldAddr 39 (Operand.tmp 9) 2, type := 0, pos := "slot.go:94", after := #[], guard := none }) (v := ?vs127r5o22) rfl (by kernel_rfl) (by kernel_rfl) (by kernel_rfl) (fun _ _ _ h => h) (Or.inl ⟨by rfl, ?hs127r5o22⟩) hS ?_
  case hs127r5o22 => (intro wx hx; skip; go_simp; (try with_reducible rfl))
  try simp only [Act.put, List.setIfInBounds_toArray, List.set_cons_zero, List.set_cons_succ]
  refine wpAnyH_take (i := 23) (oi := { dst := some 62, op := Op.load 36 (Operand.tmp 61), type := 36, pos := "slot.go:94", after := #[{ on := 22, ground := Ground.data }], guard := none }) (v := ?vs127r5o23) rfl (by kernel_rfl) (by kernel_rfl) (by kernel_rfl) (fun _ _ _ h => h) (Or.inl ⟨by rfl, ?hs127r5o23⟩) hS ?_
  case hs127r5o23 => (intro wx hx; obtain ⟨y0, y1, y2, y3⟩ := ResS.cells hx; go_simp; (try with_reducible rfl))
  try simp only [Act.put, List.setIfInBounds_toArray, List.set_cons_zero, List.set_cons_succ]
  refine wpAnyH_ready (rs := [12]) (by kernel_rfl) (by simp) ?_
  refine AllReadyH.cons (o := { dst := some 51, op := Op.call { callee := Callee.value (Operand.func 49), args := #[Operand.tmp 39, Operand.tmp 41, Operand.tmp 50], argTypes := #[32, 3, 36] }, type := 105, pos := "slot.go:95", after := #[{ on := 0, ground := Ground.data }, { on := 2, ground := Ground.data }, { on := 11, ground := Ground.data }], guard := none }) rfl (fun K hK => ?_) AllReadyH.nil
  go_simp
  refine (setH' g (sl + 1) C _ _ _ (hO.out.quiet (grown_drew (World.grownBy.refl _ none)))).mono ?_
  rintro e wA ⟨b1, rfl, hO1⟩
  rw [List.append_assoc] at hO1
  have hS1 := Hres.out _ _ hO1
  refine hK.out _ _ ?hss127r5o12 (fun hS => ?_)
  case hss127r5o12 => (exact hS1)
  clear hK K
  try simp only [Act.put, List.setIfInBounds_toArray, List.set_cons_zero, List.set_cons_succ]
  refine wpAnyH_ready (rs := [18]) (by kernel_rfl) (by simp) ?_
  refine AllReadyH.cons (o := { dst := some 57, op := Op.call { callee := Callee.value (Operand.func 49), args := #[Operand.tmp 52, Operand.tmp 54, Operand.tmp 56], argTypes := #[32, 3, 36] }, type := 105, pos := "slot.go:96", after := #[{ on := 13, ground := Ground.data }, { on := 15, ground := Ground.data }, { on := 17, ground := Ground.data }, { on := 12, ground := Ground.chain }], guard := none }) rfl (fun K hK => ?_) AllReadyH.nil
  go_simp
  refine (setH' g (sl + 2) ra _ _ _ hO1).mono ?_
  rintro e wB ⟨b2, rfl, hO2⟩
  rw [List.append_assoc] at hO2
  have hS1 := Hres.out _ _ hO2
  refine hK.out _ _ ?hss127r5o18 (fun hS => ?_)
  case hss127r5o18 => (exact hS1)
  clear hK K
  try simp only [Act.put, List.setIfInBounds_toArray, List.set_cons_zero, List.set_cons_succ]
  refine wpAnyH_ready (rs := [24]) (by kernel_rfl) (by simp) ?_
  refine AllReadyH.cons (o := { dst := some 63, op := Op.call { callee := Callee.value (Operand.func 49), args := #[Operand.tmp 58, Operand.tmp 60, Operand.tmp 62], argTypes := #[32, 3, 36] }, type := 105, pos := "slot.go:97", after := #[{ on := 19, ground := Ground.data }, { on := 21, ground := Ground.data }, { on := 23, ground := Ground.data }, { on := 18, ground := Ground.chain }], guard := none }) rfl (fun K hK => ?_) AllReadyH.nil
  go_simp
  refine (setH' g (sl + 3) rb _ _ _ hO2).mono ?_
  rintro e wC ⟨b3, rfl, hO3⟩
  rw [List.append_assoc] at hO3
  have hS1 := Hres.out _ _ hO3
  refine hK.out _ _ ?hss127r5o24 (fun hS => ?_)
  case hss127r5o24 => (exact hS1)
  clear hK K
  try simp only [Act.put, List.setIfInBounds_toArray, List.set_cons_zero, List.set_cons_succ]
  refine wpAnyH_ready (rs := [25]) (by kernel_rfl) (by simp) ?_
  refine AllReadyH.cons (o := { dst := some 64, op := Op.buildSlice 107 3 #[(0, Operand.tmp 51), (1, Operand.tmp 57), (2, Operand.tmp 63)], type := 107, pos := "slot.go:94", after := #[{ on := 12, ground := Ground.data }, { on := 18, ground := Ground.data }, { on := 24, ground := Ground.data }], guard := none }) rfl (fun K hK => ?_) AllReadyH.nil
  go_simp
  skip
  refine hK.out _ _ ?hss127r5o25 (fun hS => ?_)
  case hss127r5o25 => (exact hS.keep (World.grownBy_alloc _ _ none))
  clear hK K
  try simp only [Act.put, List.setIfInBounds_toArray, List.set_cons_zero, List.set_cons_succ]
  refine wpAnyH_take (i := 26) (oi := { dst := some 13, op := Op.assign (Operand.tmp 64), type := 107, pos := "slot.go:94", after := #[{ on := 25, ground := Ground.data }, { on := 24, ground := Ground.chain }, { on := 0, ground := Ground.phase }, { on := 1, ground := Ground.phase }, { on := 2, ground := Ground.phase }, { on := 3, ground := Ground.phase }, { on := 4, ground := Ground.phase }, { on := 5, ground := Ground.phase }, { on := 6, ground := Ground.phase }, { on := 7, ground := Ground.phase }, { on := 8, ground := Ground.phase }, { on := 9, ground := Ground.phase }, { on := 10, ground := Ground.phase }, { on := 11, ground := Ground.phase }, { on := 12, ground := Ground.phase }, { on := 13, ground := Ground.phase }, { on := 14, ground := Ground.phase }, { on := 15, ground := Ground.phase }, { on := 16, ground := Ground.phase }, { on := 17, ground := Ground.phase }, { on := 18, ground := Ground.phase }, { on := 19, ground := Ground.phase }, { on := 20, ground := Ground.phase }, { on := 21, ground := Ground.phase }, { on := 22, ground := Ground.phase }, { on := 23, ground := Ground.phase }, { on := 24, ground := Ground.phase }, { on := 25, ground := Ground.phase }], guard := none }) (v := ?vs127r5o26) rfl (by kernel_rfl) (by kernel_rfl) (by kernel_rfl) (fun _ _ _ h => h) (Or.inl ⟨by rfl, ?hs127r5o26⟩) hS ?_
  case hs127r5o26 => (intro wx hx; skip; go_simp; (try with_reducible rfl))
  try simp only [Act.put, List.setIfInBounds_toArray, List.set_cons_zero, List.set_cons_succ]
  refine wpAnyH_done (by kernel_rfl) ?_ _
  obtain ⟨R, HR⟩ : ∃ R, Hid (R = wC.heap.size) := ⟨_, Lib.hid rfl⟩
  obtain ⟨q, Hq⟩ : ∃ q, Hid (q = wC.heap.size + 1) := ⟨_, Lib.hid rfl⟩
  have hY0 : WY w0 (Ps ++ [boxP X 39 #[.int .i64 (en : Int), .int .u64 (ra : Int), .int .u64 (rb : Int), .string d], closP b1 g (sl + 1) C, closP b2 g (sl + 2) ra, closP b3 g (sl + 3) rb]) g 3 (some ⟨R, 0, none⟩) 3 [b1, b2, b3] [] [] [] (wC.alloc (.cells #[.func (.func 74) #[] #[.pointer (some ⟨b1, 0, none⟩), .pointer (some ⟨b1 + 1, 0, none⟩), .pointer (some ⟨b1 + 2, 0, none⟩)], .func (.func 74) #[] #[.pointer (some ⟨b2, 0, none⟩), .pointer (some ⟨b2 + 1, 0, none⟩), .pointer (some ⟨b2 + 2, 0, none⟩)], .func (.func 74) #[] #[.pointer (some ⟨b3, 0, none⟩), .pointer (some ⟨b3 + 1, 0, none⟩), .pointer (some ⟨b3 + 2, 0, none⟩)]] 105)) := by
    rw [HR.out]
    exact hO3.addRow (World.ownsRow_lit (size := 1) (base := wC.heap.size) (e := 105) wC ([.func (.func 74) #[] #[.pointer (some ⟨b1, 0, none⟩), .pointer (some ⟨b1 + 1, 0, none⟩), .pointer (some ⟨b1 + 2, 0, none⟩)], .func (.func 74) #[] #[.pointer (some ⟨b2, 0, none⟩), .pointer (some ⟨b2 + 1, 0, none⟩), .pointer (some ⟨b2 + 2, 0, none⟩)], .func (.func 74) #[] #[.pointer (some ⟨b3, 0, none⟩), .pointer (some ⟨b3 + 1, 0, none⟩), .pointer (some ⟨b3 + 2, 0, none⟩)]]).toArray 3 (Nat.le_refl _) (by unfold maxLen; omega) (by simp)) (World.grownBy_alloc wC _ none)
  obtain ⟨z0, z1, z2, z3⟩ := hS.cells
  clear hS1 hO hO1 hO2 hO3 HS0 Hres hS
  go_wp2_with fail
  refine (HP.out _).mono ?_
  rintro e w5 ⟨rfl, hrow, hg⟩
  have hY1 := Own.addRow hY0 hrow hg
  rw [List.append_assoc, World.size_alloc] at hY1
  rw [World.size_alloc]
  rw [← HR.out, ← Hq.out] at *
  have hY1 : WY w0 (Ps ++ [boxP X 39 #[.int .i64 (en : Int), .int .u64 (ra : Int), .int .u64 (rb : Int), .string d], closP b1 g (sl + 1) C, closP b2 g (sl + 2) ra, closP b3 g (sl + 3) rb]) g 3 (some ⟨R, 0, none⟩) 3 [b1, b2, b3] [rowP 36 1 (.slice (some ⟨q, 0, none⟩) J J) J (ws.map wv)] [] [] w5 := hY1
  replace hY1 := Lib.hid hY1
  clear hY0 hrow hg z0 z1 z2 z3 HP
  go_wp2_with fail
  have hY2 : Hid (([] : List Nat).length = 0 ∧ WY w0 (Ps ++ [boxP X 39 #[.int .i64 (en : Int), .int .u64 (ra : Int), .int .u64 (rb : Int), .string d], closP b1 g (sl + 1) C, closP b2 g (sl + 2) ra, closP b3 g (sl + 3) rb]) g (3 + 0) (some ⟨R, 0, none⟩) 3 ([b1, b2, b3] ++ []) [rowP 36 1 (.slice (some ⟨q, 0, none⟩) J J) J (ws.map wv)] [] (wordsT sl ws 0) w5) := Lib.hid ⟨rfl, hY1.out⟩
  clear hY1
  go_loopw [13, 69] (fun s c wr => ∃ (j : Nat) (ad : Option Addr) (cap : Nat) (cs : List Nat), j ≤ J ∧ c = .int .i64 (j : Int) ∧ s = .slice ad (3 + j) cap ∧ Hid (cs.length = j ∧ WY w0 (Ps ++ [boxP X 39 #[.int .i64 (en : Int), .int .u64 (ra : Int), .int .u64 (rb : Int), .string d], closP b1 g (sl + 1) C, closP b2 g (sl + 2) ra, closP b3 g (sl + 3) rb]) g (3 + j) ad cap ([b1, b2, b3] ++ cs) [rowP 36 1 (.slice (some ⟨q, 0, none⟩) J J) J (ws.map wv)] cs (wordsT sl ws j) wr)) (fun _ c _ => J - (intOf c).toNat)
  case atStart => exact ⟨0, some ⟨R, 0, none⟩, 3, [], Nat.zero_le _, rfl, rfl, hY2⟩
  case round =>
    clear hY2
    obtain ⟨j, ad, cap, cs, hj, rfl, rfl, hY⟩ := hrel
    have j0 : (0 : Int) ≤ (j : Int) := by omega
    have hcl := Lib.hid hY.out.1
    obtain ⟨n, hn⟩ : ∃ n, Hid (n = 3 + j) := ⟨_, Lib.hid rfl⟩
    have hl0 : Hid (cs.length = (wordsT sl ws j).length) := Lib.hid (by rw [HLn.out, hY.out.1])
    rw [← hn.out] at hY ⊢
    by_cases hlt : j < J
    · have hlt' : (j : Int) < (J : Int) := by omega
      have hn1 : n ≤ 100 := by have := hn.out; omega
      have a5 : IntKind.i64.wrap (sl + 4 + (j : Int)) = sl + 4 + (j : Int) := IntWalk.i64_in _ ⟨by omega, by omega⟩
      obtain ⟨q', he, cq, _, _⟩ := Own.cell hY.out.2 ((Ps ++ [boxP X 39 #[.int .i64 (en : Int), .int .u64 (ra : Int), .int .u64 (rb : Int), .string d], closP b1 g (sl + 1) C, closP b2 g (sl + 2) ra, closP b3 g (sl + 3) rb]).length + 1) (by rw [List.getElem?_append_right (by omega), Nat.add_sub_cancel_left]; rfl) j (wv (ws.getD j 0)) (by rw [List.getElem?_map, List.getElem?_eq_getElem (by rw [HJ.out]; exact hlt), List.getD_eq_getElem?_getD, List.getElem?_eq_getElem (by rw [HJ.out]; exact hlt)]; rfl)
      cases he
      unfold wv at cq
      have hX := Lib.hid (fun wx (hg : wr.grownBy wx none) => setY (hY.out.2.quiet hg) hl0.out (sl + 4 + (j : Int)) (ws.getD j 0))
      have hsn := Lib.hid (HTs.out j)
      generalize ws.getD j 0 = W at *
      have hX := Lib.hid (hX.out wr (World.grownBy.refl _ none))
      go_wp2_with fail
      refine hX.out.mono ?_
      rintro e w6 ⟨b, rfl, hY6⟩
      replace hY6 := Lib.hid hY6
      clear hX cq
      go_wp2_with (at_builtin; refine appF rfl _ _ rfl _ n ([b1, b2, b3] ++ cs) rfl (World.ownsRow.alloc hY6.out.row _) ⟨w6.heap.size, 0, none⟩ 1 1 [b] rfl rfl (at_of_row (heap_alloc_new w6 _)) ?a2 ?_)
      case a2 => omega
      intro ad2 cap2 w7 hr7 hg7 hn7
      have hY7 := Lib.hid (WY.app (bs' := [b1, b2, b3] ++ (cs ++ [b])) (hY6.out.quiet (World.grownBy_alloc w6 _ none)) (by rw [← List.append_assoc, List.map_append]; exact hr7) hg7 (fun y e => (hn7 y e).imp id (fun h => by rw [World.size_alloc]; exact h)))
      clear hr7 hg7 hn7 hY6 hY
      go_wp2
      go_roundw
      case rel => exact ⟨j + 1, ad2, cap2, cs ++ [b], by omega, by go_num, by rw [hn.out]; rfl, Lib.hid ⟨by simp [hcl.out], by rw [hsn.out, show 3 + (j + 1) = n + 1 from by have := hn.out; omega]; exact hY7.out⟩⟩
      case measure => simp [intOf]; omega
    · have hlt' : ¬ (j : Int) < (J : Int) := by omega
      have HJ2 : Hid (j = J) := Lib.hid (by omega)
      have hn1 : n ≤ 100 := by have := hn.out; omega
      have hX := Lib.hid (setY hY.out.2 hl0.out sl sq)
      go_wp2_with fail
      refine hX.out.mono ?_
      rintro e w6 ⟨b, rfl, hY6⟩
      replace hY6 := Lib.hid hY6
      clear hX
      go_wp2_with (at_builtin; refine appF rfl _ _ rfl _ n ([b1, b2, b3] ++ cs) rfl (World.ownsRow.alloc hY6.out.row _) ⟨w6.heap.size, 0, none⟩ 1 1 [b] rfl rfl (at_of_row (heap_alloc_new w6 _)) ?a2 ?_)
      case a2 => omega
      intro ad2 cap2 w7 hr7 hg7 hn7
      have hY7 := WY.app (bs' := [b1, b2, b3] ++ (cs ++ [b])) (hY6.out.quiet (World.grownBy_alloc w6 _ none)) (by rw [← List.append_assoc, List.map_append]; exact hr7) hg7 (fun y e => (hn7 y e).imp id (fun h => by rw [World.size_alloc]; exact h))
      rw [HJ2.out] at hY7
      have hF := Lib.hid (HOrd.out _ _ b1 b2 b3 (cs ++ [b]) ad2 (n + 1) cap2 w7 (by rw [HLt.out, List.length_append, hcl.out, HJ2.out]; rfl) (by rw [HLt.out, hn.out, HJ2.out]; omega) hY7)
      clear hr7 hg7 hn7 hY6 hY hY7
      go_wp2_with fail
      refine hF.out.mono ?_
      rintro e w8 ⟨rfl, hO8⟩
      replace hO8 := Lib.hid hO8
      clear hF
      go_wp2
      go_ret
      exact ⟨rfl, hO8.out⟩
end Go.Proofs.Ytdpkpphjpihhkaa
