/- Package slot: Load of a slot that has a number. -/
import Derived.Test.YtdpkpphjpihhkaaSloM
namespace Go.Proofs.Ytdpkpphjpihhkaa
open Go.RowKit Go.Grommet

theorem appU {w : World} {ops : Array Oper} {rest : List Oper} {o : Oper} {a : Act} {Q : Exit → Act → World → Prop} (hgd : o.guard = none) (s x : Operand)
    (ho : o.op = .call { callee := .builtin .append, args := #[s, x], argTypes := #[27, 27] })
    (v : Value) (n : Nat) (L : List Nat) (hs : a.eval s = v) (hown : w.ownsRow 0 36 1 v n (L.map wv))
    (ad : Addr) (m c : Nat) (M : List Nat) (hx : a.eval x = .slice (some ad) m c) (hl : M.length = m) (hw : At w (some ad) (M.map wv))
    (hb : n + m ≤ 1099511627776)
    (h : ∀ ad' cap' w', w'.ownsRow 0 36 1 (.slice ad' (n + m) cap') (n + m) ((L ++ M).map wv) → w.grownBy w' v.ownBlock → (∀ g, (Value.slice ad' (n + m) cap').ownBlock = some g → v.ownBlock = some g ∨ w.heap.size ≤ g) → wpList Try.prog ops Q rest (a.put o.dst (.slice ad' (n + m) cap')) w') : wpList Try.prog ops Q (o :: rest) a w := by
  obtain ⟨i0, hi, hz0, hz1, hz2⟩ := info_parts Try.info36
  refine wpList_append_blk w hgd s x 27 ho 0 36 i0 (.int .u64 0) 1 8 Try.underlying27 hi hz0 hz1 hz2 rfl (by decide) v n (L.map wv) hs hown ad m c (M.map wv) hx (by simp [hl]) hw.some (wv_oneCell M) (by unfold maxLen; omega) (by omega) (Nat.zero_le _) ?_
  intro ad' cap' w' ho' hg hn
  exact h ad' cap' w' (by rw [List.map_append]; exact ho') hg hn

/-- The words that a slot's data stand in. -/
def usT (xs : List Nat) (L : List (Nat × Nat)) (sl : Int) : Nat → List Nat
  | 0 => []
  | j + 1 => usT xs L sl j ++ [gotI xs L (sl + ((4 + j : Nat) : Int))]
theorem usT_length (xs : List Nat) (L : List (Nat × Nat)) (sl : Int) : ∀ j, (usT xs L sl j).length = j
  | 0 => rfl
  | j + 1 => by simp [usT, usT_length xs L sl j]

set_option maxRecDepth 100000 in
set_option maxHeartbeats 8000000 in
theorem LoadYes (k g : Nat) (xs : List Nat) (L : List (Nat × Nat)) (i kk at_ sl : Int) (sq C en D ra rb : Nat) (dd : ByteArray) (w0 w : World) (Ps : List Pr) (h : Own w0 w Ps) (hk : Ps[k]? = some (viewP g xs L)) (hat : sessionV i = at_) (ha : 0 ≤ at_ ∧ at_ + 64 ≤ (xs.length : Int)) (hsl : slotV i kk = sl) (hs : 0 ≤ sl ∧ sl ≤ 1000)
    (hz : gotI xs L sl = sq) (hsq : 1 ≤ sq) (hC : gotI xs L (sl + 1) = C) (hCe : en + 256 * D = C) (hen : en ≤ 24) (hD : D ≤ 64) (hra : gotI xs L (sl + 2) = ra) (hrb : gotI xs L (sl + 3) = rb) (hdd : str (unpackB (usT xs L sl 8) D) = dd) :
    Calls Try.prog 37 #[.pointer (some ⟨g, 0, none⟩), .int .i64 i, .int .i64 kk] w fun e w' => e = .returned (.tuple #[.int .u64 (sq : Int), .agg #[.int .i64 (en : Int), .int .u64 (ra : Int), .int .u64 (rb : Int), .string dd], .int .i64 0]) ∧ Own w0 w' Ps := by
  have hkl := (List.getElem?_eq_some_iff.1 hk).1
  obtain ⟨X, HX⟩ : ∃ X, Hid (X = w.heap.size) := ⟨_, Lib.hid rfl⟩
  have hO : Own w0 (w.alloc (.cells #[.int .i64 0, .int .u64 0, .int .u64 0, .string ⟨#[]⟩] 39)) (Ps ++ [boxP X 39 #[.int .i64 0, .int .u64 0, .int .u64 0, .string ⟨#[]⟩]]) := by rw [HX.out]; exact h.addBox _ _
  have Hk := Lib.hid (show ∀ Rs, (Ps ++ Rs)[k]? = some (viewP g xs L) from fun Rs => by rw [List.getElem?_append_left hkl]; exact hk)
  have HS := Lib.hid (fun wx => SlotAt_any i kk wx)
  rw [hsl] at HS
  have Hhas := Lib.hid (fun wx (hO : Own w0 wx (Ps ++ [boxP X 39 #[.int .i64 0, .int .u64 0, .int .u64 0, .string ⟨#[]⟩]])) => hasH k g xs L i at_ w0 wx _ hO (Hk.out _) hat ha)
  have HG := Lib.hid (fun (p : Int) wx Rs (hO : Own w0 wx (Ps ++ Rs)) => GetH k g xs L p w0 wx _ hO (Hk.out _))
  have HG0 := Lib.hid (fun wx Rs hO => HG.out sl wx Rs hO)
  rw [hz] at HG0
  have HG1 := Lib.hid (fun wx Rs hO => HG.out (sl + 1) wx Rs hO)
  rw [hC] at HG1
  have HG2 := Lib.hid (fun wx Rs hO => HG.out (sl + 2) wx Rs hO)
  rw [hra] at HG2
  have HG3 := Lib.hid (fun wx Rs hO => HG.out (sl + 3) wx Rs hO)
  rw [hrb] at HG3
  have HUl := Lib.hid (fun j => usT_length xs L sl j)
  have HUs := Lib.hid (fun (j : Nat) => show usT xs L sl (j + 1) = usT xs L sl j ++ [gotI xs L (sl + ((4 + j : Nat) : Int))] from rfl)
  have HU0 := Lib.hid (show usT xs L sl 0 = [] from rfl)
  have HUn := Lib.hid (fun ad cap wx (hat : At wx ad ((usT xs L sl 8).map wv)) => show Calls Try.prog 67 #[.slice ad 8 cap, .int .i64 (D : Int)] wx (TextErr dd 0 wx) from by
    have := Unpack_any ad 8 cap (usT xs L sl 8) (D : Int) wx (usT_length _ _ _ _) hat (by omega) (by omega)
    unfold unpackR at this
    rw [if_neg (by rw [usT_length]; intro h; rcases h with h | h <;> omega), Int.toNat_natCast, hdd] at this
    exact this)
  unfold TextErr at HUn
  have s0 : 0 ≤ sl := hs.1
  have s1 : sl ≤ 1000 := hs.2
  have d0 : decide (0 ≤ sl) = true := by simpa using s0
  have ws : IntKind.i64.wrap (sl + 0) = sl := by rw [Int.add_zero]; exact IntWalk.i64_in _ ⟨by omega, by omega⟩
  have ws' : IntKind.i64.wrap sl = sl := IntWalk.i64_in _ ⟨by omega, by omega⟩
  have w1' : IntKind.i64.wrap (sl + 1) = sl + 1 := IntWalk.i64_in _ ⟨by omega, by omega⟩
  have w2' : IntKind.i64.wrap (sl + 2) = sl + 2 := IntWalk.i64_in _ ⟨by omega, by omega⟩
  have w3' : IntKind.i64.wrap (sl + 3) = sl + 3 := IntWalk.i64_in _ ⟨by omega, by omega⟩
  have n0 : ¬ (sq : Int) = 0 := by omega
  have n0' : ((sq : Int) == 0) = false := by simpa using n0
  have c1 : (C : Int) % 256 = (en : Int) := by omega
  have c2 : (C : Int) / 256 = (D : Int) := by omega
  have f1 : ¬ (24 : Int) < (en : Int) := by omega
  have f2 : ¬ (64 : Int) < (D : Int) := by omega
  have v1 : IntKind.i64.wrap (en : Int) = (en : Int) := IntWalk.i64_in _ ⟨by omega, by omega⟩
  have v2 : IntKind.i64.wrap (D : Int) = (D : Int) := IntWalk.i64_in _ ⟨by omega, by omega⟩
  have u1 : IntKind.u64.wrap (en : Int) = (en : Int) := IntWalk.u64_in _ ⟨by omega, by omega⟩
  have u2 : IntKind.u64.wrap (D : Int) = (D : Int) := IntWalk.u64_in _ ⟨by omega, by omega⟩
  replace hO := Lib.hid hO
  replace hdd := Lib.hid hdd
  clear h hk hkl hat hsl hz ha hs hC hra hrb hCe
  go_enter Try.func37, Try.ntmps37
  go_wp2_with fail
  rw [← HX.out]
  refine (HS.out _).mono ?_
  rintro e w1 ⟨rfl, hg⟩
  have hO1 := Lib.hid (hO.out.quiet hg)
  clear hg hO
  go_wp2_with fail
  refine (Hhas.out _ hO1.out).mono ?_
  rintro e w2 ⟨rfl, hO2⟩
  replace hO2 := Lib.hid hO2
  clear Hhas hO1
  go_wp2_with fail
  refine (HG0.out _ _ hO2.out).mono ?_
  rintro e w3 ⟨rfl, rfl⟩
  go_wp2_with fail
  refine (HG1.out _ _ hO2.out).mono ?_
  rintro e w4 ⟨rfl, rfl⟩
  go_wp2_with fail
  refine (HG1.out _ _ hO2.out).mono ?_
  rintro e w5 ⟨rfl, rfl⟩
  have hO3 : Hid (Own w0 w5 (Ps ++ [boxP X 39 #[.int .i64 0, .int .u64 0, .int .u64 0, .string ⟨#[]⟩], rowP 36 1 (.slice none 0 0) 0 ((usT xs L sl 0).map wv)])) := Lib.hid (by
    have := Own.addRow hO2.out (World.ownsRow_nil w5 w5.heap.size 36 1) (World.grownBy.refl _ none)
    rw [List.append_assoc] at this
    exact this)
  clear hO2 HG0 HG1
  go_wp2_with fail
  go_loopw [13, 14] (fun s c wr => ∃ (m j : Nat) (ad : Option Addr) (cap : Nat), m ≤ 12 ∧ Hid (m = 4 + j) ∧ c = .int .i64 (m : Int) ∧ s = .slice ad j cap ∧ Hid (Own w0 wr (Ps ++ [boxP X 39 #[.int .i64 0, .int .u64 0, .int .u64 0, .string ⟨#[]⟩], rowP 36 1 (.slice ad j cap) j ((usT xs L sl j).map wv)]))) (fun _ c _ => 12 - (intOf c).toNat)
  case atStart => exact ⟨4, 0, none, 0, by omega, Lib.hid rfl, rfl, rfl, hO3⟩
  case round =>
    clear hO3
    obtain ⟨m, j, ad, cap, hm, Hm, rfl, rfl, hO⟩ := hrel
    have m0 : (0 : Int) ≤ (m : Int) := by omega
    by_cases hlt : m < 12
    · have hlt' : (m : Int) < 12 := by omega
      have hj : j ≤ 100 := by have := Hm.out; omega
      have a5 : IntKind.i64.wrap (sl + (m : Int)) = sl + (m : Int) := IntWalk.i64_in _ ⟨by omega, by omega⟩
      have hX := Lib.hid (HG.out (sl + (m : Int)) wr _ hO.out)
      have hsn := Lib.hid (HUs.out j)
      rw [← Hm.out] at hsn
      generalize gotI xs L (sl + (m : Int)) = W at *
      go_wp2_with fail
      refine hX.out.mono ?_
      rintro e w6 ⟨rfl, rfl⟩
      clear hX
      have hrow : w6.ownsRow 0 36 1 (.slice ad j cap) j ((usT xs L sl j).map wv) := Own.row hO.out (Ps.length + 1) (by rw [List.getElem?_append_right (by omega), Nat.add_sub_cancel_left]; rfl)
      go_wp2_with (at_builtin; refine appU rfl _ _ rfl _ j (usT xs L sl j) rfl (World.ownsRow.alloc hrow _) ⟨w6.heap.size, 0, none⟩ 1 1 [W] rfl rfl (at_of_row (heap_alloc_new w6 _)) ?a2 ?_)
      case a2 => omega
      intro ad2 cap2 w7 hr7 hg7 hn7
      have hO7 := Own.append (hO.out.quiet (World.grownBy_alloc w6 _ none)) (Ps.length + 1) (by rw [List.getElem?_append_right (by omega), Nat.add_sub_cancel_left]; rfl) (ys := (usT xs L sl j ++ [W]).map wv) (by rw [List.map_append]; exact hr7) hg7 (fun y e => (hn7 y e).imp id (fun h => by rw [World.size_alloc]; exact h))
      rw [List.set_append_right _ _ (by omega), Nat.add_sub_cancel_left, ← hsn.out] at hO7
      have hO8 : Hid (Own w0 w7 (Ps ++ [boxP X 39 #[.int .i64 0, .int .u64 0, .int .u64 0, .string ⟨#[]⟩], rowP 36 1 (.slice ad2 (j + 1) cap2) (j + 1) ((usT xs L sl (j + 1)).map wv)])) := Lib.hid hO7
      clear hr7 hg7 hn7 hO hO7 hrow
      go_wp2
      go_roundw
      case rel => exact ⟨m + 1, j + 1, ad2, cap2, by omega, Lib.hid (by have := Hm.out; omega), by go_num, rfl, hO8⟩
      case measure => simp [intOf]; omega
    · have hlt' : ¬ (m : Int) < 12 := by omega
      have HJ : Hid (j = 8) := Lib.hid (by have := Hm.out; omega)
      have hrow : wr.ownsRow 0 36 1 (.slice ad j cap) j ((usT xs L sl j).map wv) := Own.row hO.out (Ps.length + 1) (by rw [List.getElem?_append_right (by omega), Nat.add_sub_cancel_left]; rfl)
      obtain ⟨ad', cap', he, hat, _, _⟩ := at_of_owns hrow
      cases he
      have hU : Hid (Calls Try.prog 67 #[.slice ad j cap, .int .i64 (D : Int)] wr fun e w' => e = .returned (.tuple #[.string dd, .int .i64 0]) ∧ wr.grownBy w' none) := Lib.hid (by
        rw [HJ.out] at hat ⊢
        exact HUn.out ad cap wr hat)
      clear hat hrow
      go_wp2_with fail
      refine hU.out.mono ?_
      rintro e w7 ⟨rfl, hg⟩
      replace hO := Lib.hid (hO.out.quiet hg)
      clear hU hg
      go_wp2_with fail
      refine (HG2.out _ _ hO.out).mono ?_
      rintro e w8 ⟨rfl, rfl⟩
      go_wp2_with fail
      refine (HG3.out _ _ hO.out).mono ?_
      rintro e w5 ⟨rfl, rfl⟩
      have hz : w5.heap[X]? = some (.cells #[.int .i64 0, .int .u64 0, .int .u64 0, .string ⟨#[]⟩] 39 (0, 0)) := Own.box hO.out Ps.length (get_mid _ _ _)
      have Hq : Hid (∀ w6 : World, w5.grownBy w6 (some X) → Own w0 w6 Ps) := Lib.hid (fun w6 hg => Own.forget hO.out hg)
      clear hO HG2 HG3
      have m0' : w5.cell? ⟨X, 0, none⟩ = some (.int .i64 0) := by simp [World.cell?, hz]
      have q0 : w5.frozen? ⟨X, 0, none⟩ = false := by simp [World.frozen?, hz]
      have m1' : w5.cell? ⟨X, 1, none⟩ = some (.int .u64 0) := by simp [World.cell?, hz]
      have q1 : w5.frozen? ⟨X, 1, none⟩ = false := by simp [World.frozen?, hz]
      have m2' : w5.cell? ⟨X, 2, none⟩ = some (.int .u64 0) := by simp [World.cell?, hz]
      have q2 : w5.frozen? ⟨X, 2, none⟩ = false := by simp [World.frozen?, hz]
      have m3' : w5.cell? ⟨X, 3, none⟩ = some (.string ⟨#[]⟩) := by simp [World.cell?, hz]
      have q3 : w5.frozen? ⟨X, 3, none⟩ = false := by simp [World.frozen?, hz]
      have hz1 := heap_setCell_at (o := 0) hz (.int .i64 (en : Int))
      have hz2 := heap_setCell_at (o := 1) hz1 (.int .u64 (ra : Int))
      have hz3 := heap_setCell_at (o := 2) hz2 (.int .u64 (rb : Int))
      have hz4 := heap_setCell_at (o := 3) hz3 (.string dd)
      have g1 : w5.grownBy ((((w5.setCell ⟨X, 0, none⟩ (.int .i64 (en : Int))).setCell ⟨X, 1, none⟩ (.int .u64 (ra : Int))).setCell ⟨X, 2, none⟩ (.int .u64 (rb : Int))).setCell ⟨X, 3, none⟩ (.string dd)) (some X) := (grown_trans (grown_trans (grown_trans (grown_setCell _ ⟨X, 0, none⟩ (.int .i64 (en : Int))) (grown_setCell _ ⟨X, 1, none⟩ (.int .u64 (ra : Int)))) (grown_setCell _ ⟨X, 2, none⟩ (.int .u64 (rb : Int)))) (grown_setCell _ ⟨X, 3, none⟩ (.string dd)))
      obtain ⟨W3, hW3⟩ : ∃ W3, W3 = ((((w5.setCell ⟨X, 0, none⟩ (.int .i64 (en : Int))).setCell ⟨X, 1, none⟩ (.int .u64 (ra : Int))).setCell ⟨X, 2, none⟩ (.int .u64 (rb : Int))).setCell ⟨X, 3, none⟩ (.string dd)) := ⟨_, rfl⟩
      clear hz1 hz2 hz3
      go_wp2
      rw [← hW3] at hz4 g1 ⊢
      have Z0 : W3.cell? ⟨X, 0, none⟩ = some (.int .i64 (en : Int)) := by simp [World.cell?, hz4]
      have Z1 : W3.cell? ⟨X, 1, none⟩ = some (.int .u64 (ra : Int)) := by simp [World.cell?, hz4]
      have Z2 : W3.cell? ⟨X, 2, none⟩ = some (.int .u64 (rb : Int)) := by simp [World.cell?, hz4]
      have Z3 : W3.cell? ⟨X, 3, none⟩ = some (.string dd) := by simp [World.cell?, hz4]
      exact bodyPost_ret (v := .tuple #[.int .u64 (sq : Int), .agg #[.int .i64 (en : Int), .int .u64 (ra : Int), .int .u64 (rb : Int), .string dd], .int .i64 0]) (by simp [results, Try.results37, go_sem, Z0, Z1, Z2, Z3]) rfl ⟨rfl, Hq.out _ g1⟩
end Go.Proofs.Ytdpkpphjpihhkaa
