/- Package class: what becomes of a call of an open session. -/
import Derived.Test.YtdpkpphjpihhkaaClaA
namespace Go.Proofs.Ytdpkpphjpihhkaa
open Go.RowKit Go.Grommet

set_option maxRecDepth 100000 in
set_option maxHeartbeats 2000000 in
/-- Another generation. -/
theorem OfClosed (k g : Nat) (xs : List Nat) (L : List (Nat × Nat)) (i at_ : Int) (ge mk seq : Nat) (w0 w : World) (Ps : List Pr) (h : Own w0 w Ps) (hk : Ps[k]? = some (viewP g xs L)) (hat : sessionV i = at_) (ha : 0 ≤ at_ ∧ at_ + 64 ≤ (xs.length : Int)) (hxl : xs.length ≤ 1000000) (ho : gotI xs L at_ = 1) (hge : gotI xs L (at_ + 1) = ge) (hmk : gotI xs L (at_ + 2) = mk) (hs1 : 1 ≤ seq) (hs2 : seq ≤ 1099511627776) (gen : Nat) (hgen : ((ge : Int) != (gen : Int)) = true) :
    Calls Try.prog 14 #[.pointer (some ⟨g, 0, none⟩), .int .i64 i, .int .u64 (gen : Int), .int .u64 (seq : Int)] w fun e w' => e = .returned (.tuple #[.int .u8 0, .agg #[.int .i64 0, .int .u64 0, .int .u64 0, .string ⟨#[]⟩], .int .i64 22]) ∧ Own w0 w' Ps := by
  have hkl := (List.getElem?_eq_some_iff.1 hk).1
  obtain ⟨X, HX⟩ : ∃ X, Hid (X = w.heap.size) := ⟨_, Lib.hid rfl⟩
  have hO : Own w0 (w.alloc (.cells #[.int .i64 0, .int .u64 0, .int .u64 0, .string ⟨#[]⟩] 39)) (Ps ++ [boxP X 39 #[.int .i64 0, .int .u64 0, .int .u64 0, .string ⟨#[]⟩]]) := by rw [HX.out]; exact h.addBox _ _
  have hkk : ∀ Rs, (Ps ++ Rs)[k]? = some (viewP g xs L) := fun Rs => by rw [List.getElem?_append_left hkl]; exact hk
  have HH := Lib.hid (headH k g xs L i at_ ge mk w0 _ _ hO (hkk _) hat ha hxl ho hge hmk)
  have HI := Lib.hid (fun wx => isNumber_any seq wx)
  have hnb : numB seq = true := by unfold numB; rw [decide_eq_true hs1, decide_eq_true hs2]; rfl
  rw [hnb] at HI
  have Hkk := Lib.hid hkk
  clear hnb hO h hk hkl hkk hat ha hxl ho hge hmk
  go_enter Try.func14, Try.ntmps14
  go_wp2_with fail
  rw [← HX.out]
  refine (HI.out _).mono ?_
  rintro e w5 ⟨rfl, rfl⟩
  go_wp2_with fail
  refine HH.out.mono ?_
  rintro e w1 ⟨rfl, hO⟩
  clear HH HI
  have hO := hO.addBox 87 #[.bool true, .int .u64 (ge : Int), .int .u64 (mk : Int)]
  obtain ⟨Y, HY⟩ : ∃ Y, Hid (Y = w1.heap.size) := ⟨_, Lib.hid rfl⟩
  have hYs : w1.heap.size = Y := HY.out.symm
  rw [hYs] at hO
  rw [List.append_assoc] at hO
  have hO : Own w0 (w1.alloc (.cells #[.bool true, .int .u64 (ge : Int), .int .u64 (mk : Int)] 87)) (Ps ++ boxP X 39 #[.int .i64 0, .int .u64 0, .int .u64 0, .string ⟨#[]⟩] :: [boxP Y 87 #[.bool true, .int .u64 (ge : Int), .int .u64 (mk : Int)]]) := hO
  obtain ⟨w2, hw2⟩ : ∃ w2, w1.alloc (.cells #[.bool true, .int .u64 (ge : Int), .int .u64 (mk : Int)] 87) = w2 := ⟨_, rfl⟩
  rw [hw2] at hO
  have hy : w2.heap[Y]? = some (.cells #[.bool true, .int .u64 (ge : Int), .int .u64 (mk : Int)] 87 (0, 0)) := Own.box hO (Ps.length + 1) (by rw [List.getElem?_append_right (by omega), show Ps.length + 1 - Ps.length = 1 from by omega]; rfl)
  have y0 : w2.cell? ⟨Y, 0, none⟩ = some (.bool true) := by simp [World.cell?, hy]
  have y1 : w2.cell? ⟨Y, 1, none⟩ = some (.int .u64 (ge : Int)) := by simp [World.cell?, hy]
  have y2 : w2.cell? ⟨Y, 2, none⟩ = some (.int .u64 (mk : Int)) := by simp [World.cell?, hy]
  clear hy
  have hz : w2.heap[X]? = some (.cells #[.int .i64 0, .int .u64 0, .int .u64 0, .string ⟨#[]⟩] 39 (0, 0)) := Own.box hO Ps.length (by rw [List.getElem?_append_right (Nat.le_refl _), Nat.sub_self]; rfl)
  have Hq : Hid (∀ w6 : World, w2.grownBy w6 (some X) → Own w0 w6 Ps) := Lib.hid (fun w6 hg => Own.forget (Qs := [_]) hO hg)
  clear hO
  have m0 : w2.cell? ⟨X, 0, none⟩ = some (.int .i64 0) := by simp [World.cell?, hz]
  have q0 : w2.frozen? ⟨X, 0, none⟩ = false := by simp [World.frozen?, hz]
  have m1 : w2.cell? ⟨X, 1, none⟩ = some (.int .u64 0) := by simp [World.cell?, hz]
  have q1 : w2.frozen? ⟨X, 1, none⟩ = false := by simp [World.frozen?, hz]
  have m2 : w2.cell? ⟨X, 2, none⟩ = some (.int .u64 0) := by simp [World.cell?, hz]
  have q2 : w2.frozen? ⟨X, 2, none⟩ = false := by simp [World.frozen?, hz]
  have m3 : w2.cell? ⟨X, 3, none⟩ = some (.string ⟨#[]⟩) := by simp [World.cell?, hz]
  have q3 : w2.frozen? ⟨X, 3, none⟩ = false := by simp [World.frozen?, hz]
  have hz1 := heap_setCell_at (o := 0) hz (.int .i64 0)
  have hz2 := heap_setCell_at (o := 1) hz1 (.int .u64 0)
  have hz3 := heap_setCell_at (o := 2) hz2 (.int .u64 0)
  have hz4 := heap_setCell_at (o := 3) hz3 (.string ⟨#[]⟩)
  have g1 : w2.grownBy ((((w2.setCell ⟨X, 0, none⟩ (.int .i64 0)).setCell ⟨X, 1, none⟩ (.int .u64 0)).setCell ⟨X, 2, none⟩ (.int .u64 0)).setCell ⟨X, 3, none⟩ (.string ⟨#[]⟩)) (some X) := (grown_trans (grown_trans (grown_trans (grown_setCell _ ⟨X, 0, none⟩ (.int .i64 0)) (grown_setCell _ ⟨X, 1, none⟩ (.int .u64 0))) (grown_setCell _ ⟨X, 2, none⟩ (.int .u64 0))) (grown_setCell _ ⟨X, 3, none⟩ (.string ⟨#[]⟩)))
  obtain ⟨W3, hW3⟩ : ∃ W3, W3 = ((((w2.setCell ⟨X, 0, none⟩ (.int .i64 0)).setCell ⟨X, 1, none⟩ (.int .u64 0)).setCell ⟨X, 2, none⟩ (.int .u64 0)).setCell ⟨X, 3, none⟩ (.string ⟨#[]⟩)) := ⟨_, rfl⟩
  clear hz1 hz2 hz3
  go_wp2_with fail
  rw [← hW3] at hz4 g1 ⊢
  have Z0 : W3.cell? ⟨X, 0, none⟩ = some (.int .i64 0) := by simp [World.cell?, hz4]
  have Z1 : W3.cell? ⟨X, 1, none⟩ = some (.int .u64 0) := by simp [World.cell?, hz4]
  have Z2 : W3.cell? ⟨X, 2, none⟩ = some (.int .u64 0) := by simp [World.cell?, hz4]
  have Z3 : W3.cell? ⟨X, 3, none⟩ = some (.string ⟨#[]⟩) := by simp [World.cell?, hz4]
  exact bodyPost_ret (v := .tuple #[.int .u8 0, .agg #[(.int .i64 0), (.int .u64 0), (.int .u64 0), (.string ⟨#[]⟩)], .int .i64 22]) (by simp [results, Try.results14, go_sem, Z0, Z1, Z2, Z3]) rfl ⟨rfl, Hq.out _ g1⟩

def OfR (mk seq S : Nat) : Nat := if seq ≤ mk then 2 else if 4 < seq - mk then 3 else if S = seq then 1 else 0
set_option maxRecDepth 100000 in
set_option maxHeartbeats 4000000 in
theorem OfH (k g : Nat) (xs : List Nat) (L : List (Nat × Nat)) (i at_ : Int) (ge mk seq : Nat) (w0 w : World) (Ps : List Pr) (h : Own w0 w Ps) (hk : Ps[k]? = some (viewP g xs L)) (hat : sessionV i = at_) (ha : 0 ≤ at_ ∧ at_ + 64 ≤ (xs.length : Int)) (hxl : xs.length ≤ 1000000) (ho : gotI xs L at_ = 1) (hge : gotI xs L (at_ + 1) = ge) (hmk : gotI xs L (at_ + 2) = mk) (hs1 : 1 ≤ seq) (hs2 : seq ≤ 1099511627776) (S : Nat)
    (HLd : ∀ wx Qs, Own w0 wx Qs → Qs[k]? = some (viewP g xs L) → Calls Try.prog 37 #[.pointer (some ⟨g, 0, none⟩), .int .i64 i, .int .i64 ((seq % 4 : Nat) : Int)] wx fun e w' => ∃ (ra rb : Nat) (dd : ByteArray), e = .returned (.tuple #[.int .u64 (S : Int), .agg #[.int .i64 0, .int .u64 (ra : Int), .int .u64 (rb : Int), .string dd], .int .i64 0]) ∧ Own w0 w' Qs) :
    Calls Try.prog 14 #[.pointer (some ⟨g, 0, none⟩), .int .i64 i, .int .u64 (ge : Int), .int .u64 (seq : Int)] w fun e w' => (∃ (ra rb : Nat) (dd : ByteArray), e = .returned (.tuple #[.int .u8 (OfR mk seq S : Int), .agg #[.int .i64 0, .int .u64 (ra : Int), .int .u64 (rb : Int), .string dd], .int .i64 0])) ∧ Own w0 w' Ps := by
  have hgg : ((ge : Int) != (ge : Int)) = false := by simp
  have HSl := Lib.hid (fun wx => slotOf_any seq wx)
  have HL := Lib.hid HLd
  clear HLd
  have hkl := (List.getElem?_eq_some_iff.1 hk).1
  obtain ⟨X, HX⟩ : ∃ X, Hid (X = w.heap.size) := ⟨_, Lib.hid rfl⟩
  have hO : Own w0 (w.alloc (.cells #[.int .i64 0, .int .u64 0, .int .u64 0, .string ⟨#[]⟩] 39)) (Ps ++ [boxP X 39 #[.int .i64 0, .int .u64 0, .int .u64 0, .string ⟨#[]⟩]]) := by rw [HX.out]; exact h.addBox _ _
  have hkk : ∀ Rs, (Ps ++ Rs)[k]? = some (viewP g xs L) := fun Rs => by rw [List.getElem?_append_left hkl]; exact hk
  have HH := Lib.hid (headH k g xs L i at_ ge mk w0 _ _ hO (hkk _) hat ha hxl ho hge hmk)
  have HI := Lib.hid (fun wx => isNumber_any seq wx)
  have hnb : numB seq = true := by unfold numB; rw [decide_eq_true hs1, decide_eq_true hs2]; rfl
  rw [hnb] at HI
  have Hkk := Lib.hid hkk
  clear hnb hO h hk hkl hkk hat ha hxl ho hge hmk
  go_enter Try.func14, Try.ntmps14
  go_wp2_with fail
  rw [← HX.out]
  refine (HI.out _).mono ?_
  rintro e w5 ⟨rfl, rfl⟩
  go_wp2_with fail
  refine HH.out.mono ?_
  rintro e w1 ⟨rfl, hO⟩
  clear HH HI
  have hO := hO.addBox 87 #[.bool true, .int .u64 (ge : Int), .int .u64 (mk : Int)]
  obtain ⟨Y, HY⟩ : ∃ Y, Hid (Y = w1.heap.size) := ⟨_, Lib.hid rfl⟩
  have hYs : w1.heap.size = Y := HY.out.symm
  rw [hYs] at hO
  rw [List.append_assoc] at hO
  have hO : Own w0 (w1.alloc (.cells #[.bool true, .int .u64 (ge : Int), .int .u64 (mk : Int)] 87)) (Ps ++ boxP X 39 #[.int .i64 0, .int .u64 0, .int .u64 0, .string ⟨#[]⟩] :: [boxP Y 87 #[.bool true, .int .u64 (ge : Int), .int .u64 (mk : Int)]]) := hO
  obtain ⟨w2, hw2⟩ : ∃ w2, w1.alloc (.cells #[.bool true, .int .u64 (ge : Int), .int .u64 (mk : Int)] 87) = w2 := ⟨_, rfl⟩
  rw [hw2] at hO
  have hy : w2.heap[Y]? = some (.cells #[.bool true, .int .u64 (ge : Int), .int .u64 (mk : Int)] 87 (0, 0)) := Own.box hO (Ps.length + 1) (by rw [List.getElem?_append_right (by omega), show Ps.length + 1 - Ps.length = 1 from by omega]; rfl)
  have y0 : w2.cell? ⟨Y, 0, none⟩ = some (.bool true) := by simp [World.cell?, hy]
  have y1 : w2.cell? ⟨Y, 1, none⟩ = some (.int .u64 (ge : Int)) := by simp [World.cell?, hy]
  have y2 : w2.cell? ⟨Y, 2, none⟩ = some (.int .u64 (mk : Int)) := by simp [World.cell?, hy]
  clear hy
  by_cases c1 : seq ≤ mk
  · have HR := Lib.hid (show OfR mk seq S = 2 by unfold OfR; rw [if_pos c1])
    have l1 : (seq : Int) ≤ (mk : Int) := by omega
    clear c1 hs1 hs2
    have hz : w2.heap[X]? = some (.cells #[.int .i64 0, .int .u64 0, .int .u64 0, .string ⟨#[]⟩] 39 (0, 0)) := Own.box hO Ps.length (by rw [List.getElem?_append_right (Nat.le_refl _), Nat.sub_self]; rfl)
    have Hq : Hid (∀ w6 : World, w2.grownBy w6 (some X) → Own w0 w6 Ps) := Lib.hid (fun w6 hg => Own.forget (Qs := [_]) hO hg)
    clear hO
    have m0 : w2.cell? ⟨X, 0, none⟩ = some (.int .i64 0) := by simp [World.cell?, hz]
    have q0 : w2.frozen? ⟨X, 0, none⟩ = false := by simp [World.frozen?, hz]
    have m1 : w2.cell? ⟨X, 1, none⟩ = some (.int .u64 0) := by simp [World.cell?, hz]
    have q1 : w2.frozen? ⟨X, 1, none⟩ = false := by simp [World.frozen?, hz]
    have m2 : w2.cell? ⟨X, 2, none⟩ = some (.int .u64 0) := by simp [World.cell?, hz]
    have q2 : w2.frozen? ⟨X, 2, none⟩ = false := by simp [World.frozen?, hz]
    have m3 : w2.cell? ⟨X, 3, none⟩ = some (.string ⟨#[]⟩) := by simp [World.cell?, hz]
    have q3 : w2.frozen? ⟨X, 3, none⟩ = false := by simp [World.frozen?, hz]
    have hz1 := heap_setCell_at (o := 0) hz (.int .i64 0)
    have hz2 := heap_setCell_at (o := 1) hz1 (.int .u64 0)
    have hz3 := heap_setCell_at (o := 2) hz2 (.int .u64 0)
    have hz4 := heap_setCell_at (o := 3) hz3 (.string ⟨#[]⟩)
    have g1 : w2.grownBy ((((w2.setCell ⟨X, 0, none⟩ (.int .i64 0)).setCell ⟨X, 1, none⟩ (.int .u64 0)).setCell ⟨X, 2, none⟩ (.int .u64 0)).setCell ⟨X, 3, none⟩ (.string ⟨#[]⟩)) (some X) := (grown_trans (grown_trans (grown_trans (grown_setCell _ ⟨X, 0, none⟩ (.int .i64 0)) (grown_setCell _ ⟨X, 1, none⟩ (.int .u64 0))) (grown_setCell _ ⟨X, 2, none⟩ (.int .u64 0))) (grown_setCell _ ⟨X, 3, none⟩ (.string ⟨#[]⟩)))
    obtain ⟨W3, hW3⟩ : ∃ W3, W3 = ((((w2.setCell ⟨X, 0, none⟩ (.int .i64 0)).setCell ⟨X, 1, none⟩ (.int .u64 0)).setCell ⟨X, 2, none⟩ (.int .u64 0)).setCell ⟨X, 3, none⟩ (.string ⟨#[]⟩)) := ⟨_, rfl⟩
    clear hz1 hz2 hz3
    go_wp2_with fail
    rw [← hW3] at hz4 g1 ⊢
    have Z0 : W3.cell? ⟨X, 0, none⟩ = some (.int .i64 0) := by simp [World.cell?, hz4]
    have Z1 : W3.cell? ⟨X, 1, none⟩ = some (.int .u64 0) := by simp [World.cell?, hz4]
    have Z2 : W3.cell? ⟨X, 2, none⟩ = some (.int .u64 0) := by simp [World.cell?, hz4]
    have Z3 : W3.cell? ⟨X, 3, none⟩ = some (.string ⟨#[]⟩) := by simp [World.cell?, hz4]
    exact bodyPost_ret (v := .tuple #[.int .u8 2, .agg #[(.int .i64 0), (.int .u64 0), (.int .u64 0), (.string ⟨#[]⟩)], .int .i64 0]) (by simp [results, Try.results14, go_sem, Z0, Z1, Z2, Z3]) rfl ⟨⟨0, 0, ⟨#[]⟩, by rw [HR.out]; rfl⟩, Hq.out _ g1⟩
  · have l1 : ¬ (seq : Int) ≤ (mk : Int) := by omega
    obtain ⟨D, hD⟩ : ∃ D, seq - mk = D := ⟨_, rfl⟩
    have wd : IntKind.u64.wrap ((seq : Int) - (mk : Int)) = (D : Int) := by rw [IntWalk.u64_in _ ⟨by omega, by omega⟩]; omega
    by_cases c2 : 4 < D
    · have HR := Lib.hid (show OfR mk seq S = 3 by unfold OfR; rw [if_neg c1, if_pos (by rw [hD]; exact c2)])
      have l2 : (4 : Int) < (D : Int) := by omega
      clear c1 c2 hs1 hs2 hD
      have hz : w2.heap[X]? = some (.cells #[.int .i64 0, .int .u64 0, .int .u64 0, .string ⟨#[]⟩] 39 (0, 0)) := Own.box hO Ps.length (by rw [List.getElem?_append_right (Nat.le_refl _), Nat.sub_self]; rfl)
      have Hq : Hid (∀ w6 : World, w2.grownBy w6 (some X) → Own w0 w6 Ps) := Lib.hid (fun w6 hg => Own.forget (Qs := [_]) hO hg)
      clear hO
      have m0 : w2.cell? ⟨X, 0, none⟩ = some (.int .i64 0) := by simp [World.cell?, hz]
      have q0 : w2.frozen? ⟨X, 0, none⟩ = false := by simp [World.frozen?, hz]
      have m1 : w2.cell? ⟨X, 1, none⟩ = some (.int .u64 0) := by simp [World.cell?, hz]
      have q1 : w2.frozen? ⟨X, 1, none⟩ = false := by simp [World.frozen?, hz]
      have m2 : w2.cell? ⟨X, 2, none⟩ = some (.int .u64 0) := by simp [World.cell?, hz]
      have q2 : w2.frozen? ⟨X, 2, none⟩ = false := by simp [World.frozen?, hz]
      have m3 : w2.cell? ⟨X, 3, none⟩ = some (.string ⟨#[]⟩) := by simp [World.cell?, hz]
      have q3 : w2.frozen? ⟨X, 3, none⟩ = false := by simp [World.frozen?, hz]
      have hz1 := heap_setCell_at (o := 0) hz (.int .i64 0)
      have hz2 := heap_setCell_at (o := 1) hz1 (.int .u64 0)
      have hz3 := heap_setCell_at (o := 2) hz2 (.int .u64 0)
      have hz4 := heap_setCell_at (o := 3) hz3 (.string ⟨#[]⟩)
      have g1 : w2.grownBy ((((w2.setCell ⟨X, 0, none⟩ (.int .i64 0)).setCell ⟨X, 1, none⟩ (.int .u64 0)).setCell ⟨X, 2, none⟩ (.int .u64 0)).setCell ⟨X, 3, none⟩ (.string ⟨#[]⟩)) (some X) := (grown_trans (grown_trans (grown_trans (grown_setCell _ ⟨X, 0, none⟩ (.int .i64 0)) (grown_setCell _ ⟨X, 1, none⟩ (.int .u64 0))) (grown_setCell _ ⟨X, 2, none⟩ (.int .u64 0))) (grown_setCell _ ⟨X, 3, none⟩ (.string ⟨#[]⟩)))
      obtain ⟨W3, hW3⟩ : ∃ W3, W3 = ((((w2.setCell ⟨X, 0, none⟩ (.int .i64 0)).setCell ⟨X, 1, none⟩ (.int .u64 0)).setCell ⟨X, 2, none⟩ (.int .u64 0)).setCell ⟨X, 3, none⟩ (.string ⟨#[]⟩)) := ⟨_, rfl⟩
      clear hz1 hz2 hz3
      go_wp2_with fail
      rw [← hW3] at hz4 g1 ⊢
      have Z0 : W3.cell? ⟨X, 0, none⟩ = some (.int .i64 0) := by simp [World.cell?, hz4]
      have Z1 : W3.cell? ⟨X, 1, none⟩ = some (.int .u64 0) := by simp [World.cell?, hz4]
      have Z2 : W3.cell? ⟨X, 2, none⟩ = some (.int .u64 0) := by simp [World.cell?, hz4]
      have Z3 : W3.cell? ⟨X, 3, none⟩ = some (.string ⟨#[]⟩) := by simp [World.cell?, hz4]
      exact bodyPost_ret (v := .tuple #[.int .u8 3, .agg #[(.int .i64 0), (.int .u64 0), (.int .u64 0), (.string ⟨#[]⟩)], .int .i64 0]) (by simp [results, Try.results14, go_sem, Z0, Z1, Z2, Z3]) rfl ⟨⟨0, 0, ⟨#[]⟩, by rw [HR.out]; rfl⟩, Hq.out _ g1⟩
    · have l2 : ¬ (4 : Int) < (D : Int) := by omega
      have HR0 := Lib.hid (show OfR mk seq S = if S = seq then 1 else 0 by unfold OfR; rw [if_neg c1, if_neg (by rw [hD]; exact c2)])
      clear c1 c2 hs1 hs2 hD
      replace hO := Lib.hid hO
      go_wp2_with fail
      try rw [hw2]
      refine (HSl.out _).mono ?_
      rintro e w5 ⟨rfl, rfl⟩
      go_wp2_with fail
      refine (HL.out _ _ hO.out (Hkk.out _)).mono ?_
      rintro e w3 ⟨ra, rb, dd, rfl, hO3⟩
      clear hO HL HSl y0 y1 y2 hw2 hYs
      have hO3 := hO3.addBox 39 #[.int .i64 0, .int .u64 (ra : Int), .int .u64 (rb : Int), .string dd]
      obtain ⟨V, HV⟩ : ∃ V, Hid (V = w3.heap.size) := ⟨_, Lib.hid rfl⟩
      have hVs : w3.heap.size = V := HV.out.symm
      rw [hVs] at hO3
      rw [List.append_assoc] at hO3
      have hO : Own w0 (w3.alloc (.cells #[.int .i64 0, .int .u64 (ra : Int), .int .u64 (rb : Int), .string dd] 39)) (Ps ++ boxP X 39 #[.int .i64 0, .int .u64 0, .int .u64 0, .string ⟨#[]⟩] :: [boxP Y 87 #[.bool true, .int .u64 (ge : Int), .int .u64 (mk : Int)], boxP V 39 #[.int .i64 0, .int .u64 (ra : Int), .int .u64 (rb : Int), .string dd]]) := hO3
      clear hO3
      obtain ⟨w4, hw4⟩ : ∃ w4, w3.alloc (.cells #[.int .i64 0, .int .u64 (ra : Int), .int .u64 (rb : Int), .string dd] 39) = w4 := ⟨_, rfl⟩
      rw [hw4] at hO
      have hv : w4.heap[V]? = some (.cells #[.int .i64 0, .int .u64 (ra : Int), .int .u64 (rb : Int), .string dd] 39 (0, 0)) := Own.box hO (Ps.length + 2) (by rw [List.getElem?_append_right (by omega), show Ps.length + 2 - Ps.length = 2 from by omega]; rfl)
      have v0 : w4.cell? ⟨V, 0, none⟩ = some (.int .i64 0) := by simp [World.cell?, hv]
      have v1 : w4.cell? ⟨V, 1, none⟩ = some (.int .u64 (ra : Int)) := by simp [World.cell?, hv]
      have v2 : w4.cell? ⟨V, 2, none⟩ = some (.int .u64 (rb : Int)) := by simp [World.cell?, hv]
      have v3 : w4.cell? ⟨V, 3, none⟩ = some (.string dd) := by simp [World.cell?, hv]
      clear hv
      by_cases c3 : S = seq
      · have HR := Lib.hid (show OfR mk seq S = 1 by rw [HR0.out, if_pos c3])
        have l3 : ((S : Int) != (seq : Int)) = false := by rw [c3]; simp
        clear c3 HR0
        have hz : w4.heap[X]? = some (.cells #[.int .i64 0, .int .u64 0, .int .u64 0, .string ⟨#[]⟩] 39 (0, 0)) := Own.box hO Ps.length (by rw [List.getElem?_append_right (Nat.le_refl _), Nat.sub_self]; rfl)
        have Hq : Hid (∀ w6 : World, w4.grownBy w6 (some X) → Own w0 w6 Ps) := Lib.hid (fun w6 hg => Own.forget (Qs := [_, _]) hO hg)
        clear hO
        have m0 : w4.cell? ⟨X, 0, none⟩ = some (.int .i64 0) := by simp [World.cell?, hz]
        have q0 : w4.frozen? ⟨X, 0, none⟩ = false := by simp [World.frozen?, hz]
        have m1 : w4.cell? ⟨X, 1, none⟩ = some (.int .u64 0) := by simp [World.cell?, hz]
        have q1 : w4.frozen? ⟨X, 1, none⟩ = false := by simp [World.frozen?, hz]
        have m2 : w4.cell? ⟨X, 2, none⟩ = some (.int .u64 0) := by simp [World.cell?, hz]
        have q2 : w4.frozen? ⟨X, 2, none⟩ = false := by simp [World.frozen?, hz]
        have m3 : w4.cell? ⟨X, 3, none⟩ = some (.string ⟨#[]⟩) := by simp [World.cell?, hz]
        have q3 : w4.frozen? ⟨X, 3, none⟩ = false := by simp [World.frozen?, hz]
        have hz1 := heap_setCell_at (o := 0) hz (.int .i64 0)
        have hz2 := heap_setCell_at (o := 1) hz1 (.int .u64 (ra : Int))
        have hz3 := heap_setCell_at (o := 2) hz2 (.int .u64 (rb : Int))
        have hz4 := heap_setCell_at (o := 3) hz3 (.string dd)
        have g1 : w4.grownBy ((((w4.setCell ⟨X, 0, none⟩ (.int .i64 0)).setCell ⟨X, 1, none⟩ (.int .u64 (ra : Int))).setCell ⟨X, 2, none⟩ (.int .u64 (rb : Int))).setCell ⟨X, 3, none⟩ (.string dd)) (some X) := (grown_trans (grown_trans (grown_trans (grown_setCell _ ⟨X, 0, none⟩ (.int .i64 0)) (grown_setCell _ ⟨X, 1, none⟩ (.int .u64 (ra : Int)))) (grown_setCell _ ⟨X, 2, none⟩ (.int .u64 (rb : Int)))) (grown_setCell _ ⟨X, 3, none⟩ (.string dd)))
        obtain ⟨W3, hW3⟩ : ∃ W3, W3 = ((((w4.setCell ⟨X, 0, none⟩ (.int .i64 0)).setCell ⟨X, 1, none⟩ (.int .u64 (ra : Int))).setCell ⟨X, 2, none⟩ (.int .u64 (rb : Int))).setCell ⟨X, 3, none⟩ (.string dd)) := ⟨_, rfl⟩
        clear hz1 hz2 hz3
        rw [← hW3] at hz4 g1
        have Z0 : W3.cell? ⟨X, 0, none⟩ = some (.int .i64 0) := by simp [World.cell?, hz4]
        have Z1 : W3.cell? ⟨X, 1, none⟩ = some (.int .u64 (ra : Int)) := by simp [World.cell?, hz4]
        have Z2 : W3.cell? ⟨X, 2, none⟩ = some (.int .u64 (rb : Int)) := by simp [World.cell?, hz4]
        have Z3 : W3.cell? ⟨X, 3, none⟩ = some (.string dd) := by simp [World.cell?, hz4]
        go_wp2_with fail
        go_region
        all_goals go_wp2
        all_goals (try rw [← hW3])
        all_goals exact bodyPost_ret (v := .tuple #[.int .u8 1, .agg #[(.int .i64 0), (.int .u64 (ra : Int)), (.int .u64 (rb : Int)), (.string dd)], .int .i64 0]) (by simp [results, Try.results14, go_sem, Z0, Z1, Z2, Z3]) rfl ⟨⟨ra, rb, dd, by rw [HR.out]; rfl⟩, Hq.out _ (grown_drew g1)⟩
      · have HR := Lib.hid (show OfR mk seq S = 0 by rw [HR0.out, if_neg c3])
        have l3 : ((S : Int) != (seq : Int)) = true := by simp; omega
        clear c3 HR0
        have hz : w4.heap[X]? = some (.cells #[.int .i64 0, .int .u64 0, .int .u64 0, .string ⟨#[]⟩] 39 (0, 0)) := Own.box hO Ps.length (by rw [List.getElem?_append_right (Nat.le_refl _), Nat.sub_self]; rfl)
        have Hq : Hid (∀ w6 : World, w4.grownBy w6 (some X) → Own w0 w6 Ps) := Lib.hid (fun w6 hg => Own.forget (Qs := [_, _]) hO hg)
        clear hO
        have m0 : w4.cell? ⟨X, 0, none⟩ = some (.int .i64 0) := by simp [World.cell?, hz]
        have q0 : w4.frozen? ⟨X, 0, none⟩ = false := by simp [World.frozen?, hz]
        have m1 : w4.cell? ⟨X, 1, none⟩ = some (.int .u64 0) := by simp [World.cell?, hz]
        have q1 : w4.frozen? ⟨X, 1, none⟩ = false := by simp [World.frozen?, hz]
        have m2 : w4.cell? ⟨X, 2, none⟩ = some (.int .u64 0) := by simp [World.cell?, hz]
        have q2 : w4.frozen? ⟨X, 2, none⟩ = false := by simp [World.frozen?, hz]
        have m3 : w4.cell? ⟨X, 3, none⟩ = some (.string ⟨#[]⟩) := by simp [World.cell?, hz]
        have q3 : w4.frozen? ⟨X, 3, none⟩ = false := by simp [World.frozen?, hz]
        have hz1 := heap_setCell_at (o := 0) hz (.int .i64 0)
        have hz2 := heap_setCell_at (o := 1) hz1 (.int .u64 0)
        have hz3 := heap_setCell_at (o := 2) hz2 (.int .u64 0)
        have hz4 := heap_setCell_at (o := 3) hz3 (.string ⟨#[]⟩)
        have g1 : w4.grownBy ((((w4.setCell ⟨X, 0, none⟩ (.int .i64 0)).setCell ⟨X, 1, none⟩ (.int .u64 0)).setCell ⟨X, 2, none⟩ (.int .u64 0)).setCell ⟨X, 3, none⟩ (.string ⟨#[]⟩)) (some X) := (grown_trans (grown_trans (grown_trans (grown_setCell _ ⟨X, 0, none⟩ (.int .i64 0)) (grown_setCell _ ⟨X, 1, none⟩ (.int .u64 0))) (grown_setCell _ ⟨X, 2, none⟩ (.int .u64 0))) (grown_setCell _ ⟨X, 3, none⟩ (.string ⟨#[]⟩)))
        obtain ⟨W3, hW3⟩ : ∃ W3, W3 = ((((w4.setCell ⟨X, 0, none⟩ (.int .i64 0)).setCell ⟨X, 1, none⟩ (.int .u64 0)).setCell ⟨X, 2, none⟩ (.int .u64 0)).setCell ⟨X, 3, none⟩ (.string ⟨#[]⟩)) := ⟨_, rfl⟩
        clear hz1 hz2 hz3
        go_wp2_with fail
        rw [← hW3] at hz4 g1 ⊢
        have Z0 : W3.cell? ⟨X, 0, none⟩ = some (.int .i64 0) := by simp [World.cell?, hz4]
        have Z1 : W3.cell? ⟨X, 1, none⟩ = some (.int .u64 0) := by simp [World.cell?, hz4]
        have Z2 : W3.cell? ⟨X, 2, none⟩ = some (.int .u64 0) := by simp [World.cell?, hz4]
        have Z3 : W3.cell? ⟨X, 3, none⟩ = some (.string ⟨#[]⟩) := by simp [World.cell?, hz4]
        exact bodyPost_ret (v := .tuple #[.int .u8 0, .agg #[(.int .i64 0), (.int .u64 0), (.int .u64 0), (.string ⟨#[]⟩)], .int .i64 0]) (by simp [results, Try.results14, go_sem, Z0, Z1, Z2, Z3]) rfl ⟨⟨0, 0, ⟨#[]⟩, by rw [HR.out]; rfl⟩, Hq.out _ g1⟩
end Go.Proofs.Ytdpkpphjpihhkaa
