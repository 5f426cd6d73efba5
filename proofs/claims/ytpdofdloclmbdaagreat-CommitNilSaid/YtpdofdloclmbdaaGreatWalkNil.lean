/- CommitNil, walked. -/
import Derived.Test.YtpdofdloclmbdaaGreatComE
import Derived.Test.YtpdofdloclmbdaaGreatOverMath
import Derived.Test.YtpdofdloclmbdaaGreatWorks
import Derived.Deep.RegionHeld
namespace Go.Proofs.YtpdofdloclmbdaaGreat.commitNil
open Go.RowKit Go.Grommet

theorem row_words {w : World} {ad : Option Addr} {n cp : Nat} {zs : List Nat} (h : w.ownsRow 0 44 1 (.slice ad n cp) n (zs.map wv)) (hs : ∀ m ∈ zs, m < 18446744073709551616) (hn : n ≤ 1000) : Words w ad n zs := by
  obtain ⟨ad', cp', he, hat, _, _⟩ := row_slice h
  cases he
  have hl := h.1
  rw [List.length_map, Nat.mul_one] at hl
  exact ⟨hl, hs, hat, by omega⟩
/-- Both Overs of any words: one answer, hidden. -/
def OvIs (n : Nat) (zs : List Nat) (w : World) (e : Ending) (w' : World) : Prop := ∃ ad cap, e = .returned (.slice ad n cap) ∧ w'.ownsRow 0 44 1 (.slice ad n cap) n (zs.map wv) ∧ w.grownBy w' none
theorem over_two (a b c : Int) (ad : Option Addr) (l cap : Nat) (xs : List Nat) (w : World) (hx : Words w ad l xs) (hlc : l ≤ cap) (hl : l ≤ 1000) :
    ∃ (n : Nat) (zs : List Nat), n ≤ 1000 ∧ (∀ m ∈ zs, m < 18446744073709551616) ∧ (∀ wx, w.grownBy wx none → Calls Tryz.prog 33 #[gv a b c, .slice ad l cap] wx (OvIs n zs wx)) ∧ (∀ wx, w.grownBy wx none → Calls Tryz.prog 34 #[gv a b c, .slice ad l cap] wx (OvIs n zs wx)) := by
  by_cases h : mayB a b c = true ∧ wordsV a b c ≤ (l : Int)
  · obtain ⟨hm, hw⟩ := h
    have hb := mayB_yes hm
    rw [words_pos hm] at hw
    obtain ⟨a, rfl⟩ := Int.eq_ofNat_of_zero_le (show 0 ≤ a by omega)
    obtain ⟨b, rfl⟩ := Int.eq_ofNat_of_zero_le (show 0 ≤ b by omega)
    obtain ⟨c, rfl⟩ := Int.eq_ofNat_of_zero_le (show 0 ≤ c by omega)
    have hN : 280 + 208 * a + 16 * b + 8 * c ≤ l := by omega
    obtain ⟨q, o, rfl⟩ := Words.lit hx (by omega)
    have hlen : (overS (a : Int) (b : Int) (c : Int) xs a).length = l := by rw [overS_length, hx.len]
    refine ⟨l, overS (a : Int) (b : Int) (c : Int) xs a, hl, over_small hx.small a, fun wx hg => (Over_yes 0 a b c q o l cap xs wx (hx.keep hg (by simp)) hlc hm hN (by omega) (Nat.zero_le _)).mono ?_, fun wx hg => (ROver_yes 0 a b c q o l cap xs wx (hx.keep hg (by simp)) hlc hm hN (by omega) (Nat.zero_le _)).mono ?_⟩
    · rintro e w' ⟨ad, cp, rfl, hr, hg'⟩
      rw [hlen] at hr ⊢
      exact ⟨ad, cp, rfl, hr, hg'⟩
    · rw [← over_same hm (by rw [hx.len]; omega)]
      rintro e w' ⟨ad, cp, rfl, hr, hg'⟩
      rw [hlen] at hr ⊢
      exact ⟨ad, cp, rfl, hr, hg'⟩
  · have h' : mayB a b c = false ∨ (l : Int) < wordsV a b c := by
      cases e : mayB a b c with
      | false => exact .inl rfl
      | true => exact .inr (by rw [e] at h; simp at h; omega)
    refine ⟨0, [], by omega, (fun m hm => by cases hm), fun wx hg => (Over_no a b c ad l cap wx h').mono ?_, fun wx hg => (ROver_no a b c ad l cap wx h').mono ?_⟩
    · rintro e w' ⟨rfl, hg'⟩
      exact ⟨none, 0, rfl, World.ownsRow_nil _ _ _ _, hg'⟩
    · rintro e w' ⟨rfl, hg'⟩
      exact ⟨none, 0, rfl, World.ownsRow_nil _ _ _ _, hg'⟩

set_option maxRecDepth 100000 in
set_option maxHeartbeats 400000 in
theorem New_nil (a b c k : Int) (w : World) : Calls Tryz.prog 43 #[.pointer none, gv a b c, .int .i64 k] w fun e w' => e = .returned (.tuple #[.pointer none, .int .i64 2]) ∧ w.grownBy w' none := by
  obtain ⟨w1, hw1⟩ : ∃ w1, w.alloc (.cells #[.int .i64 a, .int .i64 b, .int .i64 c] 26) = w1 := ⟨_, rfl⟩
  obtain ⟨G, hG⟩ : ∃ G, w.heap.size = G := ⟨_, rfl⟩
  have hg1 : w.grownBy w1 none := by rw [← hw1]; exact World.grownBy_alloc _ _ _
  have hgq : GeoQ G a b c w1 := by rw [← hw1, ← hG]; exact heap_alloc_new w _
  have HA := Lib.hid (fun wx => AreaAt_any a b c k wx)
  generalize areaV a b c k = v at HA
  obtain ⟨f0, f1, f2⟩ := hgq.cells
  have Hg1 := Lib.hid hg1
  unfold gv at HA ⊢
  clear hgq hg1
  go_enter Tryz.func43, Tryz.ntmps43
  go_wp2_with fail
  refine (HA.out _).mono ?_
  rintro e w2 ⟨rfl, hg2⟩
  have hfin := Lib.hid (grown_trans Hg1.out hg2)
  clear f0 f1 f2 hg2 hw1 hG
  go_wp2
  go_ret2
  exact ⟨rfl, hfin.out⟩
theorem Resume_nil (w : World) : Calls Tryz.prog 15 #[.pointer none] w fun e w' => e = .returned (.tuple #[.bool false, .int .i64 2]) ∧ w.grownBy w' none := by
  go_enter Tryz.func15, Tryz.ntmps15
  go_wp2
  go_ret2
  exact ⟨rfl, World.grownBy.refl _ _⟩
theorem Step_nil (w : World) : Calls Tryz.prog 23 #[.pointer none] w fun e w' => e = .returned (.tuple #[.int .u8 0, .int .i64 2]) ∧ w.grownBy w' none := by
  go_enter Tryz.func23, Tryz.ntmps23
  go_wp2
  go_ret2
  exact ⟨rfl, World.grownBy.refl _ _⟩
theorem Begin_nil (w : World) : Calls Tryz.prog 13 #[.pointer none, .slice none 0 0] w fun e w' => e = .returned (.int .i64 2) ∧ w.grownBy w' none := by
  go_enter Tryz.func13, Tryz.ntmps13
  go_wp2
  go_ret
  exact ⟨rfl, World.grownBy.refl _ _⟩
theorem Phase_nil (w : World) : Calls Tryz.prog 25 #[.pointer none] w fun e w' => e = .returned (.int .u8 0) ∧ w.grownBy w' none := by
  go_enter Tryz.func25, Tryz.ntmps25
  go_wp2
  go_ret
  exact ⟨rfl, World.grownBy.refl _ _⟩
theorem Left_nil (w : World) : Calls Tryz.prog 27 #[.pointer none] w fun e w' => e = .returned (.int .i64 0) ∧ w.grownBy w' none := by
  go_enter Tryz.func27, Tryz.ntmps27
  go_wp2
  go_ret
  exact ⟨rfl, World.grownBy.refl _ _⟩

set_option maxRecDepth 100000 in
set_option maxHeartbeats 1000000 in
theorem walk_far (a b c k : Int) (ad : Option Addr) (l cap : Nat) (w : World) (h : 1000 < l) :
    Calls Tryz.prog 5 #[gv a b c, .int .i64 k, .slice ad l cap] w (Go.Ev.WorksIs w) := by
  have HW := Lib.hid (works_ev (w.alloc (.cells #[.int .i64 a, .int .i64 b, .int .i64 c] 26)))
  have HG := Lib.hid (World.grownBy_alloc w (.cells #[.int .i64 a, .int .i64 b, .int .i64 c] 26) none)
  have g1 : (1000 : Int) < (l : Int) := by omega
  unfold gv
  go_enter Tryz.func5, Tryz.ntmps5
  go_wp2_with fail
  refine HW.out.mono ?_
  rintro e w5 ⟨rfl, hg⟩
  go_wp2
  go_ret
  exact ⟨rfl, grown_trans HG.out hg⟩

set_option maxRecDepth 100000 in
set_option maxHeartbeats 4000000 in
theorem walk_at (a b c k : Int) (ad : Option Addr) (l cap : Nat) (xs : List Nat) (w : World) (hx : Words w ad l xs) (hlc : l ≤ cap) (hl : l ≤ 1000) :
    Calls Tryz.prog 5 #[gv a b c, .int .i64 k, .slice ad l cap] w (Go.Ev.WorksIs w) := by
  obtain ⟨n, zs, hn1, hzs, H1, H2⟩ := over_two a b c ad l cap xs w hx hlc hl
  have hn1 := Lib.hid hn1
  have hzs := Lib.hid hzs
  have H1 := Lib.hid H1
  have H2 := Lib.hid H2
  have HNw := Lib.hid (fun wx => New_nil a b c k wx)
  have HRs := Lib.hid (fun wx => Resume_nil wx)
  have HSt := Lib.hid (fun wx => Step_nil wx)
  have HBg := Lib.hid (fun wx => Begin_nil wx)
  have HPh := Lib.hid (fun wx => Phase_nil wx)
  have HLf := Lib.hid (fun wx => Left_nil wx)
  have g1 : ¬ (1000 : Int) < (l : Int) := by omega
  obtain ⟨w1, hw1⟩ : ∃ w1, w.alloc (.cells #[.int .i64 a, .int .i64 b, .int .i64 c] 26) = w1 := ⟨_, rfl⟩
  obtain ⟨G, hG⟩ : ∃ G, w.heap.size = G := ⟨_, rfl⟩
  have hg1 : w.grownBy w1 none := by rw [← hw1]; exact World.grownBy_alloc _ _ _
  have hgq : GeoQ G a b c w1 := by rw [← hw1, ← hG]; exact heap_alloc_new w _
  obtain ⟨f0, f1, f2⟩ := hgq.cells
  have Hg1 := Lib.hid hg1
  have HGq := Lib.hid hgq
  unfold gv at H1 H2 HNw ⊢
  clear hgq hg1 hx
  go_enter Tryz.func5, Tryz.ntmps5
  go_wp2_with fail
  refine (HNw.out _).mono ?_
  rintro e w2 ⟨rfl, hg2⟩
  have hgx := Lib.hid (grown_trans Hg1.out hg2)
  have HG2 := Lib.hid (HGq.out.keep hg2)
  clear f0 f1 f2 hg2 hw1 hG HGq Hg1
  go_wp2_with fail
  refine (HRs.out _).mono ?_
  rintro e w3 ⟨rfl, hg3⟩
  have hgx3 := Lib.hid (grown_trans hgx.out hg3)
  have HG3 := Lib.hid (HG2.out.keep hg3)
  clear hg3 HG2 hgx
  go_wp2_with fail
  refine (HSt.out _).mono ?_
  rintro e w4 ⟨rfl, hg4⟩
  have hgx := Lib.hid (grown_drew (grown_trans hgx3.out hg4))
  have hz : Hid (GeoQ G a b c _) := Lib.hid ((HG3.out.keep hg4).keep (grown_drew (World.grownBy.refl _ none)))
  clear hg4 HG3 hgx3
  go_wp2_with fail
  refine wp_region_held_drew (S := fun w' => GeoQ G a b c w') (by kernel_rfl) (hz.out) (fun hS => ?_)
  refine wpAnyH_take (i := 0) (oi := { dst := some 34, op := Op.move (Operand.tmp 9), type := 40, pos := "law.go:352", after := #[], guard := none }) (v := ?vna5r7o0) rfl (by kernel_rfl) (by kernel_rfl) (by kernel_rfl) (fun _ _ _ h => h) (Or.inl ⟨by rfl, ?hna5r7o0⟩) hS ?_
  case hna5r7o0 => (intro wx hx; skip; go_simp; (try with_reducible rfl))
  try simp only [Act.put, List.setIfInBounds_toArray, List.set_cons_zero, List.set_cons_succ]
  refine wpAnyH_take (i := 1) (oi := { dst := some 35, op := Op.binOp BinOp.eql 40 (Operand.tmp 34) (Operand.const (Value.int IntKind.i64 2)) 40, type := 4, pos := "law.go:352", after := #[{ on := 0, ground := Ground.data }], guard := none }) (v := ?vna5r7o1) rfl (by kernel_rfl) (by kernel_rfl) (by kernel_rfl) (fun _ _ _ h => h) (Or.inl ⟨by rfl, ?hna5r7o1⟩) hS ?_
  case hna5r7o1 => (intro wx hx; skip; go_simp; (try with_reducible rfl))
  try simp only [Act.put, List.setIfInBounds_toArray, List.set_cons_zero, List.set_cons_succ]
  refine wpAnyH_take (i := 2) (oi := { dst := some 36, op := Op.move (Operand.tmp 35), type := 4, pos := "law.go:352", after := #[{ on := 1, ground := Ground.data }], guard := none }) (v := ?vna5r7o2) rfl (by kernel_rfl) (by kernel_rfl) (by kernel_rfl) (fun _ _ _ h => h) (Or.inl ⟨by rfl, ?hna5r7o2⟩) hS ?_
  case hna5r7o2 => (intro wx hx; skip; go_simp; (try with_reducible rfl))
  try simp only [Act.put, List.setIfInBounds_toArray, List.set_cons_zero, List.set_cons_succ]
  refine wpAnyH_take (i := 3) (oi := { dst := some 37, op := Op.move (Operand.tmp 7), type := 48, pos := "law.go:352", after := #[{ on := 2, ground := Ground.guard }], guard := some (2, true) }) (v := ?vna5r7o3) rfl (by kernel_rfl) (by kernel_rfl) (by kernel_rfl) (fun _ _ _ h => h) (Or.inl ⟨by rfl, ?hna5r7o3⟩) hS ?_
  case hna5r7o3 => (intro wx hx; skip; go_simp; (try with_reducible rfl))
  try simp only [Act.put, List.setIfInBounds_toArray, List.set_cons_zero, List.set_cons_succ]
  refine wpAnyH_ready (rs := [4]) (by kernel_rfl) (by simp) ?_
  refine AllReadyH.cons (o := { dst := some 38, op := Op.call { callee := Callee.value (Operand.func 13), args := #[Operand.tmp 37, Operand.const (Value.slice none 0 0)], argTypes := #[48, 43] }, type := 40, pos := "law.go:352", after := #[{ on := 3, ground := Ground.data }, { on := 2, ground := Ground.chain }, { on := 2, ground := Ground.guard }], guard := some (2, true) }) rfl (fun K hK => ?_) AllReadyH.nil
  go_simp
  refine (HBg.out _).mono ?_
  rintro e v1 ⟨rfl, hn⟩
  have hgn := Lib.hid (grown_trans hgx.out hn)
  have hS1 := GeoQ.keep hS hn
  clear hgx hn
  have hgx := hgn
  clear hgn
  refine hK.out _ _ ?hsna5r7o4 (fun hS => ?_)
  case hsna5r7o4 => (exact hS1)
  clear hK K
  try simp only [Act.put, List.setIfInBounds_toArray, List.set_cons_zero, List.set_cons_succ]
  refine wpAnyH_take (i := 5) (oi := { dst := some 39, op := Op.binOp BinOp.eql 40 (Operand.tmp 38) (Operand.const (Value.int IntKind.i64 2)) 40, type := 4, pos := "law.go:352", after := #[{ on := 4, ground := Ground.data }, { on := 2, ground := Ground.guard }], guard := some (2, true) }) (v := ?vna5r7o5) rfl (by kernel_rfl) (by kernel_rfl) (by kernel_rfl) (fun _ _ _ h => h) (Or.inl ⟨by rfl, ?hna5r7o5⟩) hS ?_
  case hna5r7o5 => (intro wx hx; skip; go_simp; (try with_reducible rfl))
  try simp only [Act.put, List.setIfInBounds_toArray, List.set_cons_zero, List.set_cons_succ]
  refine wpAnyH_take (i := 6) (oi := { dst := some 40, op := Op.pick (Operand.tmp 36) (Operand.tmp 39) (Operand.const (Value.bool false)), type := 4, pos := "law.go:352", after := #[{ on := 2, ground := Ground.data }, { on := 5, ground := Ground.data }], guard := none }) (v := ?vna5r7o6) rfl (by kernel_rfl) (by kernel_rfl) (by kernel_rfl) (fun _ _ _ h => h) (Or.inl ⟨by rfl, ?hna5r7o6⟩) hS ?_
  case hna5r7o6 => (intro wx hx; skip; go_simp; (try with_reducible rfl))
  try simp only [Act.put, List.setIfInBounds_toArray, List.set_cons_zero, List.set_cons_succ]
  refine wpAnyH_take (i := 7) (oi := { dst := some 41, op := Op.move (Operand.tmp 40), type := 4, pos := "law.go:352", after := #[{ on := 6, ground := Ground.data }, { on := 4, ground := Ground.chain }], guard := none }) (v := ?vna5r7o7) rfl (by kernel_rfl) (by kernel_rfl) (by kernel_rfl) (fun _ _ _ h => h) (Or.inl ⟨by rfl, ?hna5r7o7⟩) hS ?_
  case hna5r7o7 => (intro wx hx; skip; go_simp; (try with_reducible rfl))
  try simp only [Act.put, List.setIfInBounds_toArray, List.set_cons_zero, List.set_cons_succ]
  refine wpAnyH_take (i := 8) (oi := { dst := some 42, op := Op.move (Operand.tmp 10), type := 4, pos := "law.go:352", after := #[{ on := 7, ground := Ground.guard }], guard := some (7, true) }) (v := ?vna5r7o8) rfl (by kernel_rfl) (by kernel_rfl) (by kernel_rfl) (fun _ _ _ h => h) (Or.inl ⟨by rfl, ?hna5r7o8⟩) hS ?_
  case hna5r7o8 => (intro wx hx; skip; go_simp; (try with_reducible rfl))
  try simp only [Act.put, List.setIfInBounds_toArray, List.set_cons_zero, List.set_cons_succ]
  refine wpAnyH_take (i := 9) (oi := { dst := some 43, op := Op.unOp UnOp.not 4 (Operand.tmp 42), type := 4, pos := "law.go:352", after := #[{ on := 8, ground := Ground.data }, { on := 7, ground := Ground.guard }], guard := some (7, true) }) (v := ?vna5r7o9) rfl (by kernel_rfl) (by kernel_rfl) (by kernel_rfl) (fun _ _ _ h => h) (Or.inl ⟨by rfl, ?hna5r7o9⟩) hS ?_
  case hna5r7o9 => (intro wx hx; skip; go_simp; (try with_reducible rfl))
  try simp only [Act.put, List.setIfInBounds_toArray, List.set_cons_zero, List.set_cons_succ]
  refine wpAnyH_take (i := 10) (oi := { dst := some 44, op := Op.pick (Operand.tmp 41) (Operand.tmp 43) (Operand.const (Value.bool false)), type := 4, pos := "law.go:352", after := #[{ on := 7, ground := Ground.data }, { on := 9, ground := Ground.data }], guard := none }) (v := ?vna5r7o10) rfl (by kernel_rfl) (by kernel_rfl) (by kernel_rfl) (fun _ _ _ h => h) (Or.inl ⟨by rfl, ?hna5r7o10⟩) hS ?_
  case hna5r7o10 => (intro wx hx; skip; go_simp; (try with_reducible rfl))
  try simp only [Act.put, List.setIfInBounds_toArray, List.set_cons_zero, List.set_cons_succ]
  refine wpAnyH_take (i := 11) (oi := { dst := some 45, op := Op.move (Operand.tmp 44), type := 4, pos := "law.go:352", after := #[{ on := 10, ground := Ground.data }, { on := 7, ground := Ground.chain }], guard := none }) (v := ?vna5r7o11) rfl (by kernel_rfl) (by kernel_rfl) (by kernel_rfl) (fun _ _ _ h => h) (Or.inl ⟨by rfl, ?hna5r7o11⟩) hS ?_
  case hna5r7o11 => (intro wx hx; skip; go_simp; (try with_reducible rfl))
  try simp only [Act.put, List.setIfInBounds_toArray, List.set_cons_zero, List.set_cons_succ]
  refine wpAnyH_take (i := 12) (oi := { dst := some 46, op := Op.move (Operand.tmp 11), type := 40, pos := "law.go:352", after := #[{ on := 11, ground := Ground.guard }], guard := some (11, true) }) (v := ?vna5r7o12) rfl (by kernel_rfl) (by kernel_rfl) (by kernel_rfl) (fun _ _ _ h => h) (Or.inl ⟨by rfl, ?hna5r7o12⟩) hS ?_
  case hna5r7o12 => (intro wx hx; skip; go_simp; (try with_reducible rfl))
  try simp only [Act.put, List.setIfInBounds_toArray, List.set_cons_zero, List.set_cons_succ]
  refine wpAnyH_take (i := 13) (oi := { dst := some 47, op := Op.binOp BinOp.eql 40 (Operand.tmp 46) (Operand.const (Value.int IntKind.i64 2)) 40, type := 4, pos := "law.go:352", after := #[{ on := 12, ground := Ground.data }, { on := 11, ground := Ground.guard }], guard := some (11, true) }) (v := ?vna5r7o13) rfl (by kernel_rfl) (by kernel_rfl) (by kernel_rfl) (fun _ _ _ h => h) (Or.inl ⟨by rfl, ?hna5r7o13⟩) hS ?_
  case hna5r7o13 => (intro wx hx; skip; go_simp; (try with_reducible rfl))
  try simp only [Act.put, List.setIfInBounds_toArray, List.set_cons_zero, List.set_cons_succ]
  refine wpAnyH_take (i := 14) (oi := { dst := some 48, op := Op.pick (Operand.tmp 45) (Operand.tmp 47) (Operand.const (Value.bool false)), type := 4, pos := "law.go:352", after := #[{ on := 11, ground := Ground.data }, { on := 13, ground := Ground.data }], guard := none }) (v := ?vna5r7o14) rfl (by kernel_rfl) (by kernel_rfl) (by kernel_rfl) (fun _ _ _ h => h) (Or.inl ⟨by rfl, ?hna5r7o14⟩) hS ?_
  case hna5r7o14 => (intro wx hx; skip; go_simp; (try with_reducible rfl))
  try simp only [Act.put, List.setIfInBounds_toArray, List.set_cons_zero, List.set_cons_succ]
  refine wpAnyH_take (i := 15) (oi := { dst := some 49, op := Op.move (Operand.tmp 48), type := 4, pos := "law.go:352", after := #[{ on := 14, ground := Ground.data }, { on := 11, ground := Ground.chain }], guard := none }) (v := ?vna5r7o15) rfl (by kernel_rfl) (by kernel_rfl) (by kernel_rfl) (fun _ _ _ h => h) (Or.inl ⟨by rfl, ?hna5r7o15⟩) hS ?_
  case hna5r7o15 => (intro wx hx; skip; go_simp; (try with_reducible rfl))
  try simp only [Act.put, List.setIfInBounds_toArray, List.set_cons_zero, List.set_cons_succ]
  refine wpAnyH_take (i := 16) (oi := { dst := some 50, op := Op.move (Operand.tmp 12), type := 59, pos := "law.go:352", after := #[{ on := 15, ground := Ground.guard }], guard := some (15, true) }) (v := ?vna5r7o16) rfl (by kernel_rfl) (by kernel_rfl) (by kernel_rfl) (fun _ _ _ h => h) (Or.inl ⟨by rfl, ?hna5r7o16⟩) hS ?_
  case hna5r7o16 => (intro wx hx; skip; go_simp; (try with_reducible rfl))
  try simp only [Act.put, List.setIfInBounds_toArray, List.set_cons_zero, List.set_cons_succ]
  refine wpAnyH_take (i := 17) (oi := { dst := some 51, op := Op.binOp BinOp.eql 59 (Operand.tmp 50) (Operand.const (Value.int IntKind.u8 0)) 59, type := 4, pos := "law.go:352", after := #[{ on := 16, ground := Ground.data }, { on := 15, ground := Ground.guard }], guard := some (15, true) }) (v := ?vna5r7o17) rfl (by kernel_rfl) (by kernel_rfl) (by kernel_rfl) (fun _ _ _ h => h) (Or.inl ⟨by rfl, ?hna5r7o17⟩) hS ?_
  case hna5r7o17 => (intro wx hx; skip; go_simp; (try with_reducible rfl))
  try simp only [Act.put, List.setIfInBounds_toArray, List.set_cons_zero, List.set_cons_succ]
  refine wpAnyH_take (i := 18) (oi := { dst := some 52, op := Op.pick (Operand.tmp 49) (Operand.tmp 51) (Operand.const (Value.bool false)), type := 4, pos := "law.go:352", after := #[{ on := 15, ground := Ground.data }, { on := 17, ground := Ground.data }], guard := none }) (v := ?vna5r7o18) rfl (by kernel_rfl) (by kernel_rfl) (by kernel_rfl) (fun _ _ _ h => h) (Or.inl ⟨by rfl, ?hna5r7o18⟩) hS ?_
  case hna5r7o18 => (intro wx hx; skip; go_simp; (try with_reducible rfl))
  try simp only [Act.put, List.setIfInBounds_toArray, List.set_cons_zero, List.set_cons_succ]
  refine wpAnyH_take (i := 19) (oi := { dst := some 53, op := Op.move (Operand.tmp 52), type := 4, pos := "law.go:352", after := #[{ on := 18, ground := Ground.data }, { on := 15, ground := Ground.chain }], guard := none }) (v := ?vna5r7o19) rfl (by kernel_rfl) (by kernel_rfl) (by kernel_rfl) (fun _ _ _ h => h) (Or.inl ⟨by rfl, ?hna5r7o19⟩) hS ?_
  case hna5r7o19 => (intro wx hx; skip; go_simp; (try with_reducible rfl))
  try simp only [Act.put, List.setIfInBounds_toArray, List.set_cons_zero, List.set_cons_succ]
  refine wpAnyH_take (i := 20) (oi := { dst := some 54, op := Op.move (Operand.tmp 13), type := 40, pos := "law.go:352", after := #[{ on := 19, ground := Ground.guard }], guard := some (19, true) }) (v := ?vna5r7o20) rfl (by kernel_rfl) (by kernel_rfl) (by kernel_rfl) (fun _ _ _ h => h) (Or.inl ⟨by rfl, ?hna5r7o20⟩) hS ?_
  case hna5r7o20 => (intro wx hx; skip; go_simp; (try with_reducible rfl))
  try simp only [Act.put, List.setIfInBounds_toArray, List.set_cons_zero, List.set_cons_succ]
  refine wpAnyH_take (i := 21) (oi := { dst := some 55, op := Op.binOp BinOp.eql 40 (Operand.tmp 54) (Operand.const (Value.int IntKind.i64 2)) 40, type := 4, pos := "law.go:352", after := #[{ on := 20, ground := Ground.data }, { on := 19, ground := Ground.guard }], guard := some (19, true) }) (v := ?vna5r7o21) rfl (by kernel_rfl) (by kernel_rfl) (by kernel_rfl) (fun _ _ _ h => h) (Or.inl ⟨by rfl, ?hna5r7o21⟩) hS ?_
  case hna5r7o21 => (intro wx hx; skip; go_simp; (try with_reducible rfl))
  try simp only [Act.put, List.setIfInBounds_toArray, List.set_cons_zero, List.set_cons_succ]
  refine wpAnyH_take (i := 22) (oi := { dst := some 56, op := Op.pick (Operand.tmp 53) (Operand.tmp 55) (Operand.const (Value.bool false)), type := 4, pos := "law.go:352", after := #[{ on := 19, ground := Ground.data }, { on := 21, ground := Ground.data }], guard := none }) (v := ?vna5r7o22) rfl (by kernel_rfl) (by kernel_rfl) (by kernel_rfl) (fun _ _ _ h => h) (Or.inl ⟨by rfl, ?hna5r7o22⟩) hS ?_
  case hna5r7o22 => (intro wx hx; skip; go_simp; (try with_reducible rfl))
  try simp only [Act.put, List.setIfInBounds_toArray, List.set_cons_zero, List.set_cons_succ]
  refine wpAnyH_take (i := 23) (oi := { dst := some 57, op := Op.move (Operand.tmp 56), type := 4, pos := "law.go:352", after := #[{ on := 22, ground := Ground.data }, { on := 19, ground := Ground.chain }], guard := none }) (v := ?vna5r7o23) rfl (by kernel_rfl) (by kernel_rfl) (by kernel_rfl) (fun _ _ _ h => h) (Or.inl ⟨by rfl, ?hna5r7o23⟩) hS ?_
  case hna5r7o23 => (intro wx hx; skip; go_simp; (try with_reducible rfl))
  try simp only [Act.put, List.setIfInBounds_toArray, List.set_cons_zero, List.set_cons_succ]
  refine wpAnyH_take (i := 24) (oi := { dst := some 58, op := Op.move (Operand.tmp 7), type := 48, pos := "law.go:352", after := #[{ on := 23, ground := Ground.guard }], guard := some (23, true) }) (v := ?vna5r7o24) rfl (by kernel_rfl) (by kernel_rfl) (by kernel_rfl) (fun _ _ _ h => h) (Or.inl ⟨by rfl, ?hna5r7o24⟩) hS ?_
  case hna5r7o24 => (intro wx hx; skip; go_simp; (try with_reducible rfl))
  try simp only [Act.put, List.setIfInBounds_toArray, List.set_cons_zero, List.set_cons_succ]
  refine wpAnyH_ready (rs := [25]) (by kernel_rfl) (by simp) ?_
  refine AllReadyH.cons (o := { dst := some 59, op := Op.call { callee := Callee.value (Operand.func 25), args := #[Operand.tmp 58], argTypes := #[48] }, type := 59, pos := "law.go:352", after := #[{ on := 24, ground := Ground.data }, { on := 23, ground := Ground.chain }, { on := 23, ground := Ground.guard }], guard := some (23, true) }) rfl (fun K hK => ?_) AllReadyH.nil
  go_simp
  refine (HPh.out _).mono ?_
  rintro e v2 ⟨rfl, hn⟩
  have hgn := Lib.hid (grown_trans hgx.out hn)
  have hS1 := GeoQ.keep hS hn
  clear hgx hn
  have hgx := hgn
  clear hgn
  refine hK.out _ _ ?hsna5r7o25 (fun hS => ?_)
  case hsna5r7o25 => (exact hS1)
  clear hK K
  try simp only [Act.put, List.setIfInBounds_toArray, List.set_cons_zero, List.set_cons_succ]
  refine wpAnyH_take (i := 26) (oi := { dst := some 60, op := Op.binOp BinOp.eql 59 (Operand.tmp 59) (Operand.const (Value.int IntKind.u8 0)) 59, type := 4, pos := "law.go:352", after := #[{ on := 25, ground := Ground.data }, { on := 23, ground := Ground.guard }], guard := some (23, true) }) (v := ?vna5r7o26) rfl (by kernel_rfl) (by kernel_rfl) (by kernel_rfl) (fun _ _ _ h => h) (Or.inl ⟨by rfl, ?hna5r7o26⟩) hS ?_
  case hna5r7o26 => (intro wx hx; skip; go_simp; (try with_reducible rfl))
  try simp only [Act.put, List.setIfInBounds_toArray, List.set_cons_zero, List.set_cons_succ]
  refine wpAnyH_take (i := 27) (oi := { dst := some 61, op := Op.pick (Operand.tmp 57) (Operand.tmp 60) (Operand.const (Value.bool false)), type := 4, pos := "law.go:352", after := #[{ on := 23, ground := Ground.data }, { on := 26, ground := Ground.data }], guard := none }) (v := ?vna5r7o27) rfl (by kernel_rfl) (by kernel_rfl) (by kernel_rfl) (fun _ _ _ h => h) (Or.inl ⟨by rfl, ?hna5r7o27⟩) hS ?_
  case hna5r7o27 => (intro wx hx; skip; go_simp; (try with_reducible rfl))
  try simp only [Act.put, List.setIfInBounds_toArray, List.set_cons_zero, List.set_cons_succ]
  refine wpAnyH_take (i := 28) (oi := { dst := some 62, op := Op.move (Operand.tmp 61), type := 4, pos := "law.go:352", after := #[{ on := 27, ground := Ground.data }, { on := 25, ground := Ground.chain }], guard := none }) (v := ?vna5r7o28) rfl (by kernel_rfl) (by kernel_rfl) (by kernel_rfl) (fun _ _ _ h => h) (Or.inl ⟨by rfl, ?hna5r7o28⟩) hS ?_
  case hna5r7o28 => (intro wx hx; skip; go_simp; (try with_reducible rfl))
  try simp only [Act.put, List.setIfInBounds_toArray, List.set_cons_zero, List.set_cons_succ]
  refine wpAnyH_take (i := 29) (oi := { dst := some 63, op := Op.move (Operand.tmp 7), type := 48, pos := "law.go:352", after := #[{ on := 28, ground := Ground.guard }], guard := some (28, true) }) (v := ?vna5r7o29) rfl (by kernel_rfl) (by kernel_rfl) (by kernel_rfl) (fun _ _ _ h => h) (Or.inl ⟨by rfl, ?hna5r7o29⟩) hS ?_
  case hna5r7o29 => (intro wx hx; skip; go_simp; (try with_reducible rfl))
  try simp only [Act.put, List.setIfInBounds_toArray, List.set_cons_zero, List.set_cons_succ]
  refine wpAnyH_ready (rs := [30]) (by kernel_rfl) (by simp) ?_
  refine AllReadyH.cons (o := { dst := some 64, op := Op.call { callee := Callee.value (Operand.func 27), args := #[Operand.tmp 63], argTypes := #[48] }, type := 3, pos := "law.go:352", after := #[{ on := 29, ground := Ground.data }, { on := 28, ground := Ground.chain }, { on := 28, ground := Ground.guard }], guard := some (28, true) }) rfl (fun K hK => ?_) AllReadyH.nil
  go_simp
  refine (HLf.out _).mono ?_
  rintro e v3 ⟨rfl, hn⟩
  have hgn := Lib.hid (grown_trans hgx.out hn)
  have hS1 := GeoQ.keep hS hn
  clear hgx hn
  have hgx := hgn
  clear hgn
  refine hK.out _ _ ?hsna5r7o30 (fun hS => ?_)
  case hsna5r7o30 => (exact hS1)
  clear hK K
  try simp only [Act.put, List.setIfInBounds_toArray, List.set_cons_zero, List.set_cons_succ]
  refine wpAnyH_take (i := 31) (oi := { dst := some 65, op := Op.binOp BinOp.eql 3 (Operand.tmp 64) (Operand.const (Value.int IntKind.i64 0)) 3, type := 4, pos := "law.go:352", after := #[{ on := 30, ground := Ground.data }, { on := 28, ground := Ground.guard }], guard := some (28, true) }) (v := ?vna5r7o31) rfl (by kernel_rfl) (by kernel_rfl) (by kernel_rfl) (fun _ _ _ h => h) (Or.inl ⟨by rfl, ?hna5r7o31⟩) hS ?_
  case hna5r7o31 => (intro wx hx; skip; go_simp; (try with_reducible rfl))
  try simp only [Act.put, List.setIfInBounds_toArray, List.set_cons_zero, List.set_cons_succ]
  refine wpAnyH_take (i := 32) (oi := { dst := some 66, op := Op.pick (Operand.tmp 62) (Operand.tmp 65) (Operand.const (Value.bool false)), type := 4, pos := "law.go:352", after := #[{ on := 28, ground := Ground.data }, { on := 31, ground := Ground.data }], guard := none }) (v := ?vna5r7o32) rfl (by kernel_rfl) (by kernel_rfl) (by kernel_rfl) (fun _ _ _ h => h) (Or.inl ⟨by rfl, ?hna5r7o32⟩) hS ?_
  case hna5r7o32 => (intro wx hx; skip; go_simp; (try with_reducible rfl))
  try simp only [Act.put, List.setIfInBounds_toArray, List.set_cons_zero, List.set_cons_succ]
  refine wpAnyH_take (i := 33) (oi := { dst := some 67, op := Op.move (Operand.tmp 66), type := 4, pos := "law.go:352", after := #[{ on := 32, ground := Ground.data }, { on := 30, ground := Ground.chain }], guard := none }) (v := ?vna5r7o33) rfl (by kernel_rfl) (by kernel_rfl) (by kernel_rfl) (fun _ _ _ h => h) (Or.inl ⟨by rfl, ?hna5r7o33⟩) hS ?_
  case hna5r7o33 => (intro wx hx; skip; go_simp; (try with_reducible rfl))
  try simp only [Act.put, List.setIfInBounds_toArray, List.set_cons_zero, List.set_cons_succ]
  refine wpAnyH_take (i := 34) (oi := { dst := some 68, op := Op.load 26 (Operand.tmp 3), type := 26, pos := "law.go:352", after := #[{ on := 33, ground := Ground.guard }], guard := some (33, true) }) (v := ?vna5r7o34) rfl (by kernel_rfl) (by kernel_rfl) (by kernel_rfl) (fun _ _ _ h => h) (Or.inl ⟨by rfl, ?hna5r7o34⟩) hS ?_
  case hna5r7o34 => (intro wx hx; obtain ⟨f0, f1, f2⟩ := GeoQ.cells hx; go_simp; (try with_reducible rfl))
  try simp only [Act.put, List.setIfInBounds_toArray, List.set_cons_zero, List.set_cons_succ]
  refine wpAnyH_take (i := 35) (oi := { dst := some 69, op := Op.move (Operand.tmp 2), type := 33, pos := "law.go:352", after := #[{ on := 33, ground := Ground.guard }], guard := some (33, true) }) (v := ?vna5r7o35) rfl (by kernel_rfl) (by kernel_rfl) (by kernel_rfl) (fun _ _ _ h => h) (Or.inl ⟨by rfl, ?hna5r7o35⟩) hS ?_
  case hna5r7o35 => (intro wx hx; skip; go_simp; (try with_reducible rfl))
  try simp only [Act.put, List.setIfInBounds_toArray, List.set_cons_zero, List.set_cons_succ]
  refine wpAnyH_take (i := 37) (oi := { dst := some 71, op := Op.load 26 (Operand.tmp 3), type := 26, pos := "law.go:352", after := #[{ on := 33, ground := Ground.guard }], guard := some (33, true) }) (v := ?vna5r7o37) rfl (by kernel_rfl) (by kernel_rfl) (by kernel_rfl) (fun _ _ _ h => h) (Or.inl ⟨by rfl, ?hna5r7o37⟩) hS ?_
  case hna5r7o37 => (intro wx hx; obtain ⟨f0, f1, f2⟩ := GeoQ.cells hx; go_simp; (try with_reducible rfl))
  try simp only [Act.put, List.setIfInBounds_toArray, List.set_cons_zero, List.set_cons_succ]
  refine wpAnyH_take (i := 38) (oi := { dst := some 72, op := Op.move (Operand.tmp 2), type := 33, pos := "law.go:352", after := #[{ on := 33, ground := Ground.guard }], guard := some (33, true) }) (v := ?vna5r7o38) rfl (by kernel_rfl) (by kernel_rfl) (by kernel_rfl) (fun _ _ _ h => h) (Or.inl ⟨by rfl, ?hna5r7o38⟩) hS ?_
  case hna5r7o38 => (intro wx hx; skip; go_simp; (try with_reducible rfl))
  try simp only [Act.put, List.setIfInBounds_toArray, List.set_cons_zero, List.set_cons_succ]
  refine wpAnyH_ready (rs := [36]) (by kernel_rfl) (by simp) ?_
  refine AllReadyH.cons (o := { dst := some 70, op := Op.call { callee := Callee.value (Operand.func 33), args := #[Operand.tmp 68, Operand.tmp 69], argTypes := #[26, 33] }, type := 33, pos := "law.go:352", after := #[{ on := 34, ground := Ground.data }, { on := 35, ground := Ground.data }, { on := 33, ground := Ground.chain }, { on := 33, ground := Ground.guard }], guard := some (33, true) }) rfl (fun K hK => ?_) AllReadyH.nil
  go_simp
  refine (H1.out _ hgx.out).mono ?_
  rintro e v4 ⟨ad1, cp1, rfl, r1, hn⟩
  have r1 := Lib.hid r1
  have hgn := Lib.hid (grown_trans hgx.out hn)
  have hS1 := GeoQ.keep hS hn
  clear hgx hn
  have hgx := hgn
  clear hgn
  refine hK.out _ _ ?hsna5r7o36 (fun hS => ?_)
  case hsna5r7o36 => (exact hS1)
  clear hK K
  try simp only [Act.put, List.setIfInBounds_toArray, List.set_cons_zero, List.set_cons_succ]
  refine wpAnyH_ready (rs := [39]) (by kernel_rfl) (by simp) ?_
  refine AllReadyH.cons (o := { dst := some 73, op := Op.call { callee := Callee.value (Operand.func 34), args := #[Operand.tmp 71, Operand.tmp 72], argTypes := #[28, 33] }, type := 33, pos := "law.go:352", after := #[{ on := 37, ground := Ground.data }, { on := 38, ground := Ground.data }, { on := 36, ground := Ground.chain }, { on := 33, ground := Ground.guard }], guard := some (33, true) }) rfl (fun K hK => ?_) AllReadyH.nil
  go_simp
  refine (H2.out _ hgx.out).mono ?_
  rintro e v5 ⟨ad2, cp2, rfl, r2, hn⟩
  have p1 := (row_words r1.out hzs.out hn1.out).keep hn (by simp)
  have p2 := row_words r2 hzs.out hn1.out
  have HS8 := Lib.hid (Same_any ad1 ad2 n n cp1 cp2 zs zs v5 p1 p2)
  rw [decide_eq_true rfl] at HS8
  clear r1 r2 p1 p2
  have hgn := Lib.hid (grown_trans hgx.out hn)
  have hS1 := GeoQ.keep hS hn
  clear hgx hn
  have hgx := hgn
  clear hgn
  refine hK.out _ _ ?hsna5r7o39 (fun hS => ?_)
  case hsna5r7o39 => (exact hS1)
  clear hK K
  try simp only [Act.put, List.setIfInBounds_toArray, List.set_cons_zero, List.set_cons_succ]
  refine wpAnyH_ready (rs := [40]) (by kernel_rfl) (by simp) ?_
  refine AllReadyH.cons (o := { dst := some 74, op := Op.call { callee := Callee.value (Operand.func 30), args := #[Operand.tmp 70, Operand.tmp 73], argTypes := #[33, 33] }, type := 4, pos := "law.go:352", after := #[{ on := 36, ground := Ground.data }, { on := 39, ground := Ground.data }, { on := 39, ground := Ground.chain }, { on := 33, ground := Ground.guard }], guard := some (33, true) }) rfl (fun K hK => ?_) AllReadyH.nil
  go_simp
  refine HS8.out.mono ?_
  rintro e v6 ⟨rfl, hn⟩
  have hgn := Lib.hid (grown_trans hgx.out hn)
  have hS1 := GeoQ.keep hS hn
  clear hgx hn
  have hgx := hgn
  clear hgn
  have HWk := Lib.hid (works_ev v6)
  refine hK.out _ _ ?hsna5r7o40 (fun hS => ?_)
  case hsna5r7o40 => (exact hS1)
  clear hK K
  try simp only [Act.put, List.setIfInBounds_toArray, List.set_cons_zero, List.set_cons_succ]
  refine wpAnyH_take (i := 41) (oi := { dst := some 75, op := Op.pick (Operand.tmp 67) (Operand.tmp 74) (Operand.const (Value.bool false)), type := 4, pos := "law.go:352", after := #[{ on := 33, ground := Ground.data }, { on := 40, ground := Ground.data }], guard := none }) (v := ?vna5r7o41) rfl (by kernel_rfl) (by kernel_rfl) (by kernel_rfl) (fun _ _ _ h => h) (Or.inl ⟨by rfl, ?hna5r7o41⟩) hS ?_
  case hna5r7o41 => (intro wx hx; skip; go_simp; (try with_reducible rfl))
  try simp only [Act.put, List.setIfInBounds_toArray, List.set_cons_zero, List.set_cons_succ]
  refine wpAnyH_take (i := 42) (oi := { dst := some 76, op := Op.move (Operand.tmp 75), type := 4, pos := "law.go:352", after := #[{ on := 41, ground := Ground.data }, { on := 40, ground := Ground.chain }], guard := none }) (v := ?vna5r7o42) rfl (by kernel_rfl) (by kernel_rfl) (by kernel_rfl) (fun _ _ _ h => h) (Or.inl ⟨by rfl, ?hna5r7o42⟩) hS ?_
  case hna5r7o42 => (intro wx hx; skip; go_simp; (try with_reducible rfl))
  try simp only [Act.put, List.setIfInBounds_toArray, List.set_cons_zero, List.set_cons_succ]
  refine wpAnyH_ready (rs := [43]) (by kernel_rfl) (by simp) ?_
  refine AllReadyH.cons (o := { dst := some 77, op := Op.call { callee := Callee.value (Operand.func 7), args := #[], argTypes := #[] }, type := 4, pos := "law.go:352", after := #[{ on := 42, ground := Ground.chain }, { on := 42, ground := Ground.guard }], guard := some (42, true) }) rfl (fun K hK => ?_) AllReadyH.nil
  go_simp
  refine HWk.out.mono ?_
  rintro e v7 ⟨rfl, hn⟩
  have hgn := Lib.hid (grown_trans hgx.out hn)
  have hS1 := GeoQ.keep hS hn
  clear hgx hn
  have hgx := hgn
  clear hgn
  refine hK.out _ _ ?hsna5r7o43 (fun hS => ?_)
  case hsna5r7o43 => (exact hS1)
  clear hK K
  try simp only [Act.put, List.setIfInBounds_toArray, List.set_cons_zero, List.set_cons_succ]
  refine wpAnyH_take (i := 44) (oi := { dst := some 78, op := Op.pick (Operand.tmp 76) (Operand.tmp 77) (Operand.const (Value.bool false)), type := 4, pos := "law.go:352", after := #[{ on := 42, ground := Ground.data }, { on := 43, ground := Ground.data }], guard := none }) (v := ?vna5r7o44) rfl (by kernel_rfl) (by kernel_rfl) (by kernel_rfl) (fun _ _ _ h => h) (Or.inl ⟨by rfl, ?hna5r7o44⟩) hS ?_
  case hna5r7o44 => (intro wx hx; skip; go_simp; (try with_reducible rfl))
  try simp only [Act.put, List.setIfInBounds_toArray, List.set_cons_zero, List.set_cons_succ]
  refine wpAnyH_take (i := 45) (oi := { dst := some 6, op := Op.assign (Operand.tmp 78), type := 4, pos := "law.go:352", after := #[{ on := 44, ground := Ground.data }, { on := 43, ground := Ground.chain }, { on := 0, ground := Ground.phase }, { on := 1, ground := Ground.phase }, { on := 2, ground := Ground.phase }, { on := 3, ground := Ground.phase }, { on := 4, ground := Ground.phase }, { on := 5, ground := Ground.phase }, { on := 6, ground := Ground.phase }, { on := 7, ground := Ground.phase }, { on := 8, ground := Ground.phase }, { on := 9, ground := Ground.phase }, { on := 10, ground := Ground.phase }, { on := 11, ground := Ground.phase }, { on := 12, ground := Ground.phase }, { on := 13, ground := Ground.phase }, { on := 14, ground := Ground.phase }, { on := 15, ground := Ground.phase }, { on := 16, ground := Ground.phase }, { on := 17, ground := Ground.phase }, { on := 18, ground := Ground.phase }, { on := 19, ground := Ground.phase }, { on := 20, ground := Ground.phase }, { on := 21, ground := Ground.phase }, { on := 22, ground := Ground.phase }, { on := 23, ground := Ground.phase }, { on := 24, ground := Ground.phase }, { on := 25, ground := Ground.phase }, { on := 26, ground := Ground.phase }, { on := 27, ground := Ground.phase }, { on := 28, ground := Ground.phase }, { on := 29, ground := Ground.phase }, { on := 30, ground := Ground.phase }, { on := 31, ground := Ground.phase }, { on := 32, ground := Ground.phase }, { on := 33, ground := Ground.phase }, { on := 34, ground := Ground.phase }, { on := 35, ground := Ground.phase }, { on := 36, ground := Ground.phase }, { on := 37, ground := Ground.phase }, { on := 38, ground := Ground.phase }, { on := 39, ground := Ground.phase }, { on := 40, ground := Ground.phase }, { on := 41, ground := Ground.phase }, { on := 42, ground := Ground.phase }, { on := 43, ground := Ground.phase }, { on := 44, ground := Ground.phase }], guard := none }) (v := ?vna5r7o45) rfl (by kernel_rfl) (by kernel_rfl) (by kernel_rfl) (fun _ _ _ h => h) (Or.inl ⟨by rfl, ?hna5r7o45⟩) hS ?_
  case hna5r7o45 => (intro wx hx; skip; go_simp; (try with_reducible rfl))
  try simp only [Act.put, List.setIfInBounds_toArray, List.set_cons_zero, List.set_cons_succ]
  refine wpAnyH_done (by kernel_rfl) ?_ _
  have hfin := Lib.hid hgx.out
  clear hgx
  go_wp2
  go_ret
  exact ⟨rfl, hfin.out⟩

theorem walk (a b c k : Int) (ad : Option Addr) (l cap : Nat) (z : List Int) (w : World) (_ : (Lit.int .i64 a).wf = true) (_ : (Lit.int .i64 b).wf = true) (_ : (Lit.int .i64 c).wf = true) (_ : (Lit.int .i64 k).wf = true) (w0 : RowIn .u64 w ad l cap z) :
    Calls Tryz.prog 5 #[gv a b c, .int .i64 k, .slice ad l cap] w (Go.Ev.WorksIs w) := by
  obtain ⟨xs, hx⟩ := rowIn_words w0
  by_cases h : 1000 < l
  · exact walk_far a b c k ad l cap w h
  · exact walk_at a b c k ad l cap xs w hx w0.2.1 (by omega)
end Go.Proofs.YtpdofdloclmbdaaGreat.commitNil
