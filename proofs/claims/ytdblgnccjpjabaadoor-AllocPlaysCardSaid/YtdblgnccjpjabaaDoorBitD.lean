/- Package bitmap: Get, Set. -/
import Derived.Test.YtdblgnccjpjabaaDoorBitC
-- OPTIONAL
namespace Go.Proofs.YtdblgnccjpjabaaDoor
open Go.RowKit Go.Grommet

theorem calls_same {P : Program} {f : FuncId} {args : Array Value} {w : World} {v : Value} (h : Calls P f args w fun e w' => e = .returned v ∧ w = w') : Calls P f args w fun e w' => e = .returned v ∧ w' = w :=
  h.mono fun _ _ ⟨a, b⟩ => ⟨a, b.symm⟩
theorem obj_drew {w : World} {X : Nat} {o : Obj} (h : w.heap[X]? = some o) (n : Nat) : (w.drewN n).heap[X]? = some o := h

/-- What Get tells. -/
def getM (xs : List Nat) (L : List (Nat × Nat)) (a m : Nat) (i : Int) : Bool := inB i m && mbit xs L a i.toNat

set_option maxRecDepth 100000 in
set_option maxHeartbeats 1000000 in
theorem MGetH (k k2 X g a m : Nat) (xs : List Nat) (L : List (Nat × Nat)) (i : Int) (w0 w : World) (Ps : List Pr) (h : Own w0 w Ps) (hk : Ps[k]? = some (viewP g xs L)) (hx : Ps[k2]? = some (mapP X g a m)) (hM : MapOk xs.length a m) (c : Bool) (hc : getM xs L a m i = c) :
    Calls Tryd.prog 57 #[.pointer (some ⟨X, 0, none⟩), .int .i64 i] w fun e w' => e = .returned (.bool c) ∧ w.grownBy w' none := by
  have hb := h.box k2 hx
  obtain ⟨c0, c1, c2⟩ := map_cells hb
  obtain ⟨hW, hxs, hxl⟩ := Own.wl h k hk
  have hlt := hM.lt
  unfold getM at hc
  have HH := Lib.hid (fun n => calls_same (has_any X g a m i (w.drewN n) (obj_drew hb n)))
  cases hin : inB i m with
  | false =>
    rw [hin] at hc
    obtain rfl : false = c := by simpa using hc
    rw [hin] at HH
    clear hin h hb hk hx hc hM hlt hW hxs hxl
    go_enter Tryd.func57, Tryd.ntmps57
    go_wp2_with fail
    go_quiet ((go_at_call 76; exact Calls.quiet_of_same (HH.out _)))
    go_wp2
    go_ret
    exact ⟨rfl, grown_drewN _ _ _⟩
  | true =>
    have hi : 0 ≤ i ∧ i < (m : Int) := by unfold inB at hin; simpa using hin
    obtain ⟨j, rfl⟩ := Int.eq_ofNat_of_zero_le hi.1
    have hj : j < m := by omega
    rw [hin, Bool.true_and] at hc
    unfold mbit at hc
    rw [Int.toNat_natCast] at hc
    rw [hin] at HH
    have hf := hM.fits
    have hin2 : 0 ≤ ((a + j / 64 : Nat) : Int) ∧ ((a + j / 64 : Nat) : Int) < (xs.length : Int) := by omega
    have HG := Lib.hid (fun n => GetH k g xs L ((a + j / 64 : Nat) : Int) w0 (w.drewN n) Ps (h.quiet (grown_drewN w n none)) hk)
    have HB := Lib.hid (fun n => calls_same (bit_any j (w.drewN n) (by omega)))
    rw [show gotI xs L ((a + j / 64 : Nat) : Int) = gotV xs L (a + j / 64) from by unfold gotI; rw [if_pos hin2, Int.toNat_natCast]] at HG
    have e1 : IntKind.i64.wrap ((a : Int) + (j : Int) / 64) = ((a + j / 64 : Nat) : Int) := by rw [IntWalk.i64_in _ ⟨by omega, by omega⟩]; omega
    have e2 : (a : Int) + (j : Int) / 64 = ((a + j / 64 : Nat) : Int) := by omega
    have e0 : IntKind.i64.wrap ((j : Int) / 64) = (j : Int) / 64 := IntWalk.i64_in _ ⟨by omega, by omega⟩
    have e5 : IntKind.i64.wrap ((a + j / 64 : Nat) : Int) = ((a + j / 64 : Nat) : Int) := IntWalk.i64_in _ ⟨by omega, by omega⟩
    have hV := gotV_small hxs hW.val (a + j / 64)
    have hp := pow_lt64 (j := j % 64) (by omega)
    have hz := and_bit (gotV xs L (a + j / 64)) (j % 64)
    generalize gotV xs L (a + j / 64) = V at *
    generalize a + j / 64 = A at *
    obtain ⟨R, hR⟩ : ∃ R, V &&& 2 ^ (j % 64) = R := ⟨_, rfl⟩
    have e3 := and_u64 V (2 ^ (j % 64)) hV hp R hR (V : Int) ((2 ^ (j % 64) : Nat) : Int) rfl rfl
    rw [hR] at hz
    have e4 : ((R : Int) != 0) = c := by
      rw [← hc]
      cases hb' : V.testBit (j % 64) with
      | false => have := hz.2 hb'; subst this; rfl
      | true =>
        have : R ≠ 0 := fun e => by have := hz.1 e; rw [hb'] at this; cases this
        simp; omega
    obtain ⟨B, hB⟩ : ∃ B, 2 ^ (j % 64) = B := ⟨_, rfl⟩
    rw [hB] at HB e3
    clear hin h hb hk hx hc hM hlt hW hxs hxl hf hin2 hz hp hV hR hB
    have j0 : (0 : Int) ≤ (j : Int) := by omega
    go_enter Tryd.func57, Tryd.ntmps57
    go_wp2_with fail
    go_quiet ((first | (go_at_call 76; exact Calls.quiet_of_same (HH.out _)) | (go_at_call 77; with_reducible exact Calls.quiet_of_same (HG.out _)) | (go_at_call 78; exact Calls.quiet_of_same (HB.out _))))
    go_wp2
    go_ret
    exact ⟨rfl, grown_drewN _ _ _⟩

/-- What Set does. -/
def setMI (xs : List Nat) (L : List (Nat × Nat)) (a m : Nat) (i : Int) (is : Bool) : List (Nat × Nat) :=
  if inB i m then putI xs L ((a + i.toNat / 64 : Nat) : Int) (setB (gotV xs L (a + i.toNat / 64)) (i.toNat % 64) is) else L
def setME (xs : List Nat) (L : List (Nat × Nat)) (a m : Nat) (i : Int) : Nat :=
  if inB i m then putEI xs L ((a + i.toNat / 64 : Nat) : Int) else 8

set_option maxRecDepth 100000 in
set_option maxHeartbeats 1000000 in
theorem MSetH (k k2 X g a m : Nat) (xs : List Nat) (L : List (Nat × Nat)) (i : Int) (is : Bool) (en : Int) (w0 w : World) (Ps Qs : List Pr) (h : Own w0 w Ps) (hk : Ps[k]? = some (viewP g xs L)) (hx : Ps[k2]? = some (mapP X g a m)) (hM : MapOk xs.length a m)
    (he : (setME xs L a m i : Int) = en) (hQ : Ps.set k (viewP g xs (setMI xs L a m i is)) = Qs) :
    Calls Tryd.prog 69 #[.pointer (some ⟨X, 0, none⟩), .int .i64 i, .bool is] w fun e w' => e = .returned (.int .i64 en) ∧ Own w0 w' Qs := by
  have hb := h.box k2 hx
  obtain ⟨c0, c1, c2⟩ := map_cells hb
  obtain ⟨hW, hxs, hxl⟩ := Own.wl h k hk
  have hlt := hM.lt
  have HH := Lib.hid (has_any X g a m i w hb)
  have hQs : Ps.set k (viewP g xs L) = Ps := by
    apply List.ext_getElem?
    intro i
    by_cases hi : i = k
    · subst hi; rw [List.getElem?_set_self (List.getElem?_eq_some_iff.1 hk).1, hk]
    · rw [List.getElem?_set_ne (fun e => hi e.symm)]
  cases hin : inB i m with
  | false =>
    unfold setME at he
    unfold setMI at hQ
    rw [hin] at he hQ HH
    simp only [Bool.false_eq_true, if_false] at he hQ
    rw [hQs] at hQ
    subst he hQ
    have HO := Lib.hid h
    clear hin h hb hk hx hM hlt hW hxs hxl hQs
    go_enter Tryd.func69, Tryd.ntmps69
    go_wp2_with fail
    refine HH.out.mono ?_
    rintro e w1 ⟨rfl, rfl⟩
    go_wp2
    go_ret
    exact ⟨rfl, HO.out⟩
  | true =>
    have hi : 0 ≤ i ∧ i < (m : Int) := by unfold inB at hin; simpa using hin
    obtain ⟨j, rfl⟩ := Int.eq_ofNat_of_zero_le hi.1
    have hj : j < m := by omega
    unfold setME at he
    unfold setMI at hQ
    rw [hin] at he hQ HH
    simp only [if_true, Int.toNat_natCast] at he hQ
    have hf := hM.fits
    have hin2 : 0 ≤ ((a + j / 64 : Nat) : Int) ∧ ((a + j / 64 : Nat) : Int) < (xs.length : Int) := by omega
    have HG := Lib.hid (GetH k g xs L ((a + j / 64 : Nat) : Int) w0 w Ps h hk)
    have HB := Lib.hid (fun w => bit_any j w (by omega))
    rw [show gotI xs L ((a + j / 64 : Nat) : Int) = gotV xs L (a + j / 64) from by unfold gotI; rw [if_pos hin2, Int.toNat_natCast]] at HG
    have e1 : IntKind.i64.wrap ((a : Int) + (j : Int) / 64) = ((a + j / 64 : Nat) : Int) := by rw [IntWalk.i64_in _ ⟨by omega, by omega⟩]; omega
    have e2 : (a : Int) + (j : Int) / 64 = ((a + j / 64 : Nat) : Int) := by omega
    have e0 : IntKind.i64.wrap ((j : Int) / 64) = (j : Int) / 64 := IntWalk.i64_in _ ⟨by omega, by omega⟩
    have e6 : IntKind.i64.wrap ((a + j / 64 : Nat) : Int) = ((a + j / 64 : Nat) : Int) := IntWalk.i64_in _ ⟨by omega, by omega⟩
    have hV := gotV_small hxs hW.val (a + j / 64)
    have hp := pow_lt64 (j := j % 64) (by omega)
    have hs := setB_small (v := gotV xs L (a + j / 64)) is (by omega : j % 64 < 64) hV
    have HP := Lib.hid (PutH k g xs L ((a + j / 64 : Nat) : Int) (setB (gotV xs L (a + j / 64)) (j % 64) is) en w0 w Ps Qs h hk hs he hQ)
    obtain ⟨V, eV⟩ : ∃ V, gotV xs L (a + j / 64) = V := ⟨_, rfl⟩
    obtain ⟨A, eA⟩ : ∃ A, a + j / 64 = A := ⟨_, rfl⟩
    rw [eV] at HG HP hV
    rw [eA] at HG HP e1 e2 e6
    obtain ⟨B, hB⟩ : ∃ B, 2 ^ (j % 64) = B := ⟨_, rfl⟩
    obtain ⟨C, hC⟩ : ∃ C, V &&& (18446744073709551615 - B) = C := ⟨_, rfl⟩
    obtain ⟨D, hD⟩ : ∃ D, C ||| B = D := ⟨_, rfl⟩
    have hCs : C < 18446744073709551616 := by rw [← hC]; exact Nat.lt_of_le_of_lt Nat.and_le_left hV
    rw [hB] at HB hp
    have e3 : bits .andNot .u64 (V : Int) (B : Int) = (C : Int) := by rw [← hC]; exact u64_andNot_nat V B hV hp
    have e4 : bits .or .u64 (C : Int) (B : Int) = (D : Int) := by rw [← hD]; exact u64_or_nat C B hCs hp
    have e5 : setB V (j % 64) is = if is then D else C := by unfold setB; rw [hB, hC, hD]
    rw [e5] at HP
    clear e5 hD hC hB eA eV hin h hb hk hx hM hlt hW hxs hxl hQs hf hin2 hV hp hs he hQ hCs
    have j0 : (0 : Int) ≤ (j : Int) := by omega
    cases is with
    | true =>
      rw [if_pos rfl] at HP
      go_enter Tryd.func69, Tryd.ntmps69
      go_wp2_with fail
      refine HH.out.mono ?_
      rintro e w1 ⟨rfl, rfl⟩
      go_wp2_with fail
      ((with_reducible refine HG.out.mono ?_))
      rintro e w1 ⟨rfl, rfl⟩
      go_wp2_with fail
      refine (HB.out _).mono ?_
      rintro e w2 ⟨rfl, rfl⟩
      go_wp2_with fail
      refine (HB.out _).mono ?_
      rintro e w2 ⟨rfl, rfl⟩
      go_wp2_with fail
      refine HP.out.mono ?_
      rintro e w3 ⟨rfl, hO⟩
      go_wp2
      go_ret
      exact ⟨rfl, hO⟩
    | false =>
      rw [if_neg (by decide)] at HP
      go_enter Tryd.func69, Tryd.ntmps69
      go_wp2_with fail
      refine HH.out.mono ?_
      rintro e w1 ⟨rfl, rfl⟩
      go_wp2_with fail
      ((with_reducible refine HG.out.mono ?_))
      rintro e w1 ⟨rfl, rfl⟩
      go_wp2_with fail
      refine (HB.out _).mono ?_
      rintro e w2 ⟨rfl, rfl⟩
      go_wp2_with fail
      refine HP.out.mono ?_
      rintro e w3 ⟨rfl, hO⟩
      go_wp2
      go_ret
      exact ⟨rfl, hO⟩
end Go.Proofs.YtdblgnccjpjabaaDoor
