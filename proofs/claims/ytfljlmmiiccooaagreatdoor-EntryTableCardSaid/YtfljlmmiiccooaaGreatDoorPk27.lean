import Derived.Test.YtfljlmmiiccooaaGreatDoorPk20
import Derived.Test.YtfljlmmiiccooaaGreatDoorPk25
set_option maxRecDepth 100000
set_option maxHeartbeats 1000000
section
namespace Go.Proofs.YtfljlmmiiccooaaGreatDoor
open Go.RowKit Go.Grommet
theorem and_i64 (K : Nat) (h : K < 9223372036854775808) : bits .and .i64 (K : Int) 127 = ((K % 128 : Nat) : Int) := by
 have e : K &&& 127 = K % 128 := Nat.and_two_pow_sub_one_eq_mod K 7
 show IntKind.i64.wrap (((BitVec.ofInt 64 (K : Int)) &&& (BitVec.ofInt 64 (127 : Int))).toNat : Int) = _
 rw [BitVec.toNat_and, BitVec.ofInt_natCast, BitVec.toNat_ofNat, show (BitVec.ofInt 64 (127 : Int)).toNat = 127 from by decide, Nat.mod_eq_of_lt (by omega), e]
 exact IntWalk.i64_in _ ⟨by omega, by omega⟩
theorem and_u64 (K M : Nat) (hk : K < 18446744073709551616) (hm : M < 18446744073709551616) (T : Nat) (h : K &&& M = T) (k m : Int) (ek : k = (K : Int)) (em : m = (M : Int)) : bits .and .u64 k m = (T : Int) := by
 subst ek em h; exact u64_and_nat K M hk hm
theorem wrap_u64 (K : Nat) (hk : K < 18446744073709551616) (k : Int) (ek : k = (K : Int)) : IntKind.u64.wrap k = (K : Int) := by
 subst ek; exact IntWalk.u64_in _ ⟨by omega, by omega⟩
theorem pop_any (x : Nat) (w : World) (h : x < 18446744073709551616) : Calls Tryz.prog 135 #[.int .u64 (x : Int)] w fun e w' => e = .returned (.int .i64 ((popW x : Nat) : Int)) ∧ w = w' := by
 have HP := popS_eq x h
 unfold popS gp at HP
 simp only at HP
 have l1 : x / 2 &&& 6148914691236517205 ≤ 6148914691236517205 := Nat.and_le_right
 have l2 : x &&& 6148914691236517205 ≤ 6148914691236517205 := Nat.and_le_right
 have e1 := and_u64 (x / 2) 6148914691236517205 (by omega) (by decide) _ rfl ((x : Int) / 2) 6148914691236517205 (by omega) (by rfl)
 have e2 := and_u64 x 6148914691236517205 h (by decide) _ rfl (x : Int) 6148914691236517205 rfl (by rfl)
 generalize x / 2 &&& 6148914691236517205 = A at *
 generalize x &&& 6148914691236517205 = B at *
 have w1 := wrap_u64 (A + B) (by omega) ((A : Int) + (B : Int)) (by omega)
 generalize hC : A + B = C at *
 have e3 := and_u64 (C / 4) 3689348814741910323 (by omega) (by decide) _ rfl ((C : Int) / 4) 3689348814741910323 (by omega) (by rfl)
 have e4 := and_u64 C 3689348814741910323 (by omega) (by decide) _ rfl (C : Int) 3689348814741910323 rfl (by rfl)
 have l3 : C / 4 &&& 3689348814741910323 ≤ 3689348814741910323 := Nat.and_le_right
 have l4 : C &&& 3689348814741910323 ≤ 3689348814741910323 := Nat.and_le_right
 generalize C / 4 &&& 3689348814741910323 = D at *
 generalize C &&& 3689348814741910323 = E at *
 have w2 := wrap_u64 (D + E) (by omega) ((D : Int) + (E : Int)) (by omega)
 generalize hF : D + E = F at *
 have w3 := wrap_u64 (F / 16 + F) (by omega) ((F : Int) / 16 + (F : Int)) (by omega)
 generalize hG : F / 16 + F = G at *
 have e5 := and_u64 G 1085102592571150095 (by omega) (by decide) _ rfl (G : Int) 1085102592571150095 rfl (by rfl)
 have l5 : G &&& 1085102592571150095 ≤ 1085102592571150095 := Nat.and_le_right
 generalize G &&& 1085102592571150095 = H at *
 have w4 := wrap_u64 (H + H / 256) (by omega) ((H : Int) + (H : Int) / 256) (by omega)
 generalize hI : H + H / 256 = I at *
 have w5 := wrap_u64 (I + I / 65536) (by omega) ((I : Int) + (I : Int) / 65536) (by omega)
 generalize hJ : I + I / 65536 = J at *
 have w6 := wrap_u64 (J + J / 4294967296) (by omega) ((J : Int) + (J : Int) / 4294967296) (by omega)
 generalize hK : J + J / 4294967296 = K at *
 have w7 : IntKind.i64.wrap (K : Int) = (K : Int) := IntWalk.i64_in _ ⟨by omega, by omega⟩
 have e6 := and_i64 K (by omega)
 replace HP := Lib.hid HP
 rw [← HP.out]
 generalize K % 128 = R at *
 clear HP l1 l2 l3 l4 l5 hC hF hG hI hJ hK
 have h := Lib.hid h
 go_enter Tryz.func135, Tryz.ntmps135
 go_wp2
 go_ret
 exact ⟨rfl, rfl⟩
end Go.Proofs.YtfljlmmiiccooaaGreatDoor
end
section
namespace Go.Proofs.YtfljlmmiiccooaaGreatDoor
open Go.RowKit Go.Grommet
theorem calls_same {P : Program} {f : FuncId} {args : Array Value} {w : World} {v : Value} (h : Calls P f args w fun e w' => e = .returned v ∧ w = w') : Calls P f args w fun e w' => e = .returned v ∧ w' = w :=
 h.mono fun _ _ ⟨a, b⟩ => ⟨a, b.symm⟩
theorem obj_drew {w : World} {X : Nat} {o : Obj} (h : w.heap[X]? = some o) (n : Nat) : (w.drewN n).heap[X]? = some o := h
def getM (xs : List Nat) (L : List (Nat × Nat)) (a m : Nat) (i : Int) : Bool := inB i m && mbit xs L a i.toNat
theorem MGetH (k k2 X g a m : Nat) (xs : List Nat) (L : List (Nat × Nat)) (i : Int) (w0 w : World) (Ps : List Pr) (h : Own w0 w Ps) (hk : Ps[k]? = some (viewP g xs L)) (hx : Ps[k2]? = some (mapP X g a m)) (hM : MapOk xs.length a m) (c : Bool) (hc : getM xs L a m i = c) :
  Calls Tryz.prog 140 #[.pointer (some ⟨X, 0, none⟩), .int .i64 i] w fun e w' => e = .returned (.bool c) ∧ w.grownBy w' none := by
 have hb := h.box k2 hx
 obtain ⟨c0, c1, c2⟩ := map_cells hb
 obtain ⟨hW, hxs, hxl⟩ := Own.wl h k hk
 have hlt := hM.lt
 unfold getM at hc
 have HH := Lib.hid (fun n => calls_same (has_any X g a m i (w.drewN n) (obj_drew hb n)))
 cases hin : inB i m with
 | false =>
  rw [hin] at hc
  obtain rfl : false = c := by simpa using hc
  rw [hin] at HH
  clear hin h hb hk hx hc hM hlt hW hxs hxl
  go_enter Tryz.func140, Tryz.ntmps140
  go_wp2_with fail
  go_quiet ((go_at_call 144; exact Calls.quiet_of_same (HH.out _)))
  go_wp2
  go_ret
  exact ⟨rfl, grown_drewN _ _ _⟩
 | true =>
  have hi : 0 ≤ i ∧ i < (m : Int) := by unfold inB at hin; simpa using hin
  obtain ⟨j, rfl⟩ := Int.eq_ofNat_of_zero_le hi.1
  have hj : j < m := by omega
  rw [hin, Bool.true_and] at hc
  unfold mbit at hc
  rw [Int.toNat_natCast] at hc
  rw [hin] at HH
  have hf := hM.fits
  have hin2 : 0 ≤ ((a + j / 64 : Nat) : Int) ∧ ((a + j / 64 : Nat) : Int) < (xs.length : Int) := by omega
  have HG := Lib.hid (fun n => GetH k g xs L ((a + j / 64 : Nat) : Int) w0 (w.drewN n) Ps (h.quiet (grown_drewN w n none)) hk)
  have HB := Lib.hid (fun n => calls_same (bit_any j (w.drewN n) (by omega)))
  rw [show gotI xs L ((a + j / 64 : Nat) : Int) = gotV xs L (a + j / 64) from by unfold gotI; rw [if_pos hin2, Int.toNat_natCast]] at HG
  have e1 : IntKind.i64.wrap ((a : Int) + (j : Int) / 64) = ((a + j / 64 : Nat) : Int) := by rw [IntWalk.i64_in _ ⟨by omega, by omega⟩]; omega
  have e2 : (a : Int) + (j : Int) / 64 = ((a + j / 64 : Nat) : Int) := by omega
  have e0 : IntKind.i64.wrap ((j : Int) / 64) = (j : Int) / 64 := IntWalk.i64_in _ ⟨by omega, by omega⟩
  have e5 : IntKind.i64.wrap ((a + j / 64 : Nat) : Int) = ((a + j / 64 : Nat) : Int) := IntWalk.i64_in _ ⟨by omega, by omega⟩
  have hV := gotV_small hxs hW.val (a + j / 64)
  have hp := pow_lt64 (j := j % 64) (by omega)
  have hz := and_bit (gotV xs L (a + j / 64)) (j % 64)
  generalize gotV xs L (a + j / 64) = V at *
  generalize a + j / 64 = A at *
  obtain ⟨R, hR⟩ : ∃ R, V &&& 2 ^ (j % 64) = R := ⟨_, rfl⟩
  have e3 := and_u64 V (2 ^ (j % 64)) hV hp R hR (V : Int) ((2 ^ (j % 64) : Nat) : Int) rfl rfl
  rw [hR] at hz
  have e4 : ((R : Int) != 0) = c := by
   rw [← hc]
   cases hb' : V.testBit (j % 64) with
   | false => have := hz.2 hb'; subst this; rfl
   | true =>
    have : R ≠ 0 := fun e => by have := hz.1 e; rw [hb'] at this; cases this
    simp; omega
  obtain ⟨B, hB⟩ : ∃ B, 2 ^ (j % 64) = B := ⟨_, rfl⟩
  rw [hB] at HB e3
  clear hin h hb hk hx hc hM hlt hW hxs hxl hf hin2 hz hp hV hR hB
  have j0 : (0 : Int) ≤ (j : Int) := by omega
  go_enter Tryz.func140, Tryz.ntmps140
  go_wp2_with fail
  go_quiet ((first | (go_at_call 144; exact Calls.quiet_of_same (HH.out _)) | (go_at_call 88; with_reducible exact Calls.quiet_of_same (HG.out _)) | (go_at_call 145; exact Calls.quiet_of_same (HB.out _))))
  go_wp2
  go_ret
  exact ⟨rfl, grown_drewN _ _ _⟩
def setMI (xs : List Nat) (L : List (Nat × Nat)) (a m : Nat) (i : Int) (is : Bool) : List (Nat × Nat) :=
 if inB i m then putI xs L ((a + i.toNat / 64 : Nat) : Int) (setB (gotV xs L (a + i.toNat / 64)) (i.toNat % 64) is) else L
def setME (xs : List Nat) (L : List (Nat × Nat)) (a m : Nat) (i : Int) : Nat :=
 if inB i m then putEI xs L ((a + i.toNat / 64 : Nat) : Int) else 8
theorem MSetH (k k2 X g a m : Nat) (xs : List Nat) (L : List (Nat × Nat)) (i : Int) (is : Bool) (en : Int) (w0 w : World) (Ps Qs : List Pr) (h : Own w0 w Ps) (hk : Ps[k]? = some (viewP g xs L)) (hx : Ps[k2]? = some (mapP X g a m)) (hM : MapOk xs.length a m)
  (he : (setME xs L a m i : Int) = en) (hQ : Ps.set k (viewP g xs (setMI xs L a m i is)) = Qs) :
  Calls Tryz.prog 141 #[.pointer (some ⟨X, 0, none⟩), .int .i64 i, .bool is] w fun e w' => e = .returned (.int .i64 en) ∧ Own w0 w' Qs := by
 have hb := h.box k2 hx
 obtain ⟨c0, c1, c2⟩ := map_cells hb
 obtain ⟨hW, hxs, hxl⟩ := Own.wl h k hk
 have hlt := hM.lt
 have HH := Lib.hid (has_any X g a m i w hb)
 have hQs : Ps.set k (viewP g xs L) = Ps := by
  apply List.ext_getElem?
  intro i
  by_cases hi : i = k
  ·subst hi; rw [List.getElem?_set_self (List.getElem?_eq_some_iff.1 hk).1, hk]
  ·rw [List.getElem?_set_ne (fun e => hi e.symm)]
 cases hin : inB i m with
 | false =>
  unfold setME at he
  unfold setMI at hQ
  rw [hin] at he hQ HH
  simp only [Bool.false_eq_true, if_false] at he hQ
  rw [hQs] at hQ
  subst he hQ
  have HO := Lib.hid h
  clear hin h hb hk hx hM hlt hW hxs hxl hQs
  go_enter Tryz.func141, Tryz.ntmps141
  go_wp2_with fail
  refine HH.out.mono ?_
  rintro e w1 ⟨rfl, rfl⟩
  go_wp2
  go_ret
  exact ⟨rfl, HO.out⟩
 | true =>
  have hi : 0 ≤ i ∧ i < (m : Int) := by unfold inB at hin; simpa using hin
  obtain ⟨j, rfl⟩ := Int.eq_ofNat_of_zero_le hi.1
  have hj : j < m := by omega
  unfold setME at he
  unfold setMI at hQ
  rw [hin] at he hQ HH
  simp only [if_true, Int.toNat_natCast] at he hQ
  have hf := hM.fits
  have hin2 : 0 ≤ ((a + j / 64 : Nat) : Int) ∧ ((a + j / 64 : Nat) : Int) < (xs.length : Int) := by omega
  have HG := Lib.hid (GetH k g xs L ((a + j / 64 : Nat) : Int) w0 w Ps h hk)
  have HB := Lib.hid (fun w => bit_any j w (by omega))
  rw [show gotI xs L ((a + j / 64 : Nat) : Int) = gotV xs L (a + j / 64) from by unfold gotI; rw [if_pos hin2, Int.toNat_natCast]] at HG
  have e1 : IntKind.i64.wrap ((a : Int) + (j : Int) / 64) = ((a + j / 64 : Nat) : Int) := by rw [IntWalk.i64_in _ ⟨by omega, by omega⟩]; omega
  have e2 : (a : Int) + (j : Int) / 64 = ((a + j / 64 : Nat) : Int) := by omega
  have e0 : IntKind.i64.wrap ((j : Int) / 64) = (j : Int) / 64 := IntWalk.i64_in _ ⟨by omega, by omega⟩
  have e6 : IntKind.i64.wrap ((a + j / 64 : Nat) : Int) = ((a + j / 64 : Nat) : Int) := IntWalk.i64_in _ ⟨by omega, by omega⟩
  have hV := gotV_small hxs hW.val (a + j / 64)
  have hp := pow_lt64 (j := j % 64) (by omega)
  have hs := setB_small (v := gotV xs L (a + j / 64)) is (by omega : j % 64 < 64) hV
  have HP := Lib.hid (PutH k g xs L ((a + j / 64 : Nat) : Int) (setB (gotV xs L (a + j / 64)) (j % 64) is) en w0 w Ps Qs h hk hs he hQ)
  obtain ⟨V, eV⟩ : ∃ V, gotV xs L (a + j / 64) = V := ⟨_, rfl⟩
  obtain ⟨A, eA⟩ : ∃ A, a + j / 64 = A := ⟨_, rfl⟩
  rw [eV] at HG HP hV
  rw [eA] at HG HP e1 e2 e6
  obtain ⟨B, hB⟩ : ∃ B, 2 ^ (j % 64) = B := ⟨_, rfl⟩
  obtain ⟨C, hC⟩ : ∃ C, V &&& (18446744073709551615 - B) = C := ⟨_, rfl⟩
  obtain ⟨D, hD⟩ : ∃ D, C ||| B = D := ⟨_, rfl⟩
  have hCs : C < 18446744073709551616 := by rw [← hC]; exact Nat.lt_of_le_of_lt Nat.and_le_left hV
  rw [hB] at HB hp
  have e3 : bits .andNot .u64 (V : Int) (B : Int) = (C : Int) := by rw [← hC]; exact u64_andNot_nat V B hV hp
  have e4 : bits .or .u64 (C : Int) (B : Int) = (D : Int) := by rw [← hD]; exact u64_or_nat C B hCs hp
  have e5 : setB V (j % 64) is = if is then D else C := by unfold setB; rw [hB, hC, hD]
  rw [e5] at HP
  clear e5 hD hC hB eA eV hin h hb hk hx hM hlt hW hxs hxl hQs hf hin2 hV hp hs he hQ hCs
  have j0 : (0 : Int) ≤ (j : Int) := by omega
  cases is with
  | true =>
   rw [if_pos rfl] at HP
   go_enter Tryz.func141, Tryz.ntmps141
   go_wp2_with fail
   refine HH.out.mono ?_
   rintro e w1 ⟨rfl, rfl⟩
   go_wp2_with fail
   ((with_reducible refine HG.out.mono ?_))
   rintro e w1 ⟨rfl, rfl⟩
   go_wp2_with fail
   refine (HB.out _).mono ?_
   rintro e w2 ⟨rfl, rfl⟩
   go_wp2_with fail
   refine (HB.out _).mono ?_
   rintro e w2 ⟨rfl, rfl⟩
   go_wp2_with fail
   refine HP.out.mono ?_
   rintro e w3 ⟨rfl, hO⟩
   go_wp2
   go_ret
   exact ⟨rfl, hO⟩
  | false =>
   rw [if_neg (by decide)] at HP
   go_enter Tryz.func141, Tryz.ntmps141
   go_wp2_with fail
   refine HH.out.mono ?_
   rintro e w1 ⟨rfl, rfl⟩
   go_wp2_with fail
   ((with_reducible refine HG.out.mono ?_))
   rintro e w1 ⟨rfl, rfl⟩
   go_wp2_with fail
   refine (HB.out _).mono ?_
   rintro e w2 ⟨rfl, rfl⟩
   go_wp2_with fail
   refine HP.out.mono ?_
   rintro e w3 ⟨rfl, hO⟩
   go_wp2
   go_ret
   exact ⟨rfl, hO⟩
end Go.Proofs.YtfljlmmiiccooaaGreatDoor
end
section
namespace Go.Proofs.YtfljlmmiiccooaaGreatDoor
open Go.RowKit Go.Grommet
theorem MOfH (k g a m : Nat) (xs : List Nat) (L : List (Nat × Nat)) (w0 w : World) (Ps : List Pr) (h : Own w0 w Ps) (hk : Ps[k]? = some (viewP g xs L)) (hM : MapOk xs.length a m) :
  Calls Tryz.prog 118 #[.pointer (some ⟨g, 0, none⟩), .int .i64 (a : Int), .int .i64 (m : Int)] w fun e w' => ∃ X, e = .returned (.tuple #[.pointer (some ⟨X, 0, none⟩), .int .i64 0]) ∧ Own w0 w' (Ps ++ [mapP X g a m]) ∧ w.heap.size ≤ X := by
 have HL := Lib.hid (LenH k g xs L w0 w Ps h hk)
 have hlt := hM.lt
 have h1 := hM.one
 have hf : a + ((m - 1) / 64 + 1) ≤ xs.length := by have := hM.fits; omega
 have hfw := hM.few
 have HW := Lib.hid (wordsOf_any m w h1 (by omega))
 have HO := Lib.hid (h.addBox 193 (mapCs g a m))
 unfold mapCs at HO
 generalize xs.length = n at *
 generalize (m - 1) / 64 + 1 = q at *
 have m1 : ¬ (m : Int) < 1 := by omega
 have a0 : ¬ (a : Int) < 0 := by omega
 have e1 : IntKind.i64.wrap ((n : Int) - (q : Int)) = (n : Int) - (q : Int) := IntWalk.i64_in _ ⟨by omega, by omega⟩
 have a1 : ¬ (n : Int) - (q : Int) < (a : Int) := by omega
 clear h hk hM hf hlt hfw
 go_enter Tryz.func118, Tryz.ntmps118
 go_wp2_with fail
 refine HL.out.mono ?_
 rintro e w1 ⟨rfl, rfl⟩
 go_wp2_with fail
 refine HW.out.mono ?_
 rintro e w2 ⟨rfl, rfl⟩
 go_wp2
 go_ret2
 exact ⟨_, rfl, HO.out, Nat.le_refl _⟩
end Go.Proofs.YtfljlmmiiccooaaGreatDoor
end
section
namespace Go.Proofs.YtfljlmmiiccooaaGreatDoor
open Go.RowKit Go.Grommet
def dbI (t : Nat) : Nat := 2 ^ t * 285870213051353865 % 18446744073709551616 / 288230376151711744
theorem db_all : ∀ t : Fin 64, tab[dbI t.1]? = some (t.1 : Int) := by decide +kernel
theorem tabAt (k : Nat) (t : Int) (w : World) (hk : k < 64) (h : tab[k]? = some t) (htab : Lib.TabIs Tryz.prog w "math/bits.deBruijn64tab" .u8 tab) : w.cell? ⟨1, k, none⟩ = some (.int .u8 t) := by
 have hc := htab.cell gTab k (by show _ < 64; exact hk)
 rw [List.getD_eq_getElem?_getD, h] at hc
 exact hc
theorem tz_nums (t m x : Nat) (ht : t < 64) (h : 2 ^ t * (2 * m + 1) < 18446744073709551616) (hx : 2 ^ t * (2 * m + 1) = x) : ∃ y p q k : Nat, 0 < x ∧ IntKind.u64.wrap (-(x : Int)) = (y : Int) ∧ bits .and .u64 (x : Int) (y : Int) = (p : Int) ∧
  IntKind.u64.wrap ((p : Int) * 285870213051353865) = (q : Int) ∧ (q : Int) / 288230376151711744 = (k : Int) ∧ k < 64 ∧ tab[k]? = some (t : Int) := by
 have hpl := pow_lt64 ht
 have hlow := low_bit t m ht h
 have hdb := db_all ⟨t, ht⟩
 have hx0 : 0 < 2 ^ t * (2 * m + 1) := Nat.mul_pos (Nat.pow_pos (by decide)) (by omega)
 rw [hx] at h hlow hx0
 refine ⟨18446744073709551616 - x, 2 ^ t, 2 ^ t * 285870213051353865 % 18446744073709551616, dbI t, hx0, ?_, ?_, ?_, ?_, ?_, hdb⟩
 ·rw [IntKind.wrap_u64]; omega
 ·exact and_u64 x (18446744073709551616 - x) h (by omega) _ hlow (x : Int) ((18446744073709551616 - x : Nat) : Int) rfl rfl
 ·generalize 2 ^ t = p; rw [IntKind.wrap_u64]; omega
 ·unfold dbI; generalize 2 ^ t = p; omega
 ·unfold dbI; generalize 2 ^ t = p; omega
theorem tz_any (t m : Nat) (w : World) (ht : t < 64) (h : 2 ^ t * (2 * m + 1) < 18446744073709551616) (htab : Lib.TabIs Tryz.prog w "math/bits.deBruijn64tab" .u8 tab) :
  Calls Tryz.prog 143 #[.int .u64 ((2 ^ t * (2 * m + 1) : Nat) : Int)] w fun e w' => e = .returned (.int .i64 (t : Int)) ∧ w = w' := by
 generalize hx : 2 ^ t * (2 * m + 1) = x
 obtain ⟨y, p, q, k, hx0, e1, e2, e3, e4, hi, hdb⟩ := tz_nums t m x ht h hx
 have hc := tabAt k t w hi hdb htab
 clear hx h htab hdb
 have x0 : ¬ (x : Int) = 0 := by omega
 have x1 : ((x : Int) == 0) = false := by simp; omega
 have wt : IntKind.i64.wrap (t : Int) = (t : Int) := IntWalk.i64_in _ ⟨by omega, by omega⟩
 have hk : (k : Int) < 64 := by omega
 have k0 : (0 : Int) ≤ (k : Int) := by omega
 go_enter Tryz.func143, Tryz.ntmps143
 go_wp2
 go_ret
 exact ⟨rfl, rfl⟩
end Go.Proofs.YtfljlmmiiccooaaGreatDoor
end
