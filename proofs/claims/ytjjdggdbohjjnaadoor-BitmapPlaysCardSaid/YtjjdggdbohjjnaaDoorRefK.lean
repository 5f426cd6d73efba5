/- RefM, RefN, RefO, RefP, RefR, Bms in one. -/
import Derived.Test.YtjjdggdbohjjnaaDoorBitI
import Derived.Test.YtjjdggdbohjjnaaDoorRows
import Derived.Test.YtjjdggdbohjjnaaDoorBase6
import Derived.ProofKit
import Derived.Deep.Slices
import Derived.Deep.Strs
-- OPTIONAL
section
/- The document's map: Get. -/
namespace Go.Proofs.YtjjdggdbohjjnaaDoor
open Go.RowKit Go.Grommet

/-- The document's view, whatever its flag says. -/
def refQ (g : Nat) (xs : List Nat) (L : List (Nat × Nat)) : Pr where
  holds w F := ∃ b, RefIs w g F xs L b
  turn := fun h ht hn => by obtain ⟨b, h⟩ := h; exact ⟨b, h.turn ht hn⟩
  old := fun h => by obtain ⟨_, _, _, h⟩ := h; exact h.old
theorem RGetQ (k g : Nat) (xs : List Nat) (L : List (Nat × Nat)) (a : Int) (w0 w : World) (Ps : List Pr) (h : Grommet.Own w0 w Ps) (hk : Ps[k]? = some (refQ g xs L)) :
    Calls Tryd.prog 36 #[.pointer (some ⟨g, 0, none⟩), .int .i64 a] w fun e w' => e = .returned (.int .u64 (gotI xs L a : Int)) ∧ w' = w := by
  obtain ⟨F, b, h1⟩ := h.get k hk
  refine (RefGet_any g F xs L b a w h1).mono ?_
  rintro e w' ⟨rfl, rfl⟩
  exact ⟨rfl, rfl⟩
theorem RPutQ (k g : Nat) (xs : List Nat) (L : List (Nat × Nat)) (a : Int) (v : Nat) (en : Int) (w0 w : World) (Ps Qs : List Pr) (h : Grommet.Own w0 w Ps) (hk : Ps[k]? = some (refQ g xs L)) (hv : v < 18446744073709551616)
    (he : (putEI xs L a : Int) = en) (hQ : Ps.set k (refQ g xs (putI xs L a v)) = Qs) :
    Calls Tryd.prog 38 #[.pointer (some ⟨g, 0, none⟩), .int .i64 a, .int .u64 (v : Int)] w fun e w' => e = .returned (.int .i64 en) ∧ Grommet.Own w0 w' Qs := by
  obtain ⟨F, ⟨b, h1⟩, h2⟩ := h.take k hk
  refine (RefPut_any g F xs L b a v w h1 hv).mono ?_
  rintro e w' ⟨rfl, F', hF', hd1, hd2⟩
  subst he
  subst hQ
  exact ⟨rfl, h2 w' _ ⟨F', ⟨_, hF'⟩, hd1, hd2⟩⟩
theorem ref_wl {w0 w : World} {Ps : List Pr} (h : Grommet.Own w0 w Ps) (k : Nat) {g : Nat} {xs : List Nat} {L : List (Nat × Nat)} (hk : Ps[k]? = some (refQ g xs L)) : Wl xs.length L ∧ (∀ n ∈ xs, n < 18446744073709551616) ∧ xs.length ≤ 549755813888 := by
  obtain ⟨F, b, vi, vl, h1⟩ := h.get k hk
  exact ⟨h1.good, h1.small, h1.fits⟩

def rmapP (X g a m : Nat) : Pr := boxP X 68 (mapCs g a m)
theorem rmap_cells {w : World} {X g a m : Nat} (hb : w.heap[X]? = some (.cells (mapCs g a m) 68 (0, 0))) : w.cell? ⟨X, 0, none⟩ = some (.pointer (some ⟨g, 0, none⟩)) ∧ w.cell? ⟨X, 1, none⟩ = some (.int .i64 (a : Int)) ∧ w.cell? ⟨X, 2, none⟩ = some (.int .i64 (m : Int)) := by
  simp [World.cell?, hb, mapCs]

set_option maxRecDepth 100000 in
set_option maxHeartbeats 1000000 in
theorem RMGetQ (k k2 X g a m : Nat) (xs : List Nat) (L : List (Nat × Nat)) (i : Int) (w0 w : World) (Ps : List Pr) (h : Grommet.Own w0 w Ps) (hk : Ps[k]? = some (refQ g xs L)) (hx : Ps[k2]? = some (rmapP X g a m)) (hM : MapOk xs.length a m) (c : Bool) (hc : getM xs L a m i = c) :
    Calls Tryd.prog 17 #[.pointer (some ⟨X, 0, none⟩), .int .i64 i] w fun e w' => e = .returned (.bool c) ∧ w.grownBy w' none := by
  have hb := h.box k2 hx
  obtain ⟨c0, c1, c2⟩ := rmap_cells hb
  obtain ⟨hW, hxs, hxl⟩ := ref_wl h k hk
  have hlt := hM.lt
  unfold getM at hc
  cases hin : inB i m with
  | false =>
    rw [hin] at hc
    obtain rfl : false = c := by simpa using hc
    have hi : ¬ (0 ≤ i ∧ i < (m : Int)) := by unfold inB at hin; simpa using hin
    clear hin h hb hk hx hc hM hlt hW hxs hxl
    by_cases i0 : 0 ≤ i
    · have i1 : ¬ i < (m : Int) := by omega
      have d0 : decide (0 ≤ i) = true := decide_eq_true i0
      have d1 : decide (i < (m : Int)) = false := decide_eq_false i1
      clear hi
      go_enter Tryd.func17, Tryd.ntmps17
      go_wp2_with fail
      go_quiet (fail)
      go_wp2
      go_ret
      exact ⟨rfl, grown_drewN _ _ _⟩
    · have d0 : decide (0 ≤ i) = false := decide_eq_false i0
      clear hi
      go_enter Tryd.func17, Tryd.ntmps17
      go_wp2_with fail
      go_quiet (fail)
      go_wp2
      go_ret
      exact ⟨rfl, grown_drewN _ _ _⟩
  | true =>
    have hi : 0 ≤ i ∧ i < (m : Int) := by unfold inB at hin; simpa using hin
    obtain ⟨j, rfl⟩ := Int.eq_ofNat_of_zero_le hi.1
    have hj : j < m := by omega
    rw [hin, Bool.true_and] at hc
    unfold mbit at hc
    rw [Int.toNat_natCast] at hc
    have hf := hM.fits
    have hin2 : 0 ≤ ((a + j / 64 : Nat) : Int) ∧ ((a + j / 64 : Nat) : Int) < (xs.length : Int) := by omega
    have HG := Lib.hid (fun n => RGetQ k g xs L ((a + j / 64 : Nat) : Int) w0 (w.drewN n) Ps (h.quiet (grown_drewN w n none)) hk)
    rw [show gotI xs L ((a + j / 64 : Nat) : Int) = gotV xs L (a + j / 64) from by unfold gotI; rw [if_pos hin2, Int.toNat_natCast]] at HG
    have e1 : IntKind.i64.wrap ((a : Int) + (j : Int) / 64) = ((a + j / 64 : Nat) : Int) := by rw [IntWalk.i64_in _ ⟨by omega, by omega⟩]; omega
    have e2 : (a : Int) + (j : Int) / 64 = ((a + j / 64 : Nat) : Int) := by omega
    have e0 : IntKind.i64.wrap ((j : Int) / 64) = (j : Int) / 64 := IntWalk.i64_in _ ⟨by omega, by omega⟩
    have e5 : IntKind.i64.wrap ((a + j / 64 : Nat) : Int) = ((a + j / 64 : Nat) : Int) := IntWalk.i64_in _ ⟨by omega, by omega⟩
    have hV := gotV_small hxs hW.val (a + j / 64)
    generalize gotV xs L (a + j / 64) = V at *
    generalize a + j / 64 = A at *
    have j0 : (0 : Int) ≤ (j : Int) := by omega
    have j1 : (j : Int) < (m : Int) := by omega
    obtain ⟨s, hs⟩ : ∃ s, j % 64 = s := ⟨_, rfl⟩
    have s1 : (j : Int) % 64 = (s : Int) := by omega
    have s2 : Int.tmod (j : Int) 64 = (s : Int) := by rw [Int.tmod_eq_emod_of_nonneg (by omega)]; exact s1
    have s3 : IntKind.i64.wrap (s : Int) = (s : Int) := IntWalk.i64_in _ ⟨by omega, by omega⟩
    have s4 : IntKind.u64.wrap (s : Int) = (s : Int) := IntWalk.u64_in _ ⟨by omega, by omega⟩
    have s5 : s < 64 := by omega
    have s6 : (0 : Int) ≤ (s : Int) := by omega
    have e6 : (((V : Int) / 2 ^ s).tmod 2 == 1) = c := by
      rw [Int.tmod_eq_emod_of_nonneg (Int.ediv_nonneg (by omega) (Int.le_of_lt (Int.pow_pos (by decide)))), ← hc, hs, Nat.testBit_eq_decide_div_mod_eq]
      rw [show (V : Int) / 2 ^ s % 2 = ((V / 2 ^ s % 2 : Nat) : Int) from by simp]
      by_cases e : V / 2 ^ s % 2 = 1
      · rw [e]; rfl
      · rw [decide_eq_false e, beq_eq_false_iff_ne]; omega
    clear hin h hb hk hx hM hlt hW hxs hxl hf hin2 hc
    go_enter Tryd.func17, Tryd.ntmps17
    go_wp2_with fail
    go_quiet ((go_at_call 36; with_reducible exact Calls.quiet_of_same (HG.out _)))
    go_wp2
    go_ret
    exact ⟨rfl, grown_drewN _ _ _⟩
end Go.Proofs.YtjjdggdbohjjnaaDoor
end
section
/- The document's map: Clear, Count, Set. -/
namespace Go.Proofs.YtjjdggdbohjjnaaDoor
open Go.RowKit Go.Grommet

theorem getM_lt {xs : List Nat} {L : List (Nat × Nat)} {a m j : Nat} (h : j < m) : getM xs L a m (j : Int) = mbit xs L a j := by
  unfold getM; rw [show inB (j : Int) m = true from by unfold inB; simp; omega, Bool.true_and, Int.toNat_natCast]

set_option maxRecDepth 100000 in
set_option maxHeartbeats 1000000 in
theorem RMClearQ (k k2 X g a m : Nat) (xs : List Nat) (L : List (Nat × Nat)) (w0 w : World) (Ps : List Pr) (h : Grommet.Own w0 w Ps) (hk : Ps[k]? = some (refQ g xs L)) (hx : Ps[k2]? = some (rmapP X g a m)) (hM : MapOk xs.length a m)
    (c : Int) (b : Bool) (hc : ClrR (mbit xs L a) m c b) :
    Calls Tryd.prog 15 #[.pointer (some ⟨X, 0, none⟩)] w fun e w' => e = .returned (.tuple #[.int .i64 c, .bool b]) ∧ Grommet.Own w0 w' Ps := by
  have hlt := hM.lt
  have HO := Lib.hid h
  have Hx := Lib.hid hx
  have HG := Lib.hid (fun j wx hO => RMGetQ k k2 X g a m xs L j w0 wx Ps hO hk hx hM _ rfl)
  have Hc := Lib.hid hc
  clear h hk hx hM hc
  go_enter Tryd.func15, Tryd.ntmps15
  go_wp2_with fail
  go_loopw [4] (fun s wr => ∃ j : Nat, j ≤ m ∧ s = .int .i64 (j : Int) ∧ Hid (∀ t, t < j → mbit xs L a t = true) ∧ Hid (Grommet.Own w0 wr Ps)) (fun s _ => m - (intOf s).toNat)
  case atStart => exact ⟨0, Nat.zero_le _, rfl, Lib.hid (fun t h => by omega), HO⟩
  case round =>
    clear HO
    obtain ⟨j, hj, rfl, Hl, HO⟩ := hrel
    obtain ⟨c0, c1, c2⟩ := rmap_cells (HO.out.box k2 Hx.out)
    have j0 : (0 : Int) ≤ (j : Int) := by omega
    have wj : IntKind.i64.wrap ((j : Int) + 1) = (j : Int) + 1 := IntWalk.i64_in _ ⟨by omega, by omega⟩
    by_cases hlt2 : j < m
    · have hlt3 : (j : Int) < (m : Int) := by omega
      have HGj := Lib.hid (HG.out (j : Int) wr HO.out)
      rw [getM_lt hlt2] at HGj
      cases hb : mbit xs L a j with
      | false =>
        rw [hb] at HGj
        have hcc : c = (j : Int) ∧ b = true := (Hc.out.one (.inl ⟨rfl, j, rfl, hlt2, hb, Hl.out⟩))
        obtain ⟨rfl, rfl⟩ := hcc
        clear hb
        go_wp2_with fail
        refine HGj.out.mono ?_
        rintro e w1 ⟨rfl, hg⟩
        have hfin := Lib.hid (HO.out.quiet hg)
        clear hg HGj
        go_wp2
        go_ret2
        exact ⟨rfl, hfin.out⟩
      | true =>
        rw [hb] at HGj
        have Hl2 : Hid (∀ t, t < j + 1 → mbit xs L a t = true) := Lib.hid (fun t ht => by
          by_cases e : t = j
          · rw [e]; exact hb
          · exact Hl.out t (by omega))
        clear hb
        go_wp2_with fail
        refine HGj.out.mono ?_
        rintro e w1 ⟨rfl, hg⟩
        have hfin := Lib.hid (HO.out.quiet hg)
        clear hg HGj c0 c1 c2
        go_wp2
        go_roundw
        case rel => exact ⟨j + 1, by omega, by go_num, Hl2, hfin⟩
        case measure => simp [intOf]; omega
    · obtain rfl : m = j := by omega
      have hlt3 : ¬ (m : Int) < (m : Int) := by omega
      have hcc : c = 0 ∧ b = false := (Hc.out.one (.inr ⟨rfl, rfl, Hl.out⟩))
      obtain ⟨rfl, rfl⟩ := hcc
      go_wp2
      go_ret2
      exact ⟨rfl, HO.out⟩

set_option maxRecDepth 100000 in
set_option maxHeartbeats 1000000 in
theorem RMCountQ (k k2 X g a m : Nat) (xs : List Nat) (L : List (Nat × Nat)) (w0 w : World) (Ps : List Pr) (h : Grommet.Own w0 w Ps) (hk : Ps[k]? = some (refQ g xs L)) (hx : Ps[k2]? = some (rmapP X g a m)) (hM : MapOk xs.length a m)
    (c : Nat) (hc : cntF (mbit xs L a) m = c) :
    Calls Tryd.prog 21 #[.pointer (some ⟨X, 0, none⟩)] w fun e w' => e = .returned (.int .i64 (c : Int)) ∧ Grommet.Own w0 w' Ps := by
  have hlt := hM.lt
  have HO := Lib.hid h
  have Hx := Lib.hid hx
  have HG := Lib.hid (fun j wx hO => RMGetQ k k2 X g a m xs L j w0 wx Ps hO hk hx hM _ rfl)
  have Hc := Lib.hid hc
  clear h hk hx hM hc
  go_enter Tryd.func21, Tryd.ntmps21
  go_wp2_with fail
  go_loopw [3, 4] (fun nv s wr => ∃ (j n : Nat), j ≤ m ∧ nv = .int .i64 (n : Int) ∧ s = .int .i64 (j : Int) ∧ n ≤ j ∧ Hid (cntF (mbit xs L a) j = n) ∧ Hid (Grommet.Own w0 wr Ps)) (fun _ s _ => m - (intOf s).toNat)
  case atStart => exact ⟨0, 0, Nat.zero_le _, rfl, rfl, Nat.le_refl _, Lib.hid rfl, HO⟩
  case round =>
    clear HO
    obtain ⟨j, n, hj, rfl, rfl, hnj, Hn, HO⟩ := hrel
    obtain ⟨c0, c1, c2⟩ := rmap_cells (HO.out.box k2 Hx.out)
    have j0 : (0 : Int) ≤ (j : Int) := by omega
    have wj : IntKind.i64.wrap ((j : Int) + 1) = (j : Int) + 1 := IntWalk.i64_in _ ⟨by omega, by omega⟩
    have wn : IntKind.i64.wrap ((n : Int) + 1) = (n : Int) + 1 := IntWalk.i64_in _ ⟨by omega, by omega⟩
    by_cases hlt2 : j < m
    · have hlt3 : (j : Int) < (m : Int) := by omega
      have HGj := Lib.hid (HG.out (j : Int) wr HO.out)
      rw [getM_lt hlt2] at HGj
      cases hb : mbit xs L a j with
      | false =>
        rw [hb] at HGj
        have Hn2 : Hid (cntF (mbit xs L a) (j + 1) = n) := Lib.hid (by unfold cntF; rw [Hn.out, hb]; rfl)
        clear hb
        go_wp2_with fail
        refine HGj.out.mono ?_
        rintro e w1 ⟨rfl, hg⟩
        have hfin := Lib.hid (HO.out.quiet hg)
        clear hg HGj c0 c1 c2
        go_wp2
        go_roundw
        case rel => exact ⟨j + 1, n, by omega, rfl, by go_num, by omega, Hn2, hfin⟩
        case measure => simp [intOf]; omega
      | true =>
        rw [hb] at HGj
        have Hn2 : Hid (cntF (mbit xs L a) (j + 1) = n + 1) := Lib.hid (by unfold cntF; rw [Hn.out, hb]; rfl)
        clear hb
        go_wp2_with fail
        refine HGj.out.mono ?_
        rintro e w1 ⟨rfl, hg⟩
        have hfin := Lib.hid (HO.out.quiet hg)
        clear hg HGj c0 c1 c2
        go_wp2
        go_roundw
        case rel => exact ⟨j + 1, n + 1, by omega, by go_num, by go_num, by omega, Hn2, hfin⟩
        case measure => simp [intOf]; omega
    · obtain rfl : m = j := by omega
      have hlt3 : ¬ (m : Int) < (m : Int) := by omega
      have hcc : n = c := Hn.out.symm.trans Hc.out
      subst hcc
      go_wp2
      go_ret
      exact ⟨rfl, HO.out⟩
end Go.Proofs.YtjjdggdbohjjnaaDoor
end
section
/- The document's map: Set, Of. -/
namespace Go.Proofs.YtjjdggdbohjjnaaDoor
open Go.RowKit Go.Grommet

theorem setB_xor {v j : Nat} (is : Bool) (hj : j < 64) (hv : v < 18446744073709551616) : setB v j is = if is = v.testBit j then v else v ^^^ 2 ^ j := by
  apply Nat.eq_of_testBit_eq
  intro i
  rw [setB_bit is hj hv i]
  by_cases e : i = j
  · subst e
    rw [if_pos rfl]
    split
    · assumption
    · rename_i hne
      rw [Nat.testBit_xor, Nat.testBit_two_pow_self]
      revert hne
      cases is <;> cases v.testBit i <;> simp
  · rw [if_neg e]
    split
    · rfl
    · rw [Nat.testBit_xor, Nat.testBit_two_pow, decide_eq_false (fun h => e h.symm)]
      simp

set_option maxRecDepth 100000 in
set_option maxHeartbeats 1000000 in
theorem RMSetQ (k k2 X g a m : Nat) (xs : List Nat) (L : List (Nat × Nat)) (i : Int) (is : Bool) (en : Int) (w0 w : World) (Ps Qs : List Pr) (h : Grommet.Own w0 w Ps) (hk : Ps[k]? = some (refQ g xs L)) (hx : Ps[k2]? = some (rmapP X g a m)) (hM : MapOk xs.length a m)
    (he : (setME xs L a m i : Int) = en) (hQ : Ps.set k (refQ g xs (setMI xs L a m i is)) = Qs) :
    Calls Tryd.prog 19 #[.pointer (some ⟨X, 0, none⟩), .int .i64 i, .bool is] w fun e w' => e = .returned (.int .i64 en) ∧ Grommet.Own w0 w' Qs := by
  have hb := h.box k2 hx
  obtain ⟨c0, c1, c2⟩ := rmap_cells hb
  obtain ⟨hW, hxs, hxl⟩ := ref_wl h k hk
  have hlt := hM.lt
  have hQs : Ps.set k (refQ g xs L) = Ps := by
    apply List.ext_getElem?
    intro i
    by_cases hi : i = k
    · subst hi; rw [List.getElem?_set_self (List.getElem?_eq_some_iff.1 hk).1, hk]
    · rw [List.getElem?_set_ne (fun e => hi e.symm)]
  cases hin : inB i m with
  | false =>
    unfold setME at he
    unfold setMI at hQ
    rw [hin] at he hQ
    simp only [Bool.false_eq_true, if_false] at he hQ
    rw [hQs] at hQ
    subst he hQ
    have HO := Lib.hid h
    have hi : ¬ (0 ≤ i ∧ i < (m : Int)) := by unfold inB at hin; simpa using hin
    clear hin h hb hk hx hM hlt hW hxs hxl hQs
    by_cases i0 : i < 0
    · clear hi
      go_enter Tryd.func19, Tryd.ntmps19
      go_wp2
      go_ret
      exact ⟨rfl, HO.out⟩
    · have i1 : (m : Int) ≤ i := by omega
      clear hi
      go_enter Tryd.func19, Tryd.ntmps19
      go_wp2
      go_ret
      exact ⟨rfl, HO.out⟩
  | true =>
    unfold setME at he
    unfold setMI at hQ
    have hi : 0 ≤ i ∧ i < (m : Int) := by unfold inB at hin; simpa using hin
    rw [hin] at he hQ
    simp only [if_true] at he hQ
    obtain ⟨j, rfl⟩ := Int.eq_ofNat_of_zero_le hi.1
    rw [Int.toNat_natCast] at he hQ
    have hj : j < m := by omega
    have hf := hM.fits
    have hin2 : 0 ≤ ((a + j / 64 : Nat) : Int) ∧ ((a + j / 64 : Nat) : Int) < (xs.length : Int) := by omega
    have HG := Lib.hid (fun n => RGetQ k g xs L ((a + j / 64 : Nat) : Int) w0 (w.drewN n) Ps (h.quiet (grown_drewN w n none)) hk)
    rw [show gotI xs L ((a + j / 64 : Nat) : Int) = gotV xs L (a + j / 64) from by unfold gotI; rw [if_pos hin2, Int.toNat_natCast]] at HG
    have HM := Lib.hid (fun wx hO => RMGetQ k k2 X g a m xs L (j : Int) w0 wx Ps hO hk hx hM _ rfl)
    rw [getM_lt hj] at HM
    unfold mbit at HM
    have hV := gotV_small hxs hW.val (a + j / 64)
    have hsx := setB_xor (v := gotV xs L (a + j / 64)) (j := j % 64) is (by omega) hV
    have hsm : setB (gotV xs L (a + j / 64)) (j % 64) is < 18446744073709551616 := setB_small is (by omega) hV
    have HP := Lib.hid (fun wx hO => RPutQ k g xs L ((a + j / 64 : Nat) : Int) (setB (gotV xs L (a + j / 64)) (j % 64) is) en w0 wx Ps Qs hO hk hsm he hQ)
    have e1 : IntKind.i64.wrap ((a : Int) + (j : Int) / 64) = ((a + j / 64 : Nat) : Int) := by rw [IntWalk.i64_in _ ⟨by omega, by omega⟩]; omega
    have e2 : (a : Int) + (j : Int) / 64 = ((a + j / 64 : Nat) : Int) := by omega
    have e0 : IntKind.i64.wrap ((j : Int) / 64) = (j : Int) / 64 := IntWalk.i64_in _ ⟨by omega, by omega⟩
    have e5 : IntKind.i64.wrap ((a + j / 64 : Nat) : Int) = ((a + j / 64 : Nat) : Int) := IntWalk.i64_in _ ⟨by omega, by omega⟩
    generalize gotV xs L (a + j / 64) = V at *
    generalize a + j / 64 = A at *
    have j0 : (0 : Int) ≤ (j : Int) := by omega
    have j1 : (j : Int) < (m : Int) := by omega
    have j2 : ¬ (j : Int) < 0 := by omega
    have j3 : ¬ (m : Int) ≤ (j : Int) := by omega
    obtain ⟨s, hs⟩ : ∃ s, j % 64 = s := ⟨_, rfl⟩
    have s1 : (j : Int) % 64 = (s : Int) := by omega
    have s2 : Int.tmod (j : Int) 64 = (s : Int) := by rw [Int.tmod_eq_emod_of_nonneg (by omega)]; exact s1
    have s3 : IntKind.i64.wrap (s : Int) = (s : Int) := IntWalk.i64_in _ ⟨by omega, by omega⟩
    have s4 : IntKind.u64.wrap (s : Int) = (s : Int) := IntWalk.u64_in _ ⟨by omega, by omega⟩
    have s5 : s < 64 := by omega
    have s6 : (0 : Int) ≤ (s : Int) := by omega
    rw [hs] at hsx HP HM
    have hp := pow_lt64 s5
    obtain ⟨U, hU⟩ : ∃ U, 2 ^ s = U := ⟨_, rfl⟩
    have eU : IntKind.u64.wrap ((2 : Int) ^ s) = (U : Int) := by
      rw [show (2 : Int) ^ s = ((2 ^ s : Nat) : Int) from by simp, hU, IntWalk.u64_in _ ⟨by omega, by rw [← hU]; omega⟩]
    have eU1 : IntKind.u64.wrap (1 * (2 : Int) ^ s) = (U : Int) := by rw [Int.one_mul]; exact eU
    rw [hU] at hsx
    have HO := Lib.hid h
    have hsx := Lib.hid hsx
    have Hx := Lib.hid hx
    clear hin h hb hk hx hM hlt hW hxs hxl hf hin2 hQs he hQ
    go_enter Tryd.func19, Tryd.ntmps19
    go_wp2_with fail
    go_quiet ((go_at_call 36; with_reducible exact Calls.quiet_of_same (HG.out _)))
    go_wp2_with fail
    refine (HM.out _ (HO.out.quiet (grown_drewN _ _ _))).mono ?_
    rintro e w1 ⟨rfl, hg⟩
    have hO1 := HO.out.quiet (grown_trans (grown_drewN w _ none) hg)
    have hg1 := Lib.hid (grown_trans (grown_drewN w _ none) hg)
    have hb1 := hO1.box k2 Hx.out
    obtain ⟨c0, c1, c2⟩ := rmap_cells hb1
    have HP1 := Lib.hid (HP.out w1.drew (hO1.quiet (grown_drew (World.grownBy.refl _ _))))
    clear hg HM HG HP HO hO1 hb1
    cases is with
    | true =>
      cases hbt : V.testBit s with
      | true =>
        rw [hbt, if_pos rfl] at hsx
        rw [hsx.out] at HP1
        clear hbt
        go_wp2_with fail
        go_still_tail 12, (by kernel_rfl)
        change wpList _ _ _ _ _ w1.drew
        go_wp2_with fail
        refine HP1.out.mono ?_
        rintro e w2 ⟨rfl, hO2⟩
        go_wp2
        go_ret
        exact ⟨rfl, hO2⟩
      | false =>
        rw [hbt, if_neg (by decide)] at hsx
        rw [hsx.out] at HP1
        obtain ⟨T, hT⟩ : ∃ T, V ^^^ U = T := ⟨_, rfl⟩
        have e3 : bits .xor .u64 (V : Int) (U : Int) = (T : Int) := by rw [← hT]; exact u64_xor_nat V U hV (by rw [← hU]; exact hp)
        rw [hT] at HP1
        clear hbt
        go_wp2_with fail
        go_still_tail 12, (by kernel_rfl)
        change wpList _ _ _ _ _ w1.drew
        go_wp2_with fail
        refine HP1.out.mono ?_
        rintro e w2 ⟨rfl, hO2⟩
        go_wp2
        go_ret
        exact ⟨rfl, hO2⟩
    | false =>
      cases hbt : V.testBit s with
      | false =>
        rw [hbt, if_pos rfl] at hsx
        rw [hsx.out] at HP1
        clear hbt
        go_wp2_with fail
        go_still_tail 12, (by kernel_rfl)
        change wpList _ _ _ _ _ w1.drew
        go_wp2_with fail
        refine HP1.out.mono ?_
        rintro e w2 ⟨rfl, hO2⟩
        go_wp2
        go_ret
        exact ⟨rfl, hO2⟩
      | true =>
        rw [hbt, if_neg (by decide)] at hsx
        rw [hsx.out] at HP1
        obtain ⟨T, hT⟩ : ∃ T, V ^^^ U = T := ⟨_, rfl⟩
        have e3 : bits .xor .u64 (V : Int) (U : Int) = (T : Int) := by rw [← hT]; exact u64_xor_nat V U hV (by rw [← hU]; exact hp)
        rw [hT] at HP1
        clear hbt
        go_wp2_with fail
        go_still_tail 12, (by kernel_rfl)
        change wpList _ _ _ _ _ w1.drew
        go_wp2_with fail
        refine HP1.out.mono ?_
        rintro e w2 ⟨rfl, hO2⟩
        go_wp2
        go_ret
        exact ⟨rfl, hO2⟩
end Go.Proofs.YtjjdggdbohjjnaaDoor
end
section
/- The document's map: Of. -/
namespace Go.Proofs.YtjjdggdbohjjnaaDoor
open Go.RowKit Go.Grommet

theorem ref_len {w0 w : World} {Ps : List Pr} (h : Grommet.Own w0 w Ps) (k : Nat) {g : Nat} {xs : List Nat} {L : List (Nat × Nat)} (hk : Ps[k]? = some (refQ g xs L)) :
    (∃ ad cap, w.cell? ⟨g, 0, none⟩ = some (.slice ad xs.length cap)) ∧ (∃ ad cap, w.cell? ⟨g, 1, none⟩ = some (.slice ad L.length cap)) := by
  obtain ⟨F, b, vi, vl, h1⟩ := h.get k hk
  obtain ⟨c0, c1, _⟩ := h1.cells
  obtain ⟨ad, cap, he, _⟩ := row_slice h1.words
  obtain ⟨ad', cap', he', _⟩ := row_slice h1.writes
  subst he he'
  exact ⟨⟨ad, cap, c0⟩, ⟨ad', cap', c1⟩⟩

set_option maxRecDepth 100000 in
set_option maxHeartbeats 1000000 in
theorem ROfYes (k g a m : Nat) (xs : List Nat) (L : List (Nat × Nat)) (w0 w : World) (Ps : List Pr) (h : Grommet.Own w0 w Ps) (hk : Ps[k]? = some (refQ g xs L)) (hM : MapOk xs.length a m) :
    Calls Tryd.prog 12 #[.pointer (some ⟨g, 0, none⟩), .int .i64 (a : Int), .int .i64 (m : Int)] w fun e w' => ∃ X, e = .returned (.tuple #[.pointer (some ⟨X, 0, none⟩), .int .i64 0]) ∧ Grommet.Own w0 w' (Ps ++ [rmapP X g a m]) := by
  obtain ⟨⟨ad, cap, c0⟩, _⟩ := ref_len h k hk
  have hlt := hM.lt
  have h1 := hM.one
  have hf := hM.fits
  have hfw := hM.few
  have HO := Lib.hid h
  generalize xs.length = n at *
  obtain ⟨M, hm⟩ : ∃ M, m - 1 = M := ⟨_, rfl⟩
  have m1 : ¬ (m : Int) < 1 := by omega
  have e1 : IntKind.i64.wrap ((m : Int) - 1) = (M : Int) := by rw [IntWalk.i64_in _ ⟨by omega, by omega⟩]; omega
  have e1' : (m : Int) - 1 = (M : Int) := by omega
  obtain ⟨Q, hQ⟩ : ∃ Q : Nat, M / 64 = Q := ⟨_, rfl⟩
  have M0 : (0 : Int) ≤ (M : Int) := by omega
  have eQ : (M : Int) / 64 = (Q : Int) := by omega
  have eT : (M : Int).tdiv 64 = (Q : Int) := by rw [Int.tdiv_eq_ediv_of_nonneg M0]; exact eQ
  have e0 : IntKind.i64.wrap (Q : Int) = (Q : Int) := IntWalk.i64_in _ ⟨by omega, by omega⟩
  have eM : IntKind.i64.wrap (M : Int) = (M : Int) := IntWalk.i64_in _ ⟨by omega, by omega⟩
  have a0 : ¬ (a : Int) < 0 := by omega
  have a1 : ¬ (n : Int) ≤ (a : Int) := by omega
  have e2 : IntKind.i64.wrap ((n : Int) - (a : Int)) = (n : Int) - (a : Int) := IntWalk.i64_in _ ⟨by omega, by omega⟩
  have a2 : ¬ (n : Int) - (a : Int) ≤ (Q : Int) := by omega
  clear h hk hM hlt h1 hf hfw hm hQ
  go_enter Tryd.func12, Tryd.ntmps12
  go_wp2
  go_ret2
  exact ⟨w.heap.size, rfl, HO.out.addBox 68 (mapCs g a m)⟩

set_option maxRecDepth 100000 in
set_option maxHeartbeats 1000000 in
theorem ROfNo (k g : Nat) (a m : Int) (xs : List Nat) (L : List (Nat × Nat)) (w0 w : World) (Ps : List Pr) (h : Grommet.Own w0 w Ps) (hk : Ps[k]? = some (refQ g xs L)) (hm : m ≤ 9223372036854775807) (hn : xs.length ≤ 1000000) (en : Int)
    (he : (m < 1 ∧ en = 1) ∨ (1 ≤ m ∧ (a < 0 ∨ (xs.length : Int) - (((m.toNat - 1) / 64 + 1 : Nat) : Int) < a) ∧ en = 8)) :
    Calls Tryd.prog 12 #[.pointer (some ⟨g, 0, none⟩), .int .i64 a, .int .i64 m] w fun e w' => e = .returned (.tuple #[.pointer none, .int .i64 en]) ∧ w' = w := by
  obtain ⟨⟨ad, cap, c0⟩, _⟩ := ref_len h k hk
  clear h hk
  generalize xs.length = n at *
  rcases he with ⟨h1, rfl⟩ | ⟨h1, h2, rfl⟩
  · clear hm
    go_enter Tryd.func12, Tryd.ntmps12
    go_wp2
    go_ret2
    exact ⟨rfl, rfl⟩
  · have m1 : ¬ m < 1 := by omega
    by_cases a0 : a < 0
    · clear hm h2
      go_enter Tryd.func12, Tryd.ntmps12
      go_wp2
      go_ret2
      exact ⟨rfl, rfl⟩
    · by_cases a1 : (n : Int) ≤ a
      · clear hm h2
        go_enter Tryd.func12, Tryd.ntmps12
        go_wp2
        go_ret2
        exact ⟨rfl, rfl⟩
      · obtain ⟨M, hM⟩ : ∃ M : Nat, m - 1 = (M : Int) := ⟨(m - 1).toNat, by omega⟩
        have e1 : IntKind.i64.wrap (m - 1) = (M : Int) := by rw [IntWalk.i64_in _ ⟨by omega, by omega⟩]; omega
        obtain ⟨Q, hQ⟩ : ∃ Q : Nat, M / 64 = Q := ⟨_, rfl⟩
        have M0 : (0 : Int) ≤ (M : Int) := by omega
        have eQ : (M : Int) / 64 = (Q : Int) := by omega
        have eT : (M : Int).tdiv 64 = (Q : Int) := by rw [Int.tdiv_eq_ediv_of_nonneg M0]; exact eQ
        have e0 : IntKind.i64.wrap (Q : Int) = (Q : Int) := IntWalk.i64_in _ ⟨by omega, by omega⟩
        have eM : IntKind.i64.wrap (M : Int) = (M : Int) := IntWalk.i64_in _ ⟨by omega, by omega⟩
        have e2 : IntKind.i64.wrap ((n : Int) - a) = (n : Int) - a := IntWalk.i64_in _ ⟨by omega, by omega⟩
        have a2 : (n : Int) - a ≤ (Q : Int) := by omega
        clear hm h2
        go_enter Tryd.func12, Tryd.ntmps12
        go_wp2
        go_ret2
        exact ⟨rfl, rfl⟩
end Go.Proofs.YtjjdggdbohjjnaaDoor
end
section
/- The document's view beside other things: New, Flat, no writes; the view's Writes and Flat with what they grow. -/
namespace Go.Proofs.YtjjdggdbohjjnaaDoor
open Go.RowKit Go.Grommet

set_option maxHeartbeats 2000000 in
theorem RefFlat_any (g : Nat) (F : Nat → Prop) (xs : List Nat) (L : List (Nat × Nat)) (b : Bool) (w : World) (h : RefIs w g F xs L b) (base : Nat) (hb : base ≤ w.heap.size) :
    Calls Tryd.prog 24 #[.pointer (some ⟨g, 0, none⟩)] w (RowOf base (flatV xs L) w) := by
  obtain ⟨vi, vl, h⟩ := h
  obtain ⟨c0, c1, c2⟩ := h.cells
  obtain ⟨ad, cap, rfl, hat, hnil, hlc⟩ := row_slice h.words
  obtain ⟨bd, cap2, rfl, hat2, hnil2, hlc2⟩ := row_slice h.writes
  have hfit := h.fits
  have hfew := h.good.few
  have hold := row_old h.writes
  have hok := Lib.hid h.good.at_
  have hob := h.obj
  have hWx : Words w ad xs.length xs := ⟨rfl, h.small, hat, by omega⟩
  have hrow := h.writes
  clear h hat c2 hlc hnil2 hlc2 hat2
  obtain ⟨z, Hz⟩ : ∃ z, Hid (z = xs.length) := ⟨_, Lib.hid rfl⟩
  obtain ⟨m, Hm⟩ : ∃ m, Hid (m = L.length) := ⟨_, Lib.hid rfl⟩
  rw [← Hm.out] at c1 hob hold hfew hrow
  rw [← Hz.out] at c0 hob hfit hWx hnil
  have hgl : g < w.heap.size := lt_of_block hob
  go_enter Tryd.func24, Tryd.ntmps24
  go_wp2_with (at_builtin; refine app64 rfl _ _ rfl w.heap.size _ 0 [] rfl (own_lit w _ 1 _ (Nat.le_refl _)) ad z cap xs rfl ?a1 hnil ?a2 ?a3 ?_)
  case a1 => exact hWx.keep (World.grownBy_alloc w _ none) (by simp)
  case a2 => omega
  case a3 => simp
  intro v1 w1 hown hg
  have hg := grown_new (World.grownBy_alloc w _ none) hg (by intro g e; cases e; exact Nat.le_refl _)
  try rw [List.nil_append, Nat.zero_add] at hown
  obtain ⟨ad2, cp2, rfl, _⟩ := row_slice hown
  have hbl := fun i hi => (hown.lt i hi).1
  replace hob := Lib.hid hob
  replace hrow := Lib.hid hrow
  have Hown := Lib.hid hown
  clear hown hWx hnil c0 c1
  go_wp2_with fail
  go_loopw [4] (fun i wr => ∃ k : Nat, k ≤ m ∧ i = .int .i64 (k : Int) ∧ Hid (wr.ownsRow w.heap.size 51 1 (.slice ad2 z cp2) z ((flatV xs (L.take k)).map wv)) ∧ w.grownBy wr none) (fun i _ => m - (intOf i).toNat)
  case atStart => exact ⟨0, Nat.zero_le _, rfl, Hown, hg⟩
  case round =>
    clear Hown hg
    obtain ⟨k, hk, rfl, hr, hg⟩ := hrel
    have h0 : (0 : Int) ≤ (k : Int) := by omega
    have hobr := (hg.block g (lt_of_block hob.out) (by simp)).trans hob.out
    have c1 : wr.cell? ⟨g, 1, none⟩ = some (.slice bd m cap2) := by simp [World.cell?, hobr]
    clear hobr
    by_cases hlt : k < m
    · have hlt' : (k : Int) < (m : Int) := by omega
      have hkL : k < L.length := by rw [← Hm.out]; exact hlt
      have hp := hok.out _ (getD_mem L k (0, 0) hkL)
      rw [← Hz.out] at hp
      have hrw : wr.ownsRow 0 76 2 (.slice bd m cap2) m (wcells L) := hrow.out.kept hg (by
        cases (Value.slice bd m cap2).ownBlock with
        | none => exact .inl rfl
        | some q => exact .inr (by simp))
      obtain ⟨q, rfl, v0, v1, _, hcap, _⟩ := wr_cell hrw Hm.out.symm k hlt
      obtain ⟨b', rfl, d1, df, hcap2, hb'⟩ := wd_cell hr.out (by rw [flatV_length]; exact Hz.out.symm) _ hp
      have HS := Lib.hid (take_snocD L k (0, 0) hkL)
      generalize (flatV xs (L.take k)).getD (L.getD k (0, 0)).1 0 = U at d1
      have HA := Lib.hid (row_put hr.out (L.getD k (0, 0)).1 (.int .u64 ((L.getD k (0, 0)).2 : Int)))
      obtain ⟨A, A0⟩ : ∃ A, Hid (A = (L.getD k (0, 0)).1) := ⟨_, Lib.hid rfl⟩
      obtain ⟨V, V0⟩ : ∃ V, Hid (V = (L.getD k (0, 0)).2) := ⟨_, Lib.hid rfl⟩
      rw [← A0.out] at v0 d1 df hp HA
      rw [← V0.out] at v1 HA
      have hA' : (A : Int) < (z : Int) := by omega
      have hA0 : (0 : Int) ≤ (A : Int) := by omega
      have HG := Lib.hid (grown_new hg (grown_setCell wr ⟨b', A, none⟩ (.int .u64 (V : Int))) (by intro i e; cases e; exact hb'))
      clear hr hg hrw
      go_wp2_with fail
      go_still_tail 18, (by kernel_rfl)
      change wpList _ _ _ _ _ wr.drew
      go_wp2
      go_roundw
      case rel =>
        refine ⟨k + 1, by omega, by go_num, Lib.hid ?_, ?_⟩
        · rw [HS.out, flatV_snoc]
          rw [← V0.out, ← A0.out, ← map_wv_set]
          exact HA.out
        · exact grown_drew HG.out
      case measure => first | omega | (simp [intOf]; omega)
    · have hr2 := hr.out
      rw [List.take_of_length_le (by rw [← Hm.out]; omega)] at hr2
      have HR : RowOf base (flatV xs L) w (.returned (.slice ad2 z cp2)) wr := rowOf_mk (n := z) (by rw [flatV_length]; exact Hz.out) (row_base hr2 (fun i hi => by have := hbl i hi; omega)) hg
      clear hr2
      replace HR := Lib.hid HR
      clear hr
      have hlt' : ¬ (k : Int) < (m : Int) := by omega
      go_wp2
      go_ret
      exact HR.out

theorem WritesG (k g : Nat) (xs : List Nat) (L : List (Nat × Nat)) (w0 w : World) (Ps : List Pr) (h : Grommet.Own w0 w Ps) (hk : Ps[k]? = some (viewP g xs L)) :
    Calls Tryd.prog 26 #[.pointer (some ⟨g, 0, none⟩)] w fun e w' => ∃ ad cap, e = .returned (.slice ad L.length cap) ∧ Grommet.Own w0 w' (Ps ++ [rowP 76 2 (.slice ad L.length cap) L.length (wcells L)]) ∧ w.grownBy w' none := by
  obtain ⟨F, h1⟩ := h.get k hk
  refine (Writes_any g F xs L w h1 w.heap.size (Nat.le_refl _)).mono ?_
  rintro e w' ⟨ad, cap, he, hr, hg⟩
  exact ⟨ad, cap, he, h.addRow hr hg, hg⟩
theorem FlatG (k g : Nat) (xs : List Nat) (L : List (Nat × Nat)) (w0 w : World) (Ps : List Pr) (h : Grommet.Own w0 w Ps) (hk : Ps[k]? = some (viewP g xs L)) :
    Calls Tryd.prog 23 #[.pointer (some ⟨g, 0, none⟩)] w fun e w' => ∃ ad cap, e = .returned (.slice ad xs.length cap) ∧ Grommet.Own w0 w' (Ps ++ [rowP 51 1 (.slice ad xs.length cap) xs.length ((flatV xs L).map wv)]) ∧ w.grownBy w' none := by
  obtain ⟨F, h1⟩ := h.get k hk
  refine (Flat_any g F xs L w h1 w.heap.size (Nat.le_refl _)).mono ?_
  rintro e w' ⟨ad, cap, he, hr, hg⟩
  rw [flatV_length] at he hr
  exact ⟨ad, cap, he, h.addRow hr hg, hg⟩
theorem RefNewQ (ad : Option Addr) (l c : Nat) (xs : List Nat) (w0 w : World) (Ps : List Pr) (h : Grommet.Own w0 w Ps) (hx : Words w ad l xs) (hl : l ≤ 549755813888) (hnil : ad = none → l = 0 ∧ c = 0) :
    Calls Tryd.prog 10 #[.slice ad l c] w fun e w' => ∃ g, e = .returned (.pointer (some ⟨g, 0, none⟩)) ∧ Grommet.Own w0 w' (Ps ++ [refQ g xs []]) := by
  refine (RefNew_any ad l c xs w hx hl hnil).mono ?_
  rintro e w' ⟨g, F, he, hv, hF, hg⟩
  exact ⟨g, he, h.add (P := refQ g xs []) ⟨_, hv⟩ hF hg⟩
theorem RefFlatQ (k g : Nat) (xs : List Nat) (L : List (Nat × Nat)) (w0 w : World) (Ps : List Pr) (h : Grommet.Own w0 w Ps) (hk : Ps[k]? = some (refQ g xs L)) :
    Calls Tryd.prog 24 #[.pointer (some ⟨g, 0, none⟩)] w fun e w' => ∃ ad cap, e = .returned (.slice ad xs.length cap) ∧ Grommet.Own w0 w' (Ps ++ [rowP 51 1 (.slice ad xs.length cap) xs.length ((flatV xs L).map wv)]) ∧ w.grownBy w' none := by
  obtain ⟨F, b, h1⟩ := h.get k hk
  refine (RefFlat_any g F xs L b w h1 w.heap.size (Nat.le_refl _)).mono ?_
  rintro e w' ⟨ad, cap, he, hr, hg⟩
  rw [flatV_length] at he hr
  exact ⟨ad, cap, he, h.addRow hr hg, hg⟩
theorem refQ_nil {w0 w : World} {Ps : List Pr} (h : Grommet.Own w0 w Ps) (k : Nat) {r : Nat} {xs : List Nat} {L : List (Nat × Nat)} (hk : Ps[k]? = some (refQ r xs L)) :
    Grommet.Own w0 (w.setCell ⟨r, 1, none⟩ (.slice none 0 0)) (Ps.set k (refQ r xs [])) := by
  obtain ⟨F, ⟨b, vi, vl, h1⟩, h2⟩ := h.take k hk
  have hob : w.heap[r]? = some (.cells [vi, vl, .bool b].toArray 40 (0, 0)) := h1.obj
  have t0 : Turn (fun i => i = r) w (w.setCell ⟨r, 1, none⟩ (.slice none 0 0)) := Turn.of (grown_setCell _ _ _) (fun i e => by cases e; rfl)
  refine h2 _ (refQ r xs []) ⟨F, ⟨b, vi, .slice none 0 0, ⟨row_set hob 1 _, t0.row h1.words (fun i hi e => h1.apart.1 i hi e), World.ownsRow_nil _ _ _ _, h1.small, h1.fits, Wl.nil _, fun i hi => Nat.lt_of_lt_of_le (h1.old i hi) t0.size, h1.fg, h1.fw, fun i hi => by cases hi⟩⟩, fun i hi => .inl hi, t0.mono (fun i e => by subst e; exact .inl h1.fg)⟩
/-- What is written, as it stands in memory. -/
theorem refQ_obj {w0 w : World} {Ps : List Pr} (h : Grommet.Own w0 w Ps) (k : Nat) {r : Nat} {xs : List Nat} {L : List (Nat × Nat)} (hk : Ps[k]? = some (refQ r xs L)) :
    ∃ ad cap, w.cell? ⟨r, 1, none⟩ = some (.slice ad L.length cap) ∧ w.frozen? ⟨r, 1, none⟩ = false ∧ At w ad (wcells L) := by
  obtain ⟨F, b, vi, vl, h1⟩ := h.get k hk
  obtain ⟨ad, cap, rfl, hat, _⟩ := row_slice h1.writes
  have hob : w.heap[r]? = some (.cells [vi, .slice ad L.length cap, .bool b].toArray 40 (0, 0)) := h1.obj
  exact ⟨ad, cap, by simp [World.cell?, hob], by simp [World.frozen?, hob], hat⟩
end Go.Proofs.YtjjdggdbohjjnaaDoor
end
section
/- '[]grommetlaw06.Step', opened to its cells. -/
namespace Go.Proofs.YtjjdggdbohjjnaaDoor
open Go.RowKit Go.Grommet Go.Deep

structure Bms where
  i : Int
  s : Bool
  c : Bool
  d : Bool

def Bms.Ok (x : Bms) : Prop := (Lit.int .i64 x.i).wf = true

/-- Where a slice of such leads there stand these, 4 cells each. -/
def BmssIn (w : World) (a : Option Addr) (len : Nat) (L : List Bms) : Prop :=
  L.length = len ∧ (∀ x ∈ L, x.Ok) ∧ ∀ i x, L[i]? = some x → ∃ g o, a = some ⟨g, o, none⟩ ∧ w.cell? ⟨g, o + i * 4, none⟩ = some (.int .i64 x.i) ∧ w.cell? ⟨g, o + i * 4 + 1, none⟩ = some (.bool x.s) ∧ w.cell? ⟨g, o + i * 4 + 2, none⟩ = some (.bool x.c) ∧ w.cell? ⟨g, o + i * 4 + 3, none⟩ = some (.bool x.d)

theorem BmssIn.grown {w w' : World} {a : Option Addr} {len : Nat} {L : List Bms} (h : BmssIn w a len L) (hg : w.grownBy w' none) : BmssIn w' a len L := by
  refine ⟨h.1, h.2.1, fun i x hx => ?_⟩
  obtain ⟨g, o, ha, h0, h1, h2, h3⟩ := h.2.2 i x hx
  exact ⟨g, o, ha, hg.cell h0 (by simp), hg.cell h1 (by simp), hg.cell h2 (by simp), hg.cell h3 (by simp)⟩

theorem BmssIn.at {w : World} {g o len : Nat} {L : List Bms} (h : BmssIn w (some ⟨g, o, none⟩) len L) (i : Nat) (x : Bms) (hx : L[i]? = some x) : w.cell? ⟨g, o + i * 4, none⟩ = some (.int .i64 x.i) ∧ w.cell? ⟨g, o + i * 4 + 1, none⟩ = some (.bool x.s) ∧ w.cell? ⟨g, o + i * 4 + 2, none⟩ = some (.bool x.c) ∧ w.cell? ⟨g, o + i * 4 + 3, none⟩ = some (.bool x.d) := by
  obtain ⟨g', o', ha, h0, h1, h2, h3⟩ := h.2.2 i x hx
  cases ha
  exact ⟨h0, h1, h2, h3⟩

theorem Bms_list {α : Type} (P : Nat → α → Prop) : ∀ n, (∀ i, i < n → ∃ x, P i x) → ∃ L : List α, L.length = n ∧ ∀ i x, L[i]? = some x → P i x
  | 0, _ => ⟨[], rfl, fun i x h => by simp at h⟩
  | n + 1, h => by
    obtain ⟨L, hl, hL⟩ := Bms_list P n (fun i hi => h i (by omega))
    obtain ⟨y, hy⟩ := h n (by omega)
    refine ⟨L ++ [y], by simp [hl], fun i x hx => ?_⟩
    by_cases hi : i < n
    · rw [List.getElem?_append_left (by omega)] at hx; exact hL i x hx
    · rw [List.getElem?_append_right (by omega)] at hx
      have : i - L.length = 0 := by
        rcases Nat.eq_zero_or_pos (i - L.length) with h0 | h0
        · exact h0
        · rw [List.getElem?_eq_none (by simp; omega)] at hx; cases hx
      rw [this] at hx
      simp at hx
      subst hx
      rwa [show i = n from by omega]

set_option maxRecDepth 100000 in
theorem open_Bmss {H : Type} {enc : TypeId × Value → H} {w : World} {spare : Nat → Bool} {held : Bool} {a : Option Addr} {len cap : Nat} {d : DataW H} {p : List MemPlace}
    (h : DataW.Trod enc Tryd.prog w 0 spare held 23 (.slice a len cap) d p) : ∃ L, BmssIn w a len L := by
  obtain ⟨fuel, hf⟩ := h
  rcases open_slice Tryd.underlying23 hf with ⟨hcs, _⟩ | ⟨x, l, c, m, n, D, Pl, hcs, _, hl, _, hm, _, hi⟩
  · simp [Value.cells] at hcs
    obtain ⟨rfl, rfl, rfl⟩ := hcs
    exact ⟨[], rfl, by simp, fun i x h => by simp at h⟩
  · simp [Value.cells] at hcs
    obtain ⟨rfl, rfl, rfl⟩ := hcs
    have hml : len ≤ m := by rw [hm]; split <;> omega
    have hC : Tryd.prog.cellsOf 37 = 4 := by kernel_rfl
    rw [hC] at hi
    have key : ∀ i, i < len → ∃ y : Bms, y.Ok ∧ w.cell? (x.add (i * 4 + 0)) = some (.int .i64 y.i) ∧ w.cell? (x.add (i * 4 + 1)) = some (.bool y.s) ∧ w.cell? (x.add (i * 4 + 2)) = some (.bool y.c) ∧ w.cell? (x.add (i * 4 + 3)) = some (.bool y.d) := by
      intro i hil
      obtain ⟨cs', hc, ht⟩ := hi i (by omega)
      obtain ⟨_, hcl, hat⟩ := World.cells?_some hc
      obtain ⟨xs, n', _, _, _, hlen, hfl⟩ := DataW.trod_struct Tryd.underlying37 ht
      match xs, hlen with
      | [y0, y1, y2, y3], _ =>
        have g0 := by simpa using hfl 0 _ rfl
        have g1 := by simpa using hfl 1 _ rfl
        have g2 := by simpa using hfl 2 _ rfl
        have g3 := by simpa using hfl 3 _ rfl
        match cs', hcl with
        | [c0, c1, c2, c3], _ =>
          obtain ⟨b0, e0, _, z0⟩ := DataW.trod_int Tryd.underlying3 g0
          have k0 : Tryd.prog.cellsOf 3 = 1 := by kernel_rfl
          simp [k0] at e0
          obtain ⟨b1, e1, _⟩ := DataW.trod_bool Tryd.underlying4 g1
          have k1 : Tryd.prog.cellsOf 4 = 1 := by kernel_rfl
          simp [k1] at e1
          obtain ⟨b2, e2, _⟩ := DataW.trod_bool Tryd.underlying4 g2
          have k2 : Tryd.prog.cellsOf 4 = 1 := by kernel_rfl
          simp [k2] at e2
          obtain ⟨b3, e3, _⟩ := DataW.trod_bool Tryd.underlying4 g3
          have k3 : Tryd.prog.cellsOf 4 = 1 := by kernel_rfl
          simp [k3] at e3
          subst e0 e1 e2 e3
          refine ⟨⟨b0, b1, b2, b3⟩, z0, ?_, ?_, ?_, ?_⟩
          · rw [← Go.Deep.add_add]; exact hat 0 (by omega)
          · rw [← Go.Deep.add_add]; exact hat 1 (by omega)
          · rw [← Go.Deep.add_add]; exact hat 2 (by omega)
          · rw [← Go.Deep.add_add]; exact hat 3 (by omega)
    obtain ⟨L, hL, hLi⟩ := Bms_list _ len key
    refine ⟨L, hL, ?_, ?_⟩
    · intro y hy
      obtain ⟨i, hi⟩ := List.getElem?_of_mem hy
      exact (hLi i y hi).1
    · intro i y hiy
      obtain ⟨_, h0, h1, h2, h3⟩ := hLi i y hiy
      obtain ⟨b, o, sp⟩ := x
      have hil : i < len := by
        have := (List.getElem?_eq_some_iff.1 hiy).1
        omega
      have hsp : sp = none := by
        obtain ⟨_, _, k0, _⟩ := key 0 (by omega)
        have := World.cell?_spot k0
        simpa [Addr.add] using this
      subst hsp
      refine ⟨b, o, rfl, ?_, ?_, ?_, ?_⟩
      · rw [Addr.add_lit] at h0; simpa [Nat.add_assoc] using h0
      · rw [Addr.add_lit] at h1; simpa [Nat.add_assoc] using h1
      · rw [Addr.add_lit] at h2; simpa [Nat.add_assoc] using h2
      · rw [Addr.add_lit] at h3; simpa [Nat.add_assoc] using h3
end Go.Proofs.YtjjdggdbohjjnaaDoor
end
