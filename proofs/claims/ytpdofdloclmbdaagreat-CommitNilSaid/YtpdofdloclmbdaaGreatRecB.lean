/- Package record: cut, Mark, mayStand. -/
import Derived.Test.YtpdofdloclmbdaaGreatRecA
namespace Go.Proofs.YtpdofdloclmbdaaGreat
open Go.RowKit Go.Grommet

/-- 'words[:k]' of a row that is there. -/
theorem slice_to_lit {P : Program} (T e : TypeId) (hT : P.underlying T = some (.slice e)) (hsz : ∀ w, (sizeOf e).run P w = .ok 1 w) (q o len cap k : Nat) (h : k ≤ cap) (w : World) :
    (Instr.slice T (.slice (some ⟨q, o, none⟩) len cap) none (some (.int .i64 (k : Int))) none).run P w = .ok (.slice (some ⟨q, o, none⟩) k cap) w := by
  have he : P.elem T = e := by simp [Program.elem, hT]
  have ht : P.underlying T = some (.slice (P.elem T)) := by rw [he]; exact hT
  rw [run_slice_h (a := some ⟨q, o, none⟩) (ht := ht) (h0 := by omega) (h2 := by omega), he, hsz]
  simp [Result.andThen, sliced, Addr.add_lit]

theorem cutB_yes {xs : List Nat} (h : cutB xs = true) : 0 < xs.length ∧ xs.getD 0 0 ≤ 96 ∧ 2 + 2 * xs.getD 0 0 ≤ xs.length := by simpa [cutB] using h

set_option maxHeartbeats 1000000 in
theorem cut_yes (q o l c : Nat) (xs : List Nat) (w : World) (hx : Words w (some ⟨q, o, none⟩) l xs) (hlc : l ≤ c) (h : cutB xs = true) :
    Calls Tryz.prog 98 #[.slice (some ⟨q, o, none⟩) l c] w fun e w' => e = .returned (.tuple #[.slice (some ⟨q, o, none⟩) (2 + 2 * xs.getD 0 0) c, .bool true]) ∧ w = w' := by
  obtain ⟨h0, h1, h2⟩ := cutB_yes h
  have HX := Lib.hid hx.len
  rw [HX.out] at h0 h2
  obtain ⟨q', o', he, c0⟩ := hx.cell 0 h0
  cases he
  rw [Nat.add_zero] at c0
  obtain ⟨n, Hn⟩ : ∃ n, Hid (n = xs.getD 0 0) := ⟨_, Lib.hid rfl⟩
  rw [← Hn.out] at c0 h1 h2
  rw [← Hn.out]
  have hS := Lib.hid (fun wx => sizeOf_any (n : Int) wx (by omega) (by omega))
  rw [show (2 : Int) + 2 * (n : Int) = ((2 + 2 * n : Nat) : Int) from by omega] at hS
  have hsl := fun wx => slice_to_lit (P := Tryz.prog) 33 44 Tryz.underlying33 Tryz.sizeOf44 q o l c (2 + 2 * n) (by omega) wx
  obtain ⟨k, Hk⟩ : ∃ k, Hid (k = 2 + 2 * n) := ⟨_, Lib.hid rfl⟩
  rw [← Hk.out] at hS hsl h2
  rw [← Hk.out]
  have e1 : ((l : Int) == 0) = false := by rw [beq_eq_false_iff_ne]; omega
  have e2 : ¬ (96 : Int) < (n : Int) := by omega
  have e3 : ¬ (l : Int) < (k : Int) := by omega
  have e4 : IntKind.i64.wrap (n : Int) = (n : Int) := IntWalk.i64_in _ ⟨by omega, by omega⟩
  have e5 : (0 : Int) < (l : Int) := by omega
  clear h hx
  go_enter Tryz.func98, Tryz.ntmps98
  go_wp2_with fail
  refine (hS.out _).mono ?_
  rintro e w1 ⟨rfl, rfl⟩
  go_wp2_with fail
  refine (hS.out _).mono ?_
  rintro e w1 ⟨rfl, rfl⟩
  go_wp2
  go_ret2
  exact ⟨rfl, rfl⟩

set_option maxHeartbeats 1000000 in
theorem cut_no (ad : Option Addr) (l c : Nat) (xs : List Nat) (w : World) (hx : Words w ad l xs) (h : cutB xs = false) :
    Calls Tryz.prog 98 #[.slice ad l c] w fun e w' => e = .returned (.tuple #[.slice none 0 0, .bool false]) ∧ w = w' := by
  have HX := Lib.hid hx.len
  have h' : ¬ (0 < l ∧ xs.getD 0 0 ≤ 96 ∧ 2 + 2 * xs.getD 0 0 ≤ l) := by
    rw [← HX.out]
    unfold cutB at h
    rwa [decide_eq_false_iff_not] at h
  by_cases h0 : 0 < l
  · obtain ⟨q, o, rfl, c0⟩ := hx.cell 0 h0
    rw [Nat.add_zero] at c0
    have hs := hx.get 0 h0
    have hf := hx.fits
    obtain ⟨n, Hn⟩ : ∃ n, Hid (n = xs.getD 0 0) := ⟨_, Lib.hid rfl⟩
    rw [← Hn.out] at c0 h' hs
    have e1 : ((l : Int) == 0) = false := by rw [beq_eq_false_iff_ne]; omega
    have e5 : (0 : Int) < (l : Int) := by omega
    have N0 := Lib.hid hs
    clear h hx hs
    by_cases h1 : n ≤ 96
    · have hS := Lib.hid (fun wx => sizeOf_any (n : Int) wx (by omega) (by omega))
      rw [show (2 : Int) + 2 * (n : Int) = ((2 + 2 * n : Nat) : Int) from by omega] at hS
      have e3 : (l : Int) < ((2 + 2 * n : Nat) : Int) := by omega
      obtain ⟨k, Hk⟩ : ∃ k, Hid (k = 2 + 2 * n) := ⟨_, Lib.hid rfl⟩
      rw [← Hk.out] at hS e3
      have e2 : ¬ (96 : Int) < (n : Int) := by omega
      have e4 : IntKind.i64.wrap (n : Int) = (n : Int) := IntWalk.i64_in _ ⟨by omega, by omega⟩
      clear h'
      go_enter Tryz.func98, Tryz.ntmps98
      go_wp2_with fail
      refine (hS.out _).mono ?_
      rintro e w1 ⟨rfl, rfl⟩
      go_wp2
      go_ret2
      exact ⟨rfl, rfl⟩
    · have e2 : (96 : Int) < (n : Int) := by omega
      clear h'
      go_enter Tryz.func98, Tryz.ntmps98
      go_wp2
      go_ret2
      exact ⟨rfl, rfl⟩
  · obtain rfl : l = 0 := by omega
    clear h hx h' h0
    go_enter Tryz.func98, Tryz.ntmps98
    go_wp2
    go_ret2
    exact ⟨rfl, rfl⟩

/-- Words that hold something lead somewhere. -/
theorem Words.lit {w : World} {ad : Option Addr} {l : Nat} {xs : List Nat} (h : Words w ad l xs) (hl : 0 < l) : ∃ q o, ad = some ⟨q, o, none⟩ := by
  obtain ⟨q, o, he, _⟩ := h.cell 0 hl
  exact ⟨q, o, he⟩

theorem mark_bits (s n : Nat) (hn : n ≤ 96) : (s * 65536 % 18446744073709551616) ||| (n * 256) ||| 1 = (s * 65536 + n * 256 + 1) % 18446744073709551616 := by
  have e1 : s * 65536 % 18446744073709551616 = (s % 281474976710656) * 65536 := by omega
  rw [e1]
  obtain ⟨t, ht⟩ : ∃ t, t = s % 281474976710656 := ⟨_, rfl⟩
  rw [← ht]
  have e2 : t * 65536 ||| n * 256 = t * 65536 + n * 256 := by
    have h : t * 65536 = t <<< 16 := by rw [Nat.shiftLeft_eq]
    rw [h, ← Nat.shiftLeft_add_eq_or_of_lt (by omega)]
  have e3 : (t * 65536 + n * 256) ||| 1 = t * 65536 + n * 256 + 1 := by
    have h : t * 65536 + n * 256 = (t * 256 + n) <<< 8 := by rw [Nat.shiftLeft_eq]; omega
    rw [h, ← Nat.shiftLeft_add_eq_or_of_lt (by omega)]
  rw [e2, e3]
  omega

theorem mark_int (s n : Nat) (hn : n ≤ 96) : bits .or .u64 (bits .or .u64 (IntKind.u64.wrap ((s : Int) * 65536)) ((n : Int) * 256)) 1 = (((s * 65536 + n * 256 + 1) % 18446744073709551616 : Nat) : Int) := by
  rw [← mark_bits s n hn]
  rw [show (s : Int) * 65536 = ((s * 65536 : Nat) : Int) from by omega, wrap_u64_nat, show (n : Int) * 256 = ((n * 256 : Nat) : Int) from by omega, show (1 : Int) = ((1 : Nat) : Int) from rfl]
  have h0 : s * 65536 % 18446744073709551616 < 18446744073709551616 := Nat.mod_lt _ (by decide)
  have h1 : (s * 65536 % 18446744073709551616 ||| n * 256) < 18446744073709551616 := by
    have : (s * 65536 % 18446744073709551616 ||| n * 256) < 2 ^ 64 := Nat.or_lt_two_pow (by omega) (by omega)
    omega
  rw [bits_or_u64_nat _ _ h0 (by omega), bits_or_u64_nat _ _ h1 (by omega)]

set_option maxHeartbeats 1000000 in
theorem Mark_any (ad : Option Addr) (l c : Nat) (xs : List Nat) (w : World) (hx : Words w ad l xs) (hlc : l ≤ c) :
    Calls Tryz.prog 58 #[.slice ad l c] w fun e w' => e = .returned (.int .u64 (markV xs : Int)) ∧ w.grownBy w' none := by
  cases hb : cutB xs with
  | true =>
    obtain ⟨h0, h1, h2⟩ := cutB_yes hb
    have hl := hx.len
    obtain ⟨q, o, rfl⟩ := Words.lit hx (by omega)
    have HC := Lib.hid (cut_yes q o l c xs w hx hlc hb)
    obtain ⟨n, Hn⟩ : ∃ n, Hid (n = xs.getD 0 0) := ⟨_, Lib.hid rfl⟩
    obtain ⟨q', o', he, c0⟩ := hx.cell 0 (by omega)
    cases he
    rw [Nat.add_zero] at c0
    obtain ⟨q', o', he, c1⟩ := hx.cell (1 + 2 * n) (by rw [Hn.out]; omega)
    cases he
    have hs := hx.get (1 + 2 * n) (by rw [Hn.out]; omega)
    have HM : Hid (markV xs = (xs.getD (1 + 2 * n) 0 * 65536 + n * 256 + 1) % 18446744073709551616) := Lib.hid (by unfold markV; rw [if_pos hb, ← Hn.out])
    rw [← Hn.out] at c0 HC h1
    obtain ⟨S, HS⟩ : ∃ S, Hid (S = xs.getD (1 + 2 * n) 0) := ⟨_, Lib.hid rfl⟩
    rw [← HS.out] at c1 HM hs
    obtain ⟨k, Hk⟩ : ∃ k, Hid (k = 1 + 2 * n) := ⟨_, Lib.hid rfl⟩
    rw [show 2 + 2 * n = (1 + 2 * n) + 1 from by omega, ← Hk.out] at HC
    rw [← Hk.out] at c1
    have hkk : k ≤ 200 := by rw [Hk.out]; omega
    clear hx hb h0 h2 hl hs
    go_enter Tryz.func58, Tryz.ntmps58
    go_wp2_with fail
    refine HC.out.mono ?_
    rintro e w1 ⟨rfl, rfl⟩
    clear HC
    go_wp2_with fail
    go_quiet (fail)
    go_wp2
    go_ret
    exact ⟨by rw [HM.out, ← mark_int S n h1]; rfl, grown_drewN _ _ _⟩
  | false =>
    have HC := Lib.hid (cut_no ad l c xs w hx hb)
    have HM : Hid (markV xs = 0) := Lib.hid (by unfold markV; rw [if_neg (by rw [hb]; simp)])
    clear hx hb
    go_enter Tryz.func58, Tryz.ntmps58
    go_wp2_with fail
    refine HC.out.mono ?_
    rintro e w1 ⟨rfl, rfl⟩
    go_wp2
    go_ret
    exact ⟨by rw [HM.out]; rfl, World.grownBy.refl _ _⟩

set_option maxHeartbeats 1000000 in
theorem mayStand_any (a b c x : Int) (w : World) (hx1 : x ≤ 9223372036854775807) : Calls Tryz.prog 92 #[gv a b c, .int .i64 x] w (BoolIs (standB a b c x) w) := by
  have HW := Lib.hid (fun wx => Where_any a b c x wx hx1)
  have HV : Hid (standB a b c x = decide ((whereV a b c x).1 ≠ 0 ∧ (whereV a b c x).1 ≠ 1 ∧ (whereV a b c x).1 ≠ 5)) := Lib.hid rfl
  generalize whereV a b c x = V at HW HV
  obtain ⟨k, i, j, r⟩ := V
  unfold WhereIs gv at HW
  unfold gv
  dsimp only at HW HV
  by_cases h0 : k = 0
  · subst h0
    have HR : Hid (standB a b c x = false) := Lib.hid (by rw [HV.out]; simp)
    go_enter Tryz.func92, Tryz.ntmps92
    go_wp2_with fail
    refine (HW.out _).mono ?_
    rintro e w1 ⟨rfl, hg⟩
    go_wp2
    go_ret
    exact boolIs_mk HR.out (grown_trans (World.grownBy_alloc w _ none) hg)
  · by_cases h1 : k = 1
    · subst h1
      have HR : Hid (standB a b c x = false) := Lib.hid (by rw [HV.out]; simp)
      go_enter Tryz.func92, Tryz.ntmps92
      go_wp2_with fail
      refine (HW.out _).mono ?_
      rintro e w1 ⟨rfl, hg⟩
      go_wp2
      go_ret
      exact boolIs_mk HR.out (grown_trans (World.grownBy_alloc w _ none) hg)
    · by_cases h5 : k = 5
      · subst h5
        have HR : Hid (standB a b c x = false) := Lib.hid (by rw [HV.out]; simp)
        go_enter Tryz.func92, Tryz.ntmps92
        go_wp2_with fail
        refine (HW.out _).mono ?_
        rintro e w1 ⟨rfl, hg⟩
        go_wp2
        go_ret
        exact boolIs_mk HR.out (grown_trans (World.grownBy_alloc w _ none) hg)
      · have HR : Hid (standB a b c x = true) := Lib.hid (by rw [HV.out]; simp [h0, h1, h5])
        have e0 : (k == 0) = false := by simpa using h0
        have e1 : (k == 1) = false := by simpa using h1
        have e5 : (k == 5) = false := by simpa using h5
        clear h0 h1 h5
        go_enter Tryz.func92, Tryz.ntmps92
        go_wp2_with fail
        refine (HW.out _).mono ?_
        rintro e w1 ⟨rfl, hg⟩
        go_wp2
        go_ret
        exact boolIs_mk HR.out (grown_trans (World.grownBy_alloc w _ none) hg)
end Go.Proofs.YtpdofdloclmbdaaGreat
