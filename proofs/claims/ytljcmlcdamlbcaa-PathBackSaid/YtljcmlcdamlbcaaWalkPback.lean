/- PathBack, walked. -/
import Derived.Test.YtljcmlcdamlbcaaPatSp
import Derived.Test.YtljcmlcdamlbcaaPatSame
import Derived.Test.YtljcmlcdamlbcaaPatJo
import Derived.Test.YtljcmlcdamlbcaaOpenNames
import Derived.Test.YtljcmlcdamlbcaaWorks
namespace Go.Proofs.Ytljcmlcdamlbcaa.pathBack
open Go.RowKit Go.Grommet Go.Ev

set_option maxRecDepth 100000 in
set_option maxHeartbeats 4000000 in
theorem walk_at (s : ByteArray) (ad : Option Addr) (m cap : Nat) (L : List (List UInt8)) (at_ : Int) (w : World) (hL : NamesIn w ad m L) :
    Calls Try.prog 4 #[.string s, .slice ad m cap, .int .u8 at_] w (Go.Ev.WorksIs w) := by
  have HWk := Lib.hid (fun wx => works_ev wx)
  obtain ⟨n, hn⟩ : ∃ n, s.size = n := ⟨_, rfl⟩
  by_cases h1 : 1000 < n
  · have h1' : (1000 : Int) < (n : Int) := by omega
    go_enter Try.func4, Try.ntmps4
    go_wp2_with fail
    refine (HWk.out _).mono ?_
    rintro e w9 ⟨rfl, hg9⟩
    go_wp2
    go_ret
    exact ⟨rfl, hg9⟩
  have h1' : ¬ (1000 : Int) < (n : Int) := by omega
  by_cases h2 : 300 < m
  · have h2' : (300 : Int) < (m : Int) := by omega
    go_enter Try.func4, Try.ntmps4
    go_wp2_with fail
    refine (HWk.out _).mono ?_
    rintro e w9 ⟨rfl, hg9⟩
    go_wp2
    go_ret
    exact ⟨rfl, hg9⟩
  have h2' : ¬ (300 : Int) < (m : Int) := by omega
  have HA := Lib.hid hL
  obtain ⟨t, ht⟩ : ∃ t, bytesOf s = t := ⟨_, rfl⟩
  have Ht := Lib.hid ht
  have HJ := Lib.hid (fun (hx : ∀ x ∈ L, x.length ≤ 300) wx (hg : w.grownBy wx none) => Join_any (.slice ad m cap) L wx ((hL.strs cap).quiet hg) (by have := hL.1; omega) (fun x h => by have := hx x h; omega))
  have HSm := Lib.hid (fun wx v (hg : w.grownBy wx none) (hv : Strs wx v L) => Same_any wx v (.slice ad m cap) L L hv ((hL.strs cap).quiet hg) (by have := hL.1; omega))
  have Hm := Lib.hid hL.1
  clear hL ht
  go_enter Try.func4, Try.ntmps4
  go_wp2_with fail
  go_loopw [7] (fun i wr => ∃ k : Nat, k ≤ m ∧ i = .int .i64 (k : Int) ∧ Hid (∀ x ∈ L.take k, x.length ≤ 300) ∧ wr = w) (fun i _ => m - (intOf i).toNat)
  case atStart => exact ⟨0, Nat.zero_le _, rfl, Lib.hid (by simp), rfl⟩
  case round =>
    obtain ⟨k, hk, rfl, hI, rfl⟩ := hrel
    have k0 : (0 : Int) ≤ (k : Int) := by omega
    by_cases hlt : k < m
    · have hlt' : (k : Int) < (m : Int) := by omega
      obtain ⟨x, hx⟩ : ∃ x, L[k]? = some x := ⟨_, List.getElem?_eq_getElem (by have := Hm.out; omega)⟩
      obtain ⟨g, o, rfl, hc⟩ := Strs.cell HA.out.2 hx
      have wk : IntKind.i64.wrap ((k : Int) + 1) = (k : Int) + 1 := IntWalk.i64_in _ ⟨by omega, by omega⟩
      obtain ⟨z, hz⟩ : ∃ z, (str x).size = z := ⟨_, rfl⟩
      by_cases hl : 300 < z
      · have hl' : (300 : Int) < (z : Int) := by omega
        go_wp2_with fail
        refine (HWk.out _).mono ?_
        rintro e w9 ⟨rfl, hg9⟩
        go_wp2
        go_ret
        exact ⟨rfl, hg9⟩
      · have hl' : ¬ (300 : Int) < (z : Int) := by omega
        have hI2 : Hid (∀ y ∈ L.take (k + 1), y.length ≤ 300) := Lib.hid (fun y hy => by
          rw [List.take_add_one, hx] at hy
          rcases List.mem_append.1 hy with hy | hy
          · exact hI.out y hy
          · rw [show y = x from by simpa using hy, ← size_str, hz]; omega)
        clear hx
        go_wp2
        go_roundw
        case rel => exact ⟨k + 1, by omega, by go_num, hI2, by first | rfl | trivial⟩
        case measure => simp [intOf]; omega
    · have hlt' : ¬ (k : Int) < (m : Int) := by omega
      have hall : ∀ x ∈ L, x.length ≤ 300 := by
        have h := hI.out
        rwa [List.take_of_length_le (by have := Hm.out; omega)] at h
      have HJ2 := Lib.hid (HJ.out hall wr (World.grownBy.refl _ _))
      obtain ⟨J, hJ⟩ : ∃ J, joinL L = J := ⟨_, rfl⟩
      rw [hJ] at HJ2
      clear HJ hall hI HA
      by_cases hJ0 : J = []
      · have q0 : (str J).toList.isEmpty = true := by rw [ByteArray.toList_eq, hJ0]; rfl
        clear HSm hJ hJ0
        go_wp2_with fail
        refine HJ2.out.mono ?_
        rintro e w1 ⟨rfl, hg1⟩
        have HG := Lib.hid hg1
        clear hg1 HJ2
        cases hB : splitB t with
        | false =>
          have HS2 := Lib.hid (show ∀ wx, Calls Try.prog 7 #[.string s] wx fun e w' => ∃ a c, e = .returned (.tuple #[.slice a 0 c, .int .i64 13]) ∧ wx.grownBy w' none from fun wx => (Split_any s wx).mono (by
            rintro e w' ⟨v, rfl, ⟨a, c, rfl, _⟩, hg⟩
            rw [Ht.out, splitN_no hB, splitE_no hB]
            exact ⟨a, c, rfl, hg⟩))
          clear hB
          go_wp2_with fail
          refine (HS2.out _).mono ?_
          rintro e w2 ⟨a2, c2, rfl, hg2⟩
          have HG2 := Lib.hid (grown_trans HG.out hg2)
          clear hg2 HS2 HG
          go_wp2_with fail
          refine (HWk.out _).mono ?_
          rintro e w9 ⟨rfl, hg9⟩
          go_wp2
          go_ret
          exact ⟨rfl, grown_trans HG2.out hg9⟩
        | true =>
          obtain ⟨hjs, hmy⟩ := join_split hB
          obtain ⟨hm1, hm2, hm3⟩ := split_more hB
          have hle := (split_yes hB).1
          have ht0 : t ≠ [] := by obtain ⟨_, T, e, _⟩ := split_yes hB; rw [e]; simp
          obtain ⟨M, hM⟩ : ∃ M, splitN t = M := ⟨_, rfl⟩
          have hpl : M.length ≤ 1000000 := by
            rw [← hM]
            unfold splitN
            split
            · have := (pcs_len t.tail).2
              rw [List.length_tail] at this
              omega
            · exact Nat.zero_le _
          have hxl : ∀ x ∈ M, x.length ≤ 1000000 := fun x hx => by have := (mayP_len (hmy x (by rw [hM]; exact hx))).2; omega
          rw [hM] at hjs hmy
          obtain ⟨k, hk⟩ : ∃ k, M.length = k := ⟨_, rfl⟩
          have hn : s.size = t.length := by rw [← Ht.out, length_bytesOf]
          have hst : str t = s := by rw [← Ht.out, str_bytesOf]
          have HS2 := Lib.hid (show ∀ wx, Calls Try.prog 7 #[.string s] wx fun e w' => ∃ a c, e = .returned (.tuple #[.slice a k c, .int .i64 0]) ∧ At w' a (M.map sv) ∧ wx.grownBy w' none from fun wx => (Split_any s wx).mono (by
            rintro e w' ⟨v, rfl, ⟨a, c, rfl, ha⟩, hg⟩
            rw [Ht.out, hM] at ha ⊢
            rw [splitE_yes hB, hk]
            exact ⟨a, c, rfl, ha, hg⟩))
          have HJ2 := Lib.hid (show ∀ a c wx, At wx a (M.map sv) → Calls Try.prog 10 #[.slice a k c] wx fun e w' => e = .returned (.string s) ∧ wx.grownBy w' none from fun a c wx ha => by
            have := Join_any (.slice a k c) M wx ⟨a, c, by rw [hk], ha⟩ hpl hxl
            rwa [hjs, hst] at this)
          have HM2 := Lib.hid (show ∀ i x, M[i]? = some x → ∀ wx, Calls Try.prog 12 #[.string (str x)] wx fun e w' => e = .returned (.bool true) ∧ w' = wx from fun i x hx wx => by
            have := May_any (str x) wx
            rwa [show mayN (str x) = true from hmy x (List.mem_of_getElem? hx)] at this)
          have no : ∀ {u : List UInt8}, splitB u = false → ∀ wx, Calls Try.prog 7 #[.string (str u)] wx fun e w' => ∃ a c, e = .returned (.tuple #[.slice a 0 c, .int .i64 13]) ∧ wx.grownBy w' none := fun {u} hu wx => (Split_any (str u) wx).mono (by
            rintro e w' ⟨v, rfl, ⟨a, c, rfl, _⟩, hg⟩
            rw [bytesOf_str, splitN_no hu, splitE_no hu]
            exact ⟨a, c, rfl, hg⟩)
          have N1 := Lib.hid (no hm1)
          have N2 := Lib.hid (no hm2)
          have N3 := Lib.hid (no hm3)
          have b1 : s ++ ⟨#[47]⟩ = str (t ++ [47]) := by rw [← hst]; exact append_str t [47]
          have b2 : (⟨#[47]⟩ : ByteArray) ++ s = str (47 :: t) := by rw [← hst]; exact append_str [47] t
          have b3 : s.extract 1 n = str t.tail := by
            rw [← hst, extract_str]
            congr 1
            rw [List.drop_one]
            exact List.take_of_length_le (by rw [List.length_tail]; omega)
          have hn0 : t.length ≠ 0 := by simpa using ht0
          have n1 : ¬ (n : Int) < 1 := by omega
          have n2 : (1 : Int) ≤ (n : Int) := by omega
          have n3 : ¬ 9223372036854775807 < n + 1 := by omega
          have n4 : ¬ 9223372036854775807 < 1 + n := by omega
          have n5 : (n : Int) ≤ 200 := by omega
          have qs : (s.toList == s.toList) = true := by simp
          have Hk := Lib.hid hk
          have k7 : (k : Int) ≤ 1000000 := by omega
          clear hB hjs hmy hm1 hm2 hm3 hle ht0 hM hpl hxl hn hst no hn0 hk
          go_wp2_with fail
          refine (HS2.out _).mono ?_
          rintro e w2 ⟨a2, c2, rfl, ha2, hg2⟩
          have HG2 := Lib.hid (grown_trans HG.out hg2)
          have HJ3 := Lib.hid (HJ2.out a2 c2 w2 ha2)
          have HA2 := Lib.hid ha2
          clear hg2 HS2 HG ha2 HJ2
          go_wp2_with fail
          refine HJ3.out.mono ?_
          rintro e w3 ⟨rfl, hg3⟩
          have HG3 := Lib.hid (grown_trans HG2.out hg3)
          have HA3 := Lib.hid (HA2.out.grown hg3 (by intro _ _ _ e; cases e))
          clear hg3 HJ3 HG2 HA2
          go_wp2_with fail
          go_loopw [13] (fun i wr => ∃ j : Nat, j ≤ k ∧ i = .int .i64 (j : Int) ∧ wr = w3) (fun i _ => k - (intOf i).toNat)
          case atStart => exact ⟨0, Nat.zero_le _, rfl, rfl⟩
          case round =>
            obtain ⟨j, hj, rfl, rfl⟩ := hrel
            have j0 : (0 : Int) ≤ (j : Int) := by omega
            by_cases hlt : j < k
            · have hlt' : (j : Int) < (k : Int) := by omega
              obtain ⟨x, hx⟩ : ∃ x, M[j]? = some x := ⟨_, List.getElem?_eq_getElem (by have := Hk.out; omega)⟩
              obtain ⟨g, o, rfl, hc⟩ := Strs.cell HA3.out hx
              have wj : IntKind.i64.wrap ((j : Int) + 1) = (j : Int) + 1 := IntWalk.i64_in _ ⟨by omega, by omega⟩
              have HMx := Lib.hid (HM2.out j x hx wr)
              clear hx
              go_wp2_with fail
              refine HMx.out.mono ?_
              rintro e w5 ⟨rfl, rfl⟩
              go_wp2
              go_roundw
              case rel => exact ⟨j + 1, by omega, by go_num, by first | rfl | trivial⟩
              case measure => simp [intOf]; omega
            · have hlt' : ¬ (j : Int) < (k : Int) := by omega
              clear HA3 HM2
              go_wp2_with fail
              refine (N1.out _).mono ?_
              rintro e w5 ⟨a5, c5, rfl, hg5⟩
              have HG5 := Lib.hid (grown_trans HG3.out hg5)
              clear hg5 HG3 N1
              go_wp2_with fail
              refine (N2.out _).mono ?_
              rintro e w6 ⟨a6, c6, rfl, hg6⟩
              have HG6 := Lib.hid (grown_trans HG5.out hg6)
              clear hg6 HG5 N2
              go_wp2_with fail
              refine (N3.out _).mono ?_
              rintro e w7 ⟨a7, c7, rfl, hg7⟩
              have HG7 := Lib.hid (grown_trans HG6.out hg7)
              clear hg7 HG6 N3
              go_wp2_with fail
              refine (HWk.out _).mono ?_
              rintro e w9 ⟨rfl, hg9⟩
              go_wp2
              go_ret
              exact ⟨rfl, grown_trans HG7.out hg9⟩
      · have q0 : (str J).toList.isEmpty = false := by
          rw [ByteArray.toList_eq, List.isEmpty_eq_false_iff]
          exact hJ0
        obtain ⟨p1, p2, p3⟩ := split_join (L := L) (by rw [hJ]; exact hJ0)
        rw [hJ] at p1 p2 p3
        have HP := Lib.hid (show ∀ wx, Calls Try.prog 7 #[.string (str J)] wx fun e w' => ∃ v, e = .returned (.tuple #[v, .int .i64 0]) ∧ Strs w' v L ∧ wx.grownBy w' none from fun wx => (Split_any (str J) wx).mono (by
          rintro e w' ⟨v, rfl, hv, hg⟩
          rw [bytesOf_str] at hv ⊢
          rw [p2] at hv
          rw [splitE_yes p1]
          exact ⟨v, rfl, hv, hg⟩))
        obtain ⟨z, hz⟩ : ∃ z, (str J).size = z := ⟨_, rfl⟩
        have z1 : ¬ (200 : Int) < (z : Int) := by rw [size_str] at hz; omega
        clear hJ hJ0 p1 p2 p3
        go_wp2_with fail
        refine HJ2.out.mono ?_
        rintro e w0 ⟨rfl, hg0⟩
        have HG0 := Lib.hid hg0
        clear hg0 HJ2
        go_wp2_with fail
        refine (HP.out _).mono ?_
        rintro e wp ⟨v, rfl, hv, hgp⟩
        have HGp := Lib.hid (grown_trans HG0.out hgp)
        have HSp := Lib.hid (HSm.out wp v HGp.out hv)
        rw [decide_eq_true trivial] at HSp
        clear hgp hv HP HG0 HSm
        go_wp2_with fail
        refine HSp.out.mono ?_
        rintro e w1 ⟨rfl, hg1⟩
        have HG := Lib.hid (grown_trans HGp.out hg1)
        clear hg1 HSp HGp
        cases hB : splitB t with
        | false =>
          have HS2 := Lib.hid (show ∀ wx, Calls Try.prog 7 #[.string s] wx fun e w' => ∃ a c, e = .returned (.tuple #[.slice a 0 c, .int .i64 13]) ∧ wx.grownBy w' none from fun wx => (Split_any s wx).mono (by
            rintro e w' ⟨v, rfl, ⟨a, c, rfl, _⟩, hg⟩
            rw [Ht.out, splitN_no hB, splitE_no hB]
            exact ⟨a, c, rfl, hg⟩))
          clear hB
          go_wp2_with fail
          refine (HS2.out _).mono ?_
          rintro e w2 ⟨a2, c2, rfl, hg2⟩
          have HG2 := Lib.hid (grown_trans HG.out hg2)
          clear hg2 HS2 HG
          go_wp2_with fail
          refine (HWk.out _).mono ?_
          rintro e w9 ⟨rfl, hg9⟩
          go_wp2
          go_ret
          exact ⟨rfl, grown_trans HG2.out hg9⟩
        | true =>
          obtain ⟨hjs, hmy⟩ := join_split hB
          obtain ⟨hm1, hm2, hm3⟩ := split_more hB
          have hle := (split_yes hB).1
          have ht0 : t ≠ [] := by obtain ⟨_, T, e, _⟩ := split_yes hB; rw [e]; simp
          obtain ⟨M, hM⟩ : ∃ M, splitN t = M := ⟨_, rfl⟩
          have hpl : M.length ≤ 1000000 := by
            rw [← hM]
            unfold splitN
            split
            · have := (pcs_len t.tail).2
              rw [List.length_tail] at this
              omega
            · exact Nat.zero_le _
          have hxl : ∀ x ∈ M, x.length ≤ 1000000 := fun x hx => by have := (mayP_len (hmy x (by rw [hM]; exact hx))).2; omega
          rw [hM] at hjs hmy
          obtain ⟨k, hk⟩ : ∃ k, M.length = k := ⟨_, rfl⟩
          have hn : s.size = t.length := by rw [← Ht.out, length_bytesOf]
          have hst : str t = s := by rw [← Ht.out, str_bytesOf]
          have HS2 := Lib.hid (show ∀ wx, Calls Try.prog 7 #[.string s] wx fun e w' => ∃ a c, e = .returned (.tuple #[.slice a k c, .int .i64 0]) ∧ At w' a (M.map sv) ∧ wx.grownBy w' none from fun wx => (Split_any s wx).mono (by
            rintro e w' ⟨v, rfl, ⟨a, c, rfl, ha⟩, hg⟩
            rw [Ht.out, hM] at ha ⊢
            rw [splitE_yes hB, hk]
            exact ⟨a, c, rfl, ha, hg⟩))
          have HJ2 := Lib.hid (show ∀ a c wx, At wx a (M.map sv) → Calls Try.prog 10 #[.slice a k c] wx fun e w' => e = .returned (.string s) ∧ wx.grownBy w' none from fun a c wx ha => by
            have := Join_any (.slice a k c) M wx ⟨a, c, by rw [hk], ha⟩ hpl hxl
            rwa [hjs, hst] at this)
          have HM2 := Lib.hid (show ∀ i x, M[i]? = some x → ∀ wx, Calls Try.prog 12 #[.string (str x)] wx fun e w' => e = .returned (.bool true) ∧ w' = wx from fun i x hx wx => by
            have := May_any (str x) wx
            rwa [show mayN (str x) = true from hmy x (List.mem_of_getElem? hx)] at this)
          have no : ∀ {u : List UInt8}, splitB u = false → ∀ wx, Calls Try.prog 7 #[.string (str u)] wx fun e w' => ∃ a c, e = .returned (.tuple #[.slice a 0 c, .int .i64 13]) ∧ wx.grownBy w' none := fun {u} hu wx => (Split_any (str u) wx).mono (by
            rintro e w' ⟨v, rfl, ⟨a, c, rfl, _⟩, hg⟩
            rw [bytesOf_str, splitN_no hu, splitE_no hu]
            exact ⟨a, c, rfl, hg⟩)
          have N1 := Lib.hid (no hm1)
          have N2 := Lib.hid (no hm2)
          have N3 := Lib.hid (no hm3)
          have b1 : s ++ ⟨#[47]⟩ = str (t ++ [47]) := by rw [← hst]; exact append_str t [47]
          have b2 : (⟨#[47]⟩ : ByteArray) ++ s = str (47 :: t) := by rw [← hst]; exact append_str [47] t
          have b3 : s.extract 1 n = str t.tail := by
            rw [← hst, extract_str]
            congr 1
            rw [List.drop_one]
            exact List.take_of_length_le (by rw [List.length_tail]; omega)
          have hn0 : t.length ≠ 0 := by simpa using ht0
          have n1 : ¬ (n : Int) < 1 := by omega
          have n2 : (1 : Int) ≤ (n : Int) := by omega
          have n3 : ¬ 9223372036854775807 < n + 1 := by omega
          have n4 : ¬ 9223372036854775807 < 1 + n := by omega
          have n5 : (n : Int) ≤ 200 := by omega
          have qs : (s.toList == s.toList) = true := by simp
          have Hk := Lib.hid hk
          have k7 : (k : Int) ≤ 1000000 := by omega
          clear hB hjs hmy hm1 hm2 hm3 hle ht0 hM hpl hxl hn hst no hn0 hk
          go_wp2_with fail
          refine (HS2.out _).mono ?_
          rintro e w2 ⟨a2, c2, rfl, ha2, hg2⟩
          have HG2 := Lib.hid (grown_trans HG.out hg2)
          have HJ3 := Lib.hid (HJ2.out a2 c2 w2 ha2)
          have HA2 := Lib.hid ha2
          clear hg2 HS2 HG ha2 HJ2
          go_wp2_with fail
          refine HJ3.out.mono ?_
          rintro e w3 ⟨rfl, hg3⟩
          have HG3 := Lib.hid (grown_trans HG2.out hg3)
          have HA3 := Lib.hid (HA2.out.grown hg3 (by intro _ _ _ e; cases e))
          clear hg3 HJ3 HG2 HA2
          go_wp2_with fail
          go_loopw [13] (fun i wr => ∃ j : Nat, j ≤ k ∧ i = .int .i64 (j : Int) ∧ wr = w3) (fun i _ => k - (intOf i).toNat)
          case atStart => exact ⟨0, Nat.zero_le _, rfl, rfl⟩
          case round =>
            obtain ⟨j, hj, rfl, rfl⟩ := hrel
            have j0 : (0 : Int) ≤ (j : Int) := by omega
            by_cases hlt : j < k
            · have hlt' : (j : Int) < (k : Int) := by omega
              obtain ⟨x, hx⟩ : ∃ x, M[j]? = some x := ⟨_, List.getElem?_eq_getElem (by have := Hk.out; omega)⟩
              obtain ⟨g, o, rfl, hc⟩ := Strs.cell HA3.out hx
              have wj : IntKind.i64.wrap ((j : Int) + 1) = (j : Int) + 1 := IntWalk.i64_in _ ⟨by omega, by omega⟩
              have HMx := Lib.hid (HM2.out j x hx wr)
              clear hx
              go_wp2_with fail
              refine HMx.out.mono ?_
              rintro e w5 ⟨rfl, rfl⟩
              go_wp2
              go_roundw
              case rel => exact ⟨j + 1, by omega, by go_num, by first | rfl | trivial⟩
              case measure => simp [intOf]; omega
            · have hlt' : ¬ (j : Int) < (k : Int) := by omega
              clear HA3 HM2
              go_wp2_with fail
              refine (N1.out _).mono ?_
              rintro e w5 ⟨a5, c5, rfl, hg5⟩
              have HG5 := Lib.hid (grown_trans HG3.out hg5)
              clear hg5 HG3 N1
              go_wp2_with fail
              refine (N2.out _).mono ?_
              rintro e w6 ⟨a6, c6, rfl, hg6⟩
              have HG6 := Lib.hid (grown_trans HG5.out hg6)
              clear hg6 HG5 N2
              go_wp2_with fail
              refine (N3.out _).mono ?_
              rintro e w7 ⟨a7, c7, rfl, hg7⟩
              have HG7 := Lib.hid (grown_trans HG6.out hg7)
              clear hg7 HG6 N3
              go_wp2_with fail
              refine (HWk.out _).mono ?_
              rintro e w9 ⟨rfl, hg9⟩
              go_wp2
              go_ret
              exact ⟨rfl, grown_trans HG7.out hg9⟩

theorem walk (s : ByteArray) (ad : Option Addr) (m cap : Nat) (L : List (List UInt8)) (at_ : Int) (w : World) (_ : s.size ≤ 140737488351232) (hL : NamesIn w ad m L) (_ : (Lit.int .u8 at_).wf = true) :
    Calls Try.prog 4 #[.string s, .slice ad m cap, .int .u8 at_] w (Go.Ev.WorksIs w) := walk_at s ad m cap L at_ w hL
end Go.Proofs.Ytljcmlcdamlbcaa.pathBack
