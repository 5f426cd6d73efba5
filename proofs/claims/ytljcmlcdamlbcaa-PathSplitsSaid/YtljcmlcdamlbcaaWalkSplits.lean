/- PathSplits, walked. -/
import Derived.Test.YtljcmlcdamlbcaaPatSp
import Derived.Test.YtljcmlcdamlbcaaPatSr
import Derived.Test.YtljcmlcdamlbcaaPatSame
import Derived.Test.YtljcmlcdamlbcaaPatJo
import Derived.Test.YtljcmlcdamlbcaaPatJr
import Derived.Test.YtljcmlcdamlbcaaOpenNames
import Derived.Test.YtljcmlcdamlbcaaWorks
namespace Go.Proofs.Ytljcmlcdamlbcaa.pathSplits
open Go.RowKit Go.Grommet Go.Ev

set_option maxRecDepth 100000 in
set_option maxHeartbeats 2000000 in
theorem walk_at (s : ByteArray) (ad : Option Addr) (m cap : Nat) (L : List (List UInt8)) (w : World) (hL : NamesIn w ad m L) :
    Calls Try.prog 3 #[.string s, .slice ad m cap] w (Go.Ev.WorksIs w) := by
  have HWk := Lib.hid (fun wx => works_ev wx)
  obtain ⟨n, hn⟩ : ∃ n, s.size = n := ⟨_, rfl⟩
  by_cases h1 : 1000 < n
  · have h1' : (1000 : Int) < (n : Int) := by omega
    go_enter Try.func3, Try.ntmps3
    go_wp2_with fail
    refine (HWk.out _).mono ?_
    rintro e w9 ⟨rfl, hg9⟩
    go_wp2
    go_ret
    exact ⟨rfl, hg9⟩
  have h1' : ¬ (1000 : Int) < (n : Int) := by omega
  by_cases h2 : 300 < m
  · have h2' : (300 : Int) < (m : Int) := by omega
    go_enter Try.func3, Try.ntmps3
    go_wp2_with fail
    refine (HWk.out _).mono ?_
    rintro e w9 ⟨rfl, hg9⟩
    go_wp2
    go_ret
    exact ⟨rfl, hg9⟩
  have h2' : ¬ (300 : Int) < (m : Int) := by omega
  have HA := Lib.hid hL
  have HS := Lib.hid (fun wx => Split_any s wx)
  have HR := Lib.hid (fun wx => RSplit_any s wx)
  have HJ := Lib.hid (fun (hx : ∀ x ∈ L, x.length ≤ 300) wx (hg : w.grownBy wx none) => Join_any (.slice ad m cap) L wx ((hL.strs cap).quiet hg) (by have := hL.1; omega) (fun x h => by have := hx x h; omega))
  have HK := Lib.hid (fun (hx : ∀ x ∈ L, x.length ≤ 300) wx (hg : w.grownBy wx none) => RJoin_any (.slice ad m cap) L wx ((hL.strs cap).quiet hg) (by have := hL.1; omega) (fun x h => by have := hx x h; omega))
  have Hm := Lib.hid hL.1
  have Hsp := Lib.hid (show (splitN (bytesOf s)).length ≤ 1000000 from by
    unfold splitN
    split
    · have := (pcs_len (bytesOf s).tail).2
      rw [List.length_tail, length_bytesOf] at this
      omega
    · exact Nat.zero_le _)
  clear hL
  go_enter Try.func3, Try.ntmps3
  go_wp2_with fail
  go_loopw [5] (fun i wr => ∃ k : Nat, k ≤ m ∧ i = .int .i64 (k : Int) ∧ Hid (∀ x ∈ L.take k, x.length ≤ 300) ∧ wr = w) (fun i _ => m - (intOf i).toNat)
  case atStart => exact ⟨0, Nat.zero_le _, rfl, Lib.hid (by simp), rfl⟩
  case round =>
    obtain ⟨k, hk, rfl, hI, rfl⟩ := hrel
    have k0 : (0 : Int) ≤ (k : Int) := by omega
    by_cases hlt : k < m
    · have hlt' : (k : Int) < (m : Int) := by omega
      obtain ⟨x, hx⟩ : ∃ x, L[k]? = some x := ⟨_, List.getElem?_eq_getElem (by have := Hm.out; omega)⟩
      obtain ⟨g, o, rfl, hc⟩ := Strs.cell HA.out.2 hx
      have wk : IntKind.i64.wrap ((k : Int) + 1) = (k : Int) + 1 := IntWalk.i64_in _ ⟨by omega, by omega⟩
      obtain ⟨z, hz⟩ : ∃ z, (str x).size = z := ⟨_, rfl⟩
      by_cases hl : 300 < z
      · have hl' : (300 : Int) < (z : Int) := by omega
        go_wp2_with fail
        refine (HWk.out _).mono ?_
        rintro e w9 ⟨rfl, hg9⟩
        go_wp2
        go_ret
        exact ⟨rfl, hg9⟩
      · have hl' : ¬ (300 : Int) < (z : Int) := by omega
        have hI2 : Hid (∀ y ∈ L.take (k + 1), y.length ≤ 300) := Lib.hid (fun y hy => by
          rw [List.take_add_one, hx] at hy
          rcases List.mem_append.1 hy with hy | hy
          · exact hI.out y hy
          · rw [show y = x from by simpa using hy, ← size_str, hz]; omega)
        clear hx
        go_wp2
        go_roundw
        case rel => exact ⟨k + 1, by omega, by go_num, hI2, by first | rfl | trivial⟩
        case measure => simp [intOf]; omega
    · have hlt' : ¬ (k : Int) < (m : Int) := by omega
      have hall : ∀ x ∈ L, x.length ≤ 300 := by
        have h := hI.out
        rwa [List.take_of_length_le (by have := Hm.out; omega)] at h
      have HJ2 := Lib.hid (HJ.out hall)
      have HK2 := Lib.hid (HK.out hall)
      clear HJ HK hall hI HA
      go_wp2_with fail
      refine (HS.out _).mono ?_
      rintro e w1 ⟨v1, rfl, hv1, hg1⟩
      have HV1 := Lib.hid (And.intro hv1 hg1)
      clear hv1 hg1 HS
      go_wp2_with fail
      refine (HR.out _).mono ?_
      rintro e w2 ⟨v2, rfl, hv2, hg2⟩
      have HSm := Lib.hid (Same_any w2 v1 v2 _ _ (HV1.out.1.quiet hg2) hv2 Hsp.out)
      rw [decide_eq_true rfl] at HSm
      have HG2 := Lib.hid (grown_trans HV1.out.2 hg2)
      obtain ⟨E, hE⟩ : ∃ E, splitE (bytesOf s) = E := ⟨_, rfl⟩
      rw [hE]
      have eE : (E == E) = true := by simp
      clear hv2 hg2 HR HV1 hE
      go_wp2_with fail
      refine HSm.out.mono ?_
      rintro e w3 ⟨rfl, hg3⟩
      have HG3 := Lib.hid (grown_trans HG2.out hg3)
      have HJ3 := Lib.hid (HJ2.out w3 HG3.out)
      clear hg3 HSm HG2 HJ2
      go_wp2_with fail
      refine HJ3.out.mono ?_
      rintro e w4 ⟨rfl, hg4⟩
      have HG4 := Lib.hid (grown_trans HG3.out hg4)
      have HK4 := Lib.hid (HK2.out w4 HG4.out)
      clear hg4 HJ3 HG3 HK2
      go_wp2_with fail
      refine HK4.out.mono ?_
      rintro e w5 ⟨rfl, hg5⟩
      have HG5 := Lib.hid (grown_trans HG4.out hg5)
      have qq : ((str (joinL L)).toList == (str (joinL L)).toList) = true := by simp
      clear hg5 HK4 HG4
      go_wp2_with fail
      refine (HWk.out _).mono ?_
      rintro e w9 ⟨rfl, hg9⟩
      go_wp2
      go_ret
      exact ⟨rfl, grown_trans HG5.out hg9⟩

theorem walk (s : ByteArray) (ad : Option Addr) (m cap : Nat) (L : List (List UInt8)) (w : World) (_ : s.size ≤ 140737488351232) (hL : NamesIn w ad m L) :
    Calls Try.prog 3 #[.string s, .slice ad m cap] w (Go.Ev.WorksIs w) := walk_at s ad m cap L w hL
end Go.Proofs.Ytljcmlcdamlbcaa.pathSplits
