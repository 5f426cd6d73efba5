/- The document's Join of any names. -/
import Derived.Test.YtljcmlcdamlbcaaPatMay
namespace Go.Proofs.Ytljcmlcdamlbcaa
open Go.RowKit Go.Grommet

set_option maxRecDepth 100000 in
set_option maxHeartbeats 2000000 in
theorem RJoin_any (v : Value) (L : List (List UInt8)) (w : World) (hL : Strs w v L) (hs : L.length ≤ 1000000) (hx : ∀ x ∈ L, x.length ≤ 1000000) :
    Calls Try.prog 11 #[v] w fun e w' => e = .returned (.string (str (joinL L))) ∧ w.grownBy w' none := by
  obtain ⟨ad, cap, rfl, ha⟩ := hL
  have HM := Lib.hid (fun (x : List UInt8) wx => RMay_any (str x) wx)
  have HL := Lib.hid hx
  obtain ⟨V, hV⟩ : ∃ V, Hid (joinL L = V) := ⟨_, Lib.hid rfl⟩
  rw [hV.out]
  obtain ⟨m, hm⟩ : ∃ m, L.length = m := ⟨_, rfl⟩
  have Hm := Lib.hid hm
  rw [hm] at hs ⊢
  by_cases h0 : m = 0
  · have hv : V = [47] := by rw [← hV.out, List.eq_nil_of_length_eq_zero (hm.trans h0)]; rfl
    subst hv
    subst h0
    clear ha hm hx hV Hm
    go_enter Try.func11, Try.ntmps11
    go_wp2
    go_ret
    exact ⟨rfl, World.grownBy.refl _ _⟩
  have m0 : ((m : Int) == 0) = false := by simpa using h0
  have hne : L ≠ [] := by intro e; rw [e] at hm; exact h0 (by rw [← hm]; rfl)
  have HA := Lib.hid ha
  have Hne := Lib.hid hne
  clear ha hm hx hne
  go_enter Try.func11, Try.ntmps11
  go_wp2_with fail
  go_loopw [3, 4] (fun s i wr => ∃ (j : Nat) (bs : List UInt8), j ≤ m ∧ s = .string (str bs) ∧ i = .int .i64 (j : Int) ∧ Hid (cat (L.take j) = bs) ∧ Hid (bs.length ≤ 200 ∧ ∀ x ∈ L.take j, mayP x = true) ∧ wr = w) (fun _ i _ => m - (intOf i).toNat)
  case atStart => exact ⟨0, [], by omega, rfl, rfl, Lib.hid (by rw [List.take_zero]; rfl), Lib.hid ⟨Nat.zero_le _, by simp⟩, rfl⟩
  case round =>
    obtain ⟨j, bs, hj, rfl, rfl, hbs, hI, rfl⟩ := hrel
    have j0 : (0 : Int) ≤ (j : Int) := by omega
    by_cases hlt : j < m
    · have hlt' : (j : Int) < (m : Int) := by omega
      obtain ⟨x, hx⟩ : ∃ x, L[j]? = some x := ⟨_, List.getElem?_eq_getElem (by have := Hm.out; omega)⟩
      obtain ⟨g, o, rfl, hc⟩ := Strs.cell HA.out hx
      have wj : IntKind.i64.wrap ((j : Int) + 1) = (j : Int) + 1 := IntWalk.i64_in _ ⟨by omega, by omega⟩
      have HMx := Lib.hid (HM.out x wr)
      rw [show mayN (str x) = mayP x from rfl] at HMx
      have Hxl := Lib.hid (HL.out x (List.mem_of_getElem? hx))
      cases hmx : mayP x with
      | false =>
        rw [hmx] at HMx
        have hv : V = [] := by rw [← hV.out]; exact join_may hx hmx
        subst hv
        clear hx hmx
        go_wp2_with fail
        refine HMx.out.mono ?_
        rintro e w1 ⟨rfl, rfl⟩
        go_wp2
        go_ret
        exact ⟨rfl, World.grownBy.refl _ _⟩
      | true =>
        rw [hmx] at HMx
        have hcat := cat_take hx
        rw [hbs.out] at hcat
        obtain ⟨cs, hcs⟩ : ∃ cs, bs ++ 47 :: x = cs := ⟨_, rfl⟩
        rw [hcs] at hcat
        have a1 : str bs ++ ⟨#[47]⟩ = str (bs ++ [47]) := append_str bs [47]
        have a2 : str (bs ++ [47]) ++ str x = str cs := by rw [append_str, List.append_assoc, ← hcs]; rfl
        obtain ⟨z, hz⟩ : ∃ z, cs.length = z := ⟨_, rfl⟩
        have hsz : (str cs).size = z := by rw [size_str, hz]
        have l1 : ¬ 9223372036854775807 < (str bs).size + 1 := by rw [size_str]; have := hI.out.1; omega
        have l2 : ¬ 9223372036854775807 < (str (bs ++ [47])).size + (str x).size := by rw [size_str, size_str, List.length_append, List.length_singleton]; have := hI.out.1; have := Hxl.out; omega
        by_cases hlong : 200 < z
        · have hlong' : (200 : Int) < (z : Int) := by omega
          have hv : V = [] := by
            rw [← hV.out]
            refine join_long hx ?_
            rw [hbs.out]
            rw [← hz, ← hcs, List.length_append, List.length_cons] at hlong
            omega
          subst hv
          clear hx hmx hcat hcs hI hz
          go_wp2_with fail
          refine HMx.out.mono ?_
          rintro e w5 ⟨rfl, rfl⟩
          go_wp2
          go_ret
          exact ⟨rfl, World.grownBy.refl _ _⟩
        · have hlong' : ¬ (200 : Int) < (z : Int) := by omega
          have hI2 := Lib.hid (show cs.length ≤ 200 ∧ (∀ x ∈ L.take (j + 1), mayP x = true) from by
            refine ⟨by omega, fun y hy => ?_⟩
            rw [List.take_add_one, hx] at hy
            rcases List.mem_append.1 hy with hy | hy
            · exact hI.out.2 y hy
            · rw [show y = x from by simpa using hy]; exact hmx)
          have hcat := Lib.hid hcat
          clear hx hmx hcs hI hz
          go_wp2_with fail
          refine HMx.out.mono ?_
          rintro e w5 ⟨rfl, rfl⟩
          go_wp2
          go_roundw
          case rel => exact ⟨j + 1, cs, by omega, by go_num, by go_num, hcat, hI2, by first | rfl | trivial⟩
          case measure => simp [intOf]; omega
    · have hlt' : ¬ (j : Int) < (m : Int) := by omega
      obtain rfl : j = m := by omega
      have ht : L.take j = L := List.take_of_length_le (by have := Hm.out; omega)
      have hb2 := hbs.out
      rw [ht] at hI hb2
      have hj' := join_done Hne.out hI.out.2 (by rw [hb2]; exact hI.out.1)
      rw [hV.out, hb2] at hj'
      subst hj'
      clear ht hI
      go_wp2
      go_ret
      exact ⟨rfl, World.grownBy.refl _ _⟩
end Go.Proofs.Ytljcmlcdamlbcaa
