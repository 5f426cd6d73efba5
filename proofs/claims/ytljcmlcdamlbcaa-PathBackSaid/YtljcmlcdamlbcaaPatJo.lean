/- path.Join of any names. -/
import Derived.Test.YtljcmlcdamlbcaaBldS
import Derived.Test.YtljcmlcdamlbcaaPatMath
namespace Go.Proofs.Ytljcmlcdamlbcaa
open Go.RowKit Go.Grommet

set_option maxRecDepth 100000 in
set_option maxHeartbeats 2000000 in
theorem Join_any (v : Value) (L : List (List UInt8)) (w : World) (hL : Strs w v L) (hs : L.length ≤ 1000000) (hx : ∀ x ∈ L, x.length ≤ 1000000) :
    Calls Try.prog 10 #[v] w fun e w' => e = .returned (.string (str (joinL L))) ∧ w.grownBy w' none := by
  obtain ⟨ad, cap, rfl, ha⟩ := hL
  have HM := Lib.hid (fun (x : List UInt8) wx => May_any (str x) wx)
  have HL := Lib.hid hx
  obtain ⟨V, hV⟩ : ∃ V, Hid (joinL L = V) := ⟨_, Lib.hid rfl⟩
  rw [hV.out]
  obtain ⟨m, hm⟩ : ∃ m, L.length = m := ⟨_, rfl⟩
  have Hm := Lib.hid hm
  rw [hm] at hs ⊢
  by_cases h0 : m = 0
  · have hv : V = [47] := by rw [← hV.out, List.eq_nil_of_length_eq_zero (hm.trans h0)]; rfl
    subst hv
    subst h0
    clear ha hm hx hV Hm
    go_enter Try.func10, Try.ntmps10
    go_wp2
    go_ret
    exact ⟨rfl, World.grownBy.refl _ _⟩
  have m0 : ((m : Int) == 0) = false := by simpa using h0
  have hne : L ≠ [] := by intro e; rw [e] at hm; exact h0 (by rw [← hm]; rfl)
  have HA := Lib.hid (fun wx (hT : Turn (FromB w.heap.size) w wx) => hT.at ha (fun a e hn => by have := old_block ha hn a e; unfold FromB; omega))
  have Hne := Lib.hid hne
  clear ha hm hx hne
  go_enter Try.func10, Try.ntmps10
  go_wp2_with fail
  obtain ⟨B, HB⟩ : ∃ B, Hid (B = w.heap.size) := ⟨_, Lib.hid rfl⟩
  have hst0 : BldT B [] (w.alloc (.cells #[.pointer none, .slice none 0 0] 53)) := ⟨_, .inl rfl, none, 0, by rw [HB.out]; exact heap_alloc_new w _, ⟨rfl, .inl ⟨rfl, rfl⟩⟩⟩
  rw [← HB.out] at HA
  rw [← HB.out]
  go_loopw [11] (fun i wr => ∃ j : Nat, j ≤ m ∧ i = .int .i64 (j : Int) ∧ Hid (BldT B (cat (L.take j)) wr ∧ Turn (FromB B) w wr) ∧ Hid ((cat (L.take j)).length ≤ 200 ∧ ∀ x ∈ L.take j, mayP x = true)) (fun i _ => m - (intOf i).toNat)
  case atStart => exact ⟨0, by omega, rfl, Lib.hid ⟨by rw [List.take_zero]; exact hst0, Turn.of (World.grownBy_alloc w _ none) (by simp)⟩, Lib.hid ⟨by rw [List.take_zero]; exact Nat.zero_le _, by simp⟩⟩
  case round =>
    clear hst0
    obtain ⟨j, hj, rfl, hO, hI⟩ := hrel
    have j0 : (0 : Int) ≤ (j : Int) := by omega
    by_cases hlt : j < m
    · have hlt' : (j : Int) < (m : Int) := by omega
      obtain ⟨x, hx⟩ : ∃ x, L[j]? = some x := ⟨_, List.getElem?_eq_getElem (by have := Hm.out; omega)⟩
      obtain ⟨g, o, rfl, hc⟩ := Strs.cell (HA.out wr hO.out.2) hx
      have wj : IntKind.i64.wrap ((j : Int) + 1) = (j : Int) + 1 := IntWalk.i64_in _ ⟨by omega, by omega⟩
      have HMx := Lib.hid (HM.out x wr)
      rw [show mayN (str x) = mayP x from rfl] at HMx
      have Hxl := Lib.hid (HL.out x (List.mem_of_getElem? hx))
      cases hmx : mayP x with
      | false =>
        rw [hmx] at HMx
        have hv : V = [] := by rw [← hV.out]; exact join_may hx hmx
        subst hv
        have hT := hO.out.2
        have hG := Lib.hid (hT.none (fun i hi => by unfold FromB at hi; have := HB.out; omega))
        clear hT hx hmx
        go_wp2_with fail
        refine HMx.out.mono ?_
        rintro e w1 ⟨rfl, rfl⟩
        go_wp2
        go_ret
        exact ⟨rfl, hG.out⟩
      | true =>
        rw [hmx] at HMx
        obtain ⟨bs, hbs⟩ : ∃ bs, cat (L.take j) = bs := ⟨_, rfl⟩
        have hcat := cat_take hx
        rw [hbs] at hcat
        rw [hbs] at hO hI
        have hsz : (str x).size = x.length := size_str x
        obtain ⟨z, hz⟩ : ∃ z, x.length = z := ⟨_, rfl⟩
        obtain ⟨n, hn⟩ : ∃ n, bs.length = n := ⟨_, rfl⟩
        rw [hz] at hsz
        have hLen := Lib.hid (Len_any B bs.length wr hO.out.1.st)
        rw [hn] at hLen
        have hn200 := hI.out.1
        have hzz := Hxl.out
        rw [hn] at hn200
        rw [hz] at hzz
        have w1 : IntKind.i64.wrap ((n : Int) + 1) = (n : Int) + 1 := IntWalk.i64_in _ ⟨by omega, by omega⟩
        have w2 : IntKind.i64.wrap ((n : Int) + 1 + (z : Int)) = (n : Int) + 1 + (z : Int) := IntWalk.i64_in _ ⟨by omega, by omega⟩
        by_cases hlong : 200 < n + 1 + z
        · have hlong' : (200 : Int) < (n : Int) + 1 + (z : Int) := by omega
          have hv : V = [] := by rw [← hV.out]; exact join_long hx (by rw [hbs, hn, hz]; exact hlong)
          subst hv
          have hT := hO.out.2
          have hG := Lib.hid (hT.none (fun i hi => by unfold FromB at hi; have := HB.out; omega))
          clear hT hx hmx hcat hbs hI
          go_wp2_with fail
          refine HMx.out.mono ?_
          rintro e w5 ⟨rfl, rfl⟩
          go_wp2_with fail
          refine hLen.out.mono ?_
          rintro e w5 ⟨rfl, rfl⟩
          go_wp2
          go_ret
          exact ⟨rfl, hG.out⟩
        · have hlong' : ¬ (200 : Int) < (n : Int) + 1 + (z : Int) := by omega
          have hWB := Lib.hid (WriteByte_bytes B bs 47 wr hO.out.1 (by omega))
          rw [show ((47 : UInt8).toNat : Int) = 47 from rfl] at hWB
          have hWS := Lib.hid (fun wx (h : BldT B (bs ++ [47]) wx) => WriteString_bytes B (bs ++ [47]) (str x) wx h (by rw [List.length_append, List.length_singleton, hn]; omega) (by rw [hsz]; omega))
          have hI2 := Lib.hid (show (cat (L.take (j + 1))).length ≤ 200 ∧ (∀ x ∈ L.take (j + 1), mayP x = true) ∧ (bs ++ [47]) ++ bytesOf (str x) = cat (L.take (j + 1)) from by
            refine ⟨by rw [hcat, List.length_append, List.length_cons, hn, hz]; omega, fun y hy => ?_, by rw [hcat, List.append_assoc]; rfl⟩
            rw [List.take_add_one, hx] at hy
            rcases List.mem_append.1 hy with hy | hy
            · exact hI.out.2 y hy
            · rw [show y = x from by simpa using hy]; exact hmx)
          have hT0 := Lib.hid hO.out.2
          have HAx := Lib.hid (fun wx hT => Strs.cell (HA.out wx hT) hx)
          clear hx hmx hcat hbs hI hO hn
          go_wp2_with fail
          refine HMx.out.mono ?_
          rintro e w5 ⟨rfl, rfl⟩
          go_wp2_with fail
          refine hLen.out.mono ?_
          rintro e w5 ⟨rfl, rfl⟩
          go_wp2_with fail
          refine hWB.out.mono ?_
          rintro e w6 ⟨rfl, hB6, hT6⟩
          have hWS6 := Lib.hid (hWS.out w6 hB6)
          have hT6' := Lib.hid (hT0.out.trans hT6 (fun i h => .inl h))
          clear hWB hWS hB6 hT6 hT0 hLen
          go_wp2_with fail
          refine hWS6.out.mono ?_
          rintro e w7 ⟨rfl, hB7, hT7⟩
          rw [hI2.out.2.2] at hB7
          have hO7 := Lib.hid (And.intro hB7 (hT6'.out.trans hT7 (fun i h => .inl h)))
          clear hWS6 hB7 hT7 hT6'
          go_wp2
          go_roundw
          case rel => exact ⟨j + 1, by omega, by go_num, hO7, Lib.hid ⟨hI2.out.1, hI2.out.2.1⟩⟩
          case measure => simp [intOf]; omega
    · have hlt' : ¬ (j : Int) < (m : Int) := by omega
      obtain rfl : j = m := by omega
      have ht : L.take j = L := List.take_of_length_le (by have := Hm.out; omega)
      rw [ht] at hO hI
      have hj' := join_done Hne.out hI.out.2 hI.out.1
      have hcne : cat L ≠ [] := by
        obtain ⟨y, M, rfl⟩ := List.exists_cons_of_ne_nil Hne.out
        rw [cat]; simp
      have hS := Lib.hid (String_bytes B (cat L) wr hO.out.1 hcne)
      rw [← hj', hV.out] at hS
      have hT0 := Lib.hid hO.out.2
      clear ht hj' hcne hO hI
      go_wp2_with fail
      refine hS.out.mono ?_
      rintro e w6 ⟨rfl, hT6⟩
      have hG := Lib.hid ((hT0.out.trans hT6 (fun i h => .inl h)).none (fun i hi => by unfold FromB at hi; have := HB.out; omega))
      clear hT6
      go_wp2
      go_ret
      exact ⟨rfl, hG.out⟩
end Go.Proofs.Ytljcmlcdamlbcaa
