/- Package slot: words that are set later, in order. -/
import Derived.Test.YtdpkpphjpihhkaaSloH
namespace Go.Proofs.Ytdpkpphjpihhkaa
open Go.RowKit Go.Grommet

/-- A word to be set later. -/
def fv (b : Nat) : Value := .func (.func 74) #[] #[.pointer (some ⟨b, 0, none⟩), .pointer (some ⟨b + 1, 0, none⟩), .pointer (some ⟨b + 2, 0, none⟩)]
def closP (b g : Nat) (a : Int) (v : Nat) : Pr where
  holds w F := (w.heap[b]? = some (.cells #[.pointer (some ⟨g, 0, none⟩)] 32 (0, 0)) ∧ w.heap[b + 1]? = some (.cells #[.int .i64 a] 3 (0, 0)) ∧ w.heap[b + 2]? = some (.cells #[.int .u64 (v : Int)] 36 (0, 0))) ∧ F b ∧ F (b + 1) ∧ F (b + 2) ∧ ∀ i, F i → i < w.heap.size
  turn := fun h ht hn => ⟨⟨ht.obj h.1.1 (hn _ h.2.1), ht.obj h.1.2.1 (hn _ h.2.2.1), ht.obj h.1.2.2 (hn _ h.2.2.2.1)⟩, h.2.1, h.2.2.1, h.2.2.2.1, fun i hi => Nat.lt_of_lt_of_le (h.2.2.2.2 i hi) ht.size⟩
  old := fun h => h.2.2.2.2

set_option maxRecDepth 100000 in
set_option maxHeartbeats 1000000 in
theorem setH (g : Nat) (a : Int) (v : Nat) (w0 w : World) (Ps : List Pr) (h : Own w0 w Ps) :
    Calls Try.prog 49 #[.pointer (some ⟨g, 0, none⟩), .int .i64 a, .int .u64 (v : Int)] w fun e w' => ∃ b, e = .returned (fv b) ∧ Own w0 w' (Ps ++ [closP b g a v]) := by
  have H : Own w0 (((w.alloc (.cells #[.pointer (some ⟨g, 0, none⟩)] 32)).alloc (.cells #[.int .i64 a] 3)).alloc (.cells #[.int .u64 (v : Int)] 36)) (Ps ++ [closP w.heap.size g a v]) := by
    refine h.add (P := closP w.heap.size g a v) (F := fun i => i = w.heap.size ∨ i = w.heap.size + 1 ∨ i = w.heap.size + 2) ⟨⟨?_, ?_, ?_⟩, .inl rfl, .inr (.inl rfl), .inr (.inr rfl), ?_⟩ (fun i hi => by omega) (grown_trans (grown_alloc2 w _ _) (World.grownBy_alloc _ _ none))
    · exact ((World.grownBy_alloc _ _ none).block _ (by simp; omega) (by simp)).trans (((World.grownBy_alloc _ _ none).block _ (by simp) (by simp)).trans (heap_alloc_new w _))
    · exact ((World.grownBy_alloc _ _ none).block _ (by simp) (by simp)).trans (heap_alloc_new2 w _ _)
    · have := heap_alloc_new ((w.alloc (.cells #[.pointer (some ⟨g, 0, none⟩)] 32)).alloc (.cells #[.int .i64 a] 3)) (.cells #[.int .u64 (v : Int)] 36)
      rw [World.size_alloc, World.size_alloc] at this
      exact this
    · intro i hi; simp; omega
  replace H := Lib.hid H
  clear h
  go_enter Try.func49, Try.ntmps49
  go_wp2
  go_ret
  exact ⟨w.heap.size, rfl, H.out⟩

set_option maxRecDepth 100000 in
set_option maxHeartbeats 1000000 in
theorem set1H (k m g b : Nat) (xs : List Nat) (L : List (Nat × Nat)) (a : Int) (v : Nat) (w0 w : World) (Ps : List Pr) (h : Own w0 w Ps) (hk : Ps[k]? = some (viewP g xs L)) (hm : Ps[m]? = some (closP b g a v)) (hv : v < 18446744073709551616) :
    Calls Try.prog 74 #[.pointer (some ⟨b, 0, none⟩), .pointer (some ⟨b + 1, 0, none⟩), .pointer (some ⟨b + 2, 0, none⟩)] w fun e w' => e = .returned (.int .i64 (setE xs L a v : Int)) ∧ Own w0 w' (Ps.set k (viewP g xs (setL xs L a v))) := by
  have HS := Lib.hid (SetH k g xs L a v _ w0 w Ps _ h hk hv rfl rfl)
  obtain ⟨F, ⟨h1, h2, h3⟩, _⟩ := h.get m hm
  generalize setE xs L a v = E at HS
  generalize Ps.set k (viewP g xs (setL xs L a v)) = Qs at HS
  have c1 : w.cell? ⟨b, 0, none⟩ = some (.pointer (some ⟨g, 0, none⟩)) := by simp [World.cell?, h1]
  have c2 : w.cell? ⟨b + 1, 0, none⟩ = some (.int .i64 a) := by simp [World.cell?, h2]
  have c3 : w.cell? ⟨b + 2, 0, none⟩ = some (.int .u64 (v : Int)) := by simp [World.cell?, h3]
  clear h hk hm hv h1 h2 h3
  go_enter Try.func74, Try.ntmps74
  go_wp2_with fail
  refine HS.out.mono ?_
  rintro e w1 ⟨rfl, hO⟩
  go_wp2
  go_ret
  exact ⟨rfl, hO⟩

set_option maxRecDepth 100000 in
set_option maxHeartbeats 2000000 in
/-- All of them, one behind the other, up to the first error. -/
theorem inOrderH (k r g : Nat) (xs : List Nat) (L : List (Nat × Nat)) (S : List (Int × Nat)) (bs : List Nat) (ad : Option Addr) (n cap : Nat) (w0 w : World) (Ps : List Pr) (h : Own w0 w Ps) (hk : Ps[k]? = some (viewP g xs L)) (hr : Ps[r]? = some (rowP 105 1 (.slice ad n cap) n (bs.map fv))) (hrk : r ≠ k) (hbl : bs.length = n) (hSl : S.length = n) (hn : n ≤ 1000000)
    (hc : ∀ j, j < n → ∃ m, m ≠ k ∧ Ps[m]? = some (closP (bs.getD j 0) g (S.getD j (0, 0)).1 (S.getD j (0, 0)).2)) (hv : ∀ j, j < n → (S.getD j (0, 0)).2 < 18446744073709551616) :
    Calls Try.prog 51 #[.slice ad n cap] w fun e w' => e = .returned (.int .i64 (allE xs L S : Int)) ∧ Own w0 w' (Ps.set k (viewP g xs (allL xs L S))) := by
  have hkl := (List.getElem?_eq_some_iff.1 hk).1
  have hQs : Ps.set k (viewP g xs L) = Ps := by
    apply List.ext_getElem?
    intro i
    by_cases hi : i = k
    · subst hi; rw [List.getElem?_set_self hkl, hk]
    · rw [List.getElem?_set_ne (fun e => hi e.symm)]
  have Hset := Lib.hid (fun (M : List (Nat × Nat)) (j : Nat) (hj : j < n) (wx : World) (hO : Own w0 wx (Ps.set k (viewP g xs M))) => show Calls Try.prog 74 #[.pointer (some ⟨bs.getD j 0, 0, none⟩), .pointer (some ⟨bs.getD j 0 + 1, 0, none⟩), .pointer (some ⟨bs.getD j 0 + 2, 0, none⟩)] wx fun e w' => e = .returned (.int .i64 (setE xs M (S.getD j (0, 0)).1 (S.getD j (0, 0)).2 : Int)) ∧ Own w0 w' (Ps.set k (viewP g xs (setL xs M (S.getD j (0, 0)).1 (S.getD j (0, 0)).2))) from by
    obtain ⟨m, hm1, hm2⟩ := hc j hj
    have := set1H k m g (bs.getD j 0) xs M (S.getD j (0, 0)).1 (S.getD j (0, 0)).2 w0 wx _ hO (List.getElem?_set_self hkl) (by rw [List.getElem?_set_ne (fun e => hm1 e.symm)]; exact hm2) (hv j hj)
    rw [List.set_set] at this
    exact this)
  have Hcell := Lib.hid (fun (M : List (Nat × Nat)) (j : Nat) (hj : j < n) (wx : World) (hO : Own w0 wx (Ps.set k (viewP g xs M))) => Own.cell hO r (by rw [List.getElem?_set_ne (fun e => hrk e.symm)]; exact hr) j (fv (bs.getD j 0)) (by rw [List.getElem?_map, List.getElem?_eq_getElem (by rw [hbl]; exact hj), List.getD_eq_getElem?_getD, List.getElem?_eq_getElem (by rw [hbl]; exact hj)]; rfl))
  have Htake : Hid (∀ j, j < n → S.take (j + 1) = S.take j ++ [S.getD j (0, 0)]) := Lib.hid (fun j hj => by
    rw [List.take_add_one, List.getElem?_eq_getElem (by rw [hSl]; exact hj), List.getD_eq_getElem?_getD, List.getElem?_eq_getElem (by rw [hSl]; exact hj)]; rfl)
  have Hstop : Hid (∀ j, allE xs L (S.take j) ≠ 0 → allE xs L S = allE xs L (S.take j) ∧ allL xs L S = allL xs L (S.take j)) := Lib.hid (fun j hj => by
    have := all_more xs (S.drop j) (S.take j) L hj
    rw [List.take_append_drop] at this
    exact this)
  have Hend : Hid (S.take n = S) := Lib.hid (List.take_of_length_le (by omega))
  have HE0 : Hid (∀ M a v, setE xs M a v ≤ 8) := Lib.hid (fun M a v => by
    unfold setE putE
    split
    · split
      · omega
      · split
        · omega
        · split <;> omega
    · omega)
  have hO : Own w0 w (Ps.set k (viewP g xs L)) := by rw [hQs]; exact h
  replace hO := Lib.hid hO
  clear h hk hr hrk hbl hSl hc hv hkl hQs
  go_enter Try.func51, Try.ntmps51
  go_wp2_with fail
  go_loopw [8] (fun i wr => ∃ j : Nat, j ≤ n ∧ i = .int .i64 (j : Int) ∧ Hid (allE xs L (S.take j) = 0 ∧ Own w0 wr (Ps.set k (viewP g xs (allL xs L (S.take j)))))) (fun i _ => n - (intOf i).toNat)
  case atStart => exact ⟨0, Nat.zero_le _, rfl, Lib.hid ⟨rfl, hO.out⟩⟩
  case round =>
    clear hO
    obtain ⟨j, hj, rfl, hR⟩ := hrel
    have j0 : (0 : Int) ≤ (j : Int) := by omega
    by_cases hlt : j < n
    · have hlt' : (j : Int) < (n : Int) := by omega
      obtain ⟨q, rfl, hcl, _, _⟩ := Hcell.out _ j hlt wr hR.out.2
      have HC := Lib.hid (Hset.out _ j hlt wr hR.out.2)
      have hT := Htake.out j hlt
      have hE := allE_snoc xs (S.getD j (0, 0)) (S.take j) L hR.out.1
      have hL := allL_snoc xs (S.getD j (0, 0)) (S.take j) L hR.out.1
      rw [← hT] at hE hL
      rw [← hE, ← hL] at HC
      have hle : allE xs L (S.take (j + 1)) ≤ 8 := by rw [hE]; exact HE0.out _ _ _
      have hstop := Hstop.out (j + 1)
      obtain ⟨E, HE⟩ : ∃ E, Hid (allE xs L (S.take (j + 1)) = E) := ⟨_, Lib.hid rfl⟩
      rw [HE.out] at HC hstop hle
      generalize bs.getD j 0 = b at hcl HC
      unfold fv at hcl
      by_cases hz : E = 0
      · subst hz
        clear hE hL hT hstop hle hR
        go_wp2_with fail
        refine HC.out.mono ?_
        rintro e w1 ⟨rfl, hO1⟩
        replace hO1 := Lib.hid hO1
        go_wp2
        go_roundw
        case rel => exact ⟨j + 1, by omega, by go_num, Lib.hid ⟨HE.out, hO1.out⟩⟩
        case measure => simp [intOf]; omega
      · obtain ⟨s1, s2⟩ := hstop hz
        have hne : ((E : Int) != 0) = true := by simp; omega
        have HS1 := Lib.hid s1
        have HS2 := Lib.hid s2
        clear hE hL hT hle hR hz s1 s2 hstop
        go_wp2_with fail
        refine HC.out.mono ?_
        rintro e w1 ⟨rfl, hO1⟩
        replace hO1 := Lib.hid hO1
        go_wp2
        go_ret
        exact ⟨by rw [HS1.out]; rfl, by rw [HS2.out]; exact hO1.out⟩
    · have hlt' : ¬ (j : Int) < (n : Int) := by omega
      obtain rfl : j = n := by omega
      rw [Hend.out] at hR
      go_wp2
      go_ret
      exact ⟨by rw [hR.out.1]; rfl, hR.out.2⟩
end Go.Proofs.Ytdpkpphjpihhkaa
