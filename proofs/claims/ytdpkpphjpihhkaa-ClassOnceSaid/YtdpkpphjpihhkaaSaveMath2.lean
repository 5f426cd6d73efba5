/- What is saved is loaded. -/
import Derived.Test.YtdpkpphjpihhkaaSaveMath
namespace Go.Proofs.Ytdpkpphjpihhkaa
open Go.RowKit Go.Grommet

theorem saveS_in {sl : Int} {C ra rb sq : Nat} {ws : List Nat} (h0 : 0 ≤ sl) (hw : ws.length ≤ 8) : ∀ s ∈ saveS sl C ra rb ws sq, 0 ≤ s.1 ∧ s.1 < sl + 12 := by
  have hT : ∀ j : Nat, j ≤ 8 → ∀ s ∈ wordsT sl ws j, 0 ≤ s.1 ∧ s.1 < sl + 12 := by
    intro j
    induction j with
    | zero => intro _ s hs; cases hs
    | succ j ih =>
      intro hj s hs
      rcases List.mem_append.1 hs with hs | hs
      · exact ih (by omega) s hs
      · rw [List.mem_singleton.1 hs]
        exact ⟨by show 0 ≤ sl + 4 + (j : Int); omega, by show sl + 4 + (j : Int) < sl + 12; omega⟩
  intro s hs
  rcases List.mem_append.1 hs with hs | hs
  · rcases List.mem_cons.1 hs with rfl | hs
    · exact ⟨by show 0 ≤ sl + 1; omega, by show sl + 1 < sl + 12; omega⟩
    · rcases List.mem_cons.1 hs with rfl | hs
      · exact ⟨by show 0 ≤ sl + 2; omega, by show sl + 2 < sl + 12; omega⟩
      · rw [List.mem_singleton.1 hs]
        exact ⟨by show 0 ≤ sl + 3; omega, by show sl + 3 < sl + 12; omega⟩
  · rcases List.mem_append.1 hs with hs | hs
    · exact hT ws.length hw s hs
    · rw [List.mem_singleton.1 hs]
      exact ⟨h0, by show sl < sl + 12; omega⟩
theorem saveS_length (sl : Int) (C ra rb sq : Nat) (ws : List Nat) : (saveS sl C ra rb ws sq).length = 4 + ws.length := by
  unfold saveS; rw [List.length_append, List.length_append, wordsT_length]; simp; omega
/-- Each of a save's words, looked up. -/
theorem saveS_lk {sl : Int} {C ra rb sq : Nat} {ws : List Nat} (h0 : 0 ≤ sl) (_hw : ws.length ≤ 8) : ∀ s ∈ saveS sl C ra rb ws sq, lk (saveS sl C ra rb ws sq) s.1.toNat = some s.2 := by
  have hl : ∀ p : Int, 0 ≤ p → ((p.toNat : Nat) : Int) = p := fun p hp => by omega
  have hT : ∀ j : Nat, j ≤ ws.length → ∀ s ∈ wordsT sl ws j, lk (saveS sl C ra rb ws sq) s.1.toNat = some s.2 := by
    intro j
    induction j with
    | zero => intro _ s hs; cases hs
    | succ j ih =>
      intro hj s hs
      rcases List.mem_append.1 hs with hs | hs
      · exact ih (by omega) s hs
      · rw [List.mem_singleton.1 hs]
        show lk _ (sl + 4 + (j : Int)).toNat = some (ws.getD j 0)
        rw [lk_save, hl _ (by omega), if_neg (by omega), if_pos ⟨by omega, by omega⟩, show (sl + 4 + (j : Int) - sl - 4).toNat = j from by omega]
  intro s hs
  rcases List.mem_append.1 hs with hs | hs
  · rcases List.mem_cons.1 hs with rfl | hs
    · show lk _ (sl + 1).toNat = some C
      rw [lk_save, hl _ (by omega), if_neg (by omega), if_neg (by omega), if_neg (by omega), if_neg (by omega), if_pos rfl]
    · rcases List.mem_cons.1 hs with rfl | hs
      · show lk _ (sl + 2).toNat = some ra
        rw [lk_save, hl _ (by omega), if_neg (by omega), if_neg (by omega), if_neg (by omega), if_pos rfl]
      · rw [List.mem_singleton.1 hs]
        show lk _ (sl + 3).toNat = some rb
        rw [lk_save, hl _ (by omega), if_neg (by omega), if_neg (by omega), if_pos rfl]
  · rcases List.mem_append.1 hs with hs | hs
    · exact hT ws.length (Nat.le_refl _) s hs
    · rw [List.mem_singleton.1 hs]
      show lk _ sl.toNat = some sq
      rw [lk_save, hl _ h0, if_pos rfl]

theorem save_all {xs : List Nat} {sl : Int} (h0 : 0 ≤ sl) (h1 : sl + 12 ≤ (xs.length : Int)) (d : ByteArray) (C ra rb sq J : Nat) (hd : d.size ≤ 64) (hJ : (d.size + 7) / 8 = J) (S : List (Int × Nat)) (hS : S = saveS sl C ra rb (words (bytesOf d) J) sq) :
    allE xs [] S = 0 ∧ (allL xs [] S).length ≤ 4 + J ∧ (∀ j : Nat, (j : Int) < sl ∨ sl + 12 ≤ (j : Int) → gotV xs (allL xs [] S) j = xs.getD j 0) ∧
      gotI xs (allL xs [] S) sl = sq ∧ gotI xs (allL xs [] S) (sl + 1) = C ∧ gotI xs (allL xs [] S) (sl + 2) = ra ∧ gotI xs (allL xs [] S) (sl + 3) = rb ∧
      str (unpackB (usT xs (allL xs [] S) sl 8) d.size) = d ∧ allE xs (allL xs [] S) S = 0 ∧ allL xs (allL xs [] S) S = allL xs [] S := by
  have hw : (words (bytesOf d) J).length = J := length_words _ _
  have hJ8 : J ≤ 8 := by omega
  have hin := saveS_in (sl := sl) (C := C) (ra := ra) (rb := rb) (sq := sq) (ws := words (bytesOf d) J) h0 (by omega)
  have hlk := saveS_lk (sl := sl) (C := C) (ra := ra) (rb := rb) (sq := sq) (ws := words (bytesOf d) J) h0 (by omega)
  have hlen := saveS_length sl C ra rb sq (words (bytesOf d) J)
  rw [← hS] at hin hlk hlen
  obtain ⟨k1, k2⟩ := all_lk xs S [] (fun s hs => ⟨(hin s hs).1, by have := (hin s hs).2; omega⟩) (by rw [hlen, hw]; simp; omega)
  have hg : ∀ s ∈ S, gotI xs (allL xs [] S) s.1 = s.2 := fun s hs => by
    have := (hin s hs).1
    have h2 := (hin s hs).2
    unfold gotI
    rw [if_pos ⟨this, by omega⟩, k2, hlk s hs]; rfl
  have hmem : ∀ n : Nat, n < J → (sl + 4 + (n : Int), (words (bytesOf d) J).getD n 0) ∈ S := by
    intro n hn
    have hT : ∀ j : Nat, n < j → (sl + 4 + (n : Int), (words (bytesOf d) J).getD n 0) ∈ wordsT sl (words (bytesOf d) J) j := by
      intro j
      induction j with
      | zero => intro h; omega
      | succ j ih =>
        intro h
        by_cases e : n = j
        · subst e; exact List.mem_append_right _ (List.mem_singleton.2 rfl)
        · exact List.mem_append_left _ (ih (by omega))
    rw [hS]
    exact List.mem_append_right _ (List.mem_append_left _ (hT _ (by rw [hw]; exact hn)))
  refine ⟨k1, ?_, ?_, ?_, ?_, ?_, ?_, ?_, ?_⟩
  · have := allL_length xs S []
    rw [hlen, hw] at this
    simpa using this
  · intro j hj
    rw [k2 j, hS, lk_save, hw, if_neg (by omega), if_neg (by omega), if_neg (by omega), if_neg (by omega), if_neg (by omega)]
    rfl
  · exact hg (sl, sq) (by rw [hS]; exact List.mem_append_right _ (List.mem_append_right _ (List.mem_singleton.2 rfl)))
  · exact hg (sl + 1, C) (by rw [hS]; exact List.mem_append_left _ (List.mem_cons_self ..))
  · exact hg (sl + 2, ra) (by rw [hS]; exact List.mem_append_left _ (List.mem_cons_of_mem _ (List.mem_cons_self ..)))
  · exact hg (sl + 3, rb) (by rw [hS]; exact List.mem_append_left _ (List.mem_cons_of_mem _ (List.mem_cons_of_mem _ (List.mem_cons_self ..))))
  · have hu : ∀ n : Nat, n < J → (usT xs (allL xs [] S) sl 8).getD n 0 = (words (bytesOf d) J).getD n 0 := by
      intro n hn
      have hT : ∀ j : Nat, n < j → (usT xs (allL xs [] S) sl j).getD n 0 = gotI xs (allL xs [] S) (sl + ((4 + n : Nat) : Int)) := by
        intro j
        induction j with
        | zero => intro h; omega
        | succ j ih =>
          intro h
          show (usT xs (allL xs [] S) sl j ++ [_]).getD n 0 = _
          by_cases e : n = j
          · subst e
            have hl := usT_length xs (allL xs [] S) sl n
            rw [List.getD_eq_getElem?_getD, List.getElem?_append_right (by omega), hl, Nat.sub_self]; rfl
          · have hl := usT_length xs (allL xs [] S) sl j
            rw [getD_snoc_lt _ _ _ _ (by omega)]
            exact ih (by omega)
      rw [hT 8 (by omega), show sl + ((4 + n : Nat) : Int) = sl + 4 + (n : Int) from by omega]
      exact hg _ (hmem n hn)
    have e : unpackB (usT xs (allL xs [] S) sl 8) d.size = unpackB (words (bytesOf d) J) d.size := by
      unfold unpackB
      apply List.map_congr_left
      intro i hi
      have hi := List.mem_range.1 hi
      rw [hu (i / 8) (by omega)]
    rw [e, unpack_words _ _ _ (by omega), pad_le _ _ (by rw [length_bytesOf]; exact Nat.le_refl _), List.take_of_length_le (by rw [length_bytesOf]; exact Nat.le_refl _)]
    exact str_bytesOf d
  · exact all_same xs _ S (fun s hs => ⟨(hin s hs).1, by have := (hin s hs).2; omega, hg s hs⟩)
end Go.Proofs.Ytdpkpphjpihhkaa
