/- The document's May of any name. -/
import Derived.Test.YtljcmlcdamlbcaaPatMath
namespace Go.Proofs.Ytljcmlcdamlbcaa
open Go.RowKit Go.Grommet

theorem toListC (s : ByteArray) : s.toList = bytesOf s := ByteArray.toList_eq s
theorem mayN_no {s : ByteArray} (h : s.size = 0 ∨ 40 < s.size ∨ bytesOf s = [46] ∨ bytesOf s = [46, 46] ∨ (0 : UInt8) ∈ bytesOf s ∨ (47 : UInt8) ∈ bytesOf s) : mayN s = false := by
  rw [Bool.eq_false_iff]
  intro hm
  unfold mayN at hm
  simp only [Bool.and_eq_true, decide_eq_true_eq, Bool.not_eq_true', beq_eq_false_iff_ne] at hm
  obtain ⟨h1, h2, h3, h4, h5, h6⟩ := hm
  rcases h with h | h | h | h | h | h
  · omega
  · omega
  · exact h5 (by rw [toListC, h])
  · exact h6 (by rw [toListC, h])
  · exact indexB_lt.1 h3 0 h rfl
  · exact indexB_lt.1 h4 47 h rfl
theorem mayN_yes {s : ByteArray} (h1 : s.size ≠ 0) (h2 : ¬ 40 < s.size) (h3 : bytesOf s ≠ [46]) (h4 : bytesOf s ≠ [46, 46]) (h5 : ∀ b ∈ bytesOf s, b ≠ 0 ∧ b ≠ 47) : mayN s = true := by
  unfold mayN
  simp only [Bool.and_eq_true, decide_eq_true_eq, Bool.not_eq_true', beq_eq_false_iff_ne, toListC]
  exact ⟨by omega, by omega, indexB_lt.2 (fun b hb => (h5 b hb).1), indexB_lt.2 (fun b hb => (h5 b hb).2), h3, h4⟩

set_option maxRecDepth 100000 in
set_option maxHeartbeats 1000000 in
theorem RMay_any (s : ByteArray) (w : World) :
    Calls Try.prog 20 #[.string s] w fun e w' => e = .returned (.bool (mayN s)) ∧ w' = w := by
  obtain ⟨V, hV⟩ : ∃ V, Hid (mayN s = V) := ⟨_, Lib.hid rfl⟩
  rw [hV.out]
  have hl := length_bytesOf s
  have Hix := Lib.hid (fun k hk => byte_getD s k hk)
  obtain ⟨n, hn⟩ : ∃ n, s.size = n := ⟨_, rfl⟩
  by_cases h1 : n = 0
  · have hv : V = false := by rw [← hV.out]; exact mayN_no (.inl (by omega))
    subst hv
    have c1 : (n : Int) < 1 := by omega
    go_enter Try.func20, Try.ntmps20
    go_wp2
    go_ret
    exact ⟨rfl, rfl⟩
  have c1 : ¬ (n : Int) < 1 := by omega
  by_cases h2 : 40 < n
  · have hv : V = false := by rw [← hV.out]; exact mayN_no (.inr (.inl (by omega)))
    subst hv
    have c2 : (40 : Int) < (n : Int) := by omega
    go_enter Try.func20, Try.ntmps20
    go_wp2
    go_ret
    exact ⟨rfl, rfl⟩
  have c2 : ¬ (40 : Int) < (n : Int) := by omega
  by_cases h3 : bytesOf s = [46]
  · have hv : V = false := by rw [← hV.out]; exact mayN_no (.inr (.inr (.inl h3)))
    subst hv
    have q1 : (s.toList == [46]) = true := by rw [toListC, h3]; rfl
    clear h3
    go_enter Try.func20, Try.ntmps20
    go_wp2
    go_ret
    exact ⟨rfl, rfl⟩
  have q1 : (s.toList == [46]) = false := by rw [toListC, beq_eq_false_iff_ne]; exact h3
  by_cases h4 : bytesOf s = [46, 46]
  · have hv : V = false := by rw [← hV.out]; exact mayN_no (.inr (.inr (.inr (.inl h4))))
    subst hv
    have q2 : (s.toList == [46, 46]) = true := by rw [toListC, h4]; rfl
    clear h3 h4
    go_enter Try.func20, Try.ntmps20
    go_wp2
    go_ret
    exact ⟨rfl, rfl⟩
  have q2 : (s.toList == [46, 46]) = false := by rw [toListC, beq_eq_false_iff_ne]; exact h4
  have HY := Lib.hid (fun (h5 : ∀ b ∈ bytesOf s, b ≠ 0 ∧ b ≠ 47) => mayN_yes (s := s) (by omega) (by omega) h3 h4 h5)
  have HN := Lib.hid (fun (x : UInt8) (hx : x ∈ bytesOf s) (h : x = 0 ∨ x = 47) => mayN_no (s := s) (by rcases h with rfl | rfl; exact .inr (.inr (.inr (.inr (.inl hx)))); exact .inr (.inr (.inr (.inr (.inr hx))))))
  have Hn := Lib.hid hl
  clear h3 h4 hl
  go_enter Try.func20, Try.ntmps20
  go_wp2_with fail
  go_loopw [3] (fun c wr => ∃ k : Nat, k ≤ n ∧ c = .int .i64 (k : Int) ∧ Hid (∀ i, i < k → (bytesOf s).getD i 0 ≠ 0 ∧ (bytesOf s).getD i 0 ≠ 47) ∧ wr = w) (fun c _ => n - (intOf c).toNat)
  case atStart => exact ⟨0, Nat.zero_le _, rfl, Lib.hid (fun i hi => absurd hi (Nat.not_lt_zero i)), rfl⟩
  case round =>
    obtain ⟨k, hk, rfl, hI, rfl⟩ := hrel
    have k0 : (0 : Int) ≤ (k : Int) := by omega
    by_cases hlt : k < n
    · have hlt' : (k : Int) < (n : Int) := by omega
      obtain ⟨x, hx⟩ : ∃ x, (bytesOf s).getD k 0 = x := ⟨_, rfl⟩
      have hix := Hix.out k (by omega)
      rw [hx] at hix
      have hmem : Hid (x ∈ bytesOf s) := Lib.hid (by
        have hb : k < (bytesOf s).length := by have := Hn.out; omega
        rw [← hx, List.getD_eq_getElem?_getD, List.getElem?_eq_getElem hb]
        exact List.getElem_mem hb)
      have wk : IntKind.i64.wrap ((k : Int) + 1) = (k : Int) + 1 := IntWalk.i64_in _ ⟨by omega, by omega⟩
      by_cases x0 : x = 0
      · have hv : V = false := by rw [← hV.out]; exact HN.out x hmem.out (.inl x0)
        subst hv
        have y0 : (((x.toNat : Nat) : Int) == 0) = true := by rw [x0]; rfl
        clear hmem x0 hx
        go_wp2
        go_ret
        exact ⟨rfl, rfl⟩
      have y0 : (((x.toNat : Nat) : Int) == 0) = false := by
        rw [beq_eq_false_iff_ne]
        intro e
        exact x0 (UInt8.toNat_inj.1 (by show x.toNat = 0; omega))
      by_cases x1 : x = 47
      · have hv : V = false := by rw [← hV.out]; exact HN.out x hmem.out (.inr x1)
        subst hv
        have y1 : (((x.toNat : Nat) : Int) == 47) = true := by rw [x1]; rfl
        clear hmem x0 x1 hx
        go_wp2
        go_ret
        exact ⟨rfl, rfl⟩
      have y1 : (((x.toNat : Nat) : Int) == 47) = false := by
        rw [beq_eq_false_iff_ne]
        intro e
        exact x1 (UInt8.toNat_inj.1 (by show x.toNat = 47; omega))
      have hN : Hid (∀ i, i < k + 1 → (bytesOf s).getD i 0 ≠ 0 ∧ (bytesOf s).getD i 0 ≠ 47) := Lib.hid (fun i hi => by
        rcases Nat.lt_or_ge i k with h | h
        · exact hI.out i h
        · obtain rfl : i = k := by omega
          rw [hx]; exact ⟨x0, x1⟩)
      clear hmem x0 x1 hx
      go_wp2
      go_roundw
      case rel => exact ⟨k + 1, by omega, by go_num, hN, by first | rfl | trivial⟩
      case measure => simp [intOf]; omega
    · have hlt' : ¬ (k : Int) < (n : Int) := by omega
      obtain rfl : k = n := by omega
      have hv : V = true := by
        rw [← hV.out]
        refine HY.out (fun b hb => ?_)
        obtain ⟨i, hi, rfl⟩ := List.getElem_of_mem hb
        have := hI.out i (by have := Hn.out; omega)
        rw [List.getD_eq_getElem?_getD, List.getElem?_eq_getElem hi] at this
        exact this
      subst hv
      go_wp2
      go_ret
      exact ⟨rfl, rfl⟩
end Go.Proofs.Ytljcmlcdamlbcaa
