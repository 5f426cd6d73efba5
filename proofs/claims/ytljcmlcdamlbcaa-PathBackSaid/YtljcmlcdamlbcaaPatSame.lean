/- Two lists of names, compared. -/
import Derived.Test.YtljcmlcdamlbcaaPatMath
namespace Go.Proofs.Ytljcmlcdamlbcaa
open Go.RowKit Go.Grommet

theorem str_inj' {x y : List UInt8} (h : (str x).toList = (str y).toList) : x = y := by
  rw [ByteArray.toList_eq, ByteArray.toList_eq] at h
  exact h

set_option maxRecDepth 100000 in
set_option maxHeartbeats 1000000 in
theorem Same_any (w : World) (a b : Value) (A B : List (List UInt8)) (ha : Strs w a A) (hb : Strs w b B) (hA : A.length ≤ 1000000) :
    Calls Try.prog 9 #[a, b] w fun e w' => e = .returned (.bool (decide (A = B))) ∧ w.grownBy w' none := by
  obtain ⟨ad, cap, rfl, ha⟩ := ha
  obtain ⟨bd, cbp, rfl, hb⟩ := hb
  obtain ⟨V, hV⟩ : ∃ V, Hid (decide (A = B) = V) := ⟨_, Lib.hid rfl⟩
  rw [hV.out]
  obtain ⟨m, hm⟩ : ∃ m, A.length = m := ⟨_, rfl⟩
  obtain ⟨n, hn⟩ : ∃ n, B.length = n := ⟨_, rfl⟩
  rw [hm] at hA ⊢
  rw [hn]
  by_cases c : m = n
  · subst c
    have c' : ((m : Int) != (m : Int)) = false := by simp
    have HA := Lib.hid (fun wx (hg : w.grownBy wx none) => ha.grown hg (by intro _ _ _ e; cases e))
    have HB := Lib.hid (fun wx (hg : w.grownBy wx none) => hb.grown hg (by intro _ _ _ e; cases e))
    have HL := Lib.hid (⟨hm, hn⟩ : A.length = m ∧ B.length = m)
    clear ha hb hm hn
    go_enter Try.func9, Try.ntmps9
    go_wp2_with fail
    go_loopw [5] (fun c wr => ∃ k : Nat, k ≤ m ∧ c = .int .i64 (k : Int) ∧ Hid (A.take k = B.take k) ∧ Hid (w.grownBy wr none)) (fun c _ => m - (intOf c).toNat)
    case atStart => exact ⟨0, Nat.zero_le _, rfl, Lib.hid rfl, Lib.hid (World.grownBy.refl _ _)⟩
    case round =>
      obtain ⟨k, hk, rfl, hT, hg⟩ := hrel
      have k0 : (0 : Int) ≤ (k : Int) := by omega
      by_cases hlt : k < m
      · have hlt' : (k : Int) < (m : Int) := by omega
        obtain ⟨x, hx⟩ : ∃ x, A[k]? = some x := ⟨_, List.getElem?_eq_getElem (by have := HL.out.1; omega)⟩
        obtain ⟨y, hy⟩ : ∃ y, B[k]? = some y := ⟨_, List.getElem?_eq_getElem (by have := HL.out.2; omega)⟩
        obtain ⟨g, o, rfl, c1⟩ := Strs.cell (HA.out wr hg.out) hx
        obtain ⟨g2, o2, rfl, c2⟩ := Strs.cell (HB.out wr hg.out) hy
        have wk : IntKind.i64.wrap ((k : Int) + 1) = (k : Int) + 1 := IntWalk.i64_in _ ⟨by omega, by omega⟩
        by_cases hxy : x = y
        · subst hxy
          have HN : Hid (A.take (k + 1) = B.take (k + 1)) := Lib.hid (by rw [List.take_add_one, List.take_add_one, hT.out, hx, hy])
          have q : ((str x).toList == (str x).toList) = true := by simp
          clear hx hy
          go_wp2_with fail
          go_quiet (fail)
          go_wp2
          go_roundw
          case rel => exact ⟨k + 1, by omega, by go_num, HN, Lib.hid (grown_trans hg.out (grown_drewN _ _ _))⟩
          case measure => simp [intOf]; omega
        · have q : ((str x).toList == (str y).toList) = false := by rw [beq_eq_false_iff_ne]; exact fun e => hxy (str_inj' e)
          have hv : V = false := by
            rw [← hV.out, decide_eq_false]
            rintro rfl
            rw [hx] at hy
            exact hxy (by injection hy)
          subst hv
          clear hx hy hxy
          go_wp2_with fail
          go_quiet (fail)
          go_wp2
          go_ret
          exact ⟨rfl, grown_trans hg.out (grown_drewN _ _ _)⟩
      · have hlt' : ¬ (k : Int) < (m : Int) := by omega
        obtain rfl : k = m := by omega
        have hv : V = true := by
          have h := hT.out
          rw [List.take_of_length_le (by have := HL.out.1; omega), List.take_of_length_le (by have := HL.out.2; omega)] at h
          rw [← hV.out, decide_eq_true h]
        subst hv
        go_wp2
        go_ret
        exact ⟨rfl, hg.out⟩
  · have c' : ((m : Int) != (n : Int)) = true := by simp; omega
    have hv : V = false := by
      rw [← hV.out, decide_eq_false]
      rintro rfl
      omega
    subst hv
    clear ha hb hm hn
    go_enter Try.func9, Try.ntmps9
    go_wp2
    go_ret
    exact ⟨rfl, World.grownBy.refl _ _⟩
end Go.Proofs.Ytljcmlcdamlbcaa
