/- Package slot: Set. -/
import Derived.Test.YtdpkpphjpihhkaaViewI
import Derived.Test.YtdpkpphjpihhkaaSetMath
namespace Go.Proofs.Ytdpkpphjpihhkaa
open Go.RowKit Go.Grommet

set_option maxRecDepth 100000 in
set_option maxHeartbeats 1000000 in
theorem SetH (k g : Nat) (xs : List Nat) (L : List (Nat × Nat)) (a : Int) (v : Nat) (en : Int) (w0 w : World) (Ps Qs : List Pr) (h : Own w0 w Ps) (hk : Ps[k]? = some (viewP g xs L)) (hv : v < 18446744073709551616)
    (he : (setE xs L a v : Int) = en) (hQ : Ps.set k (viewP g xs (setL xs L a v)) = Qs) :
    Calls Try.prog 75 #[.pointer (some ⟨g, 0, none⟩), .int .i64 a, .int .u64 (v : Int)] w fun e w' => e = .returned (.int .i64 en) ∧ Own w0 w' Qs := by
  have HL := Lib.hid (LenH k g xs L w0 w Ps h hk)
  have HG := Lib.hid (GetH k g xs L a w0 w Ps h hk)
  have hQs : Ps.set k (viewP g xs L) = Ps := by
    apply List.ext_getElem?
    intro i
    by_cases hi : i = k
    · subst hi; rw [List.getElem?_set_self (List.getElem?_eq_some_iff.1 hk).1, hk]
    · rw [List.getElem?_set_ne (fun e => hi e.symm)]
  have hfit := (Own.wl h k hk).2.2
  by_cases hr : 0 ≤ a ∧ a < (xs.length : Int)
  · unfold setE at he
    unfold setL at hQ
    rw [if_pos hr] at he hQ
    have hgi : gotI xs L a = gotV xs L a.toNat := by unfold gotI; rw [if_pos hr]
    rw [hgi] at HG
    have a0 : ¬ a < 0 := by omega
    have a1 : ¬ (xs.length : Int) ≤ a := by omega
    by_cases hx : gotV xs L a.toNat = v
    · rw [if_pos hx] at he hQ
      rw [hx] at HG
      rw [hQs] at hQ
      subst he hQ
      have h := Lib.hid h
      generalize xs.length = n at *
      have e1 : ((v : Int) == (v : Int)) = true := by simp
      clear hx hgi hv hQs
      go_enter Try.func75, Try.ntmps75
      go_wp2_with fail
      refine HL.out.mono ?_
      rintro e w1 ⟨rfl, rfl⟩
      go_wp2_with fail
      refine HG.out.mono ?_
      rintro e w2 ⟨rfl, rfl⟩
      go_wp2
      go_ret
      exact ⟨rfl, h.out⟩
    · rw [if_neg hx] at he hQ
      have HP := Lib.hid (PutH k g xs L a v en w0 w Ps Qs h hk hv (by unfold putEI; rw [if_pos hr]; exact he) (by unfold putI; rw [if_pos hr]; exact hQ))
      generalize gotV xs L a.toNat = u at *
      generalize xs.length = n at *
      have e1 : ((u : Int) == (v : Int)) = false := by simp; omega
      clear hx hgi hv hQs he hQ h
      go_enter Try.func75, Try.ntmps75
      go_wp2_with fail
      refine HL.out.mono ?_
      rintro e w1 ⟨rfl, rfl⟩
      go_wp2_with fail
      refine HG.out.mono ?_
      rintro e w2 ⟨rfl, rfl⟩
      go_wp2_with fail
      refine HP.out.mono ?_
      rintro e w3 ⟨rfl, hO⟩
      go_wp2
      go_ret
      exact ⟨rfl, hO⟩
  · unfold setE at he
    unfold setL at hQ
    rw [if_neg hr] at he hQ
    rw [hQs] at hQ
    subst he hQ
    have h := Lib.hid h
    generalize xs.length = n at *
    clear hv hQs HG
    by_cases a0 : a < 0
    · go_enter Try.func75, Try.ntmps75
      go_wp2
      go_ret
      exact ⟨rfl, h.out⟩
    · have a1 : (n : Int) ≤ a := by omega
      go_enter Try.func75, Try.ntmps75
      go_wp2_with fail
      refine HL.out.mono ?_
      rintro e w1 ⟨rfl, rfl⟩
      go_wp2
      go_ret
      exact ⟨rfl, h.out⟩
end Go.Proofs.Ytdpkpphjpihhkaa
