/- SumPlays, walked. -/
import Derived.Test.YtncikgciclfiaaaSumD
namespace Go.Proofs.Ytncikgciclfiaaa.sumPlays
open Go.RowKit Go.Grommet

theorem Now_some' (g T s : Nat) (w : World) (hs : NumIs w g T s) :
    Calls Try.prog 10 #[.pointer (some ⟨g, 0, none⟩)] w fun e w' => e = .returned (.int .u64 (s : Int)) ∧ w' = w :=
  (Now_some g T s w hs).mono fun _ _ h => ⟨h.1, h.2.symm⟩
theorem RefOf_any' (ad : Option Addr) (l cap : Nat) (xs : List Nat) (w : World) (hx : Words w ad l xs) :
    Calls Try.prog 11 #[.slice ad l cap] w fun e w' => e = .returned (.int .u64 ((sumN xs : Nat) : Int)) ∧ w' = w :=
  (RefOf_any ad l cap xs w hx).mono fun _ _ h => ⟨h.1, h.2.symm⟩

theorem Words.take {w : World} {ad : Option Addr} {l : Nat} {xs : List Nat} (h : Words w ad l xs) (k : Nat) (hk : k ≤ l) : Words w ad k (xs.take k) :=
  ⟨by rw [List.length_take, h.len]; omega, fun n hn => h.small n (List.mem_of_mem_take hn), by
    have := h.at_
    rw [← List.take_append_drop k xs, List.map_append] at this
    exact at_prefix this, by have := h.fits; omega⟩
theorem NumIs.drawn {w : World} {g T s : Nat} (h : NumIs w g T s) (n : Nat) : NumIs (w.drewN n) g T s := h.keep (grown_drewN w n none) (by simp)

set_option maxHeartbeats 400000 in
theorem walk_far (a0 : Option Addr) (l0 c0 : Nat) (w : World) (h : 4096 < l0) :
    Calls Try.prog 3 #[.slice a0 l0 c0] w (WorksIs w) := by
  have g1 : (4096 : Int) < (l0 : Int) := by omega
  go_enter Try.func3, Try.ntmps3
  go_wp2_with fail
  refine (works_any _).mono ?_
  rintro e w5 ⟨rfl, hg⟩
  go_wp2
  go_ret
  exact ⟨rfl, hg⟩

set_option maxRecDepth 100000 in
set_option maxHeartbeats 4000000 in
theorem walk_at (a0 : Option Addr) (l0 c0 : Nat) (w : World) (h : l0 ≤ 4096) (xs : List Nat) (hx : Words w a0 l0 xs) (n0 : a0 = none → l0 = 0 ∧ c0 = 0) (hc0 : l0 ≤ c0) :
    Calls Try.prog 3 #[.slice a0 l0 c0] w (WorksIs w) := by
  have b1 : ¬ (4096 : Int) < (l0 : Int) := by omega
  have Hx := Lib.hid hx.len
  go_enter Try.func3, Try.ntmps3
  go_wp2_with (at_builtin; refine app64 rfl _ _ rfl w.heap.size _ 0 [] rfl (own_lit w _ (Nat.le_refl _)) a0 l0 c0 xs rfl ?a1 n0 ?a2 (by simp) ?_)
  case a1 => exact hx.keep (World.grownBy_alloc w _ none) (by simp)
  case a2 => omega
  intro v1 w1 hown hg
  try rw [List.nil_append, Nat.zero_add] at hown
  try rw [Nat.zero_add]
  have hg1 := grown_new (World.grownBy_alloc w _ none) hg (by intro g e; cases e; exact Nat.le_refl _)
  clear hg
  obtain ⟨ad1, cap1, rfl, hW1, n1, _, _⟩ := words_of_own hown hx.small (by omega)
  clear hown
  go_wp2_with fail
  refine (New_any _).mono ?_
  rintro e w2 ⟨rfl, hN, hg2⟩
  have hg := grown_trans hg1 hg2
  have hW := hW1.keep hg2 (by simp)
  have hB : w.heap.size ≤ w1.heap.size := hg1.size
  have hnew : ∀ a, ad1 = some a → xs ≠ [] → some a.block ≠ some w1.heap.size := by
    intro a ha hn e; have := hW1.old hn a ha; injection e with e; omega
  obtain ⟨g, G⟩ : ∃ g, Hid (g = w1.heap.size) := ⟨_, Lib.hid rfl⟩
  rw [← G.out] at hN hB hnew
  rw [← G.out]
  clear G hg1 hg2 hW1
  go_wp2_with fail
  go_loopw [5] (fun i wr => ∃ k : Nat, k ≤ l0 ∧ i = .int .i64 (k : Int) ∧ NumIs wr g 38 (sumN (xs.take k)) ∧ Words wr ad1 l0 xs ∧ w.grownBy wr none) (fun i _ => l0 - (intOf i).toNat)
  case atStart => exact ⟨0, Nat.zero_le _, rfl, hN, hW, hg⟩
  case round =>
    clear hN hg hW
    obtain ⟨k, hk, rfl, hN, hW, hg⟩ := hrel
    have h0 : (0 : Int) ≤ (k : Int) := by omega
    by_cases hlt : k < l0
    · have hlt' : (k : Int) < (l0 : Int) := by omega
      have hc0' : (k : Int) ≤ (c0 : Int) := by omega
      have hm3 : (k : Int).tmod 16 = (k : Int) % 16 := Int.tmod_eq_emod_of_nonneg (by omega)
      have hm4 : IntKind.i64.wrap ((k : Int) % 16) = (k : Int) % 16 := IntWalk.i64_in _ ⟨by omega, by omega⟩
      have hx0 : Words wr a0 k (xs.take k) := Words.take (hx.keep hg (by simp)) k hk
      have HS := Lib.hid (take_succ' xs k (by rw [Hx.out]; exact hlt))
      obtain ⟨s, Hs⟩ : ∃ s, Hid (s = sumN (xs.take k)) := ⟨_, Lib.hid rfl⟩
      rw [← Hs.out] at hN
      have HR := Lib.hid (fun n => RefOf_any' a0 k c0 (xs.take k) (wr.drewN n) (hx0.keep (grown_drewN wr n none) (by simp)))
      rw [← Hs.out] at HR
      have HQ := Lib.hid (fun n => Now_some' g _ _ (wr.drewN n) (NumIs.drawn hN n))
      clear hx0
      have hb0 : (k : Int) % 16 ≤ 15 := by omega
      have hb1 : 0 ≤ (k : Int) % 16 := by omega
      have hv : xs.getD k 0 < 18446744073709551616 := hx.get k hlt
      obtain ⟨V, HV⟩ : ∃ V, Hid (V = xs.getD k 0) := ⟨_, Lib.hid rfl⟩
      rw [← HV.out] at hv
      rw [← HV.out] at HS
      obtain ⟨q, o, rfl, c1⟩ := wv_at (hx.keep hg (by simp)).at_ k (by rw [Hx.out]; exact hlt)
      rw [← HV.out] at c1
      have HA := Lib.hid (fun n => Add_some g _ s V (wr.drewN n) (NumIs.drawn hN n) hv)
      by_cases hm : (k : Int) % 16 = 0
      · have hm1 : ((k : Int) % 16 == 0) = true := by simpa using hm
        clear hm
        go_wp2_with fail
        go_quiet ((first | (go_at_call 10; exact Calls.quiet_of_same (HQ.out _)) | (go_at_call 11; exact Calls.quiet_of_same (HR.out _))))
        go_wp2_with fail
        refine (HA.out _).mono ?_
        rintro e u ⟨rfl, hN1, hgg⟩
        clear HA HQ HR c1
        have hgg := grown_trans (grown_drewN wr _ (some g)) hgg
        have hW := hW.keep hgg hnew
        have hg := grown_new hg hgg (by intro q e; cases e; exact hB)
        have hN1 : NumIs u g 38 (sumN (xs.take (k + 1))) := by rw [HS.out, sumN_snoc, ← Hs.out]; exact hN1
        clear hN
        go_wp2
        go_roundw
        case rel => exact ⟨k + 1, by omega, by go_num, hN1, hW, hg⟩
        case measure => simp [intOf]; omega
      · have hm1 : ((k : Int) % 16 == 0) = false := by simpa using hm
        clear hm
        go_wp2_with fail
        go_quiet (fail)
        go_wp2_with fail
        refine (HA.out _).mono ?_
        rintro e u ⟨rfl, hN1, hgg⟩
        clear HA HQ HR c1
        have hgg := grown_trans (grown_drewN wr _ (some g)) hgg
        have hW := hW.keep hgg hnew
        have hg := grown_new hg hgg (by intro q e; cases e; exact hB)
        have hN1 : NumIs u g 38 (sumN (xs.take (k + 1))) := by rw [HS.out, sumN_snoc, ← Hs.out]; exact hN1
        clear hN
        go_wp2
        go_roundw
        case rel => exact ⟨k + 1, by omega, by go_num, hN1, hW, hg⟩
        case measure => simp [intOf]; omega
    · have hlt' : ¬ (k : Int) < (l0 : Int) := by omega
      rw [List.take_of_length_le (by rw [Hx.out]; omega)] at hN
      have HO := Lib.hid (Of_any ad1 l0 cap1 xs wr hW)
      go_wp2_with fail
      refine HO.out.mono ?_
      rintro e u1 ⟨rfl, hgg⟩
      clear HO
      have hW := hW.keep hgg (by simp)
      have hN := hN.keep hgg (by simp)
      have hg := grown_trans hg hgg
      clear hgg
      have HO := Lib.hid (RefOf_any a0 l0 c0 xs u1 (hx.keep hg (by simp)))
      go_wp2_with fail
      refine HO.out.mono ?_
      rintro e u2 ⟨rfl, rfl⟩
      clear HO
      have HN := Lib.hid (Now_some g _ _ _ hN)
      go_wp2_with fail
      refine HN.out.mono ?_
      rintro e z1 ⟨rfl, rfl⟩
      clear HN
      have HO := Lib.hid (Of_any ad1 l0 cap1 xs u1 hW)
      go_wp2_with fail
      refine HO.out.mono ?_
      rintro e u2 ⟨rfl, hgg⟩
      clear HO
      have hW := hW.keep hgg (by simp)
      have hg := grown_trans hg hgg
      clear hgg
      go_wp2_with fail
      clear hN
      go_loopw [6, 7] (fun b i wr => ∃ k : Nat, k ≤ l0 ∧ i = .int .i64 (k : Int) ∧ b = .bool true ∧ Words wr ad1 l0 xs ∧ w.grownBy wr none) (fun _ i _ => l0 - (intOf i).toNat)
      case atStart => exact ⟨0, Nat.zero_le _, rfl, rfl, hW, hg⟩
      case round =>
        clear hW hg
        obtain ⟨k, hk, rfl, rfl, hW, hg⟩ := hrel
        have h0 : (0 : Int) ≤ (k : Int) := by omega
        by_cases hlt : k < l0
        · have hlt' : (k : Int) < (l0 : Int) := by omega
          obtain ⟨q1, o1, rfl, d1⟩ := wv_at hW.at_ k (by rw [Hx.out]; exact hlt)
          obtain ⟨q0, o0, rfl, d0⟩ := wv_at (hx.keep hg (by simp)).at_ k (by rw [Hx.out]; exact hlt)
          generalize xs.getD k 0 = V at d1 d0
          go_wp2_with fail
          go_quiet (fail)
          go_wp2
          go_roundw
          case rel => exact ⟨k + 1, by omega, by go_num, rfl, hW.keep (grown_drewN _ _ none) (by simp), grown_trans hg (grown_drewN _ _ _)⟩
          case measure => simp [intOf]; omega
        · have hlt' : ¬ (k : Int) < (l0 : Int) := by omega
          go_wp2_with fail
          refine (works_any _).mono ?_
          rintro e w9 ⟨rfl, hg9⟩
          have hg := grown_trans hg hg9
          go_wp2
          go_ret
          exact ⟨rfl, hg⟩

theorem walk (a0 : Option Addr) (l0 c0 : Nat) (z0 : List Int) (w : World) (w0 : RowIn .u64 w a0 l0 c0 z0) :
    Calls Try.prog 3 #[.slice a0 l0 c0] w (WorksIs w) := by
  obtain ⟨xs, hx⟩ := RowIn.words w0
  by_cases h : l0 ≤ 4096
  · exact walk_at a0 l0 c0 w h xs hx (fun e => w0.nil e) w0.2.1
  · exact walk_far a0 l0 c0 w (by omega)
end Go.Proofs.Ytncikgciclfiaaa.sumPlays
