/- The document's own Text, walked. -/
import Derived.Test.YtlphmpimpeekcaaReadsB
namespace Go.Proofs.Ytlphmpimpeekcaa
open Go.RowKit Go.Grommet

set_option maxRecDepth 100000 in
set_option maxHeartbeats 4000000 in
theorem RText_step (base g : Nat) (all : List UInt8) (a : Nat) (t : Bool) (most : Int) (w : World) (hm0 : -9223372036854775808 ≤ most) (hm1 : most < 9223372036854775808) (H : RT w base g (all.drop a) t) (hal : a ≤ all.length) :
    Calls Try.prog 28 #[.pointer (some ⟨g, 0, none⟩), .int .i64 most] w (RStep (.string (str (textR all a t most).1)) w base g (all.drop (textR all a t most).2.1) (textR all a t most).2.2) := by
  obtain ⟨ad, len, cap, H⟩ := H
  obtain ⟨f0, f1, f2, f3⟩ := H.facts
  have hN := refnumber_any ad len cap (all.drop a) w H.len_ H.at_ H.small
  unfold NumRIs at hN
  have hsm := H.small
  have HN := Lib.hid hN
  clear hN
  by_cases ht : t = true
  · subst ht
    have hfin : RStep (.string (str (textR all a true most).1)) w base g (all.drop (textR all a true most).2.1) (textR all a true most).2.2 (.returned (.string ⟨#[]⟩)) (w.setCell ⟨g, 1, none⟩ (.bool true)) := ⟨rfl, H.tear, grown_setCell _ _ _⟩
    generalize (numR (all.drop a)).1 = N at HN
    generalize (numR (all.drop a)).2 = K at HN
    go_enter Try.func28, Try.ntmps28
    go_wp2_with fail
    refine HN.out.mono ?_
    rintro e w' ⟨rfl, rfl⟩
    go_wp2
    go_ret
    exact hfin
  obtain rfl : t = false := by cases t; rfl; exact absurd rfl ht
  clear ht
  cases hd : numAt (all.drop a) with
  | none =>
    have e : textR all a false most = ([], a, true) := by unfold textR; rw [if_neg (by decide), hd]
    have hr : numR (all.drop a) = (0, 0) := by unfold numR; rw [hd]; rfl
    rw [hr] at HN
    clear hr hd
    have hfin : RStep (.string (str (textR all a false most).1)) w base g (all.drop (textR all a false most).2.1) (textR all a false most).2.2 (.returned (.string ⟨#[]⟩)) (w.setCell ⟨g, 1, none⟩ (.bool true)) := by rw [e]; exact ⟨rfl, H.tear, grown_setCell _ _ _⟩
    have Hf := Lib.hid hfin
    clear hfin e
    go_enter Try.func28, Try.ntmps28
    go_wp2_with fail
    refine HN.out.mono ?_
    rintro e w' ⟨rfl, rfl⟩
    go_wp2
    go_ret
    exact Hf.out
  | some nk =>
    obtain ⟨n, k⟩ := nk
    have hr : numR (all.drop a) = (n, k) := by unfold numR; rw [hd]; rfl
    have hlt := numAt_lt _ _ _ hd
    have hbk := (numAt_back _ _ _ hd).2
    rw [H.len_] at hlt
    rw [hr] at HN
    have hk0 : ((k : Int) == 0) = false := by simp; omega
    have hlen := H.len_
    rw [List.length_drop] at hlen
    have hn64 := hlt.1
    have hkl := hlt.2.2
    clear hlt hr
    by_cases h0 : most < 0
    · have e : textR all a false most = ([], a, true) := by unfold textR; rw [if_neg (by decide), hd]; exact if_pos (Or.inl h0)
      have Hl := Lib.hid hlen
      clear hlen hd
      have hfin : RStep (.string (str (textR all a false most).1)) w base g (all.drop (textR all a false most).2.1) (textR all a false most).2.2 (.returned (.string ⟨#[]⟩)) (w.setCell ⟨g, 1, none⟩ (.bool true)) := by rw [e]; exact ⟨rfl, H.tear, grown_setCell _ _ _⟩
      have Hf := Lib.hid hfin
      clear hfin e
      go_enter Try.func28, Try.ntmps28
      go_wp2_with fail
      refine HN.out.mono ?_
      rintro e w' ⟨rfl, rfl⟩
      go_wp2
      go_ret
      exact Hf.out
    · obtain ⟨m, rfl⟩ := Int.eq_ofNat_of_zero_le (show 0 ≤ most by omega)
      have hw1 : IntKind.u64.wrap (m : Int) = (m : Int) := IntWalk.u64_in _ ⟨by omega, by omega⟩
      have hmm : (0 : Int) ≤ (m : Int) := by omega
      by_cases h1 : m < n
      · have e : textR all a false m = ([], a, true) := by unfold textR; rw [if_neg (by decide), hd]; exact if_pos (Or.inr (Or.inl (by omega)))
        have h1' : (m : Int) < (n : Int) := by omega
        have Hl := Lib.hid hlen
        clear hlen hd
        have hfin : RStep (.string (str (textR all a false m).1)) w base g (all.drop (textR all a false m).2.1) (textR all a false m).2.2 (.returned (.string ⟨#[]⟩)) (w.setCell ⟨g, 1, none⟩ (.bool true)) := by rw [e]; exact ⟨rfl, H.tear, grown_setCell _ _ _⟩
        have Hf := Lib.hid hfin
        clear hfin e
        go_enter Try.func28, Try.ntmps28
        go_wp2_with fail
        refine HN.out.mono ?_
        rintro e w' ⟨rfl, rfl⟩
        go_wp2
        go_ret
        exact Hf.out
      · have h1' : ¬ (m : Int) < (n : Int) := by omega
        have hw2 : IntKind.i64.wrap ((len : Int) - (k : Int)) = (len : Int) - (k : Int) := IntWalk.i64_in _ ⟨by omega, by omega⟩
        have hw3 : IntKind.u64.wrap ((len : Int) - (k : Int)) = (len : Int) - (k : Int) := IntWalk.u64_in _ ⟨by omega, by omega⟩
        by_cases h2 : all.length < a + k + n
        · have e : textR all a false m = ([], a, true) := by unfold textR; rw [if_neg (by decide), hd]; exact if_pos (Or.inr (Or.inr h2))
          have h2' : (len : Int) - (k : Int) < (n : Int) := by omega
          have Hl := Lib.hid hlen
          clear hlen hd
          have hfin : RStep (.string (str (textR all a false m).1)) w base g (all.drop (textR all a false m).2.1) (textR all a false m).2.2 (.returned (.string ⟨#[]⟩)) (w.setCell ⟨g, 1, none⟩ (.bool true)) := by rw [e]; exact ⟨rfl, H.tear, grown_setCell _ _ _⟩
          have Hf := Lib.hid hfin
          clear hfin e
          go_enter Try.func28, Try.ntmps28
          go_wp2_with fail
          refine HN.out.mono ?_
          rintro e w' ⟨rfl, rfl⟩
          go_wp2
          go_ret
          exact Hf.out
        · have e : textR all a false m = ((all.drop (a + k)).take n, a + k + n, false) := by
            unfold textR; rw [if_neg (by decide), hd]
            exact if_neg (by intro h; rcases h with h | h | h <;> omega)
          have h2' : ¬ (len : Int) - (k : Int) < (n : Int) := by omega
          have hkn : k + n ≤ len := by omega
          obtain ⟨ad', s1, s2, s3, s4⟩ := slice_from (P := Try.prog) 25 5 Try.underlying25 Try.sizeOf5 ad len cap (k + n) hkn
          obtain ⟨ad2, p1, p2, p3, p4⟩ := slice_part (P := Try.prog) 25 5 Try.underlying25 Try.sizeOf5 ad len cap k (k + n) (by omega) (by have := H.cap_; omega)
          have hm := H.move (k := k + n) hkn ad' s2 s3 s4
          rw [List.drop_drop, ← Nat.add_assoc] at hm
          have hpa := p2 w _ H.at_ (by rw [List.length_map, H.len_]; exact H.cap_)
          rw [← List.map_drop, ← List.map_take, List.drop_drop, Nat.add_sub_cancel_left] at hpa
          have hcv := conv_at (P := Try.prog) 25 9 5 Try.underlying25 Try.underlying5 Try.underlying9 (l := n) (cap := cap - k) hpa (by rw [List.length_take, List.length_drop]; omega) (fun e => by have := H.nil_ (p4 e); omega)
          have hw4 : IntKind.i64.wrap (n : Int) = (n : Int) := IntWalk.i64_in _ ⟨by omega, by omega⟩
          have hw5 : IntKind.i64.wrap ((k : Int) + (n : Int)) = (k : Int) + (n : Int) := IntWalk.i64_in _ ⟨by omega, by omega⟩
          have P1 : ∀ w, (Instr.slice 25 (.slice ad len cap) (some (.int .i64 (k : Int))) (some (.int .i64 ((k : Int) + (n : Int)))) none).run Try.prog w = .ok (.slice ad2 n (cap - k)) w := by
            intro w; have := p1 w; rwa [Int.natCast_add, Nat.add_sub_cancel_left] at this
          have S1 : ∀ w, (Instr.slice 25 (.slice ad len cap) (some (.int .i64 ((k : Int) + (n : Int)))) none none).run Try.prog w = .ok (.slice ad' (len - (k + n)) (cap - (k + n))) w := by
            intro w; have := s1 w; rwa [Int.natCast_add] at this
          have hfin : RStep (.string (str (textR all a false m).1)) w base g (all.drop (textR all a false m).2.1) (textR all a false m).2.2 (.returned (.string (str ((all.drop (a + k)).take n)))) (w.setCell ⟨g, 0, none⟩ (.slice ad' (len - (k + n)) (cap - (k + n)))) := by rw [e]; exact ⟨rfl, hm, grown_setCell _ _ _⟩
          generalize str ((all.drop (a + k)).take n) = R at hcv hfin
          have Hf := Lib.hid hfin
          have b1 : (0 : Int) ≤ (k : Int) := by omega
          have b2 : (0 : Int) ≤ (k : Int) + (n : Int) := by omega
          have b3 : (k : Int) + (n : Int) ≤ (len : Int) := by omega
          have hn20 : n ≤ 1048576 := by omega
          clear e hm hpa s1 s2 s3 s4 p1 p2 p3 p4 hfin hd hlen hn64 hm0 hm1
          go_enter Try.func28, Try.ntmps28
          go_wp2_with fail
          refine HN.out.mono ?_
          rintro e w' ⟨rfl, rfl⟩
          go_wp2
          go_ret
          exact Hf.out
end Go.Proofs.Ytlphmpimpeekcaa
