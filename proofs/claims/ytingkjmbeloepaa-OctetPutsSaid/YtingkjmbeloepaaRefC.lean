/- The document's own answers for octet: Pack. -/
import Derived.Test.YtingkjmbeloepaaRefB
import Derived.StillTailTactics
namespace Go.Proofs.Ytingkjmbeloepaa
open Go.RowKit Go.Grommet

/-- What stands in out ahead of byte k: as many words as hold the first k bytes. -/
theorem words_more (bs : List UInt8) (k : Nat) (hk : k = bs.length) (h8 : k % 8 = 0) : words bs (k / 8 + 1) = words bs (k / 8) ++ [0] := by
  subst hk
  have e : word bs (bs.length / 8) = 0 := by
    unfold word
    rw [List.drop_eq_nil_of_le (by omega)]; rfl
  simp [words, List.range_succ, e]

set_option maxHeartbeats 1000000 in
theorem RPack_any (s : ByteArray) (w : World) (hs : s.size ≤ 1048576) :
    Calls Try.prog 19 #[.string s] w (fun e w' => ∃ ad cap, e = .returned (.slice ad ((s.size + 7) / 8) cap) ∧ At w' ad ((words (bytesOf s) ((s.size + 7) / 8)).map wv) ∧ w.grownBy w' none) := by
  obtain ⟨i0, hi, hz0, hz1, hz2⟩ := info_parts Try.info23
  go_enter Try.func19, Try.ntmps19
  go_wp2_with fail
  go_loopw [3, 4] (fun s3 s4 wr => ∃ k M adk capk, k ≤ s.size ∧ Hid (M = (k + 7) / 8) ∧ s4 = .int .i64 (k : Int) ∧ s3 = .slice adk M capk ∧
      wr.ownsRow w.heap.size 23 1 (.slice adk M capk) M ((words ((bytesOf s).take k) M).map wv) ∧ w.grownBy wr none)
    (fun _ s4 _ => s.size - (intOf s4).toNat)
  case atStart => exact ⟨0, 0, none, 0, Nat.zero_le _, rfl, rfl, rfl, World.ownsRow_nil _ _ _ _, World.grownBy.refl _ _⟩
  case round =>
    obtain ⟨k, M, adk, capk, hk, HM, rfl, rfl, hown, hg⟩ := hrel
    by_cases hlt : k < s.size
    · have hlt' : (k : Int) < (s.size : Int) := by omega
      have hM := HM.out
      by_cases h8 : k % 8 = 0
      · have h8' : (((k : Int) % 8) == 0) = true := by rw [beq_iff_eq]; omega
        obtain rfl : M = k / 8 := by omega
        clear hM
        go_wp2_with (at_builtin; refine wpList_append_at rfl _ _ 24 rfl w.heap.size 23 i0 (.int .u64 0) 8 Try.underlying24 hi hz0 hz1 hz2 rfl _ (k / 8) _ rfl (hown.alloc _) (some ⟨wr.heap.size, 0, none⟩) 1 1 [Value.int .u64 0] rfl ?b2 ?b3 ?b4 ?b5 ?b6 ?b7 ?b8 ?_)
        case b2 => rfl
        case b3 => exact at_one _ _ _
        case b4 => simp
        case b5 => exact one_oneCell _ _
        case b6 => unfold maxLen; omega
        case b7 => omega
        case b8 => have := hg.size; simp; omega
        intro v2 wx hown2 hg2
        have hg := grown_new (grown_trans hg (World.grownBy_alloc wr _ none)) hg2 (fun g h => (hown.lt g h).1)
        have hown : wx.ownsRow w.heap.size 23 1 v2 (k / 8 + 1) ((words ((bytesOf s).take k) (k / 8 + 1)).map wv) := by
          rw [words_more _ k (by rw [List.length_take, length_bytesOf]; omega) h8, List.map_append]
          exact hown2
        obtain ⟨adk, capk, rfl, _⟩ := owns_slice hown
        clear hown2 hg2
        obtain ⟨g, rfl⟩ : ∃ g, adk = some ⟨g, 0, none⟩ := by
          obtain ⟨_, h | ⟨g, cap, cur, hv, _⟩⟩ := hown
          · cases h.1
          · cases hv; exact ⟨g, rfl⟩
        have hlk : ((bytesOf s).take k).length = k := by rw [List.length_take, length_bytesOf]; omega
        have hcell : wx.cell? ⟨g, k / 8, none⟩ = some (.int .u64 ((word ((bytesOf s).take k) (k / 8) : Nat) : Int)) := by
          rw [hown.cellAt (k / 8) (by omega)]
          simp [words, wv]
        have hfr := hown.frozenAt (k / 8)
        have hmath := words_snoc ((bytesOf s).take k) k s[k] hlk.symm (k / 8 + 1) (by omega)
        rw [byte_getD s k hlt, ← take_snoc _ _ (by rw [length_bytesOf]; exact hlt), ← byte_getD s k hlt] at hmath
        have hpl := word_part_lt ((bytesOf s).take k) k hlk.symm
        have Hm := Lib.hid hmath
        have hc := s[k].toNat_lt
        obtain ⟨R, HR⟩ : ∃ R, Hid (R = k % 8) := ⟨_, Lib.hid rfl⟩
        have hR8 : R < 8 := by rw [HR.out]; omega
        obtain ⟨W, HW⟩ : ∃ W, Hid (W = word ((bytesOf s).take k) (k / 8)) := ⟨_, Lib.hid rfl⟩
        rw [← HW.out] at hcell hpl
        rw [← HR.out] at hpl
        obtain ⟨hwd, hwl⟩ := word_int s[k].toNat R hc (by omega)
        have hp8 : 256 ^ (R + 1) ≤ 256 ^ 8 := Nat.pow_le_pow_right (by decide) (by omega)
        have h64 : (256 : Nat) ^ 8 = 18446744073709551616 := by decide
        obtain ⟨Y, HY⟩ : ∃ Y, Hid (Y = s[k].toNat * 256 ^ R) := ⟨_, Lib.hid rfl⟩
        rw [← HY.out] at hwd hwl
        have hsum : W + Y < 18446744073709551616 := by
          have : Y + 256 ^ R ≤ 256 ^ (R + 1) := by
            rw [HY.out, Nat.pow_succ, ← Nat.succ_mul, Nat.mul_comm (256 ^ R)]
            exact Nat.mul_le_mul_right _ hc
          omega
        have b1 : (0 : Int) ≤ (k : Int) / 8 := by omega
        have b2 : (k : Int) / 8 < (k : Int) / 8 + 1 := by omega
        have a1 : IntKind.i64.wrap ((k : Int) / 8) = (k : Int) / 8 := IntWalk.i64_in _ ⟨by omega, by omega⟩
        have a3 : ((k : Int) / 8).toNat = k / 8 := by omega
        have a4 : (k : Int) % 8 = (R : Int) := by rw [HR.out]; omega
        have a5 : IntKind.i64.wrap (R : Int) = (R : Int) := IntWalk.i64_in _ ⟨by omega, by omega⟩
        have a6 : IntKind.i64.wrap (8 * (R : Int)) = 8 * (R : Int) := IntWalk.i64_in _ ⟨by omega, by omega⟩
        have a7 : IntKind.u64.wrap (8 * (R : Int)) = 8 * (R : Int) := IntWalk.u64_in _ ⟨by omega, by omega⟩
        have a8 : IntKind.u64.wrap (s[k].toNat : Int) = (s[k].toNat : Int) := IntWalk.u64_in _ ⟨by omega, by omega⟩
        have a9 : IntKind.u64.wrap ((W : Int) + (Y : Int)) = (W : Int) + (Y : Int) := IntWalk.u64_in _ ⟨by omega, by omega⟩
        have b3 : (0 : Int) ≤ 8 * (R : Int) := by omega
        clear hmath hwl hp8 h64 hlk
        go_wp2_with fail
        go_still_tail 18, (by kernel_rfl)
        go_wp2
        go_roundw
        case rel =>
          refine ⟨k + 1, k / 8 + 1, _, _, by omega, ?_, by go_num, rfl, ?_, ?_⟩
          · show _ = _; omega
          · have hst := (hown.stored (k / 8) (wv (word ((bytesOf s).take k) (k / 8) + s[k].toNat * 256 ^ (k % 8)))).1
            rw [← List.map_set, ← Hm.out, ← HW.out, ← HR.out, ← HY.out] at hst
            have hy0 : (s[k].toNat : Int) = (Y : Int) := by
              have hR0 : R = 0 := by rw [HR.out]; exact h8
              rw [HY.out, hR0, Nat.pow_zero, Nat.mul_one]
            rw [hy0, a9, ← Int.natCast_add]
            exact hst
          · exact grown_drew (grown_new hg (grown_setCell wx ⟨g, k / 8, none⟩ _) (by intro g' e; cases e; exact (hown.lt g rfl).1))
        case measure => first | omega | (simp [intOf]; omega)
      · have h8' : (((k : Int) % 8) == 0) = false := by rw [beq_eq_false_iff_ne]; omega
        obtain rfl : M = k / 8 + 1 := by omega
        obtain ⟨g, rfl⟩ : ∃ g, adk = some ⟨g, 0, none⟩ := by
          obtain ⟨_, h | ⟨g, cap, cur, hv, _⟩⟩ := hown
          · cases h.1
          · cases hv; exact ⟨g, rfl⟩
        obtain ⟨wx, rfl⟩ : ∃ wx : World, wx = wr := ⟨_, rfl⟩
        have hlk : ((bytesOf s).take k).length = k := by rw [List.length_take, length_bytesOf]; omega
        have hcell : wx.cell? ⟨g, k / 8, none⟩ = some (.int .u64 ((word ((bytesOf s).take k) (k / 8) : Nat) : Int)) := by
          rw [hown.cellAt (k / 8) (by omega)]
          simp [words, wv]
        have hfr := hown.frozenAt (k / 8)
        have hmath := words_snoc ((bytesOf s).take k) k s[k] hlk.symm (k / 8 + 1) (by omega)
        rw [byte_getD s k hlt, ← take_snoc _ _ (by rw [length_bytesOf]; exact hlt), ← byte_getD s k hlt] at hmath
        have hpl := word_part_lt ((bytesOf s).take k) k hlk.symm
        have Hm := Lib.hid hmath
        have hc := s[k].toNat_lt
        obtain ⟨R, HR⟩ : ∃ R, Hid (R = k % 8) := ⟨_, Lib.hid rfl⟩
        have hR8 : R < 8 := by rw [HR.out]; omega
        obtain ⟨W, HW⟩ : ∃ W, Hid (W = word ((bytesOf s).take k) (k / 8)) := ⟨_, Lib.hid rfl⟩
        rw [← HW.out] at hcell hpl
        rw [← HR.out] at hpl
        obtain ⟨hwd, hwl⟩ := word_int s[k].toNat R hc (by omega)
        have hp8 : 256 ^ (R + 1) ≤ 256 ^ 8 := Nat.pow_le_pow_right (by decide) (by omega)
        have h64 : (256 : Nat) ^ 8 = 18446744073709551616 := by decide
        obtain ⟨Y, HY⟩ : ∃ Y, Hid (Y = s[k].toNat * 256 ^ R) := ⟨_, Lib.hid rfl⟩
        rw [← HY.out] at hwd hwl
        have hsum : W + Y < 18446744073709551616 := by
          have : Y + 256 ^ R ≤ 256 ^ (R + 1) := by
            rw [HY.out, Nat.pow_succ, ← Nat.succ_mul, Nat.mul_comm (256 ^ R)]
            exact Nat.mul_le_mul_right _ hc
          omega
        have b1 : (0 : Int) ≤ (k : Int) / 8 := by omega
        have b2 : (k : Int) / 8 < (k : Int) / 8 + 1 := by omega
        have a1 : IntKind.i64.wrap ((k : Int) / 8) = (k : Int) / 8 := IntWalk.i64_in _ ⟨by omega, by omega⟩
        have a3 : ((k : Int) / 8).toNat = k / 8 := by omega
        have a4 : (k : Int) % 8 = (R : Int) := by rw [HR.out]; omega
        have a5 : IntKind.i64.wrap (R : Int) = (R : Int) := IntWalk.i64_in _ ⟨by omega, by omega⟩
        have a6 : IntKind.i64.wrap (8 * (R : Int)) = 8 * (R : Int) := IntWalk.i64_in _ ⟨by omega, by omega⟩
        have a7 : IntKind.u64.wrap (8 * (R : Int)) = 8 * (R : Int) := IntWalk.u64_in _ ⟨by omega, by omega⟩
        have a8 : IntKind.u64.wrap (s[k].toNat : Int) = (s[k].toNat : Int) := IntWalk.u64_in _ ⟨by omega, by omega⟩
        have a9 : IntKind.u64.wrap ((W : Int) + (Y : Int)) = (W : Int) + (Y : Int) := IntWalk.u64_in _ ⟨by omega, by omega⟩
        have b3 : (0 : Int) ≤ 8 * (R : Int) := by omega
        clear hmath hwl hp8 h64 hlk hM
        go_wp2_with fail
        go_still_tail 18, (by kernel_rfl)
        go_wp2
        go_roundw
        case rel =>
          refine ⟨k + 1, k / 8 + 1, _, _, by omega, ?_, by go_num, rfl, ?_, ?_⟩
          · show _ = _; omega
          · have hst := (hown.stored (k / 8) (wv (word ((bytesOf s).take k) (k / 8) + s[k].toNat * 256 ^ (k % 8)))).1
            rw [← List.map_set, ← Hm.out, ← HW.out, ← HR.out, ← HY.out] at hst
            have em : min (8 * (k % 8)) 64 = (8 * (R : Int)).toNat := by rw [← HR.out]; omega
            rw [em, hwd, a9, ← Int.natCast_add]
            exact hst
          · exact grown_drew (grown_new hg (grown_setCell wx ⟨g, k / 8, none⟩ _) (by intro g' e; cases e; exact (hown.lt g rfl).1))
        case measure => first | omega | (simp [intOf]; omega)
    · obtain rfl : k = s.size := by omega
      rw [List.take_of_length_le (by rw [length_bytesOf]; exact Nat.le_refl _)] at hown
      obtain ⟨ad, cap, he, ha, _⟩ := at_of_owns hown
      cases he
      rw [HM.out] at ha ⊢
      have hr : ∃ ad cap, Ending.returned (.slice adk ((s.size + 7) / 8) capk) = .returned (.slice ad ((s.size + 7) / 8) cap) ∧ At wr ad ((words (bytesOf s) ((s.size + 7) / 8)).map wv) ∧ w.grownBy wr none := ⟨adk, capk, rfl, ha, hg⟩
      have HR := Lib.hid hr
      clear hr hown ha HM
      go_wp2
      go_ret
      exact HR.out
end Go.Proofs.Ytingkjmbeloepaa
