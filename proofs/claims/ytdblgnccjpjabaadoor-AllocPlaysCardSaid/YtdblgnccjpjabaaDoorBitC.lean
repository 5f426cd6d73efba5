/- The library's counts of bits. -/
import Derived.Test.YtdblgnccjpjabaaDoorBitB
import Derived.Test.YtdblgnccjpjabaaDoorTabG
-- OPTIONAL
namespace Go.Proofs.YtdblgnccjpjabaaDoor
open Go.RowKit Go.Grommet

theorem and_i64 (K : Nat) (h : K < 9223372036854775808) : bits .and .i64 (K : Int) 127 = ((K % 128 : Nat) : Int) := by
  have e : K &&& 127 = K % 128 := Nat.and_two_pow_sub_one_eq_mod K 7
  show IntKind.i64.wrap (((BitVec.ofInt 64 (K : Int)) &&& (BitVec.ofInt 64 (127 : Int))).toNat : Int) = _
  rw [BitVec.toNat_and, BitVec.ofInt_natCast, BitVec.toNat_ofNat, show (BitVec.ofInt 64 (127 : Int)).toNat = 127 from by decide, Nat.mod_eq_of_lt (by omega), e]
  exact IntWalk.i64_in _ ⟨by omega, by omega⟩
theorem and_u64 (K M : Nat) (hk : K < 18446744073709551616) (hm : M < 18446744073709551616) (T : Nat) (h : K &&& M = T) (k m : Int) (ek : k = (K : Int)) (em : m = (M : Int)) : bits .and .u64 k m = (T : Int) := by
  subst ek em h; exact u64_and_nat K M hk hm
theorem wrap_u64 (K : Nat) (hk : K < 18446744073709551616) (k : Int) (ek : k = (K : Int)) : IntKind.u64.wrap k = (K : Int) := by
  subst ek; exact IntWalk.u64_in _ ⟨by omega, by omega⟩

set_option maxRecDepth 100000 in
theorem pop_any (x : Nat) (w : World) (h : x < 18446744073709551616) : Calls Tryd.prog 79 #[.int .u64 (x : Int)] w fun e w' => e = .returned (.int .i64 ((popW x : Nat) : Int)) ∧ w = w' := by
  have HP := popS_eq x h
  unfold popS gp at HP
  simp only at HP
  have l1 : x / 2 &&& 6148914691236517205 ≤ 6148914691236517205 := Nat.and_le_right
  have l2 : x &&& 6148914691236517205 ≤ 6148914691236517205 := Nat.and_le_right
  have e1 := and_u64 (x / 2) 6148914691236517205 (by omega) (by decide) _ rfl ((x : Int) / 2) 6148914691236517205 (by omega) (by rfl)
  have e2 := and_u64 x 6148914691236517205 h (by decide) _ rfl (x : Int) 6148914691236517205 rfl (by rfl)
  generalize x / 2 &&& 6148914691236517205 = A at *
  generalize x &&& 6148914691236517205 = B at *
  have w1 := wrap_u64 (A + B) (by omega) ((A : Int) + (B : Int)) (by omega)
  generalize hC : A + B = C at *
  have e3 := and_u64 (C / 4) 3689348814741910323 (by omega) (by decide) _ rfl ((C : Int) / 4) 3689348814741910323 (by omega) (by rfl)
  have e4 := and_u64 C 3689348814741910323 (by omega) (by decide) _ rfl (C : Int) 3689348814741910323 rfl (by rfl)
  have l3 : C / 4 &&& 3689348814741910323 ≤ 3689348814741910323 := Nat.and_le_right
  have l4 : C &&& 3689348814741910323 ≤ 3689348814741910323 := Nat.and_le_right
  generalize C / 4 &&& 3689348814741910323 = D at *
  generalize C &&& 3689348814741910323 = E at *
  have w2 := wrap_u64 (D + E) (by omega) ((D : Int) + (E : Int)) (by omega)
  generalize hF : D + E = F at *
  have w3 := wrap_u64 (F / 16 + F) (by omega) ((F : Int) / 16 + (F : Int)) (by omega)
  generalize hG : F / 16 + F = G at *
  have e5 := and_u64 G 1085102592571150095 (by omega) (by decide) _ rfl (G : Int) 1085102592571150095 rfl (by rfl)
  have l5 : G &&& 1085102592571150095 ≤ 1085102592571150095 := Nat.and_le_right
  generalize G &&& 1085102592571150095 = H at *
  have w4 := wrap_u64 (H + H / 256) (by omega) ((H : Int) + (H : Int) / 256) (by omega)
  generalize hI : H + H / 256 = I at *
  have w5 := wrap_u64 (I + I / 65536) (by omega) ((I : Int) + (I : Int) / 65536) (by omega)
  generalize hJ : I + I / 65536 = J at *
  have w6 := wrap_u64 (J + J / 4294967296) (by omega) ((J : Int) + (J : Int) / 4294967296) (by omega)
  generalize hK : J + J / 4294967296 = K at *
  have w7 : IntKind.i64.wrap (K : Int) = (K : Int) := IntWalk.i64_in _ ⟨by omega, by omega⟩
  have e6 := and_i64 K (by omega)
  replace HP := Lib.hid HP
  rw [← HP.out]
  generalize K % 128 = R at *
  clear HP l1 l2 l3 l4 l5 hC hF hG hI hJ hK
  have h := Lib.hid h
  go_enter Tryd.func79, Tryd.ntmps79
  go_wp2
  go_ret
  exact ⟨rfl, rfl⟩

end Go.Proofs.YtdblgnccjpjabaaDoor
