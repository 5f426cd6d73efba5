/- The document's own number, walked. -/
import Derived.Test.YtlphmpimpeekcaaOctL
import Derived.Test.YtlphmpimpeekcaaBackMath
namespace Go.Proofs.Ytlphmpimpeekcaa
open Go.RowKit Go.Grommet

theorem bv_at {w : World} {ad : Option Addr} {bs : List UInt8} (h : At w ad (bs.map bv)) (k : Nat) (hk : k < bs.length) :
    ∃ q o, ad = some ⟨q, o, none⟩ ∧ w.cell? ⟨q, o + k, none⟩ = some (.int .u8 ((bs.getD k 0).toNat : Int)) := by
  obtain ⟨q, o, he, hc⟩ := h k (bv (bs.getD k 0)) (by simp [hk])
  exact ⟨q, o, he, hc⟩

/-- What 'number' answers. -/
def numR (bs : List UInt8) : Nat × Nat := (numAt bs).getD (0, 0)

def NumRIs (bs : List UInt8) (w : World) (e : Ending) (w' : World) : Prop := e = .returned (.tuple #[.int .u64 ((numR bs).1 : Int), .int .i64 ((numR bs).2 : Int)]) ∧ w = w'

theorem numRIs_mk {bs : List UInt8} {w : World} {n k : Nat} (h : numR bs = (n, k)) : NumRIs bs w (.returned (.tuple #[.int .u64 (n : Int), .int .i64 (k : Int)])) w := by
  unfold NumRIs; rw [h]; exact ⟨rfl, rfl⟩

theorem numR_nil : numR [] = (0, 0) := rfl
theorem numR_bad (c : UInt8) (r : List UInt8) (h : 8 < c.toNat ∨ r.length < c.toNat ∨ (0 < c.toNat ∧ r.getD (c.toNat - 1) 0 = 0)) : numR (c :: r) = (0, 0) := by
  unfold numR; rw [numAt_cons, if_neg]
  · rfl
  · intro ⟨a, b, d⟩
    rcases h with h | h | h
    · omega
    · omega
    · rcases d with d | d
      · omega
      · exact d h.2
theorem numR_good (c : UInt8) (r : List UInt8) (h1 : c.toNat ≤ 8) (h2 : c.toNat ≤ r.length) (h3 : c.toNat = 0 ∨ r.getD (c.toNat - 1) 0 ≠ 0) : numR (c :: r) = (val (r.take c.toNat), 1 + c.toNat) := by
  unfold numR; rw [numAt_cons, if_pos ⟨h1, h2, h3⟩]; rfl

theorem val_drop (l : List UInt8) (i : Nat) (h : i < l.length) : val (l.drop i) = (l.getD i 0).toNat + 256 * val (l.drop (i + 1)) := by
  rw [List.drop_eq_getElem_cons h]
  simp only [val]
  rw [List.getD_eq_getElem?_getD, List.getElem?_eq_getElem h]; rfl

set_option maxHeartbeats 1000000 in
theorem refnumber_any (ad : Option Addr) (l cap : Nat) (bs : List UInt8) (w : World) (hl : bs.length = l) (hat : At w ad (bs.map bv)) (hb : l ≤ 1048576) :
    Calls Try.prog 55 #[.slice ad l cap] w (NumRIs bs w) := by
  cases bs with
  | nil =>
    obtain rfl : l = 0 := hl.symm
    have hr := numRIs_mk (w := w) numR_nil
    go_enter Try.func55, Try.ntmps55
    go_wp2
    go_ret2
    exact hr
  | cons c r =>
    rw [List.length_cons] at hl
    have hat0 := hat
    obtain ⟨q, o, rfl, c0⟩ := bv_at hat 0 (by simp)
    rw [List.getD_cons_zero, Nat.add_zero] at c0
    have HL := Lib.hid hl
    obtain ⟨m, Hm⟩ : ∃ m, Hid (m = c.toNat) := ⟨_, Lib.hid rfl⟩
    rw [← Hm.out] at c0
    have hl0 : ((l : Int) == 0) = false := by simp; omega
    have hl1 : (0 : Int) < (l : Int) := by omega
    by_cases h8 : 8 < m
    · have h8' : (8 : Int) < (m : Int) := by omega
      have hr := numRIs_mk (w := w) (numR_bad c r (Or.inl (by rw [← Hm.out]; exact h8)))
      clear hl
      go_enter Try.func55, Try.ntmps55
      go_wp2
      go_ret2
      exact hr
    · have h8' : ¬ (8 : Int) < (m : Int) := by omega
      have hm0 : (0 : Int) ≤ (m : Int) := by omega
      by_cases hs : l < 1 + m
      · have hs' : (l : Int) < 1 + (m : Int) := by omega
        have hr := numRIs_mk (w := w) (numR_bad c r (Or.inr (Or.inl (by rw [← Hm.out]; omega))))
        clear hl
        go_enter Try.func55, Try.ntmps55
        go_wp2
        go_ret2
        exact hr
      · have hs' : ¬ (l : Int) < 1 + (m : Int) := by omega
        have hrl : m ≤ r.length := by omega
        clear hl
        go_enter Try.func55, Try.ntmps55
        go_wp2_with fail
        go_loop [5, 6] (fun n i => ∃ k : Nat, k ≤ m ∧ i = .int .i64 (k : Int) ∧ n = .int .u64 ((val ((r.take m).drop k) : Nat) : Int)) (fun _ i => (intOf i).toNat)
        case atStart => exact ⟨m, Nat.le_refl _, rfl, by rw [List.drop_of_length_le (by rw [List.length_take]; omega)]; rfl⟩
        case round =>
          obtain ⟨k, hk, rfl, rfl⟩ := hrel
          by_cases hlt : 1 ≤ k
          · have hlt' : (1 : Int) ≤ (k : Int) := by omega
            have b0 : (0 : Int) ≤ (k : Int) := by omega
            have b1 : (k : Int) < (l : Int) := by omega
            obtain ⟨q', o', he, ck⟩ := bv_at hat0 k (by rw [List.length_cons]; omega)
            cases he
            have hg : (c :: r).getD k 0 = (r.take m).getD (k - 1) 0 := by
              obtain ⟨j, rfl⟩ : ∃ j, k = j + 1 := ⟨k - 1, by omega⟩
              rw [Nat.add_sub_cancel, List.getD_cons_succ, List.getD_eq_getElem?_getD, List.getD_eq_getElem?_getD, List.getElem?_take, if_pos (by omega)]
            rw [hg] at ck
            have hv := val_drop (r.take m) (k - 1) (by rw [List.length_take]; omega)
            rw [Nat.sub_add_cancel hlt] at hv
            have hb1 := val_lt ((r.take m).drop k)
            have hb2 : 256 ^ ((r.take m).drop k).length ≤ 256 ^ 7 := Nat.pow_le_pow_right (by decide) (by rw [List.length_drop, List.length_take]; omega)
            have hb3 : val ((r.take m).drop k) < 72057594037927936 := Nat.lt_of_lt_of_le hb1 hb2
            obtain ⟨d, Hd⟩ : ∃ d, Hid (d = ((r.take m).getD (k - 1) 0).toNat) := ⟨_, Lib.hid rfl⟩
            have hd : d < 256 := by rw [Hd.out]; exact UInt8.toNat_lt _
            rw [← Hd.out] at ck hv
            generalize val ((r.take m).drop k) = V at hv hb3 ⊢
            have HV := Lib.hid hv
            have w1 : IntKind.u64.wrap ((V : Int) * 256) = (V : Int) * 256 := IntWalk.u64_in _ ⟨by omega, by omega⟩
            have w2 : IntKind.u64.wrap ((V : Int) * 256 + (d : Int)) = (V : Int) * 256 + (d : Int) := IntWalk.u64_in _ ⟨by omega, by omega⟩
            clear hv hg hb1 hb2
            go_wp2
            go_round
            case rel => exact ⟨k - 1, by omega, by first | go_num | (congr 1; omega), by rw [HV.out]; congr 1; omega⟩
            case measure => simp [intOf]; omega
          · obtain rfl : k = 0 := by omega
            rw [List.drop_zero]
            by_cases hm : 0 < m
            · have hm' : (0 : Int) < (m : Int) := by omega
              have b1 : (m : Int) < (l : Int) := by omega
              obtain ⟨q', o', he, ck⟩ := bv_at hat0 m (by rw [List.length_cons]; omega)
              cases he
              have hg : (c :: r).getD m 0 = r.getD (m - 1) 0 := by
                obtain ⟨j, rfl⟩ : ∃ j, m = j + 1 := ⟨m - 1, by omega⟩
                rw [Nat.add_sub_cancel, List.getD_cons_succ]
              rw [hg] at ck
              by_cases hz : r.getD (m - 1) 0 = 0
              · have hr := numRIs_mk (w := w) (numR_bad c r (Or.inr (Or.inr (by rw [← Hm.out]; exact ⟨hm, hz⟩))))
                rw [hz] at ck
                have ck' : w.cell? ⟨q, o + m, none⟩ = some (.int .u8 0) := ck
                clear ck hg hz
                go_wp2
                go_ret2
                exact hr
              · have hr := numRIs_mk (w := w) (numR_good c r (by rw [← Hm.out]; omega) (by rw [← Hm.out]; omega) (Or.inr (by rw [← Hm.out]; exact hz)))
                rw [← Hm.out, show ((1 + m : Nat) : Int) = 1 + (m : Int) from by omega] at hr
                have hz' : (((r.getD (m - 1) 0).toNat : Int) == 0) = false := by
                  simp only [beq_eq_false_iff_ne, ne_eq]
                  intro h
                  exact hz (UInt8.toNat_inj.1 (by show _ = 0; omega))
                have HR := Lib.hid hr
                clear hg hz hr
                generalize (r.getD (m - 1) 0).toNat = D at ck hz'
                go_wp2
                go_ret2
                exact HR.out
            · obtain rfl : m = 0 := by omega
              have hr := numRIs_mk (w := w) (numR_good c r (by rw [← Hm.out]; omega) (by rw [← Hm.out]; omega) (Or.inl Hm.out.symm))
              rw [← Hm.out] at hr
              have HR := Lib.hid hr
              clear hr
              go_wp2
              go_ret2
              exact HR.out
end Go.Proofs.Ytlphmpimpeekcaa
