/- Texts of ours, packed. -/
import Derived.RowKit
import Derived.IntWalk
import Derived.Laws.BitsAllLaws
import Derived.Laws.Bits64
import Derived.Laws.Bits64b
section
/- A sum over words: plain mathematics. -/
namespace Go.Grommet
open Go.RowKit

/-- One word more. -/
def stp (s n : Nat) : Nat := ((s ^^^ n) * 1099511628211) % 18446744073709551616
def sum0 : Nat := 14695981039346656037
def sumN (ws : List Nat) : Nat := ws.foldl stp sum0

theorem stp_lt (s n : Nat) : stp s n < 18446744073709551616 := Nat.mod_lt _ (by decide)
theorem sum0_lt : sum0 < 18446744073709551616 := by decide
theorem foldl_stp_lt (ws : List Nat) : ∀ s, s < 18446744073709551616 → ws.foldl stp s < 18446744073709551616 := by
  induction ws with
  | nil => intro s h; exact h
  | cons a t ih => intro s _; exact ih _ (stp_lt _ _)
theorem sumN_lt (ws : List Nat) : sumN ws < 18446744073709551616 := foldl_stp_lt ws _ sum0_lt
theorem sumN_snoc (ws : List Nat) (n : Nat) : sumN (ws ++ [n]) = stp (sumN ws) n := by
  unfold sumN
  rw [List.foldl_append, List.foldl_cons, List.foldl_nil]

theorem xor_lt (a b : Nat) (ha : a < 18446744073709551616) (hb : b < 18446744073709551616) : a ^^^ b < 18446744073709551616 := by
  have h : a ^^^ b < 2 ^ 64 := Nat.xor_lt_two_pow (by omega) (by omega)
  omega

theorem mul_inj_gen (M p q k a b : Nat) (hc : p * q = M * k + 1) (ha : a < M) (hb : b < M) (h : a * p % M = b * p % M) : a = b := by
  have h1 : (a * p % M) * q % M = (b * p % M) * q % M := by rw [h]
  rw [Nat.mod_mul_mod, Nat.mod_mul_mod, Nat.mul_assoc, Nat.mul_assoc, hc] at h1
  have e : ∀ x, x * (M * k + 1) % M = x % M := by
    intro x
    rw [Nat.mul_add, Nat.mul_one, Nat.mul_left_comm, Nat.mul_add_mod]
  rw [e, e, Nat.mod_eq_of_lt ha, Nat.mod_eq_of_lt hb] at h1
  exact h1

theorem mul_inj (a b : Nat) (ha : a < 18446744073709551616) (hb : b < 18446744073709551616) (h : a * 1099511628211 % 18446744073709551616 = b * 1099511628211 % 18446744073709551616) : a = b :=
  mul_inj_gen 18446744073709551616 1099511628211 14886173955864302971 887285111055 a b (by decide) ha hb h

theorem xor_cancel_right (a b n : Nat) (h : a ^^^ n = b ^^^ n) : a = b := by
  have : (a ^^^ n) ^^^ n = (b ^^^ n) ^^^ n := by rw [h]
  rwa [Nat.xor_assoc, Nat.xor_assoc, Nat.xor_self, Nat.xor_zero, Nat.xor_zero] at this
theorem xor_cancel_left (a n m : Nat) (h : a ^^^ n = a ^^^ m) : n = m := by
  rw [Nat.xor_comm a n, Nat.xor_comm a m] at h; exact xor_cancel_right _ _ _ h

theorem stp_inj_left (a b n : Nat) (ha : a < 18446744073709551616) (hb : b < 18446744073709551616) (hn : n < 18446744073709551616) (h : stp a n = stp b n) : a = b :=
  xor_cancel_right _ _ _ (mul_inj _ _ (xor_lt _ _ ha hn) (xor_lt _ _ hb hn) h)
theorem stp_inj_right (a n m : Nat) (ha : a < 18446744073709551616) (hn : n < 18446744073709551616) (hm : m < 18446744073709551616) (h : stp a n = stp a m) : n = m :=
  xor_cancel_left _ _ _ (mul_inj _ _ (xor_lt _ _ ha hn) (xor_lt _ _ ha hm) h)

theorem foldl_stp_inj (ws : List Nat) : ∀ a b, (∀ n ∈ ws, n < 18446744073709551616) → a < 18446744073709551616 → b < 18446744073709551616 → ws.foldl stp a = ws.foldl stp b → a = b := by
  induction ws with
  | nil => intro a b _ _ _ h; exact h
  | cons x t ih =>
    intro a b hw ha hb h
    exact stp_inj_left _ _ x ha hb (hw x (by simp)) (ih _ _ (fun n hn => hw n (by simp [hn])) (stp_lt _ _) (stp_lt _ _) h)

/-- Unlike in one word alone. -/
theorem sumN_set (ws : List Nat) (k v : Nat) (hk : k < ws.length) (hw : ∀ n ∈ ws, n < 18446744073709551616) (hv : v < 18446744073709551616) : (sumN (ws.set k v) = sumN ws) ↔ v = ws.getD k 0 := by
  have hg : ws.getD k 0 = ws[k] := by simp [hk]
  constructor
  · intro h
    have e1 : ws = ws.take k ++ ws[k] :: ws.drop (k + 1) := by simp
    have e2 : ws.set k v = ws.take k ++ v :: ws.drop (k + 1) := by rw [List.set_eq_take_append_cons_drop, if_pos hk]
    rw [e2] at h
    have h' : sumN (ws.take k ++ v :: ws.drop (k + 1)) = sumN (ws.take k ++ ws[k] :: ws.drop (k + 1)) := by rw [← e1]; exact h
    simp only [sumN, List.foldl_append, List.foldl_cons] at h'
    have h2 := foldl_stp_inj _ _ _ (fun n hn => hw n (List.mem_of_mem_drop hn)) (stp_lt _ _) (stp_lt _ _) h'
    rw [hg]
    exact stp_inj_right _ _ _ (foldl_stp_lt _ _ sum0_lt) hv (hw _ (List.getElem_mem hk)) h2
  · intro h
    subst h
    rw [hg, List.set_getElem_self]

theorem wrap_u64_nat (n : Nat) : IntKind.u64.wrap (n : Int) = ((n % 18446744073709551616 : Nat) : Int) := by
  simp [IntKind.wrap, IntKind.bits, IntKind.signed]

theorem stp_int (s n : Nat) (hs : s < 18446744073709551616) (hn : n < 18446744073709551616) : IntKind.u64.wrap (bits .xor .u64 (s : Int) (n : Int) * 1099511628211) = ((stp s n : Nat) : Int) := by
  rw [bits_xor_u64_nat _ _ hs hn]
  have : ((s ^^^ n : Nat) : Int) * 1099511628211 = (((s ^^^ n) * 1099511628211 : Nat) : Int) := by simp
  rw [this, wrap_u64_nat]
  rfl
end Go.Grommet
end
