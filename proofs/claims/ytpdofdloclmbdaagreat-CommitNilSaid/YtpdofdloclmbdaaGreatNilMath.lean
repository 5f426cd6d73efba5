/- CommitNil: the document's Over is the program's. -/
import Derived.Test.YtpdofdloclmbdaaGreatComC
-- OPTIONAL
namespace Go.Proofs.YtpdofdloclmbdaaGreat
open Go.RowKit Go.Grommet

theorem set_getD_ne {xs : List Nat} {o v i : Nat} (h : i ≠ o) : (xs.set o v).getD i 0 = xs.getD i 0 := by rw [getD_set, if_neg (fun e => h e.1)]
/-- What the document does first: all writes. -/
def aplS (a b c : Int) (xs : List Nat) : Nat → List Nat
  | 0 => xs
  | k + 1 => if commB a b c xs (264 + 208 * k) = true then appl (aplS a b c xs k) (commM xs (264 + 208 * k)) else aplS a b c xs k
/-- And then: all areas are 0. -/
def zapS (ys : List Nat) : Nat → List Nat
  | 0 => ys
  | k + 1 => zap (zapS ys k) (264 + 208 * k) 208
theorem aplS_length (a b c : Int) (xs : List Nat) : ∀ k, (aplS a b c xs k).length = xs.length
  | 0 => rfl
  | k + 1 => by
    rw [aplS]
    split
    · rw [appl_length]; exact aplS_length a b c xs k
    · exact aplS_length a b c xs k
theorem zapS_length (ys : List Nat) : ∀ k, (zapS ys k).length = ys.length
  | 0 => rfl
  | k + 1 => by rw [zapS, zap_length]; exact zapS_length ys k
theorem zapS_get (ys : List Nat) (i : Nat) : ∀ k, 264 + 208 * k ≤ ys.length → (zapS ys k).getD i 0 = if 264 ≤ i ∧ i < 264 + 208 * k then 0 else ys.getD i 0
  | 0, _ => by rw [if_neg (by omega)]; rfl
  | k + 1, h => by
    rw [zapS, zap_get _ _ _ _ (by rw [zapS_length]; omega), zapS_get ys i k (by omega)]
    by_cases h1 : 264 + 208 * k ≤ i ∧ i < 264 + 208 * k + 208
    · rw [if_pos h1, if_pos (by omega)]
    · rw [if_neg h1]
      by_cases h2 : 264 ≤ i ∧ i < 264 + 208 * k
      · rw [if_pos h2, if_pos (by omega)]
      · rw [if_neg h2, if_neg (by omega)]
theorem appl_zone {i : Nat} : ∀ (M : List (Int × Nat)) (ys : List Nat), (∀ p ∈ M, p.1.toNat ≠ i) → (appl ys M).getD i 0 = ys.getD i 0
  | [], _, _ => rfl
  | p :: t, ys, h => by
    have := appl_zone t (ys.set p.1.toNat p.2) (fun r hr => h r (List.mem_cons_of_mem _ hr))
    rw [set_getD_ne (fun e => h p (List.mem_cons_self ..) e.symm)] at this
    exact this
theorem appl_agree {Z : Nat → Prop} : ∀ (M : List (Int × Nat)) (ys zs : List Nat), ys.length = zs.length → (∀ i, ¬ Z i → ys.getD i 0 = zs.getD i 0) → ∀ i, ¬ Z i → (appl ys M).getD i 0 = (appl zs M).getD i 0
  | [], _, _, _, h, i, hi => h i hi
  | p :: t, ys, zs, hl, h, i, hi => by
    refine appl_agree t (ys.set p.1.toNat p.2) (zs.set p.1.toNat p.2) (by rw [List.length_set, List.length_set]; exact hl) (fun j hj => ?_) i hi
    rw [getD_set, getD_set, hl]
    split
    · rfl
    · exact h j hj
theorem over_apl {a : Nat} {b c : Int} {xs : List Nat} (hm : mayB (a : Int) b c = true) (hl : 264 + 208 * a ≤ xs.length) : ∀ k, k ≤ a → ∀ i, (overS (a : Int) b c xs k).getD i 0 = if 264 ≤ i ∧ i < 264 + 208 * k then 0 else (aplS (a : Int) b c xs k).getD i 0
  | 0, _, i => by rw [if_neg (by omega)]; rfl
  | k + 1, hk, i => by
    have ih := over_apl hm hl k (by omega)
    have hstep : (if commB (a : Int) b c xs (264 + 208 * k) = true then appl (overS (a : Int) b c xs k) (commM xs (264 + 208 * k)) else overS (a : Int) b c xs k).getD i 0 = if 264 ≤ i ∧ i < 264 + 208 * k then 0 else (aplS (a : Int) b c xs (k + 1)).getD i 0 := by
      rw [aplS]
      by_cases hc : commB (a : Int) b c xs (264 + 208 * k) = true
      · rw [if_pos hc, if_pos hc]
        have hok := comm_ok hm hc
        by_cases hz : 264 ≤ i ∧ i < 264 + 208 * k
        · rw [if_pos hz, appl_zone _ _ (fun p hp e => by have := hok p hp; omega), ih i, if_pos hz]
        · rw [if_neg hz]
          exact appl_agree (Z := fun i => 264 ≤ i ∧ i < 264 + 208 * k) _ _ _ (by rw [overS_length, aplS_length]) (fun j hj => by rw [ih j, if_neg hj]) i hz
      · rw [if_neg hc, if_neg hc]
        exact ih i
    have hlen : (if commB (a : Int) b c xs (264 + 208 * k) = true then appl (overS (a : Int) b c xs k) (commM xs (264 + 208 * k)) else overS (a : Int) b c xs k).length = xs.length := by
      split
      · rw [appl_length, overS_length]
      · rw [overS_length]
    rw [overS, zap_get _ _ _ _ (by rw [hlen]; omega), hstep]
    by_cases h1 : 264 + 208 * k ≤ i ∧ i < 264 + 208 * k + 208
    · rw [if_pos h1, if_pos (by omega)]
    · rw [if_neg h1]
      by_cases h2 : 264 ≤ i ∧ i < 264 + 208 * k
      · rw [if_pos h2, if_pos (by omega)]
      · rw [if_neg h2, if_neg (by omega)]
theorem list_getD_extN {xs ys : List Nat} (hl : xs.length = ys.length) (h : ∀ i, xs.getD i 0 = ys.getD i 0) : xs = ys := by
  apply List.ext_getElem?
  intro i
  have := h i
  rw [List.getD_eq_getElem?_getD, List.getD_eq_getElem?_getD] at this
  by_cases hi : i < xs.length
  · rw [List.getElem?_eq_getElem hi, List.getElem?_eq_getElem (by omega)] at this ⊢
    exact congrArg some this
  · rw [List.getElem?_eq_none (by omega), List.getElem?_eq_none (by omega)]
/-- Both make the same words. -/
theorem over_same {a : Nat} {b c : Int} {xs : List Nat} (hm : mayB (a : Int) b c = true) (hl : 264 + 208 * a ≤ xs.length) : overS (a : Int) b c xs a = zapS (aplS (a : Int) b c xs a) a :=
  list_getD_extN (by rw [overS_length, zapS_length, aplS_length]) (fun i => by rw [over_apl hm hl a (Nat.le_refl _) i, zapS_get _ _ _ (by rw [aplS_length]; exact hl)])
theorem zap_succ (ys : List Nat) (o : Nat) : ∀ n, zap ys o (n + 1) = (zap ys o n).set (o + n) 0
  | 0 => by simp [zap, putL]
  | n + 1 => by
    have := zap_succ (ys.set o 0) (o + 1) n
    unfold zap at *
    rw [List.replicate_succ, putL, this, show o + 1 + n = o + (n + 1) from by omega, List.replicate_succ, putL]
end Go.Proofs.YtpdofdloclmbdaaGreat
