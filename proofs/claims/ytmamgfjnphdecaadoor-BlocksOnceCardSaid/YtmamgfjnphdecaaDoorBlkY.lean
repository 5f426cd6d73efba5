/- What BlocksOnce wants besides: is a block used; the law's own array; a list tells nothing twice. -/
import Derived.Test.YtmamgfjnphdecaaDoorPk29
import Derived.Test.YtmamgfjnphdecaaDoorPk25
namespace Go.Proofs.YtmamgfjnphdecaaDoor
open Go.RowKit Go.Grommet
set_option linter.unusedVariables false

set_option maxRecDepth 100000 in
set_option maxHeartbeats 1000000 in
theorem UsedH (kv kI kB kA g a b c XI XB XA : Nat) (xs : List Nat) (L : List (Nat × Nat)) (n : Int) (r : Bool) (w0 w : World) (Ps : List Pr) (h : Grommet.Own w0 w Ps) (hA : AlcIs Ps kv kI kB kA g a b c XI XB XA xs L)
    (hr : getM xs L (272 + 208 * a) c n = r) :
    Calls Tryd.prog 17 #[.pointer (some ⟨XA, 0, none⟩), .int .i64 n] w fun e w' => e = .returned (.bool r) ∧ Grommet.Own w0 w' Ps := by
  obtain ⟨c0, c1, c2, c3, c4, c5⟩ := (AS.of h hA.al).cells
  have HG := Lib.hid (MGetH kv kB XB g (272 + 208 * a) c xs L n w0 w Ps h hA.view hA.mb hA.okB r hr)
  have HO := Lib.hid h
  clear h hA hr
  go_enter Tryd.func17, Tryd.ntmps17
  go_wp2_with fail
  refine HG.out.mono ?_
  rintro e w1 ⟨rfl, hg⟩
  have HO1 := Lib.hid (HO.out.quiet hg)
  clear hg
  go_wp2
  go_ret
  exact ⟨rfl, HO1.out⟩
/-- The law's arrays. -/
def hasC (f : Nat → Bool) : Array Value := ((List.range 64).map fun n => Value.bool (f n)).toArray
theorem hasC_get (f : Nat → Bool) (n : Nat) (h : n < 64) : (hasC f)[n]? = some (.bool (f n)) := by
  unfold hasC; rw [List.getElem?_toArray, List.getElem?_map, List.getElem?_range h]; rfl
theorem hasC_size (f : Nat → Bool) : (hasC f).size = 64 := by unfold hasC; simp
theorem hasC_ext (f : Nat → Bool) (cs : Array Value) (hs : cs.size = 64) (h : ∀ n, n < 64 → cs[n]? = some (.bool (f n))) : cs = hasC f := by
  apply Array.ext_getElem?
  intro n
  by_cases hn : n < 64
  · rw [h n hn, hasC_get f n hn]
  · rw [Array.getElem?_eq_none (by omega), Array.getElem?_eq_none (by rw [hasC_size]; omega)]
theorem hasC_none (f : Nat → Bool) (h : ∀ n, f n = false) : Array.replicate 64 (Value.bool false) = hasC f := by
  refine hasC_ext f _ (by simp) (fun n hn => ?_)
  rw [Array.getElem?_replicate, if_pos hn, h n]
theorem hasC_on (f : Nat → Bool) (n : Nat) (h : n < 64) : (hasC f).setIfInBounds n (.bool true) = hasC (fun i => if i = n then true else f i) := by
  refine hasC_ext _ _ (by simp [hasC_size]) (fun i hi => ?_)
  by_cases e : n = i
  · subst e
    rw [Array.getElem?_setIfInBounds_self_of_lt (by rw [hasC_size]; exact hi)]
    simp
  · rw [Array.getElem?_setIfInBounds_ne e, hasC_get _ _ hi]
    simp [show ¬ i = n from fun x => e x.symm]
theorem lst_nodup {p : Nat → Nat} (h : ∀ i j, i ≤ 12 → j ≤ 12 → p i ≠ 0 → p i = p j → i = j) : (lst p).Nodup := by
  unfold lst
  rw [List.nodup_iff_pairwise_ne, List.pairwise_filter, List.pairwise_map]
  refine List.Pairwise.imp_of_mem (R := fun a b => a < b) (fun {a b} ha hb hab hp hq e => ?_) (List.pairwise_lt_range)
  have := h a b (by have := List.mem_range.1 ha; omega) (by have := List.mem_range.1 hb; omega) (by simpa using hp) e
  omega
theorem not_mem_take {L : List Nat} (h : L.Nodup) (j : Nat) (hj : j < L.length) : L[j] ∉ L.take j := by
  intro hm
  obtain ⟨i, hi, e⟩ := List.getElem_of_mem hm
  rw [List.length_take] at hi
  rw [List.getElem_take] at e
  exact (List.pairwise_iff_getElem.1 h) i j (by omega) hj (by omega) e
theorem getM_yes {xs : List Nat} {L : List (Nat × Nat)} {A m v : Nat} (hv : v < m) (hb : mbit xs L A v = true) : getM xs L A m (v : Int) = true := by
  unfold getM
  rw [show inB (v : Int) m = true by unfold inB; simp; omega, Int.toNat_natCast, hb]
  rfl
theorem Bst.used {I B : Nat} {ns : Nat → Prop} {f0 : Nat → Nat} {xs : List Nat} {L : List (Nat × Nat)} {P : Nat → Nat → Nat} (h : Bst I B ns f0 xs L P) {n k : Nat} (hn : ns n) (hk : k ≤ 12) (h0 : P n k ≠ 0) : getM xs L (272 + 208 * 1) B (P n k : Int) = true := by
  have hl := h.lk.lt n k hn hk
  have h64 := h.b64
  refine getM_yes hl ?_
  rw [mbit_480 (by omega)]
  exact (h.lk.bit _ (by omega)).2 (.inr ⟨n, k, hn, hk, rfl⟩)
theorem needK_zero {P : Nat → Nat → Nat} {n k : Nat} (h : P n k = 0) : needK P n k ≠ 0 := by
  unfold needK
  rw [if_neg (by omega)]
  split <;> omega
end Go.Proofs.YtmamgfjnphdecaaDoor
