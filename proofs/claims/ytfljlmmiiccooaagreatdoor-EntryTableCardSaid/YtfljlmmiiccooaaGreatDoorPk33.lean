import Derived.Test.YtfljlmmiiccooaaGreatDoorPk32
import Derived.Test.YtfljlmmiiccooaaGreatDoorPk28
set_option maxRecDepth 100000
set_option maxHeartbeats 4000000
section
namespace Go.Proofs.YtfljlmmiiccooaaGreatDoor
open Go.RowKit Go.Grommet
set_option linter.unusedVariables false
theorem byteAt_val (l : List UInt8) (i : Nat) : byteAt (val l) i = l.getD i 0 := by
 induction l generalizing i with
 | nil => simp [val, byteAt]
 | cons c t ih =>
  cases i with
  | zero =>
   apply UInt8.toNat_inj.1
   rw [byteAt_toNat]
   have := c.toNat_lt
   simp only [val, Nat.pow_zero, Nat.div_one, List.getD_cons_zero]
   omega
  | succ j =>
   rw [List.getD_cons_succ, ← ih j]
   apply UInt8.toNat_inj.1
   rw [byteAt_toNat, byteAt_toNat]
   simp only [val]
   rw [Nat.pow_succ, Nat.mul_comm (256 ^ j) 256, ← Nat.div_div_eq_div_mul]
   have := c.toNat_lt
   rw [show (c.toNat + 256 * val t) / 256 = val t from by omega]
theorem byteAt_word (bs : List UInt8) (j i : Nat) (hi : i < 8) : byteAt (word bs j) i = bs.getD (8 * j + i) 0 := by
 unfold word
 rw [byteAt_val]
 simp only [List.getD_eq_getElem?_getD]
 rw [List.getElem?_take, if_pos hi, List.getElem?_drop]
theorem unpack_words (bs : List UInt8) (f : Nat → Nat) (m : Nat) (hm : bs.length ≤ 8 * m) (hf : ∀ j, j < m → f j = word bs j) (ws : List Nat) (hws : ∀ j, j < m → ws.getD j 0 = f j) : unpackB ws bs.length = bs := by
 unfold unpackB
 apply List.ext_getElem
 ·simp
 ·intro i h1 h2
  simp only [List.getElem_map, List.getElem_range]
  rw [hws _ (by omega), hf _ (by omega), byteAt_word _ _ _ (by omega), show 8 * (i / 8) + i % 8 = i from by omega, List.getD_eq_getElem?_getD, List.getElem?_eq_getElem h2]
  rfl
theorem okName_size {s : ByteArray} (h : okName s = true) : 1 ≤ s.size ∧ s.size ≤ 40 := by
 unfold okName at h
 simp only [Bool.and_eq_true, decide_eq_true_eq] at h
 omega
def nmW (f : Nat → Nat) (I : Nat) (P : Nat → Nat → Nat) (n k : Nat) : List Nat := (List.range 6).map fun j => dw f I P n k (2 + j)
structure Est (I B : Nat) (ns : Nat → Prop) (n : Nat) (f0 : Nat → Nat) (xs : List Nat) (L : List (Nat × Nat)) (P : Nat → Nat → Nat) (E : Nat → List UInt8 × Nat) : Prop where
 st : Bst I B ns f0 xs L P
 br : Br ns P
 isn : ns n
 kind : f0 (488 + 16 * n) = 2
 no : ∀ k, k < 12 → P n k = 0 → E k = ([], 0)
 yes : ∀ k, k < 12 → P n k ≠ 0 → dw (gotV xs L) I P n k 0 = (E k).2 ∧ dw (gotV xs L) I P n k 1 = (E k).1.length ∧ unpackB (nmW (gotV xs L) I P n k) (E k).1.length = (E k).1 ∧ okName (str (E k).1) = true ∧ 1 ≤ (E k).2 ∧ (E k).2 < I
theorem Est.rest {I B n : Nat} {ns : Nat → Prop} {f0 : Nat → Nat} {xs : List Nat} {L : List (Nat × Nat)} {P : Nat → Nat → Nat} {E : Nat → List UInt8 × Nat} (h : Est I B ns n f0 xs L P E) (i : Nat) (hi : i < 4 ∨ i = 9) : gotV xs L (488 + 16 * n + i) = f0 (488 + 16 * n + i) := by
 have h1 := h.st.lk.rg n h.isn
 have h2 := h.st.lk.rg
 exact h.st.lk.rest _ (by omega) (by omega) (fun n' hn' hh => by have := h2 n' hn'; omega)
theorem Est.none_iff {I B n : Nat} {ns : Nat → Prop} {f0 : Nat → Nat} {xs : List Nat} {L : List (Nat × Nat)} {P : Nat → Nat → Nat} {E : Nat → List UInt8 × Nat} (h : Est I B ns n f0 xs L P E) {k : Nat} (hk : k < 12) : (E k).1 = [] ↔ P n k = 0 := by
 constructor
 ·intro e
  by_cases h0 : P n k = 0
  ·exact h0
  ·have h4 := okName_size (h.yes k hk h0).2.2.2.1
   rw [e] at h4
   have : (0 : Nat) = (str []).size := rfl
   omega
 ·intro e; rw [h.no k hk e]
theorem Bst.setb {I B : Nat} {ns : Nat → Prop} {f0 : Nat → Nat} {xs : List Nat} {L L' : List (Nat × Nat)} {P : Nat → Nat → Nat} (h : Bst I B ns f0 xs L P) {n k A : Nat} (hn : ns n) (hk : k < 12) (h0 : P n k ≠ 0) (hA : 488 + 16 * I + 8 * P n k = A) (R : ∀ a, a < A ∨ A + 8 ≤ a → gotV xs L' a = gotV xs L a) (hw : Wl xs.length L') :
  Bst I B ns f0 xs L' P ∧ (∀ i q j, ns i → q < 12 → j < 8 → dw (gotV xs L') I P i q j = if i = n ∧ q = k then gotV xs L' (A + j) else dw (gotV xs L) I P i q j) ∧ cntB xs L' B = cntB xs L B := by
 have l := h.lk
 have h1 := l.rg n hn
 refine ⟨⟨h.may, h.b64, h.len, h.small, hw, ⟨l.rg, l.lt, l.one, l.ch0, fun i j hi hj => ?_, fun i hi => ?_, fun i j hi hz h4 h12 => ?_, fun m hm => ?_, fun a ha h480 hno => ?_⟩, h.base⟩, fun i q j hi hq hj => ?_, ?_⟩
 ·have := l.rg i hi
  rw [R _ (by omega)]; exact l.dir i j hi hj
 ·have := l.rg i hi
  rw [R _ (by omega)]; exact l.chn i hi
 ·have hne : P i 12 ≠ P n k := fun e => by have := l.one i n 12 k hi hn (by omega) (by omega) hz e; omega
  rw [R _ (by omega)]; exact l.chd i j hi hz h4 h12
 ·rw [R _ (by omega)]; exact l.bit m hm
 ·rw [R _ (by omega)]; exact l.rest a ha h480 hno
 ·unfold dw
  by_cases e : i = n ∧ q = k
  ·rw [if_pos e, e.1, e.2, if_neg h0, hA]
  ·rw [if_neg e]
   by_cases hz : P i q = 0
   ·rw [if_pos hz, if_pos hz]
   ·have hne : P i q ≠ P n k := fun ee => e (l.one i n q k hi hn (by omega) (by omega) hz ee)
    rw [if_neg hz, if_neg hz, R _ (by omega)]
 ·unfold cntB
  refine cntF_congr _ fun i hi => ?_
  have h64 := h.b64
  rw [mbit_480 (by omega), mbit_480 (by omega), R _ (by omega)]
def setLs (xs : List Nat) (L : List (Nat × Nat)) (A : Nat) (W : List Nat) : Nat → List (Nat × Nat)
 | 0 => L
 | t + 1 => setL xs (setLs xs L A W t) ((A + t : Nat) : Int) (W.getD t 0)
theorem setLs_len (xs : List Nat) (L : List (Nat × Nat)) (A : Nat) (W : List Nat) : ∀ t, (setLs xs L A W t).length ≤ L.length + t
 | 0 => Nat.le_refl _
 | t + 1 => by
  have := setLs_len xs L A W t
  have h := setL_len xs (setLs xs L A W t) ((A + t : Nat) : Int) (W.getD t 0)
  show (setL xs (setLs xs L A W t) ((A + t : Nat) : Int) (W.getD t 0)).length ≤ _
  omega
theorem setLs_got (xs : List Nat) (L : List (Nat × Nat)) (A : Nat) (W : List Nat) : ∀ t, L.length + t ≤ 96 → A + t ≤ xs.length → ∀ a, gotV xs (setLs xs L A W t) a = if A ≤ a ∧ a < A + t then W.getD (a - A) 0 else gotV xs L a
 | 0, _, _, a => by rw [if_neg (by omega)]; rfl
 | t + 1, h, hx, a => by
  have hl := setLs_len xs L A W t
  show gotV xs (setL xs (setLs xs L A W t) ((A + t : Nat) : Int) (W.getD t 0)) a = _
  rw [setL_got (by omega) (by omega), setLs_got xs L A W t (by omega) (by omega)]
  by_cases e : a = A + t
  ·rw [if_pos e, if_pos (by omega), e]; congr 1; omega
  ·rw [if_neg e]
   by_cases e2 : A ≤ a ∧ a < A + t
   ·rw [if_pos e2, if_pos (by omega)]
   ·rw [if_neg e2, if_neg (by omega)]
theorem setLs_wl {xs : List Nat} {L : List (Nat × Nat)} {A : Nat} {W : List Nat} (h : Wl xs.length L) (hs : ∀ n ∈ W, n < 18446744073709551616) : ∀ t, A + t ≤ xs.length → Wl xs.length (setLs xs L A W t)
 | 0, _ => h
 | t + 1, hx => wl_setL (setLs_wl h hs t (by omega)) _ _ (by omega) (by
  rw [List.getD_eq_getElem?_getD]
  cases e : W[t]? with
  | none => exact (by decide)
  | some v => exact hs v (List.mem_of_getElem? e))
theorem Est.added {I B n : Nat} {ns : Nat → Prop} {f0 : Nat → Nat} {xs : List Nat} {L0 L L' : List (Nat × Nat)} {P0 P : Nat → Nat → Nat} {E : Nat → List UInt8 × Nat} {k m v en A : Nat} {s : List UInt8} (h : Est I B ns n f0 xs L0 P0 E) (hk : k < 12) (T : TakeR I B ns f0 xs L0 L P0 P n k v en) (hz : ∀ j, j < 8 → gotV xs L (A + j) = 0) (hv : P n k ≠ 0) (hA : 488 + 16 * I + 8 * P n k = A)
  (hs : okName (str s) = true) (hm : 1 ≤ m) (hmI : m < I)
  (R : ∀ a, a < A ∨ A + 8 ≤ a → gotV xs L' a = gotV xs L a) (hw : Wl xs.length L') (g0 : gotV xs L' A = m) (g1 : gotV xs L' (A + 1) = s.length) (gw : ∀ j, j < (s.length + 7) / 8 → gotV xs L' (A + (2 + j)) = word s j) :
  Est I B ns n f0 xs L' P (fun j => if j = k then (s, m) else E j) ∧ cntB xs L' B = cntB xs L B := by
 obtain ⟨b1, b2, b3⟩ := T.st.setb h.isn hk hv hA R hw
 have hsz : 1 ≤ s.length ∧ s.length ≤ 40 := okName_size hs
 refine ⟨⟨b1, T.br h.br, h.isn, h.kind, fun j hj h0 => ?_, fun j hj h0 => ?_⟩, b3⟩
 ·by_cases e : j = k
  ·subst e; exact absurd h0 hv
  ·show (if j = k then (s, m) else E j) = ([], 0)
   rw [if_neg e]
   exact h.no j hj (by rw [← T.only j e (by omega)]; exact h0)
 ·by_cases e : j = k
  ·subst e
   have q : ∀ i, i < 8 → dw (gotV xs L') I P n j i = gotV xs L' (A + i) := fun i hi => by rw [b2 n j i h.isn hj hi, if_pos ⟨rfl, rfl⟩]
   simp only [if_true]
   refine ⟨by rw [q 0 (by omega)]; exact g0, by rw [q 1 (by omega)]; exact g1, ?_, hs, hm, hmI⟩
   refine unpack_words s (fun i => gotV xs L' (A + (2 + i))) ((s.length + 7) / 8) (by omega) gw _ (fun i hi => ?_)
   unfold nmW
   rw [List.getD_eq_getElem?_getD, List.getElem?_map, List.getElem?_range (by omega)]
   show dw (gotV xs L') I P n j (2 + i) = _
   exact q _ (by omega)
  ·have q : ∀ i, i < 8 → dw (gotV xs L') I P n j i = dw (gotV xs L0) I P0 n j i := fun i hi => by rw [b2 n j i h.isn hj hi, if_neg (fun x => e x.2), T.dw n j i h.isn hj hi]
   have hP : P n j = P0 n j := T.only j e (by omega)
   have hn : nmW (gotV xs L') I P n j = nmW (gotV xs L0) I P0 n j := by
    unfold nmW
    apply List.map_congr_left
    intro i hi
    exact q _ (by have := List.mem_range.1 hi; omega)
   simp only [if_neg e]
   rw [q 0 (by omega), q 1 (by omega), hn]
   exact h.yes j hj (by rw [← hP]; exact h0)
theorem Est.changed {I B n : Nat} {ns : Nat → Prop} {f0 : Nat → Nat} {xs : List Nat} {L L' : List (Nat × Nat)} {P : Nat → Nat → Nat} {E : Nat → List UInt8 × Nat} {k m A : Nat} (h : Est I B ns n f0 xs L P E) (hk : k < 12) (hv : P n k ≠ 0) (hA : 488 + 16 * I + 8 * P n k = A) (hm : 1 ≤ m) (hmI : m < I)
  (R : ∀ a, a ≠ A → gotV xs L' a = gotV xs L a) (hw : Wl xs.length L') (g0 : gotV xs L' A = m) :
  Est I B ns n f0 xs L' P (fun j => if j = k then ((E k).1, m) else E j) ∧ cntB xs L' B = cntB xs L B := by
 obtain ⟨b1, b2, b3⟩ := h.st.setb h.isn hk hv hA (fun a ha => R a (by omega)) hw
 refine ⟨⟨b1, h.br, h.isn, h.kind, fun j hj h0 => ?_, fun j hj h0 => ?_⟩, b3⟩
 ·by_cases e : j = k
  ·subst e; exact absurd h0 hv
  ·show (if j = k then ((E k).1, m) else E j) = ([], 0)
   rw [if_neg e]
   exact h.no j hj h0
 ·by_cases e : j = k
  ·subst e
   obtain ⟨y1, y2, y3, y4, y5, y6⟩ := h.yes j hj h0
   have q : ∀ i, i < 8 → dw (gotV xs L') I P n j i = gotV xs L' (A + i) := fun i hi => by rw [b2 n j i h.isn hj hi, if_pos ⟨rfl, rfl⟩]
   have q2 : ∀ i, 1 ≤ i → i < 8 → dw (gotV xs L') I P n j i = dw (gotV xs L) I P n j i := fun i h1 hi => by
    rw [q i hi, R _ (by omega)]; unfold dw; rw [if_neg hv, hA]
   have hn : nmW (gotV xs L') I P n j = nmW (gotV xs L) I P n j := by
    unfold nmW
    apply List.map_congr_left
    intro i hi
    exact q2 _ (by omega) (by have := List.mem_range.1 hi; omega)
   simp only [if_true]
   rw [hn, q2 1 (by omega) (by omega)]
   exact ⟨by rw [q 0 (by omega)]; exact g0, y2, y3, y4, hm, hmI⟩
  ·have q : ∀ i, i < 8 → dw (gotV xs L') I P n j i = dw (gotV xs L) I P n j i := fun i hi => by rw [b2 n j i h.isn hj hi, if_neg (fun x => e x.2)]
   have hn : nmW (gotV xs L') I P n j = nmW (gotV xs L) I P n j := by
    unfold nmW
    apply List.map_congr_left
    intro i hi
    exact q _ (by have := List.mem_range.1 hi; omega)
   simp only [if_neg e]
   rw [q 0 (by omega), q 1 (by omega), hn]
   exact h.yes j hj h0
theorem Est.dropped {I B n : Nat} {ns : Nat → Prop} {f0 : Nat → Nat} {xs : List Nat} {L L' : List (Nat × Nat)} {P P' : Nat → Nat → Nat} {E : Nat → List UInt8 × Nat} {k : Nat} (h : Est I B ns n f0 xs L P E) (hk : k < 12) (D : DropR I B ns f0 xs L L' P P' n k) :
  Est I B ns n f0 xs L' P' (fun j => if j = k then ([], 0) else E j) := by
 refine ⟨D.st, D.br h.br, h.isn, h.kind, fun j hj h0 => ?_, fun j hj h0 => ?_⟩
 ·by_cases e : j = k
  ·show (if j = k then (([] : List UInt8), 0) else E j) = ([], 0)
   rw [if_pos e]
  ·show (if j = k then (([] : List UInt8), 0) else E j) = ([], 0)
   rw [if_neg e]
   exact h.no j hj (by rw [← D.only j e hj]; exact h0)
 ·by_cases e : j = k
  ·subst e; exact absurd D.zero h0
  ·have q : ∀ i, i < 8 → dw (gotV xs L') I P' n j i = dw (gotV xs L) I P n j i := fun i hi => D.dw n j i h.isn hj hi h0
   have hn : nmW (gotV xs L') I P' n j = nmW (gotV xs L) I P n j := by
    unfold nmW
    apply List.map_congr_left
    intro i hi
    exact q _ (by have := List.mem_range.1 hi; omega)
   simp only [if_neg e]
   rw [q 0 (by omega), q 1 (by omega), hn]
   exact h.yes j hj (by rw [← D.only j e hj]; exact h0)
theorem Est.flat {I B n : Nat} {ns : Nat → Prop} {f0 : Nat → Nat} {xs : List Nat} {L : List (Nat × Nat)} {P : Nat → Nat → Nat} {E : Nat → List UInt8 × Nat} (h : Est I B ns n f0 xs L P E) : Est I B ns n f0 (flatV xs L) [] P E := by
 have ef : gotV (flatV xs L) [] = gotV xs L := by
  funext a
  show (flatV xs L).getD a 0 = _
  by_cases ha : a < xs.length
  ·exact Go.Grommet.flat_get h.st.wl a ha
  ·rw [List.getD_eq_getElem?_getD, List.getElem?_eq_none (by rw [flatV_length]; omega)]
   unfold gotV
   have hf : fidx L a = none := fidx_of_not (fun p hp hpa => by have := h.st.wl.at_ p hp; omega)
   rw [hf]
   show 0 = xs.getD a 0
   rw [List.getD_eq_getElem?_getD, List.getElem?_eq_none (by omega)]
   rfl
 exact ⟨h.st.flat.1, h.br, h.isn, h.kind, h.no, fun k hk h0 => by rw [ef]; exact h.yes k hk h0⟩
end Go.Proofs.YtfljlmmiiccooaaGreatDoor
end
section
namespace Go.Proofs.YtfljlmmiiccooaaGreatDoor
open Go.RowKit Go.Grommet
set_option linter.unusedVariables false
def dirC (g I B XM : Nat) : Array Value := #[.pointer (some ⟨g, 0, none⟩), .int .i64 1, .int .i64 (I : Int), .int .i64 (B : Int), .pointer (some ⟨XM, 0, none⟩)]
def dirV (g I B XM : Nat) : Value := .agg (dirC g I B XM)
def dirP (X g I B XM : Nat) : Pr := boxP X 84 (dirC g I B XM)
theorem dbox_cells {w0 w : World} {Ps : List Pr} {k N : Nat} {v0 v1 v2 v3 v4 : Value} (h : Grommet.Own w0 w Ps) (hk : Ps[k]? = some (boxP N 84 #[v0, v1, v2, v3, v4])) :
  (w.cell? ⟨N, 0, none⟩ = some v0 ∧ w.cell? ⟨N, 1, none⟩ = some v1 ∧ w.cell? ⟨N, 2, none⟩ = some v2 ∧ w.cell? ⟨N, 3, none⟩ = some v3 ∧ w.cell? ⟨N, 4, none⟩ = some v4) ∧ w.frozen? ⟨N, 0, none⟩ = false ∧ w.frozen? ⟨N, 1, none⟩ = false ∧ w.frozen? ⟨N, 2, none⟩ = false ∧ w.frozen? ⟨N, 3, none⟩ = false ∧ w.frozen? ⟨N, 4, none⟩ = false := by
 have hb := h.box k hk
 refine ⟨⟨?_, ?_, ?_, ?_, ?_⟩, ?_, ?_, ?_, ?_, ?_⟩ <;> simp [World.cell?, World.frozen?, hb]
theorem dirP_cells {w0 w : World} {Ps : List Pr} {k X g I B XM : Nat} (h : Grommet.Own w0 w Ps) (hk : Ps[k]? = some (dirP X g I B XM)) :
  w.cell? ⟨X, 0, none⟩ = some (.pointer (some ⟨g, 0, none⟩)) ∧ w.cell? ⟨X, 1, none⟩ = some (.int .i64 1) ∧ w.cell? ⟨X, 2, none⟩ = some (.int .i64 (I : Int)) ∧ w.cell? ⟨X, 3, none⟩ = some (.int .i64 (B : Int)) ∧ w.cell? ⟨X, 4, none⟩ = some (.pointer (some ⟨XM, 0, none⟩)) := (dbox_cells h hk).1
theorem dbox_put {w0 w : World} {Ps : List Pr} {k N : Nat} {v0 v1 v2 v3 v4 : Value} (u0 u1 u2 u3 u4 : Value) (h : Grommet.Own w0 w Ps) (hk : Ps[k]? = some (boxP N 84 #[v0, v1, v2, v3, v4])) :
  ∃ wn, ((((w.setCell ⟨N, 0, none⟩ u0).setCell ⟨N, 1, none⟩ u1).setCell ⟨N, 2, none⟩ u2).setCell ⟨N, 3, none⟩ u3).setCell ⟨N, 4, none⟩ u4 = wn ∧ Grommet.Own w0 wn (Ps.set k (boxP N 84 #[u0, u1, u2, u3, u4])) := by
 have h1 := h.putBox k hk 0 u0
 have h2 := h1.putBox k (set_at _ hk) 1 u1
 have h3 := h2.putBox k (set_at _ (set_at _ hk)) 2 u2
 have h4 := h3.putBox k (set_at _ (set_at _ (set_at _ hk))) 3 u3
 have h5 := h4.putBox k (set_at _ (set_at _ (set_at _ (set_at _ hk)))) 4 u4
 simp only [List.set_set, List.setIfInBounds_toArray, List.set_cons_zero, List.set_cons_succ] at h5
 exact ⟨_, rfl, h5⟩
theorem set_mid {Ps Qs : List Pr} (j : Nat) (A : Pr) : (Ps ++ Qs).set (Ps.length + j) A = Ps ++ Qs.set j A := by
 rw [List.set_append_right _ _ (by omega)]
 congr 2; omega
theorem app_at' {Ps Qs : List Pr} {N : Nat} (hN : Ps.length = N) (j : Nat) {Q : Pr} (h : Qs[j]? = some Q) : (Ps ++ Qs)[N + j]? = some Q := by subst hN; exact app_at j h
theorem unpackR_ok (ws : List Nat) (n : Int) (h0 : 0 ≤ n) (h1 : n ≤ 8 * (ws.length : Int)) : unpackR ws n = (unpackB ws n.toNat, 0) := if_neg (by intro h; rcases h with h | h <;> omega)
theorem geo_cells {w0 w : World} {Ps : List Pr} {k N : Nat} {v0 v1 v2 : Value} (h : Grommet.Own w0 w Ps) (hk : Ps[k]? = some (boxP N 23 #[v0, v1, v2])) : w.cell? ⟨N, 0, none⟩ = some v0 ∧ w.cell? ⟨N, 1, none⟩ = some v1 ∧ w.cell? ⟨N, 2, none⟩ = some v2 := by
 have hb := h.box k hk
 simp [World.cell?, hb]
theorem openD {I B n : Nat} {ns : Nat → Prop} {f0 : Nat → Nat} {xs : List Nat} {L : List (Nat × Nat)} {P : Nat → Nat → Nat} {E : Nat → List UInt8 × Nat} (F : Est I B ns n f0 xs L P E) (kv g : Nat) (w0 w : World) (Ps : List Pr) (h : Grommet.Own w0 w Ps) (hv : Ps[kv]? = some (viewP g xs L)) :
  Calls Tryz.prog 38 #[.pointer (some ⟨g, 0, none⟩), gv ((1 : Nat) : Int) (I : Int) (B : Int), .int .i64 (n : Int)] w fun e w' => ∃ XM, e = .returned (.tuple #[dirV g I B XM, .int .i64 0]) ∧ Grommet.Own w0 w' (Ps ++ [bmP XM g 1 I B n]) := by
 have hok := F.st.ok (n := n) F.isn
 have HG := Lib.hid (get_ok0 kv g 1 I B n (488 + 16 * n) xs L w0 Ps hv hok)
 have e0 : nodeF xs L (488 + 16 * n) 0 = 2 := by rw [F.st.node F.isn 0 (by omega), F.rest 0 (by omega)]; exact F.kind
 rw [e0] at HG
 have HOf := Lib.hid (fun wx Qs (hx : Grommet.Own w0 wx (Ps ++ Qs)) => F.st.of (n := n) F.isn hx (app_old hv))
 have hG := h.addBox 23 #[.int .i64 1, .int .i64 (I : Int), .int .i64 (B : Int)]
 obtain ⟨G, eG⟩ : ∃ G, w.heap.size = G := ⟨_, rfl⟩
 obtain ⟨wg, ewg⟩ : ∃ wg, w.alloc (.cells #[.int .i64 1, .int .i64 (I : Int), .int .i64 (B : Int)] 23) = wg := ⟨_, rfl⟩
 rw [eG, ewg] at hG
 have hX := hG.addBox 84 #[.pointer none, .int .i64 0, .int .i64 0, .int .i64 0, .pointer none]
 obtain ⟨X, eX⟩ : ∃ X, wg.heap.size = X := ⟨_, rfl⟩
 obtain ⟨wf, ewf⟩ : ∃ wf, wg.alloc (.cells #[.pointer none, .int .i64 0, .int .i64 0, .int .i64 0, .pointer none] 84) = wf := ⟨_, rfl⟩
 rw [eX, ewf, List.append_assoc] at hX
 have hO := Lib.hid hX
 clear hX hG h hok e0 F
 unfold gv at *
 unfold nv at HG
 generalize nodeF xs L (488 + 16 * n) 1 = n1 at HG
 generalize nodeF xs L (488 + 16 * n) 2 = n2 at HG
 generalize nodeF xs L (488 + 16 * n) 3 = n3 at HG
 generalize nodeF xs L (488 + 16 * n) 4 = n4 at HG
 generalize nodeF xs L (488 + 16 * n) 5 = n5 at HG
 generalize nodeF xs L (488 + 16 * n) 6 = n6 at HG
 generalize nodeF xs L (488 + 16 * n) 7 = n7 at HG
 generalize nodeF xs L (488 + 16 * n) 8 = n8 at HG
 generalize nodeF xs L (488 + 16 * n) 9 = n9 at HG
 have Hg := Lib.hid (show ∀ Rs, (Ps ++ boxP G 23 #[.int .i64 1, .int .i64 (I : Int), .int .i64 (B : Int)] :: Rs)[Ps.length]? = some _ from fun Rs => app_at 0 rfl)
 obtain ⟨y0, y1, y2⟩ := geo_cells hO.out (Hg.out _)
 go_enter Tryz.func38, Tryz.ntmps38
 go_wp2_with fail
 all_goals (try rw [ewg]); (try rw [eG]); (try rw [eX]); (try rw [ewf])
 go_wp2_with fail
 refine (HG.out _ _ hO.out).mono ?_
 rintro e w1 ⟨rfl, hO1⟩
 clear hO y0 y1 y2 HG ewf eX ewg eG
 obtain ⟨y0, y1, y2⟩ := geo_cells hO1 (Hg.out _)
 have hO2 := hO1.addBox 133 #[.int .u64 2, .int .u64 (n1 : Int), .int .u64 (n2 : Int), .int .u64 (n3 : Int), .int .u64 (n4 : Int), .int .u64 (n5 : Int), .int .u64 (n6 : Int), .int .u64 (n7 : Int), .int .u64 (n8 : Int), .int .u64 (n9 : Int)]
 obtain ⟨N, eN⟩ : ∃ N, w1.heap.size = N := ⟨_, rfl⟩
 obtain ⟨wn, ewn⟩ : ∃ wn, w1.alloc (.cells #[.int .u64 2, .int .u64 (n1 : Int), .int .u64 (n2 : Int), .int .u64 (n3 : Int), .int .u64 (n4 : Int), .int .u64 (n5 : Int), .int .u64 (n6 : Int), .int .u64 (n7 : Int), .int .u64 (n8 : Int), .int .u64 (n9 : Int)] 133) = wn := ⟨_, rfl⟩
 rw [eN, ewn, List.append_assoc] at hO2
 have HO2 := Lib.hid hO2
 clear hO1 hO2 y0 y1 y2
 obtain ⟨y0, y1, y2⟩ := geo_cells HO2.out (Hg.out _)
 have hNb := Own.box HO2.out _ (app_at 2 rfl)
 have m0 : wn.cell? ⟨N, 0, none⟩ = some (.int .u64 2) := by simp [World.cell?, hNb]
 clear hNb
 go_wp2_with fail
 refine (HOf.out _ _ HO2.out).mono ?_
 rintro e w2 ⟨XM, rfl, hO3⟩
 rw [List.append_assoc] at hO3
 have HO3 := Lib.hid hO3
 clear hO3 y0 y1 y2 m0 ewn HO2 HOf
 obtain ⟨y0, y1, y2⟩ := geo_cells HO3.out (Hg.out _)
 obtain ⟨⟨z0, z1, z2, z3, z4⟩, q0, q1, q2, q3, q4⟩ := dbox_cells HO3.out (app_at 1 rfl)
 obtain ⟨wz, hwz, hOz⟩ := dbox_put (.pointer (some ⟨g, 0, none⟩)) (.int .i64 1) (.int .i64 (I : Int)) (.int .i64 (B : Int)) (.pointer (some ⟨XM, 0, none⟩)) HO3.out (app_at 1 rfl)
 obtain ⟨⟨x0, x1, x2, x3, x4⟩, r0, r1, r2, r3, r4⟩ := dbox_cells hOz (set_at _ (app_at 1 rfl))
 rw [List.set_append_right _ _ (by omega), show Ps.length + 1 - Ps.length = 1 by omega] at hOz
 have HOz := Lib.hid (Own.skip (Own.skip (Own.skip hOz)))
 clear hOz
 go_wp2_with fail
 try rw [hwz]
 exact bodyPost_ret (v := .tuple #[dirV g I B XM, .int .i64 0]) (by simp [results, Tryz.results38, go_sem, x0, x1, x2, x3, x4, dirV, dirC]) rfl ⟨XM, rfl, HOz.out⟩
end Go.Proofs.YtfljlmmiiccooaaGreatDoor
end
section
namespace Go.Proofs.YtfljlmmiiccooaaGreatDoor
open Go.RowKit Go.Grommet
set_option linter.unusedVariables false
def enV (x : List UInt8 × Nat) : Value := .agg #[.string (str x.1), .int .i64 (x.2 : Int)]
def ebP (R : Nat) (x : List UInt8 × Nat) : Pr := boxP R 37 #[.string (str x.1), .int .i64 (x.2 : Int)]
theorem ebox_cells {w0 w : World} {Ps : List Pr} {k N : Nat} {v0 v1 : Value} (h : Grommet.Own w0 w Ps) (hk : Ps[k]? = some (boxP N 37 #[v0, v1])) :
  w.cell? ⟨N, 0, none⟩ = some v0 ∧ w.cell? ⟨N, 1, none⟩ = some v1 ∧ w.frozen? ⟨N, 0, none⟩ = false ∧ w.frozen? ⟨N, 1, none⟩ = false := by
 have hb := h.box k hk
 refine ⟨?_, ?_, ?_, ?_⟩ <;> simp [World.cell?, World.frozen?, hb]
theorem ebox_put {w0 w : World} {Ps : List Pr} {k N : Nat} {v0 v1 : Value} (u0 u1 : Value) (h : Grommet.Own w0 w Ps) (hk : Ps[k]? = some (boxP N 37 #[v0, v1])) :
  ∃ wn, (w.setCell ⟨N, 0, none⟩ u0).setCell ⟨N, 1, none⟩ u1 = wn ∧ Grommet.Own w0 wn (Ps.set k (boxP N 37 #[u0, u1])) := by
 have h1 := h.putBox k hk 0 u0
 have h2 := h1.putBox k (set_at _ hk) 1 u1
 simp only [List.set_set, List.setIfInBounds_toArray, List.set_cons_zero, List.set_cons_succ] at h2
 exact ⟨_, rfl, h2⟩
structure DB (X g I B XM : Nat) (w : World) : Prop where
 box : w.heap[X]? = some (.cells #[.pointer (some ⟨g, 0, none⟩), .int .i64 1, .int .i64 (I : Int), .int .i64 (B : Int), .pointer (some ⟨XM, 0, none⟩)] 84 (0, 0))
theorem DB.cells {X g I B XM : Nat} {w : World} (h : DB X g I B XM w) : w.cell? ⟨X, 0, none⟩ = some (.pointer (some ⟨g, 0, none⟩)) ∧ w.cell? ⟨X, 1, none⟩ = some (.int .i64 1) ∧ w.cell? ⟨X, 2, none⟩ = some (.int .i64 (I : Int)) ∧ w.cell? ⟨X, 3, none⟩ = some (.int .i64 (B : Int)) ∧ w.cell? ⟨X, 4, none⟩ = some (.pointer (some ⟨XM, 0, none⟩)) := by
 simp [World.cell?, h.box]
theorem DB.grown {X g I B XM : Nat} {w w' : World} (h : DB X g I B XM w) (hg : w.grownBy w' none) : DB X g I B XM w' :=
 ⟨(hg.block _ (Array.getElem?_eq_some_iff.1 h.box).1 (by simp)).trans h.box⟩
theorem DB.of {X g I B XM k : Nat} {w0 w : World} {Ps : List Pr} (h : Grommet.Own w0 w Ps) (hk : Ps[k]? = some (dirP X g I B XM)) : DB X g I B XM w := ⟨h.box k hk⟩
theorem words_append {w0 w : World} {Ps : List Pr} (h : Grommet.Own w0 w Ps) (k : Nat) {n cp : Nat} {ad : Option Addr} {xs : List Nat} (hk : Ps[k]? = some (rowP 72 1 (.slice ad n cp) n (xs.map wv))) (ty : TypeId) (tmp y : Nat) (ht : w.heap[tmp]? = some (.cells #[.int .u64 (y : Int)] 72 (0, 0))) (hn : n ≤ 100000) :
  ∃ ad2 cp2 w', (Builtin.append_ #[30, 30] ty #[.slice ad n cp, .slice (some ⟨tmp, 0, none⟩) 1 1]).run Tryz.prog w = .ok (.slice ad2 (n + 1) cp2) w' ∧ Grommet.Own w0 w' (Ps.set k (rowP 72 1 (.slice ad2 (n + 1) cp2) (n + 1) ((xs ++ [y]).map wv))) := by
 obtain ⟨i0, hi0, hz0, hz1, hz2⟩ := info_parts Tryz.info72
 have hr := h.row k hk
 obtain ⟨v', w', r1, r2, r3, r4⟩ := run_append_blk (P := Tryz.prog) w 0 30 ty 72 i0 (.int .u64 0) 1 8 Tryz.underlying30 hi0 hz0 hz1 hz2 rfl (by omega) _ n _ hr ⟨tmp, 0, none⟩ 1 1 [wv y] rfl (at_of_row ht).some (by intro u hu; simp at hu; subst hu; rfl) (by unfold maxLen; omega) (by omega) (Nat.zero_le _)
 obtain ⟨ad2, cp2, rfl, _⟩ := row_slice r2
 rw [show xs.map wv ++ [wv y] = (xs ++ [y]).map wv from by rw [List.map_append]; rfl] at r2
 exact ⟨ad2, cp2, w', r1, h.grows k hk r2 r3 r4⟩
theorem oper_append {P : Program} {o : Oper} {a : Act} {w w' : World} {K : Act → World → Prop} {Q : Exit → Act → World → Prop} (s x : Operand) (t : TypeId) (ho : o.op = .call { callee := .builtin .append, args := #[s, x], argTypes := #[t, t] }) (v vs vx : Value) (hs : a.eval s = vs) (hx : a.eval x = vx) (hr : (Builtin.append_ #[t, t] o.type #[vs, vx]).run P w = .ok v w') (h : K (a.put o.dst v) w') : Oper.wp P o a w K Q := by
 unfold Oper.wp execOp
 simp only [ho, resolve, invoke, builtin, Sem.run_bind, Sem.run_pure, Result.andThen_ok, List.map_toArray, List.map_cons, List.map_nil, hs, hx, hr]
 exact h
def wsT (f : Nat → Nat) (A i : Nat) : List Nat := (List.range i).map fun j => f (A + j)
theorem wsT_succ (f : Nat → Nat) (A i : Nat) : wsT f A (i + 1) = wsT f A i ++ [f (A + i)] := by unfold wsT; rw [List.range_succ, List.map_append]; rfl
theorem length_wsT (f : Nat → Nat) (A i : Nat) : (wsT f A i).length = i := by simp [wsT]
theorem wsT_get (f : Nat → Nat) (A i j : Nat) (h : j < i) : (wsT f A i)[j]? = some (f (A + j)) := by unfold wsT; rw [List.getElem?_map, List.getElem?_range h]; rfl
theorem entryD {I B n : Nat} {ns : Nat → Prop} {f0 : Nat → Nat} {xs : List Nat} {L : List (Nat × Nat)} {P : Nat → Nat → Nat} {E : Nat → List UInt8 × Nat} (F : Est I B ns n f0 xs L P E) (k : Nat) (hk : k < 12) (kv km g XM : Nat) (w0 w : World) (Ps : List Pr) (h : Grommet.Own w0 w Ps) (hv : Ps[kv]? = some (viewP g xs L)) (hm : Ps[km]? = some (bmP XM g 1 I B n)) :
  Calls Tryz.prog 59 #[dirV g I B XM, .int .i64 (k : Int)] w fun e w' => e = .returned (.tuple #[enV (E k), .int .i64 0]) ∧ Grommet.Own w0 w' Ps := by
 have HAt := Lib.hid (fun wx Qs (hx : Grommet.Own w0 wx (Ps ++ Qs)) => F.st.at_ (n := n) (k := k) F.isn hk hx (app_old hv) (app_old hm))
 have hmay := F.st.may
 have hmN := mayN hmay
 have hln := F.st.len
 have h64 := F.st.b64
 have hlt := F.st.lk.lt n k F.isn (by omega)
 have Hno := Lib.hid (F.no k hk)
 have Hyes := Lib.hid (F.yes k hk)
 obtain ⟨s, m, hEk⟩ : ∃ s m, E k = (s, m) := ⟨_, _, rfl⟩
 rw [hEk] at Hno Hyes ⊢
 have hOx := h.addBox 84 #[.pointer (some ⟨g, 0, none⟩), .int .i64 1, .int .i64 (I : Int), .int .i64 (B : Int), .pointer (some ⟨XM, 0, none⟩)]
 obtain ⟨X, eX⟩ : ∃ X, w.heap.size = X := ⟨_, rfl⟩
 obtain ⟨wd, ewd⟩ : ∃ wd, w.alloc (.cells #[.pointer (some ⟨g, 0, none⟩), .int .i64 1, .int .i64 (I : Int), .int .i64 (B : Int), .pointer (some ⟨XM, 0, none⟩)] 84) = wd := ⟨_, rfl⟩
 rw [eX, ewd] at hOx
 have hOr := hOx.addBox 37 #[.string ⟨#[]⟩, .int .i64 0]
 obtain ⟨R, eR⟩ : ∃ R, wd.heap.size = R := ⟨_, rfl⟩
 obtain ⟨we, ewe⟩ : ∃ we, wd.alloc (.cells #[.string ⟨#[]⟩, .int .i64 0] 37) = we := ⟨_, rfl⟩
 rw [eR, ewe, List.append_assoc] at hOr
 have hO := Lib.hid (show Grommet.Own w0 we (Ps ++ [dirP X g I B XM, ebP R ([], 0)]) from hOr)
 obtain ⟨V, hV⟩ : ∃ V, P n k = V := ⟨_, rfl⟩
 have HV := Lib.hid hV
 rw [hV] at HAt Hno Hyes hlt
 have Hv := Lib.hid hv
 clear h hv hm hOx hOr hV
 obtain ⟨c0, c1, c2, c3, c4⟩ := dirP_cells hO.out (app_at 0 rfl)
 unfold dirV dirC
 go_enter Tryz.func59, Tryz.ntmps59
 go_wp2_with fail
 all_goals (try rw [ewd]); (try rw [eX]); (try rw [eR]); (try rw [ewe])
 go_wp2_with fail
 refine (HAt.out _ _ hO.out).mono ?_
 rintro e w1 ⟨rfl, hO1⟩
 have hO1 := Lib.hid hO1
 clear hO HAt ewd eX eR ewe c0 c1 c2 c3 c4
 by_cases hV0 : V = 0
 ·as_aux_lemma =>
  obtain ⟨rfl, rfl⟩ := Prod.mk.inj (Hno.out hV0)
  have v0 : ((V : Int) == 0) = true := by simp [hV0]
  have v0' : (V : Int) = 0 := by omega
  clear hV0 Hno Hyes
  obtain ⟨d0, d1, d2, d3⟩ := ebox_cells hO1.out (app_at 1 rfl)
  obtain ⟨wz, hwz, hOz⟩ := ebox_put (.string ⟨#[]⟩) (.int .i64 0) hO1.out (app_at 1 rfl)
  obtain ⟨x0, x1, x2, x3⟩ := ebox_cells hOz (set_at _ (app_at 1 rfl))
  have HOz := Lib.hid hOz
  rw [set_mid] at hOz
  have HOe := Lib.hid hOz.less
  clear hOz HOz
  go_wp2_with fail
  try rw [hwz]
  exact bodyPost_ret (v := .tuple #[enV ([], 0), .int .i64 0]) (by simp [results, Tryz.results59, go_sem, x0, x1, enV, str]) rfl ⟨rfl, HOe.out⟩
 ·have v0 : ((V : Int) == 0) = false := by simpa using hV0
  have v0' : ¬ (V : Int) = 0 := by omega
  obtain ⟨A, hA⟩ : ∃ A, 488 + 16 * I + 8 * V = A := ⟨_, rfl⟩
  have HB := Lib.hid (fun wx => BlockAt_any 1 (I : Int) (B : Int) (V : Int) wx)
  rw [show blockV 1 (I : Int) (B : Int) (V : Int) = (A : Int) from by unfold blockV; rw [if_pos ⟨hmay, by omega, by omega⟩]; omega] at HB
  unfold gv at HB
  obtain ⟨y0, y1, y2, y3, y4, y5⟩ := Hyes.out hV0
  have hdw : ∀ j, dw (gotV xs L) I P n k j = gotV xs L (A + j) := fun j => by unfold dw; rw [HV.out, if_neg hV0, hA]
  rw [hdw] at y0 y1
  have hnm : nmW (gotV xs L) I P n k = (wsT (gotV xs L) A 8).drop 2 := by
   unfold nmW wsT
   rw [show (8 : Nat) = 2 + 6 from rfl, List.range_add, List.map_append, List.drop_left' (by simp), List.map_map]
   exact List.map_congr_left (fun j _ => hdw (2 + j))
  rw [hnm] at y2
  try dsimp only at y0
  try dsimp only at y1
  try dsimp only at y2
  try dsimp only at y3
  have hsl := okName_size y3
  have hsz : (str s).size = s.length := rfl
  rw [hsz] at hsl
  obtain ⟨l, hl⟩ : ∃ l, s.length = l := ⟨_, rfl⟩
  rw [hl] at y1 y2 hsl
  have hxA : A + 8 ≤ xs.length := by omega
  have hA6 : A ≤ 1000000 := by omega
  have hI6 : I ≤ 64 := by omega
  have HMay := Lib.hid (EMay_any (str s))
  rw [y3] at HMay
  have Hl := Lib.hid hl
  have Hw0 := Lib.hid (And.intro y0 y1)
  have hup := unpackR_ok ((wsT (gotV xs L) A 8).drop 2) (l : Int) (by omega) (by rw [List.length_drop, length_wsT]; omega)
  rw [Int.toNat_natCast, y2] at hup
  have Hup := Lib.hid hup
  clear hdw hnm hEk hV0 y0 y1 y2 y3 hup hl hA hlt hln h64 hmN hmay Hno Hyes HV hsz
  obtain ⟨c0, c1, c2, c3, c4⟩ := dirP_cells hO1.out (app_at 0 rfl)
  have hO2 : Hid (Grommet.Own w0 w1 (Ps ++ [dirP X g I B XM, ebP R ([], 0), rowP 72 1 (.slice none 0 0) 0 ((wsT (gotV xs L) A 0).map wv)])) := Lib.hid (by
   have := hO1.out.nilRow 72 1
   rw [List.append_assoc] at this
   exact this)
  clear hO1 c0 c1 c2 c3 c4
  go_wp2_with fail
  go_loopw [8, 28] (fun sl iv wr => ∃ (i : Nat) (ad : Option Addr) (cp : Nat), i ≤ 8 ∧ iv = .int .i64 (i : Int) ∧ sl = .slice ad i cp ∧ Hid (Grommet.Own w0 wr (Ps ++ [dirP X g I B XM, ebP R ([], 0), rowP 72 1 (.slice ad i cp) i ((wsT (gotV xs L) A i).map wv)]))) (fun _ iv _ => 8 - (intOf iv).toNat)
  case atStart => exact ⟨0, none, 0, Nat.zero_le _, rfl, rfl, hO2⟩
  case round =>
   clear hO2
   obtain ⟨i, ad, cp, hi, rfl, rfl, hO⟩ := hrel
   have i0 : (0 : Int) ≤ (i : Int) := by omega
   by_cases hlt : i < 8
   ·as_aux_lemma =>
    have hlt' : (i : Int) < 8 := by omega
    obtain ⟨T, hT⟩ : ∃ T, A + i = T := ⟨_, rfl⟩
    have wT : IntKind.i64.wrap ((A : Int) + (i : Int)) = (T : Int) := by rw [IntWalk.i64_in _ ⟨by omega, by omega⟩]; omega
    have wT' : IntKind.i64.wrap (T : Int) = (T : Int) := IntWalk.i64_in _ ⟨by omega, by omega⟩
    have wi : IntKind.i64.wrap ((i : Int) + 1) = (i : Int) + 1 := IntWalk.i64_in _ ⟨by omega, by omega⟩
    obtain ⟨W, hW⟩ : ∃ W, gotV xs L T = W := ⟨_, rfl⟩
    have HG := Lib.hid (fun wx Qs (hx : Grommet.Own w0 wx (Ps ++ Qs)) => GetH kv g xs L (T : Int) w0 wx _ hx (app_old Hv.out))
    rw [gotI_in (show T < xs.length by omega), hW] at HG
    have Hs1 : Hid (wsT (gotV xs L) A (i + 1) = wsT (gotV xs L) A i ++ [W]) := Lib.hid (by rw [wsT_succ, hT, hW])
    have HD0 := Lib.hid ((DB.of hO.out (app_at 0 rfl)).grown (grown_drew (World.grownBy.refl wr none)))
    have hOr := Lib.hid (hO.out.quiet (grown_drew (World.grownBy.refl wr none)))
    clear hO hT hW
    go_wp2_with fail
    refine wp_region_held_drew (S := fun w' => DB X g I B XM w') (by kernel_rfl) (HD0.out) (fun hS => ?_)
    refine wpAnyH_take (i := 0) (oi := ⟨some 31, .move (.tmp 8), 30, "entry.go:85", #[], none⟩) (v := ?ven59r8o0) rfl (by kernel_rfl) (by kernel_rfl) (by kernel_rfl) (fun _ _ _ h => h) (Or.inl ⟨by rfl, ?hen59r8o0⟩) hS ?_
    case hen59r8o0 => (intro wx hx; skip; go_simp; (try with_reducible rfl))
    try simp only [Act.put, List.setIfInBounds_toArray, List.set_cons_zero, List.set_cons_succ]
    refine wpAnyH_take (i := 1) (oi := ⟨some 32, .fieldAddr 84 (.tmp 2) 0, 0, "entry.go:85", #[], none⟩) (v := ?ven59r8o1) rfl (by kernel_rfl) (by kernel_rfl) (by kernel_rfl) (fun _ _ _ h => h) (Or.inl ⟨by rfl, ?hen59r8o1⟩) hS ?_
    case hen59r8o1 => (intro wx hx; skip; go_simp; (try with_reducible rfl))
    try simp only [Act.put, List.setIfInBounds_toArray, List.set_cons_zero, List.set_cons_succ]
    refine wpAnyH_take (i := 2) (oi := ⟨some 33, .load 32 (.tmp 32), 32, "entry.go:85", #[⟨1, .data⟩], none⟩) (v := ?ven59r8o2) rfl (by kernel_rfl) (by kernel_rfl) (by kernel_rfl) (fun _ _ _ h => h) (Or.inl ⟨by rfl, ?hen59r8o2⟩) hS ?_
    case hen59r8o2 => (intro wx hx; obtain ⟨c0, c1, c2, c3, c4⟩ := DB.cells hx; go_simp; (try with_reducible rfl))
    try simp only [Act.put, List.setIfInBounds_toArray, List.set_cons_zero, List.set_cons_succ]
    refine wpAnyH_take (i := 3) (oi := ⟨some 34, .fieldAddr 84 (.tmp 2) 1, 0, "entry.go:85", #[], none⟩) (v := ?ven59r8o3) rfl (by kernel_rfl) (by kernel_rfl) (by kernel_rfl) (fun _ _ _ h => h) (Or.inl ⟨by rfl, ?hen59r8o3⟩) hS ?_
    case hen59r8o3 => (intro wx hx; skip; go_simp; (try with_reducible rfl))
    try simp only [Act.put, List.setIfInBounds_toArray, List.set_cons_zero, List.set_cons_succ]
    refine wpAnyH_take (i := 4) (oi := ⟨some 35, .load 23 (.tmp 34), 23, "entry.go:85", #[⟨3, .data⟩], none⟩) (v := ?ven59r8o4) rfl (by kernel_rfl) (by kernel_rfl) (by kernel_rfl) (fun _ _ _ h => h) (Or.inl ⟨by rfl, ?hen59r8o4⟩) hS ?_
    case hen59r8o4 => (intro wx hx; obtain ⟨c0, c1, c2, c3, c4⟩ := DB.cells hx; go_simp; (try with_reducible rfl))
    try simp only [Act.put, List.setIfInBounds_toArray, List.set_cons_zero, List.set_cons_succ]
    refine wpAnyH_take (i := 5) (oi := ⟨some 36, .move (.tmp 6), 3, "entry.go:85", #[], none⟩) (v := ?ven59r8o5) rfl (by kernel_rfl) (by kernel_rfl) (by kernel_rfl) (fun _ _ _ h => h) (Or.inl ⟨by rfl, ?hen59r8o5⟩) hS ?_
    case hen59r8o5 => (intro wx hx; skip; go_simp; (try with_reducible rfl))
    try simp only [Act.put, List.setIfInBounds_toArray, List.set_cons_zero, List.set_cons_succ]
    refine wpAnyH_take (i := 7) (oi := ⟨some 38, .move (.tmp 9), 3, "entry.go:85", #[], none⟩) (v := ?ven59r8o7) rfl (by kernel_rfl) (by kernel_rfl) (by kernel_rfl) (fun _ _ _ h => h) (Or.inl ⟨by rfl, ?hen59r8o7⟩) hS ?_
    case hen59r8o7 => (intro wx hx; skip; go_simp; (try with_reducible rfl))
    try simp only [Act.put, List.setIfInBounds_toArray, List.set_cons_zero, List.set_cons_succ]
    refine wpAnyH_ready (rs := [6]) (by kernel_rfl) (by simp) ?_
    refine AllReadyH.cons (o := ⟨some 37, .call { callee := Callee.value (Operand.func 54), args := #[.tmp 35, .tmp 36], argTypes := #[23, 3] }, 3, "entry.go:85", #[⟨4, .data⟩, ⟨5, .data⟩], none⟩) rfl (fun K hK => ?_) AllReadyH.nil
    go_simp
    refine (HB.out _).mono ?_
    rintro e w2 ⟨rfl, hg2⟩
    have hO2 := Lib.hid (hOr.out.quiet hg2)
    clear hOr hg2 HB
    refine hK.out _ _ ?hsen59r8o6 (fun hS => ?_)
    case hsen59r8o6 => (exact DB.of hO2.out (app_at 0 rfl))
    clear hK K
    try simp only [Act.put, List.setIfInBounds_toArray, List.set_cons_zero, List.set_cons_succ]
    refine wpAnyH_take (i := 8) (oi := ⟨some 39, .binOp BinOp.add 3 (.tmp 37) (.tmp 38) 3, 3, "entry.go:85", #[⟨6, .data⟩, ⟨7, .data⟩], none⟩) (v := ?ven59r8o8) rfl (by kernel_rfl) (by kernel_rfl) (by kernel_rfl) (fun _ _ _ h => h) (Or.inl ⟨by rfl, ?hen59r8o8⟩) hS ?_
    case hen59r8o8 => (intro wx hx; skip; go_simp; (try with_reducible rfl))
    try simp only [Act.put, List.setIfInBounds_toArray, List.set_cons_zero, List.set_cons_succ]
    refine wpAnyH_ready (rs := [9]) (by kernel_rfl) (by simp) ?_
    refine AllReadyH.cons (o := ⟨some 40, .call { callee := Callee.value (Operand.func 88), args := #[.tmp 33, .tmp 39], argTypes := #[32, 3] }, 72, "entry.go:85", #[⟨2, .data⟩, ⟨8, .data⟩, ⟨6, .chain⟩], none⟩) rfl (fun K hK => ?_) AllReadyH.nil
    go_simp
    refine (HG.out _ _ hO2.out).mono ?_
    rintro e w3 ⟨rfl, rfl⟩
    clear HG
    refine hK.out _ _ ?hsen59r8o9 (fun hS => ?_)
    case hsen59r8o9 => (exact hS)
    clear hK K
    try simp only [Act.put, List.setIfInBounds_toArray, List.set_cons_zero, List.set_cons_succ]
    refine wpAnyH_ready (rs := [10]) (by kernel_rfl) (by simp) ?_
    refine AllReadyH.cons (o := ⟨some 41, .buildSlice 30 1 #[(0, .tmp 40)], 30, "entry.go:85", #[⟨9, .data⟩], none⟩) rfl (fun K hK => ?_) AllReadyH.nil
    go_simp
    have hO4 := Lib.hid (hO2.out.quiet (World.grownBy_alloc _ (.cells #[.int .u64 (W : Int)] 72) none))
    have hTm := Lib.hid (heap_alloc_new w3 (.cells #[.int .u64 (W : Int)] 72))
    clear hO2
    refine hK.out _ _ ?hsen59r8o10 (fun hS => ?_)
    case hsen59r8o10 => (exact DB.of hO4.out (app_at 0 rfl))
    clear hK K
    try simp only [Act.put, List.setIfInBounds_toArray, List.set_cons_zero, List.set_cons_succ]
    refine wpAnyH_ready (rs := [11]) (by kernel_rfl) (by simp) ?_
    refine AllReadyH.cons (o := ⟨some 42, .call { callee := Callee.builtin Builtin.append, args := #[.tmp 31, .tmp 41], argTypes := #[30, 30] }, 30, "entry.go:85", #[⟨0, .data⟩, ⟨10, .data⟩, ⟨9, .chain⟩], none⟩) rfl (fun K hK => ?_) AllReadyH.nil
    obtain ⟨ad2, cp2, wn, hap, hOn0⟩ := words_append hO4.out _ (app_at 2 rfl) 30 w3.heap.size W hTm.out (by omega)
    have hOn := Lib.hid hOn0
    clear hOn0 hO4 hTm
    rw [if_pos (by rfl)]
    refine oper_append _ _ _ rfl _ _ _ rfl rfl hap ?_
    refine hK.out _ _ ?hsb (fun hS => ?_)
    case hsb => (rw [set_mid] at hOn; exact DB.of hOn.out (app_at 0 rfl))
    clear hK K
    try simp only [Act.put, List.setIfInBounds_toArray, List.set_cons_zero, List.set_cons_succ]
    refine wpAnyH_take (i := 12) (oi := ⟨some 8, .assign (.tmp 42), 30, "entry.go:85", #[⟨11, .data⟩, ⟨11, .chain⟩, ⟨0, .phase⟩, ⟨1, .phase⟩, ⟨2, .phase⟩, ⟨3, .phase⟩, ⟨4, .phase⟩, ⟨5, .phase⟩, ⟨6, .phase⟩, ⟨7, .phase⟩, ⟨8, .phase⟩, ⟨9, .phase⟩, ⟨10, .phase⟩, ⟨11, .phase⟩], none⟩) (v := ?ven59r8o12) rfl (by kernel_rfl) (by kernel_rfl) (by kernel_rfl) (fun _ _ _ h => h) (Or.inl ⟨by rfl, ?hen59r8o12⟩) hS ?_
    case hen59r8o12 => (intro wx hx; skip; go_simp; (try with_reducible rfl))
    try simp only [Act.put, List.setIfInBounds_toArray, List.set_cons_zero, List.set_cons_succ]
    refine wpAnyH_done (by kernel_rfl) ?_ _
    have hOE : Hid (Grommet.Own w0 wn (Ps ++ [dirP X g I B XM, ebP R ([], 0), rowP 72 1 (.slice ad2 (i + 1) cp2) (i + 1) ((wsT (gotV xs L) A (i + 1)).map wv)])) := Lib.hid (by
     have := hOn.out
     rw [set_mid] at this
     rw [Hs1.out]
     exact this)
    clear hS hOn HD0
    go_wp2
    go_roundw
    case rel => exact ⟨i + 1, ad2, cp2, by omega, by go_num, rfl, hOE⟩
    case measure => simp [intOf]; omega
   ·as_aux_lemma =>
    obtain rfl : i = 8 := by omega
    obtain ⟨q, hq, z0, _, hcp⟩ := Own.cell hO.out _ (app_at 2 rfl) 0 (wv (gotV xs L (A + 0))) (by rw [List.getElem?_map, wsT_get _ _ _ _ (by omega)]; rfl)
    subst hq
    obtain ⟨q', hq', z1, _, _⟩ := Own.cell hO.out _ (app_at 2 rfl) 1 (wv (gotV xs L (A + 1))) (by rw [List.getElem?_map, wsT_get _ _ _ _ (by omega)]; rfl)
    cases hq'
    rw [Hw0.out.1] at z0
    rw [Hw0.out.2] at z1
    unfold wv at z0 z1
    obtain ⟨c0, c1, c2, c3, c4⟩ := dirP_cells hO.out (app_at 0 rfl)
    have m1 : ¬ (m : Int) < 1 := by omega
    have m2 : ¬ (I : Int) ≤ (m : Int) := by omega
    have hI : IntKind.u64.wrap (I : Int) = (I : Int) := IntWalk.u64_in _ ⟨by omega, by omega⟩
    have l1 : ¬ (40 : Int) < (l : Int) := by omega
    have wl : IntKind.i64.wrap (l : Int) = (l : Int) := IntWalk.i64_in _ ⟨by omega, by omega⟩
    have wm : IntKind.i64.wrap (m : Int) = (m : Int) := IntWalk.i64_in _ ⟨by omega, by omega⟩
    have hsl := fun wx => slice_lit (P := Tryz.prog) 30 72 Tryz.underlying30 Tryz.sizeOf72 q 0 8 cp 2 (by omega) (by omega) wx
    rw [show ((2 : Nat) : Int) = 2 from rfl] at hsl
    have hatw : ∀ wx, Grommet.Own w0 wx (Ps ++ [dirP X g I B XM, ebP R ([], 0), rowP 72 1 (.slice (some ⟨q, 0, none⟩) 8 cp) 8 ((wsT (gotV xs L) A 8).map wv)]) → At wx (some ⟨q, 2, none⟩) (((wsT (gotV xs L) A 8).drop 2).map wv) := fun wx hx j u hu => by
     rw [List.getElem?_map, List.getElem?_drop] at hu
     obtain ⟨q'', hq'', y, _, _⟩ := Own.cell hx _ (app_at 2 rfl) (2 + j) u (by rw [List.getElem?_map]; exact hu)
     cases hq''
     exact ⟨q, 2, rfl, y⟩
    have HUp := Lib.hid (fun wx (hx : Grommet.Own w0 wx (Ps ++ [dirP X g I B XM, ebP R ([], 0), rowP 72 1 (.slice (some ⟨q, 0, none⟩) 8 cp) 8 ((wsT (gotV xs L) A 8).map wv)])) => Unpack_any (some ⟨q, 2, none⟩) 6 (cp - 2) ((wsT (gotV xs L) A 8).drop 2) (l : Int) wx (by rw [List.length_drop, length_wsT]) (hatw wx hx) (by omega) (by omega))
    rw [Hup.out] at HUp
    have hOd := Lib.hid (fun nq => hO.out.quiet (grown_drewN wr nq none))
    clear hO hatw
    go_wp2_with fail
    go_quiet (fail)
    go_wp2_with fail
    refine (HUp.out _ (hOd.out _)).mono ?_
    rintro e w5 ⟨rfl, hg5⟩
    have hO5 := Lib.hid ((hOd.out _).quiet hg5)
    clear HUp hOd hg5 c0 c1 c2 c3 c4 z0 z1
    go_wp2_with fail
    refine (HMay.out _).mono ?_
    rintro e w6 ⟨rfl, rfl⟩
    obtain ⟨d0, d1, d2, d3⟩ := ebox_cells hO5.out (app_at 1 rfl)
    obtain ⟨wz, hwz, hOz⟩ := ebox_put (.string (str s)) (.int .i64 (m : Int)) hO5.out (app_at 1 rfl)
    obtain ⟨x0, x1, x2, x3⟩ := ebox_cells hOz (set_at _ (app_at 1 rfl))
    rw [set_mid] at hOz
    have HOe := Lib.hid hOz.less
    clear hOz hO5 HMay
    go_wp2_with fail
    try rw [hwz]
    exact bodyPost_ret (v := .tuple #[enV (s, m), .int .i64 0]) (by simp [results, Tryz.results59, go_sem, x0, x1, enV]) rfl ⟨rfl, HOe.out⟩
end Go.Proofs.YtfljlmmiiccooaaGreatDoor
end
section
namespace Go.Proofs.YtfljlmmiiccooaaGreatDoor
open Go.RowKit Go.Grommet Go.Shelf
attribute [local go_sem] Oper.semAt_some
theorem ePlaces (w : World) (b : Int) : Calls Tryz.prog 58 #[.int .i64 b] w fun e w' => e = .returned (.func (.func 97) #[] #[.pointer (some ⟨w.heap.size, 0, none⟩)]) ∧ w' = w.alloc (.cells #[.int .i64 b] 3) := by
 go_enter Tryz.func58, Tryz.ntmps58
 go_wp2
 go_ret
 exact ⟨rfl, rfl⟩
def pl (b i : Nat) : Nat := (b + i) % 12
def encE (b : Nat) (x : Fin 12) : Array Value := #[.int .i64 ((pl b x.1 : Nat) : Int)]
theorem eplaces_plain (d : Nat) (w : World) (pp b : Nat) (hb : b < 12) :
  SeqPlainK (fun wx => wx.cell? ⟨pp, 0, none⟩ = some (.int .i64 (b : Int))) Fence.wide d Tryz.prog 97 #[.pointer (some ⟨pp, 0, none⟩)] (encE b) (fun ys => ys = List.finRange 12) (fun ys => ∃ k, k < 12 ∧ ys = (List.finRange 12).take (k + 1)) (fun pre x => pre.length = x.1) w := by
 intro l J Jx W hW hKp hY h0
 have HY := Lib.hid hY
 have HJ := Lib.hid h0
 have HK := Lib.hid hKp
 clear hW hY h0 hKp
 refine callsIn_of_wp Tryz.func97 rfl trivial ?_ rfl
 simp only [Tryz.ntmps97, List.size_toArray, List.length_cons, List.length_nil, Nat.reduceAdd, Nat.reduceSub, Array.replicate_succ, Array.replicate_zero, List.push_toArray, List.append_toArray, List.nil_append, List.cons_append]
 gi_wp2_with fail
 gi_loopw [4] (fun p wr => ∃ k : Nat, k ≤ 12 ∧ p = .int .i64 (k : Int) ∧ Hid (J ((List.finRange 12).take k) wr)) (fun p _ => 12 - (intOf p).toNat)
 case atStart => exact ⟨0, Nat.zero_le _, rfl, HJ⟩
 case round =>
  obtain ⟨k, hk, rfl, hR⟩ := hrel
  clear HJ
  by_cases hlt : k < 12
  ·have hN1 : Hid ((List.finRange 12).take (k + 1) = (List.finRange 12).take k ++ [⟨k, hlt⟩]) := Lib.hid (by
    rw [List.take_add_one]; simp [hlt])
   have hy0 := HY.out _ ⟨k, hlt⟩ wr hR.out (by simp; omega)
   unfold encE at hy0
   simp only at hy0
   obtain ⟨A, eA⟩ : ∃ A, pl b k = A := ⟨_, rfl⟩
   rw [eA] at hy0
   unfold pl at eA
   have hlt' : (k : Int) < 12 := by omega
   have wk1 : IntKind.i64.wrap ((k : Int) + 1) = (k : Int) + 1 := IntWalk.i64_in _ ⟨by omega, by omega⟩
   obtain ⟨T, hT⟩ : ∃ T, b + k = T := ⟨_, rfl⟩
   have wT : IntKind.i64.wrap ((b : Int) + (k : Int)) = (T : Int) := by rw [IntWalk.i64_in _ ⟨by omega, by omega⟩]; omega
   have tA : Int.tmod (T : Int) 12 = (A : Int) := by rw [Int.tmod_eq_emod_of_nonneg (by omega)]; omega
   have tA' : (T : Int) % 12 = (A : Int) := by omega
   have wA : IntKind.i64.wrap (A : Int) = (A : Int) := IntWalk.i64_in _ ⟨by omega, by omega⟩
   have c1 := HK.out _ _ hR.out
   clear hT eA
   obtain ⟨fn, tmps, assign, body, hy, hR2⟩ := hy0
   clear hR
   gi_wp2_with fail
   refine ⟨fun h => (by cases h), ?_⟩
   refine hR2.mono ?_
   clear hR2 hy
   rintro e W' (⟨rfl, hJ'⟩ | ⟨rfl, hJx'⟩)
   ·have HJ' := Lib.hid hJ'
    clear hJ'
    gi_wp2
    go_roundw
    case rel => exact ⟨k + 1, by omega, by go_num, Lib.hid (by rw [hN1.out]; exact HJ'.out)⟩
    case measure => simp [intOf]; omega
   ·have HJ' := Lib.hid hJx'
    clear hJx'
    gi_wp2
    refine bodyPost_ret (results_none rfl _ _ _) rfl ?_
    exact ⟨⟨_, rfl⟩, .inr ⟨_, ⟨k, hlt, rfl⟩, by rw [hN1.out]; exact HJ'.out⟩⟩
  ·obtain rfl : k = 12 := by omega
   have HJ8 := Lib.hid (show J (List.finRange 12) wr by have := hR.out; rwa [List.take_of_length_le (by simp)] at this)
   clear hR
   gi_wp2
   go_end0
   exact ⟨⟨_, rfl⟩, .inl ⟨_, rfl, HJ8.out⟩⟩
theorem _root_.Go.Grommet.Own.withObj' {w0 w : World} {Ps : List Pr} (h : Grommet.Own w0 w Ps) (hs : ∀ P ∈ Ps, Solid P) {r : Nat} (h0 : w0.heap.size ≤ r) {o : Obj} (ho : w.heap[r]? = some o) (hl : isLoop o = true) : Grommet.Own w0 w (Ps ++ [objP r o]) := by
 obtain ⟨Fs, h1, h2, h3, h4⟩ := h
 have hx : ∀ k, ∃ G : Nat → Prop, (∀ i, G i → Fs k i) ∧ (∀ P, Ps[k]? = some P → P.holds w G) ∧ (k < Ps.length → ∀ i, G i → ∃ o, w.heap[i]? = some o ∧ isLoop o = false) := by
  intro k
  by_cases hk : k < Ps.length
  ·obtain ⟨G, g1, g2, g3⟩ := hs Ps[k] (List.getElem_mem hk) w (Fs k) (h1 k _ (List.getElem?_eq_getElem hk))
   exact ⟨G, g2, fun P hP => by rw [List.getElem?_eq_getElem hk] at hP; cases hP; exact g1, fun _ => g3⟩
  ·exact ⟨Fs k, fun _ h => h, fun P hP => h1 k P hP, fun h => absurd h hk⟩
 obtain ⟨G, hG⟩ := Classical.axiomOfChoice hx
 have off : ∀ k, k < Ps.length → ∀ i, G k i → i ≠ r := by
  intro k hk i hi e
  obtain ⟨q, hq, hql⟩ := (hG k).2.2 hk i hi
  subst e; rw [ho] at hq; cases hq; rw [hl] at hql; cases hql
 obtain ⟨K, hK⟩ : ∃ K : Nat → Nat → Prop, ∀ k i, K k i ↔ if k < Ps.length then G k i else i = r := ⟨fun k i => if k < Ps.length then G k i else i = r, fun _ _ => Iff.rfl⟩
 have hlen : (Ps ++ [objP r o]).length = Ps.length + 1 := by simp
 refine ⟨K, fun k P hP => ?_, fun j k hj hk hne i hi hi' => ?_, fun k hk i hi => ?_, h4⟩
 ·have hkl := (List.getElem?_eq_some_iff.1 hP).1
  rw [hlen] at hkl
  by_cases hk : k < Ps.length
  ·rw [List.getElem?_append_left hk] at hP
   have e : K k = G k := by funext i; rw [hK k i, if_pos hk]
   rw [e]
   exact (hG k).2.1 P hP
  ·obtain rfl : k = Ps.length := by omega
   rw [List.getElem?_append_right (by omega), Nat.sub_self] at hP
   cases hP
   exact ⟨ho, by rw [hK, if_neg hk], fun i hi => by rw [hK, if_neg hk] at hi; subst hi; exact (Array.getElem?_eq_some_iff.1 ho).1⟩
 ·rw [hlen] at hj hk
  rw [hK] at hi hi'
  by_cases a : j < Ps.length
  ·rw [if_pos a] at hi
   have := off j a i hi
   by_cases b : k < Ps.length
   ·rw [if_pos b] at hi'; exact h2 j k a b hne i ((hG j).1 i hi) ((hG k).1 i hi')
   ·rw [if_neg b] at hi'; omega
  ·rw [if_neg a] at hi
   by_cases b : k < Ps.length
   ·rw [if_pos b] at hi'
    have := off k b i hi'
    omega
   ·omega
 ·rw [hlen] at hk
  rw [hK] at hi
  by_cases a : k < Ps.length
  ·rw [if_pos a] at hi; exact h3 k a i ((hG k).1 i hi)
  ·rw [if_neg a] at hi; omega
theorem obj_last {w0 w : World} {Ps : List Pr} {R : Nat} {o : Obj} (h : Grommet.Own w0 w (Ps ++ [objP R o])) : w.heap[R]? = some o := by
 obtain ⟨F, hF⟩ := h.get Ps.length (by rw [List.getElem?_append_right (Nat.le_refl _), Nat.sub_self]; rfl)
 exact hF.1
end Go.Proofs.YtfljlmmiiccooaaGreatDoor
end
section
namespace Go.Proofs.YtfljlmmiiccooaaGreatDoor
open Go.RowKit Go.Grommet Go.Shelf
attribute [local go_sem] Oper.semAt_some
set_option linter.unusedVariables false
def FirstIs (E : Nat → List UInt8 × Nat) (p : List UInt8 × Nat → Bool) (b : Nat) (x : List UInt8 × Nat) (kk : Int) : Prop :=
 (∃ i, i < 12 ∧ kk = ((pl b i : Nat) : Int) ∧ x = E (pl b i) ∧ p x = true ∧ ∀ j, j < i → p (E (pl b j)) = false) ∨ (kk = -1 ∧ x = ([], 0) ∧ ∀ i, i < 12 → p (E (pl b i)) = false)
theorem pl_lt (b i : Nat) : pl b i < 12 := Nat.mod_lt _ (by decide)
theorem nmBegin_lt (s : ByteArray) : nmBegin s < 12 := by
 unfold nmBegin
 split
 ·exact Nat.mod_lt _ (by decide)
 ·decide
theorem own_keep {w0 W W' : World} {Qs : List Pr} {R : Nat} {row : Option Nat} (h : Grommet.Own w0 W Qs) (hs : ∀ Q ∈ Qs, Solid Q) (h0 : w0.heap.size ≤ R) (hg : W.grownBy W' row) (hr : ∀ r, row = some r → R ≤ r ∧ ∃ o : Obj, W.heap[r]? = some o ∧ isLoop o = true) : Grommet.Own w0 W' Qs :=
 Own.calm (β := Unit) (fun _ => Qs) (fun _ => hs) h0 () W W' row h hg hr
def FQ (Ps : List Pr) (D D1 D2 D3 D4 g I B XM : Nat) (fv : Value) (x : List UInt8 × Nat) (kk en : Int) (pp b : Nat) : List Pr := Ps ++ [dirP D g I B XM, boxP D1 139 #[fv], ebP D2 x, boxP D3 3 #[.int .i64 kk], boxP D4 45 #[.int .i64 en], boxP pp 3 #[.int .i64 (b : Int)]]
theorem FQ_solid {Ps : List Pr} (hs : ∀ Q ∈ Ps, Solid Q) (D D1 D2 D3 D4 g I B XM : Nat) (fv : Value) (x : List UInt8 × Nat) (kk en : Int) (pp b : Nat) : ∀ Q ∈ FQ Ps D D1 D2 D3 D4 g I B XM fv x kk en pp b, Solid Q := by
 intro Q hQ
 rcases List.mem_append.1 hQ with h | h
 ·exact hs Q h
 ·simp only [List.mem_cons, List.not_mem_nil, or_false] at h
  rcases h with rfl | rfl | rfl | rfl | rfl | rfl <;> exact solid_box _ _ _
theorem FQ_at {Ps : List Pr} {D D1 D2 D3 D4 g I B XM : Nat} {fv : Value} {x : List UInt8 × Nat} {kk en : Int} {pp b : Nat} (Rs : List Pr) : (FQ Ps D D1 D2 D3 D4 g I B XM fv x kk en pp b ++ Rs)[Ps.length]? = some (dirP D g I B XM) ∧ (FQ Ps D D1 D2 D3 D4 g I B XM fv x kk en pp b ++ Rs)[Ps.length + 1]? = some (boxP D1 139 #[fv]) ∧ (FQ Ps D D1 D2 D3 D4 g I B XM fv x kk en pp b ++ Rs)[Ps.length + 2]? = some (ebP D2 x) ∧ (FQ Ps D D1 D2 D3 D4 g I B XM fv x kk en pp b ++ Rs)[Ps.length + 3]? = some (boxP D3 3 #[.int .i64 kk]) ∧ (FQ Ps D D1 D2 D3 D4 g I B XM fv x kk en pp b ++ Rs)[Ps.length + 4]? = some (boxP D4 45 #[.int .i64 en]) ∧ (FQ Ps D D1 D2 D3 D4 g I B XM fv x kk en pp b ++ Rs)[Ps.length + 5]? = some (boxP pp 3 #[.int .i64 (b : Int)]) := by
 unfold FQ
 rw [List.append_assoc]
 exact ⟨app_at 0 rfl, app_at 1 rfl, app_at 2 rfl, app_at 3 rfl, app_at 4 rfl, app_at 5 rfl⟩
theorem FQ_app {Ps Rs : List Pr} {D D1 D2 D3 D4 g I B XM : Nat} {fv : Value} {x : List UInt8 × Nat} {kk en : Int} {pp b : Nat} : FQ Ps D D1 D2 D3 D4 g I B XM fv x kk en pp b ++ Rs = Ps ++ ([dirP D g I B XM, boxP D1 139 #[fv], ebP D2 x, boxP D3 3 #[.int .i64 kk], boxP D4 45 #[.int .i64 en], boxP pp 3 #[.int .i64 (b : Int)]] ++ Rs) := by unfold FQ; rw [List.append_assoc]
structure FC (D D1 D2 D3 D4 g I B XM : Nat) (fv : Value) (x : List UInt8 × Nat) (kk en : Int) (pp b : Nat) (w : World) : Prop where
 d0 : w.cell? ⟨D, 0, none⟩ = some (.pointer (some ⟨g, 0, none⟩))
 d1 : w.cell? ⟨D, 1, none⟩ = some (.int .i64 1)
 d2 : w.cell? ⟨D, 2, none⟩ = some (.int .i64 (I : Int))
 d3 : w.cell? ⟨D, 3, none⟩ = some (.int .i64 (B : Int))
 d4 : w.cell? ⟨D, 4, none⟩ = some (.pointer (some ⟨XM, 0, none⟩))
 f : w.cell? ⟨D1, 0, none⟩ = some fv
 x0 : w.cell? ⟨D2, 0, none⟩ = some (.string (str x.1))
 x1 : w.cell? ⟨D2, 1, none⟩ = some (.int .i64 (x.2 : Int))
 x2 : w.frozen? ⟨D2, 0, none⟩ = false
 x3 : w.frozen? ⟨D2, 1, none⟩ = false
 k0 : w.cell? ⟨D3, 0, none⟩ = some (.int .i64 kk)
 k1 : w.frozen? ⟨D3, 0, none⟩ = false
 e0 : w.cell? ⟨D4, 0, none⟩ = some (.int .i64 en)
 e1 : w.frozen? ⟨D4, 0, none⟩ = false
 p0 : w.cell? ⟨pp, 0, none⟩ = some (.int .i64 (b : Int))
theorem FC.of {w0 w : World} {Ps Rs : List Pr} {D D1 D2 D3 D4 g I B XM : Nat} {fv : Value} {x : List UInt8 × Nat} {kk en : Int} {pp b : Nat} (h : Grommet.Own w0 w (FQ Ps D D1 D2 D3 D4 g I B XM fv x kk en pp b ++ Rs)) : FC D D1 D2 D3 D4 g I B XM fv x kk en pp b w := by
 obtain ⟨q0, q1, q2, q3, q4, q5⟩ := FQ_at (Ps := Ps) (D := D) (D1 := D1) (D2 := D2) (D3 := D3) (D4 := D4) (g := g) (I := I) (B := B) (XM := XM) (fv := fv) (x := x) (kk := kk) (en := en) (pp := pp) (b := b) Rs
 obtain ⟨c0, c1, c2, c3, c4⟩ := dirP_cells h q0
 have b1 := h.box _ q1
 have b3 := h.box _ q3
 have b4 := h.box _ q4
 have b5 := h.box _ q5
 obtain ⟨e0, e1, e2, e3⟩ := ebox_cells h q2
 exact ⟨c0, c1, c2, c3, c4, by simp [World.cell?, b1], e0, e1, e2, e3, by simp [World.cell?, b3], by simp [World.frozen?, b3], by simp [World.cell?, b4], by simp [World.frozen?, b4], by simp [World.cell?, b5]⟩
theorem FQ_put {w0 w : World} {Ps Rs : List Pr} {D D1 D2 D3 D4 g I B XM : Nat} {fv : Value} {x : List UInt8 × Nat} {kk en : Int} {pp b : Nat} (y : List UInt8 × Nat) (k2 e2 : Int) (h : Grommet.Own w0 w (FQ Ps D D1 D2 D3 D4 g I B XM fv x kk en pp b ++ Rs)) :
  ∃ wn, (((w.setCell ⟨D2, 0, none⟩ (.string (str y.1))).setCell ⟨D2, 1, none⟩ (.int .i64 (y.2 : Int))).setCell ⟨D3, 0, none⟩ (.int .i64 k2)).setCell ⟨D4, 0, none⟩ (.int .i64 e2) = wn ∧ Grommet.Own w0 wn (FQ Ps D D1 D2 D3 D4 g I B XM fv y k2 e2 pp b ++ Rs) := by
 obtain ⟨q0, q1, q2, q3, q4, q5⟩ := FQ_at (Ps := Ps) (D := D) (D1 := D1) (D2 := D2) (D3 := D3) (D4 := D4) (g := g) (I := I) (B := B) (XM := XM) (fv := fv) (x := x) (kk := kk) (en := en) (pp := pp) (b := b) Rs
 obtain ⟨w1, hw1, h1⟩ := ebox_put (.string (str y.1)) (.int .i64 (y.2 : Int)) h q2
 have h2 := h1.putBox (Ps.length + 3) (by rw [List.getElem?_set_ne (by omega)]; exact q3) 0 (.int .i64 k2)
 have h3 := h2.putBox (Ps.length + 4) (by rw [List.getElem?_set_ne (by omega), List.getElem?_set_ne (by omega)]; exact q4) 0 (.int .i64 e2)
 refine ⟨_, rfl, ?_⟩
 rw [hw1]
 have e : (((FQ Ps D D1 D2 D3 D4 g I B XM fv x kk en pp b ++ Rs).set (Ps.length + 2) (boxP D2 37 #[.string (str y.1), .int .i64 (y.2 : Int)])).set (Ps.length + 3) (boxP D3 3 #[.int .i64 k2])).set (Ps.length + 4) (boxP D4 45 #[.int .i64 e2]) = FQ Ps D D1 D2 D3 D4 g I B XM fv y k2 e2 pp b ++ Rs := by
  unfold FQ
  rw [List.append_assoc, set_mid, set_mid, set_mid, List.append_assoc]
  rfl
 rw [← e]
 exact h3
def FI (w0 : World) (Ps : List Pr) (D D1 D2 D3 D4 g I B XM : Nat) (fv : Value) (pp b : Nat) (E : Nat → List UInt8 × Nat) (p : List UInt8 × Nat → Bool) (pre : List (Fin 12)) (W : World) : Prop :=
 Grommet.Own w0 W (FQ Ps D D1 D2 D3 D4 g I B XM fv ([], 0) 0 0 pp b) ∧ ∀ j, j < pre.length → p (E (pl b j)) = false
def FX (w0 : World) (Ps : List Pr) (D D1 D2 D3 D4 g I B XM : Nat) (fv : Value) (pp b : Nat) (E : Nat → List UInt8 × Nat) (p : List UInt8 × Nat → Bool) (c : Code) (pre : List (Fin 12)) (W : World) : Prop :=
 c = .ret ∧ ∃ i, pre.length = i + 1 ∧ i < 12 ∧ p (E (pl b i)) = true ∧ (∀ j, j < i → p (E (pl b j)) = false) ∧ Grommet.Own w0 W (FQ Ps D D1 D2 D3 D4 g I B XM fv (E (pl b i)) ((pl b i : Nat) : Int) 0 pp b)
theorem firstD {I B n : Nat} {ns : Nat → Prop} {f0 : Nat → Nat} {xs : List Nat} {L : List (Nat × Nat)} {P : Nat → Nat → Nat} {E : Nat → List UInt8 × Nat} (F : Est I B ns n f0 xs L P E) (p : List UInt8 × Nat → Bool) (isF : Nat) (caps : Array Value) (eg : ∀ args wx, (callFunc isF args).run Tryz.prog wx = .ok (.enter isF args) wx) (s : ByteArray) (hss : s.size ≤ 1048576) (b : Nat) (hb : nmBegin s = b) (kv km g XM : Nat) (w0 w : World) (Ps : List Pr) (h : Grommet.Own w0 w Ps) (hsol : ∀ Q ∈ Ps, Solid Q) (hv : Ps[kv]? = some (viewP g xs L)) (hm : Ps[km]? = some (bmP XM g 1 I B n))
  (HF : ∀ k wx Qs, k < 12 → Grommet.Own w0 wx (Ps ++ Qs) → Calls Tryz.prog isF (#[enV (E k)] ++ caps) wx fun e w' => e = .returned (.bool (p (E k))) ∧ Grommet.Own w0 w' (Ps ++ Qs)) :
  Calls Tryz.prog 75 #[dirV g I B XM, .string s, .func (.func isF) #[] caps] w fun e w' => ∃ x kk, e = .returned (.tuple #[enV x, .int .i64 kk, .int .i64 0]) ∧ FirstIs E p b x kk ∧ Grommet.Own w0 w' Ps := by
 have hb12 : b < 12 := by rw [← hb]; exact nmBegin_lt s
 have HBe := Lib.hid (fun wx => EBegin_any s wx hss)
 rw [hb] at HBe
 have HEn := Lib.hid (fun k (hk : k < 12) wx Qs (hx : Grommet.Own w0 wx (Ps ++ Qs)) => entryD F k hk kv km g XM w0 wx (Ps ++ Qs) hx (app_old hv) (app_old hm))
 have HF := Lib.hid HF
 have Hsol := Lib.hid hsol
 have hw0 := h.grown.size
 have a1 := h.addBox 84 #[.pointer (some ⟨g, 0, none⟩), .int .i64 1, .int .i64 (I : Int), .int .i64 (B : Int), .pointer (some ⟨XM, 0, none⟩)]
 obtain ⟨D, eD⟩ : ∃ D, w.heap.size = D := ⟨_, rfl⟩
 obtain ⟨u1, eu1⟩ : ∃ u, w.alloc (.cells #[.pointer (some ⟨g, 0, none⟩), .int .i64 1, .int .i64 (I : Int), .int .i64 (B : Int), .pointer (some ⟨XM, 0, none⟩)] 84) = u := ⟨_, rfl⟩
 obtain ⟨D1, eD1⟩ : ∃ D1, u1.heap.size = D1 := ⟨_, rfl⟩
 rw [eD, eu1] at a1
 have a2 := a1.addBox 139 #[.func (.func isF) #[] caps]
 obtain ⟨u2, eu2⟩ : ∃ u, u1.alloc (.cells #[.func (.func isF) #[] caps] 139) = u := ⟨_, rfl⟩
 obtain ⟨D2, eD2⟩ : ∃ D2, u2.heap.size = D2 := ⟨_, rfl⟩
 rw [eD1, eu2] at a2
 have a3 := a2.addBox 37 #[.string ⟨#[]⟩, .int .i64 0]
 obtain ⟨u3, eu3⟩ : ∃ u, u2.alloc (.cells #[.string ⟨#[]⟩, .int .i64 0] 37) = u := ⟨_, rfl⟩
 obtain ⟨D3, eD3⟩ : ∃ D3, u3.heap.size = D3 := ⟨_, rfl⟩
 rw [eD2, eu3] at a3
 have a4 := a3.addBox 3 #[.int .i64 0]
 obtain ⟨u4, eu4⟩ : ∃ u, u3.alloc (.cells #[.int .i64 0] 3) = u := ⟨_, rfl⟩
 obtain ⟨D4, eD4⟩ : ∃ D4, u4.heap.size = D4 := ⟨_, rfl⟩
 rw [eD3, eu4] at a4
 have a5 := a4.addBox 45 #[.int .i64 0]
 obtain ⟨u5, eu5⟩ : ∃ u, u4.alloc (.cells #[.int .i64 0] 45) = u := ⟨_, rfl⟩
 rw [eD4, eu5] at a5
 have n23 : D3 = D2 + 1 := by rw [← eD3, ← eu3]; simp [eD2]
 have n34 : D4 = D3 + 1 := by rw [← eD4, ← eu4]; simp [eD3]
 have Hn := Lib.hid (show D2 ≠ D3 ∧ D3 ≠ D2 ∧ D2 ≠ D4 ∧ D4 ≠ D2 ∧ D3 ≠ D4 ∧ D4 ≠ D3 by omega)
 clear n23 n34
 have hO := Lib.hid a5
 clear h a1 a2 a3 a4 a5 hv hm hss hb hsol F
 unfold dirV dirC
 refine (callsIn_wide (n := 9)).1 ?_
 refine callsIn_of_wp_marks Tryz.func75 rfl trivial ?_ rfl
 simp only [Tryz.ntmps75, List.size_toArray, List.length_cons, List.length_nil, Nat.reduceAdd, Nat.reduceSub, Array.replicate_succ, Array.replicate_zero, List.push_toArray, List.append_toArray, List.nil_append, List.cons_append]
 gi_wp2_with fail
 all_goals (try rw [eu1]); (try rw [eu2]); (try rw [eu3]); (try rw [eu4]); (try rw [eu5]); (try rw [eD1]); (try rw [eD2]); (try rw [eD3]); (try rw [eD4]); (try rw [eD])
 refine ⟨trivial, (callsIn_wide.2 (HBe.out u5)).mono ?_⟩
 rintro e w1 ⟨rfl, hg1⟩
 have hO1 := hO.out.quiet hg1
 clear hO eD eu1 eu2 eu3 eu4 eu5 eD1 eD2 eD3 eD4 hg1
 have hO2 := hO1.addBox 3 #[.int .i64 (b : Int)]
 obtain ⟨pp, epp⟩ : ∃ pp, w1.heap.size = pp := ⟨_, rfl⟩
 rw [epp] at hO2
 have hO2 := Lib.hid hO2
 have hsz1 := hO1.grown.size
 clear hO1
 gi_wp2_with fail
 refine ⟨trivial, (callsIn_wide.2 (ePlaces _ b)).mono ?_⟩
 rintro e w2 ⟨rfl, hw2⟩
 have hO3 : Grommet.Own w0 w2 (FQ Ps D D1 D2 D3 D4 g I B XM (.func (.func isF) #[] caps) ([], 0) 0 0 pp b) := by
  have h := hO2.out
  rw [← hw2] at h
  simp only [List.append_assoc] at h
  exact h
 have hsz2 : w0.heap.size ≤ w2.heap.size := by rw [hw2]; simp; omega
 rw [epp]
 clear hO2 hw2 epp hsz1
 have hO3 := Lib.hid hO3
 gi_wp2_with fail
 refine' wpIn_range_plainK (α := Fin 12) rfl (by omega) (gf := 97) (lb := #[.pointer (some ⟨pp, 0, none⟩)]) rfl trivial (enters_of Tryz.func97 (by kernel_rfl) rfl) (encs := encE b)
  (eplaces_plain 8 w2 pp b hb12) (Below.refl _ _) (fun _ => rfl)
  (FI w0 Ps D D1 D2 D3 D4 g I B XM (.func (.func isF) #[] caps) pp b E p) (FX w0 Ps D D1 D2 D3 D4 g I B XM (.func (.func isF) #[] caps) pp b E p)
  (fun pre W W' row h hg hr => ⟨own_keep h.1 (FQ_solid Hsol.out _ _ _ _ _ _ _ _ _ _ _ _ _ _ _) hsz2 hg hr, h.2⟩)
  (fun c pre W W' row h hg hr => by
   obtain ⟨hc, i, h1, h2, h3, h4, h5⟩ := h
   exact ⟨hc, i, h1, h2, h3, h4, own_keep h5 (FQ_solid Hsol.out _ _ _ _ _ _ _ _ _ _ _ _ _ _ _) hsz2 hg hr⟩)
  ⟨hO3.out, fun j hj => absurd hj (by simp)⟩ _ (fun pre W h => (FC.of (Rs := []) (by rw [List.append_nil]; exact h.1)).p0) ?assign ?body ?done ?stop
 case assign =>
  intro l x W K hK
  unfold encE
  gi_wp2
  exact hK
 case body =>
  rintro l pre ⟨i, hi⟩ W hL hlen lp hbk
  obtain rfl : pre.length = i := hlen
  obtain ⟨hO, hno⟩ := hL
  have hO4 := hO.withObjs (FQ_solid Hsol.out _ _ _ _ _ _ _ _ _ _ _ _ _ _ _) hsz2 hbk.marks rfl hbk.lp rfl
  have hc := FC.of hO4
  obtain ⟨c0, c1, c2, c3, c4⟩ := And.intro hc.d0 (And.intro hc.d1 (And.intro hc.d2 (And.intro hc.d3 hc.d4)))
  obtain ⟨K, hKe⟩ : ∃ K, pl b pre.length = K := ⟨_, rfl⟩
  have hK12 : K < 12 := by rw [← hKe]; exact pl_lt _ _
  have Hno := Lib.hid (And.intro hKe hno)
  have HE := Lib.hid (HEn.out K hK12 W _ (by rw [← FQ_app]; exact hO4))
  unfold dirV dirC enV at HE
  simp only [hKe]
  obtain ⟨⟨xn, xm⟩, hx⟩ : ∃ x, E K = x := ⟨_, rfl⟩
  rw [hx] at HE
  have HFk := Lib.hid (fun wx Qs (hO : Grommet.Own w0 wx (Ps ++ Qs)) => HF.out K wx Qs hK12 hO)
  rw [hx] at HFk
  unfold enV at HFk
  have Hx := Lib.hid hx
  clear hO hO4 hc hno hKe hx
  gi_wp2_with fail
  refine ⟨trivial, (callsIn_wide.2 HE.out).mono ?_⟩
  rintro e W1 ⟨rfl, hO5⟩
  rw [← FQ_app] at hO5
  have hO5 := Lib.hid hO5
  have hO6 := hO5.out.addBox 37 #[.string (str xn), .int .i64 (xm : Int)]
  obtain ⟨X, eX⟩ : ∃ X, W1.heap.size = X := ⟨_, rfl⟩
  obtain ⟨W2, eW2⟩ : ∃ W2, W1.alloc (.cells #[.string (str xn), .int .i64 (xm : Int)] 37) = W2 := ⟨_, rfl⟩
  rw [eX, eW2, List.append_assoc] at hO6
  have hc := FC.of hO6
  have hf := hc.f
  have hO6 := Lib.hid hO6
  have hxb : W2.cell? ⟨X, 0, none⟩ = some (.string (str xn)) ∧ W2.cell? ⟨X, 1, none⟩ = some (.int .i64 (xm : Int)) := by
   have h := hO6.out
   rw [← List.append_assoc] at h
   obtain ⟨h0, h1, _⟩ := ebox_cells (v0 := .string (str xn)) (v1 := .int .i64 (xm : Int)) h (app_at 0 rfl)
   exact ⟨h0, h1⟩
  obtain ⟨z0, z1⟩ := hxb
  clear hO5 HE c0 c1 c2 c3 c4 hc
  gi_wp2_with fail
  all_goals (try rw [eW2]); (try rw [eX])
  gi_wp2_with fail
  refine ⟨trivial, (callsIn_wide.2 (HFk.out W2 _ (by rw [← FQ_app]; exact hO6.out))).mono ?_⟩
  rintro e W3 ⟨rfl, hO7⟩
  rw [← FQ_app] at hO7
  have hO7 := Lib.hid hO7
  have Hpp : Hid (∀ q, p (xn, xm) = q → p (E K) = q) := Lib.hid (fun q h => by rw [Hx.out]; exact h)
  clear hO6 HFk z0 z1 hf eW2 eX
  cases hp : p (xn, xm) with
  | false =>
   have hfin : Hid (Book w2.heap.size lp W3 ∧ FI w0 Ps D D1 D2 D3 D4 g I B XM (.func (.func isF) #[] caps) pp b E p (pre ++ [(⟨pre.length, hi⟩ : Fin 12)]) W3) := Lib.hid (by
    have h := hO7.out
    rw [← List.append_assoc] at h
    obtain ⟨h1, h2⟩ := objs_back h.less
    refine ⟨h1, h2, fun j hj => ?_⟩
    rw [List.length_append, List.length_singleton] at hj
    by_cases e : j < pre.length
    ·exact Hno.out.2 j e
    ·obtain rfl : j = pre.length := by omega
     rw [Hno.out.1]
     exact Hpp.out _ hp)
   clear hO7
   gi_wp2
   exact hfin.out
  | true =>
   have hc := FC.of hO7.out
   obtain ⟨x0, x1, x2, x3, k0, k1, e0, e1⟩ := And.intro hc.x0 (And.intro hc.x1 (And.intro hc.x2 (And.intro hc.x3 (And.intro hc.k0 (And.intro hc.k1 (And.intro hc.e0 hc.e1))))))
   obtain ⟨z0, z1⟩ : W3.cell? ⟨X, 0, none⟩ = some (.string (str xn)) ∧ W3.cell? ⟨X, 1, none⟩ = some (.int .i64 (xm : Int)) := by
    have h := hO7.out
    rw [← List.append_assoc] at h
    obtain ⟨h0, h1, _⟩ := ebox_cells (v0 := .string (str xn)) (v1 := .int .i64 (xm : Int)) h (app_at 0 rfl)
    exact ⟨h0, h1⟩
   obtain ⟨n1, n2, n3, n4, n5, n6⟩ := Hn.out
   obtain ⟨wn, hwn, hOn⟩ := FQ_put (xn, xm) (K : Int) 0 hO7.out
   have hfin : Hid (Book w2.heap.size lp wn ∧ FX w0 Ps D D1 D2 D3 D4 g I B XM (.func (.func isF) #[] caps) pp b E p .ret (pre ++ [(⟨pre.length, hi⟩ : Fin 12)]) wn) := Lib.hid (by
    rw [← List.append_assoc] at hOn
    obtain ⟨h1, h2⟩ := objs_back hOn.less
    refine ⟨h1, rfl, pre.length, by simp, hi, by rw [Hno.out.1]; exact Hpp.out _ hp, Hno.out.2, ?_⟩
    rw [Hno.out.1, Hx.out]
    exact h2)
   clear hO7 hc hOn
   gi_wp2_with fail
   all_goals (try rw [hwn])
   exact hfin.out
 case done =>
  rintro D' ys W hD hys hL hK
  subst hys
  obtain ⟨hO, hno⟩ := hL
  have hOD := hO.withObj' (FQ_solid Hsol.out _ _ _ _ _ _ _ _ _ _ _ _ _ _ _) (by omega) hK rfl
  have hc := FC.of hOD
  obtain ⟨x0, x1, x2, x3, k0, k1, e0, e1⟩ := And.intro hc.x0 (And.intro hc.x1 (And.intro hc.x2 (And.intro hc.x3 (And.intro hc.k0 (And.intro hc.k1 (And.intro hc.e0 hc.e1))))))
  obtain ⟨n1, n2, n3, n4, n5, n6⟩ := Hn.out
  obtain ⟨wn, hwn, hOn⟩ := FQ_put ([], 0) (-1) 0 hOD
  have hKn := Lib.hid (obj_last hOn)
  have hOn := Lib.hid hOn.less
  have Hno := Lib.hid hno
  have hDw := Lib.hid (show w0.heap.size ≤ D' by omega)
  rw [show str ([] : List UInt8) = ⟨#[]⟩ from rfl, show ((((([] : List UInt8), (0 : Nat)) : List UInt8 × Nat).2 : Nat) : Int) = 0 from rfl] at hwn
  clear hO hno hOD hc hK
  gi_wp2_with fail
  all_goals (try rw [hwn])
  refine leaves_own (D := D') hOn.out (FQ_solid Hsol.out _ _ _ _ _ _ _ _ _ _ _ _ _ _ _) hDw.out hKn.out ?_
  intro w' hw'
  have hc := FC.of (Rs := []) (by rw [List.append_nil]; exact hw')
  refine ⟨.tuple #[enV ([], 0), .int .i64 (-1), .int .i64 0], by simp [results, Tryz.results75, go_sem, hc.x0, hc.x1, hc.k0, hc.e0, enV], Exists.intro [] (Exists.intro 0 (Exists.intro (-1) ⟨rfl, .inr ⟨rfl, rfl, fun i hi => Hno.out i (by simpa using hi)⟩, ?_⟩))⟩
  unfold FQ at hw'
  exact hw'.less
 case stop =>
  rintro D' c pre W hD hSp hX hK
  obtain ⟨rfl, i, hi1, hi2, hp, hno, hO⟩ := hX
  have Hp := Lib.hid (And.intro hi2 (And.intro hp hno))
  have hO := Lib.hid hO
  have hK := Lib.hid hK
  have hDw := Lib.hid (show w0.heap.size ≤ D' by omega)
  clear hp hno hSp hi1
  gi_wp2_with fail
  refine leaves_own (D := D') hO.out (FQ_solid Hsol.out _ _ _ _ _ _ _ _ _ _ _ _ _ _ _) hDw.out hK.out ?_
  intro w' hw'
  have hc := FC.of (Rs := []) (by rw [List.append_nil]; exact hw')
  refine ⟨.tuple #[enV (E (pl b i)), .int .i64 ((pl b i : Nat) : Int), .int .i64 0], by simp [results, Tryz.results75, go_sem, hc.x0, hc.x1, hc.k0, hc.e0, enV], Exists.intro (E (pl b i)) (Exists.intro _ ⟨rfl, .inl ⟨i, hi2, rfl, rfl, Hp.out.2.1, Hp.out.2.2⟩, ?_⟩)⟩
  unfold FQ at hw'
  exact hw'.less
end Go.Proofs.YtfljlmmiiccooaaGreatDoor
end
section
namespace Go.Proofs.YtfljlmmiiccooaaGreatDoor
open Go.RowKit Go.Grommet
set_option linter.unusedVariables false
theorem toList_str (l : List UInt8) : (str l).toList = l := by rw [ByteArray.toList_eq]; rfl
theorem toList_of (s : ByteArray) : s.toList = bytesOf s := ByteArray.toList_eq s
theorem isName (NB : Nat) (s : ByteArray) (x : List UInt8 × Nat) (w : World) (h : w.cell? ⟨NB, 0, none⟩ = some (.string s)) (hx : x.2 < 100000) :
  Calls Tryz.prog 76 #[enV x, .pointer (some ⟨NB, 0, none⟩)] w fun e w' => e = .returned (.bool (x.1 == bytesOf s)) ∧ w.grownBy w' none := by
 obtain ⟨a, m⟩ := x
 unfold enV
 dsimp only at hx ⊢
 obtain ⟨Z, hZ⟩ : ∃ Z, w.heap.size = Z := ⟨_, rfl⟩
 have hg := World.grownBy_alloc w (.cells #[.string (str a), .int .i64 (m : Int)] 37) none
 have hb := heap_alloc_new w (.cells #[.string (str a), .int .i64 (m : Int)] 37)
 have hn := hg.cell h (by simp)
 obtain ⟨w2, hw2⟩ : ∃ w2, w.alloc (.cells #[.string (str a), .int .i64 (m : Int)] 37) = w2 := ⟨_, rfl⟩
 rw [hw2] at hg hb hn
 rw [hZ] at hb
 have z0 : w2.cell? ⟨Z, 0, none⟩ = some (.string (str a)) := by simp [World.cell?, hb]
 have z1 : w2.cell? ⟨Z, 1, none⟩ = some (.int .i64 (m : Int)) := by simp [World.cell?, hb]
 have hg := Lib.hid hg
 have qm : ((m : Int) == (m : Int)) = true := by simp
 clear hb h
 by_cases ea : a = bytesOf s
 ·subst ea
  rw [show (bytesOf s == bytesOf s) = true from by simp]
  have qs : ((str (bytesOf s)).toList == s.toList) = true := by rw [toList_str, toList_of]; simp
  have qs2 : (str (bytesOf s)).toList = s.toList := by rw [toList_str, toList_of]
  go_enter Tryz.func76, Tryz.ntmps76
  go_wp2
  all_goals (try rw [hw2]); (try rw [hZ])
  go_wp2
  go_ret
  exact ⟨rfl, hg.out⟩
 ·rw [show (a == bytesOf s) = false from by simpa using ea]
  have qs : ((str a).toList == s.toList) = false := by rw [toList_str, toList_of]; simpa using ea
  have qs2 : ¬ (str a).toList = s.toList := by rw [toList_str, toList_of]; exact ea
  go_enter Tryz.func76, Tryz.ntmps76
  go_wp2
  all_goals (try rw [hw2]); (try rw [hZ])
  go_wp2
  go_ret
  exact ⟨rfl, hg.out⟩
def isNone (x : List UInt8 × Nat) : Bool := x.1 == [] && x.2 == 0
theorem isEmpty (x : List UInt8 × Nat) (w : World) (hx : x.2 < 100000) :
  Calls Tryz.prog 80 #[enV x] w fun e w' => e = .returned (.bool (isNone x)) ∧ w.grownBy w' none := by
 obtain ⟨a, m⟩ := x
 unfold enV isNone
 dsimp only at hx ⊢
 obtain ⟨Z, hZ⟩ : ∃ Z, w.heap.size = Z := ⟨_, rfl⟩
 have hg := World.grownBy_alloc w (.cells #[.string (str a), .int .i64 (m : Int)] 37) none
 have hb := heap_alloc_new w (.cells #[.string (str a), .int .i64 (m : Int)] 37)
 obtain ⟨w2, hw2⟩ : ∃ w2, w.alloc (.cells #[.string (str a), .int .i64 (m : Int)] 37) = w2 := ⟨_, rfl⟩
 rw [hw2] at hg hb
 rw [hZ] at hb
 have z0 : w2.cell? ⟨Z, 0, none⟩ = some (.string (str a)) := by simp [World.cell?, hb]
 have z1 : w2.cell? ⟨Z, 1, none⟩ = some (.int .i64 (m : Int)) := by simp [World.cell?, hb]
 have hg := Lib.hid hg
 clear hb
 have te : (⟨#[]⟩ : ByteArray).toList = [] := by rw [ByteArray.toList_eq]
 by_cases ea : a = []
 ·subst ea
  have qs : (str ([] : List UInt8)) = ⟨#[]⟩ := rfl
  by_cases em : m = 0
  ·subst em
   rw [show ((0 : Nat) : Int) = 0 from rfl] at *
   rw [qs] at *
   go_enter Tryz.func80, Tryz.ntmps80
   go_wp2
   all_goals (try rw [hw2]); (try rw [hZ])
   go_wp2
   go_ret
   exact ⟨by simp, by first | exact hg.out | (rw [hw2]; exact hg.out) | exact World.grownBy_alloc _ _ _⟩
  ·have qm : ((m : Int) == 0) = false := by simpa using em
   have qm2 : ¬ (m : Int) = 0 := by omega
   rw [qs] at *
   go_enter Tryz.func80, Tryz.ntmps80
   go_wp2
   all_goals (try rw [hw2]); (try rw [hZ])
   go_wp2
   go_ret
   exact ⟨by simp [em], by first | exact hg.out | (rw [hw2]; exact hg.out) | exact World.grownBy_alloc _ _ _⟩
 ·have qs : ((str a).toList == []) = false := by rw [toList_str]; simpa using ea
  have qs2 : ¬ (str a).toList = [] := by rw [toList_str]; exact ea
  have qs3 : (str a).toList.isEmpty = false := by rw [toList_str]; simpa using ea
  have qs4 : ¬ str a = ⟨#[]⟩ := fun e => qs2 (by rw [e]; exact te)
  go_enter Tryz.func80, Tryz.ntmps80
  go_wp2
  all_goals (try rw [hw2]); (try rw [hZ])
  go_wp2
  go_ret
  exact ⟨by simp [ea], by first | exact hg.out | (rw [hw2]; exact hg.out) | exact World.grownBy_alloc _ _ _⟩
end Go.Proofs.YtfljlmmiiccooaaGreatDoor
end
section
namespace Go.Proofs.YtfljlmmiiccooaaGreatDoor
open Go.RowKit Go.Grommet
set_option linter.unusedVariables false
theorem enV_mk (s : List UInt8) (m : Nat) : enV (s, m) = .agg #[.string (str s), .int .i64 (m : Int)] := rfl
def EFind (E : Nat → List UInt8 × Nat) (s : ByteArray) (x : List UInt8 × Nat) (kk en : Int) : Prop :=
 (okName s = false ∧ x = ([], 0) ∧ kk = 0 ∧ en = 13) ∨ (okName s = true ∧ (∃ k : Nat, k < 12 ∧ kk = (k : Int) ∧ x = E k ∧ (E k).1 = bytesOf s) ∧ en = 0) ∨ (okName s = true ∧ (∀ k, k < 12 → (E k).1 ≠ bytesOf s) ∧ x = ([], 0) ∧ kk = 0 ∧ en = 6)
def EFindR (w0 : World) (Ps : List Pr) (E : Nat → List UInt8 × Nat) (s : ByteArray) (e : Ending) (w' : World) : Prop :=
 ∃ x kk en, e = .returned (.tuple #[enV x, .int .i64 kk, .int .i64 en]) ∧ EFind E s x kk en ∧ Grommet.Own w0 w' Ps
theorem pl_inv {b k : Nat} (hb : b < 12) (hk : k < 12) : ∃ i, i < 12 ∧ pl b i = k := ⟨(k + 12 - b) % 12, Nat.mod_lt _ (by decide), by unfold pl; omega⟩
theorem Est.small {I B n : Nat} {ns : Nat → Prop} {f0 : Nat → Nat} {xs : List Nat} {L : List (Nat × Nat)} {P : Nat → Nat → Nat} {E : Nat → List UInt8 × Nat} (F : Est I B ns n f0 xs L P E) {k : Nat} (hk : k < 12) : (E k).2 < 64 := by
 have hmN := mayN F.st.may
 by_cases h0 : P n k = 0
 ·rw [F.no k hk h0]; decide
 ·have := (F.yes k hk h0).2.2.2.2.2; omega
theorem findD {I B n : Nat} {ns : Nat → Prop} {f0 : Nat → Nat} {xs : List Nat} {L : List (Nat × Nat)} {P : Nat → Nat → Nat} {E : Nat → List UInt8 × Nat} (F : Est I B ns n f0 xs L P E) (s : ByteArray) (hss : s.size ≤ 1048576) (kv km g XM : Nat) (w0 w : World) (Ps : List Pr) (h : Grommet.Own w0 w Ps) (hsol : ∀ Q ∈ Ps, Solid Q) (hv : Ps[kv]? = some (viewP g xs L)) (hm : Ps[km]? = some (bmP XM g 1 I B n)) :
  Calls Tryz.prog 39 #[dirV g I B XM, .string s] w (EFindR w0 Ps E s) := by
 have HM := Lib.hid (fun wx => EMay_any s wx)
 obtain ⟨b, hb⟩ : ∃ b, nmBegin s = b := ⟨_, rfl⟩
 have hb12 : b < 12 := by rw [← hb]; exact nmBegin_lt s
 have a1 := h.addBox 84 #[.pointer (some ⟨g, 0, none⟩), .int .i64 1, .int .i64 (I : Int), .int .i64 (B : Int), .pointer (some ⟨XM, 0, none⟩)]
 obtain ⟨D, eD⟩ : ∃ D, w.heap.size = D := ⟨_, rfl⟩
 obtain ⟨u1, eu1⟩ : ∃ u, w.alloc (.cells #[.pointer (some ⟨g, 0, none⟩), .int .i64 1, .int .i64 (I : Int), .int .i64 (B : Int), .pointer (some ⟨XM, 0, none⟩)] 84) = u := ⟨_, rfl⟩
 rw [eD, eu1] at a1
 have a2 := a1.addBox 9 #[.string s]
 obtain ⟨NB, eN⟩ : ∃ D, u1.heap.size = D := ⟨_, rfl⟩
 obtain ⟨u2, eu2⟩ : ∃ u, u1.alloc (.cells #[.string s] 9) = u := ⟨_, rfl⟩
 rw [eN, eu2] at a2
 have a3 := a2.addBox 37 #[.string ⟨#[]⟩, .int .i64 0]
 obtain ⟨R, eR⟩ : ∃ D, u2.heap.size = D := ⟨_, rfl⟩
 obtain ⟨u3, eu3⟩ : ∃ u, u2.alloc (.cells #[.string ⟨#[]⟩, .int .i64 0] 37) = u := ⟨_, rfl⟩
 rw [eR, eu3] at a3
 obtain ⟨Qs, hQs⟩ : ∃ Qs, Ps ++ [dirP D g I B XM, boxP NB 9 #[.string s], ebP R ([], 0)] = Qs := ⟨_, rfl⟩
 have hO : Grommet.Own w0 u3 Qs := by rw [← hQs]; simp only [List.append_assoc] at a3; exact a3
 have hQsol : ∀ Q ∈ Qs, Solid Q := fun Q hQ => by
  rw [← hQs] at hQ
  rcases List.mem_append.1 hQ with hx | hx
  ·exact hsol Q hx
  ·simp only [List.mem_cons, List.not_mem_nil, or_false] at hx
   rcases hx with rfl | rfl | rfl <;> exact solid_box _ _ _
 have HNB := Lib.hid (show ∀ wx Rs, Grommet.Own w0 wx (Qs ++ Rs) → wx.cell? ⟨NB, 0, none⟩ = some (.string s) from fun wx Rs hx => by
  rw [← hQs] at hx
  have := hx.box _ (app_old (app_at 1 rfl))
  simp [World.cell?, this])
 have HDc := Lib.hid (show ∀ wx Rs, Grommet.Own w0 wx (Qs ++ Rs) → _ from fun wx Rs hx => by
  rw [← hQs] at hx
  exact dirP_cells hx (app_old (app_at 0 rfl)))
 have HRc := Lib.hid (show ∀ wx Rs, Grommet.Own w0 wx (Qs ++ Rs) → _ from fun wx Rs hx => by
  rw [← hQs] at hx
  exact ebox_cells (v0 := .string ⟨#[]⟩) (v1 := .int .i64 0) hx (app_old (app_at 2 rfl)))
 have HRp := Lib.hid (show ∀ wx Rs (y : List UInt8 × Nat), Grommet.Own w0 wx (Qs ++ Rs) → ∃ wn, (wx.setCell ⟨R, 0, none⟩ (.string (str y.1))).setCell ⟨R, 1, none⟩ (.int .i64 (y.2 : Int)) = wn ∧ (wn.cell? ⟨R, 0, none⟩ = some (.string (str y.1)) ∧ wn.cell? ⟨R, 1, none⟩ = some (.int .i64 (y.2 : Int))) ∧ Grommet.Own w0 wn Ps from fun wx Rs y hx => by
  rw [← hQs, List.append_assoc] at hx
  obtain ⟨wn, h1, h2⟩ := ebox_put (.string (str y.1)) (.int .i64 (y.2 : Int)) hx (app_at 2 rfl)
  obtain ⟨x0, x1, _⟩ := ebox_cells h2 (set_at _ (app_at 2 rfl))
  rw [set_mid] at h2
  exact ⟨wn, h1, ⟨x0, x1⟩, h2.less⟩)
 have HFi := Lib.hid (firstD F (fun x => x.1 == bytesOf s) 76 #[.pointer (some ⟨NB, 0, none⟩)] (enters_of Tryz.func76 (by kernel_rfl) rfl) s hss b hb kv km g XM w0 u3 Qs hO hQsol (by rw [← hQs]; exact app_old hv) (by rw [← hQs]; exact app_old hm) (fun k wx Rs hk hx => by
  refine (isName NB s (E k) wx (HNB.out wx Rs hx) (by have := F.small hk; omega)).mono ?_
  rintro e w' ⟨he, hg⟩
  exact ⟨he, hx.quiet hg⟩))
 obtain ⟨d0, d1, d2, d3, d4⟩ := HDc.out u3 [] (by rw [List.append_nil]; exact hO)
 have n0 := HNB.out u3 [] (by rw [List.append_nil]; exact hO)
 have hO := Lib.hid hO
 cases hok : okName s with
 | false =>
  rw [hok] at HM
  obtain ⟨r0, r1, r2, r3⟩ := HRc.out u3 [] (by rw [List.append_nil]; exact hO.out)
  obtain ⟨wn, hwn, ⟨x0, x1⟩, hOn⟩ := HRp.out u3 [] ([], 0) (by rw [List.append_nil]; exact hO.out)
  rw [show str (([] : List UInt8), (0 : Nat)).1 = ⟨#[]⟩ from rfl, show ((((([] : List UInt8), (0 : Nat)) : List UInt8 × Nat).2 : Nat) : Int) = 0 from rfl] at hwn
  rw [show str (([] : List UInt8), (0 : Nat)).1 = ⟨#[]⟩ from rfl] at x0
  rw [show ((((([] : List UInt8), (0 : Nat)) : List UInt8 × Nat).2 : Nat) : Int) = 0 from rfl] at x1
  have hOn := Lib.hid hOn
  have Hok := Lib.hid hok
  clear h a1 a2 a3 hv hm hss hsol hb hQsol hok hO F hQs HRp HRc HFi HNB HDc
  unfold dirV dirC
  go_enter Tryz.func39, Tryz.ntmps39
  go_wp2_with fail
  all_goals (try rw [eu1]); (try rw [eu2]); (try rw [eu3]); (try rw [eN]); (try rw [eR]); (try rw [eD])
  go_wp2_with fail
  refine (HM.out _).mono ?_
  rintro e w1 ⟨rfl, rfl⟩
  go_wp2_with fail
  all_goals (try rw [hwn])
  exact bodyPost_ret (v := .tuple #[enV ([], 0), .int .i64 0, .int .i64 13]) (by simp [results, Tryz.results39, go_sem, x0, x1, enV, str]) rfl ⟨([], 0), 0, 13, rfl, .inl ⟨Hok.out, rfl, rfl, rfl⟩, hOn.out⟩
 | true =>
  rw [hok] at HM
  have Hok := Lib.hid hok
  clear h a1 a2 a3 hv hm hss hsol hb hQsol hok F hQs HNB HDc
  unfold dirV dirC at *
  go_enter Tryz.func39, Tryz.ntmps39
  go_wp2_with fail
  all_goals (try rw [eu1]); (try rw [eu2]); (try rw [eu3]); (try rw [eN]); (try rw [eR]); (try rw [eD])
  go_wp2_with fail
  refine (HM.out _).mono ?_
  rintro e w1 ⟨rfl, rfl⟩
  clear HM
  go_wp2_with fail
  refine HFi.out.mono ?_
  rintro e w2 ⟨⟨xn, xm⟩, kk, rfl, hfi, hO2⟩
  have hO3 := hO2.addBox 37 #[.string (str xn), .int .i64 (xm : Int)]
  obtain ⟨X, eX⟩ : ∃ X, w2.heap.size = X := ⟨_, rfl⟩
  obtain ⟨w3, eW⟩ : ∃ W, w2.alloc (.cells #[.string (str xn), .int .i64 (xm : Int)] 37) = W := ⟨_, rfl⟩
  rw [eX, eW] at hO3
  obtain ⟨z0, z1, _⟩ := ebox_cells (v0 := .string (str xn)) (v1 := .int .i64 (xm : Int)) hO3 (app_at 0 rfl)
  obtain ⟨r0, r1, r2, r3⟩ := HRc.out w3 _ hO3
  have hO3 := Lib.hid hO3
  have Hfi := Lib.hid hfi
  rw [enV_mk]
  clear hfi hO2 HFi hO d0 d1 d2 d3 d4 n0
  by_cases hk0 : kk < 0
  ·as_aux_lemma =>
   obtain ⟨wn, hwn, ⟨x0, x1⟩, hOn⟩ := HRp.out w3 _ ([], 0) hO3.out
   rw [show str (([] : List UInt8), (0 : Nat)).1 = ⟨#[]⟩ from rfl, show ((((([] : List UInt8), (0 : Nat)) : List UInt8 × Nat).2 : Nat) : Int) = 0 from rfl] at hwn
   rw [show str (([] : List UInt8), (0 : Nat)).1 = ⟨#[]⟩ from rfl] at x0
   rw [show ((((([] : List UInt8), (0 : Nat)) : List UInt8 × Nat).2 : Nat) : Int) = 0 from rfl] at x1
   have hOn := Lib.hid hOn
   have Hk0 := Lib.hid hk0
   clear hO3 HRp HRc
   go_wp2_with fail
   all_goals (try rw [eW]); (try rw [eX])
   go_wp2_with fail
   all_goals (try rw [hwn])
   exact bodyPost_ret (v := .tuple #[enV ([], 0), .int .i64 0, .int .i64 6]) (by simp [results, Tryz.results39, go_sem, x0, x1, enV, str]) rfl ⟨([], 0), 0, 6, rfl, .inr (.inr ⟨Hok.out, by
    rcases Hfi.out with ⟨i, hi, he, _⟩ | ⟨he, _, hall⟩
    ·have := Hk0.out; omega
    ·intro k hk hek
     obtain ⟨i, hi, hpl⟩ := pl_inv hb12 hk
     have := hall i hi
     rw [hpl] at this
     simp [hek] at this, rfl, rfl, rfl⟩), hOn.out⟩
  ·as_aux_lemma =>
   obtain ⟨wn, hwn, ⟨x0, x1⟩, hOn⟩ := HRp.out w3 _ (xn, xm) hO3.out
   have hOn := Lib.hid hOn
   have Hk0 := Lib.hid hk0
   clear hO3 HRp HRc
   go_wp2_with fail
   all_goals (try rw [eW]); (try rw [eX])
   go_wp2_with fail
   all_goals (try rw [hwn])
   exact bodyPost_ret (v := .tuple #[enV (xn, xm), .int .i64 kk, .int .i64 0]) (by simp [results, Tryz.results39, go_sem, x0, x1, enV]) rfl ⟨(xn, xm), kk, 0, rfl, .inr (.inl ⟨Hok.out, by
    rcases Hfi.out with ⟨i, hi, he, hx, hp, _⟩ | ⟨he, _⟩
    ·exact ⟨_, pl_lt b i, he, hx, by rw [← hx]; simpa using hp⟩
    ·have := Hk0.out; omega, rfl⟩), hOn.out⟩
end Go.Proofs.YtfljlmmiiccooaaGreatDoor
end
section
namespace Go.Proofs.YtfljlmmiiccooaaGreatDoor
open Go.RowKit Go.Grommet
set_option linter.unusedVariables false
def geoB (G I B : Nat) : Pr := boxP G 23 #[.int .i64 1, .int .i64 (I : Int), .int .i64 (B : Int)]
theorem solid_app {Ps Qs : List Pr} (h : ∀ Q ∈ Ps, Solid Q) (h2 : ∀ Q ∈ Qs, Solid Q) : ∀ Q ∈ Ps ++ Qs, Solid Q := fun Q hQ => by
 rcases List.mem_append.1 hQ with hx | hx
 ·exact h Q hx
 ·exact h2 Q hx
theorem okName_ne {s : ByteArray} (h : okName s = true) : bytesOf s ≠ [] := fun e => by
 have := okName_size h
 rw [← length_bytesOf, e] at this
 simp at this
theorem Est.there {I B n : Nat} {ns : Nat → Prop} {f0 : Nat → Nat} {xs : List Nat} {L : List (Nat × Nat)} {P : Nat → Nat → Nat} {E : Nat → List UInt8 × Nat} (F : Est I B ns n f0 xs L P E) {k : Nat} (hk : k < 12) {s : ByteArray} (hs : okName s = true) (he : (E k).1 = bytesOf s) : P n k ≠ 0 := fun h => by
 have := (F.none_iff hk).2 h
 exact okName_ne hs (he.symm.trans this)
theorem FindE {I B n : Nat} {ns : Nat → Prop} {f0 : Nat → Nat} {xs : List Nat} {L : List (Nat × Nat)} {P : Nat → Nat → Nat} {E : Nat → List UInt8 × Nat} (F : Est I B ns n f0 xs L P E) (s : ByteArray) (hss : s.size ≤ 1048576) (kv g : Nat) (w0 w : World) (Ps : List Pr) (h : Grommet.Own w0 w Ps) (hsol : ∀ Q ∈ Ps, Solid Q) (hv : Ps[kv]? = some (viewP g xs L)) :
  Calls Tryz.prog 15 #[.pointer (some ⟨g, 0, none⟩), gv ((1 : Nat) : Int) (I : Int) (B : Int), .int .i64 (n : Int), .string s] w (EFindR w0 Ps E s) := by
 have HOp := Lib.hid (fun wx Qs (hx : Grommet.Own w0 wx (Ps ++ Qs)) => openD F kv g w0 wx (Ps ++ Qs) hx (app_old hv))
 have HFi := Lib.hid (fun G R X XM wx (hx : Grommet.Own w0 wx (Ps ++ [geoB G I B, ebP R ([], 0), bmP XM g 1 I B n, dirP X g I B XM])) => findD F s hss kv (Ps.length + 2) g XM w0 wx _ hx (solid_app hsol (fun Q hQ => by
  simp only [List.mem_cons, List.not_mem_nil, or_false] at hQ
  rcases hQ with rfl | rfl | rfl | rfl <;> exact solid_box _ _ _)) (app_old hv) (app_at 2 rfl))
 have hG := h.addBox 23 #[.int .i64 1, .int .i64 (I : Int), .int .i64 (B : Int)]
 obtain ⟨G, eG⟩ : ∃ G, w.heap.size = G := ⟨_, rfl⟩
 obtain ⟨wg, ewg⟩ : ∃ wg, w.alloc (.cells #[.int .i64 1, .int .i64 (I : Int), .int .i64 (B : Int)] 23) = wg := ⟨_, rfl⟩
 rw [eG, ewg] at hG
 have hR := hG.addBox 37 #[.string ⟨#[]⟩, .int .i64 0]
 obtain ⟨R, eR⟩ : ∃ R, wg.heap.size = R := ⟨_, rfl⟩
 obtain ⟨we, ewe⟩ : ∃ we, wg.alloc (.cells #[.string ⟨#[]⟩, .int .i64 0] 37) = we := ⟨_, rfl⟩
 rw [eR, ewe, List.append_assoc] at hR
 have hO := Lib.hid (show Grommet.Own w0 we (Ps ++ [geoB G I B, ebP R ([], 0)]) from hR)
 clear hG hR h hv hsol hss F
 unfold gv dirV dirC at *
 obtain ⟨y0, y1, y2⟩ := geo_cells hO.out (app_at 0 rfl)
 go_enter Tryz.func15, Tryz.ntmps15
 go_wp2_with fail
 all_goals (try rw [ewg]); (try rw [eG]); (try rw [eR]); (try rw [ewe])
 go_wp2_with fail
 refine (HOp.out _ _ hO.out).mono ?_
 rintro e w1 ⟨XM, rfl, hO1⟩
 rw [List.append_assoc] at hO1
 have hO2 := hO1.addBox 84 #[.pointer (some ⟨g, 0, none⟩), .int .i64 1, .int .i64 (I : Int), .int .i64 (B : Int), .pointer (some ⟨XM, 0, none⟩)]
 obtain ⟨X, eX⟩ : ∃ X, w1.heap.size = X := ⟨_, rfl⟩
 obtain ⟨w2, ew2⟩ : ∃ w2, w1.alloc (.cells #[.pointer (some ⟨g, 0, none⟩), .int .i64 1, .int .i64 (I : Int), .int .i64 (B : Int), .pointer (some ⟨XM, 0, none⟩)] 84) = w2 := ⟨_, rfl⟩
 rw [eX, ew2, List.append_assoc] at hO2
 have hO2 : Hid (Grommet.Own w0 w2 (Ps ++ [geoB G I B, ebP R ([], 0), bmP XM g 1 I B n, dirP X g I B XM])) := Lib.hid hO2
 have HFx := Lib.hid (HFi.out _ _ _ _ _ hO2.out)
 obtain ⟨c0, c1, c2, c3, c4⟩ := dirP_cells hO2.out (app_at 3 rfl)
 clear hO1 hO HOp y0 y1 y2 HFi ewg eG eR ewe
 go_wp2_with fail
 all_goals (try rw [ew2]); (try rw [eX])
 go_wp2_with fail
 refine HFx.out.mono ?_
 rintro e w3 ⟨⟨xn, xm⟩, kk, en, rfl, hfi, hO3⟩
 rw [enV_mk]
 obtain ⟨r0, r1, r2, r3⟩ := ebox_cells (v0 := .string ⟨#[]⟩) (v1 := .int .i64 0) hO3 (app_at 1 rfl)
 obtain ⟨wn, hwn, hOn⟩ := ebox_put (v0 := .string ⟨#[]⟩) (v1 := .int .i64 0) (.string (str xn)) (.int .i64 (xm : Int)) hO3 (app_at 1 rfl)
 obtain ⟨x0, x1, _⟩ := ebox_cells hOn (set_at _ (app_at 1 rfl))
 rw [set_mid] at hOn
 have hOn := Lib.hid hOn.less
 have Hfi := Lib.hid hfi
 clear hO3 hO2 HFx c0 c1 c2 c3 c4 hfi ew2 eX
 go_wp2_with fail
 all_goals (try rw [hwn])
 exact bodyPost_ret (v := .tuple #[enV (xn, xm), .int .i64 kk, .int .i64 en]) (by simp [results, Tryz.results15, go_sem, x0, x1, enV]) rfl ⟨(xn, xm), kk, en, rfl, Hfi.out, hOn.out⟩
theorem toD {I B n : Nat} {ns : Nat → Prop} {f0 : Nat → Nat} {xs : List Nat} {L : List (Nat × Nat)} {P : Nat → Nat → Nat} {E : Nat → List UInt8 × Nat} (F : Est I B ns n f0 xs L P E) (s : ByteArray) (m : Nat) (h1 : 1 ≤ m) (hm : m < I) (kv g : Nat) (w0 w : World) (Ps : List Pr) (h : Grommet.Own w0 w Ps) (hv : Ps[kv]? = some (viewP g xs L)) :
  Calls Tryz.prog 42 #[.pointer (some ⟨g, 0, none⟩), gv ((1 : Nat) : Int) (I : Int) (B : Int), .int .i64 (n : Int), .agg #[.string s, .int .i64 (m : Int)]] w fun e w' => ∃ XM, e = .returned (.tuple #[dirV g I B XM, .int .i64 0]) ∧ Grommet.Own w0 w' (Ps ++ [bmP XM g 1 I B n]) := by
 have HOp := Lib.hid (fun wx Qs (hx : Grommet.Own w0 wx (Ps ++ Qs)) => openD F kv g w0 wx (Ps ++ Qs) hx (app_old hv))
 have m1 : ¬ (m : Int) < 1 := by omega
 have m2 : ¬ (I : Int) ≤ (m : Int) := by omega
 have hG := h.addBox 23 #[.int .i64 1, .int .i64 (I : Int), .int .i64 (B : Int)]
 obtain ⟨G, eG⟩ : ∃ G, w.heap.size = G := ⟨_, rfl⟩
 obtain ⟨wg, ewg⟩ : ∃ wg, w.alloc (.cells #[.int .i64 1, .int .i64 (I : Int), .int .i64 (B : Int)] 23) = wg := ⟨_, rfl⟩
 rw [eG, ewg] at hG
 have hN := hG.addBox 37 #[.string s, .int .i64 (m : Int)]
 obtain ⟨R, eR⟩ : ∃ R, wg.heap.size = R := ⟨_, rfl⟩
 obtain ⟨we, ewe⟩ : ∃ we, wg.alloc (.cells #[.string s, .int .i64 (m : Int)] 37) = we := ⟨_, rfl⟩
 rw [eR, ewe, List.append_assoc] at hN
 have hX := hN.addBox 84 #[.pointer none, .int .i64 0, .int .i64 0, .int .i64 0, .pointer none]
 obtain ⟨X, eX⟩ : ∃ X, we.heap.size = X := ⟨_, rfl⟩
 obtain ⟨wf, ewf⟩ : ∃ wf, we.alloc (.cells #[.pointer none, .int .i64 0, .int .i64 0, .int .i64 0, .pointer none] 84) = wf := ⟨_, rfl⟩
 rw [eX, ewf, List.append_assoc] at hX
 have hO := Lib.hid (show Grommet.Own w0 wf (Ps ++ [geoB G I B, boxP R 37 #[.string s, .int .i64 (m : Int)], boxP X 84 #[.pointer none, .int .i64 0, .int .i64 0, .int .i64 0, .pointer none]]) from hX)
 clear hG hN hX h hv F h1 hm
 unfold gv dirV dirC at *
 obtain ⟨y0, y1, y2⟩ := geo_cells hO.out (app_at 0 rfl)
 obtain ⟨z0, z1, _⟩ := ebox_cells hO.out (app_at 1 rfl)
 go_enter Tryz.func42, Tryz.ntmps42
 go_wp2_with fail
 all_goals (try rw [ewg]); (try rw [eG]); (try rw [eR]); (try rw [ewe]); (try rw [eX]); (try rw [ewf])
 go_wp2_with fail
 refine (HOp.out _ _ hO.out).mono ?_
 rintro e w1 ⟨XM, rfl, hO1⟩
 rw [List.append_assoc] at hO1
 obtain ⟨⟨b0, b1, b2, b3, b4⟩, q0, q1, q2, q3, q4⟩ := dbox_cells hO1 (app_at 2 rfl)
 obtain ⟨wz, hwz, hOz⟩ := dbox_put (.pointer (some ⟨g, 0, none⟩)) (.int .i64 1) (.int .i64 (I : Int)) (.int .i64 (B : Int)) (.pointer (some ⟨XM, 0, none⟩)) hO1 (app_at 2 rfl)
 obtain ⟨⟨x0, x1, x2, x3, x4⟩, _⟩ := dbox_cells hOz (set_at _ (app_at 2 rfl))
 rw [set_mid] at hOz
 have HOz := Lib.hid (Own.skip (Own.skip (Own.skip hOz)))
 clear hO hO1 hOz y0 y1 y2 z0 z1 HOp ewf eX ewg eG ewe eR
 go_wp2_with fail
 try rw [hwz]
 exact bodyPost_ret (v := .tuple #[dirV g I B XM, .int .i64 0]) (by simp [results, Tryz.results42, go_sem, x0, x1, x2, x3, x4, dirV, dirC]) rfl ⟨XM, rfl, HOz.out⟩
def ERem (I B n : Nat) (ns : Nat → Prop) (f0 : Nat → Nat) (xs : List Nat) (L : List (Nat × Nat)) (P : Nat → Nat → Nat) (E : Nat → List UInt8 × Nat) (s : ByteArray) (kv g : Nat) (w0 : World) (Ps : List Pr) (e : Ending) (w' : World) : Prop :=
 (okName s = false ∧ e = .returned (.int .i64 13) ∧ Grommet.Own w0 w' Ps) ∨ (okName s = true ∧ (∀ k, k < 12 → (E k).1 ≠ bytesOf s) ∧ e = .returned (.int .i64 6) ∧ Grommet.Own w0 w' Ps) ∨
  (okName s = true ∧ ∃ k L' P', k < 12 ∧ (E k).1 = bytesOf s ∧ e = .returned (.int .i64 0) ∧ DropR I B ns f0 xs L L' P P' n k ∧ Grommet.Own w0 w' (Ps.set kv (viewP g xs L')))
theorem RemoveE {I B n : Nat} {ns : Nat → Prop} {f0 : Nat → Nat} {xs : List Nat} {L : List (Nat × Nat)} {P : Nat → Nat → Nat} {E : Nat → List UInt8 × Nat} (F : Est I B ns n f0 xs L P E) (hl : L.length ≤ 70) (s : ByteArray) (hss : s.size ≤ 1048576) (kv g : Nat) (w0 w : World) (Ps : List Pr) (h : Grommet.Own w0 w Ps) (hsol : ∀ Q ∈ Ps, Solid Q) (hv : Ps[kv]? = some (viewP g xs L)) :
  Calls Tryz.prog 21 #[.pointer (some ⟨g, 0, none⟩), gv ((1 : Nat) : Int) (I : Int) (B : Int), .int .i64 (n : Int), .string s] w (ERem I B n ns f0 xs L P E s kv g w0 Ps) := by
 have hkl := (List.getElem?_eq_some_iff.1 hv).1
 have HOp := Lib.hid (fun wx Qs (hx : Grommet.Own w0 wx (Ps ++ Qs)) => openD F kv g w0 wx (Ps ++ Qs) hx (app_old hv))
 have HFi := Lib.hid (fun G X XM wx (hx : Grommet.Own w0 wx (Ps ++ [geoB G I B, bmP XM g 1 I B n, dirP X g I B XM])) => findD F s hss kv (Ps.length + 1) g XM w0 wx _ hx (solid_app hsol (fun Q hQ => by
  simp only [List.mem_cons, List.not_mem_nil, or_false] at hQ
  rcases hQ with rfl | rfl | rfl <;> exact solid_box _ _ _)) (app_old hv) (app_at 1 rfl))
 have HDr := Lib.hid (fun k (hk : k < 12) => F.st.drop hl F.isn hk)
 have Hv := Lib.hid hv
 have Hkl := Lib.hid hkl
 have hG := h.addBox 23 #[.int .i64 1, .int .i64 (I : Int), .int .i64 (B : Int)]
 obtain ⟨G, eG⟩ : ∃ G, w.heap.size = G := ⟨_, rfl⟩
 obtain ⟨wg, ewg⟩ : ∃ wg, w.alloc (.cells #[.int .i64 1, .int .i64 (I : Int), .int .i64 (B : Int)] 23) = wg := ⟨_, rfl⟩
 rw [eG, ewg] at hG
 have hO := Lib.hid (show Grommet.Own w0 wg (Ps ++ [geoB G I B]) from hG)
 clear hG h hv hsol hss F hl hkl
 unfold gv dirV dirC at *
 obtain ⟨y0, y1, y2⟩ := geo_cells hO.out (app_at 0 rfl)
 go_enter Tryz.func21, Tryz.ntmps21
 go_wp2_with fail
 all_goals (try rw [ewg]); (try rw [eG])
 go_wp2_with fail
 refine (HOp.out _ _ hO.out).mono ?_
 rintro e w1 ⟨XM, rfl, hO1⟩
 rw [List.append_assoc] at hO1
 have hO2 := hO1.addBox 84 #[.pointer (some ⟨g, 0, none⟩), .int .i64 1, .int .i64 (I : Int), .int .i64 (B : Int), .pointer (some ⟨XM, 0, none⟩)]
 obtain ⟨X, eX⟩ : ∃ X, w1.heap.size = X := ⟨_, rfl⟩
 obtain ⟨w2, ew2⟩ : ∃ w2, w1.alloc (.cells #[.pointer (some ⟨g, 0, none⟩), .int .i64 1, .int .i64 (I : Int), .int .i64 (B : Int), .pointer (some ⟨XM, 0, none⟩)] 84) = w2 := ⟨_, rfl⟩
 rw [eX, ew2, List.append_assoc] at hO2
 have hO2 : Hid (Grommet.Own w0 w2 (Ps ++ [geoB G I B, bmP XM g 1 I B n, dirP X g I B XM])) := Lib.hid hO2
 have HFx := Lib.hid (HFi.out _ _ _ _ hO2.out)
 obtain ⟨c0, c1, c2, c3, c4⟩ := dirP_cells hO2.out (app_at 2 rfl)
 clear hO1 hO HOp y0 y1 y2 HFi ewg eG
 go_wp2_with fail
 all_goals (try rw [ew2]); (try rw [eX])
 go_wp2_with fail
 refine HFx.out.mono ?_
 rintro e w3 ⟨⟨xn, xm⟩, kk, en, rfl, hfi, hO3⟩
 rw [enV_mk]
 have hO4 := hO3.addBox 37 #[.string (str xn), .int .i64 (xm : Int)]
 obtain ⟨Y, eY⟩ : ∃ X, w3.heap.size = X := ⟨_, rfl⟩
 obtain ⟨w4, ew4⟩ : ∃ w2, w3.alloc (.cells #[.string (str xn), .int .i64 (xm : Int)] 37) = w2 := ⟨_, rfl⟩
 rw [eY, ew4, List.append_assoc] at hO4
 have hO4 : Hid (Grommet.Own w0 w4 (Ps ++ [geoB G I B, bmP XM g 1 I B n, dirP X g I B XM, boxP Y 37 #[.string (str xn), .int .i64 (xm : Int)]])) := Lib.hid hO4
 obtain ⟨c0', c1', c2', c3', c4'⟩ := dirP_cells hO4.out (app_at 2 rfl)
 have hOs := Lib.hid hO4.out.less
 clear hO3 hO2 HFx c0 c1 c2 c3 c4 ew2 eX
 rcases hfi with ⟨ok, _, _, rfl⟩ | ⟨ok, ⟨k, hk, rfl, hx, he⟩, rfl⟩ | ⟨ok, hno, _, _, rfl⟩
 ·as_aux_lemma =>
  have Hok := Lib.hid ok
  clear ok hO4
  go_wp2_with fail
  all_goals (try rw [ew4])
  go_wp2_with fail
  go_ret
  exact .inl ⟨Hok.out, rfl, hOs.out⟩
 ·as_aux_lemma =>
  obtain ⟨L', P', hR, hC⟩ := HDr.out k hk
  have HC := Lib.hid (hC kv (Ps.length + 1) XM g w0 w4 _ hO4.out (app_old Hv.out) (app_at 1 rfl) (by have := Hkl.out; omega))
  rw [set_left Hv.out] at HC
  have Hr := Lib.hid (And.intro ok (And.intro hk (And.intro he hR)))
  clear ok hk hx he hR hC hO4 hOs HDr
  go_wp2_with fail
  all_goals (try rw [ew4])
  go_wp2_with fail
  refine HC.out.mono ?_
  rintro e w5 ⟨rfl, hO5⟩
  have hO5 := Lib.hid hO5.less
  clear HC
  go_wp2_with fail
  go_ret
  exact .inr (.inr ⟨Hr.out.1, k, L', P', Hr.out.2.1, Hr.out.2.2.1, rfl, Hr.out.2.2.2, hO5.out⟩)
 ·as_aux_lemma =>
  have Hok := Lib.hid (And.intro ok hno)
  clear ok hno hO4
  go_wp2_with fail
  all_goals (try rw [ew4])
  go_wp2_with fail
  go_ret
  exact .inr (.inl ⟨Hok.out.1, Hok.out.2, rfl, hOs.out⟩)
end Go.Proofs.YtfljlmmiiccooaaGreatDoor
end
