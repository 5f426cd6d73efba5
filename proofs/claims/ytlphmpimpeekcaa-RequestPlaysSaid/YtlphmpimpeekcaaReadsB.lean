/- The document's own tape, walked. -/
import Derived.Test.YtlphmpimpeekcaaReadsA
import Derived.Test.YtlphmpimpeekcaaBase5
namespace Go.Proofs.Ytlphmpimpeekcaa
open Go.RowKit Go.Grommet

/-- The document's tape stands at g: what is left of the bytes that came in (below 'base'), and whether it is torn. -/
structure RTC (w : World) (base g : Nat) (rest : List UInt8) (t : Bool) (ad : Option Addr) (len cap : Nat) : Prop where
  cells : w.heap[g]? = some (.cells #[.slice ad len cap, .bool t] 57 (0, 0))
  len_ : rest.length = len
  at_ : At w ad (rest.map bv)
  cap_ : len ≤ cap
  low : ∀ x, ad = some x → rest ≠ [] → x.block < base
  base_ : base ≤ g
  small : len ≤ 1048576
  nil_ : ad = none → len = 0

def RT (w : World) (base g : Nat) (rest : List UInt8) (t : Bool) : Prop := ∃ ad len cap, RTC w base g rest t ad len cap

theorem RTC.keep {w w' : World} {base g : Nat} {rest : List UInt8} {t : Bool} {ad : Option Addr} {len cap : Nat} {row : Option Nat} (h : RTC w base g rest t ad len cap) (hg : w.grownBy w' row) (h1 : some g ≠ row) (h2 : ∀ k, row = some k → base ≤ k) : RTC w' base g rest t ad len cap :=
  ⟨(hg.block g (lt_of_block h.cells) h1).trans h.cells, h.len_, h.at_.grown hg (fun x hx hne e => by
    have := h2 x.block e.symm
    have := h.low x hx (by intro e; rw [e] at hne; exact hne rfl)
    omega), h.cap_, h.low, h.base_, h.small, h.nil_⟩

theorem RT.keep {w w' : World} {base g : Nat} {rest : List UInt8} {t : Bool} {row : Option Nat} (h : RT w base g rest t) (hg : w.grownBy w' row) (h1 : some g ≠ row) (h2 : ∀ k, row = some k → base ≤ k) : RT w' base g rest t := by
  obtain ⟨ad, len, cap, h⟩ := h
  exact ⟨ad, len, cap, h.keep hg h1 h2⟩

theorem RTC.at_set {w : World} {base g : Nat} {rest : List UInt8} {t : Bool} {ad : Option Addr} {len cap : Nat} (h : RTC w base g rest t ad len cap) (o : Nat) (v : Value) : At (w.setCell ⟨g, o, none⟩ v) ad (rest.map bv) :=
  h.at_.grown (grown_setCell w ⟨g, o, none⟩ v) (fun x hx hne e => by
    injection e with e
    have h1 := h.low x hx (by intro e; rw [e] at hne; exact hne rfl)
    have h2 := h.base_
    rw [e] at h1
    exact absurd (Nat.lt_of_lt_of_le h1 h2) (Nat.lt_irrefl _))

theorem RTC.tear {w : World} {base g : Nat} {rest : List UInt8} {t : Bool} {ad : Option Addr} {len cap : Nat} (h : RTC w base g rest t ad len cap) : RT (w.setCell ⟨g, 1, none⟩ (.bool true)) base g rest true :=
  ⟨ad, len, cap, by have := heap_setCell_at (o := 1) h.cells (.bool true); simpa using this, h.len_, h.at_set 1 _, h.cap_, h.low, h.base_, h.small, h.nil_⟩

theorem RTC.facts {w : World} {base g : Nat} {rest : List UInt8} {t : Bool} {ad : Option Addr} {len cap : Nat} (h : RTC w base g rest t ad len cap) :
    w.cell? ⟨g, 0, none⟩ = some (.slice ad len cap) ∧ w.cell? ⟨g, 1, none⟩ = some (.bool t) ∧ w.frozen? ⟨g, 0, none⟩ = false ∧ w.frozen? ⟨g, 1, none⟩ = false := by
  refine ⟨?_, ?_, ?_, ?_⟩ <;> simp [World.cell?, World.frozen?, h.cells]

theorem RTC.move {w : World} {base g : Nat} {rest : List UInt8} {t : Bool} {ad : Option Addr} {len cap k : Nat} (h : RTC w base g rest t ad len cap) (hk : k ≤ len) (ad' : Option Addr)
    (h1 : ∀ w xs, At w ad xs → xs.length = len → len ≤ cap → At w ad' (xs.drop k)) (h2 : ∀ x, ad' = some x → ∃ y, ad = some y ∧ x.block = y.block) (h3 : ad' = none → ad = none) :
    RT (w.setCell ⟨g, 0, none⟩ (.slice ad' (len - k) (cap - k))) base g (rest.drop k) t := by
  refine ⟨ad', len - k, cap - k, by have := heap_setCell_at (o := 0) h.cells (.slice ad' (len - k) (cap - k)); simpa using this, by rw [List.length_drop, h.len_], ?_, ?_, ?_, h.base_, by have := h.small; omega, fun e => by have := h.nil_ (h3 e); omega⟩
  · have := h1 _ _ (h.at_set 0 (.slice ad' (len - k) (cap - k))) (by rw [List.length_map, h.len_]) h.cap_
    rwa [← List.map_drop] at this
  · have := h.cap_; omega
  · intro x hx hne
    obtain ⟨y, hy, e⟩ := h2 x hx
    rw [e]
    exact h.low y hy (by intro e; rw [e] at hne; simp at hne)

def RStep (v : Value) (w : World) (base g : Nat) (rest : List UInt8) (t : Bool) (e : Ending) (w' : World) : Prop := e = .returned v ∧ RT w' base g rest t ∧ w.grownBy w' (some g)

set_option maxHeartbeats 1000000 in
theorem RByte_any (base g : Nat) (all : List UInt8) (a : Nat) (t : Bool) (w : World) (H : RT w base g (all.drop a) t) :
    Calls Try.prog 27 #[.pointer (some ⟨g, 0, none⟩)] w (RStep (.int .u8 ((byteR all a t).1 : Int)) w base g (all.drop (byteR all a t).2.1) (byteR all a t).2.2) := by
  obtain ⟨ad, len, cap, H⟩ := H
  obtain ⟨f0, f1, f2, f3⟩ := H.facts
  cases t with
  | true =>
    have hfin : RStep (.int .u8 ((byteR all a true).1 : Int)) w base g (all.drop (byteR all a true).2.1) (byteR all a true).2.2 (.returned (.int .u8 0)) (w.setCell ⟨g, 1, none⟩ (.bool true)) := ⟨rfl, H.tear, grown_setCell _ _ _⟩
    go_enter Try.func27, Try.ntmps27
    go_wp2
    go_ret
    exact hfin
  | false =>
    by_cases h : a < all.length
    · have e : byteR all a false = ((all.getD a 0).toNat, a + 1, false) := by unfold byteR; rw [if_neg (by decide), if_pos h]
      rw [e]
      have hlen := H.len_
      rw [List.length_drop] at hlen
      obtain ⟨ad', s1, s2, s3, s4⟩ := slice_from (P := Try.prog) 25 5 Try.underlying25 Try.sizeOf5 ad len cap 1 (by omega)
      have hm := H.move (k := 1) (by omega) ad' s2 s3 s4
      rw [List.drop_drop] at hm
      have hl0 : ((len : Int) == 0) = false := by simp; omega
      have hl1 : (0 : Int) < (len : Int) := by omega
      have hl2 : (1 : Int) ≤ (len : Int) := by omega
      obtain ⟨q, o, rfl, c0⟩ := bv_at H.at_ 0 (by rw [H.len_]; omega)
      rw [List.getD_eq_getElem?_getD, List.getElem?_drop, ← List.getD_eq_getElem?_getD, Nat.add_zero] at c0
      generalize all.getD a 0 = c at c0 ⊢
      have hfin : RStep (.int .u8 (c.toNat : Int)) w base g (all.drop (a + 1)) false (.returned (.int .u8 (c.toNat : Int))) (w.setCell ⟨g, 0, none⟩ (.slice ad' (len - 1) (cap - 1))) := ⟨rfl, hm, grown_setCell _ _ _⟩
      have S1 : ∀ w, (Instr.slice 25 (.slice (some ⟨q, o, none⟩) len cap) (some (.int .i64 1)) none none).run Try.prog w = .ok (.slice ad' (len - 1) (cap - 1)) w := fun w => s1 w
      have Hf := Lib.hid hfin
      clear e hlen hm s1 s2 s3 s4 hfin
      go_enter Try.func27, Try.ntmps27
      go_wp2
      go_ret
      exact Hf.out
    · have e : byteR all a false = (0, a, true) := by unfold byteR; rw [if_neg (by decide), if_neg h]
      have hlen := H.len_
      rw [List.drop_of_length_le (by omega)] at hlen
      obtain rfl : len = 0 := hlen.symm
      have hfin : RStep (.int .u8 ((byteR all a false).1 : Int)) w base g (all.drop (byteR all a false).2.1) (byteR all a false).2.2 (.returned (.int .u8 0)) (w.setCell ⟨g, 1, none⟩ (.bool true)) := by rw [e]; exact ⟨rfl, H.tear, grown_setCell _ _ _⟩
      have Hf := Lib.hid hfin
      clear hfin e hlen
      go_enter Try.func27, Try.ntmps27
      go_wp2
      go_ret
      exact Hf.out

set_option maxHeartbeats 1000000 in
theorem RNum_any (base g : Nat) (all : List UInt8) (a : Nat) (t : Bool) (w : World) (H : RT w base g (all.drop a) t) :
    Calls Try.prog 29 #[.pointer (some ⟨g, 0, none⟩)] w (RStep (.int .u64 ((numberR all a t).1 : Int)) w base g (all.drop (numberR all a t).2.1) (numberR all a t).2.2) := by
  obtain ⟨ad, len, cap, H⟩ := H
  obtain ⟨f0, f1, f2, f3⟩ := H.facts
  have hN := refnumber_any ad len cap (all.drop a) w H.len_ H.at_ H.small
  unfold NumRIs at hN
  have HN := Lib.hid hN
  clear hN
  by_cases ht : t = true
  · subst ht
    have hfin : RStep (.int .u64 ((numberR all a true).1 : Int)) w base g (all.drop (numberR all a true).2.1) (numberR all a true).2.2 (.returned (.int .u64 0)) (w.setCell ⟨g, 1, none⟩ (.bool true)) := ⟨rfl, H.tear, grown_setCell _ _ _⟩
    generalize (numR (all.drop a)).1 = N at HN
    generalize (numR (all.drop a)).2 = K at HN
    go_enter Try.func29, Try.ntmps29
    go_wp2_with fail
    refine HN.out.mono ?_
    rintro e w' ⟨rfl, rfl⟩
    go_wp2
    go_ret
    exact hfin
  · obtain rfl : t = false := by cases t; rfl; exact absurd rfl ht
    clear ht
    cases hd : numAt (all.drop a) with
    | none =>
      have e : numberR all a false = (0, a, true) := by unfold numberR; rw [if_neg (by decide), hd]
      have hr : numR (all.drop a) = (0, 0) := by unfold numR; rw [hd]; rfl
      rw [hr] at HN
      have hfin : RStep (.int .u64 ((numberR all a false).1 : Int)) w base g (all.drop (numberR all a false).2.1) (numberR all a false).2.2 (.returned (.int .u64 0)) (w.setCell ⟨g, 1, none⟩ (.bool true)) := by rw [e]; exact ⟨rfl, H.tear, grown_setCell _ _ _⟩
      have Hf := Lib.hid hfin
      clear hfin e hr hd
      go_enter Try.func29, Try.ntmps29
      go_wp2_with fail
      refine HN.out.mono ?_
      rintro e w' ⟨rfl, rfl⟩
      go_wp2
      go_ret
      exact Hf.out
    | some nk =>
      obtain ⟨n, k⟩ := nk
      have e : numberR all a false = (n, a + k, false) := by unfold numberR; rw [if_neg (by decide), hd]
      have hr : numR (all.drop a) = (n, k) := by unfold numR; rw [hd]; rfl
      have hlt := numAt_lt _ _ _ hd
      have hbk := (numAt_back _ _ _ hd).2
      rw [H.len_] at hlt
      rw [hr] at HN
      obtain ⟨ad', s1, s2, s3, s4⟩ := slice_from (P := Try.prog) 25 5 Try.underlying25 Try.sizeOf5 ad len cap k hlt.2.2
      have hm := H.move (k := k) hlt.2.2 ad' s2 s3 s4
      rw [List.drop_drop] at hm
      have hk0 : ((k : Int) == 0) = false := by simp; omega
      have hk1 : (0 : Int) ≤ (k : Int) := by omega
      have hk2 : (k : Int) ≤ (len : Int) := by omega
      have hfin : RStep (.int .u64 ((numberR all a false).1 : Int)) w base g (all.drop (numberR all a false).2.1) (numberR all a false).2.2 (.returned (.int .u64 (n : Int))) (w.setCell ⟨g, 0, none⟩ (.slice ad' (len - k) (cap - k))) := by rw [e]; exact ⟨rfl, hm, grown_setCell _ _ _⟩
      have Hf := Lib.hid hfin
      have S1 := fun w => s1 w
      clear e hr hm s1 s2 s3 s4 hfin hlt hd hbk
      go_enter Try.func29, Try.ntmps29
      go_wp2_with fail
      refine HN.out.mono ?_
      rintro e w' ⟨rfl, rfl⟩
      go_wp2
      go_ret
      exact Hf.out
end Go.Proofs.Ytlphmpimpeekcaa
