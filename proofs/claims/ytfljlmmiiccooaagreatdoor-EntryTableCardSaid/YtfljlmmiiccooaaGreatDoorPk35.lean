import Derived.Test.YtfljlmmiiccooaaGreatDoorRows
import Derived.ProofKit
import Derived.Deep.Slices
import Derived.Deep.Strs
import Derived.Deep.DeepCutAuto
import Derived.Test.YtfljlmmiiccooaaGreatDoorPk34
set_option maxRecDepth 100000
set_option maxHeartbeats 1000000
section
namespace Go.Proofs.YtfljlmmiiccooaaGreatDoor
open Go.RowKit Go.Grommet Go.Deep
structure Tst where
 dk : Int
 nn : Int
 nm : ByteArray
 ino : Int
 dr : Bool
def Tst.Ok (x : Tst) : Prop := (Lit.int .u8 x.dk).wf = true ∧ (Lit.int .i64 x.nn).wf = true ∧ (Lit.int .i64 x.ino).wf = true ∧ x.nm.size ≤ 9223372036854775807
def TstsIn (w : World) (a : Option Addr) (len : Nat) (L : List Tst) : Prop :=
 L.length = len ∧ (∀ x ∈ L, x.Ok) ∧ ∀ i x, L[i]? = some x → ∃ g o, a = some ⟨g, o, none⟩ ∧ w.cell? ⟨g, o + i * 5, none⟩ = some (.int .u8 x.dk) ∧ w.cell? ⟨g, o + i * 5 + 1, none⟩ = some (.int .i64 x.nn) ∧ w.cell? ⟨g, o + i * 5 + 2, none⟩ = some (.string x.nm) ∧ w.cell? ⟨g, o + i * 5 + 3, none⟩ = some (.int .i64 x.ino) ∧ w.cell? ⟨g, o + i * 5 + 4, none⟩ = some (.bool x.dr)
theorem TstsIn.grown {w w' : World} {a : Option Addr} {len : Nat} {L : List Tst} (h : TstsIn w a len L) (hg : w.grownBy w' none) : TstsIn w' a len L := by
 refine ⟨h.1, h.2.1, fun i x hx => ?_⟩
 obtain ⟨g, o, ha, h0, h1, h2, h3, h4⟩ := h.2.2 i x hx
 exact ⟨g, o, ha, hg.cell h0 (by simp), hg.cell h1 (by simp), hg.cell h2 (by simp), hg.cell h3 (by simp), hg.cell h4 (by simp)⟩
theorem TstsIn.at {w : World} {g o len : Nat} {L : List Tst} (h : TstsIn w (some ⟨g, o, none⟩) len L) (i : Nat) (x : Tst) (hx : L[i]? = some x) : w.cell? ⟨g, o + i * 5, none⟩ = some (.int .u8 x.dk) ∧ w.cell? ⟨g, o + i * 5 + 1, none⟩ = some (.int .i64 x.nn) ∧ w.cell? ⟨g, o + i * 5 + 2, none⟩ = some (.string x.nm) ∧ w.cell? ⟨g, o + i * 5 + 3, none⟩ = some (.int .i64 x.ino) ∧ w.cell? ⟨g, o + i * 5 + 4, none⟩ = some (.bool x.dr) := by
 obtain ⟨g', o', ha, h0, h1, h2, h3, h4⟩ := h.2.2 i x hx
 cases ha
 exact ⟨h0, h1, h2, h3, h4⟩
theorem Tst_list {α : Type} (P : Nat → α → Prop) : ∀ n, (∀ i, i < n → ∃ x, P i x) → ∃ L : List α, L.length = n ∧ ∀ i x, L[i]? = some x → P i x
 | 0, _ => ⟨[], rfl, fun i x h => by simp at h⟩
 | n + 1, h => by
  obtain ⟨L, hl, hL⟩ := Tst_list P n (fun i hi => h i (by omega))
  obtain ⟨y, hy⟩ := h n (by omega)
  refine ⟨L ++ [y], by simp [hl], fun i x hx => ?_⟩
  by_cases hi : i < n
  ·rw [List.getElem?_append_left (by omega)] at hx; exact hL i x hx
  ·rw [List.getElem?_append_right (by omega)] at hx
   have : i - L.length = 0 := by
    rcases Nat.eq_zero_or_pos (i - L.length) with h0 | h0
    ·exact h0
    ·rw [List.getElem?_eq_none (by simp; omega)] at hx; cases hx
   rw [this] at hx
   simp at hx
   subst hx
   rwa [show i = n from by omega]
theorem open_Tsts {H : Type} {enc : TypeId × Value → H} {w : World} {spare : Nat → Bool} {held : Bool} {a : Option Addr} {len cap : Nat} {d : DataW H} {p : List MemPlace}
  (h : DataW.Trod enc Tryz.prog w 0 spare held 26 (.slice a len cap) d p) : ∃ L, TstsIn w a len L := by
 obtain ⟨fuel, hf⟩ := h
 rcases open_slice Tryz.underlying26 hf with ⟨hcs, _⟩ | ⟨x, l, c, m, n, D, Pl, hcs, _, hl, _, hm, _, hi⟩
 ·simp [Value.cells] at hcs
  obtain ⟨rfl, rfl, rfl⟩ := hcs
  exact ⟨[], rfl, by simp, fun i x h => by simp at h⟩
 ·simp [Value.cells] at hcs
  obtain ⟨rfl, rfl, rfl⟩ := hcs
  have hml : len ≤ m := by rw [hm]; split <;> omega
  have hC : Tryz.prog.cellsOf 39 = 5 := by kernel_rfl
  rw [hC] at hi
  have key : ∀ i, i < len → ∃ y : Tst, y.Ok ∧ w.cell? (x.add (i * 5 + 0)) = some (.int .u8 y.dk) ∧ w.cell? (x.add (i * 5 + 1)) = some (.int .i64 y.nn) ∧ w.cell? (x.add (i * 5 + 2)) = some (.string y.nm) ∧ w.cell? (x.add (i * 5 + 3)) = some (.int .i64 y.ino) ∧ w.cell? (x.add (i * 5 + 4)) = some (.bool y.dr) := by
   intro i hil
   obtain ⟨cs', hc, ht⟩ := hi i (by omega)
   obtain ⟨_, hcl, hat⟩ := World.cells?_some hc
   obtain ⟨xs, n', _, _, _, hlen, hfl⟩ := DataW.trod_struct Tryz.underlying39 ht
   match xs, hlen with
   | [y0, y1, y2, y3], _ =>
    have t0 := by simpa using hfl 0 _ rfl
    have t1 := by simpa using hfl 1 _ rfl
    have t2 := by simpa using hfl 2 _ rfl
    have t3 := by simpa using hfl 3 _ rfl
    match cs', hcl with
    | [c0, c1, c2, c3, c4], _ =>
     have g0 := t0
     have g1 := t1
     have kt2 : Tryz.prog.cellsOf 37 = 2 := by kernel_rfl
     simp [kt2] at t2
     obtain ⟨xs2, _, _, _, _, hlen2, hfl2⟩ := DataW.trod_struct Tryz.underlying37 t2
     match xs2, hlen2 with
     | [u0, u1], _ =>
     have g2 := by simpa using hfl2 0 _ rfl
     have g3 := by simpa using hfl2 1 _ rfl
     have g4 := t3
     obtain ⟨b0, e0, _, z0⟩ := DataW.trod_int Tryz.underlying5 g0
     have k0 : Tryz.prog.cellsOf 5 = 1 := by kernel_rfl
     simp [k0] at e0
     obtain ⟨b1, e1, _, z1⟩ := DataW.trod_int Tryz.underlying3 g1
     have k1 : Tryz.prog.cellsOf 3 = 1 := by kernel_rfl
     simp [k1] at e1
     obtain ⟨b2, e2, _, z2⟩ := DataW.trod_string Tryz.underlying9 g2
     have k2 : Tryz.prog.cellsOf 9 = 1 := by kernel_rfl
     simp [k2] at e2
     obtain ⟨b3, e3, _, z3⟩ := DataW.trod_int Tryz.underlying3 g3
     have k3 : Tryz.prog.cellsOf 3 = 1 := by kernel_rfl
     simp [k3] at e3
     obtain ⟨b4, e4, _⟩ := DataW.trod_bool Tryz.underlying4 g4
     have k4 : Tryz.prog.cellsOf 4 = 1 := by kernel_rfl
     simp [k4] at e4
     subst e0 e1 e2 e3 e4
     refine ⟨⟨b0, b1, b2, b3, b4⟩, ⟨z0, z1, z3, z2⟩, ?_, ?_, ?_, ?_, ?_⟩
     ·rw [← Go.Deep.add_add]; exact hat 0 (by omega)
     ·rw [← Go.Deep.add_add]; exact hat 1 (by omega)
     ·rw [← Go.Deep.add_add]; exact hat 2 (by omega)
     ·rw [← Go.Deep.add_add]; exact hat 3 (by omega)
     ·rw [← Go.Deep.add_add]; exact hat 4 (by omega)
  obtain ⟨L, hL, hLi⟩ := Tst_list _ len key
  refine ⟨L, hL, ?_, ?_⟩
  ·intro y hy
   obtain ⟨i, hi⟩ := List.getElem?_of_mem hy
   exact (hLi i y hi).1
  ·intro i y hiy
   obtain ⟨_, h0, h1, h2, h3, h4⟩ := hLi i y hiy
   obtain ⟨b, o, sp⟩ := x
   have hil : i < len := by
    have := (List.getElem?_eq_some_iff.1 hiy).1
    omega
   have hsp : sp = none := by
    obtain ⟨_, _, k0, _⟩ := key 0 (by omega)
    have := World.cell?_spot k0
    simpa [Addr.add] using this
   subst hsp
   refine ⟨b, o, rfl, ?_, ?_, ?_, ?_, ?_⟩
   ·rw [Addr.add_lit] at h0; simpa [Nat.add_assoc] using h0
   ·rw [Addr.add_lit] at h1; simpa [Nat.add_assoc] using h1
   ·rw [Addr.add_lit] at h2; simpa [Nat.add_assoc] using h2
   ·rw [Addr.add_lit] at h3; simpa [Nat.add_assoc] using h3
   ·rw [Addr.add_lit] at h4; simpa [Nat.add_assoc] using h4
end Go.Proofs.YtfljlmmiiccooaaGreatDoor
end
section
namespace Go.Proofs.YtfljlmmiiccooaaGreatDoor
open Go.RowKit Go.Grommet
set_option linter.unusedVariables false
def GreatIs (tl : Nat) (T : List Tst) (w : World) : Ending → World → Prop := fun e w' => ∃ b, e = .returned (.bool b) ∧ Hid (b = false → tl ≤ 40 ∧ ∀ (j : Nat) (x : Tst), T[j]? = some x → x.nm.size ≤ 500) ∧ w' = w
theorem greatH (td : Option Addr) (tl tc : Nat) (T : List Tst) (w : World) (hT : TstsIn w td tl T) :
  Calls Tryz.prog 5 #[.slice td tl tc] w (GreatIs tl T w) := by
 have HT := Lib.hid hT
 clear hT
 by_cases h60 : 40 < tl
 ·have g1 : (40 : Int) < (tl : Int) := by omega
  go_enter Tryz.func5, Tryz.ntmps5
  go_wp2
  exact bodyPost_ret (v := .bool true) (by simp [results, Tryz.results5, go_sem]) rfl ⟨true, rfl, Lib.hid (fun e => by cases e), rfl⟩
 ·have g1 : ¬ (40 : Int) < (tl : Int) := by omega
  go_enter Tryz.func5, Tryz.ntmps5
  go_wp2_with fail
  go_loopw [3] (fun i wr => ∃ k : Nat, k ≤ tl ∧ i = .int .i64 (k : Int) ∧ wr = w ∧ Hid (∀ (j : Nat) (x : Tst), j < k → T[j]? = some x → x.nm.size ≤ 500)) (fun i _ => tl - (intOf i).toNat)
  case atStart => exact ⟨0, Nat.zero_le _, rfl, rfl, Lib.hid (fun j x hj => by omega)⟩
  case round =>
   obtain ⟨k, hk, rfl, rfl, HK⟩ := hrel
   have k0 : (0 : Int) ≤ (k : Int) := by omega
   by_cases hlt : k < tl
   ·have hlt' : (k : Int) < (tl : Int) := by omega
    obtain ⟨x, hx⟩ : ∃ x, T[k]? = some x := ⟨T[k]'(by rw [HT.out.1]; exact hlt), List.getElem?_eq_getElem _⟩
    obtain ⟨g, o, rfl, c0, c1, c2, c3, c4⟩ := HT.out.2.2 k x hx
    have Hx := Lib.hid hx
    obtain ⟨D, HD⟩ : ∃ D, D = x.nm.size := ⟨_, rfl⟩
    have HDe := Lib.hid HD
    clear hx
    by_cases hd : 500 < x.nm.size
    ·have hd' : (500 : Int) < (x.nm.size : Int) := by omega
     clear HD
     go_wp2
     exact bodyPost_ret (v := .bool true) (by simp [results, Tryz.results5, go_sem]) rfl ⟨true, rfl, Lib.hid (fun e => by cases e), rfl⟩
    ·have hd' : ¬ (500 : Int) < (x.nm.size : Int) := by omega
     have HK2 : Hid (∀ (j : Nat) (x : Tst), j < k + 1 → T[j]? = some x → x.nm.size ≤ 500) := Lib.hid (fun j y hj hy => by
      by_cases e : j = k
      ·subst e; rw [Hx.out] at hy; cases hy; omega
      ·exact HK.out j y (by omega) hy)
     clear HD
     go_wp2
     go_roundw
     case rel => exact ⟨k + 1, by omega, by go_num, by first | trivial | rfl, HK2⟩
     case measure => simp [intOf]; omega
   ·have hlt' : ¬ (k : Int) < (tl : Int) := by omega
    have HE : Hid (tl ≤ 40 ∧ ∀ (j : Nat) (x : Tst), T[j]? = some x → x.nm.size ≤ 500) := Lib.hid ⟨by omega, fun j y hy => HK.out j y (by have := (List.getElem?_eq_some_iff.1 hy).1; rw [HT.out.1] at this; omega) hy⟩
    go_wp2
    exact bodyPost_ret (v := .bool false) (by simp [results, Tryz.results5, go_sem]) rfl ⟨false, rfl, Lib.hid (fun _ => HE.out), rfl⟩
end Go.Proofs.YtfljlmmiiccooaaGreatDoor
end
section
end
