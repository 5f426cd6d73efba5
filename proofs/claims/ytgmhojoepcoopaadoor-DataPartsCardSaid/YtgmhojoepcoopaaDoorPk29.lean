import Derived.Test.YtgmhojoepcoopaaDoorRows
import Derived.ProofKit
import Derived.Deep.Slices
import Derived.Deep.Strs
import Derived.Test.YtgmhojoepcoopaaDoorPk28
import Derived.Test.YtgmhojoepcoopaaDoorPk13
import Derived.Test.YtgmhojoepcoopaaDoorPk5
import Derived.Test.YtgmhojoepcoopaaDoorPk18
set_option maxRecDepth 100000
set_option maxHeartbeats 4000000
section
namespace Go.Proofs.YtgmhojoepcoopaaDoor
open Go.RowKit Go.Grommet Go.Deep
structure Dst where
 dk : Int
 nn : Int
 at_ : Int
 zz : Int
 ss : ByteArray
 dp : Bool
def Dst.Ok (x : Dst) : Prop := (Lit.int .u8 x.dk).wf = true ∧ (Lit.int .i64 x.nn).wf = true ∧ (Lit.int .u64 x.at_).wf = true ∧ (Lit.int .u64 x.zz).wf = true ∧ x.ss.size ≤ 9223372036854775807
def DstsIn (w : World) (a : Option Addr) (len : Nat) (L : List Dst) : Prop :=
 L.length = len ∧ (∀ x ∈ L, x.Ok) ∧ ∀ i x, L[i]? = some x → ∃ g o, a = some ⟨g, o, none⟩ ∧ w.cell? ⟨g, o + i * 6, none⟩ = some (.int .u8 x.dk) ∧ w.cell? ⟨g, o + i * 6 + 1, none⟩ = some (.int .i64 x.nn) ∧ w.cell? ⟨g, o + i * 6 + 2, none⟩ = some (.int .u64 x.at_) ∧ w.cell? ⟨g, o + i * 6 + 3, none⟩ = some (.int .u64 x.zz) ∧ w.cell? ⟨g, o + i * 6 + 4, none⟩ = some (.string x.ss) ∧ w.cell? ⟨g, o + i * 6 + 5, none⟩ = some (.bool x.dp)
theorem DstsIn.grown {w w' : World} {a : Option Addr} {len : Nat} {L : List Dst} (h : DstsIn w a len L) (hg : w.grownBy w' none) : DstsIn w' a len L := by
 refine ⟨h.1, h.2.1, fun i x hx => ?_⟩
 obtain ⟨g, o, ha, h0, h1, h2, h3, h4, h5⟩ := h.2.2 i x hx
 exact ⟨g, o, ha, hg.cell h0 (by simp), hg.cell h1 (by simp), hg.cell h2 (by simp), hg.cell h3 (by simp), hg.cell h4 (by simp), hg.cell h5 (by simp)⟩
theorem DstsIn.at {w : World} {g o len : Nat} {L : List Dst} (h : DstsIn w (some ⟨g, o, none⟩) len L) (i : Nat) (x : Dst) (hx : L[i]? = some x) : w.cell? ⟨g, o + i * 6, none⟩ = some (.int .u8 x.dk) ∧ w.cell? ⟨g, o + i * 6 + 1, none⟩ = some (.int .i64 x.nn) ∧ w.cell? ⟨g, o + i * 6 + 2, none⟩ = some (.int .u64 x.at_) ∧ w.cell? ⟨g, o + i * 6 + 3, none⟩ = some (.int .u64 x.zz) ∧ w.cell? ⟨g, o + i * 6 + 4, none⟩ = some (.string x.ss) ∧ w.cell? ⟨g, o + i * 6 + 5, none⟩ = some (.bool x.dp) := by
 obtain ⟨g', o', ha, h0, h1, h2, h3, h4, h5⟩ := h.2.2 i x hx
 cases ha
 exact ⟨h0, h1, h2, h3, h4, h5⟩
theorem Dst_list {α : Type} (P : Nat → α → Prop) : ∀ n, (∀ i, i < n → ∃ x, P i x) → ∃ L : List α, L.length = n ∧ ∀ i x, L[i]? = some x → P i x
 | 0, _ => ⟨[], rfl, fun i x h => by simp at h⟩
 | n + 1, h => by
  obtain ⟨L, hl, hL⟩ := Dst_list P n (fun i hi => h i (by omega))
  obtain ⟨y, hy⟩ := h n (by omega)
  refine ⟨L ++ [y], by simp [hl], fun i x hx => ?_⟩
  by_cases hi : i < n
  ·rw [List.getElem?_append_left (by omega)] at hx; exact hL i x hx
  ·rw [List.getElem?_append_right (by omega)] at hx
   have : i - L.length = 0 := by
    rcases Nat.eq_zero_or_pos (i - L.length) with h0 | h0
    ·exact h0
    ·rw [List.getElem?_eq_none (by simp; omega)] at hx; cases hx
   rw [this] at hx
   simp at hx
   subst hx
   rwa [show i = n from by omega]
theorem open_Dsts {H : Type} {enc : TypeId × Value → H} {w : World} {spare : Nat → Bool} {held : Bool} {a : Option Addr} {len cap : Nat} {d : DataW H} {p : List MemPlace}
  (h : DataW.Trod enc Tryd.prog w 0 spare held 22 (.slice a len cap) d p) : ∃ L, DstsIn w a len L := by
 obtain ⟨fuel, hf⟩ := h
 rcases open_slice Tryd.underlying22 hf with ⟨hcs, _⟩ | ⟨x, l, c, m, n, D, Pl, hcs, _, hl, _, hm, _, hi⟩
 ·simp [Value.cells] at hcs
  obtain ⟨rfl, rfl, rfl⟩ := hcs
  exact ⟨[], rfl, by simp, fun i x h => by simp at h⟩
 ·simp [Value.cells] at hcs
  obtain ⟨rfl, rfl, rfl⟩ := hcs
  have hml : len ≤ m := by rw [hm]; split <;> omega
  have hC : Tryd.prog.cellsOf 35 = 6 := by kernel_rfl
  rw [hC] at hi
  have key : ∀ i, i < len → ∃ y : Dst, y.Ok ∧ w.cell? (x.add (i * 6 + 0)) = some (.int .u8 y.dk) ∧ w.cell? (x.add (i * 6 + 1)) = some (.int .i64 y.nn) ∧ w.cell? (x.add (i * 6 + 2)) = some (.int .u64 y.at_) ∧ w.cell? (x.add (i * 6 + 3)) = some (.int .u64 y.zz) ∧ w.cell? (x.add (i * 6 + 4)) = some (.string y.ss) ∧ w.cell? (x.add (i * 6 + 5)) = some (.bool y.dp) := by
   intro i hil
   obtain ⟨cs', hc, ht⟩ := hi i (by omega)
   obtain ⟨_, hcl, hat⟩ := World.cells?_some hc
   obtain ⟨xs, n', _, _, _, hlen, hfl⟩ := DataW.trod_struct Tryd.underlying35 ht
   match xs, hlen with
   | [y0, y1, y2, y3, y4, y5], _ =>
    have g0 := by simpa using hfl 0 _ rfl
    have g1 := by simpa using hfl 1 _ rfl
    have g2 := by simpa using hfl 2 _ rfl
    have g3 := by simpa using hfl 3 _ rfl
    have g4 := by simpa using hfl 4 _ rfl
    have g5 := by simpa using hfl 5 _ rfl
    match cs', hcl with
    | [c0, c1, c2, c3, c4, c5], _ =>
     obtain ⟨b0, e0, _, z0⟩ := DataW.trod_int Tryd.underlying5 g0
     have k0 : Tryd.prog.cellsOf 5 = 1 := by kernel_rfl
     simp [k0] at e0
     obtain ⟨b1, e1, _, z1⟩ := DataW.trod_int Tryd.underlying3 g1
     have k1 : Tryd.prog.cellsOf 3 = 1 := by kernel_rfl
     simp [k1] at e1
     obtain ⟨b2, e2, _, z2⟩ := DataW.trod_int Tryd.underlying33 g2
     have k2 : Tryd.prog.cellsOf 33 = 1 := by kernel_rfl
     simp [k2] at e2
     obtain ⟨b3, e3, _, z3⟩ := DataW.trod_int Tryd.underlying33 g3
     have k3 : Tryd.prog.cellsOf 33 = 1 := by kernel_rfl
     simp [k3] at e3
     obtain ⟨b4, e4, _, z4⟩ := DataW.trod_string Tryd.underlying9 g4
     have k4 : Tryd.prog.cellsOf 9 = 1 := by kernel_rfl
     simp [k4] at e4
     obtain ⟨b5, e5, _⟩ := DataW.trod_bool Tryd.underlying4 g5
     have k5 : Tryd.prog.cellsOf 4 = 1 := by kernel_rfl
     simp [k5] at e5
     subst e0 e1 e2 e3 e4 e5
     refine ⟨⟨b0, b1, b2, b3, b4, b5⟩, ⟨z0, z1, z2, z3, z4⟩, ?_, ?_, ?_, ?_, ?_, ?_⟩
     ·rw [← Go.Deep.add_add]; exact hat 0 (by omega)
     ·rw [← Go.Deep.add_add]; exact hat 1 (by omega)
     ·rw [← Go.Deep.add_add]; exact hat 2 (by omega)
     ·rw [← Go.Deep.add_add]; exact hat 3 (by omega)
     ·rw [← Go.Deep.add_add]; exact hat 4 (by omega)
     ·rw [← Go.Deep.add_add]; exact hat 5 (by omega)
  obtain ⟨L, hL, hLi⟩ := Dst_list _ len key
  refine ⟨L, hL, ?_, ?_⟩
  ·intro y hy
   obtain ⟨i, hi⟩ := List.getElem?_of_mem hy
   exact (hLi i y hi).1
  ·intro i y hiy
   obtain ⟨_, h0, h1, h2, h3, h4, h5⟩ := hLi i y hiy
   obtain ⟨b, o, sp⟩ := x
   have hil : i < len := by
    have := (List.getElem?_eq_some_iff.1 hiy).1
    omega
   have hsp : sp = none := by
    obtain ⟨_, _, k0, _⟩ := key 0 (by omega)
    have := World.cell?_spot k0
    simpa [Addr.add] using this
   subst hsp
   refine ⟨b, o, rfl, ?_, ?_, ?_, ?_, ?_, ?_⟩
   ·rw [Addr.add_lit] at h0; simpa [Nat.add_assoc] using h0
   ·rw [Addr.add_lit] at h1; simpa [Nat.add_assoc] using h1
   ·rw [Addr.add_lit] at h2; simpa [Nat.add_assoc] using h2
   ·rw [Addr.add_lit] at h3; simpa [Nat.add_assoc] using h3
   ·rw [Addr.add_lit] at h4; simpa [Nat.add_assoc] using h4
   ·rw [Addr.add_lit] at h5; simpa [Nat.add_assoc] using h5
end Go.Proofs.YtgmhojoepcoopaaDoor
end
section
namespace Go.Proofs.YtgmhojoepcoopaaDoor.anchor14
open Go.Ev
def rows : List (Nat × List (List V × V)) := [
 (44, [([(.agg (.cons (.int .i64 1) (.cons (.int .i64 3) (.cons (.int .i64 11) .nil))))], (.bool true)), ([(.agg (.cons (.int .i64 1) (.cons (.int .i64 3) (.cons (.int .i64 9) .nil))))], (.bool true))]),
 (67, [([(.agg (.cons (.int .i64 1) (.cons (.int .i64 3) (.cons (.int .i64 11) .nil)))), (.int .u8 8), (.int .i64 1)], (.int .i64 504)), ([(.agg (.cons (.int .i64 1) (.cons (.int .i64 3) (.cons (.int .i64 11) .nil)))), (.int .u8 8), (.int .i64 2)], (.int .i64 520)), ([(.agg (.cons (.int .i64 1) (.cons (.int .i64 3) (.cons (.int .i64 9) .nil)))), (.int .u8 8), (.int .i64 2)], (.int .i64 520)), ([(.agg (.cons (.int .i64 1) (.cons (.int .i64 3) (.cons (.int .i64 9) .nil)))), (.int .u8 6), (.int .i64 0)], (.int .i64 472)), ([(.agg (.cons (.int .i64 1) (.cons (.int .i64 3) (.cons (.int .i64 9) .nil)))), (.int .u8 7), (.int .i64 0)], (.int .i64 480)), ([(.agg (.cons (.int .i64 1) (.cons (.int .i64 3) (.cons (.int .i64 9) .nil)))), (.int .u8 9), (.int .i64 1)], (.int .i64 544)), ([(.agg (.cons (.int .i64 1) (.cons (.int .i64 3) (.cons (.int .i64 9) .nil)))), (.int .u8 9), (.int .i64 2)], (.int .i64 552))]),
 (41, [([(.agg (.cons (.int .i64 1) (.cons (.int .i64 3) (.cons (.int .i64 11) .nil)))), (.int .i64 1)], (.int .i64 504)), ([(.agg (.cons (.int .i64 1) (.cons (.int .i64 3) (.cons (.int .i64 11) .nil)))), (.int .i64 2)], (.int .i64 520)), ([(.agg (.cons (.int .i64 1) (.cons (.int .i64 3) (.cons (.int .i64 9) .nil)))), (.int .i64 2)], (.int .i64 520))]),
 (17, [([(.agg (.cons (.int .i64 1) (.cons (.int .i64 3) (.cons (.int .i64 11) .nil))))], (.int .i64 624)), ([(.agg (.cons (.int .i64 1) (.cons (.int .i64 3) (.cons (.int .i64 9) .nil))))], (.int .i64 608))]),
 (42, [([(.agg (.cons (.int .i64 1) (.cons (.int .i64 3) (.cons (.int .i64 11) .nil)))), (.agg (.cons (.int .u64 1) (.cons (.int .u64 0) (.cons (.int .u64 0) (.cons (.int .u64 0) (.cons (.int .u64 0) (.cons (.int .u64 0) (.cons (.int .u64 0) (.cons (.int .u64 0) (.cons (.int .u64 0) (.cons (.int .u64 0) .nil)))))))))))], (.bool true)), ([(.agg (.cons (.int .i64 1) (.cons (.int .i64 3) (.cons (.int .i64 9) .nil)))), (.agg (.cons (.int .u64 1) (.cons (.int .u64 0) (.cons (.int .u64 0) (.cons (.int .u64 0) (.cons (.int .u64 0) (.cons (.int .u64 0) (.cons (.int .u64 0) (.cons (.int .u64 0) (.cons (.int .u64 0) (.cons (.int .u64 0) .nil)))))))))))], (.bool true)), ([(.agg (.cons (.int .i64 1) (.cons (.int .i64 3) (.cons (.int .i64 9) .nil)))), (.agg (.cons (.int .u64 1) (.cons (.int .u64 0) (.cons (.int .u64 0) (.cons (.int .u64 66) (.cons (.int .u64 1) (.cons (.int .u64 2) (.cons (.int .u64 0) (.cons (.int .u64 0) (.cons (.int .u64 0) (.cons (.int .u64 0) .nil)))))))))))], (.bool true)), ([(.agg (.cons (.int .i64 1) (.cons (.int .i64 3) (.cons (.int .i64 9) .nil)))), (.agg (.cons (.int .u64 1) (.cons (.int .u64 0) (.cons (.int .u64 0) (.cons (.int .u64 66) (.cons (.int .u64 1) (.cons (.int .u64 0) (.cons (.int .u64 0) (.cons (.int .u64 0) (.cons (.int .u64 0) (.cons (.int .u64 0) .nil)))))))))))], (.bool true))]),
 (49, [([(.agg (.cons (.int .i64 1) (.cons (.int .i64 3) (.cons (.int .i64 9) .nil))))], (.int .i64 472))]),
 (50, [([(.agg (.cons (.int .i64 1) (.cons (.int .i64 3) (.cons (.int .i64 9) .nil))))], (.int .i64 480))]),
 (62, [([(.agg (.cons (.int .i64 1) (.cons (.int .i64 3) (.cons (.int .i64 9) .nil)))), (.int .i64 1)], (.int .i64 544)), ([(.agg (.cons (.int .i64 1) (.cons (.int .i64 3) (.cons (.int .i64 9) .nil)))), (.int .i64 2)], (.int .i64 552))]),
 (66, [([(.agg (.cons (.int .u64 1) (.cons (.int .u64 0) (.cons (.int .u64 0) (.cons (.int .u64 66) (.cons (.int .u64 1) (.cons (.int .u64 0) (.cons (.int .u64 0) (.cons (.int .u64 0) (.cons (.int .u64 0) (.cons (.int .u64 0) .nil)))))))))))], (.agg (.cons (.int .u64 1) (.cons (.int .u64 0) (.cons (.int .u64 0) (.cons (.int .u64 66) (.cons (.int .u64 1) (.cons (.int .u64 0) (.cons (.int .u64 0) (.cons (.int .u64 0) (.cons (.int .u64 0) (.cons (.int .u64 0) .nil))))))))))))])]
theorem told : Go.Ev.Told Tryd.prog (tellC rows) := told_table (by kernel_rfl) (told_none _) (n := 100000) (by kernel_rfl)
theorem works_done : isTrueC ((evQ Tryd.prog (tabGl 0) (tellC rows) 100000).call 8 [] (tabHp tab)) = true := by kernel_rfl
end Go.Proofs.YtgmhojoepcoopaaDoor.anchor14
namespace Go.Proofs.YtgmhojoepcoopaaDoor
open Go.RowKit Go.Grommet Go.Ev
set_option linter.unusedVariables false
theorem works14_tab (w : World) (ht : Lib.TabIs Tryd.prog w "math/bits.deBruijn64tab" .u8 tab) : Calls Tryd.prog 8 #[] w (Go.Ev.WorksIs w) := evQ_true_tab (by kernel_rfl) anchor14.told (by kernel_rfl) anchor14.works_done rfl gTab w ht
theorem Small_any (x0 x1 : Nat) (w : World) (h0 : x0 ≤ 255) (h1 : x1 ≤ 255) : Calls Tryd.prog 25 #[.int .u8 (x0 : Int), .int .u8 (x1 : Int)] w fun e w' => e = .returned (gv ((1 : Nat) : Int) ((2 + x0 % 20 : Nat) : Int) ((2 + x1 % 60 : Nat) : Int)) ∧ w.grownBy w' none := by
 obtain ⟨I, hI⟩ : ∃ I, 2 + x0 % 20 = I := ⟨_, rfl⟩
 obtain ⟨B, hB⟩ : ∃ B, 2 + x1 % 60 = B := ⟨_, rfl⟩
 have eA : IntKind.i64.wrap (x0 : Int) = (x0 : Int) := IntWalk.i64_in _ ⟨by omega, by omega⟩
 have eA2 : IntKind.i64.wrap (x1 : Int) = (x1 : Int) := IntWalk.i64_in _ ⟨by omega, by omega⟩
 have e3 : IntKind.i64.wrap (2 + (x0 : Int) % 20) = (I : Int) := by rw [IntWalk.i64_in _ ⟨by omega, by omega⟩]; omega
 have e4 : IntKind.i64.wrap (2 + (x1 : Int) % 60) = (B : Int) := by rw [IntWalk.i64_in _ ⟨by omega, by omega⟩]; omega
 have e3' : 2 + (x0 : Int) % 20 = (I : Int) := by omega
 have e4' : 2 + (x1 : Int) % 60 = (B : Int) := by omega
 rw [hI, hB]
 clear hI hB h0 h1
 unfold gv
 go_enter Tryd.func25, Tryd.ntmps25
 go_wp2_with fail
 exact bodyPost_ret (v := .agg #[.int .i64 1, .int .i64 (I : Int), .int .i64 (B : Int)]) (by simp [results, Tryd.results25, go_sem]) rfl ⟨rfl, World.grownBy_alloc w _ none⟩
theorem Bst.begun {I B : Nat} {ns : Nat → Prop} {xs : List Nat} (hm : mayB ((1 : Nat) : Int) (I : Int) (B : Int) = true) (h64 : B ≤ 64) (hl : xs.length = 488 + 16 * I + 8 * B) (hs : ∀ n ∈ xs, n < 18446744073709551616) (hrg : ∀ n, ns n → 1 ≤ n ∧ n < I) (h480 : xs.getD 480 0 = 1) (hz : ∀ n, ns n → ∀ a, 492 + 16 * n ≤ a → a ≤ 496 + 16 * n → xs.getD a 0 = 0)
  (hb : ∀ n, ns n → rightB ((1 : Nat) : Int) (I : Int) (B : Int) (xs.getD (488 + 16 * n) 0) (xs.getD (489 + 16 * n) 0) (xs.getD (490 + 16 * n) 0) (xs.getD (491 + 16 * n) 0) 0 0 0 0 0 (xs.getD (497 + 16 * n) 0) = true) :
  Bst I B ns (gotV xs []) xs [] (fun _ _ => 0) ∧ cntB xs [] B = 1 ∧ Br ns (fun _ _ => 0) := by
 have hmN := mayN hm
 have g : ∀ a, gotV xs [] a = xs.getD a 0 := fun a => rfl
 have hbit : ∀ m, m < 64 → ((1 : Nat).testBit m = true ↔ m = 0) := fun m _ => by
  rw [show (1 : Nat) = 2 ^ 0 from rfl, Nat.testBit_two_pow]
  simp
  exact eq_comm
 refine ⟨⟨hm, h64, hl, hs, Wl.nil _, ⟨hrg, fun n k _ _ => by show 0 < B; omega, fun n n' k k' _ _ _ _ h _ => absurd rfl h, fun _ _ _ _ _ _ => rfl, fun n k hn hk => hz n hn _ (by omega) (by omega), fun n hn => hz n hn _ (by omega) (by omega), fun n k _ h _ _ => absurd rfl h, fun m hm => ?_, fun a _ _ _ => rfl⟩, hb⟩, ?_, fun n _ h => absurd rfl h⟩
 ·rw [g, h480, hbit m hm]
  constructor
  ·exact .inl
  ·rintro (h | ⟨_, _, _, _, h⟩)
   ·exact h
   ·exact h.symm
 ·unfold cntB
  have e : ∀ i, i < B → mbit xs [] (272 + 208 * 1) i = decide (i < 1) := fun i hi => by
   rw [mbit_480 (by omega), g, h480]
   have := hbit i (by omega)
   by_cases h : i = 0
   ·subst h; rfl
   ·rw [show decide (i < 1) = false by simp; omega]
    cases hx : (1 : Nat).testBit i
    ·rfl
    ·exact absurd (this.1 hx) h
  rw [cntF_congr B e]
  have := cntF_clip (fun _ => true) 1 B (by omega)
  simp only [Bool.and_true] at this
  rw [this]; rfl
theorem RFormatH (a b c N : Nat) (xs : List Nat) (w0 w : World) (Ps : List Pr) (h : Grommet.Own w0 w Ps) (hm : mayB (a : Int) (b : Int) (c : Int) = true) (hN : 280 + 208 * a + 16 * b + 8 * c = N) (hxs : fmtL a b c (264 + 208 * a) N = xs) :
  Calls Tryd.prog 23 #[gv (a : Int) (b : Int) (c : Int)] w fun e w' => ∃ q, e = .returned (.slice (some ⟨q, 0, none⟩) N N) ∧ Grommet.Own w0 w' (Ps ++ [rowP 33 1 (.slice (some ⟨q, 0, none⟩) N N) N (xs.map wv)]) := by
 subst hN
 have hl := length_fmtL a b c (264 + 208 * a) (280 + 208 * a + 16 * b + 8 * c)
 rw [hxs] at hl
 have hmN := mayN hm
 refine (RFormat_any a b c w hm).mono ?_
 rintro e w' ⟨q, rfl, hrow, hq, hg⟩
 rw [hxs] at hrow ⊢
 rw [hl]
 refine ⟨q, rfl, h.addRow ⟨by simp [hl], .inr ⟨q, 280 + 208 * a + 16 * b + 8 * c, _, rfl, hq, hrow, Nat.le_refl _, by unfold maxLen; omega, by simp [hl], by rw [List.take_of_length_le (by simp [hl])]⟩⟩ hg⟩
theorem fmt_small' (a b c N : Nat) (hm : mayB (a : Int) (b : Int) (c : Int) = true) : ∀ n ∈ fmtL a b c (264 + 208 * a) N, n < 18446744073709551616 := by
 have := mayN hm
 exact fmtL_lt a b c _ N (by omega) (by omega) (by omega)
theorem fmt_get' (a b c m N i : Nat) (h : i < N) : (fmtL a b c m N).getD i 0 = fmtAt a b c m i := by
 rw [List.getD_eq_getElem?_getD, get_fmtL _ _ _ _ _ _ h]; rfl
theorem fmt_472 (I B N a : Nat) (h : 480 ≤ a) (ha : a < N) : (fmtL 1 I B (264 + 208 * 1) N).getD a 0 = if a = 480 then 1 else if a = 504 then 2 else if a = 505 then 1 else 0 := by
 rw [fmt_get' _ _ _ _ _ _ ha]
 unfold fmtAt
 rw [if_neg (by omega), if_neg (by omega), if_neg (by omega), if_neg (by omega), if_neg (by omega)]
theorem set_getD (xs : List Nat) (i v a : Nat) (hi : i < xs.length) : (xs.set i v).getD a 0 = if a = i then v else xs.getD a 0 := by
 by_cases h : a = i
 ·subst h; rw [if_pos rfl, List.getD_eq_getElem?_getD, List.getElem?_set_self hi]; rfl
 ·rw [if_neg h, List.getD_eq_getElem?_getD, List.getElem?_set_ne (fun e => h e.symm), ← List.getD_eq_getElem?_getD]
end Go.Proofs.YtgmhojoepcoopaaDoor
end
section
namespace Go.Proofs.YtgmhojoepcoopaaDoor
open Go.RowKit Go.Grommet
set_option linter.unusedVariables false
def fileW (B N : Nat) : List Nat := ((fmtL 1 3 B (264 + 208 * 1) N).set 520 1).set 472 7
theorem begun_file {B N : Nat} (hB : 2 ≤ B) (h64 : B ≤ 61) (hN : 488 + 16 * 3 + 8 * B = N) :
  Fst 3 B 2 0 (gotV (fileW B N) []) (fileW B N) [] (fun _ _ => 0) (fun _ => 0) ∧ cntB (fileW B N) [] B = 1 := by
 have hm : mayB ((1 : Nat) : Int) ((3 : Nat) : Int) (B : Int) = true := by unfold mayB; simp; omega
 have hl : (fmtL 1 3 B (264 + 208 * 1) N).length = N := length_fmtL _ _ _ _ _
 have g : ∀ a, 480 ≤ a → a < N → (fileW B N).getD a 0 = if a = 520 then 1 else if a = 480 then 1 else if a = 504 then 2 else if a = 505 then 1 else 0 := fun a h1 h2 => by
  unfold fileW
  rw [set_getD _ _ _ _ (by rw [List.length_set]; omega), if_neg (by omega), set_getD _ _ _ _ (by omega), fmt_472 3 B N a h1 h2]
 have hs : ∀ n ∈ fileW B N, n < 18446744073709551616 := fun n hn => by
  unfold fileW at hn
  rcases List.mem_or_eq_of_mem_set hn with h | h
  ·rcases List.mem_or_eq_of_mem_set h with h | h
   ·exact fmt_small' 1 3 B N hm n h
   ·omega
  ·omega
 obtain ⟨b1, b2, b3⟩ := Bst.begun (I := 3) (B := B) (ns := fun n => n = 2) (xs := fileW B N) hm (by omega) (by unfold fileW; rw [List.length_set, List.length_set, hl]; omega) hs (fun n hn => by omega) (by rw [g _ (by omega) (by omega)]; rfl) (fun n hn a h1 h2 => by
  subst hn
  rw [g _ (by omega) (by omega), if_neg (by omega), if_neg (by omega), if_neg (by omega), if_neg (by omega)]) (fun n hn => by
  subst hn
  have e0 : (fileW B N).getD (488 + 16 * 2) 0 = 1 := by rw [g _ (by omega) (by omega)]; rfl
  have e1 : (fileW B N).getD (489 + 16 * 2) 0 = 0 := by rw [g _ (by omega) (by omega)]; rfl
  have e2 : (fileW B N).getD (490 + 16 * 2) 0 = 0 := by rw [g _ (by omega) (by omega)]; rfl
  have e3 : (fileW B N).getD (491 + 16 * 2) 0 = 0 := by rw [g _ (by omega) (by omega)]; rfl
  have e4 : (fileW B N).getD (497 + 16 * 2) 0 = 0 := by rw [g _ (by omega) (by omega)]; rfl
  rw [e0, e1, e2, e3, e4]
  unfold rightB
  rw [decide_eq_true_eq]
  exact ⟨hm, by omega, by omega, by omega, by omega, by omega, by omega, fun _ => by first | rfl | omega, fun _ => by first | rfl | omega, by omega, by omega, by omega, by omega⟩)
 refine ⟨⟨b1, b3, ?_, ?_, fun i hi => ?_⟩, b2⟩
 ·show (fileW B N).getD (488 + 16 * 2) 0 = 1
  rw [g _ (by omega) (by omega)]; rfl
 ·show (fileW B N).getD (491 + 16 * 2) 0 = 0
  rw [g _ (by omega) (by omega)]; rfl
 ·unfold dw
  rw [if_pos rfl]
  exact byteAt_zero _
theorem gbox_put {w0 w : World} {Ps : List Pr} {k N : Nat} {v0 v1 v2 : Value} (u0 u1 u2 : Value) (h : Grommet.Own w0 w Ps) (hk : Ps[k]? = some (boxP N 26 #[v0, v1, v2])) :
  (w.cell? ⟨N, 0, none⟩ = some v0 ∧ w.cell? ⟨N, 1, none⟩ = some v1 ∧ w.cell? ⟨N, 2, none⟩ = some v2 ∧ w.frozen? ⟨N, 0, none⟩ = false ∧ w.frozen? ⟨N, 1, none⟩ = false ∧ w.frozen? ⟨N, 2, none⟩ = false) ∧ ∃ wn, ((w.setCell ⟨N, 0, none⟩ u0).setCell ⟨N, 1, none⟩ u1).setCell ⟨N, 2, none⟩ u2 = wn ∧ Grommet.Own w0 wn (Ps.set k (boxP N 26 #[u0, u1, u2])) := by
 have hb := h.box k hk
 refine ⟨by simp [World.cell?, World.frozen?, hb], ?_⟩
 have h1 := h.putBox k hk 0 u0
 have h2 := h1.putBox k (set_at _ hk) 1 u1
 have h3 := h2.putBox k (set_at _ (set_at _ hk)) 2 u2
 simp only [List.set_set, List.setIfInBounds_toArray, List.set_cons_zero, List.set_cons_succ] at h3
 exact ⟨_, rfl, h3⟩
theorem row_words {w0 w : World} {Ps : List Pr} (h : Grommet.Own w0 w Ps) (k : Nat) {q n cap : Nat} {ys : List Nat} (hk : Ps[k]? = some (rowP 33 1 (.slice (some ⟨q, 0, none⟩) n cap) n (ys.map wv))) (i : Nat) (hi : i < ys.length) : w.cell? ⟨q, i, none⟩ = some (.int .u64 (ys.getD i 0 : Int)) ∧ w.frozen? ⟨q, i, none⟩ = false := by
 obtain ⟨q', he, c, z, _⟩ := Own.cell h k hk i (wv (ys.getD i 0)) (by rw [List.getElem?_map, List.getElem?_eq_getElem hi, List.getD_eq_getElem?_getD, List.getElem?_eq_getElem hi]; rfl)
 cases he
 exact ⟨c, z⟩
theorem FileH (b B N : Nat) (hb : b ≤ 255) (hB : 2 + b % 60 = B) (hN : 488 + 16 * 3 + 8 * B = N) (w0 w : World) (Ps : List Pr) (h : Grommet.Own w0 w Ps) :
  Calls Tryd.prog 9 #[.int .u8 (b : Int)] w fun e w' => ∃ q, e = .returned (.tuple #[.agg #[.int .i64 1, .int .i64 3, .int .i64 (B : Int)], .slice (some ⟨q, 0, none⟩) N N]) ∧ Grommet.Own w0 w' (Ps ++ [rowP 33 1 (.slice (some ⟨q, 0, none⟩) N N) N ((fileW B N).map wv)]) := by
 have hmay : mayB ((1 : Nat) : Int) ((3 : Nat) : Int) (B : Int) = true := by unfold mayB; simp; omega
 have hmay' : mayB 1 3 (B : Int) = true := hmay
 have HSm := Lib.hid (fun wx => Small_any 1 b wx (by omega) hb)
 rw [hB, show 2 + 1 % 20 = 3 from rfl, show ((1 : Nat) : Int) = 1 from rfl, show ((3 : Nat) : Int) = 3 from rfl] at HSm
 have hR := h.addBox 26 #[.int .i64 0, .int .i64 0, .int .i64 0]
 obtain ⟨R, eR⟩ : ∃ R, w.heap.size = R := ⟨_, rfl⟩
 obtain ⟨wr, ewr⟩ : ∃ wr, w.alloc (.cells #[.int .i64 0, .int .i64 0, .int .i64 0] 26) = wr := ⟨_, rfl⟩
 rw [eR, ewr] at hR
 have HR := Lib.hid hR
 have HF := Lib.hid (fun wx Qs (hx : Grommet.Own w0 wx (Ps ++ Qs)) => RFormatH 1 3 B N (fmtL 1 3 B (264 + 208 * 1) N) w0 wx (Ps ++ Qs) hx hmay (by omega) rfl)
 rw [show ((1 : Nat) : Int) = 1 from rfl, show ((3 : Nat) : Int) = 3 from rfl] at HF
 have HIn := Lib.hid (fun wx => RInodeAt_any 1 3 (B : Int) 2 wx)
 rw [show inodeV 1 3 (B : Int) 2 = 520 from by unfold inodeV; rw [if_pos ⟨hmay', by omega, by omega⟩]; rfl] at HIn
 have HIm := Lib.hid (fun wx => RInodeMapAt_any 1 3 (B : Int) wx)
 rw [show imapV 1 3 (B : Int) = 472 from by unfold imapV; rw [if_pos hmay']; rfl] at HIm
 have hl : (fmtL 1 3 B (264 + 208 * 1) N).length = N := length_fmtL _ _ _ _ _
 have e472 : ((fmtL 1 3 B (264 + 208 * 1) N).set 520 1).getD 472 0 = 3 := by
  rw [set_getD _ _ _ _ (by omega), if_neg (by omega), fmt_get' _ _ _ _ _ _ (by omega)]
  unfold fmtAt
  rw [if_neg (by omega), if_neg (by omega), if_neg (by omega), if_neg (by omega), if_pos (by omega)]
 have N5 : 536 < N := by omega
 have hor : bits .or .u64 (3 : Int) (4 : Int) = 7 := by decide
 unfold gv at *
 have hef : fileW B N = ((fmtL 1 3 B (264 + 208 * 1) N).set 520 1).set 472 7 := rfl
 generalize fileW B N = FW at hef ⊢
 have Hef := Lib.hid hef
 generalize fmtL 1 3 B (264 + 208 * 1) N = X0 at HF hl e472 Hef
 clear h hR hmay hmay' hb hB hN hef
 go_enter Tryd.func9, Tryd.ntmps9
 go_wp2_with fail
 try rw [ewr]
 try rw [eR]
 go_wp2_with fail
 refine (HSm.out _).mono ?_
 rintro e w1 ⟨rfl, hg1⟩
 have hO1 := (HR.out.quiet hg1).addBox 26 #[.int .i64 1, .int .i64 3, .int .i64 (B : Int)]
 obtain ⟨G, eG⟩ : ∃ G, w1.heap.size = G := ⟨_, rfl⟩
 obtain ⟨wg, ewg⟩ : ∃ wg, w1.alloc (.cells #[.int .i64 1, .int .i64 3, .int .i64 (B : Int)] 26) = wg := ⟨_, rfl⟩
 rw [eG, ewg, List.append_assoc] at hO1
 have HO1 := Lib.hid hO1
 obtain ⟨y0, y1, y2⟩ := geo_cells hO1 (app_at 1 rfl)
 clear hO1 hg1 HR HSm ewr eR
 go_wp2_with fail
 refine (HF.out _ _ HO1.out).mono ?_
 rintro e w2 ⟨q, rfl, hO2⟩
 rw [List.append_assoc] at hO2
 have HO2 := Lib.hid hO2
 clear hO2 HF HO1 y0 y1 y2 ewg eG
 obtain ⟨y0, y1, y2⟩ := geo_cells HO2.out (app_at 1 rfl)
 go_wp2_with fail
 refine (HIn.out _).mono ?_
 rintro e w3 ⟨rfl, hg3⟩
 have hO3 := HO2.out.quiet hg3
 obtain ⟨x0, x1⟩ := row_words hO3 _ (app_at 2 rfl) 520 (by omega)
 have hS3 := hO3.store _ (app_at 2 rfl) 520 (wv 1)
 rw [set_mid] at hS3
 have hS4 : Grommet.Own w0 (w3.setCell ⟨q, 520, none⟩ (.int .u64 1)) (Ps ++ [boxP R 26 #[.int .i64 0, .int .i64 0, .int .i64 0], boxP G 26 #[.int .i64 1, .int .i64 3, .int .i64 (B : Int)], rowP 33 1 (.slice (some ⟨q, 0, none⟩) N N) N ((X0.set 520 1).map wv)]) := by
  rw [List.map_set]; exact hS3
 obtain ⟨w4, ew4⟩ : ∃ w4, w3.setCell ⟨q, 520, none⟩ (.int .u64 1) = w4 := ⟨_, rfl⟩
 rw [ew4] at hS4
 have HO4 := Lib.hid hS4
 have n520 : (520 : Int) < (N : Int) := by omega
 have n472 : (472 : Int) < (N : Int) := by omega
 clear hO3 hS3 hS4 HO2 hg3 y0 y1 y2 HIn
 obtain ⟨y0, y1, y2⟩ := geo_cells HO4.out (app_at 1 rfl)
 go_wp2_with fail
 try rw [ew4]
 refine (HIm.out _).mono ?_
 rintro e w5 ⟨rfl, hg5⟩
 have hO5 := HO4.out.quiet hg5
 obtain ⟨z0, z1⟩ := row_words hO5 _ (app_at 2 rfl) 472 (by rw [List.length_set]; omega)
 rw [e472] at z0
 rw [show ((3 : Nat) : Int) = 3 from rfl] at z0
 have hS5 := hO5.store _ (app_at 2 rfl) 472 (wv 7)
 rw [set_mid] at hS5
 have hS6 : Grommet.Own w0 (w5.setCell ⟨q, 472, none⟩ (.int .u64 7)) (Ps ++ [boxP R 26 #[.int .i64 0, .int .i64 0, .int .i64 0], boxP G 26 #[.int .i64 1, .int .i64 3, .int .i64 (B : Int)], rowP 33 1 (.slice (some ⟨q, 0, none⟩) N N) N (FW.map wv)]) := by
  rw [Hef.out, List.map_set]; exact hS5
 obtain ⟨w6, ew6⟩ : ∃ w6, w5.setCell ⟨q, 472, none⟩ (.int .u64 7) = w6 := ⟨_, rfl⟩
 rw [ew6] at hS6
 obtain ⟨⟨g0, g1, g2, g3, g4, g5⟩, wn, hwn, hOn⟩ := gbox_put (.int .i64 1) (.int .i64 3) (.int .i64 (B : Int)) hS6 (app_at 0 rfl)
 rw [set_mid] at hOn
 obtain ⟨v0, v1, v2⟩ := geo_cells hS6 (app_at 1 rfl)
 obtain ⟨u0, u1, u2⟩ := geo_cells hOn (app_at 0 rfl)
 have HE := Lib.hid (Own.skip (Own.skip hOn))
 clear hO5 hS5 hS6 hOn HO4 hg5 y0 y1 y2 HIm x0 x1
 go_wp2_with fail
 try rw [hwn]
 exact bodyPost_ret (v := .tuple #[.agg #[.int .i64 1, .int .i64 3, .int .i64 (B : Int)], .slice (some ⟨q, 0, none⟩) N N]) (by simp [results, Tryd.results9, go_sem, u0, u1, u2]) rfl ⟨q, rfl, HE.out⟩
end Go.Proofs.YtgmhojoepcoopaaDoor
end
section
namespace Go.Proofs.YtgmhojoepcoopaaDoor
open Go.RowKit Go.Grommet
set_option linter.unusedVariables false
def GreatIs (tl : Nat) (T : List Dst) (w : World) : Ending → World → Prop := fun e w' => ∃ b, e = .returned (.bool b) ∧ Hid (b = false → tl ≤ 30 ∧ ∀ (j : Nat) (x : Dst), T[j]? = some x → x.ss.size ≤ 2000) ∧ w' = w
theorem greatH (td : Option Addr) (tl tc : Nat) (T : List Dst) (w : World) (hT : DstsIn w td tl T) :
  Calls Tryd.prog 7 #[.slice td tl tc] w (GreatIs tl T w) := by
 have HT := Lib.hid hT
 clear hT
 by_cases h60 : 30 < tl
 ·have g1 : (30 : Int) < (tl : Int) := by omega
  go_enter Tryd.func7, Tryd.ntmps7
  go_wp2
  exact bodyPost_ret (v := .bool true) (by simp [results, Tryd.results7, go_sem]) rfl ⟨true, rfl, Lib.hid (fun e => by cases e), rfl⟩
 ·have g1 : ¬ (30 : Int) < (tl : Int) := by omega
  go_enter Tryd.func7, Tryd.ntmps7
  go_wp2_with fail
  go_loopw [3] (fun i wr => ∃ k : Nat, k ≤ tl ∧ i = .int .i64 (k : Int) ∧ wr = w ∧ Hid (∀ (j : Nat) (x : Dst), j < k → T[j]? = some x → x.ss.size ≤ 2000)) (fun i _ => tl - (intOf i).toNat)
  case atStart => exact ⟨0, Nat.zero_le _, rfl, rfl, Lib.hid (fun j x hj => by omega)⟩
  case round =>
   obtain ⟨k, hk, rfl, rfl, HK⟩ := hrel
   have k0 : (0 : Int) ≤ (k : Int) := by omega
   by_cases hlt : k < tl
   ·have hlt' : (k : Int) < (tl : Int) := by omega
    obtain ⟨x, hx⟩ : ∃ x, T[k]? = some x := ⟨T[k]'(by rw [HT.out.1]; exact hlt), List.getElem?_eq_getElem _⟩
    obtain ⟨g, o, rfl, c0, c1, c2, c3, c4, c5⟩ := HT.out.2.2 k x hx
    have Hx := Lib.hid hx
    obtain ⟨D, HD⟩ : ∃ D, D = x.ss.size := ⟨_, rfl⟩
    have HDe := Lib.hid HD
    clear hx
    by_cases hd : 2000 < x.ss.size
    ·have hd' : (2000 : Int) < (x.ss.size : Int) := by omega
     clear HD
     go_wp2
     exact bodyPost_ret (v := .bool true) (by simp [results, Tryd.results7, go_sem]) rfl ⟨true, rfl, Lib.hid (fun e => by cases e), rfl⟩
    ·have hd' : ¬ (2000 : Int) < (x.ss.size : Int) := by omega
     have HK2 : Hid (∀ (j : Nat) (x : Dst), j < k + 1 → T[j]? = some x → x.ss.size ≤ 2000) := Lib.hid (fun j y hj hy => by
      by_cases e : j = k
      ·subst e; rw [Hx.out] at hy; cases hy; omega
      ·exact HK.out j y (by omega) hy)
     clear HD
     go_wp2
     go_roundw
     case rel => exact ⟨k + 1, by omega, by go_num, by first | trivial | rfl, HK2⟩
     case measure => simp [intOf]; omega
   ·have hlt' : ¬ (k : Int) < (tl : Int) := by omega
    have HE : Hid (tl ≤ 30 ∧ ∀ (j : Nat) (x : Dst), T[j]? = some x → x.ss.size ≤ 2000) := Lib.hid ⟨by omega, fun j y hy => HK.out j y (by have := (List.getElem?_eq_some_iff.1 hy).1; rw [HT.out.1] at this; omega) hy⟩
    go_wp2
    exact bodyPost_ret (v := .bool false) (by simp [results, Tryd.results7, go_sem]) rfl ⟨false, rfl, Lib.hid (fun _ => HE.out), rfl⟩
def arrC (c : Nat → UInt8) : Array Value := ((List.range 768).map fun n => bv (c n)).toArray
theorem arrC_get (c : Nat → UInt8) (n : Nat) (h : n < 768) : (arrC c)[n]? = some (bv (c n)) := by
 unfold arrC; rw [List.getElem?_toArray, List.getElem?_map, List.getElem?_range h]; rfl
theorem arrC_size (c : Nat → UInt8) : (arrC c).size = 768 := by unfold arrC; simp
theorem arrC_ext (c : Nat → UInt8) (cs : Array Value) (hs : cs.size = 768) (h : ∀ n, n < 768 → cs[n]? = some (bv (c n))) : cs = arrC c := by
 apply Array.ext_getElem?
 intro n
 by_cases hn : n < 768
 ·rw [h n hn, arrC_get c n hn]
 ·rw [Array.getElem?_eq_none (by omega), Array.getElem?_eq_none (by rw [arrC_size]; omega)]
theorem arrC_none : Array.replicate 768 (Value.int .u8 0) = arrC (fun _ => 0) := by
 refine arrC_ext _ _ (by simp) (fun n hn => ?_)
 rw [Array.getElem?_replicate, if_pos hn]
 rfl
theorem arrC_congr {c c' : Nat → UInt8} (h : ∀ i, i < 768 → c i = c' i) : arrC c = arrC c' :=
 arrC_ext _ _ (arrC_size c) (fun n hn => by rw [arrC_get c n hn, h n hn])
theorem arrC_put (c : Nat → UInt8) (n : Nat) (h : n < 768) (b : UInt8) : (arrC c).setIfInBounds n (bv b) = arrC (fun i => if i = n then b else c i) := by
 refine arrC_ext _ _ (by simp [arrC_size]) (fun i hi => ?_)
 by_cases e : n = i
 ·subst e
  rw [Array.getElem?_setIfInBounds_self_of_lt (by rw [arrC_size]; exact hi)]
  simp
 ·rw [Array.getElem?_setIfInBounds_ne e, arrC_get _ _ hi]
  simp [show ¬ i = n from fun x => e x.symm]
theorem arr_put {w0 w : World} {Ps : List Pr} {A : Nat} {c : Nat → UInt8} (h : Grommet.Own w0 w Ps) (k : Nat) (hk : Ps[k]? = some (boxP A 30 (arrC c))) (n : Nat) (hn : n < 768) (b : UInt8) : w.frozen? ⟨A, n, none⟩ = false ∧ w.cell? ⟨A, n, none⟩ = some (bv (c n)) ∧ Grommet.Own w0 (w.setCell ⟨A, n, none⟩ (bv b)) (Ps.set k (boxP A 30 (arrC (fun i => if i = n then b else c i)))) := by
 have hx := h.box k hk
 have hg := arrC_get c n hn
 have h1 := h.putBox k hk n (bv b)
 rw [arrC_put c n hn b] at h1
 exact ⟨by simp [World.frozen?, hx], by simp [World.cell?, hx, hg], h1⟩
theorem arr_at {w0 w : World} {Ps : List Pr} {A : Nat} {c : Nat → UInt8} (h : Grommet.Own w0 w Ps) (k : Nat) (hk : Ps[k]? = some (boxP A 30 (arrC c))) (m : Nat) (hm : m ≤ 768) : At w (some ⟨A, 0, none⟩) ((fileB c 0 m).map bv) := by
 intro j u hu
 have hx := h.box k hk
 rw [List.getElem?_map] at hu
 have hj : j < m := by
  by_cases hj : j < m
  ·exact hj
  ·rw [List.getElem?_eq_none (by rw [length_fileB]; omega)] at hu; cases hu
 have hg := arrC_get c j (by omega)
 unfold fileB at hu
 rw [List.getElem?_map, List.getElem?_range hj] at hu
 obtain rfl : bv (c (0 + j)) = u := Option.some.inj hu
 rw [Nat.zero_add]
 exact ⟨A, 0, rfl, by simp [World.cell?, hx, hg]⟩
theorem idx_str (S : ByteArray) (m j : Nat) (hs : S.size = m) (hj : j < m) (w : World) (b : UInt8) (hb : (bytesOf S).getD j 0 = b) : (Instr.index 9 (.string S) (.int .i64 (j : Int))).run Tryd.prog w = .ok (.int .u8 (b.toNat : Int)) w := by
 rw [run_index_string _ _ _ _ _ Tryd.underlying9, dif_pos ⟨by omega, by omega⟩]
 have e : S[(j : Int).toNat]'(by rw [Int.toNat_natCast]; omega) = b := by
  rw [← hb, List.getD_eq_getElem?_getD]
  have h2 : j < (bytesOf S).length := by rw [length_bytesOf]; omega
  rw [List.getElem?_eq_getElem h2]
  simp [bytesOf, Int.toNat_natCast]
  rfl
 rw [e]
theorem flat_gotV {xs : List Nat} {L : List (Nat × Nat)} (hw : Wl xs.length L) : gotV (flatV xs L) [] = gotV xs L := by
 funext a
 show (flatV xs L).getD a 0 = _
 by_cases ha : a < xs.length
 ·exact Go.Grommet.flat_get hw a ha
 ·rw [List.getD_eq_getElem?_getD, List.getElem?_eq_none (by rw [flatV_length]; omega)]
  unfold gotV
  have hf : fidx L a = none := fidx_of_not (fun p hp hpa => by have := hw.at_ p hp; omega)
  rw [hf]
  show 0 = xs.getD a 0
  rw [List.getD_eq_getElem?_getD, List.getElem?_eq_none (by omega)]
  rfl
theorem Fst.flat {I B n sz : Nat} {f0 : Nat → Nat} {xs : List Nat} {L : List (Nat × Nat)} {P : Nat → Nat → Nat} {c : Nat → UInt8} (F : Fst I B n sz f0 xs L P c) : Fst I B n sz f0 (flatV xs L) [] P c :=
 ⟨F.st.flat.1, F.br, F.kind, F.size, fun i hi => by rw [flat_gotV F.st.wl]; exact F.by_ i hi⟩
structure DSt (B sz : Nat) (f0 : Nat → Nat) (xs : List Nat) (L : List (Nat × Nat)) (P : Nat → Nat → Nat) (c : Nat → UInt8) : Prop where
 f : Fst 3 B 2 sz f0 xs L P c
 z : ∀ i, sz ≤ i → i < 768 → c i = 0
 b : ∀ k, sz ≤ 64 * k → k < 12 → P 2 k = 0
theorem DSt.flat {B sz : Nat} {f0 : Nat → Nat} {xs : List Nat} {L : List (Nat × Nat)} {P : Nat → Nat → Nat} {c : Nat → UInt8} (D : DSt B sz f0 xs L P c) : DSt B sz f0 (flatV xs L) [] P c := ⟨D.f.flat, D.z, D.b⟩
theorem DSt.congr {B sz : Nat} {f0 : Nat → Nat} {xs : List Nat} {L : List (Nat × Nat)} {P : Nat → Nat → Nat} {c c' : Nat → UInt8} (D : DSt B sz f0 xs L P c) (h : ∀ i, i < 768 → c i = c' i) : DSt B sz f0 xs L P c' := ⟨D.f.congr h, fun i h1 h2 => by rw [← h i h2]; exact D.z i h1 h2, D.b⟩
theorem DSt.wrote {B sz a E : Nat} {f0 : Nat → Nat} {xs : List Nat} {L0 L : List (Nat × Nat)} {P0 P : Nat → Nat → Nat} {c : Nat → UInt8} {bs : List UInt8} (D : DSt B sz f0 xs L0 P0 c) (h : WInv 3 B 2 sz f0 xs L0 P0 c a E bs L P E) (hl : L.length < 96) (haE : a < E) (hE : E ≤ 768) (hbs : a + bs.length = E) :
  ∃ f0', DSt B (max sz E) f0' xs (if sz < E then setL xs L ((491 + 16 * 2 : Nat) : Int) E else L) P (fun i => if a ≤ i ∧ i < E then bs.getD (i - a) 0 else c i) ∧ cntB xs (if sz < E then setL xs L ((491 + 16 * 2 : Nat) : Int) E else L) B = cntB xs L B := by
 have hz : ∀ i, max sz E ≤ i → i < 768 → (fun i => if a ≤ i ∧ i < E then bs.getD (i - a) 0 else c i) i = 0 := fun i h1 h2 => by
  show (if a ≤ i ∧ i < E then bs.getD (i - a) 0 else c i) = 0
  rw [if_neg (by omega)]
  exact D.z i (by omega) h2
 have hb : ∀ k, max sz E ≤ 64 * k → k < 12 → P 2 k = 0 := fun k h1 h2 => by
  rw [h.kept k h2 (.inr (by unfold doneN; rw [if_neg (by omega)]; omega))]
  exact D.b k (by omega) h2
 by_cases hs : sz < E
 ·rw [if_pos hs]
  obtain ⟨hF, hc⟩ := h.f.sized hl E hE
  rw [show max sz E = E from by omega] at hz hb ⊢
  exact ⟨_, ⟨hF, hz, hb⟩, hc⟩
 ·rw [if_neg hs]
  rw [show max sz E = sz from by omega] at hz hb ⊢
  exact ⟨f0, ⟨h.f, hz, hb⟩, rfl⟩
theorem DSt.resized {B a : Nat} {xs : List Nat} {L' : List (Nat × Nat)} {P P' : Nat → Nat → Nat} {f0' : Nat → Nat} {c : Nat → UInt8} (h : ResF 3 B 2 a xs L' P P' f0' c) : DSt B a f0' xs L' P' (fun i => if i < a then c i else 0) :=
 ⟨h.f, fun i h1 h2 => by show (if i < a then c i else 0) = 0; rw [if_neg (by omega)], h.behind⟩
theorem DSt.begun {B N : Nat} (hB : 2 ≤ B) (h64 : B ≤ 61) (hN : 488 + 16 * 3 + 8 * B = N) : DSt B 0 (gotV (fileW B N) []) (fileW B N) [] (fun _ _ => 0) (fun _ => 0) ∧ cntB (fileW B N) [] B = 1 := by
 obtain ⟨h1, h2⟩ := begun_file hB h64 hN
 exact ⟨⟨h1, fun _ _ _ => rfl, fun _ _ _ => rfl⟩, h2⟩
end Go.Proofs.YtgmhojoepcoopaaDoor
end
