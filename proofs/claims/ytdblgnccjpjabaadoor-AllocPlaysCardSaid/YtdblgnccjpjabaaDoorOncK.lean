/- Alos, AlcM, OnM in one. -/
import Derived.Test.YtdblgnccjpjabaaDoorRows
import Derived.Test.YtdblgnccjpjabaaDoorBase6
import Derived.ProofKit
import Derived.Deep.Slices
import Derived.Deep.Strs
import Derived.Test.YtdblgnccjpjabaaDoorAlcK
-- OPTIONAL
section
/- '[]grommetlaw07.Step', opened to its cells. -/
namespace Go.Proofs.YtdblgnccjpjabaaDoor
open Go.RowKit Go.Grommet Go.Deep

structure Alo where
  d : Int
  n : Int
  dr : Bool

def Alo.Ok (x : Alo) : Prop := (Lit.int .u8 x.d).wf = true ∧ (Lit.int .i64 x.n).wf = true

/-- Where a slice of such leads there stand these, 3 cells each. -/
def AlosIn (w : World) (a : Option Addr) (len : Nat) (L : List Alo) : Prop :=
  L.length = len ∧ (∀ x ∈ L, x.Ok) ∧ ∀ i x, L[i]? = some x → ∃ g o, a = some ⟨g, o, none⟩ ∧ w.cell? ⟨g, o + i * 3, none⟩ = some (.int .u8 x.d) ∧ w.cell? ⟨g, o + i * 3 + 1, none⟩ = some (.int .i64 x.n) ∧ w.cell? ⟨g, o + i * 3 + 2, none⟩ = some (.bool x.dr)

theorem AlosIn.grown {w w' : World} {a : Option Addr} {len : Nat} {L : List Alo} (h : AlosIn w a len L) (hg : w.grownBy w' none) : AlosIn w' a len L := by
  refine ⟨h.1, h.2.1, fun i x hx => ?_⟩
  obtain ⟨g, o, ha, h0, h1, h2⟩ := h.2.2 i x hx
  exact ⟨g, o, ha, hg.cell h0 (by simp), hg.cell h1 (by simp), hg.cell h2 (by simp)⟩

theorem AlosIn.at {w : World} {g o len : Nat} {L : List Alo} (h : AlosIn w (some ⟨g, o, none⟩) len L) (i : Nat) (x : Alo) (hx : L[i]? = some x) : w.cell? ⟨g, o + i * 3, none⟩ = some (.int .u8 x.d) ∧ w.cell? ⟨g, o + i * 3 + 1, none⟩ = some (.int .i64 x.n) ∧ w.cell? ⟨g, o + i * 3 + 2, none⟩ = some (.bool x.dr) := by
  obtain ⟨g', o', ha, h0, h1, h2⟩ := h.2.2 i x hx
  cases ha
  exact ⟨h0, h1, h2⟩

theorem Alo_list {α : Type} (P : Nat → α → Prop) : ∀ n, (∀ i, i < n → ∃ x, P i x) → ∃ L : List α, L.length = n ∧ ∀ i x, L[i]? = some x → P i x
  | 0, _ => ⟨[], rfl, fun i x h => by simp at h⟩
  | n + 1, h => by
    obtain ⟨L, hl, hL⟩ := Alo_list P n (fun i hi => h i (by omega))
    obtain ⟨y, hy⟩ := h n (by omega)
    refine ⟨L ++ [y], by simp [hl], fun i x hx => ?_⟩
    by_cases hi : i < n
    · rw [List.getElem?_append_left (by omega)] at hx; exact hL i x hx
    · rw [List.getElem?_append_right (by omega)] at hx
      have : i - L.length = 0 := by
        rcases Nat.eq_zero_or_pos (i - L.length) with h0 | h0
        · exact h0
        · rw [List.getElem?_eq_none (by simp; omega)] at hx; cases hx
      rw [this] at hx
      simp at hx
      subst hx
      rwa [show i = n from by omega]

set_option maxRecDepth 100000 in
theorem open_Alos {H : Type} {enc : TypeId × Value → H} {w : World} {spare : Nat → Bool} {held : Bool} {a : Option Addr} {len cap : Nat} {d : DataW H} {p : List MemPlace}
    (h : DataW.Trod enc Tryd.prog w 0 spare held 26 (.slice a len cap) d p) : ∃ L, AlosIn w a len L := by
  obtain ⟨fuel, hf⟩ := h
  rcases open_slice Tryd.underlying26 hf with ⟨hcs, _⟩ | ⟨x, l, c, m, n, D, Pl, hcs, _, hl, _, hm, _, hi⟩
  · simp [Value.cells] at hcs
    obtain ⟨rfl, rfl, rfl⟩ := hcs
    exact ⟨[], rfl, by simp, fun i x h => by simp at h⟩
  · simp [Value.cells] at hcs
    obtain ⟨rfl, rfl, rfl⟩ := hcs
    have hml : len ≤ m := by rw [hm]; split <;> omega
    have hC : Tryd.prog.cellsOf 46 = 3 := by kernel_rfl
    rw [hC] at hi
    have key : ∀ i, i < len → ∃ y : Alo, y.Ok ∧ w.cell? (x.add (i * 3 + 0)) = some (.int .u8 y.d) ∧ w.cell? (x.add (i * 3 + 1)) = some (.int .i64 y.n) ∧ w.cell? (x.add (i * 3 + 2)) = some (.bool y.dr) := by
      intro i hil
      obtain ⟨cs', hc, ht⟩ := hi i (by omega)
      obtain ⟨_, hcl, hat⟩ := World.cells?_some hc
      obtain ⟨xs, n', _, _, _, hlen, hfl⟩ := DataW.trod_struct Tryd.underlying46 ht
      match xs, hlen with
      | [y0, y1, y2], _ =>
        have g0 := by simpa using hfl 0 _ rfl
        have g1 := by simpa using hfl 1 _ rfl
        have g2 := by simpa using hfl 2 _ rfl
        match cs', hcl with
        | [c0, c1, c2], _ =>
          obtain ⟨b0, e0, _, z0⟩ := DataW.trod_int Tryd.underlying5 g0
          have k0 : Tryd.prog.cellsOf 5 = 1 := by kernel_rfl
          simp [k0] at e0
          obtain ⟨b1, e1, _, z1⟩ := DataW.trod_int Tryd.underlying3 g1
          have k1 : Tryd.prog.cellsOf 3 = 1 := by kernel_rfl
          simp [k1] at e1
          obtain ⟨b2, e2, _⟩ := DataW.trod_bool Tryd.underlying4 g2
          have k2 : Tryd.prog.cellsOf 4 = 1 := by kernel_rfl
          simp [k2] at e2
          subst e0 e1 e2
          refine ⟨⟨b0, b1, b2⟩, ⟨z0, z1⟩, ?_, ?_, ?_⟩
          · rw [← Go.Deep.add_add]; exact hat 0 (by omega)
          · rw [← Go.Deep.add_add]; exact hat 1 (by omega)
          · rw [← Go.Deep.add_add]; exact hat 2 (by omega)
    obtain ⟨L, hL, hLi⟩ := Alo_list _ len key
    refine ⟨L, hL, ?_, ?_⟩
    · intro y hy
      obtain ⟨i, hi⟩ := List.getElem?_of_mem hy
      exact (hLi i y hi).1
    · intro i y hiy
      obtain ⟨_, h0, h1, h2⟩ := hLi i y hiy
      obtain ⟨b, o, sp⟩ := x
      have hil : i < len := by
        have := (List.getElem?_eq_some_iff.1 hiy).1
        omega
      have hsp : sp = none := by
        obtain ⟨_, _, k0, _⟩ := key 0 (by omega)
        have := World.cell?_spot k0
        simpa [Addr.add] using this
      subst hsp
      refine ⟨b, o, rfl, ?_, ?_, ?_⟩
      · rw [Addr.add_lit] at h0; simpa [Nat.add_assoc] using h0
      · rw [Addr.add_lit] at h1; simpa [Nat.add_assoc] using h1
      · rw [Addr.add_lit] at h2; simpa [Nat.add_assoc] using h2
end Go.Proofs.YtdblgnccjpjabaaDoor
end
section
/- Package alloc: an inode is taken; is a block used. -/
namespace Go.Proofs.YtdblgnccjpjabaaDoor
open Go.RowKit Go.Grommet

set_option maxRecDepth 100000 in
set_option maxHeartbeats 1000000 in
theorem take_nil (k k2 X XA g A m c : Nat) (xs : List Nat) (L : List (Nat × Nat)) (w0 w : World) (Ps : List Pr) (h : Grommet.Own w0 w Ps) (hk : Ps[k]? = some (viewP g xs L)) (hx : Ps[k2]? = some (mapP X g A m)) (hM : MapOk xs.length A m)
    (hl : L.length ≤ 80) (htab : Lib.TabIs Tryd.prog w0 "math/bits.deBruijn64tab" .u8 tab) (hc : ClrR (mbit xs L A) m (c : Int) true) (hcm : c < m) :
    Calls Tryd.prog 48 #[.pointer (some ⟨XA, 0, none⟩), .pointer (some ⟨X, 0, none⟩), .slice none 0 0] w fun e w' => e = .returned (.tuple #[.int .i64 (c : Int), .int .i64 0]) ∧ Grommet.Own w0 w' (Ps.set k (viewP g xs (setMI xs L A m (c : Int) true))) := by
  have hf := hM.fits
  have HC := Lib.hid (MClearH k k2 X g A m xs L w0 w Ps h hk hx hM htab (c : Int) true hc)
  have hse : (setME xs L A m (c : Int) : Int) = 0 := by rw [setM_ok (by omega) hcm (by omega)]; rfl
  have HS := Lib.hid (fun wx hO => MSetH k k2 X g A m xs L (c : Int) true 0 w0 wx Ps _ hO hk hx hM hse rfl)
  have HO := Lib.hid h
  clear h hk hx hM htab hc hse hf hcm
  go_enter Tryd.func48, Tryd.ntmps48
  go_wp2_with fail
  refine HC.out.mono ?_
  rintro e w1 ⟨rfl, hg⟩
  clear HC
  have hO1 := Lib.hid (HO.out.quiet hg)
  clear HO hg
  go_wp2_with fail
  refine (HS.out _ hO1.out).mono ?_
  rintro e w2 ⟨rfl, hO2⟩
  clear HS hO1
  have hO2 := Lib.hid hO2
  go_wp2_with fail
  go_loopw [29] (fun s wr => s = .int .i64 0 ∧ Hid (Grommet.Own w0 wr (Ps.set k (viewP g xs (setMI xs L A m (c : Int) true))))) (fun s _ => 0)
  case atStart => exact ⟨rfl, hO2⟩
  case round =>
    clear hO2
    obtain ⟨rfl, hO⟩ := hrel
    go_wp2
    go_ret2
    exact ⟨rfl, hO.out⟩

set_option maxRecDepth 100000 in
set_option maxHeartbeats 1000000 in
theorem TakeInodeYes (kv kI kB kA g a b c XI XB XA n : Nat) (xs : List Nat) (L : List (Nat × Nat)) (w0 w : World) (Ps : List Pr) (h : Grommet.Own w0 w Ps) (hA : AlcIs Ps kv kI kB kA g a b c XI XB XA xs L)
    (htab : Lib.TabIs Tryd.prog w0 "math/bits.deBruijn64tab" .u8 tab) (hc : ClrR (mbit xs L (264 + 208 * a)) b (n : Int) true) (hn : n < b) (hl : L.length ≤ 80) :
    Calls Tryd.prog 15 #[.pointer (some ⟨XA, 0, none⟩)] w fun e w' => e = .returned (.tuple #[.int .i64 (n : Int), .int .i64 0]) ∧ Grommet.Own w0 w' (Ps.set kv (viewP g xs (setMI xs L (264 + 208 * a) b (n : Int) true))) := by
  obtain ⟨c0, c1, c2, c3, c4, c5⟩ := (AS.of h hA.al).cells
  have HT := Lib.hid (take_nil kv kI XI XA g (264 + 208 * a) b n xs L w0 w Ps h hA.view hA.mi hA.okI hl htab hc hn)
  clear h hA htab hc
  go_enter Tryd.func15, Tryd.ntmps15
  go_wp2_with fail
  refine HT.out.mono ?_
  rintro e w1 ⟨rfl, hO⟩
  have HO1 := Lib.hid hO
  clear hO
  go_wp2
  go_ret2
  exact ⟨rfl, HO1.out⟩

set_option maxRecDepth 100000 in
set_option maxHeartbeats 1000000 in
theorem UsedH (kv kI kB kA g a b c XI XB XA : Nat) (xs : List Nat) (L : List (Nat × Nat)) (n : Int) (r : Bool) (w0 w : World) (Ps : List Pr) (h : Grommet.Own w0 w Ps) (hA : AlcIs Ps kv kI kB kA g a b c XI XB XA xs L)
    (hr : getM xs L (272 + 208 * a) c n = r) :
    Calls Tryd.prog 23 #[.pointer (some ⟨XA, 0, none⟩), .int .i64 n] w fun e w' => e = .returned (.bool r) ∧ Grommet.Own w0 w' Ps := by
  obtain ⟨c0, c1, c2, c3, c4, c5⟩ := (AS.of h hA.al).cells
  have HG := Lib.hid (MGetH kv kB XB g (272 + 208 * a) c xs L n w0 w Ps h hA.view hA.mb hA.okB r hr)
  have HO := Lib.hid h
  clear h hA hr
  go_enter Tryd.func23, Tryd.ntmps23
  go_wp2_with fail
  refine HG.out.mono ?_
  rintro e w1 ⟨rfl, hg⟩
  have HO1 := Lib.hid (HO.out.quiet hg)
  clear hg
  go_wp2
  go_ret
  exact ⟨rfl, HO1.out⟩
end Go.Proofs.YtdblgnccjpjabaaDoor
end
section
/- AllocOnce: what is used, in words and in the law's own arrays. -/
namespace Go.Proofs.YtdblgnccjpjabaaDoor.allocOnce
open Go.RowKit Go.Grommet Go.Proofs.YtdblgnccjpjabaaDoor.allocLeast

theorem own_store_box {w0 w : World} {Ps : List Pr} (h : Grommet.Own w0 w Ps) (k : Nat) {X : Nat} {T : TypeId} {cs : Array Value} (hk : Ps[k]? = some (boxP X T cs)) (o : Nat) (u : Value) : Grommet.Own w0 (w.setCell ⟨X, o, none⟩ u) (Ps.set k (boxP X T (cs.setIfInBounds o u))) := by
  obtain ⟨F, h1, h2⟩ := h.take k hk
  exact h2 _ _ ⟨F, ⟨heap_setCell_at h1.1 u, h1.2.1, fun i hi => Nat.lt_of_lt_of_le (h1.2.2 i hi) (by simp [World.setCell])⟩, fun i hi => .inl hi, Turn.of (grown_setCell _ _ _) (fun i e => by cases e; exact h1.2.1)⟩
theorem own_pick {w0 w : World} {Ps Qs : List Pr} (f : Nat → Nat) (h : Grommet.Own w0 w Ps) (key : ∀ j, j < Qs.length → f j < Ps.length ∧ Qs[j]? = Ps[f j]?) (inj : ∀ i j, i < Qs.length → j < Qs.length → i ≠ j → f i ≠ f j) : Grommet.Own w0 w Qs := by
  obtain ⟨Fs, h1, h2, h3, h4⟩ := h
  exact ⟨fun j => Fs (f j), fun k P hk => h1 _ P (by rw [← (key k (List.getElem?_eq_some_iff.1 hk).1).2]; exact hk), fun j k hj hk hne => h2 _ _ (key j hj).1 (key k hk).1 (inj j k hj hk hne), fun k hk => h3 _ (key k hk).1, h4⟩
theorem own_four {w0 w : World} {G R HI HB V Y MI MB A W F : Pr} (h : Grommet.Own w0 w [G, R, HI, HB, V, Y, MI, MB, A, W, F]) : Grommet.Own w0 w [G, F, HI, HB] := by
  refine own_pick (fun j => [0, 10, 2, 3].getD j 0) h ?_ ?_
  · intro j hj
    have hj4 : j = 0 ∨ j = 1 ∨ j = 2 ∨ j = 3 := by simp at hj; omega
    rcases hj4 with rfl | rfl | rfl | rfl
    · exact ⟨by simp, rfl⟩
    · exact ⟨by simp, rfl⟩
    · exact ⟨by simp, rfl⟩
    · exact ⟨by simp, rfl⟩
  · intro i j hi hj hne
    have hi4 : i = 0 ∨ i = 1 ∨ i = 2 ∨ i = 3 := by simp at hi; omega
    have hj4 : j = 0 ∨ j = 1 ∨ j = 2 ∨ j = 3 := by simp at hj; omega
    rcases hi4 with rfl | rfl | rfl | rfl <;> rcases hj4 with rfl | rfl | rfl | rfl <;> first | exact absurd rfl hne | decide

/-- The law's arrays. -/
def hasC (f : Nat → Bool) : Array Value := ((List.range 64).map fun n => Value.bool (f n)).toArray
theorem hasC_get (f : Nat → Bool) (n : Nat) (h : n < 64) : (hasC f)[n]? = some (.bool (f n)) := by
  unfold hasC; rw [List.getElem?_toArray, List.getElem?_map, List.getElem?_range h]; rfl
theorem hasC_size (f : Nat → Bool) : (hasC f).size = 64 := by unfold hasC; simp
def turn (f : Nat → Bool) (n : Nat) (b : Bool) : Nat → Bool := fun i => if i = n then b else f i
theorem hasC_ext (f : Nat → Bool) (cs : Array Value) (hs : cs.size = 64) (h : ∀ n, n < 64 → cs[n]? = some (.bool (f n))) : cs = hasC f := by
  apply Array.ext_getElem?
  intro n
  by_cases hn : n < 64
  · rw [h n hn, hasC_get f n hn]
  · rw [Array.getElem?_eq_none (by omega), Array.getElem?_eq_none (by rw [hasC_size]; omega)]
theorem hasC_none (f : Nat → Bool) (h : ∀ n, f n = false) : Array.replicate 64 (Value.bool false) = hasC f := by
  refine hasC_ext f _ (by simp) (fun n hn => ?_)
  rw [Array.getElem?_replicate, if_pos hn, h n]
/-- Which are used: of the lower bound l, below m. -/
def fH (l m : Nat) (us : Nat → Bool) (n : Nat) : Bool := decide (l ≤ n) && (decide (n < m) && us n)
theorem hasC_turn (l m : Nat) (us : Nat → Bool) (n : Nat) (b : Bool) (h0 : l ≤ n) (h1 : n < m) : (hasC (fH l m us)).setIfInBounds n (.bool b) = hasC (fH l m (turn us n b)) := by
  refine hasC_ext _ _ (by simp [hasC_size]) (fun i hi => ?_)
  by_cases e : n = i
  · subst e
    rw [Array.getElem?_setIfInBounds_self_of_lt (by rw [hasC_size]; exact hi)]
    simp [fH, turn, h0, h1]
  · rw [Array.getElem?_setIfInBounds_ne e, hasC_get _ _ hi]
    simp [fH, turn, show ¬ i = n from fun x => e x.symm]
theorem fH_in {l m : Nat} {us : Nat → Bool} {n : Nat} (h0 : l ≤ n) (h1 : n < m) : fH l m us n = us n := by simp [fH, h0, h1]
theorem fH_out {l m : Nat} {us : Nat → Bool} {n : Nat} (h1 : m ≤ n) : fH l m us n = false := by simp [fH, show ¬ n < m by omega]

/-- The words, what is used of them, how many are free. -/
structure St (I B N : Nat) (xs : List Nat) (L : List (Nat × Nat)) (ui ub : Nat → Bool) (p q : Nat) : Prop where
  len : xs.length = N
  i2 : 2 ≤ I
  i21 : I ≤ 21
  b2 : 2 ≤ B
  b41 : B ≤ 41
  n : 488 + 16 * I + 8 * B = N
  bi : ∀ i, i < I → mbit xs L (264 + 208 * 1) i = ui i
  bb : ∀ i, i < B → mbit xs L (272 + 208 * 1) i = ub i
  u0 : ui 0 = true
  u1 : ui 1 = true
  b0 : ub 0 = true
  p : cntF ui I + p = I
  q : cntF ub B + q = B

theorem cnt_full {f : Nat → Bool} : ∀ n, (∀ i, i < n → f i = true) → cntF f n = n := by
  intro n h
  rw [cntF_congr (g := fun _ => true) n h]
  clear h
  induction n with
  | zero => rfl
  | succ n ih => unfold cntF; rw [ih]; rfl
theorem cnt_set {f : Nat → Bool} {n m : Nat} (h : n < m) (hf : f n = false) : cntF (turn f n true) m = cntF f m + 1 := by
  have := cntF_turn (f := f) (g := turn f n true) (k := n) (fun i hi => by simp [turn, hi]) m h
  rw [hf, show turn f n true n = true by simp [turn]] at this
  simpa using this
theorem cnt_clr {f : Nat → Bool} {n m : Nat} (h : n < m) (hf : f n = true) : cntF (turn f n false) m + 1 = cntF f m := by
  have := cntF_turn (f := f) (g := turn f n false) (k := n) (fun i hi => by simp [turn, hi]) m h
  rw [hf, show turn f n false n = false by simp [turn]] at this
  simpa using this
theorem set_other {xs : List Nat} {A m a : Nat} {i : Nat} {is : Bool} (h : a ≠ A + i / 64) : gotV xs (setMI xs [] A m (i : Int) is) a = gotV xs [] a := by
  unfold setMI
  split
  · unfold putI
    split
    · rw [Int.toNat_natCast, got_put (.inl (by simp)), if_neg (by simpa using h)]
    · rfl
  · rfl

theorem St.mayB {I B N p q : Nat} {xs : List Nat} {L : List (Nat × Nat)} {ui ub : Nat → Bool} (h : St I B N xs L ui ub p q) : mayB ((1 : Nat) : Int) (I : Int) (B : Int) = true := by
  have := h.i2; have := h.i21; have := h.b2; have := h.b41
  unfold Grommet.mayB; simp; omega
theorem St.take_i {I B N p q : Nat} {xs : List Nat} {ui ub : Nat → Bool} (h : St I B N xs [] ui ub p q) (hs : ∀ n ∈ xs, n < 18446744073709551616) (n : Nat) (hn : n < I) (hf : ui n = false) :
    2 ≤ n ∧ ∃ p', p = p' + 1 ∧ St I B N xs (setMI xs [] (264 + 208 * 1) I (n : Int) true) (turn ui n true) ub p' q := by
  have h0 : n ≠ 0 := fun e => by rw [e, h.u0] at hf; cases hf
  have h1 : n ≠ 1 := fun e => by rw [e, h.u1] at hf; cases hf
  have hc := cnt_set hn hf
  have hle := cntF_le (turn ui n true) I
  have hp := h.p
  have hi := h.i21
  have hN := h.n
  refine ⟨by omega, p - 1, by omega, h.len, h.i2, h.i21, h.b2, h.b41, h.n, fun i hi' => ?_, fun i hi' => ?_, ?_, ?_, h.b0, by omega, h.q⟩
  · rw [mbit_set (.inl (by simp)) (fun n => gotV_small hs (by simp) n) hn (by rw [h.len]; omega)]
    unfold turn
    split
    · rfl
    · exact h.bi i hi'
  · rw [← h.bb i hi']
    unfold mbit
    rw [set_other (by have := h.b41; omega)]
  · unfold turn; rw [if_neg (fun e => h0 e.symm)]; exact h.u0
  · unfold turn; rw [if_neg (fun e => h1 e.symm)]; exact h.u1
theorem St.give_i {I B N p q : Nat} {xs : List Nat} {ui ub : Nat → Bool} (h : St I B N xs [] ui ub p q) (hs : ∀ n ∈ xs, n < 18446744073709551616) (n : Nat) (h2 : 2 ≤ n) (hn : n < I) (hf : ui n = true) :
    St I B N xs (setMI xs [] (264 + 208 * 1) I (n : Int) false) (turn ui n false) ub (p + 1) q := by
  have hc := cnt_clr hn hf
  have hp := h.p
  have hi := h.i21
  have hN := h.n
  refine ⟨h.len, h.i2, h.i21, h.b2, h.b41, h.n, fun i hi' => ?_, fun i hi' => ?_, ?_, ?_, h.b0, by omega, h.q⟩
  · rw [mbit_set (.inl (by simp)) (fun n => gotV_small hs (by simp) n) hn (by rw [h.len]; omega)]
    unfold turn
    split
    · rfl
    · exact h.bi i hi'
  · rw [← h.bb i hi']
    unfold mbit
    rw [set_other (by have := h.b41; omega)]
  · unfold turn; rw [if_neg (by omega)]; exact h.u0
  · unfold turn; rw [if_neg (by omega)]; exact h.u1
theorem St.give_b {I B N p q : Nat} {xs : List Nat} {ui ub : Nat → Bool} (h : St I B N xs [] ui ub p q) (hs : ∀ n ∈ xs, n < 18446744073709551616) (n : Nat) (h2 : 1 ≤ n) (hn : n < B) (hf : ub n = true) :
    St I B N xs (setMI xs [] (272 + 208 * 1) B (n : Int) false) ui (turn ub n false) p (q + 1) := by
  have hc := cnt_clr hn hf
  have hp := h.q
  have hi := h.b41
  have hN := h.n
  refine ⟨h.len, h.i2, h.i21, h.b2, h.b41, h.n, fun i hi' => ?_, fun i hi' => ?_, h.u0, h.u1, ?_, h.p, by omega⟩
  · rw [← h.bi i hi']
    unfold mbit
    rw [set_other (by have := h.i21; omega)]
  · rw [mbit_set (.inl (by simp)) (fun n => gotV_small hs (by simp) n) hn (by rw [h.len]; omega)]
    unfold turn
    split
    · rfl
    · exact h.bb i hi'
  · unfold turn; rw [if_neg (by omega)]; exact h.b0
theorem zero_at (xs : List Nat) (P : Nat) (L : List (Nat × Nat)) : ∀ i j, L.length + i ≤ 95 → P + i ≤ xs.length → j < i → gotV xs (zeroL xs P L i) (P + j) = 0
  | 0, _, _, _, h => by omega
  | i + 1, j, h, hx, hj => by
    have hz := zeroL_length xs P L i
    show gotV xs (putI xs (zeroL xs P L i) ((P + i : Nat) : Int) 0) (P + j) = _
    unfold putI
    rw [if_pos (by omega), Int.toNat_natCast, got_put (.inl (by omega))]
    split
    · rfl
    · exact zero_at xs P L i j (by omega) (by omega) (by omega)
theorem St.take_b {I B N p q : Nat} {xs : List Nat} {ui ub : Nat → Bool} (h : St I B N xs [] ui ub p q) (hs : ∀ n ∈ xs, n < 18446744073709551616) (n P : Nat) (hn : n < B) (hf : ub n = false) (hP : 488 + 16 * I + 8 * n = P) :
    1 ≤ n ∧ P + 8 ≤ N ∧ (∀ j, j < 8 → gotV xs (zeroL xs P (setMI xs [] (272 + 208 * 1) B (n : Int) true) 8) (P + j) = 0) ∧ (zeroL xs P (setMI xs [] (272 + 208 * 1) B (n : Int) true) 8).length ≤ 9 ∧
    ∃ q', q = q' + 1 ∧ St I B N xs (zeroL xs P (setMI xs [] (272 + 208 * 1) B (n : Int) true) 8) ui (turn ub n true) p q' := by
  have h0 : n ≠ 0 := fun e => by rw [e, h.b0] at hf; cases hf
  have hc := cnt_set hn hf
  have hle := cntF_le (turn ub n true) B
  have hp := h.q
  have hi := h.b41
  have hN := h.n
  have hl := set_length (xs := xs) (L := []) (A := 272 + 208 * 1) (m := B) (i := (n : Int)) (is := true)
  have hz := zeroL_length xs P (setMI xs [] (272 + 208 * 1) B (n : Int) true) 8
  simp only [List.length_nil] at hl
  have hx := h.len
  have far : ∀ a, a < 488 → gotV xs (zeroL xs P (setMI xs [] (272 + 208 * 1) B (n : Int) true) 8) a = gotV xs (setMI xs [] (272 + 208 * 1) B (n : Int) true) a := fun a ha => zero_other xs P a _ (by omega) 8 (by omega)
  refine ⟨by omega, by omega, fun j hj => zero_at xs P _ 8 j (by omega) (by omega) hj, by omega, q - 1, by omega, h.len, h.i2, h.i21, h.b2, h.b41, h.n, fun i hi' => ?_, fun i hi' => ?_, h.u0, h.u1, ?_, h.p, by omega⟩
  · rw [← h.bi i hi']
    unfold mbit
    rw [far _ (by have := h.i21; omega), set_other (by have := h.i21; omega)]
  · have e1 : mbit xs (zeroL xs P (setMI xs [] (272 + 208 * 1) B (n : Int) true) 8) (272 + 208 * 1) i = mbit xs (setMI xs [] (272 + 208 * 1) B (n : Int) true) (272 + 208 * 1) i := by
      unfold mbit; rw [far _ (by omega)]
    rw [e1, mbit_set (.inl (by simp)) (fun n => gotV_small hs (by simp) n) hn (by rw [h.len]; omega)]
    unfold turn
    split
    · rfl
    · exact h.bb i hi'
  · unfold turn; rw [if_neg (fun e => h0 e.symm)]; exact h.b0
theorem St.flat {I B N p q : Nat} {xs : List Nat} {L : List (Nat × Nat)} {ui ub : Nat → Bool} (h : St I B N xs L ui ub p q) (hW : Wl xs.length L) : St I B N (flatV xs L) [] ui ub p q := by
  have hN := h.n
  have hx := h.len
  have e : ∀ A i, A + i / 64 < xs.length → mbit (flatV xs L) [] A i = mbit xs L A i := fun A i hA => by
    unfold mbit
    rw [show gotV (flatV xs L) [] (A + i / 64) = (flatV xs L).getD (A + i / 64) 0 from rfl, Go.Grommet.flat_get hW _ hA]
  exact ⟨(flatV_length _ _).trans h.len, h.i2, h.i21, h.b2, h.b41, h.n, fun i hi => (e _ _ (by have := h.i21; omega)).trans (h.bi i hi), fun i hi => (e _ _ (by have := h.b41; omega)).trans (h.bb i hi), h.u0, h.u1, h.b0, h.p, h.q⟩
theorem St.put {I B N p q : Nat} {xs : List Nat} {ui ub : Nat → Bool} (h : St I B N xs [] ui ub p q) (a v : Nat) (ha : 488 ≤ a) : St I B N (xs.set a v) [] ui ub p q := by
  have e : ∀ A i, A + i / 64 < 488 → mbit (xs.set a v) [] A i = mbit xs [] A i := fun A i hA => by
    unfold mbit
    rw [show gotV (xs.set a v) [] (A + i / 64) = (xs.set a v).getD (A + i / 64) 0 from rfl, show gotV xs [] (A + i / 64) = xs.getD (A + i / 64) 0 from rfl, List.getD_eq_getElem?_getD, List.getD_eq_getElem?_getD, List.getElem?_set_ne (by omega)]
  exact ⟨by rw [List.length_set]; exact h.len, h.i2, h.i21, h.b2, h.b41, h.n, fun i hi => (e _ _ (by have := h.i21; omega)).trans (h.bi i hi), fun i hi => (e _ _ (by have := h.b41; omega)).trans (h.bb i hi), h.u0, h.u1, h.b0, h.p, h.q⟩
/-- A new device. -/
theorem St.begun (I B N : Nat) (h1 : 2 ≤ I) (h2 : I ≤ 21) (h3 : 2 ≤ B) (h4 : B ≤ 41) (hN : 488 + 16 * I + 8 * B = N) :
    St I B N (fmtL 1 I B (264 + 208 * 1) N) [] (fun i => decide (i < 2)) (fun i => decide (i < 1)) (I - 2) (B - 1) := by
  have hg : ∀ a, a < N → gotV (fmtL 1 I B (264 + 208 * 1) N) [] a = fmtAt 1 I B (264 + 208 * 1) a := fun a ha => fmt_get _ _ _ _ _ _ ha
  have hc : ∀ k m : Nat, k ≤ m → cntF (fun i => decide (i < k)) m = k := fun k m hk => by
    have := cntF_clip (fun _ => true) k m hk
    simp only [Bool.and_true] at this
    rw [this]; exact cnt_full _ (fun _ _ => rfl)
  refine ⟨length_fmtL _ _ _ _ _, h1, h2, h3, h4, hN, fun i hi => ?_, fun i hi => ?_, rfl, rfl, rfl, ?_, ?_⟩
  · unfold mbit
    rw [show 264 + 208 * 1 + i / 64 = 472 by omega, hg _ (by omega), Nat.mod_eq_of_lt (show i < 64 by omega)]
    show (3 : Nat).testBit i = _
    show (2 ^ 2 - 1 : Nat).testBit i = _
    rw [Nat.testBit_two_pow_sub_one]
  · unfold mbit
    rw [show 272 + 208 * 1 + i / 64 = 480 by omega, hg _ (by omega), Nat.mod_eq_of_lt (show i < 64 by omega)]
    show (1 : Nat).testBit i = _
    show (2 ^ 1 - 1 : Nat).testBit i = _
    rw [Nat.testBit_two_pow_sub_one]
  · rw [hc 2 I h1]; omega
  · rw [hc 1 B (by omega)]; omega
/-- The first that is free, or none. -/
theorem St.first_i {I B N p q : Nat} {xs : List Nat} {ui ub : Nat → Bool} (h : St I B N xs [] ui ub p q) :
    (∃ n : Nat, ClrR (mbit xs [] (264 + 208 * 1)) I (n : Int) true ∧ n < I ∧ ui n = false) ∨ (ClrR (mbit xs [] (264 + 208 * 1)) I 0 false ∧ p = 0) := by
  obtain ⟨c, b, hc⟩ := clrR_ex (mbit xs [] (264 + 208 * 1)) I
  rcases hc with ⟨rfl, n, rfl, hn, hf, hl⟩ | ⟨rfl, rfl, hl⟩
  · exact .inl ⟨n, .inl ⟨rfl, n, rfl, hn, hf, hl⟩, hn, (h.bi n hn).symm.trans hf⟩
  · refine .inr ⟨.inr ⟨rfl, rfl, hl⟩, ?_⟩
    have := h.p
    rw [cnt_full I (fun i hi => (h.bi i hi).symm.trans (hl i hi))] at this
    omega
theorem St.first_b {I B N p q : Nat} {xs : List Nat} {ui ub : Nat → Bool} (h : St I B N xs [] ui ub p q) :
    (∃ n : Nat, ClrR (mbit xs [] (272 + 208 * 1)) B (n : Int) true ∧ n < B ∧ ub n = false) ∨ (ClrR (mbit xs [] (272 + 208 * 1)) B 0 false ∧ q = 0) := by
  obtain ⟨c, b, hc⟩ := clrR_ex (mbit xs [] (272 + 208 * 1)) B
  rcases hc with ⟨rfl, n, rfl, hn, hf, hl⟩ | ⟨rfl, rfl, hl⟩
  · exact .inl ⟨n, .inl ⟨rfl, n, rfl, hn, hf, hl⟩, hn, (h.bb n hn).symm.trans hf⟩
  · refine .inr ⟨.inr ⟨rfl, rfl, hl⟩, ?_⟩
    have := h.q
    rw [cnt_full B (fun i hi => (h.bb i hi).symm.trans (hl i hi))] at this
    omega
/-- What is given back: its error, what is left. -/
theorem St.gives_i {I B N p q : Nat} {xs : List Nat} {ui ub : Nat → Bool} (h : St I B N xs [] ui ub p q) (n : Nat) (h2 : 2 ≤ n) :
    (fH 2 I ui n = true ∧ n < I ∧ ui n = true ∧ (giveE xs [] (264 + 208 * 1) I (n : Int) : Int) = 0 ∧ giveL xs [] (264 + 208 * 1) I (n : Int) = setMI xs [] (264 + 208 * 1) I (n : Int) false) ∨
    (fH 2 I ui n = false ∧ ∃ en : Nat, en ≠ 0 ∧ (giveE xs [] (264 + 208 * 1) I (n : Int) : Int) = (en : Int) ∧ giveL xs [] (264 + 208 * 1) I (n : Int) = []) := by
  have hN := h.n
  have hx := h.len
  have hI := h.i21
  by_cases hn : n < I
  · have hr : ¬ ((n : Int) < 1 ∨ (I : Int) ≤ (n : Int)) := by omega
    have hb := h.bi n hn
    cases hu : ui n with
    | true =>
      rw [hu] at hb
      refine .inl ⟨by rw [fH_in h2 hn, hu], hn, rfl, ?_, ?_⟩
      · unfold giveE; rw [if_neg hr, Int.toNat_natCast, hb, if_pos rfl, setM_ok (by simp) hn (by omega)]; rfl
      · unfold giveL; rw [if_neg hr, Int.toNat_natCast, hb, if_pos rfl]
    | false =>
      rw [hu] at hb
      refine .inr ⟨by rw [fH_in h2 hn, hu], 3, by omega, ?_, ?_⟩
      · unfold giveE; rw [if_neg hr, Int.toNat_natCast, hb, if_neg (by decide)]
      · unfold giveL; rw [if_neg hr, Int.toNat_natCast, hb, if_neg (by decide)]
  · have hr : ((n : Int) < 1 ∨ (I : Int) ≤ (n : Int)) := by omega
    refine .inr ⟨fH_out (by omega), 1, by omega, ?_, ?_⟩
    · unfold giveE; rw [if_pos hr]
    · unfold giveL; rw [if_pos hr]
theorem St.gives_b {I B N p q : Nat} {xs : List Nat} {ui ub : Nat → Bool} (h : St I B N xs [] ui ub p q) (n : Nat) (h2 : 1 ≤ n) :
    (fH 1 B ub n = true ∧ n < B ∧ ub n = true ∧ (giveE xs [] (272 + 208 * 1) B (n : Int) : Int) = 0 ∧ giveL xs [] (272 + 208 * 1) B (n : Int) = setMI xs [] (272 + 208 * 1) B (n : Int) false) ∨
    (fH 1 B ub n = false ∧ ∃ en : Nat, en ≠ 0 ∧ (giveE xs [] (272 + 208 * 1) B (n : Int) : Int) = (en : Int) ∧ giveL xs [] (272 + 208 * 1) B (n : Int) = []) := by
  have hN := h.n
  have hx := h.len
  have hI := h.b41
  by_cases hn : n < B
  · have hr : ¬ ((n : Int) < 1 ∨ (B : Int) ≤ (n : Int)) := by omega
    have hb := h.bb n hn
    cases hu : ub n with
    | true =>
      rw [hu] at hb
      refine .inl ⟨by rw [fH_in h2 hn, hu], hn, rfl, ?_, ?_⟩
      · unfold giveE; rw [if_neg hr, Int.toNat_natCast, hb, if_pos rfl, setM_ok (by simp) hn (by omega)]; rfl
      · unfold giveL; rw [if_neg hr, Int.toNat_natCast, hb, if_pos rfl]
    | false =>
      rw [hu] at hb
      refine .inr ⟨by rw [fH_in h2 hn, hu], 3, by omega, ?_, ?_⟩
      · unfold giveE; rw [if_neg hr, Int.toNat_natCast, hb, if_neg (by decide)]
      · unfold giveL; rw [if_neg hr, Int.toNat_natCast, hb, if_neg (by decide)]
  · have hr : ((n : Int) < 1 ∨ (B : Int) ≤ (n : Int)) := by omega
    refine .inr ⟨fH_out (by omega), 1, by omega, ?_, ?_⟩
    · unfold giveE; rw [if_pos hr]
    · unfold giveL; rw [if_pos hr]
end Go.Proofs.YtdblgnccjpjabaaDoor.allocOnce
end
