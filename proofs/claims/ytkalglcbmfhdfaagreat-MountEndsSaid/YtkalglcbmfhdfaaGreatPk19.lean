/- Texts of ours, packed. -/
import Derived.Test.YtkalglcbmfhdfaaGreatRows
import Derived.ProofKit
import Derived.Deep.Slices
import Derived.Deep.Strs
import Derived.SizedLaws
import Derived.Test.YtkalglcbmfhdfaaGreatPk11
section
/- '[]api.Write', opened to its cells. -/
namespace Go.Proofs.YtkalglcbmfhdfaaGreat
open Go.RowKit Go.Grommet Go.Deep

structure Wrt where
  ad : Int
  vv : Int

def Wrt.Ok (x : Wrt) : Prop := (Lit.int .i64 x.ad).wf = true ∧ (Lit.int .u64 x.vv).wf = true

/-- Where a slice of such leads there stand these, 2 cells each. -/
def WrtsIn (w : World) (a : Option Addr) (len : Nat) (L : List Wrt) : Prop :=
  L.length = len ∧ (∀ x ∈ L, x.Ok) ∧ ∀ i x, L[i]? = some x → ∃ g o, a = some ⟨g, o, none⟩ ∧ w.cell? ⟨g, o + i * 2, none⟩ = some (.int .i64 x.ad) ∧ w.cell? ⟨g, o + i * 2 + 1, none⟩ = some (.int .u64 x.vv)

theorem WrtsIn.grown {w w' : World} {a : Option Addr} {len : Nat} {L : List Wrt} (h : WrtsIn w a len L) (hg : w.grownBy w' none) : WrtsIn w' a len L := by
  refine ⟨h.1, h.2.1, fun i x hx => ?_⟩
  obtain ⟨g, o, ha, h0, h1⟩ := h.2.2 i x hx
  exact ⟨g, o, ha, hg.cell h0 (by simp), hg.cell h1 (by simp)⟩

theorem WrtsIn.at {w : World} {g o len : Nat} {L : List Wrt} (h : WrtsIn w (some ⟨g, o, none⟩) len L) (i : Nat) (x : Wrt) (hx : L[i]? = some x) : w.cell? ⟨g, o + i * 2, none⟩ = some (.int .i64 x.ad) ∧ w.cell? ⟨g, o + i * 2 + 1, none⟩ = some (.int .u64 x.vv) := by
  obtain ⟨g', o', ha, h0, h1⟩ := h.2.2 i x hx
  cases ha
  exact ⟨h0, h1⟩

theorem Wrt_list {α : Type} (P : Nat → α → Prop) : ∀ n, (∀ i, i < n → ∃ x, P i x) → ∃ L : List α, L.length = n ∧ ∀ i x, L[i]? = some x → P i x
  | 0, _ => ⟨[], rfl, fun i x h => by simp at h⟩
  | n + 1, h => by
    obtain ⟨L, hl, hL⟩ := Wrt_list P n (fun i hi => h i (by omega))
    obtain ⟨y, hy⟩ := h n (by omega)
    refine ⟨L ++ [y], by simp [hl], fun i x hx => ?_⟩
    by_cases hi : i < n
    · rw [List.getElem?_append_left (by omega)] at hx; exact hL i x hx
    · rw [List.getElem?_append_right (by omega)] at hx
      have : i - L.length = 0 := by
        rcases Nat.eq_zero_or_pos (i - L.length) with h0 | h0
        · exact h0
        · rw [List.getElem?_eq_none (by simp; omega)] at hx; cases hx
      rw [this] at hx
      simp at hx
      subst hx
      rwa [show i = n from by omega]

set_option maxRecDepth 100000 in
theorem open_Wrts {H : Type} {enc : TypeId × Value → H} {w : World} {spare : Nat → Bool} {held : Bool} {a : Option Addr} {len cap : Nat} {d : DataW H} {p : List MemPlace}
    (h : DataW.Trod enc Tryz.prog w 0 spare held 90 (.slice a len cap) d p) : ∃ L, WrtsIn w a len L := by
  obtain ⟨fuel, hf⟩ := h
  rcases open_slice Tryz.underlying90 hf with ⟨hcs, _⟩ | ⟨x, l, c, m, n, D, Pl, hcs, _, hl, _, hm, _, hi⟩
  · simp [Value.cells] at hcs
    obtain ⟨rfl, rfl, rfl⟩ := hcs
    exact ⟨[], rfl, by simp, fun i x h => by simp at h⟩
  · simp [Value.cells] at hcs
    obtain ⟨rfl, rfl, rfl⟩ := hcs
    have hml : len ≤ m := by rw [hm]; split <;> omega
    have hC : Tryz.prog.cellsOf 89 = 2 := by kernel_rfl
    rw [hC] at hi
    have key : ∀ i, i < len → ∃ y : Wrt, y.Ok ∧ w.cell? (x.add (i * 2 + 0)) = some (.int .i64 y.ad) ∧ w.cell? (x.add (i * 2 + 1)) = some (.int .u64 y.vv) := by
      intro i hil
      obtain ⟨cs', hc, ht⟩ := hi i (by omega)
      obtain ⟨_, hcl, hat⟩ := World.cells?_some hc
      obtain ⟨xs, n', _, _, _, hlen, hfl⟩ := DataW.trod_struct Tryz.underlying89 ht
      match xs, hlen with
      | [y0, y1], _ =>
        have g0 := by simpa using hfl 0 _ rfl
        have g1 := by simpa using hfl 1 _ rfl
        match cs', hcl with
        | [c0, c1], _ =>
          obtain ⟨b0, e0, _, z0⟩ := DataW.trod_int Tryz.underlying3 g0
          have k0 : Tryz.prog.cellsOf 3 = 1 := by kernel_rfl
          simp [k0] at e0
          obtain ⟨b1, e1, _, z1⟩ := DataW.trod_int Tryz.underlying45 g1
          have k1 : Tryz.prog.cellsOf 45 = 1 := by kernel_rfl
          simp [k1] at e1
          subst e0 e1
          refine ⟨⟨b0, b1⟩, ⟨z0, z1⟩, ?_, ?_⟩
          · rw [← Go.Deep.add_add]; exact hat 0 (by omega)
          · rw [← Go.Deep.add_add]; exact hat 1 (by omega)
    obtain ⟨L, hL, hLi⟩ := Wrt_list _ len key
    refine ⟨L, hL, ?_, ?_⟩
    · intro y hy
      obtain ⟨i, hi⟩ := List.getElem?_of_mem hy
      exact (hLi i y hi).1
    · intro i y hiy
      obtain ⟨_, h0, h1⟩ := hLi i y hiy
      obtain ⟨b, o, sp⟩ := x
      have hil : i < len := by
        have := (List.getElem?_eq_some_iff.1 hiy).1
        omega
      have hsp : sp = none := by
        obtain ⟨_, _, k0, _⟩ := key 0 (by omega)
        have := World.cell?_spot k0
        simpa [Addr.add] using this
      subst hsp
      refine ⟨b, o, rfl, ?_, ?_⟩
      · rw [Addr.add_lit] at h0; simpa [Nat.add_assoc] using h0
      · rw [Addr.add_lit] at h1; simpa [Nat.add_assoc] using h1
end Go.Proofs.YtkalglcbmfhdfaaGreat
end
section
/- '[]grommetlaw24.Area', opened: one of its fields is a slice of writes. -/
-- OPTIONAL
namespace Go.Proofs.YtkalglcbmfhdfaaGreat
open Go.RowKit Go.Grommet Go.Deep

structure Ara where
  w : Int
  pa : Option Addr
  pl : Nat
  pc : Nat
  ps : List Wrt
  m : Int
  s : Int
  n : Bool

structure Ara.Ok (x : Ara) : Prop where
  w : (Lit.int .u8 x.w).wf = true
  m : (Lit.int .u64 x.m).wf = true
  s : (Lit.int .u64 x.s).wf = true
  cap : x.pl ≤ x.pc

def ArasIn (w : World) (a : Option Addr) (len : Nat) (L : List Ara) : Prop :=
  L.length = len ∧ (∀ x ∈ L, x.Ok) ∧ ∀ i x, L[i]? = some x → (∃ g o, a = some ⟨g, o, none⟩ ∧ w.cell? ⟨g, o + i * 5, none⟩ = some (.int .u8 x.w) ∧ w.cell? ⟨g, o + i * 5 + 1, none⟩ = some (.slice x.pa x.pl x.pc) ∧ w.cell? ⟨g, o + i * 5 + 2, none⟩ = some (.int .u64 x.m) ∧ w.cell? ⟨g, o + i * 5 + 3, none⟩ = some (.int .u64 x.s) ∧ w.cell? ⟨g, o + i * 5 + 4, none⟩ = some (.bool x.n)) ∧ WrtsIn w x.pa x.pl x.ps
theorem ArasIn.grown {w w' : World} {a : Option Addr} {len : Nat} {L : List Ara} (h : ArasIn w a len L) (hg : w.grownBy w' none) : ArasIn w' a len L := by
  refine ⟨h.1, h.2.1, fun i x hx => ?_⟩
  obtain ⟨⟨g, o, ha, h0, h1, h2, h3, h5⟩, h4⟩ := h.2.2 i x hx
  exact ⟨⟨g, o, ha, hg.cell h0 (by simp), hg.cell h1 (by simp), hg.cell h2 (by simp), hg.cell h3 (by simp), hg.cell h5 (by simp)⟩, h4.grown hg⟩

set_option maxRecDepth 100000 in
theorem open_Aras {H : Type} {enc : TypeId × Value → H} {w : World} {spare : Nat → Bool} {held : Bool} {a : Option Addr} {len cap : Nat} {d : DataW H} {p : List MemPlace}
    (h : DataW.Trod enc Tryz.prog w 0 spare held 25 (.slice a len cap) d p) : ∃ L, ArasIn w a len L := by
  obtain ⟨fuel, hf⟩ := h
  rcases open_slice Tryz.underlying25 hf with ⟨hcs, _⟩ | ⟨x, l, c, m, n, D, Pl, hcs, _, hl, _, hm, _, hi⟩
  · simp [Value.cells] at hcs
    obtain ⟨rfl, rfl, rfl⟩ := hcs
    exact ⟨[], rfl, by simp, fun i x h => by simp at h⟩
  · simp [Value.cells] at hcs
    obtain ⟨rfl, rfl, rfl⟩ := hcs
    have hml : len ≤ m := by rw [hm]; split <;> omega
    have hC : Tryz.prog.cellsOf 114 = 5 := by kernel_rfl
    rw [hC] at hi
    have key : ∀ i, i < len → ∃ y : Ara, y.Ok ∧ (w.cell? (x.add (i * 5 + 0)) = some (.int .u8 y.w) ∧ w.cell? (x.add (i * 5 + 1)) = some (.slice y.pa y.pl y.pc) ∧ w.cell? (x.add (i * 5 + 2)) = some (.int .u64 y.m) ∧ w.cell? (x.add (i * 5 + 3)) = some (.int .u64 y.s) ∧ w.cell? (x.add (i * 5 + 4)) = some (.bool y.n)) ∧ WrtsIn w y.pa y.pl y.ps := by
      intro i hil
      obtain ⟨cs', hc, ht⟩ := hi i (by omega)
      obtain ⟨_, hcl, hat⟩ := World.cells?_some hc
      obtain ⟨xs, n', _, _, _, hlen, hfl⟩ := DataW.trod_struct Tryz.underlying114 ht
      match xs, hlen with
      | [y0, y1, y2, y3, y4], _ =>
        have g0 := by simpa using hfl 0 _ rfl
        have g1 := by simpa using hfl 1 _ rfl
        have g2 := by simpa using hfl 2 _ rfl
        have g3 := by simpa using hfl 3 _ rfl
        have g4 := by simpa using hfl 4 _ rfl
        match cs', hcl with
        | [c0, c1, c2, c3, c4], _ =>
          obtain ⟨b0, e0, _, z0⟩ := DataW.trod_int Tryz.underlying5 g0
          have k0 : Tryz.prog.cellsOf 5 = 1 := by kernel_rfl
          simp [k0] at e0
          obtain ⟨b2, e2, _, z2⟩ := DataW.trod_int Tryz.underlying45 g2
          have k2 : Tryz.prog.cellsOf 45 = 1 := by kernel_rfl
          simp [k2] at e2
          obtain ⟨b3, e3, _, z3⟩ := DataW.trod_int Tryz.underlying45 g3
          simp [k2] at e3
          obtain ⟨b4, e4, _⟩ := DataW.trod_bool Tryz.underlying4 g4
          have k4 : Tryz.prog.cellsOf 4 = 1 := by kernel_rfl
          simp [k4] at e4
          have k1 : Tryz.prog.cellsOf 90 = 1 := by kernel_rfl
          have h0 := hat 0 (by omega)
          have h1 := hat 1 (by omega)
          have h2 := hat 2 (by omega)
          have h3 := hat 3 (by omega)
          have h4 := hat 4 (by omega)
          subst e0 e2 e3 e4
          rcases open_slice Tryz.underlying90 g1 with ⟨hcs, _⟩ | ⟨x3, l3, cp3, _, _, _, _, hcs, _, hl3, _⟩
          · simp [k1] at hcs
            subst hcs
            exact ⟨⟨b0, none, 0, 0, [], b2, b3, b4⟩, ⟨z0, z2, z3, Nat.le_refl _⟩, ⟨by rw [← Go.Deep.add_add]; exact h0, by rw [← Go.Deep.add_add]; exact h1, by rw [← Go.Deep.add_add]; exact h2, by rw [← Go.Deep.add_add]; exact h3, by rw [← Go.Deep.add_add]; exact h4⟩, rfl, by simp, fun i x h => by simp at h⟩
          · simp [k1] at hcs
            subst hcs
            obtain ⟨ps, hps⟩ := open_Wrts (a := some x3) (len := l3) (cap := cp3) (d := y1.1) (p := y1.2) ⟨_, by simpa [Value.cells, k1] using g1⟩
            exact ⟨⟨b0, some x3, l3, cp3, ps, b2, b3, b4⟩, ⟨z0, z2, z3, hl3⟩, ⟨by rw [← Go.Deep.add_add]; exact h0, by rw [← Go.Deep.add_add]; exact h1, by rw [← Go.Deep.add_add]; exact h2, by rw [← Go.Deep.add_add]; exact h3, by rw [← Go.Deep.add_add]; exact h4⟩, hps⟩
    obtain ⟨L, hL, hLi⟩ := Wrt_list _ len key
    refine ⟨L, hL, ?_, ?_⟩
    · intro y hy
      obtain ⟨i, hi⟩ := List.getElem?_of_mem hy
      exact (hLi i y hi).1
    · intro i y hiy
      obtain ⟨_, ⟨h0, h1, h2, h3, h5⟩, h4⟩ := hLi i y hiy
      obtain ⟨b, o, sp⟩ := x
      have hil : i < len := by
        have := (List.getElem?_eq_some_iff.1 hiy).1
        omega
      have hsp : sp = none := by
        obtain ⟨_, _, ⟨k0, _⟩, _⟩ := key 0 (by omega)
        have := World.cell?_spot k0
        simpa [Addr.add] using this
      subst hsp
      refine ⟨⟨b, o, rfl, ?_, ?_, ?_, ?_, ?_⟩, h4⟩
      · rw [Addr.add_lit] at h0; simpa [Nat.add_assoc] using h0
      · rw [Addr.add_lit] at h1; simpa [Nat.add_assoc] using h1
      · rw [Addr.add_lit] at h2; simpa [Nat.add_assoc] using h2
      · rw [Addr.add_lit] at h3; simpa [Nat.add_assoc] using h3
      · rw [Addr.add_lit] at h5; simpa [Nat.add_assoc] using h5
end Go.Proofs.YtkalglcbmfhdfaaGreat
end
section
/- '[]grommetlaw10.Turn', opened to its cells. -/
namespace Go.Proofs.YtkalglcbmfhdfaaGreat
open Go.RowKit Go.Grommet Go.Deep

structure Tur where
  pl : Int
  ww : Int

def Tur.Ok (x : Tur) : Prop := (Lit.int .u16 x.pl).wf = true ∧ (Lit.int .u64 x.ww).wf = true

/-- Where a slice of such leads there stand these, 2 cells each. -/
def TursIn (w : World) (a : Option Addr) (len : Nat) (L : List Tur) : Prop :=
  L.length = len ∧ (∀ x ∈ L, x.Ok) ∧ ∀ i x, L[i]? = some x → ∃ g o, a = some ⟨g, o, none⟩ ∧ w.cell? ⟨g, o + i * 2, none⟩ = some (.int .u16 x.pl) ∧ w.cell? ⟨g, o + i * 2 + 1, none⟩ = some (.int .u64 x.ww)

set_option maxRecDepth 100000 in
theorem TursIn.grown {w w' : World} {a : Option Addr} {len : Nat} {L : List Tur} (h : TursIn w a len L) (hg : w.grownBy w' none) : TursIn w' a len L := by
  refine ⟨h.1, h.2.1, fun i x hx => ?_⟩
  obtain ⟨g, o, ha, h0, h1⟩ := h.2.2 i x hx
  exact ⟨g, o, ha, hg.cell h0 (by simp), hg.cell h1 (by simp)⟩

set_option maxRecDepth 100000 in
theorem TursIn.at {w : World} {g o len : Nat} {L : List Tur} (h : TursIn w (some ⟨g, o, none⟩) len L) (i : Nat) (x : Tur) (hx : L[i]? = some x) : w.cell? ⟨g, o + i * 2, none⟩ = some (.int .u16 x.pl) ∧ w.cell? ⟨g, o + i * 2 + 1, none⟩ = some (.int .u64 x.ww) := by
  obtain ⟨g', o', ha, h0, h1⟩ := h.2.2 i x hx
  cases ha
  exact ⟨h0, h1⟩

set_option maxRecDepth 100000 in
theorem Tur_list {α : Type} (P : Nat → α → Prop) : ∀ n, (∀ i, i < n → ∃ x, P i x) → ∃ L : List α, L.length = n ∧ ∀ i x, L[i]? = some x → P i x
  | 0, _ => ⟨[], rfl, fun i x h => by simp at h⟩
  | n + 1, h => by
    obtain ⟨L, hl, hL⟩ := Tur_list P n (fun i hi => h i (by omega))
    obtain ⟨y, hy⟩ := h n (by omega)
    refine ⟨L ++ [y], by simp [hl], fun i x hx => ?_⟩
    by_cases hi : i < n
    · rw [List.getElem?_append_left (by omega)] at hx; exact hL i x hx
    · rw [List.getElem?_append_right (by omega)] at hx
      have : i - L.length = 0 := by
        rcases Nat.eq_zero_or_pos (i - L.length) with h0 | h0
        · exact h0
        · rw [List.getElem?_eq_none (by simp; omega)] at hx; cases hx
      rw [this] at hx
      simp at hx
      subst hx
      rwa [show i = n from by omega]

set_option maxRecDepth 100000 in
theorem open_Turs {H : Type} {enc : TypeId × Value → H} {w : World} {spare : Nat → Bool} {held : Bool} {a : Option Addr} {len cap : Nat} {d : DataW H} {p : List MemPlace}
    (h : DataW.Trod enc Tryz.prog w 0 spare held 26 (.slice a len cap) d p) : ∃ L, TursIn w a len L := by
  obtain ⟨fuel, hf⟩ := h
  rcases open_slice Tryz.underlying26 hf with ⟨hcs, _⟩ | ⟨x, l, c, m, n, D, Pl, hcs, _, hl, _, hm, _, hi⟩
  · simp [Value.cells] at hcs
    obtain ⟨rfl, rfl, rfl⟩ := hcs
    exact ⟨[], rfl, by simp, fun i x h => by simp at h⟩
  · simp [Value.cells] at hcs
    obtain ⟨rfl, rfl, rfl⟩ := hcs
    have hml : len ≤ m := by rw [hm]; split <;> omega
    have hC : Tryz.prog.cellsOf 47 = 2 := by kernel_rfl
    rw [hC] at hi
    have key : ∀ i, i < len → ∃ y : Tur, y.Ok ∧ w.cell? (x.add (i * 2 + 0)) = some (.int .u16 y.pl) ∧ w.cell? (x.add (i * 2 + 1)) = some (.int .u64 y.ww) := by
      intro i hil
      obtain ⟨cs', hc, ht⟩ := hi i (by omega)
      obtain ⟨_, hcl, hat⟩ := World.cells?_some hc
      obtain ⟨xs, n', _, _, _, hlen, hfl⟩ := DataW.trod_struct Tryz.underlying47 ht
      match xs, hlen with
      | [y0, y1], _ =>
        have g0 := by simpa using hfl 0 _ rfl
        have g1 := by simpa using hfl 1 _ rfl
        match cs', hcl with
        | [c0, c1], _ =>
          obtain ⟨b0, e0, _, z0⟩ := DataW.trod_int Tryz.underlying24 g0
          have k0 : Tryz.prog.cellsOf 24 = 1 := by kernel_rfl
          simp [k0] at e0
          obtain ⟨b1, e1, _, z1⟩ := DataW.trod_int Tryz.underlying45 g1
          have k1 : Tryz.prog.cellsOf 45 = 1 := by kernel_rfl
          simp [k1] at e1
          subst e0 e1
          refine ⟨⟨b0, b1⟩, ⟨z0, z1⟩, ?_, ?_⟩
          · rw [← Go.Deep.add_add]; exact hat 0 (by omega)
          · rw [← Go.Deep.add_add]; exact hat 1 (by omega)
    obtain ⟨L, hL, hLi⟩ := Tur_list _ len key
    refine ⟨L, hL, ?_, ?_⟩
    · intro y hy
      obtain ⟨i, hi⟩ := List.getElem?_of_mem hy
      exact (hLi i y hi).1
    · intro i y hiy
      obtain ⟨_, h0, h1⟩ := hLi i y hiy
      obtain ⟨b, o, sp⟩ := x
      have hil : i < len := by
        have := (List.getElem?_eq_some_iff.1 hiy).1
        omega
      have hsp : sp = none := by
        obtain ⟨_, _, k0, _⟩ := key 0 (by omega)
        have := World.cell?_spot k0
        simpa [Addr.add] using this
      subst hsp
      refine ⟨b, o, rfl, ?_, ?_⟩
      · rw [Addr.add_lit] at h0; simpa [Nat.add_assoc] using h0
      · rw [Addr.add_lit] at h1; simpa [Nat.add_assoc] using h1
end Go.Proofs.YtkalglcbmfhdfaaGreat
end
