/- '[]grommetlaw10.Step', opened to its cells. -/
import Derived.Test.YtkeghhchbdkaoaaRows
import Derived.Test.YtkeghhchbdkaoaaBase6
import Derived.ProofKit
import Derived.Deep.Slices
import Derived.Deep.Strs
namespace Go.Proofs.Ytkeghhchbdkaoaa
open Go.RowKit Go.Grommet Go.Deep

structure Stp where
  do_ : Int
  i : Int
  kk : Int
  open_ : Bool
  gen : Int
  mark : Int
  seq : Int
  err : Int
  a : Int
  b : Int
  data : ByteArray
  drop_ : Bool

def Stp.Ok (x : Stp) : Prop := (Lit.int .u8 x.do_).wf = true ∧ (Lit.int .i64 x.i).wf = true ∧ (Lit.int .i64 x.kk).wf = true ∧ (Lit.int .u64 x.gen).wf = true ∧ (Lit.int .u64 x.mark).wf = true ∧ (Lit.int .u64 x.seq).wf = true ∧ (Lit.int .i64 x.err).wf = true ∧ (Lit.int .u64 x.a).wf = true ∧ (Lit.int .u64 x.b).wf = true ∧ x.data.size ≤ 9223372036854775807

/-- Where a slice of such leads there stand these, 12 cells each. -/
def StpsIn (w : World) (a : Option Addr) (len : Nat) (L : List Stp) : Prop :=
  L.length = len ∧ (∀ x ∈ L, x.Ok) ∧ ∀ i x, L[i]? = some x → ∃ g o, a = some ⟨g, o, none⟩ ∧ w.cell? ⟨g, o + i * 12, none⟩ = some (.int .u8 x.do_) ∧ w.cell? ⟨g, o + i * 12 + 1, none⟩ = some (.int .i64 x.i) ∧ w.cell? ⟨g, o + i * 12 + 2, none⟩ = some (.int .i64 x.kk) ∧ w.cell? ⟨g, o + i * 12 + 3, none⟩ = some (.bool x.open_) ∧ w.cell? ⟨g, o + i * 12 + 4, none⟩ = some (.int .u64 x.gen) ∧ w.cell? ⟨g, o + i * 12 + 5, none⟩ = some (.int .u64 x.mark) ∧ w.cell? ⟨g, o + i * 12 + 6, none⟩ = some (.int .u64 x.seq) ∧ w.cell? ⟨g, o + i * 12 + 7, none⟩ = some (.int .i64 x.err) ∧ w.cell? ⟨g, o + i * 12 + 8, none⟩ = some (.int .u64 x.a) ∧ w.cell? ⟨g, o + i * 12 + 9, none⟩ = some (.int .u64 x.b) ∧ w.cell? ⟨g, o + i * 12 + 10, none⟩ = some (.string x.data) ∧ w.cell? ⟨g, o + i * 12 + 11, none⟩ = some (.bool x.drop_)

set_option maxRecDepth 100000 in
theorem StpsIn.grown {w w' : World} {a : Option Addr} {len : Nat} {L : List Stp} (h : StpsIn w a len L) (hg : w.grownBy w' none) : StpsIn w' a len L := by
  refine ⟨h.1, h.2.1, fun i x hx => ?_⟩
  obtain ⟨g, o, ha, h0, h1, h2, h3, h4, h5, h6, h7, h8, h9, h10, h11⟩ := h.2.2 i x hx
  exact ⟨g, o, ha, hg.cell h0 (by simp), hg.cell h1 (by simp), hg.cell h2 (by simp), hg.cell h3 (by simp), hg.cell h4 (by simp), hg.cell h5 (by simp), hg.cell h6 (by simp), hg.cell h7 (by simp), hg.cell h8 (by simp), hg.cell h9 (by simp), hg.cell h10 (by simp), hg.cell h11 (by simp)⟩

set_option maxRecDepth 100000 in
theorem StpsIn.at {w : World} {g o len : Nat} {L : List Stp} (h : StpsIn w (some ⟨g, o, none⟩) len L) (i : Nat) (x : Stp) (hx : L[i]? = some x) : w.cell? ⟨g, o + i * 12, none⟩ = some (.int .u8 x.do_) ∧ w.cell? ⟨g, o + i * 12 + 1, none⟩ = some (.int .i64 x.i) ∧ w.cell? ⟨g, o + i * 12 + 2, none⟩ = some (.int .i64 x.kk) ∧ w.cell? ⟨g, o + i * 12 + 3, none⟩ = some (.bool x.open_) ∧ w.cell? ⟨g, o + i * 12 + 4, none⟩ = some (.int .u64 x.gen) ∧ w.cell? ⟨g, o + i * 12 + 5, none⟩ = some (.int .u64 x.mark) ∧ w.cell? ⟨g, o + i * 12 + 6, none⟩ = some (.int .u64 x.seq) ∧ w.cell? ⟨g, o + i * 12 + 7, none⟩ = some (.int .i64 x.err) ∧ w.cell? ⟨g, o + i * 12 + 8, none⟩ = some (.int .u64 x.a) ∧ w.cell? ⟨g, o + i * 12 + 9, none⟩ = some (.int .u64 x.b) ∧ w.cell? ⟨g, o + i * 12 + 10, none⟩ = some (.string x.data) ∧ w.cell? ⟨g, o + i * 12 + 11, none⟩ = some (.bool x.drop_) := by
  obtain ⟨g', o', ha, h0, h1, h2, h3, h4, h5, h6, h7, h8, h9, h10, h11⟩ := h.2.2 i x hx
  cases ha
  exact ⟨h0, h1, h2, h3, h4, h5, h6, h7, h8, h9, h10, h11⟩

set_option maxRecDepth 100000 in
theorem Stp_list {α : Type} (P : Nat → α → Prop) : ∀ n, (∀ i, i < n → ∃ x, P i x) → ∃ L : List α, L.length = n ∧ ∀ i x, L[i]? = some x → P i x
  | 0, _ => ⟨[], rfl, fun i x h => by simp at h⟩
  | n + 1, h => by
    obtain ⟨L, hl, hL⟩ := Stp_list P n (fun i hi => h i (by omega))
    obtain ⟨y, hy⟩ := h n (by omega)
    refine ⟨L ++ [y], by simp [hl], fun i x hx => ?_⟩
    by_cases hi : i < n
    · rw [List.getElem?_append_left (by omega)] at hx; exact hL i x hx
    · rw [List.getElem?_append_right (by omega)] at hx
      have : i - L.length = 0 := by
        rcases Nat.eq_zero_or_pos (i - L.length) with h0 | h0
        · exact h0
        · rw [List.getElem?_eq_none (by simp; omega)] at hx; cases hx
      rw [this] at hx
      simp at hx
      subst hx
      rwa [show i = n from by omega]

set_option maxRecDepth 100000 in
theorem open_Stps {H : Type} {enc : TypeId × Value → H} {w : World} {spare : Nat → Bool} {held : Bool} {a : Option Addr} {len cap : Nat} {d : DataW H} {p : List MemPlace}
    (h : DataW.Trod enc Try.prog w 0 spare held 24 (.slice a len cap) d p) : ∃ L, StpsIn w a len L := by
  obtain ⟨fuel, hf⟩ := h
  rcases open_slice Try.underlying24 hf with ⟨hcs, _⟩ | ⟨x, l, c, m, n, D, Pl, hcs, _, hl, _, hm, _, hi⟩
  · simp [Value.cells] at hcs
    obtain ⟨rfl, rfl, rfl⟩ := hcs
    exact ⟨[], rfl, by simp, fun i x h => by simp at h⟩
  · simp [Value.cells] at hcs
    obtain ⟨rfl, rfl, rfl⟩ := hcs
    have hml : len ≤ m := by rw [hm]; split <;> omega
    have hC : Try.prog.cellsOf 43 = 12 := by kernel_rfl
    rw [hC] at hi
    have key : ∀ i, i < len → ∃ y : Stp, y.Ok ∧ w.cell? (x.add (i * 12 + 0)) = some (.int .u8 y.do_) ∧ w.cell? (x.add (i * 12 + 1)) = some (.int .i64 y.i) ∧ w.cell? (x.add (i * 12 + 2)) = some (.int .i64 y.kk) ∧ w.cell? (x.add (i * 12 + 3)) = some (.bool y.open_) ∧ w.cell? (x.add (i * 12 + 4)) = some (.int .u64 y.gen) ∧ w.cell? (x.add (i * 12 + 5)) = some (.int .u64 y.mark) ∧ w.cell? (x.add (i * 12 + 6)) = some (.int .u64 y.seq) ∧ w.cell? (x.add (i * 12 + 7)) = some (.int .i64 y.err) ∧ w.cell? (x.add (i * 12 + 8)) = some (.int .u64 y.a) ∧ w.cell? (x.add (i * 12 + 9)) = some (.int .u64 y.b) ∧ w.cell? (x.add (i * 12 + 10)) = some (.string y.data) ∧ w.cell? (x.add (i * 12 + 11)) = some (.bool y.drop_) := by
      intro i hil
      obtain ⟨cs', hc, ht⟩ := hi i (by omega)
      obtain ⟨_, hcl, hat⟩ := World.cells?_some hc
      obtain ⟨xs, n', _, _, _, hlen, hfl⟩ := DataW.trod_struct Try.underlying43 ht
      match xs, hlen with
      | [y0, y1, y2, y3, y4, y5, y6], _ =>
        have t0 := by simpa using hfl 0 _ rfl
        have t1 := by simpa using hfl 1 _ rfl
        have t2 := by simpa using hfl 2 _ rfl
        have t3 := by simpa using hfl 3 _ rfl
        have t4 := by simpa using hfl 4 _ rfl
        have t5 := by simpa using hfl 5 _ rfl
        have t6 := by simpa using hfl 6 _ rfl
        match cs', hcl with
        | [c0, c1, c2, c3, c4, c5, c6, c7, c8, c9, c10, c11], _ =>
          have g0 := t0
          have g1 := t1
          have g2 := t2
          have kt3 : Try.prog.cellsOf 38 = 3 := by kernel_rfl
          simp [kt3] at t3
          obtain ⟨xs3, _, _, _, _, hlen3, hfl3⟩ := DataW.trod_struct Try.underlying38 t3
          match xs3, hlen3 with
          | [u0, u1, u2], _ =>
          have g3 := by simpa using hfl3 0 _ rfl
          have g4 := by simpa using hfl3 1 _ rfl
          have g5 := by simpa using hfl3 2 _ rfl
          have g6 := t4
          have kt5 : Try.prog.cellsOf 41 = 4 := by kernel_rfl
          simp [kt5] at t5
          obtain ⟨xs5, _, _, _, _, hlen5, hfl5⟩ := DataW.trod_struct Try.underlying41 t5
          match xs5, hlen5 with
          | [u0, u1, u2, u3], _ =>
          have g7 := by simpa using hfl5 0 _ rfl
          have g8 := by simpa using hfl5 1 _ rfl
          have g9 := by simpa using hfl5 2 _ rfl
          have g10 := by simpa using hfl5 3 _ rfl
          have g11 := t6
          obtain ⟨b0, e0, _, z0⟩ := DataW.trod_int Try.underlying5 g0
          have k0 : Try.prog.cellsOf 5 = 1 := by kernel_rfl
          simp [k0] at e0
          obtain ⟨b1, e1, _, z1⟩ := DataW.trod_int Try.underlying3 g1
          have k1 : Try.prog.cellsOf 3 = 1 := by kernel_rfl
          simp [k1] at e1
          obtain ⟨b2, e2, _, z2⟩ := DataW.trod_int Try.underlying3 g2
          have k2 : Try.prog.cellsOf 3 = 1 := by kernel_rfl
          simp [k2] at e2
          obtain ⟨b3, e3, _⟩ := DataW.trod_bool Try.underlying4 g3
          have k3 : Try.prog.cellsOf 4 = 1 := by kernel_rfl
          simp [k3] at e3
          obtain ⟨b4, e4, _, z4⟩ := DataW.trod_int Try.underlying36 g4
          have k4 : Try.prog.cellsOf 36 = 1 := by kernel_rfl
          simp [k4] at e4
          obtain ⟨b5, e5, _, z5⟩ := DataW.trod_int Try.underlying36 g5
          have k5 : Try.prog.cellsOf 36 = 1 := by kernel_rfl
          simp [k5] at e5
          obtain ⟨b6, e6, _, z6⟩ := DataW.trod_int Try.underlying36 g6
          have k6 : Try.prog.cellsOf 36 = 1 := by kernel_rfl
          simp [k6] at e6
          obtain ⟨b7, e7, _, z7⟩ := DataW.trod_int Try.underlying39 g7
          have k7 : Try.prog.cellsOf 39 = 1 := by kernel_rfl
          simp [k7] at e7
          obtain ⟨b8, e8, _, z8⟩ := DataW.trod_int Try.underlying36 g8
          have k8 : Try.prog.cellsOf 36 = 1 := by kernel_rfl
          simp [k8] at e8
          obtain ⟨b9, e9, _, z9⟩ := DataW.trod_int Try.underlying36 g9
          have k9 : Try.prog.cellsOf 36 = 1 := by kernel_rfl
          simp [k9] at e9
          obtain ⟨b10, e10, _, z10⟩ := DataW.trod_string Try.underlying9 g10
          have k10 : Try.prog.cellsOf 9 = 1 := by kernel_rfl
          simp [k10] at e10
          obtain ⟨b11, e11, _⟩ := DataW.trod_bool Try.underlying4 g11
          have k11 : Try.prog.cellsOf 4 = 1 := by kernel_rfl
          simp [k11] at e11
          subst e0 e1 e2 e3 e4 e5 e6 e7 e8 e9 e10 e11
          refine ⟨⟨b0, b1, b2, b3, b4, b5, b6, b7, b8, b9, b10, b11⟩, ⟨z0, z1, z2, z4, z5, z6, z7, z8, z9, z10⟩, ?_, ?_, ?_, ?_, ?_, ?_, ?_, ?_, ?_, ?_, ?_, ?_⟩
          · rw [← Go.Deep.add_add]; exact hat 0 (by omega)
          · rw [← Go.Deep.add_add]; exact hat 1 (by omega)
          · rw [← Go.Deep.add_add]; exact hat 2 (by omega)
          · rw [← Go.Deep.add_add]; exact hat 3 (by omega)
          · rw [← Go.Deep.add_add]; exact hat 4 (by omega)
          · rw [← Go.Deep.add_add]; exact hat 5 (by omega)
          · rw [← Go.Deep.add_add]; exact hat 6 (by omega)
          · rw [← Go.Deep.add_add]; exact hat 7 (by omega)
          · rw [← Go.Deep.add_add]; exact hat 8 (by omega)
          · rw [← Go.Deep.add_add]; exact hat 9 (by omega)
          · rw [← Go.Deep.add_add]; exact hat 10 (by omega)
          · rw [← Go.Deep.add_add]; exact hat 11 (by omega)
    obtain ⟨L, hL, hLi⟩ := Stp_list _ len key
    refine ⟨L, hL, ?_, ?_⟩
    · intro y hy
      obtain ⟨i, hi⟩ := List.getElem?_of_mem hy
      exact (hLi i y hi).1
    · intro i y hiy
      obtain ⟨_, h0, h1, h2, h3, h4, h5, h6, h7, h8, h9, h10, h11⟩ := hLi i y hiy
      obtain ⟨b, o, sp⟩ := x
      have hil : i < len := by
        have := (List.getElem?_eq_some_iff.1 hiy).1
        omega
      have hsp : sp = none := by
        obtain ⟨_, _, k0, _⟩ := key 0 (by omega)
        have := World.cell?_spot k0
        simpa [Addr.add] using this
      subst hsp
      refine ⟨b, o, rfl, ?_, ?_, ?_, ?_, ?_, ?_, ?_, ?_, ?_, ?_, ?_, ?_⟩
      · rw [Addr.add_lit] at h0; simpa [Nat.add_assoc] using h0
      · rw [Addr.add_lit] at h1; simpa [Nat.add_assoc] using h1
      · rw [Addr.add_lit] at h2; simpa [Nat.add_assoc] using h2
      · rw [Addr.add_lit] at h3; simpa [Nat.add_assoc] using h3
      · rw [Addr.add_lit] at h4; simpa [Nat.add_assoc] using h4
      · rw [Addr.add_lit] at h5; simpa [Nat.add_assoc] using h5
      · rw [Addr.add_lit] at h6; simpa [Nat.add_assoc] using h6
      · rw [Addr.add_lit] at h7; simpa [Nat.add_assoc] using h7
      · rw [Addr.add_lit] at h8; simpa [Nat.add_assoc] using h8
      · rw [Addr.add_lit] at h9; simpa [Nat.add_assoc] using h9
      · rw [Addr.add_lit] at h10; simpa [Nat.add_assoc] using h10
      · rw [Addr.add_lit] at h11; simpa [Nat.add_assoc] using h11
end Go.Proofs.Ytkeghhchbdkaoaa
