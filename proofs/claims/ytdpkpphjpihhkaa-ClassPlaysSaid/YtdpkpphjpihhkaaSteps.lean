/- '[]grommetlaw11.Step', opened to its cells. -/
import Derived.Test.YtdpkpphjpihhkaaRows
import Derived.Test.YtdpkpphjpihhkaaBase6
import Derived.ProofKit
import Derived.Deep.Slices
import Derived.Deep.Strs
namespace Go.Proofs.Ytdpkpphjpihhkaa
open Go.RowKit Go.Grommet Go.Deep

structure Stq where
  do_ : Int
  i : Int
  gen : Int
  n : Int
  err : Int
  a : Int
  b : Int
  data : ByteArray
  drop_ : Bool

def Stq.Ok (x : Stq) : Prop := (Lit.int .u8 x.do_).wf = true ∧ (Lit.int .i64 x.i).wf = true ∧ (Lit.int .u64 x.gen).wf = true ∧ (Lit.int .u64 x.n).wf = true ∧ (Lit.int .i64 x.err).wf = true ∧ (Lit.int .u64 x.a).wf = true ∧ (Lit.int .u64 x.b).wf = true ∧ x.data.size ≤ 9223372036854775807

/-- Where a slice of such leads there stand these, 9 cells each. -/
def StqsIn (w : World) (a : Option Addr) (len : Nat) (L : List Stq) : Prop :=
  L.length = len ∧ (∀ x ∈ L, x.Ok) ∧ ∀ i x, L[i]? = some x → ∃ g o, a = some ⟨g, o, none⟩ ∧ w.cell? ⟨g, o + i * 9, none⟩ = some (.int .u8 x.do_) ∧ w.cell? ⟨g, o + i * 9 + 1, none⟩ = some (.int .i64 x.i) ∧ w.cell? ⟨g, o + i * 9 + 2, none⟩ = some (.int .u64 x.gen) ∧ w.cell? ⟨g, o + i * 9 + 3, none⟩ = some (.int .u64 x.n) ∧ w.cell? ⟨g, o + i * 9 + 4, none⟩ = some (.int .i64 x.err) ∧ w.cell? ⟨g, o + i * 9 + 5, none⟩ = some (.int .u64 x.a) ∧ w.cell? ⟨g, o + i * 9 + 6, none⟩ = some (.int .u64 x.b) ∧ w.cell? ⟨g, o + i * 9 + 7, none⟩ = some (.string x.data) ∧ w.cell? ⟨g, o + i * 9 + 8, none⟩ = some (.bool x.drop_)

set_option maxRecDepth 100000 in
theorem StqsIn.grown {w w' : World} {a : Option Addr} {len : Nat} {L : List Stq} (h : StqsIn w a len L) (hg : w.grownBy w' none) : StqsIn w' a len L := by
  refine ⟨h.1, h.2.1, fun i x hx => ?_⟩
  obtain ⟨g, o, ha, h0, h1, h2, h3, h4, h5, h6, h7, h8⟩ := h.2.2 i x hx
  exact ⟨g, o, ha, hg.cell h0 (by simp), hg.cell h1 (by simp), hg.cell h2 (by simp), hg.cell h3 (by simp), hg.cell h4 (by simp), hg.cell h5 (by simp), hg.cell h6 (by simp), hg.cell h7 (by simp), hg.cell h8 (by simp)⟩

set_option maxRecDepth 100000 in
theorem StqsIn.at {w : World} {g o len : Nat} {L : List Stq} (h : StqsIn w (some ⟨g, o, none⟩) len L) (i : Nat) (x : Stq) (hx : L[i]? = some x) : w.cell? ⟨g, o + i * 9, none⟩ = some (.int .u8 x.do_) ∧ w.cell? ⟨g, o + i * 9 + 1, none⟩ = some (.int .i64 x.i) ∧ w.cell? ⟨g, o + i * 9 + 2, none⟩ = some (.int .u64 x.gen) ∧ w.cell? ⟨g, o + i * 9 + 3, none⟩ = some (.int .u64 x.n) ∧ w.cell? ⟨g, o + i * 9 + 4, none⟩ = some (.int .i64 x.err) ∧ w.cell? ⟨g, o + i * 9 + 5, none⟩ = some (.int .u64 x.a) ∧ w.cell? ⟨g, o + i * 9 + 6, none⟩ = some (.int .u64 x.b) ∧ w.cell? ⟨g, o + i * 9 + 7, none⟩ = some (.string x.data) ∧ w.cell? ⟨g, o + i * 9 + 8, none⟩ = some (.bool x.drop_) := by
  obtain ⟨g', o', ha, h0, h1, h2, h3, h4, h5, h6, h7, h8⟩ := h.2.2 i x hx
  cases ha
  exact ⟨h0, h1, h2, h3, h4, h5, h6, h7, h8⟩

set_option maxRecDepth 100000 in
theorem Stq_list {α : Type} (P : Nat → α → Prop) : ∀ n, (∀ i, i < n → ∃ x, P i x) → ∃ L : List α, L.length = n ∧ ∀ i x, L[i]? = some x → P i x
  | 0, _ => ⟨[], rfl, fun i x h => by simp at h⟩
  | n + 1, h => by
    obtain ⟨L, hl, hL⟩ := Stq_list P n (fun i hi => h i (by omega))
    obtain ⟨y, hy⟩ := h n (by omega)
    refine ⟨L ++ [y], by simp [hl], fun i x hx => ?_⟩
    by_cases hi : i < n
    · rw [List.getElem?_append_left (by omega)] at hx; exact hL i x hx
    · rw [List.getElem?_append_right (by omega)] at hx
      have : i - L.length = 0 := by
        rcases Nat.eq_zero_or_pos (i - L.length) with h0 | h0
        · exact h0
        · rw [List.getElem?_eq_none (by simp; omega)] at hx; cases hx
      rw [this] at hx
      simp at hx
      subst hx
      rwa [show i = n from by omega]

set_option maxRecDepth 100000 in
theorem open_Stqs {H : Type} {enc : TypeId × Value → H} {w : World} {spare : Nat → Bool} {held : Bool} {a : Option Addr} {len cap : Nat} {d : DataW H} {p : List MemPlace}
    (h : DataW.Trod enc Try.prog w 0 spare held 24 (.slice a len cap) d p) : ∃ L, StqsIn w a len L := by
  obtain ⟨fuel, hf⟩ := h
  rcases open_slice Try.underlying24 hf with ⟨hcs, _⟩ | ⟨x, l, c, m, n, D, Pl, hcs, _, hl, _, hm, _, hi⟩
  · simp [Value.cells] at hcs
    obtain ⟨rfl, rfl, rfl⟩ := hcs
    exact ⟨[], rfl, by simp, fun i x h => by simp at h⟩
  · simp [Value.cells] at hcs
    obtain ⟨rfl, rfl, rfl⟩ := hcs
    have hml : len ≤ m := by rw [hm]; split <;> omega
    have hC : Try.prog.cellsOf 41 = 9 := by kernel_rfl
    rw [hC] at hi
    have key : ∀ i, i < len → ∃ y : Stq, y.Ok ∧ w.cell? (x.add (i * 9 + 0)) = some (.int .u8 y.do_) ∧ w.cell? (x.add (i * 9 + 1)) = some (.int .i64 y.i) ∧ w.cell? (x.add (i * 9 + 2)) = some (.int .u64 y.gen) ∧ w.cell? (x.add (i * 9 + 3)) = some (.int .u64 y.n) ∧ w.cell? (x.add (i * 9 + 4)) = some (.int .i64 y.err) ∧ w.cell? (x.add (i * 9 + 5)) = some (.int .u64 y.a) ∧ w.cell? (x.add (i * 9 + 6)) = some (.int .u64 y.b) ∧ w.cell? (x.add (i * 9 + 7)) = some (.string y.data) ∧ w.cell? (x.add (i * 9 + 8)) = some (.bool y.drop_) := by
      intro i hil
      obtain ⟨cs', hc, ht⟩ := hi i (by omega)
      obtain ⟨_, hcl, hat⟩ := World.cells?_some hc
      obtain ⟨xs, n', _, _, _, hlen, hfl⟩ := DataW.trod_struct Try.underlying41 ht
      match xs, hlen with
      | [y0, y1, y2, y3, y4, y5], _ =>
        have t0 := by simpa using hfl 0 _ rfl
        have t1 := by simpa using hfl 1 _ rfl
        have t2 := by simpa using hfl 2 _ rfl
        have t3 := by simpa using hfl 3 _ rfl
        have t4 := by simpa using hfl 4 _ rfl
        have t5 := by simpa using hfl 5 _ rfl
        match cs', hcl with
        | [c0, c1, c2, c3, c4, c5, c6, c7, c8], _ =>
          have g0 := t0
          have g1 := t1
          have g2 := t2
          have g3 := t3
          have kt4 : Try.prog.cellsOf 39 = 4 := by kernel_rfl
          simp [kt4] at t4
          obtain ⟨xs4, _, _, _, _, hlen4, hfl4⟩ := DataW.trod_struct Try.underlying39 t4
          match xs4, hlen4 with
          | [u0, u1, u2, u3], _ =>
          have g4 := by simpa using hfl4 0 _ rfl
          have g5 := by simpa using hfl4 1 _ rfl
          have g6 := by simpa using hfl4 2 _ rfl
          have g7 := by simpa using hfl4 3 _ rfl
          have g8 := t5
          obtain ⟨b0, e0, _, z0⟩ := DataW.trod_int Try.underlying5 g0
          have k0 : Try.prog.cellsOf 5 = 1 := by kernel_rfl
          simp [k0] at e0
          obtain ⟨b1, e1, _, z1⟩ := DataW.trod_int Try.underlying3 g1
          have k1 : Try.prog.cellsOf 3 = 1 := by kernel_rfl
          simp [k1] at e1
          obtain ⟨b2, e2, _, z2⟩ := DataW.trod_int Try.underlying36 g2
          have k2 : Try.prog.cellsOf 36 = 1 := by kernel_rfl
          simp [k2] at e2
          obtain ⟨b3, e3, _, z3⟩ := DataW.trod_int Try.underlying36 g3
          have k3 : Try.prog.cellsOf 36 = 1 := by kernel_rfl
          simp [k3] at e3
          obtain ⟨b4, e4, _, z4⟩ := DataW.trod_int Try.underlying37 g4
          have k4 : Try.prog.cellsOf 37 = 1 := by kernel_rfl
          simp [k4] at e4
          obtain ⟨b5, e5, _, z5⟩ := DataW.trod_int Try.underlying36 g5
          have k5 : Try.prog.cellsOf 36 = 1 := by kernel_rfl
          simp [k5] at e5
          obtain ⟨b6, e6, _, z6⟩ := DataW.trod_int Try.underlying36 g6
          have k6 : Try.prog.cellsOf 36 = 1 := by kernel_rfl
          simp [k6] at e6
          obtain ⟨b7, e7, _, z7⟩ := DataW.trod_string Try.underlying9 g7
          have k7 : Try.prog.cellsOf 9 = 1 := by kernel_rfl
          simp [k7] at e7
          obtain ⟨b8, e8, _⟩ := DataW.trod_bool Try.underlying4 g8
          have k8 : Try.prog.cellsOf 4 = 1 := by kernel_rfl
          simp [k8] at e8
          subst e0 e1 e2 e3 e4 e5 e6 e7 e8
          refine ⟨⟨b0, b1, b2, b3, b4, b5, b6, b7, b8⟩, ⟨z0, z1, z2, z3, z4, z5, z6, z7⟩, ?_, ?_, ?_, ?_, ?_, ?_, ?_, ?_, ?_⟩
          · rw [← Go.Deep.add_add]; exact hat 0 (by omega)
          · rw [← Go.Deep.add_add]; exact hat 1 (by omega)
          · rw [← Go.Deep.add_add]; exact hat 2 (by omega)
          · rw [← Go.Deep.add_add]; exact hat 3 (by omega)
          · rw [← Go.Deep.add_add]; exact hat 4 (by omega)
          · rw [← Go.Deep.add_add]; exact hat 5 (by omega)
          · rw [← Go.Deep.add_add]; exact hat 6 (by omega)
          · rw [← Go.Deep.add_add]; exact hat 7 (by omega)
          · rw [← Go.Deep.add_add]; exact hat 8 (by omega)
    obtain ⟨L, hL, hLi⟩ := Stq_list _ len key
    refine ⟨L, hL, ?_, ?_⟩
    · intro y hy
      obtain ⟨i, hi⟩ := List.getElem?_of_mem hy
      exact (hLi i y hi).1
    · intro i y hiy
      obtain ⟨_, h0, h1, h2, h3, h4, h5, h6, h7, h8⟩ := hLi i y hiy
      obtain ⟨b, o, sp⟩ := x
      have hil : i < len := by
        have := (List.getElem?_eq_some_iff.1 hiy).1
        omega
      have hsp : sp = none := by
        obtain ⟨_, _, k0, _⟩ := key 0 (by omega)
        have := World.cell?_spot k0
        simpa [Addr.add] using this
      subst hsp
      refine ⟨b, o, rfl, ?_, ?_, ?_, ?_, ?_, ?_, ?_, ?_, ?_⟩
      · rw [Addr.add_lit] at h0; simpa [Nat.add_assoc] using h0
      · rw [Addr.add_lit] at h1; simpa [Nat.add_assoc] using h1
      · rw [Addr.add_lit] at h2; simpa [Nat.add_assoc] using h2
      · rw [Addr.add_lit] at h3; simpa [Nat.add_assoc] using h3
      · rw [Addr.add_lit] at h4; simpa [Nat.add_assoc] using h4
      · rw [Addr.add_lit] at h5; simpa [Nat.add_assoc] using h5
      · rw [Addr.add_lit] at h6; simpa [Nat.add_assoc] using h6
      · rw [Addr.add_lit] at h7; simpa [Nat.add_assoc] using h7
      · rw [Addr.add_lit] at h8; simpa [Nat.add_assoc] using h8
end Go.Proofs.Ytdpkpphjpihhkaa
