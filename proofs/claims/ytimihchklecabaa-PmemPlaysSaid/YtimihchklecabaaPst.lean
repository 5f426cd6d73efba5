/- '[]grommetlaw03.Step', opened: its last field is a slice of its own. -/
import Derived.Test.YtimihchklecabaaRows
import Derived.Test.YtimihchklecabaaPmI
import Derived.ProofKit
import Derived.SizedLaws
import Derived.Deep.Slices
import Derived.Deep.Strs
namespace Go.Proofs.Ytimihchklecabaa
open Go.RowKit Go.Grommet Go.Deep Go.Shelf Go.ChangeShapes Go.WideShapes Go.ChangeAt

structure Pst where
  d : Int
  a : Int
  v : Int
  pa : Option Addr
  pl : Nat
  pc : Nat
  ps : List Nat

structure Pst.Ok (x : Pst) : Prop where
  d : (Lit.int .u8 x.d).wf = true
  a : (Lit.int .i64 x.a).wf = true
  v : (Lit.int .u64 x.v).wf = true
  len : x.ps.length = x.pl
  cap : x.pl ≤ x.pc
  small : ∀ p ∈ x.ps, p < 256
  nil : x.pa = none → x.ps = []

def PstsIn (w : World) (a : Option Addr) (len : Nat) (L : List Pst) : Prop :=
  L.length = len ∧ (∀ x ∈ L, x.Ok) ∧ ∀ i x, L[i]? = some x → (∃ g o, a = some ⟨g, o, none⟩ ∧ w.cell? ⟨g, o + i * 4, none⟩ = some (.int .u8 x.d) ∧ w.cell? ⟨g, o + i * 4 + 1, none⟩ = some (.int .i64 x.a) ∧ w.cell? ⟨g, o + i * 4 + 2, none⟩ = some (.int .u64 x.v) ∧ w.cell? ⟨g, o + i * 4 + 3, none⟩ = some (.slice x.pa x.pl x.pc)) ∧ At w x.pa (x.ps.map u8v)
theorem PstsIn.grown {w w' : World} {a : Option Addr} {len : Nat} {L : List Pst} (h : PstsIn w a len L) (hg : w.grownBy w' none) : PstsIn w' a len L := by
  refine ⟨h.1, h.2.1, fun i x hx => ?_⟩
  obtain ⟨⟨g, o, ha, h0, h1, h2, h3⟩, h4⟩ := h.2.2 i x hx
  exact ⟨⟨g, o, ha, hg.cell h0 (by simp), hg.cell h1 (by simp), hg.cell h2 (by simp), hg.cell h3 (by simp)⟩, h4.grown hg (by simp)⟩
theorem Pst_list {α : Type} (P : Nat → α → Prop) : ∀ n, (∀ i, i < n → ∃ x, P i x) → ∃ L : List α, L.length = n ∧ ∀ i x, L[i]? = some x → P i x
  | 0, _ => ⟨[], rfl, fun i x h => by simp at h⟩
  | n + 1, h => by
    obtain ⟨L, hl, hL⟩ := Pst_list P n (fun i hi => h i (by omega))
    obtain ⟨y, hy⟩ := h n (by omega)
    refine ⟨L ++ [y], by simp [hl], fun i x hx => ?_⟩
    by_cases hi : i < n
    · rw [List.getElem?_append_left (by omega)] at hx; exact hL i x hx
    · rw [List.getElem?_append_right (by omega)] at hx
      have : i - L.length = 0 := by
        rcases Nat.eq_zero_or_pos (i - L.length) with h0 | h0
        · exact h0
        · rw [List.getElem?_eq_none (by simp; omega)] at hx; cases hx
      rw [this] at hx
      simp at hx
      subst hx
      rwa [show i = n from by omega]
theorem u8_nat {n : Int} (h : (Lit.int .u8 n).wf = true) : ∃ m : Nat, n = (m : Int) ∧ m < 256 := by
  have b := bounds_u8 h
  obtain ⟨m, rfl⟩ := Int.eq_ofNat_of_zero_le b.1
  exact ⟨m, rfl, by omega⟩
theorem picks_at {w : World} {x : Addr} {zs : List Int} (len : Nat) (hc : ∀ i, i < zs.length → w.cell? (x.add i) = some (.int .u8 (zs.getD i 0))) (hw : ∀ n ∈ zs, (Lit.int .u8 n).wf = true) (hl : len ≤ zs.length) :
    ∃ ps : List Nat, ps.length = len ∧ (∀ p ∈ ps, p < 256) ∧ At w (some x) (ps.map u8v) := by
  refine ⟨(zs.take len).map Int.toNat, by simp; omega, ?_, ?_⟩
  · intro p hp
    obtain ⟨z, hz, rfl⟩ := List.mem_map.1 hp
    obtain ⟨m, rfl, hm⟩ := u8_nat (hw z (List.mem_of_mem_take hz))
    simpa using hm
  · intro j u hu
    rw [List.getElem?_map, List.getElem?_map, List.getElem?_take] at hu
    by_cases hj : j < len
    · rw [if_pos hj, List.getElem?_eq_getElem (by omega)] at hu
      simp only [Option.map_some, Option.some.injEq] at hu
      obtain ⟨m, hm, _⟩ := u8_nat (hw (zs[j]'(by omega)) (List.getElem_mem _))
      have h1 := hc j (by omega)
      rw [List.getD_eq_getElem?_getD, List.getElem?_eq_getElem (by omega)] at h1
      obtain ⟨b, o, sp⟩ := x
      have hsp : sp = none := by
        have := World.cell?_spot (hc 0 (by omega))
        simpa [Addr.add] using this
      subst hsp
      refine ⟨b, o, rfl, ?_⟩
      rw [Addr.add_lit] at h1
      rw [h1, ← hu]
      unfold u8v
      simp only [Option.getD_some]
      rw [hm]
      simp
    · rw [if_neg hj] at hu; simp at hu

set_option maxRecDepth 100000 in
theorem open_Psts {H : Type} {enc : TypeId × Value → H} {w : World} {spare : Nat → Bool} {held : Bool} {a : Option Addr} {len cap : Nat} {d : DataW H} {p : List MemPlace}
    (h : DataW.Trod enc Try.prog w 0 spare held 22 (.slice a len cap) d p) : ∃ L, PstsIn w a len L := by
  obtain ⟨fuel, hf⟩ := h
  rcases open_slice Try.underlying22 hf with ⟨hcs, _⟩ | ⟨x, l, c, m, n, D, Pl, hcs, _, hl, _, hm, _, hi⟩
  · simp [Value.cells] at hcs
    obtain ⟨rfl, rfl, rfl⟩ := hcs
    exact ⟨[], rfl, by simp, fun i x h => by simp at h⟩
  · simp [Value.cells] at hcs
    obtain ⟨rfl, rfl, rfl⟩ := hcs
    have hml : len ≤ m := by rw [hm]; split <;> omega
    have hC : Try.prog.cellsOf 35 = 4 := by kernel_rfl
    rw [hC] at hi
    have key : ∀ i, i < len → ∃ y : Pst, y.Ok ∧ (w.cell? (x.add (i * 4 + 0)) = some (.int .u8 y.d) ∧ w.cell? (x.add (i * 4 + 1)) = some (.int .i64 y.a) ∧ w.cell? (x.add (i * 4 + 2)) = some (.int .u64 y.v) ∧ w.cell? (x.add (i * 4 + 3)) = some (.slice y.pa y.pl y.pc)) ∧ At w y.pa (y.ps.map u8v) := by
      intro i hil
      obtain ⟨cs', hc, ht⟩ := hi i (by omega)
      obtain ⟨_, hcl, hat⟩ := World.cells?_some hc
      obtain ⟨xs, n', _, _, _, hlen, hfl⟩ := DataW.trod_struct Try.underlying35 ht
      match xs, hlen with
      | [y0, y1, y2, y3], _ =>
        have g0 := by simpa using hfl 0 _ rfl
        have g1 := by simpa using hfl 1 _ rfl
        have g2 := by simpa using hfl 2 _ rfl
        have g3 := by simpa using hfl 3 _ rfl
        match cs', hcl with
        | [c0, c1, c2, c3], _ =>
          obtain ⟨b0, e0, _, z0⟩ := DataW.trod_int Try.underlying5 g0
          have k0 : Try.prog.cellsOf 5 = 1 := by kernel_rfl
          simp [k0] at e0
          obtain ⟨b1, e1, _, z1⟩ := DataW.trod_int Try.underlying3 g1
          have k1 : Try.prog.cellsOf 3 = 1 := by kernel_rfl
          simp [k1] at e1
          obtain ⟨b2, e2, _, z2⟩ := DataW.trod_int Try.underlying32 g2
          have k2 : Try.prog.cellsOf 32 = 1 := by kernel_rfl
          simp [k2] at e2
          have k3 : Try.prog.cellsOf 33 = 1 := by kernel_rfl
          have h0 := hat 0 (by omega)
          have h1 := hat 1 (by omega)
          have h2 := hat 2 (by omega)
          have h3 := hat 3 (by omega)
          subst e0 e1 e2
          rcases open_ints Try.underlying33 Try.underlying5 (by kernel_rfl) g3 with ⟨hcs, _⟩ | ⟨x3, l3, cp3, zs, hcs, _, hl3, hm3, hz3, hx3, hcell, hwz⟩
          · simp [k3] at hcs
            subst hcs
            exact ⟨⟨b0, b1, b2, none, 0, 0, []⟩, ⟨z0, z1, z2, rfl, Nat.le_refl _, (fun p hp => by cases hp), fun _ => rfl⟩, ⟨by rw [← Go.Deep.add_add]; exact h0, by rw [← Go.Deep.add_add]; exact h1, by rw [← Go.Deep.add_add]; exact h2, by rw [← Go.Deep.add_add]; exact h3⟩, At.nil _ _⟩
          · simp [k3] at hcs
            subst hcs
            obtain ⟨ps, hp1, hp2, hp3⟩ := picks_at l3 hcell hwz (by rw [hz3]; split <;> omega)
            exact ⟨⟨b0, b1, b2, some x3, l3, cp3, ps⟩, ⟨z0, z1, z2, hp1, hl3, hp2, fun e => by cases e⟩, ⟨by rw [← Go.Deep.add_add]; exact h0, by rw [← Go.Deep.add_add]; exact h1, by rw [← Go.Deep.add_add]; exact h2, by rw [← Go.Deep.add_add]; exact h3⟩, hp3⟩
    obtain ⟨L, hL, hLi⟩ := Pst_list _ len key
    refine ⟨L, hL, ?_, ?_⟩
    · intro y hy
      obtain ⟨i, hi⟩ := List.getElem?_of_mem hy
      exact (hLi i y hi).1
    · intro i y hiy
      obtain ⟨_, ⟨h0, h1, h2, h3⟩, h4⟩ := hLi i y hiy
      obtain ⟨b, o, sp⟩ := x
      have hil : i < len := by
        have := (List.getElem?_eq_some_iff.1 hiy).1
        omega
      have hsp : sp = none := by
        obtain ⟨_, _, ⟨k0, _⟩, _⟩ := key 0 (by omega)
        have := World.cell?_spot k0
        simpa [Addr.add] using this
      subst hsp
      refine ⟨⟨b, o, rfl, ?_, ?_, ?_, ?_⟩, h4⟩
      · rw [Addr.add_lit] at h0; simpa [Nat.add_assoc] using h0
      · rw [Addr.add_lit] at h1; simpa [Nat.add_assoc] using h1
      · rw [Addr.add_lit] at h2; simpa [Nat.add_assoc] using h2
      · rw [Addr.add_lit] at h3; simpa [Nat.add_assoc] using h3
end Go.Proofs.Ytimihchklecabaa
