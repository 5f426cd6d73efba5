/- Texts of ours, packed. -/
import Derived.Test.YtpdofdloclmbdaaGreatRows
import Derived.ProofKit
import Derived.SizedLaws
import Derived.Deep.Slices
import Derived.Deep.Strs
import Derived.Test.YtpdofdloclmbdaaGreatPk18
import Derived.Test.YtpdofdloclmbdaaGreatPk20
section
/- '[]grommetlaw09.Step', opened: some of its fields are slices of their own. -/
namespace Go.Proofs.YtpdofdloclmbdaaGreat
open Go.RowKit Go.Grommet Go.Deep Go.Shelf Go.ChangeShapes Go.WideShapes Go.ChangeAt

structure Wst where
  dd : Int
  who : Int
  la : Option Addr
  ll : Nat
  lc : Nat
  ls : List Wrt
  atx : Int
  v : Int
  pka : Option Addr
  pkl : Nat
  pkc : Nat
  pks : List Nat
  many : Int

structure Wst.Ok (x : Wst) : Prop where
  dd : (Lit.int .u8 x.dd).wf = true
  who : (Lit.int .u8 x.who).wf = true
  lcap : x.ll ≤ x.lc ∧ (x.la = none → x.ll = 0 ∧ x.lc = 0)
  atx : (Lit.int .i64 x.atx).wf = true
  v : (Lit.int .u64 x.v).wf = true
  pklen : x.pks.length = x.pkl
  pkcap : x.pkl ≤ x.pkc
  pksmall : ∀ p ∈ x.pks, p < 256
  pknil : x.pka = none → x.pks = []
  many : (Lit.int .u8 x.many).wf = true

def WstsIn (w : World) (a : Option Addr) (len : Nat) (L : List Wst) : Prop :=
  L.length = len ∧ (∀ x ∈ L, x.Ok) ∧ ∀ i x, L[i]? = some x → (∃ g o, a = some ⟨g, o, none⟩ ∧ w.cell? ⟨g, o + i * 7, none⟩ = some (.int .u8 x.dd) ∧ w.cell? ⟨g, o + i * 7 + 1, none⟩ = some (.int .u8 x.who) ∧ w.cell? ⟨g, o + i * 7 + 2, none⟩ = some (.slice x.la x.ll x.lc) ∧ w.cell? ⟨g, o + i * 7 + 3, none⟩ = some (.int .i64 x.atx) ∧ w.cell? ⟨g, o + i * 7 + 4, none⟩ = some (.int .u64 x.v) ∧ w.cell? ⟨g, o + i * 7 + 5, none⟩ = some (.slice x.pka x.pkl x.pkc) ∧ w.cell? ⟨g, o + i * 7 + 6, none⟩ = some (.int .u8 x.many)) ∧ WrtsIn w x.la x.ll x.ls ∧ At w x.pka (x.pks.map u8v)
theorem WstsIn.grown {w w' : World} {a : Option Addr} {len : Nat} {L : List Wst} (h : WstsIn w a len L) (hg : w.grownBy w' none) : WstsIn w' a len L := by
  refine ⟨h.1, h.2.1, fun i x hx => ?_⟩
  obtain ⟨⟨g, o, ha, h0, h1, h2, h3, h4, h5, h6⟩, q0, q1⟩ := h.2.2 i x hx
  exact ⟨⟨g, o, ha, hg.cell h0 (by simp), hg.cell h1 (by simp), hg.cell h2 (by simp), hg.cell h3 (by simp), hg.cell h4 (by simp), hg.cell h5 (by simp), hg.cell h6 (by simp)⟩, q0.grown hg, q1.grown hg (by simp)⟩
theorem Wst_list {α : Type} (P : Nat → α → Prop) : ∀ n, (∀ i, i < n → ∃ x, P i x) → ∃ L : List α, L.length = n ∧ ∀ i x, L[i]? = some x → P i x
  | 0, _ => ⟨[], rfl, fun i x h => by simp at h⟩
  | n + 1, h => by
    obtain ⟨L, hl, hL⟩ := Wst_list P n (fun i hi => h i (by omega))
    obtain ⟨y, hy⟩ := h n (by omega)
    refine ⟨L ++ [y], by simp [hl], fun i x hx => ?_⟩
    by_cases hi : i < n
    · rw [List.getElem?_append_left (by omega)] at hx; exact hL i x hx
    · rw [List.getElem?_append_right (by omega)] at hx
      have : i - L.length = 0 := by
        rcases Nat.eq_zero_or_pos (i - L.length) with h0 | h0
        · exact h0
        · rw [List.getElem?_eq_none (by simp; omega)] at hx; cases hx
      rw [this] at hx
      simp at hx
      subst hx
      rwa [show i = n from by omega]
theorem u8_natA {n : Int} (h : (Lit.int .u8 n).wf = true) : ∃ m : Nat, n = (m : Int) ∧ m < 256 := by
  have b := bounds_u8 h
  obtain ⟨m, rfl⟩ := Int.eq_ofNat_of_zero_le b.1
  exact ⟨m, rfl, by omega⟩
theorem picks_atA {w : World} {x : Addr} {zs : List Int} (len : Nat) (hc : ∀ i, i < zs.length → w.cell? (x.add i) = some (.int .u8 (zs.getD i 0))) (hw : ∀ n ∈ zs, (Lit.int .u8 n).wf = true) (hl : len ≤ zs.length) :
    ∃ ps : List Nat, ps.length = len ∧ (∀ p ∈ ps, p < 256) ∧ At w (some x) (ps.map u8v) := by
  refine ⟨(zs.take len).map Int.toNat, by simp; omega, ?_, ?_⟩
  · intro p hp
    obtain ⟨z, hz, rfl⟩ := List.mem_map.1 hp
    obtain ⟨m, rfl, hm⟩ := u8_natA (hw z (List.mem_of_mem_take hz))
    simpa using hm
  · intro j u hu
    rw [List.getElem?_map, List.getElem?_map, List.getElem?_take] at hu
    by_cases hj : j < len
    · rw [if_pos hj, List.getElem?_eq_getElem (by omega)] at hu
      simp only [Option.map_some, Option.some.injEq] at hu
      obtain ⟨m, hm, _⟩ := u8_natA (hw (zs[j]'(by omega)) (List.getElem_mem _))
      have h1 := hc j (by omega)
      rw [List.getD_eq_getElem?_getD, List.getElem?_eq_getElem (by omega)] at h1
      obtain ⟨b, o, sp⟩ := x
      have hsp : sp = none := by
        have := World.cell?_spot (hc 0 (by omega))
        simpa [Addr.add] using this
      subst hsp
      refine ⟨b, o, rfl, ?_⟩
      rw [Addr.add_lit] at h1
      rw [h1, ← hu]
      unfold u8v
      simp only [Option.getD_some]
      rw [hm]
      simp
    · rw [if_neg hj] at hu; simp at hu

set_option maxRecDepth 100000 in
set_option maxHeartbeats 1000000 in
theorem open_Wsts {H : Type} {enc : TypeId × Value → H} {w : World} {spare : Nat → Bool} {held : Bool} {a : Option Addr} {len cap : Nat} {d : DataW H} {p : List MemPlace}
    (h : DataW.Trod enc Tryz.prog w 0 spare held 22 (.slice a len cap) d p) : ∃ L, WstsIn w a len L := by
  obtain ⟨fuel, hf⟩ := h
  rcases open_slice Tryz.underlying22 hf with ⟨hcs, _⟩ | ⟨x, l, c, m, n, D, Pl, hcs, _, hl, _, hm, _, hi⟩
  · simp [Value.cells] at hcs
    obtain ⟨rfl, rfl, rfl⟩ := hcs
    exact ⟨[], rfl, by simp, fun i x h => by simp at h⟩
  · simp [Value.cells] at hcs
    obtain ⟨rfl, rfl, rfl⟩ := hcs
    have hml : len ≤ m := by rw [hm]; split <;> omega
    have hC : Tryz.prog.cellsOf 47 = 7 := by kernel_rfl
    rw [hC] at hi
    have key : ∀ i, i < len → ∃ y : Wst, y.Ok ∧ (w.cell? (x.add (i * 7 + 0)) = some (.int .u8 y.dd) ∧ w.cell? (x.add (i * 7 + 1)) = some (.int .u8 y.who) ∧ w.cell? (x.add (i * 7 + 2)) = some (.slice y.la y.ll y.lc) ∧ w.cell? (x.add (i * 7 + 3)) = some (.int .i64 y.atx) ∧ w.cell? (x.add (i * 7 + 4)) = some (.int .u64 y.v) ∧ w.cell? (x.add (i * 7 + 5)) = some (.slice y.pka y.pkl y.pkc) ∧ w.cell? (x.add (i * 7 + 6)) = some (.int .u8 y.many)) ∧ WrtsIn w y.la y.ll y.ls ∧ At w y.pka (y.pks.map u8v) := by
      intro i hil
      obtain ⟨cs', hc, ht⟩ := hi i (by omega)
      obtain ⟨_, hcl, hat⟩ := World.cells?_some hc
      obtain ⟨xs, n', _, _, _, hlen, hfl⟩ := DataW.trod_struct Tryz.underlying47 ht
      match xs, hlen with
      | [y0, y1, y2, y3, y4, y5, y6], _ =>
        have g0 := by simpa using hfl 0 _ rfl
        have g1 := by simpa using hfl 1 _ rfl
        have g2 := by simpa using hfl 2 _ rfl
        have g3 := by simpa using hfl 3 _ rfl
        have g4 := by simpa using hfl 4 _ rfl
        have g5 := by simpa using hfl 5 _ rfl
        have g6 := by simpa using hfl 6 _ rfl
        match cs', hcl with
        | [c0, c1, c2, c3, c4, c5, c6], _ =>
          obtain ⟨b0, e0, _, z0⟩ := DataW.trod_int Tryz.underlying5 g0
          have k0 : Tryz.prog.cellsOf 5 = 1 := by kernel_rfl
          simp [k0] at e0
          obtain ⟨b1, e1, _, z1⟩ := DataW.trod_int Tryz.underlying5 g1
          simp [k0] at e1
          obtain ⟨b3, e3, _, z3⟩ := DataW.trod_int Tryz.underlying3 g3
          have k3 : Tryz.prog.cellsOf 3 = 1 := by kernel_rfl
          simp [k3] at e3
          obtain ⟨b4, e4, _, z4⟩ := DataW.trod_int Tryz.underlying44 g4
          have k4 : Tryz.prog.cellsOf 44 = 1 := by kernel_rfl
          simp [k4] at e4
          obtain ⟨b6, e6, _, z6⟩ := DataW.trod_int Tryz.underlying5 g6
          simp [k0] at e6
          have k2 : Tryz.prog.cellsOf 43 = 1 := by kernel_rfl
          have k5 : Tryz.prog.cellsOf 45 = 1 := by kernel_rfl
          have h0 := hat 0 (by omega)
          have h1 := hat 1 (by omega)
          have h2 := hat 2 (by omega)
          have h3 := hat 3 (by omega)
          have h4 := hat 4 (by omega)
          have h5 := hat 5 (by omega)
          have h6 := hat 6 (by omega)
          subst e0 e1 e3 e4 e6
          obtain ⟨p2a, p2l, p2c, p2s, hc2, hp22, hp25⟩ : ∃ pa pl pc, ∃ ps : List Wrt, c2 = .slice pa pl pc ∧ (pl ≤ pc ∧ (pa = none → pl = 0 ∧ pc = 0)) ∧ WrtsIn w pa pl ps := by
            rcases open_slice Tryz.underlying43 g2 with ⟨hcs, _⟩ | ⟨x3, l3, cp3, _, _, _, _, hcs, _, hl3, _⟩
            · simp [k2] at hcs
              subst hcs
              exact ⟨none, 0, 0, [], rfl, ⟨Nat.le_refl _, fun _ => ⟨rfl, rfl⟩⟩, rfl, by simp, fun i x h => by simp at h⟩
            · simp [k2] at hcs
              subst hcs
              obtain ⟨ps, hps⟩ := open_Wrts (a := some x3) (len := l3) (cap := cp3) (d := y2.1) (p := y2.2) ⟨_, by simpa [Value.cells, k2] using g2⟩
              exact ⟨some x3, l3, cp3, ps, rfl, ⟨hl3, fun e => by cases e⟩, hps⟩
          obtain ⟨p5a, p5l, p5c, p5s, hc5, hp51, hp52, hp53, hp54, hp55⟩ : ∃ pa pl pc, ∃ ps : List Nat, c5 = .slice pa pl pc ∧ ps.length = pl ∧ pl ≤ pc ∧ (∀ p ∈ ps, p < 256) ∧ (pa = none → ps = []) ∧ At w pa (ps.map u8v) := by
            rcases open_ints Tryz.underlying45 Tryz.underlying5 (by kernel_rfl) g5 with ⟨hcs, _⟩ | ⟨x3, l3, cp3, zs, hcs, _, hl3, hm3, hz3, hx3, hcell, hwz⟩
            · simp [k5] at hcs
              subst hcs
              exact ⟨none, 0, 0, [], rfl, rfl, Nat.le_refl _, (fun p hp => by cases hp), fun _ => rfl, At.nil _ _⟩
            · simp [k5] at hcs
              subst hcs
              obtain ⟨ps, hp1, hp2, hp3⟩ := picks_atA l3 hcell hwz (by rw [hz3]; split <;> omega)
              exact ⟨some x3, l3, cp3, ps, rfl, hp1, hl3, hp2, (fun e => by cases e), hp3⟩
          subst hc2 hc5
          exact ⟨⟨b0, b1, p2a, p2l, p2c, p2s, b3, b4, p5a, p5l, p5c, p5s, b6⟩, ⟨z0, z1, hp22, z3, z4, hp51, hp52, hp53, hp54, z6⟩, ⟨by rw [← Go.Deep.add_add]; exact h0, by rw [← Go.Deep.add_add]; exact h1, by rw [← Go.Deep.add_add]; exact h2, by rw [← Go.Deep.add_add]; exact h3, by rw [← Go.Deep.add_add]; exact h4, by rw [← Go.Deep.add_add]; exact h5, by rw [← Go.Deep.add_add]; exact h6⟩, hp25, hp55⟩
    obtain ⟨L, hL, hLi⟩ := Wst_list _ len key
    refine ⟨L, hL, ?_, ?_⟩
    · intro y hy
      obtain ⟨i, hi⟩ := List.getElem?_of_mem hy
      exact (hLi i y hi).1
    · intro i y hiy
      obtain ⟨_, ⟨h0, h1, h2, h3, h4, h5, h6⟩, q0, q1⟩ := hLi i y hiy
      obtain ⟨b, o, sp⟩ := x
      have hil : i < len := by
        have := (List.getElem?_eq_some_iff.1 hiy).1
        omega
      have hsp : sp = none := by
        obtain ⟨_, _, ⟨k0, _⟩, _⟩ := key 0 (by omega)
        have := World.cell?_spot k0
        simpa [Addr.add] using this
      subst hsp
      refine ⟨⟨b, o, rfl, ?_, ?_, ?_, ?_, ?_, ?_, ?_⟩, q0, q1⟩
      · rw [Addr.add_lit] at h0; simpa [Nat.add_assoc] using h0
      · rw [Addr.add_lit] at h1; simpa [Nat.add_assoc] using h1
      · rw [Addr.add_lit] at h2; simpa [Nat.add_assoc] using h2
      · rw [Addr.add_lit] at h3; simpa [Nat.add_assoc] using h3
      · rw [Addr.add_lit] at h4; simpa [Nat.add_assoc] using h4
      · rw [Addr.add_lit] at h5; simpa [Nat.add_assoc] using h5
      · rw [Addr.add_lit] at h6; simpa [Nat.add_assoc] using h6
end Go.Proofs.YtpdofdloclmbdaaGreat
end
