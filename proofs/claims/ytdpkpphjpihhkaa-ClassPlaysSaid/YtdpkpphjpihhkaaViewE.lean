/- Package view: do, Flat, Apply. -/
import Derived.Test.YtdpkpphjpihhkaaViewD
-- OPTIONAL
namespace Go.Proofs.Ytdpkpphjpihhkaa
open Go.RowKit Go.Grommet

def DoIs (base : Nat) (v : Value) (n : Nat) (ys : List Nat) (w : World) (e : Ending) (w' : World) : Prop :=
  e = .returned (.tuple #[]) ∧ w'.ownsRow base 36 1 v n (ys.map wv) ∧ w.grownBy w' v.ownBlock

set_option maxRecDepth 100000 in
theorem at_pair {w : World} {bd : Option Addr} {L : List (Nat × Nat)} (h : At w bd (wcells L)) (k : Nat) (hk : k < L.length) :
    ∃ q o, bd = some ⟨q, o, none⟩ ∧ w.cell? ⟨q, o + k * 2, none⟩ = some (.int .i64 ((L.getD k (0, 0)).1 : Int)) ∧ w.cell? ⟨q, o + k * 2 + 1, none⟩ = some (.int .u64 ((L.getD k (0, 0)).2 : Int)) := by
  obtain ⟨q, o, hb, c0⟩ := h (k * 2) _ (wcells_at L k hk).1
  obtain ⟨q', o', hb', c1⟩ := h (k * 2 + 1) _ (wcells_at L k hk).2
  rw [hb] at hb'
  cases hb'
  exact ⟨q, o, hb, c0, by rw [Nat.add_assoc]; exact c1⟩

set_option maxRecDepth 100000 in
theorem take_snocD {α : Type} (L : List α) (k : Nat) (d : α) (h : k < L.length) : L.take (k + 1) = L.take k ++ [L.getD k d] := by
  rw [List.take_succ_eq_append_getElem h]; simp [h]

set_option maxRecDepth 100000 in
theorem map_wv_set (xs : List Nat) (k v : Nat) : (xs.map wv).set k (wv v) = (xs.set k v).map wv := by rw [List.map_set]

set_option maxRecDepth 100000 in
set_option maxHeartbeats 1000000 in
theorem do_any (base : Nat) (ad : Option Addr) (n cap : Nat) (xs : List Nat) (bd : Option Addr) (m c : Nat) (L : List (Nat × Nat)) (w : World)
    (hown : w.ownsRow base 36 1 (.slice ad n cap) n (xs.map wv)) (hn : xs.length = n) (hat : At w bd (wcells L)) (hL : L.length = m) (hm : m ≤ 549755813888) (hok : ∀ p ∈ L, p.1 < n)
    (hne : ∀ a, bd = some a → L ≠ [] → (Value.slice ad n cap).ownBlock ≠ some a.block) :
    Calls Try.prog 52 #[.slice ad n cap, .slice bd m c] w (DoIs base (.slice ad n cap) n (flatV xs L) w) := by
  have HL := Lib.hid hL
  have HN := Lib.hid hn
  clear hL hn
  go_enter Try.func52, Try.ntmps52
  go_wp2_with fail
  go_loopw [8] (fun i wr => ∃ k : Nat, k ≤ m ∧ i = .int .i64 (k : Int) ∧ wr.ownsRow base 36 1 (.slice ad n cap) n ((flatV xs (L.take k)).map wv) ∧ w.grownBy wr (Value.slice ad n cap).ownBlock) (fun i _ => m - (intOf i).toNat)
  case atStart => exact ⟨0, Nat.zero_le _, rfl, hown, World.grownBy.refl _ _⟩
  case round =>
    obtain ⟨k, hk, rfl, hr, hg⟩ := hrel
    by_cases hlt : k < m
    · have hlt' : (k : Int) < (m : Int) := by omega
      have h0 : (0 : Int) ≤ (k : Int) := by omega
      have hkL : k < L.length := by rw [HL.out]; exact hlt
      have hp := hok _ (getD_mem L k (0, 0) hkL)
      have hat' : At wr bd (wcells L) := hat.grown hg (fun a ha hx => fun e => hne a ha (by intro h; rw [h] at hx; exact hx rfl) e.symm)
      obtain ⟨q, o, rfl, v0, v1⟩ := at_pair hat' k hkL
      obtain ⟨b, rfl, c1, cf, hcap, hb⟩ := wd_cell hr (by rw [flatV_length]; exact HN.out) _ hp
      have HS := Lib.hid (take_snocD L k (0, 0) hkL)
      have hlb : b < wr.heap.size := World.block_lt_of_cell? _ _ c1
      generalize (flatV xs (L.take k)).getD (L.getD k (0, 0)).1 0 = U at c1
      have HA := Lib.hid (row_put hr (L.getD k (0, 0)).1 (.int .u64 ((L.getD k (0, 0)).2 : Int)))
      obtain ⟨A, A0⟩ : ∃ A, Hid (A = (L.getD k (0, 0)).1) := ⟨_, Lib.hid rfl⟩
      obtain ⟨V, V0⟩ : ∃ V, Hid (V = (L.getD k (0, 0)).2) := ⟨_, Lib.hid rfl⟩
      rw [← A0.out] at v0 c1 cf hp HA
      rw [← V0.out] at v1 HA
      have hA' : (A : Int) < (n : Int) := by omega
      have hA0 : (0 : Int) ≤ (A : Int) := by omega
      have hRow := Lib.hid hr
      clear hr hat'
      go_wp2
      go_roundw
      case rel =>
        refine ⟨k + 1, by omega, by go_num, ?_, ?_⟩
        · rw [HS.out, flatV_snoc]
          rw [← V0.out, ← A0.out, ← map_wv_set]
          exact HA.out.alloc _
        · exact grown_trans (grown_trans hg (grown_setCell wr ⟨b, A, none⟩ (.int .u64 (V : Int)))) (World.grownBy_alloc _ _ _)
      case measure => simp [intOf]; omega
    · have HR : DoIs base (.slice ad n cap) n (flatV xs L) w (.returned (.tuple #[])) wr := ⟨rfl, by rw [List.take_of_length_le (by rw [HL.out]; omega)] at hr; exact hr, hg⟩
      replace HR := Lib.hid HR
      clear hr
      go_wp2
      go_end0
      exact HR.out
set_option maxRecDepth 100000 in
set_option maxHeartbeats 1000000 in
theorem Flat_any (g : Nat) (F : Nat → Prop) (xs : List Nat) (L : List (Nat × Nat)) (w : World) (h : ViewIs w g F xs L) (base : Nat) (hb : base ≤ w.heap.size) :
    Calls Try.prog 28 #[.pointer (some ⟨g, 0, none⟩)] w (RowOf base (flatV xs L) w) := by
  obtain ⟨ws, wr, mb, h⟩ := h
  obtain ⟨c0, c1, c2⟩ := h.cells
  obtain ⟨ad, cap, rfl, hat, hnil, hlc⟩ := row_slice h.words
  obtain ⟨bd, cap2, rfl, hat2, hnil2, _⟩ := row_slice h.writes
  have hfit := h.fits
  have hfew := h.good.few
  have hold := row_old h.writes
  have hok := h.good.at_
  have HC := Lib.hid (Clone_any w.heap.size ad xs.length cap xs w ⟨rfl, h.small, hat, by omega⟩ hfit hnil (Nat.le_refl _))
  have hob := h.obj
  clear h hat hnil c2 hlc hnil2
  obtain ⟨z, Hz⟩ : ∃ z, Hid (z = xs.length) := ⟨_, Lib.hid rfl⟩
  obtain ⟨m, Hm⟩ : ∃ m, Hid (m = L.length) := ⟨_, Lib.hid rfl⟩
  rw [← Hm.out] at c1 hob hold hfew
  rw [← Hz.out] at c0 HC hob hfit
  go_enter Try.func28, Try.ntmps28
  go_wp2_with fail
  refine HC.out.mono ?_
  rintro e w1 ⟨a1, k1, rfl, hown, hg⟩
  clear HC
  have hob1 := (hg.block g (lt_of_block hob) (by simp)).trans hob
  have d1 : w1.cell? ⟨g, 1, none⟩ = some (.slice bd m cap2) := by simp [World.cell?, hob1]
  have hlen : xs.length = z := Hz.out.symm
  rw [hlen] at hown
  have HD := Lib.hid (do_any w.heap.size a1 z k1 xs bd m cap2 L w1 hown hlen (hat2.grown hg (by simp)) Hm.out.symm (by omega) (fun p hp => by have := hok p hp; omega)
    (fun a ha hx e => by have h1 := (hown.lt _ e).1; have h2 := hold a.block (by rw [ha]; rfl); omega))
  rw [hlen]
  clear hlen hown hob hob1 c0 c1
  go_wp2_with fail
  refine HD.out.mono ?_
  rintro e w2 ⟨rfl, hown2, hg2⟩
  clear HD
  have hlt := hown2.lt
  have HR : RowOf base (flatV xs L) w (.returned (.slice a1 z k1)) w2 :=
    rowOf_mk (by rw [flatV_length]; exact Hz.out) (row_base hown2 (fun i hi => by have := (hlt i hi).1; omega)) (grown_new hg hg2 (fun i hi => (hlt i hi).1))
  replace HR := Lib.hid HR
  clear hown2 hlt hg2 hg hold hok
  go_wp2
  go_ret
  exact HR.out

/-- Writes whose places are any. -/
def icells : List (Int × Nat) → List Value
  | [] => []
  | p :: t => .int .i64 p.1 :: .int .u64 (p.2 : Int) :: icells t
def natL (M : List (Int × Nat)) : List (Nat × Nat) := M.map fun p => (p.1.toNat, p.2)
def okI (n : Nat) (M : List (Int × Nat)) : Bool := M.all fun p => inB p.1 (n : Int)
set_option maxRecDepth 100000 in
theorem icells_at : ∀ (L : List (Int × Nat)) (i : Nat), i < L.length → (icells L)[i * 2]? = some (.int .i64 (L.getD i (0, 0)).1) ∧ (icells L)[i * 2 + 1]? = some (.int .u64 ((L.getD i (0, 0)).2 : Int))
  | [], i, h => by simp at h
  | p :: t, 0, _ => by simp [icells]
  | p :: t, i + 1, h => by
    have := icells_at t i (by simpa using h)
    rw [show (i + 1) * 2 = i * 2 + 1 + 1 from by omega]
    simpa [icells] using this
set_option maxRecDepth 100000 in
theorem icells_nat : ∀ (M : List (Int × Nat)) (n : Nat), okI n M = true → icells M = wcells (natL M)
  | [], n, _ => rfl
  | p :: t, n, h => by
    simp only [okI, List.all_cons, Bool.and_eq_true, inB, decide_eq_true_eq] at h
    have h2 : okI n t = true := by simp only [okI, inB]; exact h.2
    rw [icells, natL, List.map_cons, wcells, icells_nat t n h2]
    have := h.1.1
    simp only [natL]
    rw [Int.toNat_of_nonneg this]
set_option maxRecDepth 100000 in
theorem at_ipair {w : World} {bd : Option Addr} {L : List (Int × Nat)} (h : At w bd (icells L)) (k : Nat) (hk : k < L.length) :
    ∃ q o, bd = some ⟨q, o, none⟩ ∧ w.cell? ⟨q, o + k * 2, none⟩ = some (.int .i64 (L.getD k (0, 0)).1) ∧ w.cell? ⟨q, o + k * 2 + 1, none⟩ = some (.int .u64 ((L.getD k (0, 0)).2 : Int)) := by
  obtain ⟨q, o, hb, c0⟩ := h (k * 2) _ (icells_at L k hk).1
  obtain ⟨q', o', hb', c1⟩ := h (k * 2 + 1) _ (icells_at L k hk).2
  rw [hb] at hb'
  cases hb'
  exact ⟨q, o, hb, c0, by rw [Nat.add_assoc]; exact c1⟩
set_option maxRecDepth 100000 in
theorem okI_of {n : Nat} {M : List (Int × Nat)} (h : ∀ k, k < M.length → inB (M.getD k (0, 0)).1 (n : Int) = true) : okI n M = true := by
  unfold okI
  rw [List.all_eq_true]
  intro p hp
  obtain ⟨k, hk, rfl⟩ := List.getElem_of_mem hp
  have := h k hk
  rwa [List.getD_eq_getElem?_getD, List.getElem?_eq_getElem hk] at this
set_option maxRecDepth 100000 in
theorem okI_at {n : Nat} {M : List (Int × Nat)} (h : okI n M = true) (k : Nat) (hk : k < M.length) : inB (M.getD k (0, 0)).1 (n : Int) = true := by
  unfold okI at h
  rw [List.all_eq_true] at h
  exact h _ (getD_mem M k _ hk)
set_option maxRecDepth 100000 in
theorem natL_length (M : List (Int × Nat)) : (natL M).length = M.length := by simp [natL]
set_option maxRecDepth 100000 in
theorem natL_ok {n : Nat} {M : List (Int × Nat)} (h : okI n M = true) : ∀ p ∈ natL M, p.1 < n := by
  intro p hp
  obtain ⟨q, hq, rfl⟩ := List.mem_map.1 hp
  unfold okI at h
  rw [List.all_eq_true] at h
  have := h q hq
  simp only [inB, Bool.and_eq_true, decide_eq_true_eq] at this
  show q.1.toNat < n
  omega

def ApplyYes (base : Nat) (v : Value) (n : Nat) (ys : List Nat) (w : World) (e : Ending) (w' : World) : Prop :=
  e = .returned (.int .i64 0) ∧ w'.ownsRow base 36 1 v n (ys.map wv) ∧ w.grownBy w' v.ownBlock
def ApplyNo (w : World) (e : Ending) (w' : World) : Prop := e = .returned (.int .i64 8) ∧ w.grownBy w' none

end Go.Proofs.Ytdpkpphjpihhkaa
