/- The document's device among a call's own things; Load, Store, line. -/
import Derived.Test.YtimihchklecabaaRwMath
import Derived.Test.YtimihchklecabaaPmM
-- OPTIONAL
namespace Go.Proofs.Ytimihchklecabaa
open Go.RowKit Go.Grommet Go.Shelf

def rowR (g n : Nat) (rs : List RW) : Pr := rowP 71 6 (.slice (some ⟨g, 0, none⟩) n n) n (flatR rs)
def boxR (d g n : Nat) : Pr := boxP d 64 #[.slice (some ⟨g, 0, none⟩) n n]
structure RD (Ps : List Pr) (kd kr d g n : Nat) (rs : List RW) : Prop where
  box : Ps[kd]? = some (boxR d g n)
  row : Ps[kr]? = some (rowR g n rs)
  ne : kd ≠ kr
  len : rs.length = n
  small : ∀ c ∈ rs, c.Small
  few : n ≤ 65536
theorem RD.set {Ps : List Pr} {kd kr d g n : Nat} {rs rs' : List RW} (h : RD Ps kd kr d g n rs) (hl : rs'.length = n) (hs : ∀ c ∈ rs', c.Small) : RD (Ps.set kr (rowR g n rs')) kd kr d g n rs' :=
  ⟨by rw [List.getElem?_set_ne (fun e => h.ne e.symm)]; exact h.box, List.getElem?_set_self (List.getElem?_eq_some_iff.1 h.row).1, h.ne, hl, hs, h.few⟩
theorem RD.dev {Ps : List Pr} {kd kr d g n : Nat} {rs : List RW} (h : RD Ps kd kr d g n rs) {w0 w : World} (hO : Grommet.Own w0 w Ps) : w.cell? ⟨d, 0, none⟩ = some (.slice (some ⟨g, 0, none⟩) n n) := by
  have := hO.box kd h.box
  simp [World.cell?, this]
theorem RD.cell {Ps : List Pr} {kd kr d g n : Nat} {rs : List RW} (h : RD Ps kd kr d g n rs) {w0 w : World} (hO : Grommet.Own w0 w Ps) {k : Nat} {r : RW} (hr : rs[k]? = some r) (j : Nat) (v : Value) (hv : r.vs[j]? = some v) : w.cell? ⟨g, k * 6 + j, none⟩ = some v ∧ w.frozen? ⟨g, k * 6 + j, none⟩ = false := by
  have hj : j < 6 := (List.getElem?_eq_some_iff.1 hv).1
  obtain ⟨b, he, h1, h2, _⟩ := Own.cell hO kr h.row (k * 6 + j) v (by rw [flatR_get rs k j r hr hj]; exact hv)
  cases he
  exact ⟨h1, h2⟩
theorem RD.get {Ps : List Pr} {kd kr d g n : Nat} {rs : List RW} (h : RD Ps kd kr d g n rs) {w0 w : World} (hO : Grommet.Own w0 w Ps) {k : Nat} {r : RW} (hr : rs[k]? = some r) :
    w.cell? ⟨g, k * 6, none⟩ = some (.int .u64 (r.sure : Int)) ∧ w.cell? ⟨g, k * 6 + 1, none⟩ = some (.int .u64 (r.seen : Int)) ∧ w.cell? ⟨g, k * 6 + 2, none⟩ = some (.bool r.loose) ∧ w.cell? ⟨g, k * 6 + 3, none⟩ = some (.bool r.flushed) ∧ w.cell? ⟨g, k * 6 + 4, none⟩ = some (.int .u64 (r.value : Int)) ∧ w.cell? ⟨g, k * 6 + 5, none⟩ = some (.bool r.again) :=
  ⟨(h.cell hO hr 0 _ rfl).1, (h.cell hO hr 1 _ rfl).1, (h.cell hO hr 2 _ rfl).1, (h.cell hO hr 3 _ rfl).1, (h.cell hO hr 4 _ rfl).1, (h.cell hO hr 5 _ rfl).1⟩
theorem RD.free {Ps : List Pr} {kd kr d g n : Nat} {rs : List RW} (h : RD Ps kd kr d g n rs) {w0 w : World} (hO : Grommet.Own w0 w Ps) {k : Nat} {r : RW} (hr : rs[k]? = some r) :
    w.frozen? ⟨g, k * 6, none⟩ = false ∧ w.frozen? ⟨g, k * 6 + 1, none⟩ = false ∧ w.frozen? ⟨g, k * 6 + 2, none⟩ = false ∧ w.frozen? ⟨g, k * 6 + 3, none⟩ = false ∧ w.frozen? ⟨g, k * 6 + 4, none⟩ = false ∧ w.frozen? ⟨g, k * 6 + 5, none⟩ = false :=
  ⟨(h.cell hO hr 0 _ rfl).2, (h.cell hO hr 1 _ rfl).2, (h.cell hO hr 2 _ rfl).2, (h.cell hO hr 3 _ rfl).2, (h.cell hO hr 4 _ rfl).2, (h.cell hO hr 5 _ rfl).2⟩
theorem RD.apart {Ps : List Pr} {kd kr d g n : Nat} {rs : List RW} (h : RD Ps kd kr d g n rs) {w0 w : World} (hO : Grommet.Own w0 w Ps) (hn : 0 < n) : d ≠ g := by
  intro e
  subst e
  have hb := hO.box kd h.box
  obtain ⟨r, hr⟩ : ∃ r, rs[0]? = some r := ⟨rs[0]'(by rw [h.len]; exact hn), List.getElem?_eq_getElem _⟩
  have := (h.cell hO hr 1 _ rfl).1
  simp [World.cell?, hb] at this
/-- A store into one cell of a word. -/
theorem rput {w0 w : World} {Ps : List Pr} {kr g n : Nat} {rs : List RW} (h : Grommet.Own w0 w Ps) (hk : Ps[kr]? = some (rowR g n rs)) {k : Nat} {c c' : RW} (hc : rs[k]? = some c) (j : Nat) (hj : j < 6) (v : Value) (hv : c.vs.set j v = c'.vs) :
    Grommet.Own w0 (w.setCell ⟨g, k * 6 + j, none⟩ v) (Ps.set kr (rowR g n (rs.set k c'))) := by
  have := Own.store h kr hk (k * 6 + j) v
  rw [flatR_set rs k j c c' v hc hj hv] at this
  exact this
theorem rput2 {w0 w : World} {Ps : List Pr} {kr g n : Nat} {rs : List RW} {k : Nat} {c : RW} (h : Grommet.Own w0 w (Ps.set kr (rowR g n (rs.set k c)))) (hkl : kr < Ps.length) (hl : k < rs.length) {c' : RW} (j : Nat) (hj : j < 6) (v : Value) (hv : c.vs.set j v = c'.vs) :
    Grommet.Own w0 (w.setCell ⟨g, k * 6 + j, none⟩ v) (Ps.set kr (rowR g n (rs.set k c'))) := by
  have := rput h (List.getElem?_set_self hkl) (k := k) (c := c) (c' := c') (by simp [hl]) j hj v hv
  rwa [List.set_set, List.set_set] at this
theorem rputAll {w0 w : World} {Ps : List Pr} {kr g n : Nat} {rs : List RW} (h : Grommet.Own w0 w Ps) (hk : Ps[kr]? = some (rowR g n rs)) {k : Nat} {c : RW} (hc : rs[k]? = some c) (c' : RW) :
    Grommet.Own w0 ((((((w.setCell ⟨g, k * 6, none⟩ (.int .u64 (c'.sure : Int))).setCell ⟨g, k * 6 + 1, none⟩ (.int .u64 (c'.seen : Int))).setCell ⟨g, k * 6 + 2, none⟩ (.bool c'.loose)).setCell ⟨g, k * 6 + 3, none⟩ (.bool c'.flushed)).setCell ⟨g, k * 6 + 4, none⟩ (.int .u64 (c'.value : Int))).setCell ⟨g, k * 6 + 5, none⟩ (.bool c'.again)) (Ps.set kr (rowR g n (rs.set k c'))) := by
  have hkl := (List.getElem?_eq_some_iff.1 hk).1
  have hl := (List.getElem?_eq_some_iff.1 hc).1
  have h0 := rput h hk (c' := { c with sure := c'.sure }) hc 0 (by decide) (.int .u64 (c'.sure : Int)) rfl
  have h1 := rput2 h0 hkl hl (c' := { c with sure := c'.sure, seen := c'.seen }) 1 (by decide) (.int .u64 (c'.seen : Int)) rfl
  have h2 := rput2 h1 hkl hl (c' := { c with sure := c'.sure, seen := c'.seen, loose := c'.loose }) 2 (by decide) (.bool c'.loose) rfl
  have h3 := rput2 h2 hkl hl (c' := { c with sure := c'.sure, seen := c'.seen, loose := c'.loose, flushed := c'.flushed }) 3 (by decide) (.bool c'.flushed) rfl
  have h4 := rput2 h3 hkl hl (c' := { c with sure := c'.sure, seen := c'.seen, loose := c'.loose, flushed := c'.flushed, value := c'.value }) 4 (by decide) (.int .u64 (c'.value : Int)) rfl
  exact rput2 h4 hkl hl (c' := c') 5 (by decide) (.bool c'.again) rfl

set_option maxHeartbeats 1000000 in
theorem RLoad_ok (kd kr d g n : Nat) (rs : List RW) (k : Nat) (r : RW) (hr : rs[k]? = some r) (w0 w : World) (Ps : List Pr) (h : Grommet.Own w0 w Ps) (hD : RD Ps kd kr d g n rs) :
    Calls Try.prog 14 #[ptr d, .int .i64 (k : Int)] w fun e w' => e = .returned (.tuple #[.int .u64 (r.seen : Int), .int .i64 0]) ∧ w' = w := by
  have hkn : k < n := by rw [← hD.len]; exact (List.getElem?_eq_some_iff.1 hr).1
  have c0 := hD.dev h
  obtain ⟨_, f1, _⟩ := hD.get h hr
  have k0 : (0 : Int) ≤ (k : Int) := by omega
  have k1 : (k : Int) < (n : Int) := by omega
  have k2 : ¬ (n : Int) ≤ (k : Int) := by omega
  have k3 : ¬ (k : Int) < 0 := by omega
  generalize r.seen = u at f1
  unfold ptr
  clear h hD hr
  go_enter Try.func14, Try.ntmps14
  go_wp2
  go_ret2
  exact ⟨rfl, rfl⟩
set_option maxHeartbeats 1000000 in
theorem RLoad_no (kd kr d g n : Nat) (rs : List RW) (a : Int) (ha : a < 0 ∨ (n : Int) ≤ a) (w0 w : World) (Ps : List Pr) (h : Grommet.Own w0 w Ps) (hD : RD Ps kd kr d g n rs) :
    Calls Try.prog 14 #[ptr d, .int .i64 a] w fun e w' => e = .returned (.tuple #[.int .u64 0, .int .i64 8]) ∧ w' = w := by
  have c0 := hD.dev h
  unfold ptr
  clear h hD
  by_cases h1 : a < 0
  · clear ha
    go_enter Try.func14, Try.ntmps14
    go_wp2
    go_ret2
    exact ⟨rfl, rfl⟩
  · have h2 : (n : Int) ≤ a := by omega
    clear ha
    go_enter Try.func14, Try.ntmps14
    go_wp2
    go_ret2
    exact ⟨rfl, rfl⟩
set_option maxHeartbeats 1000000 in
theorem RStore_no (kd kr d g n : Nat) (rs : List RW) (a v : Int) (ha : a < 0 ∨ (n : Int) ≤ a) (w0 w : World) (Ps : List Pr) (h : Grommet.Own w0 w Ps) (hD : RD Ps kd kr d g n rs) :
    Calls Try.prog 16 #[ptr d, .int .i64 a, .int .u64 v] w fun e w' => e = .returned (.int .i64 8) ∧ w' = w := by
  have c0 := hD.dev h
  unfold ptr
  clear h hD
  by_cases h1 : a < 0
  · clear ha
    go_enter Try.func16, Try.ntmps16
    go_wp2
    go_ret
    exact ⟨rfl, rfl⟩
  · have h2 : (n : Int) ≤ a := by omega
    clear ha
    go_enter Try.func16, Try.ntmps16
    go_wp2
    go_ret
    exact ⟨rfl, rfl⟩
set_option maxHeartbeats 1000000 in
theorem RStore_ok (kd kr d g n : Nat) (rs : List RW) (k : Nat) (r : RW) (hr : rs[k]? = some r) (v : Nat) (w0 w : World) (Ps : List Pr) (h : Grommet.Own w0 w Ps) (hD : RD Ps kd kr d g n rs) :
    Calls Try.prog 16 #[ptr d, .int .i64 (k : Int), .int .u64 (v : Int)] w fun e w' => e = .returned (.int .i64 0) ∧ Grommet.Own w0 w' (Ps.set kr (rowR g n (rs.modify k (RW.store v)))) := by
  have hkn : k < n := by rw [← hD.len]; exact (List.getElem?_eq_some_iff.1 hr).1
  have hne := hD.apart h (by omega)
  have hne' : g ≠ d := fun e => hne e.symm
  have c0 := hD.dev h
  obtain ⟨f0, f1, f2, f3, f4, f5⟩ := hD.get h hr
  obtain ⟨z0, z1, z2, z3, z4, z5⟩ := hD.free h hr
  have k0 : (0 : Int) ≤ (k : Int) := by omega
  have k1 : (k : Int) < (n : Int) := by omega
  have k2 : ¬ (n : Int) ≤ (k : Int) := by omega
  have k3 : ¬ (k : Int) < 0 := by omega
  have hkl := (List.getElem?_eq_some_iff.1 hD.row).1
  have hl := (List.getElem?_eq_some_iff.1 hr).1
  have hfin : Hid (Grommet.Own w0 (((w.setCell ⟨g, k * 6 + 1, none⟩ (.int .u64 (v : Int))).setCell ⟨g, k * 6 + 2, none⟩ (.bool true)).setCell ⟨g, k * 6 + 5, none⟩ (.bool true)) (Ps.set kr (rowR g n (rs.modify k (RW.store v))))) := Lib.hid (by
    rw [rmodify_set hr]
    have h1 := rput h hD.row (c' := { r with seen := v }) hr 1 (by decide) (.int .u64 (v : Int)) rfl
    have h2 := rput2 h1 hkl hl (c' := { r with seen := v, loose := true }) 2 (by decide) (.bool true) rfl
    exact rput2 h2 hkl hl (c' := RW.store v r) 5 (by decide) (.bool true) rfl)
  unfold ptr
  clear h hD hr hkl hl
  go_enter Try.func16, Try.ntmps16
  go_wp2
  go_ret
  exact ⟨rfl, hfin.out⟩
set_option maxHeartbeats 1000000 in
theorem Rline_any (kd kr d g n : Nat) (rs : List RW) (i : Int) (b : Bool) (hb : decide (0 ≤ i ∧ i < ((n / 8 : Nat) : Int)) = b) (w0 w : World) (Ps : List Pr) (h : Grommet.Own w0 w Ps) (hD : RD Ps kd kr d g n rs) :
    Calls Try.prog 37 #[ptr d, .int .i64 i] w fun e w' => e = .returned (.bool b) ∧ w' = w := by
  have c0 := hD.dev h
  have hf := hD.few
  obtain ⟨q, hq⟩ : ∃ q, n / 8 = q := ⟨_, rfl⟩
  rw [hq] at hb
  have e1 : (n : Int) / 8 = (q : Int) := by omega
  have e2 : Int.tdiv (n : Int) 8 = (q : Int) := by rw [Int.tdiv_eq_ediv_of_nonneg (by omega)]; exact e1
  have wq : IntKind.i64.wrap (q : Int) = (q : Int) := IntWalk.i64_in _ ⟨by omega, by omega⟩
  unfold ptr
  clear h hD hq hf
  by_cases h1 : 0 ≤ i
  · by_cases h2 : i < (q : Int)
    · obtain rfl : true = b := by rw [← hb]; simp [h1, h2]
      clear hb
      go_enter Try.func37, Try.ntmps37
      go_wp2
      go_ret
      exact ⟨rfl, rfl⟩
    · obtain rfl : false = b := by rw [← hb]; simp [h2]
      clear hb
      go_enter Try.func37, Try.ntmps37
      go_wp2
      go_ret
      exact ⟨rfl, rfl⟩
  · obtain rfl : false = b := by rw [← hb]; simp [h1]
    clear hb
    go_enter Try.func37, Try.ntmps37
    go_wp2
    go_ret
    exact ⟨rfl, rfl⟩
end Go.Proofs.Ytimihchklecabaa
